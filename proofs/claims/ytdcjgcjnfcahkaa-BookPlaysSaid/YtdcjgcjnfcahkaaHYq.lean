/- The program's book and the document's plain one side by side, with blocks that no call on them turns. -/
import Derived.Test.YtdcjgcjnfcahkaaHYo
import Derived.Test.YtdcjgcjnfcahkaaHBr
import Derived.Test.YtdcjgcjnfcahkaaG23
import Derived.Test.YtdcjgcjnfcahkaaG24
import Derived.Test.YtdcjgcjnfcahkaaG22
namespace Go.Proofs.Ytdcjgcjnfcahkaa
open Go.RowKit Go.Shelf
set_option linter.unusedVariables false
set_option linter.unusedSimpArgs false

/-- The plain book's blocks. -/
def BkF (G : Nat) (g : Bool → Nat) (v : Bool → Value) (k : Nat) : Prop := k = G ∨ gsB g k ∨ ∃ b, (v b).ownBlock = some k
structure Pw1 (Pb : PbT) (w : World) (X : Xs) (W : World) (A : Nat → Prop) (B : Nat) (v : Bool → Value) (G H : Nat) (g : Bool → Nat) (S T : Sd) (t : Nat) : Prop where
  pb : Pb W A G S t
  bk : Bk W B H g v T
  ap : ∀ k, BkF H g v k → ¬ A k
  fa : ∀ k, A k → w.heap.size ≤ k
  fb : w.heap.size ≤ B
  bl : Below w.heap.size w W
  xs : X.in W
  xa : ∀ p, p ∈ X → ¬ A p.1 ∧ ¬ BkF H g v p.1
/-- Both. -/
def Pw (Pb : PbT) (w : World) (X : Xs) (W : World) (G H : Nat) (g : Bool → Nat) (S T : Sd) (t : Nat) : Prop := ∃ A B v, Pw1 Pb w X W A B v G H g S T t
section
variable {Pb : PbT} {w W W' : World} {X Y R : Xs} {A A' : Nat → Prop} {B : Nat} {v : Bool → Value} {G H : Nat} {g : Bool → Nat} {S T S' T' : Sd} {t t' : Nat} {p : Px} {td : List Td} {gn : List Int}
theorem Bk.ft (h : Bk W B H g v T) {k : Nat} (hk : BkF H g v k) : B ≤ k ∧ k < W.heap.size := by
  rcases hk with rfl | ⟨b, rfl⟩ | ⟨b, hk⟩
  · exact ⟨h.ge, h.gl⟩
  · exact ⟨(h.ps b).ge, h.gslt b⟩
  · exact ⟨((h.ps b).row hk).1, h.vlt hk⟩
theorem Bk.px (h : Bk W B H g v T) {N : Nat} (pi : p.Is W N td gn) {k : Nat} (hk : BkF H g v k) : ¬ p.own k := by
  rcases hk with rfl | ⟨b, rfl⟩ | ⟨b, hk⟩
  · exact pi.ne h.blk (by decide) (by decide)
  · exact pi.ne (h.ps b).side (by decide) (by decide)
  · obtain ⟨_, cur, e⟩ := (h.ps b).row hk
    exact pi.ne e (by decide) (by decide)
theorem Pw.below (K : BookK Pb) (h : Pw Pb w X W G H g S T t) (q : Below W.heap.size W W') : Pw Pb w X W' G H g S T t := by
  obtain ⟨A, B, v, h⟩ := h
  exact ⟨A, B, v, K.below h.pb q, h.bk.below q, h.ap, h.fa, h.fb, h.bl.trans (q.mono h.bl.size), Xs.below h.xs q, h.xa⟩
theorem Pw.bl (h : Pw Pb w X W G H g S T t) : Below w.heap.size w W := by obtain ⟨A, B, v, h⟩ := h; exact h.bl
theorem Pw.xs (h : Pw Pb w X W G H g S T t) : X.in W := by obtain ⟨A, B, v, h⟩ := h; exact h.xs
theorem Pw.inv (K : BookK Pb) (h : Pw Pb w X W G H g S T t) : InvB S := by obtain ⟨A, B, v, h⟩ := h; exact K.inv h.pb
theorem Pw.more (K : BookK Pb) (h : Pw Pb w X W G H g S T t) (ht : t ≤ t') : Pw Pb w X W G H g S T t' := by
  obtain ⟨A, B, v, h⟩ := h
  exact ⟨A, B, v, K.more h.pb ht, h.bk, h.ap, h.fa, h.fb, h.bl, h.xs, h.xa⟩
theorem Pw.less (h : Pw Pb w X W G H g S T t) (hY : ∀ p, p ∈ Y → p ∈ X) : Pw Pb w Y W G H g S T t := by
  obtain ⟨A, B, v, h⟩ := h
  exact ⟨A, B, v, h.pb, h.bk, h.ap, h.fa, h.fb, h.bl, fun p hp => h.xs p (hY p hp), fun p hp => h.xa p (hY p hp)⟩
theorem Pw.push (K : BookK Pb) (h : Pw Pb w X W G H g S T t) (q : Below W.heap.size W W') (hY : Y.in W') (hn : ∀ p, p ∈ Y → W.heap.size ≤ p.1) : Pw Pb w (Y ++ X) W' G H g S T t := by
  obtain ⟨A, B, v, h⟩ := h
  refine ⟨A, B, v, K.below h.pb q, h.bk.below q, h.ap, h.fa, h.fb, h.bl.trans (q.mono h.bl.size), Xs.app hY (Xs.below h.xs q), fun p hp => ?_⟩
  rcases List.mem_append.1 hp with hp | hp
  · have := hn p hp
    exact ⟨fun c => by have := K.lt h.pb _ c; omega, fun c => by have := (h.bk.ft c).2; omega⟩
  · exact h.xa p hp
theorem Pw1.aft (h : Pw1 Pb w X W A B v G H g S T t) (K : BookK Pb) (h1 : Pb W' A' G S' t') (h2 : Fr A W W') (h3 : ∀ k, A' k → A k ∨ W.heap.size ≤ k) : Pw1 Pb w X W' A' B v G H g S' T t' := by
  refine ⟨h1, h.bk.keep h2 (h.ap _ (.inl rfl)) (fun b => h.ap _ (.inr (.inl ⟨b, rfl⟩))) (fun b k hk => h.ap _ (.inr (.inr ⟨b, hk⟩))), fun k hk ha => ?_, fun k hk => (h3 k hk).elim (h.fa k) fun c => Nat.le_trans h.bl.size c, h.fb, fr_below h.bl h.fa h2, Xs.fr h.xs h2 (fun p hp => (h.xa p hp).1), fun p hp => ⟨fun c => ?_, (h.xa p hp).2⟩⟩
  · rcases h3 k ha with c | c
    · exact h.ap k hk c
    · have := (h.bk.ft hk).2; omega
  · rcases h3 _ c with c | c
    · exact (h.xa p hp).1 c
    · have := (Array.getElem?_eq_some_iff.1 (h.xs p hp)).1; omega
theorem bkf_new {v' : Bool → Value} (k3 : ∀ b k, (v' b).ownBlock = some k → (v b).ownBlock = some k ∨ W.heap.size ≤ k) {k : Nat} (hk : BkF H g v' k) : BkF H g v k ∨ W.heap.size ≤ k := by
  rcases hk with e | e | ⟨b, e⟩
  · exact .inl (.inl e)
  · exact .inl (.inr (.inl e))
  · rcases k3 b k e with c | c
    · exact .inl (.inr (.inr ⟨b, c⟩))
    · exact .inr c
theorem Pw1.bft {v' : Bool → Value} (h : Pw1 Pb w X W A B v G H g S T t) (K : BookK Pb) (k1 : Bk W' B H g v' T') (k2 : Fr (gsB g) W W') (k3 : ∀ b k, (v' b).ownBlock = some k → (v b).ownBlock = some k ∨ W.heap.size ≤ k) : Pw1 Pb w X W' A B v' G H g S T' t := by
  refine ⟨K.keep h.pb k2 (fun k hk c => h.ap k (.inr (.inl c)) hk), k1, fun k hk ha => ?_, h.fa, h.fb, fr_below h.bl (fun k c => Nat.le_trans h.fb (h.bk.ft (.inr (.inl c))).1) k2, Xs.fr h.xs k2 (fun p hp c => (h.xa p hp).2 (.inr (.inl c))), fun p hp => ⟨(h.xa p hp).1, fun c => ?_⟩⟩
  · rcases bkf_new k3 hk with c | c
    · exact h.ap k c ha
    · have := K.lt h.pb k ha; omega
  · rcases bkf_new k3 c with c | c
    · exact (h.xa p hp).2 c
    · have := (Array.getElem?_eq_some_iff.1 (h.xs p hp)).1; omega
section
variable {P : Program} {f : FuncId} {args : Array Value}
theorem Pw.c {R : Ending → Prop} (K : BookK Pb) (h : Pw Pb w X W G H g S T t) (c : ∀ A, Pb W A G S t → Calls P f args W fun e w' => R e ∧ AftB Pb W A G S' t' w') : Calls P f args W fun e w' => R e ∧ Pw Pb w X w' G H g S' T t' := by
  obtain ⟨A, B, v, h⟩ := h
  exact (c A h.pb).mono fun e w' ⟨q, A', h1, h2, h3⟩ => ⟨q, A', B, v, h.aft K h1 h2 h3⟩
theorem Pw.cb {R : Ending → Prop} (K : BookK Pb) (h : Pw Pb w X W G H g S T t) (c : ∀ A, Pb W A G S t → Calls P f args W fun e w' => R e ∧ Below W.heap.size W w') : Calls P f args W fun e w' => R e ∧ Pw Pb w X w' G H g S T t := by
  have h0 := h
  obtain ⟨A, B, v, h⟩ := h
  exact (c A h.pb).mono fun e w' ⟨q, b⟩ => ⟨q, h0.below K b⟩
theorem Pw.d {R : Ending → Prop} (K : BookK Pb) (h : Pw Pb w X W G H g S T t) (c : ∀ B v, Bk W B H g v T → Calls P f args W fun e w' => R e ∧ BkN W B H g v T' w') : Calls P f args W fun e w' => R e ∧ Pw Pb w X w' G H g S T' t := by
  obtain ⟨A, B, v, h⟩ := h
  exact (c B v h.bk).mono fun e w' ⟨q, v', h1, h2, h3⟩ => ⟨q, A, B, v', h.bft K h1 h2 h3⟩
theorem Pw.db {R : Ending → Prop} (K : BookK Pb) (h : Pw Pb w X W G H g S T t) (c : ∀ B v, Bk W B H g v T → Calls P f args W fun e w' => R e ∧ Below W.heap.size W w') : Calls P f args W fun e w' => R e ∧ Pw Pb w X w' G H g S T t := by
  have h0 := h
  obtain ⟨A, B, v, h⟩ := h
  exact (c B v h.bk).mono fun e w' ⟨q, b⟩ => ⟨q, h0.below K b⟩
/-- A call that tells what became of an order: its rows are kept from here on. -/
theorem Pw.pp {E : Px → Ending} {q : Pl} (K : BookK Pb) (h : Pw Pb w X W G H g S T t) (c : ∀ A, Pb W A G S t → Calls P f args W fun e w' => ∃ p : Px, e = E p ∧ PlB Pb W A G S' t' p q w') :
    Calls P f args W fun e w' => ∃ p : Px, e = E p ∧ (p.fi = q.fi ∧ p.lf = q.lf) ∧ p.Is w' W.heap.size q.td q.gn ∧ ∃ R : Xs, (∀ k, p.own k → ∃ o, (k, o) ∈ R) ∧ Pw Pb w (R ++ X) w' G H g S' T t' := by
  obtain ⟨A, B, v, h⟩ := h
  refine (c A h.pb).mono fun e w' ⟨p, q1, q2, A', h1, h2, h3, h4, h5⟩ => ?_
  obtain ⟨R, r1, r2, r3⟩ := px_xs h4
  have k := h.aft K h1 h2 h3
  refine ⟨p, q1, q2, h4, R, r3, A', B, v, k.pb, k.bk, k.ap, k.fa, k.fb, k.bl, Xs.app r1 k.xs, fun x hx => ?_⟩
  rcases List.mem_append.1 hx with hx | hx
  · exact ⟨fun c => h5 _ c (r2 x hx), fun c => k.bk.px h4 c (r2 x hx)⟩
  · exact k.xa x hx
theorem Pw.qq {E : Px → Ending} {q : Pl} (K : BookK Pb) (h : Pw Pb w X W G H g S T t) (c : ∀ B v, Bk W B H g v T → Calls P f args W fun e w' => ∃ p : Px, e = E p ∧ (p.fi = q.fi ∧ p.lf = q.lf) ∧ BkP W B H g v T' p q.td q.gn w') :
    Calls P f args W fun e w' => ∃ p : Px, e = E p ∧ (p.fi = q.fi ∧ p.lf = q.lf) ∧ p.Is w' W.heap.size q.td q.gn ∧ ∃ R : Xs, (∀ k, p.own k → ∃ o, (k, o) ∈ R) ∧ Pw Pb w (R ++ X) w' G H g S T' t := by
  obtain ⟨A, B, v, h⟩ := h
  refine (c B v h.bk).mono fun e w' ⟨p, q1, q2, v', h1, h2, h3, h4⟩ => ?_
  obtain ⟨R, r1, r2, r3⟩ := px_xs h4
  have k := h.bft K h1 h2 h3
  refine ⟨p, q1, q2, h4, R, r3, A, B, v', k.pb, k.bk, k.ap, k.fa, k.fb, k.bl, Xs.app r1 k.xs, fun x hx => ?_⟩
  rcases List.mem_append.1 hx with hx | hx
  · refine ⟨fun c => ?_, fun c => k.bk.px h4 c (r2 x hx)⟩
    have := (h4.lt (r2 x hx)).1
    have := K.lt h.pb _ c
    omega
  · exact k.xa x hx
end
/-- All of an account go. -/
theorem Pw.m {a : Int} (K : BookK Pb) (h : Pw Pb w X W G H g S T t) :
    Calls Try.prog 14 #[.pointer (some ⟨G, 0, none⟩), .int .u32 a] W fun e w' => ∃ u, e = .returned u ∧ EO.Own 31 w' W.heap.size u (massX S a) ∧ ∃ R : Xs, (∀ k, u.ownBlock = some k → ∃ o, (k, o) ∈ R) ∧ Pw Pb w (R ++ X) w' G H g (massS S a) T t := by
  obtain ⟨A, B, v, h⟩ := h
  refine (K.mass h.pb).mono fun e w' ⟨u, q1, q2, A', h1, h2, h3, h5⟩ => ?_
  obtain ⟨R, r1, r2, r3⟩ := row_xs q2
  have k := h.aft K h1 h2 h3
  refine ⟨u, q1, q2, R, r3, A', B, v, k.pb, k.bk, k.ap, k.fa, k.fb, k.bl, Xs.app r1 k.xs, fun x hx => ?_⟩
  rcases List.mem_append.1 hx with hx | hx
  · refine ⟨fun c => h5 _ c (r2 x hx), fun c => ?_⟩
    have := (gown_lt q2 (r2 x hx)).1
    have := (h.bk.ft c).2
    omega
  · exact k.xa x hx
theorem Pw.n {a : Int} (K : BookK Pb) (h : Pw Pb w X W G H g S T t) (iv : ∀ b, InvO b (T b)) (ha : 0 ≤ a ∧ a ≤ 4294967295) :
    Calls Try.prog 37 #[.pointer (some ⟨H, 0, none⟩), .int .u32 a] W fun e w' => ∃ u, e = .returned u ∧ EO.Own 31 w' W.heap.size u (massX T a) ∧ ∃ R : Xs, (∀ k, u.ownBlock = some k → ∃ o, (k, o) ∈ R) ∧ Pw Pb w (R ++ X) w' G H g S (massS T a) t := by
  obtain ⟨A, B, v, h⟩ := h
  refine (bmass_any W h.bk ha).mono fun e w' ⟨u, q1, q2, v', h1, h2, h3, h5⟩ => ?_
  rw [massF_all a iv] at h1
  obtain ⟨R, r1, r2, r3⟩ := row_xs q2
  have k := h.bft K h1 h2 h3
  refine ⟨u, q1, q2, R, r3, A, B, v', k.pb, k.bk, k.ap, k.fa, k.fb, k.bl, Xs.app r1 k.xs, fun x hx => ?_⟩
  rcases List.mem_append.1 hx with hx | hx
  · refine ⟨fun c => ?_, fun c => ?_⟩
    · have := (gown_lt q2 (r2 x hx)).1
      have := K.lt h.pb _ c
      omega
    · obtain ⟨o1, o2⟩ := own_gB k.bk q2 (r2 x hx)
      rcases c with c | ⟨b, c⟩ | ⟨b, c⟩
      · exact o1 c
      · exact o2 b c
      · exact h5 b _ c (r2 x hx)
  · exact k.xa x hx
theorem Pw.ora (K : BookK Pb) (h : Pw Pb w X W G H g S T t) :
    Calls Try.prog 17 #[.pointer (some ⟨G, 0, none⟩)] W fun e w' => ∃ v, e = .returned v ∧ EO.Own 31 w' W.heap.size v S.all ∧ Below W.heap.size W w' := by
  obtain ⟨A, B, v, h⟩ := h
  exact orders7_any K h.pb
theorem Pw.orb (h : Pw Pb w X W G H g S T t) :
    Calls Try.prog 18 #[.pointer (some ⟨H, 0, none⟩)] W fun e w' => ∃ v, e = .returned v ∧ EO.Own 31 w' W.heap.size v T.all ∧ Below W.heap.size W w' := by
  obtain ⟨A, B, v, h⟩ := h
  exact ball_any W h.bk
/-- A copy, and the old one beside it. -/
def Pc (Pb : PbT) (w : World) (X : Xs) (W : World) (G G2 H : Nat) (g : Bool → Nat) (S T : Sd) (t : Nat) : Prop :=
  ∃ A A2 B v, Pw1 Pb w X W A2 B v G2 H g S T t ∧ Pb W A G S t ∧ (∀ k, A k → w.heap.size ≤ k ∧ ¬ A2 k ∧ ¬ BkF H g v k) ∧ ∀ p, p ∈ X → ¬ A p.1
theorem Pw.copy (K : BookK Pb) (h : Pw Pb w X W G H g S T t) :
    Calls Try.prog 13 #[.pointer (some ⟨G, 0, none⟩)] W fun e w' => ∃ G2, e = .returned (.pointer (some ⟨G2, 0, none⟩)) ∧ Pc Pb w X w' G G2 H g S T t := by
  obtain ⟨A, B, v, h⟩ := h
  refine (K.copy h.pb).mono fun e w' ⟨G2, A2, q1, q2, q3, q4⟩ => ⟨G2, q1, A, A2, B, v, ⟨q2, h.bk.below q3, fun k hk c => ?_, fun k hk => Nat.le_trans h.bl.size (q4 k hk), h.fb, h.bl.trans (q3.mono h.bl.size), Xs.below h.xs q3, fun p hp => ⟨fun c => ?_, (h.xa p hp).2⟩⟩, K.below h.pb q3, fun k hk => ⟨h.fa k hk, fun c => ?_, fun c => h.ap k c hk⟩, fun p hp => (h.xa p hp).1⟩
  · have := (h.bk.ft hk).2; have := q4 k c; omega
  · have := q4 _ c; have := (Array.getElem?_eq_some_iff.1 (h.xs p hp)).1; omega
  · have := q4 _ c; have := K.lt h.pb k hk; omega
theorem Pc.spoil {a : Int} {G2 : Nat} (K : BookK Pb) (h : Pc Pb w X W G G2 H g S T t) :
    Calls Try.prog 14 #[.pointer (some ⟨G, 0, none⟩), .int .u32 a] W fun e w' => (∃ u, e = .returned u) ∧ Pw Pb w X w' G2 H g S T t := by
  obtain ⟨A, A2, B, v, h, ho, ha, hx⟩ := h
  refine (K.mass ho).mono fun e w' ⟨u, q1, q2, A', h1, h2, h3, h5⟩ => ⟨⟨u, q1⟩, A2, B, v, K.keep h.pb h2 (fun k hk c => (ha k c).2.1 hk), h.bk.keep h2 (fun c => (ha _ c).2.2 (.inl rfl)) (fun b c => (ha _ c).2.2 (.inr (.inl ⟨b, rfl⟩))) (fun b k hk c => (ha _ c).2.2 (.inr (.inr ⟨b, hk⟩))), h.ap, h.fa, h.fb, fr_below h.bl (fun k c => (ha k c).1) h2, Xs.fr h.xs h2 hx, h.xa⟩
/-- Both begun. -/
theorem pw_new (K : BookK Pb) {w1 w2 : World} (h1 : Pb w1 A G S t) (q1 : Below w.heap.size w w1) (hA : ∀ k, A k → w.heap.size ≤ k) (h2 : Bk w2 w1.heap.size H g v T) (q2 : Below w1.heap.size w1 w2) : Pw Pb w [] w2 G H g S T t :=
  ⟨A, w1.heap.size, v, K.below h1 q2, h2, fun k hk c => by have := (h2.ft hk).1; have := K.lt h1 k c; omega, hA, q1.size, q1.trans (q2.mono q1.size), (fun p hp => by cases hp), fun p hp => by cases hp⟩
end
end Go.Proofs.Ytdcjgcjnfcahkaa
