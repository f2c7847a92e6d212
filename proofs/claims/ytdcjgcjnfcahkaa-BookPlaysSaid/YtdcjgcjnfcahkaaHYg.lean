/- A book, or two, of the call's own, with blocks that no call on them turns. -/
import Derived.Test.YtdcjgcjnfcahkaaG24
import Derived.Test.YtdcjgcjnfcahkaaHYd
namespace Go.Proofs.Ytdcjgcjnfcahkaa
open Go.RowKit Go.Shelf
set_option linter.unusedVariables false

abbrev Xs := List (Nat × Obj)
def Xs.in (X : Xs) (W : World) : Prop := ∀ p, p ∈ X → W.heap[p.1]? = some p.2
structure On1 (Pb : PbT) (w : World) (X : Xs) (W : World) (A : Nat → Prop) (G : Nat) (S : Sd) (t : Nat) : Prop where
  pb : Pb W A G S t
  fp : ∀ k, A k → w.heap.size ≤ k
  bl : Below w.heap.size w W
  xs : X.in W
  xa : ∀ p, p ∈ X → ¬ A p.1
/-- One book. -/
def On (Pb : PbT) (w : World) (X : Xs) (W : World) (G : Nat) (S : Sd) (t : Nat) : Prop := ∃ A, On1 Pb w X W A G S t
structure Tw1 (Pb : PbT) (w : World) (X : Xs) (W : World) (A B : Nat → Prop) (G H : Nat) (S T : Sd) (t u : Nat) : Prop where
  a : Pb W A G S t
  b : Pb W B H T u
  ap : ∀ k, A k → ¬ B k
  fa : ∀ k, A k → w.heap.size ≤ k
  fb : ∀ k, B k → w.heap.size ≤ k
  bl : Below w.heap.size w W
  xs : X.in W
  xa : ∀ p, p ∈ X → ¬ A p.1 ∧ ¬ B p.1
/-- Two books. -/
def Tw (Pb : PbT) (w : World) (X : Xs) (W : World) (G H : Nat) (S T : Sd) (t u : Nat) : Prop := ∃ A B, Tw1 Pb w X W A B G H S T t u
theorem Xs.below {X : Xs} {W W' : World} (h : X.in W) (q : Below W.heap.size W W') : X.in W' := fun p hp => (q.block _ (Array.getElem?_eq_some_iff.1 (h p hp)).1).trans (h p hp)
theorem Xs.fr {X : Xs} {Q : Nat → Prop} {W W' : World} (h : X.in W) (f : Fr Q W W') (hq : ∀ p, p ∈ X → ¬ Q p.1) : X.in W' := fun p hp => (f.at' _ (Array.getElem?_eq_some_iff.1 (h p hp)).1 (hq p hp)).trans (h p hp)
theorem Xs.cons {X : Xs} {W : World} {b : Nat} {o : Obj} (h : X.in W) (e : W.heap[b]? = some o) : Xs.in ((b, o) :: X) W := fun p hp => by
  rcases List.mem_cons.1 hp with rfl | hp
  · exact e
  · exact h p hp
theorem Xs.same {X : Xs} {W W' : World} (h : X.in W) (h' : X.in W') {k : Nat} (hk : ∃ o, (k, o) ∈ X) : W'.heap[k]? = W.heap[k]? := by
  obtain ⟨o, ho⟩ := hk
  exact (h' _ ho).trans (h _ ho).symm
theorem Xs.app {X Y : Xs} {W : World} (h : X.in W) (h' : Y.in W) : Xs.in (X ++ Y) W := fun p hp => (List.mem_append.1 hp).elim (h p) (h' p)
/-- The row of a value, as a block to be kept. -/
theorem row_xs {α : Type} {E : Elt α} {te : TypeId} {W : World} {B : Nat} {v : Value} {l : List α} (h : E.Own te W B v l) : ∃ R : Xs, R.in W ∧ (∀ p, p ∈ R → v.ownBlock = some p.1) ∧ ∀ k, v.ownBlock = some k → ∃ o, (k, o) ∈ R := by
  cases hv : v.ownBlock with
  | none => exact ⟨[], (fun p hp => by cases hp), (fun p hp => by cases hp), fun k e => by cases e⟩
  | some j =>
    obtain ⟨cur, e⟩ := gown_cells h hv
    refine ⟨[(j, .cells cur te (0, 0))], (fun p hp => ?_), (fun p hp => ?_), fun k hk => ?_⟩
    · rw [List.mem_singleton.1 hp]; exact e
    · rw [List.mem_singleton.1 hp]
    · cases hk; exact ⟨_, List.mem_singleton.2 rfl⟩
theorem px_xs {W : World} {B : Nat} {p : Px} {td : List Td} {gn : List Int} (h : p.Is W B td gn) : ∃ R : Xs, R.in W ∧ (∀ q, q ∈ R → p.own q.1) ∧ ∀ k, p.own k → ∃ o, (k, o) ∈ R := by
  obtain ⟨R1, a1, a2, a3⟩ := row_xs h.to
  obtain ⟨R2, b1, b2, b3⟩ := row_xs h.no
  refine ⟨R1 ++ R2, Xs.app a1 b1, fun q hq => ?_, fun k hk => ?_⟩
  · rcases List.mem_append.1 hq with hq | hq
    · exact .inl (a2 q hq)
    · exact .inr (b2 q hq)
  · rcases hk with hk | hk
    · obtain ⟨o, ho⟩ := a3 k hk; exact ⟨o, List.mem_append_left _ ho⟩
    · obtain ⟨o, ho⟩ := b3 k hk; exact ⟨o, List.mem_append_right _ ho⟩
theorem Px.Is.at {W W' : World} {B : Nat} {p : Px} {td : List Td} {gn : List Int} {X : Xs} (h : p.Is W B td gn) (hr : ∀ k, p.own k → ∃ o, (k, o) ∈ X) (h1 : X.in W) (h2 : X.in W') : p.Is W' B td gn :=
  ⟨gown_same h.to fun k hk => Xs.same h1 h2 (hr k (.inl hk)), gown_same h.no fun k hk => Xs.same h1 h2 (hr k (.inr hk))⟩
section
variable {Pb : PbT} {w W W' : World} {X Y : Xs} {A B : Nat → Prop} {G H : Nat} {S T S' T' : Sd} {t u t' u' : Nat}
theorem On.below (K : BookK Pb) (h : On Pb w X W G S t) (q : Below W.heap.size W W') : On Pb w X W' G S t := by
  obtain ⟨A, h⟩ := h
  exact ⟨A, K.below h.pb q, h.fp, h.bl.trans (q.mono h.bl.size), Xs.below h.xs q, h.xa⟩
theorem On.bl (h : On Pb w X W G S t) : Below w.heap.size w W := by obtain ⟨A, h⟩ := h; exact h.bl
theorem On.xs (h : On Pb w X W G S t) : X.in W := by obtain ⟨A, h⟩ := h; exact h.xs
theorem On.inv (K : BookK Pb) (h : On Pb w X W G S t) : InvB S := by obtain ⟨A, h⟩ := h; exact K.inv h.pb
theorem On.more (K : BookK Pb) (h : On Pb w X W G S t) (ht : t ≤ t') : On Pb w X W G S t' := by
  obtain ⟨A, h⟩ := h
  exact ⟨A, K.more h.pb ht, h.fp, h.bl, h.xs, h.xa⟩
theorem On.less (h : On Pb w X W G S t) (hY : ∀ p, p ∈ Y → p ∈ X) : On Pb w Y W G S t := by
  obtain ⟨A, h⟩ := h
  exact ⟨A, h.pb, h.fp, h.bl, fun p hp => h.xs p (hY p hp), fun p hp => h.xa p (hY p hp)⟩
/-- New blocks, kept from here on. -/
theorem On.push (K : BookK Pb) (h : On Pb w X W G S t) (q : Below W.heap.size W W') (hY : Y.in W') (hn : ∀ p, p ∈ Y → W.heap.size ≤ p.1) : On Pb w (Y ++ X) W' G S t := by
  obtain ⟨A, h⟩ := h
  refine ⟨A, K.below h.pb q, h.fp, h.bl.trans (q.mono h.bl.size), Xs.app hY (Xs.below h.xs q), fun p hp => ?_⟩
  rcases List.mem_append.1 hp with hp | hp
  · intro c; have := K.lt h.pb _ c; have := hn p hp; omega
  · exact h.xa p hp
theorem on_of (h : Cw Pb w W G S t) : On Pb w [] W G S t := by
  obtain ⟨A, h1, h2, h3⟩ := h
  exact ⟨A, h1, h3, h2, (fun p hp => by cases hp), fun p hp => by cases hp⟩
theorem On1.aft (h : On1 Pb w X W A G S t) (K : BookK Pb) {A' : Nat → Prop} (h1 : Pb W' A' G S' t') (h2 : Fr A W W') (h3 : ∀ k, A' k → A k ∨ W.heap.size ≤ k) : On1 Pb w X W' A' G S' t' := by
  refine ⟨h1, fun k hk => (h3 k hk).elim (h.fp k) fun c => Nat.le_trans h.bl.size c, fr_below h.bl h.fp h2, Xs.fr h.xs h2 h.xa, fun p hp c => ?_⟩
  rcases h3 _ c with c | c
  · exact h.xa p hp c
  · have := (Array.getElem?_eq_some_iff.1 (h.xs p hp)).1; omega
section
variable {P : Program} {f : FuncId} {args : Array Value}
theorem On.c {R : Ending → Prop} (K : BookK Pb) (h : On Pb w X W G S t) (c : ∀ A, Pb W A G S t → Calls P f args W fun e w' => R e ∧ AftB Pb W A G S' t' w') : Calls P f args W fun e w' => R e ∧ On Pb w X w' G S' t' := by
  obtain ⟨A, h⟩ := h
  exact (c A h.pb).mono fun e w' ⟨q, A', h1, h2, h3⟩ => ⟨q, A', h.aft K h1 h2 h3⟩
theorem On.cb {R : Ending → Prop} (K : BookK Pb) (h : On Pb w X W G S t) (c : ∀ A, Pb W A G S t → Calls P f args W fun e w' => R e ∧ Below W.heap.size W w') : Calls P f args W fun e w' => R e ∧ On Pb w X w' G S t := by
  have h0 := h
  obtain ⟨A, h⟩ := h
  exact (c A h.pb).mono fun e w' ⟨q, b⟩ => ⟨q, h0.below K b⟩
/-- A call that tells what became of an order: its rows are kept from here on. -/
theorem On.p {E : Px → Ending} {q : Pl} (K : BookK Pb) (h : On Pb w X W G S t) (c : ∀ A, Pb W A G S t → Calls P f args W fun e w' => ∃ p : Px, e = E p ∧ PlB Pb W A G S' t' p q w') :
    Calls P f args W fun e w' => ∃ p : Px, e = E p ∧ (p.fi = q.fi ∧ p.lf = q.lf) ∧ p.Is w' W.heap.size q.td q.gn ∧ ∃ R : Xs, (∀ k, p.own k → ∃ o, (k, o) ∈ R) ∧ On Pb w (R ++ X) w' G S' t' := by
  obtain ⟨A, h⟩ := h
  refine (c A h.pb).mono fun e w' ⟨p, q1, q2, A', h1, h2, h3, h4, h5⟩ => ?_
  obtain ⟨R, r1, r2, r3⟩ := px_xs h4
  have k := h.aft K h1 h2 h3
  refine ⟨p, q1, q2, h4, R, r3, A', k.pb, k.fp, k.bl, Xs.app r1 k.xs, fun x hx => ?_⟩
  rcases List.mem_append.1 hx with hx | hx
  · exact fun c => h5 _ c (r2 x hx)
  · exact k.xa x hx
end
theorem Tw.swap (h : Tw Pb w X W G H S T t u) : Tw Pb w X W H G T S u t := by
  obtain ⟨A, B, h⟩ := h
  exact ⟨B, A, h.b, h.a, fun k b a => h.ap k a b, h.fb, h.fa, h.bl, h.xs, fun p hp => (h.xa p hp).symm⟩
theorem Tw.below (K : BookK Pb) (h : Tw Pb w X W G H S T t u) (q : Below W.heap.size W W') : Tw Pb w X W' G H S T t u := by
  obtain ⟨A, B, h⟩ := h
  exact ⟨A, B, K.below h.a q, K.below h.b q, h.ap, h.fa, h.fb, h.bl.trans (q.mono h.bl.size), Xs.below h.xs q, h.xa⟩
theorem Tw.bl (h : Tw Pb w X W G H S T t u) : Below w.heap.size w W := by obtain ⟨A, B, h⟩ := h; exact h.bl
theorem Tw.xs (h : Tw Pb w X W G H S T t u) : X.in W := by obtain ⟨A, B, h⟩ := h; exact h.xs
theorem Tw.inv (K : BookK Pb) (h : Tw Pb w X W G H S T t u) : InvB S ∧ InvB T := by obtain ⟨A, B, h⟩ := h; exact ⟨K.inv h.a, K.inv h.b⟩
theorem Tw.less (h : Tw Pb w X W G H S T t u) (hY : ∀ p, p ∈ Y → p ∈ X) : Tw Pb w Y W G H S T t u := by
  obtain ⟨A, B, h⟩ := h
  exact ⟨A, B, h.a, h.b, h.ap, h.fa, h.fb, h.bl, fun p hp => h.xs p (hY p hp), fun p hp => h.xa p (hY p hp)⟩
theorem Tw.more (K : BookK Pb) (h : Tw Pb w X W G H S T t u) (ht : t ≤ t') (hu : u ≤ u') : Tw Pb w X W G H S T t' u' := by
  obtain ⟨A, B, h⟩ := h
  exact ⟨A, B, K.more h.a ht, K.more h.b hu, h.ap, h.fa, h.fb, h.bl, h.xs, h.xa⟩
theorem Tw.push (K : BookK Pb) (h : Tw Pb w X W G H S T t u) (q : Below W.heap.size W W') (hY : Y.in W') (hn : ∀ p, p ∈ Y → W.heap.size ≤ p.1) : Tw Pb w (Y ++ X) W' G H S T t u := by
  have k := h.below K q
  obtain ⟨A, B, h⟩ := h
  refine ⟨A, B, K.below h.a q, K.below h.b q, h.ap, h.fa, h.fb, h.bl.trans (q.mono h.bl.size), Xs.app hY (Xs.below h.xs q), fun p hp => ?_⟩
  rcases List.mem_append.1 hp with hp | hp
  · have := hn p hp
    exact ⟨fun c => by have := K.lt h.a _ c; omega, fun c => by have := K.lt h.b _ c; omega⟩
  · exact h.xa p hp
theorem Tw1.aft (h : Tw1 Pb w X W A B G H S T t u) (K : BookK Pb) {A' : Nat → Prop} (h1 : Pb W' A' G S' t') (h2 : Fr A W W') (h3 : ∀ k, A' k → A k ∨ W.heap.size ≤ k) : Tw1 Pb w X W' A' B G H S' T t' u := by
  refine ⟨h1, K.keep h.b h2 (fun k hb ha => h.ap k ha hb), fun k hk hb => ?_, fun k hk => (h3 k hk).elim (h.fa k) fun c => Nat.le_trans h.bl.size c, h.fb, fr_below h.bl h.fa h2, Xs.fr h.xs h2 (fun p hp => (h.xa p hp).1), fun p hp => ⟨fun c => ?_, (h.xa p hp).2⟩⟩
  · rcases h3 k hk with c | c
    · exact h.ap k c hb
    · have := K.lt h.b k hb; omega
  · rcases h3 _ c with c | c
    · exact (h.xa p hp).1 c
    · have := (Array.getElem?_eq_some_iff.1 (h.xs p hp)).1; omega
section
variable {P : Program} {f : FuncId} {args : Array Value}
theorem Tw.c {R : Ending → Prop} (K : BookK Pb) (h : Tw Pb w X W G H S T t u) (c : ∀ A, Pb W A G S t → Calls P f args W fun e w' => R e ∧ AftB Pb W A G S' t' w') : Calls P f args W fun e w' => R e ∧ Tw Pb w X w' G H S' T t' u := by
  obtain ⟨A, B, h⟩ := h
  exact (c A h.a).mono fun e w' ⟨q, A', h1, h2, h3⟩ => ⟨q, A', B, h.aft K h1 h2 h3⟩
theorem Tw.d {R : Ending → Prop} (K : BookK Pb) (h : Tw Pb w X W G H S T t u) (c : ∀ A, Pb W A H T u → Calls P f args W fun e w' => R e ∧ AftB Pb W A H T' u' w') : Calls P f args W fun e w' => R e ∧ Tw Pb w X w' G H S T' t u' :=
  (h.swap.c K c).mono fun e w' ⟨q, k⟩ => ⟨q, k.swap⟩
theorem Tw.p {E : Px → Ending} {q : Pl} (K : BookK Pb) (h : Tw Pb w X W G H S T t u) (c : ∀ A, Pb W A G S t → Calls P f args W fun e w' => ∃ p : Px, e = E p ∧ PlB Pb W A G S' t' p q w') :
    Calls P f args W fun e w' => ∃ p : Px, e = E p ∧ (p.fi = q.fi ∧ p.lf = q.lf) ∧ p.Is w' W.heap.size q.td q.gn ∧ ∃ R : Xs, (∀ k, p.own k → ∃ o, (k, o) ∈ R) ∧ Tw Pb w (R ++ X) w' G H S' T t' u := by
  obtain ⟨A, B, h⟩ := h
  refine (c A h.a).mono fun e w' ⟨p, q1, q2, A', h1, h2, h3, h4, h5⟩ => ?_
  obtain ⟨R, r1, r2, r3⟩ := px_xs h4
  have k := h.aft K h1 h2 h3
  refine ⟨p, q1, q2, h4, R, r3, A', B, k.a, k.b, k.ap, k.fa, k.fb, k.bl, Xs.app r1 k.xs, fun x hx => ?_⟩
  rcases List.mem_append.1 hx with hx | hx
  · refine ⟨fun c => h5 _ c (r2 x hx), fun c => ?_⟩
    have := (h4.lt (r2 x hx)).1
    have := K.lt h.b _ c
    omega
  · exact k.xa x hx
theorem Tw.q {E : Px → Ending} {q : Pl} (K : BookK Pb) (h : Tw Pb w X W G H S T t u) (c : ∀ A, Pb W A H T u → Calls P f args W fun e w' => ∃ p : Px, e = E p ∧ PlB Pb W A H T' u' p q w') :
    Calls P f args W fun e w' => ∃ p : Px, e = E p ∧ (p.fi = q.fi ∧ p.lf = q.lf) ∧ p.Is w' W.heap.size q.td q.gn ∧ ∃ R : Xs, (∀ k, p.own k → ∃ o, (k, o) ∈ R) ∧ Tw Pb w (R ++ X) w' G H S T' t u' :=
  (h.swap.p K c).mono fun e w' ⟨p, q1, q2, q3, R, q4, k⟩ => ⟨p, q1, q2, q3, R, q4, k.swap⟩
end
/-- Of one book and a new one: two. -/
theorem On.two (K : BookK Pb) (h : On Pb w X W G S t) (q : Below W.heap.size W W') (hb : Pb W' B H T u) (hB : ∀ k, B k → W.heap.size ≤ k) : Tw Pb w X W' G H S T t u := by
  obtain ⟨A, h⟩ := h
  refine ⟨A, B, K.below h.pb q, hb, fun k ha hbk => by have := K.lt h.pb k ha; have := hB k hbk; omega, h.fp, fun k hk => Nat.le_trans h.bl.size (hB k hk), h.bl.trans (q.mono h.bl.size), Xs.below h.xs q, fun p hp => ⟨h.xa p hp, fun c => by have := hB _ c; have := (Array.getElem?_eq_some_iff.1 (h.xs p hp)).1; omega⟩⟩
end
end Go.Proofs.Ytdcjgcjnfcahkaa
