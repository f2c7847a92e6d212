/- Two books of the call's own: calls, answers written into blocks; one turned. -/
import Derived.Test.YtdcjgcjnfcahkaaHYm
import Derived.Test.YtdcjgcjnfcahkaaG24
namespace Go.Proofs.Ytdcjgcjnfcahkaa
open Go.RowKit Go.Shelf
set_option linter.unusedVariables false
set_option linter.unusedSimpArgs false

def opB (b : Nat) (x : Op7) : Nat × Obj := (b, .cells (EOp.cells x).toArray 34 (0, 0))
section
variable {Pb : PbT} {w W W' : World} {X Y R : Xs} {G H : Nat} {S T S' T' : Sd} {t u t' u' : Nat} {x : Op7} {b B : Nat} {p z : Px} {td : List Td} {gn : List Int}
theorem Xs.op (h : X.in W) (hm : opB b x ∈ X) : EOp.Bx 34 W b x := h _ hm
theorem Tw.pla (K : BookK Pb) (h : Tw Pb w X W G H S T t u) (ok : x.ok) (ht : t < 1000000000) :
    Calls Try.prog 25 #[.pointer (some ⟨G, 0, none⟩), .agg (EOp.cells x).toArray] W fun e w' => (∃ v, e = .returned v) ∧ Tw Pb w X w' G H (playS S x) T (t + 1) u :=
  h.c K (R := fun e => ∃ v, e = .returned v) fun A h1 => play7_any K h1 ok ht
theorem Tw.plb (K : BookK Pb) (h : Tw Pb w X W G H S T t u) (ok : x.ok) (hu : u < 1000000000) :
    Calls Try.prog 25 #[.pointer (some ⟨H, 0, none⟩), .agg (EOp.cells x).toArray] W fun e w' => (∃ v, e = .returned v) ∧ Tw Pb w X w' G H S (playS T x) t (u + 1) :=
  h.d K (R := fun e => ∃ v, e = .returned v) fun A h1 => play7_any K h1 ok hu
theorem Tw.ora (K : BookK Pb) (h : Tw Pb w X W G H S T t u) :
    Calls Try.prog 17 #[.pointer (some ⟨G, 0, none⟩)] W fun e w' => ∃ v, e = .returned v ∧ EO.Own 31 w' W.heap.size v S.all ∧ Below W.heap.size W w' := by
  obtain ⟨A, B, h⟩ := h
  exact orders7_any K h.a
theorem Tw.orb (K : BookK Pb) (h : Tw Pb w X W G H S T t u) :
    Calls Try.prog 17 #[.pointer (some ⟨H, 0, none⟩)] W fun e w' => ∃ v, e = .returned v ∧ EO.Own 31 w' W.heap.size v T.all ∧ Below W.heap.size W w' := h.swap.ora K
theorem Tw.turn (h : Tw Pb w X W G H S T t u) (e : T = T') (e' : S = S') : Tw Pb w X W G H S' T' t u := e ▸ e' ▸ h
section
variable {P : Program} {f : FuncId} {args : Array Value}
/-- An answer's rows, kept: they are its own. -/
theorem Tw.p2 {E : Px → Ending} {q : Pl} (K : BookK Pb) (h : Tw Pb w X W G H S T t u) (c : ∀ A, Pb W A G S t → Calls P f args W fun e w' => ∃ p : Px, e = E p ∧ PlB Pb W A G S' t' p q w') :
    Calls P f args W fun e w' => ∃ p : Px, e = E p ∧ (p.fi = q.fi ∧ p.lf = q.lf) ∧ p.Is w' W.heap.size q.td q.gn ∧ ∃ R : Xs, (∀ k, p.own k → ∃ o, (k, o) ∈ R) ∧ (∀ y, y ∈ R → p.own y.1) ∧ Tw Pb w (R ++ X) w' G H S' T t' u := by
  obtain ⟨A, B, h⟩ := h
  refine (c A h.a).mono fun e w' ⟨p, q1, q2, A', h1, h2, h3, h4, h5⟩ => ?_
  obtain ⟨R, r1, r2, r3⟩ := px_xs h4
  have k := h.aft K h1 h2 h3
  refine ⟨p, q1, q2, h4, R, r3, r2, A', B, k.a, k.b, k.ap, k.fa, k.fb, k.bl, Xs.app r1 k.xs, fun x hx => ?_⟩
  rcases List.mem_append.1 hx with hx | hx
  · refine ⟨fun c => h5 _ c (r2 x hx), fun c => ?_⟩
    have := (h4.lt (r2 x hx)).1
    have := K.lt h.b _ c
    omega
  · exact k.xa x hx
theorem Tw.q2 {E : Px → Ending} {q : Pl} (K : BookK Pb) (h : Tw Pb w X W G H S T t u) (c : ∀ A, Pb W A H T u → Calls P f args W fun e w' => ∃ p : Px, e = E p ∧ PlB Pb W A H T' u' p q w') :
    Calls P f args W fun e w' => ∃ p : Px, e = E p ∧ (p.fi = q.fi ∧ p.lf = q.lf) ∧ p.Is w' W.heap.size q.td q.gn ∧ ∃ R : Xs, (∀ k, p.own k → ∃ o, (k, o) ∈ R) ∧ (∀ y, y ∈ R → p.own y.1) ∧ Tw Pb w (R ++ X) w' G H S T' t u' :=
  (h.swap.p2 K c).mono fun e w' ⟨p, q1, q2, q3, R, q4, q5, k⟩ => ⟨p, q1, q2, q3, R, q4, q5, k.swap⟩
end
/-- An answer is written into a block of one's own. -/
theorem Tw.pset (K : BookK Pb) (h : Tw Pb w (R ++ X) W G H S T t u) (hR : ∀ y, y ∈ R → p.own y.1) (pi : p.Is W B td gn) (hz : pxB b z ∈ X) (hb : w.heap.size ≤ b) (hY : ∀ y, y ∈ Y → y ∈ X ∧ y.1 ≠ b) :
    Tw Pb w (pxB b p :: (R ++ Y)) (W.setRow b (EPx.cells p).toArray) G H S T t u ∧ p.Is (W.setRow b (EPx.cells p).toArray) B td gn := by
  obtain ⟨A, C, h⟩ := h
  have hzz : pxB b z ∈ R ++ X := List.mem_append_right _ hz
  have zb : EPx.Bx 49 W b z := h.xs _ hzz
  obtain ⟨na, nc⟩ := h.xa _ hzz
  have nb : ¬ p.own b := pi.ne zb (by decide) (by decide)
  have f : Fr (fun k => k = b) W (W.setRow b (EPx.cells p).toArray) := fr_row (S := fun k => k = b) rfl _
  refine ⟨⟨A, C, K.keep h.a f (fun k hk e => na (e ▸ hk)), K.keep h.b f (fun k hk e => nc (e ▸ hk)), h.ap, h.fa, h.fb, below_row0 h.bl hb, fun y hy => ?_, fun y hy => ?_⟩, pi.fr f (fun k hk e => nb (e ▸ hk))⟩
  · rcases List.mem_cons.1 hy with rfl | hy
    · exact gbx_set zb
    · rcases List.mem_append.1 hy with hy | hy
      · have e := h.xs y (List.mem_append_left _ hy)
        exact (f.at' _ (Array.getElem?_eq_some_iff.1 e).1 (fun c => nb (c ▸ hR y hy))).trans e
      · obtain ⟨m, ne⟩ := hY y hy
        have e := h.xs y (List.mem_append_right _ m)
        exact (f.at' _ (Array.getElem?_eq_some_iff.1 e).1 ne).trans e
  · rcases List.mem_cons.1 hy with rfl | hy
    · exact ⟨na, nc⟩
    · rcases List.mem_append.1 hy with hy | hy
      · exact h.xa y (List.mem_append_left _ hy)
      · exact h.xa y (List.mem_append_right _ (hY y hy).1)
end
section
variable {S : Sd} {x : Op7} {o : Or} {n p l : Int}
theorem playS_1 (h : x.kd = 1) : playS S x = placeS S x.o x.k := if_pos h
theorem playS_2 (h : x.kd = 2) : playS S x = replS S x.o.nu x.o.pr x.o.le := (if_neg (by rw [h]; decide)).trans (if_pos h)
theorem repl_td (S : Sd) (n p l : Int) : (replP S n p l).td = [] ∨ ∃ o, (replP S n p l).td = (meetO o (S (!o.bu)) o.le).td := by
  unfold replP
  cases h : findB S n with
  | none => exact .inl rfl
  | some o =>
    dsimp only
    split
    · exact .inl rfl
    · split
      · exact .inl rfl
      · refine .inr ⟨o.at p l, ?_⟩
        unfold comeP metB
        dsimp only
        rw [show (S.up o.bu (dropO (S o.bu) n)) (!(o.at p l).bu) = S (!o.bu) from Sd.up_not' S o.bu _]; rfl
theorem repl_tdok (iv : InvB S) : (∀ t, t ∈ (replP S n p l).td → t.ok) ∧ (replP S n p l).td.length ≤ 100 := by
  rcases repl_td S n p l with e | ⟨o, e⟩
  · rw [e]; exact ⟨fun t ht => (by simp at ht), Nat.zero_le _⟩
  · rw [e]; exact ⟨meet_tdok o _ _ (iv.inv _).ok, Nat.le_trans (meet_tdlen o _ _) (iv.inv _).len⟩
theorem tut_back (y : Td) : (⟨1001 - (tut y).pr, y.qt, y.nu, y.ac⟩ : Td) = y := by
  obtain ⟨a, b, c, d⟩ := y
  show (⟨1001 - (1001 - a), b, c, d⟩ : Td) = ⟨a, b, c, d⟩
  rw [show (1001 : Int) - (1001 - a) = a by omega]
end
end Go.Proofs.Ytdcjgcjnfcahkaa
