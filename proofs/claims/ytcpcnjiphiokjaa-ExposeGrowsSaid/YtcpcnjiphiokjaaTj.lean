/- Arguments opened: sixteen numbers, a leg, a list of legs; no program's function. -/
import Derived.Test.YtcpcnjiphiokjaaTa
import Derived.Test.YtcpcnjiphiokjaaQo
import Derived.Test.YtcpcnjiphiokjaaRo
import Derived.Test.YtcpcnjiphiokjaaTb
namespace Go.Proofs.Ytcpcnjiphiokjaa
open Go.ChangeShapes Go.WideShapes Go.ChangeAt Go.RowKit
set_option linter.unusedVariables false
set_option maxRecDepth 100000

theorem cells10_lq : Try.prog.cellsOf 30 = 26 := by kernel_rfl
section
variable {H : Type} {enc : TypeId × Value → H} {W : World} {base : Nat} {spare : Nat → Bool} {held : Bool}
theorem okWide_array10 {r : Reach} {b0 : Nat} {v : Value} (h : Value.okWide Try.prog W r b0 26 v) : ∃ cs, v = .agg cs ∧ cs.size = Try.prog.cellsOf 26 := by
  simp only [Value.okWide, Try.underlying26] at h
  obtain ⟨cs, h1, h2, _⟩ := h
  exact ⟨cs, h1, h2⟩
set_option maxHeartbeats 2000000 in
theorem open_arrL10 {fuel : Nat} {l : List Value} {y : DataW H × List MemPlace} (hl : l.length = 16) (hf : DataW.trod enc Try.prog W base spare held fuel 26 l = some y) : ∃ xs : List Int, l = xs.map (Value.int .i64) ∧ xs.length = 16 ∧ ∀ x, x ∈ xs → I64 x := by
  match l, hl with
  | [x0, x1, x2, x3, x4, x5, x6, x7, x8, x9, x10, x11, x12, x13, x14, x15], _ =>
    obtain ⟨ys, m, _, _, _, hyl, hi⟩ := DataW.trod_array Try.underlying26 hf
    have isy : ∀ i, i < 16 → (ys[i]?).isSome = true := fun i hi => by
      rw [List.getElem?_eq_getElem (by omega)]; rfl
    have e0 : DataW.trod enc Try.prog W base spare held m 2 [x0] = ys[0]? := hi 0 (by omega)
    obtain ⟨s0, rfl, q0⟩ := open_i64 (isy 0 (by omega)) e0
    have e1 : DataW.trod enc Try.prog W base spare held m 2 [x1] = ys[1]? := hi 1 (by omega)
    obtain ⟨s1, rfl, q1⟩ := open_i64 (isy 1 (by omega)) e1
    have e2 : DataW.trod enc Try.prog W base spare held m 2 [x2] = ys[2]? := hi 2 (by omega)
    obtain ⟨s2, rfl, q2⟩ := open_i64 (isy 2 (by omega)) e2
    have e3 : DataW.trod enc Try.prog W base spare held m 2 [x3] = ys[3]? := hi 3 (by omega)
    obtain ⟨s3, rfl, q3⟩ := open_i64 (isy 3 (by omega)) e3
    have e4 : DataW.trod enc Try.prog W base spare held m 2 [x4] = ys[4]? := hi 4 (by omega)
    obtain ⟨s4, rfl, q4⟩ := open_i64 (isy 4 (by omega)) e4
    have e5 : DataW.trod enc Try.prog W base spare held m 2 [x5] = ys[5]? := hi 5 (by omega)
    obtain ⟨s5, rfl, q5⟩ := open_i64 (isy 5 (by omega)) e5
    have e6 : DataW.trod enc Try.prog W base spare held m 2 [x6] = ys[6]? := hi 6 (by omega)
    obtain ⟨s6, rfl, q6⟩ := open_i64 (isy 6 (by omega)) e6
    have e7 : DataW.trod enc Try.prog W base spare held m 2 [x7] = ys[7]? := hi 7 (by omega)
    obtain ⟨s7, rfl, q7⟩ := open_i64 (isy 7 (by omega)) e7
    have e8 : DataW.trod enc Try.prog W base spare held m 2 [x8] = ys[8]? := hi 8 (by omega)
    obtain ⟨s8, rfl, q8⟩ := open_i64 (isy 8 (by omega)) e8
    have e9 : DataW.trod enc Try.prog W base spare held m 2 [x9] = ys[9]? := hi 9 (by omega)
    obtain ⟨s9, rfl, q9⟩ := open_i64 (isy 9 (by omega)) e9
    have e10 : DataW.trod enc Try.prog W base spare held m 2 [x10] = ys[10]? := hi 10 (by omega)
    obtain ⟨s10, rfl, q10⟩ := open_i64 (isy 10 (by omega)) e10
    have e11 : DataW.trod enc Try.prog W base spare held m 2 [x11] = ys[11]? := hi 11 (by omega)
    obtain ⟨s11, rfl, q11⟩ := open_i64 (isy 11 (by omega)) e11
    have e12 : DataW.trod enc Try.prog W base spare held m 2 [x12] = ys[12]? := hi 12 (by omega)
    obtain ⟨s12, rfl, q12⟩ := open_i64 (isy 12 (by omega)) e12
    have e13 : DataW.trod enc Try.prog W base spare held m 2 [x13] = ys[13]? := hi 13 (by omega)
    obtain ⟨s13, rfl, q13⟩ := open_i64 (isy 13 (by omega)) e13
    have e14 : DataW.trod enc Try.prog W base spare held m 2 [x14] = ys[14]? := hi 14 (by omega)
    obtain ⟨s14, rfl, q14⟩ := open_i64 (isy 14 (by omega)) e14
    have e15 : DataW.trod enc Try.prog W base spare held m 2 [x15] = ys[15]? := hi 15 (by omega)
    obtain ⟨s15, rfl, q15⟩ := open_i64 (isy 15 (by omega)) e15
    refine ⟨[s0, s1, s2, s3, s4, s5, s6, s7, s8, s9, s10, s11, s12, s13, s14, s15], rfl, rfl, ?_⟩
    intro x hx
    simp only [List.mem_cons, List.not_mem_nil, or_false] at hx
    rcases hx with rfl | rfl | rfl | rfl | rfl | rfl | rfl | rfl | rfl | rfl | rfl | rfl | rfl | rfl | rfl | rfl
    · exact q0
    · exact q1
    · exact q2
    · exact q3
    · exact q4
    · exact q5
    · exact q6
    · exact q7
    · exact q8
    · exact q9
    · exact q10
    · exact q11
    · exact q12
    · exact q13
    · exact q14
    · exact q15
theorem open_arr10 {r : Reach} {b0 : Nat} {v : Value} {d : DataW H} {p : List MemPlace} (hv : Value.okWide Try.prog W r b0 26 v) (h : DataW.Trod enc Try.prog W base spare held 26 v d p) : ∃ xs : List Int, v = .agg (arr10 xs) ∧ xs.length = 16 ∧ ∀ x, x ∈ xs → I64 x := by
  obtain ⟨cs, rfl, hsz⟩ := okWide_array10 hv
  obtain ⟨l⟩ := cs
  obtain ⟨fuel, hf⟩ := h
  obtain ⟨xs, rfl, h1, h2⟩ := open_arrL10 (hsz.trans cells_arr) hf
  exact ⟨xs, rfl, h1, h2⟩
theorem one_last10 {l : List Value} (h : l.length = 26) : ∃ p a, l = p ++ [a] ∧ p.length = 25 := by
  refine ⟨l.take 25, l[25], ?_, by simp [h]⟩
  have e1 : l.drop 25 = l[25] :: l.drop 26 := List.drop_eq_getElem_cons (by omega)
  have e3 : l.drop 26 = [] := List.drop_of_length_le (by omega)
  rw [e3] at e1
  rw [← e1, List.take_append_drop]
theorem open_lqL10 {fuel : Nat} {l : List Value} {y : DataW H × List MemPlace} (hl : l.length = 26) (hf : DataW.trod enc Try.prog W base spare held fuel 30 l = some y) : ∃ x : Lq, l = EL.cells x ∧ x.ok := by
  obtain ⟨p, a, rfl, hp⟩ := one_last10 hl
  obtain ⟨xs, n, _, hx, _, hlen, hg⟩ := DataW.trod_struct Try.underlying30 hf
  have h3 : xs.length = 2 := hlen
  have g0 : DataW.trod enc Try.prog W base spare held n 28 (((p ++ [a]).drop 0).take (Try.prog.cellsOf 28)) = xs[0]? := hg 0 _ rfl
  have g1 : DataW.trod enc Try.prog W base spare held n 2 (((p ++ [a]).drop 25).take (Try.prog.cellsOf 2)) = xs[1]? := hg 1 _ rfl
  rw [cells_sp] at g0
  rw [cells_i64] at g1
  have d25 : (p ++ [a]).drop 25 = [a] := by rw [← hp]; exact List.drop_left' rfl
  have t25 : ((p ++ [a]).drop 0).take 25 = p := by rw [List.drop_zero, ← hp]; exact List.take_left' rfl
  rw [t25] at g0
  rw [d25] at g1
  rw [List.getElem?_eq_getElem (by omega)] at g0 g1
  obtain ⟨s, rfl, ok⟩ := open_specL hp g0
  obtain ⟨q, e2, _, hw2⟩ := DataW.trod_int Try.underlying2 g1
  simp at e2
  subst e2
  exact ⟨⟨s, q, ok.len⟩, rfl, ok, bounds_i64 hw2⟩
theorem rd_of10 {A : Option Addr} {len : Nat} {os : List Lq} (h1 : os.length = len) (h3 : A = none → len = 0) (h6 : 0 < len → ∃ b o, A = some ⟨b, o, none⟩ ∧ b < W.heap.size ∧ ∀ (k : Nat) (x : Lq), os[k]? = some x → W.rangeAt b (o + k * EL.N) (EL.cells x)) : EL.Rd W A len os := by
  refine ⟨h1, h3, fun hm a e => ?_⟩
  obtain ⟨b, o, e2, _, hx⟩ := h6 hm
  rw [e] at e2
  cases e2
  refine ⟨rfl, fun j u hj => ?_⟩
  have hl := (List.getElem?_eq_some_iff.1 hj).1
  rw [gflat_len] at hl
  have hN := EL.pos
  have hk : j / EL.N < os.length := Nat.div_lt_of_lt_mul (by rw [Nat.mul_comm]; exact hl)
  obtain ⟨x, hx'⟩ : ∃ x, os[j / EL.N]? = some x := ⟨os[j / EL.N], List.getElem?_eq_getElem hk⟩
  have hi := Nat.mod_lt j hN
  have ej : j / EL.N * EL.N + j % EL.N = j := by rw [Nat.mul_comm]; exact Nat.div_add_mod j EL.N
  have hf := gflat_at os (j / EL.N) x hx' (j % EL.N) hi
  rw [ej, hj] at hf
  have := hx (j / EL.N) x hx' (j % EL.N) u hf.symm
  rw [Nat.add_assoc, ej] at this
  exact this
theorem open_lqs10 {fuel : Nat} {cs : List Value} {x : DataW H × List MemPlace} (h : DataW.trod enc Try.prog W base spare held fuel 52 cs = some x) :
    ∃ (A : Option Addr) (len cap : Nat) (os : List Lq), cs = [.slice A len cap] ∧ EL.Rd W A len os ∧ (∀ x, x ∈ os → x.ok) ∧ len ≤ maxLen ∧ (A = none → cap = 0) ∧ len ≤ cap ∧ cap ≤ maxLen := by
  obtain ⟨A, len, cap, os, e, h1, h2, h3, h4, h5, h6⟩ := open_rows EL.cells Lq.ok cells10_lq (by decide) (fun x hx => EL.len x) Try.underlying52 (fun f l y hl hf => open_lqL10 hl hf) h
  exact ⟨A, len, cap, os, e, rd_of10 h1 (fun e => (h3 e).1) h6, h2, by omega, fun e => (h3 e).2, h4, h5⟩
end
end Go.Proofs.Ytcpcnjiphiokjaa
