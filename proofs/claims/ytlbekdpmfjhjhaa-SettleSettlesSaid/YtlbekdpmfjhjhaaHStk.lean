/- SettleFund, walked (by genStk.py). -/
import Derived.Test.YtlbekdpmfjhjhaaHSth
namespace Go.Proofs.Ytlbekdpmfjhjhaa
open Go.RowKit
set_option linter.unusedVariables false
set_option linter.unusedSimpArgs false

theorem errS_more {f m : Int} {l : List Du} (hf : 0 ≤ f ∧ f ≤ 1000000000000000) (hm : 0 ≤ f + m ∧ f + m ≤ 1000000000000000) : errS (f + m) l = errS f l := by
  unfold errS
  rw [if_neg (show ¬ ¬ (0 ≤ f ∧ f ≤ 1000000000000000) by simpa using hf), if_neg (show ¬ ¬ (0 ≤ f + m ∧ f + m ≤ 1000000000000000) by simpa using hm)]
def cuS : List Sd → Int
  | [] => 0
  | x :: l => x.cu + cuS l
theorem cuS_snoc (l : List Sd) (x : Sd) : cuS (l ++ [x]) = cuS l + x.cu := by
  induction l with
  | nil => simp [cuS]
  | cons y l ih => simp only [List.cons_append, cuS, ih]; omega
theorem cuS_part : ∀ (l : List Sd), (∀ x, x ∈ l → 0 ≤ x.cu) → ∀ j, 0 ≤ cuS (l.take j) ∧ cuS (l.take j) ≤ cuS l
  | [], _, j => by simp [cuS]
  | x :: l, h, 0 => by
    have := (cuS_part l (fun y hy => h y (by simp [hy])) l.length)
    rw [List.take_length] at this
    have := h x (by simp)
    simp only [List.take_zero, cuS]
    omega
  | x :: l, h, j + 1 => by
    have := cuS_part l (fun y hy => h y (by simp [hy])) j
    have := h x (by simp)
    simp only [List.take_succ_cons, cuS]
    omega
theorem cuS_less : ∀ (xs : List Sd) (cs : List Int), xs.length = cs.length → cuS (List.zipWith less xs cs) = sm cs
  | [], [], _ => rfl
  | x :: xs, c :: cs, h => by
    have := cuS_less xs cs (by simpa using h)
    simp only [List.zipWith_cons_cons, cuS, sm, this, less]
theorem May.cuS {f : Int} {l : List Du} (h : May f l) : Go.Proofs.Ytlbekdpmfjhjhaa.cuS (outS f l) = leftS f l := by
  unfold outS
  rw [cuS_less _ _ (by rw [cuts_len, List.length_map, List.length_map]), h.cut.1]
theorem May.cu0 {f : Int} {l : List Du} (h : May f l) : ∀ x, x ∈ outS f l → 0 ≤ x.cu := fun x hx => by
  obtain ⟨t, ht⟩ := List.getElem?_of_mem hx
  have hl : t < l.length := by have := (List.getElem?_eq_some_iff.1 ht).1; rwa [out_len] at this
  obtain ⟨c, e, h0, _⟩ := h.kept (List.getElem?_eq_getElem hl)
  rw [ht] at e
  cases e
  exact h0
theorem May.step {f : Int} {l : List Du} (h : May f l) {j : Nat} {x : Sd} (hx : (outS f l)[j]? = some x) : Go.Proofs.Ytlbekdpmfjhjhaa.cuS ((outS f l).take (j + 1)) = Go.Proofs.Ytlbekdpmfjhjhaa.cuS ((outS f l).take j) + x.cu ∧ 0 ≤ Go.Proofs.Ytlbekdpmfjhjhaa.cuS ((outS f l).take j) ∧ Go.Proofs.Ytlbekdpmfjhjhaa.cuS ((outS f l).take (j + 1)) ≤ 6400000000000000000 := by
  have hj := (List.getElem?_eq_some_iff.1 hx).1
  have e : (outS f l).take (j + 1) = (outS f l).take j ++ [x] := by
    rw [List.take_succ_eq_append_getElem hj]
    rw [List.getElem?_eq_getElem hj] at hx
    cases hx; rfl
  refine ⟨by rw [e, cuS_snoc], (cuS_part _ h.cu0 j).1, ?_⟩
  have h1 := (cuS_part _ h.cu0 (j + 1)).2
  rw [h.cuS] at h1
  have := h.left
  omega
theorem told_ok {f : Int} {l : List Du} {B n : Nat} {w w' : World} {e : Ending} (h : ToldS f l B w w' e) (he : errS f l = 0) (hn : l.length = n) : ∃ A c, e = .returned (.tuple #[.slice A n c, .int .i64 (fundS f l), .int .i64 0]) ∧ ESd.Rd w' A n (outS f l) ∧ Below B w w' := by
  obtain ⟨A, c, h1, h2, h3⟩ := h
  simp only [if_pos he, out_len, hn] at h1 h2
  rw [he] at h1
  exact ⟨A, c, h1, h2, h3⟩
theorem told_bad {f E : Int} {l : List Du} {B : Nat} {w w' : World} {e : Ending} (h : ToldS f l B w w' e) (he : errS f l = E) (h0 : E ≠ 0) : ∃ A c, e = .returned (.tuple #[.slice A 0 c, .int .i64 0, .int .i64 E]) ∧ Below B w w' := by
  obtain ⟨A, c, h1, h2, h3⟩ := h
  rw [he] at h1
  simp only [if_neg h0, List.length_nil] at h1
  exact ⟨A, c, h1, h3⟩
theorem cell_of_rng {α : Type} {E : Elt α} {w : World} {b o : Nat} {x : α} (h : w.rangeAt b o (E.cells x)) (i : Nat) {v : Value} (hv : (E.cells x)[i]? = some v) : w.cell? ⟨b, o + i, none⟩ = some v := h i v hv

set_option maxRecDepth 100000 in
set_option maxHeartbeats 16000000 in
theorem fund13_all (K : SettleK) (f m : Int) (A : Option Addr) (len cap : Nat) (l : List Du) (w : World) (hf : I64 f) (hm : I64 m) (hr : ED.Rd w A len l) (hk : ∀ d, d ∈ l → d.ok) (hl : len ≤ maxLen) : Calls Try.prog 5 #[.int .i64 f, .int .i64 m, .slice A len cap] w fun e w' => e = .returned (.bool true) ∧ Below w.heap.size w w' := by
  have HR := Lib.hid fun (W : World) (q : Below w.heap.size w W) => (show ED.Rd W A len l from grd_below hr q (Nat.le_refl _))
  have KN := Lib.hid fun W => known13 K W
  have NL := Lib.hid hr.1
  unfold I64 at hf hm
  have hfm : (0 ≤ m ∧ m ≤ 1000000000000000 ∧ 0 ≤ f ∧ f ≤ 1000000000000000 - m) ∨ (m < 0 ∨ 1000000000000000 < m ∨ f < 0 ∨ 1000000000000000 - m < f) := by omega
  rcases hfm with ok | bad
  rotate_left
  · clear K HR hr hk hl
    go_enter Try.func5, Try.ntmps5
    by_cases c1 : m < 0
    · have d1 : decide (m < 0) = true := decide_eq_true c1
      clear bad
      go_wp2_with fail
      refine (KN.out _).mono ?_; rintro e w8 ⟨rfl, q8⟩
      have Q8 := Lib.hid q8
      clear q8
      go_wp2_with fail
      go_ret
      exact ⟨rfl, Q8.out⟩
    have d1 : decide (m < 0) = false := decide_eq_false c1
    by_cases c2 : 1000000000000000 < m
    · have d2 : decide (1000000000000000 < m) = true := decide_eq_true c2
      clear bad
      go_wp2_with fail
      refine (KN.out _).mono ?_; rintro e w8 ⟨rfl, q8⟩
      have Q8 := Lib.hid q8
      clear q8
      go_wp2_with fail
      go_ret
      exact ⟨rfl, Q8.out⟩
    have d2 : decide (1000000000000000 < m) = false := decide_eq_false c2
    by_cases c3 : f < 0
    · have d3 : decide (f < 0) = true := decide_eq_true c3
      clear bad
      go_wp2_with fail
      refine (KN.out _).mono ?_; rintro e w8 ⟨rfl, q8⟩
      have Q8 := Lib.hid q8
      clear q8
      go_wp2_with fail
      go_ret
      exact ⟨rfl, Q8.out⟩
    have d3 : decide (f < 0) = false := decide_eq_false c3
    have c4 : 1000000000000000 - m < f := by omega
    have d4 : decide (1000000000000000 - m < f) = true := decide_eq_true c4
    clear bad
    go_wp2_with fail
    refine (KN.out _).mono ?_; rintro e w8 ⟨rfl, q8⟩
    have Q8 := Lib.hid q8
    clear q8
    go_wp2_with fail
    go_ret
    exact ⟨rfl, Q8.out⟩
  obtain ⟨m0, m1, f0, f1⟩ := ok
  have d1 : decide (m < 0) = false := decide_eq_false (by omega)
  have d2 : decide (1000000000000000 < m) = false := decide_eq_false (by omega)
  have d3 : decide (f < 0) = false := decide_eq_false (by omega)
  have d4 : decide (1000000000000000 - m < f) = false := decide_eq_false (by omega)
  have SE := Lib.hid fun (F : Int) (W : World) (hF : I64 F) (q : Below w.heap.size w W) => K.settle F A len cap l W hF (HR.out W q) hk hl
  have EM := Lib.hid (errS_more (l := l) (f := f) (m := m) (by omega) (by omega))
  unfold maxLen at hl
  clear K hr hk
  by_cases he : errS f l = 0
  case neg =>
    obtain ⟨E, hE⟩ : ∃ E, errS f l = E := ⟨_, rfl⟩
    rw [hE] at he EM
    have d5 : (E != 0) = true := by simp [he]
    go_enter Try.func5, Try.ntmps5
    go_wp2_with fail
    refine (SE.out f w (by unfold I64; omega) (Below.refl _ _)).mono ?_; rintro e w1 t1
    obtain ⟨A1, k1, rfl, q1⟩ := told_bad t1 hE he
    have Q1 := Lib.hid q1
    clear q1 t1
    go_wp2_with fail
    refine (SE.out (f + m) w1 (by unfold I64; omega) Q1.out).mono ?_; rintro e w2 t2
    obtain ⟨A2, k2, rfl, q2⟩ := told_bad t2 EM.out he
    have Q2 := Lib.hid (Q1.out.trans (q2.mono Q1.out.size))
    clear q2 t2 he hE
    go_wp2_with fail
    refine (KN.out _).mono ?_; rintro e w8 ⟨rfl, q8⟩
    have Q8 := Lib.hid (Q2.out.trans (q8.mono Q2.out.size))
    clear q8
    go_wp2_with fail
    go_ret
    exact ⟨rfl, Q8.out⟩
  have M := Lib.hid (may_of he)
  have M' := Lib.hid (may_of (EM.out.trans he))
  have LM := Lib.hid (left_more (f := f) (l := l) m0)
  have B0 := M.out.fund2
  have B0' := M'.out.fund2
  have HE := Lib.hid he
  have LB := M.out.left
  have LB' := M'.out.left
  clear he
  go_enter Try.func5, Try.ntmps5
  go_wp2_with fail
  refine (SE.out f w (by unfold I64; omega) (Below.refl _ _)).mono ?_; rintro e w1 t1
  obtain ⟨A1, k1, rfl, r1, q1⟩ := told_ok t1 HE.out NL.out
  have R1 := Lib.hid r1
  have Q1 := Lib.hid q1
  clear r1 q1 t1
  go_wp2_with fail
  refine (SE.out (f + m) w1 (by unfold I64; omega) Q1.out).mono ?_; rintro e w2 t2
  obtain ⟨A2, k2, rfl, r2, q2⟩ := told_ok t2 (EM.out.trans HE.out) NL.out
  have R1 := Lib.hid fun (W : World) (q : Below w2.heap.size w2 W) => (show ESd.Rd W A1 len (outS f l) from grd_below (grd_below R1.out q2 (Nat.le_refl _)) q (Nat.le_refl _))
  have R2 := Lib.hid fun (W : World) (q : Below w2.heap.size w2 W) => (show ESd.Rd W A2 len (outS (f + m) l) from grd_below r2 q (Nat.le_refl _))
  have Q2 := Lib.hid (Q1.out.trans (q2.mono Q1.out.size))
  clear r2 q2 Q1 t2 SE
  go_wp2_with fail
  go_loopw [13, 14, 75] (fun s t i wr => ∃ j : Nat, j ≤ len ∧ s = .int .i64 (cuS ((outS f l).take j)) ∧ t = .int .i64 (cuS ((outS (f + m) l).take j)) ∧ i = .int .i64 j ∧ Below w2.heap.size w2 wr) (fun _ _ i _ => len - (intOf i).toNat)
  case atStart => exact ⟨0, Nat.zero_le _, rfl, rfl, rfl, Below.refl _ _⟩
  case round =>
    obtain ⟨j, hj, rfl, rfl, rfl, hB⟩ := hrel
    have HB := Lib.hid hB
    clear hB
    by_cases hlt : j < len
    case neg =>
      obtain rfl : j = len := by omega
      have t1 : (outS f l).take j = outS f l := List.take_of_length_le (by rw [out_len, NL.out]; exact Nat.le_refl _)
      have t2 : (outS (f + m) l).take j = outS (f + m) l := List.take_of_length_le (by rw [out_len, NL.out]; exact Nat.le_refl _)
      rw [t1, t2, M.out.cuS, M'.out.cuS]
      have LMo := LM.out
      obtain ⟨L1, hL1⟩ : ∃ x, leftS f l = x := ⟨_, rfl⟩
      obtain ⟨L2, hL2⟩ : ∃ x, leftS (f + m) l = x := ⟨_, rfl⟩
      obtain ⟨F1, hF1⟩ : ∃ x, fundS f l = x := ⟨_, rfl⟩
      obtain ⟨F2, hF2⟩ : ∃ x, fundS (f + m) l = x := ⟨_, rfl⟩
      rw [hL1, hL2, hF1, hF2] at LMo
      rw [hL1] at LB
      rw [hL1, hL2, hF1, hF2]
      obtain ⟨u1, u2, u3⟩ := LMo
      have z1 : 0 ≤ L1 := LB.1
      have z2 : L1 ≤ 6400000000000000000 := Int.le_trans LB.2.1 LB.2.2
      have e1 : (L2 == max 0 (L1 - m)) = true := by
        rw [u1]
        split <;> simp <;> omega
      have e4 : decide (F1 ≤ F2) = true := decide_eq_true u2
      clear t1 t2 LB LB' B0 B0' hL1 hL2 hF1 hF2 u1 u2 LM M M' R1 R2 HR EM HE
      by_cases hz : L2 = 0
      · have e2 : (L2 == 0) = true := by simp [hz]
        clear hz u3
        go_wp2_with fail
        refine (KN.out _).mono ?_; rintro e w8 ⟨rfl, q8⟩
        have Q8 := Lib.hid ((Q2.out.trans (HB.out.mono Q2.out.size)).trans (q8.mono (Q2.out.trans (HB.out.mono Q2.out.size)).size))
        clear q8
        go_wp2_with fail
        go_ret
        exact ⟨rfl, Q8.out⟩
      · have e2 : (L2 == 0) = false := by simp [hz]
        have e3 : (F2 == 0) = true := by
          rcases u3 with k | k
          · exact absurd k hz
          · simp [k]
        clear hz u3
        go_wp2_with fail
        refine (KN.out _).mono ?_; rintro e w8 ⟨rfl, q8⟩
        have Q8 := Lib.hid ((Q2.out.trans (HB.out.mono Q2.out.size)).trans (q8.mono (Q2.out.trans (HB.out.mono Q2.out.size)).size))
        clear q8
        go_wp2_with fail
        go_ret
        exact ⟨rfl, Q8.out⟩
    case pos =>
      have hj' : (j : Int) < (len : Int) := by omega
      have hd : decide ((j : Int) < (len : Int)) = true := decide_eq_true hj'
      have hll : j < l.length := by rw [NL.out]; exact hlt
      obtain ⟨d, hld⟩ : ∃ d, l[j]? = some d := ⟨_, List.getElem?_eq_getElem hll⟩
      obtain ⟨c, ho, k0, -, -, -, -, -⟩ := M.out.kept hld
      obtain ⟨c', ho', k0', -, -, -, -, -⟩ := M'.out.kept hld
      have IN := M.out.ins d (List.mem_of_getElem? hld)
      obtain ⟨s1, s2, s3⟩ := M.out.step ho
      obtain ⟨s1', s2', s3'⟩ := M'.out.step ho'
      have e1 : (less (sd0 d) c).cu = c := rfl
      have e2 : (less (sd0 d) c').cu = c' := rfl
      rw [e1] at s1
      rw [e2] at s1'
      obtain ⟨P, hP⟩ : ∃ x, cuS ((outS f l).take j) = x := ⟨_, rfl⟩
      obtain ⟨P', hP'⟩ : ∃ x, cuS ((outS (f + m) l).take j) = x := ⟨_, rfl⟩
      rw [hP] at s1 s2
      rw [hP'] at s1' s2'
      rw [hP, hP']
      rw [s1] at s3
      rw [s1'] at s3'
      have S1 := Lib.hid s1
      have S1' := Lib.hid s1'
      obtain ⟨b1, o1, rfl, g1⟩ := rng_fr13 (R1.out w2 (Below.refl _ _)) ho
      obtain ⟨b2, o2, rfl, g2⟩ := rng_fr13 (R2.out w2 (Below.refl _ _)) ho'
      obtain ⟨b3, o3, rfl, g3⟩ := rng_fr13 (HR.out w2 Q2.out) hld
      have C1 := Lib.hid fun (W : World) (q : Below w2.heap.size w2 W) => (show W.cell? ⟨b1, o1 + j * 4 + 3, none⟩ = some (.int .i64 c) from cell_of_rng (E := ESd) (g1 W (Fr.below q)) 3 rfl)
      have C2 := Lib.hid fun (W : World) (q : Below w2.heap.size w2 W) => (show W.cell? ⟨b2, o2 + j * 4 + 3, none⟩ = some (.int .i64 c') from cell_of_rng (E := ESd) (g2 W (Fr.below q)) 3 rfl)
      have C3 := Lib.hid fun (W : World) (q : Below w2.heap.size w2 W) => (show W.cell? ⟨b1, o1 + j * 4 + 2, none⟩ = some (.bool (decide (d.ca + d.v < 0))) from cell_of_rng (E := ESd) (g1 W (Fr.below q)) 2 rfl)
      have C4 := Lib.hid fun (W : World) (q : Below w2.heap.size w2 W) => (show W.cell? ⟨b2, o2 + j * 4 + 2, none⟩ = some (.bool (decide (d.ca + d.v < 0))) from cell_of_rng (E := ESd) (g2 W (Fr.below q)) 2 rfl)
      have C5 := Lib.hid fun (W : World) (q : Below w2.heap.size w2 W) => (show W.cell? ⟨b3, o3 + j * 3 + 1, none⟩ = some (.int .i64 d.ca) from cell_of_rng (E := ED) (g3 W (Fr.below q)) 1 rfl)
      have C6 := Lib.hid fun (W : World) (q : Below w2.heap.size w2 W) => (show W.cell? ⟨b3, o3 + j * 3 + 2, none⟩ = some (.int .i64 d.v) from cell_of_rng (E := ED) (g3 W (Fr.below q)) 2 rfl)
      have x1 := C1.out _ HB.out
      have x2 := C2.out _ HB.out
      unfold In at IN
      obtain ⟨⟨i1, i2⟩, i3, i4⟩ := IN
      clear hld ho ho' s1 s1' g1 g2 g3 hP hP' e1 e2 LB LB' B0 B0' LM HR EM HE R1 R2 KN
      go_wp2_with fail
      refine wp_region_held_drew (S := fun U => Below w2.heap.size w2 U) (by kernel_rfl) (HB.out.drew) (fun hH => ?_)
      by_cases hde : d.ca + d.v < 0
      · have dd : decide (d.ca + d.v < 0) = true := decide_eq_true hde
        have d9 : decide (-d.v ≤ d.ca) = false := decide_eq_false (by omega)
        rw [dd] at C3 C4
        refine wpAnyH_take (i := 0) (v := .slice (some ⟨b1, o1, none⟩) len k1) rfl (by kernel_rfl) (by kernel_rfl) (by kernel_rfl) (fun _ _ _ h => h) (.inl ⟨by rfl, ?_⟩) (by assumption) ?_
        · intro W hW; go_simp
        try simp only [List.getElem_toArray, List.getElem_cons_zero, Act.put, List.setIfInBounds_toArray, List.set_cons_zero, List.set_cons_succ]
        refine wpAnyH_take (i := 1) (v := .int .i64 j) rfl (by kernel_rfl) (by kernel_rfl) (by kernel_rfl) (fun _ _ _ h => h) (.inl ⟨by rfl, ?_⟩) (by assumption) ?_
        · intro W hW; go_simp
        try simp only [List.getElem_toArray, List.getElem_cons_zero, List.getElem_cons_succ, Act.put, List.setIfInBounds_toArray, List.set_cons_zero, List.set_cons_succ]
        refine wpAnyH_take (i := 2) (v := .pointer (some ⟨b1, o1 + j * 4, none⟩)) rfl (by kernel_rfl) (by kernel_rfl) (by kernel_rfl) (fun _ _ _ h => h) (.inl ⟨by rfl, ?_⟩) (by assumption) ?_
        · intro W hW; go_simp
        try simp only [List.getElem_toArray, List.getElem_cons_zero, List.getElem_cons_succ, Act.put, List.setIfInBounds_toArray, List.set_cons_zero, List.set_cons_succ]
        refine wpAnyH_take (i := 3) (v := .pointer (some ⟨b1, o1 + j * 4 + 2, none⟩)) rfl (by kernel_rfl) (by kernel_rfl) (by kernel_rfl) (fun _ _ _ h => h) (.inl ⟨by rfl, ?_⟩) (by assumption) ?_
        · intro W hW; go_simp
        try simp only [List.getElem_toArray, List.getElem_cons_zero, List.getElem_cons_succ, Act.put, List.setIfInBounds_toArray, List.set_cons_zero, List.set_cons_succ]
        refine wpAnyH_take (i := 4) (v := .bool true) rfl (by kernel_rfl) (by kernel_rfl) (by kernel_rfl) (fun _ _ _ h => h) (.inl ⟨by rfl, ?_⟩) (by assumption) ?_
        · intro W hW; have cc := C3.out W hW; go_simp
        try simp only [List.getElem_toArray, List.getElem_cons_zero, List.getElem_cons_succ, Act.put, List.setIfInBounds_toArray, List.set_cons_zero, List.set_cons_succ]
        refine wpAnyH_take (i := 5) (v := .slice (some ⟨b2, o2, none⟩) len k2) rfl (by kernel_rfl) (by kernel_rfl) (by kernel_rfl) (fun _ _ _ h => h) (.inl ⟨by rfl, ?_⟩) (by assumption) ?_
        · intro W hW; go_simp
        try simp only [List.getElem_toArray, List.getElem_cons_zero, List.getElem_cons_succ, Act.put, List.setIfInBounds_toArray, List.set_cons_zero, List.set_cons_succ]
        refine wpAnyH_take (i := 6) (v := .int .i64 j) rfl (by kernel_rfl) (by kernel_rfl) (by kernel_rfl) (fun _ _ _ h => h) (.inl ⟨by rfl, ?_⟩) (by assumption) ?_
        · intro W hW; go_simp
        try simp only [List.getElem_toArray, List.getElem_cons_zero, List.getElem_cons_succ, Act.put, List.setIfInBounds_toArray, List.set_cons_zero, List.set_cons_succ]
        refine wpAnyH_take (i := 7) (v := .pointer (some ⟨b2, o2 + j * 4, none⟩)) rfl (by kernel_rfl) (by kernel_rfl) (by kernel_rfl) (fun _ _ _ h => h) (.inl ⟨by rfl, ?_⟩) (by assumption) ?_
        · intro W hW; go_simp
        try simp only [List.getElem_toArray, List.getElem_cons_zero, List.getElem_cons_succ, Act.put, List.setIfInBounds_toArray, List.set_cons_zero, List.set_cons_succ]
        refine wpAnyH_take (i := 8) (v := .pointer (some ⟨b2, o2 + j * 4 + 2, none⟩)) rfl (by kernel_rfl) (by kernel_rfl) (by kernel_rfl) (fun _ _ _ h => h) (.inl ⟨by rfl, ?_⟩) (by assumption) ?_
        · intro W hW; go_simp
        try simp only [List.getElem_toArray, List.getElem_cons_zero, List.getElem_cons_succ, Act.put, List.setIfInBounds_toArray, List.set_cons_zero, List.set_cons_succ]
        refine wpAnyH_take (i := 9) (v := .bool true) rfl (by kernel_rfl) (by kernel_rfl) (by kernel_rfl) (fun _ _ _ h => h) (.inl ⟨by rfl, ?_⟩) (by assumption) ?_
        · intro W hW; have cc := C4.out W hW; go_simp
        try simp only [List.getElem_toArray, List.getElem_cons_zero, List.getElem_cons_succ, Act.put, List.setIfInBounds_toArray, List.set_cons_zero, List.set_cons_succ]
        refine wpAnyH_take (i := 10) (v := .bool false) rfl (by kernel_rfl) (by kernel_rfl) (by kernel_rfl) (fun _ _ _ h => h) (.inl ⟨by rfl, ?_⟩) (by assumption) ?_
        · intro W hW; go_simp
        try simp only [List.getElem_toArray, List.getElem_cons_zero, List.getElem_cons_succ, Act.put, List.setIfInBounds_toArray, List.set_cons_zero, List.set_cons_succ]
        refine wpAnyH_take (i := 11) (v := .bool false) rfl (by kernel_rfl) (by kernel_rfl) (by kernel_rfl) (fun _ _ _ h => h) (.inl ⟨by rfl, ?_⟩) (by assumption) ?_
        · intro W hW; go_simp
        try simp only [List.getElem_toArray, List.getElem_cons_zero, List.getElem_cons_succ, Act.put, List.setIfInBounds_toArray, List.set_cons_zero, List.set_cons_succ]
        refine wpAnyH_take (i := 12) (v := .slice (some ⟨b1, o1, none⟩) len k1) rfl (by kernel_rfl) (by kernel_rfl) (by kernel_rfl) (fun _ _ _ h => h) (.inl ⟨by rfl, ?_⟩) (by assumption) ?_
        · intro W hW; go_simp
        try simp only [List.getElem_toArray, List.getElem_cons_zero, List.getElem_cons_succ, Act.put, List.setIfInBounds_toArray, List.set_cons_zero, List.set_cons_succ]
        refine wpAnyH_take (i := 13) (v := .int .i64 j) rfl (by kernel_rfl) (by kernel_rfl) (by kernel_rfl) (fun _ _ _ h => h) (.inl ⟨by rfl, ?_⟩) (by assumption) ?_
        · intro W hW; go_simp
        try simp only [List.getElem_toArray, List.getElem_cons_zero, List.getElem_cons_succ, Act.put, List.setIfInBounds_toArray, List.set_cons_zero, List.set_cons_succ]
        refine wpAnyH_take (i := 14) (v := .pointer (some ⟨b1, o1 + j * 4, none⟩)) rfl (by kernel_rfl) (by kernel_rfl) (by kernel_rfl) (fun _ _ _ h => h) (.inl ⟨by rfl, ?_⟩) (by assumption) ?_
        · intro W hW; go_simp
        try simp only [List.getElem_toArray, List.getElem_cons_zero, List.getElem_cons_succ, Act.put, List.setIfInBounds_toArray, List.set_cons_zero, List.set_cons_succ]
        refine wpAnyH_take (i := 15) (v := .pointer (some ⟨b1, o1 + j * 4 + 2, none⟩)) rfl (by kernel_rfl) (by kernel_rfl) (by kernel_rfl) (fun _ _ _ h => h) (.inl ⟨by rfl, ?_⟩) (by assumption) ?_
        · intro W hW; go_simp
        try simp only [List.getElem_toArray, List.getElem_cons_zero, List.getElem_cons_succ, Act.put, List.setIfInBounds_toArray, List.set_cons_zero, List.set_cons_succ]
        refine wpAnyH_take (i := 16) (v := .bool true) rfl (by kernel_rfl) (by kernel_rfl) (by kernel_rfl) (fun _ _ _ h => h) (.inl ⟨by rfl, ?_⟩) (by assumption) ?_
        · intro W hW; have cc := C3.out W hW; go_simp
        try simp only [List.getElem_toArray, List.getElem_cons_zero, List.getElem_cons_succ, Act.put, List.setIfInBounds_toArray, List.set_cons_zero, List.set_cons_succ]
        refine wpAnyH_take (i := 17) (v := .bool true) rfl (by kernel_rfl) (by kernel_rfl) (by kernel_rfl) (fun _ _ _ h => h) (.inl ⟨by rfl, ?_⟩) (by assumption) ?_
        · intro W hW; go_simp
        try simp only [List.getElem_toArray, List.getElem_cons_zero, List.getElem_cons_succ, Act.put, List.setIfInBounds_toArray, List.set_cons_zero, List.set_cons_succ]
        refine wpAnyH_take (i := 18) (v := .slice (some ⟨b3, o3, none⟩) len cap) rfl (by kernel_rfl) (by kernel_rfl) (by kernel_rfl) (fun _ _ _ h => h) (.inl ⟨by rfl, ?_⟩) (by assumption) ?_
        · intro W hW; go_simp
        try simp only [List.getElem_toArray, List.getElem_cons_zero, List.getElem_cons_succ, Act.put, List.setIfInBounds_toArray, List.set_cons_zero, List.set_cons_succ]
        refine wpAnyH_take (i := 19) (v := .int .i64 j) rfl (by kernel_rfl) (by kernel_rfl) (by kernel_rfl) (fun _ _ _ h => h) (.inl ⟨by rfl, ?_⟩) (by assumption) ?_
        · intro W hW; go_simp
        try simp only [List.getElem_toArray, List.getElem_cons_zero, List.getElem_cons_succ, Act.put, List.setIfInBounds_toArray, List.set_cons_zero, List.set_cons_succ]
        refine wpAnyH_take (i := 20) (v := .pointer (some ⟨b3, o3 + j * 3, none⟩)) rfl (by kernel_rfl) (by kernel_rfl) (by kernel_rfl) (fun _ _ _ h => h) (.inl ⟨by rfl, ?_⟩) (by assumption) ?_
        · intro W hW; go_simp
        try simp only [List.getElem_toArray, List.getElem_cons_zero, List.getElem_cons_succ, Act.put, List.setIfInBounds_toArray, List.set_cons_zero, List.set_cons_succ]
        refine wpAnyH_take (i := 21) (v := .pointer (some ⟨b3, o3 + j * 3 + 1, none⟩)) rfl (by kernel_rfl) (by kernel_rfl) (by kernel_rfl) (fun _ _ _ h => h) (.inl ⟨by rfl, ?_⟩) (by assumption) ?_
        · intro W hW; go_simp
        try simp only [List.getElem_toArray, List.getElem_cons_zero, List.getElem_cons_succ, Act.put, List.setIfInBounds_toArray, List.set_cons_zero, List.set_cons_succ]
        refine wpAnyH_take (i := 22) (v := .int .i64 d.ca) rfl (by kernel_rfl) (by kernel_rfl) (by kernel_rfl) (fun _ _ _ h => h) (.inl ⟨by rfl, ?_⟩) (by assumption) ?_
        · intro W hW; have cc := C5.out W hW; go_simp
        try simp only [List.getElem_toArray, List.getElem_cons_zero, List.getElem_cons_succ, Act.put, List.setIfInBounds_toArray, List.set_cons_zero, List.set_cons_succ]
        refine wpAnyH_take (i := 23) (v := .slice (some ⟨b3, o3, none⟩) len cap) rfl (by kernel_rfl) (by kernel_rfl) (by kernel_rfl) (fun _ _ _ h => h) (.inl ⟨by rfl, ?_⟩) (by assumption) ?_
        · intro W hW; go_simp
        try simp only [List.getElem_toArray, List.getElem_cons_zero, List.getElem_cons_succ, Act.put, List.setIfInBounds_toArray, List.set_cons_zero, List.set_cons_succ]
        refine wpAnyH_take (i := 24) (v := .int .i64 j) rfl (by kernel_rfl) (by kernel_rfl) (by kernel_rfl) (fun _ _ _ h => h) (.inl ⟨by rfl, ?_⟩) (by assumption) ?_
        · intro W hW; go_simp
        try simp only [List.getElem_toArray, List.getElem_cons_zero, List.getElem_cons_succ, Act.put, List.setIfInBounds_toArray, List.set_cons_zero, List.set_cons_succ]
        refine wpAnyH_take (i := 25) (v := .pointer (some ⟨b3, o3 + j * 3, none⟩)) rfl (by kernel_rfl) (by kernel_rfl) (by kernel_rfl) (fun _ _ _ h => h) (.inl ⟨by rfl, ?_⟩) (by assumption) ?_
        · intro W hW; go_simp
        try simp only [List.getElem_toArray, List.getElem_cons_zero, List.getElem_cons_succ, Act.put, List.setIfInBounds_toArray, List.set_cons_zero, List.set_cons_succ]
        refine wpAnyH_take (i := 26) (v := .pointer (some ⟨b3, o3 + j * 3 + 2, none⟩)) rfl (by kernel_rfl) (by kernel_rfl) (by kernel_rfl) (fun _ _ _ h => h) (.inl ⟨by rfl, ?_⟩) (by assumption) ?_
        · intro W hW; go_simp
        try simp only [List.getElem_toArray, List.getElem_cons_zero, List.getElem_cons_succ, Act.put, List.setIfInBounds_toArray, List.set_cons_zero, List.set_cons_succ]
        refine wpAnyH_take (i := 27) (v := .int .i64 d.v) rfl (by kernel_rfl) (by kernel_rfl) (by kernel_rfl) (fun _ _ _ h => h) (.inl ⟨by rfl, ?_⟩) (by assumption) ?_
        · intro W hW; have cc := C6.out W hW; go_simp
        try simp only [List.getElem_toArray, List.getElem_cons_zero, List.getElem_cons_succ, Act.put, List.setIfInBounds_toArray, List.set_cons_zero, List.set_cons_succ]
        refine wpAnyH_take (i := 28) (v := .int .i64 (-d.v)) rfl (by kernel_rfl) (by kernel_rfl) (by kernel_rfl) (fun _ _ _ h => h) (.inl ⟨by rfl, ?_⟩) (by assumption) ?_
        · intro W hW; go_simp; rw [IntKind.wrap_i64]; omega
        try simp only [List.getElem_toArray, List.getElem_cons_zero, List.getElem_cons_succ, Act.put, List.setIfInBounds_toArray, List.set_cons_zero, List.set_cons_succ]
        refine wpAnyH_take (i := 29) (v := .bool false) rfl (by kernel_rfl) (by kernel_rfl) (by kernel_rfl) (fun _ _ _ h => h) (.inl ⟨by rfl, ?_⟩) (by assumption) ?_
        · intro W hW; go_simp
        try simp only [List.getElem_toArray, List.getElem_cons_zero, List.getElem_cons_succ, Act.put, List.setIfInBounds_toArray, List.set_cons_zero, List.set_cons_succ]
        refine wpAnyH_take (i := 30) (v := .bool false) rfl (by kernel_rfl) (by kernel_rfl) (by kernel_rfl) (fun _ _ _ h => h) (.inl ⟨by rfl, ?_⟩) (by assumption) ?_
        · intro W hW; go_simp
        try simp only [List.getElem_toArray, List.getElem_cons_zero, List.getElem_cons_succ, Act.put, List.setIfInBounds_toArray, List.set_cons_zero, List.set_cons_succ]
        refine wpAnyH_take (i := 31) (v := .bool false) rfl (by kernel_rfl) (by kernel_rfl) (by kernel_rfl) (fun _ _ _ h => h) (.inl ⟨by rfl, ?_⟩) (by assumption) ?_
        · intro W hW; go_simp
        try simp only [List.getElem_toArray, List.getElem_cons_zero, List.getElem_cons_succ, Act.put, List.setIfInBounds_toArray, List.set_cons_zero, List.set_cons_succ]
        refine wpAnyH_done (by decide +kernel) ?_ _
        go_wp2_with fail
        go_roundw
        case rel => exact ⟨j + 1, hlt, by rw [S1.out], by rw [S1'.out], by go_num, hH⟩
        case measure => simp [intOf]; omega
      · have dd : decide (d.ca + d.v < 0) = false := decide_eq_false hde
        rw [dd] at C3 C4
        refine wpAnyH_take (i := 0) (v := .slice (some ⟨b1, o1, none⟩) len k1) rfl (by kernel_rfl) (by kernel_rfl) (by kernel_rfl) (fun _ _ _ h => h) (.inl ⟨by rfl, ?_⟩) (by assumption) ?_
        · intro W hW; go_simp
        try simp only [List.getElem_toArray, List.getElem_cons_zero, Act.put, List.setIfInBounds_toArray, List.set_cons_zero, List.set_cons_succ]
        refine wpAnyH_take (i := 1) (v := .int .i64 j) rfl (by kernel_rfl) (by kernel_rfl) (by kernel_rfl) (fun _ _ _ h => h) (.inl ⟨by rfl, ?_⟩) (by assumption) ?_
        · intro W hW; go_simp
        try simp only [List.getElem_toArray, List.getElem_cons_zero, List.getElem_cons_succ, Act.put, List.setIfInBounds_toArray, List.set_cons_zero, List.set_cons_succ]
        refine wpAnyH_take (i := 2) (v := .pointer (some ⟨b1, o1 + j * 4, none⟩)) rfl (by kernel_rfl) (by kernel_rfl) (by kernel_rfl) (fun _ _ _ h => h) (.inl ⟨by rfl, ?_⟩) (by assumption) ?_
        · intro W hW; go_simp
        try simp only [List.getElem_toArray, List.getElem_cons_zero, List.getElem_cons_succ, Act.put, List.setIfInBounds_toArray, List.set_cons_zero, List.set_cons_succ]
        refine wpAnyH_take (i := 3) (v := .pointer (some ⟨b1, o1 + j * 4 + 2, none⟩)) rfl (by kernel_rfl) (by kernel_rfl) (by kernel_rfl) (fun _ _ _ h => h) (.inl ⟨by rfl, ?_⟩) (by assumption) ?_
        · intro W hW; go_simp
        try simp only [List.getElem_toArray, List.getElem_cons_zero, List.getElem_cons_succ, Act.put, List.setIfInBounds_toArray, List.set_cons_zero, List.set_cons_succ]
        refine wpAnyH_take (i := 4) (v := .bool false) rfl (by kernel_rfl) (by kernel_rfl) (by kernel_rfl) (fun _ _ _ h => h) (.inl ⟨by rfl, ?_⟩) (by assumption) ?_
        · intro W hW; have cc := C3.out W hW; go_simp
        try simp only [List.getElem_toArray, List.getElem_cons_zero, List.getElem_cons_succ, Act.put, List.setIfInBounds_toArray, List.set_cons_zero, List.set_cons_succ]
        refine wpAnyH_take (i := 5) (v := .slice (some ⟨b2, o2, none⟩) len k2) rfl (by kernel_rfl) (by kernel_rfl) (by kernel_rfl) (fun _ _ _ h => h) (.inl ⟨by rfl, ?_⟩) (by assumption) ?_
        · intro W hW; go_simp
        try simp only [List.getElem_toArray, List.getElem_cons_zero, List.getElem_cons_succ, Act.put, List.setIfInBounds_toArray, List.set_cons_zero, List.set_cons_succ]
        refine wpAnyH_take (i := 6) (v := .int .i64 j) rfl (by kernel_rfl) (by kernel_rfl) (by kernel_rfl) (fun _ _ _ h => h) (.inl ⟨by rfl, ?_⟩) (by assumption) ?_
        · intro W hW; go_simp
        try simp only [List.getElem_toArray, List.getElem_cons_zero, List.getElem_cons_succ, Act.put, List.setIfInBounds_toArray, List.set_cons_zero, List.set_cons_succ]
        refine wpAnyH_take (i := 7) (v := .pointer (some ⟨b2, o2 + j * 4, none⟩)) rfl (by kernel_rfl) (by kernel_rfl) (by kernel_rfl) (fun _ _ _ h => h) (.inl ⟨by rfl, ?_⟩) (by assumption) ?_
        · intro W hW; go_simp
        try simp only [List.getElem_toArray, List.getElem_cons_zero, List.getElem_cons_succ, Act.put, List.setIfInBounds_toArray, List.set_cons_zero, List.set_cons_succ]
        refine wpAnyH_take (i := 8) (v := .pointer (some ⟨b2, o2 + j * 4 + 2, none⟩)) rfl (by kernel_rfl) (by kernel_rfl) (by kernel_rfl) (fun _ _ _ h => h) (.inl ⟨by rfl, ?_⟩) (by assumption) ?_
        · intro W hW; go_simp
        try simp only [List.getElem_toArray, List.getElem_cons_zero, List.getElem_cons_succ, Act.put, List.setIfInBounds_toArray, List.set_cons_zero, List.set_cons_succ]
        refine wpAnyH_take (i := 9) (v := .bool false) rfl (by kernel_rfl) (by kernel_rfl) (by kernel_rfl) (fun _ _ _ h => h) (.inl ⟨by rfl, ?_⟩) (by assumption) ?_
        · intro W hW; have cc := C4.out W hW; go_simp
        try simp only [List.getElem_toArray, List.getElem_cons_zero, List.getElem_cons_succ, Act.put, List.setIfInBounds_toArray, List.set_cons_zero, List.set_cons_succ]
        refine wpAnyH_take (i := 10) (v := .bool false) rfl (by kernel_rfl) (by kernel_rfl) (by kernel_rfl) (fun _ _ _ h => h) (.inl ⟨by rfl, ?_⟩) (by assumption) ?_
        · intro W hW; go_simp
        try simp only [List.getElem_toArray, List.getElem_cons_zero, List.getElem_cons_succ, Act.put, List.setIfInBounds_toArray, List.set_cons_zero, List.set_cons_succ]
        refine wpAnyH_take (i := 11) (v := .bool false) rfl (by kernel_rfl) (by kernel_rfl) (by kernel_rfl) (fun _ _ _ h => h) (.inl ⟨by rfl, ?_⟩) (by assumption) ?_
        · intro W hW; go_simp
        try simp only [List.getElem_toArray, List.getElem_cons_zero, List.getElem_cons_succ, Act.put, List.setIfInBounds_toArray, List.set_cons_zero, List.set_cons_succ]
        refine wpAnyH_take (i := 12) (v := .slice (some ⟨b1, o1, none⟩) len k1) rfl (by kernel_rfl) (by kernel_rfl) (by kernel_rfl) (fun _ _ _ h => h) (.inl ⟨by rfl, ?_⟩) (by assumption) ?_
        · intro W hW; go_simp
        try simp only [List.getElem_toArray, List.getElem_cons_zero, List.getElem_cons_succ, Act.put, List.setIfInBounds_toArray, List.set_cons_zero, List.set_cons_succ]
        refine wpAnyH_take (i := 13) (v := .int .i64 j) rfl (by kernel_rfl) (by kernel_rfl) (by kernel_rfl) (fun _ _ _ h => h) (.inl ⟨by rfl, ?_⟩) (by assumption) ?_
        · intro W hW; go_simp
        try simp only [List.getElem_toArray, List.getElem_cons_zero, List.getElem_cons_succ, Act.put, List.setIfInBounds_toArray, List.set_cons_zero, List.set_cons_succ]
        refine wpAnyH_take (i := 14) (v := .pointer (some ⟨b1, o1 + j * 4, none⟩)) rfl (by kernel_rfl) (by kernel_rfl) (by kernel_rfl) (fun _ _ _ h => h) (.inl ⟨by rfl, ?_⟩) (by assumption) ?_
        · intro W hW; go_simp
        try simp only [List.getElem_toArray, List.getElem_cons_zero, List.getElem_cons_succ, Act.put, List.setIfInBounds_toArray, List.set_cons_zero, List.set_cons_succ]
        refine wpAnyH_take (i := 15) (v := .pointer (some ⟨b1, o1 + j * 4 + 2, none⟩)) rfl (by kernel_rfl) (by kernel_rfl) (by kernel_rfl) (fun _ _ _ h => h) (.inl ⟨by rfl, ?_⟩) (by assumption) ?_
        · intro W hW; go_simp
        try simp only [List.getElem_toArray, List.getElem_cons_zero, List.getElem_cons_succ, Act.put, List.setIfInBounds_toArray, List.set_cons_zero, List.set_cons_succ]
        refine wpAnyH_take (i := 16) (v := .bool false) rfl (by kernel_rfl) (by kernel_rfl) (by kernel_rfl) (fun _ _ _ h => h) (.inl ⟨by rfl, ?_⟩) (by assumption) ?_
        · intro W hW; have cc := C3.out W hW; go_simp
        try simp only [List.getElem_toArray, List.getElem_cons_zero, List.getElem_cons_succ, Act.put, List.setIfInBounds_toArray, List.set_cons_zero, List.set_cons_succ]
        refine wpAnyH_take (i := 17) (v := .bool false) rfl (by kernel_rfl) (by kernel_rfl) (by kernel_rfl) (fun _ _ _ h => h) (.inl ⟨by rfl, ?_⟩) (by assumption) ?_
        · intro W hW; go_simp
        try simp only [List.getElem_toArray, List.getElem_cons_zero, List.getElem_cons_succ, Act.put, List.setIfInBounds_toArray, List.set_cons_zero, List.set_cons_succ]
        refine wpAnyH_take (i := 18) (v := undef) rfl (by kernel_rfl) (by kernel_rfl) (by kernel_rfl) (fun _ _ _ h => h) (.inr ⟨by rfl, rfl⟩) (by assumption) ?_
        try simp only [List.getElem_toArray, List.getElem_cons_zero, List.getElem_cons_succ, Act.put, List.setIfInBounds_toArray, List.set_cons_zero, List.set_cons_succ]
        refine wpAnyH_take (i := 19) (v := undef) rfl (by kernel_rfl) (by kernel_rfl) (by kernel_rfl) (fun _ _ _ h => h) (.inr ⟨by rfl, rfl⟩) (by assumption) ?_
        try simp only [List.getElem_toArray, List.getElem_cons_zero, List.getElem_cons_succ, Act.put, List.setIfInBounds_toArray, List.set_cons_zero, List.set_cons_succ]
        refine wpAnyH_take (i := 20) (v := undef) rfl (by kernel_rfl) (by kernel_rfl) (by kernel_rfl) (fun _ _ _ h => h) (.inr ⟨by rfl, rfl⟩) (by assumption) ?_
        try simp only [List.getElem_toArray, List.getElem_cons_zero, List.getElem_cons_succ, Act.put, List.setIfInBounds_toArray, List.set_cons_zero, List.set_cons_succ]
        refine wpAnyH_take (i := 21) (v := undef) rfl (by kernel_rfl) (by kernel_rfl) (by kernel_rfl) (fun _ _ _ h => h) (.inr ⟨by rfl, rfl⟩) (by assumption) ?_
        try simp only [List.getElem_toArray, List.getElem_cons_zero, List.getElem_cons_succ, Act.put, List.setIfInBounds_toArray, List.set_cons_zero, List.set_cons_succ]
        refine wpAnyH_take (i := 22) (v := undef) rfl (by kernel_rfl) (by kernel_rfl) (by kernel_rfl) (fun _ _ _ h => h) (.inr ⟨by rfl, rfl⟩) (by assumption) ?_
        try simp only [List.getElem_toArray, List.getElem_cons_zero, List.getElem_cons_succ, Act.put, List.setIfInBounds_toArray, List.set_cons_zero, List.set_cons_succ]
        refine wpAnyH_take (i := 23) (v := undef) rfl (by kernel_rfl) (by kernel_rfl) (by kernel_rfl) (fun _ _ _ h => h) (.inr ⟨by rfl, rfl⟩) (by assumption) ?_
        try simp only [List.getElem_toArray, List.getElem_cons_zero, List.getElem_cons_succ, Act.put, List.setIfInBounds_toArray, List.set_cons_zero, List.set_cons_succ]
        refine wpAnyH_take (i := 24) (v := undef) rfl (by kernel_rfl) (by kernel_rfl) (by kernel_rfl) (fun _ _ _ h => h) (.inr ⟨by rfl, rfl⟩) (by assumption) ?_
        try simp only [List.getElem_toArray, List.getElem_cons_zero, List.getElem_cons_succ, Act.put, List.setIfInBounds_toArray, List.set_cons_zero, List.set_cons_succ]
        refine wpAnyH_take (i := 25) (v := undef) rfl (by kernel_rfl) (by kernel_rfl) (by kernel_rfl) (fun _ _ _ h => h) (.inr ⟨by rfl, rfl⟩) (by assumption) ?_
        try simp only [List.getElem_toArray, List.getElem_cons_zero, List.getElem_cons_succ, Act.put, List.setIfInBounds_toArray, List.set_cons_zero, List.set_cons_succ]
        refine wpAnyH_take (i := 26) (v := undef) rfl (by kernel_rfl) (by kernel_rfl) (by kernel_rfl) (fun _ _ _ h => h) (.inr ⟨by rfl, rfl⟩) (by assumption) ?_
        try simp only [List.getElem_toArray, List.getElem_cons_zero, List.getElem_cons_succ, Act.put, List.setIfInBounds_toArray, List.set_cons_zero, List.set_cons_succ]
        refine wpAnyH_take (i := 27) (v := undef) rfl (by kernel_rfl) (by kernel_rfl) (by kernel_rfl) (fun _ _ _ h => h) (.inr ⟨by rfl, rfl⟩) (by assumption) ?_
        try simp only [List.getElem_toArray, List.getElem_cons_zero, List.getElem_cons_succ, Act.put, List.setIfInBounds_toArray, List.set_cons_zero, List.set_cons_succ]
        refine wpAnyH_take (i := 28) (v := undef) rfl (by kernel_rfl) (by kernel_rfl) (by kernel_rfl) (fun _ _ _ h => h) (.inr ⟨by rfl, rfl⟩) (by assumption) ?_
        try simp only [List.getElem_toArray, List.getElem_cons_zero, List.getElem_cons_succ, Act.put, List.setIfInBounds_toArray, List.set_cons_zero, List.set_cons_succ]
        refine wpAnyH_take (i := 29) (v := undef) rfl (by kernel_rfl) (by kernel_rfl) (by kernel_rfl) (fun _ _ _ h => h) (.inr ⟨by rfl, rfl⟩) (by assumption) ?_
        try simp only [List.getElem_toArray, List.getElem_cons_zero, List.getElem_cons_succ, Act.put, List.setIfInBounds_toArray, List.set_cons_zero, List.set_cons_succ]
        refine wpAnyH_take (i := 30) (v := .bool false) rfl (by kernel_rfl) (by kernel_rfl) (by kernel_rfl) (fun _ _ _ h => h) (.inl ⟨by rfl, ?_⟩) (by assumption) ?_
        · intro W hW; go_simp
        try simp only [List.getElem_toArray, List.getElem_cons_zero, List.getElem_cons_succ, Act.put, List.setIfInBounds_toArray, List.set_cons_zero, List.set_cons_succ]
        refine wpAnyH_take (i := 31) (v := .bool false) rfl (by kernel_rfl) (by kernel_rfl) (by kernel_rfl) (fun _ _ _ h => h) (.inl ⟨by rfl, ?_⟩) (by assumption) ?_
        · intro W hW; go_simp
        try simp only [List.getElem_toArray, List.getElem_cons_zero, List.getElem_cons_succ, Act.put, List.setIfInBounds_toArray, List.set_cons_zero, List.set_cons_succ]
        refine wpAnyH_done (by decide +kernel) ?_ _
        go_wp2_with fail
        go_roundw
        case rel => exact ⟨j + 1, hlt, by rw [S1.out], by rw [S1'.out], by go_num, hH⟩
        case measure => simp [intOf]; omega
end Go.Proofs.Ytlbekdpmfjhjhaa
