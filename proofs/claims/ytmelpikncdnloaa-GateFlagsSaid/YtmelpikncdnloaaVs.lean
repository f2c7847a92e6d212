/- The program's May and IsPrice of a contract's data: for later seats. -/
import Derived.Test.YtmelpikncdnloaaQc
import Derived.Test.YtmelpikncdnloaaQa
import Derived.Lib.MinMax
namespace Go.Proofs.Ytmelpikncdnloaa
open Go.RowKit


set_option maxRecDepth 100000 in
theorem pamong_any (n l m : Int) (w : World) : Calls Try.prog 26 #[.int .i64 n, .int .i64 l, .int .i64 m] w fun e w' => e = .returned (.bool (amB n l m)) ∧ w = w' := by
  unfold amB
  by_cases h1 : l ≤ n
  · by_cases h2 : n ≤ m
    · rw [decide_eq_true (show l ≤ n ∧ n ≤ m from ⟨h1, h2⟩)]
      have d1 : decide (l ≤ n) = true := decide_eq_true h1
      have d2 : decide (n ≤ m) = true := decide_eq_true h2
      go_enter Try.func26, Try.ntmps26
      go_wp2
      go_ret
      exact ⟨rfl, rfl⟩
    · rw [decide_eq_false (show ¬ (l ≤ n ∧ n ≤ m) from fun h => h2 h.2)]
      have d1 : decide (l ≤ n) = true := decide_eq_true h1
      have d2 : decide (n ≤ m) = false := decide_eq_false h2
      go_enter Try.func26, Try.ntmps26
      go_wp2
      go_ret
      exact ⟨rfl, rfl⟩
  · rw [decide_eq_false (show ¬ (l ≤ n ∧ n ≤ m) from fun h => h1 h.1)]
    have d1 : decide (l ≤ n) = false := decide_eq_false h1
    go_enter Try.func26, Try.ntmps26
    go_wp2
    go_ret
    exact ⟨rfl, rfl⟩
/-- A multiple of a step, up to a bound. -/
def stB (n t m : Int) : Bool := decide ((1 ≤ n ∧ n ≤ m) ∧ n % t = 0)
theorem stB_no {n t m : Int} (h : amB n 1 m = false) : stB n t m = false := by
  refine decide_eq_false fun c => ?_
  rw [amB_iff.2 c.1] at h
  cases h
set_option maxRecDepth 100000 in
theorem psteps_any (n t m : Int) (w : World) (ht : 1 ≤ t ∧ t ≤ 10000000) : Calls Try.prog 22 #[.int .i64 n, .int .i64 t, .int .i64 m] w fun e w' => e = .returned (.bool (stB n t m)) ∧ w = w' := by
  have AM := Lib.hid (fun W => pamong_any n 1 m W)
  obtain ⟨t1, t2⟩ := ht
  cases ha : amB n 1 m
  · rw [stB_no ha]
    rw [ha] at AM
    clear ha
    go_enter Try.func22, Try.ntmps22
    go_wp2_with fail
    refine (AM.out _).mono ?_; rintro e w' ⟨rfl, rfl⟩
    go_wp2_with fail
    go_ret
    exact ⟨rfl, rfl⟩
  · obtain ⟨n1, n2⟩ := amB_iff.1 ha
    have H : Hid (stB n t m = (n % t == 0)) := Lib.hid (by
      unfold stB
      by_cases c : n % t = 0
      · rw [decide_eq_true ⟨⟨n1, n2⟩, c⟩, beq_iff_eq.2 c]
      · rw [decide_eq_false (fun h => c h.2)]
        exact (beq_eq_false_iff_ne.2 c).symm)
    rw [H.out]
    rw [ha] at AM
    clear ha H
    go_enter Try.func22, Try.ntmps22
    go_wp2_with fail
    refine (AM.out _).mono ?_; rintro e w' ⟨rfl, rfl⟩
    go_wp2_with fail
    go_ret
    exact ⟨rfl, rfl⟩
/-- What Within answers; what Sub tells. -/
def withinB (a m : Int) : Bool := decide (0 ≤ m ∧ -m ≤ a ∧ a ≤ m)
theorem within_pos {a m : Int} (h : 0 ≤ m ∧ -m ≤ a ∧ a ≤ m) : withinB a m = true := decide_eq_true h
theorem within_neg {a m : Int} (h : ¬ (0 ≤ m ∧ -m ≤ a ∧ a ≤ m)) : withinB a m = false := decide_eq_false h
theorem ansB {x x' : Bool} (h : x = x') : Ending.returned (.bool x) = Ending.returned (.bool x') := by rw [h]
set_option maxHeartbeats 400000 in
theorem pwithin_any (a m : Int) (ha : I64 a) (hm : I64 m) (w : World) :
    Calls Try.prog 20 #[.int .i64 a, .int .i64 m] w fun e w' => e = .returned (.bool (withinB a m)) ∧ w = w' := by
  unfold I64 at ha hm
  obtain ⟨ha1, ha2⟩ := ha
  obtain ⟨hm1, hm2⟩ := hm
  by_cases h0 : 0 ≤ m
  · by_cases h1 : -m ≤ a
    · by_cases h2 : a ≤ m
      · have H := Lib.hid (within_pos ⟨h0, h1, h2⟩)
        go_enter Try.func20, Try.ntmps20
        go_wp2
        go_ret
        exact ⟨ansB H.out.symm, rfl⟩
      · have H := Lib.hid (within_neg (a := a) (m := m) (by omega))
        go_enter Try.func20, Try.ntmps20
        go_wp2
        go_ret
        exact ⟨ansB H.out.symm, rfl⟩
    · have H := Lib.hid (within_neg (a := a) (m := m) (by omega))
      go_enter Try.func20, Try.ntmps20
      go_wp2
      go_ret
      exact ⟨ansB H.out.symm, rfl⟩
  · have H := Lib.hid (within_neg (a := a) (m := m) (by omega))
    go_enter Try.func20, Try.ntmps20
    go_wp2
    go_ret
    exact ⟨ansB H.out.symm, rfl⟩
theorem up_max (x y : Int) : decide (0 < max x y) = (decide (0 < x) || decide (0 < y)) := by
  rw [Int.max_def]
  split <;> by_cases hx : 0 < x <;> by_cases hy : 0 < y <;> simp [hx, hy] <;> omega
theorem down_min (x y : Int) : decide (min x y < 0) = (decide (x < 0) || decide (y < 0)) := by
  rw [Int.min_def]
  split <;> by_cases hx : x < 0 <;> by_cases hy : y < 0 <;> simp [hx, hy] <;> omega
set_option maxRecDepth 100000 in
theorem pmax_any (g : Nat) (l : List Int) (w : World) (hl : l.length = 16) (hc : ∀ j, j < 16 → w.cell? ⟨g, j, none⟩ = some (.int .i64 (l.getD j 0))) :
    Calls Try.prog 28 #[.slice (some ⟨g, 0, none⟩) 16 16] w fun e w' => (∃ m, e = .returned (.int .i64 m) ∧ decide (0 < m) = someUp l) ∧ w = w' := by
  have c0 := hc 0 (by decide)
  have HC := Lib.hid hc
  have HL := Lib.hid hl
  clear hc hl
  go_enter Try.func28, Try.ntmps28
  go_wp2_with fail
  go_loop [3, 4] (fun m i => ∃ (k : Nat) (x : Int), 1 ≤ k ∧ k ≤ 16 ∧ i = .int .i64 k ∧ m = .int .i64 x ∧ decide (0 < x) = someUp (l.take k)) (fun _ i => 16 - (intOf i).toNat)
  case atStart =>
    refine ⟨1, _, Nat.le_refl _, by decide, rfl, rfl, ?_⟩
    rw [take_more (by rw [HL.out]; decide), up_snoc]
    rfl
  case round =>
    obtain ⟨k, x, hk1, hk, rfl, rfl, hx⟩ := hrel
    have HX := Lib.hid hx
    clear hx
    by_cases hlt : k < 16
    case pos =>
      have ck := HC.out k hlt
      have hd : decide ((k : Int) < 16) = true := decide_eq_true (by omega)
      clear c0
      go_wp2_with fail
      go_round
      case rel =>
        refine ⟨k + 1, _, by omega, hlt, by go_num, rfl, ?_⟩
        rw [up_max, HX.out, take_more (by rw [HL.out]; exact hlt), up_snoc]
        rfl
      case measure => simp [intOf]; omega
    case neg =>
      obtain rfl : k = 16 := by omega
      clear c0
      go_wp2_with fail
      go_ret
      refine ⟨⟨x, rfl, ?_⟩, rfl⟩
      rw [HX.out, List.take_of_length_le (by rw [HL.out]; exact Nat.le_refl _)]
set_option maxRecDepth 100000 in
theorem pmin_any (g : Nat) (l : List Int) (w : World) (hl : l.length = 16) (hc : ∀ j, j < 16 → w.cell? ⟨g, j, none⟩ = some (.int .i64 (l.getD j 0))) :
    Calls Try.prog 29 #[.slice (some ⟨g, 0, none⟩) 16 16] w fun e w' => (∃ m, e = .returned (.int .i64 m) ∧ decide (m < 0) = someDown l) ∧ w = w' := by
  have c0 := hc 0 (by decide)
  have HC := Lib.hid hc
  have HL := Lib.hid hl
  clear hc hl
  go_enter Try.func29, Try.ntmps29
  go_wp2_with fail
  go_loop [3, 4] (fun m i => ∃ (k : Nat) (x : Int), 1 ≤ k ∧ k ≤ 16 ∧ i = .int .i64 k ∧ m = .int .i64 x ∧ decide (x < 0) = someDown (l.take k)) (fun _ i => 16 - (intOf i).toNat)
  case atStart =>
    refine ⟨1, _, Nat.le_refl _, by decide, rfl, rfl, ?_⟩
    rw [take_more (by rw [HL.out]; decide), down_snoc]
    rfl
  case round =>
    obtain ⟨k, x, hk1, hk, rfl, rfl, hx⟩ := hrel
    have HX := Lib.hid hx
    clear hx
    by_cases hlt : k < 16
    case pos =>
      have ck := HC.out k hlt
      have hd : decide ((k : Int) < 16) = true := decide_eq_true (by omega)
      clear c0
      go_wp2_with fail
      go_round
      case rel =>
        refine ⟨k + 1, _, by omega, hlt, by go_num, rfl, ?_⟩
        rw [down_min, HX.out, take_more (by rw [HL.out]; exact hlt), down_snoc]
        rfl
      case measure => simp [intOf]; omega
    case neg =>
      obtain rfl : k = 16 := by omega
      clear c0
      go_wp2_with fail
      go_ret
      refine ⟨⟨x, rfl, ?_⟩, rfl⟩
      rw [HX.out, List.take_of_length_le (by rw [HL.out]; exact Nat.le_refl _)]

def shB (l : List Int) : Bool := l.all (fun x => amB x (-10000000) 10000000) && someUp l && someDown l
theorem within_am (x : Int) : withinB x 10000000 = amB x (-10000000) 10000000 := by
  unfold withinB amB
  by_cases h : -10000000 ≤ x ∧ x ≤ 10000000
  · rw [decide_eq_true h, decide_eq_true ⟨by decide, h⟩]
  · rw [decide_eq_false h, decide_eq_false (fun c => h c.2)]
theorem all_snoc {l : List Int} {k : Nat} (h : k < l.length) (p : Int → Bool) : (l.take (k + 1)).all p = ((l.take k).all p && p (l.getD k 0)) := by
  rw [take_more h]
  simp
theorem shB_bad {l : List Int} {k : Nat} (hk : k < l.length) (hx : amB (l.getD k 0) (-10000000) 10000000 = false) : shB l = false := by
  have : l.all (fun x => amB x (-10000000) 10000000) = false := by
    rw [List.all_eq_false]
    refine ⟨l.getD k 0, ?_, by rw [hx]; exact Bool.false_ne_true⟩
    rw [show l.getD k 0 = l[k] from by simp [List.getD, hk]]
    exact List.getElem_mem _
  unfold shB
  rw [this]
  simp
theorem arr_size {s : Sp} (h : s.sh.length = 16) : s.arr.size = 16 := by simp [Sp.arr, h]
theorem arr_at {s : Sp} (h : s.sh.length = 16) (j : Nat) (hj : j < 16) : s.arr[j]? = some (.int .i64 (s.sh.getD j 0)) := by
  have : j < s.sh.length := by omega
  simp [Sp.arr, List.getD, this]
set_option maxRecDepth 100000 in
set_option maxHeartbeats 2000000 in
theorem pshift_any (s : Sp) (w : World) (hl : s.sh.length = 16) (hi : ∀ x, x ∈ s.sh → I64 x) : Calls Try.prog 27 #[.agg s.arr] w fun e w' => e = .returned (.bool (shB s.sh)) ∧ Below w.heap.size w w' := by
  have HG := heap_alloc_new w (.cells s.arr 23)
  have HI : Option.map (fun x => x.size) (Try.prog.info? 23) = some s.arr.size := by rw [info_arr, arr_size hl]
  have B := Lib.hid ((Below.refl w.heap.size w).alloc (Nat.le_refl _) (.cells s.arr 23))
  have CC : ∀ j, j < 16 → (w.alloc (.cells s.arr 23)).cell? ⟨w.heap.size, j, none⟩ = some (.int .i64 (s.sh.getD j 0)) := fun j hj => by
    rw [cell_of_row _ _ _ _ _ _ HG, arr_at hl j hj]
  have MX := Lib.hid (pmax_any w.heap.size s.sh (w.alloc (.cells s.arr 23)) hl CC)
  have MN := Lib.hid (pmin_any w.heap.size s.sh (w.alloc (.cells s.arr 23)) hl CC)
  have HL := Lib.hid hl
  have HS := Lib.hid hi
  have WI := Lib.hid (fun (x : Int) (h : I64 x) W => pwithin_any x 10000000 h (by unfold I64; omega) W)
  clear CC hi hl
  go_enter Try.func27, Try.ntmps27
  go_wp2_with ((with_reducible refine wpList_load_row rfl 23 (.tmp 1) rfl w.heap.size rfl 23 s.arr (0, 0) _ HG Try.underlying23 rfl HI ?_))
  go_loop [6] (fun i => ∃ (k : Nat), k ≤ 16 ∧ i = .int .i64 k ∧ (s.sh.take k).all (fun x => amB x (-10000000) 10000000) = true) (fun i => 16 - (intOf i).toNat)
  case atStart => exact ⟨0, Nat.zero_le _, rfl, rfl⟩
  case round =>
    obtain ⟨k, hk, rfl, ha⟩ := hrel
    have HA := Lib.hid ha
    clear ha
    by_cases hlt : k < 16
    case pos =>
      have hd : decide ((k : Int) < 16) = true := decide_eq_true (by omega)
      have hx := HS.out (s.sh.getD k 0) (by
        have h3 : k < s.sh.length := by rw [HL.out]; exact hlt
        rw [show s.sh.getD k 0 = s.sh[k] from by simp [List.getD, h3]]
        exact List.getElem_mem _)
      have WX := Lib.hid (WI.out _ hx)
      rw [within_am] at WX
      cases hb : amB (s.sh.getD k 0) (-10000000) 10000000
      · have SB := Lib.hid (shB_bad (by rw [HL.out]; exact hlt) hb)
        rw [hb] at WX
        clear hb hx
        go_wp2_with ((with_reducible refine wl_index_arr (k := k) HL.out hlt ?_ ?_ ?_); rfl; rfl)
        refine (WX.out _).mono ?_; rintro e w' ⟨rfl, rfl⟩
        go_wp2_with fail
        go_ret
        rw [SB.out]
        exact ⟨rfl, B.out⟩
      · rw [hb] at WX
        have AL : Hid ((s.sh.take (k + 1)).all (fun x => amB x (-10000000) 10000000) = true) := Lib.hid (by rw [all_snoc (by rw [HL.out]; exact hlt), HA.out, hb]; rfl)
        clear hb hx
        go_wp2_with ((with_reducible refine wl_index_arr (k := k) HL.out hlt ?_ ?_ ?_); rfl; rfl)
        refine (WX.out _).mono ?_; rintro e w' ⟨rfl, rfl⟩
        go_wp2_with fail
        go_round
        case rel => exact ⟨k + 1, hlt, by go_num, AL.out⟩
        case measure => simp [intOf]; omega
    case neg =>
      obtain rfl : k = 16 := by omega
      have AL : Hid (s.sh.all (fun x => amB x (-10000000) 10000000) = true) := Lib.hid (by
        have := HA.out
        rwa [List.take_of_length_le (by rw [HL.out]; exact Nat.le_refl _)] at this)
      go_wp2_with fail
      refine MX.out.mono ?_; rintro e w' ⟨⟨m, rfl, hm⟩, rfl⟩
      cases hu : someUp s.sh
      · have HE : Hid (shB s.sh = false) := Lib.hid (by unfold shB; rw [hu]; simp)
        rw [hu] at hm
        clear hu
        go_wp2_with fail
        go_ret
        rw [HE.out]
        exact ⟨rfl, B.out⟩
      · have HE : Hid (shB s.sh = someDown s.sh) := Lib.hid (by unfold shB; rw [hu, AL.out]; simp)
        rw [hu] at hm
        clear hu
        go_wp2_with fail
        refine MN.out.mono ?_; rintro e w' ⟨⟨m2, rfl, hm2⟩, rfl⟩
        go_wp2_with fail
        go_ret
        rw [HE.out, ← hm2]
        exact ⟨rfl, B.out⟩

theorem wl_load_arrg {ops : Array Oper} {rest : List Oper} {a : Act} {w : World} {Q : Exit → Act → World → Prop} {d : Option Nat} {x : Operand} {ty : TypeId} {ps : String} {af : Array Edge} {gd : Option (Nat × Bool)} {s : Sp} (g : Nat) (hb : Box w g s)
    (hw : Region.wanted ⟨d, .load 23 x, ty, ps, af, gd⟩ (yielded ops a.tmps) = true) (hx : a.eval x = .pointer (some ⟨g, 6, none⟩))
    (h : wpList Try.prog ops Q rest (a.put d (.agg s.arr)) w) : wpList Try.prog ops Q (⟨d, .load 23 x, ty, ps, af, gd⟩ :: rest) a w :=
  BigFrame.wpList_want hw fun _ hK => wp_load_mid 23 x rfl g 6 hx (s.sh.map (Value.int .i64)) _ hb.range Try.underlying23 rfl (by rw [info_arr, List.length_map, hb.2]) (hK _ _ h)
theorem may_split (s : Sp) : mayB s = (decide (s.nu ≠ 0) && amB s.ro 1 8 && amB s.ti 1 10000000 && amB s.lo 1 1000000 && amB s.ba 0 10000000 && amB s.li 1 10000000 && shB s.sh && amB s.cr 0 10000000 && stB s.fi s.ti 10000000) := by
  unfold mayB headB shB stB prB
  cases amB s.cr 0 10000000 <;> simp [Bool.and_assoc]
theorem may_fails {s : Sp} (h : mayB s = false) : s.nu = 0 ∨
    (s.nu ≠ 0 ∧ amB s.ro 1 8 = false) ∨
    (s.nu ≠ 0 ∧ amB s.ro 1 8 = true ∧ amB s.ti 1 10000000 = false) ∨
    (s.nu ≠ 0 ∧ amB s.ro 1 8 = true ∧ amB s.ti 1 10000000 = true ∧ amB s.lo 1 1000000 = false) ∨
    (s.nu ≠ 0 ∧ amB s.ro 1 8 = true ∧ amB s.ti 1 10000000 = true ∧ amB s.lo 1 1000000 = true ∧ amB s.ba 0 10000000 = false) ∨
    (s.nu ≠ 0 ∧ amB s.ro 1 8 = true ∧ amB s.ti 1 10000000 = true ∧ amB s.lo 1 1000000 = true ∧ amB s.ba 0 10000000 = true ∧ amB s.li 1 10000000 = false) ∨
    (s.nu ≠ 0 ∧ amB s.ro 1 8 = true ∧ amB s.ti 1 10000000 = true ∧ amB s.lo 1 1000000 = true ∧ amB s.ba 0 10000000 = true ∧ amB s.li 1 10000000 = true ∧ shB s.sh = false) ∨
    (s.nu ≠ 0 ∧ amB s.ro 1 8 = true ∧ amB s.ti 1 10000000 = true ∧ amB s.lo 1 1000000 = true ∧ amB s.ba 0 10000000 = true ∧ amB s.li 1 10000000 = true ∧ shB s.sh = true ∧ amB s.cr 0 10000000 = false) ∨
    (s.nu ≠ 0 ∧ amB s.ro 1 8 = true ∧ amB s.ti 1 10000000 = true ∧ amB s.lo 1 1000000 = true ∧ amB s.ba 0 10000000 = true ∧ amB s.li 1 10000000 = true ∧ shB s.sh = true ∧ amB s.cr 0 10000000 = true ∧ stB s.fi s.ti 10000000 = false) := by
  rw [may_split] at h
  by_cases a : s.nu = 0
  · exact .inl a
  rw [decide_eq_true a] at h
  refine .inr ?_
  cases c1 : amB s.ro 1 8
  · exact .inl ⟨a, rfl⟩
  refine .inr ?_
  cases c2 : amB s.ti 1 10000000
  · exact .inl ⟨a, rfl, rfl⟩
  refine .inr ?_
  cases c3 : amB s.lo 1 1000000
  · exact .inl ⟨a, rfl, rfl, rfl⟩
  refine .inr ?_
  cases c4 : amB s.ba 0 10000000
  · exact .inl ⟨a, rfl, rfl, rfl, rfl⟩
  refine .inr ?_
  cases c5 : amB s.li 1 10000000
  · exact .inl ⟨a, rfl, rfl, rfl, rfl, rfl⟩
  refine .inr ?_
  cases c6 : shB s.sh
  · exact .inl ⟨a, rfl, rfl, rfl, rfl, rfl, rfl⟩
  refine .inr ?_
  cases c7 : amB s.cr 0 10000000
  · exact .inl ⟨a, rfl, rfl, rfl, rfl, rfl, rfl, rfl⟩
  refine .inr ⟨a, rfl, rfl, rfl, rfl, rfl, rfl, rfl, ?_⟩
  rw [c1, c2, c3, c4, c5, c6, c7] at h
  simpa using h
theorem may_holds {s : Sp} (h : mayB s = true) : s.nu ≠ 0 ∧ amB s.ro 1 8 = true ∧ amB s.ti 1 10000000 = true ∧ amB s.lo 1 1000000 = true ∧ amB s.ba 0 10000000 = true ∧ amB s.li 1 10000000 = true ∧ shB s.sh = true ∧ amB s.cr 0 10000000 = true ∧ stB s.fi s.ti 10000000 = true := by
  rw [may_split] at h
  simp only [Bool.and_eq_true, decide_eq_true_eq] at h
  obtain ⟨⟨⟨⟨⟨⟨⟨⟨a, b⟩, c⟩, d⟩, e⟩, f⟩, g⟩, i⟩, j⟩ := h
  exact ⟨a, b, c, d, e, f, g, i, j⟩
set_option maxRecDepth 100000 in
set_option maxHeartbeats 4000000 in
theorem pmay_no (s : Sp) (w : World) (ok : s.ok) (hm : mayB s = false) : Calls Try.prog 21 #[.agg s.cells] w fun e w' => e = .returned (.bool false) ∧ Below w.heap.size w w' := by
  have AM := Lib.hid (fun n l m W => pamong_any n l m W)
  have SH := Lib.hid (fun W => pshift_any s W ok.len ok.sh)
  have ST := Lib.hid (fun W h => psteps_any s.fi s.ti 10000000 W h)
  have C0 := s.c0
  have C1 := s.c1
  have C2 := s.c2
  have C3 := s.c3
  have C4 := s.c4
  have C5 := s.c5
  have C22 := Lib.hid (Sp.c22 ok.len)
  have C24 := Lib.hid (Sp.c24 ok.len)
  have o1 := ok.nu
  have o2 := ok.ro
  have hf := may_fails hm
  have B := Lib.hid ((Below.refl w.heap.size w).alloc (Nat.le_refl _) (.cells s.cells 25))
  have HB := Lib.hid (box_new w ok.len)
  clear hm ok
  obtain ⟨o1a, o1b⟩ := o1
  obtain ⟨o2a, o2b⟩ := o2
  obtain ⟨nu, hnu⟩ : ∃ nu, s.nu = nu := ⟨_, rfl⟩
  obtain ⟨ro, hro⟩ : ∃ ro, s.ro = ro := ⟨_, rfl⟩
  rw [hnu] at C0 hf o1a o1b
  rw [hro] at C1 hf o2a o2b
  clear hnu hro
  rcases hf with rfl | ⟨a, d0⟩ | ⟨a, d0, d1⟩ | ⟨a, d0, d1, d2⟩ | ⟨a, d0, d1, d2, d3⟩ | ⟨a, d0, d1, d2, d3, d4⟩ | ⟨a, d0, d1, d2, d3, d4, d5⟩ | ⟨a, d0, d1, d2, d3, d4, d5, d6⟩ | ⟨a, d0, d1, d2, d3, d4, d5, d6, d7⟩
  iterate 6
    · try have a0 : (nu != 0) = true := bne_iff_ne.2 a
      go_enter Try.func21, Try.ntmps21
      go_wp2_with (go_at_call 26; refine (AM.out _ _ _ _).mono ?_; rintro e w' ⟨rfl, rfl⟩)
      go_ret
      exact ⟨rfl, B.out⟩
  iterate 3
    · have a0 : (nu != 0) = true := bne_iff_ne.2 a
      have TI := Lib.hid (amB_iff.1 d1)
      rw [d5] at SH
      try rw [d7] at ST
      clear d5
      try clear d7
      go_enter Try.func21, Try.ntmps21
      go_wp2_with (first
        | (go_at_call 26; refine (AM.out _ _ _ _).mono ?_; rintro e w' ⟨rfl, rfl⟩)
        | ((with_reducible refine wl_load_arrg w.heap.size HB.out ?_ ?_ ?_); rfl; rfl))
      refine (SH.out _).mono ?_; rintro e w1 ⟨rfl, q⟩
      have B1 := Lib.hid (B.out.trans (q.mono B.out.size))
      have HB1 := Lib.hid (HB.out.below q)
      have k22 := HB1.out.cell 22
      rw [C22.out] at k22
      have k24 := HB1.out.cell 24
      rw [C24.out] at k24
      have k2 := HB1.out.cell 2
      rw [C2] at k2
      clear q
      go_wp2_with (go_at_call 26; refine (AM.out _ _ _ _).mono ?_; rintro e w' ⟨rfl, rfl⟩)
      try
        refine (ST.out _ TI.out).mono ?_; rintro e w2 ⟨rfl, rfl⟩
        go_wp2_with fail
      go_ret
      exact ⟨rfl, B1.out⟩
set_option maxRecDepth 100000 in
set_option maxHeartbeats 4000000 in
theorem pmay_yes (s : Sp) (w : World) (ok : s.ok) (hm : mayB s = true) : Calls Try.prog 21 #[.agg s.cells] w fun e w' => e = .returned (.bool true) ∧ Below w.heap.size w w' := by
  have AM := Lib.hid (fun n l m W => pamong_any n l m W)
  have SH := Lib.hid (fun W => pshift_any s W ok.len ok.sh)
  have ST := Lib.hid (fun W h => psteps_any s.fi s.ti 10000000 W h)
  have C0 := s.c0
  have C1 := s.c1
  have C2 := s.c2
  have C3 := s.c3
  have C4 := s.c4
  have C5 := s.c5
  have C22 := Lib.hid (Sp.c22 ok.len)
  have C24 := Lib.hid (Sp.c24 ok.len)
  have o1 := ok.nu
  have o2 := ok.ro
  obtain ⟨a, d0, d1, d2, d3, d4, d5, d6, d7⟩ := may_holds hm
  have B := Lib.hid ((Below.refl w.heap.size w).alloc (Nat.le_refl _) (.cells s.cells 25))
  have HB := Lib.hid (box_new w ok.len)
  clear hm ok
  obtain ⟨o1a, o1b⟩ := o1
  obtain ⟨o2a, o2b⟩ := o2
  obtain ⟨nu, hnu⟩ : ∃ nu, s.nu = nu := ⟨_, rfl⟩
  obtain ⟨ro, hro⟩ : ∃ ro, s.ro = ro := ⟨_, rfl⟩
  rw [hnu] at C0 a o1a o1b
  rw [hro] at C1 d0 o2a o2b
  clear hnu hro
  have a0 : (nu != 0) = true := bne_iff_ne.2 a
  have TI := Lib.hid (amB_iff.1 d1)
  rw [d5] at SH
  rw [d7] at ST
  clear d5 d7
  go_enter Try.func21, Try.ntmps21
  go_wp2_with (first
    | (go_at_call 26; refine (AM.out _ _ _ _).mono ?_; rintro e w' ⟨rfl, rfl⟩)
    | ((with_reducible refine wl_load_arrg w.heap.size HB.out ?_ ?_ ?_); rfl; rfl))
  refine (SH.out _).mono ?_; rintro e w1 ⟨rfl, q⟩
  have B1 := Lib.hid (B.out.trans (q.mono B.out.size))
  have HB1 := Lib.hid (HB.out.below q)
  have k22 := HB1.out.cell 22
  rw [C22.out] at k22
  have k24 := HB1.out.cell 24
  rw [C24.out] at k24
  have k2 := HB1.out.cell 2
  rw [C2] at k2
  clear q
  go_wp2_with (go_at_call 26; refine (AM.out _ _ _ _).mono ?_; rintro e w' ⟨rfl, rfl⟩)
  refine (ST.out _ TI.out).mono ?_; rintro e w2 ⟨rfl, rfl⟩
  go_wp2_with fail
  go_ret
  exact ⟨rfl, B1.out⟩
theorem pmay_any (s : Sp) (w : World) (ok : s.ok) : Calls Try.prog 21 #[.agg s.cells] w fun e w' => e = .returned (.bool (mayB s)) ∧ Below w.heap.size w w' := by
  cases h : mayB s
  · exact pmay_no s w ok h
  · exact pmay_yes s w ok h
set_option maxRecDepth 100000 in
theorem pisprice_any (s : Sp) (n : Int) (w : World) (ok : s.ok) : Calls Try.prog 12 #[.agg s.cells, .int .i64 n] w fun e w' => e = .returned (.bool (priceB s n)) ∧ Below w.heap.size w w' := by
  have MY := Lib.hid (fun W => pmay_any s W ok)
  have HB := Lib.hid (box_new w ok.len)
  have B := Lib.hid ((Below.refl w.heap.size w).alloc (Nat.le_refl _) (.cells s.cells 25))
  cases hm : mayB s
  · have E := Lib.hid (not_price hm n)
    rw [hm] at MY
    clear hm ok
    go_enter Try.func12, Try.ntmps12
    go_wp2_with ((with_reducible refine wl_load_sp w.heap.size HB.out ?_ ?_ ?_); rfl; rfl)
    refine (MY.out _).mono ?_; rintro e w1 ⟨rfl, q⟩
    have B1 := Lib.hid (B.out.trans (q.mono B.out.size))
    clear q
    go_wp2_with fail
    go_ret
    refine ⟨?_, B1.out⟩
    rw [E.out]
    rfl
  · have E := Lib.hid (may_price hm n)
    have TI := Lib.hid (head_parts (may_head hm)).2.2.1
    have PR := Lib.hid (fun W => psteps_any n s.ti 10000000 W TI.out)
    have C2 := Lib.hid s.c2
    rw [hm] at MY
    clear hm ok
    go_enter Try.func12, Try.ntmps12
    go_wp2_with ((with_reducible refine wl_load_sp w.heap.size HB.out ?_ ?_ ?_); rfl; rfl)
    refine (MY.out _).mono ?_; rintro e w1 ⟨rfl, q⟩
    have B1 := Lib.hid (B.out.trans (q.mono B.out.size))
    have hc := (HB.out.below q).cell 2
    rw [C2.out] at hc
    clear q
    go_wp2_with fail
    refine (PR.out _).mono ?_; rintro e w2 ⟨rfl, rfl⟩
    go_wp2_with fail
    go_ret
    refine ⟨?_, B1.out⟩
    rw [E.out]
    rfl
end Go.Proofs.Ytmelpikncdnloaa
