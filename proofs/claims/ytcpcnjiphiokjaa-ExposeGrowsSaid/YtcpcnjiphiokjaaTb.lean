/- Scan: the program's own (Within's test, IndexFunc and ContainsFunc at numbers, worst, Scan), and the document's (Worst, Scan). -/
import Derived.Test.YtcpcnjiphiokjaaTa
import Derived.Test.YtcpcnjiphiokjaaTv
import Derived.Test.YtcpcnjiphiokjaaUa
namespace Go.Proofs.Ytcpcnjiphiokjaa
open Go.RowKit Go.Shelf
set_option linter.unusedVariables false
set_option linter.unusedSimpArgs false

/-- Numbers as an array. -/
def arr10 (l : List Int) : Array Value := (l.map (Value.int .i64)).toArray
theorem arr10_size {l : List Int} (h : l.length = 16) : (arr10 l).size = 16 := by simp [arr10, h]
theorem arr10_at {l : List Int} (h : l.length = 16) (j : Nat) (hj : j < 16) : (arr10 l)[j]? = some (.int .i64 (l.getD j 0)) := by
  have : j < l.length := by omega
  simp [arr10, List.getD, this]
theorem info10 {l : List Int} (h : l.length = 16) : Option.map (fun x => x.size) (Try.prog.info? 26) = some (arr10 l).size := by rw [info_arr, arr10_size h]
theorem wl_index10 {ops : Array Oper} {rest : List Oper} {a : Act} {w : World} {Q : Exit → Act → World → Prop} {d : Option Nat} {x i : Operand} {ty : TypeId} {ps : String} {af : Array Edge} {l : List Int} {k : Nat} {v : Int} (hl : l.length = 16) (hk : k < 16) (hv : l.getD k 0 = v)
    (hx : a.eval x = .agg (arr10 l)) (hi : a.eval i = .int .i64 (k : Int)) (h : wpList Try.prog ops Q rest (a.put d (.int .i64 v)) w) : wpList Try.prog ops Q (⟨d, .index 26 x i, ty, ps, af, none⟩ :: rest) a w := by
  subst hv
  exact wl_index_arr (s := { zeroSp with sh := l }) hl hk hx hi h
theorem getD_mem {l : List Int} {k : Nat} (h : k < l.length) : l.getD k 0 ∈ l := by
  rw [show l.getD k 0 = l[k] from by simp [List.getD, h]]
  exact List.getElem_mem _
/-- A product of a quantity and a shift. -/
theorem prod_fits {q x : Int} (hq : -1000000000 ≤ q ∧ q ≤ 1000000000) (hx : -10000000 ≤ x ∧ x ≤ 10000000) : -10000000000000000 ≤ -q * x ∧ -q * x ≤ 10000000000000000 := by
  have := mulb (a := -q) (A := 1000000000) (b := x) (B := 10000000) (by omega) hx
  omega
set_option maxRecDepth 100000 in
set_option maxHeartbeats 2000000 in
theorem worst10 (l : List Int) (q : Int) (w : World) (hl : l.length = 16) (hb : ShB l) (hq : -1000000000 ≤ q ∧ q ≤ 1000000000) :
    Calls Try.prog 31 #[.agg (arr10 l), .int .i64 q] w fun e w' => e = .returned (.int .i64 (wst l q)) ∧ Below w.heap.size w w' := by
  have HG := heap_alloc_new w (.cells (arr10 l) 26)
  have HI := info10 hl
  have B := Lib.hid (below_new w (.cells (arr10 l) 26))
  have HL := Lib.hid hl
  have HB := Lib.hid hb
  have HQ := Lib.hid hq
  obtain ⟨q1, q2⟩ := hq
  clear hl hb
  go_enter Try.func31, Try.ntmps31
  go_wp2_with ((with_reducible refine wpList_load_row rfl 26 (.tmp 2) rfl w.heap.size rfl 26 (arr10 l) (0, 0) _ HG Try.underlying26 rfl HI ?_))
  go_loop [5, 9] (fun m i => ∃ (k : Nat) (x : Int), k ≤ 16 ∧ i = .int .i64 k ∧ m = .int .i64 x ∧ x = wst (l.take k) q) (fun _ i => 16 - (intOf i).toNat)
  case atStart => exact ⟨0, 0, Nat.zero_le _, rfl, rfl, rfl⟩
  case round =>
    obtain ⟨k, m, hk, rfl, rfl, hm⟩ := hrel
    have HM := Lib.hid hm
    have m0 : 0 ≤ m := by rw [hm]; exact wst_pos _ _
    have m1 : m ≤ 10000000000000000 := by rw [hm]; exact wst_max (M := 1000000000) (fun x hx => HB.out x (List.mem_of_mem_take hx)) HQ.out
    clear hm
    by_cases hlt : k < 16
    case pos =>
      have hd : decide ((k : Int) < 16) = true := decide_eq_true (by omega)
      have hkl : k < l.length := by rw [HL.out]; exact hlt
      have hx := HB.out _ (getD_mem hkl)
      have E := Lib.hid (wst_snoc (l.take k) (l.getD k 0) q)
      have T := Lib.hid (take_q hkl)
      obtain ⟨x, hv⟩ : ∃ x, l.getD k 0 = x := ⟨_, rfl⟩
      have HV := Lib.hid hv
      rw [hv] at hx E T
      have hp := prod_fits HQ.out hx
      have hz1 : -9223372036854775808 ≤ -q * x := by omega
      have hz2 : -q * x ≤ 9223372036854775807 := by omega
      clear hv hkl hp
      obtain ⟨hx1, hx2⟩ := hx
      go_wp2_with ((with_reducible refine wl_index10 (k := k) HL.out hlt HV.out ?_ ?_ ?_); rfl; rfl)
      go_round
      case rel => exact ⟨k + 1, _, hlt, by go_num, rfl, by rw [T.out, E.out, HM.out]⟩
      case measure => simp [intOf]; omega
    case neg =>
      obtain rfl : k = 16 := by omega
      have E : Hid (l.take 16 = l) := Lib.hid (List.take_of_length_le (by rw [HL.out]; exact Nat.le_refl _))
      go_wp2_with fail
      go_ret
      refine ⟨?_, B.out⟩
      rw [HM.out, E.out]
      rfl
set_option maxRecDepth 100000 in
set_option maxHeartbeats 2000000 in
theorem rworst10 (l : List Int) (q : Int) (w : World) (hl : l.length = 16) (hb : ShB l) (hq : -1000000000 ≤ q ∧ q ≤ 1000000000) :
    Calls Try.prog 47 #[.agg (arr10 l), .int .i64 q] w fun e w' => e = .returned (.int .i64 (wst l q)) ∧ Below w.heap.size w w' := by
  have HG := heap_alloc_new w (.cells (arr10 l) 26)
  have B := Lib.hid (below_new w (.cells (arr10 l) 26))
  have CC : Hid (∀ j, j < 16 → (w.alloc (.cells (arr10 l) 26)).cell? ⟨w.heap.size, j, none⟩ = some (.int .i64 (l.getD j 0))) := Lib.hid fun j hj => by
    rw [cell_of_row _ _ _ _ _ _ HG, arr10_at hl j hj]
  have HL := Lib.hid hl
  have HB := Lib.hid hb
  have HQ := Lib.hid hq
  obtain ⟨q1, q2⟩ := hq
  clear hl hb HG
  go_enter Try.func47, Try.ntmps47
  go_wp2_with fail
  go_loop [5, 6, 7] (fun m i _ => ∃ (k : Nat) (x : Int), k ≤ 16 ∧ i = .int .i64 k ∧ m = .int .i64 x ∧ x = wst (l.take k) q) (fun _ i _ => 16 - (intOf i).toNat)
  case atStart => exact ⟨0, 0, Nat.zero_le _, rfl, rfl, rfl⟩
  case round =>
    obtain ⟨k, m, hk, rfl, rfl, hm⟩ := hrel
    have HM := Lib.hid hm
    have m0 : 0 ≤ m := by rw [hm]; exact wst_pos _ _
    have m1 : m ≤ 10000000000000000 := by rw [hm]; exact wst_max (M := 1000000000) (fun x hx => HB.out x (List.mem_of_mem_take hx)) HQ.out
    clear hm
    by_cases hlt : k < 16
    case pos =>
      have hd : decide ((k : Int) < 16) = true := decide_eq_true (by omega)
      have hkl : k < l.length := by rw [HL.out]; exact hlt
      have hx := HB.out _ (getD_mem hkl)
      have E := Lib.hid (wst_snoc (l.take k) (l.getD k 0) q)
      have T := Lib.hid (take_q hkl)
      have ck := CC.out k hlt
      obtain ⟨x, hv⟩ : ∃ x, l.getD k 0 = x := ⟨_, rfl⟩
      rw [hv] at hx E T ck
      have hp := prod_fits HQ.out hx
      rw [Int.neg_mul] at hp E
      have hz1 : -9223372036854775808 ≤ q * x := by omega
      have hz2 : q * x ≤ 9223372036854775807 := by omega
      have hz3 : -9223372036854775808 ≤ 0 - q * x := by omega
      have hz4 : 0 - q * x ≤ 9223372036854775807 := by omega
      clear hv hkl hp
      obtain ⟨hx1, hx2⟩ := hx
      by_cases c : m < 0 - q * x
      · have cd : decide (m < 0 - q * x) = true := decide_eq_true c
        have R : Hid (-(q * x) = wst (l.take (k + 1)) q) := Lib.hid (by rw [T.out, E.out, ← HM.out]; omega)
        go_wp2_with fail
        go_round
        case rel => exact ⟨k + 1, _, hlt, by go_num, rfl, R.out⟩
        case measure => simp [intOf]; omega
      · have cd : decide (m < 0 - q * x) = false := decide_eq_false c
        have R : Hid (m = wst (l.take (k + 1)) q) := Lib.hid (by rw [T.out, E.out, ← HM.out]; omega)
        go_wp2_with fail
        go_round
        case rel => exact ⟨k + 1, _, hlt, by go_num, rfl, R.out⟩
        case measure => simp [intOf]; omega
    case neg =>
      obtain rfl : k = 16 := by omega
      have E : Hid (l.take 16 = l) := Lib.hid (List.take_of_length_le (by rw [HL.out]; exact Nat.le_refl _))
      go_wp2_with fail
      go_ret
      refine ⟨?_, B.out⟩
      rw [HM.out, E.out]
      rfl
end Go.Proofs.Ytcpcnjiphiokjaa
