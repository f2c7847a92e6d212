/- Contract of the program's own call whether a contract's shifts may be. -/
import Derived.Test.YtlnakhbcefmiaaaGa
namespace Go.Proofs.Ytlnakhbcefmiaaa
open Go.RowKit

def shB (l : List Int) : Bool := l.all (fun x => amB x (-10000000) 10000000) && someUp l && someDown l
theorem within_am (x : Int) : withinB x 10000000 = amB x (-10000000) 10000000 := by
  unfold withinB amB
  by_cases h : -10000000 ≤ x ∧ x ≤ 10000000
  · rw [decide_eq_true h, decide_eq_true ⟨by decide, h⟩]
  · rw [decide_eq_false h, decide_eq_false (fun c => h c.2)]
theorem all_snoc {l : List Int} {k : Nat} (h : k < l.length) (p : Int → Bool) : (l.take (k + 1)).all p = ((l.take k).all p && p (l.getD k 0)) := by
  rw [take_more h]
  simp
theorem shB_bad {l : List Int} {k : Nat} (hk : k < l.length) (hx : amB (l.getD k 0) (-10000000) 10000000 = false) : shB l = false := by
  have : l.all (fun x => amB x (-10000000) 10000000) = false := by
    rw [List.all_eq_false]
    refine ⟨l.getD k 0, ?_, by rw [hx]; exact Bool.false_ne_true⟩
    rw [show l.getD k 0 = l[k] from by simp [List.getD, hk]]
    exact List.getElem_mem _
  unfold shB
  rw [this]
  simp
theorem arr_size {s : Sp} (h : s.sh.length = 16) : s.arr.size = 16 := by simp [Sp.arr, h]
theorem arr_at {s : Sp} (h : s.sh.length = 16) (j : Nat) (hj : j < 16) : s.arr[j]? = some (.int .i64 (s.sh.getD j 0)) := by
  have : j < s.sh.length := by omega
  simp [Sp.arr, List.getD, this]
set_option maxRecDepth 100000 in
set_option maxHeartbeats 2000000 in
theorem pshift_any (s : Sp) (w : World) (hl : s.sh.length = 16) (hi : ∀ x, x ∈ s.sh → I64 x) : Calls Try.prog 22 #[.agg s.arr] w fun e w' => e = .returned (.bool (shB s.sh)) ∧ Below w.heap.size w w' := by
  have HG := heap_alloc_new w (.cells s.arr 23)
  have HI : Option.map (fun x => x.size) (Try.prog.info? 23) = some s.arr.size := by rw [info_arr, arr_size hl]
  have B := Lib.hid ((Below.refl w.heap.size w).alloc (Nat.le_refl _) (.cells s.arr 23))
  have CC : ∀ j, j < 16 → (w.alloc (.cells s.arr 23)).cell? ⟨w.heap.size, j, none⟩ = some (.int .i64 (s.sh.getD j 0)) := fun j hj => by
    rw [cell_of_row _ _ _ _ _ _ HG, arr_at hl j hj]
  have MX := Lib.hid (pmax_any w.heap.size s.sh (w.alloc (.cells s.arr 23)) hl CC)
  have MN := Lib.hid (pmin_any w.heap.size s.sh (w.alloc (.cells s.arr 23)) hl CC)
  have HL := Lib.hid hl
  have HS := Lib.hid hi
  have WI := Lib.hid (fun (x : Int) (h : I64 x) W => pwithin_any x 10000000 h (by unfold I64; omega) W)
  clear CC hi hl
  go_enter Try.func22, Try.ntmps22
  go_wp2_with ((with_reducible refine wpList_load_row rfl 23 (.tmp 1) rfl w.heap.size rfl 23 s.arr (0, 0) _ HG Try.underlying23 rfl HI ?_))
  go_loop [6] (fun i => ∃ (k : Nat), k ≤ 16 ∧ i = .int .i64 k ∧ (s.sh.take k).all (fun x => amB x (-10000000) 10000000) = true) (fun i => 16 - (intOf i).toNat)
  case atStart => exact ⟨0, Nat.zero_le _, rfl, rfl⟩
  case round =>
    obtain ⟨k, hk, rfl, ha⟩ := hrel
    have HA := Lib.hid ha
    clear ha
    by_cases hlt : k < 16
    case pos =>
      have hd : decide ((k : Int) < 16) = true := decide_eq_true (by omega)
      have hx := HS.out (s.sh.getD k 0) (by
        have h3 : k < s.sh.length := by rw [HL.out]; exact hlt
        rw [show s.sh.getD k 0 = s.sh[k] from by simp [List.getD, h3]]
        exact List.getElem_mem _)
      have WX := Lib.hid (WI.out _ hx)
      rw [within_am] at WX
      cases hb : amB (s.sh.getD k 0) (-10000000) 10000000
      · have SB := Lib.hid (shB_bad (by rw [HL.out]; exact hlt) hb)
        rw [hb] at WX
        clear hb hx
        go_wp2_with ((with_reducible refine wl_index_arr (k := k) HL.out hlt ?_ ?_ ?_); rfl; rfl)
        refine (WX.out _).mono ?_; rintro e w' ⟨rfl, rfl⟩
        go_wp2_with fail
        go_ret
        rw [SB.out]
        exact ⟨rfl, B.out⟩
      · rw [hb] at WX
        have AL : Hid ((s.sh.take (k + 1)).all (fun x => amB x (-10000000) 10000000) = true) := Lib.hid (by rw [all_snoc (by rw [HL.out]; exact hlt), HA.out, hb]; rfl)
        clear hb hx
        go_wp2_with ((with_reducible refine wl_index_arr (k := k) HL.out hlt ?_ ?_ ?_); rfl; rfl)
        refine (WX.out _).mono ?_; rintro e w' ⟨rfl, rfl⟩
        go_wp2_with fail
        go_round
        case rel => exact ⟨k + 1, hlt, by go_num, AL.out⟩
        case measure => simp [intOf]; omega
    case neg =>
      obtain rfl : k = 16 := by omega
      have AL : Hid (s.sh.all (fun x => amB x (-10000000) 10000000) = true) := Lib.hid (by
        have := HA.out
        rwa [List.take_of_length_le (by rw [HL.out]; exact Nat.le_refl _)] at this)
      go_wp2_with fail
      refine MX.out.mono ?_; rintro e w' ⟨⟨m, rfl, hm⟩, rfl⟩
      cases hu : someUp s.sh
      · have HE : Hid (shB s.sh = false) := Lib.hid (by unfold shB; rw [hu]; simp)
        rw [hu] at hm
        clear hu
        go_wp2_with fail
        go_ret
        rw [HE.out]
        exact ⟨rfl, B.out⟩
      · have HE : Hid (shB s.sh = someDown s.sh) := Lib.hid (by unfold shB; rw [hu, AL.out]; simp)
        rw [hu] at hm
        clear hu
        go_wp2_with fail
        refine MN.out.mono ?_; rintro e w' ⟨⟨m2, rfl, hm2⟩, rfl⟩
        go_wp2_with fail
        go_ret
        rw [HE.out, ← hm2]
        exact ⟨rfl, B.out⟩
end Go.Proofs.Ytlnakhbcefmiaaa
