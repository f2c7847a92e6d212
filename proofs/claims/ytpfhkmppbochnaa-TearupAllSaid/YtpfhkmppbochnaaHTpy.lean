/- The program's tearup: may (by genTpy.py). -/
import Derived.WalkKit
import Derived.Laws.Tables
import Derived.Test.YtpfhkmppbochnaaHTps
import Derived.Test.YtpfhkmppbochnaaG01
namespace Go.Proofs.Ytpfhkmppbochnaa.Zt
open Go.RowKit Go.Shelf
set_option linter.unusedVariables false
set_option linter.unusedSimpArgs false

theorem zero_ho (w : World) : (zeroValue 32).run Try.prog w = .ok (.agg (EH.cells zeroHo).toArray) w := by kernel_rfl
/-- The test behind the account ahead, which it tells anew. -/
def HTest (g : Nat) (w : World) : Prop := ∀ (W : World) (a : Int) (x : Ho), Below w.heap.size w W → W.cell? ⟨g, 0, none⟩ = some (.int .u32 a) → W.frozen? ⟨g, 0, none⟩ = false → x.ok → 0 ≤ a →
  Calls Try.prog 16 #[.agg (EH.cells x).toArray, .pointer (some ⟨g, 0, none⟩)] W fun e w' => e = .returned (.bool (!hoB a x)) ∧ w'.cell? ⟨g, 0, none⟩ = some (.int .u32 x.ac) ∧ w'.frozen? ⟨g, 0, none⟩ = false ∧ Below w.heap.size w w'
theorem rng_h14 {w W : World} {A : Option Addr} {n B : Nat} {l : List Ho} (h : EH.Rd w A n l) (q : Below B w W) (hB : w.heap.size ≤ B) {k : Nat} {x : Ho} (hx : l[k]? = some x) : ∃ b o, A = some ⟨b, o, none⟩ ∧ W.rangeAt b (o + k * 2) (EH.cells x) := by
  obtain ⟨b, o, e, r⟩ := grd_rng (grd_below h q hB) hx
  exact ⟨b, o, e, r⟩
theorem fz_cell {w : World} {g : Nat} {v : Value} {te : TypeId} (h : w.heap[g]? = some (.cells #[v] te (0, 0))) : w.frozen? ⟨g, 0, none⟩ = false := by simp [World.frozen?, h]
set_option maxRecDepth 100000 in
set_option maxHeartbeats 8000000 in
theorem test_any (g : Nat) (w : World) (hg : w.heap.size ≤ g) : HTest g w := by
  intro W a x q hc hf ok h0
  have hgW : g < W.heap.size := World.block_lt_of_cell? W _ hc
  obtain ⟨W1, hW1⟩ : ∃ W1, W.alloc (.cells (EH.cells x).toArray 32) = W1 := ⟨_, rfl⟩
  have x1 : EH.Bx 32 W1 W.heap.size x := by rw [← hW1]; exact gbx_new W x
  have b1 : Below W.heap.size W W1 := by rw [← hW1]; exact below_new W _
  have k0 : W1.cell? ⟨W.heap.size, 0, none⟩ = some (.int .u32 x.ac) := gbx_cell x1 0
  have kg : W1.cell? ⟨g, 0, none⟩ = some (.int .u32 a) := cell_below hc b1 (Nat.le_refl _)
  have fg : W1.frozen? ⟨g, 0, none⟩ = false := by
    have e := b1.block g hgW
    simp only [World.frozen?, e] at hf ⊢
    exact hf
  obtain ⟨W2, hW2⟩ : ∃ W2, W1.setCell ⟨g, 0, none⟩ (.int .u32 x.ac) = W2 := ⟨_, rfl⟩
  have kg2 : W2.cell? ⟨g, 0, none⟩ = some (.int .u32 x.ac) := by rw [← hW2]; exact World.cell?_setCell_same' _ _ _ (by rw [kg]; rfl)
  have fg2 : W2.frozen? ⟨g, 0, none⟩ = false := by rw [← hW2, World.frozen?_setCell]; exact fg
  have x2 : EH.Bx 32 W2 W.heap.size x := by
    rw [← hW2]
    exact (heap_setCell_other W1 _ _ _ (by show W.heap.size ≠ g; omega)).trans x1
  have B1 : Hid (Below w.heap.size w W1) := Lib.hid (q.trans (b1.mono q.size))
  have B2 : Hid (Below w.heap.size w W2) := Lib.hid (by rw [← hW2]; exact B1.out.setCell (show w.heap.size ≤ g from hg) _)
  have k1 : W2.cell? ⟨W.heap.size, 1, none⟩ = some (.int .i64 x.q) := gbx_cell x2 1
  have HW1 := Lib.hid hW1
  have HW2 := Lib.hid hW2
  have KG := Lib.hid kg2
  have FG := Lib.hid fg2
  have WI := Lib.hid fun w => within_any x.q 10000000 ok.q (by unfold I64; omega) w
  obtain ⟨r2, h2⟩ : ∃ r, within x.q 10000000 = r := ⟨_, rfl⟩
  have E : Hid (hoB a x = (decide (a < x.ac) && r2)) := Lib.hid (by
    rw [← h2]
    unfold hoB within
    rw [Bool.eq_iff_iff]
    simp only [Bool.and_eq_true, decide_eq_true_eq]
    omega)
  rw [h2] at WI
  clear h2 hW1 hW2 x1 x2 kg2 fg2 b1 hc hf q ok
  by_cases c : x.ac ≤ a
  · have dc : decide (x.ac ≤ a) = true := decide_eq_true c
    have EB : Hid (hoB a x = false) := Lib.hid (by rw [E.out, decide_eq_false (by omega)]; rfl)
    clear E c
    go_enter Try.func16, Try.ntmps16
    go_wp2_with (first | (rw [HW1.out]) | (rw [HW2.out]))
    go_ret
    rw [EB.out]
    exact ⟨rfl, KG.out, FG.out, B2.out⟩
  · have dc : decide (x.ac ≤ a) = false := decide_eq_false c
    have EB : Hid (hoB a x = r2) := Lib.hid (by rw [E.out, decide_eq_true (by omega)]; rfl)
    clear E c
    go_enter Try.func16, Try.ntmps16
    go_wp2_with (first | (rw [HW1.out]) | (rw [HW2.out]))
    refine (WI.out _).mono ?_; rintro e w4 ⟨rfl, rfl⟩
    go_wp2_with fail
    go_ret
    rw [EB.out]
    exact ⟨rfl, KG.out, FG.out, B2.out⟩
set_option maxRecDepth 100000 in
set_option maxHeartbeats 8000000 in
theorem index_h14 (g : Nat) (A : Option Addr) (n c : Nat) (l : List Ho) (w W0 : World) (hp : HTest g w) (hr : EH.Rd w A n l) (hok : ∀ x, x ∈ l → Ho.ok x) (hn : n ≤ 1000) (q0 : Below w.heap.size w W0) (c0 : W0.cell? ⟨g, 0, none⟩ = some (.int .u32 0)) (f0 : W0.frozen? ⟨g, 0, none⟩ = false) :
    Calls Try.prog 27 #[.slice A n c, .func (.func 16) #[] #[.pointer (some ⟨g, 0, none⟩)]] W0 fun e w' => ∃ r : Int, e = .returned (.int .i64 r) ∧ -1 ≤ r ∧ r ≤ 1000 ∧ decide (r ≥ 0) = !risH 0 l ∧ Below w.heap.size w w' := by
  have eg : ∀ args w, (callFunc 16 args).run Try.prog w = .ok (.enter 16 args) w := fun args w => by go_simp
  have HP := Lib.hid hp
  have HR := Lib.hid hr
  have HK := Lib.hid hok
  have HL := Lib.hid hr.1
  have Q0 := Lib.hid q0
  have C0 := Lib.hid c0
  have F0 := Lib.hid f0
  clear hp hr hok q0 c0 f0
  go_enter Try.func27, Try.ntmps27
  go_wp2_with fail
  go_loopw [5, 8] (fun _ i wr => ∃ k : Nat, k ≤ n ∧ i = .int .i64 k ∧ Below w.heap.size w wr ∧ wr.cell? ⟨g, 0, none⟩ = some (.int .u32 (lastH 0 (l.take k))) ∧ wr.frozen? ⟨g, 0, none⟩ = false ∧ 0 ≤ lastH 0 (l.take k) ∧ risH 0 (l.take k) = true) (fun _ i _ => n - (intOf i).toNat)
  case atStart => exact ⟨0, Nat.zero_le _, rfl, Q0.out, C0.out, F0.out, Int.le_refl 0, rfl⟩
  case round =>
    obtain ⟨k, hk, rfl, hb, hc, hf, h0, hris⟩ := hrel
    have BW := Lib.hid hb
    have RI := Lib.hid hris
    by_cases hlt : k < n
    case pos =>
      have hd : decide ((k : Int) < n) = true := decide_eq_true (by omega)
      have hki : (k : Int) < (n : Int) := by omega
      obtain ⟨x, hx⟩ : ∃ x, l[k]? = some x := ⟨l[k]'(by have := HL.out; omega), List.getElem?_eq_getElem _⟩
      have OK := HK.out x (List.mem_of_getElem? hx)
      obtain ⟨b, o, rfl, rg⟩ := rng_h14 HR.out BW.out (Nat.le_refl _) hx
      have RG := Lib.hid rg
      have C := Lib.hid (HP.out wr _ x BW.out hc hf OK h0)
      have A0 := Lib.hid OK.ac.1
      have HX := Lib.hid hx
      have ST := Lib.hid (risH_step hx RI.out)
      have LS := Lib.hid (lastH_take hx)
      rw [← ST.out] at C
      clear hx rg hb hris hc hf h0 OK
      obtain ⟨t, ht⟩ : ∃ t, risH 0 (l.take (k + 1)) = t := ⟨_, rfl⟩
      rw [ht] at C ST
      have HT := Lib.hid ht
      clear ht
      cases t
      · have E : Hid (risH 0 l = false) := Lib.hid (risH_bad HT.out)
        go_wp2_with ((with_reducible refine gwl_load TH b (o + k * 2) RG.out ?_ ?_ ?_); rfl; rfl)
        refine C.out.mono ?_; rintro e w2 ⟨rfl, q1, q2, q3⟩
        have Q := Lib.hid q3
        clear q1 q2 q3
        go_wp2_with fail
        go_ret
        exact ⟨_, rfl, by omega, by omega, by rw [E.out]; simp, Q.out⟩
      · go_wp2_with ((with_reducible refine gwl_load TH b (o + k * 2) RG.out ?_ ?_ ?_); rfl; rfl)
        refine C.out.mono ?_; rintro e w2 ⟨rfl, q1, q2, q3⟩
        have Q := Lib.hid q3
        have Q1 := Lib.hid q1
        have Q2 := Lib.hid q2
        clear q1 q2 q3
        go_wp2_with fail
        go_roundw
        case rel => exact ⟨k + 1, hlt, by go_num, Q.out, by rw [LS.out]; exact Q1.out, Q2.out, by rw [LS.out]; exact A0.out, HT.out⟩
        case measure => simp [intOf]; omega
    case neg =>
      obtain rfl : k = n := by omega
      have E : Hid (risH 0 l = true) := Lib.hid (by have := RI.out; rwa [List.take_of_length_le (by rw [HL.out]; exact Nat.le_refl _)] at this)
      clear hc hf h0 hris
      go_wp2_with fail
      go_ret
      exact ⟨-1, rfl, by omega, by omega, by rw [E.out]; rfl, BW.out⟩
set_option maxRecDepth 100000 in
theorem contains_h14 (g : Nat) (A : Option Addr) (n c : Nat) (l : List Ho) (w W0 : World) (hp : HTest g w) (hr : EH.Rd w A n l) (hok : ∀ x, x ∈ l → Ho.ok x) (hn : n ≤ 1000) (q0 : Below w.heap.size w W0) (c0 : W0.cell? ⟨g, 0, none⟩ = some (.int .u32 0)) (f0 : W0.frozen? ⟨g, 0, none⟩ = false) :
    Calls Try.prog 17 #[.slice A n c, .func (.func 16) #[] #[.pointer (some ⟨g, 0, none⟩)]] W0 fun e w' => e = .returned (.bool (!risH 0 l)) ∧ Below w.heap.size w w' := by
  have C := index_h14 g A n c l w W0 hp hr hok hn q0 c0 f0
  obtain ⟨t, ht⟩ : ∃ t, (!risH 0 l) = t := ⟨_, rfl⟩
  rw [ht] at C ⊢
  clear hp hr hok q0 c0 f0 ht
  go_enter Try.func17, Try.ntmps17
  go_wp2_with fail
  refine C.mono ?_; rintro e w2 ⟨r, rfl, r1, r2, r3, q⟩
  have Q := Lib.hid q
  clear q
  go_wp2_with fail
  go_ret
  exact ⟨rfl, Q.out⟩
set_option maxRecDepth 100000 in
set_option maxHeartbeats 8000000 in
/-- Whether the dues may be settled. -/
theorem pmay14 (A : Option Addr) (n c : Nat) (l : List Ho) (w : World) (hr : EH.Rd w A n l) (hok : ∀ x, x ∈ l → Ho.ok x) (hn : n ≤ 1000) :
    Calls Try.prog 12 #[.slice A n c] w fun e w' => e = .returned (.bool (risH 0 l)) ∧ Below w.heap.size w w' := by
  obtain ⟨W1, hW1⟩ : ∃ W1, w.alloc (.cells #[.int .u32 0] 30) = W1 := ⟨_, rfl⟩
  have b1 : Below w.heap.size w W1 := by rw [← hW1]; exact below_new w _
  have hh : W1.heap[w.heap.size]? = some (.cells #[.int .u32 0] 30 (0, 0)) := by rw [← hW1]; exact heap_alloc_new w _
  have k0 : W1.cell? ⟨w.heap.size, 0, none⟩ = some (.int .u32 0) := by rw [cell_of_row _ _ _ _ _ _ hh]; rfl
  have f0 := fz_cell hh
  obtain ⟨W2, hW2⟩ : ∃ W2, W1.setCell ⟨w.heap.size, 0, none⟩ (.int .u32 0) = W2 := ⟨_, rfl⟩
  have b2 : Below w.heap.size w W2 := by rw [← hW2]; exact b1.setCell (Nat.le_refl _) _
  have k2 : W2.cell? ⟨w.heap.size, 0, none⟩ = some (.int .u32 0) := by rw [← hW2]; exact World.cell?_setCell_same' _ _ _ (by rw [k0]; rfl)
  have f2 : W2.frozen? ⟨w.heap.size, 0, none⟩ = false := by rw [← hW2, World.frozen?_setCell]; exact f0
  have C := Lib.hid (contains_h14 w.heap.size A n c l w W2 (test_any _ _ (Nat.le_refl _)) hr hok hn b2 k2 f2)
  have HW := Lib.hid hW1
  have HW2 := Lib.hid hW2
  clear hW1 hW2 hr hok b1 hh b2 k2 f2
  go_enter Try.func12, Try.ntmps12
  go_wp2_with (first | (rw [HW.out]) | (rw [HW2.out]))
  refine C.out.mono ?_; rintro e w2 ⟨rfl, q⟩
  have Q := Lib.hid q
  clear q C
  go_wp2_with fail
  go_ret
  exact ⟨by simp, Q.out⟩
end Go.Proofs.Ytpfhkmppbochnaa.Zt
