/- The program's settle: may, evenOut, reckon. -/
import Derived.WalkKit
import Derived.Laws.Tables
import Derived.Test.YtlbekdpmfjhjhaaHSte
import Derived.Test.YtlbekdpmfjhjhaaHStx
namespace Go.Proofs.Ytlbekdpmfjhjhaa.Zs
open Go.RowKit Go.Shelf
set_option linter.unusedVariables false
set_option linter.unusedSimpArgs false

theorem zero_du (w : World) : (zeroValue 30).run Try.prog w = .ok (.agg (ED.cells zeroDu).toArray) w := by kernel_rfl
/-- The account ahead. -/
def lastA : Int → List Du → Int
  | a, [] => a
  | _, d :: l => lastA d.ac l
theorem ris_app : ∀ (l m : List Du) (a : Int), risD a (l ++ m) = (risD a l && risD (lastA a l) m)
  | [], m, a => by simp [risD, lastA]
  | d :: l, m, a => by simp only [List.cons_append, risD, lastA, ris_app l m d.ac, Bool.and_assoc]
theorem last_snoc : ∀ (l : List Du) (d : Du) (a : Int), lastA a (l ++ [d]) = d.ac
  | [], d, a => rfl
  | x :: l, d, a => by simp only [List.cons_append, lastA]; exact last_snoc l d x.ac
theorem ris_step {l : List Du} {j : Nat} {d : Du} (h : l[j]? = some d) (hr : risD 0 (l.take j) = true) : risD 0 (l.take (j + 1)) = dueB (lastA 0 (l.take j)) d := by
  rw [take_x13 h, ris_app, hr]
  simp [risD]
theorem last_step {l : List Du} {j : Nat} {d : Du} (h : l[j]? = some d) : lastA 0 (l.take (j + 1)) = d.ac := by rw [take_x13 h, last_snoc]
theorem ris_bad {l : List Du} {j : Nat} (h : risD 0 (l.take j) = false) : risD 0 l = false := by
  have := ris_app (l.take j) (l.drop j) 0
  rw [List.take_append_drop] at this
  rw [this, h]; rfl
theorem pmayhave_any (n : Int) (hn : I64 n) (w : World) : Calls Try.prog 11 #[.int .i64 n] w fun e w' => e = .returned (.bool (decide (0 ≤ n ∧ n ≤ 1000000000000000))) ∧ w = w' := by
  by_cases c : 0 ≤ n
  · have d' : decide (0 ≤ n) = true := decide_eq_true c
    have E : Hid (decide (n ≤ 1000000000000000) = decide (0 ≤ n ∧ n ≤ 1000000000000000)) := Lib.hid (decide_eq_decide.2 ⟨fun h => by omega, fun h => by omega⟩)
    clear c
    go_enter Try.func11, Try.ntmps11
    go_wp2_with fail
    go_ret
    refine ⟨?_, rfl⟩
    rw [← E.out]
    rfl
  · have d' : decide (0 ≤ n) = false := decide_eq_false (by omega)
    have E : Hid (decide (0 ≤ n ∧ n ≤ 1000000000000000) = false) := Lib.hid (decide_eq_false fun h => c h.1)
    clear c
    go_enter Try.func11, Try.ntmps11
    go_wp2_with fail
    go_ret
    refine ⟨?_, rfl⟩
    rw [E.out]
    rfl
/-- The test behind the account ahead, which it tells anew. -/
def STest (g : Nat) (w : World) : Prop := ∀ (W : World) (a : Int) (x : Du), Below w.heap.size w W → W.cell? ⟨g, 0, none⟩ = some (.int .u32 a) → W.frozen? ⟨g, 0, none⟩ = false → x.ok → 0 ≤ a →
  Calls Try.prog 21 #[.agg (ED.cells x).toArray, .pointer (some ⟨g, 0, none⟩)] W fun e w' => e = .returned (.bool (!dueB a x)) ∧ w'.cell? ⟨g, 0, none⟩ = some (.int .u32 x.ac) ∧ w'.frozen? ⟨g, 0, none⟩ = false ∧ Below w.heap.size w w'
theorem rng_d13 {w W : World} {A : Option Addr} {n B : Nat} {l : List Du} (h : ED.Rd w A n l) (q : Below B w W) (hB : w.heap.size ≤ B) {k : Nat} {x : Du} (hx : l[k]? = some x) : ∃ b o, A = some ⟨b, o, none⟩ ∧ W.rangeAt b (o + k * 3) (ED.cells x) := by
  obtain ⟨b, o, e, r⟩ := grd_rng (grd_below h q hB) hx
  exact ⟨b, o, e, r⟩
theorem fz_cell {w : World} {g : Nat} {v : Value} {te : TypeId} (h : w.heap[g]? = some (.cells #[v] te (0, 0))) : w.frozen? ⟨g, 0, none⟩ = false := by simp [World.frozen?, h]
set_option maxRecDepth 100000 in
set_option maxHeartbeats 8000000 in
theorem test_any (g : Nat) (w : World) (hg : w.heap.size ≤ g) : STest g w := by
  intro W a x q hc hf ok h0
  have hgW : g < W.heap.size := World.block_lt_of_cell? W _ hc
  obtain ⟨W1, hW1⟩ : ∃ W1, W.alloc (.cells (ED.cells x).toArray 30) = W1 := ⟨_, rfl⟩
  have x1 : ED.Bx 30 W1 W.heap.size x := by rw [← hW1]; exact gbx_new W x
  have b1 : Below W.heap.size W W1 := by rw [← hW1]; exact below_new W _
  have k0 : W1.cell? ⟨W.heap.size, 0, none⟩ = some (.int .u32 x.ac) := gbx_cell x1 0
  have kg : W1.cell? ⟨g, 0, none⟩ = some (.int .u32 a) := cell_below hc b1 (Nat.le_refl _)
  have fg : W1.frozen? ⟨g, 0, none⟩ = false := by
    have e := b1.block g hgW
    simp only [World.frozen?, e] at hf ⊢
    exact hf
  obtain ⟨W2, hW2⟩ : ∃ W2, W1.setCell ⟨g, 0, none⟩ (.int .u32 x.ac) = W2 := ⟨_, rfl⟩
  have kg2 : W2.cell? ⟨g, 0, none⟩ = some (.int .u32 x.ac) := by rw [← hW2]; exact World.cell?_setCell_same' _ _ _ (by rw [kg]; rfl)
  have fg2 : W2.frozen? ⟨g, 0, none⟩ = false := by rw [← hW2, World.frozen?_setCell]; exact fg
  have x2 : ED.Bx 30 W2 W.heap.size x := by
    rw [← hW2]
    exact (heap_setCell_other W1 _ _ _ (by show W.heap.size ≠ g; omega)).trans x1
  have B1 : Hid (Below w.heap.size w W1) := Lib.hid (q.trans (b1.mono q.size))
  have B2 : Hid (Below w.heap.size w W2) := Lib.hid (by rw [← hW2]; exact B1.out.setCell (show w.heap.size ≤ g from hg) _)
  have k1 : W2.cell? ⟨W.heap.size, 1, none⟩ = some (.int .i64 x.ca) := gbx_cell x2 1
  have k2 : W2.cell? ⟨W.heap.size, 2, none⟩ = some (.int .i64 x.v) := gbx_cell x2 2
  have HW1 := Lib.hid hW1
  have HW2 := Lib.hid hW2
  have KG := Lib.hid kg2
  have FG := Lib.hid fg2
  have MH := Lib.hid fun w => pmayhave_any x.ca ok.ca w
  have WI := Lib.hid fun w => within_any x.v 100000000000000000 ok.v (by unfold I64; omega) w
  obtain ⟨r1, h1⟩ : ∃ r, decide (0 ≤ x.ca ∧ x.ca ≤ 1000000000000000) = r := ⟨_, rfl⟩
  obtain ⟨r2, h2⟩ : ∃ r, within x.v 100000000000000000 = r := ⟨_, rfl⟩
  have E : Hid (dueB a x = (decide (a < x.ac) && r1 && r2)) := Lib.hid (by
    rw [← h1, ← h2]
    unfold dueB within
    rw [Bool.eq_iff_iff]
    simp only [Bool.and_eq_true, decide_eq_true_eq]
    omega)
  rw [h1] at MH
  rw [h2] at WI
  clear h1 h2 hW1 hW2 x1 x2 kg2 fg2 b1 hc hf q ok
  by_cases c : x.ac ≤ a
  · have dc : decide (x.ac ≤ a) = true := decide_eq_true c
    have EB : Hid (dueB a x = false) := Lib.hid (by rw [E.out, decide_eq_false (by omega)]; rfl)
    clear E c
    go_enter Try.func21, Try.ntmps21
    go_wp2_with (first | (rw [HW1.out]) | (rw [HW2.out]))
    go_ret
    rw [EB.out]
    exact ⟨rfl, KG.out, FG.out, B2.out⟩
  · have dc : decide (x.ac ≤ a) = false := decide_eq_false c
    have EB : Hid (dueB a x = (r1 && r2)) := Lib.hid (by rw [E.out, decide_eq_true (by omega)]; rfl)
    clear E c
    go_enter Try.func21, Try.ntmps21
    go_wp2_with (first | (rw [HW1.out]) | (rw [HW2.out]))
    refine (MH.out _).mono ?_; rintro e w4 ⟨rfl, rfl⟩
    cases r1
    · go_wp2_with fail
      go_ret
      rw [EB.out]
      exact ⟨rfl, KG.out, FG.out, B2.out⟩
    · go_wp2_with fail
      refine (WI.out _).mono ?_; rintro e w4 ⟨rfl, rfl⟩
      go_wp2_with fail
      go_ret
      rw [EB.out]
      exact ⟨rfl, KG.out, FG.out, B2.out⟩
set_option maxRecDepth 100000 in
set_option maxHeartbeats 8000000 in
theorem index_d13 (g : Nat) (A : Option Addr) (n c : Nat) (l : List Du) (w W0 : World) (hp : STest g w) (hr : ED.Rd w A n l) (hok : ∀ x, x ∈ l → Du.ok x) (hn : n ≤ 1000) (q0 : Below w.heap.size w W0) (c0 : W0.cell? ⟨g, 0, none⟩ = some (.int .u32 0)) (f0 : W0.frozen? ⟨g, 0, none⟩ = false) :
    Calls Try.prog 35 #[.slice A n c, .func (.func 21) #[] #[.pointer (some ⟨g, 0, none⟩)]] W0 fun e w' => ∃ r : Int, e = .returned (.int .i64 r) ∧ -1 ≤ r ∧ r ≤ 1000 ∧ decide (r ≥ 0) = !risD 0 l ∧ Below w.heap.size w w' := by
  have eg : ∀ args w, (callFunc 21 args).run Try.prog w = .ok (.enter 21 args) w := fun args w => by go_simp
  have HP := Lib.hid hp
  have HR := Lib.hid hr
  have HK := Lib.hid hok
  have HL := Lib.hid hr.1
  have Q0 := Lib.hid q0
  have C0 := Lib.hid c0
  have F0 := Lib.hid f0
  clear hp hr hok q0 c0 f0
  go_enter Try.func35, Try.ntmps35
  go_wp2_with fail
  go_loopw [5, 8] (fun _ i wr => ∃ k : Nat, k ≤ n ∧ i = .int .i64 k ∧ Below w.heap.size w wr ∧ wr.cell? ⟨g, 0, none⟩ = some (.int .u32 (lastA 0 (l.take k))) ∧ wr.frozen? ⟨g, 0, none⟩ = false ∧ 0 ≤ lastA 0 (l.take k) ∧ risD 0 (l.take k) = true) (fun _ i _ => n - (intOf i).toNat)
  case atStart => exact ⟨0, Nat.zero_le _, rfl, Q0.out, C0.out, F0.out, Int.le_refl 0, rfl⟩
  case round =>
    obtain ⟨k, hk, rfl, hb, hc, hf, h0, hris⟩ := hrel
    have BW := Lib.hid hb
    have RI := Lib.hid hris
    by_cases hlt : k < n
    case pos =>
      have hd : decide ((k : Int) < n) = true := decide_eq_true (by omega)
      have hki : (k : Int) < (n : Int) := by omega
      obtain ⟨x, hx⟩ : ∃ x, l[k]? = some x := ⟨l[k]'(by have := HL.out; omega), List.getElem?_eq_getElem _⟩
      have OK := HK.out x (List.mem_of_getElem? hx)
      obtain ⟨b, o, rfl, rg⟩ := rng_d13 HR.out BW.out (Nat.le_refl _) hx
      have RG := Lib.hid rg
      have C := Lib.hid (HP.out wr _ x BW.out hc hf OK h0)
      have A0 := Lib.hid OK.ac.1
      have HX := Lib.hid hx
      have ST := Lib.hid (ris_step hx RI.out)
      have LS := Lib.hid (last_step hx)
      rw [← ST.out] at C
      clear hx rg hb hris hc hf h0 OK
      obtain ⟨t, ht⟩ : ∃ t, risD 0 (l.take (k + 1)) = t := ⟨_, rfl⟩
      rw [ht] at C ST
      have HT := Lib.hid ht
      clear ht
      cases t
      · have E : Hid (risD 0 l = false) := Lib.hid (ris_bad HT.out)
        go_wp2_with ((with_reducible refine gwl_load TDu b (o + k * 3) RG.out ?_ ?_ ?_); rfl; rfl)
        refine C.out.mono ?_; rintro e w2 ⟨rfl, q1, q2, q3⟩
        have Q := Lib.hid q3
        clear q1 q2 q3
        go_wp2_with fail
        go_ret
        exact ⟨_, rfl, by omega, by omega, by rw [E.out]; simp, Q.out⟩
      · go_wp2_with ((with_reducible refine gwl_load TDu b (o + k * 3) RG.out ?_ ?_ ?_); rfl; rfl)
        refine C.out.mono ?_; rintro e w2 ⟨rfl, q1, q2, q3⟩
        have Q := Lib.hid q3
        have Q1 := Lib.hid q1
        have Q2 := Lib.hid q2
        clear q1 q2 q3
        go_wp2_with fail
        go_roundw
        case rel => exact ⟨k + 1, hlt, by go_num, Q.out, by rw [LS.out]; exact Q1.out, Q2.out, by rw [LS.out]; exact A0.out, HT.out⟩
        case measure => simp [intOf]; omega
    case neg =>
      obtain rfl : k = n := by omega
      have E : Hid (risD 0 l = true) := Lib.hid (by have := RI.out; rwa [List.take_of_length_le (by rw [HL.out]; exact Nat.le_refl _)] at this)
      clear hc hf h0 hris
      go_wp2_with fail
      go_ret
      exact ⟨-1, rfl, by omega, by omega, by rw [E.out]; rfl, BW.out⟩
set_option maxRecDepth 100000 in
theorem contains_d13 (g : Nat) (A : Option Addr) (n c : Nat) (l : List Du) (w W0 : World) (hp : STest g w) (hr : ED.Rd w A n l) (hok : ∀ x, x ∈ l → Du.ok x) (hn : n ≤ 1000) (q0 : Below w.heap.size w W0) (c0 : W0.cell? ⟨g, 0, none⟩ = some (.int .u32 0)) (f0 : W0.frozen? ⟨g, 0, none⟩ = false) :
    Calls Try.prog 23 #[.slice A n c, .func (.func 21) #[] #[.pointer (some ⟨g, 0, none⟩)]] W0 fun e w' => e = .returned (.bool (!risD 0 l)) ∧ Below w.heap.size w w' := by
  have C := index_d13 g A n c l w W0 hp hr hok hn q0 c0 f0
  obtain ⟨t, ht⟩ : ∃ t, (!risD 0 l) = t := ⟨_, rfl⟩
  rw [ht] at C ⊢
  clear hp hr hok q0 c0 f0 ht
  go_enter Try.func23, Try.ntmps23
  go_wp2_with fail
  refine C.mono ?_; rintro e w2 ⟨r, rfl, r1, r2, r3, q⟩
  have Q := Lib.hid q
  clear q
  go_wp2_with fail
  go_ret
  exact ⟨rfl, Q.out⟩
set_option maxRecDepth 100000 in
set_option maxHeartbeats 8000000 in
/-- Whether the dues may be settled. -/
theorem pmay13 (A : Option Addr) (n c : Nat) (l : List Du) (w : World) (hr : ED.Rd w A n l) (hok : ∀ x, x ∈ l → Du.ok x) (hn : n ≤ 1000) :
    Calls Try.prog 12 #[.slice A n c] w fun e w' => e = .returned (.bool (risD 0 l)) ∧ Below w.heap.size w w' := by
  obtain ⟨W1, hW1⟩ : ∃ W1, w.alloc (.cells #[.int .u32 0] 28) = W1 := ⟨_, rfl⟩
  have b1 : Below w.heap.size w W1 := by rw [← hW1]; exact below_new w _
  have hh : W1.heap[w.heap.size]? = some (.cells #[.int .u32 0] 28 (0, 0)) := by rw [← hW1]; exact heap_alloc_new w _
  have k0 : W1.cell? ⟨w.heap.size, 0, none⟩ = some (.int .u32 0) := by rw [cell_of_row _ _ _ _ _ _ hh]; rfl
  have f0 := fz_cell hh
  obtain ⟨W2, hW2⟩ : ∃ W2, W1.setCell ⟨w.heap.size, 0, none⟩ (.int .u32 0) = W2 := ⟨_, rfl⟩
  have b2 : Below w.heap.size w W2 := by rw [← hW2]; exact b1.setCell (Nat.le_refl _) _
  have k2 : W2.cell? ⟨w.heap.size, 0, none⟩ = some (.int .u32 0) := by rw [← hW2]; exact World.cell?_setCell_same' _ _ _ (by rw [k0]; rfl)
  have f2 : W2.frozen? ⟨w.heap.size, 0, none⟩ = false := by rw [← hW2, World.frozen?_setCell]; exact f0
  have C := Lib.hid (contains_d13 w.heap.size A n c l w W2 (test_any _ _ (Nat.le_refl _)) hr hok hn b2 k2 f2)
  have HW := Lib.hid hW1
  have HW2 := Lib.hid hW2
  clear hW1 hW2 hr hok b1 hh b2 k2 f2
  go_enter Try.func12, Try.ntmps12
  go_wp2_with (first | (rw [HW.out]) | (rw [HW2.out]))
  refine C.out.mono ?_; rintro e w2 ⟨rfl, q⟩
  have Q := Lib.hid q
  clear q C
  go_wp2_with fail
  go_ret
  exact ⟨by simp, Q.out⟩
end Go.Proofs.Ytlbekdpmfjhjhaa.Zs
