/- The statements' own small contract and check, given the program's calendar. -/
import Derived.Test.YtejhnfkljfdejaaKk
import Derived.Test.YtejhnfkljfdejaaKv
import Derived.WalkKit
namespace Go.Proofs.Ytejhnfkljfdejaa
open Go.RowKit Go.Shelf

def tail14 : List Int := [0, 0, 0, 0, 0, 0, 0, 0, 0, 0, 0, 0, 0, 0]
def sm5 (n last : Int) : Sp := ⟨n, 1, 1, 1, 0, 9, 1 :: -1 :: tail14, 0, last, 10⟩
def sm50 (n last : Int) : Sp := ⟨n, 1, 1, 1, 0, 9, 0 :: 0 :: tail14, 0, last, 10⟩
def sm51 (n last : Int) : Sp := ⟨n, 1, 1, 1, 0, 9, 1 :: 0 :: tail14, 0, last, 10⟩
theorem sm5_ok {n last : Int} (hn : 0 ≤ n ∧ n ≤ 4294967295) (hl : 0 ≤ last ∧ last ≤ 4294967295) : (sm5 n last).ok := by
  refine ⟨hn, ?_, ?_, ?_, ?_, ?_, ?_, ?_, ?_, hl, ?_⟩ <;> first | (simp [sm5, tail14, I64]; done) | skip
theorem build_sm (n last : Int) : (((((((zeroSp.cells.setIfInBounds 0 (Value.int IntKind.u32 n)).setIfInBounds 1 (Value.int IntKind.u8 1)).setIfInBounds 2 (Value.int IntKind.i64 1)).setIfInBounds 3 (Value.int IntKind.i64 1)).setIfInBounds 5 (Value.int IntKind.i64 9)).setIfInBounds 23 (Value.int IntKind.u32 last)).setIfInBounds 24 (Value.int IntKind.i64 10)) = (sm50 n last).cells := by kernel_rfl
theorem sm_one (n last : Int) : (sm50 n last).cells.setIfInBounds 6 (Value.int IntKind.i64 1) = (sm51 n last).cells := by kernel_rfl
theorem sm_two (n last : Int) : (sm51 n last).cells.setIfInBounds 7 (Value.int IntKind.i64 (-1)) = (sm5 n last).cells := by kernel_rfl

set_option maxRecDepth 100000 in
set_option maxHeartbeats 4000000 in
theorem small5_any (n last : Int) (w : World) : Calls Try.prog 23 #[.int .u32 n, .int .u32 last] w fun e w' => e = .returned (.agg (sm5 n last).cells) ∧ Below w.heap.size w w' := by
  have Z := zero_sp
  have BS := build_sm n last
  have HB1 : Hid (Box ((w.alloc (.cells zeroSp.cells 33)).alloc (.cells zeroSp.cells 33)) (w.heap.size + 1) zeroSp) := Lib.hid ⟨heap_alloc2_new w _ _, rfl⟩
  have HB0 : Hid (Box ((w.alloc (.cells zeroSp.cells 33)).alloc (.cells zeroSp.cells 33)) w.heap.size zeroSp) := Lib.hid ⟨heap_alloc2_old w _ _, rfl⟩
  have B := Lib.hid (((Below.refl w.heap.size w).alloc (Nat.le_refl _) (.cells zeroSp.cells 33)).alloc (by simp) (.cells zeroSp.cells 33))
  have HB2 := Lib.hid (box_set HB1.out (s := sm50 n last) rfl)
  have HB3 : Hid (Box (((w.alloc (.cells zeroSp.cells 33)).alloc (.cells zeroSp.cells 33)).setRow (w.heap.size + 1) (sm50 n last).cells) w.heap.size zeroSp) := Lib.hid ⟨(setRow_other _ (w.heap.size + 1) w.heap.size _ (by omega)).trans HB0.out.1, rfl⟩
  have B2 := Lib.hid (below_row' (g := w.heap.size + 1) (cs := (sm50 n last).cells) B.out (by omega))
  obtain ⟨W2, hW2⟩ : ∃ W, (((w.alloc (.cells zeroSp.cells 33)).alloc (.cells zeroSp.cells 33)).setRow (w.heap.size + 1) (sm50 n last).cells) = W := ⟨_, rfl⟩
  rw [hW2] at HB2 HB3 B2
  have HW2 := Lib.hid hW2
  clear hW2
  have c6 : W2.cell? ⟨w.heap.size + 1, 6, none⟩ = some (.int .i64 0) := HB2.out.cell 6
  have c7 : W2.cell? ⟨w.heap.size + 1, 7, none⟩ = some (.int .i64 0) := HB2.out.cell 7
  have f6 := HB2.out.free 6
  have f7 := HB2.out.free 7
  have HB4 := Lib.hid (box_cell (box_cell HB2.out (t := sm51 n last) rfl (sm_one n last)) (t := sm5 n last) rfl (sm_two n last))
  have HB5 : Hid (Box ((W2.setCell ⟨w.heap.size + 1, 6, none⟩ (.int .i64 1)).setCell ⟨w.heap.size + 1, 7, none⟩ (.int .i64 (-1))) w.heap.size zeroSp) := Lib.hid ⟨by
    rw [heap_setCell_other _ _ _ _ (by show w.heap.size ≠ w.heap.size + 1; omega), heap_setCell_other _ _ _ _ (by show w.heap.size ≠ w.heap.size + 1; omega)]
    exact HB3.out.1, rfl⟩
  have B5 : Hid (Below w.heap.size w ((W2.setCell ⟨w.heap.size + 1, 6, none⟩ (.int .i64 1)).setCell ⟨w.heap.size + 1, 7, none⟩ (.int .i64 (-1)))) := Lib.hid ((B2.out.setCell (by show w.heap.size ≤ w.heap.size + 1; omega) _).setCell (by show w.heap.size ≤ w.heap.size + 1; omega) _)
  have B6 := Lib.hid (below_row' (g := w.heap.size) (cs := (sm5 n last).cells) B5.out (Nat.le_refl _))
  have HB6 := Lib.hid (box_set HB5.out (s := sm5 n last) rfl)
  go_enter Try.func23, Try.ntmps23
  go_wp2_with (first
    | ((with_reducible refine wl_store_sp (sm50 n last) (w.heap.size + 1) HB1.out rfl ?_ ?_ ?_); rfl; rfl; rw [HW2.out])
    | ((with_reducible refine wl_load_sp (w.heap.size + 1) HB4.out ?_ ?_ ?_); rfl; rfl)
    | ((with_reducible refine wl_store_sp (sm5 n last) w.heap.size HB5.out rfl ?_ ?_ ?_); rfl; rfl))
  exact bodyPost_ret (ret_sp rfl _ _ w.heap.size rfl HB6.out) rfl ⟨rfl, B6.out⟩

/-- A calendar of the call's own. -/
def Ca (Pc : PcT) (w W : World) (g : Nat) (d : Int) (cs : List Ct) : Prop := ∃ F, Pc W F g d cs ∧ Below w.heap.size w W ∧ ∀ k, F k → w.heap.size ≤ k
section
variable {Pc : PcT} {zc : Array Value} {w W W' : World} {g : Nat} {d d' : Int} {cs cs' : List Ct} {F : Nat → Prop}
theorem ca_aft (b : Below w.heap.size w W) (hF : ∀ k, F k → w.heap.size ≤ k) (a : Aft Pc W F g d' cs' W') : Ca Pc w W' g d' cs' := by
  obtain ⟨F', h1, h2, h3⟩ := a
  refine ⟨F', h1, ⟨h2.b0.os.trans b.os, h2.b0.tape.trans b.tape, h2.b0.output.trans b.output, Nat.le_trans b.size h2.size, fun k hk => (h2.at' k (Nat.lt_of_lt_of_le hk b.size) (fun c => by have := hF k c; omega)).trans (b.block k hk)⟩, fun k hk => ?_⟩
  rcases h3 k hk with c | c
  · exact hF k c
  · exact Nat.le_trans b.size c
theorem Ca.below (K : CalK Pc zc) (h : Ca Pc w W g d cs) (q : Below W.heap.size W W') : Ca Pc w W' g d cs := by
  obtain ⟨F, h1, h2, h3⟩ := h
  exact ⟨F, K.keep h1 (Fr.below q) (fun _ _ h => h), h2.trans (q.mono h2.size), h3⟩
end
def kn0 : List Ct := [⟨sm5 3 2, 1, 10⟩]
def kn1 : List Ct := [⟨sm5 3 2, 1, 12⟩]
theorem kn_list : listA 0 [] (sm5 3 2) = 0 ∧ listC 0 [] (sm5 3 2) = kn0 := by
  have h : mayB (sm5 3 2) = true := by decide +kernel
  constructor
  · unfold listA; rw [h]; rfl
  · have : listA 0 [] (sm5 3 2) = 0 := by unfold listA; rw [h]; rfl
    unfold listC
    rw [if_pos this]
    rfl
theorem kn_al : alC kn0 3 = .here 0 ⟨sm5 3 2, 1, 10⟩ := by rfl
theorem kn_pub : pubA kn0 3 12 = 0 ∧ pubC kn0 3 12 = kn1 := by
  have h : priceB (sm5 3 2) 12 = true := by decide +kernel
  unfold pubA pubC
  rw [kn_al]
  dsimp only
  rw [h]
  exact ⟨rfl, rfl⟩
theorem kn_get : getC kn1 3 = ⟨sm5 3 2, 1, 12⟩ ∧ getA kn1 3 = 0 := ⟨rfl, rfl⟩
theorem kn_due : dueA 0 kn1 3 = 51 := by
  unfold dueA
  rw [show alC kn1 3 = .here 0 ⟨sm5 3 2, 1, 12⟩ from rfl]
  dsimp only
  rw [if_pos (by decide)]
set_option maxRecDepth 100000 in
set_option maxHeartbeats 4000000 in
theorem known5_any {Pc : PcT} {zc : Array Value} (K : CalK Pc zc) (w : World) : Calls Try.prog 9 #[] w fun e w' => e = .returned (.bool true) ∧ Below w.heap.size w w' := by
  have Z := zero_ct
  have SM := Lib.hid (fun W => small5_any 3 2 W)
  have OK := Lib.hid (sm5_ok (n := 3) (last := 2) (by omega) (by omega))
  have NW := Lib.hid (K.new w)
  have KH := Lib.hid K
  clear K
  go_enter Try.func9, Try.ntmps9
  go_wp2_with fail
  refine NW.out.mono ?_; rintro e w1 ⟨g, F, rfl, hp, q, hF⟩
  have CA : Hid (Ca Pc w w1 g 0 []) := Lib.hid ⟨F, hp, q, hF⟩
  clear NW hp q hF
  go_wp2_with fail
  refine (SM.out _).mono ?_; rintro e w2 ⟨rfl, q⟩
  have C2 := CA.out.below KH.out q
  clear CA q
  obtain ⟨F2, p2, b2, f2⟩ := C2
  have LS := Lib.hid (KH.out.list p2 OK.out)
  rw [kn_list.1, kn_list.2] at LS
  go_wp2_with fail
  refine LS.out.mono ?_; rintro e w3 ⟨rfl, a⟩
  obtain ⟨F3, p3, b3, f3⟩ := ca_aft b2 f2 a
  have LS := Lib.hid (KH.out.pub (nu := 3) (p := 12) p3 (by omega) ⟨by omega, by omega⟩)
  rw [kn_pub.1, kn_pub.2] at LS
  clear a p2 b2 f2
  go_wp2_with fail
  refine LS.out.mono ?_; rintro e w4 ⟨rfl, a⟩
  obtain ⟨F4, p4, b4, f4⟩ := ca_aft b3 f3 a
  have LS := Lib.hid (KH.out.get (nu := 3) p4 (by omega))
  rw [kn_get.1, kn_get.2] at LS
  clear a p3 b3 f3
  go_wp2_with fail
  refine LS.out.mono ?_; rintro e w5 ⟨rfl, a⟩
  obtain ⟨F5, p5, b5, f5⟩ := ca_aft b4 f4 a
  clear a p4 b4 f4 LS
  have HB := Lib.hid (cb_new w5 (x := zeroCt) rfl)
  have HB2 := Lib.hid (cb_set HB.out (x := ⟨sm5 3 2, 1, 12⟩) rfl)
  have CX : Hid (Ca Pc w ((w5.alloc (.cells zeroCt.cells 45)).setRow w5.heap.size (Ct.mk (sm5 3 2) 1 12).cells) g 0 kn1) := Lib.hid (Ca.below KH.out ⟨F5, p5, b5, f5⟩ (below_row' ((Below.refl _ w5).alloc (Nat.le_refl _) _) (Nat.le_refl _)))
  clear p5 b5 f5
  obtain ⟨F6, p6, b6, f6⟩ := CX.out
  have LS := Lib.hid (KH.out.due (nu := 3) p6 (by omega))
  rw [kn_due] at LS
  have k25 : ((w5.alloc (.cells zeroCt.cells 45)).setRow w5.heap.size (Ct.mk (sm5 3 2) 1 12).cells).cell? ⟨w5.heap.size, 25, none⟩ = some (.int .u8 1) := by rw [cell_of_row _ _ _ _ _ _ HB2.out.1]; rfl
  have k26 : ((w5.alloc (.cells zeroCt.cells 45)).setRow w5.heap.size (Ct.mk (sm5 3 2) 1 12).cells).cell? ⟨w5.heap.size, 26, none⟩ = some (.int .i64 12) := by rw [cell_of_row _ _ _ _ _ _ HB2.out.1]; rfl
  go_wp2_with ((with_reducible refine wl_store_ct ⟨sm5 3 2, 1, 12⟩ w5.heap.size HB.out rfl ?_ ?_ ?_); rfl; rfl)
  refine LS.out.mono ?_; rintro e w6 ⟨rfl, a⟩
  obtain ⟨F7, p7, b7, f7⟩ := ca_aft b6 f6 a
  have BE := Lib.hid b7
  clear a p6 b6 f6 p7 f7 b7
  go_wp2_with fail
  go_ret
  exact ⟨rfl, BE.out⟩
end Go.Proofs.Ytejhnfkljfdejaa
