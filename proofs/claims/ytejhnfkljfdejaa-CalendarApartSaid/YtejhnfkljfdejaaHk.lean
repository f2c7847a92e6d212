/- The program's calendar: New, List; a calendar that is not there. -/
import Derived.Test.YtejhnfkljfdejaaHf
import Derived.Test.YtejhnfkljfdejaaHj
namespace Go.Proofs.Ytejhnfkljfdejaa
open Go.RowKit
set_option linter.unusedVariables false

/-- The zero calendar's cells. -/
def zcal : Array Value := #[.bool false, .int .u32 0, .slice none 0 0]
theorem zcal_zero (w : World) : (zeroValue 51).run Try.prog w = .ok (.agg zcal) w := by kernel_rfl
theorem missing_nc {w : World} {p : Option Addr} (h : Nc zcal w p) : Calls Try.prog 31 #[.pointer p] w fun e w' => e = .returned (.bool true) ∧ w = w' := by
  rcases h with rfl | ⟨g, rfl, hg⟩
  · exact missing_nil w
  · exact missing_zero (by rw [cell_of_row _ _ _ _ _ _ hg]; rfl)
theorem Nc.below {w W : World} {p : Option Addr} {B : Nat} (h : Nc zcal w p) (q : Below B w W) (hB : w.heap.size ≤ B) : Nc zcal W p := by
  rcases h with rfl | ⟨g, rfl, hg⟩
  · exact .inl rfl
  · exact .inr ⟨g, rfl, (q.block g (by have := (Array.getElem?_eq_some_iff.1 hg).1; omega)).trans hg⟩
set_option maxRecDepth 100000 in
theorem nc_next {w : World} {p : Option Addr} (h : Nc zcal w p) : Calls Try.prog 10 #[.pointer p] w fun e w' => e = .returned (.int .i64 1) ∧ Below w.heap.size w w' := by
  have M := missing_nc h
  clear h
  go_enter Try.func10, Try.ntmps10
  go_wp2_with fail
  refine M.mono ?_; rintro e w2 ⟨rfl, rfl⟩
  go_wp2_with fail
  go_ret
  exact ⟨rfl, Below.refl _ _⟩
set_option maxRecDepth 100000 in
theorem nc_day {w : World} {p : Option Addr} (h : Nc zcal w p) : Calls Try.prog 27 #[.pointer p] w fun e w' => e = .returned (.int .u32 0) ∧ Below w.heap.size w w' := by
  have M := missing_nc h
  clear h
  go_enter Try.func27, Try.ntmps27
  go_wp2_with fail
  refine M.mono ?_; rintro e w2 ⟨rfl, rfl⟩
  go_wp2_with fail
  go_ret
  exact ⟨rfl, Below.refl _ _⟩
set_option maxRecDepth 100000 in
theorem nc_copy {w : World} {p : Option Addr} (h : Nc zcal w p) : Calls Try.prog 22 #[.pointer p] w fun e w' => e = .returned (.pointer none) ∧ Below w.heap.size w w' := by
  have M := missing_nc h
  clear h
  go_enter Try.func22, Try.ntmps22
  go_wp2_with fail
  refine M.mono ?_; rintro e w2 ⟨rfl, rfl⟩
  go_wp2_with fail
  go_ret
  exact ⟨rfl, Below.refl _ _⟩
set_option maxRecDepth 100000 in
theorem nc_at {w : World} {p : Option Addr} (nu : Int) (h : Nc zcal w p) : Calls Try.prog 43 #[.pointer p, .int .u32 nu] w fun e w' => e = .returned (.tuple #[.pointer none, .int .i64 1]) ∧ w = w' := by
  have M := missing_nc h
  clear h
  go_enter Try.func43, Try.ntmps43
  go_wp2_with fail
  refine M.mono ?_; rintro e w2 ⟨rfl, rfl⟩
  go_wp2_with fail
  go_ret2
  exact ⟨rfl, rfl⟩
set_option maxRecDepth 100000 in
theorem nc_living {w : World} {p : Option Addr} (nu : Int) (h : Nc zcal w p) : Calls Try.prog 37 #[.pointer p, .int .u32 nu] w fun e w' => e = .returned (.tuple #[.pointer none, .int .i64 1]) ∧ w = w' := by
  have M := nc_at nu h
  clear h
  go_enter Try.func37, Try.ntmps37
  go_wp2_with fail
  refine M.mono ?_; rintro e w2 ⟨rfl, rfl⟩
  go_wp2_with fail
  go_ret2
  exact ⟨rfl, rfl⟩
set_option maxRecDepth 100000 in
theorem nc_due {w : World} {p : Option Addr} (nu : Int) (h : Nc zcal w p) : Calls Try.prog 41 #[.pointer p, .int .u32 nu] w fun e w' => e = .returned (.tuple #[.pointer none, .int .i64 1]) ∧ Below w.heap.size w w' := by
  have M := nc_living nu h
  clear h
  go_enter Try.func41, Try.ntmps41
  go_wp2_with fail
  refine M.mono ?_; rintro e w2 ⟨rfl, rfl⟩
  go_wp2_with fail
  go_ret2
  exact ⟨rfl, below_new _ _⟩
set_option maxRecDepth 100000 in
theorem nc_halt {w : World} {p : Option Addr} {nu : Int} {on : Bool} (h : Nc zcal w p) : Calls Try.prog 14 #[.pointer p, .int .u32 nu, .bool on] w fun e w' => e = .returned (.int .i64 1) ∧ Below w.heap.size w w' := by
  have M := nc_living nu h
  clear h
  go_enter Try.func14, Try.ntmps14
  go_wp2_with fail
  refine M.mono ?_; rintro e w2 ⟨rfl, rfl⟩
  go_wp2_with fail
  go_ret
  exact ⟨rfl, Below.refl _ _⟩
set_option maxRecDepth 100000 in
theorem nc_pub {w : World} {p : Option Addr} {nu pr : Int} (h : Nc zcal w p) : Calls Try.prog 16 #[.pointer p, .int .u32 nu, .int .i64 pr] w fun e w' => e = .returned (.int .i64 1) ∧ Below w.heap.size w w' := by
  have M := nc_living nu h
  clear h
  go_enter Try.func16, Try.ntmps16
  go_wp2_with fail
  refine M.mono ?_; rintro e w2 ⟨rfl, rfl⟩
  go_wp2_with fail
  go_ret
  exact ⟨rfl, Below.refl _ _⟩
set_option maxRecDepth 100000 in
theorem nc_dueT {w : World} {p : Option Addr} {nu : Int} (h : Nc zcal w p) : Calls Try.prog 18 #[.pointer p, .int .u32 nu] w fun e w' => e = .returned (.int .i64 1) ∧ Below w.heap.size w w' := by
  have M := nc_due nu h
  clear h
  go_enter Try.func18, Try.ntmps18
  go_wp2_with fail
  refine M.mono ?_; rintro e w2 ⟨rfl, q⟩
  have Q := Lib.hid q
  clear q
  go_wp2_with fail
  go_ret
  exact ⟨rfl, Q.out⟩
set_option maxRecDepth 100000 in
theorem nc_exp {w : World} {p : Option Addr} {nu : Int} (h : Nc zcal w p) : Calls Try.prog 20 #[.pointer p, .int .u32 nu] w fun e w' => e = .returned (.int .i64 1) ∧ Below w.heap.size w w' := by
  have M := nc_due nu h
  clear h
  go_enter Try.func20, Try.ntmps20
  go_wp2_with fail
  refine M.mono ?_; rintro e w2 ⟨rfl, q⟩
  have Q := Lib.hid q
  clear q
  go_wp2_with fail
  go_ret
  exact ⟨rfl, Q.out⟩
set_option maxRecDepth 100000 in
theorem nc_list {w : World} {p : Option Addr} {s : Sp} (ok : s.ok) (h : Nc zcal w p) : Calls Try.prog 12 #[.pointer p, .agg s.cells] w fun e w' => e = .returned (.int .i64 1) ∧ Below w.heap.size w w' := by
  have M := missing_nc (h.below (below_new w (.cells s.cells 33)) (Nat.le_refl _))
  clear h
  go_enter Try.func12, Try.ntmps12
  go_wp2_with fail
  refine M.mono ?_; rintro e w2 ⟨rfl, rfl⟩
  go_wp2_with fail
  go_ret
  exact ⟨rfl, below_new _ _⟩
set_option maxRecDepth 100000 in
theorem nc_get {w : World} {p : Option Addr} {nu : Int} (h : Nc zcal w p) : Calls Try.prog 24 #[.pointer p, .int .u32 nu] w fun e w' => e = .returned (.tuple #[.agg zeroCt.cells, .int .i64 1]) ∧ Below w.heap.size w w' := by
  have hz := zero_ct
  have M := nc_at nu (h.below (below_new w (.cells zeroCt.cells 45)) (Nat.le_refl _))
  have CB := Lib.hid (cb_new w (x := zeroCt) rfl)
  clear h
  go_enter Try.func24, Try.ntmps24
  go_wp2_with fail
  refine M.mono ?_; rintro e w2 ⟨rfl, rfl⟩
  go_wp2_with (first | (refine wl_build0 ?_) | (refine wl_store_ct zeroCt w.heap.size CB.out rfl rfl rfl ?_))
  have F := row_in (x := zeroCt) (Nat.le_refl _) (below_new w (.cells zeroCt.cells 45))
  exact bodyPost_ret (ret_ct rfl _ _ w.heap.size rfl rfl (cb_set CB.out rfl)) rfl ⟨rfl, F⟩
end Go.Proofs.Ytejhnfkljfdejaa
