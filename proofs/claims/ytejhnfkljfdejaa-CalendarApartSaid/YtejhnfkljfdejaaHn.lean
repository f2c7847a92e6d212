/- The program's calendar: behind, and what All tells. -/
import Derived.Test.YtejhnfkljfdejaaHf
import Derived.Test.YtejhnfkljfdejaaHk
import Derived.RangeFuncKeeps
import Derived.TacticsInMore
import Derived.LoopNIn
import Derived.LoopIn
namespace Go.Proofs.Ytejhnfkljfdejaa
open Go.RowKit Go.Shelf
set_option linter.unusedVariables false

def over (nu : Int) (x : Ct) : Bool := decide (nu < x.sp.nu)
/-- What behind answers. -/
def bhA (cs : List Ct) (nu : Int) : Ct × Bool := match cs.findIdx? (over nu) with | some k => (match cs[k]? with | some x => (x, true) | none => (zeroCt, false)) | none => (zeroCt, false)
theorem bh_some {cs : List Ct} {nu : Int} {k : Nat} {x : Ct} (h : cs.findIdx? (over nu) = some k) (hx : cs[k]? = some x) : bhA cs nu = (x, true) := by unfold bhA; rw [h]; simp only [hx]
theorem bh_none {cs : List Ct} {nu : Int} (h : cs.findIdx? (over nu) = none) : bhA cs nu = (zeroCt, false) := by unfold bhA; rw [h]
theorem two_new (w : World) (nu : Int) : Below w.heap.size w ((w.alloc (.cells #[.int .u32 nu] 26)).alloc (.cells zeroCt.cells 45)) := (below_new w _).trans ((below_new _ _).mono (by simp))
theorem two_zero (w : World) (nu : Int) : Cb ((w.alloc (.cells #[.int .u32 nu] 26)).alloc (.cells zeroCt.cells 45)) (w.heap.size + 1) zeroCt := by
  have h := cb_new (w.alloc (.cells #[.int .u32 nu] 26)) (x := zeroCt) rfl
  rwa [show (w.alloc (.cells #[.int .u32 nu] 26)).heap.size = w.heap.size + 1 by simp] at h
theorem two_nu (w : World) (nu : Int) : ((w.alloc (.cells #[.int .u32 nu] 26)).alloc (.cells zeroCt.cells 45)).cell? ⟨w.heap.size, 0, none⟩ = some (.int .u32 nu) := by
  refine cell_below ?_ (below_new _ _) (Nat.le_refl _)
  rw [cell_of_row _ _ _ _ _ _ (heap_alloc_new w _)]; rfl
set_option maxRecDepth 100000 in
set_option maxHeartbeats 2000000 in
theorem behind_any (g : Nat) (v : Value) (d : Int) (cs : List Ct) (nu : Int) (w : World) (h : Rp w g v d cs) :
    Calls Try.prog 45 #[.pointer (some ⟨g, 0, none⟩), .int .u32 nu] w fun e w' => e = .returned (.tuple #[.agg (bhA cs nu).1.cells, .bool (bhA cs nu).2]) ∧ Below w.heap.size w w' := by
  have hz := zero_ct
  obtain ⟨W1, hW1⟩ : ∃ W1, (w.alloc (.cells #[.int .u32 nu] 26)).alloc (.cells zeroCt.cells 45) = W1 := ⟨_, rfl⟩
  have b1 := two_new w nu
  have z1 := two_zero w nu
  have n1 := two_nu w nu
  rw [hW1] at b1 z1 n1
  have HB := Lib.hid b1
  have H1 := Lib.hid (h.below b1)
  have ZS := Lib.hid fun (W : World) (q : Below W1.heap.size W1 W) => (show Cb W (w.heap.size + 1) zeroCt from ⟨(q.block _ (Array.getElem?_eq_some_iff.1 z1.1).1).trans z1.1, rfl⟩)
  have T : Tests 62 #[.pointer (some ⟨w.heap.size, 0, none⟩)] (over nu) W1 := fun W x hb ok => bclo_any x w.heap.size nu W ok (cell_below n1 hb (Nat.le_refl _))
  have M := missing_no H1.out.c0
  have k2 := H1.out.c2
  obtain ⟨A, c, rfl⟩ := h.one
  have IX := index_any 62 _ (over nu) A cs.length c cs W1 (enters_of Try.func62 (by kernel_rfl) rfl) T H1.out.read h.ok (by have := h.le; omega)
  have HW := Lib.hid hW1
  have hl := h.le
  have SHL := Lib.hid h.sh
  cases hi : cs.findIdx? (over nu) with
  | none =>
    rw [bh_none hi]
    unfold idxC at IX
    rw [hi] at IX
    simp only at IX
    clear h T b1 z1 n1 hW1 hi
    generalize cs.length = n at *
    go_enter Try.func45, Try.ntmps45
    go_wp2_with fail
    rw [HW.out]
    refine M.mono ?_; rintro e w2 ⟨rfl, rfl⟩
    go_wp2_with fail
    refine IX.mono ?_; rintro e w2 ⟨rfl, q⟩
    have Q := Lib.hid q
    clear q
    go_wp2_with (first | (refine wl_build0 ?_) | (refine wl_store_ct zeroCt (w.heap.size + 1) (ZS.out _ Q.out) rfl rfl rfl ?_))
    have F := row_in (x := zeroCt) (w := w) (g := w.heap.size + 1) (by omega) (HB.out.trans (Q.out.mono HB.out.size))
    exact bodyPost_ret (ret_ct rfl _ _ (w.heap.size + 1) rfl rfl (cb_set (ZS.out _ Q.out) rfl)) rfl ⟨rfl, F⟩
  | some k =>
    have hk : k < cs.length := by
      obtain ⟨hk, _⟩ := List.findIdx?_eq_some_iff_getElem.1 hi
      exact hk
    obtain ⟨x, hx⟩ : ∃ x, cs[k]? = some x := ⟨cs[k], List.getElem?_eq_getElem hk⟩
    rw [bh_some hi hx]
    unfold idxC at IX
    rw [hi] at IX
    simp only at IX
    obtain ⟨b, c', eb⟩ := h.slot hk
    have HL := Lib.hid (h.sh x (List.mem_of_getElem? hx))
    injection eb with e1 _ e2
    subst e1 e2
    have RG := Lib.hid fun W q => (H1.out.below (W' := W) q).rng hx
    have CV := Lib.hid fun W q => (H1.out.below (W' := W) q).c2
    have hp1 : (k : Int) < (cs.length : Int) := by omega
    have hd : decide ((k : Int) < 0) = false := decide_eq_false (by omega)
    clear h T b1 z1 n1 hW1 hi hx
    generalize cs.length = n at *
    go_enter Try.func45, Try.ntmps45
    go_wp2_with fail
    rw [HW.out]
    refine M.mono ?_; rintro e w2 ⟨rfl, rfl⟩
    go_wp2_with fail
    refine IX.mono ?_; rintro e w2 ⟨rfl, q⟩
    have Q := Lib.hid q
    have rg := Lib.hid (RG.out _ q)
    have cv := CV.out _ q
    clear q
    go_wp2_with (first | (refine wl_load_ctm b (k * 27) HL.out rg.out rfl ?_) | (refine wl_store_ct x (w.heap.size + 1) (ZS.out _ Q.out) HL.out rfl rfl ?_))
    have F := row_in (x := x) (w := w) (g := w.heap.size + 1) (by omega) (HB.out.trans (Q.out.mono HB.out.size))
    exact bodyPost_ret (ret_ct rfl _ _ (w.heap.size + 1) rfl rfl (cb_set (ZS.out _ Q.out) HL.out)) rfl ⟨rfl, F⟩
set_option maxRecDepth 100000 in
set_option maxHeartbeats 2000000 in
theorem nc_behind {w : World} {p : Option Addr} (nu : Int) (h : Nc zcal w p) : Calls Try.prog 45 #[.pointer p, .int .u32 nu] w fun e w' => e = .returned (.tuple #[.agg zeroCt.cells, .bool false]) ∧ Below w.heap.size w w' := by
  have hz := zero_ct
  obtain ⟨W1, hW1⟩ : ∃ W1, (w.alloc (.cells #[.int .u32 nu] 26)).alloc (.cells zeroCt.cells 45) = W1 := ⟨_, rfl⟩
  have b1 := two_new w nu
  have z1 := two_zero w nu
  rw [hW1] at b1 z1
  have HB := Lib.hid b1
  have Z1 := Lib.hid z1
  have M := missing_nc (h.below b1 (Nat.le_refl _))
  have HW := Lib.hid hW1
  clear h b1 z1 hW1
  go_enter Try.func45, Try.ntmps45
  go_wp2_with fail
  rw [HW.out]
  refine M.mono ?_; rintro e w2 ⟨rfl, rfl⟩
  go_wp2_with (first | (refine wl_build0 ?_) | (refine wl_store_ct zeroCt (w.heap.size + 1) Z1.out rfl rfl rfl ?_))
  have F := row_in (x := zeroCt) (w := w) (g := w.heap.size + 1) (by omega) HB.out
  exact bodyPost_ret (ret_ct rfl _ _ (w.heap.size + 1) rfl rfl (cb_set Z1.out rfl)) rfl ⟨rfl, F⟩
end Go.Proofs.Ytejhnfkljfdejaa
