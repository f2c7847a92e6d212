/- Contracts of the document's plain side: Add. -/
import Derived.Test.YtdcjgcjnfcahkaaG03
namespace Go.Proofs.Ytdcjgcjnfcahkaa
open Go.RowKit
set_option linter.unusedVariables false

theorem neq_bool (a b : Bool) : (a != b) = !(a == b) := rfl
set_option maxRecDepth 100000 in
set_option maxHeartbeats 1000000 in
theorem radd_arg (B g : Nat) (v : Value) (buy : Bool) (l : List Or) (o : Or) (w : World) (h : Rs w B g v buy l) (ok : o.ok) (hb : (mayO o && o.bu == buy) = false) :
    Calls Try.prog 79 #[.pointer (some ⟨g, 0, none⟩), .agg (EO.cells o).toArray] w fun e w' => e = .returned (.int .i64 2) ∧ Below w.heap.size w w' := by
  obtain ⟨W1, hW1⟩ : ∃ W1, w.alloc (.cells (EO.cells o).toArray 31) = W1 := ⟨_, rfl⟩
  have b1 : Below w.heap.size w W1 := by rw [← hW1]; exact below_new w _
  have x1 : EO.Bx 31 W1 w.heap.size o := by rw [← hW1]; exact gbx_new w o
  have s1 : W1.heap.size = w.heap.size + 1 := by rw [← hW1]; simp
  have h1 := h.below b1
  have MY := Lib.hid fun W => rmay_o o W ok
  have HW := Lib.hid hW1
  have B1 := Lib.hid b1
  have H1 := Lib.hid h1
  have S1 := Lib.hid s1
  have GLT : Hid (g < w.heap.size) := Lib.hid h.gl
  have X1 := Lib.hid fun (W : World) (q : Below W1.heap.size W1 W) => (show EO.Bx 31 W w.heap.size o from gbx_below x1 q)
  have XR := Lib.hid fun (W : World) (q : Below W1.heap.size W1 W) => gbx_rng (gbx_below x1 q)
  have X2 := Lib.hid fun (W : World) (q : Below W1.heap.size W1 W) => (show W.cell? ⟨w.heap.size, 2, none⟩ = some (.bool o.bu) from gbx_cell (gbx_below x1 q) 2)
  have X0 := Lib.hid fun (W : World) (q : Below W1.heap.size W1 W) => (show W.cell? ⟨w.heap.size, 0, none⟩ = some (.int .u64 o.nu) from gbx_cell (gbx_below x1 q) 0)
  have C0 := Lib.hid fun (W : World) (q : Below W1.heap.size W1 W) => (h1.below q).c0
  have PL := Lib.hid fun (W : World) (q : Below W1.heap.size W1 W) => rpl_any B g v buy l o.nu W (h1.below q) ok.nu
  clear h h1 hW1 b1 x1 s1
  cases hm : mayO o
  · rw [hm] at MY
    go_enter Try.func79, Try.ntmps79
    go_wp2_with fail
    rw [HW.out]
    refine wp_region_held_drew (S := fun U => Below W1.heap.size W1 U) (by kernel_rfl) (Below.refl _ _).drew (fun hH => ?_)
    refine wpAnyH_take (i := 0) (v := .agg (EO.cells o).toArray) rfl (by kernel_rfl) (by kernel_rfl) (by kernel_rfl) (fun _ _ _ h => h) (gyields_load TO (by rfl) (.tmp 3) rfl w.heap.size 0 rfl XR.out) (by assumption) ?_
    try simp only [List.getElem_toArray, List.getElem_cons_zero, Act.put, List.setIfInBounds_toArray, List.set_cons_zero, List.set_cons_succ]
    refine wpAnyH_ready (rs := [1]) (by decide +kernel) (by simp) (AllReadyH.cons rfl (fun KQ hK => ?_) AllReadyH.nil)
    go_simp
    refine (MY.out _).mono ?_; rintro e0 W2 ⟨rfl, q1⟩
    have hH := hH.trans (q1.mono hH.size)
    refine hK.out _ _ hH (fun _ => ?_)
    clear hK q1
    try simp only [List.setIfInBounds_toArray, List.set_cons_zero, List.set_cons_succ]
    refine wpAnyH_take (i := 2) (v := .bool true) rfl (by kernel_rfl) (by kernel_rfl) (by kernel_rfl) (fun _ _ _ h => h) (.inl ⟨by rfl, ?_⟩) (by assumption) ?_
    · intro W hW; go_simp
    try simp only [List.getElem_toArray, List.getElem_cons_zero, List.getElem_cons_succ, Act.put, List.setIfInBounds_toArray, List.set_cons_zero, List.set_cons_succ]
    refine wpAnyH_take (i := 3) (v := .bool true) rfl (by kernel_rfl) (by kernel_rfl) (by kernel_rfl) (fun _ _ _ h => h) (.inl ⟨by rfl, ?_⟩) (by assumption) ?_
    · intro W hW; go_simp
    try simp only [List.getElem_toArray, List.getElem_cons_zero, List.getElem_cons_succ, Act.put, List.setIfInBounds_toArray, List.set_cons_zero, List.set_cons_succ]
    refine wpAnyH_take (i := 4) (v := undef) rfl (by kernel_rfl) (by kernel_rfl) (by kernel_rfl) (fun _ _ _ h => h) (.inr ⟨by rfl, rfl⟩) (by assumption) ?_
    try simp only [List.getElem_toArray, List.getElem_cons_zero, List.getElem_cons_succ, Act.put, List.setIfInBounds_toArray, List.set_cons_zero, List.set_cons_succ]
    refine wpAnyH_take (i := 5) (v := undef) rfl (by kernel_rfl) (by kernel_rfl) (by kernel_rfl) (fun _ _ _ h => h) (.inr ⟨by rfl, rfl⟩) (by assumption) ?_
    try simp only [List.getElem_toArray, List.getElem_cons_zero, List.getElem_cons_succ, Act.put, List.setIfInBounds_toArray, List.set_cons_zero, List.set_cons_succ]
    refine wpAnyH_take (i := 6) (v := undef) rfl (by kernel_rfl) (by kernel_rfl) (by kernel_rfl) (fun _ _ _ h => h) (.inr ⟨by rfl, rfl⟩) (by assumption) ?_
    try simp only [List.getElem_toArray, List.getElem_cons_zero, List.getElem_cons_succ, Act.put, List.setIfInBounds_toArray, List.set_cons_zero, List.set_cons_succ]
    refine wpAnyH_take (i := 7) (v := undef) rfl (by kernel_rfl) (by kernel_rfl) (by kernel_rfl) (fun _ _ _ h => h) (.inr ⟨by rfl, rfl⟩) (by assumption) ?_
    try simp only [List.getElem_toArray, List.getElem_cons_zero, List.getElem_cons_succ, Act.put, List.setIfInBounds_toArray, List.set_cons_zero, List.set_cons_succ]
    refine wpAnyH_take (i := 8) (v := undef) rfl (by kernel_rfl) (by kernel_rfl) (by kernel_rfl) (fun _ _ _ h => h) (.inr ⟨by rfl, rfl⟩) (by assumption) ?_
    try simp only [List.getElem_toArray, List.getElem_cons_zero, List.getElem_cons_succ, Act.put, List.setIfInBounds_toArray, List.set_cons_zero, List.set_cons_succ]
    refine wpAnyH_take (i := 9) (v := undef) rfl (by kernel_rfl) (by kernel_rfl) (by kernel_rfl) (fun _ _ _ h => h) (.inr ⟨by rfl, rfl⟩) (by assumption) ?_
    try simp only [List.getElem_toArray, List.getElem_cons_zero, List.getElem_cons_succ, Act.put, List.setIfInBounds_toArray, List.set_cons_zero, List.set_cons_succ]
    refine wpAnyH_take (i := 10) (v := undef) rfl (by kernel_rfl) (by kernel_rfl) (by kernel_rfl) (fun _ _ _ h => h) (.inr ⟨by rfl, rfl⟩) (by assumption) ?_
    try simp only [List.getElem_toArray, List.getElem_cons_zero, List.getElem_cons_succ, Act.put, List.setIfInBounds_toArray, List.set_cons_zero, List.set_cons_succ]
    refine wpAnyH_take (i := 11) (v := .bool true) rfl (by kernel_rfl) (by kernel_rfl) (by kernel_rfl) (fun _ _ _ h => h) (.inl ⟨by rfl, ?_⟩) (by assumption) ?_
    · intro W hW; go_simp
    try simp only [List.getElem_toArray, List.getElem_cons_zero, List.getElem_cons_succ, Act.put, List.setIfInBounds_toArray, List.set_cons_zero, List.set_cons_succ]
    refine wpAnyH_done (by decide +kernel) ?_ _
    have Q2 := Lib.hid hH
    clear hH
    go_wp2_with fail
    go_ret
    exact ⟨rfl, B1.out.trans (Q2.out.mono B1.out.size)⟩
  · rw [hm] at MY hb
    have hne : ¬ o.bu = buy := by simpa using hb
    clear hb
    go_enter Try.func79, Try.ntmps79
    go_wp2_with fail
    rw [HW.out]
    refine wp_region_held_drew (S := fun U => Below W1.heap.size W1 U) (by kernel_rfl) (Below.refl _ _).drew (fun hH => ?_)
    refine wpAnyH_take (i := 0) (v := .agg (EO.cells o).toArray) rfl (by kernel_rfl) (by kernel_rfl) (by kernel_rfl) (fun _ _ _ h => h) (gyields_load TO (by rfl) (.tmp 3) rfl w.heap.size 0 rfl XR.out) (by assumption) ?_
    try simp only [List.getElem_toArray, List.getElem_cons_zero, Act.put, List.setIfInBounds_toArray, List.set_cons_zero, List.set_cons_succ]
    refine wpAnyH_ready (rs := [1]) (by decide +kernel) (by simp) (AllReadyH.cons rfl (fun KQ hK => ?_) AllReadyH.nil)
    go_simp
    refine (MY.out _).mono ?_; rintro e0 W2 ⟨rfl, q1⟩
    have hH := hH.trans (q1.mono hH.size)
    refine hK.out _ _ hH (fun _ => ?_)
    clear hK q1
    try simp only [List.setIfInBounds_toArray, List.set_cons_zero, List.set_cons_succ]
    refine wpAnyH_take (i := 2) (v := .bool false) rfl (by kernel_rfl) (by kernel_rfl) (by kernel_rfl) (fun _ _ _ h => h) (.inl ⟨by rfl, ?_⟩) (by assumption) ?_
    · intro W hW; go_simp
    try simp only [List.getElem_toArray, List.getElem_cons_zero, List.getElem_cons_succ, Act.put, List.setIfInBounds_toArray, List.set_cons_zero, List.set_cons_succ]
    refine wpAnyH_take (i := 3) (v := .bool false) rfl (by kernel_rfl) (by kernel_rfl) (by kernel_rfl) (fun _ _ _ h => h) (.inl ⟨by rfl, ?_⟩) (by assumption) ?_
    · intro W hW; go_simp
    try simp only [List.getElem_toArray, List.getElem_cons_zero, List.getElem_cons_succ, Act.put, List.setIfInBounds_toArray, List.set_cons_zero, List.set_cons_succ]
    refine wpAnyH_take (i := 4) (v := .pointer (some ⟨w.heap.size, 2, none⟩)) rfl (by kernel_rfl) (by kernel_rfl) (by kernel_rfl) (fun _ _ _ h => h) (.inl ⟨by rfl, ?_⟩) (by assumption) ?_
    · intro W hW; go_simp
    try simp only [List.getElem_toArray, List.getElem_cons_zero, List.getElem_cons_succ, Act.put, List.setIfInBounds_toArray, List.set_cons_zero, List.set_cons_succ]
    refine wpAnyH_take (i := 5) (v := .bool o.bu) rfl (by kernel_rfl) (by kernel_rfl) (by kernel_rfl) (fun _ _ _ h => h) (.inl ⟨by rfl, ?_⟩) (by assumption) ?_
    · intro W hW; have h1 := X2.out W hW; go_simp
    try simp only [List.getElem_toArray, List.getElem_cons_zero, List.getElem_cons_succ, Act.put, List.setIfInBounds_toArray, List.set_cons_zero, List.set_cons_succ]
    refine wpAnyH_take (i := 6) (v := .pointer (some ⟨g, 0, none⟩)) rfl (by kernel_rfl) (by kernel_rfl) (by kernel_rfl) (fun _ _ _ h => h) (.inl ⟨by rfl, ?_⟩) (by assumption) ?_
    · intro W hW; go_simp
    try simp only [List.getElem_toArray, List.getElem_cons_zero, List.getElem_cons_succ, Act.put, List.setIfInBounds_toArray, List.set_cons_zero, List.set_cons_succ]
    refine wpAnyH_take (i := 7) (v := .pointer (some ⟨g, 0, none⟩)) rfl (by kernel_rfl) (by kernel_rfl) (by kernel_rfl) (fun _ _ _ h => h) (.inl ⟨by rfl, ?_⟩) (by assumption) ?_
    · intro W hW; go_simp
    try simp only [List.getElem_toArray, List.getElem_cons_zero, List.getElem_cons_succ, Act.put, List.setIfInBounds_toArray, List.set_cons_zero, List.set_cons_succ]
    refine wpAnyH_take (i := 8) (v := .pointer (some ⟨g, 0, none⟩)) rfl (by kernel_rfl) (by kernel_rfl) (by kernel_rfl) (fun _ _ _ h => h) (.inl ⟨by rfl, ?_⟩) (by assumption) ?_
    · intro W hW; go_simp
    try simp only [List.getElem_toArray, List.getElem_cons_zero, List.getElem_cons_succ, Act.put, List.setIfInBounds_toArray, List.set_cons_zero, List.set_cons_succ]
    refine wpAnyH_take (i := 9) (v := .bool buy) rfl (by kernel_rfl) (by kernel_rfl) (by kernel_rfl) (fun _ _ _ h => h) (.inl ⟨by rfl, ?_⟩) (by assumption) ?_
    · intro W hW; have h1 := C0.out W hW; go_simp
    try simp only [List.getElem_toArray, List.getElem_cons_zero, List.getElem_cons_succ, Act.put, List.setIfInBounds_toArray, List.set_cons_zero, List.set_cons_succ]
    refine wpAnyH_take (i := 10) (v := .bool true) rfl (by kernel_rfl) (by kernel_rfl) (by kernel_rfl) (fun _ _ _ h => h) (.inl ⟨by rfl, ?_⟩) (by assumption) ?_
    · intro W hW; go_simp
    try simp only [List.getElem_toArray, List.getElem_cons_zero, List.getElem_cons_succ, Act.put, List.setIfInBounds_toArray, List.set_cons_zero, List.set_cons_succ]
    refine wpAnyH_take (i := 11) (v := .bool true) rfl (by kernel_rfl) (by kernel_rfl) (by kernel_rfl) (fun _ _ _ h => h) (.inl ⟨by rfl, ?_⟩) (by assumption) ?_
    · intro W hW; go_simp
    try simp only [List.getElem_toArray, List.getElem_cons_zero, List.getElem_cons_succ, Act.put, List.setIfInBounds_toArray, List.set_cons_zero, List.set_cons_succ]
    refine wpAnyH_done (by decide +kernel) ?_ _
    have Q2 := Lib.hid hH
    clear hH
    go_wp2_with fail
    go_ret
    exact ⟨rfl, B1.out.trans (Q2.out.mono B1.out.size)⟩
set_option maxRecDepth 100000 in
set_option maxHeartbeats 1000000 in
theorem radd_twice (B g : Nat) (v : Value) (buy : Bool) (l : List Or) (o : Or) (k : Nat) (w : World) (h : Rs w B g v buy l) (ok : o.ok) (hm : mayO o = true) (hbu : o.bu = buy) (hp : plO l o.nu = k) :
    Calls Try.prog 79 #[.pointer (some ⟨g, 0, none⟩), .agg (EO.cells o).toArray] w fun e w' => e = .returned (.int .i64 8) ∧ Below w.heap.size w w' := by
  obtain ⟨W1, hW1⟩ : ∃ W1, w.alloc (.cells (EO.cells o).toArray 31) = W1 := ⟨_, rfl⟩
  have b1 : Below w.heap.size w W1 := by rw [← hW1]; exact below_new w _
  have x1 : EO.Bx 31 W1 w.heap.size o := by rw [← hW1]; exact gbx_new w o
  have s1 : W1.heap.size = w.heap.size + 1 := by rw [← hW1]; simp
  have h1 := h.below b1
  have MY := Lib.hid fun W => rmay_o o W ok
  have HW := Lib.hid hW1
  have B1 := Lib.hid b1
  have H1 := Lib.hid h1
  have S1 := Lib.hid s1
  have GLT : Hid (g < w.heap.size) := Lib.hid h.gl
  have X1 := Lib.hid fun (W : World) (q : Below W1.heap.size W1 W) => (show EO.Bx 31 W w.heap.size o from gbx_below x1 q)
  have XR := Lib.hid fun (W : World) (q : Below W1.heap.size W1 W) => gbx_rng (gbx_below x1 q)
  have X2 := Lib.hid fun (W : World) (q : Below W1.heap.size W1 W) => (show W.cell? ⟨w.heap.size, 2, none⟩ = some (.bool o.bu) from gbx_cell (gbx_below x1 q) 2)
  have X0 := Lib.hid fun (W : World) (q : Below W1.heap.size W1 W) => (show W.cell? ⟨w.heap.size, 0, none⟩ = some (.int .u64 o.nu) from gbx_cell (gbx_below x1 q) 0)
  have C0 := Lib.hid fun (W : World) (q : Below W1.heap.size W1 W) => (h1.below q).c0
  have PL := Lib.hid fun (W : World) (q : Below W1.heap.size W1 W) => rpl_any B g v buy l o.nu W (h1.below q) ok.nu
  rw [hm] at MY
  rw [hp] at PL
  have hne := hbu
  have hk0 : decide ((0 : Int) ≤ (k : Int)) = true := decide_eq_true (by omega)
  clear h h1 hW1 b1 x1 s1 hm hp hbu
  go_enter Try.func79, Try.ntmps79
  go_wp2_with fail
  rw [HW.out]
  refine wp_region_held_drew (S := fun U => Below W1.heap.size W1 U) (by kernel_rfl) (Below.refl _ _).drew (fun hH => ?_)
  refine wpAnyH_take (i := 0) (v := .agg (EO.cells o).toArray) rfl (by kernel_rfl) (by kernel_rfl) (by kernel_rfl) (fun _ _ _ h => h) (gyields_load TO (by rfl) (.tmp 3) rfl w.heap.size 0 rfl XR.out) (by assumption) ?_
  try simp only [List.getElem_toArray, List.getElem_cons_zero, Act.put, List.setIfInBounds_toArray, List.set_cons_zero, List.set_cons_succ]
  refine wpAnyH_ready (rs := [1]) (by decide +kernel) (by simp) (AllReadyH.cons rfl (fun KQ hK => ?_) AllReadyH.nil)
  go_simp
  refine (MY.out _).mono ?_; rintro e0 W2 ⟨rfl, q1⟩
  have hH := hH.trans (q1.mono hH.size)
  refine hK.out _ _ hH (fun _ => ?_)
  clear hK q1
  try simp only [List.setIfInBounds_toArray, List.set_cons_zero, List.set_cons_succ]
  refine wpAnyH_take (i := 2) (v := .bool false) rfl (by kernel_rfl) (by kernel_rfl) (by kernel_rfl) (fun _ _ _ h => h) (.inl ⟨by rfl, ?_⟩) (by assumption) ?_
  · intro W hW; go_simp
  try simp only [List.getElem_toArray, List.getElem_cons_zero, List.getElem_cons_succ, Act.put, List.setIfInBounds_toArray, List.set_cons_zero, List.set_cons_succ]
  refine wpAnyH_take (i := 3) (v := .bool false) rfl (by kernel_rfl) (by kernel_rfl) (by kernel_rfl) (fun _ _ _ h => h) (.inl ⟨by rfl, ?_⟩) (by assumption) ?_
  · intro W hW; go_simp
  try simp only [List.getElem_toArray, List.getElem_cons_zero, List.getElem_cons_succ, Act.put, List.setIfInBounds_toArray, List.set_cons_zero, List.set_cons_succ]
  refine wpAnyH_take (i := 4) (v := .pointer (some ⟨w.heap.size, 2, none⟩)) rfl (by kernel_rfl) (by kernel_rfl) (by kernel_rfl) (fun _ _ _ h => h) (.inl ⟨by rfl, ?_⟩) (by assumption) ?_
  · intro W hW; go_simp
  try simp only [List.getElem_toArray, List.getElem_cons_zero, List.getElem_cons_succ, Act.put, List.setIfInBounds_toArray, List.set_cons_zero, List.set_cons_succ]
  refine wpAnyH_take (i := 5) (v := .bool o.bu) rfl (by kernel_rfl) (by kernel_rfl) (by kernel_rfl) (fun _ _ _ h => h) (.inl ⟨by rfl, ?_⟩) (by assumption) ?_
  · intro W hW; have h1 := X2.out W hW; go_simp
  try simp only [List.getElem_toArray, List.getElem_cons_zero, List.getElem_cons_succ, Act.put, List.setIfInBounds_toArray, List.set_cons_zero, List.set_cons_succ]
  refine wpAnyH_take (i := 6) (v := .pointer (some ⟨g, 0, none⟩)) rfl (by kernel_rfl) (by kernel_rfl) (by kernel_rfl) (fun _ _ _ h => h) (.inl ⟨by rfl, ?_⟩) (by assumption) ?_
  · intro W hW; go_simp
  try simp only [List.getElem_toArray, List.getElem_cons_zero, List.getElem_cons_succ, Act.put, List.setIfInBounds_toArray, List.set_cons_zero, List.set_cons_succ]
  refine wpAnyH_take (i := 7) (v := .pointer (some ⟨g, 0, none⟩)) rfl (by kernel_rfl) (by kernel_rfl) (by kernel_rfl) (fun _ _ _ h => h) (.inl ⟨by rfl, ?_⟩) (by assumption) ?_
  · intro W hW; go_simp
  try simp only [List.getElem_toArray, List.getElem_cons_zero, List.getElem_cons_succ, Act.put, List.setIfInBounds_toArray, List.set_cons_zero, List.set_cons_succ]
  refine wpAnyH_take (i := 8) (v := .pointer (some ⟨g, 0, none⟩)) rfl (by kernel_rfl) (by kernel_rfl) (by kernel_rfl) (fun _ _ _ h => h) (.inl ⟨by rfl, ?_⟩) (by assumption) ?_
  · intro W hW; go_simp
  try simp only [List.getElem_toArray, List.getElem_cons_zero, List.getElem_cons_succ, Act.put, List.setIfInBounds_toArray, List.set_cons_zero, List.set_cons_succ]
  refine wpAnyH_take (i := 9) (v := .bool buy) rfl (by kernel_rfl) (by kernel_rfl) (by kernel_rfl) (fun _ _ _ h => h) (.inl ⟨by rfl, ?_⟩) (by assumption) ?_
  · intro W hW; have h1 := C0.out W hW; go_simp
  try simp only [List.getElem_toArray, List.getElem_cons_zero, List.getElem_cons_succ, Act.put, List.setIfInBounds_toArray, List.set_cons_zero, List.set_cons_succ]
  refine wpAnyH_take (i := 10) (v := .bool false) rfl (by kernel_rfl) (by kernel_rfl) (by kernel_rfl) (fun _ _ _ h => h) (.inl ⟨by rfl, ?_⟩) (by assumption) ?_
  · intro W hW; go_simp
  try simp only [List.getElem_toArray, List.getElem_cons_zero, List.getElem_cons_succ, Act.put, List.setIfInBounds_toArray, List.set_cons_zero, List.set_cons_succ]
  refine wpAnyH_take (i := 11) (v := .bool false) rfl (by kernel_rfl) (by kernel_rfl) (by kernel_rfl) (fun _ _ _ h => h) (.inl ⟨by rfl, ?_⟩) (by assumption) ?_
  · intro W hW; go_simp
  try simp only [List.getElem_toArray, List.getElem_cons_zero, List.getElem_cons_succ, Act.put, List.setIfInBounds_toArray, List.set_cons_zero, List.set_cons_succ]
  refine wpAnyH_done (by decide +kernel) ?_ _
  have Q2 := Lib.hid hH
  clear hH
  have xn := X0.out _ Q2.out
  go_wp2_with fail
  refine (PL.out _ Q2.out).mono ?_; rintro e w5 ⟨rfl, rfl⟩
  go_wp2_with fail
  go_ret
  exact ⟨rfl, B1.out.trans (Q2.out.mono B1.out.size)⟩
set_option maxRecDepth 100000 in
set_option maxHeartbeats 1000000 in
theorem radd_full (B g : Nat) (v : Value) (buy : Bool) (l : List Or) (o : Or) (w : World) (h : Rs w B g v buy l) (ok : o.ok) (hm : mayO o = true) (hbu : o.bu = buy) (hp : plO l o.nu = -1) (hf : 100 ≤ l.length) :
    Calls Try.prog 79 #[.pointer (some ⟨g, 0, none⟩), .agg (EO.cells o).toArray] w fun e w' => e = .returned (.int .i64 9) ∧ Below w.heap.size w w' := by
  obtain ⟨W1, hW1⟩ : ∃ W1, w.alloc (.cells (EO.cells o).toArray 31) = W1 := ⟨_, rfl⟩
  have b1 : Below w.heap.size w W1 := by rw [← hW1]; exact below_new w _
  have x1 : EO.Bx 31 W1 w.heap.size o := by rw [← hW1]; exact gbx_new w o
  have s1 : W1.heap.size = w.heap.size + 1 := by rw [← hW1]; simp
  have h1 := h.below b1
  have MY := Lib.hid fun W => rmay_o o W ok
  have HW := Lib.hid hW1
  have B1 := Lib.hid b1
  have H1 := Lib.hid h1
  have S1 := Lib.hid s1
  have GLT : Hid (g < w.heap.size) := Lib.hid h.gl
  have X1 := Lib.hid fun (W : World) (q : Below W1.heap.size W1 W) => (show EO.Bx 31 W w.heap.size o from gbx_below x1 q)
  have XR := Lib.hid fun (W : World) (q : Below W1.heap.size W1 W) => gbx_rng (gbx_below x1 q)
  have X2 := Lib.hid fun (W : World) (q : Below W1.heap.size W1 W) => (show W.cell? ⟨w.heap.size, 2, none⟩ = some (.bool o.bu) from gbx_cell (gbx_below x1 q) 2)
  have X0 := Lib.hid fun (W : World) (q : Below W1.heap.size W1 W) => (show W.cell? ⟨w.heap.size, 0, none⟩ = some (.int .u64 o.nu) from gbx_cell (gbx_below x1 q) 0)
  have C0 := Lib.hid fun (W : World) (q : Below W1.heap.size W1 W) => (h1.below q).c0
  have PL := Lib.hid fun (W : World) (q : Below W1.heap.size W1 W) => rpl_any B g v buy l o.nu W (h1.below q) ok.nu
  rw [hm] at MY
  rw [hp] at PL
  obtain ⟨A, c, rfl, hAc⟩ := gown_form h.own
  have CV := Lib.hid fun (W : World) (q : Below W1.heap.size W1 W) => (h1.below q).c1
  have hne := hbu
  have hfu : decide ((100 : Int) ≤ (l.length : Int)) = true := decide_eq_true (by omega)
  have hle := h.le
  clear h h1 hW1 b1 x1 s1 hm hp hbu hf
  generalize l.length = m at *
  go_enter Try.func79, Try.ntmps79
  go_wp2_with fail
  rw [HW.out]
  refine wp_region_held_drew (S := fun U => Below W1.heap.size W1 U) (by kernel_rfl) (Below.refl _ _).drew (fun hH => ?_)
  refine wpAnyH_take (i := 0) (v := .agg (EO.cells o).toArray) rfl (by kernel_rfl) (by kernel_rfl) (by kernel_rfl) (fun _ _ _ h => h) (gyields_load TO (by rfl) (.tmp 3) rfl w.heap.size 0 rfl XR.out) (by assumption) ?_
  try simp only [List.getElem_toArray, List.getElem_cons_zero, Act.put, List.setIfInBounds_toArray, List.set_cons_zero, List.set_cons_succ]
  refine wpAnyH_ready (rs := [1]) (by decide +kernel) (by simp) (AllReadyH.cons rfl (fun KQ hK => ?_) AllReadyH.nil)
  go_simp
  refine (MY.out _).mono ?_; rintro e0 W2 ⟨rfl, q1⟩
  have hH := hH.trans (q1.mono hH.size)
  refine hK.out _ _ hH (fun _ => ?_)
  clear hK q1
  try simp only [List.setIfInBounds_toArray, List.set_cons_zero, List.set_cons_succ]
  refine wpAnyH_take (i := 2) (v := .bool false) rfl (by kernel_rfl) (by kernel_rfl) (by kernel_rfl) (fun _ _ _ h => h) (.inl ⟨by rfl, ?_⟩) (by assumption) ?_
  · intro W hW; go_simp
  try simp only [List.getElem_toArray, List.getElem_cons_zero, List.getElem_cons_succ, Act.put, List.setIfInBounds_toArray, List.set_cons_zero, List.set_cons_succ]
  refine wpAnyH_take (i := 3) (v := .bool false) rfl (by kernel_rfl) (by kernel_rfl) (by kernel_rfl) (fun _ _ _ h => h) (.inl ⟨by rfl, ?_⟩) (by assumption) ?_
  · intro W hW; go_simp
  try simp only [List.getElem_toArray, List.getElem_cons_zero, List.getElem_cons_succ, Act.put, List.setIfInBounds_toArray, List.set_cons_zero, List.set_cons_succ]
  refine wpAnyH_take (i := 4) (v := .pointer (some ⟨w.heap.size, 2, none⟩)) rfl (by kernel_rfl) (by kernel_rfl) (by kernel_rfl) (fun _ _ _ h => h) (.inl ⟨by rfl, ?_⟩) (by assumption) ?_
  · intro W hW; go_simp
  try simp only [List.getElem_toArray, List.getElem_cons_zero, List.getElem_cons_succ, Act.put, List.setIfInBounds_toArray, List.set_cons_zero, List.set_cons_succ]
  refine wpAnyH_take (i := 5) (v := .bool o.bu) rfl (by kernel_rfl) (by kernel_rfl) (by kernel_rfl) (fun _ _ _ h => h) (.inl ⟨by rfl, ?_⟩) (by assumption) ?_
  · intro W hW; have h1 := X2.out W hW; go_simp
  try simp only [List.getElem_toArray, List.getElem_cons_zero, List.getElem_cons_succ, Act.put, List.setIfInBounds_toArray, List.set_cons_zero, List.set_cons_succ]
  refine wpAnyH_take (i := 6) (v := .pointer (some ⟨g, 0, none⟩)) rfl (by kernel_rfl) (by kernel_rfl) (by kernel_rfl) (fun _ _ _ h => h) (.inl ⟨by rfl, ?_⟩) (by assumption) ?_
  · intro W hW; go_simp
  try simp only [List.getElem_toArray, List.getElem_cons_zero, List.getElem_cons_succ, Act.put, List.setIfInBounds_toArray, List.set_cons_zero, List.set_cons_succ]
  refine wpAnyH_take (i := 7) (v := .pointer (some ⟨g, 0, none⟩)) rfl (by kernel_rfl) (by kernel_rfl) (by kernel_rfl) (fun _ _ _ h => h) (.inl ⟨by rfl, ?_⟩) (by assumption) ?_
  · intro W hW; go_simp
  try simp only [List.getElem_toArray, List.getElem_cons_zero, List.getElem_cons_succ, Act.put, List.setIfInBounds_toArray, List.set_cons_zero, List.set_cons_succ]
  refine wpAnyH_take (i := 8) (v := .pointer (some ⟨g, 0, none⟩)) rfl (by kernel_rfl) (by kernel_rfl) (by kernel_rfl) (fun _ _ _ h => h) (.inl ⟨by rfl, ?_⟩) (by assumption) ?_
  · intro W hW; go_simp
  try simp only [List.getElem_toArray, List.getElem_cons_zero, List.getElem_cons_succ, Act.put, List.setIfInBounds_toArray, List.set_cons_zero, List.set_cons_succ]
  refine wpAnyH_take (i := 9) (v := .bool buy) rfl (by kernel_rfl) (by kernel_rfl) (by kernel_rfl) (fun _ _ _ h => h) (.inl ⟨by rfl, ?_⟩) (by assumption) ?_
  · intro W hW; have h1 := C0.out W hW; go_simp
  try simp only [List.getElem_toArray, List.getElem_cons_zero, List.getElem_cons_succ, Act.put, List.setIfInBounds_toArray, List.set_cons_zero, List.set_cons_succ]
  refine wpAnyH_take (i := 10) (v := .bool false) rfl (by kernel_rfl) (by kernel_rfl) (by kernel_rfl) (fun _ _ _ h => h) (.inl ⟨by rfl, ?_⟩) (by assumption) ?_
  · intro W hW; go_simp
  try simp only [List.getElem_toArray, List.getElem_cons_zero, List.getElem_cons_succ, Act.put, List.setIfInBounds_toArray, List.set_cons_zero, List.set_cons_succ]
  refine wpAnyH_take (i := 11) (v := .bool false) rfl (by kernel_rfl) (by kernel_rfl) (by kernel_rfl) (fun _ _ _ h => h) (.inl ⟨by rfl, ?_⟩) (by assumption) ?_
  · intro W hW; go_simp
  try simp only [List.getElem_toArray, List.getElem_cons_zero, List.getElem_cons_succ, Act.put, List.setIfInBounds_toArray, List.set_cons_zero, List.set_cons_succ]
  refine wpAnyH_done (by decide +kernel) ?_ _
  have Q2 := Lib.hid hH
  clear hH
  have xn := X0.out _ Q2.out
  have cv := CV.out _ Q2.out
  go_wp2_with fail
  refine (PL.out _ Q2.out).mono ?_; rintro e w5 ⟨rfl, rfl⟩
  go_wp2_with fail
  go_ret
  exact ⟨rfl, B1.out.trans (Q2.out.mono B1.out.size)⟩
set_option maxRecDepth 100000 in
set_option maxHeartbeats 8000000 in
theorem radd_ok (B g : Nat) (v : Value) (buy : Bool) (l : List Or) (o : Or) (w : World) (h : Rs w B g v buy l) (ok : o.ok) (hm : mayO o = true) (hbu : o.bu = buy) (hp : plO l o.nu = -1) (hf : l.length < 100) :
    Calls Try.prog 79 #[.pointer (some ⟨g, 0, none⟩), .agg (EO.cells o).toArray] w fun e w' => e = .returned (.int .i64 0) ∧ RsN w B g v buy (l ++ [o]) w' := by
  obtain ⟨W1, hW1⟩ : ∃ W1, w.alloc (.cells (EO.cells o).toArray 31) = W1 := ⟨_, rfl⟩
  have b1 : Below w.heap.size w W1 := by rw [← hW1]; exact below_new w _
  have x1 : EO.Bx 31 W1 w.heap.size o := by rw [← hW1]; exact gbx_new w o
  have s1 : W1.heap.size = w.heap.size + 1 := by rw [← hW1]; simp
  have h1 := h.below b1
  have MY := Lib.hid fun W => rmay_o o W ok
  have HW := Lib.hid hW1
  have B1 := Lib.hid b1
  have H1 := Lib.hid h1
  have S1 := Lib.hid s1
  have GLT : Hid (g < w.heap.size) := Lib.hid h.gl
  have X1 := Lib.hid fun (W : World) (q : Below W1.heap.size W1 W) => (show EO.Bx 31 W w.heap.size o from gbx_below x1 q)
  have XR := Lib.hid fun (W : World) (q : Below W1.heap.size W1 W) => gbx_rng (gbx_below x1 q)
  have X2 := Lib.hid fun (W : World) (q : Below W1.heap.size W1 W) => (show W.cell? ⟨w.heap.size, 2, none⟩ = some (.bool o.bu) from gbx_cell (gbx_below x1 q) 2)
  have X0 := Lib.hid fun (W : World) (q : Below W1.heap.size W1 W) => (show W.cell? ⟨w.heap.size, 0, none⟩ = some (.int .u64 o.nu) from gbx_cell (gbx_below x1 q) 0)
  have C0 := Lib.hid fun (W : World) (q : Below W1.heap.size W1 W) => (h1.below q).c0
  have PL := Lib.hid fun (W : World) (q : Below W1.heap.size W1 W) => rpl_any B g v buy l o.nu W (h1.below q) ok.nu
  rw [hm] at MY
  rw [hp] at PL
  obtain ⟨A, c, rfl, hAc⟩ := gown_form h.own
  have CV := Lib.hid fun (W : World) (q : Below W1.heap.size W1 W) => (h1.below q).c1
  have RD := Lib.hid fun (W : World) (q : Below W1.heap.size W1 W) => gown_rd (h1.below q).own
  have AC := Lib.hid hAc
  have OK := Lib.hid ok
  have hne := hbu
  have hfu : decide ((100 : Int) ≤ (l.length : Int)) = false := decide_eq_false (by omega)
  have HB : Hid (B ≤ g) := Lib.hid h.ge
  have LOK := Lib.hid h.ok
  obtain ⟨m, hl⟩ : ∃ m, l.length = m := ⟨_, rfl⟩
  have HL := Lib.hid hl
  rw [hl] at hf hfu CV RD H1 ⊢
  clear h h1 hW1 b1 x1 s1 hm hp hbu hl hAc ok
  go_enter Try.func79, Try.ntmps79
  go_wp2_with fail
  rw [HW.out]
  refine wp_region_held_drew (S := fun U => Below W1.heap.size W1 U) (by kernel_rfl) (Below.refl _ _).drew (fun hH => ?_)
  refine wpAnyH_take (i := 0) (v := .agg (EO.cells o).toArray) rfl (by kernel_rfl) (by kernel_rfl) (by kernel_rfl) (fun _ _ _ h => h) (gyields_load TO (by rfl) (.tmp 3) rfl w.heap.size 0 rfl XR.out) (by assumption) ?_
  try simp only [List.getElem_toArray, List.getElem_cons_zero, Act.put, List.setIfInBounds_toArray, List.set_cons_zero, List.set_cons_succ]
  refine wpAnyH_ready (rs := [1]) (by decide +kernel) (by simp) (AllReadyH.cons rfl (fun KQ hK => ?_) AllReadyH.nil)
  go_simp
  refine (MY.out _).mono ?_; rintro e0 W2 ⟨rfl, q1⟩
  have hH := hH.trans (q1.mono hH.size)
  refine hK.out _ _ hH (fun _ => ?_)
  clear hK q1
  try simp only [List.setIfInBounds_toArray, List.set_cons_zero, List.set_cons_succ]
  refine wpAnyH_take (i := 2) (v := .bool false) rfl (by kernel_rfl) (by kernel_rfl) (by kernel_rfl) (fun _ _ _ h => h) (.inl ⟨by rfl, ?_⟩) (by assumption) ?_
  · intro W hW; go_simp
  try simp only [List.getElem_toArray, List.getElem_cons_zero, List.getElem_cons_succ, Act.put, List.setIfInBounds_toArray, List.set_cons_zero, List.set_cons_succ]
  refine wpAnyH_take (i := 3) (v := .bool false) rfl (by kernel_rfl) (by kernel_rfl) (by kernel_rfl) (fun _ _ _ h => h) (.inl ⟨by rfl, ?_⟩) (by assumption) ?_
  · intro W hW; go_simp
  try simp only [List.getElem_toArray, List.getElem_cons_zero, List.getElem_cons_succ, Act.put, List.setIfInBounds_toArray, List.set_cons_zero, List.set_cons_succ]
  refine wpAnyH_take (i := 4) (v := .pointer (some ⟨w.heap.size, 2, none⟩)) rfl (by kernel_rfl) (by kernel_rfl) (by kernel_rfl) (fun _ _ _ h => h) (.inl ⟨by rfl, ?_⟩) (by assumption) ?_
  · intro W hW; go_simp
  try simp only [List.getElem_toArray, List.getElem_cons_zero, List.getElem_cons_succ, Act.put, List.setIfInBounds_toArray, List.set_cons_zero, List.set_cons_succ]
  refine wpAnyH_take (i := 5) (v := .bool o.bu) rfl (by kernel_rfl) (by kernel_rfl) (by kernel_rfl) (fun _ _ _ h => h) (.inl ⟨by rfl, ?_⟩) (by assumption) ?_
  · intro W hW; have h1 := X2.out W hW; go_simp
  try simp only [List.getElem_toArray, List.getElem_cons_zero, List.getElem_cons_succ, Act.put, List.setIfInBounds_toArray, List.set_cons_zero, List.set_cons_succ]
  refine wpAnyH_take (i := 6) (v := .pointer (some ⟨g, 0, none⟩)) rfl (by kernel_rfl) (by kernel_rfl) (by kernel_rfl) (fun _ _ _ h => h) (.inl ⟨by rfl, ?_⟩) (by assumption) ?_
  · intro W hW; go_simp
  try simp only [List.getElem_toArray, List.getElem_cons_zero, List.getElem_cons_succ, Act.put, List.setIfInBounds_toArray, List.set_cons_zero, List.set_cons_succ]
  refine wpAnyH_take (i := 7) (v := .pointer (some ⟨g, 0, none⟩)) rfl (by kernel_rfl) (by kernel_rfl) (by kernel_rfl) (fun _ _ _ h => h) (.inl ⟨by rfl, ?_⟩) (by assumption) ?_
  · intro W hW; go_simp
  try simp only [List.getElem_toArray, List.getElem_cons_zero, List.getElem_cons_succ, Act.put, List.setIfInBounds_toArray, List.set_cons_zero, List.set_cons_succ]
  refine wpAnyH_take (i := 8) (v := .pointer (some ⟨g, 0, none⟩)) rfl (by kernel_rfl) (by kernel_rfl) (by kernel_rfl) (fun _ _ _ h => h) (.inl ⟨by rfl, ?_⟩) (by assumption) ?_
  · intro W hW; go_simp
  try simp only [List.getElem_toArray, List.getElem_cons_zero, List.getElem_cons_succ, Act.put, List.setIfInBounds_toArray, List.set_cons_zero, List.set_cons_succ]
  refine wpAnyH_take (i := 9) (v := .bool buy) rfl (by kernel_rfl) (by kernel_rfl) (by kernel_rfl) (fun _ _ _ h => h) (.inl ⟨by rfl, ?_⟩) (by assumption) ?_
  · intro W hW; have h1 := C0.out W hW; go_simp
  try simp only [List.getElem_toArray, List.getElem_cons_zero, List.getElem_cons_succ, Act.put, List.setIfInBounds_toArray, List.set_cons_zero, List.set_cons_succ]
  refine wpAnyH_take (i := 10) (v := .bool false) rfl (by kernel_rfl) (by kernel_rfl) (by kernel_rfl) (fun _ _ _ h => h) (.inl ⟨by rfl, ?_⟩) (by assumption) ?_
  · intro W hW; go_simp
  try simp only [List.getElem_toArray, List.getElem_cons_zero, List.getElem_cons_succ, Act.put, List.setIfInBounds_toArray, List.set_cons_zero, List.set_cons_succ]
  refine wpAnyH_take (i := 11) (v := .bool false) rfl (by kernel_rfl) (by kernel_rfl) (by kernel_rfl) (fun _ _ _ h => h) (.inl ⟨by rfl, ?_⟩) (by assumption) ?_
  · intro W hW; go_simp
  try simp only [List.getElem_toArray, List.getElem_cons_zero, List.getElem_cons_succ, Act.put, List.setIfInBounds_toArray, List.set_cons_zero, List.set_cons_succ]
  refine wpAnyH_done (by decide +kernel) ?_ _
  have Q2 := Lib.hid hH
  clear hH
  have xn := X0.out _ Q2.out
  have cv := CV.out _ Q2.out
  go_wp2_with fail
  refine (PL.out _ Q2.out).mono ?_; rintro e w3 ⟨rfl, rfl⟩
  go_wp2_with fail
  clear xn cv
  have N3 : Hid (w.heap.size < W2.heap.size ∧ g < W2.heap.size) := Lib.hid (by have := Q2.out.size; have := S1.out; have := GLT.out; omega)
  have FX : Hid (∀ W, Fr (fun k => k = g) W2 W → W.rangeAt w.heap.size 0 (EO.cells o)) := Lib.hid fun W f => gbx_rng (te := 31) ((f.at' _ N3.out.1 (fun e => by have := GLT.out; omega)).trans (X1.out _ Q2.out))
  refine wp_region_held_drew (S := fun U => Fr (fun k => k = g) W2 U) (by kernel_rfl) ((Fr.refl _ _).drewN 1) (fun hH => ?_)
  obtain ⟨V, hV⟩ : ∃ V, W2.drew = V := ⟨_, rfl⟩
  rw [hV] at hH ⊢
  have QW : Hid (Below W2.heap.size W2 V) := Lib.hid (by rw [← hV]; exact (Below.refl _ _).drew)
  clear hV hH
  refine wpAnyH_take (i := 0) (v := .pointer (some ⟨g, 0, none⟩)) rfl (by kernel_rfl) (by kernel_rfl) (by kernel_rfl) (fun _ _ _ h => h) (.inl ⟨by rfl, ?_⟩) (Fr.below QW.out) ?_
  · intro W hW; go_simp
  try simp only [List.getElem_toArray, List.getElem_cons_zero, Act.put, List.setIfInBounds_toArray, List.set_cons_zero, List.set_cons_succ]
  refine wpAnyH_take (i := 2) (v := .pointer (some ⟨g, 0, none⟩)) rfl (by kernel_rfl) (by kernel_rfl) (by kernel_rfl) (fun _ _ _ h => h) (.inl ⟨by rfl, ?_⟩) (Fr.below QW.out) ?_
  · intro W hW; go_simp
  try simp only [List.getElem_toArray, List.getElem_cons_zero, List.getElem_cons_succ, Act.put, List.setIfInBounds_toArray, List.set_cons_zero, List.set_cons_succ]
  refine wpAnyH_take (i := 3) (v := .pointer (some ⟨g, 0, none⟩)) rfl (by kernel_rfl) (by kernel_rfl) (by kernel_rfl) (fun _ _ _ h => h) (.inl ⟨by rfl, ?_⟩) (Fr.below QW.out) ?_
  · intro W hW; go_simp
  try simp only [List.getElem_toArray, List.getElem_cons_zero, List.getElem_cons_succ, Act.put, List.setIfInBounds_toArray, List.set_cons_zero, List.set_cons_succ]
  refine wpAnyH_take (i := 4) (v := .pointer (some ⟨g, 1, none⟩)) rfl (by kernel_rfl) (by kernel_rfl) (by kernel_rfl) (fun _ _ _ h => h) (.inl ⟨by rfl, ?_⟩) (Fr.below QW.out) ?_
  · intro W hW; go_simp
  try simp only [List.getElem_toArray, List.getElem_cons_zero, List.getElem_cons_succ, Act.put, List.setIfInBounds_toArray, List.set_cons_zero, List.set_cons_succ]
  refine wpAnyH_take (i := 7) (v := .agg (EO.cells o).toArray) rfl (by kernel_rfl) (by kernel_rfl) (by kernel_rfl) (fun _ _ _ h => h) (gyields_load TO (by rfl) (.tmp 3) rfl w.heap.size 0 rfl FX.out) (Fr.below QW.out) ?_
  try simp only [List.getElem_toArray, List.getElem_cons_zero, List.getElem_cons_succ, Act.put, List.setIfInBounds_toArray, List.set_cons_zero, List.set_cons_succ]
  refine wpAnyH_ready (rs := [1, 5, 8]) (by decide +kernel) (by simp) (AllReadyH.cons rfl (fun KQ hK => ?_) (AllReadyH.cons rfl (fun KQ hK => ?_) (AllReadyH.cons rfl (fun KQ hK => ?_) AllReadyH.nil)))
  · go_simp
    obtain ⟨V1, hV⟩ : ∃ VV, V.alloc (.cells #[] 31) = VV := ⟨_, rfl⟩
    rw [hV]
    have bn : Below V.heap.size V V1 := by rw [← hV]; exact below_new _ _
    have O1 : Hid (EO.Own 31 V1 W2.heap.size (.slice (some ⟨V.heap.size, 0, none⟩) 0 0) []) := Lib.hid (by rw [← hV]; exact gown_low (gown_new _) QW.out.size)
    have QW := Lib.hid (QW.out.trans (bn.mono QW.out.size))
    clear bn hV
    refine hK.out _ _ (Fr.below QW.out) (fun _ => ?_)
    clear hK
    try simp only [List.setIfInBounds_toArray, List.set_cons_zero, List.set_cons_succ]
    refine wpAnyH_ready (rs := [5, 8]) (by decide +kernel) (by simp) (AllReadyH.cons rfl (fun KQ hK => ?_) (AllReadyH.cons rfl (fun KQ hK => ?_) AllReadyH.nil))
    · have cv := (H1.out.below (Q2.out.trans (QW.out.mono Q2.out.size))).c1
      go_simp
      refine hK.out _ _ (Fr.below QW.out) (fun _ => ?_)
      clear hK cv
      try simp only [List.setIfInBounds_toArray, List.set_cons_zero, List.set_cons_succ]
      refine wpAnyH_ready (rs := [6, 8]) (by decide +kernel) (by simp) (AllReadyH.cons rfl (fun KQ hK => ?_) (AllReadyH.cons rfl (fun KQ hK => ?_) AllReadyH.nil))
      · rw [if_pos (by rfl)]
        refine gwp_app TO (.tmp 29) (.tmp 33) rfl W2.heap.size _ [] rfl O1.out A m c l rfl (RD.out _ (Q2.out.trans (QW.out.mono Q2.out.size))) AC.out (by simp; omega) QW.out.size ?_; intro v6 V3 o6 g6 _
        rw [List.nil_append] at o6
        obtain ⟨A6, n6, c6, rfl⟩ := gown_any o6
        have O6 := Lib.hid o6
        have QW := Lib.hid (QW.out.grown g6 QW.out.size (fun k e => (gown_lt O1.out e).1))
        clear o6 g6
        refine hK.out _ _ (Fr.below QW.out) (fun _ => ?_)
        clear hK
        try simp only [List.getElem_toArray, List.getElem_cons_zero, List.getElem_cons_succ, Act.put, List.setIfInBounds_toArray, List.set_cons_zero, List.set_cons_succ]
        refine wpAnyH_ready (rs := [8]) (by decide +kernel) (by simp) (AllReadyH.cons rfl (fun KQ hK => ?_) AllReadyH.nil)
        · rw [if_pos (by rfl)]
          refine gwp_bs TO rfl (s := o) rfl (fill_or o) ?_ (by decide)
          obtain ⟨V4, hV⟩ : ∃ VV, V3.alloc (.cells (EO.cells o).toArray 31) = VV := ⟨_, rfl⟩
          rw [hV]
          have bn : Below V3.heap.size V3 V4 := by rw [← hV]; exact below_new _ _
          have B8 : Hid (EO.Bx 31 V4 V3.heap.size o) := Lib.hid (by rw [← hV]; exact gbx_new _ o)
          have O6 := Lib.hid (gown_below O6.out bn)
          have QW := Lib.hid (QW.out.trans (bn.mono QW.out.size))
          clear bn hV
          refine hK.out _ _ (Fr.below QW.out) (fun _ => ?_)
          clear hK
          try simp only [List.getElem_toArray, List.getElem_cons_zero, List.getElem_cons_succ, Act.put, List.setIfInBounds_toArray, List.set_cons_zero, List.set_cons_succ]
          refine wpAnyH_ready (rs := [9]) (by decide +kernel) (by simp) (AllReadyH.cons rfl (fun KQ hK => ?_) AllReadyH.nil)
          · rw [if_pos (by rfl)]
            refine gwp_app TO (.tmp 34) (.tmp 36) rfl W2.heap.size _ l rfl O6.out (some ⟨V3.heap.size, 0, none⟩) 1 1 [o] rfl (gbx_rd B8.out) (fun e => by cases e) (by have := HL.out; omega) QW.out.size ?_; intro v9 V5 o9 g9 _
            obtain ⟨A9, n9, c9, rfl⟩ := gown_any o9
            have O9 := Lib.hid o9
            have QW := Lib.hid (QW.out.grown g9 QW.out.size (fun k e => (gown_lt O6.out e).1))
            clear o9 g9
            refine hK.out _ _ (Fr.below QW.out) (fun _ => ?_)
            clear hK
            try simp only [List.getElem_toArray, List.getElem_cons_zero, List.getElem_cons_succ, Act.put, List.setIfInBounds_toArray, List.set_cons_zero, List.set_cons_succ]
            have H5 := Lib.hid (H1.out.below (Q2.out.trans (QW.out.mono Q2.out.size)))
            have cg := H5.out.c1
            have fg := H5.out.fz 1
            refine wpAnyH_take (i := 10) (v := .pointer (some ⟨g, 0, none⟩)) rfl (by kernel_rfl) (by kernel_rfl) (by kernel_rfl) (fun _ _ _ h => h) (.inl ⟨by rfl, ?_⟩) (Fr.below QW.out) ?_
            · intro W hW; go_simp
            try simp only [List.getElem_toArray, List.getElem_cons_zero, List.getElem_cons_succ, Act.put, List.setIfInBounds_toArray, List.set_cons_zero, List.set_cons_succ]
            refine wpAnyH_take (i := 11) (v := .pointer (some ⟨g, 1, none⟩)) rfl (by kernel_rfl) (by kernel_rfl) (by kernel_rfl) (fun _ _ _ h => h) (.inl ⟨by rfl, ?_⟩) (Fr.below QW.out) ?_
            · intro W hW; go_simp
            try simp only [List.getElem_toArray, List.getElem_cons_zero, List.getElem_cons_succ, Act.put, List.setIfInBounds_toArray, List.set_cons_zero, List.set_cons_succ]
            refine wpAnyH_ready (rs := [12]) (by decide +kernel) (by simp) (AllReadyH.cons rfl (fun KQ hK => ?_) AllReadyH.nil)
            go_simp
            refine hK.out _ _ ((Fr.below QW.out).same (Fr.set (S := fun k => k = g) (p := ⟨g, 1, none⟩) rfl _)) (fun _ => ?_)
            clear hK cg fg
            try simp only [List.setIfInBounds_toArray, List.set_cons_zero, List.set_cons_succ]
            refine wpAnyH_done (by decide +kernel) ?_ _
            go_wp2_with fail
            go_ret
            have bb := B1.out.trans ((Q2.out.trans (QW.out.mono Q2.out.size)).mono B1.out.size)
            refine ⟨rfl, _, H5.out.put (gown_low O9.out (by have := HB.out; have := N3.out; omega)) (fun e => by have := (gown_lt O9.out e).1; have := N3.out; omega) (by rw [List.length_append, HL.out]; simp; omega) (fun y hy => ?_), (Fr.below bb).same (Fr.set (S := fun k => k = g) (p := ⟨g, 1, none⟩) rfl _), fun k hk => .inr (by have := (gown_lt O9.out hk).1; have := N3.out; omega)⟩
            rcases List.mem_append.1 hy with q | q
            · exact LOK.out y q
            · rw [List.mem_singleton.1 q]; exact OK.out
      · rw [if_pos (by rfl)]
        refine gwp_bs TO rfl (s := o) rfl (fill_or o) ?_ (by decide)
        obtain ⟨V6, hV⟩ : ∃ VV, V1.alloc (.cells (EO.cells o).toArray 31) = VV := ⟨_, rfl⟩
        rw [hV]
        have bn : Below V1.heap.size V1 V6 := by rw [← hV]; exact below_new _ _
        have B8 : Hid (EO.Bx 31 V6 V1.heap.size o) := Lib.hid (by rw [← hV]; exact gbx_new _ o)
        have NE : Hid (V1.heap.size ≠ V.heap.size) := Lib.hid (Nat.ne_of_gt (gown_lt (k := V.heap.size) O1.out rfl).2)
        have O1 := Lib.hid (gown_below O1.out bn)
        have QW := Lib.hid (QW.out.trans (bn.mono QW.out.size))
        clear bn hV
        refine hK.out _ _ (Fr.below QW.out) (fun _ => ?_)
        clear hK
        try simp only [List.getElem_toArray, List.getElem_cons_zero, List.getElem_cons_succ, Act.put, List.setIfInBounds_toArray, List.set_cons_zero, List.set_cons_succ]
        refine wpAnyH_ready (rs := [6]) (by decide +kernel) (by simp) (AllReadyH.cons rfl (fun KQ hK => ?_) AllReadyH.nil)
        · rw [if_pos (by rfl)]
          refine gwp_app TO (.tmp 29) (.tmp 33) rfl W2.heap.size _ [] rfl O1.out A m c l rfl (RD.out _ (Q2.out.trans (QW.out.mono Q2.out.size))) AC.out (by simp; omega) QW.out.size ?_; intro v6 V7 o6 g6 _
          rw [List.nil_append] at o6
          obtain ⟨A6, n6, c6, rfl⟩ := gown_any o6
          have O6 := Lib.hid o6
          have B8 : Hid (EO.Bx 31 V7 V1.heap.size o) := Lib.hid ((g6.block _ (Array.getElem?_eq_some_iff.1 B8.out).1 (fun e => NE.out (by first | exact Option.some.inj e | exact (Option.some.inj e).symm))).trans B8.out)
          have QW := Lib.hid (QW.out.grown g6 QW.out.size (fun k e => (gown_lt O1.out e).1))
          clear o6 g6
          refine hK.out _ _ (Fr.below QW.out) (fun _ => ?_)
          clear hK
          try simp only [List.getElem_toArray, List.getElem_cons_zero, List.getElem_cons_succ, Act.put, List.setIfInBounds_toArray, List.set_cons_zero, List.set_cons_succ]
          refine wpAnyH_ready (rs := [9]) (by decide +kernel) (by simp) (AllReadyH.cons rfl (fun KQ hK => ?_) AllReadyH.nil)
          · rw [if_pos (by rfl)]
            refine gwp_app TO (.tmp 34) (.tmp 36) rfl W2.heap.size _ l rfl O6.out (some ⟨V1.heap.size, 0, none⟩) 1 1 [o] rfl (gbx_rd B8.out) (fun e => by cases e) (by have := HL.out; omega) QW.out.size ?_; intro v9 V8 o9 g9 _
            obtain ⟨A9, n9, c9, rfl⟩ := gown_any o9
            have O9 := Lib.hid o9
            have QW := Lib.hid (QW.out.grown g9 QW.out.size (fun k e => (gown_lt O6.out e).1))
            clear o9 g9
            refine hK.out _ _ (Fr.below QW.out) (fun _ => ?_)
            clear hK
            try simp only [List.getElem_toArray, List.getElem_cons_zero, List.getElem_cons_succ, Act.put, List.setIfInBounds_toArray, List.set_cons_zero, List.set_cons_succ]
            have H5 := Lib.hid (H1.out.below (Q2.out.trans (QW.out.mono Q2.out.size)))
            have cg := H5.out.c1
            have fg := H5.out.fz 1
            refine wpAnyH_take (i := 10) (v := .pointer (some ⟨g, 0, none⟩)) rfl (by kernel_rfl) (by kernel_rfl) (by kernel_rfl) (fun _ _ _ h => h) (.inl ⟨by rfl, ?_⟩) (Fr.below QW.out) ?_
            · intro W hW; go_simp
            try simp only [List.getElem_toArray, List.getElem_cons_zero, List.getElem_cons_succ, Act.put, List.setIfInBounds_toArray, List.set_cons_zero, List.set_cons_succ]
            refine wpAnyH_take (i := 11) (v := .pointer (some ⟨g, 1, none⟩)) rfl (by kernel_rfl) (by kernel_rfl) (by kernel_rfl) (fun _ _ _ h => h) (.inl ⟨by rfl, ?_⟩) (Fr.below QW.out) ?_
            · intro W hW; go_simp
            try simp only [List.getElem_toArray, List.getElem_cons_zero, List.getElem_cons_succ, Act.put, List.setIfInBounds_toArray, List.set_cons_zero, List.set_cons_succ]
            refine wpAnyH_ready (rs := [12]) (by decide +kernel) (by simp) (AllReadyH.cons rfl (fun KQ hK => ?_) AllReadyH.nil)
            go_simp
            refine hK.out _ _ ((Fr.below QW.out).same (Fr.set (S := fun k => k = g) (p := ⟨g, 1, none⟩) rfl _)) (fun _ => ?_)
            clear hK cg fg
            try simp only [List.setIfInBounds_toArray, List.set_cons_zero, List.set_cons_succ]
            refine wpAnyH_done (by decide +kernel) ?_ _
            go_wp2_with fail
            go_ret
            have bb := B1.out.trans ((Q2.out.trans (QW.out.mono Q2.out.size)).mono B1.out.size)
            refine ⟨rfl, _, H5.out.put (gown_low O9.out (by have := HB.out; have := N3.out; omega)) (fun e => by have := (gown_lt O9.out e).1; have := N3.out; omega) (by rw [List.length_append, HL.out]; simp; omega) (fun y hy => ?_), (Fr.below bb).same (Fr.set (S := fun k => k = g) (p := ⟨g, 1, none⟩) rfl _), fun k hk => .inr (by have := (gown_lt O9.out hk).1; have := N3.out; omega)⟩
            rcases List.mem_append.1 hy with q | q
            · exact LOK.out y q
            · rw [List.mem_singleton.1 q]; exact OK.out
    · rw [if_pos (by rfl)]
      refine gwp_bs TO rfl (s := o) rfl (fill_or o) ?_ (by decide)
      obtain ⟨V9, hV⟩ : ∃ VV, V1.alloc (.cells (EO.cells o).toArray 31) = VV := ⟨_, rfl⟩
      rw [hV]
      have bn : Below V1.heap.size V1 V9 := by rw [← hV]; exact below_new _ _
      have B8 : Hid (EO.Bx 31 V9 V1.heap.size o) := Lib.hid (by rw [← hV]; exact gbx_new _ o)
      have NE : Hid (V1.heap.size ≠ V.heap.size) := Lib.hid (Nat.ne_of_gt (gown_lt (k := V.heap.size) O1.out rfl).2)
      have O1 := Lib.hid (gown_below O1.out bn)
      have QW := Lib.hid (QW.out.trans (bn.mono QW.out.size))
      clear bn hV
      refine hK.out _ _ (Fr.below QW.out) (fun _ => ?_)
      clear hK
      try simp only [List.getElem_toArray, List.getElem_cons_zero, List.getElem_cons_succ, Act.put, List.setIfInBounds_toArray, List.set_cons_zero, List.set_cons_succ]
      refine wpAnyH_ready (rs := [5]) (by decide +kernel) (by simp) (AllReadyH.cons rfl (fun KQ hK => ?_) AllReadyH.nil)
      · have cv := (H1.out.below (Q2.out.trans (QW.out.mono Q2.out.size))).c1
        go_simp
        refine hK.out _ _ (Fr.below QW.out) (fun _ => ?_)
        clear hK cv
        try simp only [List.setIfInBounds_toArray, List.set_cons_zero, List.set_cons_succ]
        refine wpAnyH_ready (rs := [6]) (by decide +kernel) (by simp) (AllReadyH.cons rfl (fun KQ hK => ?_) AllReadyH.nil)
        · rw [if_pos (by rfl)]
          refine gwp_app TO (.tmp 29) (.tmp 33) rfl W2.heap.size _ [] rfl O1.out A m c l rfl (RD.out _ (Q2.out.trans (QW.out.mono Q2.out.size))) AC.out (by simp; omega) QW.out.size ?_; intro v6 V11 o6 g6 _
          rw [List.nil_append] at o6
          obtain ⟨A6, n6, c6, rfl⟩ := gown_any o6
          have O6 := Lib.hid o6
          have B8 : Hid (EO.Bx 31 V11 V1.heap.size o) := Lib.hid ((g6.block _ (Array.getElem?_eq_some_iff.1 B8.out).1 (fun e => NE.out (by first | exact Option.some.inj e | exact (Option.some.inj e).symm))).trans B8.out)
          have QW := Lib.hid (QW.out.grown g6 QW.out.size (fun k e => (gown_lt O1.out e).1))
          clear o6 g6
          refine hK.out _ _ (Fr.below QW.out) (fun _ => ?_)
          clear hK
          try simp only [List.getElem_toArray, List.getElem_cons_zero, List.getElem_cons_succ, Act.put, List.setIfInBounds_toArray, List.set_cons_zero, List.set_cons_succ]
          refine wpAnyH_ready (rs := [9]) (by decide +kernel) (by simp) (AllReadyH.cons rfl (fun KQ hK => ?_) AllReadyH.nil)
          · rw [if_pos (by rfl)]
            refine gwp_app TO (.tmp 34) (.tmp 36) rfl W2.heap.size _ l rfl O6.out (some ⟨V1.heap.size, 0, none⟩) 1 1 [o] rfl (gbx_rd B8.out) (fun e => by cases e) (by have := HL.out; omega) QW.out.size ?_; intro v9 V12 o9 g9 _
            obtain ⟨A9, n9, c9, rfl⟩ := gown_any o9
            have O9 := Lib.hid o9
            have QW := Lib.hid (QW.out.grown g9 QW.out.size (fun k e => (gown_lt O6.out e).1))
            clear o9 g9
            refine hK.out _ _ (Fr.below QW.out) (fun _ => ?_)
            clear hK
            try simp only [List.getElem_toArray, List.getElem_cons_zero, List.getElem_cons_succ, Act.put, List.setIfInBounds_toArray, List.set_cons_zero, List.set_cons_succ]
            have H5 := Lib.hid (H1.out.below (Q2.out.trans (QW.out.mono Q2.out.size)))
            have cg := H5.out.c1
            have fg := H5.out.fz 1
            refine wpAnyH_take (i := 10) (v := .pointer (some ⟨g, 0, none⟩)) rfl (by kernel_rfl) (by kernel_rfl) (by kernel_rfl) (fun _ _ _ h => h) (.inl ⟨by rfl, ?_⟩) (Fr.below QW.out) ?_
            · intro W hW; go_simp
            try simp only [List.getElem_toArray, List.getElem_cons_zero, List.getElem_cons_succ, Act.put, List.setIfInBounds_toArray, List.set_cons_zero, List.set_cons_succ]
            refine wpAnyH_take (i := 11) (v := .pointer (some ⟨g, 1, none⟩)) rfl (by kernel_rfl) (by kernel_rfl) (by kernel_rfl) (fun _ _ _ h => h) (.inl ⟨by rfl, ?_⟩) (Fr.below QW.out) ?_
            · intro W hW; go_simp
            try simp only [List.getElem_toArray, List.getElem_cons_zero, List.getElem_cons_succ, Act.put, List.setIfInBounds_toArray, List.set_cons_zero, List.set_cons_succ]
            refine wpAnyH_ready (rs := [12]) (by decide +kernel) (by simp) (AllReadyH.cons rfl (fun KQ hK => ?_) AllReadyH.nil)
            go_simp
            refine hK.out _ _ ((Fr.below QW.out).same (Fr.set (S := fun k => k = g) (p := ⟨g, 1, none⟩) rfl _)) (fun _ => ?_)
            clear hK cg fg
            try simp only [List.setIfInBounds_toArray, List.set_cons_zero, List.set_cons_succ]
            refine wpAnyH_done (by decide +kernel) ?_ _
            go_wp2_with fail
            go_ret
            have bb := B1.out.trans ((Q2.out.trans (QW.out.mono Q2.out.size)).mono B1.out.size)
            refine ⟨rfl, _, H5.out.put (gown_low O9.out (by have := HB.out; have := N3.out; omega)) (fun e => by have := (gown_lt O9.out e).1; have := N3.out; omega) (by rw [List.length_append, HL.out]; simp; omega) (fun y hy => ?_), (Fr.below bb).same (Fr.set (S := fun k => k = g) (p := ⟨g, 1, none⟩) rfl _), fun k hk => .inr (by have := (gown_lt O9.out hk).1; have := N3.out; omega)⟩
            rcases List.mem_append.1 hy with q | q
            · exact LOK.out y q
            · rw [List.mem_singleton.1 q]; exact OK.out
  · have cv := (H1.out.below (Q2.out.trans (QW.out.mono Q2.out.size))).c1
    go_simp
    refine hK.out _ _ (Fr.below QW.out) (fun _ => ?_)
    clear hK cv
    try simp only [List.setIfInBounds_toArray, List.set_cons_zero, List.set_cons_succ]
    refine wpAnyH_ready (rs := [1, 8]) (by decide +kernel) (by simp) (AllReadyH.cons rfl (fun KQ hK => ?_) (AllReadyH.cons rfl (fun KQ hK => ?_) AllReadyH.nil))
    · go_simp
      obtain ⟨V14, hV⟩ : ∃ VV, V.alloc (.cells #[] 31) = VV := ⟨_, rfl⟩
      rw [hV]
      have bn : Below V.heap.size V V14 := by rw [← hV]; exact below_new _ _
      have O1 : Hid (EO.Own 31 V14 W2.heap.size (.slice (some ⟨V.heap.size, 0, none⟩) 0 0) []) := Lib.hid (by rw [← hV]; exact gown_low (gown_new _) QW.out.size)
      have QW := Lib.hid (QW.out.trans (bn.mono QW.out.size))
      clear bn hV
      refine hK.out _ _ (Fr.below QW.out) (fun _ => ?_)
      clear hK
      try simp only [List.setIfInBounds_toArray, List.set_cons_zero, List.set_cons_succ]
      refine wpAnyH_ready (rs := [6, 8]) (by decide +kernel) (by simp) (AllReadyH.cons rfl (fun KQ hK => ?_) (AllReadyH.cons rfl (fun KQ hK => ?_) AllReadyH.nil))
      · rw [if_pos (by rfl)]
        refine gwp_app TO (.tmp 29) (.tmp 33) rfl W2.heap.size _ [] rfl O1.out A m c l rfl (RD.out _ (Q2.out.trans (QW.out.mono Q2.out.size))) AC.out (by simp; omega) QW.out.size ?_; intro v6 V15 o6 g6 _
        rw [List.nil_append] at o6
        obtain ⟨A6, n6, c6, rfl⟩ := gown_any o6
        have O6 := Lib.hid o6
        have QW := Lib.hid (QW.out.grown g6 QW.out.size (fun k e => (gown_lt O1.out e).1))
        clear o6 g6
        refine hK.out _ _ (Fr.below QW.out) (fun _ => ?_)
        clear hK
        try simp only [List.getElem_toArray, List.getElem_cons_zero, List.getElem_cons_succ, Act.put, List.setIfInBounds_toArray, List.set_cons_zero, List.set_cons_succ]
        refine wpAnyH_ready (rs := [8]) (by decide +kernel) (by simp) (AllReadyH.cons rfl (fun KQ hK => ?_) AllReadyH.nil)
        · rw [if_pos (by rfl)]
          refine gwp_bs TO rfl (s := o) rfl (fill_or o) ?_ (by decide)
          obtain ⟨V16, hV⟩ : ∃ VV, V15.alloc (.cells (EO.cells o).toArray 31) = VV := ⟨_, rfl⟩
          rw [hV]
          have bn : Below V15.heap.size V15 V16 := by rw [← hV]; exact below_new _ _
          have B8 : Hid (EO.Bx 31 V16 V15.heap.size o) := Lib.hid (by rw [← hV]; exact gbx_new _ o)
          have O6 := Lib.hid (gown_below O6.out bn)
          have QW := Lib.hid (QW.out.trans (bn.mono QW.out.size))
          clear bn hV
          refine hK.out _ _ (Fr.below QW.out) (fun _ => ?_)
          clear hK
          try simp only [List.getElem_toArray, List.getElem_cons_zero, List.getElem_cons_succ, Act.put, List.setIfInBounds_toArray, List.set_cons_zero, List.set_cons_succ]
          refine wpAnyH_ready (rs := [9]) (by decide +kernel) (by simp) (AllReadyH.cons rfl (fun KQ hK => ?_) AllReadyH.nil)
          · rw [if_pos (by rfl)]
            refine gwp_app TO (.tmp 34) (.tmp 36) rfl W2.heap.size _ l rfl O6.out (some ⟨V15.heap.size, 0, none⟩) 1 1 [o] rfl (gbx_rd B8.out) (fun e => by cases e) (by have := HL.out; omega) QW.out.size ?_; intro v9 V17 o9 g9 _
            obtain ⟨A9, n9, c9, rfl⟩ := gown_any o9
            have O9 := Lib.hid o9
            have QW := Lib.hid (QW.out.grown g9 QW.out.size (fun k e => (gown_lt O6.out e).1))
            clear o9 g9
            refine hK.out _ _ (Fr.below QW.out) (fun _ => ?_)
            clear hK
            try simp only [List.getElem_toArray, List.getElem_cons_zero, List.getElem_cons_succ, Act.put, List.setIfInBounds_toArray, List.set_cons_zero, List.set_cons_succ]
            have H5 := Lib.hid (H1.out.below (Q2.out.trans (QW.out.mono Q2.out.size)))
            have cg := H5.out.c1
            have fg := H5.out.fz 1
            refine wpAnyH_take (i := 10) (v := .pointer (some ⟨g, 0, none⟩)) rfl (by kernel_rfl) (by kernel_rfl) (by kernel_rfl) (fun _ _ _ h => h) (.inl ⟨by rfl, ?_⟩) (Fr.below QW.out) ?_
            · intro W hW; go_simp
            try simp only [List.getElem_toArray, List.getElem_cons_zero, List.getElem_cons_succ, Act.put, List.setIfInBounds_toArray, List.set_cons_zero, List.set_cons_succ]
            refine wpAnyH_take (i := 11) (v := .pointer (some ⟨g, 1, none⟩)) rfl (by kernel_rfl) (by kernel_rfl) (by kernel_rfl) (fun _ _ _ h => h) (.inl ⟨by rfl, ?_⟩) (Fr.below QW.out) ?_
            · intro W hW; go_simp
            try simp only [List.getElem_toArray, List.getElem_cons_zero, List.getElem_cons_succ, Act.put, List.setIfInBounds_toArray, List.set_cons_zero, List.set_cons_succ]
            refine wpAnyH_ready (rs := [12]) (by decide +kernel) (by simp) (AllReadyH.cons rfl (fun KQ hK => ?_) AllReadyH.nil)
            go_simp
            refine hK.out _ _ ((Fr.below QW.out).same (Fr.set (S := fun k => k = g) (p := ⟨g, 1, none⟩) rfl _)) (fun _ => ?_)
            clear hK cg fg
            try simp only [List.setIfInBounds_toArray, List.set_cons_zero, List.set_cons_succ]
            refine wpAnyH_done (by decide +kernel) ?_ _
            go_wp2_with fail
            go_ret
            have bb := B1.out.trans ((Q2.out.trans (QW.out.mono Q2.out.size)).mono B1.out.size)
            refine ⟨rfl, _, H5.out.put (gown_low O9.out (by have := HB.out; have := N3.out; omega)) (fun e => by have := (gown_lt O9.out e).1; have := N3.out; omega) (by rw [List.length_append, HL.out]; simp; omega) (fun y hy => ?_), (Fr.below bb).same (Fr.set (S := fun k => k = g) (p := ⟨g, 1, none⟩) rfl _), fun k hk => .inr (by have := (gown_lt O9.out hk).1; have := N3.out; omega)⟩
            rcases List.mem_append.1 hy with q | q
            · exact LOK.out y q
            · rw [List.mem_singleton.1 q]; exact OK.out
      · rw [if_pos (by rfl)]
        refine gwp_bs TO rfl (s := o) rfl (fill_or o) ?_ (by decide)
        obtain ⟨V18, hV⟩ : ∃ VV, V14.alloc (.cells (EO.cells o).toArray 31) = VV := ⟨_, rfl⟩
        rw [hV]
        have bn : Below V14.heap.size V14 V18 := by rw [← hV]; exact below_new _ _
        have B8 : Hid (EO.Bx 31 V18 V14.heap.size o) := Lib.hid (by rw [← hV]; exact gbx_new _ o)
        have NE : Hid (V14.heap.size ≠ V.heap.size) := Lib.hid (Nat.ne_of_gt (gown_lt (k := V.heap.size) O1.out rfl).2)
        have O1 := Lib.hid (gown_below O1.out bn)
        have QW := Lib.hid (QW.out.trans (bn.mono QW.out.size))
        clear bn hV
        refine hK.out _ _ (Fr.below QW.out) (fun _ => ?_)
        clear hK
        try simp only [List.getElem_toArray, List.getElem_cons_zero, List.getElem_cons_succ, Act.put, List.setIfInBounds_toArray, List.set_cons_zero, List.set_cons_succ]
        refine wpAnyH_ready (rs := [6]) (by decide +kernel) (by simp) (AllReadyH.cons rfl (fun KQ hK => ?_) AllReadyH.nil)
        · rw [if_pos (by rfl)]
          refine gwp_app TO (.tmp 29) (.tmp 33) rfl W2.heap.size _ [] rfl O1.out A m c l rfl (RD.out _ (Q2.out.trans (QW.out.mono Q2.out.size))) AC.out (by simp; omega) QW.out.size ?_; intro v6 V19 o6 g6 _
          rw [List.nil_append] at o6
          obtain ⟨A6, n6, c6, rfl⟩ := gown_any o6
          have O6 := Lib.hid o6
          have B8 : Hid (EO.Bx 31 V19 V14.heap.size o) := Lib.hid ((g6.block _ (Array.getElem?_eq_some_iff.1 B8.out).1 (fun e => NE.out (by first | exact Option.some.inj e | exact (Option.some.inj e).symm))).trans B8.out)
          have QW := Lib.hid (QW.out.grown g6 QW.out.size (fun k e => (gown_lt O1.out e).1))
          clear o6 g6
          refine hK.out _ _ (Fr.below QW.out) (fun _ => ?_)
          clear hK
          try simp only [List.getElem_toArray, List.getElem_cons_zero, List.getElem_cons_succ, Act.put, List.setIfInBounds_toArray, List.set_cons_zero, List.set_cons_succ]
          refine wpAnyH_ready (rs := [9]) (by decide +kernel) (by simp) (AllReadyH.cons rfl (fun KQ hK => ?_) AllReadyH.nil)
          · rw [if_pos (by rfl)]
            refine gwp_app TO (.tmp 34) (.tmp 36) rfl W2.heap.size _ l rfl O6.out (some ⟨V14.heap.size, 0, none⟩) 1 1 [o] rfl (gbx_rd B8.out) (fun e => by cases e) (by have := HL.out; omega) QW.out.size ?_; intro v9 V20 o9 g9 _
            obtain ⟨A9, n9, c9, rfl⟩ := gown_any o9
            have O9 := Lib.hid o9
            have QW := Lib.hid (QW.out.grown g9 QW.out.size (fun k e => (gown_lt O6.out e).1))
            clear o9 g9
            refine hK.out _ _ (Fr.below QW.out) (fun _ => ?_)
            clear hK
            try simp only [List.getElem_toArray, List.getElem_cons_zero, List.getElem_cons_succ, Act.put, List.setIfInBounds_toArray, List.set_cons_zero, List.set_cons_succ]
            have H5 := Lib.hid (H1.out.below (Q2.out.trans (QW.out.mono Q2.out.size)))
            have cg := H5.out.c1
            have fg := H5.out.fz 1
            refine wpAnyH_take (i := 10) (v := .pointer (some ⟨g, 0, none⟩)) rfl (by kernel_rfl) (by kernel_rfl) (by kernel_rfl) (fun _ _ _ h => h) (.inl ⟨by rfl, ?_⟩) (Fr.below QW.out) ?_
            · intro W hW; go_simp
            try simp only [List.getElem_toArray, List.getElem_cons_zero, List.getElem_cons_succ, Act.put, List.setIfInBounds_toArray, List.set_cons_zero, List.set_cons_succ]
            refine wpAnyH_take (i := 11) (v := .pointer (some ⟨g, 1, none⟩)) rfl (by kernel_rfl) (by kernel_rfl) (by kernel_rfl) (fun _ _ _ h => h) (.inl ⟨by rfl, ?_⟩) (Fr.below QW.out) ?_
            · intro W hW; go_simp
            try simp only [List.getElem_toArray, List.getElem_cons_zero, List.getElem_cons_succ, Act.put, List.setIfInBounds_toArray, List.set_cons_zero, List.set_cons_succ]
            refine wpAnyH_ready (rs := [12]) (by decide +kernel) (by simp) (AllReadyH.cons rfl (fun KQ hK => ?_) AllReadyH.nil)
            go_simp
            refine hK.out _ _ ((Fr.below QW.out).same (Fr.set (S := fun k => k = g) (p := ⟨g, 1, none⟩) rfl _)) (fun _ => ?_)
            clear hK cg fg
            try simp only [List.setIfInBounds_toArray, List.set_cons_zero, List.set_cons_succ]
            refine wpAnyH_done (by decide +kernel) ?_ _
            go_wp2_with fail
            go_ret
            have bb := B1.out.trans ((Q2.out.trans (QW.out.mono Q2.out.size)).mono B1.out.size)
            refine ⟨rfl, _, H5.out.put (gown_low O9.out (by have := HB.out; have := N3.out; omega)) (fun e => by have := (gown_lt O9.out e).1; have := N3.out; omega) (by rw [List.length_append, HL.out]; simp; omega) (fun y hy => ?_), (Fr.below bb).same (Fr.set (S := fun k => k = g) (p := ⟨g, 1, none⟩) rfl _), fun k hk => .inr (by have := (gown_lt O9.out hk).1; have := N3.out; omega)⟩
            rcases List.mem_append.1 hy with q | q
            · exact LOK.out y q
            · rw [List.mem_singleton.1 q]; exact OK.out
    · rw [if_pos (by rfl)]
      refine gwp_bs TO rfl (s := o) rfl (fill_or o) ?_ (by decide)
      obtain ⟨V21, hV⟩ : ∃ VV, V.alloc (.cells (EO.cells o).toArray 31) = VV := ⟨_, rfl⟩
      rw [hV]
      have bn : Below V.heap.size V V21 := by rw [← hV]; exact below_new _ _
      have B8 : Hid (EO.Bx 31 V21 V.heap.size o) := Lib.hid (by rw [← hV]; exact gbx_new _ o)
      have QW := Lib.hid (QW.out.trans (bn.mono QW.out.size))
      clear bn hV
      refine hK.out _ _ (Fr.below QW.out) (fun _ => ?_)
      clear hK
      try simp only [List.getElem_toArray, List.getElem_cons_zero, List.getElem_cons_succ, Act.put, List.setIfInBounds_toArray, List.set_cons_zero, List.set_cons_succ]
      refine wpAnyH_ready (rs := [1]) (by decide +kernel) (by simp) (AllReadyH.cons rfl (fun KQ hK => ?_) AllReadyH.nil)
      · go_simp
        obtain ⟨V22, hV⟩ : ∃ VV, V21.alloc (.cells #[] 31) = VV := ⟨_, rfl⟩
        rw [hV]
        have bn : Below V21.heap.size V21 V22 := by rw [← hV]; exact below_new _ _
        have O1 : Hid (EO.Own 31 V22 W2.heap.size (.slice (some ⟨V21.heap.size, 0, none⟩) 0 0) []) := Lib.hid (by rw [← hV]; exact gown_low (gown_new _) QW.out.size)
        have NE : Hid (V.heap.size ≠ V21.heap.size) := Lib.hid (by have := (Array.getElem?_eq_some_iff.1 B8.out).1; omega)
        have B8 := Lib.hid (gbx_below B8.out bn)
        have QW := Lib.hid (QW.out.trans (bn.mono QW.out.size))
        clear bn hV
        refine hK.out _ _ (Fr.below QW.out) (fun _ => ?_)
        clear hK
        try simp only [List.setIfInBounds_toArray, List.set_cons_zero, List.set_cons_succ]
        refine wpAnyH_ready (rs := [6]) (by decide +kernel) (by simp) (AllReadyH.cons rfl (fun KQ hK => ?_) AllReadyH.nil)
        · rw [if_pos (by rfl)]
          refine gwp_app TO (.tmp 29) (.tmp 33) rfl W2.heap.size _ [] rfl O1.out A m c l rfl (RD.out _ (Q2.out.trans (QW.out.mono Q2.out.size))) AC.out (by simp; omega) QW.out.size ?_; intro v6 V23 o6 g6 _
          rw [List.nil_append] at o6
          obtain ⟨A6, n6, c6, rfl⟩ := gown_any o6
          have O6 := Lib.hid o6
          have B8 : Hid (EO.Bx 31 V23 V.heap.size o) := Lib.hid ((g6.block _ (Array.getElem?_eq_some_iff.1 B8.out).1 (fun e => NE.out (by first | exact Option.some.inj e | exact (Option.some.inj e).symm))).trans B8.out)
          have QW := Lib.hid (QW.out.grown g6 QW.out.size (fun k e => (gown_lt O1.out e).1))
          clear o6 g6
          refine hK.out _ _ (Fr.below QW.out) (fun _ => ?_)
          clear hK
          try simp only [List.getElem_toArray, List.getElem_cons_zero, List.getElem_cons_succ, Act.put, List.setIfInBounds_toArray, List.set_cons_zero, List.set_cons_succ]
          refine wpAnyH_ready (rs := [9]) (by decide +kernel) (by simp) (AllReadyH.cons rfl (fun KQ hK => ?_) AllReadyH.nil)
          · rw [if_pos (by rfl)]
            refine gwp_app TO (.tmp 34) (.tmp 36) rfl W2.heap.size _ l rfl O6.out (some ⟨V.heap.size, 0, none⟩) 1 1 [o] rfl (gbx_rd B8.out) (fun e => by cases e) (by have := HL.out; omega) QW.out.size ?_; intro v9 V24 o9 g9 _
            obtain ⟨A9, n9, c9, rfl⟩ := gown_any o9
            have O9 := Lib.hid o9
            have QW := Lib.hid (QW.out.grown g9 QW.out.size (fun k e => (gown_lt O6.out e).1))
            clear o9 g9
            refine hK.out _ _ (Fr.below QW.out) (fun _ => ?_)
            clear hK
            try simp only [List.getElem_toArray, List.getElem_cons_zero, List.getElem_cons_succ, Act.put, List.setIfInBounds_toArray, List.set_cons_zero, List.set_cons_succ]
            have H5 := Lib.hid (H1.out.below (Q2.out.trans (QW.out.mono Q2.out.size)))
            have cg := H5.out.c1
            have fg := H5.out.fz 1
            refine wpAnyH_take (i := 10) (v := .pointer (some ⟨g, 0, none⟩)) rfl (by kernel_rfl) (by kernel_rfl) (by kernel_rfl) (fun _ _ _ h => h) (.inl ⟨by rfl, ?_⟩) (Fr.below QW.out) ?_
            · intro W hW; go_simp
            try simp only [List.getElem_toArray, List.getElem_cons_zero, List.getElem_cons_succ, Act.put, List.setIfInBounds_toArray, List.set_cons_zero, List.set_cons_succ]
            refine wpAnyH_take (i := 11) (v := .pointer (some ⟨g, 1, none⟩)) rfl (by kernel_rfl) (by kernel_rfl) (by kernel_rfl) (fun _ _ _ h => h) (.inl ⟨by rfl, ?_⟩) (Fr.below QW.out) ?_
            · intro W hW; go_simp
            try simp only [List.getElem_toArray, List.getElem_cons_zero, List.getElem_cons_succ, Act.put, List.setIfInBounds_toArray, List.set_cons_zero, List.set_cons_succ]
            refine wpAnyH_ready (rs := [12]) (by decide +kernel) (by simp) (AllReadyH.cons rfl (fun KQ hK => ?_) AllReadyH.nil)
            go_simp
            refine hK.out _ _ ((Fr.below QW.out).same (Fr.set (S := fun k => k = g) (p := ⟨g, 1, none⟩) rfl _)) (fun _ => ?_)
            clear hK cg fg
            try simp only [List.setIfInBounds_toArray, List.set_cons_zero, List.set_cons_succ]
            refine wpAnyH_done (by decide +kernel) ?_ _
            go_wp2_with fail
            go_ret
            have bb := B1.out.trans ((Q2.out.trans (QW.out.mono Q2.out.size)).mono B1.out.size)
            refine ⟨rfl, _, H5.out.put (gown_low O9.out (by have := HB.out; have := N3.out; omega)) (fun e => by have := (gown_lt O9.out e).1; have := N3.out; omega) (by rw [List.length_append, HL.out]; simp; omega) (fun y hy => ?_), (Fr.below bb).same (Fr.set (S := fun k => k = g) (p := ⟨g, 1, none⟩) rfl _), fun k hk => .inr (by have := (gown_lt O9.out hk).1; have := N3.out; omega)⟩
            rcases List.mem_append.1 hy with q | q
            · exact LOK.out y q
            · rw [List.mem_singleton.1 q]; exact OK.out
  · rw [if_pos (by rfl)]
    refine gwp_bs TO rfl (s := o) rfl (fill_or o) ?_ (by decide)
    obtain ⟨V25, hV⟩ : ∃ VV, V.alloc (.cells (EO.cells o).toArray 31) = VV := ⟨_, rfl⟩
    rw [hV]
    have bn : Below V.heap.size V V25 := by rw [← hV]; exact below_new _ _
    have B8 : Hid (EO.Bx 31 V25 V.heap.size o) := Lib.hid (by rw [← hV]; exact gbx_new _ o)
    have QW := Lib.hid (QW.out.trans (bn.mono QW.out.size))
    clear bn hV
    refine hK.out _ _ (Fr.below QW.out) (fun _ => ?_)
    clear hK
    try simp only [List.getElem_toArray, List.getElem_cons_zero, List.getElem_cons_succ, Act.put, List.setIfInBounds_toArray, List.set_cons_zero, List.set_cons_succ]
    refine wpAnyH_ready (rs := [1, 5]) (by decide +kernel) (by simp) (AllReadyH.cons rfl (fun KQ hK => ?_) (AllReadyH.cons rfl (fun KQ hK => ?_) AllReadyH.nil))
    · go_simp
      obtain ⟨V26, hV⟩ : ∃ VV, V25.alloc (.cells #[] 31) = VV := ⟨_, rfl⟩
      rw [hV]
      have bn : Below V25.heap.size V25 V26 := by rw [← hV]; exact below_new _ _
      have O1 : Hid (EO.Own 31 V26 W2.heap.size (.slice (some ⟨V25.heap.size, 0, none⟩) 0 0) []) := Lib.hid (by rw [← hV]; exact gown_low (gown_new _) QW.out.size)
      have NE : Hid (V.heap.size ≠ V25.heap.size) := Lib.hid (by have := (Array.getElem?_eq_some_iff.1 B8.out).1; omega)
      have B8 := Lib.hid (gbx_below B8.out bn)
      have QW := Lib.hid (QW.out.trans (bn.mono QW.out.size))
      clear bn hV
      refine hK.out _ _ (Fr.below QW.out) (fun _ => ?_)
      clear hK
      try simp only [List.setIfInBounds_toArray, List.set_cons_zero, List.set_cons_succ]
      refine wpAnyH_ready (rs := [5]) (by decide +kernel) (by simp) (AllReadyH.cons rfl (fun KQ hK => ?_) AllReadyH.nil)
      · have cv := (H1.out.below (Q2.out.trans (QW.out.mono Q2.out.size))).c1
        go_simp
        refine hK.out _ _ (Fr.below QW.out) (fun _ => ?_)
        clear hK cv
        try simp only [List.setIfInBounds_toArray, List.set_cons_zero, List.set_cons_succ]
        refine wpAnyH_ready (rs := [6]) (by decide +kernel) (by simp) (AllReadyH.cons rfl (fun KQ hK => ?_) AllReadyH.nil)
        · rw [if_pos (by rfl)]
          refine gwp_app TO (.tmp 29) (.tmp 33) rfl W2.heap.size _ [] rfl O1.out A m c l rfl (RD.out _ (Q2.out.trans (QW.out.mono Q2.out.size))) AC.out (by simp; omega) QW.out.size ?_; intro v6 V28 o6 g6 _
          rw [List.nil_append] at o6
          obtain ⟨A6, n6, c6, rfl⟩ := gown_any o6
          have O6 := Lib.hid o6
          have B8 : Hid (EO.Bx 31 V28 V.heap.size o) := Lib.hid ((g6.block _ (Array.getElem?_eq_some_iff.1 B8.out).1 (fun e => NE.out (by first | exact Option.some.inj e | exact (Option.some.inj e).symm))).trans B8.out)
          have QW := Lib.hid (QW.out.grown g6 QW.out.size (fun k e => (gown_lt O1.out e).1))
          clear o6 g6
          refine hK.out _ _ (Fr.below QW.out) (fun _ => ?_)
          clear hK
          try simp only [List.getElem_toArray, List.getElem_cons_zero, List.getElem_cons_succ, Act.put, List.setIfInBounds_toArray, List.set_cons_zero, List.set_cons_succ]
          refine wpAnyH_ready (rs := [9]) (by decide +kernel) (by simp) (AllReadyH.cons rfl (fun KQ hK => ?_) AllReadyH.nil)
          · rw [if_pos (by rfl)]
            refine gwp_app TO (.tmp 34) (.tmp 36) rfl W2.heap.size _ l rfl O6.out (some ⟨V.heap.size, 0, none⟩) 1 1 [o] rfl (gbx_rd B8.out) (fun e => by cases e) (by have := HL.out; omega) QW.out.size ?_; intro v9 V29 o9 g9 _
            obtain ⟨A9, n9, c9, rfl⟩ := gown_any o9
            have O9 := Lib.hid o9
            have QW := Lib.hid (QW.out.grown g9 QW.out.size (fun k e => (gown_lt O6.out e).1))
            clear o9 g9
            refine hK.out _ _ (Fr.below QW.out) (fun _ => ?_)
            clear hK
            try simp only [List.getElem_toArray, List.getElem_cons_zero, List.getElem_cons_succ, Act.put, List.setIfInBounds_toArray, List.set_cons_zero, List.set_cons_succ]
            have H5 := Lib.hid (H1.out.below (Q2.out.trans (QW.out.mono Q2.out.size)))
            have cg := H5.out.c1
            have fg := H5.out.fz 1
            refine wpAnyH_take (i := 10) (v := .pointer (some ⟨g, 0, none⟩)) rfl (by kernel_rfl) (by kernel_rfl) (by kernel_rfl) (fun _ _ _ h => h) (.inl ⟨by rfl, ?_⟩) (Fr.below QW.out) ?_
            · intro W hW; go_simp
            try simp only [List.getElem_toArray, List.getElem_cons_zero, List.getElem_cons_succ, Act.put, List.setIfInBounds_toArray, List.set_cons_zero, List.set_cons_succ]
            refine wpAnyH_take (i := 11) (v := .pointer (some ⟨g, 1, none⟩)) rfl (by kernel_rfl) (by kernel_rfl) (by kernel_rfl) (fun _ _ _ h => h) (.inl ⟨by rfl, ?_⟩) (Fr.below QW.out) ?_
            · intro W hW; go_simp
            try simp only [List.getElem_toArray, List.getElem_cons_zero, List.getElem_cons_succ, Act.put, List.setIfInBounds_toArray, List.set_cons_zero, List.set_cons_succ]
            refine wpAnyH_ready (rs := [12]) (by decide +kernel) (by simp) (AllReadyH.cons rfl (fun KQ hK => ?_) AllReadyH.nil)
            go_simp
            refine hK.out _ _ ((Fr.below QW.out).same (Fr.set (S := fun k => k = g) (p := ⟨g, 1, none⟩) rfl _)) (fun _ => ?_)
            clear hK cg fg
            try simp only [List.setIfInBounds_toArray, List.set_cons_zero, List.set_cons_succ]
            refine wpAnyH_done (by decide +kernel) ?_ _
            go_wp2_with fail
            go_ret
            have bb := B1.out.trans ((Q2.out.trans (QW.out.mono Q2.out.size)).mono B1.out.size)
            refine ⟨rfl, _, H5.out.put (gown_low O9.out (by have := HB.out; have := N3.out; omega)) (fun e => by have := (gown_lt O9.out e).1; have := N3.out; omega) (by rw [List.length_append, HL.out]; simp; omega) (fun y hy => ?_), (Fr.below bb).same (Fr.set (S := fun k => k = g) (p := ⟨g, 1, none⟩) rfl _), fun k hk => .inr (by have := (gown_lt O9.out hk).1; have := N3.out; omega)⟩
            rcases List.mem_append.1 hy with q | q
            · exact LOK.out y q
            · rw [List.mem_singleton.1 q]; exact OK.out
    · have cv := (H1.out.below (Q2.out.trans (QW.out.mono Q2.out.size))).c1
      go_simp
      refine hK.out _ _ (Fr.below QW.out) (fun _ => ?_)
      clear hK cv
      try simp only [List.setIfInBounds_toArray, List.set_cons_zero, List.set_cons_succ]
      refine wpAnyH_ready (rs := [1]) (by decide +kernel) (by simp) (AllReadyH.cons rfl (fun KQ hK => ?_) AllReadyH.nil)
      · go_simp
        obtain ⟨V31, hV⟩ : ∃ VV, V25.alloc (.cells #[] 31) = VV := ⟨_, rfl⟩
        rw [hV]
        have bn : Below V25.heap.size V25 V31 := by rw [← hV]; exact below_new _ _
        have O1 : Hid (EO.Own 31 V31 W2.heap.size (.slice (some ⟨V25.heap.size, 0, none⟩) 0 0) []) := Lib.hid (by rw [← hV]; exact gown_low (gown_new _) QW.out.size)
        have NE : Hid (V.heap.size ≠ V25.heap.size) := Lib.hid (by have := (Array.getElem?_eq_some_iff.1 B8.out).1; omega)
        have B8 := Lib.hid (gbx_below B8.out bn)
        have QW := Lib.hid (QW.out.trans (bn.mono QW.out.size))
        clear bn hV
        refine hK.out _ _ (Fr.below QW.out) (fun _ => ?_)
        clear hK
        try simp only [List.setIfInBounds_toArray, List.set_cons_zero, List.set_cons_succ]
        refine wpAnyH_ready (rs := [6]) (by decide +kernel) (by simp) (AllReadyH.cons rfl (fun KQ hK => ?_) AllReadyH.nil)
        · rw [if_pos (by rfl)]
          refine gwp_app TO (.tmp 29) (.tmp 33) rfl W2.heap.size _ [] rfl O1.out A m c l rfl (RD.out _ (Q2.out.trans (QW.out.mono Q2.out.size))) AC.out (by simp; omega) QW.out.size ?_; intro v6 V32 o6 g6 _
          rw [List.nil_append] at o6
          obtain ⟨A6, n6, c6, rfl⟩ := gown_any o6
          have O6 := Lib.hid o6
          have B8 : Hid (EO.Bx 31 V32 V.heap.size o) := Lib.hid ((g6.block _ (Array.getElem?_eq_some_iff.1 B8.out).1 (fun e => NE.out (by first | exact Option.some.inj e | exact (Option.some.inj e).symm))).trans B8.out)
          have QW := Lib.hid (QW.out.grown g6 QW.out.size (fun k e => (gown_lt O1.out e).1))
          clear o6 g6
          refine hK.out _ _ (Fr.below QW.out) (fun _ => ?_)
          clear hK
          try simp only [List.getElem_toArray, List.getElem_cons_zero, List.getElem_cons_succ, Act.put, List.setIfInBounds_toArray, List.set_cons_zero, List.set_cons_succ]
          refine wpAnyH_ready (rs := [9]) (by decide +kernel) (by simp) (AllReadyH.cons rfl (fun KQ hK => ?_) AllReadyH.nil)
          · rw [if_pos (by rfl)]
            refine gwp_app TO (.tmp 34) (.tmp 36) rfl W2.heap.size _ l rfl O6.out (some ⟨V.heap.size, 0, none⟩) 1 1 [o] rfl (gbx_rd B8.out) (fun e => by cases e) (by have := HL.out; omega) QW.out.size ?_; intro v9 V33 o9 g9 _
            obtain ⟨A9, n9, c9, rfl⟩ := gown_any o9
            have O9 := Lib.hid o9
            have QW := Lib.hid (QW.out.grown g9 QW.out.size (fun k e => (gown_lt O6.out e).1))
            clear o9 g9
            refine hK.out _ _ (Fr.below QW.out) (fun _ => ?_)
            clear hK
            try simp only [List.getElem_toArray, List.getElem_cons_zero, List.getElem_cons_succ, Act.put, List.setIfInBounds_toArray, List.set_cons_zero, List.set_cons_succ]
            have H5 := Lib.hid (H1.out.below (Q2.out.trans (QW.out.mono Q2.out.size)))
            have cg := H5.out.c1
            have fg := H5.out.fz 1
            refine wpAnyH_take (i := 10) (v := .pointer (some ⟨g, 0, none⟩)) rfl (by kernel_rfl) (by kernel_rfl) (by kernel_rfl) (fun _ _ _ h => h) (.inl ⟨by rfl, ?_⟩) (Fr.below QW.out) ?_
            · intro W hW; go_simp
            try simp only [List.getElem_toArray, List.getElem_cons_zero, List.getElem_cons_succ, Act.put, List.setIfInBounds_toArray, List.set_cons_zero, List.set_cons_succ]
            refine wpAnyH_take (i := 11) (v := .pointer (some ⟨g, 1, none⟩)) rfl (by kernel_rfl) (by kernel_rfl) (by kernel_rfl) (fun _ _ _ h => h) (.inl ⟨by rfl, ?_⟩) (Fr.below QW.out) ?_
            · intro W hW; go_simp
            try simp only [List.getElem_toArray, List.getElem_cons_zero, List.getElem_cons_succ, Act.put, List.setIfInBounds_toArray, List.set_cons_zero, List.set_cons_succ]
            refine wpAnyH_ready (rs := [12]) (by decide +kernel) (by simp) (AllReadyH.cons rfl (fun KQ hK => ?_) AllReadyH.nil)
            go_simp
            refine hK.out _ _ ((Fr.below QW.out).same (Fr.set (S := fun k => k = g) (p := ⟨g, 1, none⟩) rfl _)) (fun _ => ?_)
            clear hK cg fg
            try simp only [List.setIfInBounds_toArray, List.set_cons_zero, List.set_cons_succ]
            refine wpAnyH_done (by decide +kernel) ?_ _
            go_wp2_with fail
            go_ret
            have bb := B1.out.trans ((Q2.out.trans (QW.out.mono Q2.out.size)).mono B1.out.size)
            refine ⟨rfl, _, H5.out.put (gown_low O9.out (by have := HB.out; have := N3.out; omega)) (fun e => by have := (gown_lt O9.out e).1; have := N3.out; omega) (by rw [List.length_append, HL.out]; simp; omega) (fun y hy => ?_), (Fr.below bb).same (Fr.set (S := fun k => k = g) (p := ⟨g, 1, none⟩) rfl _), fun k hk => .inr (by have := (gown_lt O9.out hk).1; have := N3.out; omega)⟩
            rcases List.mem_append.1 hy with q | q
            · exact LOK.out y q
            · rw [List.mem_singleton.1 q]; exact OK.out
end Go.Proofs.Ytdcjgcjnfcahkaa
