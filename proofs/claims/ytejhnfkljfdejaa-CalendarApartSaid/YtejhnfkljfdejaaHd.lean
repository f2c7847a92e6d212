/- The program's calendar: its tests of a contract. -/
import Derived.Test.YtejhnfkljfdejaaHc
import Derived.Deep.RegionHeld3
namespace Go.Proofs.Ytejhnfkljfdejaa
open Go.RowKit
set_option linter.unusedVariables false

theorem yields_load_sprow {ops : Array Oper} {S : World → Prop} {o : Oper} {a : Act} (hw : Region.wanted o (yielded ops a.tmps) = true) (x : Operand) (ho : o.op = .load 33 x) (b k : Nat) (hx : a.eval x = .pointer (some ⟨b, k, none⟩)) {s : Sp} (hl : s.sh.length = 16) (hS : ∀ w, S w → w.rangeAt b k s.cellL) :
    YieldsIf Try.prog ops S o (.agg s.cells) a :=
  yieldsIf_load_mid hw 33 x ho b k hx s.cellL _ hS Try.underlying33 rfl (by rw [info_sp, Sp.lenL hl])
theorem rng_below {w W : World} {b o B : Nat} {l : List Value} (h : w.rangeAt b o l) (q : Below B w W) (hB : w.heap.size ≤ B) : W.rangeAt b o l := fun j u hj => by
  have hc := h j u hj
  have hb : b < w.heap.size := by
    unfold World.cell? at hc
    rcases Nat.lt_or_ge b w.heap.size with c | c
    · exact c
    · rw [Array.getElem?_eq_none c] at hc
      cases hc
  unfold World.cell? at hc ⊢
  rw [q.block b (by omega)]
  exact hc
theorem cell_below {w W : World} {b o B : Nat} {v : Value} (hc : w.cell? ⟨b, o, none⟩ = some v) (q : Below B w W) (hB : w.heap.size ≤ B) : W.cell? ⟨b, o, none⟩ = some v := by
  have hb : b < w.heap.size := by
    unfold World.cell? at hc
    rcases Nat.lt_or_ge b w.heap.size with c | c
    · exact c
    · rw [Array.getElem?_eq_none c] at hc
      cases hc
  unfold World.cell? at hc ⊢
  rw [q.block b (by omega)]
  exact hc
theorem below_new (w : World) (o : Obj) : Below w.heap.size w (w.alloc o) := (Below.refl w.heap.size w).alloc (Nat.le_refl _) o
def aheadB (a b : Sp) : Bool := decide (a.la < b.la) || (a.la == b.la && decide (a.nu < b.nu))
theorem box_two (w : World) {s t : Sp} (hs : s.sh.length = 16) (ht : t.sh.length = 16) : Box ((w.alloc (.cells s.cells 33)).alloc (.cells t.cells 33)) w.heap.size s ∧ Box ((w.alloc (.cells s.cells 33)).alloc (.cells t.cells 33)) (w.heap.size + 1) t := by
  refine ⟨(box_new w hs).below (below_new _ _), ?_⟩
  have h := box_new (w.alloc (.cells s.cells 33)) ht
  rwa [show (w.alloc (.cells s.cells 33)).heap.size = w.heap.size + 1 by simp] at h
set_option maxRecDepth 100000 in
theorem ahead_any (s t : Sp) (w : World) (hs : s.ok) (ht : t.ok) : Calls Try.prog 60 #[.agg s.cells, .agg t.cells] w fun e w' => e = .returned (.bool (aheadB s t)) ∧ Below w.heap.size w w' := by
  obtain ⟨b1, b2⟩ := box_two w hs.len ht.len
  have s0 := b1.cell 0
  have s23 := b1.cell 23
  have t0 := b2.cell 0
  have t23 := b2.cell 23
  rw [Sp.c0] at s0 t0
  rw [Sp.c23 hs.len] at s23
  rw [Sp.c23 ht.len] at t23
  have B : Hid (Below w.heap.size w ((w.alloc (.cells s.cells 33)).alloc (.cells t.cells 33))) := Lib.hid ((below_new w _).trans ((below_new _ _).mono (by simp)))
  unfold aheadB
  generalize s.la = a1 at *
  generalize t.la = a2 at *
  generalize s.nu = n1 at *
  generalize t.nu = n2 at *
  clear b1 b2 hs ht
  cases h1 : decide (a1 < a2)
  · cases h2 : (a1 == a2)
    · go_enter Try.func60, Try.ntmps60
      go_wp2_with fail
      go_ret
      exact ⟨rfl, B.out⟩
    · go_enter Try.func60, Try.ntmps60
      go_wp2_with fail
      go_ret
      exact ⟨rfl, B.out⟩
  · go_enter Try.func60, Try.ntmps60
    go_wp2_with fail
    go_ret
    exact ⟨rfl, B.out⟩
set_option maxRecDepth 100000 in
/-- The closure of behind. -/
theorem bclo_any (x : Ct) (C : Nat) (nu : Int) (w : World) (h : x.ok) (hC : w.cell? ⟨C, 0, none⟩ = some (.int .u32 nu)) : Calls Try.prog 62 #[.agg x.cells, .pointer (some ⟨C, 0, none⟩)] w fun e w' => e = .returned (.bool (decide (nu < x.sp.nu))) ∧ Below w.heap.size w w' := by
  have HB := cb_cell (cb_new w h.sp.len) 0
  rw [Ct.spc h.sp.len (by omega), Sp.c0] at HB
  have hC' := cell_below hC (below_new w (.cells x.cells 45)) (Nat.le_refl _)
  have B := Lib.hid (below_new w (.cells x.cells 45))
  generalize x.sp.nu = n1 at *
  clear h hC
  go_enter Try.func62, Try.ntmps62
  go_wp2_with fail
  go_ret
  exact ⟨rfl, B.out⟩
/-- What may not be. -/
def mayNotB (x : Ct) : Bool := !((x.st == 1 || x.st == 2 || x.st == 3) && priceB x.sp x.pr)
set_option maxRecDepth 100000 in
theorem maynot_any (x : Ct) (w : World) (h : x.ok) : Calls Try.prog 48 #[.agg x.cells] w fun e w' => e = .returned (.bool (mayNotB x)) ∧ Below w.heap.size w w' := by
  have HL := Lib.hid h.sp.len
  have c25 := cb_cell (cb_new w h.sp.len) 25
  rw [Ct.c25 h.sp.len] at c25
  have c26 := cb_cell (cb_new w h.sp.len) 26
  rw [Ct.c26 h.sp.len] at c26
  have RG := Lib.hid (rng_sp (rng_row (cb_new w h.sp.len)))
  have IP := Lib.hid fun W => pisprice_any x.sp x.pr W h.sp
  have B := Lib.hid (below_new w (.cells x.cells 45))
  unfold mayNotB
  obtain ⟨t1, t2⟩ := h.st
  generalize priceB x.sp x.pr = r at *
  generalize x.st = st at *
  clear h
  have key : ∀ (P : Prop), (P → P) := fun _ h => h
  cases h1 : (st == 1)
  · cases h2 : (st == 2)
    · cases h3 : (st == 3)
      · go_enter Try.func48, Try.ntmps48
        go_wp2_with fail
        go_ret
        exact ⟨rfl, B.out⟩
      · go_enter Try.func48, Try.ntmps48
        go_wp2_with ((with_reducible refine wl_load_spg w.heap.size 0 HL.out RG.out ?_ ?_ ?_); rfl; rfl)
        refine (IP.out _).mono ?_; rintro e w2 ⟨rfl, q⟩
        have Q := Lib.hid (B.out.trans (q.mono B.out.size))
        clear q
        go_wp2_with fail
        go_ret
        exact ⟨by cases r <;> rfl, Q.out⟩
    · go_enter Try.func48, Try.ntmps48
      go_wp2_with ((with_reducible refine wl_load_spg w.heap.size 0 HL.out RG.out ?_ ?_ ?_); rfl; rfl)
      refine (IP.out _).mono ?_; rintro e w2 ⟨rfl, q⟩
      have Q := Lib.hid (B.out.trans (q.mono B.out.size))
      clear q
      go_wp2_with fail
      go_ret
      exact ⟨by cases r <;> rfl, Q.out⟩
  · go_enter Try.func48, Try.ntmps48
    go_wp2_with ((with_reducible refine wl_load_spg w.heap.size 0 HL.out RG.out ?_ ?_ ?_); rfl; rfl)
    refine (IP.out _).mono ?_; rintro e w2 ⟨rfl, q⟩
    have Q := Lib.hid (B.out.trans (q.mono B.out.size))
    clear q
    go_wp2_with fail
    go_ret
    exact ⟨by cases r <;> rfl, Q.out⟩
def waitB (x y : Ct) : Bool := x.st != 3 && aheadB x.sp y.sp
set_option maxRecDepth 100000 in
set_option maxHeartbeats 1000000 in
/-- The closure of due. -/
theorem dclo_any (x y : Ct) (C b o : Nat) (w : World) (hx : x.ok) (hy : y.ok) (hC : w.cell? ⟨C, 0, none⟩ = some (.pointer (some ⟨b, o, none⟩))) (hr : w.rangeAt b o y.cellL) :
    Calls Try.prog 59 #[.agg x.cells, .pointer (some ⟨C, 0, none⟩)] w fun e w' => e = .returned (.bool (waitB x y)) ∧ Below w.heap.size w w' := by
  have AH := Lib.hid fun W => ahead_any x.sp y.sp W hx.sp hy.sp
  have LX := Lib.hid hx.sp.len
  have LY := Lib.hid hy.sp.len
  have B := Lib.hid (below_new w (.cells x.cells 45))
  obtain ⟨W1, hW1⟩ : ∃ W1, w.alloc (.cells x.cells 45) = W1 := ⟨_, rfl⟩
  have c25 := cb_cell (cb_new w hx.sp.len) 25
  rw [Ct.c25 hx.sp.len, hW1] at c25
  have rx := rng_sp (rng_row (cb_new w hx.sp.len))
  rw [hW1] at rx
  rw [hW1] at B
  have C25 := Lib.hid fun (W : World) (q : Below W1.heap.size W1 W) => cell_below c25 q (Nat.le_refl _)
  have RX := Lib.hid fun (W : World) (q : Below W1.heap.size W1 W) => rng_below rx q (Nat.le_refl _)
  have CC := Lib.hid fun (W : World) (q : Below W1.heap.size W1 W) => cell_below (cell_below hC B.out (Nat.le_refl _)) q (Nat.le_refl _)
  have RY := Lib.hid fun (W : World) (q : Below W1.heap.size W1 W) => rng_below (rng_below (rng_sp hr) B.out (Nat.le_refl _)) q (Nat.le_refl _)
  have HW1 := Lib.hid hW1
  unfold waitB
  obtain ⟨t1, t2⟩ := hx.st
  generalize aheadB x.sp y.sp = r at *
  generalize x.st = st at *
  clear hx hy hC hr c25 rx hW1
  cases h1 : (st != 3)
  · go_enter Try.func59, Try.ntmps59
    go_wp2_with fail
    rw [HW1.out]
    refine wp_region_held_drew (S := fun U => Below W1.heap.size W1 U) (by kernel_rfl) (Below.refl _ _).drew (fun hH => ?_)
    refine wpAnyH_take (i := 0) (v := .pointer (some ⟨w.heap.size, 25, none⟩)) rfl (by kernel_rfl) (by kernel_rfl) (by kernel_rfl) (fun _ _ _ h => h) (.inl ⟨by rfl, ?_⟩) (by assumption) ?_
    · intro W hW; go_simp
    try simp only [List.getElem_toArray, List.getElem_cons_zero, Act.put, List.setIfInBounds_toArray, List.set_cons_zero, List.set_cons_succ]
    refine wpAnyH_take (i := 1) (v := .int .u8 st) rfl (by kernel_rfl) (by kernel_rfl) (by kernel_rfl) (fun _ _ _ h => h) (.inl ⟨by rfl, ?_⟩) (by assumption) ?_
    · intro W hW; have h1 := C25.out W hW; go_simp
    try simp only [List.getElem_toArray, List.getElem_cons_zero, List.getElem_cons_succ, Act.put, List.setIfInBounds_toArray, List.set_cons_zero, List.set_cons_succ]
    refine wpAnyH_take (i := 2) (v := .bool false) rfl (by kernel_rfl) (by kernel_rfl) (by kernel_rfl) (fun _ _ _ h => h) (.inl ⟨by rfl, ?_⟩) (by assumption) ?_
    · intro W hW; go_simp
    try simp only [List.getElem_toArray, List.getElem_cons_zero, List.getElem_cons_succ, Act.put, List.setIfInBounds_toArray, List.set_cons_zero, List.set_cons_succ]
    refine wpAnyH_take (i := 3) (v := .bool false) rfl (by kernel_rfl) (by kernel_rfl) (by kernel_rfl) (fun _ _ _ h => h) (.inl ⟨by rfl, ?_⟩) (by assumption) ?_
    · intro W hW; go_simp
    try simp only [List.getElem_toArray, List.getElem_cons_zero, List.getElem_cons_succ, Act.put, List.setIfInBounds_toArray, List.set_cons_zero, List.set_cons_succ]
    refine wpAnyH_take (i := 4) (v := undef) rfl (by kernel_rfl) (by kernel_rfl) (by kernel_rfl) (fun _ _ _ h => h) (.inr ⟨by rfl, rfl⟩) (by assumption) ?_
    try simp only [List.getElem_toArray, List.getElem_cons_zero, List.getElem_cons_succ, Act.put, List.setIfInBounds_toArray, List.set_cons_zero, List.set_cons_succ]
    refine wpAnyH_take (i := 5) (v := undef) rfl (by kernel_rfl) (by kernel_rfl) (by kernel_rfl) (fun _ _ _ h => h) (.inr ⟨by rfl, rfl⟩) (by assumption) ?_
    try simp only [List.getElem_toArray, List.getElem_cons_zero, List.getElem_cons_succ, Act.put, List.setIfInBounds_toArray, List.set_cons_zero, List.set_cons_succ]
    refine wpAnyH_take (i := 6) (v := undef) rfl (by kernel_rfl) (by kernel_rfl) (by kernel_rfl) (fun _ _ _ h => h) (.inr ⟨by rfl, rfl⟩) (by assumption) ?_
    try simp only [List.getElem_toArray, List.getElem_cons_zero, List.getElem_cons_succ, Act.put, List.setIfInBounds_toArray, List.set_cons_zero, List.set_cons_succ]
    refine wpAnyH_take (i := 7) (v := undef) rfl (by kernel_rfl) (by kernel_rfl) (by kernel_rfl) (fun _ _ _ h => h) (.inr ⟨by rfl, rfl⟩) (by assumption) ?_
    try simp only [List.getElem_toArray, List.getElem_cons_zero, List.getElem_cons_succ, Act.put, List.setIfInBounds_toArray, List.set_cons_zero, List.set_cons_succ]
    refine wpAnyH_take (i := 8) (v := undef) rfl (by kernel_rfl) (by kernel_rfl) (by kernel_rfl) (fun _ _ _ h => h) (.inr ⟨by rfl, rfl⟩) (by assumption) ?_
    try simp only [List.getElem_toArray, List.getElem_cons_zero, List.getElem_cons_succ, Act.put, List.setIfInBounds_toArray, List.set_cons_zero, List.set_cons_succ]
    refine wpAnyH_take (i := 9) (v := undef) rfl (by kernel_rfl) (by kernel_rfl) (by kernel_rfl) (fun _ _ _ h => h) (.inr ⟨by rfl, rfl⟩) (by assumption) ?_
    try simp only [List.getElem_toArray, List.getElem_cons_zero, List.getElem_cons_succ, Act.put, List.setIfInBounds_toArray, List.set_cons_zero, List.set_cons_succ]
    refine wpAnyH_take (i := 10) (v := undef) rfl (by kernel_rfl) (by kernel_rfl) (by kernel_rfl) (fun _ _ _ h => h) (.inr ⟨by rfl, rfl⟩) (by assumption) ?_
    try simp only [List.getElem_toArray, List.getElem_cons_zero, List.getElem_cons_succ, Act.put, List.setIfInBounds_toArray, List.set_cons_zero, List.set_cons_succ]
    refine wpAnyH_take (i := 11) (v := .bool false) rfl (by kernel_rfl) (by kernel_rfl) (by kernel_rfl) (fun _ _ _ h => h) (.inl ⟨by rfl, ?_⟩) (by assumption) ?_
    · intro W hW; go_simp
    try simp only [List.getElem_toArray, List.getElem_cons_zero, List.getElem_cons_succ, Act.put, List.setIfInBounds_toArray, List.set_cons_zero, List.set_cons_succ]
    refine wpAnyH_take (i := 12) (v := .bool false) rfl (by kernel_rfl) (by kernel_rfl) (by kernel_rfl) (fun _ _ _ h => h) (.inl ⟨by rfl, ?_⟩) (by assumption) ?_
    · intro W hW; go_simp
    try simp only [List.getElem_toArray, List.getElem_cons_zero, List.getElem_cons_succ, Act.put, List.setIfInBounds_toArray, List.set_cons_zero, List.set_cons_succ]
    refine wpAnyH_done (by decide +kernel) ?_ _
    have B1 := Lib.hid (B.out.trans (hH.mono B.out.size))
    clear hH
    go_wp2_with fail
    go_ret
    exact ⟨rfl, B1.out⟩
  · go_enter Try.func59, Try.ntmps59
    go_wp2_with fail
    rw [HW1.out]
    refine wp_region_held_drew (S := fun U => Below W1.heap.size W1 U) (by kernel_rfl) (Below.refl _ _).drew (fun hH => ?_)
    refine wpAnyH_take (i := 0) (v := .pointer (some ⟨w.heap.size, 25, none⟩)) rfl (by kernel_rfl) (by kernel_rfl) (by kernel_rfl) (fun _ _ _ h => h) (.inl ⟨by rfl, ?_⟩) (by assumption) ?_
    · intro W hW; go_simp
    try simp only [List.getElem_toArray, List.getElem_cons_zero, Act.put, List.setIfInBounds_toArray, List.set_cons_zero, List.set_cons_succ]
    refine wpAnyH_take (i := 1) (v := .int .u8 st) rfl (by kernel_rfl) (by kernel_rfl) (by kernel_rfl) (fun _ _ _ h => h) (.inl ⟨by rfl, ?_⟩) (by assumption) ?_
    · intro W hW; have h1 := C25.out W hW; go_simp
    try simp only [List.getElem_toArray, List.getElem_cons_zero, List.getElem_cons_succ, Act.put, List.setIfInBounds_toArray, List.set_cons_zero, List.set_cons_succ]
    refine wpAnyH_take (i := 2) (v := .bool true) rfl (by kernel_rfl) (by kernel_rfl) (by kernel_rfl) (fun _ _ _ h => h) (.inl ⟨by rfl, ?_⟩) (by assumption) ?_
    · intro W hW; go_simp
    try simp only [List.getElem_toArray, List.getElem_cons_zero, List.getElem_cons_succ, Act.put, List.setIfInBounds_toArray, List.set_cons_zero, List.set_cons_succ]
    refine wpAnyH_take (i := 3) (v := .bool true) rfl (by kernel_rfl) (by kernel_rfl) (by kernel_rfl) (fun _ _ _ h => h) (.inl ⟨by rfl, ?_⟩) (by assumption) ?_
    · intro W hW; go_simp
    try simp only [List.getElem_toArray, List.getElem_cons_zero, List.getElem_cons_succ, Act.put, List.setIfInBounds_toArray, List.set_cons_zero, List.set_cons_succ]
    refine wpAnyH_take (i := 4) (v := .pointer (some ⟨w.heap.size, 0, none⟩)) rfl (by kernel_rfl) (by kernel_rfl) (by kernel_rfl) (fun _ _ _ h => h) (.inl ⟨by rfl, ?_⟩) (by assumption) ?_
    · intro W hW; go_simp
    try simp only [List.getElem_toArray, List.getElem_cons_zero, List.getElem_cons_succ, Act.put, List.setIfInBounds_toArray, List.set_cons_zero, List.set_cons_succ]
    refine wpAnyH_take (i := 5) (v := .agg x.sp.cells) rfl (by kernel_rfl) (by kernel_rfl) (by kernel_rfl) (fun _ _ _ h => h) (yields_load_sprow (by rfl) (.tmp 8) rfl w.heap.size 0 rfl LX.out RX.out) (by assumption) ?_
    try simp only [List.getElem_toArray, List.getElem_cons_zero, List.getElem_cons_succ, Act.put, List.setIfInBounds_toArray, List.set_cons_zero, List.set_cons_succ]
    refine wpAnyH_take (i := 6) (v := .pointer (some ⟨b, o, none⟩)) rfl (by kernel_rfl) (by kernel_rfl) (by kernel_rfl) (fun _ _ _ h => h) (.inl ⟨by rfl, ?_⟩) (by assumption) ?_
    · intro W hW; have h1 := CC.out W hW; go_simp
    try simp only [List.getElem_toArray, List.getElem_cons_zero, List.getElem_cons_succ, Act.put, List.setIfInBounds_toArray, List.set_cons_zero, List.set_cons_succ]
    refine wpAnyH_take (i := 7) (v := .pointer (some ⟨b, o, none⟩)) rfl (by kernel_rfl) (by kernel_rfl) (by kernel_rfl) (fun _ _ _ h => h) (.inl ⟨by rfl, ?_⟩) (by assumption) ?_
    · intro W hW; go_simp
    try simp only [List.getElem_toArray, List.getElem_cons_zero, List.getElem_cons_succ, Act.put, List.setIfInBounds_toArray, List.set_cons_zero, List.set_cons_succ]
    refine wpAnyH_take (i := 8) (v := .pointer (some ⟨b, o, none⟩)) rfl (by kernel_rfl) (by kernel_rfl) (by kernel_rfl) (fun _ _ _ h => h) (.inl ⟨by rfl, ?_⟩) (by assumption) ?_
    · intro W hW; go_simp
    try simp only [List.getElem_toArray, List.getElem_cons_zero, List.getElem_cons_succ, Act.put, List.setIfInBounds_toArray, List.set_cons_zero, List.set_cons_succ]
    refine wpAnyH_take (i := 9) (v := .agg y.sp.cells) rfl (by kernel_rfl) (by kernel_rfl) (by kernel_rfl) (fun _ _ _ h => h) (yields_load_sprow (by rfl) (.tmp 12) rfl b o rfl LY.out RY.out) (by assumption) ?_
    try simp only [List.getElem_toArray, List.getElem_cons_zero, List.getElem_cons_succ, Act.put, List.setIfInBounds_toArray, List.set_cons_zero, List.set_cons_succ]
    refine wpAnyH_ready (rs := [10]) (by decide +kernel) (by simp) (AllReadyH.cons rfl (fun KQ hK => ?_) AllReadyH.nil)
    go_simp
    refine (AH.out _).mono ?_; rintro e0 W1 ⟨rfl, q1⟩
    have hH := hH.trans (q1.mono hH.size)
    refine hK.out _ _ hH (fun _ => ?_)
    clear hK q1
    try simp only [List.setIfInBounds_toArray, List.set_cons_zero, List.set_cons_succ]
    refine wpAnyH_take (i := 11) (v := .bool r) rfl (by kernel_rfl) (by kernel_rfl) (by kernel_rfl) (fun _ _ _ h => h) (.inl ⟨by rfl, ?_⟩) (by assumption) ?_
    · intro W hW; go_simp
    try simp only [List.getElem_toArray, List.getElem_cons_zero, List.getElem_cons_succ, Act.put, List.setIfInBounds_toArray, List.set_cons_zero, List.set_cons_succ]
    refine wpAnyH_take (i := 12) (v := .bool r) rfl (by kernel_rfl) (by kernel_rfl) (by kernel_rfl) (fun _ _ _ h => h) (.inl ⟨by rfl, ?_⟩) (by assumption) ?_
    · intro W hW; go_simp
    try simp only [List.getElem_toArray, List.getElem_cons_zero, List.getElem_cons_succ, Act.put, List.setIfInBounds_toArray, List.set_cons_zero, List.set_cons_succ]
    refine wpAnyH_done (by decide +kernel) ?_ _
    have B1 := Lib.hid (B.out.trans (hH.mono B.out.size))
    clear hH
    go_wp2_with fail
    go_ret
    exact ⟨rfl, B1.out⟩
end Go.Proofs.Ytejhnfkljfdejaa
