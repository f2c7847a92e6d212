/- Contracts of the document's plain numbers, part five: two numbers added, and one told as a call answers it. -/
import Derived.Test.YtlbekdpmfjhjhaaRefD
namespace Go.Proofs.Ytlbekdpmfjhjhaa
open Go.RowKit

theorem Row.farCells {g b : Nat} {t : TypeId} {cs : Array Value} (hne : g ≠ b) : ∀ (vs : List Value) (o : Nat) (w : World), Row w g t cs → Row (w.setCells b o vs) g t cs
  | [], _, _, h => h
  | v :: vs, o, _, h => Row.farCells hne vs (o + 1) _ (h.far hne v)
theorem Quiet.setCells {a : World} {g : Nat} (hg : a.heap.size ≤ g) : ∀ (vs : List Value) (o : Nat) (w : World), Quiet a w → Quiet a (w.setCells g o vs)
  | [], _, _, h => h
  | v :: vs, o, _, h => Quiet.setCells hg vs (o + 1) _ (h.setCell hg v)
theorem Row.there {w : World} {g : Nat} {t : TypeId} {s : Bool} {f : Nat → Int} (h : Row w g t (nm s f)) : w.there g 0 13 := fun j hj => by
  rw [Nat.zero_add, cell_of_row _ _ _ _ _ _ h]
  exact ⟨by rw [Array.getElem?_eq_getElem (by rw [nm_size]; exact hj)]; rfl, h.free j⟩
theorem there_below {w w' : World} {B g n : Nat} (h : w.there g 0 n) (b : Below B w w') (hg : g < B) : w'.there g 0 n := fun j hj => by
  have k := h j hj
  rw [b.cell (p := ⟨g, 0 + j, none⟩) hg, b.frozen (p := ⟨g, 0 + j, none⟩) hg]
  exact k
theorem there_lt {w : World} {g n : Nat} (h : w.there g 0 (n + 1)) : g < w.heap.size := by
  obtain ⟨u, hu⟩ := Option.isSome_iff_exists.1 (h 0 (Nat.succ_pos n)).1
  exact World.block_lt_of_cell? w _ hu

/-- What stands in memory while two numbers are added: both, and the place of the answer. -/
structure PS (w : World) (s t : Bool) (f g : Nat → Int) (w' : World) : Prop where
  r1 : Row w' w.heap.size 47 (nm s f)
  r2 : Row w' (w.heap.size + 1) 47 (nm t g)
  r3 : w'.there (w.heap.size + 1 + 1) 0 13
  q : Quiet w w'
section
variable {w : World} {s t : Bool} {f g : Nat → Int} {a b : World}
theorem PS.quiet (h : PS w s t f g a) (k : Quiet a b) : PS w s t f g b :=
  ⟨h.r1.below k.2 h.r1.lt, h.r2.below k.2 h.r2.lt, there_below h.r3 k.2 (there_lt h.r3), h.q.trans k⟩
theorem PS.drew (h : PS w s t f g a) : PS w s t f g a.drew := ⟨h.r1, h.r2, h.r3, h.q.drew⟩
theorem PS.stored (h : PS w s t f g a) (vs : List Value) : PS w s t f g (a.setCells (w.heap.size + 1 + 1) 0 vs) :=
  ⟨h.r1.farCells (by omega) vs 0 a, h.r2.farCells (by omega) vs 0 a, World.there_setCells h.r3 _ _ _, h.q.setCells (by omega) vs 0 a⟩
/-- All that the region's operations read. -/
def PA (w : World) (s t : Bool) (f g : Nat → Int) (w' : World) : Prop :=
  w'.cell? ⟨w.heap.size, 0, none⟩ = some (.bool s) ∧ w'.cell? ⟨w.heap.size + 1, 0, none⟩ = some (.bool t) ∧ w'.rangeAt w.heap.size 1 (ar f).toList ∧ w'.rangeAt (w.heap.size + 1) 1 (ar g).toList ∧ w'.there (w.heap.size + 1 + 1) 0 13 ∧ PS w s t f g w'
theorem PS.all (h : PS w s t f g a) : PA w s t f g a := ⟨h.r1.sign, h.r2.sign, h.r1.range, h.r2.range, h.r3, h⟩
end

theorem yields_ar {ops : Array Oper} {S : World → Prop} {op : Oper} {a : Act} (hw : Region.wanted op (yielded ops a.tmps) = true) (x : Operand) (ho : op.op = .load 45 x)
    (b o : Nat) (hx : a.eval x = .pointer (some ⟨b, o, none⟩)) (f : Nat → Int) (hS : ∀ w, S w → w.rangeAt b o (ar f).toList) : YieldsIf Try.prog ops S op (.agg (ar f)) a := by
  have := yieldsIf_load_mid (P := Try.prog) hw 45 x ho b o hx (ar f).toList _ hS Try.underlying45 rfl (by kernel_rfl)
  rwa [Array.toArray_toList] at this

theorem yields_build {ops : Array Oper} {S : World → Prop} {op : Oper} {a : Act} (hw : Region.wanted op (yielded ops a.tmps) = true) (x y : Operand) (ho : op.op = .build 47 #[(0, x), (1, y)])
    (b : Bool) (f : Nat → Int) (hx : a.eval x = .bool b) (hy : a.eval y = .agg (ar f)) : YieldsIf Try.prog ops S op (.agg (nm b f)) a := .inl ⟨hw, fun w _ => by
  have := run_build (P := Try.prog) w 47 #[(0, .bool b), (1, .agg (ar f))] _ (build_nm b f)
  unfold execOp
  simp only [ho]
  simp [hx, hy, this]⟩
theorem results_range {fn : Func} {p : Tmp} (h : fn.results = #[.cell p 47]) (tmps : Array Value) (w : World) (g : Nat) (s : Bool) (f : Nat → Int)
    (hp : tmps.getD p undef = .pointer (some ⟨g, 0, none⟩)) (hr : w.rangeAt g 0 (nm s f).toList) : (results fn tmps).run Try.prog w = .ok (.agg (nm s f)) w := by
  have hp' : tmps[p]?.getD undef = .pointer (some ⟨g, 0, none⟩) := by simpa using hp
  have := run_loadVar_mid (P := Try.prog) w g 0 47 (nm s f).toList _ hr Try.underlying47 rfl (by kernel_rfl)
  rw [Array.toArray_toList] at this
  simp [results, h, hp', asAddr, this]

set_option maxHeartbeats 2000000 in
theorem plus_same (s : Bool) (A C : Int) (w : World) :
    Calls Try.prog 18 #[.agg (nm s (dgs A)), .agg (nm s (dgs C))] w fun e w' => e = .returned (.agg (nm s (dgs (A + C)))) ∧ Quiet w w' := by
  have P0 : Hid (PS w s s (dgs A) (dgs C) (((w.alloc (.cells (nm s (dgs A)) 47)).alloc (.cells (nm s (dgs C)) 47)).alloc (.cells (nm false fun _ => 0) 47))) :=
    Lib.hid ⟨((Row.new w _ _).alloc _).alloc _, (Row.at_ (w.alloc _) _ _ (by simp)).alloc _, (Row.at_ ((w.alloc _).alloc _) _ _ (by simp)).there, (((Quiet.refl w).alloc _ _).alloc _ _).alloc _ _⟩
  have hc1 : ∀ o o', (((w.alloc (.cells (nm s (dgs A)) 47)).alloc o).alloc o').cell? ⟨w.heap.size, 0, none⟩ = some (.bool s) := fun o o' => (((Row.new w 47 (nm s (dgs A))).alloc o).alloc o').sign
  have hc2 : ∀ o, (((w.alloc (.cells (nm s (dgs A)) 47)).alloc (.cells (nm s (dgs C)) 47)).alloc o).cell? ⟨w.heap.size + 1, 0, none⟩ = some (.bool s) := fun o => ((Row.at_ (w.alloc _) 47 (nm s (dgs C)) (by simp)).alloc o).sign
  go_enter Try.func18, Try.ntmps18
  go_wp2_with fail
  clear hc1 hc2
  refine wp_region_held_drew (S := PS w s s (dgs A) (dgs C)) (by kernel_rfl) P0.out.drew (fun hH => ?_)
  refine wpAnyH_take (i := 0) (v := .pointer (some ⟨w.heap.size, 0, none⟩)) rfl (by kernel_rfl) (by kernel_rfl) (by kernel_rfl) (fun _ _ _ h => h) (.inl ⟨by rfl, ?_⟩) (by assumption) ?_
  · intro W hW; go_simp
  simp only [List.getElem_toArray, List.getElem_cons_zero, Act.put, List.setIfInBounds_toArray, List.set_cons_zero, List.set_cons_succ]
  refine wpAnyH_take (i := 1) (v := .bool s) rfl (by kernel_rfl) (by kernel_rfl) (by kernel_rfl) (fun _ _ _ h => h) (.inl ⟨by rfl, ?_⟩) (by assumption) ?_
  · intro W hW; have := hW.r1.sign; go_simp
  simp only [List.getElem_toArray, List.getElem_cons_zero, List.getElem_cons_succ, Act.put, List.setIfInBounds_toArray, List.set_cons_zero, List.set_cons_succ]
  refine wpAnyH_take (i := 2) (v := .pointer (some ⟨w.heap.size, 1, none⟩)) rfl (by kernel_rfl) (by kernel_rfl) (by kernel_rfl) (fun _ _ _ h => h) (.inl ⟨by rfl, ?_⟩) (by assumption) ?_
  · intro W hW; go_simp
  simp only [List.getElem_toArray, List.getElem_cons_zero, List.getElem_cons_succ, Act.put, List.setIfInBounds_toArray, List.set_cons_zero, List.set_cons_succ]
  refine wpAnyH_take (i := 3) (v := .agg (ar (dgs A))) rfl (by kernel_rfl) (by kernel_rfl) (by kernel_rfl) (fun _ _ _ h => h) (yields_ar (by rfl) (.tmp 12) rfl (w.heap.size) 1 rfl (dgs A) (fun W hW => hW.r1.range)) (by assumption) ?_
  simp only [List.getElem_toArray, List.getElem_cons_zero, List.getElem_cons_succ, Act.put, List.setIfInBounds_toArray, List.set_cons_zero, List.set_cons_succ]
  refine wpAnyH_take (i := 4) (v := .pointer (some ⟨w.heap.size + 1, 1, none⟩)) rfl (by kernel_rfl) (by kernel_rfl) (by kernel_rfl) (fun _ _ _ h => h) (.inl ⟨by rfl, ?_⟩) (by assumption) ?_
  · intro W hW; go_simp
  simp only [List.getElem_toArray, List.getElem_cons_zero, List.getElem_cons_succ, Act.put, List.setIfInBounds_toArray, List.set_cons_zero, List.set_cons_succ]
  refine wpAnyH_take (i := 5) (v := .agg (ar (dgs C))) rfl (by kernel_rfl) (by kernel_rfl) (by kernel_rfl) (fun _ _ _ h => h) (yields_ar (by rfl) (.tmp 14) rfl (w.heap.size + 1) 1 rfl (dgs C) (fun W hW => hW.r2.range)) (by assumption) ?_
  simp only [List.getElem_toArray, List.getElem_cons_zero, List.getElem_cons_succ, Act.put, List.setIfInBounds_toArray, List.set_cons_zero, List.set_cons_succ]
  refine wpAnyH_ready (rs := [6]) (by kernel_rfl) (by simp) (AllReadyH.cons rfl (fun K hK => ?_) AllReadyH.nil)
  go_simp
  refine (plus_any A C _).mono ?_; rintro e w1 ⟨rfl, hq1⟩
  refine hK.out _ _ (hH.quiet hq1) (fun hH1 => ?_)
  clear hK hH
  refine wpAnyH_take (i := 7) (v := .agg (nm s (dgs (A + C)))) rfl (by kernel_rfl) (by kernel_rfl) (by kernel_rfl) (fun _ _ _ h => h) (yields_build (by rfl) (.tmp 11) (.tmp 16) rfl s (dgs (A + C)) rfl rfl) (by assumption) ?_
  simp only [List.getElem_toArray, List.getElem_cons_zero, List.getElem_cons_succ, Act.put, List.setIfInBounds_toArray, List.set_cons_zero, List.set_cons_succ]
  refine wpAnyH_ready (rs := [8]) (by kernel_rfl) (by simp) (AllReadyH.cons rfl (fun K hK => ?_) AllReadyH.nil)
  rw [if_pos (by rfl)]
  refine wp_store_mid 47 _ _ rfl (w.heap.size + 1 + 1) 0 (nm s (dgs (A + C))) rfl rfl hH1.r3 (by kernel_rfl) (nm_one _ _) ?_
  refine hK.out _ _ (hH1.stored _) (fun hH2 => ?_)
  refine wpAnyH_done (by kernel_rfl) ?_ _
  have hr := World.rangeAt_setCells_same _ (w.heap.size + 1 + 1) 0 (nm s (dgs (A + C))).toList hH1.r3
  simp only [List.getElem_toArray, List.getElem_cons_zero, List.getElem_cons_succ, Act.put]
  go_wp2
  exact bodyPost_ret (v := .agg (nm s (dgs (A + C)))) (results_range rfl _ _ (w.heap.size + 1 + 1) _ _ rfl hr) rfl ⟨rfl, hH2.q⟩

set_option maxHeartbeats 2000000 in
theorem plus_lt_ft (A C : Int) (hA : 0 ≤ A) (hC : 0 ≤ C) (hA1 : A < Rf.T 12) (hC1 : C < Rf.T 12) (hlt : ltB A C = true) (w : World) :
    Calls Try.prog 18 #[.agg (nm false (dgs A)), .agg (nm true (dgs C))] w fun e w' => e = .returned (.agg (nm true (dgs (C - A)))) ∧ Quiet w w' := by
  have L := Lib.hid (fun W => less_any A C hA hC hA1 hC1 W)
  clear hA hC hA1 hC1
  have P0 : Hid (PS w false true (dgs A) (dgs C) (((w.alloc (.cells (nm false (dgs A)) 47)).alloc (.cells (nm true (dgs C)) 47)).alloc (.cells (nm false fun _ => 0) 47))) :=
    Lib.hid ⟨((Row.new w _ _).alloc _).alloc _, (Row.at_ (w.alloc _) _ _ (by simp)).alloc _, (Row.at_ ((w.alloc _).alloc _) _ _ (by simp)).there, (((Quiet.refl w).alloc _ _).alloc _ _).alloc _ _⟩
  have hc1 : ∀ o o', (((w.alloc (.cells (nm false (dgs A)) 47)).alloc o).alloc o').cell? ⟨w.heap.size, 0, none⟩ = some (.bool false) := fun o o' => (((Row.new w 47 (nm false (dgs A))).alloc o).alloc o').sign
  have hc2 : ∀ o, (((w.alloc (.cells (nm false (dgs A)) 47)).alloc (.cells (nm true (dgs C)) 47)).alloc o).cell? ⟨w.heap.size + 1, 0, none⟩ = some (.bool true) := fun o => ((Row.at_ (w.alloc _) 47 (nm true (dgs C)) (by simp)).alloc o).sign
  go_enter Try.func18, Try.ntmps18
  go_wp2_with (first
    | (refine wl_load_ar w.heap.size 1 (dgs A) ?_ ?_ ?_; rfl; exact P0.out.r1.range)
    | (refine wl_load_ar (w.heap.size + 1) 1 (dgs C) ?_ ?_ ?_; rfl; exact P0.out.r2.range)
    | (go_at_call 29; refine (L.out _).mono ?_; rintro e w0 ⟨rfl, hq0⟩))
  clear hc1 hc2
  refine wp_region_held_drew (S := PS w false true (dgs A) (dgs C)) (by kernel_rfl) (P0.out.quiet hq0).drew (fun hH => ?_)
  refine wpAnyH_take (i := 0) (v := .pointer (some ⟨w.heap.size + 1, 0, none⟩)) rfl (by kernel_rfl) (by kernel_rfl) (by kernel_rfl) (fun _ _ _ h => h) (.inl ⟨by rfl, ?_⟩) (by assumption) ?_
  · intro W hW; go_simp
  simp only [List.getElem_toArray, List.getElem_cons_zero, Act.put, List.setIfInBounds_toArray, List.set_cons_zero, List.set_cons_succ]
  refine wpAnyH_take (i := 1) (v := .bool true) rfl (by kernel_rfl) (by kernel_rfl) (by kernel_rfl) (fun _ _ _ h => h) (.inl ⟨by rfl, ?_⟩) (by assumption) ?_
  · intro W hW; have := hW.r2.sign; go_simp
  simp only [List.getElem_toArray, List.getElem_cons_zero, List.getElem_cons_succ, Act.put, List.setIfInBounds_toArray, List.set_cons_zero, List.set_cons_succ]
  refine wpAnyH_take (i := 2) (v := .pointer (some ⟨w.heap.size + 1, 1, none⟩)) rfl (by kernel_rfl) (by kernel_rfl) (by kernel_rfl) (fun _ _ _ h => h) (.inl ⟨by rfl, ?_⟩) (by assumption) ?_
  · intro W hW; go_simp
  simp only [List.getElem_toArray, List.getElem_cons_zero, List.getElem_cons_succ, Act.put, List.setIfInBounds_toArray, List.set_cons_zero, List.set_cons_succ]
  refine wpAnyH_take (i := 3) (v := .agg (ar (dgs C))) rfl (by kernel_rfl) (by kernel_rfl) (by kernel_rfl) (fun _ _ _ h => h) (yields_ar (by rfl) (.tmp 25) rfl (w.heap.size + 1) 1 rfl (dgs C) (fun W hW => hW.r2.range)) (by assumption) ?_
  simp only [List.getElem_toArray, List.getElem_cons_zero, List.getElem_cons_succ, Act.put, List.setIfInBounds_toArray, List.set_cons_zero, List.set_cons_succ]
  refine wpAnyH_take (i := 4) (v := .pointer (some ⟨w.heap.size, 1, none⟩)) rfl (by kernel_rfl) (by kernel_rfl) (by kernel_rfl) (fun _ _ _ h => h) (.inl ⟨by rfl, ?_⟩) (by assumption) ?_
  · intro W hW; go_simp
  simp only [List.getElem_toArray, List.getElem_cons_zero, List.getElem_cons_succ, Act.put, List.setIfInBounds_toArray, List.set_cons_zero, List.set_cons_succ]
  refine wpAnyH_take (i := 5) (v := .agg (ar (dgs A))) rfl (by kernel_rfl) (by kernel_rfl) (by kernel_rfl) (fun _ _ _ h => h) (yields_ar (by rfl) (.tmp 27) rfl (w.heap.size) 1 rfl (dgs A) (fun W hW => hW.r1.range)) (by assumption) ?_
  simp only [List.getElem_toArray, List.getElem_cons_zero, List.getElem_cons_succ, Act.put, List.setIfInBounds_toArray, List.set_cons_zero, List.set_cons_succ]
  refine wpAnyH_ready (rs := [6]) (by kernel_rfl) (by simp) (AllReadyH.cons rfl (fun K hK => ?_) AllReadyH.nil)
  go_simp
  refine (minus_any C A _).mono ?_; rintro e w1 ⟨rfl, hq1⟩
  refine hK.out _ _ (hH.quiet hq1) (fun hH1 => ?_)
  clear hK hH
  refine wpAnyH_take (i := 7) (v := .agg (nm true (dgs (C - A)))) rfl (by kernel_rfl) (by kernel_rfl) (by kernel_rfl) (fun _ _ _ h => h) (yields_build (by rfl) (.tmp 24) (.tmp 29) rfl true (dgs (C - A)) rfl rfl) (by assumption) ?_
  simp only [List.getElem_toArray, List.getElem_cons_zero, List.getElem_cons_succ, Act.put, List.setIfInBounds_toArray, List.set_cons_zero, List.set_cons_succ]
  refine wpAnyH_ready (rs := [8]) (by kernel_rfl) (by simp) (AllReadyH.cons rfl (fun K hK => ?_) AllReadyH.nil)
  rw [if_pos (by rfl)]
  refine wp_store_mid 47 _ _ rfl (w.heap.size + 1 + 1) 0 (nm true (dgs (C - A))) rfl rfl hH1.r3 (by kernel_rfl) (nm_one _ _) ?_
  refine hK.out _ _ (hH1.stored _) (fun hH2 => ?_)
  refine wpAnyH_done (by kernel_rfl) ?_ _
  have hr := World.rangeAt_setCells_same _ (w.heap.size + 1 + 1) 0 (nm true (dgs (C - A))).toList hH1.r3
  simp only [List.getElem_toArray, List.getElem_cons_zero, List.getElem_cons_succ, Act.put]
  go_wp2
  exact bodyPost_ret (v := .agg (nm true (dgs (C - A)))) (results_range rfl _ _ (w.heap.size + 1 + 1) _ _ rfl hr) rfl ⟨rfl, hH2.q⟩

set_option maxHeartbeats 2000000 in
theorem plus_ge_ft (A C : Int) (hA : 0 ≤ A) (hC : 0 ≤ C) (hA1 : A < Rf.T 12) (hC1 : C < Rf.T 12) (hlt : ltB A C = false) (w : World) :
    Calls Try.prog 18 #[.agg (nm false (dgs A)), .agg (nm true (dgs C))] w fun e w' => e = .returned (.agg (nm false (dgs (A - C)))) ∧ Quiet w w' := by
  have L := Lib.hid (fun W => less_any A C hA hC hA1 hC1 W)
  clear hA hC hA1 hC1
  have P0 : Hid (PS w false true (dgs A) (dgs C) (((w.alloc (.cells (nm false (dgs A)) 47)).alloc (.cells (nm true (dgs C)) 47)).alloc (.cells (nm false fun _ => 0) 47))) :=
    Lib.hid ⟨((Row.new w _ _).alloc _).alloc _, (Row.at_ (w.alloc _) _ _ (by simp)).alloc _, (Row.at_ ((w.alloc _).alloc _) _ _ (by simp)).there, (((Quiet.refl w).alloc _ _).alloc _ _).alloc _ _⟩
  have hc1 : ∀ o o', (((w.alloc (.cells (nm false (dgs A)) 47)).alloc o).alloc o').cell? ⟨w.heap.size, 0, none⟩ = some (.bool false) := fun o o' => (((Row.new w 47 (nm false (dgs A))).alloc o).alloc o').sign
  have hc2 : ∀ o, (((w.alloc (.cells (nm false (dgs A)) 47)).alloc (.cells (nm true (dgs C)) 47)).alloc o).cell? ⟨w.heap.size + 1, 0, none⟩ = some (.bool true) := fun o => ((Row.at_ (w.alloc _) 47 (nm true (dgs C)) (by simp)).alloc o).sign
  go_enter Try.func18, Try.ntmps18
  go_wp2_with (first
    | (refine wl_load_ar w.heap.size 1 (dgs A) ?_ ?_ ?_; rfl; exact P0.out.r1.range)
    | (refine wl_load_ar (w.heap.size + 1) 1 (dgs C) ?_ ?_ ?_; rfl; exact P0.out.r2.range)
    | (go_at_call 29; refine (L.out _).mono ?_; rintro e w0 ⟨rfl, hq0⟩))
  clear hc1 hc2
  refine wp_region_held_drew (S := PS w false true (dgs A) (dgs C)) (by kernel_rfl) (P0.out.quiet hq0).drew (fun hH => ?_)
  refine wpAnyH_take (i := 0) (v := .pointer (some ⟨w.heap.size, 0, none⟩)) rfl (by kernel_rfl) (by kernel_rfl) (by kernel_rfl) (fun _ _ _ h => h) (.inl ⟨by rfl, ?_⟩) (by assumption) ?_
  · intro W hW; go_simp
  simp only [List.getElem_toArray, List.getElem_cons_zero, Act.put, List.setIfInBounds_toArray, List.set_cons_zero, List.set_cons_succ]
  refine wpAnyH_take (i := 1) (v := .bool false) rfl (by kernel_rfl) (by kernel_rfl) (by kernel_rfl) (fun _ _ _ h => h) (.inl ⟨by rfl, ?_⟩) (by assumption) ?_
  · intro W hW; have := hW.r1.sign; go_simp
  simp only [List.getElem_toArray, List.getElem_cons_zero, List.getElem_cons_succ, Act.put, List.setIfInBounds_toArray, List.set_cons_zero, List.set_cons_succ]
  refine wpAnyH_take (i := 2) (v := .pointer (some ⟨w.heap.size, 1, none⟩)) rfl (by kernel_rfl) (by kernel_rfl) (by kernel_rfl) (fun _ _ _ h => h) (.inl ⟨by rfl, ?_⟩) (by assumption) ?_
  · intro W hW; go_simp
  simp only [List.getElem_toArray, List.getElem_cons_zero, List.getElem_cons_succ, Act.put, List.setIfInBounds_toArray, List.set_cons_zero, List.set_cons_succ]
  refine wpAnyH_take (i := 3) (v := .agg (ar (dgs A))) rfl (by kernel_rfl) (by kernel_rfl) (by kernel_rfl) (fun _ _ _ h => h) (yields_ar (by rfl) (.tmp 33) rfl (w.heap.size) 1 rfl (dgs A) (fun W hW => hW.r1.range)) (by assumption) ?_
  simp only [List.getElem_toArray, List.getElem_cons_zero, List.getElem_cons_succ, Act.put, List.setIfInBounds_toArray, List.set_cons_zero, List.set_cons_succ]
  refine wpAnyH_take (i := 4) (v := .pointer (some ⟨w.heap.size + 1, 1, none⟩)) rfl (by kernel_rfl) (by kernel_rfl) (by kernel_rfl) (fun _ _ _ h => h) (.inl ⟨by rfl, ?_⟩) (by assumption) ?_
  · intro W hW; go_simp
  simp only [List.getElem_toArray, List.getElem_cons_zero, List.getElem_cons_succ, Act.put, List.setIfInBounds_toArray, List.set_cons_zero, List.set_cons_succ]
  refine wpAnyH_take (i := 5) (v := .agg (ar (dgs C))) rfl (by kernel_rfl) (by kernel_rfl) (by kernel_rfl) (fun _ _ _ h => h) (yields_ar (by rfl) (.tmp 35) rfl (w.heap.size + 1) 1 rfl (dgs C) (fun W hW => hW.r2.range)) (by assumption) ?_
  simp only [List.getElem_toArray, List.getElem_cons_zero, List.getElem_cons_succ, Act.put, List.setIfInBounds_toArray, List.set_cons_zero, List.set_cons_succ]
  refine wpAnyH_ready (rs := [6]) (by kernel_rfl) (by simp) (AllReadyH.cons rfl (fun K hK => ?_) AllReadyH.nil)
  go_simp
  refine (minus_any A C _).mono ?_; rintro e w1 ⟨rfl, hq1⟩
  refine hK.out _ _ (hH.quiet hq1) (fun hH1 => ?_)
  clear hK hH
  refine wpAnyH_take (i := 7) (v := .agg (nm false (dgs (A - C)))) rfl (by kernel_rfl) (by kernel_rfl) (by kernel_rfl) (fun _ _ _ h => h) (yields_build (by rfl) (.tmp 32) (.tmp 37) rfl false (dgs (A - C)) rfl rfl) (by assumption) ?_
  simp only [List.getElem_toArray, List.getElem_cons_zero, List.getElem_cons_succ, Act.put, List.setIfInBounds_toArray, List.set_cons_zero, List.set_cons_succ]
  refine wpAnyH_ready (rs := [8]) (by kernel_rfl) (by simp) (AllReadyH.cons rfl (fun K hK => ?_) AllReadyH.nil)
  rw [if_pos (by rfl)]
  refine wp_store_mid 47 _ _ rfl (w.heap.size + 1 + 1) 0 (nm false (dgs (A - C))) rfl rfl hH1.r3 (by kernel_rfl) (nm_one _ _) ?_
  refine hK.out _ _ (hH1.stored _) (fun hH2 => ?_)
  refine wpAnyH_done (by kernel_rfl) ?_ _
  have hr := World.rangeAt_setCells_same _ (w.heap.size + 1 + 1) 0 (nm false (dgs (A - C))).toList hH1.r3
  simp only [List.getElem_toArray, List.getElem_cons_zero, List.getElem_cons_succ, Act.put]
  go_wp2
  exact bodyPost_ret (v := .agg (nm false (dgs (A - C)))) (results_range rfl _ _ (w.heap.size + 1 + 1) _ _ rfl hr) rfl ⟨rfl, hH2.q⟩

set_option maxHeartbeats 2000000 in
theorem plus_lt_tf (A C : Int) (hA : 0 ≤ A) (hC : 0 ≤ C) (hA1 : A < Rf.T 12) (hC1 : C < Rf.T 12) (hlt : ltB A C = true) (w : World) :
    Calls Try.prog 18 #[.agg (nm true (dgs A)), .agg (nm false (dgs C))] w fun e w' => e = .returned (.agg (nm false (dgs (C - A)))) ∧ Quiet w w' := by
  have L := Lib.hid (fun W => less_any A C hA hC hA1 hC1 W)
  clear hA hC hA1 hC1
  have P0 : Hid (PS w true false (dgs A) (dgs C) (((w.alloc (.cells (nm true (dgs A)) 47)).alloc (.cells (nm false (dgs C)) 47)).alloc (.cells (nm false fun _ => 0) 47))) :=
    Lib.hid ⟨((Row.new w _ _).alloc _).alloc _, (Row.at_ (w.alloc _) _ _ (by simp)).alloc _, (Row.at_ ((w.alloc _).alloc _) _ _ (by simp)).there, (((Quiet.refl w).alloc _ _).alloc _ _).alloc _ _⟩
  have hc1 : ∀ o o', (((w.alloc (.cells (nm true (dgs A)) 47)).alloc o).alloc o').cell? ⟨w.heap.size, 0, none⟩ = some (.bool true) := fun o o' => (((Row.new w 47 (nm true (dgs A))).alloc o).alloc o').sign
  have hc2 : ∀ o, (((w.alloc (.cells (nm true (dgs A)) 47)).alloc (.cells (nm false (dgs C)) 47)).alloc o).cell? ⟨w.heap.size + 1, 0, none⟩ = some (.bool false) := fun o => ((Row.at_ (w.alloc _) 47 (nm false (dgs C)) (by simp)).alloc o).sign
  go_enter Try.func18, Try.ntmps18
  go_wp2_with (first
    | (refine wl_load_ar w.heap.size 1 (dgs A) ?_ ?_ ?_; rfl; exact P0.out.r1.range)
    | (refine wl_load_ar (w.heap.size + 1) 1 (dgs C) ?_ ?_ ?_; rfl; exact P0.out.r2.range)
    | (go_at_call 29; refine (L.out _).mono ?_; rintro e w0 ⟨rfl, hq0⟩))
  clear hc1 hc2
  refine wp_region_held_drew (S := PS w true false (dgs A) (dgs C)) (by kernel_rfl) (P0.out.quiet hq0).drew (fun hH => ?_)
  refine wpAnyH_take (i := 0) (v := .pointer (some ⟨w.heap.size + 1, 0, none⟩)) rfl (by kernel_rfl) (by kernel_rfl) (by kernel_rfl) (fun _ _ _ h => h) (.inl ⟨by rfl, ?_⟩) (by assumption) ?_
  · intro W hW; go_simp
  simp only [List.getElem_toArray, List.getElem_cons_zero, Act.put, List.setIfInBounds_toArray, List.set_cons_zero, List.set_cons_succ]
  refine wpAnyH_take (i := 1) (v := .bool false) rfl (by kernel_rfl) (by kernel_rfl) (by kernel_rfl) (fun _ _ _ h => h) (.inl ⟨by rfl, ?_⟩) (by assumption) ?_
  · intro W hW; have := hW.r2.sign; go_simp
  simp only [List.getElem_toArray, List.getElem_cons_zero, List.getElem_cons_succ, Act.put, List.setIfInBounds_toArray, List.set_cons_zero, List.set_cons_succ]
  refine wpAnyH_take (i := 2) (v := .pointer (some ⟨w.heap.size + 1, 1, none⟩)) rfl (by kernel_rfl) (by kernel_rfl) (by kernel_rfl) (fun _ _ _ h => h) (.inl ⟨by rfl, ?_⟩) (by assumption) ?_
  · intro W hW; go_simp
  simp only [List.getElem_toArray, List.getElem_cons_zero, List.getElem_cons_succ, Act.put, List.setIfInBounds_toArray, List.set_cons_zero, List.set_cons_succ]
  refine wpAnyH_take (i := 3) (v := .agg (ar (dgs C))) rfl (by kernel_rfl) (by kernel_rfl) (by kernel_rfl) (fun _ _ _ h => h) (yields_ar (by rfl) (.tmp 25) rfl (w.heap.size + 1) 1 rfl (dgs C) (fun W hW => hW.r2.range)) (by assumption) ?_
  simp only [List.getElem_toArray, List.getElem_cons_zero, List.getElem_cons_succ, Act.put, List.setIfInBounds_toArray, List.set_cons_zero, List.set_cons_succ]
  refine wpAnyH_take (i := 4) (v := .pointer (some ⟨w.heap.size, 1, none⟩)) rfl (by kernel_rfl) (by kernel_rfl) (by kernel_rfl) (fun _ _ _ h => h) (.inl ⟨by rfl, ?_⟩) (by assumption) ?_
  · intro W hW; go_simp
  simp only [List.getElem_toArray, List.getElem_cons_zero, List.getElem_cons_succ, Act.put, List.setIfInBounds_toArray, List.set_cons_zero, List.set_cons_succ]
  refine wpAnyH_take (i := 5) (v := .agg (ar (dgs A))) rfl (by kernel_rfl) (by kernel_rfl) (by kernel_rfl) (fun _ _ _ h => h) (yields_ar (by rfl) (.tmp 27) rfl (w.heap.size) 1 rfl (dgs A) (fun W hW => hW.r1.range)) (by assumption) ?_
  simp only [List.getElem_toArray, List.getElem_cons_zero, List.getElem_cons_succ, Act.put, List.setIfInBounds_toArray, List.set_cons_zero, List.set_cons_succ]
  refine wpAnyH_ready (rs := [6]) (by kernel_rfl) (by simp) (AllReadyH.cons rfl (fun K hK => ?_) AllReadyH.nil)
  go_simp
  refine (minus_any C A _).mono ?_; rintro e w1 ⟨rfl, hq1⟩
  refine hK.out _ _ (hH.quiet hq1) (fun hH1 => ?_)
  clear hK hH
  refine wpAnyH_take (i := 7) (v := .agg (nm false (dgs (C - A)))) rfl (by kernel_rfl) (by kernel_rfl) (by kernel_rfl) (fun _ _ _ h => h) (yields_build (by rfl) (.tmp 24) (.tmp 29) rfl false (dgs (C - A)) rfl rfl) (by assumption) ?_
  simp only [List.getElem_toArray, List.getElem_cons_zero, List.getElem_cons_succ, Act.put, List.setIfInBounds_toArray, List.set_cons_zero, List.set_cons_succ]
  refine wpAnyH_ready (rs := [8]) (by kernel_rfl) (by simp) (AllReadyH.cons rfl (fun K hK => ?_) AllReadyH.nil)
  rw [if_pos (by rfl)]
  refine wp_store_mid 47 _ _ rfl (w.heap.size + 1 + 1) 0 (nm false (dgs (C - A))) rfl rfl hH1.r3 (by kernel_rfl) (nm_one _ _) ?_
  refine hK.out _ _ (hH1.stored _) (fun hH2 => ?_)
  refine wpAnyH_done (by kernel_rfl) ?_ _
  have hr := World.rangeAt_setCells_same _ (w.heap.size + 1 + 1) 0 (nm false (dgs (C - A))).toList hH1.r3
  simp only [List.getElem_toArray, List.getElem_cons_zero, List.getElem_cons_succ, Act.put]
  go_wp2
  exact bodyPost_ret (v := .agg (nm false (dgs (C - A)))) (results_range rfl _ _ (w.heap.size + 1 + 1) _ _ rfl hr) rfl ⟨rfl, hH2.q⟩

set_option maxHeartbeats 2000000 in
theorem plus_ge_tf (A C : Int) (hA : 0 ≤ A) (hC : 0 ≤ C) (hA1 : A < Rf.T 12) (hC1 : C < Rf.T 12) (hlt : ltB A C = false) (w : World) :
    Calls Try.prog 18 #[.agg (nm true (dgs A)), .agg (nm false (dgs C))] w fun e w' => e = .returned (.agg (nm true (dgs (A - C)))) ∧ Quiet w w' := by
  have L := Lib.hid (fun W => less_any A C hA hC hA1 hC1 W)
  clear hA hC hA1 hC1
  have P0 : Hid (PS w true false (dgs A) (dgs C) (((w.alloc (.cells (nm true (dgs A)) 47)).alloc (.cells (nm false (dgs C)) 47)).alloc (.cells (nm false fun _ => 0) 47))) :=
    Lib.hid ⟨((Row.new w _ _).alloc _).alloc _, (Row.at_ (w.alloc _) _ _ (by simp)).alloc _, (Row.at_ ((w.alloc _).alloc _) _ _ (by simp)).there, (((Quiet.refl w).alloc _ _).alloc _ _).alloc _ _⟩
  have hc1 : ∀ o o', (((w.alloc (.cells (nm true (dgs A)) 47)).alloc o).alloc o').cell? ⟨w.heap.size, 0, none⟩ = some (.bool true) := fun o o' => (((Row.new w 47 (nm true (dgs A))).alloc o).alloc o').sign
  have hc2 : ∀ o, (((w.alloc (.cells (nm true (dgs A)) 47)).alloc (.cells (nm false (dgs C)) 47)).alloc o).cell? ⟨w.heap.size + 1, 0, none⟩ = some (.bool false) := fun o => ((Row.at_ (w.alloc _) 47 (nm false (dgs C)) (by simp)).alloc o).sign
  go_enter Try.func18, Try.ntmps18
  go_wp2_with (first
    | (refine wl_load_ar w.heap.size 1 (dgs A) ?_ ?_ ?_; rfl; exact P0.out.r1.range)
    | (refine wl_load_ar (w.heap.size + 1) 1 (dgs C) ?_ ?_ ?_; rfl; exact P0.out.r2.range)
    | (go_at_call 29; refine (L.out _).mono ?_; rintro e w0 ⟨rfl, hq0⟩))
  clear hc1 hc2
  refine wp_region_held_drew (S := PS w true false (dgs A) (dgs C)) (by kernel_rfl) (P0.out.quiet hq0).drew (fun hH => ?_)
  refine wpAnyH_take (i := 0) (v := .pointer (some ⟨w.heap.size, 0, none⟩)) rfl (by kernel_rfl) (by kernel_rfl) (by kernel_rfl) (fun _ _ _ h => h) (.inl ⟨by rfl, ?_⟩) (by assumption) ?_
  · intro W hW; go_simp
  simp only [List.getElem_toArray, List.getElem_cons_zero, Act.put, List.setIfInBounds_toArray, List.set_cons_zero, List.set_cons_succ]
  refine wpAnyH_take (i := 1) (v := .bool true) rfl (by kernel_rfl) (by kernel_rfl) (by kernel_rfl) (fun _ _ _ h => h) (.inl ⟨by rfl, ?_⟩) (by assumption) ?_
  · intro W hW; have := hW.r1.sign; go_simp
  simp only [List.getElem_toArray, List.getElem_cons_zero, List.getElem_cons_succ, Act.put, List.setIfInBounds_toArray, List.set_cons_zero, List.set_cons_succ]
  refine wpAnyH_take (i := 2) (v := .pointer (some ⟨w.heap.size, 1, none⟩)) rfl (by kernel_rfl) (by kernel_rfl) (by kernel_rfl) (fun _ _ _ h => h) (.inl ⟨by rfl, ?_⟩) (by assumption) ?_
  · intro W hW; go_simp
  simp only [List.getElem_toArray, List.getElem_cons_zero, List.getElem_cons_succ, Act.put, List.setIfInBounds_toArray, List.set_cons_zero, List.set_cons_succ]
  refine wpAnyH_take (i := 3) (v := .agg (ar (dgs A))) rfl (by kernel_rfl) (by kernel_rfl) (by kernel_rfl) (fun _ _ _ h => h) (yields_ar (by rfl) (.tmp 33) rfl (w.heap.size) 1 rfl (dgs A) (fun W hW => hW.r1.range)) (by assumption) ?_
  simp only [List.getElem_toArray, List.getElem_cons_zero, List.getElem_cons_succ, Act.put, List.setIfInBounds_toArray, List.set_cons_zero, List.set_cons_succ]
  refine wpAnyH_take (i := 4) (v := .pointer (some ⟨w.heap.size + 1, 1, none⟩)) rfl (by kernel_rfl) (by kernel_rfl) (by kernel_rfl) (fun _ _ _ h => h) (.inl ⟨by rfl, ?_⟩) (by assumption) ?_
  · intro W hW; go_simp
  simp only [List.getElem_toArray, List.getElem_cons_zero, List.getElem_cons_succ, Act.put, List.setIfInBounds_toArray, List.set_cons_zero, List.set_cons_succ]
  refine wpAnyH_take (i := 5) (v := .agg (ar (dgs C))) rfl (by kernel_rfl) (by kernel_rfl) (by kernel_rfl) (fun _ _ _ h => h) (yields_ar (by rfl) (.tmp 35) rfl (w.heap.size + 1) 1 rfl (dgs C) (fun W hW => hW.r2.range)) (by assumption) ?_
  simp only [List.getElem_toArray, List.getElem_cons_zero, List.getElem_cons_succ, Act.put, List.setIfInBounds_toArray, List.set_cons_zero, List.set_cons_succ]
  refine wpAnyH_ready (rs := [6]) (by kernel_rfl) (by simp) (AllReadyH.cons rfl (fun K hK => ?_) AllReadyH.nil)
  go_simp
  refine (minus_any A C _).mono ?_; rintro e w1 ⟨rfl, hq1⟩
  refine hK.out _ _ (hH.quiet hq1) (fun hH1 => ?_)
  clear hK hH
  refine wpAnyH_take (i := 7) (v := .agg (nm true (dgs (A - C)))) rfl (by kernel_rfl) (by kernel_rfl) (by kernel_rfl) (fun _ _ _ h => h) (yields_build (by rfl) (.tmp 32) (.tmp 37) rfl true (dgs (A - C)) rfl rfl) (by assumption) ?_
  simp only [List.getElem_toArray, List.getElem_cons_zero, List.getElem_cons_succ, Act.put, List.setIfInBounds_toArray, List.set_cons_zero, List.set_cons_succ]
  refine wpAnyH_ready (rs := [8]) (by kernel_rfl) (by simp) (AllReadyH.cons rfl (fun K hK => ?_) AllReadyH.nil)
  rw [if_pos (by rfl)]
  refine wp_store_mid 47 _ _ rfl (w.heap.size + 1 + 1) 0 (nm true (dgs (A - C))) rfl rfl hH1.r3 (by kernel_rfl) (nm_one _ _) ?_
  refine hK.out _ _ (hH1.stored _) (fun hH2 => ?_)
  refine wpAnyH_done (by kernel_rfl) ?_ _
  have hr := World.rangeAt_setCells_same _ (w.heap.size + 1 + 1) 0 (nm true (dgs (A - C))).toList hH1.r3
  simp only [List.getElem_toArray, List.getElem_cons_zero, List.getElem_cons_succ, Act.put]
  go_wp2
  exact bodyPost_ret (v := .agg (nm true (dgs (A - C)))) (results_range rfl _ _ (w.heap.size + 1 + 1) _ _ rfl hr) rfl ⟨rfl, hH2.q⟩
end Go.Proofs.Ytlbekdpmfjhjhaa
