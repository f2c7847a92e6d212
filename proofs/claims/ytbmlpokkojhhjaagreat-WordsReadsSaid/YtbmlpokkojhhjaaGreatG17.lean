/- The program's words: where a field lies, how it is written and read; a part made (by genWfb.py). -/
import Derived.Test.YtbmlpokkojhhjaaGreatG16
import Derived.Test.YtbmlpokkojhhjaaGreatG15
import Derived.Test.YtbmlpokkojhhjaaGreatG02
namespace Go.Proofs.YtbmlpokkojhhjaaGreat.Wz
open Go.RowKit
set_option linter.unusedVariables false
set_option linter.unusedSimpArgs false

theorem place0 (g : Nat) (w : World) : Calls Tryz.prog 47 #[.pointer (some ⟨g, 0, none⟩)] w fun e w' => e = .returned (.pointer (some ⟨g, 1, none⟩)) ∧ w = w' := by
  go_enter Tryz.func47, Tryz.ntmps47
  go_wp2_with fail
  go_ret
  exact ⟨rfl, rfl⟩
theorem place1 (g : Nat) (w : World) : Calls Tryz.prog 48 #[.pointer (some ⟨g, 0, none⟩)] w fun e w' => e = .returned (.pointer (some ⟨g, 2, none⟩)) ∧ w = w' := by
  go_enter Tryz.func48, Tryz.ntmps48
  go_wp2_with fail
  go_ret
  exact ⟨rfl, rfl⟩
theorem place2 (g : Nat) (w : World) : Calls Tryz.prog 50 #[.pointer (some ⟨g, 0, none⟩)] w fun e w' => e = .returned (.pointer (some ⟨g, 3, none⟩)) ∧ w = w' := by
  go_enter Tryz.func50, Tryz.ntmps50
  go_wp2_with fail
  go_ret
  exact ⟨rfl, rfl⟩
theorem place3 (g : Nat) (w : World) : Calls Tryz.prog 52 #[.pointer (some ⟨g, 0, none⟩)] w fun e w' => e = .returned (.pointer (some ⟨g, 4, none⟩)) ∧ w = w' := by
  go_enter Tryz.func52, Tryz.ntmps52
  go_wp2_with fail
  go_ret
  exact ⟨rfl, rfl⟩
theorem place4 (g : Nat) (w : World) : Calls Tryz.prog 54 #[.pointer (some ⟨g, 0, none⟩)] w fun e w' => e = .returned (.pointer (some ⟨g, 5, none⟩)) ∧ w = w' := by
  go_enter Tryz.func54, Tryz.ntmps54
  go_wp2_with fail
  go_ret
  exact ⟨rfl, rfl⟩
theorem place5 (g : Nat) (w : World) : Calls Tryz.prog 58 #[.pointer (some ⟨g, 0, none⟩)] w fun e w' => e = .returned (.pointer (some ⟨g, 30, none⟩)) ∧ w = w' := by
  go_enter Tryz.func58, Tryz.ntmps58
  go_wp2_with fail
  go_ret
  exact ⟨rfl, rfl⟩
theorem place6 (g : Nat) (w : World) : Calls Tryz.prog 61 #[.pointer (some ⟨g, 0, none⟩)] w fun e w' => e = .returned (.pointer (some ⟨g, 31, none⟩)) ∧ w = w' := by
  go_enter Tryz.func61, Tryz.ntmps61
  go_wp2_with fail
  go_ret
  exact ⟨rfl, rfl⟩
theorem place7 (g : Nat) (w : World) : Calls Tryz.prog 63 #[.pointer (some ⟨g, 0, none⟩)] w fun e w' => e = .returned (.pointer (some ⟨g, 32, none⟩)) ∧ w = w' := by
  go_enter Tryz.func63, Tryz.ntmps63
  go_wp2_with fail
  go_ret
  exact ⟨rfl, rfl⟩
theorem place8 (g : Nat) (w : World) : Calls Tryz.prog 66 #[.pointer (some ⟨g, 0, none⟩)] w fun e w' => e = .returned (.pointer (some ⟨g, 33, none⟩)) ∧ w = w' := by
  go_enter Tryz.func66, Tryz.ntmps66
  go_wp2_with fail
  go_ret
  exact ⟨rfl, rfl⟩
theorem place9 (g : Nat) (w : World) : Calls Tryz.prog 67 #[.pointer (some ⟨g, 0, none⟩)] w fun e w' => e = .returned (.pointer (some ⟨g, 34, none⟩)) ∧ w = w' := by
  go_enter Tryz.func67, Tryz.ntmps67
  go_wp2_with fail
  go_ret
  exact ⟨rfl, rfl⟩
/-- Bytes told, behind those that were. -/
theorem putok_made {W W' : World} {bs : List Int} {E : Ending} (h : Made W bs E W') : PutOk W bs E W' := by
  obtain ⟨v, rfl, hn⟩ := h
  exact put_made (Below.refl _ W) hn
set_option maxRecDepth 100000 in
theorem puts32 (A : Option Addr) (c : Nat) (bs : List Int) (k : Nat) (W : World) (hr : RdB W A bs.length bs) (h0 : A = none → bs.length = 0 ∧ c = 0) (hl : bs.length ≤ 1000000) (hk : k ≤ 4294967295) :
    Calls Tryz.prog 44 #[.slice A bs.length c, .int .u32 k] W fun E W' => Made W (bs ++ nb k) E W' := by
  have C := Lib.hid (wnat15 A c bs k W hr h0 hl (by omega))
  have e : IntKind.u64.wrap (k : Int) = (k : Int) := by
    simp [IntKind.wrap, IntKind.signed, IntKind.bits]
    omega
  have E := Lib.hid e
  clear hr h0 e
  go_enter Tryz.func44, Tryz.ntmps44
  go_wp2_with (rw [E.out])
  refine C.out.mono ?_; rintro e w1 ⟨v, rfl, hN⟩
  have N := Lib.hid hN
  clear hN
  go_wp2_with fail
  go_ret
  exact ⟨_, rfl, N.out⟩
set_option maxRecDepth 100000 in
theorem puts8 (A : Option Addr) (c : Nat) (bs : List Int) (k : Nat) (W : World) (hr : RdB W A bs.length bs) (h0 : A = none → bs.length = 0 ∧ c = 0) (hl : bs.length ≤ 1000000) (hk : k ≤ 255) :
    Calls Tryz.prog 64 #[.slice A bs.length c, .int .u8 k] W fun E W' => Made W (bs ++ nb k) E W' := by
  have C := Lib.hid (wnat15 A c bs k W hr h0 hl (by omega))
  have e : IntKind.u64.wrap (k : Int) = (k : Int) := by
    simp [IntKind.wrap, IntKind.signed, IntKind.bits]
    omega
  have E := Lib.hid e
  clear hr h0 e
  go_enter Tryz.func64, Tryz.ntmps64
  go_wp2_with (rw [E.out])
  refine C.out.mono ?_; rintro e w1 ⟨v, rfl, hN⟩
  have N := Lib.hid hN
  clear hN
  go_wp2_with fail
  go_ret
  exact ⟨_, rfl, N.out⟩
set_option maxRecDepth 100000 in
theorem putsk (A : Option Addr) (c : Nat) (bs : List Int) (k : Nat) (W : World) (hr : RdB W A bs.length bs) (h0 : A = none → bs.length = 0 ∧ c = 0) (hl : bs.length ≤ 1000000) (hk : k ≤ 255) :
    Calls Tryz.prog 36 #[.slice A bs.length c, .int .u8 k] W fun E W' => Made W (bs ++ nb k) E W' := by
  have C := Lib.hid (wnat15 A c bs k W hr h0 hl (by omega))
  have e : IntKind.u64.wrap (k : Int) = (k : Int) := by
    simp [IntKind.wrap, IntKind.signed, IntKind.bits]
    omega
  have E := Lib.hid e
  clear hr h0 e
  go_enter Tryz.func36, Tryz.ntmps36
  go_wp2_with (rw [E.out])
  refine C.out.mono ?_; rintro e w1 ⟨v, rfl, hN⟩
  have N := Lib.hid hN
  clear hN
  go_wp2_with fail
  go_ret
  exact ⟨_, rfl, N.out⟩
set_option maxRecDepth 100000 in
theorem takes32 (g n c : Nat) (A : Option Addr) (bs : List Int) (e : Int) (w : World) (h : Rq w g A n c bs e) (hy : By bs) (hn : n ≤ 200000) :
    Calls Tryz.prog 35 #[.pointer (some ⟨g, 0, none⟩)] w fun E W => E = .returned (.int .u32 (sR bs e 4294967295).1) ∧ Dd w g A (sR bs e 4294967295).2.1 (sR bs e 4294967295).2.2 W := by
  have S := Lib.hid (small_any g n c A bs e 4294967295 w h hy hn)
  have hb := sR_most hy e (m := 4294967295) (by decide)
  obtain ⟨⟨v, l, f⟩, hr⟩ : ∃ r, sR bs e 4294967295 = r := ⟨_, rfl⟩
  rw [hr] at S hb ⊢
  dsimp only at S hb ⊢
  obtain ⟨h1, h2⟩ := hb
  have e1 : IntKind.u32.wrap v = v := by
    simp [IntKind.wrap, IntKind.signed, IntKind.bits]
    omega
  have E := Lib.hid e1
  clear h hy hr e1
  go_enter Tryz.func35, Tryz.ntmps35
  go_wp2_with fail
  refine S.out.mono ?_; rintro e1 w1 ⟨rfl, hd⟩
  have D := Lib.hid hd
  clear hd
  go_wp2_with (rw [E.out])
  go_ret
  exact ⟨rfl, D.out⟩
set_option maxRecDepth 100000 in
theorem takes8 (g n c : Nat) (A : Option Addr) (bs : List Int) (e : Int) (w : World) (h : Rq w g A n c bs e) (hy : By bs) (hn : n ≤ 200000) :
    Calls Tryz.prog 65 #[.pointer (some ⟨g, 0, none⟩)] w fun E W => E = .returned (.int .u8 (sR bs e 255).1) ∧ Dd w g A (sR bs e 255).2.1 (sR bs e 255).2.2 W := by
  have S := Lib.hid (small_any g n c A bs e 255 w h hy hn)
  have hb := sR_most hy e (m := 255) (by decide)
  obtain ⟨⟨v, l, f⟩, hr⟩ : ∃ r, sR bs e 255 = r := ⟨_, rfl⟩
  rw [hr] at S hb ⊢
  dsimp only at S hb ⊢
  obtain ⟨h1, h2⟩ := hb
  have e1 : IntKind.u8.wrap v = v := by
    simp [IntKind.wrap, IntKind.signed, IntKind.bits]
    omega
  have E := Lib.hid e1
  clear h hy hr e1
  go_enter Tryz.func65, Tryz.ntmps65
  go_wp2_with fail
  refine S.out.mono ?_; rintro e1 w1 ⟨rfl, hd⟩
  have D := Lib.hid hd
  clear hd
  go_wp2_with (rw [E.out])
  go_ret
  exact ⟨rfl, D.out⟩
set_option maxRecDepth 100000 in
theorem takesk (g n c : Nat) (A : Option Addr) (bs : List Int) (e : Int) (w : World) (h : Rq w g A n c bs e) (hy : By bs) (hn : n ≤ 200000) :
    Calls Tryz.prog 13 #[.pointer (some ⟨g, 0, none⟩)] w fun E W => E = .returned (.int .u8 (sR bs e 255).1) ∧ Dd w g A (sR bs e 255).2.1 (sR bs e 255).2.2 W := by
  have S := Lib.hid (small_any g n c A bs e 255 w h hy hn)
  have hb := sR_most hy e (m := 255) (by decide)
  obtain ⟨⟨v, l, f⟩, hr⟩ : ∃ r, sR bs e 255 = r := ⟨_, rfl⟩
  rw [hr] at S hb ⊢
  dsimp only at S hb ⊢
  obtain ⟨h1, h2⟩ := hb
  have e1 : IntKind.u8.wrap v = v := by
    simp [IntKind.wrap, IntKind.signed, IntKind.bits]
    omega
  have E := Lib.hid e1
  clear h hy hr e1
  go_enter Tryz.func13, Tryz.ntmps13
  go_wp2_with fail
  refine S.out.mono ?_; rintro e1 w1 ⟨rfl, hd⟩
  have D := Lib.hid hd
  clear hd
  go_wp2_with (rw [E.out])
  go_ret
  exact ⟨rfl, D.out⟩
/-- A part: its three functions, over the boxes of where, how written, how read. -/
def fv (n : Nat) : Value := .func (.func n) #[] #[]
def bx (n : Nat) : Value := .pointer (some ⟨n, 0, none⟩)
def pV (a b c n : Nat) : List Value := [.func (.func a) #[] #[bx (n + 1), bx n], .func (.func b) #[] #[bx (n + 2), bx n], .func (.func c) #[] #[bx n]]
/-- What its boxes hold. -/
structure Bxs (W : World) (n p u k : Nat) : Prop where
  p : W.cell? ⟨n, 0, none⟩ = some (fv p)
  u : W.cell? ⟨n + 1, 0, none⟩ = some (fv u)
  k : W.cell? ⟨n + 2, 0, none⟩ = some (fv k)
theorem Bxs.below {W W' : World} {n p u k B : Nat} (h : Bxs W n p u k) (q : Below B W W') (hB : n + 2 < B) : Bxs W' n p u k :=
  ⟨by rw [← h.p]; unfold World.cell?; rw [q.block n (by omega)], by rw [← h.u]; unfold World.cell?; rw [q.block (n + 1) (by omega)], by rw [← h.k]; unfold World.cell?; rw [q.block (n + 2) hB]⟩
def paV : Option (Nat × Nat × Nat × Nat) → List Value
  | none => [.nilFunc, .nilFunc, .nilFunc]
  | some (a, b, c, n) => pV a b c n
def EPa : Elt (Option (Nat × Nat × Nat × Nat)) := ⟨paV, 3, by decide, fun x => by cases x <;> rfl, fun x u hu => by
  rcases x with _ | ⟨a, b, c, n⟩
  · simp only [paV, List.mem_cons, List.not_mem_nil, or_false] at hu
    rcases hu with rfl | rfl | rfl <;> rfl
  · simp only [paV, pV, List.mem_cons, List.not_mem_nil, or_false] at hu
    rcases hu with rfl | rfl | rfl <;> rfl⟩
theorem TPa : EltT Tryz.prog EPa 51 57 := ⟨Tryz.underlying51, ⟨_, Tryz.underlying57⟩, ⟨.agg (EPa.cells none).toArray, 24, by kernel_rfl, rfl, by decide⟩⟩
theorem TPr : EltR Tryz.prog EPa 57 := ⟨⟨_, Tryz.underlying57⟩, by kernel_rfl⟩
theorem cell_at {w W : World} {n : Nat} {v : Value} (h : w.cell? ⟨n, 0, none⟩ = some v) (q : Below w.heap.size w W) (hn : n < w.heap.size) : W.cell? ⟨n, 0, none⟩ = some v := by rw [← h]; unfold World.cell?; rw [q.block n hn]
theorem cell_new (w : World) (v : Value) (t : TypeId) : (w.alloc (.cells #[v] t)).cell? ⟨w.heap.size, 0, none⟩ = some v := by rw [cell_of_row _ _ _ _ _ _ (heap_alloc_new w _)]; rfl
/-- Three boxes and the result's. -/
theorem four_boxes (p u k : Value) (t1 t2 t3 : TypeId) (w : World) (a b c : Nat) : EPa.Bx 57 ((((w.alloc (.cells #[p] t1)).alloc (.cells #[u] t2)).alloc (.cells #[k] t3)).alloc (.cells #[.nilFunc, .nilFunc, .nilFunc] 57)) (w.heap.size + 1 + 1 + 1) none ∧
    Below w.heap.size w (((((w.alloc (.cells #[p] t1)).alloc (.cells #[u] t2)).alloc (.cells #[k] t3)).alloc (.cells #[.nilFunc, .nilFunc, .nilFunc] 57)).setRow (w.heap.size + 1 + 1 + 1) (EPa.cells (some (a, b, c, w.heap.size))).toArray) ∧ (((((w.alloc (.cells #[p] t1)).alloc (.cells #[u] t2)).alloc (.cells #[k] t3)).alloc (.cells #[.nilFunc, .nilFunc, .nilFunc] 57)).setRow (w.heap.size + 1 + 1 + 1) (EPa.cells (some (a, b, c, w.heap.size))).toArray).heap.size = w.heap.size + 4 ∧
    EPa.Bx 57 (((((w.alloc (.cells #[p] t1)).alloc (.cells #[u] t2)).alloc (.cells #[k] t3)).alloc (.cells #[.nilFunc, .nilFunc, .nilFunc] 57)).setRow (w.heap.size + 1 + 1 + 1) (EPa.cells (some (a, b, c, w.heap.size))).toArray) (w.heap.size + 1 + 1 + 1) (some (a, b, c, w.heap.size)) ∧
    (((((w.alloc (.cells #[p] t1)).alloc (.cells #[u] t2)).alloc (.cells #[k] t3)).alloc (.cells #[.nilFunc, .nilFunc, .nilFunc] 57)).setRow (w.heap.size + 1 + 1 + 1) (EPa.cells (some (a, b, c, w.heap.size))).toArray).cell? ⟨w.heap.size, 0, none⟩ = some p ∧ (((((w.alloc (.cells #[p] t1)).alloc (.cells #[u] t2)).alloc (.cells #[k] t3)).alloc (.cells #[.nilFunc, .nilFunc, .nilFunc] 57)).setRow (w.heap.size + 1 + 1 + 1) (EPa.cells (some (a, b, c, w.heap.size))).toArray).cell? ⟨w.heap.size + 1, 0, none⟩ = some u ∧ (((((w.alloc (.cells #[p] t1)).alloc (.cells #[u] t2)).alloc (.cells #[k] t3)).alloc (.cells #[.nilFunc, .nilFunc, .nilFunc] 57)).setRow (w.heap.size + 1 + 1 + 1) (EPa.cells (some (a, b, c, w.heap.size))).toArray).cell? ⟨w.heap.size + 2, 0, none⟩ = some k := by
  obtain ⟨w1, h1⟩ : ∃ W, w.alloc (.cells #[p] t1) = W := ⟨_, rfl⟩
  obtain ⟨w2, h2⟩ : ∃ W, w1.alloc (.cells #[u] t2) = W := ⟨_, rfl⟩
  obtain ⟨w3, h3⟩ : ∃ W, w2.alloc (.cells #[k] t3) = W := ⟨_, rfl⟩
  obtain ⟨w4, h4⟩ : ∃ W, w3.alloc (.cells #[.nilFunc, .nilFunc, .nilFunc] 57) = W := ⟨_, rfl⟩
  have s1 : w1.heap.size = w.heap.size + 1 := by rw [← h1]; simp
  have s2 : w2.heap.size = w1.heap.size + 1 := by rw [← h2]; simp
  have s3 : w3.heap.size = w2.heap.size + 1 := by rw [← h3]; simp
  have s4 : w4.heap.size = w3.heap.size + 1 := by rw [← h4]; simp
  have e : w3.heap.size = w.heap.size + 1 + 1 + 1 := by omega
  have b1 : Below w.heap.size w w1 := by rw [← h1]; exact below_new w _
  have b2 : Below w1.heap.size w1 w2 := by rw [← h2]; exact below_new w1 _
  have b3 : Below w2.heap.size w2 w3 := by rw [← h3]; exact below_new w2 _
  have b4 : Below w3.heap.size w3 w4 := by rw [← h4]; exact below_new w3 _
  have x4 : EPa.Bx 57 w4 w3.heap.size none := by rw [← h4]; exact gbx_new w3 none
  have b5 : Below w3.heap.size w3 (w4.setRow w3.heap.size (EPa.cells (some (a, b, c, w.heap.size))).toArray) := below_row0 b4 (Nat.le_refl _)
  have c1 : w1.cell? ⟨w.heap.size, 0, none⟩ = some p := by rw [← h1]; exact cell_new w p t1
  have c2 : w2.cell? ⟨w1.heap.size, 0, none⟩ = some u := by rw [← h2]; exact cell_new w1 u t2
  have c3 : w3.cell? ⟨w2.heap.size, 0, none⟩ = some k := by rw [← h3]; exact cell_new w2 k t3
  rw [h1, h2, h3, h4, ← e]
  refine ⟨x4, b1.trans ((b2.trans ((b3.trans (b5.mono (by omega))).mono (by omega))).mono (by omega)), by simp; omega, gbx_set x4, ?_, ?_, ?_⟩
  · exact cell_at (cell_at (cell_at c1 b2 (by omega)) b3 (by omega)) b5 (by omega)
  · rw [← s1]; exact cell_at (cell_at c2 b3 (by omega)) b5 (by omega)
  · rw [show w.heap.size + 2 = w2.heap.size by omega]; exact cell_at c3 b5 (by omega)
set_option maxRecDepth 100000 in
theorem at0 (p u k : Nat) (w : World) : Calls Tryz.prog 46 #[fv p, fv u, fv k] w fun e w' => e = .returned (.agg (EPa.cells (some (84, 85, 86, w.heap.size))).toArray) ∧ Below w.heap.size w w' ∧ w'.heap.size = w.heap.size + 4 ∧ Bxs w' w.heap.size p u k := by
  have FB := Lib.hid fun t1 t2 t3 => four_boxes (fv p) (fv u) (fv k) t1 t2 t3 w 84 85 86
  have BX := Lib.hid fun (W : World) (h1 : W.cell? ⟨w.heap.size, 0, none⟩ = some (fv p)) (h2 : W.cell? ⟨w.heap.size + 1, 0, none⟩ = some (fv u)) (h3 : W.cell? ⟨w.heap.size + 2, 0, none⟩ = some (fv k)) => (show Bxs W w.heap.size p u k from ⟨h1, h2, h3⟩)
  unfold fv at FB BX ⊢
  go_enter Tryz.func46, Tryz.ntmps46
  go_wp2_with (refine rwl_store TPr (some (84, 85, 86, w.heap.size)) (w.heap.size + 1 + 1 + 1) (FB.out _ _ _).1 rfl rfl ?_)
  exact bodyPost_ret (rret1 TPr rfl _ _ (w.heap.size + 1 + 1 + 1) rfl (FB.out _ _ _).2.2.2.1) rfl ⟨rfl, (FB.out _ _ _).2.1, (FB.out _ _ _).2.2.1, BX.out _ (FB.out _ _ _).2.2.2.2.1 (FB.out _ _ _).2.2.2.2.2.1 (FB.out _ _ _).2.2.2.2.2.2⟩
set_option maxRecDepth 100000 in
theorem at1 (p u k : Nat) (w : World) : Calls Tryz.prog 49 #[fv p, fv u, fv k] w fun e w' => e = .returned (.agg (EPa.cells (some (87, 88, 89, w.heap.size))).toArray) ∧ Below w.heap.size w w' ∧ w'.heap.size = w.heap.size + 4 ∧ Bxs w' w.heap.size p u k := by
  have FB := Lib.hid fun t1 t2 t3 => four_boxes (fv p) (fv u) (fv k) t1 t2 t3 w 87 88 89
  have BX := Lib.hid fun (W : World) (h1 : W.cell? ⟨w.heap.size, 0, none⟩ = some (fv p)) (h2 : W.cell? ⟨w.heap.size + 1, 0, none⟩ = some (fv u)) (h3 : W.cell? ⟨w.heap.size + 2, 0, none⟩ = some (fv k)) => (show Bxs W w.heap.size p u k from ⟨h1, h2, h3⟩)
  unfold fv at FB BX ⊢
  go_enter Tryz.func49, Tryz.ntmps49
  go_wp2_with (refine rwl_store TPr (some (87, 88, 89, w.heap.size)) (w.heap.size + 1 + 1 + 1) (FB.out _ _ _).1 rfl rfl ?_)
  exact bodyPost_ret (rret1 TPr rfl _ _ (w.heap.size + 1 + 1 + 1) rfl (FB.out _ _ _).2.2.2.1) rfl ⟨rfl, (FB.out _ _ _).2.1, (FB.out _ _ _).2.2.1, BX.out _ (FB.out _ _ _).2.2.2.2.1 (FB.out _ _ _).2.2.2.2.2.1 (FB.out _ _ _).2.2.2.2.2.2⟩
set_option maxRecDepth 100000 in
theorem at2 (p u k : Nat) (w : World) : Calls Tryz.prog 51 #[fv p, fv u, fv k] w fun e w' => e = .returned (.agg (EPa.cells (some (90, 91, 92, w.heap.size))).toArray) ∧ Below w.heap.size w w' ∧ w'.heap.size = w.heap.size + 4 ∧ Bxs w' w.heap.size p u k := by
  have FB := Lib.hid fun t1 t2 t3 => four_boxes (fv p) (fv u) (fv k) t1 t2 t3 w 90 91 92
  have BX := Lib.hid fun (W : World) (h1 : W.cell? ⟨w.heap.size, 0, none⟩ = some (fv p)) (h2 : W.cell? ⟨w.heap.size + 1, 0, none⟩ = some (fv u)) (h3 : W.cell? ⟨w.heap.size + 2, 0, none⟩ = some (fv k)) => (show Bxs W w.heap.size p u k from ⟨h1, h2, h3⟩)
  unfold fv at FB BX ⊢
  go_enter Tryz.func51, Tryz.ntmps51
  go_wp2_with (refine rwl_store TPr (some (90, 91, 92, w.heap.size)) (w.heap.size + 1 + 1 + 1) (FB.out _ _ _).1 rfl rfl ?_)
  exact bodyPost_ret (rret1 TPr rfl _ _ (w.heap.size + 1 + 1 + 1) rfl (FB.out _ _ _).2.2.2.1) rfl ⟨rfl, (FB.out _ _ _).2.1, (FB.out _ _ _).2.2.1, BX.out _ (FB.out _ _ _).2.2.2.2.1 (FB.out _ _ _).2.2.2.2.2.1 (FB.out _ _ _).2.2.2.2.2.2⟩
set_option maxRecDepth 100000 in
theorem at3 (p u k : Nat) (w : World) : Calls Tryz.prog 53 #[fv p, fv u, fv k] w fun e w' => e = .returned (.agg (EPa.cells (some (93, 94, 95, w.heap.size))).toArray) ∧ Below w.heap.size w w' ∧ w'.heap.size = w.heap.size + 4 ∧ Bxs w' w.heap.size p u k := by
  have FB := Lib.hid fun t1 t2 t3 => four_boxes (fv p) (fv u) (fv k) t1 t2 t3 w 93 94 95
  have BX := Lib.hid fun (W : World) (h1 : W.cell? ⟨w.heap.size, 0, none⟩ = some (fv p)) (h2 : W.cell? ⟨w.heap.size + 1, 0, none⟩ = some (fv u)) (h3 : W.cell? ⟨w.heap.size + 2, 0, none⟩ = some (fv k)) => (show Bxs W w.heap.size p u k from ⟨h1, h2, h3⟩)
  unfold fv at FB BX ⊢
  go_enter Tryz.func53, Tryz.ntmps53
  go_wp2_with (refine rwl_store TPr (some (93, 94, 95, w.heap.size)) (w.heap.size + 1 + 1 + 1) (FB.out _ _ _).1 rfl rfl ?_)
  exact bodyPost_ret (rret1 TPr rfl _ _ (w.heap.size + 1 + 1 + 1) rfl (FB.out _ _ _).2.2.2.1) rfl ⟨rfl, (FB.out _ _ _).2.1, (FB.out _ _ _).2.2.1, BX.out _ (FB.out _ _ _).2.2.2.2.1 (FB.out _ _ _).2.2.2.2.2.1 (FB.out _ _ _).2.2.2.2.2.2⟩
set_option maxRecDepth 100000 in
theorem at4 (p u k : Nat) (w : World) : Calls Tryz.prog 57 #[fv p, fv u, fv k] w fun e w' => e = .returned (.agg (EPa.cells (some (99, 100, 101, w.heap.size))).toArray) ∧ Below w.heap.size w w' ∧ w'.heap.size = w.heap.size + 4 ∧ Bxs w' w.heap.size p u k := by
  have FB := Lib.hid fun t1 t2 t3 => four_boxes (fv p) (fv u) (fv k) t1 t2 t3 w 99 100 101
  have BX := Lib.hid fun (W : World) (h1 : W.cell? ⟨w.heap.size, 0, none⟩ = some (fv p)) (h2 : W.cell? ⟨w.heap.size + 1, 0, none⟩ = some (fv u)) (h3 : W.cell? ⟨w.heap.size + 2, 0, none⟩ = some (fv k)) => (show Bxs W w.heap.size p u k from ⟨h1, h2, h3⟩)
  unfold fv at FB BX ⊢
  go_enter Tryz.func57, Tryz.ntmps57
  go_wp2_with (refine rwl_store TPr (some (99, 100, 101, w.heap.size)) (w.heap.size + 1 + 1 + 1) (FB.out _ _ _).1 rfl rfl ?_)
  exact bodyPost_ret (rret1 TPr rfl _ _ (w.heap.size + 1 + 1 + 1) rfl (FB.out _ _ _).2.2.2.1) rfl ⟨rfl, (FB.out _ _ _).2.1, (FB.out _ _ _).2.2.1, BX.out _ (FB.out _ _ _).2.2.2.2.1 (FB.out _ _ _).2.2.2.2.2.1 (FB.out _ _ _).2.2.2.2.2.2⟩
set_option maxRecDepth 100000 in
theorem at5 (p u k : Nat) (w : World) : Calls Tryz.prog 62 #[fv p, fv u, fv k] w fun e w' => e = .returned (.agg (EPa.cells (some (102, 103, 104, w.heap.size))).toArray) ∧ Below w.heap.size w w' ∧ w'.heap.size = w.heap.size + 4 ∧ Bxs w' w.heap.size p u k := by
  have FB := Lib.hid fun t1 t2 t3 => four_boxes (fv p) (fv u) (fv k) t1 t2 t3 w 102 103 104
  have BX := Lib.hid fun (W : World) (h1 : W.cell? ⟨w.heap.size, 0, none⟩ = some (fv p)) (h2 : W.cell? ⟨w.heap.size + 1, 0, none⟩ = some (fv u)) (h3 : W.cell? ⟨w.heap.size + 2, 0, none⟩ = some (fv k)) => (show Bxs W w.heap.size p u k from ⟨h1, h2, h3⟩)
  unfold fv at FB BX ⊢
  go_enter Tryz.func62, Tryz.ntmps62
  go_wp2_with (refine rwl_store TPr (some (102, 103, 104, w.heap.size)) (w.heap.size + 1 + 1 + 1) (FB.out _ _ _).1 rfl rfl ?_)
  exact bodyPost_ret (rret1 TPr rfl _ _ (w.heap.size + 1 + 1 + 1) rfl (FB.out _ _ _).2.2.2.1) rfl ⟨rfl, (FB.out _ _ _).2.1, (FB.out _ _ _).2.2.1, BX.out _ (FB.out _ _ _).2.2.2.2.1 (FB.out _ _ _).2.2.2.2.2.1 (FB.out _ _ _).2.2.2.2.2.2⟩
end Go.Proofs.YtbmlpokkojhhjaaGreat.Wz
