/- The program's sealed: the comparison; the bids sorted in a copy. -/
import Derived.Test.YtcjianjnedbjkaaAh
import Derived.Test.YtcjianjnedbjkaaAn
import Derived.Test.YtcjianjnedbjkaaAc
namespace Go.Proofs.Ytcjianjnedbjkaa
open Go.RowKit Go.Shelf
set_option linter.unusedVariables false
set_option linter.unusedSimpArgs false

theorem nan_i8 (x : Int) (w : World) : Calls Try.prog 27 #[.int .i64 x] w fun e w' => e = .returned (.bool false) ∧ w' = w := by
  go_enter Try.func27, Try.ntmps27
  go_wp2
  go_ret
  exact ⟨rfl, rfl⟩
theorem cmp_i8 (x y : Int) (w : World) : Calls Try.prog 25 #[.int .i64 x, .int .i64 y] w fun e w' => e = .returned (.int .i64 (if x < y then -1 else if y < x then 1 else 0)) ∧ w' = w := by
  go_enter Try.func25, Try.ntmps25
  by_cases h1 : x < y
  · rw [if_pos h1]
    go_wp2_with (go_at_call 27; refine (nan_i8 _ _).mono ?_; rintro e w1 ⟨rfl, rfl⟩)
    go_ret
    exact ⟨rfl, rfl⟩
  · rw [if_neg h1]
    by_cases h2 : y < x
    · rw [if_pos h2]
      go_wp2_with (go_at_call 27; refine (nan_i8 _ _).mono ?_; rintro e w1 ⟨rfl, rfl⟩)
      go_ret
      exact ⟨rfl, rfl⟩
    · rw [if_neg h2]
      go_wp2_with (go_at_call 27; refine (nan_i8 _ _).mono ?_; rintro e w1 ⟨rfl, rfl⟩)
      go_ret
      exact ⟨rfl, rfl⟩
def cmC (b : Bool) (x y : Or) : Int := if btr b x.pr y.pr = true then -1 else if btr b y.pr x.pr = true then 1 else 0
theorem cm_ky {b : Bool} {l : List Or} {x y : Int} : cmo8 (kyP b l) x y = cmC b (pko8 l x) (pko8 l y) := by
  unfold cmo8 cmC
  by_cases h1 : kyP b l y < kyP b l x
  · rw [if_pos h1, if_pos (ky_btr.1 h1)]
  · rw [if_neg h1, if_neg (fun c => h1 (ky_btr.2 c))]
    by_cases h2 : kyP b l x < kyP b l y
    · rw [if_pos h2, if_pos (ky_btr.1 h2)]
    · rw [if_neg h2, if_neg (fun c => h2 (ky_btr.2 c))]
set_option maxRecDepth 100000 in
set_option maxHeartbeats 2000000 in
theorem less_o8 (b : Bool) (x y : Or) (g : Nat) (W : World) (hq : W.cell? ⟨g, 0, none⟩ = some (.bool b)) :
    Calls Try.prog 24 (#[.agg (EO.cells x).toArray, .agg (EO.cells y).toArray] ++ #[.pointer (some ⟨g, 0, none⟩)]) W fun e w' => e = .returned (.int .i64 (cmC b x y)) ∧ Below W.heap.size W w' := by
  show Calls Try.prog 24 #[.agg (Or.cells x).toArray, .agg (Or.cells y).toArray, .pointer (some ⟨g, 0, none⟩)] W _
  have hg : g < W.heap.size := World.block_lt_of_cell? W _ hq
  unfold Or.cells
  obtain ⟨nu, ac, bu, pr, le⟩ := x
  obtain ⟨nu', ac', bu', pr', le'⟩ := y
  obtain ⟨c, hc⟩ : ∃ c, cmC b ⟨nu, ac, bu, pr, le⟩ ⟨nu', ac', bu', pr', le'⟩ = c := ⟨_, rfl⟩
  rw [hc]
  dsimp only
  have B2 : Hid (Below W.heap.size W ((W.alloc (.cells [.int .u64 nu, .int .u32 ac, .bool bu, .int .i64 pr, .int .i64 le].toArray 31)).alloc (.cells [.int .u64 nu', .int .u32 ac', .bool bu', .int .i64 pr', .int .i64 le'].toArray 31))) := Lib.hid (((Below.refl _ _).alloc (Nat.le_refl _) _).alloc (by simp) _)
  cases b
  · have CC : Hid (∀ w, Calls Try.prog 25 #[.int .i64 pr, .int .i64 pr'] w fun e w' => e = .returned (.int .i64 c) ∧ w' = w) := Lib.hid fun w => by
      have := cmp_i8 pr pr' w
      rw [← hc]
      simpa [cmC, btr] using this
    clear hc
    go_enter Try.func24, Try.ntmps24
    go_wp2_with fail
    refine (CC.out _).mono ?_; rintro e w1 ⟨rfl, rfl⟩
    go_wp2_with fail
    go_ret
    exact ⟨rfl, B2.out⟩
  · have CC : Hid (∀ w, Calls Try.prog 25 #[.int .i64 pr', .int .i64 pr] w fun e w' => e = .returned (.int .i64 c) ∧ w' = w) := Lib.hid fun w => by
      have := cmp_i8 pr' pr w
      rw [← hc]
      simpa [cmC, btr] using this
    clear hc
    go_enter Try.func24, Try.ntmps24
    go_wp2_with fail
    refine (CC.out _).mono ?_; rintro e w1 ⟨rfl, rfl⟩
    go_wp2_with fail
    go_ret
    exact ⟨rfl, B2.out⟩
theorem cp_o8 (w : World) (blk cap N g : Nat) (b : Bool) (l : List Or) (hg : g ≠ blk) (hq : w.cell? ⟨g, 0, none⟩ = some (.bool b)) :
    Cpo8 w blk cap N l (kyP b l) l.length 24 #[.pointer (some ⟨g, 0, none⟩)] := by
  intro f W hO x y _ _ _ _
  rw [cm_ky]
  refine less_o8 b _ _ g W ?_
  rw [← hq]
  exact World.cell?_of_block (hO.fr.at' g (World.block_lt_of_cell? w _ hq) hg)
/-- No element: nothing is done. -/
theorem insert_nil8 (v f : Value) (w : World) : Calls Try.prog 28 #[v, .int .i64 0, .int .i64 0, f] w fun e w' => e = .returned (.tuple #[]) ∧ w' = w := by
  go_enter Try.func28, Try.ntmps28
  go_wp2
  refine wp_loop_rounds 1 ?_
  rw [rounds_succ]
  go_wp2
  go_end0
  exact ⟨rfl, rfl⟩
theorem stable_nil8 (v f : Value) (w : World) : Calls Try.prog 26 #[v, .int .i64 0, f] w fun e w' => e = .returned (.tuple #[]) ∧ w' = w := by
  go_enter Try.func26, Try.ntmps26
  go_wp2_with fail
  refine wp_loop_rounds 1 ?_
  rw [rounds_succ]
  go_wp2_with fail
  refine (insert_nil8 _ _ _).mono ?_; rintro e w1 ⟨rfl, rfl⟩
  go_wp2_with fail
  refine wp_loop_rounds 1 ?_
  rw [rounds_succ]
  go_wp2_with fail
  go_end0
  exact ⟨rfl, rfl⟩
theorem sort_nil8 (A : Option Addr) (c : Nat) (f : Value) (w : World) : Calls Try.prog 23 #[.slice A 0 c, f] w fun e w' => e = .returned (.tuple #[]) ∧ w' = w := by
  go_enter Try.func23, Try.ntmps23
  go_wp2_with fail
  refine (stable_nil8 _ _ _).mono ?_; rintro e w1 ⟨rfl, rfl⟩
  go_wp2_with fail
  go_end0
  exact ⟨rfl, rfl⟩
theorem below_fr8 {S : Nat → Prop} {B : Nat} {w W W' : World} (h : Below B w W) (f : Fr S W W') (hS : ∀ k, S k → B ≤ k) (hB : B ≤ W.heap.size) : Below B w W' :=
  h.trans ⟨f.b0.os, f.b0.tape, f.b0.output, f.b0.size, fun k hk => f.at' k (by omega) (fun s => by have := hS k s; omega)⟩
theorem gown_up8 {α : Type} {E : Elt α} {te : TypeId} {w : World} {B B' : Nat} {v : Value} {l : List α} (h : E.Own te w B v l) (hv : ∀ k, v.ownBlock = some k → B' ≤ k) : E.Own te w B' v l := by
  refine ⟨h.1, ?_⟩
  rcases h.2 with q | ⟨b, c, cur, e, hb, r⟩
  · exact .inl q
  · exact .inr ⟨b, c, cur, e, hv b (by rw [e]; rfl), r⟩
theorem rw_id8 (l : List Or) : rwo8 l (fun t => (t : Int)) l.length = l := by
  refine List.ext_getElem? fun t => ?_
  rcases Nat.lt_or_ge t l.length with h | h
  · rw [rw_ato8 l _ h, pk_at (List.getElem?_eq_getElem h), List.getElem?_eq_getElem h]
  · rw [List.getElem?_eq_none (by rw [rw_leno8]; exact h), List.getElem?_eq_none h]
set_option maxRecDepth 100000 in
set_option maxHeartbeats 2000000 in
theorem sorted_o8 (b : Bool) (A : Option Addr) (n c : Nat) (l : List Or) (w : World) (h : EO.Rd w A n l) (hn : n ≤ 1000) (h0 : A = none → c = 0) :
    Calls Try.prog 16 #[.bool b, .slice A n c] w fun e w' => ∃ v, e = .returned v ∧ EO.Own 31 w' w.heap.size v (sortO b l) ∧ Below w.heap.size w w' := by
  have B1 := Lib.hid (below_new w (.cells #[.bool b] 4))
  obtain ⟨w1, hw1⟩ : ∃ w1, w.alloc (.cells #[.bool b] 4) = w1 := ⟨_, rfl⟩
  have hs1 : w1.heap.size = w.heap.size + 1 := by rw [← hw1]; simp
  have hq1 : w1.cell? ⟨w.heap.size, 0, none⟩ = some (.bool b) := by rw [← hw1]; simp
  rw [hw1] at B1
  have R1 := Lib.hid (grd_below h B1.out (Nat.le_refl _))
  have HW := Lib.hid hw1
  have S1 := Lib.hid hs1
  have Q1 := Lib.hid hq1
  have HL := Lib.hid h.1
  clear h hw1 hs1 hq1
  go_enter Try.func16, Try.ntmps16
  go_wp2_with (simp only [HW.out])
  try rw [HW.out]
  refine (clone_o8 A n c l _ R1.out hn h0).mono ?_; rintro e w2 ⟨v, rfl, o2, b2⟩
  have B2 := Lib.hid (B1.out.trans (b2.mono (by have := S1.out; omega)))
  have Q2 := Lib.hid (cell_below Q1.out b2 (Nat.le_refl _))
  have Z2 := Lib.hid b2.size
  have O2 := Lib.hid o2
  clear b2 o2
  obtain ⟨A2, c2, rfl, _⟩ := gown_form O2.out
  cases l with
  | nil =>
    go_wp2_with fail
    refine (sort_nil8 _ _ _ _).mono ?_; rintro e w3 ⟨rfl, rfl⟩
    go_wp2_with fail
    go_ret
    exact ⟨_, rfl, gown_low O2.out (by have := S1.out; omega), B2.out⟩
  | cons x r =>
    obtain ⟨blk, c3, eb⟩ := gown_slot O2.out (by simp)
    cases eb
    have hb := gown_lt O2.out (k := blk) rfl
    have ON : Hid (Ono8 w2 blk c2 (x :: r).length (x :: r) (fun t => (t : Int)) w2) := Lib.hid ⟨by rw [rw_id8]; exact gown_low O2.out (Nat.zero_le _), Fr.refl _ _⟩
    have CP := Lib.hid (cp_o8 w2 blk c2 (x :: r).length w.heap.size b (x :: r) (by have := S1.out; omega) Q2.out)
    have eg : ∀ args w, (callFunc 24 args).run Try.prog w = .ok (.enter 24 args) w := fun args w => by go_simp
    have SO := Lib.hid (sort_o8 w2 blk (x :: r).length c2 (x :: r).length (x :: r) (by have := HL.out; omega) (kyP b (x :: r)) _ _ eg CP.out _ w2 ON.out (Nat.le_refl _) (fun t _ => rfl))
    clear eg
    go_wp2_with fail
    refine SO.out.mono ?_; rintro e w3 ⟨rfl, g, hO, hg⟩
    have e3 := row_sort hg
    have o3 := hO.own
    rw [e3] at o3
    have O3 := Lib.hid (gown_up8 o3 (B' := w.heap.size) (fun k hk => by injection hk with hk; have hk : blk = k := hk; have := S1.out; omega))
    have B3 := Lib.hid (below_fr8 B2.out hO.fr (fun k hk => by subst hk; have := S1.out; omega) B2.out.size)
    clear hO e3 o3 hg
    go_wp2_with fail
    go_ret
    exact ⟨_, rfl, O3.out, B3.out⟩
end Go.Proofs.Ytcjianjnedbjkaa
