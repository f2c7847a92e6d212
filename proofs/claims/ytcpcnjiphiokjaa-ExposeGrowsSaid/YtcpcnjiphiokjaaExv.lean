/- ExposeApart, walked. -/
import Derived.Test.YtcpcnjiphiokjaaExk
namespace Go.Proofs.Ytcpcnjiphiokjaa
open Go.RowKit Go.Shelf
set_option linter.unusedVariables false
set_option linter.unusedSimpArgs false

theorem nd_cells (x : Nd) : (EN.cells x).toArray = #[.int .i64 x.m, .int .i64 x.w, .int .i64 x.u] := rfl
theorem posK_bd {x : Sk} (h : stkB x = true) : 0 ≤ posK x ∧ posK x ≤ 1100000000000000 := by
  have := mkK_bd h
  unfold posK
  omega
theorem sumP_bd {l : List Sk} (h : StksB l) : 0 ≤ sumK posK l ∧ sumK posK l ≤ 17600000000000000 := by
  have h1 := sumK_bd (f := posK) (L := 0) (B := 1100000000000000) fun x hx => posK_bd (h.2 x hx)
  have := h.1
  omega
theorem rd_one11 {W : World} {b o : Nat} {x : Sk} (h : W.rangeAt b o (EK.cells x)) : EK.Rd W (some ⟨b, o, none⟩) 1 [x] :=
  ⟨rfl, (fun h => by cases h), fun _ a e => by cases e; exact ⟨rfl, by rw [gflat_one]; exact h⟩⟩
set_option maxRecDepth 100000 in
set_option maxHeartbeats 4000000 in
theorem apart11_all (A : Option Addr) (n c : Nat) (l : List Sk) (w : World) (h : EK.Rd w A n l) (hok : ∀ x, x ∈ l → x.ok ∧ x.In w) (hn : n ≤ maxLen) (h0 : A = none → c = 0) (hc : n ≤ c) (hx : c ≤ maxLen) :
    Calls Try.prog 7 #[.slice A n c] w fun e w' => e = .returned (.bool true) ∧ Below w.heap.size w w' := by
  have KN := Lib.hid fun (U : World) (qU : Below w.heap.size w U) => (known11 U).mono (fun e W h => (⟨h.1, qU.trans (h.2.mono qU.size)⟩ : e = .returned (.bool true) ∧ Below w.heap.size w W))
  have LG := Lib.hid (large11 A n c l w h hok hn)
  have ND := Lib.hid (need11 A n c l w h hok hn)
  have HR := Lib.hid fun (W : World) (q : Below w.heap.size w W) => (show EK.Rd W A n l from grd_below h q (Nat.le_refl _))
  have HI := Lib.hid fun (W : World) (q : Below w.heap.size w W) (x : Sk) (hx : x ∈ l) => (show x.ok ∧ x.In W from ⟨(hok x hx).1, grd_below (hok x hx).2 q (Nat.le_refl _)⟩)
  have HL := Lib.hid h.1
  unfold maxLen at hn hx
  generalize lgB l = lb at *
  cases lb
  case true =>
    clear h hok
    go_enter Try.func7, Try.ntmps7
    go_wp2_with fail
    refine LG.out.mono ?_; rintro e w2 ⟨rfl, rfl⟩
    go_wp2_with fail
    refine (KN.out _ (Below.refl _ _)).mono ?_; rintro e w3 ⟨rfl, q3⟩
    have Q3 := Lib.hid q3
    clear q3
    go_wp2_with fail
    go_ret
    exact ⟨rfl, Q3.out⟩
  by_cases c1 : neE l = 0
  case neg =>
    have c2 : (neE l != 0) = true := bne_iff_ne.2 c1
    rw [ne_bad c1, nd_cells] at ND
    have c3 : neE l ≠ 0 := c1
    generalize neE l = me at *
    clear h hok c1
    go_enter Try.func7, Try.ntmps7
    go_wp2_with fail
    refine LG.out.mono ?_; rintro e w2 ⟨rfl, rfl⟩
    go_wp2_with fail
    refine ND.out.mono ?_; rintro e w2 ⟨rfl, q2⟩
    have Q2 := Lib.hid (q2.trans ((below_new w2 (.cells #[.int .i64 zeroNd.m, .int .i64 zeroNd.w, .int .i64 zeroNd.u] 35)).mono q2.size))
    clear q2
    go_wp2_with fail
    refine (KN.out _ Q2.out).mono ?_; rintro e w3 ⟨rfl, q3⟩
    have Q3 := Lib.hid q3
    clear q3
    go_wp2_with fail
    go_ret
    exact ⟨rfl, Q3.out⟩
  obtain ⟨k1, k2, k3⟩ := ne_ok c1
  have ONE := Lib.hid fun (x : Sk) (hx : x ∈ l) => one_ne c1 hx
  have SB := Lib.hid k1
  have hn16 : n ≤ 16 := by have := k1.1; have := h.1; omega
  rw [c1, k3, nd_cells] at ND
  dsimp only at ND
  have PS := Lib.hid (pos_sum l)
  clear h hok c1 k1 k2 k3
  generalize marN (lgK l) = mn at *
  go_enter Try.func7, Try.ntmps7
  go_wp2_with fail
  refine LG.out.mono ?_; rintro e w2 ⟨rfl, rfl⟩
  go_wp2_with fail
  refine ND.out.mono ?_; rintro e w2 ⟨rfl, q2⟩
  obtain ⟨W3, hW3⟩ : ∃ W, w2.alloc (.cells #[.int .i64 mn, .int .i64 (sumK wsK l), .int .i64 (max (sumK mkK l) 0)] 35) = W := ⟨_, rfl⟩
  have x3 : EN.Bx 35 W3 w2.heap.size ⟨mn, sumK wsK l, max (sumK mkK l) 0⟩ := by rw [← hW3]; exact gbx_new (E := EN) w2 ⟨mn, sumK wsK l, max (sumK mkK l) 0⟩
  have Q3 := Lib.hid (q2.trans ((show Below w2.heap.size w2 W3 by rw [← hW3]; exact below_new w2 _).mono q2.size))
  have HX := Lib.hid fun (W : World) (q : Below W3.heap.size W3 W) => (show EN.Bx 35 W w2.heap.size ⟨mn, sumK wsK l, max (sumK mkK l) 0⟩ from gbx_below x3 q)
  have HW3 := Lib.hid hW3
  clear q2 x3 hW3
  go_wp2_with (rw [HW3.out])
  go_loopw [5, 6, 23] (fun a b i wr => ∃ (k : Nat) (W U : Int), k ≤ n ∧ i = .int .i64 k ∧ a = .int .i64 W ∧ b = .int .i64 U ∧ W = sumK wsK (l.take k) ∧ U = sumK posK (l.take k) ∧ Below W3.heap.size W3 wr) (fun _ _ i _ => n - (intOf i).toNat)
  case atStart => exact ⟨0, 0, 0, Nat.zero_le _, rfl, rfl, rfl, rfl, rfl, Below.refl _ _⟩
  case round =>
    obtain ⟨k, W, U, hk, rfl, rfl, rfl, hW, hU, hb⟩ := hrel
    have BB := Lib.hid hb
    have EW := Lib.hid hW
    have EU := Lib.hid hU
    have wb := sumW_bd (SB.out.take k)
    have ub := sumP_bd (SB.out.take k)
    rw [← hW] at wb
    rw [← hU] at ub
    obtain ⟨z1, z2⟩ := wb
    obtain ⟨z3, z4⟩ := ub
    clear hW hU hb
    by_cases hlt : k < n
    case neg =>
      obtain rfl : k = n := by omega
      have T : Hid (l.take k = l) := Lib.hid (List.take_of_length_le (by rw [HL.out]; exact Nat.le_refl _))
      have x1 : wr.cell? ⟨w2.heap.size, 1, none⟩ = some (.int .i64 W) := by
        have := gbx_cell (HX.out wr BB.out) 1
        rw [this, EW.out, T.out]; rfl
      have x2 : wr.cell? ⟨w2.heap.size, 2, none⟩ = some (.int .i64 (max (sumK mkK l) 0)) := gbx_cell (HX.out wr BB.out) 2
      have hle : max (sumK mkK l) 0 ≤ U := by rw [EU.out, T.out]; exact PS.out
      obtain ⟨u, hu⟩ : ∃ u, max (sumK mkK l) 0 = u := ⟨_, rfl⟩
      rw [hu] at x2 hle
      have d : decide (u ≤ U) = true := decide_eq_true hle
      clear hu
      go_wp2_with fail
      refine (KN.out _ (Q3.out.trans (BB.out.mono Q3.out.size))).mono ?_; rintro e w4 ⟨rfl, q4⟩
      have Q4 := Lib.hid q4
      clear q4
      go_wp2_with fail
      go_ret
      exact ⟨rfl, Q4.out⟩
    case pos =>
      have hdk : decide ((k : Int) < n) = true := decide_eq_true (by omega)
      have hki : (k : Int) < (n : Int) := by omega
      obtain ⟨x, hx1⟩ : ∃ x, l[k]? = some x := ⟨l[k]'(by have := HL.out; omega), List.getElem?_eq_getElem _⟩
      have hm := List.mem_of_getElem? hx1
      obtain ⟨o1, o2⟩ := ONE.out x hm
      obtain ⟨bb, oo, rfl, rg⟩ := grd_rng (HR.out _ (Q3.out.trans (BB.out.mono Q3.out.size))) hx1
      have rg' : wr.rangeAt bb (oo + k * 29) (EK.cells x) := rg
      have N1 := Lib.hid (need11 (some ⟨bb, oo + k * 29, none⟩) 1 (c - k) [x] wr (rd_one11 rg') (fun y hy => by rw [List.mem_singleton.1 hy]; exact HI.out _ (Q3.out.trans (BB.out.mono Q3.out.size)) x hm) (by decide))
      rw [o1, o2, nd_cells] at N1
      dsimp only at N1
      have wb2 := sumW_bd (SB.out.take (k + 1))
      have ub2 := sumP_bd (SB.out.take (k + 1))
      have E1 : Hid (W + wsK x = sumK wsK (l.take (k + 1))) := Lib.hid (by rw [take_g hx1, sumK_snoc, ← EW.out])
      have E2 : Hid (U + max (mkK x) 0 = sumK posK (l.take (k + 1))) := Lib.hid (by rw [take_g hx1, sumK_snoc, ← EU.out]; rfl)
      rw [← E1.out] at wb2
      rw [← E2.out] at ub2
      obtain ⟨z5, z6⟩ := wb2
      obtain ⟨z7, z8⟩ := ub2
      obtain ⟨ws, hws⟩ : ∃ v, wsK x = v := ⟨_, rfl⟩
      obtain ⟨mk, hmk⟩ : ∃ v, max (mkK x) 0 = v := ⟨_, rfl⟩
      obtain ⟨mm, hmm⟩ : ∃ v, marN [x.lg] = v := ⟨_, rfl⟩
      rw [hws] at N1 E1 z5 z6
      rw [hmk] at N1 E2 z7 z8
      rw [hmm] at N1
      have hkc : k + 1 ≤ c := by omega
      have hkc' : (k : Int) + 1 ≤ (c : Int) := by omega
      clear hx1 hm o1 o2 rg rg' hws hmk hmm
      go_wp2_with fail
      refine N1.out.mono ?_; rintro e w4 ⟨rfl, q4⟩
      have Q4 := Lib.hid (BB.out.trans (((q4.trans ((below_new w4 (.cells #[.int .i64 mm, .int .i64 ws, .int .i64 mk] 35)).mono q4.size))).mono BB.out.size))
      clear q4
      go_wp2_with fail
      go_roundw
      case rel => exact ⟨k + 1, _, _, hlt, by go_num, rfl, rfl, E1.out, E2.out, Q4.out⟩
      case measure => simp [intOf]; omega
end Go.Proofs.Ytcpcnjiphiokjaa
