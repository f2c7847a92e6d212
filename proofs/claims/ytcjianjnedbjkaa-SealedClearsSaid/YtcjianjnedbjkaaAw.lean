/- The document's auction: Clear (by genAw.py). -/
import Derived.Test.YtcjianjnedbjkaaAv
import Derived.Test.YtcjianjnedbjkaaAx
namespace Go.Proofs.Ytcjianjnedbjkaa
open Go.RowKit Go.Shelf
set_option linter.unusedVariables false
set_option linter.unusedSimpArgs false

/-- Fifty flags in a block. -/
def arb8 (v : Nat → Bool) : Array Value := ((List.range 50).map fun j => Value.bool (v j)).toArray
theorem arb_at8 (v : Nat → Bool) {j : Nat} (h : j < 50) : (arb8 v)[j]? = some (.bool (v j)) := by simp [arb8, h]
theorem arb_set8 (v : Nat → Bool) {j : Nat} (h : j < 50) : (arb8 v).setIfInBounds j (.bool true) = arb8 (fun t => if t = j then true else v t) := by
  apply Array.ext_getElem?
  intro t
  rw [Array.getElem?_setIfInBounds]
  rcases Nat.lt_or_ge t 50 with c | c
  · rw [arb_at8 _ c, arb_at8 _ c]
    by_cases e : t = j
    · subst e; simp [arb8, h]
    · simp [e, Ne.symm e]
  · simp [arb8, Nat.not_lt.2 c]
    omega
theorem zero_arb8 (w : World) : (zeroValue 47).run Try.prog w = .ok (.agg (arb8 fun _ => false)) w := by kernel_rfl
def BB8 (w : World) (g : Nat) (v : Nat → Bool) : Prop := w.heap[g]? = some (.cells (arb8 v) 47 (0, 0))
theorem bb_cell8 {w : World} {g : Nat} {v : Nat → Bool} (h : BB8 w g v) {j : Nat} (hj : j < 50) : w.cell? ⟨g, j, none⟩ = some (.bool (v j)) := by
  rw [cell_of_row _ _ _ _ _ _ h, arb_at8 v hj]
theorem bb_fz8 {w : World} {g : Nat} {v : Nat → Bool} (h : BB8 w g v) (j : Nat) : w.frozen? ⟨g, j, none⟩ = false := by simp [World.frozen?, show w.heap[g]? = _ from h]
theorem bb_set8 {w : World} {g : Nat} {v : Nat → Bool} (h : BB8 w g v) {j : Nat} (hj : j < 50) : BB8 (w.setCell ⟨g, j, none⟩ (.bool true)) g (fun t => if t = j then true else v t) := by
  unfold BB8
  rw [heap_setCell_same w g j _ _ _ h, arb_set8 v hj]
theorem bf_of8 {S : Nat → Prop} {W U : World} (h : Fr S W U) (x : Fl) : EF.Bx 36 (U.alloc (.cells (EF.cells x).toArray 36)) U.heap.size x := gbx_new U x
theorem dis_miss9 {l : List Or} {k : Nat} {x : Or} (h : l[k]? = some x) (d : Dis (l.take k)) (hh : ∀ (j : Nat) (y : Or), j < k → l[j]? = some y → y.nu ≠ x.nu) : Dis (l.take (k + 1)) := by
  rw [take_snoc8 h]
  refine dis_snoc d fun y hy => ?_
  obtain ⟨j, hj⟩ := List.getElem?_of_mem hy
  have hjk := (List.getElem?_eq_some_iff.1 hj).1
  rw [List.length_take] at hjk
  rw [List.getElem?_take, if_pos (by omega)] at hj
  exact hh j y (by omega) hj
theorem dis_hit9 {l : List Or} {j k : Nat} {x y : Or} (hx : l[k]? = some x) (hy : l[j]? = some y) (hj : j < k) (e : y.nu = x.nu) : ¬ Dis l := fun d => by
  have := dis_at d (i := j) (j := k) (x := y) hy
  have h2 := dis_one d (List.mem_of_getElem? hy) (List.mem_of_getElem? hx) e
  rw [h2] at this
  have := this hx
  omega
set_option maxRecDepth 100000 in
set_option maxHeartbeats 16000000 in
theorem rclear8 (b : Bool) (q : Int) (A : Option Addr) (n c : Nat) (l : List Or) (w : World) (h : EO.Rd w A n l) (hok : ∀ x, x ∈ l → x.ok) (hn : n ≤ maxLen) (hq : I64' q) :
    Calls Try.prog 9 #[.bool b, .int .i64 q, .slice A n c] w fun e w' => ∃ v, e = .returned (.tuple #[.int .i64 (clrP b q l), v, .int .i64 (clrA b q l)]) ∧ EF.Own 36 w' w.heap.size v (clrF b q l) ∧ Below w.heap.size w w' := by
  obtain ⟨hq1, hq2⟩ := hq
  have HR := Lib.hid fun (W : World) (q : Below w.heap.size w W) => (show EO.Rd W A n l from grd_below h q (Nat.le_refl _))
  have HK := Lib.hid hok
  have HL := Lib.hid h.1
  have B0 := Lib.hid (Below.refl w.heap.size w)
  have OI := Lib.hid (ok_iff (b := b) (q := q) (l := l))
  unfold maxLen at hn
  clear h hok
  by_cases c1 : 50 < n
  · obtain ⟨e1, e2, e3⟩ := clr_long (b := b) (q := q) (l := l) (by rw [HL.out]; exact c1)
    rw [e1, e2, e3]
    clear e1 e2 e3
    have c1' : decide ((50 : Int) < (n : Int)) = true := decide_eq_true (by omega)
    go_enter Try.func9, Try.ntmps9
    go_wp2_with fail
    go_ret3
    exact ⟨_, rfl, gown_nil _ _, B0.out⟩
  have c1' : decide ((50 : Int) < (n : Int)) = false := decide_eq_false (by omega)
  have c1l : ¬ 50 < l.length := by rw [HL.out]; exact c1
  have NO : Hid (¬ OkC b q l → ∀ w' : World, Below w.heap.size w w' → ∃ v, (Ending.returned (.tuple #[.int .i64 0, .slice none 0 0, .int .i64 2]) = .returned (.tuple #[.int .i64 (clrP b q l), v, .int .i64 (clrA b q l)])) ∧ EF.Own 36 w' w.heap.size v (clrF b q l) ∧ Below w.heap.size w w') := Lib.hid fun hn w' q => by
    obtain ⟨e1, e2, e3⟩ := clr_arg c1l hn
    rw [e1, e2, e3]
    exact ⟨_, rfl, gown_nil _ _, q⟩
  have C1L := Lib.hid c1l
  have hn50 : n ≤ 50 := by omega
  clear c1 c1l
  by_cases c2 : q < 1
  · have nk : Hid (¬ OkC b q l) := Lib.hid fun k => by have := k.q1; omega
    have c2' : decide (q < 1) = true := decide_eq_true c2
    go_enter Try.func9, Try.ntmps9
    go_wp2_with fail
    go_ret3
    exact NO.out nk.out _ B0.out
  have c2' : decide (q < 1) = false := decide_eq_false c2
  by_cases c3 : 10000000 < q
  · have nk : Hid (¬ OkC b q l) := Lib.hid fun k => by have := k.q2; omega
    have c3' : decide (10000000 < q) = true := decide_eq_true c3
    go_enter Try.func9, Try.ntmps9
    go_wp2_with fail
    go_ret3
    exact NO.out nk.out _ B0.out
  have c3' : decide (10000000 < q) = false := decide_eq_false c3
  go_enter Try.func9, Try.ntmps9
  go_wp2_with fail
  go_loopw [9] (fun vi wr => ∃ i : Nat, i ≤ n ∧ vi = .int .i64 i ∧ Below w.heap.size w wr ∧ (∀ x, x ∈ l.take i → mayO x = true ∧ x.bu = b) ∧ Dis (l.take i)) (fun vi _ => n - (intOf vi).toNat)
  case atStart => exact ⟨0, Nat.zero_le _, rfl, B0.out, fun x hx => by simp at hx, by simp [Dis]⟩
  case round =>
    obtain ⟨i, hi, rfl, hb, hm, hd⟩ := hrel
    have HB := Lib.hid hb
    have HM := Lib.hid hm
    have HD := Lib.hid hd
    clear hb hm hd
    by_cases hlt : i < n
    case pos =>
      have hdk : decide ((i : Int) < n) = true := decide_eq_true (by omega)
      have hki : (i : Int) < (n : Int) := by omega
      obtain ⟨x, hx⟩ : ∃ x, l[i]? = some x := ⟨l[i]'(by have := HL.out; omega), List.getElem?_eq_getElem _⟩
      obtain ⟨bb, o, rfl, rg⟩ := grd_rng (HR.out wr HB.out) hx
      have hN5 : EO.N = 5 := rfl
      rw [hN5] at rg
      have RG := Lib.hid rg
      have HX := Lib.hid hx
      have OKX := Lib.hid (HK.out x (List.mem_of_getElem? hx))
      have MC := Lib.hid (rmay_o x wr OKX.out)
      clear hx rg hN5
      cases d1 : mayO x
      · have nk : Hid (¬ OkC b q l) := Lib.hid fun k => by have := (k.may x (List.mem_of_getElem? HX.out)).1; rw [d1] at this; cases this
        rw [d1] at MC
        go_wp2_with ((with_reducible refine gwl_load TO bb (o + i * 5) RG.out ?_ ?_ ?_); rfl; rfl)
        refine MC.out.mono ?_; rintro e w2 ⟨rfl, q2⟩
        have Q2 := Lib.hid (HB.out.trans (q2.mono HB.out.size))
        clear q2
        go_wp2_with fail
        go_ret3
        exact NO.out nk.out _ Q2.out
      rw [d1] at MC
      cases d2 : (x.bu != b)
      case true =>
        have nk : Hid (¬ OkC b q l) := Lib.hid fun k => by have := (k.may x (List.mem_of_getElem? HX.out)).2; rw [this] at d2; simp at d2
        go_wp2_with ((with_reducible refine gwl_load TO bb (o + i * 5) RG.out ?_ ?_ ?_); rfl; rfl)
        refine MC.out.mono ?_; rintro e w2 ⟨rfl, q2⟩
        have Q2 := Lib.hid (HB.out.trans (q2.mono HB.out.size))
        obtain ⟨b2, o2, eb2, rg2⟩ := grd_rng (HR.out w2 Q2.out) HX.out
        cases eb2
        have k2 : w2.cell? ⟨bb, o + i * 5 + 2, none⟩ = some (.bool (!b)) := by
          have e : x.bu = !b := by revert d2; cases x.bu <;> cases b <;> simp
          rw [← e]; exact rg2 2 _ rfl
        clear q2 rg2 d2
        cases b
        · go_wp2_with fail
          go_ret3
          exact NO.out nk.out _ Q2.out
        · go_wp2_with fail
          go_ret3
          exact NO.out nk.out _ Q2.out
      have hbu : x.bu = b := by simpa using d2
      go_wp2_with ((with_reducible refine gwl_load TO bb (o + i * 5) RG.out ?_ ?_ ?_); rfl; rfl)
      refine MC.out.mono ?_; rintro e w2 ⟨rfl, q2⟩
      have Q2 := Lib.hid (HB.out.trans (q2.mono HB.out.size))
      obtain ⟨b2, o2, eb2, rg2⟩ := grd_rng (HR.out w2 Q2.out) HX.out
      cases eb2
      have k2 : w2.cell? ⟨bb, o + i * 5 + 2, none⟩ = some (.bool b) := by rw [← hbu]; exact rg2 2 _ rfl
      clear q2 rg2
      go_wp2_with fail
      have MX := Lib.hid (And.intro d1 hbu)
      clear d1 d2 hbu MC k2
      go_loopw [10] (fun vk wr => ∃ k : Nat, k ≤ i ∧ vk = .int .i64 k ∧ Below w.heap.size w wr ∧ ∀ (j : Nat) (y : Or), j < k → l[j]? = some y → y.nu ≠ x.nu) (fun vk _ => i - (intOf vk).toNat)
      case atStart => exact ⟨0, Nat.zero_le _, rfl, Q2.out, fun j y hj => absurd hj (Nat.not_lt_zero j)⟩
      case round =>
        obtain ⟨k, hk, rfl, hb, hno⟩ := hrel
        have HB3 := Lib.hid hb
        have HNO := Lib.hid hno
        clear hb hno
        by_cases hlt2 : k < i
        case neg =>
          obtain rfl : k = i := by omega
          have hf : decide ((k : Int) < (k : Int)) = false := decide_eq_false (by omega)
          go_wp2_with fail
          go_roundw
          case rel => exact ⟨k + 1, hlt, by go_num, HB3.out, fun y hy => by
            rw [take_snoc8 HX.out, List.mem_append, List.mem_singleton] at hy
            rcases hy with hy | rfl
            · exact HM.out y hy
            · exact MX.out, dis_miss9 HX.out HD.out HNO.out⟩
          case measure => simp [intOf]; omega
        case pos =>
          have hd2 : decide ((k : Int) < (i : Int)) = true := decide_eq_true (by omega)
          have hkn : (k : Int) < (n : Int) := by omega
          obtain ⟨y, hy⟩ : ∃ y, l[k]? = some y := ⟨l[k]'(by have := HL.out; omega), List.getElem?_eq_getElem _⟩
          obtain ⟨b2, o2, eb2, rgx⟩ := grd_rng (HR.out wr HB3.out) HX.out
          cases eb2
          obtain ⟨b2, o2, eb2, rgy⟩ := grd_rng (HR.out wr HB3.out) hy
          cases eb2
          have kx : wr.cell? ⟨bb, o + i * 5, none⟩ = some (.int .u64 x.nu) := by have := rgx 0 _ rfl; rwa [Nat.add_zero] at this
          have ky : wr.cell? ⟨bb, o + k * 5, none⟩ = some (.int .u64 y.nu) := by have := rgy 0 _ rfl; rwa [Nat.add_zero] at this
          have HY := Lib.hid hy
          clear rgx rgy hy
          cases d3 : (y.nu == x.nu)
          · go_wp2
            go_quiet (fail)
            go_wp2
            go_roundw
            case rel => exact ⟨k + 1, hlt2, by go_num, below_drewN HB3.out _, fun j z hj hz => by
              rcases Nat.lt_or_eq_of_le (Nat.le_of_lt_succ hj) with c | rfl
              · exact HNO.out j z c hz
              · rw [HY.out] at hz; cases hz; exact beq_eq_false_iff_ne.1 d3⟩
            case measure => simp [intOf]; omega
          · have nk : Hid (¬ OkC b q l) := Lib.hid fun k => dis_hit9 HX.out HY.out hlt2 (beq_iff_eq.1 d3) k.dis
            go_wp2
            go_quiet (fail)
            go_wp2
            go_ret3
            exact NO.out nk.out _ (below_drewN HB3.out _)
    case neg =>
      obtain rfl : i = n := by omega
      have et : l.take i = l := List.take_of_length_le (by rw [HL.out]; exact Nat.le_refl _)
      rw [et] at HM HD
      have OK := Lib.hid (show OkC b q l from ⟨by have := HL.out; omega, by omega, by omega, HM.out, HD.out⟩)
      clear et HM HD NO OI
      have CLR := Lib.hid (clr_ok OK.out)
      have HPOS := Lib.hid (show ∀ x, x ∈ l → 0 < x.le ∧ x.le ≤ 1000000 from fun x hx => by have := may_pos (OK.out.may x hx).1; omega)
      generalize wr = w3 at *
      rcases Nat.eq_zero_or_pos i with rfl | hpos
      · have e0 : l = [] := List.length_eq_zero_iff.1 HL.out
        subst e0
        go_wp2_with fail
        go_ret3
        refine ⟨_, by rw [CLR.out.1, CLR.out.2.1]; rfl, ?_, HB.out⟩
        rw [CLR.out.2.2]
        exact gown_nil _ _
      obtain ⟨x0, r, hl⟩ : ∃ x r, l = x :: r := by
        cases l with
        | nil => have := HL.out; simp at this; omega
        | cons x r => exact ⟨x, r, rfl⟩
      have HLR := Lib.hid hl
      have i1 : 1 ≤ i := hpos
      have hne : ((i : Int) == 0) = false := by simp; omega
      have hi0 : (0 : Int) < (i : Int) := by omega
      obtain ⟨bb, o, rfl, rg0⟩ := grd_rng (HR.out w3 HB.out) (k := 0) (x := x0) (by rw [hl]; rfl)
      have kp0 : w3.cell? ⟨bb, o + 3, none⟩ = some (.int .i64 x0.pr) := by have := rg0 3 _ rfl; rwa [Nat.zero_mul, Nat.add_zero] at this
      have PR : Hid (priceC b q l = priC b q l r x0.pr) := Lib.hid (by
        have e : priceC b q (x0 :: r) = priC b q (x0 :: r) r x0.pr := rfl
        rw [← hl] at e
        exact e)
      clear rg0 hl hpos
      go_wp2_with fail
      go_loop [11, 12] (fun vp vi => ∃ s : Nat, 1 ≤ s ∧ s ≤ i ∧ vi = .int .i64 s ∧ vp = .int .i64 (priC b q l (r.take (s - 1)) x0.pr)) (fun _ vi => i - (intOf vi).toNat)
      case atStart => exact ⟨1, Nat.le_refl _, i1, rfl, rfl⟩
      case round =>
        obtain ⟨s, hs1, hs2, rfl, rfl⟩ := hrel
        have R3 := HR.out w3 HB.out
        by_cases hlt : s < i
        case pos =>
          have hds : decide ((s : Int) < (i : Int)) = true := decide_eq_true (by omega)
          have hsi : (s : Int) < (i : Int) := by omega
          obtain ⟨y, hy⟩ : ∃ y, l[s]? = some y := ⟨l[s]'(by have := HL.out; omega), List.getElem?_eq_getElem _⟩
          obtain ⟨b2, o2, eb2, rgy⟩ := grd_rng R3 hy
          cases eb2
          have kp : w3.cell? ⟨bb, o + s * 5 + 3, none⟩ = some (.int .i64 y.pr) := rgy 3 _ rfl
          have ry : r[s - 1]? = some y := by
            have h := hy
            rw [HLR.out] at h
            obtain ⟨s', rfl⟩ : ∃ s', s = s' + 1 := ⟨s - 1, by omega⟩
            simpa using h
          have NX : Hid (priC b q l (r.take (s + 1 - 1)) x0.pr = nxtC b q l (priC b q l (r.take (s - 1)) x0.pr) y.pr) := Lib.hid (by
            rw [show s + 1 - 1 = s - 1 + 1 by omega, List.take_add_one, ry]
            unfold priC
            rw [Option.toList_some, List.foldl_append]
            rfl)
          obtain ⟨C, hC⟩ : ∃ C, priC b q l (r.take (s - 1)) x0.pr = C := ⟨_, rfl⟩
          rw [hC] at NX ⊢
          have NXD : Hid (nxtC b q l C y.pr = if atC b q l C < atC b q l y.pr ∨ (atC b q l y.pr = atC b q l C ∧ btr b y.pr C = true) then y.pr else C) := Lib.hid rfl
          have RA := Lib.hid (rat8 b q _ i c l y.pr w3 R3 HPOS.out hn50)
          have RB := Lib.hid (rat8 b q _ i c l C w3 R3 HPOS.out hn50)
          have RC := Lib.hid (rbtr8 b y.pr C w3)
          obtain ⟨a1, ha1⟩ : ∃ z, atC b q l y.pr = z := ⟨_, rfl⟩
          obtain ⟨a2, ha2⟩ : ∃ z, atC b q l C = z := ⟨_, rfl⟩
          rw [ha1] at RA NXD
          rw [ha2] at RB NXD
          clear hy rgy ry hC ha1 ha2 kp0 R3
          go_wp2_with fail
          refine RA.out.mono ?_; rintro e w4 ⟨rfl, rfl⟩
          go_wp2_with fail
          refine RB.out.mono ?_; rintro e w4 ⟨rfl, rfl⟩
          cases d1 : decide (a2 < a1)
          case true =>
            have e : nxtC b q l C y.pr = y.pr := by rw [NXD.out, if_pos (.inl (of_decide_eq_true d1))]
            have E := Lib.hid e
            clear e RC
            go_wp2_with fail
            go_round
            case rel => exact ⟨s + 1, by omega, hlt, by go_num, by rw [NX.out, E.out]⟩
            case measure => simp [intOf]; omega
          case false =>
            have h1 := of_decide_eq_false d1
            cases d2 : (a1 == a2)
            case false =>
              have e : nxtC b q l C y.pr = C := by rw [NXD.out, if_neg (by rintro (h | ⟨h, _⟩); exact h1 h; simp [h] at d2)]
              have E := Lib.hid e
              clear e RC h1
              go_wp2_with fail
              go_round
              case rel => exact ⟨s + 1, by omega, hlt, by go_num, by rw [NX.out, E.out]⟩
              case measure => simp [intOf]; omega
            case true =>
              cases d3 : btr b y.pr C
              · have e : nxtC b q l C y.pr = C := by rw [NXD.out, if_neg (by rintro (h | ⟨_, h⟩); exact h1 h; rw [d3] at h; cases h)]
                have E := Lib.hid e
                rw [d3] at RC
                clear e h1 d3
                go_wp2_with fail
                refine RC.out.mono ?_; rintro e w4 ⟨rfl, rfl⟩
                go_wp2_with fail
                go_round
                case rel => exact ⟨s + 1, by omega, hlt, by go_num, by rw [NX.out, E.out]⟩
                case measure => simp [intOf]; omega
              · have e : nxtC b q l C y.pr = y.pr := by rw [NXD.out, if_pos (.inr ⟨beq_iff_eq.1 d2, d3⟩)]
                have E := Lib.hid e
                rw [d3] at RC
                clear e h1 d3
                go_wp2_with fail
                refine RC.out.mono ?_; rintro e w4 ⟨rfl, rfl⟩
                go_wp2_with fail
                go_round
                case rel => exact ⟨s + 1, by omega, hlt, by go_num, by rw [NX.out, E.out]⟩
                case measure => simp [intOf]; omega
        case neg =>
          obtain rfl : s = i := by omega
          have er : priC b q l (r.take (s - 1)) x0.pr = priceC b q l := by
            rw [PR.out, List.take_of_length_le]
            have := HL.out
            rw [HLR.out] at this
            simp at this
            omega
          rw [er]
          obtain ⟨P, hP⟩ : ∃ P, priceC b q l = P := ⟨_, rfl⟩
          have HP := Lib.hid hP
          rw [hP]
          clear er hP kp0
          have hz := zero_arb8
          have A8 : Hid (BB8 (w3.alloc (.cells (arb8 fun _ => false) 47)) w3.heap.size (fun _ => false)) := Lib.hid (heap_alloc_new w3 _)
          have B8 := Lib.hid (below_new w3 (.cells (arb8 fun _ => false) 47))
          obtain ⟨w8, hw8⟩ : ∃ w8, w3.alloc (.cells (arb8 fun _ => false) 47) = w8 := ⟨_, rfl⟩
          rw [hw8] at A8 B8
          have HW8 := Lib.hid hw8
          have Q8 := Lib.hid (HB.out.trans (B8.out.mono HB.out.size))
          have hg0 : w.heap.size ≤ w3.heap.size := HB.out.size
          have RT := Lib.hid (rat8 b q _ s c l P w8 (HR.out w8 Q8.out) HPOS.out hn50)
          have L0 : Hid (atC b q l P = minC (sumC l) q) := Lib.hid (by
            rw [← HP.out]
            exact at_price (fun x hx => Int.le_of_lt (HPOS.out x hx).1) (by rw [HLR.out]; simp))
          have CF : Hid (fillC (sortO b l) (atC b q l P) = clrF b q l) := Lib.hid (by rw [CLR.out.2.2, HP.out])
          obtain ⟨left0, hl0⟩ : ∃ z, atC b q l P = z := ⟨_, rfl⟩
          obtain ⟨fc, hfc⟩ : ∃ z, clrF b q l = z := ⟨_, rfl⟩
          rw [hl0] at RT L0 CF
          rw [hfc] at CF
          have HFC := Lib.hid hfc
          have hL0 : 0 ≤ left0 ∧ left0 ≤ sumC l ∧ left0 ≤ 10000000 := by
            have h1 := (cum_le (b := b) (p := 0) (l := l) fun x hx => Int.le_of_lt (HPOS.out x hx).1)
            rw [L0.out]
            unfold minC; split <;> omega
          have HL0 := Lib.hid hL0
          clear hw8 R3 hl0 hfc hL0
          go_wp2_with (rw [HW8.out])
          refine RT.out.mono ?_; rintro e w9 ⟨rfl, rfl⟩
          go_wp2_with fail
          go_loopw [16, 18] (fun v' vl wr => ∃ (v : Value) (left : Int) (fl : List Fl) (d : Nat → Bool), v = v' ∧ vl = .int .i64 left ∧ 0 ≤ left ∧ left ≤ 10000000 ∧ left ≤ sumC (rl8 d l 0) ∧ BB8 wr w3.heap.size d ∧ EF.Own 36 wr w.heap.size v fl ∧ Below w.heap.size w wr ∧ fl.length + (rl8 d l 0).length = s ∧ fl ++ fillC (sortO b (rl8 d l 0)) left = fc) (fun _ vl _ => (intOf vl).toNat)
          case atStart =>
            have e := rl_all8 (fun _ => false) l 0 fun _ _ => rfl
            exact ⟨_, left0, [], fun _ => false, rfl, rfl, HL0.out.1, HL0.out.2.2, by rw [e]; exact HL0.out.2.1, A8.out, gown_nil _ _, Q8.out, by rw [e]; simpa using HL.out, by rw [e]; simpa using CF.out⟩
          case round =>
            obtain ⟨v, left, fl, d, rfl, rfl, hl1, hl2, hl3, hA, ho, hb, hlen, heq⟩ := hrel
            have OV0 := Lib.hid ho
            have HB9 := Lib.hid hb
            have HA9 := Lib.hid hA
            have HS := Lib.hid hl3
            have HLEN := Lib.hid hlen
            have HEQ := Lib.hid heq
            clear hA ho hb hl3 hlen heq
            cases d0 : decide (0 < left)
            case false =>
              have e : left = 0 := by have := of_decide_eq_false d0; omega
              subst e
              have ef : fl = fc := by
                have h := HEQ.out
                have z : ∀ s : List Or, fillC s 0 = [] := fun s => by cases s with
                  | nil => rfl
                  | cons x r => exact if_pos (Int.le_refl _)
                rw [z, List.append_nil] at h
                exact h
              have EF' := Lib.hid ef
              clear ef
              go_wp2_with fail
              go_ret3
              refine ⟨_, by rw [CLR.out.1, CLR.out.2.1, HP.out]; rfl, ?_, HB9.out⟩
              rw [HFC.out, ← EF'.out]
              exact OV0.out
            case true =>
              have hleft := of_decide_eq_true d0
              have R9 := Lib.hid (HR.out wr HB9.out)
              generalize wr = U0 at *
              have CELL := Lib.hid fun (W : World) (a : Addr) (v : Value) (f : Fr (fun _ : Nat => False) U0 W) (h : U0.cell? a = some v) => (show W.cell? a = some v from (World.cell?_of_block (f.at' a.block (World.block_lt_of_cell? U0 a h) (fun h => h))).trans h)
              go_wp2_with fail
              go_loopw [19, 20] (fun vb vi wi => ∃ (j : Nat) (best : Int), j ≤ s ∧ vi = .int .i64 j ∧ vb = .int .i64 best ∧ Best8 b l d j best ∧ Fr (fun _ : Nat => False) U0 wi) (fun _ vi _ => s - (intOf vi).toNat)
              case atStart => exact ⟨0, -1, Nat.zero_le _, rfl, rfl, best_zero8, Fr.refl _ _⟩
              case round =>
                obtain ⟨j, best, hj, rfl, rfl, hbest, hf⟩ := hrel
                have BE := Lib.hid hbest
                have F1 := Lib.hid hf
                clear hbest
                by_cases hlt2 : j < s
                case pos =>
                  have hd2 : decide ((j : Int) < (s : Int)) = true := decide_eq_true (by omega)
                  have hjs : (j : Int) < (s : Int) := by omega
                  obtain ⟨x, hx⟩ : ∃ x, l[j]? = some x := ⟨l[j]'(by have := HL.out; omega), List.getElem?_eq_getElem _⟩
                  obtain ⟨b2, o2, eb2, rgx⟩ := grd_rng R9.out hx
                  cases eb2
                  have kx := CELL.out wr _ _ hf (show U0.cell? ⟨bb, o + j * 5 + 3, none⟩ = some (.int .i64 x.pr) from rgx 3 _ rfl)
                  have kd := CELL.out wr _ _ hf (bb_cell8 HA9.out (j := j) (by omega))
                  have HX := Lib.hid hx
                  clear rgx hx
                  cases dd : d j
                  case true =>
                    rw [dd] at kd
                    clear hf
                    go_wp2
                    go_quiet (fail)
                    go_wp2
                    go_roundw
                    case rel => exact ⟨j + 1, best, hlt2, by go_num, rfl, best_done8 BE.out dd, F1.out.drewN _⟩
                    case measure => simp [intOf]; omega
                  case false =>
                    rw [dd] at kd
                    rcases BE.out with ⟨rfl, _⟩ | ⟨k, y, rfl, hk, hy, _⟩
                    · clear hf
                      go_wp2
                      go_quiet (fail)
                      go_wp2
                      go_roundw
                      case rel => exact ⟨j + 1, _, hlt2, by go_num, rfl, best_new8 BE.out dd HX.out, F1.out.drewN _⟩
                      case measure => simp [intOf]; omega
                    · obtain ⟨b2, o2, eb2, rgy⟩ := grd_rng R9.out hy
                      cases eb2
                      have ky := CELL.out wr _ _ hf (show U0.cell? ⟨bb, o + k * 5 + 3, none⟩ = some (.int .i64 y.pr) from rgy 3 _ rfl)
                      have hks : (k : Int) < (s : Int) := by omega
                      have hk0 : decide ((k : Int) < 0) = false := decide_eq_false (by omega)
                      have HY := Lib.hid hy
                      have RC := Lib.hid fun w => rbtr8 b x.pr y.pr w
                      clear rgy hf hy
                      cases d3 : btr b x.pr y.pr
                      · rw [d3] at RC
                        have D3 := Lib.hid d3
                        clear d3
                        go_wp2
                        go_quiet (first | (go_at_call 19; refine Calls.quiet_of_same (RC.out _)))
                        go_wp2
                        go_roundw
                        case rel => exact ⟨j + 1, _, hlt2, by go_num, rfl, best_keep8 BE.out HY.out HX.out D3.out, F1.out.drewN _⟩
                        case measure => simp [intOf]; omega
                      · rw [d3] at RC
                        have D3 := Lib.hid d3
                        clear d3
                        go_wp2
                        go_quiet (first | (go_at_call 19; refine Calls.quiet_of_same (RC.out _)))
                        go_wp2
                        go_roundw
                        case rel => exact ⟨j + 1, _, hlt2, by go_num, rfl, best_take8 BE.out HY.out dd HX.out D3.out, F1.out.drewN _⟩
                        case measure => simp [intOf]; omega
                case neg =>
                  obtain rfl : j = s := by omega
                  have hlj : l.length = j := HL.out
                  have be2 : Best8 b l d l.length best := by rw [hlj]; exact BE.out
                  have BE2 := Lib.hid be2
                  rcases be2 with ⟨rfl, _⟩ | ⟨k, x, rfl, hk, hx, hdk, _⟩
                  · exfalso
                    have h1 := best_none8 BE2.out
                    have h2 := HS.out
                    rw [h1] at h2
                    have h3 : sumC ([] : List Or) = 0 := rfl
                    omega
                  obtain ⟨s1, s2⟩ := best_sort8 BE2.out hx
                  rw [hlj] at hk
                  have px := HPOS.out x (List.mem_of_getElem? hx)
                  obtain ⟨b2, o2, eb2, rgx⟩ := grd_rng R9.out hx
                  cases eb2
                  have k4 := CELL.out wr _ _ hf (show U0.cell? ⟨bb, o + k * 5 + 4, none⟩ = some (.int .i64 x.le) from rgx 4 _ rfl)
                  have c0 := CELL.out wr _ _ hf (show U0.cell? ⟨bb, o + k * 5, none⟩ = some (.int .u64 x.nu) by have := rgx 0 _ rfl; rwa [Nat.add_zero] at this)
                  have c1 := CELL.out wr _ _ hf (show U0.cell? ⟨bb, o + k * 5 + 1, none⟩ = some (.int .u32 x.ac) from rgx 1 _ rfl)
                  have hkj : (k : Int) < (j : Int) := by omega
                  have hA2 : BB8 wr w3.heap.size d := (hf.at' _ (Array.getElem?_eq_some_iff.1 HA9.out).1 (fun h => h)).trans HA9.out
                  have kd := bb_cell8 hA2 (j := k) (by omega)
                  have kf := bb_fz8 hA2 k
                  have hO2 := gown_fr OV0.out hf (fun _ _ h => h)
                  have OWR := Lib.hid hO2
                  have NG : Hid (∀ t, v.ownBlock = some t → t ≠ w3.heap.size) := Lib.hid fun t ht e => by
                    obtain ⟨cur, hh⟩ := gown_cells OWR.out ht
                    have hA3 : wr.heap[w3.heap.size]? = some (.cells (arb8 d) 47 (0, 0)) := hA2
                    rw [e, hA3] at hh
                    injection hh with hh
                    injection hh with _ hh
                    exact absurd hh (by decide)
                  have nbb : bb ≠ w3.heap.size := fun e => by
                    have : w3.cell? ⟨bb, o + k * 5, none⟩ = some (.int .u64 x.nu) := by
                      obtain ⟨b2, o2, eb2, rg3⟩ := grd_rng (HR.out w3 HB.out) hx
                      cases eb2
                      have := rg3 0 _ rfl
                      rwa [Nat.add_zero] at this
                    have := World.block_lt_of_cell? w3 _ this
                    have h2 : bb < w3.heap.size := this
                    omega
                  obtain ⟨W6, hW6⟩ : ∃ W6, wr.setCell ⟨w3.heap.size, k, none⟩ (.bool true) = W6 := ⟨_, rfl⟩
                  have A6 : Hid (BB8 W6 w3.heap.size (fun t => if t = k then true else d t)) := Lib.hid (by rw [← hW6]; exact bb_set8 hA2 (by omega))
                  have C06 : W6.cell? ⟨bb, o + k * 5, none⟩ = some (.int .u64 x.nu) := by
                    rw [← c0, ← hW6]
                    exact World.cell?_of_block (heap_setCell_other wr _ _ _ nbb)
                  have C16 : W6.cell? ⟨bb, o + k * 5 + 1, none⟩ = some (.int .u32 x.ac) := by
                    rw [← c1, ← hW6]
                    exact World.cell?_of_block (heap_setCell_other wr _ _ _ nbb)
                  have OV := Lib.hid (show EF.Own 36 W6 w.heap.size v fl by rw [← hW6]; exact gown_same hO2 fun t ht => heap_setCell_other wr _ _ _ (NG.out t ht))
                  have NBV : Hid (∀ t, v.ownBlock = some t → t ≠ bb) := Lib.hid fun t ht e => by
                    have h1 := (gown_lt OWR.out ht).1
                    have h2 : w.cell? ⟨bb, o + k * 5, none⟩ = some (.int .u64 x.nu) := by
                      obtain ⟨b2, o2, eb2, rg3⟩ := grd_rng (HR.out w B0.out) hx
                      cases eb2
                      have := rg3 0 _ rfl
                      rwa [Nat.add_zero] at this
                    have h3 : bb < w.heap.size := World.block_lt_of_cell? w _ h2
                    omega
                  have C0 := Lib.hid fun (U : World) (f : Fr (fun k => v.ownBlock = some k) W6 U) => (show U.cell? ⟨bb, o + k * 5, none⟩ = some (.int .u64 x.nu) from (World.cell?_of_block (f.at' bb (World.block_lt_of_cell? W6 _ C06) (fun h => NBV.out bb h rfl))).trans C06)
                  have C1 := Lib.hid fun (U : World) (f : Fr (fun k => v.ownBlock = some k) W6 U) => (show U.cell? ⟨bb, o + k * 5 + 1, none⟩ = some (.int .u32 x.ac) from (World.cell?_of_block (f.at' bb (World.block_lt_of_cell? W6 _ C06) (fun h => NBV.out bb h rfl))).trans C16)
                  have B6 : Hid (Below w.heap.size w W6) := Lib.hid (by rw [← hW6]; exact (below_fr8 HB9.out hf (fun _ h => h.elim) HB9.out.size).setCell hg0 _)
                  have hs6 : w.heap.size ≤ W6.heap.size := B6.out.size
                  have hfl : fl.length ≤ 50 := by have := HLEN.out; omega
                  obtain ⟨m, hm⟩ : ∃ m, minC x.le left = m := ⟨_, rfl⟩
                  have m1 : 0 < m ∧ m ≤ left ∧ m ≤ x.le := by rw [← hm]; unfold minC; split <;> omega
                  obtain ⟨m1, m2, m3⟩ := m1
                  have wm : IntKind.i64.wrap (left - m) = left - m := by rw [IntKind.wrap_i64]; omega
                  have FIN : Hid (∀ v1 U, EF.Own 36 U w.heap.size v1 (fl ++ [⟨x.nu, x.ac, m⟩]) → Fr (fun k => v.ownBlock = some k) W6 U → ∃ (v' : Value) (left' : Int) (fl' : List Fl) (d' : Nat → Bool), v' = v1 ∧ Value.int .i64 (left - m) = .int .i64 left' ∧ 0 ≤ left' ∧ left' ≤ 10000000 ∧ left' ≤ sumC (rl8 d' l 0) ∧ BB8 U w3.heap.size d' ∧ EF.Own 36 U w.heap.size v' fl' ∧ Below w.heap.size w U ∧ fl'.length + (rl8 d' l 0).length = j ∧ fl' ++ fillC (sortO b (rl8 d' l 0)) left' = fc) := Lib.hid fun v1 U o1 f => by
                    refine ⟨v1, left - m, _, fun t => if t = k then true else d t, rfl, rfl, by omega, by omega, ?_, (f.at' _ (Array.getElem?_eq_some_iff.1 A6.out).1 (fun h => NG.out _ h rfl)).trans A6.out, o1, below_fr8 B6.out f (fun t ht => (gown_lt OV.out ht).1) hs6, ?_, ?_⟩
                    · have h2 := HS.out
                      rw [s2] at h2
                      have h3 := hm
                      unfold minC at h3
                      have pz : 0 ≤ sumC (rl8 (fun t => if t = k then true else d t) l 0) := by
                        have := (cum_le (b := b) (p := 0) (l := rl8 (fun t => if t = k then true else d t) l 0) fun y hy => by
                          obtain ⟨t, ht, _⟩ := rl_mem8 l 0 hy
                          exact Int.le_of_lt (HPOS.out y (List.mem_of_getElem? ht)).1)
                        omega
                      split at h3 <;> omega
                    · have h1 := sort_len b (rl8 d l 0)
                      rw [s1, List.length_cons, sort_len] at h1
                      have := HLEN.out
                      rw [List.length_append, List.length_singleton]
                      omega
                    · rw [← HEQ.out, s1]
                      have : fillC (x :: sortO b (rl8 (fun t => if t = k then true else d t) l 0)) left = ⟨x.nu, x.ac, m⟩ :: fillC (sortO b (rl8 (fun t => if t = k then true else d t) l 0)) (left - m) := by
                        rw [fillC, if_neg (by omega), hm]
                      rw [this, List.append_assoc]; rfl
                  have HW6 := Lib.hid hW6
                  clear hf hx hdk rgx c0 c1 hA2 hO2 C06 C16 hW6 s1 s2
                  cases d5 : decide (left < x.le)
                  case true =>
                    have e : m = left := by rw [← hm]; unfold minC; rw [if_pos (of_decide_eq_true d5)]
                    have HM := Lib.hid hm
                    subst e
                    clear hm
                    go_upto_region 41 with fail
                    rw [HW6.out]
                    refine wp_region_held_drew (S := fun U => Fr (fun k => v.ownBlock = some k) W6 U) (by kernel_rfl) ((Fr.refl _ _).drewN 1) (fun hH => ?_)
                    refine wpAnyH_take (i := 0) (v := v) rfl (by kernel_rfl) (by kernel_rfl) (by kernel_rfl) (fun _ _ _ h => h) (.inl ⟨by rfl, ?_⟩) (by assumption) ?_
                    · intro W hW; go_simp
                    try simp only [List.getElem_toArray, List.getElem_cons_zero, Act.put, List.setIfInBounds_toArray, List.set_cons_zero, List.set_cons_succ]
                    refine wpAnyH_take (i := 1) (v := .slice (some ⟨bb, o, none⟩) j c) rfl (by kernel_rfl) (by kernel_rfl) (by kernel_rfl) (fun _ _ _ h => h) (.inl ⟨by rfl, ?_⟩) (by assumption) ?_
                    · intro W hW; go_simp
                    try simp only [List.getElem_toArray, List.getElem_cons_zero, List.getElem_cons_succ, Act.put, List.setIfInBounds_toArray, List.set_cons_zero, List.set_cons_succ]
                    refine wpAnyH_take (i := 2) (v := .int .i64 k) rfl (by kernel_rfl) (by kernel_rfl) (by kernel_rfl) (fun _ _ _ h => h) (.inl ⟨by rfl, ?_⟩) (by assumption) ?_
                    · intro W hW; go_simp
                    try simp only [List.getElem_toArray, List.getElem_cons_zero, List.getElem_cons_succ, Act.put, List.setIfInBounds_toArray, List.set_cons_zero, List.set_cons_succ]
                    refine wpAnyH_take (i := 3) (v := .pointer (some ⟨bb, o + k * 5, none⟩)) rfl (by kernel_rfl) (by kernel_rfl) (by kernel_rfl) (fun _ _ _ h => h) (.inl ⟨by rfl, ?_⟩) (by assumption) ?_
                    · intro W hW; go_simp
                    try simp only [List.getElem_toArray, List.getElem_cons_zero, List.getElem_cons_succ, Act.put, List.setIfInBounds_toArray, List.set_cons_zero, List.set_cons_succ]
                    refine wpAnyH_take (i := 4) (v := .pointer (some ⟨bb, o + k * 5, none⟩)) rfl (by kernel_rfl) (by kernel_rfl) (by kernel_rfl) (fun _ _ _ h => h) (.inl ⟨by rfl, ?_⟩) (by assumption) ?_
                    · intro W hW; go_simp
                    try simp only [List.getElem_toArray, List.getElem_cons_zero, List.getElem_cons_succ, Act.put, List.setIfInBounds_toArray, List.set_cons_zero, List.set_cons_succ]
                    refine wpAnyH_take (i := 5) (v := .int .u64 x.nu) rfl (by kernel_rfl) (by kernel_rfl) (by kernel_rfl) (fun _ _ _ h => h) (.inl ⟨by rfl, ?_⟩) (by assumption) ?_
                    · intro W hW; have kk := C0.out W hW; go_simp
                    try simp only [List.getElem_toArray, List.getElem_cons_zero, List.getElem_cons_succ, Act.put, List.setIfInBounds_toArray, List.set_cons_zero, List.set_cons_succ]
                    refine wpAnyH_take (i := 6) (v := .slice (some ⟨bb, o, none⟩) j c) rfl (by kernel_rfl) (by kernel_rfl) (by kernel_rfl) (fun _ _ _ h => h) (.inl ⟨by rfl, ?_⟩) (by assumption) ?_
                    · intro W hW; go_simp
                    try simp only [List.getElem_toArray, List.getElem_cons_zero, List.getElem_cons_succ, Act.put, List.setIfInBounds_toArray, List.set_cons_zero, List.set_cons_succ]
                    refine wpAnyH_take (i := 7) (v := .int .i64 k) rfl (by kernel_rfl) (by kernel_rfl) (by kernel_rfl) (fun _ _ _ h => h) (.inl ⟨by rfl, ?_⟩) (by assumption) ?_
                    · intro W hW; go_simp
                    try simp only [List.getElem_toArray, List.getElem_cons_zero, List.getElem_cons_succ, Act.put, List.setIfInBounds_toArray, List.set_cons_zero, List.set_cons_succ]
                    refine wpAnyH_take (i := 8) (v := .pointer (some ⟨bb, o + k * 5, none⟩)) rfl (by kernel_rfl) (by kernel_rfl) (by kernel_rfl) (fun _ _ _ h => h) (.inl ⟨by rfl, ?_⟩) (by assumption) ?_
                    · intro W hW; go_simp
                    try simp only [List.getElem_toArray, List.getElem_cons_zero, List.getElem_cons_succ, Act.put, List.setIfInBounds_toArray, List.set_cons_zero, List.set_cons_succ]
                    refine wpAnyH_take (i := 9) (v := .pointer (some ⟨bb, o + k * 5 + 1, none⟩)) rfl (by kernel_rfl) (by kernel_rfl) (by kernel_rfl) (fun _ _ _ h => h) (.inl ⟨by rfl, ?_⟩) (by assumption) ?_
                    · intro W hW; go_simp
                    try simp only [List.getElem_toArray, List.getElem_cons_zero, List.getElem_cons_succ, Act.put, List.setIfInBounds_toArray, List.set_cons_zero, List.set_cons_succ]
                    refine wpAnyH_take (i := 10) (v := .int .u32 x.ac) rfl (by kernel_rfl) (by kernel_rfl) (by kernel_rfl) (fun _ _ _ h => h) (.inl ⟨by rfl, ?_⟩) (by assumption) ?_
                    · intro W hW; have kk := C1.out W hW; go_simp
                    try simp only [List.getElem_toArray, List.getElem_cons_zero, List.getElem_cons_succ, Act.put, List.setIfInBounds_toArray, List.set_cons_zero, List.set_cons_succ]
                    refine wpAnyH_take (i := 11) (v := .int .i64 m) rfl (by kernel_rfl) (by kernel_rfl) (by kernel_rfl) (fun _ _ _ h => h) (.inl ⟨by rfl, ?_⟩) (by assumption) ?_
                    · intro W hW; go_simp
                    try simp only [List.getElem_toArray, List.getElem_cons_zero, List.getElem_cons_succ, Act.put, List.setIfInBounds_toArray, List.set_cons_zero, List.set_cons_succ]
                    refine wpAnyH_take (i := 12) (v := .agg #[.int .u64 x.nu, .int .u32 x.ac, .int .i64 m]) rfl (by kernel_rfl) (by kernel_rfl) (by kernel_rfl) (fun _ _ _ h => h) (.inl ⟨by rfl, ?_⟩) (by assumption) ?_
                    · intro W hW; go_simp
                    try simp only [List.getElem_toArray, List.getElem_cons_zero, List.getElem_cons_succ, Act.put, List.setIfInBounds_toArray, List.set_cons_zero, List.set_cons_succ]
                    have ov := gown_same (W := W6.drew) OV.out (fun _ _ => rfl)
                    refine wpAnyH_ready (rs := [13]) (by decide +kernel) (by simp) (AllReadyH.cons rfl (fun KQ hK => ?_) AllReadyH.nil)
                    rw [if_pos (by rfl)]
                    refine gwp_bs TF rfl (s := ⟨x.nu, x.ac, m⟩) rfl (fill_fl _) ?_ (by decide)
                    have hH1 := fr_alloc8 hH (.cells (EF.cells ⟨x.nu, x.ac, m⟩).toArray 36)
                    have xf := bf_of8 hH ⟨x.nu, x.ac, m⟩
                    replace ov := gown_below ov (below_new _ (.cells (EF.cells ⟨x.nu, x.ac, m⟩).toArray 36))
                    refine hK.out _ _ hH1 (fun _ => ?_)
                    clear hK hH
                    have hH := hH1
                    clear hH1
                    try simp only [List.getElem_toArray, List.getElem_cons_zero, List.getElem_cons_succ, Act.put, List.setIfInBounds_toArray, List.set_cons_zero, List.set_cons_succ]
                    refine wpAnyH_ready (rs := [14]) (by decide +kernel) (by simp) (AllReadyH.cons rfl (fun KQ hK => ?_) AllReadyH.nil)
                    rw [if_pos (by rfl)]
                    have hsz := hH.size
                    refine gwp_app TF _ _ rfl w.heap.size v fl rfl ov _ 1 1 [⟨x.nu, x.ac, m⟩] rfl (gbx_rd xf) (fun e => by cases e) (by omega) (by omega) ?_
                    intro v1 w2 o1 g1 e1
                    have hH1 := hH.same (Fr.grown g1 (fun k hk => hk))
                    refine hK.out _ _ hH1 (fun _ => ?_)
                    clear hK hH
                    have hH := hH1
                    clear hH1
                    try simp only [List.getElem_toArray, List.getElem_cons_zero, List.getElem_cons_succ, Act.put, List.setIfInBounds_toArray, List.set_cons_zero, List.set_cons_succ]
                    refine wpAnyH_take (i := 15) (v := v1) rfl (by kernel_rfl) (by kernel_rfl) (by kernel_rfl) (fun _ _ _ h => h) (.inl ⟨by rfl, ?_⟩) (by assumption) ?_
                    · intro W hW; go_simp
                    try simp only [List.getElem_toArray, List.getElem_cons_zero, List.getElem_cons_succ, Act.put, List.setIfInBounds_toArray, List.set_cons_zero, List.set_cons_succ]
                    refine wpAnyH_done (by decide +kernel) ?_ _
                    go_wp2_with fail
                    go_roundw
                    case rel =>
                      have f := FIN.out _ _ o1 hH
                      rw [Int.sub_self] at f
                      exact f
                    case measure => simp [intOf]; omega
                  case false =>
                    have e : m = x.le := by rw [← hm]; unfold minC; rw [if_neg (of_decide_eq_false d5)]
                    have HM := Lib.hid hm
                    subst e
                    clear hm
                    go_upto_region 41 with fail
                    rw [HW6.out]
                    refine wp_region_held_drew (S := fun U => Fr (fun k => v.ownBlock = some k) W6 U) (by kernel_rfl) ((Fr.refl _ _).drewN 1) (fun hH => ?_)
                    refine wpAnyH_take (i := 0) (v := v) rfl (by kernel_rfl) (by kernel_rfl) (by kernel_rfl) (fun _ _ _ h => h) (.inl ⟨by rfl, ?_⟩) (by assumption) ?_
                    · intro W hW; go_simp
                    try simp only [List.getElem_toArray, List.getElem_cons_zero, Act.put, List.setIfInBounds_toArray, List.set_cons_zero, List.set_cons_succ]
                    refine wpAnyH_take (i := 1) (v := .slice (some ⟨bb, o, none⟩) j c) rfl (by kernel_rfl) (by kernel_rfl) (by kernel_rfl) (fun _ _ _ h => h) (.inl ⟨by rfl, ?_⟩) (by assumption) ?_
                    · intro W hW; go_simp
                    try simp only [List.getElem_toArray, List.getElem_cons_zero, List.getElem_cons_succ, Act.put, List.setIfInBounds_toArray, List.set_cons_zero, List.set_cons_succ]
                    refine wpAnyH_take (i := 2) (v := .int .i64 k) rfl (by kernel_rfl) (by kernel_rfl) (by kernel_rfl) (fun _ _ _ h => h) (.inl ⟨by rfl, ?_⟩) (by assumption) ?_
                    · intro W hW; go_simp
                    try simp only [List.getElem_toArray, List.getElem_cons_zero, List.getElem_cons_succ, Act.put, List.setIfInBounds_toArray, List.set_cons_zero, List.set_cons_succ]
                    refine wpAnyH_take (i := 3) (v := .pointer (some ⟨bb, o + k * 5, none⟩)) rfl (by kernel_rfl) (by kernel_rfl) (by kernel_rfl) (fun _ _ _ h => h) (.inl ⟨by rfl, ?_⟩) (by assumption) ?_
                    · intro W hW; go_simp
                    try simp only [List.getElem_toArray, List.getElem_cons_zero, List.getElem_cons_succ, Act.put, List.setIfInBounds_toArray, List.set_cons_zero, List.set_cons_succ]
                    refine wpAnyH_take (i := 4) (v := .pointer (some ⟨bb, o + k * 5, none⟩)) rfl (by kernel_rfl) (by kernel_rfl) (by kernel_rfl) (fun _ _ _ h => h) (.inl ⟨by rfl, ?_⟩) (by assumption) ?_
                    · intro W hW; go_simp
                    try simp only [List.getElem_toArray, List.getElem_cons_zero, List.getElem_cons_succ, Act.put, List.setIfInBounds_toArray, List.set_cons_zero, List.set_cons_succ]
                    refine wpAnyH_take (i := 5) (v := .int .u64 x.nu) rfl (by kernel_rfl) (by kernel_rfl) (by kernel_rfl) (fun _ _ _ h => h) (.inl ⟨by rfl, ?_⟩) (by assumption) ?_
                    · intro W hW; have kk := C0.out W hW; go_simp
                    try simp only [List.getElem_toArray, List.getElem_cons_zero, List.getElem_cons_succ, Act.put, List.setIfInBounds_toArray, List.set_cons_zero, List.set_cons_succ]
                    refine wpAnyH_take (i := 6) (v := .slice (some ⟨bb, o, none⟩) j c) rfl (by kernel_rfl) (by kernel_rfl) (by kernel_rfl) (fun _ _ _ h => h) (.inl ⟨by rfl, ?_⟩) (by assumption) ?_
                    · intro W hW; go_simp
                    try simp only [List.getElem_toArray, List.getElem_cons_zero, List.getElem_cons_succ, Act.put, List.setIfInBounds_toArray, List.set_cons_zero, List.set_cons_succ]
                    refine wpAnyH_take (i := 7) (v := .int .i64 k) rfl (by kernel_rfl) (by kernel_rfl) (by kernel_rfl) (fun _ _ _ h => h) (.inl ⟨by rfl, ?_⟩) (by assumption) ?_
                    · intro W hW; go_simp
                    try simp only [List.getElem_toArray, List.getElem_cons_zero, List.getElem_cons_succ, Act.put, List.setIfInBounds_toArray, List.set_cons_zero, List.set_cons_succ]
                    refine wpAnyH_take (i := 8) (v := .pointer (some ⟨bb, o + k * 5, none⟩)) rfl (by kernel_rfl) (by kernel_rfl) (by kernel_rfl) (fun _ _ _ h => h) (.inl ⟨by rfl, ?_⟩) (by assumption) ?_
                    · intro W hW; go_simp
                    try simp only [List.getElem_toArray, List.getElem_cons_zero, List.getElem_cons_succ, Act.put, List.setIfInBounds_toArray, List.set_cons_zero, List.set_cons_succ]
                    refine wpAnyH_take (i := 9) (v := .pointer (some ⟨bb, o + k * 5 + 1, none⟩)) rfl (by kernel_rfl) (by kernel_rfl) (by kernel_rfl) (fun _ _ _ h => h) (.inl ⟨by rfl, ?_⟩) (by assumption) ?_
                    · intro W hW; go_simp
                    try simp only [List.getElem_toArray, List.getElem_cons_zero, List.getElem_cons_succ, Act.put, List.setIfInBounds_toArray, List.set_cons_zero, List.set_cons_succ]
                    refine wpAnyH_take (i := 10) (v := .int .u32 x.ac) rfl (by kernel_rfl) (by kernel_rfl) (by kernel_rfl) (fun _ _ _ h => h) (.inl ⟨by rfl, ?_⟩) (by assumption) ?_
                    · intro W hW; have kk := C1.out W hW; go_simp
                    try simp only [List.getElem_toArray, List.getElem_cons_zero, List.getElem_cons_succ, Act.put, List.setIfInBounds_toArray, List.set_cons_zero, List.set_cons_succ]
                    refine wpAnyH_take (i := 11) (v := .int .i64 x.le) rfl (by kernel_rfl) (by kernel_rfl) (by kernel_rfl) (fun _ _ _ h => h) (.inl ⟨by rfl, ?_⟩) (by assumption) ?_
                    · intro W hW; go_simp
                    try simp only [List.getElem_toArray, List.getElem_cons_zero, List.getElem_cons_succ, Act.put, List.setIfInBounds_toArray, List.set_cons_zero, List.set_cons_succ]
                    refine wpAnyH_take (i := 12) (v := .agg #[.int .u64 x.nu, .int .u32 x.ac, .int .i64 x.le]) rfl (by kernel_rfl) (by kernel_rfl) (by kernel_rfl) (fun _ _ _ h => h) (.inl ⟨by rfl, ?_⟩) (by assumption) ?_
                    · intro W hW; go_simp
                    try simp only [List.getElem_toArray, List.getElem_cons_zero, List.getElem_cons_succ, Act.put, List.setIfInBounds_toArray, List.set_cons_zero, List.set_cons_succ]
                    have ov := gown_same (W := W6.drew) OV.out (fun _ _ => rfl)
                    refine wpAnyH_ready (rs := [13]) (by decide +kernel) (by simp) (AllReadyH.cons rfl (fun KQ hK => ?_) AllReadyH.nil)
                    rw [if_pos (by rfl)]
                    refine gwp_bs TF rfl (s := ⟨x.nu, x.ac, x.le⟩) rfl (fill_fl _) ?_ (by decide)
                    have hH1 := fr_alloc8 hH (.cells (EF.cells ⟨x.nu, x.ac, x.le⟩).toArray 36)
                    have xf := bf_of8 hH ⟨x.nu, x.ac, x.le⟩
                    replace ov := gown_below ov (below_new _ (.cells (EF.cells ⟨x.nu, x.ac, x.le⟩).toArray 36))
                    refine hK.out _ _ hH1 (fun _ => ?_)
                    clear hK hH
                    have hH := hH1
                    clear hH1
                    try simp only [List.getElem_toArray, List.getElem_cons_zero, List.getElem_cons_succ, Act.put, List.setIfInBounds_toArray, List.set_cons_zero, List.set_cons_succ]
                    refine wpAnyH_ready (rs := [14]) (by decide +kernel) (by simp) (AllReadyH.cons rfl (fun KQ hK => ?_) AllReadyH.nil)
                    rw [if_pos (by rfl)]
                    have hsz := hH.size
                    refine gwp_app TF _ _ rfl w.heap.size v fl rfl ov _ 1 1 [⟨x.nu, x.ac, x.le⟩] rfl (gbx_rd xf) (fun e => by cases e) (by omega) (by omega) ?_
                    intro v1 w2 o1 g1 e1
                    have hH1 := hH.same (Fr.grown g1 (fun k hk => hk))
                    refine hK.out _ _ hH1 (fun _ => ?_)
                    clear hK hH
                    have hH := hH1
                    clear hH1
                    try simp only [List.getElem_toArray, List.getElem_cons_zero, List.getElem_cons_succ, Act.put, List.setIfInBounds_toArray, List.set_cons_zero, List.set_cons_succ]
                    refine wpAnyH_take (i := 15) (v := v1) rfl (by kernel_rfl) (by kernel_rfl) (by kernel_rfl) (fun _ _ _ h => h) (.inl ⟨by rfl, ?_⟩) (by assumption) ?_
                    · intro W hW; go_simp
                    try simp only [List.getElem_toArray, List.getElem_cons_zero, List.getElem_cons_succ, Act.put, List.setIfInBounds_toArray, List.set_cons_zero, List.set_cons_succ]
                    refine wpAnyH_done (by decide +kernel) ?_ _
                    go_wp2_with fail
                    go_roundw
                    case rel => exact FIN.out _ _ o1 hH
                    case measure => simp [intOf]; omega
end Go.Proofs.Ytcjianjnedbjkaa
