/- ExposeCovers, walked. -/
import Derived.Test.YtcpcnjiphiokjaaExv
import Derived.Test.YtcpcnjiphiokjaaExo
import Derived.BigQuiet
namespace Go.Proofs.Ytcpcnjiphiokjaa
open Go.RowKit Go.Shelf
set_option linter.unusedVariables false
set_option linter.unusedSimpArgs false

theorem sumO_take {f : Or → Int} {l : List Or} (h : ∀ x, x ∈ l → 0 ≤ f x) (k : Nat) : sumO f (l.take k) ≤ sumO f l := by
  have e : sumO f l = sumO f (l.take k) + sumO f (l.drop k) := by rw [← sumO_app, List.take_append_drop]
  have : ∀ m : List Or, (∀ x, x ∈ m → 0 ≤ f x) → 0 ≤ sumO f m := by
    intro m
    induction m with
    | nil => intro _; exact Int.le_refl _
    | cons x r ih => intro hh; have := ih fun y hy => hh y (List.mem_cons_of_mem _ hy); have := hh x (List.mem_cons_self ..); show 0 ≤ f x + sumO f r; omega
  have := this (l.drop k) fun x hx => h x (List.mem_of_mem_drop hx)
  omega
/-- Where the fills stand behind k orders. -/
structure Fl (x : Sk) (k : Nat) (q loss : Int) : Prop where
  lo : x.lg.q - sumO seK (x.os.take k) ≤ q
  hi : q ≤ x.lg.q + sumO buK (x.os.take k)
  ls : loss ≤ sumO (ovK x.pr) (x.os.take k)
  l0 : -(k * 10000000000000 : Int) ≤ loss
theorem Fl.start (x : Sk) : Fl x 0 x.lg.q 0 := ⟨by show x.lg.q - 0 ≤ _; omega, by show _ ≤ x.lg.q + 0; omega, Int.le_refl _, by omega⟩
theorem mul_mono11 {k le d M : Int} (h0 : 0 ≤ k) (h1 : k ≤ le) (hd : d ≤ M) (hM : 0 ≤ M) : k * d ≤ M * le := by
  have a := Int.mul_le_mul_of_nonneg_left hd h0
  have b := Int.mul_le_mul_of_nonneg_right h1 hM
  rw [Int.mul_comm le M] at b
  omega
theorem Fl.bd {x : Sk} (hb : stkB x = true) {k : Nat} {q loss : Int} (h : Fl x k q loss) (hk : k ≤ 250) : (-260000000 ≤ q ∧ q ≤ 260000000) ∧ -2500000000000000 ≤ loss ∧ loss ≤ 2500000000000000 := by
  obtain ⟨hi, hq, _, hl, hm⟩ := stkB_iff.1 hb
  have p := part_bd hl hm (stk_pr hb) k
  have := h.lo
  have := h.hi
  have := h.ls
  have := h.l0
  omega
theorem Fl.end {x : Sk} (hb : stkB x = true) {k : Nat} {q loss : Int} (h : Fl x k q loss) : x.lg.q - sK x ≤ q ∧ q ≤ x.lg.q + bK x ∧ loss ≤ oK x := by
  obtain ⟨_, _, _, _, hm⟩ := stkB_iff.1 hb
  have a := sumO_take (f := seK) (l := x.os) (fun o ho => (seK_bd (hm o ho)).1) k
  have b := sumO_take (f := buK) (l := x.os) (fun o ho => (buK_bd (hm o ho)).1) k
  have c := sumO_take (f := ovK x.pr) (l := x.os) (fun o ho => (ovK_bd (hm o ho) (stk_pr hb)).1) k
  have := h.lo
  have := h.hi
  have := h.ls
  unfold sK bK oK
  omega
theorem step_bd11 {a b : Int} (ha : 0 ≤ a ∧ a ≤ 1000000) (hb : -10000000 ≤ b ∧ b ≤ 10000000) : -10000000000000 ≤ a * b ∧ a * b ≤ 10000000000000 := by
  have := mulb (a := a) (A := 1000000) (b := b) (B := 10000000) (by omega) hb
  omega
theorem Fl.buy {x : Sk} {k : Nat} {q loss : Int} (h : Fl x k q loss) {o : Or} (ho : x.os[k]? = some o) (hb : o.bu = true) (hm : mayO o = true) (hp : 1 ≤ x.pr ∧ x.pr ≤ 10000000) {f : Int} (h0 : 0 ≤ f) (h1 : f ≤ o.le) : Fl x (k + 1) (q + f) (loss + f * (o.pr - x.pr)) := by
  obtain ⟨e1, e2, e3⟩ := bu_t hb x.pr
  obtain ⟨_, _, ⟨m1, m2⟩, m3, m4⟩ := mayO_iff.1 hm
  have t := take_g ho
  have s := step_bd11 (a := f) (b := o.pr - x.pr) (by omega) (by omega)
  have m := mul_mono11 (k := f) (le := o.le) (d := o.pr - x.pr) (M := max (o.pr - x.pr) 0) h0 h1 (by omega) (by omega)
  have := h.lo
  have := h.hi
  have := h.ls
  have := h.l0
  constructor
  · rw [t, sumO_snoc, e2]; omega
  · rw [t, sumO_snoc, e1]; omega
  · rw [t, sumO_snoc, e3]; omega
  · push_cast; omega
theorem Fl.sell {x : Sk} {k : Nat} {q loss : Int} (h : Fl x k q loss) {o : Or} (ho : x.os[k]? = some o) (hb : o.bu = false) (hm : mayO o = true) (hp : 1 ≤ x.pr ∧ x.pr ≤ 10000000) {f : Int} (h0 : 0 ≤ f) (h1 : f ≤ o.le) : Fl x (k + 1) (q - f) (loss + f * (x.pr - o.pr)) := by
  obtain ⟨e1, e2, e3⟩ := bu_f hb x.pr
  obtain ⟨_, _, ⟨m1, m2⟩, m3, m4⟩ := mayO_iff.1 hm
  have t := take_g ho
  have s := step_bd11 (a := f) (b := x.pr - o.pr) (by omega) (by omega)
  have m := mul_mono11 (k := f) (le := o.le) (d := x.pr - o.pr) (M := max (x.pr - o.pr) 0) h0 h1 (by omega) (by omega)
  have := h.lo
  have := h.hi
  have := h.ls
  have := h.l0
  constructor
  · rw [t, sumO_snoc, e2]; omega
  · rw [t, sumO_snoc, e1]; omega
  · rw [t, sumO_snoc, e3]; omega
  · push_cast; omega
set_option maxRecDepth 100000 in
set_option maxHeartbeats 8000000 in
theorem covers11_all (x : Sk) (A : Option Addr) (n c : Nat) (l : List Int) (w : World) (ok : x.ok) (hin : x.In w) (h : EI.Rd w A n l) (hok : ∀ x, x ∈ l → I64 x) (hn : n ≤ maxLen) (h0 : A = none → c = 0) :
    Calls Try.prog 6 #[.agg (EK.cells x).toArray, .slice A n c] w fun e w' => e = .returned (.bool true) ∧ Below w.heap.size w w' := by
  have hz := zero_o11
  obtain ⟨W1, hW1⟩ : ∃ W1, w.alloc (.cells (EK.cells x).toArray 33) = W1 := ⟨_, rfl⟩
  have x1 : EK.Bx 33 W1 w.heap.size x := by rw [← hW1]; exact gbx_new w x
  have b1 : Below w.heap.size w W1 := by rw [← hW1]; exact below_new w _
  have i1 : x.In W1 := grd_below hin b1 (Nat.le_refl _)
  have KN := Lib.hid fun (U : World) (qU : Below W1.heap.size W1 U) => (known11 U).mono (fun e W h => (⟨h.1, b1.trans ((qU.trans (h.2.mono qU.size)).mono b1.size)⟩ : e = .returned (.bool true) ∧ Below w.heap.size w W))
  have HX := Lib.hid fun (w2 : World) (q : Below W1.heap.size W1 w2) => (show EK.Bx 33 w2 w.heap.size x from gbx_below x1 q)
  have HR := Lib.hid fun (w2 : World) (q : Below W1.heap.size W1 w2) => (show EO.Rd w2 x.A x.n x.os from grd_below i1 q (Nat.le_refl _))
  have HF := Lib.hid fun (w2 : World) (q : Below W1.heap.size W1 w2) => (show EI.Rd w2 A n l from grd_below (grd_below h b1 (Nat.le_refl _)) q (Nat.le_refl _))
  have k28 := bk_os x1
  have HW := Lib.hid hW1
  have HL := Lib.hid h.1
  have HO := Lib.hid hin.1
  have hxn := ok.hn
  unfold maxLen at hn hxn
  have B0 := Lib.hid (Below.refl W1.heap.size W1)
  by_cases c1 : 100 < x.n
  · have d1 : decide ((100 : Int) < (x.n : Int)) = true := decide_eq_true (by omega)
    clear x1 b1 i1 ok hin h hok hW1
    go_enter Try.func6, Try.ntmps6
    go_wp2_with (rw [HW.out])
    refine (KN.out _ B0.out).mono ?_; rintro e w3 ⟨rfl, q3⟩
    have Q3 := Lib.hid q3
    clear q3
    go_wp2_with fail
    go_ret
    exact ⟨rfl, Q3.out⟩
  have d1 : decide ((100 : Int) < (x.n : Int)) = false := decide_eq_false (by omega)
  by_cases c2 : 100 < n
  · have d2 : decide ((100 : Int) < (n : Int)) = true := decide_eq_true (by omega)
    clear x1 b1 i1 ok hin h hok hW1
    go_enter Try.func6, Try.ntmps6
    go_wp2_with (rw [HW.out])
    refine (KN.out _ B0.out).mono ?_; rintro e w3 ⟨rfl, q3⟩
    have Q3 := Lib.hid q3
    clear q3
    go_wp2_with fail
    go_ret
    exact ⟨rfl, Q3.out⟩
  have d2 : decide ((100 : Int) < (n : Int)) = false := decide_eq_false (by omega)
  have RG := Lib.hid (bk_rng x1)
  obtain ⟨W2, hW2⟩ : ∃ W, W1.alloc (.cells (EK.cells x).toArray 33) = W := ⟨_, rfl⟩
  have b2 : Below W1.heap.size W1 W2 := by rw [← hW2]; exact below_new W1 _
  have x2 : EK.Bx 33 W2 W1.heap.size x := by rw [← hW2]; exact gbx_new W1 x
  have ND := Lib.hid (need11 (some ⟨W1.heap.size, 0, none⟩) 1 1 [x] W2 (gbx_rd x2) (fun y hy => by rw [List.mem_singleton.1 hy]; exact ⟨ok, grd_below i1 b2 (Nat.le_refl _)⟩) (by decide))
  have Q2 := Lib.hid b2
  have HW2 := Lib.hid hW2
  by_cases c3 : neE [x] = 0
  case neg =>
    have c4 : (neE [x] != 0) = true := bne_iff_ne.2 c3
    rw [ne_bad c3, nd_cells] at ND
    generalize neE [x] = me at *
    clear x1 b1 i1 ok hin h hok hW1 b2 x2 hW2 c3
    go_enter Try.func6, Try.ntmps6
    go_wp2_with (first | (rw [HW.out]) | ((with_reducible refine gwl_load TK w.heap.size 0 RG.out ?_ ?_ ?_); rfl; rfl) | ((with_reducible refine wl_sk11 (s := x) ?_ ?_); rfl; rw [HW2.out]))
    refine ND.out.mono ?_; rintro e w3 ⟨rfl, q3⟩
    have Q3 := Lib.hid (Q2.out.trans ((q3.trans ((below_new w3 (.cells #[.int .i64 zeroNd.m, .int .i64 zeroNd.w, .int .i64 zeroNd.u] 35)).mono q3.size)).mono Q2.out.size))
    clear q3
    go_wp2_with fail
    refine (KN.out _ Q3.out).mono ?_; rintro e w4 ⟨rfl, q4⟩
    have Q4 := Lib.hid q4
    clear q4
    go_wp2_with fail
    go_ret
    exact ⟨rfl, Q4.out⟩
  obtain ⟨o1, o2⟩ := one_ne c3 (List.mem_singleton.2 rfl)
  have hb : stkB x = true := (ne_ok c3).1.2 x (List.mem_singleton.2 rfl)
  rw [o1, o2, nd_cells] at ND
  dsimp only at ND
  have HB := Lib.hid hb
  have OK := Lib.hid ok
  have SH := Lib.hid (legB_sh (stk_leg hb))
  have hq := (stkB_iff.1 hb).2.1
  have SC := Lib.hid fun (q : Int) (W : World) (hq : -1000000000 ≤ q ∧ q ≤ 1000000000) => (show Calls Try.prog 14 #[.agg (arr10 x.lg.sp.sh), .int .i64 q] W fun e w' => e = .returned (.tuple #[.int .i64 (wst x.lg.sp.sh q), .int .i64 0]) ∧ Below W.heap.size W w' by
    have := scan10 x.lg.sp.sh q W x.lg.len ok.lg.sp.sh (by unfold I64; omega)
    rwa [(scan_is SH.out hq).1, (scan_is SH.out hq).2] at this)
  have LN := Lib.hid x.lg.len
  have WB := Lib.hid fun (q : Int) (hq : -1000000000 ≤ q ∧ q ≤ 1000000000) => (show 0 ≤ wst x.lg.sp.sh q ∧ wst x.lg.sp.sh q ≤ 10000000000000000 from ⟨wst_pos _ _, wst_max (M := 1000000000) SH.out hq⟩)
  have ww := wsK_bd hb
  have S0 := Lib.hid fun W => SC.out x.lg.q W (by omega)
  have w0 := WB.out x.lg.q (by omega)
  have CV := Lib.hid fun (q loss : Int) (k : Nat) (h : Fl x k q loss) => (show wst x.lg.sp.sh q + loss ≤ wst x.lg.sp.sh x.lg.q + wsK x from covers hb (h.end hb).1 (h.end hb).2.1 (h.end hb).2.2)
  obtain ⟨was, hwas⟩ : ∃ v, wst x.lg.sp.sh x.lg.q = v := ⟨_, rfl⟩
  obtain ⟨ws, hws⟩ : ∃ v, wsK x = v := ⟨_, rfl⟩
  rw [hwas] at S0 w0 CV
  rw [hws] at ND ww CV
  obtain ⟨mk, hmk⟩ : ∃ v, max (mkK x) 0 = v := ⟨_, rfl⟩
  obtain ⟨mm, hmm⟩ : ∃ v, marN [x.lg] = v := ⟨_, rfl⟩
  rw [hmk, hmm] at ND
  obtain ⟨v1, v2⟩ := ww
  obtain ⟨v3, v4⟩ := w0
  have FI := Lib.hid hok
  clear x1 b1 i1 ok hin h hok hW1 b2 x2 hW2 c3 o1 o2 hb hwas hws hmk hmm
  go_enter Try.func6, Try.ntmps6
  go_wp2_with (first | (rw [HW.out]) | ((with_reducible refine gwl_load TK w.heap.size 0 RG.out ?_ ?_ ?_); rfl; rfl) | ((with_reducible refine wl_sk11 (s := x) ?_ ?_); rfl; rw [HW2.out]))
  refine ND.out.mono ?_; rintro e w3 ⟨rfl, q3⟩
  obtain ⟨W4, hW4⟩ : ∃ W, w3.alloc (.cells #[.int .i64 mm, .int .i64 ws, .int .i64 mk] 35) = W := ⟨_, rfl⟩
  have n4 : EN.Bx 35 W4 w3.heap.size ⟨mm, ws, mk⟩ := by rw [← hW4]; exact gbx_new (E := EN) w3 ⟨mm, ws, mk⟩
  have Q4 := Lib.hid (Q2.out.trans ((q3.trans ((show Below w3.heap.size w3 W4 by rw [← hW4]; exact below_new w3 _).mono q3.size)).mono Q2.out.size))
  have NB := Lib.hid fun (W : World) (q : Below W4.heap.size W4 W) => (show W.cell? ⟨w3.heap.size, 1, none⟩ = some (.int .i64 ws) from gbx_cell (gbx_below n4 q) 1)
  have HW4 := Lib.hid hW4
  have A4 := Lib.hid (bk_arr (HX.out W4 Q4.out))
  have c25 := bk_q (HX.out W4 Q4.out)
  clear q3 n4 hW4 k28
  go_wp2_with (first | (rw [HW4.out]) | ((with_reducible refine wl_arr10 LN.out w.heap.size 6 A4.out ?_ ?_ ?_); rfl; rfl))
  refine (S0.out _).mono ?_; rintro e w5 ⟨rfl, q5⟩
  have Q5' := Lib.hid q5
  have Q5 := Lib.hid (Q4.out.trans (q5.mono Q4.out.size))
  have c25' := bk_q (HX.out w5 Q5.out)
  have c28 := bk_os (HX.out w5 Q5.out)
  clear q5 c25
  go_wp2_with fail
  go_loopw [9, 10, 52] (fun a b i wr => ∃ (k : Nat) (q L : Int), k ≤ x.n ∧ i = .int .i64 k ∧ a = .int .i64 q ∧ b = .int .i64 L ∧ Fl x k q L ∧ Below w5.heap.size w5 wr) (fun _ _ i _ => x.n - (intOf i).toNat)
  case atStart => exact ⟨0, _, _, Nat.zero_le _, rfl, rfl, rfl, Fl.start x, Below.refl _ _⟩
  case round =>
    obtain ⟨k, q, L, hk, rfl, rfl, rfl, hf, hb⟩ := hrel
    have BB := Lib.hid hb
    have FL := Lib.hid hf
    have fb := hf.bd HB.out (by omega)
    obtain ⟨⟨f1, f2⟩, f3, f4⟩ := fb
    have R6 := Lib.hid (Q5.out.trans (BB.out.mono Q5.out.size))
    clear hf hb c25' c28
    have c28 := bk_os (HX.out wr R6.out)
    by_cases hlt : k < x.n
    case neg =>
      obtain ⟨xn, hxe⟩ : ∃ m, x.n = m := ⟨_, rfl⟩
      rw [hxe] at hk hlt ⊢ c28
      obtain rfl : k = xn := by omega
      have s0 := SC.out q wr (by omega)
      have w1 := WB.out q (by omega)
      have cv := CV.out q L k FL.out
      obtain ⟨nw, hnw⟩ : ∃ v, wst x.lg.sp.sh q = v := ⟨_, rfl⟩
      rw [hnw] at s0 w1 cv
      have S1 := Lib.hid s0
      obtain ⟨v5, v6⟩ := w1
      have A6 := Lib.hid (bk_arr (HX.out wr R6.out))
      have dv : decide (nw + L ≤ was + ws) = true := decide_eq_true cv
      clear s0 hnw
      go_wp2_with ((with_reducible refine wl_arr10 LN.out w.heap.size 6 A6.out ?_ ?_ ?_); rfl; rfl)
      refine S1.out.mono ?_; rintro e w7 ⟨rfl, q7⟩
      have R7 := Lib.hid (R6.out.trans (q7.mono R6.out.size))
      have c51 := NB.out w7 (Q5'.out.trans ((BB.out.trans (q7.mono BB.out.size)).mono Q5'.out.size))
      clear q7 c28
      go_wp2_with fail
      refine (KN.out _ R7.out).mono ?_; rintro e w8 ⟨rfl, q8⟩
      have Q8 := Lib.hid q8
      clear q8
      go_wp2_with fail
      go_ret
      exact ⟨rfl, Q8.out⟩
    case pos =>
      have hdk : decide ((k : Int) < (x.n : Int)) = true := decide_eq_true (by omega)
      have hki : (k : Int) < (x.n : Int) := by omega
      by_cases hbr : n ≤ k
      · have dn : decide ((n : Int) ≤ (k : Int)) = true := decide_eq_true (by omega)
        have s0 := SC.out q wr (by omega)
        have w1 := WB.out q (by omega)
        have cv := CV.out q L k FL.out
        obtain ⟨nw, hnw⟩ : ∃ v, wst x.lg.sp.sh q = v := ⟨_, rfl⟩
        rw [hnw] at s0 w1 cv
        have S1 := Lib.hid s0
        obtain ⟨v5, v6⟩ := w1
        have A6 := Lib.hid (bk_arr (HX.out wr R6.out))
        have dv : decide (nw + L ≤ was + ws) = true := decide_eq_true cv
        clear s0 hnw
        go_wp2_with ((with_reducible refine wl_arr10 LN.out w.heap.size 6 A6.out ?_ ?_ ?_); rfl; rfl)
        refine S1.out.mono ?_; rintro e w7 ⟨rfl, q7⟩
        have R7 := Lib.hid (R6.out.trans (q7.mono R6.out.size))
        have c51 := NB.out w7 (Q5'.out.trans ((BB.out.trans (q7.mono BB.out.size)).mono Q5'.out.size))
        clear q7 c28
        go_wp2_with fail
        refine (KN.out _ R7.out).mono ?_; rintro e w8 ⟨rfl, q8⟩
        have Q8 := Lib.hid q8
        clear q8
        go_wp2_with fail
        go_ret
        exact ⟨rfl, Q8.out⟩
      · have dn : decide ((n : Int) ≤ (k : Int)) = false := decide_eq_false (by omega)
        have hkn : (k : Int) < (n : Int) := by omega
        obtain ⟨o, ho⟩ : ∃ o, x.os[k]? = some o := ⟨x.os[k]'(by have := HO.out; omega), List.getElem?_eq_getElem _⟩
        obtain ⟨f, hf⟩ : ∃ f, l[k]? = some f := ⟨l[k]'(by have := HL.out; omega), List.getElem?_eq_getElem _⟩
        have may := (stkB_iff.1 HB.out).2.2.2.2 o (List.mem_of_getElem? ho)
        have HM := Lib.hid may
        have HHO := Lib.hid ho
        obtain ⟨_, _, ⟨m1, m2⟩, m3, m4⟩ := mayO_iff.1 may
        have hp := stk_pr HB.out
        have fI := FI.out f (List.mem_of_getElem? hf)
        obtain ⟨bb, oo, eA, rg⟩ := grd_rng (HR.out _ R6.out) ho
        rw [eA] at c28
        have RGO : Hid (wr.rangeAt bb (oo + k * 5) (EO.cells o)) := Lib.hid rg
        obtain ⟨fb, fo, rfl, rf⟩ := grd_rng (HF.out _ R6.out) hf
        have X1 := Lib.hid (gbx_new (E := EO) (te := 41) wr zeroOr)
        obtain ⟨W7, hW7⟩ : ∃ W2, (wr.alloc (.cells (EO.cells zeroOr).toArray 41)).setRow wr.heap.size (EO.cells o).toArray = W2 := ⟨_, rfl⟩
        have x7 : EO.Bx 41 W7 wr.heap.size o := by rw [← hW7]; exact gbx_set X1.out
        have B7 : Hid (Below wr.heap.size wr W7) := Lib.hid (by rw [← hW7]; exact below_row0 (below_new _ _) (Nat.le_refl _))
        have R7 := Lib.hid (R6.out.trans (B7.out.mono R6.out.size))
        have g2 := bo_at x7 2 rfl
        have g3 := bo_at x7 3 rfl
        have g4 := bo_at x7 4 rfl
        have g27 := bk_pr (HX.out W7 R7.out)
        have gf : W7.cell? ⟨fb, fo + k, none⟩ = some (.int .i64 f) := by
          have := (rng_below rf B7.out (Nat.le_refl _)) 0 (.int .i64 f) rfl
          simpa [EI] using this
        have HW7 := Lib.hid hW7
        obtain ⟨p1, p2⟩ := hp
        clear rg rf x7 hW7 ho hf may eA
        unfold I64 at fI
        obtain ⟨i1, i2⟩ := fI
        have wf0 := wr_bd f
        obtain ⟨e, he⟩ : ∃ e, o.le + 1 = e := ⟨_, rfl⟩
        obtain ⟨fu, hfu⟩ : ∃ e, IntKind.u64.wrap f = e := ⟨_, rfl⟩
        rw [hfu] at wf0
        obtain ⟨wf1, wf2⟩ := wf0
        have e1 : 2 ≤ e := by omega
        have e2 : e ≤ 1000001 := by omega
        have e3 : (e == 0) = false := by simp; omega
        have mp := Int.emod_nonneg fu (show e ≠ 0 by omega)
        have ml := Int.emod_lt_of_pos fu (show 0 < e by omega)
        have tm : fu.tmod e = fu % e := Int.tmod_eq_emod_of_nonneg wf1
        obtain ⟨r, hr⟩ : ∃ r, fu % e = r := ⟨_, rfl⟩
        rw [hr] at mp ml tm
        go_wp2_with (first | ((with_reducible refine gwl_load TO bb (oo + k * 5) RGO.out ?_ ?_ ?_); rfl; rfl) | (refine gwl_store TO o wr.heap.size X1.out rfl rfl ?_; rw [HW7.out]))
        refine wp_region_held_drew (S := fun U => Below W7.heap.size W7 U) (by kernel_rfl) (Below.refl _ _).drew (fun hH => ?_)
        have GF := Lib.hid fun (W : World) (q : Below W7.heap.size W7 W) => (show W.cell? ⟨fb, fo + k, none⟩ = some (.int .i64 f) from cell_below gf q (Nat.le_refl _))
        have G4 := Lib.hid fun (W : World) (q : Below W7.heap.size W7 W) => (show W.cell? ⟨wr.heap.size, 4, none⟩ = some (.int .i64 o.le) from cell_below g4 q (Nat.le_refl _))
        have G2 := Lib.hid fun (W : World) (q : Below W7.heap.size W7 W) => (show W.cell? ⟨wr.heap.size, 2, none⟩ = some (.bool o.bu) from cell_below g2 q (Nat.le_refl _))
        have G3 := Lib.hid fun (W : World) (q : Below W7.heap.size W7 W) => (show W.cell? ⟨wr.heap.size, 3, none⟩ = some (.int .i64 o.pr) from cell_below g3 q (Nat.le_refl _))
        have G27 := Lib.hid fun (W : World) (q : Below W7.heap.size W7 W) => (show W.cell? ⟨w.heap.size, 27, none⟩ = some (.int .i64 x.pr) from cell_below g27 q (Nat.le_refl _))
        clear gf g2 g3 g4 g27
        refine wpAnyH_take (i := 0) (v := .slice (some ⟨fb, fo, none⟩) n c) rfl (by kernel_rfl) (by kernel_rfl) (by kernel_rfl) (fun _ _ _ h => h) (.inl ⟨by rfl, ?_⟩) (by assumption) ?_
        · intro W hW; go_simp
        try simp only [List.getElem_toArray, List.getElem_cons_zero, Act.put, List.setIfInBounds_toArray, List.set_cons_zero, List.set_cons_succ]
        refine wpAnyH_take (i := 1) (v := .int .i64 k) rfl (by kernel_rfl) (by kernel_rfl) (by kernel_rfl) (fun _ _ _ h => h) (.inl ⟨by rfl, ?_⟩) (by assumption) ?_
        · intro W hW; go_simp
        try simp only [List.getElem_toArray, List.getElem_cons_zero, List.getElem_cons_succ, Act.put, List.setIfInBounds_toArray, List.set_cons_zero, List.set_cons_succ]
        refine wpAnyH_take (i := 2) (v := .pointer (some ⟨fb, fo + k, none⟩)) rfl (by kernel_rfl) (by kernel_rfl) (by kernel_rfl) (fun _ _ _ h => h) (.inl ⟨by rfl, ?_⟩) (by assumption) ?_
        · intro W hW; go_simp
        try simp only [List.getElem_toArray, List.getElem_cons_zero, List.getElem_cons_succ, Act.put, List.setIfInBounds_toArray, List.set_cons_zero, List.set_cons_succ]
        refine wpAnyH_take (i := 3) (v := .int .i64 f) rfl (by kernel_rfl) (by kernel_rfl) (by kernel_rfl) (fun _ _ _ h => h) (.inl ⟨by rfl, ?_⟩) (by assumption) ?_
        · intro W hW; have gf := GF.out W hW; go_simp
        try simp only [List.getElem_toArray, List.getElem_cons_zero, List.getElem_cons_succ, Act.put, List.setIfInBounds_toArray, List.set_cons_zero, List.set_cons_succ]
        refine wpAnyH_take (i := 4) (v := .int .u64 fu) rfl (by kernel_rfl) (by kernel_rfl) (by kernel_rfl) (fun _ _ _ h => h) (.inl ⟨by rfl, ?_⟩) (by assumption) ?_
        · intro W hW; go_simp
        try simp only [List.getElem_toArray, List.getElem_cons_zero, List.getElem_cons_succ, Act.put, List.setIfInBounds_toArray, List.set_cons_zero, List.set_cons_succ]
        refine wpAnyH_take (i := 5) (v := .pointer (some ⟨wr.heap.size, 4, none⟩)) rfl (by kernel_rfl) (by kernel_rfl) (by kernel_rfl) (fun _ _ _ h => h) (.inl ⟨by rfl, ?_⟩) (by assumption) ?_
        · intro W hW; go_simp
        try simp only [List.getElem_toArray, List.getElem_cons_zero, List.getElem_cons_succ, Act.put, List.setIfInBounds_toArray, List.set_cons_zero, List.set_cons_succ]
        refine wpAnyH_take (i := 6) (v := .int .i64 o.le) rfl (by kernel_rfl) (by kernel_rfl) (by kernel_rfl) (fun _ _ _ h => h) (.inl ⟨by rfl, ?_⟩) (by assumption) ?_
        · intro W hW; have g4 := G4.out W hW; go_simp
        try simp only [List.getElem_toArray, List.getElem_cons_zero, List.getElem_cons_succ, Act.put, List.setIfInBounds_toArray, List.set_cons_zero, List.set_cons_succ]
        refine wpAnyH_take (i := 7) (v := .int .i64 e) rfl (by kernel_rfl) (by kernel_rfl) (by kernel_rfl) (fun _ _ _ h => h) (.inl ⟨by rfl, ?_⟩) (by assumption) ?_
        · intro W hW; go_simp <;> (try rw [IntKind.wrap_i64]) <;> (try omega)
        try simp only [List.getElem_toArray, List.getElem_cons_zero, List.getElem_cons_succ, Act.put, List.setIfInBounds_toArray, List.set_cons_zero, List.set_cons_succ]
        refine wpAnyH_take (i := 8) (v := .int .u64 e) rfl (by kernel_rfl) (by kernel_rfl) (by kernel_rfl) (fun _ _ _ h => h) (.inl ⟨by rfl, ?_⟩) (by assumption) ?_
        · intro W hW; go_simp <;> (try rw [IntKind.wrap_u64]) <;> (try omega)
        try simp only [List.getElem_toArray, List.getElem_cons_zero, List.getElem_cons_succ, Act.put, List.setIfInBounds_toArray, List.set_cons_zero, List.set_cons_succ]
        refine wpAnyH_take (i := 9) (v := .int .u64 r) rfl (by kernel_rfl) (by kernel_rfl) (by kernel_rfl) (fun _ _ _ h => h) (.inl ⟨by rfl, ?_⟩) (by assumption) ?_
        · intro W hW; go_simp <;> (try omega)
        try simp only [List.getElem_toArray, List.getElem_cons_zero, List.getElem_cons_succ, Act.put, List.setIfInBounds_toArray, List.set_cons_zero, List.set_cons_succ]
        refine wpAnyH_take (i := 10) (v := .int .i64 r) rfl (by kernel_rfl) (by kernel_rfl) (by kernel_rfl) (fun _ _ _ h => h) (.inl ⟨by rfl, ?_⟩) (by assumption) ?_
        · intro W hW; go_simp <;> (try rw [IntKind.wrap_i64]) <;> (try omega)
        try simp only [List.getElem_toArray, List.getElem_cons_zero, List.getElem_cons_succ, Act.put, List.setIfInBounds_toArray, List.set_cons_zero, List.set_cons_succ]
        refine wpAnyH_take (i := 11) (v := .int .i64 r) rfl (by kernel_rfl) (by kernel_rfl) (by kernel_rfl) (fun _ _ _ h => h) (.inl ⟨by rfl, ?_⟩) (by assumption) ?_
        · intro W hW; go_simp
        try simp only [List.getElem_toArray, List.getElem_cons_zero, List.getElem_cons_succ, Act.put, List.setIfInBounds_toArray, List.set_cons_zero, List.set_cons_succ]
        refine wpAnyH_done (by decide +kernel) ?_ _
        have hle : r ≤ o.le := by omega
        have c2 := G2.out _ hH
        have c3 := G3.out _ hH
        have c27 := G27.out _ hH
        have sb := step_bd11 (a := r) (b := o.pr - x.pr) (by omega) (by omega)
        have sb2 := step_bd11 (a := r) (b := x.pr - o.pr) (by omega) (by omega)
        have HP := Lib.hid (stk_pr HB.out)
        have B8 := Lib.hid (BB.out.trans ((B7.out.trans (hH.mono B7.out.size)).mono BB.out.size))
        obtain ⟨z1, z2⟩ := sb
        obtain ⟨z3, z4⟩ := sb2
        have y1 : -9223372036854775808 ≤ L + r * (o.pr - x.pr) := by omega
        have y2 : L + r * (o.pr - x.pr) ≤ 9223372036854775807 := by omega
        have y3 : -9223372036854775808 ≤ L + r * (x.pr - o.pr) := by omega
        have y4 : L + r * (x.pr - o.pr) ≤ 9223372036854775807 := by omega
        clear hr he hfu tm e3
        cases hbu : o.bu
        · rw [hbu] at c2
          have NX := Lib.hid (FL.out.sell HHO.out hbu HM.out HP.out mp hle)
          clear hbu
          go_wp2_with fail
          go_roundw
          case rel => exact ⟨k + 1, _, _, hlt, by go_num, rfl, rfl, NX.out, B8.out⟩
          case measure => simp [intOf]; omega
        · rw [hbu] at c2
          have NX := Lib.hid (FL.out.buy HHO.out hbu HM.out HP.out mp hle)
          clear hbu
          go_wp2_with fail
          go_roundw
          case rel => exact ⟨k + 1, _, _, hlt, by go_num, rfl, rfl, NX.out, B8.out⟩
          case measure => simp [intOf]; omega
end Go.Proofs.Ytcpcnjiphiokjaa
