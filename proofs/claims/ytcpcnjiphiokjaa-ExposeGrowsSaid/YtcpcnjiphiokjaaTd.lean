/- Legs read out of rows and blocks; the library's search at legs (by genTd.py); Margin's test. -/
import Derived.Test.YtcpcnjiphiokjaaTc
namespace Go.Proofs.Ytcpcnjiphiokjaa
open Go.RowKit Go.Shelf
set_option linter.unusedVariables false
set_option linter.unusedSimpArgs false

section
variable {w : World} {b o : Nat} {x : Lq}
theorem rq_at (h : w.rangeAt b o (EL.cells x)) {j : Nat} {v : Value} (hj : (EL.cells x)[j]? = some v) : w.cell? ⟨b, o + j, none⟩ = some v := h j v hj
theorem rq_nu (h : w.rangeAt b o (EL.cells x)) : w.cell? ⟨b, o, none⟩ = some (.int .u32 x.sp.nu) := rq_at (j := 0) h (by rw [lq_sp (by decide)]; rfl)
theorem rq_ro (h : w.rangeAt b o (EL.cells x)) : w.cell? ⟨b, o + 1, none⟩ = some (.int .u8 x.sp.ro) := rq_at h (by rw [lq_sp (by decide)]; rfl)
theorem rq_cr (h : w.rangeAt b o (EL.cells x)) : w.cell? ⟨b, o + 22, none⟩ = some (.int .i64 x.sp.cr) := rq_at h (by rw [lq_sp (by decide), Sp.c22 x.len])
theorem rq_q (h : w.rangeAt b o (EL.cells x)) : w.cell? ⟨b, o + 25, none⟩ = some (.int .i64 x.q) := rq_at h (lq_q x)
theorem rq_s (h : w.rangeAt b o (EL.cells x)) {k : Nat} (hk : k < 16) : w.cell? ⟨b, o + 6 + k, none⟩ = some (.int .i64 (x.sp.sh.getD k 0)) := by
  rw [Nat.add_assoc]
  exact rq_at h (by rw [lq_sp (by omega), Sp.c6 x.len k hk])
theorem rq_arr (h : w.rangeAt b o (EL.cells x)) : w.rangeAt b (o + 6) (x.sp.sh.map (Value.int .i64)) := fun j v hj => by
  have hjl : j < x.sp.sh.length := by have := (List.getElem?_eq_some_iff.1 hj).1; simpa using this
  rw [rq_s h (by have := x.len; omega), ← hj]
  simp [List.getD, hjl]
theorem rq_sp (h : w.rangeAt b o (EL.cells x)) : w.rangeAt b o x.sp.cellL := fun j v hj => by
  refine h j v ?_
  show (x.sp.cellL ++ _)[j]? = _
  rw [List.getElem?_append_left (List.getElem?_eq_some_iff.1 hj).1, hj]
/-- In a block of its own. -/
theorem bq_rng {te : TypeId} {g : Nat} (h : EL.Bx te w g x) : w.rangeAt g 0 (EL.cells x) := gbx_rng h
theorem bq_nu {te : TypeId} {g : Nat} (h : EL.Bx te w g x) : w.cell? ⟨g, 0, none⟩ = some (.int .u32 x.sp.nu) := rq_nu (bq_rng h)
theorem bq_ro {te : TypeId} {g : Nat} (h : EL.Bx te w g x) : w.cell? ⟨g, 1, none⟩ = some (.int .u8 x.sp.ro) := by have := rq_ro (bq_rng h); rwa [Nat.zero_add] at this
theorem bq_cr {te : TypeId} {g : Nat} (h : EL.Bx te w g x) : w.cell? ⟨g, 22, none⟩ = some (.int .i64 x.sp.cr) := by have := rq_cr (bq_rng h); rwa [Nat.zero_add] at this
theorem bq_q {te : TypeId} {g : Nat} (h : EL.Bx te w g x) : w.cell? ⟨g, 25, none⟩ = some (.int .i64 x.q) := by have := rq_q (bq_rng h); rwa [Nat.zero_add] at this
theorem bq_arr {te : TypeId} {g : Nat} (h : EL.Bx te w g x) : w.rangeAt g 6 (x.sp.sh.map (Value.int .i64)) := by have := rq_arr (bq_rng h); rwa [Nat.zero_add] at this
theorem bq_sp {te : TypeId} {g : Nat} (h : EL.Bx te w g x) : w.rangeAt g 0 x.sp.cellL := rq_sp (bq_rng h)
end
section
variable {ops : Array Oper} {rest : List Oper} {a : Act} {w : World} {Q : Exit → Act → World → Prop} {d : Option Nat} {x : Operand} {ty : TypeId} {ps : String} {af : Array Edge} {gd : Option (Nat × Bool)}
theorem wl_arr10 {l : List Int} (hl : l.length = 16) (b o : Nat) (hb : w.rangeAt b o (l.map (Value.int .i64)))
    (hw : Region.wanted ⟨d, .load 26 x, ty, ps, af, gd⟩ (yielded ops a.tmps) = true) (hx : a.eval x = .pointer (some ⟨b, o, none⟩)) (h : wpList Try.prog ops Q rest (a.put d (.agg (arr10 l))) w) : wpList Try.prog ops Q (⟨d, .load 26 x, ty, ps, af, gd⟩ :: rest) a w :=
  BigFrame.wpList_want hw fun _ hK => wp_load_mid 26 x rfl b o hx (l.map (Value.int .i64)) _ hb Try.underlying26 rfl (by rw [info_arr, List.length_map, hl]) (hK _ _ h)
theorem wl_sp10 {s : Sp} (hl : s.sh.length = 16) (b o : Nat) (hb : w.rangeAt b o s.cellL)
    (hw : Region.wanted ⟨d, .load 28 x, ty, ps, af, gd⟩ (yielded ops a.tmps) = true) (hx : a.eval x = .pointer (some ⟨b, o, none⟩)) (h : wpList Try.prog ops Q rest (a.put d (.agg s.cells)) w) : wpList Try.prog ops Q (⟨d, .load 28 x, ty, ps, af, gd⟩ :: rest) a w :=
  BigFrame.wpList_want hw fun _ hK => wp_load_mid 28 x rfl b o hx s.cellL _ hb Try.underlying28 rfl (by rw [info_sp, sp_lenL hl]) (hK _ _ h)
end
theorem zero_l10 (w : World) : (zeroValue 30).run Try.prog w = .ok (.agg (EL.cells zeroLq).toArray) w := by kernel_rfl

theorem fl_len_l10 (l : List Lq) : (EL.flat l).length = l.length * 26 := gflat_len l
theorem cl_len_l10 (x : Lq) : (EL.cells x).length = 26 := EL.len x
theorem rng_l10 {w W : World} {A : Option Addr} {n B : Nat} {l : List Lq} (h : EL.Rd w A n l) (q : Below B w W) (hB : w.heap.size ≤ B) {k : Nat} {x : Lq} (hx : l[k]? = some x) : ∃ b o, A = some ⟨b, o, none⟩ ∧ W.rangeAt b (o + k * 26) (EL.cells x) :=
  grd_rng (grd_below h q hB) hx

set_option maxRecDepth 100000 in
set_option maxHeartbeats 1000000 in
theorem index_l10 (g : Nat) (lb : Array Value) (p : Lq → Bool) (A : Option Addr) (n c : Nat) (l : List Lq) (w : World) (eg : ∀ args w, (callFunc g args).run Try.prog w = .ok (.enter g args) w) (hp : GTests Try.prog EL Lq.ok g lb p w) (hr : EL.Rd w A n l) (hok : ∀ x, x ∈ l → Lq.ok x) (hn : n ≤ 1000) :
    Calls Try.prog 61 #[.slice A n c, .func (.func g) #[] lb] w fun e w' => e = .returned (.int .i64 (gidx p l)) ∧ Below w.heap.size w w' := by
  have HP := Lib.hid hp
  have HR := Lib.hid hr
  have HK := Lib.hid hok
  have HL := Lib.hid hr.1
  have B0 : Hid (Below w.heap.size w w) := Lib.hid (Below.refl _ _)
  obtain ⟨r, hr1⟩ : ∃ r, gidx p l = r := ⟨_, rfl⟩
  rw [hr1]
  have R1 := Lib.hid hr1
  clear hr1 hp hr hok
  go_enter Try.func61, Try.ntmps61
  go_wp2_with fail
  go_loopw [5, 8] (fun _ i wr => ∃ k : Nat, k ≤ n ∧ i = .int .i64 k ∧ Below w.heap.size w wr ∧ ∀ (j : Nat) (y : Lq), j < k → l[j]? = some y → p y = false) (fun _ i _ => n - (intOf i).toNat)
  case atStart => exact ⟨0, Nat.zero_le _, rfl, B0.out, fun j y hj => absurd hj (Nat.not_lt_zero j)⟩
  case round =>
    obtain ⟨k, hk, rfl, hb, hno⟩ := hrel
    have BW := Lib.hid hb
    have NO := Lib.hid hno
    clear hb hno
    by_cases hlt : k < n
    case pos =>
      have hd : decide ((k : Int) < n) = true := decide_eq_true (by omega)
      have hki : (k : Int) < (n : Int) := by omega
      obtain ⟨x, hx⟩ : ∃ x, l[k]? = some x := ⟨l[k]'(by have := HL.out; omega), List.getElem?_eq_getElem _⟩
      have OK := Lib.hid (HK.out x (List.mem_of_getElem? hx))
      obtain ⟨b, o, rfl, rg⟩ := rng_l10 HR.out BW.out (Nat.le_refl _) hx
      have RG := Lib.hid rg
      have C := Lib.hid (HP.out wr x BW.out OK.out)
      have HX := Lib.hid hx
      clear hx rg
      cases hpx : p x
      · rw [hpx] at C
        have PX := Lib.hid hpx
        clear hpx
        go_wp2_with ((with_reducible refine gwl_load TL b (o + k * 26) RG.out ?_ ?_ ?_); rfl; rfl)
        refine C.out.mono ?_; rintro e w2 ⟨rfl, q⟩
        have Q := Lib.hid q
        clear q
        go_wp2_with fail
        go_roundw
        case rel => exact ⟨k + 1, hlt, by go_num, BW.out.trans (Q.out.mono BW.out.size), fun j y hj hy => by
            rcases Nat.lt_or_ge j k with c | c
            · exact NO.out j y c hy
            · obtain rfl : j = k := by omega
              rw [HX.out] at hy; cases hy; exact PX.out⟩
        case measure => simp [intOf]; omega
      · rw [hpx] at C
        have E : Hid (r = (k : Int)) := Lib.hid (by rw [← R1.out, gidx, gidx_hit HX.out hpx NO.out])
        clear hpx
        go_wp2_with ((with_reducible refine gwl_load TL b (o + k * 26) RG.out ?_ ?_ ?_); rfl; rfl)
        refine C.out.mono ?_; rintro e w2 ⟨rfl, q⟩
        have Q := Lib.hid q
        clear q
        go_wp2_with fail
        go_ret
        rw [E.out]
        exact ⟨rfl, BW.out.trans (Q.out.mono BW.out.size)⟩
    case neg =>
      obtain rfl : k = n := by omega
      have E : Hid (r = -1) := Lib.hid (by rw [← R1.out, gidx, gidx_miss fun j y hy => NO.out j y (by have := (List.getElem?_eq_some_iff.1 hy).1; have := HL.out; omega) hy])
      go_wp2_with fail
      go_ret
      rw [E.out]
      exact ⟨rfl, BW.out⟩

set_option maxRecDepth 100000 in
theorem contains_l10 (g : Nat) (lb : Array Value) (p : Lq → Bool) (A : Option Addr) (n c : Nat) (cs : List Lq) (w : World) (eg : ∀ args w, (callFunc g args).run Try.prog w = .ok (.enter g args) w) (hp : GTests Try.prog EL Lq.ok g lb p w) (hr : EL.Rd w A n cs) (hok : ∀ x, x ∈ cs → x.ok) (hn : n ≤ 1000) :
    Calls Try.prog 41 #[.slice A n c, .func (.func g) #[] lb] w fun e w' => e = .returned (.bool (cs.any p)) ∧ Below w.heap.size w w' := by
  have C := index_l10 g lb p A n c cs w eg hp hr hok hn
  have E : decide (0 ≤ gidx p cs) = cs.any p := by
    rcases gidx_cases p cs with ⟨e, h⟩ | ⟨k, x, e, hk, hx, hpx, _⟩
    · rw [e, List.any_eq_false.2 fun x hx => by rw [h x hx]; decide]; rfl
    · rw [e, List.any_eq_true.2 ⟨x, List.mem_of_getElem? hx, hpx⟩, decide_eq_true (Int.natCast_nonneg k)]
  rw [← E]
  generalize gidx p cs = r at *
  clear hp hr hok E
  go_enter Try.func41, Try.ntmps41
  go_wp2_with fail
  refine C.mono ?_; rintro e w2 ⟨rfl, q⟩
  have Q := Lib.hid q
  clear q
  go_wp2_with fail
  go_ret
  exact ⟨rfl, Q.out⟩
/-- A leg that may not be. -/
def notL (x : Lq) : Bool := !legB x
set_option maxRecDepth 100000 in
set_option maxHeartbeats 2000000 in
theorem not_l10 (w : World) : GTests Try.prog EL Lq.ok 39 #[] notL w := by
  intro W x q ok
  show Calls Try.prog 39 #[.agg (EL.cells x).toArray] W _
  obtain ⟨W1, hW1⟩ : ∃ W1, W.alloc (.cells (EL.cells x).toArray 30) = W1 := ⟨_, rfl⟩
  have x1 : EL.Bx 30 W1 W.heap.size x := by rw [← hW1]; exact gbx_new W x
  have b1 : Below W.heap.size W W1 := by rw [← hW1]; exact below_new W _
  have K2 := Lib.hid fun (w2 : World) (q : Below W1.heap.size W1 w2) => (show w2.cell? ⟨W.heap.size, 25, none⟩ = some (.int .i64 x.q) from bq_q (gbx_below x1 q))
  have X1 := Lib.hid (bq_sp x1)
  have B1 := Lib.hid b1
  have HW := Lib.hid hW1
  have MAY := Lib.hid (pmay_any x.sp W1 ok.sp)
  have WI := Lib.hid (fun W => pwithin_any x.q 10000000 ok.q (by unfold I64; omega) W)
  rw [within_m (by omega)] at WI
  have E : Hid (notL x = !(mayB x.sp && amB x.q (-10000000) 10000000)) := Lib.hid rfl
  have L := Lib.hid x.len
  rw [E.out]
  clear x1 b1 hW1 E ok q
  generalize amB x.q (-10000000) 10000000 = xq at *
  generalize mayB x.sp = xm at *
  go_enter Try.func39, Try.ntmps39
  cases xm
  · go_wp2_with (first | (rw [HW.out]) | ((with_reducible refine wl_sp10 L.out W.heap.size 0 X1.out ?_ ?_ ?_); rfl; rfl))
    refine MAY.out.mono ?_; rintro e w2 ⟨rfl, q2⟩
    have Q2 := Lib.hid q2
    clear q2
    go_wp2_with fail
    go_ret
    exact ⟨by simp, B1.out.trans (Q2.out.mono B1.out.size)⟩
  · go_wp2_with (first | (rw [HW.out]) | ((with_reducible refine wl_sp10 L.out W.heap.size 0 X1.out ?_ ?_ ?_); rfl; rfl))
    refine MAY.out.mono ?_; rintro e w2 ⟨rfl, q2⟩
    have k2 := K2.out w2 q2
    have Q2 := Lib.hid q2
    clear q2
    go_wp2_with fail
    refine (WI.out _).mono ?_; rintro e w3 ⟨rfl, rfl⟩
    go_wp2_with fail
    go_ret
    exact ⟨by cases xq <;> rfl, B1.out.trans (Q2.out.mono B1.out.size)⟩
theorem any_notL (l : List Lq) : l.any notL = !l.all legB := by
  induction l with
  | nil => rfl
  | cons x r ih => rw [List.any_cons, List.all_cons, ih, notL]; cases legB x <;> rfl
end Go.Proofs.Ytcpcnjiphiokjaa
