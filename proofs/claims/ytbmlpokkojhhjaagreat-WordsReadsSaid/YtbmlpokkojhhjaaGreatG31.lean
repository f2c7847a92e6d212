/- Texts of a proof, laid together: Wfo, Wdu, Wdv, Wfp, Wfu, Wdy. -/
import Derived.Test.YtbmlpokkojhhjaaGreatG30
import Derived.Test.YtbmlpokkojhhjaaGreatG28
import Derived.Test.YtbmlpokkojhhjaaGreatG10
import Derived.Test.YtbmlpokkojhhjaaGreatG12
import Derived.Test.YtbmlpokkojhhjaaGreatG17
import Derived.Test.YtbmlpokkojhhjaaGreatG16
import Derived.Test.YtbmlpokkojhhjaaGreatG02
/- The program's words: whether a reply may be. -/
namespace Go.Proofs.YtbmlpokkojhhjaaGreat.Wz
open Go.RowKit
set_option linter.unusedVariables false
set_option linter.unusedSimpArgs false

def eRv (n : Int) : Rv := ⟨n, 0, 0, 0, none, 0, 0, none, 0, 0, none, 0, 0⟩
def eRw (n : Int) : Rw := ⟨n, 0, 0, 0, [], [], []⟩
theorem eRv_ok (n : Int) : (eRv n).ok := by
  refine ⟨?_, ?_, ?_, ?_, ?_, ?_, ?_, ?_, ?_⟩ <;> simp [eRv]
theorem eRw_ok {n : Int} (h : I64 n) : (eRw n).ok := by
  refine ⟨h, ?_, ?_, ?_, fun t h => ?_, fun t h => ?_, fun t h => ?_⟩
  · simp [eRw]
  · simp [eRw, I64]
  · simp [eRw, I64]
  · simp [eRw] at h
  · simp [eRw] at h
  · simp [eRw] at h
theorem eRv_in (n : Int) (w : World) : (eRv n).In w (eRw n) := ⟨rfl, rfl, rfl, rfl, grd_nil _ _, grd_nil _ _, grd_nil _ _⟩
set_option maxRecDepth 100000 in
set_option maxHeartbeats 8000000 in
theorem pmayr15 (v : Rv) (r : Rw) (w : World) (vo : v.ok) (vi : v.In w r) (ro : r.ok) : Calls Tryz.prog 37 #[.agg (ERv.cells v).toArray] w fun e w' => e = .returned (.bool (mrB r)) ∧ Below w.heap.size w w' := by
  obtain ⟨W1, hW1⟩ : ∃ W1, w.alloc (.cells (ERv.cells v).toArray 40) = W1 := ⟨_, rfl⟩
  obtain ⟨g, hg⟩ : ∃ g, w.heap.size = g := ⟨_, rfl⟩
  have b1 : Below w.heap.size w W1 := by rw [← hW1]; exact below_new w _
  have x1 : ERv.Bx 40 W1 g v := by rw [← hW1, ← hg]; exact gbx_new w _
  have k0 : W1.cell? ⟨g, 0, none⟩ = some (.int .i64 v.er) := rv_c15 x1 rfl
  have k4 : W1.cell? ⟨g, 4, none⟩ = some (.slice v.tA v.tl v.tc) := rv_c15 x1 rfl
  have k5 : W1.cell? ⟨g, 5, none⟩ = some (.slice v.gA v.gl v.gc) := rv_c15 x1 rfl
  have k6 : W1.cell? ⟨g, 6, none⟩ = some (.slice v.aA v.al v.ac) := rv_c15 x1 rfl
  have B1 := Lib.hid b1
  have HW1 := Lib.hid hW1
  have HG := Lib.hid hg
  have ee := vi.er
  have l1 := vi.tr.1
  have l2 := vi.go.1
  have l3 := vi.ac.1
  have RT := Lib.hid (gbx_rng x1)
  have SM := Lib.hid (psame15 v (eRv v.er) r (eRw v.er) W1 vo (vi.below b1) ro (eRv_ok _) (eRv_in _ _) (eRw_ok (by rw [vi.er]; exact ro.er)))
  have m1 := vo.tl
  have m2 := vo.gl
  have m3 := vo.al
  unfold maxLen at m1 m2 m3
  clear x1 b1 hW1 vo vi
  by_cases h0 : v.er = 0
  · have hd : decide (v.er = 0) = true := decide_eq_true h0
    have hb : (v.er == 0) = true := by simpa using h0
    have hb2 : (v.er != 0) = false := by simpa using h0
    obtain ⟨M, hM⟩ : ∃ M : Int, max (max (v.tl : Int) v.gl) v.al = M := ⟨_, rfl⟩
    have r3 : ∀ (ts : Array TypeId) (t : TypeId), (Builtin.max_ ts t #[.int .i64 (v.tl : Int), .int .i64 (v.gl : Int), .int .i64 (v.al : Int)]).run Tryz.prog W1 = .ok (.int .i64 M) W1 := fun ts t => by rw [run_max3_15, hM]
    have E : Hid (mrB r = decide (M ≤ 4000)) := Lib.hid (by
      by_cases c : M ≤ 4000
      · rw [decide_eq_true c]
        exact mrB_yes.2 ⟨by rw [← ee, h0]; omega, by omega, by omega, by omega, fun n => absurd (ee.symm.trans h0) n⟩
      · rw [decide_eq_false c]
        cases e : mrB r
        · rfl
        · have := mrB_yes.1 e
          have a1 := this.lt
          have a2 := this.lg
          have a3 := this.la
          exact absurd (by omega) c)
    rw [E.out]
    clear E hM SM RT h0 l1 l2 l3 ee ro
    go_enter Tryz.func37, Tryz.ntmps37
    go_wp2_with (rw [HW1.out])
    go_ret
    exact ⟨rfl, B1.out⟩
  have hd : decide (v.er = 0) = false := decide_eq_false h0
  have hb : (v.er == 0) = false := by simpa using h0
  have hb2 : (v.er != 0) = true := by simpa using h0
  by_cases h1 : 0 < v.er
  case neg =>
    have hd1 : decide (0 < v.er) = false := decide_eq_false h1
    have E : Hid (mrB r = false) := Lib.hid (by
      cases e : mrB r
      · rfl
      · have := (mrB_yes.1 e).er; omega)
    rw [E.out]
    clear E SM RT l1 l2 l3 ee ro k4 k5 k6 h1 h0
    go_enter Tryz.func37, Tryz.ntmps37
    go_wp2_with (rw [HW1.out])
    go_ret
    exact ⟨rfl, B1.out⟩
  have hd1 : decide (0 < v.er) = true := decide_eq_true h1
  by_cases h2 : v.er ≤ 999
  case neg =>
    have hd2 : decide (v.er ≤ 999) = false := decide_eq_false h2
    have E : Hid (mrB r = false) := Lib.hid (by
      cases e : mrB r
      · rfl
      · have := (mrB_yes.1 e).er; omega)
    rw [E.out]
    clear E SM RT l1 l2 l3 ee ro k4 k5 k6 h1 h0 h2
    go_enter Tryz.func37, Tryz.ntmps37
    go_wp2_with (rw [HW1.out])
    go_ret
    exact ⟨rfl, B1.out⟩
  have hd2 : decide (v.er ≤ 999) = true := decide_eq_true h2
  have E : Hid (mrB r = eqRw r (eRw v.er)) := Lib.hid (by
    by_cases c : r = eRw v.er
    · rw [eqRw_yes.2 c]
      refine mrB_yes.2 ⟨by omega, ?_, ?_, ?_, fun _ => ?_⟩ <;> rw [c] <;> simp [eRw]
    · rw [eqRw_no15 c]
      cases e : mrB r
      · rfl
      · have m := mrB_yes.1 e
        obtain ⟨p1, p2, p3, p4, p5, p6⟩ := m.no (by omega)
        exact absurd (rw_eq15 (s := eRw v.er) ee.symm p1 p2 p3 p4 p5 p6) c)
  rw [E.out]
  clear E l1 l2 l3 ee ro k4 k5 k6 h1 h0 h2
  go_enter Tryz.func37, Tryz.ntmps37
  go_wp2_with (first | (rw [HW1.out]) | ((with_reducible refine rwl_load TRv g 0 RT.out ?_ ?_ ?_); rfl; rfl))
  refine SM.out.mono ?_; rintro e w2 ⟨rfl, q⟩
  have Q := Lib.hid (B1.out.trans (q.mono B1.out.size))
  clear q
  go_wp2_with fail
  go_ret
  exact ⟨rfl, Q.out⟩
end Go.Proofs.YtbmlpokkojhhjaaGreat.Wz
/- The document's MayReply (by genWdu.py). -/
namespace Go.Proofs.YtbmlpokkojhhjaaGreat
open Go.RowKit
set_option linter.unusedVariables false
set_option linter.unusedSimpArgs false

/-- A reply's head may be. -/
def HdR (r : Rw) : Prop := (0 ≤ r.er ∧ r.er ≤ 999) ∧ r.tr.length ≤ 4000 ∧ r.go.length ≤ 4000 ∧ r.ac.length ≤ 4000
def errR (e : Int) : Rw := ⟨e, 0, 0, 0, [], [], []⟩
def errV (e : Int) : Rv := ⟨e, 0, 0, 0, none, 0, 0, none, 0, 0, none, 0, 0⟩
theorem errV_ok (e : Int) : (errV e).ok := by
  refine ⟨?_, ?_, ?_, ?_, ?_, ?_, ?_, ?_, ?_⟩ <;> simp [errV]
theorem errV_in (e : Int) (w : World) : (errV e).In w (errR e) := ⟨rfl, rfl, rfl, rfl, grd_nil _ _, grd_nil _ _, grd_nil _ _⟩
theorem errR_ok {e : Int} (h : I64 e) : (errR e).ok := by
  refine ⟨h, ?_, ?_, ?_, fun t h => ?_, fun t h => ?_, fun t h => ?_⟩
  · simp [errR]
  · simp [errR, I64]
  · simp [errR, I64]
  · simp [errR] at h
  · simp [errR] at h
  · simp [errR] at h
theorem mrB_bad {r : Rw} (h : ¬ HdR r) : mrB r = false := by
  cases e : mrB r
  · rfl
  · have m := mrB_yes.1 e
    exact absurd ⟨m.er, m.lt, m.lg, m.la⟩ h
theorem mrB_zero {r : Rw} (h : HdR r) (z : r.er = 0) : mrB r = true := mrB_yes.2 ⟨h.1, h.2.1, h.2.2.1, h.2.2.2, fun n => absurd z n⟩
theorem mrB_err {r : Rw} (h : HdR r) (z : r.er ≠ 0) : mrB r = eqRw r (errR r.er) := by
  have k : MayR r ↔ r = errR r.er := by
    constructor
    · intro m
      obtain ⟨a, b, c, d, e, f⟩ := m.no z
      exact rw_eq15 rfl a b c d e f
    · intro e
      refine ⟨h.1, h.2.1, h.2.2.1, h.2.2.2, fun _ => ?_⟩
      rw [e]
      exact ⟨rfl, rfl, rfl, rfl, rfl, rfl⟩
  cases e : mrB r
  · cases e2 : eqRw r (errR r.er)
    · rfl
    · rw [mrB_yes.2 (k.2 (eqRw_yes.1 e2))] at e; cases e
  · rw [eqRw_yes.2 (k.1 (mrB_yes.1 e))]




















































































































































































































































































































end Go.Proofs.YtbmlpokkojhhjaaGreat
/- The document's Reply (by genWdv.py). -/
namespace Go.Proofs.YtbmlpokkojhhjaaGreat
open Go.RowKit
set_option linter.unusedVariables false
set_option linter.unusedSimpArgs false

theorem nb_len15 {x : Int} (h : 0 ≤ x ∧ x ≤ 18446744073709551615) : (nb x.toNat).length ≤ 10 := nb_ten (by omega)
theorem flat_snoc15 {α : Type} (f : α → List Int) {l : List α} {k : Nat} {x : α} (h : l[k]? = some x) : (l.take (k + 1)).flatMap f = (l.take k).flatMap f ++ f x := by
  rw [List.take_add_one, h, List.flatMap_append]
  simp
theorem zero_tw15 (w : World) : (zeroValue 72).run Tryz.prog w = .ok (.agg (ETw.cells zeroTw).toArray) w := by kernel_rfl
/-- A trade's own block stays where a row of bytes grows. -/
theorem box_row15 {W W' : World} {b0 g n : Nat} {x : Tw} {v : Value} {xs : List Value} (h : ETw.Bx 72 W g x) (o : W.ownsRow b0 5 1 v n xs) (gr : W.grownBy W' v.ownBlock) : ETw.Bx 72 W' g x := by
  refine (gr.block g (Array.getElem?_eq_some_iff.1 h).1 fun e => ?_).trans h
  rcases o.2 with ⟨e2, -⟩ | ⟨b, c, cur, e2, -, hh, -⟩
  · rw [e2] at e; cases e
  · rw [e2] at e
    cases e
    have h2 := h
    unfold Elt.Bx at h2
    rw [hh] at h2
    injection h2 with h3
    injection h3 with _ h4 _
    revert h4
    decide

















































































































































































































































































































































































































































end Go.Proofs.YtbmlpokkojhhjaaGreat
/- The program's words: a trade, lists, a reply written (by genWfp.py). -/
namespace Go.Proofs.YtbmlpokkojhhjaaGreat.Wz
open Go.RowKit
set_option linter.unusedVariables false
set_option linter.unusedSimpArgs false

theorem new_keep {w W W' : World} {v : Value} {bs : List Int} (h : New w W v bs) (q : Below W.heap.size W W') : New w W' v bs := ⟨own_below h.o q, h.q.trans (q.mono h.q.size)⟩
theorem new_app {w W W' : World} {v v' : Value} {xs bs : List Int} (h : New w W v xs) {n m : Nat} (hn : xs.length = n) (hm : bs.length = m) (o : W'.ownsRow w.heap.size 5 1 v' (n + m) (xs.map (Value.int .u8) ++ bs.map (Value.int .u8))) (gr : W.grownBy W' v.ownBlock) : New w W' v' (xs ++ bs) :=
  ⟨by rw [List.length_append, hn, hm, List.map_append]; exact o, h.q.grown gr h.q.size fun j hj => (h.o.lt j hj).1⟩
theorem new_from {w w1 W : World} {v : Value} {bs : List Int} (b : Below w.heap.size w w1) (h : New w1 W v bs) : New w W v bs := ⟨own_less h.o b.size, b.trans (h.q.mono b.size)⟩
set_option maxRecDepth 100000 in
theorem puttrade15 (A : Option Addr) (c : Nat) (bs : List Int) (t : Tw) (W : World) (hr : RdB W A bs.length bs) (h0 : A = none → bs.length = 0 ∧ c = 0) (hl : bs.length ≤ 900000) (ok : t.ok) :
    Calls Tryz.prog 41 #[.slice A bs.length c, .agg (ETw.cells t).toArray] W fun E W' => Made W (bs ++ trF t) E W' := by
  obtain ⟨W1, hW1⟩ : ∃ U, W.alloc (.cells (ETw.cells t).toArray 72) = U := ⟨_, rfl⟩
  obtain ⟨g, hg⟩ : ∃ g, W.heap.size = g := ⟨_, rfl⟩
  have b1 : Below W.heap.size W W1 := by rw [← hW1]; exact below_new _ _
  have x1 : ETw.Bx 72 W1 g t := by rw [← hW1, ← hg]; exact gbx_new W _
  have K0 := Lib.hid (show W1.cell? ⟨g, 0, none⟩ = some (.int .i64 t.px) from (gbx_cell x1 0).trans rfl)
  have K1 := Lib.hid fun (U : World) (b : Below W1.heap.size W1 U) => (show U.cell? ⟨g, 1, none⟩ = some (.int .i64 t.qt) from (gbx_cell (gbx_below x1 b) 1).trans rfl)
  have K2 := Lib.hid fun (U : World) (b : Below W1.heap.size W1 U) => (show U.cell? ⟨g, 2, none⟩ = some (.int .u64 t.nu) from (gbx_cell (gbx_below x1 b) 2).trans rfl)
  have K3 := Lib.hid fun (U : World) (b : Below W1.heap.size W1 U) => (show U.cell? ⟨g, 3, none⟩ = some (.int .u32 t.ac) from (gbx_cell (gbx_below x1 b) 3).trans rfl)
  have HR := Lib.hid (hr.below b1)
  obtain ⟨c1, hc1⟩ : ∃ l, bs ++ ib t.px = l := ⟨_, rfl⟩
  obtain ⟨c2, hc2⟩ : ∃ l, c1 ++ ib t.qt = l := ⟨_, rfl⟩
  obtain ⟨c3, hc3⟩ : ∃ l, c2 ++ nb t.nu.toNat = l := ⟨_, rfl⟩
  have l1 : c1.length ≤ bs.length + 10 := by rw [← hc1, List.length_append]; have := ib_len ok.px; omega
  have l2 : c2.length ≤ c1.length + 10 := by rw [← hc2, List.length_append]; have := ib_len ok.qt; omega
  have l3 : c3.length ≤ c2.length + 10 := by rw [← hc3, List.length_append]; have := nb_len15 ok.nu; omega
  have FM : Hid (bs ++ trF t = c3 ++ nb t.ac.toNat) := Lib.hid (by unfold trF; rw [← hc3, ← hc2, ← hc1]; simp [List.append_assoc])
  have e2 : ((t.nu.toNat : Nat) : Int) = t.nu := Int.toNat_of_nonneg ok.nu.1
  have e3 : ((t.ac.toNat : Nat) : Int) = t.ac := Int.toNat_of_nonneg ok.ac.1
  have C0 := wint15 A c bs t.px W1 HR.out h0 (by omega) ok.px
  have C1 := Lib.hid fun A1 k1 U (r : RdB U A1 c1.length c1) (h : A1 = none → c1.length = 0 ∧ k1 = 0) => wint15 A1 k1 c1 t.qt U r h (by omega) ok.qt
  have C2 := Lib.hid fun A1 k1 U (r : RdB U A1 c2.length c2) (h : A1 = none → c2.length = 0 ∧ k1 = 0) => (by have C := wnat15 A1 k1 c2 t.nu.toNat U r h (by omega) (by have := ok.nu; omega); rwa [e2] at C : Calls Tryz.prog 38 #[.slice A1 c2.length k1, .int .u64 t.nu] U fun E W' => Made U (c2 ++ nb t.nu.toNat) E W')
  have C3 := Lib.hid fun A1 k1 U (r : RdB U A1 c3.length c3) (h : A1 = none → c3.length = 0 ∧ k1 = 0) => (by have C := puts32 A1 k1 c3 t.ac.toNat U r h (by omega) (by have := ok.ac; omega); rwa [e3] at C : Calls Tryz.prog 44 #[.slice A1 c3.length k1, .int .u32 t.ac] U fun E W' => Made U (c3 ++ nb t.ac.toNat) E W')
  rw [hc1] at C0
  rw [hc2] at C1
  rw [hc3] at C2
  have C0 := Lib.hid C0
  have B1 := Lib.hid b1
  have HW1 := Lib.hid hW1
  have HG := Lib.hid hg
  have k0 := K0.out
  obtain ⟨m, hm⟩ : ∃ m, bs.length = m := ⟨_, rfl⟩
  rw [hm] at C0 ⊢
  clear hr h0 ok hW1 b1 x1 hc1 hc2 hc3 l1 l2 l3 e2 e3 hl hm HR K0
  go_enter Tryz.func41, Tryz.ntmps41
  go_wp2_with (rw [HW1.out])
  refine C0.out.mono ?_; rintro e w2 ⟨v2, rfl, n2⟩
  obtain ⟨A2, k2, rfl, r2, z2⟩ := owns_pt n2.o
  have Q2 := Lib.hid n2.q
  have D := Lib.hid (C1.out A2 k2 w2 r2 z2)
  have kk := K1.out w2 Q2.out
  clear n2 r2 z2 C0 k0
  go_wp2_with fail
  refine D.out.mono ?_; rintro e w3 ⟨v3, rfl, n3⟩
  obtain ⟨A3, k3, rfl, r3, z3⟩ := owns_pt n3.o
  have Q3 := Lib.hid (Q2.out.trans (n3.q.mono Q2.out.size))
  have D := Lib.hid (C2.out A3 k3 w3 r3 z3)
  clear n3 r3 z3 kk
  have kk := K2.out w3 Q3.out
  go_wp2_with fail
  refine D.out.mono ?_; rintro e w4 ⟨v4, rfl, n4⟩
  obtain ⟨A4, k4, rfl, r4, z4⟩ := owns_pt n4.o
  have Q4 := Lib.hid (Q3.out.trans (n4.q.mono Q3.out.size))
  have D := Lib.hid (C3.out A4 k4 w4 r4 z4)
  clear n4 r4 z4 kk
  have kk := K3.out w4 Q4.out
  go_wp2_with fail
  refine D.out.mono ?_; rintro e w5 ⟨v5, rfl, n5⟩
  have N5 := Lib.hid (new_from (B1.out.trans (Q4.out.mono B1.out.size)) n5)
  clear n5 kk
  go_wp2_with fail
  go_ret
  rw [FM.out]
  exact ⟨_, rfl, N5.out⟩
theorem fl_lenT : ∀ (l : List Tw), (∀ x, x ∈ l → x.ok) → (l.flatMap trF).length ≤ 40 * l.length
  | [], _ => by simp
  | x :: l, h => by
    have hx := h x (by simp)
    have ih := fl_lenT l fun y hy => h y (by simp [hy])
    have h1 : (trF x).length ≤ 40 := by have h1 := ib_len hx.px; have h2 := ib_len hx.qt; have h3 := nb_len15 hx.nu; have h4 := nb_len15 (x := x.ac) (by have := hx.ac; omega); unfold trF; simp only [List.length_append]; omega
    rw [List.flatMap_cons, List.length_append, List.length_cons]
    omega
set_option maxRecDepth 100000 in
set_option maxHeartbeats 8000000 in
theorem putlistT (A L : Option Addr) (c m k : Nat) (bs : List Int) (l : List Tw) (w : World) (hr : RdB w A bs.length bs) (h0 : A = none → bs.length = 0 ∧ c = 0) (hl : bs.length ≤ 500000) (hL : ETw.Rd w L m l) (hm : m ≤ 4000) (ok : ∀ x, x ∈ l → x.ok) :
    Calls Tryz.prog 40 #[.slice A bs.length c, .slice L m k, .func (.func 41) #[] #[]] w fun E W' => Made w (bs ++ lstF trF l) E W' := by
  have hzt := zero_tw15
  have PUT := Lib.hid fun (x : Tw) (hx : x.ok) (U : World) => (by
    have hn0 : RdB U none 0 [] := ⟨rfl, fun h => absurd h (Nat.lt_irrefl 0)⟩
    exact puttrade15 none 0 [] x U hn0 (fun _ => ⟨rfl, rfl⟩) (by simp) hx : Calls Tryz.prog 41 #[.slice none 0 0, .agg (ETw.cells x).toArray] U fun E W' => Made U (trF x) E W')
  have e0 : IntKind.u64.wrap (m : Int) = (m : Int) := by
    simp [IntKind.wrap, IntKind.signed, IntKind.bits]
    omega
  have C0 := Lib.hid (wnat15 A c bs m w hr h0 (by omega) (by omega))
  obtain ⟨b1, hb1⟩ : ∃ b, bs ++ nb m = b := ⟨_, rfl⟩
  have lb : b1.length ≤ 500010 := by rw [← hb1, List.length_append]; have := nb_ten (n := m) (by omega); omega
  rw [hb1] at C0
  have FM : Hid (bs ++ lstF trF l = b1 ++ l.flatMap trF) := Lib.hid (by unfold lstF; rw [hL.1, ← List.append_assoc, hb1])
  have HL := Lib.hid hL
  have HLL := Lib.hid hL.1
  have HOK := Lib.hid ok
  have FL := Lib.hid fun (j : Nat) => (by
    have h := fl_lenT (l.take j) fun x hx => ok x (List.mem_of_mem_take hx)
    have h2 : (l.take j).length ≤ m := by rw [List.length_take, hL.1]; omega
    omega : ((l.take j).flatMap trF).length ≤ 160000)
  have LB := Lib.hid lb
  have E0 := Lib.hid e0
  obtain ⟨n, hn⟩ : ∃ n, bs.length = n := ⟨_, rfl⟩
  rw [hn] at C0 ⊢
  clear hr h0 hl hL ok hb1 lb e0 hn
  go_enter Tryz.func40, Tryz.ntmps40
  go_wp2_with (rw [E0.out])
  refine C0.out.mono ?_; rintro e w1 ⟨v1, rfl, n1⟩
  have N1 := Lib.hid (show New w w1 v1 (b1 ++ (l.take 0).flatMap trF) from by rw [List.take_zero, List.flatMap_nil, List.append_nil]; exact n1)
  clear n1 C0
  go_wp2_with fail
  go_loopw [0, 8, 16] (fun v0 _ i wr => ∃ j : Nat, j ≤ m ∧ i = .int .i64 j ∧ New w wr v0 (b1 ++ (l.take j).flatMap trF)) (fun _ _ i _ => m - (intOf i).toNat)
  case atStart => exact ⟨0, Nat.zero_le _, rfl, N1.out⟩
  case round =>
    obtain ⟨j, hj, rfl, hb⟩ := hrel
    have D := Lib.hid hb
    clear hb
    by_cases hlt : j < m
    case neg =>
      obtain rfl : j = m := by omega
      have hd : decide ((j : Int) < (j : Int)) = false := decide_eq_false (by omega)
      clear hlt
      go_wp2_with fail
      go_ret
      rw [FM.out]
      refine ⟨_, rfl, ?_⟩
      have := D.out
      rwa [List.take_of_length_le (by rw [HLL.out]; exact Nat.le_refl _)] at this
    case pos =>
      have hd : decide ((j : Int) < (m : Int)) = true := decide_eq_true (by omega)
      have hki : (j : Int) < (m : Int) := by omega
      obtain ⟨x, hx⟩ : ∃ x, l[j]? = some x := ⟨l[j]'(by rw [HLL.out]; exact hlt), List.getElem?_eq_getElem _⟩
      have HX := Lib.hid (HOK.out x (List.mem_of_getElem? hx))
      obtain ⟨b, o, rfl, rg⟩ := grd_rng (grd_below HL.out D.out.q (Nat.le_refl _)) hx
      have FS := Lib.hid (flat_snoc15 trF hx)
      have FJ := Lib.hid (FL.out j)
      have RG := Lib.hid (show wr.rangeAt b (o + j * 4) (ETw.cells x) from rg)
      clear hx rg
      have Z5 : Hid (ETw.Bx 72 (wr.alloc (.cells (ETw.cells zeroTw).toArray 72)) wr.heap.size zeroTw) := Lib.hid (gbx_new wr _)
      obtain ⟨w5, hw5⟩ : ∃ W, (wr.alloc (.cells (ETw.cells zeroTw).toArray 72)).setRow wr.heap.size (ETw.cells x).toArray = W := ⟨_, rfl⟩
      obtain ⟨g5, hg5⟩ : ∃ g, wr.heap.size = g := ⟨_, rfl⟩
      have x5 : ETw.Bx 72 w5 g5 x := by rw [← hw5, ← hg5]; exact gbx_set Z5.out
      have q5 : Below wr.heap.size wr w5 := by rw [← hw5]; exact below_row0 (below_new _ _) (Nat.le_refl _)
      have D5 := Lib.hid (new_keep D.out q5)
      have P5 := Lib.hid (gbx_rng x5)
      have C := Lib.hid (PUT.out x HX.out w5)
      have HW5 := Lib.hid hw5
      have HG5 := Lib.hid hg5
      clear x5 q5 hw5 hg5
      go_wp2_with (first | ((with_reducible refine gwl_load TTw b (o + j * 4) RG.out ?_ ?_ ?_); rfl; rfl) | ((with_reducible refine gwl_load TTw g5 0 P5.out ?_ ?_ ?_); rfl; rfl) | (refine gwl_store TTw x wr.heap.size Z5.out rfl rfl ?_; rw [HW5.out, HG5.out]))
      refine C.out.mono ?_; rintro e w6 ⟨v6, rfl, n6⟩
      obtain ⟨A6, k6, rfl, r6, z6⟩ := owns_pt n6.o
      have D6 := Lib.hid (new_keep D5.out n6.q)
      have R6 := Lib.hid r6
      have Z6 := Lib.hid z6
      obtain ⟨fx, hfx⟩ : ∃ f, trF x = f := ⟨_, rfl⟩
      have LX : Hid (fx.length ≤ 40) := Lib.hid (by rw [← hfx]; have := fl_lenT [x] (fun y hy => by rw [List.mem_singleton.1 hy]; exact HX.out); simpa using this)
      rw [hfx] at R6 Z6 FS ⊢
      obtain ⟨acc, hacc⟩ : ∃ a, b1 ++ (l.take j).flatMap trF = a := ⟨_, rfl⟩
      have LA : Hid (acc.length ≤ 700000) := Lib.hid (by rw [← hacc, List.length_append]; have := LB.out; have := FJ.out; omega)
      rw [hacc] at D6
      have NX : Hid (b1 ++ (l.take (j + 1)).flatMap trF = acc ++ fx) := Lib.hid (by rw [FS.out, ← List.append_assoc, hacc])
      have hsz := Lib.hid D6.out.q.size
      clear n6 r6 z6 hfx hacc C
      go_wp2_with (refine wpl_append rfl (.tmp 20) (.tmp 23) rfl w.heap.size _ acc.length (acc.map (Value.int .u8)) rfl D6.out.o A6 fx.length k6 fx rfl R6.out Z6.out (by have := LA.out; have := LX.out; omega) hsz.out ?_; intro v7 w7 o7 g7; have D7 := Lib.hid (new_app D6.out rfl rfl o7 g7); clear o7 g7)
      go_roundw
      case rel => exact ⟨j + 1, hlt, by go_num, by rw [NX.out]; exact D7.out⟩
      case measure => simp [intOf]; omega
theorem fl_len6 : ∀ (l : List Int), (∀ x, x ∈ l → 0 ≤ x ∧ x ≤ 18446744073709551615) → (l.flatMap nF).length ≤ 40 * l.length
  | [], _ => by simp
  | x :: l, h => by
    have hx := h x (by simp)
    have ih := fl_len6 l fun y hy => h y (by simp [hy])
    have h1 : (nF x).length ≤ 40 := by have := nb_len15 (x := x) (by omega); unfold nF; omega
    rw [List.flatMap_cons, List.length_append, List.length_cons]
    omega
set_option maxRecDepth 100000 in
set_option maxHeartbeats 8000000 in
theorem putlist6 (A L : Option Addr) (c m k : Nat) (bs : List Int) (l : List Int) (w : World) (hr : RdB w A bs.length bs) (h0 : A = none → bs.length = 0 ∧ c = 0) (hl : bs.length ≤ 500000) (hL : E6w.Rd w L m l) (hm : m ≤ 4000) (ok : ∀ x, x ∈ l → 0 ≤ x ∧ x ≤ 18446744073709551615) :
    Calls Tryz.prog 42 #[.slice A bs.length c, .slice L m k, .func (.func 38) #[] #[]] w fun E W' => Made w (bs ++ lstF nF l) E W' := by
  have PUT := Lib.hid fun (x : Int) (hx : 0 ≤ x ∧ x ≤ 18446744073709551615) (U : World) => (by
    have hn0 : RdB U none 0 [] := ⟨rfl, fun h => absurd h (Nat.lt_irrefl 0)⟩
    exact (by have C := wnat15 none 0 [] x.toNat U hn0 (fun _ => ⟨rfl, rfl⟩) (by simp) (by omega); rwa [Int.toNat_of_nonneg hx.1] at C : Calls Tryz.prog 38 #[.slice none 0 0, .int .u64 x] U fun E W => Made U ([] ++ nb x.toNat) E W) : Calls Tryz.prog 38 #[.slice none 0 0, .int .u64 x] U fun E W' => Made U (nF x) E W')
  have e0 : IntKind.u64.wrap (m : Int) = (m : Int) := by
    simp [IntKind.wrap, IntKind.signed, IntKind.bits]
    omega
  have C0 := Lib.hid (wnat15 A c bs m w hr h0 (by omega) (by omega))
  obtain ⟨b1, hb1⟩ : ∃ b, bs ++ nb m = b := ⟨_, rfl⟩
  have lb : b1.length ≤ 500010 := by rw [← hb1, List.length_append]; have := nb_ten (n := m) (by omega); omega
  rw [hb1] at C0
  have FM : Hid (bs ++ lstF nF l = b1 ++ l.flatMap nF) := Lib.hid (by unfold lstF; rw [hL.1, ← List.append_assoc, hb1])
  have HL := Lib.hid hL
  have HLL := Lib.hid hL.1
  have HOK := Lib.hid ok
  have FL := Lib.hid fun (j : Nat) => (by
    have h := fl_len6 (l.take j) fun x hx => ok x (List.mem_of_mem_take hx)
    have h2 : (l.take j).length ≤ m := by rw [List.length_take, hL.1]; omega
    omega : ((l.take j).flatMap nF).length ≤ 160000)
  have LB := Lib.hid lb
  have E0 := Lib.hid e0
  obtain ⟨n, hn⟩ : ∃ n, bs.length = n := ⟨_, rfl⟩
  rw [hn] at C0 ⊢
  clear hr h0 hl hL ok hb1 lb e0 hn
  go_enter Tryz.func42, Tryz.ntmps42
  go_wp2_with (rw [E0.out])
  refine C0.out.mono ?_; rintro e w1 ⟨v1, rfl, n1⟩
  have N1 := Lib.hid (show New w w1 v1 (b1 ++ (l.take 0).flatMap nF) from by rw [List.take_zero, List.flatMap_nil, List.append_nil]; exact n1)
  clear n1 C0
  go_wp2_with fail
  go_loopw [0, 8, 16] (fun v0 _ i wr => ∃ j : Nat, j ≤ m ∧ i = .int .i64 j ∧ New w wr v0 (b1 ++ (l.take j).flatMap nF)) (fun _ _ i _ => m - (intOf i).toNat)
  case atStart => exact ⟨0, Nat.zero_le _, rfl, N1.out⟩
  case round =>
    obtain ⟨j, hj, rfl, hb⟩ := hrel
    have D := Lib.hid hb
    clear hb
    by_cases hlt : j < m
    case neg =>
      obtain rfl : j = m := by omega
      have hd : decide ((j : Int) < (j : Int)) = false := decide_eq_false (by omega)
      clear hlt
      go_wp2_with fail
      go_ret
      rw [FM.out]
      refine ⟨_, rfl, ?_⟩
      have := D.out
      rwa [List.take_of_length_le (by rw [HLL.out]; exact Nat.le_refl _)] at this
    case pos =>
      have hd : decide ((j : Int) < (m : Int)) = true := decide_eq_true (by omega)
      have hki : (j : Int) < (m : Int) := by omega
      obtain ⟨x, hx⟩ : ∃ x, l[j]? = some x := ⟨l[j]'(by rw [HLL.out]; exact hlt), List.getElem?_eq_getElem _⟩
      have HX := Lib.hid (HOK.out x (List.mem_of_getElem? hx))
      obtain ⟨b, o, rfl, rg⟩ := grd_rng (grd_below HL.out D.out.q (Nat.le_refl _)) hx
      have FS := Lib.hid (flat_snoc15 nF hx)
      have FJ := Lib.hid (FL.out j)
      have RG := Lib.hid (show wr.rangeAt b (o + j * 1) (E6w.cells x) from rg)
      clear hx rg
      have k0 : wr.cell? ⟨b, o + j, none⟩ = some (.int .u64 x) := by
        have := RG.out 0 _ rfl
        rwa [show o + j * 1 + 0 = o + j from by omega] at this
      have D5 := Lib.hid D.out
      have C := Lib.hid (PUT.out x HX.out wr)
      go_wp2_with fail
      refine C.out.mono ?_; rintro e w6 ⟨v6, rfl, n6⟩
      obtain ⟨A6, k6, rfl, r6, z6⟩ := owns_pt n6.o
      have D6 := Lib.hid (new_keep D5.out n6.q)
      have R6 := Lib.hid r6
      have Z6 := Lib.hid z6
      obtain ⟨fx, hfx⟩ : ∃ f, nF x = f := ⟨_, rfl⟩
      have LX : Hid (fx.length ≤ 40) := Lib.hid (by rw [← hfx]; have := fl_len6 [x] (fun y hy => by rw [List.mem_singleton.1 hy]; exact HX.out); simpa using this)
      rw [hfx] at R6 Z6 FS ⊢
      obtain ⟨acc, hacc⟩ : ∃ a, b1 ++ (l.take j).flatMap nF = a := ⟨_, rfl⟩
      have LA : Hid (acc.length ≤ 700000) := Lib.hid (by rw [← hacc, List.length_append]; have := LB.out; have := FJ.out; omega)
      rw [hacc] at D6
      have NX : Hid (b1 ++ (l.take (j + 1)).flatMap nF = acc ++ fx) := Lib.hid (by rw [FS.out, ← List.append_assoc, hacc])
      have hsz := Lib.hid D6.out.q.size
      clear n6 r6 z6 hfx hacc C
      go_wp2_with (refine wpl_append rfl (.tmp 20) (.tmp 23) rfl w.heap.size _ acc.length (acc.map (Value.int .u8)) rfl D6.out.o A6 fx.length k6 fx rfl R6.out Z6.out (by have := LA.out; have := LX.out; omega) hsz.out ?_; intro v7 w7 o7 g7; have D7 := Lib.hid (new_app D6.out rfl rfl o7 g7); clear o7 g7)
      go_roundw
      case rel => exact ⟨j + 1, hlt, by go_num, by rw [NX.out]; exact D7.out⟩
      case measure => simp [intOf]; omega
theorem fl_len3 : ∀ (l : List Int), (∀ x, x ∈ l → 0 ≤ x ∧ x ≤ 4294967295) → (l.flatMap nF).length ≤ 40 * l.length
  | [], _ => by simp
  | x :: l, h => by
    have hx := h x (by simp)
    have ih := fl_len3 l fun y hy => h y (by simp [hy])
    have h1 : (nF x).length ≤ 40 := by have := nb_len15 (x := x) (by omega); unfold nF; omega
    rw [List.flatMap_cons, List.length_append, List.length_cons]
    omega
set_option maxRecDepth 100000 in
set_option maxHeartbeats 8000000 in
theorem putlist3 (A L : Option Addr) (c m k : Nat) (bs : List Int) (l : List Int) (w : World) (hr : RdB w A bs.length bs) (h0 : A = none → bs.length = 0 ∧ c = 0) (hl : bs.length ≤ 500000) (hL : E3w.Rd w L m l) (hm : m ≤ 4000) (ok : ∀ x, x ∈ l → 0 ≤ x ∧ x ≤ 4294967295) :
    Calls Tryz.prog 43 #[.slice A bs.length c, .slice L m k, .func (.func 44) #[] #[]] w fun E W' => Made w (bs ++ lstF nF l) E W' := by
  have PUT := Lib.hid fun (x : Int) (hx : 0 ≤ x ∧ x ≤ 4294967295) (U : World) => (by
    have hn0 : RdB U none 0 [] := ⟨rfl, fun h => absurd h (Nat.lt_irrefl 0)⟩
    exact (by have C := puts32 none 0 [] x.toNat U hn0 (fun _ => ⟨rfl, rfl⟩) (by simp) (by omega); rwa [Int.toNat_of_nonneg hx.1] at C : Calls Tryz.prog 44 #[.slice none 0 0, .int .u32 x] U fun E W => Made U ([] ++ nb x.toNat) E W) : Calls Tryz.prog 44 #[.slice none 0 0, .int .u32 x] U fun E W' => Made U (nF x) E W')
  have e0 : IntKind.u64.wrap (m : Int) = (m : Int) := by
    simp [IntKind.wrap, IntKind.signed, IntKind.bits]
    omega
  have C0 := Lib.hid (wnat15 A c bs m w hr h0 (by omega) (by omega))
  obtain ⟨b1, hb1⟩ : ∃ b, bs ++ nb m = b := ⟨_, rfl⟩
  have lb : b1.length ≤ 500010 := by rw [← hb1, List.length_append]; have := nb_ten (n := m) (by omega); omega
  rw [hb1] at C0
  have FM : Hid (bs ++ lstF nF l = b1 ++ l.flatMap nF) := Lib.hid (by unfold lstF; rw [hL.1, ← List.append_assoc, hb1])
  have HL := Lib.hid hL
  have HLL := Lib.hid hL.1
  have HOK := Lib.hid ok
  have FL := Lib.hid fun (j : Nat) => (by
    have h := fl_len3 (l.take j) fun x hx => ok x (List.mem_of_mem_take hx)
    have h2 : (l.take j).length ≤ m := by rw [List.length_take, hL.1]; omega
    omega : ((l.take j).flatMap nF).length ≤ 160000)
  have LB := Lib.hid lb
  have E0 := Lib.hid e0
  obtain ⟨n, hn⟩ : ∃ n, bs.length = n := ⟨_, rfl⟩
  rw [hn] at C0 ⊢
  clear hr h0 hl hL ok hb1 lb e0 hn
  go_enter Tryz.func43, Tryz.ntmps43
  go_wp2_with (rw [E0.out])
  refine C0.out.mono ?_; rintro e w1 ⟨v1, rfl, n1⟩
  have N1 := Lib.hid (show New w w1 v1 (b1 ++ (l.take 0).flatMap nF) from by rw [List.take_zero, List.flatMap_nil, List.append_nil]; exact n1)
  clear n1 C0
  go_wp2_with fail
  go_loopw [0, 8, 16] (fun v0 _ i wr => ∃ j : Nat, j ≤ m ∧ i = .int .i64 j ∧ New w wr v0 (b1 ++ (l.take j).flatMap nF)) (fun _ _ i _ => m - (intOf i).toNat)
  case atStart => exact ⟨0, Nat.zero_le _, rfl, N1.out⟩
  case round =>
    obtain ⟨j, hj, rfl, hb⟩ := hrel
    have D := Lib.hid hb
    clear hb
    by_cases hlt : j < m
    case neg =>
      obtain rfl : j = m := by omega
      have hd : decide ((j : Int) < (j : Int)) = false := decide_eq_false (by omega)
      clear hlt
      go_wp2_with fail
      go_ret
      rw [FM.out]
      refine ⟨_, rfl, ?_⟩
      have := D.out
      rwa [List.take_of_length_le (by rw [HLL.out]; exact Nat.le_refl _)] at this
    case pos =>
      have hd : decide ((j : Int) < (m : Int)) = true := decide_eq_true (by omega)
      have hki : (j : Int) < (m : Int) := by omega
      obtain ⟨x, hx⟩ : ∃ x, l[j]? = some x := ⟨l[j]'(by rw [HLL.out]; exact hlt), List.getElem?_eq_getElem _⟩
      have HX := Lib.hid (HOK.out x (List.mem_of_getElem? hx))
      obtain ⟨b, o, rfl, rg⟩ := grd_rng (grd_below HL.out D.out.q (Nat.le_refl _)) hx
      have FS := Lib.hid (flat_snoc15 nF hx)
      have FJ := Lib.hid (FL.out j)
      have RG := Lib.hid (show wr.rangeAt b (o + j * 1) (E3w.cells x) from rg)
      clear hx rg
      have k0 : wr.cell? ⟨b, o + j, none⟩ = some (.int .u32 x) := by
        have := RG.out 0 _ rfl
        rwa [show o + j * 1 + 0 = o + j from by omega] at this
      have D5 := Lib.hid D.out
      have C := Lib.hid (PUT.out x HX.out wr)
      go_wp2_with fail
      refine C.out.mono ?_; rintro e w6 ⟨v6, rfl, n6⟩
      obtain ⟨A6, k6, rfl, r6, z6⟩ := owns_pt n6.o
      have D6 := Lib.hid (new_keep D5.out n6.q)
      have R6 := Lib.hid r6
      have Z6 := Lib.hid z6
      obtain ⟨fx, hfx⟩ : ∃ f, nF x = f := ⟨_, rfl⟩
      have LX : Hid (fx.length ≤ 40) := Lib.hid (by rw [← hfx]; have := fl_len3 [x] (fun y hy => by rw [List.mem_singleton.1 hy]; exact HX.out); simpa using this)
      rw [hfx] at R6 Z6 FS ⊢
      obtain ⟨acc, hacc⟩ : ∃ a, b1 ++ (l.take j).flatMap nF = a := ⟨_, rfl⟩
      have LA : Hid (acc.length ≤ 700000) := Lib.hid (by rw [← hacc, List.length_append]; have := LB.out; have := FJ.out; omega)
      rw [hacc] at D6
      have NX : Hid (b1 ++ (l.take (j + 1)).flatMap nF = acc ++ fx) := Lib.hid (by rw [FS.out, ← List.append_assoc, hacc])
      have hsz := Lib.hid D6.out.q.size
      clear n6 r6 z6 hfx hacc C
      go_wp2_with (refine wpl_append rfl (.tmp 20) (.tmp 23) rfl w.heap.size _ acc.length (acc.map (Value.int .u8)) rfl D6.out.o A6 fx.length k6 fx rfl R6.out Z6.out (by have := LA.out; have := LX.out; omega) hsz.out ?_; intro v7 w7 o7 g7; have D7 := Lib.hid (new_app D6.out rfl rfl o7 g7); clear o7 g7)
      go_roundw
      case rel => exact ⟨j + 1, hlt, by go_num, by rw [NX.out]; exact D7.out⟩
      case measure => simp [intOf]; omega
end Go.Proofs.YtbmlpokkojhhjaaGreat.Wz
/- The program's words: a reply written (by genWfu.py). -/
namespace Go.Proofs.YtbmlpokkojhhjaaGreat.Wz
open Go.RowKit
set_option linter.unusedVariables false
set_option linter.unusedSimpArgs false

theorem lst_lenT (l : List Tw) (h : ∀ x, x ∈ l → x.ok) (hl : l.length ≤ 4000) : (lstF trF l).length ≤ 160010 := by
  have h1 := fl_lenT l h
  have h2 := nb_ten (n := l.length) (by omega)
  unfold lstF
  rw [List.length_append]
  omega
theorem lst_len6 (l : List Int) (h : ∀ x, x ∈ l → 0 ≤ x ∧ x ≤ 18446744073709551615) (hl : l.length ≤ 4000) : (lstF nF l).length ≤ 160010 := by
  have h1 := fl_len6 l h
  have h2 := nb_ten (n := l.length) (by omega)
  unfold lstF
  rw [List.length_append]
  omega
set_option maxRecDepth 100000 in
set_option maxHeartbeats 8000000 in
theorem prep_no (v : Rv) (r : Rw) (w : World) (vo : v.ok) (vi : v.In w r) (ro : r.ok) (hm : mrB r = false) : Calls Tryz.prog 11 #[.agg (ERv.cells v).toArray] w fun e w' => ToldB [] 2 w.heap.size w w' e := by
  obtain ⟨W1, hW1⟩ : ∃ W1, w.alloc (.cells (ERv.cells v).toArray 40) = W1 := ⟨_, rfl⟩
  obtain ⟨g, hg⟩ : ∃ g, w.heap.size = g := ⟨_, rfl⟩
  have b1 : Below w.heap.size w W1 := by rw [← hW1]; exact below_new w _
  have x1 : ERv.Bx 40 W1 g v := by rw [← hW1, ← hg]; exact gbx_new w _
  have RT := Lib.hid (gbx_rng x1)
  have M := pmayr15 v r W1 vo (vi.below b1) ro
  rw [hm] at M
  have MC := Lib.hid M
  have B1 := Lib.hid b1
  have HW1 := Lib.hid hW1
  have HG := Lib.hid hg
  clear hW1 b1 x1 M hm vo vi ro
  go_enter Tryz.func11, Tryz.ntmps11
  go_wp2_with (first | (rw [HW1.out]) | ((with_reducible refine rwl_load TRv g 0 RT.out ?_ ?_ ?_); rfl; rfl))
  refine MC.out.mono ?_; rintro e w2 ⟨rfl, q⟩
  have Q := Lib.hid (B1.out.trans (q.mono B1.out.size))
  clear q
  go_wp2_with fail
  go_ret2
  exact ⟨none, 0, 0, rfl, ⟨rfl, fun h => absurd h (Nat.lt_irrefl 0)⟩, Q.out, fun _ => ⟨rfl, rfl⟩⟩
set_option maxRecDepth 100000 in
set_option maxHeartbeats 16000000 in
theorem prep_ok (v : Rv) (r : Rw) (w : World) (vo : v.ok) (vi : v.In w r) (ro : r.ok) (hm : MayR r) (h0 : r.er = 0) : Calls Tryz.prog 11 #[.agg (ERv.cells v).toArray] w fun e w' => ToldB (formR r) 0 w.heap.size w w' e := by
  obtain ⟨W1, hW1⟩ : ∃ W1, w.alloc (.cells (ERv.cells v).toArray 40) = W1 := ⟨_, rfl⟩
  obtain ⟨g, hg⟩ : ∃ g, w.heap.size = g := ⟨_, rfl⟩
  have b1 : Below w.heap.size w W1 := by rw [← hW1]; exact below_new w _
  have x1 : ERv.Bx 40 W1 g v := by rw [← hW1, ← hg]; exact gbx_new w _
  have RT := Lib.hid (gbx_rng x1)
  have M := pmayr15 v r W1 vo (vi.below b1) ro
  rw [mrB_yes.2 hm] at M
  have MC := Lib.hid M
  have K0 := Lib.hid fun (U : World) (b : Below W1.heap.size W1 U) => (show U.cell? ⟨g, 0, none⟩ = some (.int .i64 v.er) from rv_c15 (gbx_below x1 b) rfl)
  have K1 := Lib.hid fun (U : World) (b : Below W1.heap.size W1 U) => (show U.cell? ⟨g, 1, none⟩ = some (.int .u64 v.nu) from rv_c15 (gbx_below x1 b) rfl)
  have K2 := Lib.hid fun (U : World) (b : Below W1.heap.size W1 U) => (show U.cell? ⟨g, 2, none⟩ = some (.int .i64 v.fi) from rv_c15 (gbx_below x1 b) rfl)
  have K3 := Lib.hid fun (U : World) (b : Below W1.heap.size W1 U) => (show U.cell? ⟨g, 3, none⟩ = some (.int .i64 v.le) from rv_c15 (gbx_below x1 b) rfl)
  have K4 := Lib.hid fun (U : World) (b : Below W1.heap.size W1 U) => (show U.cell? ⟨g, 4, none⟩ = some (.slice v.tA v.tl v.tc) from rv_c15 (gbx_below x1 b) rfl)
  have K5 := Lib.hid fun (U : World) (b : Below W1.heap.size W1 U) => (show U.cell? ⟨g, 5, none⟩ = some (.slice v.gA v.gl v.gc) from rv_c15 (gbx_below x1 b) rfl)
  have K6 := Lib.hid fun (U : World) (b : Below W1.heap.size W1 U) => (show U.cell? ⟨g, 6, none⟩ = some (.slice v.aA v.al v.ac) from rv_c15 (gbx_below x1 b) rfl)
  have hn0 : ∀ U : World, RdB U none 0 [] := fun U => ⟨rfl, fun h => absurd h (Nat.lt_irrefl 0)⟩
  have er := hm.er
  have e0 : ((r.er.toNat : Nat) : Int) = v.er := by rw [vi.er]; exact Int.toNat_of_nonneg er.1
  have ew : IntKind.u64.wrap v.er = v.er := by
    rw [vi.er]
    simp [IntKind.wrap, IntKind.signed, IntKind.bits]
    omega
  obtain ⟨c0, hc0⟩ : ∃ l, nb r.er.toNat = l := ⟨_, rfl⟩
  have l0 : c0.length ≤ 10 := by rw [← hc0]; exact nb_ten (by omega)
  have C0 := Lib.hid fun (U : World) => (by
    have C := wnat15 none 0 [] r.er.toNat U (hn0 U) (fun _ => ⟨rfl, rfl⟩) (by simp) (by omega)
    rw [e0, List.nil_append, hc0] at C
    exact C : Calls Tryz.prog 38 #[.slice none 0 0, .int .u64 v.er] U fun E W' => Made U c0 E W')
  have hd : decide (v.er = 0) = true := decide_eq_true (by rw [vi.er]; exact h0)
  have hb : (v.er == 0) = true := by rw [vi.er]; simpa using h0
  have hb2 : (v.er != 0) = false := by rw [vi.er]; simpa using h0
  have lt := vi.tr.1
  have lg := vi.go.1
  have la := vi.ac.1
  have mt := hm.lt
  have mg := hm.lg
  have ma := hm.la
  obtain ⟨c1, hc1⟩ : ∃ l, c0 ++ nb r.nu.toNat = l := ⟨_, rfl⟩
  have l1 : c1.length ≤ c0.length + 10 := by rw [← hc1, List.length_append]; have := nb_len15 ro.nu; omega
  obtain ⟨c2, hc2⟩ : ∃ l, c1 ++ ib r.fi = l := ⟨_, rfl⟩
  have l2 : c2.length ≤ c1.length + 10 := by rw [← hc2, List.length_append]; have := ib_len ro.fi; omega
  obtain ⟨c3, hc3⟩ : ∃ l, c2 ++ ib r.le = l := ⟨_, rfl⟩
  have l3 : c3.length ≤ c2.length + 10 := by rw [← hc3, List.length_append]; have := ib_len ro.le; omega
  obtain ⟨c4, hc4⟩ : ∃ l, c3 ++ lstF trF r.tr = l := ⟨_, rfl⟩
  have l4 : c4.length ≤ c3.length + 160010 := by rw [← hc4, List.length_append]; have := lst_lenT r.tr ro.tr mt; omega
  obtain ⟨c5, hc5⟩ : ∃ l, c4 ++ lstF nF r.go = l := ⟨_, rfl⟩
  have l5 : c5.length ≤ c4.length + 160010 := by rw [← hc5, List.length_append]; have := lst_len6 r.go ro.go mg; omega
  obtain ⟨c6, hc6⟩ : ∃ l, c5 ++ lstF nF r.ac = l := ⟨_, rfl⟩
  have FM : Hid (formR r = c6) := Lib.hid (by unfold formR; rw [if_pos h0, ← hc6, ← hc5, ← hc4, ← hc3, ← hc2, ← hc1, ← hc0]; simp [List.append_assoc])
  have C1 := Lib.hid fun (A1 : Option Addr) (k1 : Nat) (U : World) (bu : Below W1.heap.size W1 U) (h : RdB U A1 c0.length c0) (z : A1 = none → c0.length = 0 ∧ k1 = 0) => (by
    have e : ((r.nu.toNat : Nat) : Int) = v.nu := by rw [vi.nu]; exact Int.toNat_of_nonneg ro.nu.1
    have C := wnat15 A1 k1 c0 r.nu.toNat U h z (by omega) (by have := ro.nu; omega)
    rw [e, hc1] at C
    exact C : Calls Tryz.prog 38 #[.slice A1 c0.length k1, .int .u64 v.nu] U fun E W' => Made U c1 E W')
  have C2 := Lib.hid fun (A1 : Option Addr) (k1 : Nat) (U : World) (bu : Below W1.heap.size W1 U) (h : RdB U A1 c1.length c1) (z : A1 = none → c1.length = 0 ∧ k1 = 0) => (by
    have C := wint15 A1 k1 c1 r.fi U h z (by omega) ro.fi
    rw [← vi.fi] at C hc2
    rw [hc2] at C
    exact C : Calls Tryz.prog 39 #[.slice A1 c1.length k1, .int .i64 v.fi] U fun E W' => Made U c2 E W')
  have C3 := Lib.hid fun (A1 : Option Addr) (k1 : Nat) (U : World) (bu : Below W1.heap.size W1 U) (h : RdB U A1 c2.length c2) (z : A1 = none → c2.length = 0 ∧ k1 = 0) => (by
    have C := wint15 A1 k1 c2 r.le U h z (by omega) ro.le
    rw [← vi.le] at C hc3
    rw [hc3] at C
    exact C : Calls Tryz.prog 39 #[.slice A1 c2.length k1, .int .i64 v.le] U fun E W' => Made U c3 E W')
  have C4 := Lib.hid fun (A1 : Option Addr) (k1 : Nat) (U : World) (bu : Below W1.heap.size W1 U) (h : RdB U A1 c3.length c3) (z : A1 = none → c3.length = 0 ∧ k1 = 0) => (by
    have C := putlistT A1 v.tA k1 v.tl v.tc c3 r.tr U h z (by omega) (grd_below (grd_below vi.tr b1 (Nat.le_refl _)) bu (Nat.le_refl _)) (by omega) ro.tr
    rw [hc4] at C
    exact C : Calls Tryz.prog 40 #[.slice A1 c3.length k1, .slice v.tA v.tl v.tc, .func (.func 41) #[] #[]] U fun E W' => Made U c4 E W')
  have C5 := Lib.hid fun (A1 : Option Addr) (k1 : Nat) (U : World) (bu : Below W1.heap.size W1 U) (h : RdB U A1 c4.length c4) (z : A1 = none → c4.length = 0 ∧ k1 = 0) => (by
    have C := putlist6 A1 v.gA k1 v.gl v.gc c4 r.go U h z (by omega) (grd_below (grd_below vi.go b1 (Nat.le_refl _)) bu (Nat.le_refl _)) (by omega) ro.go
    rw [hc5] at C
    exact C : Calls Tryz.prog 42 #[.slice A1 c4.length k1, .slice v.gA v.gl v.gc, .func (.func 38) #[] #[]] U fun E W' => Made U c5 E W')
  have C6 := Lib.hid fun (A1 : Option Addr) (k1 : Nat) (U : World) (bu : Below W1.heap.size W1 U) (h : RdB U A1 c5.length c5) (z : A1 = none → c5.length = 0 ∧ k1 = 0) => (by
    have C := putlist3 A1 v.aA k1 v.al v.ac c5 r.ac U h z (by omega) (grd_below (grd_below vi.ac b1 (Nat.le_refl _)) bu (Nat.le_refl _)) (by omega) ro.ac
    rw [hc6] at C
    exact C : Calls Tryz.prog 43 #[.slice A1 c5.length k1, .slice v.aA v.al v.ac, .func (.func 44) #[] #[]] U fun E W' => Made U c6 E W')
  have EW := Lib.hid ew
  have B1 := Lib.hid b1
  have HW1 := Lib.hid hW1
  have HG := Lib.hid hg
  clear hW1 b1 x1 M vo vi ro hm h0 hn0 er e0 ew l0 hc0 hc1 hc2 hc3 hc4 hc5 hc6 lt lg la mt mg ma l1 l2 l3 l4 l5
  go_enter Tryz.func11, Tryz.ntmps11
  go_wp2_with (first | (rw [HW1.out]) | ((with_reducible refine rwl_load TRv g 0 RT.out ?_ ?_ ?_); rfl; rfl))
  refine MC.out.mono ?_; rintro e w2 ⟨rfl, q⟩
  have Q := Lib.hid q
  have k0 := K0.out w2 q
  clear q MC
  go_wp2_with (rw [EW.out])
  refine (C0.out _).mono ?_; rintro e w3 ⟨v3, rfl, n3⟩
  obtain ⟨A3, k3, rfl, r3, z3⟩ := owns_pt n3.o
  have Q3 := Lib.hid (Q.out.trans (n3.q.mono Q.out.size))
  have R3 := Lib.hid r3
  have Z3 := Lib.hid z3
  have k0 := K0.out w3 Q3.out
  clear n3 r3 z3 C0
  have kk := K1.out _ Q3.out
  go_wp2_with fail
  refine (C1.out A3 k3 _ Q3.out R3.out Z3.out).mono ?_; rintro e w4 ⟨v4, rfl, n4⟩
  obtain ⟨A4, k4, rfl, r4, z4⟩ := owns_pt n4.o
  have Q4 := Lib.hid (Q3.out.trans (n4.q.mono Q3.out.size))
  have R4 := Lib.hid r4
  have Z4 := Lib.hid z4
  clear n4 r4 z4 kk
  have kk := K2.out _ Q4.out
  go_wp2_with fail
  refine (C2.out A4 k4 _ Q4.out R4.out Z4.out).mono ?_; rintro e w5 ⟨v5, rfl, n5⟩
  obtain ⟨A5, k5, rfl, r5, z5⟩ := owns_pt n5.o
  have Q5 := Lib.hid (Q4.out.trans (n5.q.mono Q4.out.size))
  have R5 := Lib.hid r5
  have Z5 := Lib.hid z5
  clear n5 r5 z5 kk
  have kk := K3.out _ Q5.out
  go_wp2_with fail
  refine (C3.out A5 k5 _ Q5.out R5.out Z5.out).mono ?_; rintro e w6 ⟨v6, rfl, n6⟩
  obtain ⟨A6, k6, rfl, r6, z6⟩ := owns_pt n6.o
  have Q6 := Lib.hid (Q5.out.trans (n6.q.mono Q5.out.size))
  have R6 := Lib.hid r6
  have Z6 := Lib.hid z6
  clear n6 r6 z6 kk
  have kk := K4.out _ Q6.out
  go_wp2_with fail
  refine (C4.out A6 k6 _ Q6.out R6.out Z6.out).mono ?_; rintro e w7 ⟨v7, rfl, n7⟩
  obtain ⟨A7, k7, rfl, r7, z7⟩ := owns_pt n7.o
  have Q7 := Lib.hid (Q6.out.trans (n7.q.mono Q6.out.size))
  have R7 := Lib.hid r7
  have Z7 := Lib.hid z7
  clear n7 r7 z7 kk
  have kk := K5.out _ Q7.out
  go_wp2_with fail
  refine (C5.out A7 k7 _ Q7.out R7.out Z7.out).mono ?_; rintro e w8 ⟨v8, rfl, n8⟩
  obtain ⟨A8, k8, rfl, r8, z8⟩ := owns_pt n8.o
  have Q8 := Lib.hid (Q7.out.trans (n8.q.mono Q7.out.size))
  have R8 := Lib.hid r8
  have Z8 := Lib.hid z8
  clear n8 r8 z8 kk
  have kk := K6.out _ Q8.out
  go_wp2_with fail
  refine (C6.out A8 k8 _ Q8.out R8.out Z8.out).mono ?_; rintro e w9 ⟨v9, rfl, n9⟩
  obtain ⟨A9, k9, rfl, r9, z9⟩ := owns_pt n9.o
  have Q9 := Lib.hid (Q8.out.trans (n9.q.mono Q8.out.size))
  have R9 := Lib.hid r9
  have Z9 := Lib.hid z9
  clear n9 r9 z9 kk
  go_wp2_with fail
  go_ret2
  rw [FM.out]
  exact ⟨A9, c6.length, k9, rfl, R9.out, B1.out.trans (Q9.out.mono B1.out.size), Z9.out⟩
set_option maxRecDepth 100000 in
set_option maxHeartbeats 16000000 in
theorem prep_er (v : Rv) (r : Rw) (w : World) (vo : v.ok) (vi : v.In w r) (ro : r.ok) (hm : MayR r) (h0 : r.er ≠ 0) : Calls Tryz.prog 11 #[.agg (ERv.cells v).toArray] w fun e w' => ToldB (formR r) 0 w.heap.size w w' e := by
  obtain ⟨W1, hW1⟩ : ∃ W1, w.alloc (.cells (ERv.cells v).toArray 40) = W1 := ⟨_, rfl⟩
  obtain ⟨g, hg⟩ : ∃ g, w.heap.size = g := ⟨_, rfl⟩
  have b1 : Below w.heap.size w W1 := by rw [← hW1]; exact below_new w _
  have x1 : ERv.Bx 40 W1 g v := by rw [← hW1, ← hg]; exact gbx_new w _
  have RT := Lib.hid (gbx_rng x1)
  have M := pmayr15 v r W1 vo (vi.below b1) ro
  rw [mrB_yes.2 hm] at M
  have MC := Lib.hid M
  have K0 := Lib.hid fun (U : World) (b : Below W1.heap.size W1 U) => (show U.cell? ⟨g, 0, none⟩ = some (.int .i64 v.er) from rv_c15 (gbx_below x1 b) rfl)
  have hn0 : ∀ U : World, RdB U none 0 [] := fun U => ⟨rfl, fun h => absurd h (Nat.lt_irrefl 0)⟩
  have er := hm.er
  have e0 : ((r.er.toNat : Nat) : Int) = v.er := by rw [vi.er]; exact Int.toNat_of_nonneg er.1
  have ew : IntKind.u64.wrap v.er = v.er := by
    rw [vi.er]
    simp [IntKind.wrap, IntKind.signed, IntKind.bits]
    omega
  obtain ⟨c0, hc0⟩ : ∃ l, nb r.er.toNat = l := ⟨_, rfl⟩
  have l0 : c0.length ≤ 10 := by rw [← hc0]; exact nb_ten (by omega)
  have C0 := Lib.hid fun (U : World) => (by
    have C := wnat15 none 0 [] r.er.toNat U (hn0 U) (fun _ => ⟨rfl, rfl⟩) (by simp) (by omega)
    rw [e0, List.nil_append, hc0] at C
    exact C : Calls Tryz.prog 38 #[.slice none 0 0, .int .u64 v.er] U fun E W' => Made U c0 E W')
  have FM : Hid (formR r = c0) := Lib.hid (by unfold formR; rw [if_neg h0, List.append_nil, hc0])
  have hd : decide (v.er = 0) = false := decide_eq_false (by rw [vi.er]; exact h0)
  have hb : (v.er == 0) = false := by rw [vi.er]; simpa using h0
  have hb2 : (v.er != 0) = true := by rw [vi.er]; simpa using h0
  have EW := Lib.hid ew
  have B1 := Lib.hid b1
  have HW1 := Lib.hid hW1
  have HG := Lib.hid hg
  clear hW1 b1 x1 M vo vi ro hm h0 hn0 er e0 ew l0 hc0
  go_enter Tryz.func11, Tryz.ntmps11
  go_wp2_with (first | (rw [HW1.out]) | ((with_reducible refine rwl_load TRv g 0 RT.out ?_ ?_ ?_); rfl; rfl))
  refine MC.out.mono ?_; rintro e w2 ⟨rfl, q⟩
  have Q := Lib.hid q
  have k0 := K0.out w2 q
  clear q MC
  go_wp2_with (rw [EW.out])
  refine (C0.out _).mono ?_; rintro e w3 ⟨v3, rfl, n3⟩
  obtain ⟨A3, k3, rfl, r3, z3⟩ := owns_pt n3.o
  have Q3 := Lib.hid (Q.out.trans (n3.q.mono Q.out.size))
  have R3 := Lib.hid r3
  have Z3 := Lib.hid z3
  have k0 := K0.out w3 Q3.out
  clear n3 r3 z3 C0
  go_wp2_with fail
  go_ret2
  rw [FM.out]
  exact ⟨A3, c0.length, k3, rfl, R3.out, B1.out.trans (Q3.out.mono B1.out.size), Z3.out⟩
theorem prep15 (v : Rv) (r : Rw) (w : World) (vo : v.ok) (vi : v.In w r) (ro : r.ok) : Calls Tryz.prog 11 #[.agg (ERv.cells v).toArray] w fun e w' => ToldB (rpF r) (rpE r) w.heap.size w w' e := by
  by_cases m : MayR r
  · rw [(rp_may m).1, (rp_may m).2]
    by_cases h0 : r.er = 0
    · exact prep_ok v r w vo vi ro m h0
    · exact prep_er v r w vo vi ro m h0
  · rw [(rp_not m).1, (rp_not m).2]
    exact prep_no v r w vo vi ro (by cases e : mrB r; rfl; exact absurd (mrB_yes.1 e) m)
end Go.Proofs.YtbmlpokkojhhjaaGreat.Wz
/- Plain: what the document's ReadReply reads, as a function; of a reply's form it is that reply, and what is read without a fault is that form's. -/
namespace Go.Proofs.YtbmlpokkojhhjaaGreat.Wt
open Go.RowKit
set_option linter.unusedVariables false
set_option linter.unusedSimpArgs false

/-- So many of a list, as long as there is no fault. -/
def rL {α : Type} (f : List Int → Int → α × List Int × Int) : Nat → List Int → Int → List α × List Int × Int
  | 0, b, e => ([], b, e)
  | n + 1, b, e => if e ≠ 0 then ([], b, e) else ((f b e).1 :: (rL f n (f b e).2.1 (f b e).2.2).1, (rL f n (f b e).2.1 (f b e).2.2).2)
def tR (b : List Int) (e : Int) : Tw × List Int × Int :=
  (⟨(iR b e).1, (iR (iR b e).2.1 (iR b e).2.2).1, (sR (iR (iR b e).2.1 (iR b e).2.2).2.1 (iR (iR b e).2.1 (iR b e).2.2).2.2 top).1,
    (sR (sR (iR (iR b e).2.1 (iR b e).2.2).2.1 (iR (iR b e).2.1 (iR b e).2.2).2.2 top).2.1 (sR (iR (iR b e).2.1 (iR b e).2.2).2.1 (iR (iR b e).2.1 (iR b e).2.2).2.2 top).2.2 4294967295).1⟩,
   (sR (sR (iR (iR b e).2.1 (iR b e).2.2).2.1 (iR (iR b e).2.1 (iR b e).2.2).2.2 top).2.1 (sR (iR (iR b e).2.1 (iR b e).2.2).2.1 (iR (iR b e).2.1 (iR b e).2.2).2.2 top).2.2 4294967295).2)
def gR (b : List Int) (e : Int) : Int × List Int × Int := sR b e top
def aR (b : List Int) (e : Int) : Int × List Int × Int := sR b e 4294967295
section
variable {α : Type} {f : List Int → Int → α × List Int × Int} {F : α → List Int} {P : α → Prop}
theorem rL_form (hf : ∀ x, P x → ∀ l, f (F x ++ l) 0 = (x, l, 0)) : ∀ (xs : List α), (∀ x, x ∈ xs → P x) → ∀ l, rL f xs.length (xs.flatMap F ++ l) 0 = (xs, l, 0)
  | [], _, l => by simp [rL]
  | x :: xs, h, l => by
    have e := hf x (h x (by simp)) (xs.flatMap F ++ l)
    have ih := rL_form hf xs (fun y hy => h y (by simp [hy])) l
    rw [List.length_cons, List.flatMap_cons, List.append_assoc]
    unfold rL
    rw [if_neg (by simp), e]
    dsimp only
    rw [ih]
theorem rL_stuck {n : Nat} {b : List Int} {e : Int} (he : e ≠ 0) : rL f n b e = ([], b, e) := by
  cases n with
  | zero => rfl
  | succ n => unfold rL; rw [if_pos he]
theorem rL_back (hf : ∀ b, By b → (f b 0).2.2 = 0 → b = F (f b 0).1 ++ (f b 0).2.1 ∧ P (f b 0).1 ∧ By (f b 0).2.1) : ∀ (n : Nat) (b : List Int), By b → (rL f n b 0).2.2 = 0 →
    b = (rL f n b 0).1.flatMap F ++ (rL f n b 0).2.1 ∧ (∀ x, x ∈ (rL f n b 0).1 → P x) ∧ By (rL f n b 0).2.1 ∧ (rL f n b 0).1.length = n
  | 0, b, hy, _ => ⟨by simp [rL], fun x hx => by simp [rL] at hx, hy, rfl⟩
  | n + 1, b, hy, h => by
    have e : rL f (n + 1) b 0 = ((f b 0).1 :: (rL f n (f b 0).2.1 (f b 0).2.2).1, (rL f n (f b 0).2.1 (f b 0).2.2).2) := by
      conv => lhs; unfold rL
      rw [if_neg (by simp)]
    rw [e] at h ⊢
    have e0 : (f b 0).2.2 = 0 := Classical.byContradiction fun c => by
      rw [rL_stuck c] at h
      exact c h
    rw [e0] at h ⊢
    obtain ⟨a1, a2, a3⟩ := hf b hy e0
    obtain ⟨b1, b2, b3, b4⟩ := rL_back hf n _ a3 h
    refine ⟨?_, fun x hx => ?_, b3, by dsimp only; rw [List.length_cons, b4]⟩
    · dsimp only
      rw [List.flatMap_cons, List.append_assoc, ← b1]
      exact a1
    · dsimp only at hx
      rcases List.mem_cons.1 hx with m | m
      · rw [m]; exact a2
      · exact b2 x m
end
theorem s_num15 {x : Int} (h : 0 ≤ x ∧ x ≤ 18446744073709551615) {most : Int} (hm : x ≤ most) (l : List Int) : sR (nb x.toNat ++ l) 0 most = (x, l, 0) := by
  have q := sR_form (n := x.toNat) (by omega) (most := most) (by omega) l
  rw [q]
  congr 1
  omega
theorem tR_form (t : Tw) (ok : t.ok) (l : List Int) : tR (trF t ++ l) 0 = (t, l, 0) := by
  have h1 := ok.nu
  have h2 := ok.ac
  have e : trF t ++ l = ib t.px ++ (ib t.qt ++ (nb t.nu.toNat ++ (nb t.ac.toNat ++ l))) := by simp [trF, List.append_assoc]
  unfold tR
  rw [e]
  simp only [iR_form ok.px, iR_form ok.qt, s_num15 h1 (show t.nu ≤ top by unfold top; omega), s_num15 (x := t.ac) (by omega) (show t.ac ≤ 4294967295 by omega)]
theorem gR_form (n : Int) (h : 0 ≤ n ∧ n ≤ 18446744073709551615) (l : List Int) : gR (nF n ++ l) 0 = (n, l, 0) := s_num15 h (by unfold top; omega) l
theorem aR_form (n : Int) (h : 0 ≤ n ∧ n ≤ 4294967295) (l : List Int) : aR (nF n ++ l) 0 = (n, l, 0) := s_num15 (by omega) (by omega) l
theorem tR_back (b : List Int) (hy : By b) (h : (tR b 0).2.2 = 0) : b = trF (tR b 0).1 ++ (tR b 0).2.1 ∧ (tR b 0).1.ok ∧ By (tR b 0).2.1 := by
  unfold tR at h ⊢
  dsimp only at h ⊢
  generalize g1 : iR b 0 = p at *
  generalize g2 : iR p.2.1 p.2.2 = q at *
  generalize g3 : sR q.2.1 q.2.2 top = n at *
  generalize g4 : sR n.2.1 n.2.2 4294967295 = a at *
  have z3 : n.2.2 = 0 := sR_start (by rw [g4]; exact h)
  have z2 : q.2.2 = 0 := sR_start (by rw [g3]; exact z3)
  have z1 : p.2.2 = 0 := iR_start (by rw [g2]; exact z2)
  have k1 := iR_back hy (by rw [g1]; exact z1)
  rw [g1] at k1
  rw [z1] at g2
  have k2 := iR_back k1.2.2 (by rw [g2]; exact z2)
  rw [g2] at k2
  rw [z2] at g3
  have k3 := sR_back k2.2.2 (most := top) (by rw [g3]; exact z3)
  rw [g3] at k3
  rw [z3] at g4
  have k4 := sR_back k3.2.2 (most := 4294967295) (by rw [g4]; exact h)
  rw [g4] at k4
  have k42 := k4.2.1
  have k32 := k3.2.1
  refine ⟨?_, ⟨k1.2.1, k2.2.1, ⟨k32.1, k32.2.2⟩, ⟨k42.1, k42.2.1⟩⟩, k4.2.2⟩
  unfold trF
  simp only [List.append_assoc]
  rw [← k4.1, ← k3.1, ← k2.1]
  exact k1.1
theorem gR_back (b : List Int) (hy : By b) (h : (gR b 0).2.2 = 0) : b = nF (gR b 0).1 ++ (gR b 0).2.1 ∧ (0 ≤ (gR b 0).1 ∧ (gR b 0).1 ≤ 18446744073709551615) ∧ By (gR b 0).2.1 := by
  have k := sR_back hy (most := top) h
  exact ⟨k.1, ⟨k.2.1.1, k.2.1.2.2⟩, k.2.2⟩
theorem aR_back (b : List Int) (hy : By b) (h : (aR b 0).2.2 = 0) : b = nF (aR b 0).1 ++ (aR b 0).2.1 ∧ (0 ≤ (aR b 0).1 ∧ (aR b 0).1 ≤ 4294967295) ∧ By (aR b 0).2.1 := by
  have k := sR_back hy (most := 4294967295) h
  exact ⟨k.1, ⟨k.2.1.1, k.2.1.2.1⟩, k.2.2⟩
/-- A list behind how many there are. -/
def nL {α : Type} (f : List Int → Int → α × List Int × Int) (b : List Int) (e : Int) : List α × List Int × Int := rL f (sR b e 4000).1.toNat (sR b e 4000).2.1 (sR b e 4000).2.2
section
variable {α : Type} {f : List Int → Int → α × List Int × Int} {F : α → List Int} {P : α → Prop}
theorem nL_form (hf : ∀ x, P x → ∀ l, f (F x ++ l) 0 = (x, l, 0)) {xs : List α} (hl : xs.length ≤ 4000) (h : ∀ x, x ∈ xs → P x) (l : List Int) : nL f (lstF F xs ++ l) 0 = (xs, l, 0) := by
  have q := sR_form (n := xs.length) (by omega) (most := 4000) (by omega) (xs.flatMap F ++ l)
  unfold nL lstF
  rw [List.append_assoc, q]
  dsimp only
  rw [Int.toNat_natCast]
  exact rL_form hf xs h l
theorem nL_start {b : List Int} {e : Int} (h : (nL f b e).2.2 = 0) : e = 0 := by
  unfold nL at h
  refine sR_start (most := 4000) (bs := b) (Classical.byContradiction fun c => ?_)
  rw [rL_stuck c] at h
  exact c h
theorem nL_back (hf : ∀ b, By b → (f b 0).2.2 = 0 → b = F (f b 0).1 ++ (f b 0).2.1 ∧ P (f b 0).1 ∧ By (f b 0).2.1) {b : List Int} (hy : By b) (h : (nL f b 0).2.2 = 0) :
    b = lstF F (nL f b 0).1 ++ (nL f b 0).2.1 ∧ (∀ x, x ∈ (nL f b 0).1 → P x) ∧ By (nL f b 0).2.1 ∧ (nL f b 0).1.length ≤ 4000 := by
  have z : (sR b 0 4000).2.2 = 0 := Classical.byContradiction fun c => by
    unfold nL at h
    rw [rL_stuck c] at h
    exact c h
  have k := sR_back hy (most := 4000) z
  unfold nL at h ⊢
  rw [z] at h ⊢
  obtain ⟨a1, a2, a3, a4⟩ := rL_back hf _ _ k.2.2 h
  refine ⟨?_, a2, a3, by rw [a4]; have := k.2.1; omega⟩
  unfold lstF
  rw [a4, List.append_assoc, ← a1]
  exact k.1
end
/-- A reply read. -/
def pR (bs : List Int) : Rw × List Int × Int :=
  if (sR bs 0 999).1 = 0 ∧ (sR bs 0 999).2.2 = 0 then
    let u := sR (sR bs 0 999).2.1 (sR bs 0 999).2.2 top
    let f := iR u.2.1 u.2.2
    let l := iR f.2.1 f.2.2
    let t := nL tR l.2.1 l.2.2
    let g := nL gR t.2.1 t.2.2
    let a := nL aR g.2.1 g.2.2
    (⟨0, u.1, f.1, l.1, t.1, g.1, a.1⟩, a.2)
  else (⟨(sR bs 0 999).1, 0, 0, 0, [], [], []⟩, (sR bs 0 999).2)
theorem pR_form {d : Rw} (ok : d.ok) (m : MayR d) : pR (formR d) = (d, [], 0) := by
  have h0 := m.er
  have h1 := ok.nu
  unfold pR formR
  rw [s_num15 (by omega) (show d.er ≤ 999 by omega)]
  by_cases z : d.er = 0
  · rw [if_pos ⟨z, rfl⟩, if_pos z]
    dsimp only
    have e : nb d.nu.toNat ++ ib d.fi ++ ib d.le ++ lstF trF d.tr ++ lstF nF d.go ++ lstF nF d.ac = nb d.nu.toNat ++ (ib d.fi ++ (ib d.le ++ (lstF trF d.tr ++ (lstF nF d.go ++ (lstF nF d.ac ++ []))))) := by simp [List.append_assoc]
    rw [e]
    simp only [s_num15 h1 (show d.nu ≤ top by unfold top; omega), iR_form ok.fi, iR_form ok.le, nL_form tR_form m.lt ok.tr, nL_form gR_form m.lg ok.go, nL_form aR_form m.la ok.ac]
    rw [← z]
  · rw [if_neg (fun c => z c.1), if_neg z]
    obtain ⟨p1, p2, p3, p4, p5, p6⟩ := m.no z
    obtain ⟨b0, b1, b2, b3, b4, b5, b6⟩ := d
    dsimp only at p1 p2 p3 p4 p5 p6 ⊢
    rw [p1, p2, p3, p4, p5, p6]
theorem pR_back {bs : List Int} (hy : By bs) (h : (pR bs).2 = ([], 0)) : IsR bs (pR bs).1 := by
  have hb := sR_bd hy 0 999
  have hm := sR_back hy (most := 999)
  unfold pR at h ⊢
  generalize gs : sR bs 0 999 = s at *
  by_cases c : s.1 = 0 ∧ s.2.2 = 0
  · rw [if_pos c] at h ⊢
    dsimp only at h ⊢
    obtain ⟨c1, c2⟩ := c
    have k0 := hm c2
    rw [c2] at h ⊢
    generalize g1 : sR s.2.1 0 top = u at *
    generalize g2 : iR u.2.1 u.2.2 = f at *
    generalize g3 : iR f.2.1 f.2.2 = l at *
    generalize g4 : nL tR l.2.1 l.2.2 = t at *
    generalize g5 : nL gR t.2.1 t.2.2 = g at *
    generalize g6 : nL aR g.2.1 g.2.2 = a at *
    have z6 : a.2.2 = 0 := by rw [h]
    have z5 : g.2.2 = 0 := nL_start (by rw [g6]; exact z6)
    have z4 : t.2.2 = 0 := nL_start (by rw [g5]; exact z5)
    have z3 : l.2.2 = 0 := nL_start (by rw [g4]; exact z4)
    have z2 : f.2.2 = 0 := iR_start (by rw [g3]; exact z3)
    have z1 : u.2.2 = 0 := iR_start (by rw [g2]; exact z2)
    have k1 := sR_back k0.2.2 (most := top) (by rw [g1]; exact z1)
    rw [g1] at k1
    rw [z1] at g2
    have k2 := iR_back k1.2.2 (by rw [g2]; exact z2)
    rw [g2] at k2
    rw [z2] at g3
    have k3 := iR_back k2.2.2 (by rw [g3]; exact z3)
    rw [g3] at k3
    rw [z3] at g4
    have k4 := nL_back tR_back k3.2.2 (by rw [g4]; exact z4)
    rw [g4] at k4
    rw [z4] at g5
    have k5 := nL_back (F := nF) (P := fun n => 0 ≤ n ∧ n ≤ 18446744073709551615) gR_back k4.2.2.1 (by rw [g5]; exact z5)
    rw [g5] at k5
    rw [z5] at g6
    have k6 := nL_back (F := nF) (P := fun n => 0 ≤ n ∧ n ≤ 4294967295) aR_back k5.2.2.1 (by rw [g6]; exact z6)
    rw [g6] at k6
    have e6 : a.2.1 = [] := by rw [h]
    refine ⟨⟨by show I64 0; unfold I64; omega, ⟨k1.2.1.1, k1.2.1.2.2⟩, k2.2.1, k3.2.1, k4.2.1, k5.2.1, k6.2.1⟩, ⟨by show (0 : Int) ≤ 0 ∧ (0 : Int) ≤ 999; omega, k4.2.2.2, k5.2.2.2, k6.2.2.2, fun z => absurd rfl z⟩, ?_⟩
    unfold formR
    rw [if_pos rfl]
    have b0 := k0.1
    rw [c1, k1.1, k2.1, k3.1, k4.1, k5.1, k6.1, e6] at b0
    rw [b0]
    simp [List.append_assoc]
  · rw [if_neg c] at h ⊢
    dsimp only at h ⊢
    have e2 : s.2.2 = 0 := by rw [h]
    have e1 : s.2.1 = [] := by rw [h]
    have k0 := hm e2
    have nz : s.1 ≠ 0 := fun z => c ⟨z, e2⟩
    have kb := k0.2.1
    refine ⟨⟨by show I64 s.1; unfold I64; omega, by simp, by simp [I64], by simp [I64], fun t ht => by simp at ht, fun t ht => by simp at ht, fun t ht => by simp at ht⟩, ⟨⟨kb.1, kb.2.1⟩, by simp, by simp, by simp, fun _ => ⟨rfl, rfl, rfl, rfl, rfl, rfl⟩⟩, ?_⟩
    unfold formR
    rw [if_neg nz, List.append_nil]
    have b0 := k0.1
    rw [e1, List.append_nil] at b0
    exact b0.symm
theorem pR_none {bs : List Int} (h : (pR bs).2 ≠ ([], 0)) (d : Rw) : ¬ IsR bs d := fun hd => h (by
  have := pR_form hd.1 hd.2.1
  rw [hd.2.2] at this
  rw [this])
end Go.Proofs.YtbmlpokkojhhjaaGreat.Wt
