/- Texts of a proof, laid together: Jb, Je, Jf, Jg, Jc. -/
import Derived.Test.YtdcjgcjnfcahkaaG15
import Derived.Test.YtdcjgcjnfcahkaaG02
/- The library's search, clone, insert, delete at a struct (by genLib.py). -/
namespace Go.Proofs.Ytdcjgcjnfcahkaa
open Go.RowKit Go.Shelf
set_option linter.unusedVariables false
set_option linter.unusedSimpArgs false

theorem fl_len_so (l : List St) : (ESt.flat l).length = l.length * 6 := gflat_len l
theorem cl_len_so (x : St) : (ESt.cells x).length = 6 := ESt.len x
theorem rng_so {w W : World} {A : Option Addr} {n B : Nat} {l : List St} (h : ESt.Rd w A n l) (q : Below B w W) (hB : w.heap.size ≤ B) {k : Nat} {x : St} (hx : l[k]? = some x) : ∃ b o, A = some ⟨b, o, none⟩ ∧ W.rangeAt b (o + k * 6) (ESt.cells x) :=
  grd_rng (grd_below h q hB) hx

set_option maxRecDepth 100000 in
set_option maxHeartbeats 1000000 in
theorem index_so (g : Nat) (lb : Array Value) (p : St → Bool) (A : Option Addr) (n c : Nat) (l : List St) (w : World) (eg : ∀ args w, (callFunc g args).run Try.prog w = .ok (.enter g args) w) (hp : GTests Try.prog ESt St.ok g lb p w) (hr : ESt.Rd w A n l) (hok : ∀ x, x ∈ l → St.ok x) (hn : n ≤ 1000) :
    Calls Try.prog 83 #[.slice A n c, .func (.func g) #[] lb] w fun e w' => e = .returned (.int .i64 (gidx p l)) ∧ Below w.heap.size w w' := by
  have HP := Lib.hid hp
  have HR := Lib.hid hr
  have HK := Lib.hid hok
  have HL := Lib.hid hr.1
  have B0 : Hid (Below w.heap.size w w) := Lib.hid (Below.refl _ _)
  obtain ⟨r, hr1⟩ : ∃ r, gidx p l = r := ⟨_, rfl⟩
  rw [hr1]
  have R1 := Lib.hid hr1
  clear hr1 hp hr hok
  go_enter Try.func83, Try.ntmps83
  go_wp2_with fail
  go_loopw [5, 8] (fun _ i wr => ∃ k : Nat, k ≤ n ∧ i = .int .i64 k ∧ Below w.heap.size w wr ∧ ∀ (j : Nat) (y : St), j < k → l[j]? = some y → p y = false) (fun _ i _ => n - (intOf i).toNat)
  case atStart => exact ⟨0, Nat.zero_le _, rfl, B0.out, fun j y hj => absurd hj (Nat.not_lt_zero j)⟩
  case round =>
    obtain ⟨k, hk, rfl, hb, hno⟩ := hrel
    have BW := Lib.hid hb
    have NO := Lib.hid hno
    clear hb hno
    by_cases hlt : k < n
    case pos =>
      have hd : decide ((k : Int) < n) = true := decide_eq_true (by omega)
      have hki : (k : Int) < (n : Int) := by omega
      obtain ⟨x, hx⟩ : ∃ x, l[k]? = some x := ⟨l[k]'(by have := HL.out; omega), List.getElem?_eq_getElem _⟩
      have OK := Lib.hid (HK.out x (List.mem_of_getElem? hx))
      obtain ⟨b, o, rfl, rg⟩ := rng_so HR.out BW.out (Nat.le_refl _) hx
      have RG := Lib.hid rg
      have C := Lib.hid (HP.out wr x BW.out OK.out)
      have HX := Lib.hid hx
      clear hx rg
      cases hpx : p x
      · rw [hpx] at C
        have PX := Lib.hid hpx
        clear hpx
        go_wp2_with ((with_reducible refine gwl_load TSt b (o + k * 6) RG.out ?_ ?_ ?_); rfl; rfl)
        refine C.out.mono ?_; rintro e w2 ⟨rfl, q⟩
        have Q := Lib.hid q
        clear q
        go_wp2_with fail
        go_roundw
        case rel => exact ⟨k + 1, hlt, by go_num, BW.out.trans (Q.out.mono BW.out.size), fun j y hj hy => by
            rcases Nat.lt_or_ge j k with c | c
            · exact NO.out j y c hy
            · obtain rfl : j = k := by omega
              rw [HX.out] at hy; cases hy; exact PX.out⟩
        case measure => simp [intOf]; omega
      · rw [hpx] at C
        have E : Hid (r = (k : Int)) := Lib.hid (by rw [← R1.out, gidx, gidx_hit HX.out hpx NO.out])
        clear hpx
        go_wp2_with ((with_reducible refine gwl_load TSt b (o + k * 6) RG.out ?_ ?_ ?_); rfl; rfl)
        refine C.out.mono ?_; rintro e w2 ⟨rfl, q⟩
        have Q := Lib.hid q
        clear q
        go_wp2_with fail
        go_ret
        rw [E.out]
        exact ⟨rfl, BW.out.trans (Q.out.mono BW.out.size)⟩
    case neg =>
      obtain rfl : k = n := by omega
      have E : Hid (r = -1) := Lib.hid (by rw [← R1.out, gidx, gidx_miss fun j y hy => NO.out j y (by have := (List.getElem?_eq_some_iff.1 hy).1; have := HL.out; omega) hy])
      go_wp2_with fail
      go_ret
      rw [E.out]
      exact ⟨rfl, BW.out⟩

set_option maxRecDepth 100000 in
theorem clone_so (A : Option Addr) (n c : Nat) (l : List St) (w : World) (h : ESt.Rd w A n l) (hn : n ≤ 1000) (h0 : A = none → c = 0) :
    Calls Try.prog 49 #[.slice A n c] w fun e w' => ∃ v, e = .returned v ∧ ESt.Own 88 w' w.heap.size v l ∧ Below w.heap.size w w' := by
  have q := fun (w : World) (a : Option Addr) (n c n' c' : Nat) => Lib.run_eql_slice_nil (P := Try.prog) w 83 88 a n c n' c' TSt.und
  cases A with
  | none =>
    have hz := h.2.1 rfl
    have hc := h0 rfl
    subst hz hc
    have e : l = [] := List.eq_nil_of_length_eq_zero h.1
    subst e
    clear h
    go_enter Try.func49, Try.ntmps49
    go_wp2
    go_ret
    exact ⟨_, rfl, gown_nil _ _, Below.refl _ _⟩
  | some ad =>
    have O := Lib.hid (gown_new (E := ESt) (te := 88) w)
    have R := Lib.hid (grd_below h (below_new w (.cells #[] 88)) (Nat.le_refl _))
    have B := Lib.hid (below_new w (.cells #[] 88))
    clear h h0
    go_enter Try.func49, Try.ntmps49
    go_wp2_with (at_builtin; refine gpl_app TSt rfl _ _ rfl w.heap.size _ [] rfl O.out (some ad) n c l rfl R.out (fun e => by cases e) (by simp; omega) (by simp) ?_; intro v' w' h1 h2 h3)
    go_ret
    rw [List.nil_append] at h1
    exact ⟨_, rfl, h1, B.out.grown h2 (by simp) (fun k e => (by cases e; exact Nat.le_refl _))⟩
end Go.Proofs.Ytdcjgcjnfcahkaa
/- The program's side: the small calls: whether it is there, what is within bounds, what is better, ahead; the closures; find, place, first, behind, at. -/
namespace Go.Proofs.Ytdcjgcjnfcahkaa
open Go.RowKit Go.Shelf
set_option linter.unusedVariables false

section
set_option maxRecDepth 100000
theorem smiss_nil (w : World) : Calls Try.prog 48 #[.pointer none] w fun e w' => e = .returned (.bool true) ∧ w = w' := by
  go_enter Try.func48, Try.ntmps48
  go_wp2
  go_ret
  exact ⟨rfl, rfl⟩
theorem smiss_zero {w : World} {g : Nat} (h : w.cell? ⟨g, 0, none⟩ = some (.bool false)) : Calls Try.prog 48 #[.pointer (some ⟨g, 0, none⟩)] w fun e w' => e = .returned (.bool true) ∧ w = w' := by
  go_enter Try.func48, Try.ntmps48
  go_wp2
  go_ret
  exact ⟨rfl, rfl⟩
theorem smiss_no {w : World} {g : Nat} (h : w.cell? ⟨g, 0, none⟩ = some (.bool true)) : Calls Try.prog 48 #[.pointer (some ⟨g, 0, none⟩)] w fun e w' => e = .returned (.bool false) ∧ w = w' := by
  go_enter Try.func48, Try.ntmps48
  go_wp2
  go_ret
  exact ⟨rfl, rfl⟩
def witB (n m : Int) : Bool := decide (1 ≤ n) && decide (n ≤ m)
theorem wit_any (n m : Int) (w : World) : Calls Try.prog 72 #[.int .i64 n, .int .i64 m] w fun e w' => e = .returned (.bool (witB n m)) ∧ w = w' := by
  unfold witB
  cases h : decide (1 ≤ n)
  · have h' : Hid (decide (1 ≤ n) = false) := Lib.hid h
    go_enter Try.func72, Try.ntmps72
    go_wp2
    go_ret
    exact ⟨rfl, rfl⟩
  · have h' : Hid (decide (1 ≤ n) = true) := Lib.hid h
    go_enter Try.func72, Try.ntmps72
    go_wp2
    go_ret
    exact ⟨by simp, rfl⟩
theorem bet_any (buy : Bool) (g : Nat) (a b : Int) (w : World) (h : w.cell? ⟨g, 1, none⟩ = some (.bool buy)) : Calls Try.prog 82 #[.pointer (some ⟨g, 0, none⟩), .int .i64 a, .int .i64 b] w fun e w' => e = .returned (.bool (btr buy a b)) ∧ w = w' := by
  cases buy
  · go_enter Try.func82, Try.ntmps82
    go_wp2
    go_ret
    exact ⟨by simp [btr], rfl⟩
  · go_enter Try.func82, Try.ntmps82
    go_wp2
    go_ret
    exact ⟨by simp [btr], rfl⟩
end
/-- A struct boxed: its cells. -/
theorem st_bx (w : World) (x : St) (j : Nat) (hj : j < 6) : (w.alloc (.cells (ESt.cells x).toArray 88)).cell? ⟨w.heap.size, j, none⟩ = (ESt.cells x)[j]? := gbx_cell (gbx_new (E := ESt) w x) j
theorem or_bx (w : World) (x : Or) (j : Nat) : (w.alloc (.cells (EO.cells x).toArray 31)).cell? ⟨w.heap.size, j, none⟩ = (EO.cells x)[j]? := gbx_cell (gbx_new (E := EO) w x) j
set_option maxRecDepth 100000 in
set_option maxHeartbeats 1000000 in
theorem smay_any (o : Or) (w : World) (ok : o.ok) : Calls Try.prog 45 #[.agg (EO.cells o).toArray] w fun e w' => e = .returned (.bool (mayO o)) ∧ Below w.heap.size w w' := by
  have k0 := or_bx w o 0
  have k1 := or_bx w o 1
  have k3 := or_bx w o 3
  have k4 := or_bx w o 4
  simp only [EO, Or.cells, List.getElem?_cons_zero, List.getElem?_cons_succ] at k0 k1 k3 k4
  have B := Lib.hid (below_new w (.cells (EO.cells o).toArray 31))
  have W1 := Lib.hid fun W => wit_any o.pr 10000000 W
  have W2 := Lib.hid fun W => wit_any o.le 1000000 W
  have E : Hid (mayO o = (((o.nu != 0) && (o.ac != 0)) && witB o.pr 10000000 && witB o.le 1000000)) := Lib.hid (by
    have h1 : decide (0 < o.nu) = (o.nu != 0) := by
      have := ok.nu
      by_cases c : o.nu = 0
      · simp [c]
      · rw [decide_eq_true (by omega)]; simp [c]
    have h2 : decide (0 < o.ac) = (o.ac != 0) := by
      have := ok.ac
      by_cases c : o.ac = 0
      · simp [c]
      · rw [decide_eq_true (by omega)]; simp [c]
    unfold mayO witB
    rw [h1, h2, show decide (0 < o.pr) = decide (1 ≤ o.pr) from decide_eq_decide.2 (by omega), show decide (0 < o.le) = decide (1 ≤ o.le) from decide_eq_decide.2 (by omega)]
    simp only [Bool.and_assoc])
  rw [E.out]
  clear ok E
  show Calls Try.prog 45 #[.agg (Or.cells o).toArray] w _
  unfold Or.cells
  change Hid (Below w.heap.size w (w.alloc (.cells [.int .u64 o.nu, .int .u32 o.ac, .bool o.bu, .int .i64 o.pr, .int .i64 o.le].toArray 31))) at B
  obtain ⟨nu, ac, bu, pr, le⟩ := o
  dsimp only at *
  generalize witB pr 10000000 = p1 at *
  generalize witB le 1000000 = p2 at *
  cases c1 : (nu != 0)
  · go_enter Try.func45, Try.ntmps45
    go_wp2_with fail
    go_ret
    exact ⟨by simp, B.out⟩
  · cases c2 : (ac != 0)
    · go_enter Try.func45, Try.ntmps45
      go_wp2_with fail
      go_ret
      exact ⟨by simp, B.out⟩
    · cases p1
      · go_enter Try.func45, Try.ntmps45
        go_wp2_with fail
        refine (W1.out _).mono ?_; rintro e w2 ⟨rfl, rfl⟩
        go_wp2_with fail
        go_ret
        exact ⟨by simp, B.out⟩
      · go_enter Try.func45, Try.ntmps45
        go_wp2_with fail
        refine (W1.out _).mono ?_; rintro e w2 ⟨rfl, rfl⟩
        go_wp2_with fail
        refine (W2.out _).mono ?_; rintro e w2 ⟨rfl, rfl⟩
        go_wp2_with fail
        go_ret
        exact ⟨by simp, B.out⟩
set_option maxRecDepth 100000 in
set_option maxHeartbeats 1000000 in
theorem ahead_any (buy : Bool) (g : Nat) (a b : St) (w : World) (h : w.cell? ⟨g, 1, none⟩ = some (.bool buy)) : Calls Try.prog 89 #[.pointer (some ⟨g, 0, none⟩), .agg (ESt.cells a).toArray, .agg (ESt.cells b).toArray] w fun e w' => e = .returned (.bool (ahB buy a b)) ∧ Below w.heap.size w w' := by
  obtain ⟨w1, hw1⟩ : ∃ w1, w.alloc (.cells (ESt.cells a).toArray 88) = w1 := ⟨_, rfl⟩
  obtain ⟨w2, hw2⟩ : ∃ w2, w1.alloc (.cells (ESt.cells b).toArray 88) = w2 := ⟨_, rfl⟩
  have b1 : Below w.heap.size w w1 := hw1 ▸ below_new w _
  have b2 : Below w1.heap.size w1 w2 := hw2 ▸ below_new w1 _
  have s1 : w1.heap.size = w.heap.size + 1 := by rw [← hw1]; simp
  have x1 : ESt.Bx 88 w2 w.heap.size a := gbx_below (hw1 ▸ gbx_new w a) b2
  have x2 : ESt.Bx 88 w2 (w.heap.size + 1) b := by rw [← s1]; exact hw2 ▸ gbx_new w1 b
  have p1 : w2.cell? ⟨w.heap.size, 3, none⟩ = some (.int .i64 a.o.pr) := gbx_cell x1 3
  have q1 : w2.cell? ⟨w.heap.size, 5, none⟩ = some (.int .u64 a.cm) := gbx_cell x1 5
  have p2 : w2.cell? ⟨w.heap.size + 1, 3, none⟩ = some (.int .i64 b.o.pr) := gbx_cell x2 3
  have q2 : w2.cell? ⟨w.heap.size + 1, 5, none⟩ = some (.int .u64 b.cm) := gbx_cell x2 5
  have B := Lib.hid (b1.trans (b2.mono b1.size))
  have C := bet_any buy g a.o.pr b.o.pr w2 (cell_below (cell_below h b1 (Nat.le_refl _)) b2 (Nat.le_refl _))
  have HW1 := Lib.hid hw1
  have HW2 := Lib.hid hw2
  have S1 := Lib.hid s1
  unfold ahB
  clear h hw1 hw2 b1 b2 x1 x2 s1
  by_cases e : a.o.pr = b.o.pr
  · rw [if_pos e]
    have hd : (a.o.pr == b.o.pr) = true := beq_iff_eq.2 e
    clear e
    go_enter Try.func89, Try.ntmps89
    go_wp2_with (simp only [HW1.out, HW2.out, S1.out])
    go_ret
    exact ⟨rfl, B.out⟩
  · rw [if_neg e]
    have hd : (a.o.pr == b.o.pr) = false := beq_eq_false_iff_ne.2 e
    clear e
    go_enter Try.func89, Try.ntmps89
    go_wp2_with (simp only [HW1.out, HW2.out, S1.out])
    refine C.mono ?_; rintro e w3 ⟨rfl, rfl⟩
    go_wp2_with fail
    go_ret
    exact ⟨rfl, B.out⟩
end Go.Proofs.Ytdcjgcjnfcahkaa
/- The program's side: the closures; find, place, first, behind, at. -/
namespace Go.Proofs.Ytdcjgcjnfcahkaa
open Go.RowKit Go.Shelf
set_option linter.unusedVariables false

def nuIs (n : Int) (x : St) : Bool := x.o.nu == n
def worse (buy : Bool) (p : Int) (x : St) : Bool := btr buy p x.o.pr
set_option maxRecDepth 100000 in
theorem fclo_any (x : St) (nb : Nat) (n : Int) (w : World) (h : w.cell? ⟨nb, 0, none⟩ = some (.int .u64 n)) : Calls Try.prog 84 #[.agg (ESt.cells x).toArray, .pointer (some ⟨nb, 0, none⟩)] w fun e w' => e = .returned (.bool (nuIs n x)) ∧ Below w.heap.size w w' := by
  obtain ⟨w1, hw1⟩ : ∃ w1, w.alloc (.cells (ESt.cells x).toArray 88) = w1 := ⟨_, rfl⟩
  have b1 : Below w.heap.size w w1 := hw1 ▸ below_new w _
  have x1 : ESt.Bx 88 w1 w.heap.size x := hw1 ▸ gbx_new w x
  have p1 : w1.cell? ⟨w.heap.size, 0, none⟩ = some (.int .u64 x.o.nu) := gbx_cell x1 0
  have q1 := cell_below h b1 (Nat.le_refl _)
  have B := Lib.hid b1
  have HW1 := Lib.hid hw1
  clear h hw1 b1 x1
  go_enter Try.func84, Try.ntmps84
  go_wp2_with (simp only [HW1.out])
  go_ret
  exact ⟨rfl, B.out⟩
set_option maxRecDepth 100000 in
theorem pclo_any (buy : Bool) (g : Nat) (x : St) (sb pb : Nat) (p : Int) (w : World) (hs : w.cell? ⟨sb, 0, none⟩ = some (.pointer (some ⟨g, 0, none⟩))) (hp : w.cell? ⟨pb, 0, none⟩ = some (.int .i64 p)) (hb : w.cell? ⟨g, 1, none⟩ = some (.bool buy)) :
    Calls Try.prog 87 #[.agg (ESt.cells x).toArray, .pointer (some ⟨sb, 0, none⟩), .pointer (some ⟨pb, 0, none⟩)] w fun e w' => e = .returned (.bool (worse buy p x)) ∧ Below w.heap.size w w' := by
  obtain ⟨w1, hw1⟩ : ∃ w1, w.alloc (.cells (ESt.cells x).toArray 88) = w1 := ⟨_, rfl⟩
  have b1 : Below w.heap.size w w1 := hw1 ▸ below_new w _
  have x1 : ESt.Bx 88 w1 w.heap.size x := hw1 ▸ gbx_new w x
  have p1 : w1.cell? ⟨w.heap.size, 3, none⟩ = some (.int .i64 x.o.pr) := gbx_cell x1 3
  have q1 := cell_below hs b1 (Nat.le_refl _)
  have q2 := cell_below hp b1 (Nat.le_refl _)
  have C := bet_any buy g p x.o.pr w1 (cell_below hb b1 (Nat.le_refl _))
  have B := Lib.hid b1
  have HW1 := Lib.hid hw1
  clear hs hp hb hw1 b1 x1
  go_enter Try.func87, Try.ntmps87
  go_wp2_with (simp only [HW1.out])
  refine C.mono ?_; rintro e w3 ⟨rfl, rfl⟩
  go_wp2_with fail
  go_ret
  exact ⟨rfl, B.out⟩
set_option maxRecDepth 100000 in
set_option maxHeartbeats 1000000 in
theorem bclo_any (buy : Bool) (g : Nat) (a x : St) (sb ab : Nat) (w : World) (hs : w.cell? ⟨sb, 0, none⟩ = some (.pointer (some ⟨g, 0, none⟩))) (ha : ESt.Bx 88 w ab a) (hb : w.cell? ⟨g, 1, none⟩ = some (.bool buy)) :
    Calls Try.prog 88 #[.agg (ESt.cells x).toArray, .pointer (some ⟨sb, 0, none⟩), .pointer (some ⟨ab, 0, none⟩)] w fun e w' => e = .returned (.bool (ahB buy a x)) ∧ Below w.heap.size w w' := by
  obtain ⟨w1, hw1⟩ : ∃ w1, w.alloc (.cells (ESt.cells x).toArray 88) = w1 := ⟨_, rfl⟩
  have b1 : Below w.heap.size w w1 := hw1 ▸ below_new w _
  have x1 : ESt.Bx 88 w1 w.heap.size x := hw1 ▸ gbx_new w x
  have RX := Lib.hid (gbx_rng x1)
  have RA := Lib.hid (gbx_rng (gbx_below ha b1))
  have q1 := cell_below hs b1 (Nat.le_refl _)
  have C := ahead_any buy g a x w1 (cell_below hb b1 (Nat.le_refl _))
  have B := Lib.hid b1
  have HW1 := Lib.hid hw1
  clear hs ha hb hw1 b1 x1
  go_enter Try.func88, Try.ntmps88
  go_wp2_with (first | (simp only [HW1.out]) | ((with_reducible refine gwl_load TSt ab 0 RA.out ?_ ?_ ?_); rfl; rfl) | ((with_reducible refine gwl_load TSt w.heap.size 0 RX.out ?_ ?_ ?_); rfl; rfl))
  refine C.mono ?_; rintro e w3 ⟨rfl, q⟩
  have Q := Lib.hid (B.out.trans (q.mono B.out.size))
  clear q
  go_wp2_with fail
  go_ret
  exact ⟨rfl, Q.out⟩
section
variable {g : Nat} {v : Value} {buy : Bool} {c : Int} {l : List St} {w : World}
set_option maxRecDepth 100000 in
set_option maxHeartbeats 1000000 in
theorem sfind_any (n : Int) (h : Ds w g v buy c l) : Calls Try.prog 69 #[.pointer (some ⟨g, 0, none⟩), .int .u64 n] w fun e w' => e = .returned (.int .i64 (gidx (nuIs n) l)) ∧ Below w.heap.size w w' := by
  obtain ⟨w1, hw1⟩ : ∃ w1, w.alloc (.cells #[.int .u64 n] 28) = w1 := ⟨_, rfl⟩
  have b1 : Below w.heap.size w w1 := hw1 ▸ below_new w _
  have n1 : w1.cell? ⟨w.heap.size, 0, none⟩ = some (.int .u64 n) := by rw [← hw1, cell_of_row _ _ _ _ _ _ (heap_alloc_new w _)]; rfl
  have h1 := h.below b1
  have T : GTests Try.prog ESt St.ok 84 #[.pointer (some ⟨w.heap.size, 0, none⟩)] (nuIs n) w1 := fun W x q _ => fclo_any x _ n W (cell_below n1 q (Nat.le_refl _))
  obtain ⟨A, cp, rfl, _⟩ := h.form
  have IX := index_so _ _ (nuIs n) A l.length cp l w1 (enters_of Try.func84 (by kernel_rfl) rfl) T (gown_rd h1.own) h1.ok (by have := h.le; omega)
  have k3 := h1.c3
  have B := Lib.hid b1
  have HW1 := Lib.hid hw1
  generalize gidx (nuIs n) l = r at *
  generalize l.length = m at *
  clear h h1 T n1 b1 hw1
  go_enter Try.func69, Try.ntmps69
  go_wp2_with (simp only [HW1.out])
  refine IX.mono ?_; rintro e w2 ⟨rfl, q⟩
  have Q := Lib.hid (B.out.trans (q.mono B.out.size))
  clear q
  go_wp2_with fail
  go_ret
  exact ⟨rfl, Q.out⟩
/-- Where an order of that price is to stand. -/
def plB (buy : Bool) (p : Int) (l : List St) : Nat := (l.findIdx? (worse buy p)).getD l.length
theorem two_bx (w : World) (u v : Value) (t s : TypeId) : ∃ w1 w2, w.alloc (.cells #[u] t) = w1 ∧ w1.alloc (.cells #[v] s) = w2 ∧ Below w.heap.size w w2 ∧ w1.heap.size = w.heap.size + 1 ∧ w2.heap.size = w.heap.size + 2 ∧ w2.cell? ⟨w.heap.size, 0, none⟩ = some u ∧ w2.cell? ⟨w.heap.size + 1, 0, none⟩ = some v := by
  refine ⟨_, _, rfl, rfl, (below_new w _).trans ((below_new _ _).mono (by simp)), by simp, by simp, ?_, ?_⟩
  · rw [cell_of_row _ _ _ _ _ _ (heap_alloc2_old w _ _)]; rfl
  · rw [cell_of_row _ _ _ _ _ _ (heap_alloc2_new w _ _)]; rfl
set_option maxRecDepth 100000 in
set_option maxHeartbeats 1000000 in
theorem splace_any (p : Int) (h : Ds w g v buy c l) : Calls Try.prog 71 #[.pointer (some ⟨g, 0, none⟩), .int .i64 p] w fun e w' => e = .returned (.int .i64 (plB buy p l)) ∧ Below w.heap.size w w' := by
  obtain ⟨w1, w2, hw1, hw2, b2, s1, _, n1, n2⟩ := two_bx w (.pointer (some ⟨g, 0, none⟩)) (.int .i64 p) 42 2
  have h2 := h.below b2
  have T : GTests Try.prog ESt St.ok 87 #[.pointer (some ⟨w.heap.size, 0, none⟩), .pointer (some ⟨w.heap.size + 1, 0, none⟩)] (worse buy p) w2 := fun W x q _ => pclo_any buy g x _ _ p W (cell_below n1 q (Nat.le_refl _)) (cell_below n2 q (Nat.le_refl _)) (cell_below h2.c1 q (Nat.le_refl _))
  obtain ⟨A, cp, rfl, _⟩ := h.form
  have IX := index_so _ _ (worse buy p) A l.length cp l w2 (enters_of Try.func87 (by kernel_rfl) rfl) T (gown_rd h2.own) h2.ok (by have := h.le; omega)
  have k3 := Lib.hid fun W (q : Below w2.heap.size w2 W) => (h2.below q).c3
  have kn := Lib.hid fun W (q : Below w2.heap.size w2 W) => cell_below n1 q (Nat.le_refl _)
  have k3' := h2.c3
  have B := Lib.hid b2
  have HW1 := Lib.hid hw1
  have HW2 := Lib.hid hw2
  have S1 := Lib.hid s1
  have E : Hid ((plB buy p l : Int) = if gidx (worse buy p) l < 0 then (l.length : Int) else gidx (worse buy p) l) := Lib.hid (by
    unfold plB gidx
    cases l.findIdx? (worse buy p) with
    | none => simp
    | some k => exact (if_neg (show ¬ ((k : Nat) : Int) < 0 by omega)).symm)
  rw [E.out]
  generalize gidx (worse buy p) l = r at *
  generalize l.length = m at *
  clear h h2 T b2 hw1 hw2 E
  by_cases c : r < 0
  · rw [if_pos c]
    have hd : decide (r < 0) = true := decide_eq_true c
    clear c
    go_enter Try.func71, Try.ntmps71
    go_wp2_with (simp only [HW1.out, HW2.out])
    refine IX.mono ?_; rintro e w3 ⟨rfl, q⟩
    have Q := Lib.hid (B.out.trans (q.mono B.out.size))
    have k4 := k3.out _ q
    have k5 := kn.out _ q
    clear q
    go_wp2_with fail
    go_ret
    exact ⟨rfl, Q.out⟩
  · rw [if_neg c]
    have hd : decide (r < 0) = false := decide_eq_false c
    clear c
    go_enter Try.func71, Try.ntmps71
    go_wp2_with (simp only [HW1.out, HW2.out])
    refine IX.mono ?_; rintro e w3 ⟨rfl, q⟩
    have Q := Lib.hid (B.out.trans (q.mono B.out.size))
    clear q
    go_wp2_with fail
    go_ret
    exact ⟨rfl, Q.out⟩
theorem built_st : Try.prog.built 88 [] = some (ESt.cells zeroSt).toArray := by kernel_rfl
theorem rs_new (w : World) : ∃ W1, w.alloc (.cells (ESt.cells zeroSt).toArray 88) = W1 ∧ Below w.heap.size w W1 ∧ ESt.Bx 88 W1 w.heap.size zeroSt ∧ W1.heap.size = w.heap.size + 1 := ⟨_, rfl, below_new w _, gbx_new w _, by simp⟩
theorem row_inS {w W : World} {x : St} {g : Nat} (h : w.heap.size ≤ g) (q : Below w.heap.size w W) : Below w.heap.size w (W.setRow g (ESt.cells x).toArray) := below_row0 q h
set_option maxRecDepth 100000 in
set_option maxHeartbeats 1000000 in
theorem sfirst_none (h : Ds w g v buy c []) : Calls Try.prog 74 #[.pointer (some ⟨g, 0, none⟩)] w fun e w' => e = .returned (.tuple #[.agg (ESt.cells zeroSt).toArray, .bool false]) ∧ Below w.heap.size w w' := by
  have hz := zero_st
  obtain ⟨W1, hW1, b1, x1, _⟩ := rs_new w
  have h1 := h.below b1
  have M := smiss_no h1.c0
  obtain ⟨A, cp, rfl, _⟩ := h.form
  have k3 := h1.c3
  have HW := Lib.hid hW1
  have X1 := Lib.hid x1
  have B1 := Lib.hid b1
  simp only [List.length_nil] at k3
  clear h h1 x1 b1 hW1
  go_enter Try.func74, Try.ntmps74
  go_wp2_with fail
  rw [HW.out]
  refine M.mono ?_; rintro e w2 ⟨rfl, rfl⟩
  go_wp2_with (first | (refine gwl_build0 built_st ?_) | (refine gwl_store TSt zeroSt w.heap.size X1.out rfl rfl ?_))
  exact bodyPost_ret (gret TSt rfl _ _ w.heap.size rfl rfl (gbx_set X1.out)) rfl ⟨rfl, row_inS (Nat.le_refl _) B1.out⟩
set_option maxRecDepth 100000 in
set_option maxHeartbeats 1000000 in
theorem sfirst_nc {p : Option Addr} (M : ∀ W, Below w.heap.size w W → Calls Try.prog 48 #[.pointer p] W fun e w' => e = .returned (.bool true) ∧ W = w') : Calls Try.prog 74 #[.pointer p] w fun e w' => e = .returned (.tuple #[.agg (ESt.cells zeroSt).toArray, .bool false]) ∧ Below w.heap.size w w' := by
  have hz := zero_st
  obtain ⟨W1, hW1, b1, x1, _⟩ := rs_new w
  have M := M W1 b1
  have HW := Lib.hid hW1
  have X1 := Lib.hid x1
  have B1 := Lib.hid b1
  clear x1 b1 hW1
  go_enter Try.func74, Try.ntmps74
  go_wp2_with fail
  rw [HW.out]
  refine M.mono ?_; rintro e w2 ⟨rfl, rfl⟩
  go_wp2_with (first | (refine gwl_build0 built_st ?_) | (refine gwl_store TSt zeroSt w.heap.size X1.out rfl rfl ?_))
  exact bodyPost_ret (gret TSt rfl _ _ w.heap.size rfl rfl (gbx_set X1.out)) rfl ⟨rfl, row_inS (Nat.le_refl _) B1.out⟩
set_option maxRecDepth 100000 in
set_option maxHeartbeats 1000000 in
theorem sfirst_some {x : St} {r : List St} (h : Ds w g v buy c (x :: r)) : Calls Try.prog 74 #[.pointer (some ⟨g, 0, none⟩)] w fun e w' => e = .returned (.tuple #[.agg (ESt.cells x).toArray, .bool true]) ∧ Below w.heap.size w w' := by
  have hz := zero_st
  obtain ⟨W1, hW1, b1, x1, _⟩ := rs_new w
  have h1 := h.below b1
  have M := smiss_no h1.c0
  obtain ⟨b, cp, rfl⟩ := h.slot (by simp)
  have RG : Hid (W1.rangeAt b 0 (ESt.cells x)) := Lib.hid (by have := gown_rng h1.own (k := 0) (x := x) rfl; rwa [Nat.zero_mul] at this)
  have k3 := h1.c3
  have HW := Lib.hid hW1
  have X1 := Lib.hid x1
  have B1 := Lib.hid b1
  have e0 : ((r.length + 1 : Nat) : Int) = (r.length : Int) + 1 := by omega
  have e1 : ((r.length : Int) + 1 == 0) = false := beq_eq_false_iff_ne.2 (by omega)
  have e2 : (0 : Int) < (r.length : Int) + 1 := by omega
  simp only [List.length_cons] at k3
  clear h h1 x1 b1 hW1
  generalize r.length = m at *
  go_enter Try.func74, Try.ntmps74
  go_wp2_with fail
  rw [HW.out]
  refine M.mono ?_; rintro e w2 ⟨rfl, rfl⟩
  go_wp2_with (first | ((with_reducible refine gwl_load TSt b 0 RG.out ?_ ?_ ?_); rfl; rfl) | (refine gwl_store TSt x w.heap.size X1.out rfl rfl ?_))
  exact bodyPost_ret (gret TSt rfl _ _ w.heap.size rfl rfl (gbx_set X1.out)) rfl ⟨rfl, row_inS (Nat.le_refl _) B1.out⟩
end
end Go.Proofs.Ytdcjgcjnfcahkaa
/- The program's side: behind, at, Best, Len, New, Get. -/
namespace Go.Proofs.Ytdcjgcjnfcahkaa
open Go.RowKit Go.Shelf
set_option linter.unusedVariables false

/-- What is needed within behind. -/
theorem three_bx (w : World) (p : Option Addr) (a : St) : ∃ w1 w2 w3, w.alloc (.cells #[.pointer p] 42) = w1 ∧ w1.alloc (.cells (ESt.cells a).toArray 88) = w2 ∧ w2.alloc (.cells (ESt.cells zeroSt).toArray 88) = w3 ∧ Below w.heap.size w w3 ∧ w.heap.size ≤ w2.heap.size ∧
    w3.cell? ⟨w.heap.size, 0, none⟩ = some (.pointer p) ∧ ESt.Bx 88 w3 w1.heap.size a ∧ ESt.Bx 88 w3 w2.heap.size zeroSt := by
  obtain ⟨w1, hw1⟩ : ∃ w1, w.alloc (.cells #[.pointer p] 42) = w1 := ⟨_, rfl⟩
  obtain ⟨w2, hw2⟩ : ∃ w2, w1.alloc (.cells (ESt.cells a).toArray 88) = w2 := ⟨_, rfl⟩
  obtain ⟨w3, hw3⟩ : ∃ w3, w2.alloc (.cells (ESt.cells zeroSt).toArray 88) = w3 := ⟨_, rfl⟩
  have b1 : Below w.heap.size w w1 := hw1 ▸ below_new w _
  have b2 : Below w1.heap.size w1 w2 := hw2 ▸ below_new w1 _
  have b3 : Below w2.heap.size w2 w3 := hw3 ▸ below_new w2 _
  have s1 : w1.heap.size = w.heap.size + 1 := by rw [← hw1]; simp
  have s2 : w2.heap.size = w1.heap.size + 1 := by rw [← hw2]; simp
  have c1 : w1.cell? ⟨w.heap.size, 0, none⟩ = some (.pointer p) := by rw [← hw1, cell_of_row _ _ _ _ _ _ (heap_alloc_new w _)]; rfl
  have x2 : ESt.Bx 88 w2 w1.heap.size a := hw2 ▸ gbx_new w1 a
  have x3 : ESt.Bx 88 w3 w2.heap.size zeroSt := hw3 ▸ gbx_new w2 zeroSt
  refine ⟨w1, w2, w3, hw1, hw2, hw3, b1.trans ((b2.trans (b3.mono b2.size)).mono b1.size), by omega, cell_below (cell_below c1 b2 (Nat.le_refl _)) b3 (Nat.le_refl _), gbx_below x2 b3, x3⟩
section
variable {g : Nat} {v : Value} {buy : Bool} {c : Int} {l : List St} {w : World}
set_option maxRecDepth 100000 in
set_option maxHeartbeats 1000000 in
theorem sbehind_some (a : St) {k : Nat} {x : St} (h : Ds w g v buy c l) (hk : gidx (ahB buy a) l = k) (hx : l[k]? = some x) : Calls Try.prog 75 #[.pointer (some ⟨g, 0, none⟩), .agg (ESt.cells a).toArray] w fun e w' => e = .returned (.tuple #[.agg (ESt.cells x).toArray, .bool true]) ∧ Below w.heap.size w w' := by
  have hz := zero_st
  obtain ⟨w1, w2, w3, hw1, hw2, hw3, b3, s2, c1, xa, xz⟩ := three_bx w (some ⟨g, 0, none⟩) a
  have h3 := h.below b3
  have T : GTests Try.prog ESt St.ok 88 #[.pointer (some ⟨w.heap.size, 0, none⟩), .pointer (some ⟨w1.heap.size, 0, none⟩)] (ahB buy a) w3 := fun W x q _ => bclo_any buy g a x _ _ W (cell_below c1 q (Nat.le_refl _)) (gbx_below xa q) (cell_below h3.c1 q (Nat.le_refl _))
  have hkl := (List.getElem?_eq_some_iff.1 hx).1
  obtain ⟨b, cp, rfl⟩ := h.slot (by omega)
  have IX := index_so _ _ (ahB buy a) (some ⟨b, 0, none⟩) l.length cp l w3 (enters_of Try.func88 (by kernel_rfl) rfl) T (gown_rd h3.own) h3.ok (by have := h.le; omega)
  rw [hk] at IX
  have K3 := Lib.hid fun W (q : Below w3.heap.size w3 W) => (h3.below q).c3
  have KC := Lib.hid fun W (q : Below w3.heap.size w3 W) => cell_below c1 q (Nat.le_refl _)
  have RG : Hid (∀ W, Below w3.heap.size w3 W → W.rangeAt b (k * 6) (ESt.cells x)) := Lib.hid fun W q => gown_rng (h3.below q).own hx
  have XZ := Lib.hid fun W (q : Below w3.heap.size w3 W) => gbx_below xz q
  have k3 := h3.c3
  have B := Lib.hid b3
  have HW1 := Lib.hid hw1
  have HW2 := Lib.hid hw2
  have HW3 := Lib.hid hw3
  have S2 := Lib.hid s2
  have hki : (k : Int) < (l.length : Int) := by omega
  have hd : decide ((k : Int) < 0) = false := decide_eq_false (by omega)
  clear h h3 T b3 hw1 hw2 hw3 xa xz hk hx s2
  generalize l.length = m at *
  go_enter Try.func75, Try.ntmps75
  go_wp2_with (simp only [HW1.out, HW2.out, HW3.out])
  refine IX.mono ?_; rintro e w4 ⟨rfl, q⟩
  have Q := Lib.hid q
  have k4 := K3.out _ q
  have k5 := KC.out _ q
  clear q
  go_wp2_with (first | ((with_reducible refine gwl_load TSt b (k * 6) (RG.out _ Q.out) ?_ ?_ ?_); rfl; rfl) | (refine gwl_store TSt x w2.heap.size (XZ.out _ Q.out) rfl rfl ?_))
  exact bodyPost_ret (gret TSt rfl _ _ w2.heap.size rfl rfl (gbx_set (XZ.out _ Q.out))) rfl ⟨rfl, row_inS S2.out (B.out.trans (Q.out.mono B.out.size))⟩
set_option maxRecDepth 100000 in
set_option maxHeartbeats 1000000 in
theorem sbehind_none (a : St) (h : Ds w g v buy c l) (hk : gidx (ahB buy a) l = -1) : Calls Try.prog 75 #[.pointer (some ⟨g, 0, none⟩), .agg (ESt.cells a).toArray] w fun e w' => e = .returned (.tuple #[.agg (ESt.cells zeroSt).toArray, .bool false]) ∧ Below w.heap.size w w' := by
  have hz := zero_st
  obtain ⟨w1, w2, w3, hw1, hw2, hw3, b3, s2, c1, xa, xz⟩ := three_bx w (some ⟨g, 0, none⟩) a
  have h3 := h.below b3
  have T : GTests Try.prog ESt St.ok 88 #[.pointer (some ⟨w.heap.size, 0, none⟩), .pointer (some ⟨w1.heap.size, 0, none⟩)] (ahB buy a) w3 := fun W x q _ => bclo_any buy g a x _ _ W (cell_below c1 q (Nat.le_refl _)) (gbx_below xa q) (cell_below h3.c1 q (Nat.le_refl _))
  obtain ⟨A, cp, rfl, _⟩ := h.form
  have IX := index_so _ _ (ahB buy a) A l.length cp l w3 (enters_of Try.func88 (by kernel_rfl) rfl) T (gown_rd h3.own) h3.ok (by have := h.le; omega)
  rw [hk] at IX
  have XZ := Lib.hid fun W (q : Below w3.heap.size w3 W) => gbx_below xz q
  have k3 := h3.c3
  have B := Lib.hid b3
  have HW1 := Lib.hid hw1
  have HW2 := Lib.hid hw2
  have HW3 := Lib.hid hw3
  have S2 := Lib.hid s2
  clear h h3 T b3 hw1 hw2 hw3 xa xz hk s2
  generalize l.length = m at *
  go_enter Try.func75, Try.ntmps75
  go_wp2_with (simp only [HW1.out, HW2.out, HW3.out])
  refine IX.mono ?_; rintro e w4 ⟨rfl, q⟩
  have Q := Lib.hid q
  clear q
  go_wp2_with (first | (refine gwl_build0 built_st ?_) | (refine gwl_store TSt zeroSt w2.heap.size (XZ.out _ Q.out) rfl rfl ?_))
  exact bodyPost_ret (gret TSt rfl _ _ w2.heap.size rfl rfl (gbx_set (XZ.out _ Q.out))) rfl ⟨rfl, row_inS S2.out (B.out.trans (Q.out.mono B.out.size))⟩
set_option maxRecDepth 100000 in
theorem sat_none (n : Int) (h : Ds w g v buy c l) (hk : gidx (nuIs n) l = -1) : Calls Try.prog 52 #[.pointer (some ⟨g, 0, none⟩), .int .u64 n] w fun e w' => e = .returned (.tuple #[.int .i64 0, .int .i64 7]) ∧ Below w.heap.size w w' := by
  have M := smiss_no h.c0
  have F := sfind_any n h
  rw [hk] at F
  clear h hk
  go_enter Try.func52, Try.ntmps52
  go_wp2_with fail
  refine M.mono ?_; rintro e w2 ⟨rfl, rfl⟩
  go_wp2_with fail
  refine F.mono ?_; rintro e w3 ⟨rfl, q⟩
  have Q := Lib.hid q
  clear q
  go_wp2_with fail
  go_ret2
  exact ⟨rfl, Q.out⟩
set_option maxRecDepth 100000 in
theorem sat_some (n : Int) {k : Nat} (h : Ds w g v buy c l) (hk : gidx (nuIs n) l = k) : Calls Try.prog 52 #[.pointer (some ⟨g, 0, none⟩), .int .u64 n] w fun e w' => e = .returned (.tuple #[.int .i64 k, .int .i64 0]) ∧ Below w.heap.size w w' := by
  have M := smiss_no h.c0
  have F := sfind_any n h
  rw [hk] at F
  have hd : decide ((k : Int) < 0) = false := decide_eq_false (by omega)
  clear h hk
  go_enter Try.func52, Try.ntmps52
  go_wp2_with fail
  refine M.mono ?_; rintro e w2 ⟨rfl, rfl⟩
  go_wp2_with fail
  refine F.mono ?_; rintro e w3 ⟨rfl, q⟩
  have Q := Lib.hid q
  clear q
  go_wp2_with fail
  go_ret2
  exact ⟨rfl, Q.out⟩
set_option maxRecDepth 100000 in
theorem slen_any (h : Ds w g v buy c l) : Calls Try.prog 65 #[.pointer (some ⟨g, 0, none⟩)] w fun e w' => e = .returned (.int .i64 l.length) ∧ Below w.heap.size w w' := by
  have M := smiss_no h.c0
  obtain ⟨A, cp, rfl, _⟩ := h.form
  have k3 := h.c3
  clear h
  generalize l.length = m at *
  go_enter Try.func65, Try.ntmps65
  go_wp2_with fail
  refine M.mono ?_; rintro e w2 ⟨rfl, rfl⟩
  go_wp2_with fail
  go_ret
  exact ⟨rfl, Below.refl _ _⟩
theorem inv_nil (buy : Bool) : InvO buy (osOf []) := InvO.nil buy
set_option maxRecDepth 100000 in
theorem snew_any (w : World) (buy : Bool) : Calls Try.prog 28 #[.bool buy] w fun e w' => e = .returned (.pointer (some ⟨w.heap.size, 0, none⟩)) ∧ Ds w' w.heap.size (.slice none 0 0) buy 0 [] ∧ Below w.heap.size w w' := by
  have D : Hid (Ds (w.alloc (.cells #[.bool true, .bool buy, .int .u64 0, .slice none 0 0] 85)) w.heap.size (.slice none 0 0) buy 0 []) :=
    Lib.hid ⟨heap_alloc_new w _, gown_nil _ _, inv_nil buy, (fun x hx => by cases hx), List.Pairwise.nil, by decide⟩
  go_enter Try.func28, Try.ntmps28
  go_wp2_with fail
  go_ret
  exact ⟨rfl, D.out, below_new _ _⟩
/-- first's answer, laid in a block. -/
theorem fst_bx {w W1 W2 : World} (x : St) (b1 : Below w.heap.size w W1) (q : Below W1.heap.size W1 W2) : ∃ W3, (W2.alloc (.cells (ESt.cells zeroSt).toArray 88)).setRow W2.heap.size (ESt.cells x).toArray = W3 ∧ Below W1.heap.size W1 W3 ∧ ESt.Bx 88 W3 W2.heap.size x ∧ ESt.Bx 88 (W2.alloc (.cells (ESt.cells zeroSt).toArray 88)) W2.heap.size zeroSt := by
  refine ⟨_, rfl, ?_, gbx_set (gbx_new W2 zeroSt), gbx_new W2 zeroSt⟩
  exact q.trans ((row_inS (Nat.le_refl _) (below_new W2 _)).mono q.size)
set_option maxRecDepth 100000 in
set_option maxHeartbeats 1000000 in
/-- Best, out of what first answers. -/
theorem sbest_of {p : Option Addr} {x : St} {b : Bool} (F : ∀ W, Below w.heap.size w W → Calls Try.prog 74 #[.pointer p] W fun e w' => e = .returned (.tuple #[.agg (ESt.cells x).toArray, .bool b]) ∧ Below W.heap.size W w') :
    Calls Try.prog 66 #[.pointer p] w fun e w' => e = .returned (.tuple #[.agg (EO.cells x.o).toArray, .bool b]) ∧ Below w.heap.size w w' := by
  have hz := zero_or
  have hs := zero_st
  obtain ⟨W1, hW1, b1, x1, _⟩ := res_new w
  have F := F W1 b1
  have HW := Lib.hid hW1
  have X1 := Lib.hid x1
  have B1 := Lib.hid b1
  clear x1 b1 hW1
  go_enter Try.func66, Try.ntmps66
  go_wp2_with fail
  rw [HW.out]
  refine F.mono ?_; rintro e W2 ⟨rfl, q⟩
  obtain ⟨W3, hW3, b3, y3, z3⟩ := fst_bx x B1.out q
  have HW3 := Lib.hid hW3
  have B3 := Lib.hid b3
  have Y3 := Lib.hid (st_or (gbx_rng y3))
  have Z3 := Lib.hid z3
  have X3 := Lib.hid (gbx_below X1.out b3)
  clear q hW3 b3 y3 z3
  go_wp2_with (first | (refine gwl_store TSt x W2.heap.size Z3.out rfl rfl ?_; rw [HW3.out]) | ((with_reducible refine gwl_load TO W2.heap.size 0 Y3.out ?_ ?_ ?_); rfl; rfl) | (refine gwl_store TO x.o w.heap.size X3.out rfl rfl ?_))
  exact bodyPost_ret (gret TO rfl _ _ w.heap.size rfl rfl (gbx_set X3.out)) rfl ⟨rfl, row_inO (Nat.le_refl _) (B1.out.trans (B3.out.mono B1.out.size))⟩
set_option maxRecDepth 100000 in
set_option maxHeartbeats 1000000 in
/-- Get, where at tells an error. -/
theorem sget_err {p : Option Addr} {n er : Int} (her : (er != 0) = true) (F : ∀ W, Below w.heap.size w W → Calls Try.prog 52 #[.pointer p, .int .u64 n] W fun e w' => e = .returned (.tuple #[.int .i64 0, .int .i64 er]) ∧ Below W.heap.size W w') :
    Calls Try.prog 47 #[.pointer p, .int .u64 n] w fun e w' => e = .returned (.tuple #[.agg (EO.cells zeroOr).toArray, .int .i64 er]) ∧ Below w.heap.size w w' := by
  have hz := zero_or
  obtain ⟨W1, hW1, b1, x1, _⟩ := res_new w
  have F := F W1 b1
  have HW := Lib.hid hW1
  have X1 := Lib.hid fun W (q : Below W1.heap.size W1 W) => gbx_below x1 q
  have B1 := Lib.hid b1
  clear x1 b1 hW1
  go_enter Try.func47, Try.ntmps47
  go_wp2_with fail
  rw [HW.out]
  refine F.mono ?_; rintro e W2 ⟨rfl, q⟩
  have Q := Lib.hid q
  clear q
  go_wp2_with (first | (refine gwl_build0 built_or ?_) | (refine gwl_store TO zeroOr w.heap.size (X1.out _ Q.out) rfl rfl ?_))
  exact bodyPost_ret (gret TO rfl _ _ w.heap.size rfl rfl (gbx_set (X1.out _ Q.out))) rfl ⟨rfl, row_inO (Nat.le_refl _) (B1.out.trans (Q.out.mono B1.out.size))⟩
set_option maxRecDepth 100000 in
set_option maxHeartbeats 1000000 in
theorem sget_some {n : Int} {k : Nat} {x : St} (h : Ds w g v buy c l) (hk : gidx (nuIs n) l = k) (hx : l[k]? = some x) : Calls Try.prog 47 #[.pointer (some ⟨g, 0, none⟩), .int .u64 n] w fun e w' => e = .returned (.tuple #[.agg (EO.cells x.o).toArray, .int .i64 0]) ∧ Below w.heap.size w w' := by
  have hz := zero_or
  obtain ⟨W1, hW1, b1, x1, _⟩ := res_new w
  have h1 := h.below b1
  have F := sat_some n h1 hk
  have hkl := (List.getElem?_eq_some_iff.1 hx).1
  obtain ⟨b, cp, rfl⟩ := h.slot (by omega)
  have K3 := Lib.hid fun W (q : Below W1.heap.size W1 W) => (h1.below q).c3
  have RG : Hid (∀ W, Below W1.heap.size W1 W → W.rangeAt b (k * 6) (EO.cells x.o)) := Lib.hid fun W q => st_or (gown_rng (h1.below q).own hx)
  have HW := Lib.hid hW1
  have X1 := Lib.hid fun W (q : Below W1.heap.size W1 W) => gbx_below x1 q
  have B1 := Lib.hid b1
  have hki : (k : Int) < (l.length : Int) := by omega
  clear h h1 x1 b1 hW1 hk hx
  generalize l.length = m at *
  go_enter Try.func47, Try.ntmps47
  go_wp2_with fail
  rw [HW.out]
  refine F.mono ?_; rintro e W2 ⟨rfl, q⟩
  have Q := Lib.hid q
  have k3 := K3.out _ q
  clear q
  go_wp2_with (first | ((with_reducible refine gwl_load TO b (k * 6) (RG.out _ Q.out) ?_ ?_ ?_); rfl; rfl) | (refine gwl_store TO x.o w.heap.size (X1.out _ Q.out) rfl rfl ?_))
  exact bodyPost_ret (gret TO rfl _ _ w.heap.size rfl rfl (gbx_set (X1.out _ Q.out))) rfl ⟨rfl, row_inO (Nat.le_refl _) (B1.out.trans (Q.out.mono B1.out.size))⟩
end
end Go.Proofs.Ytdcjgcjnfcahkaa
/- The library's search, clone, insert, delete at a struct (by genLib.py). -/
namespace Go.Proofs.Ytdcjgcjnfcahkaa
open Go.RowKit Go.Shelf
set_option linter.unusedVariables false
set_option linter.unusedSimpArgs false


theorem zero_sz_so : (Value.agg (ESt.cells zeroSt).toArray).cells.size = 6 := by kernel_rfl
set_option maxRecDepth 100000 in
set_option maxHeartbeats 4000000 in
theorem ins_shift_so (b n c i vb : Nat) (l : List St) (x : St) (w : World) (ho : w.ownsRow 0 88 6 (.slice (some ⟨b, 0, none⟩) n c) n (ESt.flat l)) (hl : l.length = n) (hn : n ≤ 1000) (hi : i < n) (hc : n + 1 ≤ c) (hx : ESt.Bx 88 w vb x) (hvb : vb ≠ b) :
    Calls Try.prog 70 #[.slice (some ⟨b, 0, none⟩) n c, .int .i64 i, .slice (some ⟨vb, 0, none⟩) 1 1] w fun e w' => e = .returned (.slice (some ⟨b, 0, none⟩) (n + 1) c) ∧ w'.ownsRow 0 88 6 (.slice (some ⟨b, 0, none⟩) (n + 1) c) (n + 1) (ESt.flat (l.take i ++ x :: l.drop i)) ∧ Fr (fun k => k = b) w w' := by
  obtain ⟨cur, hh, hnc, hcm, hsz, htk⟩ : ∃ cur, w.heap[b]? = some (.cells cur 88 (0, 0)) ∧ n ≤ c ∧ c ≤ maxLen ∧ cur.size = c * 6 ∧ cur.toList.take (n * 6) = ESt.flat l := by
    obtain ⟨b', c', cur, e, _, r⟩ := ho.2.resolve_left (fun c => by cases c.1)
    cases e
    exact ⟨cur, r⟩
  have hz2 : ¬ ((i : Int) = (n : Int)) := by omega
  have hc2 : ¬ ((c : Int) < (n : Int) + 1) := by omega
  have hx0 : w.heap[vb]? = some (.cells (ESt.cells x).toArray 88 (0, 0)) := hx
  have hcx := cl_len_so x
  have hcs : (ESt.cells x).toArray.size = 6 := by simp [hcx]
  have hov : ∀ lb cb, (callFunc 85 #[.slice (some ⟨vb, 0, none⟩) 1 1, .slice (some ⟨b, (i + 1) * 6, none⟩) lb cb]).run Try.prog w = .ok (.value (.bool false)) w := fun lb cb => by
    rw [run_callFunc_extern Try.func85 (by kernel_rfl) (by kernel_rfl) (by kernel_rfl) (e := Extern.SlicesOverlaps.overlaps #[83, 83] #[4]) (by kernel_rfl),
      Lib.run_overlaps_apart w 83 4 88 TSt.und 6 (fun w => by kernel_rfl) ⟨vb, 0, none⟩ ⟨b, (i + 1) * 6, none⟩ 1 1 lb cb hvb 88 88 (ESt.cells x).toArray.size cur.size (by simp [World.shape?, hx0]) (by simp [World.shape?, hh]) (by omega) (by simp [World.frozen?, hx0]) (by simp [World.frozen?, hx0])]
    rfl
  have hcl : ∀ j u, (ESt.flat l)[j]? = some u → w.cell? ⟨b, j, none⟩ = some u := fun j u hj => by
    have hj' := (List.getElem?_eq_some_iff.1 hj).1
    rw [fl_len_so, hl] at hj'
    rw [cell_of_row _ _ _ _ _ _ hh, ← Array.getElem?_toList, ← hj, ← htk, List.getElem?_take, if_pos hj']
  have hd1 : (ESt.flat (l.drop i)).length = (n - i) * 6 := by rw [fl_len_so, List.length_drop, hl]
  have hsrc : ∀ j u, (ESt.flat (l.drop i))[j]? = some u → w.drew.cell? ((⟨b, i * 6, none⟩ : Addr).add j) = some u := fun j u hj => by
    rw [Addr.add_mid]
    rw [← gflat_drop, List.getElem?_drop] at hj
    exact hcl _ _ hj
  obtain ⟨cur1, hcur1⟩ : ∃ c1, c1 = (splice cur.toList ((i + 1) * 6) (ESt.flat (l.drop i))).toArray := ⟨_, rfl⟩
  have hcp1 : ∀ ty dc sc, (Builtin.copy_ #[83, 83] ty #[.slice (some ⟨b, (i + 1) * 6, none⟩) (n - i) dc, .slice (some ⟨b, i * 6, none⟩) (n + 1 - i) sc]).run Try.prog w.drew = .ok (goInt (n - i : Nat)) (w.drew.setRow b cur1) := fun ty dc sc => by
    rw [hcur1]
    exact grun_copy TSt w.drew ty b ((i + 1) * 6) (n - i) dc ⟨b, i * 6, none⟩ (n + 1 - i) sc (n - i) cur (ESt.flat (l.drop i)) hh (by simp only [Nat.min_def]; split <;> omega) hd1 hsrc (by rw [hd1, hsz]; omega) (gflat_cells _)
  have hs1 : cur1.size = c * 6 := by rw [hcur1, List.size_toArray, length_splice _ _ _ (by rw [hd1, Array.length_toList, hsz]; omega), Array.length_toList, hsz]
  obtain ⟨W1, hW1⟩ : ∃ W1, W1 = w.drew.setRow b cur1 := ⟨_, rfl⟩
  have hh1 : W1.heap[b]? = some (.cells cur1 88 (0, 0)) := by rw [hW1]; exact setRow_heap w.drew b cur cur1 _ _ hh
  have RI : (splice (splice cur.toList ((i + 1) * 6) (ESt.flat (l.drop i))) (i * 6) (ESt.cells x)).take ((n + 1) * 6) = ESt.flat (l.take i ++ x :: l.drop i) ∧ (splice (splice cur.toList ((i + 1) * 6) (ESt.flat (l.drop i))) (i * 6) (ESt.cells x)).length = cur.toList.length :=
    grow_ins (E := ESt) (L := cur.toList) (l := l) (x := x) (i := i) (n := n) hl (Nat.le_of_lt hi) (by
      have := congrArg (List.take (i * 6)) htk
      rw [List.take_take, Nat.min_eq_left (by omega)] at this
      exact this.trans (gflat_take (E := ESt) l i)) (by rw [Array.length_toList, hsz]; exact Nat.mul_le_mul_right 6 hc)
  have hx1 : ESt.Bx 88 W1 vb x := by
    show W1.heap[vb]? = _
    rw [hW1]; exact (setRow_other w.drew b vb cur1 hvb).trans hx
  obtain ⟨cur2, hcur2⟩ : ∃ c2, c2 = (splice cur1.toList (i * 6) (ESt.cells x)).toArray := ⟨_, rfl⟩
  have hcp2 : ∀ (W : World), W = W1 → ∀ ty dc, (Builtin.copy_ #[83, 83] ty #[.slice (some ⟨b, i * 6, none⟩) (n + 1 - i) dc, .slice (some ⟨vb, 0, none⟩) 1 1]).run Try.prog W = .ok (goInt (1 : Nat)) (W1.setRow b cur2) := fun W hW ty dc => by
    rw [hW, hcur2]
    exact grun_copy TSt W1 ty b (i * 6) (n + 1 - i) dc ⟨vb, 0, none⟩ 1 1 1 cur1 (ESt.cells x) hh1 (by simp only [Nat.min_def]; split <;> omega) (by rw [hcx]; rfl) (fun j u hj => by
      rw [Addr.add_mid]; exact gbx_rng hx1 j u hj) (by rw [hs1, hcx]; omega) (ESt.one x)
  have FIN : Hid ((W1.setRow b cur2).ownsRow 0 88 6 (.slice (some ⟨b, 0, none⟩) (n + 1) c) (n + 1) (ESt.flat (l.take i ++ x :: l.drop i)) ∧ Fr (fun k => k = b) w (W1.setRow b cur2)) := by
    have hb := (Array.getElem?_eq_some_iff.1 hh).1
    refine Lib.hid ⟨⟨?_, .inr ⟨b, c, cur2, rfl, Nat.zero_le _, setRow_heap W1 b cur1 cur2 _ _ hh1, hc, hcm, ?_, ?_⟩⟩, ?_⟩
    · rw [fl_len_so, gins_len hl (Nat.le_of_lt hi)]
    · rw [hcur2, hcur1, List.size_toArray, ← hsz, RI.2, Array.length_toList]
    · rw [hcur2, hcur1]
      exact RI.1
    · rw [hW1]
      refine ⟨⟨rfl, rfl, rfl, ?_, fun k hk => absurd hk (Nat.not_lt_zero k)⟩, fun k hk hn => ?_⟩
      · show w.heap.size ≤ _
        simp only [World.setRow, Array.size_modify]
        exact Nat.le_refl _
      · exact (setRow_other _ b k cur2 hn).trans (setRow_other w.drew b k cur1 hn)
  have hmx : c ≤ 9223372036854775807 := hcm
  clear ho hh htk hcl hsrc RI hh1 hx1 hcur1 hcur2 hd1 hx hx0 hcx hcs
  rw [← hW1] at hcp1
  clear hW1
  have mixed : Try.prog.follows .mixedOrders = true := by kernel_rfl
  have hw1 : IntKind.i64.wrap ((i : Int) + 1) = (i : Int) + 1 := by rw [IntKind.wrap_i64]; omega
  have hb1 : (0 : Int) ≤ (i : Int) + 1 := by omega
  have hin : i ≤ n := by omega
  have htn : ((i : Int) + 1).toNat = i + 1 := by omega
  have hb2 : ¬ (c = i + 1) := by omega
  have hb3 : (i : Int) ≤ (n : Int) + 1 := by omega
  have hb4 : ¬ (c = i) := by omega
  go_enter Try.func70, Try.ntmps70
  go_wp2_with (simp only [hov])
  go_region_law_o (refine gstep_copy rfl _ _ 83 83 rfl _ _ (by simp [Act.eval, Act.put]) (by simp [Act.eval, Act.put]) (hcp1 _ _ _) ?_)
  go_wp2_with (at_builtin; refine gwl_copy _ rfl _ _ 83 83 rfl _ _ rfl rfl (hcp2 _ rfl _ _) ?_)
  go_ret
  exact ⟨rfl, FIN.out.1, FIN.out.2⟩
set_option maxRecDepth 100000 in
set_option maxHeartbeats 4000000 in
theorem ins_grow_so (b n c i vb : Nat) (l : List St) (x : St) (w : World) (ho : w.ownsRow 0 88 6 (.slice (some ⟨b, 0, none⟩) n c) n (ESt.flat l)) (hl : l.length = n) (hn : n ≤ 1000) (hi : i < n) (hroom : c < n + 1) (hx : ESt.Bx 88 w vb x) :
    Calls Try.prog 70 #[.slice (some ⟨b, 0, none⟩) n c, .int .i64 i, .slice (some ⟨vb, 0, none⟩) 1 1] w fun e w' => ∃ G, e = .returned (.slice (some ⟨w.heap.size, 0, none⟩) (n + 1) G) ∧ w'.ownsRow 0 88 6 (.slice (some ⟨w.heap.size, 0, none⟩) (n + 1) G) (n + 1) (ESt.flat (l.take i ++ x :: l.drop i)) ∧ Fr (fun _ => False) w w' := by
  obtain ⟨cur, hh, hnc, hcm, hsz, htk⟩ : ∃ cur, w.heap[b]? = some (.cells cur 88 (0, 0)) ∧ n ≤ c ∧ c ≤ maxLen ∧ cur.size = c * 6 ∧ cur.toList.take (n * 6) = ESt.flat l := by
    obtain ⟨b', c', cur, e, _, r⟩ := ho.2.resolve_left (fun c => by cases c.1)
    cases e
    exact ⟨cur, r⟩
  obtain ⟨z0, by', hiz, _, hbyle⟩ := TSt.info
  have hz9 : z0 = .agg (ESt.cells zeroSt).toArray := by
    have e : (Try.prog.info? 88).map (fun i => i.zero) = some (some (.agg (ESt.cells zeroSt).toArray)) := by kernel_rfl
    obtain ⟨i9, h9, hz9, _, _⟩ := info_parts hiz
    rw [h9] at e
    simp at e
    rw [hz9] at e
    injection e
  subst hz9
  have hiz : (Try.prog.info? 88).map (fun i => (i.zero, i.size, i.bytes)) = some (some (.agg (ESt.cells zeroSt).toArray), 6, by') := hiz
  obtain ⟨i0, hi0, hz0, hz1, hzb⟩ := info_parts hiz
  have hz2 : ¬ ((i : Int) = (n : Int)) := by omega
  have hz3 : (c : Int) < (n : Int) + 1 := by omega
  have hbw : b < w.heap.size := (Array.getElem?_eq_some_iff.1 hh).1
  have hx0 : w.heap[vb]? = some (.cells (ESt.cells x).toArray 88 (0, 0)) := hx
  have hcx := cl_len_so x
  have hvw : vb < w.heap.size := (Array.getElem?_eq_some_iff.1 hx0).1
  have hcl : ∀ j u, (ESt.flat l)[j]? = some u → w.cell? ⟨b, j, none⟩ = some u := fun j u hj => by
    have hj' := (List.getElem?_eq_some_iff.1 hj).1
    rw [fl_len_so, hl] at hj'
    rw [cell_of_row _ _ _ _ _ _ hh, ← Array.getElem?_toList, ← hj, ← htk, List.getElem?_take, if_pos hj']
  have hd1 : (ESt.flat (l.drop i)).length = (n - i) * 6 := by rw [fl_len_so, List.length_drop, hl]
  have ht1 : (ESt.flat (l.take i)).length = i * 6 := by rw [fl_len_so, List.length_take, hl, Nat.min_eq_left (Nat.le_of_lt hi)]
  have hdr : ∀ j u, (ESt.flat (l.drop i))[j]? = some u → w.cell? ⟨b, i * 6 + j, none⟩ = some u := fun j u hj => by
    rw [← gflat_drop, List.getElem?_drop] at hj
    exact hcl _ _ hj
  have hta : ∀ j u, (ESt.flat (l.take i))[j]? = some u → w.drew.cell? ((⟨b, 0, none⟩ : Addr).add j) = some u := fun j u hj => by
    rw [Addr.add_mid, Nat.zero_add]
    refine hcl _ _ ?_
    rw [← gflat_take, List.getElem?_take] at hj
    split at hj
    · exact hj
    · cases hj
  have hkk : (n : Int) + 1 - (i : Int) = ((n + 1 - i : Nat) : Int) := by omega
  have hik : i + (n + 1 - i) = n + 1 := by omega
  have hold : (Builtin.firstCells i0.size i (.slice (some ⟨b, 0, none⟩) i c)).run Try.prog w.drew = .ok (ESt.flat (l.take i)).toArray w.drew := by
    rw [hz1]
    exact run_firstCells_some (w := w.drew) 6 i ⟨b, 0, none⟩ i c (ESt.flat (l.take i)) ht1 hta
  obtain ⟨G, hG⟩ : ∃ G, G = grownCap w (n + 1) c 88 := ⟨_, rfl⟩
  obtain ⟨ROW, hROW⟩ : ∃ ROW : Array Value, ROW = (ESt.flat (l.take i)).toArray ++ Builtin.zeroCells (Value.agg (ESt.cells zeroSt).toArray).cells (n + 1 - i) ++ Builtin.zeroCells (Value.agg (ESt.cells zeroSt).toArray).cells (G - (n + 1)) := ⟨_, rfl⟩
  have hb96 : (n + 1) * by' ≤ 100001 * 4096 := Nat.mul_le_mul (by omega) hbyle
  have hb97 : (n + 1 - i) * by' ≤ 100001 * 4096 := Nat.mul_le_mul (by omega) hbyle
  have hrz : ∀ ty, (Builtin.append_ #[83, 3] ty #[.slice (some ⟨b, 0, none⟩) i c, .int .i64 ((n : Int) + 1 - (i : Int))]).run Try.prog w =
      .ok (.slice (some ⟨w.heap.size, 0, none⟩) (n + 1) G) (w.drew.alloc (.cells ROW 88)) := fun ty => by
    have h := Lib.run_append_grow_zeros w 83 3 ty 88 i0 _ .i64 .i64 TSt.und Try.underlying3 hi0 hz0 (some ⟨b, 0, none⟩) i c (ESt.flat (l.take i)) hold (n + 1 - i) (by omega) (by rw [hz1]; omega) (by omega) (by omega) (by rw [hzb]; omega) (by rw [hzb, hik]; exact growslice_fits hroom (by omega))
    rw [hik, ← hG] at h
    rw [← hROW] at h
    rw [hkk]
    exact h
  have hGn : n + 1 ≤ G := by rw [hG]; exact grownCap_ge w _ _ _
  have hGm : G ≤ maxLen := by rw [hG]; exact grownCap_le_maxLen w (n + 1) c 88 (by unfold maxLen; omega)
  have hRs : ROW.size = G * 6 := by
    rw [hROW, Array.size_append, Array.size_append, size_zeroCells, size_zeroCells, zero_sz_so, List.size_toArray, ht1]
    omega
  have hRt : ROW.toList.take (i * 6) = ESt.flat (l.take i) := by
    rw [hROW, Array.toList_append, Array.toList_append, List.append_assoc, List.take_append_of_le_length (by rw [ht1]; exact Nat.le_refl _)]
    exact List.take_of_length_le (by rw [ht1]; exact Nat.le_refl _)
  have RI : (splice (splice ROW.toList (i * 6) (ESt.cells x)) ((i + 1) * 6) (ESt.flat (l.drop i))).take ((n + 1) * 6) = ESt.flat (l.take i ++ x :: l.drop i) ∧ (splice (splice ROW.toList (i * 6) (ESt.cells x)) ((i + 1) * 6) (ESt.flat (l.drop i))).length = ROW.toList.length :=
    grow_ins2 (E := ESt) (L := ROW.toList) (l := l) (x := x) (i := i) (n := n) hl (Nat.le_of_lt hi) hRt (by rw [Array.length_toList, hRs]; exact Nat.mul_le_mul_right 6 hGn)
  obtain ⟨W1, hW1⟩ : ∃ W1, W1 = w.drew.alloc (.cells ROW 88) := ⟨_, rfl⟩
  have hh1 : W1.heap[w.heap.size]? = some (.cells ROW 88 (0, 0)) := by rw [hW1]; exact heap_alloc_new w.drew _
  have hxA : ESt.Bx 88 W1 vb x := by
    show W1.heap[vb]? = _
    rw [hW1]; exact ((below_new w.drew _).block vb hvw).trans hx0
  obtain ⟨curA, hcurA⟩ : ∃ c1, c1 = (splice ROW.toList (i * 6) (ESt.cells x)).toArray := ⟨_, rfl⟩
  have hcpA : ∀ (W : World), W = W1 → ∀ ty dc, (Builtin.copy_ #[83, 83] ty #[.slice (some ⟨w.heap.size, i * 6, none⟩) (n + 1 - i) dc, .slice (some ⟨vb, 0, none⟩) 1 1]).run Try.prog W = .ok (goInt (1 : Nat)) (W1.setRow w.heap.size curA) := fun W hW ty dc => by
    rw [hW, hcurA]
    exact grun_copy TSt W1 ty w.heap.size (i * 6) (n + 1 - i) dc ⟨vb, 0, none⟩ 1 1 1 ROW (ESt.cells x) hh1 (by simp only [Nat.min_def]; split <;> omega) (by rw [hcx]; rfl) (fun j u hj => by
      rw [Addr.add_mid]; exact gbx_rng hxA j u hj) (by rw [hRs, hcx]; omega) (ESt.one x)
  have hsA : curA.size = G * 6 := by rw [hcurA, List.size_toArray, length_splice _ _ _ (by have e : ROW.toList.length = ROW.size := Array.length_toList; omega), Array.length_toList, hRs]
  obtain ⟨W2, hW2⟩ : ∃ W2, W2 = W1.setRow w.heap.size curA := ⟨_, rfl⟩
  rw [← hW2] at hcpA
  have hh2 : W2.heap[w.heap.size]? = some (.cells curA 88 (0, 0)) := by rw [hW2]; exact setRow_heap W1 _ _ _ _ _ hh1
  obtain ⟨curB, hcurB⟩ : ∃ c1, c1 = (splice curA.toList ((i + 1) * 6) (ESt.flat (l.drop i))).toArray := ⟨_, rfl⟩
  have hcpB : ∀ ty dc sc, (Builtin.copy_ #[83, 83] ty #[.slice (some ⟨w.heap.size, (i + 1) * 6, none⟩) (n - i) dc, .slice (some ⟨b, i * 6, none⟩) (n - i) sc]).run Try.prog W2.drew = .ok (goInt (n - i : Nat)) (W2.drew.setRow w.heap.size curB) := fun ty dc sc => by
    rw [hcurB]
    exact grun_copy TSt W2.drew ty w.heap.size ((i + 1) * 6) (n - i) dc ⟨b, i * 6, none⟩ (n - i) sc (n - i) curA (ESt.flat (l.drop i)) hh2 (by simp only [Nat.min_def]; split <;> omega) hd1 (fun j u hj => by
      rw [Addr.add_mid]
      have h0 := hdr j u hj
      have hne : b ≠ w.heap.size := by omega
      have e : W2.heap[b]? = w.heap[b]? := by rw [hW2, hW1]; exact (setRow_other _ _ b curA hne).trans ((below_new w.drew _).block b hbw)
      show W2.cell? _ = _
      unfold World.cell? at h0 ⊢
      rw [e]
      exact h0) (by rw [hd1, hsA]; omega) (gflat_cells _)
  have FIN : Hid ((W2.drew.setRow w.heap.size curB).ownsRow 0 88 6 (.slice (some ⟨w.heap.size, 0, none⟩) (n + 1) G) (n + 1) (ESt.flat (l.take i ++ x :: l.drop i)) ∧ Fr (fun _ => False) w (W2.drew.setRow w.heap.size curB)) := by
    refine Lib.hid ⟨⟨?_, .inr ⟨_, G, curB, rfl, Nat.zero_le _, setRow_heap W2.drew _ curA curB _ _ hh2, hGn, hGm, ?_, ?_⟩⟩, ?_⟩
    · rw [fl_len_so, gins_len hl (Nat.le_of_lt hi)]
    · rw [hcurB, hcurA, List.size_toArray, RI.2, Array.length_toList, hRs]
    · rw [hcurB, hcurA]
      exact RI.1
    · refine Fr.below ?_
      have b1 : Below w.heap.size w W1 := by rw [hW1]; exact (Below.refl w.heap.size w).drew.alloc (Nat.le_refl _) _
      have b2 : Below w.heap.size w W2 := by rw [hW2]; exact below_row0 b1 (Nat.le_refl _)
      exact below_row0 b2.drew (Nat.le_refl _)
  have hGmx : G ≤ 9223372036854775807 := hGm
  have hcmx : c ≤ 9223372036854775807 := hcm
  clear ho hh htk hcl RI hh1 hh2 hxA hcurA hcurB hd1 ht1 hdr hta hold hRs hRt hsA hG hROW hx hx0 hcx hb96 hb97
  have hE1 : (w.alloc (.cells ROW 88)).drew = W1 := by rw [hW1]; rfl
  have mixed : Try.prog.follows .mixedOrders = true := by kernel_rfl
  have hw1 : IntKind.i64.wrap ((i : Int) + 1) = (i : Int) + 1 := by rw [IntKind.wrap_i64]; omega
  have hb1 : (0 : Int) ≤ (i : Int) + 1 := by omega
  have hin : i ≤ n := by omega
  have htn : ((i : Int) + 1).toNat = i + 1 := by omega
  have hb3 : (i : Int) ≤ (n : Int) := by omega
  have hb4 : ¬ (c = i) := by omega
  have hGi : ¬ (G = i) := by omega
  have hGim : ¬ (G = i + 1) := by omega
  clear hkk hik
  rw [← hW1] at hrz
  have HE := Lib.hid hE1
  have HV := Lib.hid hW1
  have HU := Lib.hid hW2
  clear hE1 hW1 hW2
  go_enter Try.func70, Try.ntmps70
  go_wp2_with (first
    | (at_builtin; refine Lib.wpList_append_run _ rfl _ _ _ _ rfl _ _ rfl rfl _ _ (hrz _) ?_)
    | (at_builtin; refine gwl_copy _ rfl _ _ 83 83 rfl _ _ rfl rfl (hcpA _ rfl _ _) ?_))
  go_region_law_o (refine gstep_copy rfl _ _ 83 83 rfl _ _ (by simp [Act.eval, Act.put]) (by simp [Act.eval, Act.put]) (hcpB _ _ _) ?_)
  go_wp2_with fail
  go_ret
  exact ⟨G, rfl, FIN.out.1, FIN.out.2⟩
set_option maxRecDepth 100000 in
set_option maxHeartbeats 2000000 in
theorem ins_end_so (v : Value) (n vb : Nat) (l : List St) (x : St) (w : World) (ho : ESt.Own 88 w 0 v l) (hl : l.length = n) (hn : n ≤ 1000) (hx : ESt.Bx 88 w vb x) :
    Calls Try.prog 70 #[v, .int .i64 n, .slice (some ⟨vb, 0, none⟩) 1 1] w fun e w' => ∃ v', e = .returned v' ∧ ESt.Own 88 w' 0 v' (l ++ [x]) ∧ Fr (fun k => v.ownBlock = some k) w w' ∧ (v'.ownBlock = v.ownBlock ∨ v'.ownBlock = some w.heap.size) := by
  have RX := Lib.hid (gbx_rd hx)
  have HO := Lib.hid ho
  have hcl : l.length + 1 ≤ 100000 := by omega
  rcases ho.2 with ⟨rfl, hn0⟩ | ⟨b, c, cur, rfl, _, _, hnc, hcm, _⟩
  · have hn1 : n = 0 := by rw [← hl]; exact hn0
    clear hl hcl hn0
    subst hn1
    have hcl : l.length + 1 ≤ 100000 := by rcases HO.out.2 with ⟨_, q⟩ | ⟨_, _, _, q, _⟩ <;> first | omega | cases q
    clear ho hx
    go_enter Try.func70, Try.ntmps70
    go_wp2_with (at_builtin; refine gpl_app TSt rfl _ _ rfl 0 _ l rfl HO.out (some ⟨vb, 0, none⟩) 1 1 [x] rfl RX.out (fun e => by cases e) hcl (Nat.zero_le _) ?_; intro v' w' h1 h2 h3)
    go_ret
    exact ⟨v', rfl, h1, Fr.grown h2 (fun k e => e), h3⟩
  · rw [hl] at hnc HO
    have hmx : c ≤ 9223372036854775807 := hcm
    by_cases hcn : c = n
    · subst hcn
      clear ho hx
      rw [hl]
      go_enter Try.func70, Try.ntmps70
      go_wp2_with (at_builtin; refine gpl_app TSt rfl _ _ rfl 0 _ l rfl HO.out (some ⟨vb, 0, none⟩) 1 1 [x] rfl RX.out (fun e => by cases e) hcl (Nat.zero_le _) ?_; intro v' w' h1 h2 h3)
      go_ret
      exact ⟨v', rfl, h1, Fr.grown h2 (fun k e => e), h3⟩
    · clear ho hx
      rw [hl]
      go_enter Try.func70, Try.ntmps70
      go_wp2_with (at_builtin; refine gpl_app TSt rfl _ _ rfl 0 _ l rfl HO.out (some ⟨vb, 0, none⟩) 1 1 [x] rfl RX.out (fun e => by cases e) hcl (Nat.zero_le _) ?_; intro v' w' h1 h2 h3)
      go_ret
      exact ⟨v', rfl, h1, Fr.grown h2 (fun k e => e), h3⟩
/-- Insert, in whatever way. -/
theorem insert_so (v : Value) (n i vb : Nat) (l : List St) (x : St) (w : World) (ho : ESt.Own 88 w 0 v l) (hl : l.length = n) (hn : n ≤ 1000) (hi : i ≤ n) (hx : ESt.Bx 88 w vb x) (hvb : v.ownBlock ≠ some vb) :
    Calls Try.prog 70 #[v, .int .i64 i, .slice (some ⟨vb, 0, none⟩) 1 1] w fun e w' => ∃ v', e = .returned v' ∧ ESt.Own 88 w' 0 v' (l.take i ++ x :: l.drop i) ∧ Fr (fun k => v.ownBlock = some k) w w' ∧ (v'.ownBlock = v.ownBlock ∨ v'.ownBlock = some w.heap.size) := by
  have el := gins_len (x := x) hl hi
  rcases Nat.lt_or_ge i n with c | c
  · obtain ⟨b, cap, rfl⟩ := gown_slot ho (by omega)
    have ho1 : w.ownsRow 0 88 6 (.slice (some ⟨b, 0, none⟩) l.length cap) l.length (ESt.flat l) := ho
    rw [hl] at ho1 ⊢
    rcases Nat.lt_or_ge cap (n + 1) with q | q
    · refine (ins_grow_so b n cap i vb l x w ho1 hl hn c q hx).mono ?_
      rintro e w' ⟨G, rfl, h1, h2⟩
      exact ⟨_, rfl, (by unfold Elt.Own; rw [el]; exact h1), h2.mono fun _ h => h.elim, .inr rfl⟩
    · refine (ins_shift_so b n cap i vb l x w ho1 hl hn c q hx (fun e => hvb (by rw [e]; rfl))).mono ?_
      rintro e w' ⟨rfl, h1, h2⟩
      exact ⟨_, rfl, (by unfold Elt.Own; rw [el]; exact h1), h2.mono fun k h => by rw [h]; rfl, .inl rfl⟩
  · obtain rfl : i = n := by omega
    refine (ins_end_so v i vb l x w ho hl hn hx).mono ?_
    rintro e w' ⟨v', rfl, h1, h2, h3⟩
    refine ⟨v', rfl, ?_, h2, h3⟩
    rw [List.take_of_length_le (by omega), List.drop_of_length_le (by omega)]
    exact h1
end Go.Proofs.Ytdcjgcjnfcahkaa
