/- ExposeNeeds, walked (by genExy.py). -/
import Derived.Test.YtcpcnjiphiokjaaExn
import Derived.Test.YtcpcnjiphiokjaaExl
import Derived.Test.YtcpcnjiphiokjaaSz
import Derived.Test.YtcpcnjiphiokjaaExh
import Derived.Test.YtcpcnjiphiokjaaExv
namespace Go.Proofs.Ytcpcnjiphiokjaa
open Go.RowKit Go.Shelf
set_option linter.unusedVariables false
set_option linter.unusedSimpArgs false

theorem yields_same11 {ops : Array Oper} {S : World → Prop} {o : Oper} {a : Act} (hw : Region.wanted o (yielded ops a.tmps) = true) (x y : Operand) {t2 : TypeId} (ho : o.op = .binOp .neq 41 x y t2) {u : Or} (hu : u.ok) (hx : a.eval x = .agg (EO.cells u).toArray) (hy : a.eval y = .agg (EO.cells u).toArray) :
    YieldsIf Try.prog ops S o (.bool false) a := by
  have := yields_neq_or (S := S) hw x y ho hu hu hx hy
  rw [eqO_yes] at this
  exact this
set_option maxRecDepth 100000 in
set_option maxHeartbeats 16000000 in
theorem needs11_all (A : Option Addr) (n c : Nat) (l : List Sk) (w : World) (h : EK.Rd w A n l) (hok : ∀ x, x ∈ l → x.ok ∧ x.In w) (hn : n ≤ maxLen) (h0 : A = none → c = 0) :
    Calls Try.prog 3 #[.slice A n c] w fun e w' => e = .returned (.bool true) ∧ Below w.heap.size w w' := by
  have hz := zero_k11
  have KN := Lib.hid fun (U : World) (qU : Below w.heap.size w U) => (known11 U).mono (fun e W h => (⟨h.1, qU.trans (h.2.mono qU.size)⟩ : e = .returned (.bool true) ∧ Below w.heap.size w W))
  have LG := Lib.hid (large11 A n c l w h hok hn)
  have HR := Lib.hid fun (W : World) (q : Below w.heap.size w W) => (show EK.Rd W A n l from grd_below h q (Nat.le_refl _))
  have HI := Lib.hid fun (W : World) (q : Below w.heap.size w W) (x : Sk) (hx : x ∈ l) => (show x.ok ∧ x.In W from ⟨(hok x hx).1, grd_below (hok x hx).2 q (Nat.le_refl _)⟩)
  have RN := Lib.hid fun (W : World) (q : Below w.heap.size w W) => rneed11 A n c l W (grd_below h q (Nat.le_refl _)) (fun x hx => ⟨(hok x hx).1, grd_below (hok x hx).2 q (Nat.le_refl _)⟩) hn
  have HL := Lib.hid h.1
  have LB : Hid (lgB l = false → l.length ≤ 40 ∧ ∀ x, x ∈ l → x.os.length ≤ 300) := Lib.hid fun hh => by
    unfold lgB at hh
    rw [Bool.or_eq_false_iff, List.any_eq_false] at hh
    refine ⟨by have := of_decide_eq_false hh.1; omega, fun x hx => ?_⟩
    have := hh.2 x hx
    simpa using this
  unfold maxLen at hn
  generalize lgB l = lb at *
  cases lb
  case true =>
    clear h hok
    go_enter Try.func3, Try.ntmps3
    go_wp2_with fail
    refine LG.out.mono ?_; rintro e w2 ⟨rfl, rfl⟩
    go_wp2_with fail
    refine (KN.out _ (Below.refl _ _)).mono ?_; rintro e w3 ⟨rfl, q3⟩
    have Q3 := Lib.hid q3
    clear q3
    go_wp2_with fail
    go_ret
    exact ⟨rfl, Q3.out⟩
  obtain ⟨l40, os300⟩ := LB.out rfl
  have O300 := Lib.hid os300
  have hn40 : n ≤ 40 := by have := h.1; omega
  clear h hok LB os300
  go_enter Try.func3, Try.ntmps3
  go_wp2_with fail
  refine LG.out.mono ?_; rintro e w2 ⟨rfl, rfl⟩
  go_wp2_with fail
  go_loopw [3, 17] (fun L i wr => ∃ (k : Nat) (ys : List Sk), k ≤ n ∧ i = .int .i64 k ∧ Cy w L ys (l.take k) wr) (fun _ i _ => n - (intOf i).toNat)
  case atStart => exact ⟨0, [], Nat.zero_le _, rfl, gown_nil _ _, (fun y hy => by cases hy), rfl, Below.refl _ _⟩
  case round =>
    obtain ⟨k, ys, hk, rfl, hC⟩ := hrel
    have HC := Lib.hid hC
    clear hC
    by_cases hlt : k < n
    case pos =>
      have hdk : decide ((k : Int) < n) = true := decide_eq_true (by omega)
      have hki : (k : Int) < (n : Int) := by omega
      obtain ⟨x, hx⟩ : ∃ x, l[k]? = some x := ⟨l[k]'(by have := HL.out; omega), List.getElem?_eq_getElem _⟩
      have hm := List.mem_of_getElem? hx
      have TKE := Lib.hid (take_g hx)
      have OS := Lib.hid (O300.out x hm)
      have HK := Lib.hid fun (W : World) (q : Below w.heap.size w W) => HI.out W q x hm
      have OK := Lib.hid (HK.out _ HC.out.bel).1
      obtain ⟨bb, oo, rfl, rg⟩ := grd_rng (HR.out _ HC.out.bel) hx
      have RG : Hid (∀ W, Below w.heap.size w W → W.rangeAt bb (oo + k * 29) (EK.cells x)) := Lib.hid fun W q => by
        obtain ⟨b', o', e, r⟩ := grd_rng (HR.out W q) hx
        cases e
        exact r
      have RG1 := Lib.hid (RG.out wr HC.out.bel)
      have X1 := Lib.hid (gbx_new (E := EK) (te := 33) wr zeroSk)
      obtain ⟨W2, hW2⟩ : ∃ W2, (wr.alloc (.cells (EK.cells zeroSk).toArray 33)).setRow wr.heap.size (EK.cells x).toArray = W2 := ⟨_, rfl⟩
      have x2 : EK.Bx 33 W2 wr.heap.size x := by rw [← hW2]; exact gbx_set X1.out
      have b2 : Below wr.heap.size wr W2 := by rw [← hW2]; exact below_row0 (below_new _ _) (Nat.le_refl _)
      have l2 : wr.heap.size < W2.heap.size := (Array.getElem?_eq_some_iff.1 x2).1
      have O0 := Lib.hid (gown_new (E := EO) (te := 41) W2)
      have b3 := b2.trans ((below_new W2 (.cells #[] 41)).mono b2.size)
      have x3 : EK.Bx 33 (W2.alloc (.cells #[] 41)) wr.heap.size x := gbx_below x2 (below_new W2 _)
      have BQ := Lib.hid (HC.out.bel.trans (b3.mono HC.out.bel.size))
      have B3 := Lib.hid b3
      have XX3 := Lib.hid x3
      have RO := Lib.hid (HK.out _ BQ.out).2
      have c28 := kq_at (RG.out _ BQ.out) (sk_os x)
      have HW2 := Lib.hid hW2
      have L2 := Lib.hid l2
      obtain ⟨gb, hgb⟩ : ∃ g, wr.heap.size = g := ⟨_, rfl⟩
      have HGB := Lib.hid hgb
      have hl : x.os.length ≤ 300 := OS.out
      have xn : x.n = x.os.length := RO.out.1.symm
      have BN := Lib.hid (show x.n ≤ 300 by omega)
      rw [HGB.out] at X1 HW2 XX3 L2
      clear hm hx rg x2 b2 l2 b3 x3 hW2 hgb hl xn
      go_wp2_with (first
        | ((with_reducible refine gwl_load TK bb (oo + k * 29) RG1.out ?_ ?_ ?_); rfl; rfl)
        | (refine gwl_store TK x gb X1.out rfl rfl ?_; rw [HW2.out])
        | (rw [HGB.out])
        | (at_builtin
           refine gpl_app TO rfl _ _ rfl W2.heap.size _ [] rfl O0.out x.A x.n x.c x.os rfl RO.out OK.out.h0 (by have := BN.out; simp; omega) (by simp) ?_
           intro v' w' h1 h2 h3
           rw [List.nil_append] at h1
           obtain ⟨A5, c5, rfl, h05⟩ := gown_form h1
           have ST := Lib.hid (HC.out.step B3.out XX3.out (Nat.le_of_eq HGB.out) (Nat.le_of_lt (by have := HGB.out; have := L2.out; omega)) (by have := L2.out; omega) h1 h2 (by simp) OK.out OS.out)
           obtain ⟨W5, hW5⟩ : ∃ W, w'.setCell ⟨gb, 28, none⟩ (.slice A5 x.os.length c5) = W := ⟨_, rfl⟩
           rw [hW5] at ST
           have HW5 := Lib.hid hW5
           obtain ⟨W6, hW6⟩ : ∃ W, W5.alloc (.cells (EK.cells ⟨x.lg, x.ba, x.pr, A5, x.os.length, c5, x.os⟩).toArray 33) = W := ⟨_, rfl⟩
           have OY := Lib.hid (gbx_rd (gbx_new (E := EK) (te := 33) W5 ⟨x.lg, x.ba, x.pr, A5, x.os.length, c5, x.os⟩))
           rw [hW6] at ST OY
           have HW6 := Lib.hid hW6
           have RY := Lib.hid (bk_rng ST.out.2.2.1)
           have k28 := ST.out.1
           have f28 := ST.out.2.1
           clear h1 h2 h3 h05 hW5 hW6)
        | (rw [HW5.out])
        | ((with_reducible refine gwl_load TK gb 0 RY.out ?_ ?_ ?_); rfl; rfl)
        | ((with_reducible refine wl_sk11 (s := ⟨x.lg, x.ba, x.pr, A5, x.os.length, c5, x.os⟩) ?_ ?_); rfl; rw [HW6.out])
        | (at_builtin; go_loud (refine gpl_app TK rfl _ _ rfl w.heap.size _ ys rfl ST.out.2.2.2.1.own (some ⟨W5.heap.size, 0, none⟩) 1 1 [⟨x.lg, x.ba, x.pr, A5, x.os.length, c5, x.os⟩] rfl OY.out (fun e => (by cases e)) (by have := HC.out.len; rw [List.length_take] at this; omega) ST.out.2.2.2.1.bel.size ?_); intro v7 w7 h7 h8 h9))
      have NX := Lib.hid (ST.out.2.2.2.1.app h7 h8 ⟨ST.out.2.2.2.2.1, ST.out.2.2.2.2.2⟩ (x := x) rfl)
      clear h7 h8 h9 k28 f28
      go_roundw
      case rel => exact ⟨k + 1, _, hlt, by go_num, by rw [TKE.out]; exact NX.out⟩
      case measure => simp [intOf]; omega
    case neg =>
      obtain rfl : k = n := by omega
      have T : Hid (l.take k = l) := Lib.hid (List.take_of_length_le (by rw [HL.out]; exact Nat.le_refl _))
      rw [T.out] at HC
      generalize wr = w3 at *
      obtain ⟨A5, c5, rfl, h05⟩ := gown_form HC.out.own
      have yl : ys.length = k := by have := HC.out.len; have := HL.out; omega
      rw [yl] at HC ⊢
      have ND := Lib.hid (need11 A5 k c5 ys w3 (gown_rd HC.out.own) HC.out.all (by unfold maxLen; omega))
      have R3 := Lib.hid fun (W : World) (q : Below w3.heap.size w3 W) => RN.out W (HC.out.bel.trans (q.mono HC.out.bel.size))
      rw [(core_same HC.out.core).1, (core_same HC.out.core).2, nd_cells] at ND
      simp only [nd_cells] at R3
      generalize (neN l).m = nm' at *
      generalize (neN l).w = nw' at *
      generalize (neN l).u = nu' at *
      generalize neE l = ne' at *
      clear T hlt hk
      go_wp2_with fail
      refine ND.out.mono ?_; rintro e w4 ⟨rfl, q4⟩
      obtain ⟨W5, hW5⟩ : ∃ W, w4.alloc (.cells #[.int .i64 nm', .int .i64 nw', .int .i64 nu'] 35) = W := ⟨_, rfl⟩
      have n5 : EN.Bx 35 W5 w4.heap.size ⟨nm', nw', nu'⟩ := by rw [← hW5]; exact gbx_new (E := EN) w4 ⟨nm', nw', nu'⟩
      have q5 : Below w3.heap.size w3 W5 := q4.trans ((show Below w4.heap.size w4 W5 by rw [← hW5]; exact below_new w4 _).mono q4.size)
      have Q5 := Lib.hid q5
      have R5 := Lib.hid (R3.out W5 q5)
      have HW5 := Lib.hid hW5
      have N5 := Lib.hid n5
      clear hW5 q5 q4 n5
      go_wp2_with (rw [HW5.out])
      refine R5.out.mono ?_; rintro e w6 ⟨rfl, q6⟩
      obtain ⟨W7, hW7⟩ : ∃ W, w6.alloc (.cells #[.int .i64 nm', .int .i64 nw', .int .i64 nu'] 35) = W := ⟨_, rfl⟩
      have n7 : EN.Bx 35 W7 w6.heap.size ⟨nm', nw', nu'⟩ := by rw [← hW7]; exact gbx_new (E := EN) w6 ⟨nm', nw', nu'⟩
      have q7 : Below W5.heap.size W5 W7 := q6.trans ((show Below w6.heap.size w6 W7 by rw [← hW7]; exact below_new w6 _).mono q6.size)
      have m7 : EN.Bx 35 W7 w4.heap.size ⟨nm', nw', nu'⟩ := gbx_below N5.out q7
      have C7 := Lib.hid (HC.out.below (Q5.out.trans (q7.mono Q5.out.size)))
      have NA := Lib.hid fun (W : World) (q : Below W7.heap.size W7 W) => (show W.rangeAt w4.heap.size 0 (EN.cells ⟨nm', nw', nu'⟩) ∧ W.rangeAt w6.heap.size 0 (EN.cells ⟨nm', nw', nu'⟩) from ⟨gbx_rng (gbx_below m7 q), gbx_rng (gbx_below n7 q)⟩)
      have HW7 := Lib.hid hW7
      clear hW7 q7 q6 n7 m7 HC
      go_wp2_with (rw [HW7.out])
      go_loopw [49] (fun i wr => ∃ j : Nat, j ≤ k ∧ i = .int .i64 j ∧ Below W7.heap.size W7 wr) (fun i _ => k - (intOf i).toNat)
      case atStart => exact ⟨0, Nat.zero_le _, rfl, Below.refl _ _⟩
      case round =>
        obtain ⟨j, hj, rfl, hb⟩ := hrel
        have BB := Lib.hid hb
        have CB := Lib.hid (C7.out.below hb)
        clear hb
        generalize wr = wo at *
        by_cases hlt : j < k
        case neg =>
          obtain rfl : j = k := by omega
          obtain ⟨r1, r2⟩ := NA.out wo BB.out
          have a0 : wo.cell? ⟨w4.heap.size, 0, none⟩ = some (.int .i64 nm') := r1 0 _ rfl
          have a1 : wo.cell? ⟨w4.heap.size, 1, none⟩ = some (.int .i64 nw') := r1 1 _ rfl
          have a2 : wo.cell? ⟨w4.heap.size, 2, none⟩ = some (.int .i64 nu') := r1 2 _ rfl
          have b0 : wo.cell? ⟨w6.heap.size, 0, none⟩ = some (.int .i64 nm') := r2 0 _ rfl
          have b1 : wo.cell? ⟨w6.heap.size, 1, none⟩ = some (.int .i64 nw') := r2 1 _ rfl
          have b2 : wo.cell? ⟨w6.heap.size, 2, none⟩ = some (.int .i64 nu') := r2 2 _ rfl
          have QK := Lib.hid (KN.out wo CB.out.bel)
          clear r1 r2
          go_wp2_with fail
          refine QK.out.mono ?_; rintro e w9 ⟨rfl, q9⟩
          have Q9 := Lib.hid q9
          clear q9
          go_wp2_with fail
          go_ret
          exact ⟨rfl, Q9.out⟩
        case pos =>
          have hdk : decide ((j : Int) < k) = true := decide_eq_true (by omega)
          have hki : (j : Int) < (k : Int) := by omega
          obtain ⟨x, hx⟩ : ∃ x, l[j]? = some x := ⟨l[j]'(by have := HL.out; omega), List.getElem?_eq_getElem _⟩
          obtain ⟨y, hy⟩ : ∃ x, ys[j]? = some x := ⟨ys[j]'(by omega), List.getElem?_eq_getElem _⟩
          obtain ⟨e1, e2, e3, e4⟩ := core_at CB.out.core hy hx
          have OKX := Lib.hid (HI.out wo CB.out.bel x (List.mem_of_getElem? hx))
          have OKY := Lib.hid (CB.out.all y (List.mem_of_getElem? hy))
          obtain ⟨yb, yo, rfl, yr⟩ := grd_rng (gown_rd CB.out.own) hy
          obtain ⟨bb, oo, rfl, rg⟩ := grd_rng (HR.out wo CB.out.bel) hx
          have RY := Lib.hid fun (U : World) (q : Below wo.heap.size wo U) => (show U.rangeAt yb (yo + j * 29) (EK.cells y) from rng_below yr q (Nat.le_refl _))
          have RX := Lib.hid fun (U : World) (q : Below wo.heap.size wo U) => (show U.rangeAt bb (oo + j * 29) (EK.cells x) from rng_below rg q (Nat.le_refl _))
          have LY := Lib.hid fun (U : World) (q : Below wo.heap.size wo U) => (show U.rangeAt yb (yo + j * 29) (EL.cells x.lg) from by have := kq_lg (RY.out U q); rwa [e1] at this)
          have LX := Lib.hid fun (U : World) (q : Below wo.heap.size wo U) => (show U.rangeAt bb (oo + j * 29) (EL.cells x.lg) from kq_lg (RX.out U q))
          have AY := Lib.hid fun (U : World) (q : Below wo.heap.size wo U) => (show U.cell? ⟨yb, yo + j * 29 + 26, none⟩ = some (.int .i64 x.ba) from by have := kq_at (RY.out U q) (sk_ba y); rwa [e2] at this)
          have AX := Lib.hid fun (U : World) (q : Below wo.heap.size wo U) => (show U.cell? ⟨bb, oo + j * 29 + 26, none⟩ = some (.int .i64 x.ba) from kq_at (RX.out U q) (sk_ba x))
          have PY := Lib.hid fun (U : World) (q : Below wo.heap.size wo U) => (show U.cell? ⟨yb, yo + j * 29 + 27, none⟩ = some (.int .i64 x.pr) from by have := kq_at (RY.out U q) (sk_pr y); rwa [e3] at this)
          have PX := Lib.hid fun (U : World) (q : Below wo.heap.size wo U) => (show U.cell? ⟨bb, oo + j * 29 + 27, none⟩ = some (.int .i64 x.pr) from kq_at (RX.out U q) (sk_pr x))
          have SY := Lib.hid fun (U : World) (q : Below wo.heap.size wo U) => (show U.cell? ⟨yb, yo + j * 29 + 28, none⟩ = some (.slice y.A y.n y.c) from kq_at (RY.out U q) (sk_os y))
          have SX := Lib.hid fun (U : World) (q : Below wo.heap.size wo U) => (show U.cell? ⟨bb, oo + j * 29 + 28, none⟩ = some (.slice x.A x.n x.c) from kq_at (RX.out U q) (sk_os x))
          have NY : Hid (y.n = x.os.length ∧ x.n = x.os.length ∧ y.os = x.os) := Lib.hid ⟨by rw [← e4]; exact OKY.out.2.1.symm, OKX.out.2.1.symm, e4⟩
          have N3 := Lib.hid (O300.out x (List.mem_of_getElem? hx))
          clear hx hy e1 e2 e3 e4 yr rg
          go_wp2_with fail
          refine wp_region_held_drew (S := fun U => Below wo.heap.size wo U) (by kernel_rfl) (Below.refl _ _).drew (fun hH => ?_)
          refine wpAnyH_take (i := 0) (v := .slice (some ⟨yb, yo, none⟩) k c5) rfl (by kernel_rfl) (by kernel_rfl) (by kernel_rfl) (fun _ _ _ h => h) (.inl ⟨by rfl, ?_⟩) (by assumption) ?_
          · intro W hW; go_simp
          try simp only [List.getElem_toArray, List.getElem_cons_zero, Act.put, List.setIfInBounds_toArray, List.set_cons_zero, List.set_cons_succ]
          refine wpAnyH_take (i := 1) (v := .int .i64 j) rfl (by kernel_rfl) (by kernel_rfl) (by kernel_rfl) (fun _ _ _ h => h) (.inl ⟨by rfl, ?_⟩) (by assumption) ?_
          · intro W hW; go_simp
          try simp only [List.getElem_toArray, List.getElem_cons_zero, List.getElem_cons_succ, Act.put, List.setIfInBounds_toArray, List.set_cons_zero, List.set_cons_succ]
          refine wpAnyH_take (i := 2) (v := .pointer (some ⟨yb, yo + j * 29, none⟩)) rfl (by kernel_rfl) (by kernel_rfl) (by kernel_rfl) (fun _ _ _ h => h) (.inl ⟨by rfl, ?_⟩) (by assumption) ?_
          · intro W hW; go_simp
          try simp only [List.getElem_toArray, List.getElem_cons_zero, List.getElem_cons_succ, Act.put, List.setIfInBounds_toArray, List.set_cons_zero, List.set_cons_succ]
          refine wpAnyH_take (i := 3) (v := .pointer (some ⟨yb, yo + j * 29, none⟩)) rfl (by kernel_rfl) (by kernel_rfl) (by kernel_rfl) (fun _ _ _ h => h) (.inl ⟨by rfl, ?_⟩) (by assumption) ?_
          · intro W hW; go_simp
          try simp only [List.getElem_toArray, List.getElem_cons_zero, List.getElem_cons_succ, Act.put, List.setIfInBounds_toArray, List.set_cons_zero, List.set_cons_succ]
          refine wpAnyH_take (i := 4) (v := .agg (EL.cells x.lg).toArray) rfl (by kernel_rfl) (by kernel_rfl) (by kernel_rfl) (fun _ _ _ h => h) (gyields_load TL (by rfl) (.tmp 55) rfl yb (yo + j * 29) rfl (fun U hU => LY.out U hU)) (by assumption) ?_
          try simp only [List.getElem_toArray, List.getElem_cons_zero, List.getElem_cons_succ, Act.put, List.setIfInBounds_toArray, List.set_cons_zero, List.set_cons_succ]
          refine wpAnyH_take (i := 5) (v := .slice (some ⟨bb, oo, none⟩) k c) rfl (by kernel_rfl) (by kernel_rfl) (by kernel_rfl) (fun _ _ _ h => h) (.inl ⟨by rfl, ?_⟩) (by assumption) ?_
          · intro W hW; go_simp
          try simp only [List.getElem_toArray, List.getElem_cons_zero, List.getElem_cons_succ, Act.put, List.setIfInBounds_toArray, List.set_cons_zero, List.set_cons_succ]
          refine wpAnyH_take (i := 6) (v := .int .i64 j) rfl (by kernel_rfl) (by kernel_rfl) (by kernel_rfl) (fun _ _ _ h => h) (.inl ⟨by rfl, ?_⟩) (by assumption) ?_
          · intro W hW; go_simp
          try simp only [List.getElem_toArray, List.getElem_cons_zero, List.getElem_cons_succ, Act.put, List.setIfInBounds_toArray, List.set_cons_zero, List.set_cons_succ]
          refine wpAnyH_take (i := 7) (v := .pointer (some ⟨bb, oo + j * 29, none⟩)) rfl (by kernel_rfl) (by kernel_rfl) (by kernel_rfl) (fun _ _ _ h => h) (.inl ⟨by rfl, ?_⟩) (by assumption) ?_
          · intro W hW; go_simp
          try simp only [List.getElem_toArray, List.getElem_cons_zero, List.getElem_cons_succ, Act.put, List.setIfInBounds_toArray, List.set_cons_zero, List.set_cons_succ]
          refine wpAnyH_take (i := 8) (v := .pointer (some ⟨bb, oo + j * 29, none⟩)) rfl (by kernel_rfl) (by kernel_rfl) (by kernel_rfl) (fun _ _ _ h => h) (.inl ⟨by rfl, ?_⟩) (by assumption) ?_
          · intro W hW; go_simp
          try simp only [List.getElem_toArray, List.getElem_cons_zero, List.getElem_cons_succ, Act.put, List.setIfInBounds_toArray, List.set_cons_zero, List.set_cons_succ]
          refine wpAnyH_take (i := 9) (v := .agg (EL.cells x.lg).toArray) rfl (by kernel_rfl) (by kernel_rfl) (by kernel_rfl) (fun _ _ _ h => h) (gyields_load TL (by rfl) (.tmp 60) rfl bb (oo + j * 29) rfl (fun U hU => LX.out U hU)) (by assumption) ?_
          try simp only [List.getElem_toArray, List.getElem_cons_zero, List.getElem_cons_succ, Act.put, List.setIfInBounds_toArray, List.set_cons_zero, List.set_cons_succ]
          refine wpAnyH_take (i := 10) (v := .bool false) rfl (by kernel_rfl) (by kernel_rfl) (by kernel_rfl) (fun _ _ _ h => h) (yields_neq10 (by rfl) (.tmp 56) (.tmp 61) rfl OKX.out.1.lg rfl rfl) (by assumption) ?_
          try simp only [List.getElem_toArray, List.getElem_cons_zero, List.getElem_cons_succ, Act.put, List.setIfInBounds_toArray, List.set_cons_zero, List.set_cons_succ]
          refine wpAnyH_take (i := 11) (v := .bool false) rfl (by kernel_rfl) (by kernel_rfl) (by kernel_rfl) (fun _ _ _ h => h) (.inl ⟨by rfl, ?_⟩) (by assumption) ?_
          · intro W hW; go_simp
          try simp only [List.getElem_toArray, List.getElem_cons_zero, List.getElem_cons_succ, Act.put, List.setIfInBounds_toArray, List.set_cons_zero, List.set_cons_succ]
          refine wpAnyH_take (i := 12) (v := .slice (some ⟨yb, yo, none⟩) k c5) rfl (by kernel_rfl) (by kernel_rfl) (by kernel_rfl) (fun _ _ _ h => h) (.inl ⟨by rfl, ?_⟩) (by assumption) ?_
          · intro W hW; go_simp
          try simp only [List.getElem_toArray, List.getElem_cons_zero, List.getElem_cons_succ, Act.put, List.setIfInBounds_toArray, List.set_cons_zero, List.set_cons_succ]
          refine wpAnyH_take (i := 13) (v := .int .i64 j) rfl (by kernel_rfl) (by kernel_rfl) (by kernel_rfl) (fun _ _ _ h => h) (.inl ⟨by rfl, ?_⟩) (by assumption) ?_
          · intro W hW; go_simp
          try simp only [List.getElem_toArray, List.getElem_cons_zero, List.getElem_cons_succ, Act.put, List.setIfInBounds_toArray, List.set_cons_zero, List.set_cons_succ]
          refine wpAnyH_take (i := 14) (v := .pointer (some ⟨yb, yo + j * 29, none⟩)) rfl (by kernel_rfl) (by kernel_rfl) (by kernel_rfl) (fun _ _ _ h => h) (.inl ⟨by rfl, ?_⟩) (by assumption) ?_
          · intro W hW; go_simp
          try simp only [List.getElem_toArray, List.getElem_cons_zero, List.getElem_cons_succ, Act.put, List.setIfInBounds_toArray, List.set_cons_zero, List.set_cons_succ]
          refine wpAnyH_take (i := 15) (v := .pointer (some ⟨yb, yo + j * 29 + 26, none⟩)) rfl (by kernel_rfl) (by kernel_rfl) (by kernel_rfl) (fun _ _ _ h => h) (.inl ⟨by rfl, ?_⟩) (by assumption) ?_
          · intro W hW; go_simp
          try simp only [List.getElem_toArray, List.getElem_cons_zero, List.getElem_cons_succ, Act.put, List.setIfInBounds_toArray, List.set_cons_zero, List.set_cons_succ]
          refine wpAnyH_take (i := 16) (v := .int .i64 x.ba) rfl (by kernel_rfl) (by kernel_rfl) (by kernel_rfl) (fun _ _ _ h => h) (.inl ⟨by rfl, ?_⟩) (by assumption) ?_
          · intro W hW; have kk := AY.out W hW; go_simp
          try simp only [List.getElem_toArray, List.getElem_cons_zero, List.getElem_cons_succ, Act.put, List.setIfInBounds_toArray, List.set_cons_zero, List.set_cons_succ]
          refine wpAnyH_take (i := 17) (v := .slice (some ⟨bb, oo, none⟩) k c) rfl (by kernel_rfl) (by kernel_rfl) (by kernel_rfl) (fun _ _ _ h => h) (.inl ⟨by rfl, ?_⟩) (by assumption) ?_
          · intro W hW; go_simp
          try simp only [List.getElem_toArray, List.getElem_cons_zero, List.getElem_cons_succ, Act.put, List.setIfInBounds_toArray, List.set_cons_zero, List.set_cons_succ]
          refine wpAnyH_take (i := 18) (v := .int .i64 j) rfl (by kernel_rfl) (by kernel_rfl) (by kernel_rfl) (fun _ _ _ h => h) (.inl ⟨by rfl, ?_⟩) (by assumption) ?_
          · intro W hW; go_simp
          try simp only [List.getElem_toArray, List.getElem_cons_zero, List.getElem_cons_succ, Act.put, List.setIfInBounds_toArray, List.set_cons_zero, List.set_cons_succ]
          refine wpAnyH_take (i := 19) (v := .pointer (some ⟨bb, oo + j * 29, none⟩)) rfl (by kernel_rfl) (by kernel_rfl) (by kernel_rfl) (fun _ _ _ h => h) (.inl ⟨by rfl, ?_⟩) (by assumption) ?_
          · intro W hW; go_simp
          try simp only [List.getElem_toArray, List.getElem_cons_zero, List.getElem_cons_succ, Act.put, List.setIfInBounds_toArray, List.set_cons_zero, List.set_cons_succ]
          refine wpAnyH_take (i := 20) (v := .pointer (some ⟨bb, oo + j * 29 + 26, none⟩)) rfl (by kernel_rfl) (by kernel_rfl) (by kernel_rfl) (fun _ _ _ h => h) (.inl ⟨by rfl, ?_⟩) (by assumption) ?_
          · intro W hW; go_simp
          try simp only [List.getElem_toArray, List.getElem_cons_zero, List.getElem_cons_succ, Act.put, List.setIfInBounds_toArray, List.set_cons_zero, List.set_cons_succ]
          refine wpAnyH_take (i := 21) (v := .int .i64 x.ba) rfl (by kernel_rfl) (by kernel_rfl) (by kernel_rfl) (fun _ _ _ h => h) (.inl ⟨by rfl, ?_⟩) (by assumption) ?_
          · intro W hW; have kk := AX.out W hW; go_simp
          try simp only [List.getElem_toArray, List.getElem_cons_zero, List.getElem_cons_succ, Act.put, List.setIfInBounds_toArray, List.set_cons_zero, List.set_cons_succ]
          refine wpAnyH_take (i := 22) (v := .bool false) rfl (by kernel_rfl) (by kernel_rfl) (by kernel_rfl) (fun _ _ _ h => h) (.inl ⟨by rfl, ?_⟩) (by assumption) ?_
          · intro W hW; go_simp
          try simp only [List.getElem_toArray, List.getElem_cons_zero, List.getElem_cons_succ, Act.put, List.setIfInBounds_toArray, List.set_cons_zero, List.set_cons_succ]
          refine wpAnyH_take (i := 23) (v := .bool false) rfl (by kernel_rfl) (by kernel_rfl) (by kernel_rfl) (fun _ _ _ h => h) (.inl ⟨by rfl, ?_⟩) (by assumption) ?_
          · intro W hW; go_simp
          try simp only [List.getElem_toArray, List.getElem_cons_zero, List.getElem_cons_succ, Act.put, List.setIfInBounds_toArray, List.set_cons_zero, List.set_cons_succ]
          refine wpAnyH_take (i := 24) (v := .bool false) rfl (by kernel_rfl) (by kernel_rfl) (by kernel_rfl) (fun _ _ _ h => h) (.inl ⟨by rfl, ?_⟩) (by assumption) ?_
          · intro W hW; go_simp
          try simp only [List.getElem_toArray, List.getElem_cons_zero, List.getElem_cons_succ, Act.put, List.setIfInBounds_toArray, List.set_cons_zero, List.set_cons_succ]
          refine wpAnyH_take (i := 25) (v := .slice (some ⟨yb, yo, none⟩) k c5) rfl (by kernel_rfl) (by kernel_rfl) (by kernel_rfl) (fun _ _ _ h => h) (.inl ⟨by rfl, ?_⟩) (by assumption) ?_
          · intro W hW; go_simp
          try simp only [List.getElem_toArray, List.getElem_cons_zero, List.getElem_cons_succ, Act.put, List.setIfInBounds_toArray, List.set_cons_zero, List.set_cons_succ]
          refine wpAnyH_take (i := 26) (v := .int .i64 j) rfl (by kernel_rfl) (by kernel_rfl) (by kernel_rfl) (fun _ _ _ h => h) (.inl ⟨by rfl, ?_⟩) (by assumption) ?_
          · intro W hW; go_simp
          try simp only [List.getElem_toArray, List.getElem_cons_zero, List.getElem_cons_succ, Act.put, List.setIfInBounds_toArray, List.set_cons_zero, List.set_cons_succ]
          refine wpAnyH_take (i := 27) (v := .pointer (some ⟨yb, yo + j * 29, none⟩)) rfl (by kernel_rfl) (by kernel_rfl) (by kernel_rfl) (fun _ _ _ h => h) (.inl ⟨by rfl, ?_⟩) (by assumption) ?_
          · intro W hW; go_simp
          try simp only [List.getElem_toArray, List.getElem_cons_zero, List.getElem_cons_succ, Act.put, List.setIfInBounds_toArray, List.set_cons_zero, List.set_cons_succ]
          refine wpAnyH_take (i := 28) (v := .pointer (some ⟨yb, yo + j * 29 + 27, none⟩)) rfl (by kernel_rfl) (by kernel_rfl) (by kernel_rfl) (fun _ _ _ h => h) (.inl ⟨by rfl, ?_⟩) (by assumption) ?_
          · intro W hW; go_simp
          try simp only [List.getElem_toArray, List.getElem_cons_zero, List.getElem_cons_succ, Act.put, List.setIfInBounds_toArray, List.set_cons_zero, List.set_cons_succ]
          refine wpAnyH_take (i := 29) (v := .int .i64 x.pr) rfl (by kernel_rfl) (by kernel_rfl) (by kernel_rfl) (fun _ _ _ h => h) (.inl ⟨by rfl, ?_⟩) (by assumption) ?_
          · intro W hW; have kk := PY.out W hW; go_simp
          try simp only [List.getElem_toArray, List.getElem_cons_zero, List.getElem_cons_succ, Act.put, List.setIfInBounds_toArray, List.set_cons_zero, List.set_cons_succ]
          refine wpAnyH_take (i := 30) (v := .slice (some ⟨bb, oo, none⟩) k c) rfl (by kernel_rfl) (by kernel_rfl) (by kernel_rfl) (fun _ _ _ h => h) (.inl ⟨by rfl, ?_⟩) (by assumption) ?_
          · intro W hW; go_simp
          try simp only [List.getElem_toArray, List.getElem_cons_zero, List.getElem_cons_succ, Act.put, List.setIfInBounds_toArray, List.set_cons_zero, List.set_cons_succ]
          refine wpAnyH_take (i := 31) (v := .int .i64 j) rfl (by kernel_rfl) (by kernel_rfl) (by kernel_rfl) (fun _ _ _ h => h) (.inl ⟨by rfl, ?_⟩) (by assumption) ?_
          · intro W hW; go_simp
          try simp only [List.getElem_toArray, List.getElem_cons_zero, List.getElem_cons_succ, Act.put, List.setIfInBounds_toArray, List.set_cons_zero, List.set_cons_succ]
          refine wpAnyH_take (i := 32) (v := .pointer (some ⟨bb, oo + j * 29, none⟩)) rfl (by kernel_rfl) (by kernel_rfl) (by kernel_rfl) (fun _ _ _ h => h) (.inl ⟨by rfl, ?_⟩) (by assumption) ?_
          · intro W hW; go_simp
          try simp only [List.getElem_toArray, List.getElem_cons_zero, List.getElem_cons_succ, Act.put, List.setIfInBounds_toArray, List.set_cons_zero, List.set_cons_succ]
          refine wpAnyH_take (i := 33) (v := .pointer (some ⟨bb, oo + j * 29 + 27, none⟩)) rfl (by kernel_rfl) (by kernel_rfl) (by kernel_rfl) (fun _ _ _ h => h) (.inl ⟨by rfl, ?_⟩) (by assumption) ?_
          · intro W hW; go_simp
          try simp only [List.getElem_toArray, List.getElem_cons_zero, List.getElem_cons_succ, Act.put, List.setIfInBounds_toArray, List.set_cons_zero, List.set_cons_succ]
          refine wpAnyH_take (i := 34) (v := .int .i64 x.pr) rfl (by kernel_rfl) (by kernel_rfl) (by kernel_rfl) (fun _ _ _ h => h) (.inl ⟨by rfl, ?_⟩) (by assumption) ?_
          · intro W hW; have kk := PX.out W hW; go_simp
          try simp only [List.getElem_toArray, List.getElem_cons_zero, List.getElem_cons_succ, Act.put, List.setIfInBounds_toArray, List.set_cons_zero, List.set_cons_succ]
          refine wpAnyH_take (i := 35) (v := .bool false) rfl (by kernel_rfl) (by kernel_rfl) (by kernel_rfl) (fun _ _ _ h => h) (.inl ⟨by rfl, ?_⟩) (by assumption) ?_
          · intro W hW; go_simp
          try simp only [List.getElem_toArray, List.getElem_cons_zero, List.getElem_cons_succ, Act.put, List.setIfInBounds_toArray, List.set_cons_zero, List.set_cons_succ]
          refine wpAnyH_take (i := 36) (v := .bool false) rfl (by kernel_rfl) (by kernel_rfl) (by kernel_rfl) (fun _ _ _ h => h) (.inl ⟨by rfl, ?_⟩) (by assumption) ?_
          · intro W hW; go_simp
          try simp only [List.getElem_toArray, List.getElem_cons_zero, List.getElem_cons_succ, Act.put, List.setIfInBounds_toArray, List.set_cons_zero, List.set_cons_succ]
          refine wpAnyH_done (by decide +kernel) ?_ _
          have k28 := SY.out _ hH
          have HH := Lib.hid hH
          clear hH
          go_wp2_with fail
          clear k28
          go_loopw [95] (fun i wr => ∃ m : Nat, m ≤ y.n ∧ i = .int .i64 m ∧ Below wo.heap.size wo wr) (fun i _ => y.n - (intOf i).toNat)
          case atStart => exact ⟨0, Nat.zero_le _, rfl, HH.out⟩
          case round =>
            obtain ⟨m, hm, rfl, hb⟩ := hrel
            have BI := Lib.hid hb
            clear hb
            generalize wr = wi at *
            have y3 : y.n ≤ 300 := by have := NY.out.1; have := N3.out; omega
            by_cases hlt2 : m < y.n
            case neg =>
              obtain ⟨yn, hyn⟩ : ∃ v, y.n = v := ⟨_, rfl⟩
              rw [hyn] at hm hlt2 ⊢
              obtain rfl : m = yn := by omega
              go_wp2_with fail
              go_roundw
              case rel => exact ⟨j + 1, hlt, by go_num, BB.out.trans (BI.out.mono BB.out.size)⟩
              case measure => simp [intOf]; omega
            case pos =>
              have hdm : decide ((m : Int) < (y.n : Int)) = true := decide_eq_true (by omega)
              have hmi : (m : Int) < (y.n : Int) := by omega
              have hmx : (m : Int) < (x.n : Int) := by have := NY.out.1; have := NY.out.2.1; omega
              obtain ⟨o, ho⟩ : ∃ o, x.os[m]? = some o := ⟨x.os[m]'(by have := NY.out.1; omega), List.getElem?_eq_getElem _⟩
              obtain ⟨zb, zo, eYA, zr⟩ := grd_rng (show EO.Rd wi y.A y.n x.os from by have := grd_below OKY.out.2 BI.out (Nat.le_refl _); rwa [NY.out.2.2] at this) ho
              obtain ⟨xb, xo, eXA, xr⟩ := grd_rng (show EO.Rd wi x.A x.n x.os from grd_below OKX.out.2 BI.out (Nat.le_refl _)) ho
              have OO := Lib.hid (OKX.out.1.os o (List.mem_of_getElem? ho))
              have ZR := Lib.hid fun (U : World) (q : Below wi.heap.size wi U) => (show U.rangeAt zb (zo + m * 5) (EO.cells o) from rng_below zr q (Nat.le_refl _))
              have XR := Lib.hid fun (U : World) (q : Below wi.heap.size wi U) => (show U.rangeAt xb (xo + m * 5) (EO.cells o) from rng_below xr q (Nat.le_refl _))
              have CY := Lib.hid fun (U : World) (q : Below wi.heap.size wi U) => (show U.cell? ⟨yb, yo + j * 29 + 28, none⟩ = some (.slice (some ⟨zb, zo, none⟩) y.n y.c) from by rw [← eYA]; exact SY.out U (BI.out.trans (q.mono BI.out.size)))
              have CX := Lib.hid fun (U : World) (q : Below wi.heap.size wi U) => (show U.cell? ⟨bb, oo + j * 29 + 28, none⟩ = some (.slice (some ⟨xb, xo, none⟩) x.n x.c) from by rw [← eXA]; exact SX.out U (BI.out.trans (q.mono BI.out.size)))
              clear ho eYA eXA zr xr
              go_wp2_with fail
              refine wp_region_held_drew (S := fun U => Below wi.heap.size wi U) (by kernel_rfl) (Below.refl _ _).drew (fun hH => ?_)
              refine wpAnyH_take (i := 0) (v := .slice (some ⟨yb, yo, none⟩) k c5) rfl (by kernel_rfl) (by kernel_rfl) (by kernel_rfl) (fun _ _ _ h => h) (.inl ⟨by rfl, ?_⟩) (by assumption) ?_
              · intro W hW; go_simp
              try simp only [List.getElem_toArray, List.getElem_cons_zero, Act.put, List.setIfInBounds_toArray, List.set_cons_zero, List.set_cons_succ]
              refine wpAnyH_take (i := 1) (v := .int .i64 j) rfl (by kernel_rfl) (by kernel_rfl) (by kernel_rfl) (fun _ _ _ h => h) (.inl ⟨by rfl, ?_⟩) (by assumption) ?_
              · intro W hW; go_simp
              try simp only [List.getElem_toArray, List.getElem_cons_zero, List.getElem_cons_succ, Act.put, List.setIfInBounds_toArray, List.set_cons_zero, List.set_cons_succ]
              refine wpAnyH_take (i := 2) (v := .pointer (some ⟨yb, yo + j * 29, none⟩)) rfl (by kernel_rfl) (by kernel_rfl) (by kernel_rfl) (fun _ _ _ h => h) (.inl ⟨by rfl, ?_⟩) (by assumption) ?_
              · intro W hW; go_simp
              try simp only [List.getElem_toArray, List.getElem_cons_zero, List.getElem_cons_succ, Act.put, List.setIfInBounds_toArray, List.set_cons_zero, List.set_cons_succ]
              refine wpAnyH_take (i := 3) (v := .pointer (some ⟨yb, yo + j * 29 + 28, none⟩)) rfl (by kernel_rfl) (by kernel_rfl) (by kernel_rfl) (fun _ _ _ h => h) (.inl ⟨by rfl, ?_⟩) (by assumption) ?_
              · intro W hW; go_simp
              try simp only [List.getElem_toArray, List.getElem_cons_zero, List.getElem_cons_succ, Act.put, List.setIfInBounds_toArray, List.set_cons_zero, List.set_cons_succ]
              refine wpAnyH_take (i := 4) (v := .slice (some ⟨zb, zo, none⟩) y.n y.c) rfl (by kernel_rfl) (by kernel_rfl) (by kernel_rfl) (fun _ _ _ h => h) (.inl ⟨by rfl, ?_⟩) (by assumption) ?_
              · intro W hW; have kk := CY.out W hW; go_simp
              try simp only [List.getElem_toArray, List.getElem_cons_zero, List.getElem_cons_succ, Act.put, List.setIfInBounds_toArray, List.set_cons_zero, List.set_cons_succ]
              refine wpAnyH_take (i := 5) (v := .int .i64 m) rfl (by kernel_rfl) (by kernel_rfl) (by kernel_rfl) (fun _ _ _ h => h) (.inl ⟨by rfl, ?_⟩) (by assumption) ?_
              · intro W hW; go_simp
              try simp only [List.getElem_toArray, List.getElem_cons_zero, List.getElem_cons_succ, Act.put, List.setIfInBounds_toArray, List.set_cons_zero, List.set_cons_succ]
              refine wpAnyH_take (i := 6) (v := .pointer (some ⟨zb, zo + m * 5, none⟩)) rfl (by kernel_rfl) (by kernel_rfl) (by kernel_rfl) (fun _ _ _ h => h) (.inl ⟨by rfl, ?_⟩) (by assumption) ?_
              · intro W hW; go_simp
              try simp only [List.getElem_toArray, List.getElem_cons_zero, List.getElem_cons_succ, Act.put, List.setIfInBounds_toArray, List.set_cons_zero, List.set_cons_succ]
              refine wpAnyH_take (i := 7) (v := .agg (EO.cells o).toArray) rfl (by kernel_rfl) (by kernel_rfl) (by kernel_rfl) (fun _ _ _ h => h) (gyields_load TO (by rfl) (.tmp 104) rfl zb (zo + m * 5) rfl (fun U hU => ZR.out U hU)) (by assumption) ?_
              try simp only [List.getElem_toArray, List.getElem_cons_zero, List.getElem_cons_succ, Act.put, List.setIfInBounds_toArray, List.set_cons_zero, List.set_cons_succ]
              refine wpAnyH_take (i := 8) (v := .slice (some ⟨bb, oo, none⟩) k c) rfl (by kernel_rfl) (by kernel_rfl) (by kernel_rfl) (fun _ _ _ h => h) (.inl ⟨by rfl, ?_⟩) (by assumption) ?_
              · intro W hW; go_simp
              try simp only [List.getElem_toArray, List.getElem_cons_zero, List.getElem_cons_succ, Act.put, List.setIfInBounds_toArray, List.set_cons_zero, List.set_cons_succ]
              refine wpAnyH_take (i := 9) (v := .int .i64 j) rfl (by kernel_rfl) (by kernel_rfl) (by kernel_rfl) (fun _ _ _ h => h) (.inl ⟨by rfl, ?_⟩) (by assumption) ?_
              · intro W hW; go_simp
              try simp only [List.getElem_toArray, List.getElem_cons_zero, List.getElem_cons_succ, Act.put, List.setIfInBounds_toArray, List.set_cons_zero, List.set_cons_succ]
              refine wpAnyH_take (i := 10) (v := .pointer (some ⟨bb, oo + j * 29, none⟩)) rfl (by kernel_rfl) (by kernel_rfl) (by kernel_rfl) (fun _ _ _ h => h) (.inl ⟨by rfl, ?_⟩) (by assumption) ?_
              · intro W hW; go_simp
              try simp only [List.getElem_toArray, List.getElem_cons_zero, List.getElem_cons_succ, Act.put, List.setIfInBounds_toArray, List.set_cons_zero, List.set_cons_succ]
              refine wpAnyH_take (i := 11) (v := .pointer (some ⟨bb, oo + j * 29 + 28, none⟩)) rfl (by kernel_rfl) (by kernel_rfl) (by kernel_rfl) (fun _ _ _ h => h) (.inl ⟨by rfl, ?_⟩) (by assumption) ?_
              · intro W hW; go_simp
              try simp only [List.getElem_toArray, List.getElem_cons_zero, List.getElem_cons_succ, Act.put, List.setIfInBounds_toArray, List.set_cons_zero, List.set_cons_succ]
              refine wpAnyH_take (i := 12) (v := .slice (some ⟨xb, xo, none⟩) x.n x.c) rfl (by kernel_rfl) (by kernel_rfl) (by kernel_rfl) (fun _ _ _ h => h) (.inl ⟨by rfl, ?_⟩) (by assumption) ?_
              · intro W hW; have kk := CX.out W hW; go_simp
              try simp only [List.getElem_toArray, List.getElem_cons_zero, List.getElem_cons_succ, Act.put, List.setIfInBounds_toArray, List.set_cons_zero, List.set_cons_succ]
              refine wpAnyH_take (i := 13) (v := .int .i64 m) rfl (by kernel_rfl) (by kernel_rfl) (by kernel_rfl) (fun _ _ _ h => h) (.inl ⟨by rfl, ?_⟩) (by assumption) ?_
              · intro W hW; go_simp
              try simp only [List.getElem_toArray, List.getElem_cons_zero, List.getElem_cons_succ, Act.put, List.setIfInBounds_toArray, List.set_cons_zero, List.set_cons_succ]
              refine wpAnyH_take (i := 14) (v := .pointer (some ⟨xb, xo + m * 5, none⟩)) rfl (by kernel_rfl) (by kernel_rfl) (by kernel_rfl) (fun _ _ _ h => h) (.inl ⟨by rfl, ?_⟩) (by assumption) ?_
              · intro W hW; go_simp
              try simp only [List.getElem_toArray, List.getElem_cons_zero, List.getElem_cons_succ, Act.put, List.setIfInBounds_toArray, List.set_cons_zero, List.set_cons_succ]
              refine wpAnyH_take (i := 15) (v := .agg (EO.cells o).toArray) rfl (by kernel_rfl) (by kernel_rfl) (by kernel_rfl) (fun _ _ _ h => h) (gyields_load TO (by rfl) (.tmp 112) rfl xb (xo + m * 5) rfl (fun U hU => XR.out U hU)) (by assumption) ?_
              try simp only [List.getElem_toArray, List.getElem_cons_zero, List.getElem_cons_succ, Act.put, List.setIfInBounds_toArray, List.set_cons_zero, List.set_cons_succ]
              refine wpAnyH_take (i := 16) (v := .bool false) rfl (by kernel_rfl) (by kernel_rfl) (by kernel_rfl) (fun _ _ _ h => h) (yields_same11 (by rfl) (.tmp 105) (.tmp 113) rfl OO.out rfl rfl) (by assumption) ?_
              try simp only [List.getElem_toArray, List.getElem_cons_zero, List.getElem_cons_succ, Act.put, List.setIfInBounds_toArray, List.set_cons_zero, List.set_cons_succ]
              refine wpAnyH_done (by decide +kernel) ?_ _
              go_wp2_with fail
              go_roundw
              case rel => exact ⟨m + 1, hlt2, by go_num, BI.out.trans (hH.mono BI.out.size)⟩
              case measure => simp [intOf]; omega
end Go.Proofs.Ytcpcnjiphiokjaa
