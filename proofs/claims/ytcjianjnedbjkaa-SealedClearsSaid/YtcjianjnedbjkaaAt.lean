/- SealedFair, walked. -/
import Derived.Test.YtcjianjnedbjkaaAs
import Derived.Deep.Cut
import Derived.Deep.CutRange
namespace Go.Proofs.Ytcjianjnedbjkaa
open Go.RowKit Go.Shelf
set_option linter.unusedVariables false
set_option linter.unusedSimpArgs false

/-- Fifty numbers in a block. -/
def arr8 (v : Nat → Int) : Array Value := ((List.range 50).map fun j => Value.int .i64 (v j)).toArray
theorem arr_at8 (v : Nat → Int) {j : Nat} (h : j < 50) : (arr8 v)[j]? = some (.int .i64 (v j)) := by simp [arr8, h]
theorem arr_set8 (v : Nat → Int) {j : Nat} (h : j < 50) (a : Int) : (arr8 v).setIfInBounds j (.int .i64 a) = arr8 (fun t => if t = j then a else v t) := by
  apply Array.ext_getElem?
  intro t
  rw [Array.getElem?_setIfInBounds]
  rcases Nat.lt_or_ge t 50 with c | c
  · rw [arr_at8 _ c, arr_at8 _ c]
    by_cases e : t = j
    · subst e; simp [arr8, h]
    · simp [e, Ne.symm e]
  · simp [arr8, Nat.not_lt.2 c]
    omega
theorem zero_arr8 (w : World) : (zeroValue 34).run Try.prog w = .ok (.agg (arr8 fun _ => 0)) w := by kernel_rfl
def AB8 (w : World) (g : Nat) (v : Nat → Int) : Prop := w.heap[g]? = some (.cells (arr8 v) 34 (0, 0))
theorem ab_cell8 {w : World} {g : Nat} {v : Nat → Int} (h : AB8 w g v) {j : Nat} (hj : j < 50) : w.cell? ⟨g, j, none⟩ = some (.int .i64 (v j)) := by
  rw [cell_of_row _ _ _ _ _ _ h, arr_at8 v hj]
theorem ab_fz8 {w : World} {g : Nat} {v : Nat → Int} (h : AB8 w g v) (j : Nat) : w.frozen? ⟨g, j, none⟩ = false := by simp [World.frozen?, show w.heap[g]? = _ from h]
theorem ab_set8 {w : World} {g : Nat} {v : Nat → Int} (h : AB8 w g v) {j : Nat} (hj : j < 50) (a : Int) : AB8 (w.setCell ⟨g, j, none⟩ (.int .i64 a)) g (fun t => if t = j then a else v t) := by
  unfold AB8
  rw [heap_setCell_same w g j _ _ _ h, arr_set8 v hj]
theorem sum_take8 {α : Type} (g : α → Int) : ∀ {l : List α} (k : Nat), (∀ x, x ∈ l → 0 ≤ g x) → 0 ≤ ((l.take k).map g).sum ∧ ((l.take k).map g).sum ≤ (l.map g).sum
  | [], k, _ => by simp
  | x :: r, 0, h => by
    have := (sum_take8 g (l := r) r.length fun y hy => h y (List.mem_cons_of_mem _ hy)).1
    rw [List.take_length] at this
    have hx := h x (List.mem_cons_self ..)
    simp only [List.take_zero, List.map_nil, List.sum_nil, List.map_cons, List.sum_cons]
    omega
  | x :: r, k + 1, h => by
    have := sum_take8 g (l := r) k fun y hy => h y (List.mem_cons_of_mem _ hy)
    have hx := h x (List.mem_cons_self ..)
    simp only [List.take_succ_cons, List.map_cons, List.sum_cons]
    omega
theorem sum_snoc8 {α : Type} (g : α → Int) {l : List α} {k : Nat} {x : α} (h : l[k]? = some x) : ((l.take (k + 1)).map g).sum = ((l.take k).map g).sum + g x := by
  rw [List.take_add_one, h]; simp
theorem sum_bd8 {α : Type} (g : α → Int) (M : Int) : ∀ {l : List α}, (∀ x, x ∈ l → g x ≤ M) → (l.map g).sum ≤ M * l.length
  | [], _ => by simp
  | x :: r, h => by
    have ih := sum_bd8 g M (l := r) fun y hy => h y (List.mem_cons_of_mem _ hy)
    have hx := h x (List.mem_cons_self ..)
    rw [List.map_cons, List.sum_cons, List.length_cons]
    have : M * ((r.length + 1 : Nat) : Int) = M * r.length + M := by rw [Int.natCast_succ, Int.mul_add, Int.mul_one]
    omega
def oneG (x : Or) (t : Fl) : Int := if t.nu == x.nu then t.qt else 0
theorem gotC_eq (f : List Fl) (x : Or) : gotC f x = (f.map (oneG x)).sum := rfl
theorem grd_fr8 {α : Type} {E : Elt α} {w W W' : World} {A : Option Addr} {n g : Nat} {l : List α} (h : E.Rd w A n l) (q : Below w.heap.size w W) (f : Fr (fun k => k = g) W W') (hg : w.heap.size ≤ g) : E.Rd W' A n l :=
  grd_below h (below_fr8 q f (fun k hk => by subst hk; exact hg) q.size) (Nat.le_refl _)
/-- What each of the first k bids got. -/
def gv8 (f : List Fl) (l : List Or) (k t : Nat) : Int := match l[t]? with | some x => if t < k then gotC f x else 0 | none => 0
theorem gv_zero8 (f : List Fl) (l : List Or) : gv8 f l 0 = fun _ => 0 := by
  funext t
  unfold gv8
  cases l[t]? <;> simp
theorem gv_at8 {f : List Fl} {l : List Or} {k t : Nat} {x : Or} (h : l[t]? = some x) (ht : t < k) : gv8 f l k t = gotC f x := by
  unfold gv8
  rw [h]
  simp [ht]
theorem gv_step8 {f : List Fl} {l : List Or} {k : Nat} {x : Or} (h : l[k]? = some x) : (fun t => if t = k then gotC f x else gv8 f l k t) = gv8 f l (k + 1) := by
  funext t
  by_cases e : t = k
  · subst e
    rw [if_pos rfl, gv_at8 h (Nat.lt_succ_self _)]
  · rw [if_neg e]
    unfold gv8
    cases l[t]? with
    | none => rfl
    | some y =>
      show (if t < k then _ else _) = if t < k + 1 then _ else _
      by_cases c : t < k
      · rw [if_pos c, if_pos (by omega)]
      · rw [if_neg c, if_neg (by omega)]
theorem gv_none8 {f : List Fl} {l : List Or} {k : Nat} : (fun t => if t = k then gotC (f.take 0) (zeroOr) else gv8 f l k t) = gv8 f l k := by
  funext t
  by_cases e : t = k
  · subst e
    rw [if_pos rfl]
    unfold gv8
    cases l[t]? <;> simp [gotC]
  · rw [if_neg e]
theorem got_take8 {f : List Fl} {x : Or} (k : Nat) (h : ∀ t, t ∈ f → 0 ≤ t.qt) : 0 ≤ gotC (f.take k) x ∧ gotC (f.take k) x ≤ gotC f x :=
  sum_take8 (oneG x) k fun t ht => by unfold oneG; split; exact h t ht; exact Int.le_refl _
theorem got_snoc8 {f : List Fl} {x : Or} {k : Nat} {t : Fl} (h : f[k]? = some t) : gotC (f.take (k + 1)) x = gotC (f.take k) x + (if t.nu == x.nu then t.qt else 0) := sum_snoc8 (oneG x) h
theorem min_eq8 (a b : Int) : min a b = minC a b := by
  unfold minC
  rw [Int.min_def]
  split <;> split <;> omega
set_option maxRecDepth 100000 in
set_option maxHeartbeats 16000000 in
theorem fair8_all (K : ClearK) (b : Bool) (q : Int) (A : Option Addr) (n c : Nat) (l : List Or) (w : World) (h : EO.Rd w A n l) (hok : ∀ x, x ∈ l → x.ok) (h0 : A = none → c = 0) (hn : n ≤ maxLen) (hq : I64' q) :
    Calls Try.prog 4 #[.bool b, .int .i64 q, .slice A n c] w fun e w' => e = .returned (.bool true) ∧ Below w.heap.size w w' := by
  have KN := Lib.hid (fun W => known8 K W)
  have KL := Lib.hid (K b q A n c l w h hok h0 hn hq)
  have HR := Lib.hid h
  have HK := Lib.hid hok
  have HL := Lib.hid h.1
  unfold maxLen at hn
  obtain ⟨f1, hf1⟩ : ∃ f, clrF b q l = f := ⟨_, rfl⟩
  obtain ⟨p1, hp1⟩ : ∃ f, clrP b q l = f := ⟨_, rfl⟩
  obtain ⟨e1, he1⟩ : ∃ f, clrA b q l = f := ⟨_, rfl⟩
  rw [hf1, hp1, he1] at KL
  have H1 := Lib.hid (And.intro hf1 (And.intro hp1 he1))
  clear h hok h0 hq K hf1 hp1 he1
  go_enter Try.func4, Try.ntmps4
  go_wp2_with fail
  refine KL.out.mono ?_; rintro e w7 ⟨v1, rfl, o1, q1⟩
  have O1 := Lib.hid o1
  have Q1 := Lib.hid q1
  clear q1 o1 KL
  have KNOWN := Lib.hid (fun U (qU : Below w.heap.size w U) => (KN.out U).mono (fun e W h => (⟨h.1, qU.trans (h.2.mono qU.size)⟩ : e = .returned (.bool true) ∧ Below w.heap.size w W)))
  obtain ⟨A6, c6, rfl, _⟩ := gown_form O1.out
  by_cases z1 : e1 = 0
  case neg =>
    have z1b : (e1 == 0) = false := by simpa using z1
    have hno : ¬ OkC b q l := fun k => z1 (by rw [← H1.out.2.2]; exact (clr_ok k).1)
    obtain ⟨_, g2, g3⟩ := clr_no hno
    have hp0 : p1 = 0 := by rw [← H1.out.2.1, g2]
    have hf0 : f1 = [] := by rw [← H1.out.1, g3]
    subst hp0 hf0
    have z1c : (e1 != 0) = true := by simpa using z1
    clear hno g2 g3
    go_wp2_with fail
    refine (KNOWN.out _ Q1.out).mono ?_; rintro e w8 ⟨rfl, q8⟩
    have Q8 := Lib.hid q8
    clear q8
    go_wp2_with fail
    go_ret
    exact ⟨rfl, Q8.out⟩
  subst z1
  have hok' : OkC b q l := ok_of H1.out.2.2
  have OKC := Lib.hid hok'
  have hn50 : n ≤ 50 := by rw [← HL.out]; exact hok'.len
  have d50 : decide ((50 : Int) < (n : Int)) = false := decide_eq_false (by omega)
  have FA := Lib.hid (clr_fair hok')
  have PO := Lib.hid (clr_pos8 hok')
  rw [H1.out.1] at FA PO
  rw [H1.out.2.1] at FA
  clear hok'
  have G0 : Hid (∀ x, 0 ≤ gotC f1 x) := Lib.hid fun x => by
    rw [gotC_eq]
    have := (sum_take8 (oneG x) (l := f1) f1.length fun t ht => by unfold oneG; split; exact PO.out t ht; exact Int.le_refl _).1
    rwa [List.take_length] at this
  have hz := zero_arr8
  have A8 : Hid (AB8 (w7.alloc (.cells (arr8 fun _ => 0) 34)) w7.heap.size (fun _ => 0)) := Lib.hid (heap_alloc_new w7 _)
  have B8 := Lib.hid (below_new w7 (.cells (arr8 fun _ => 0) 34))
  obtain ⟨w8, hw8⟩ : ∃ w8, w7.alloc (.cells (arr8 fun _ => 0) 34) = w8 := ⟨_, rfl⟩
  rw [hw8] at A8 B8
  have HW8 := Lib.hid hw8
  have Q8 := Lib.hid (Q1.out.trans (B8.out.mono Q1.out.size))
  have HRF := Lib.hid fun (W : World) (f : Fr (fun k => k = w7.heap.size) w8 W) => (show EO.Rd W A n l from grd_fr8 HR.out Q8.out f Q1.out.size)
  have HOF := Lib.hid fun (W : World) (f : Fr (fun k => k = w7.heap.size) w8 W) => (show EF.Own 36 W w.heap.size (.slice A6 f1.length c6) f1 from gown_fr (gown_below O1.out B8.out) f (fun k hk e => by have := (gown_lt O1.out hk).2; omega))
  clear hw8
  go_wp2_with (rw [HW8.out])
  go_loopw [10, 11, 49] (fun va vs i wr => ∃ k : Nat, k ≤ n ∧ i = .int .i64 k ∧ va = .int .i64 (sumC (l.take k)) ∧ vs = .int .i64 (((l.take k).map (gotC f1)).sum) ∧ AB8 wr w7.heap.size (gv8 f1 l k) ∧ Fr (fun k => k = w7.heap.size) w8 wr) (fun _ _ i _ => n - (intOf i).toNat)
  case atStart => exact ⟨0, Nat.zero_le _, rfl, rfl, rfl, by rw [gv_zero8]; exact A8.out, Fr.refl _ _⟩
  case round =>
    obtain ⟨k, hk, rfl, rfl, rfl, hA, hF⟩ := hrel
    by_cases hlt : k < n
    case pos =>
      have hdk : decide ((k : Int) < n) = true := decide_eq_true (by omega)
      have hki : (k : Int) < (n : Int) := by omega
      obtain ⟨x, hx⟩ : ∃ x, l[k]? = some x := ⟨l[k]'(by have := HL.out; omega), List.getElem?_eq_getElem _⟩
      obtain ⟨g1, g2, g3⟩ := FA.out.2.1 x (List.mem_of_getElem? hx)
      have mx := may_pos (OKC.out.may x (List.mem_of_getElem? hx)).1
      obtain ⟨m1, m2, m3, m4⟩ := mx
      obtain ⟨bb, o, rfl, rg⟩ := grd_rng (HRF.out wr hF) hx
      have hN5 : EO.N = 5 := rfl
      rw [hN5] at rg
      have s1 := sum_snoc8 (fun x : Or => x.le) hx
      have s2 := (sum_take8 (fun x : Or => x.le) (l := l) k (fun y hy => Int.le_of_lt (OKC.out.pos y hy)))
      have s3 := sum_bd8 (fun x : Or => x.le) 1000000 (l := l) (fun y hy => (may_pos (OKC.out.may y hy).1).2.1)
      have t1 := sum_snoc8 (gotC f1) hx
      have t2 := (sum_take8 (gotC f1) (l := l) k (fun y hy => G0.out y))
      have t3 := FA.out.1
      have t4 : minC (sumC l) q ≤ q ∧ q ≤ 10000000 := ⟨by unfold minC; split <;> omega, OKC.out.q2⟩
      have hl50 : l.length ≤ 50 := by have := HL.out; omega
      have wa : IntKind.i64.wrap (sumC (l.take k) + x.le) = sumC (l.take k) + x.le := by
        rw [IntKind.wrap_i64]
        have e : sumC (l.take k) = ((l.take k).map (fun x : Or => x.le)).sum := rfl
        omega
      have ws : IntKind.i64.wrap (((l.take k).map (gotC f1)).sum + gotC f1 x) = ((l.take k).map (gotC f1)).sum + gotC f1 x := by
        rw [IntKind.wrap_i64]; omega
      have SA : Hid (sumC (l.take (k + 1)) = sumC (l.take k) + x.le) := Lib.hid s1
      have SB := Lib.hid t1
      have HX := Lib.hid hx
      have HG := Lib.hid (And.intro g1 (And.intro g2 g3))
      have HM := Lib.hid (And.intro m1 (And.intro m2 (And.intro m3 m4)))
      have G := Lib.hid rg
      have hB4 : wr.cell? ⟨bb, o + k * 5 + 4, none⟩ = some (.int .i64 x.le) := rg 4 _ rfl
      have HA := Lib.hid hA
      have HF := Lib.hid hF
      clear s1 s2 s3 t1 t2 t3 t4 hx g1 g2 g3 m1 m2 m3 m4 hA hF rg hN5
      obtain ⟨SL, hSL⟩ : ∃ z, sumC (l.take k) = z := ⟨_, rfl⟩
      obtain ⟨SG, hSG⟩ : ∃ z, ((l.take k).map (gotC f1)).sum = z := ⟨_, rfl⟩
      rw [hSL] at wa SA ⊢
      rw [hSG] at ws SB ⊢
      clear hSL hSG
      go_wp2_with fail
      go_loopw [61] (fun i wi => ∃ j : Nat, j ≤ f1.length ∧ i = .int .i64 j ∧ AB8 wi w7.heap.size (fun t => if t = k then gotC (f1.take j) x else gv8 f1 l k t) ∧ Fr (fun k => k = w7.heap.size) w8 wi) (fun i _ => f1.length - (intOf i).toNat)
      case atStart => exact ⟨0, Nat.zero_le _, rfl, by rw [show gotC (f1.take 0) x = gotC (f1.take 0) zeroOr from rfl, gv_none8]; exact HA.out, HF.out⟩
      case round =>
        obtain ⟨j, hj, rfl, hA2, hF2⟩ := hrel
        clear hB4
        by_cases hlt2 : j < f1.length
        case pos =>
          have hd2 : decide ((j : Int) < (f1.length : Int)) = true := decide_eq_true (by omega)
          obtain ⟨t, ht⟩ : ∃ t, f1[j]? = some t := ⟨f1[j], List.getElem?_eq_getElem hlt2⟩
          have O2 := HOF.out wr hF2
          obtain ⟨bf, cf, eb⟩ := gown_slot O2 (by omega)
          injection eb with eA _ ec
          subst eA ec
          have hcap := gown_cap O2
          have hf0 := gown_at O2 ht (i := 0) (by decide)
          have hf2 := gown_at O2 ht (i := 2) (by decide)
          have ec0 : (EF.cells t)[0]? = some (.int .u64 t.nu) := rfl
          have ec2 : (EF.cells t)[2]? = some (.int .i64 t.qt) := rfl
          have eN : EF.N = 3 := rfl
          rw [ec0, eN, Nat.add_zero] at hf0
          rw [ec2, eN] at hf2
          have rg2 := (grd_rng (HRF.out wr hF2) HX.out)
          obtain ⟨b2, o2, eb2, rg2⟩ := rg2
          cases eb2
          have hb0 : wr.cell? ⟨bb, o + k * 5, none⟩ = some (.int .u64 x.nu) := by have := rg2 0 _ rfl; rwa [Nat.add_zero] at this
          have hg := ab_cell8 hA2 (j := k) (by omega)
          rw [if_pos rfl] at hg
          have hfz := ab_fz8 hA2 k
          have sn := got_snoc8 (x := x) ht
          have tk1 := got_take8 (x := x) (j + 1) PO.out
          have tk2 := HG.out.2.1
          have tk3 := HM.out
          have tk4 := got_take8 (x := x) j PO.out
          have SET : Hid (∀ U, AB8 U w7.heap.size (fun t => if t = k then gotC (f1.take j) x else gv8 f1 l k t) → Fr (fun k => k = w7.heap.size) w8 U → AB8 (U.setCell ⟨w7.heap.size, k, none⟩ (.int .i64 (gotC (f1.take (j + 1)) x))) w7.heap.size (fun t => if t = k then gotC (f1.take (j + 1)) x else gv8 f1 l k t) ∧ Fr (fun k => k = w7.heap.size) w8 (U.setCell ⟨w7.heap.size, k, none⟩ (.int .i64 (gotC (f1.take (j + 1)) x)))) := Lib.hid fun U a f => by
            have := ab_set8 a (j := k) (by omega) (gotC (f1.take (j + 1)) x)
            refine ⟨?_, f.same (Fr.set (S := fun k => k = w7.heap.size) (p := ⟨w7.heap.size, k, none⟩) rfl _)⟩
            have e : (fun t => if t = k then gotC (f1.take (j + 1)) x else if t = k then gotC (f1.take j) x else gv8 f1 l k t) = fun t => if t = k then gotC (f1.take (j + 1)) x else gv8 f1 l k t := by
              funext t
              by_cases c : t = k <;> simp [c]
            rwa [e] at this
          have HA2 := Lib.hid hA2
          have HF2 := Lib.hid hF2
          cases e : (t.nu == x.nu)
          · rw [e] at sn
            have sn' : gotC (f1.take (j + 1)) x = gotC (f1.take j) x := by simpa using sn
            have SN := Lib.hid sn'
            clear sn sn' tk1 tk2 tk3 tk4 hA2 hF2 O2 ht ec0 ec2 eN rg2 hfz
            go_wp2
            go_quiet (fail)
            go_wp2
            go_roundw
            case rel => exact ⟨j + 1, hlt2, by go_num, by rw [SN.out]; exact HA2.out, HF2.out.drewN _⟩
            case measure => simp [intOf]; omega
          · rw [e] at sn
            have sn' : gotC (f1.take (j + 1)) x = gotC (f1.take j) x + t.qt := by simpa using sn
            have wq : IntKind.i64.wrap (gotC (f1.take j) x + t.qt) = gotC (f1.take (j + 1)) x := by rw [IntKind.wrap_i64]; omega
            clear sn sn' tk1 tk2 tk3 tk4 hA2 hF2 O2 ht ec0 ec2 eN rg2
            go_wp2
            go_quiet (fail)
            go_wp2
            go_region
            all_goals go_wp2
            all_goals go_roundw
            case rel => exact ⟨j + 1, hlt2, by go_num, (SET.out (wr.drewN _) HA2.out (HF2.out.drewN _)).1, (SET.out (wr.drewN _) HA2.out (HF2.out.drewN _)).2⟩
            case measure => simp [intOf]; omega
        case neg =>
          obtain rfl : j = f1.length := by omega
          have ht0 := HG.out
          rw [List.take_length, gv_step8 HX.out] at hA2
          have hg := ab_cell8 hA2 (j := k) (by omega)
          rw [gv_at8 HX.out (Nat.lt_succ_self _)] at hg
          obtain ⟨b2, o2, eb2, rg2⟩ := grd_rng (HRF.out wr hF2) HX.out
          cases eb2
          have hb3 : wr.cell? ⟨bb, o + k * 5 + 3, none⟩ = some (.int .i64 x.pr) := rg2 3 _ rfl
          have hb4 : wr.cell? ⟨bb, o + k * 5 + 4, none⟩ = some (.int .i64 x.le) := rg2 4 _ rfl
          have HA2 := Lib.hid hA2
          have HF2 := Lib.hid hF2
          clear hA2 hF2 rg2
          obtain ⟨GG, hGG⟩ : ∃ z, gotC f1 x = z := ⟨_, rfl⟩
          rw [hGG] at ht0 hg ws SB
          clear hGG
          obtain ⟨u1, u2, u3⟩ := ht0
          have d1 : decide (GG < 0) = false := decide_eq_false (by omega)
          have d2 : decide (x.le < GG) = false := decide_eq_false (by omega)
          have FIN : Hid (∀ U, AB8 U w7.heap.size (gv8 f1 l (k + 1)) → Fr (fun k => k = w7.heap.size) w8 U → ∃ k', k' ≤ n ∧ Value.int .i64 ((k : Int) + 1) = .int .i64 (k' : Nat) ∧ Value.int .i64 (SL + x.le) = .int .i64 (sumC (l.take k')) ∧ Value.int .i64 (SG + GG) = .int .i64 (((l.take k').map (gotC f1)).sum) ∧ AB8 U w7.heap.size (gv8 f1 l k') ∧ Fr (fun k => k = w7.heap.size) w8 U) := Lib.hid fun U a f => ⟨k + 1, hlt, by go_num, by rw [SA.out], by rw [SB.out], a, f⟩
          cases d3 : decide (0 < GG)
          · clear u1 u2 u3
            go_wp2
            go_quiet (fail)
            go_wp2
            go_roundw
            case rel => exact FIN.out _ HA2.out (HF2.out.drewN _)
            case measure => simp [intOf]; omega
          · have u4 := u3 (of_decide_eq_true d3)
            cases b
            · have d4 : decide (p1 < x.pr) = false := by simpa [btr] using u4
              clear u1 u2 u3 u4
              go_wp2
              go_quiet (fail)
              go_wp2
              go_roundw
              case rel => exact FIN.out _ HA2.out (HF2.out.drewN _)
              case measure => simp [intOf]; omega
            · have d4 : decide (x.pr < p1) = false := by simpa [btr] using u4
              clear u1 u2 u3 u4
              go_wp2
              go_quiet (fail)
              go_wp2
              go_roundw
              case rel => exact FIN.out _ HA2.out (HF2.out.drewN _)
              case measure => simp [intOf]; omega
    case neg =>
      obtain rfl : k = n := by omega
      have et : l.take k = l := List.take_of_length_le (by rw [HL.out]; exact Nat.le_refl _)
      rw [et]
      have HMIN : Hid (min (sumC l) q = (l.map (gotC f1)).sum) := Lib.hid (by rw [min_eq8, FA.out.1])
      obtain ⟨SL, hSL⟩ : ∃ z, sumC l = z := ⟨_, rfl⟩
      obtain ⟨SG, hSG⟩ : ∃ z, (l.map (gotC f1)).sum = z := ⟨_, rfl⟩
      rw [hSL, hSG] at HMIN
      rw [hSL, hSG]
      have hmin := HMIN.out
      clear hSL hSG et HMIN
      have HRD := Lib.hid (HRF.out wr hF)
      have HB := Lib.hid (below_fr8 Q8.out hF (fun k hk => by subst hk; exact Q1.out.size) Q8.out.size)
      have HA := Lib.hid hA
      clear hA hF
      generalize wr = U0 at *
      have CELL := Lib.hid fun (W : World) (a : Addr) (v : Value) (f : Fr (fun _ : Nat => False) U0 W) (h : U0.cell? a = some v) => (show W.cell? a = some v from (World.cell?_of_block (f.at' a.block (World.block_lt_of_cell? U0 a h) (fun h => h))).trans h)
      go_wp2_with fail
      go_loopw [145] (fun i wi => ∃ i' : Nat, i' ≤ k ∧ i = .int .i64 i' ∧ Fr (fun _ : Nat => False) U0 wi) (fun i _ => k - (intOf i).toNat)
      case atStart => exact ⟨0, Nat.zero_le _, rfl, Fr.refl _ _⟩
      case round =>
        obtain ⟨i', hi', rfl, hf⟩ := hrel
        have F1 := Lib.hid hf
        clear hf
        by_cases hlt1 : i' < k
        case neg =>
          obtain rfl : i' = k := by omega
          go_wp2_with fail
          refine (KNOWN.out _ (below_fr8 HB.out F1.out (fun _ h => h.elim) HB.out.size)).mono ?_; rintro e w9 ⟨rfl, q9⟩
          have Q9 := Lib.hid q9
          clear q9
          go_wp2_with fail
          go_ret
          exact ⟨rfl, Q9.out⟩
        case pos =>
          have hd1 : decide ((i' : Int) < (k : Int)) = true := decide_eq_true (by omega)
          obtain ⟨x, hx⟩ : ∃ x, l[i']? = some x := ⟨l[i']'(by have := HL.out; omega), List.getElem?_eq_getElem _⟩
          obtain ⟨bb, o, rfl, rgx⟩ := grd_rng HRD.out hx
          have X3 := Lib.hid (show U0.cell? ⟨bb, o + i' * 5 + 3, none⟩ = some (.int .i64 x.pr) from rgx 3 _ rfl)
          have X4 := Lib.hid (show U0.cell? ⟨bb, o + i' * 5 + 4, none⟩ = some (.int .i64 x.le) from rgx 4 _ rfl)
          have XG := Lib.hid (ab_cell8 HA.out (j := i') (by omega))
          rw [gv_at8 hx (by omega)] at XG
          have HX := Lib.hid hx
          clear hx rgx
          go_wp2_with fail
          go_loopw [150] (fun i wi => ∃ j : Nat, j ≤ k ∧ i = .int .i64 j ∧ Fr (fun _ : Nat => False) U0 wi) (fun i _ => k - (intOf i).toNat)
          case atStart => exact ⟨0, Nat.zero_le _, rfl, F1.out⟩
          case round =>
            obtain ⟨j, hj, rfl, hf⟩ := hrel
            have F2 := Lib.hid hf
            by_cases hlt2 : j < k
            case neg =>
              obtain rfl : j = k := by omega
              clear hf
              go_wp2_with fail
              go_roundw
              case rel => exact ⟨i' + 1, hlt1, by go_num, F2.out⟩
              case measure => simp [intOf]; omega
            case pos =>
              have hd2 : decide ((j : Int) < (k : Int)) = true := decide_eq_true (by omega)
              obtain ⟨y, hy⟩ : ∃ y, l[j]? = some y := ⟨l[j]'(by have := HL.out; omega), List.getElem?_eq_getElem _⟩
              obtain ⟨b2, o2, eb2, rgy⟩ := grd_rng HRD.out hy
              cases eb2
              have x3 := CELL.out wr _ _ hf X3.out
              have y3 := CELL.out wr _ _ hf (show U0.cell? ⟨bb, o + j * 5 + 3, none⟩ = some (.int .i64 y.pr) from rgy 3 _ rfl)
              have YG := Lib.hid (ab_cell8 HA.out (j := j) (by omega))
              rw [gv_at8 hy (by omega)] at YG
              have NO := Lib.hid (FA.out.2.2 i' j x y HX.out hy)
              obtain ⟨ws, hws⟩ : ∃ ws, (btr b x.pr y.pr || (y.pr == x.pr && decide (i' < j))) = ws := ⟨_, rfl⟩
              have HWS := Lib.hid hws
              clear rgy hy hf
              go_upto_region 28 with fail
              go_cut [17] from 153 to 201 (fun v wx => v = .bool ws ∧ Fr (fun _ : Nat => False) U0 wx)
              case first =>
                unfold btr at hws
                cases b
                · cases d1 : decide (x.pr < y.pr)
                  · cases d2 : (y.pr == x.pr)
                    · have hws : false = ws := by simpa [d1, d2] using hws
                      subst hws
                      go_wp2
                      go_quiet (fail)
                      go_wp2
                      go_meet
                      case rel => exact ⟨rfl, F2.out.drewN _⟩
                    · cases d3 : decide (i' < j)
                      · have hws : false = ws := by rw [d1, d2, d3] at hws; simpa using hws
                        subst hws
                        go_wp2
                        go_quiet (fail)
                        go_wp2
                        go_meet
                        case rel => exact ⟨rfl, F2.out.drewN _⟩
                      · have hws : true = ws := by rw [d1, d2, d3] at hws; simpa using hws
                        subst hws
                        go_wp2
                        go_quiet (fail)
                        go_wp2
                        go_meet
                        case rel => exact ⟨rfl, F2.out.drewN _⟩
                  · have hws : true = ws := by simpa [d1] using hws
                    subst hws
                    go_wp2
                    go_quiet (fail)
                    go_wp2
                    go_meet
                    case rel => exact ⟨rfl, F2.out.drewN _⟩
                · cases d1 : decide (y.pr < x.pr)
                  · cases d2 : (y.pr == x.pr)
                    · have hws : false = ws := by simpa [d1, d2] using hws
                      subst hws
                      go_wp2
                      go_quiet (fail)
                      go_wp2
                      go_meet
                      case rel => exact ⟨rfl, F2.out.drewN _⟩
                    · cases d3 : decide (i' < j)
                      · have hws : false = ws := by rw [d1, d2, d3] at hws; simpa using hws
                        subst hws
                        go_wp2
                        go_quiet (fail)
                        go_wp2
                        go_meet
                        case rel => exact ⟨rfl, F2.out.drewN _⟩
                      · have hws : true = ws := by rw [d1, d2, d3] at hws; simpa using hws
                        subst hws
                        go_wp2
                        go_quiet (fail)
                        go_wp2
                        go_meet
                        case rel => exact ⟨rfl, F2.out.drewN _⟩
                  · have hws : true = ws := by simpa [d1] using hws
                    subst hws
                    go_wp2
                    go_quiet (fail)
                    go_wp2
                    go_meet
                    case rel => exact ⟨rfl, F2.out.drewN _⟩
              case rest =>
                obtain ⟨rfl, hf⟩ := hcut
                have F3 := Lib.hid hf
                have x4 := CELL.out wc _ _ hf X4.out
                have xg := CELL.out wc _ _ hf XG.out
                have yg := CELL.out wc _ _ hf YG.out
                clear hf hws x3 y3
                cases ws
                · go_wp2
                  go_quiet (fail)
                  go_wp2
                  go_roundw
                  case rel => exact ⟨j + 1, hlt2, by go_num, F3.out.drewN _⟩
                  case measure => simp [intOf]; omega
                · cases d1 : decide (gotC f1 x < x.le)
                  · go_wp2
                    go_quiet (fail)
                    go_wp2
                    go_roundw
                    case rel => exact ⟨j + 1, hlt2, by go_num, F3.out.drewN _⟩
                    case measure => simp [intOf]; omega
                  · have hz : gotC f1 y = 0 := NO.out (by
                      have h := HWS.out
                      rw [Bool.or_eq_true, Bool.and_eq_true] at h
                      refine h.imp id fun h => ⟨beq_iff_eq.1 h.1, ?_⟩
                      exact of_decide_eq_true h.2) (of_decide_eq_true d1)
                    rw [hz] at yg
                    clear hz
                    go_wp2
                    go_quiet (fail)
                    go_wp2
                    go_roundw
                    case rel => exact ⟨j + 1, hlt2, by go_num, F3.out.drewN _⟩
                    case measure => simp [intOf]; omega
end Go.Proofs.Ytcjianjnedbjkaa
