/- ScanTurned, walked (by genTp.py). -/
import Derived.Test.YtgihmkdmcpcbeaaTn
import Derived.Deep.RegionHeld
namespace Go.Proofs.Ytgihmkdmcpcbeaa
open Go.RowKit Go.Shelf
set_option linter.unusedVariables false
set_option linter.unusedSimpArgs false

/-- Turned up to a shift. -/
def tk10 (x : Lq) (k : Nat) : Lq := ⟨{ x.sp with sh := (neg10 x.sp.sh).take k ++ x.sp.sh.drop k }, -x.q, by
  show ((neg10 x.sp.sh).take k ++ x.sp.sh.drop k).length = 16
  have := x.len
  rw [List.length_append, List.length_take, List.length_drop, neg10, List.length_map]; omega⟩
theorem tk_zero10 (x : Lq) : tk10 x 0 = ⟨x.sp, -x.q, x.len⟩ := by
  unfold tk10
  congr 1
theorem tk_all10 (x : Lq) : tk10 x 16 = tn10 x := by
  unfold tk10 tn10
  have h1 : (neg10 x.sp.sh).take 16 = neg10 x.sp.sh := List.take_of_length_le (by unfold neg10; rw [List.length_map, x.len]; exact Nat.le_refl _)
  have h2 : x.sp.sh.drop 16 = [] := List.drop_of_length_le (by rw [x.len]; exact Nat.le_refl _)
  congr 1
  rw [h1, h2, List.append_nil]
theorem part_get10 {l : List Int} (hl : l.length = 16) {k : Nat} (hk : k < 16) : ((neg10 l).take k ++ l.drop k).getD k 0 = l.getD k 0 := by
  have h1 : ((neg10 l).take k).length = k := by rw [List.length_take, neg10, List.length_map]; omega
  unfold List.getD
  rw [List.getElem?_append_right (by omega), h1, Nat.sub_self, List.getElem?_drop]
  rfl
theorem part_set10 {l : List Int} (hl : l.length = 16) {k : Nat} (hk : k < 16) : ((neg10 l).take k ++ l.drop k).set k (-l.getD k 0) = (neg10 l).take (k + 1) ++ l.drop (k + 1) := by
  have h1 : ((neg10 l).take k).length = k := by rw [List.length_take, neg10, List.length_map]; omega
  have hkl : k < l.length := by omega
  rw [List.set_append_right _ _ (by omega), h1, Nat.sub_self, List.drop_eq_getElem_cons hkl, List.set_cons_zero, List.take_add_one]
  have e : (neg10 l)[k]?.toList = [-l.getD k 0] := by
    unfold neg10
    rw [List.getElem?_map, List.getElem?_eq_getElem hkl]
    simp [List.getD, hkl]
  rw [e, List.append_assoc]; rfl
theorem lq_set10 {x : Lq} {k : Nat} (hk : k < 16) (v : Int) {y : Lq} (hy : y.sp = { x.sp with sh := x.sp.sh.set k v }) (hq : y.q = x.q) : EL.cells y = (EL.cells x).set (6 + k) (.int .i64 v) := by
  have hl := x.len
  show y.sp.cellL ++ [Value.int .i64 y.q] = (x.sp.cellL ++ [Value.int .i64 x.q]).set (6 + k) (.int .i64 v)
  rw [hy, hq, List.set_append_left _ _ (by rw [sp_lenL hl]; omega)]
  congr 1
  unfold Sp.cellL
  dsimp only
  rw [List.set_append_right _ _ (by simp), List.set_append_left _ _ (by simp [hl]; omega)]
  congr 2
  rw [List.map_set]
  congr 1
  simp
theorem tk_next10 {x : Lq} {k : Nat} (hk : k < 16) : EL.cells (tk10 x (k + 1)) = (EL.cells (tk10 x k)).set (6 + k) (.int .i64 (-(x.sp.sh.getD k 0))) :=
  lq_set10 hk _ (by
    unfold tk10
    dsimp only
    rw [part_set10 x.len hk]) rfl
theorem lq_setq10 (x : Lq) (v : Int) : EL.cells ⟨x.sp, v, x.len⟩ = (EL.cells x).set 25 (.int .i64 v) := by
  show x.sp.cellL ++ [Value.int .i64 v] = (x.sp.cellL ++ [Value.int .i64 x.q]).set 25 (.int .i64 v)
  rw [List.set_append_right _ _ (by rw [sp_lenL x.len]; omega), sp_lenL x.len]; rfl
/-- The row: so many turned, one on its way. -/
def ro10 (l : List Lq) (i : Nat) : List Lq := (l.take i).map tn10 ++ l.drop i
theorem ro_at10 {l : List Lq} {i : Nat} {x : Lq} (h : l[i]? = some x) : (ro10 l i)[i]? = some x := by
  have hi := (List.getElem?_eq_some_iff.1 h).1
  have h1 : ((l.take i).map tn10).length = i := by rw [List.length_map, List.length_take]; omega
  unfold ro10
  rw [List.getElem?_append_right (by omega), h1, Nat.sub_self, List.getElem?_drop]
  exact h
theorem ro_set10 {l : List Lq} {i : Nat} {x : Lq} (h : l[i]? = some x) : (ro10 l i).set i (tn10 x) = ro10 l (i + 1) := by
  have hi := (List.getElem?_eq_some_iff.1 h).1
  have h1 : ((l.take i).map tn10).length = i := by rw [List.length_map, List.length_take]; omega
  unfold ro10
  rw [List.set_append_right _ _ (by omega), h1, Nat.sub_self, List.drop_eq_getElem_cons hi, List.set_cons_zero, take_l10 h, List.map_append, List.append_assoc]; rfl
theorem ro_len10 (l : List Lq) (i : Nat) : (ro10 l i).length = l.length := by
  unfold ro10
  rw [List.length_append, List.length_map, List.length_take, List.length_drop]; omega
theorem ro_setat10 {l : List Lq} {i : Nat} {x y : Lq} (h : l[i]? = some x) : ((ro10 l i).set i y)[i]? = some y := by
  have hi := (List.getElem?_eq_some_iff.1 h).1
  rw [List.getElem?_set_self (by rw [ro_len10]; exact hi)]
/-- What is not too small to be turned. -/
def Tb10 (x : Lq) : Prop := -10000000 ≤ x.q ∧ ∀ s, s ∈ x.sp.sh → -10000000 ≤ s
theorem tn_ok10 {x : Lq} (ok : x.ok) (h : Tb10 x) : (tn10 x).ok := by
  have o := ok.sp
  have oq := ok.q
  unfold I64 at oq
  refine ⟨⟨o.nu, o.ro, o.ti, o.lo, o.ba, o.li, (tn10 x).len, fun s hs => ?_, o.cr, o.la, o.fi⟩, ?_⟩
  · obtain ⟨t, ht, rfl⟩ := List.mem_map.1 hs
    have h1 := o.sh t ht
    have h2 := h.2 t ht
    unfold I64 at h1 ⊢
    omega
  · show I64 (-x.q)
    have := h.1
    unfold I64
    omega
set_option maxRecDepth 100000 in
set_option maxHeartbeats 8000000 in
theorem turned10_all (A : Option Addr) (n c : Nat) (l : List Lq) (w : World) (h : EL.Rd w A n l) (hok : ∀ x, x ∈ l → x.ok) (hn : n ≤ maxLen) (h0 : A = none → c = 0) :
    Calls Try.prog 7 #[.slice A n c] w fun e w' => e = .returned (.bool true) ∧ Below w.heap.size w w' := by
  have KN := Lib.hid fun (U : World) (qU : Below w.heap.size w U) => (known10 U).mono (fun e W h => (⟨h.1, qU.trans (h.2.mono qU.size)⟩ : e = .returned (.bool true) ∧ Below w.heap.size w W))
  have HR := Lib.hid fun (W : World) (q : Below w.heap.size w W) => (show EL.Rd W A n l from grd_below h q (Nat.le_refl _))
  have HK := Lib.hid hok
  have HL := Lib.hid h.1
  have H0 := Lib.hid h0
  have HN := Lib.hid hn
  unfold maxLen at hn
  by_cases c1 : 16 < n
  · have c1' : decide ((16 : Int) < (n : Int)) = true := decide_eq_true (by omega)
    clear h hok h0
    go_enter Try.func7, Try.ntmps7
    go_wp2_with fail
    refine (KN.out _ (Below.refl _ _)).mono ?_; rintro e w2 ⟨rfl, q2⟩
    have Q2 := Lib.hid q2
    clear q2
    go_wp2_with fail
    go_ret
    exact ⟨rfl, Q2.out⟩
  have c1' : decide ((16 : Int) < (n : Int)) = false := decide_eq_false (by omega)
  have O0 := Lib.hid (gown_new (E := EL) (te := 34) w)
  have B0 := Lib.hid (below_new w (.cells #[] 34))
  have R0 := Lib.hid (HR.out _ B0.out)
  clear h hok h0
  go_enter Try.func7, Try.ntmps7
  go_wp2_with (at_builtin; refine gpl_app TL rfl _ _ rfl w.heap.size _ [] rfl O0.out A n c l rfl R0.out H0.out (by simp; omega) (by simp) ?_; intro v' w' h1 h2 h3; rw [List.nil_append] at h1; obtain ⟨A1, ca, rfl, n1⟩ := gown_form h1; rw [HL.out] at h1 ⊢)
  have B1 : Hid (Below w.heap.size w w') := Lib.hid (B0.out.grown h2 (by simp) (fun k e => (by cases e; exact Nat.le_refl _)))
  have OW := Lib.hid h1
  clear h1 h2 h3
  go_loopw [5, 19, 39] (fun _ vi _ wr => ∃ i : Nat, i ≤ n ∧ vi = .int .i64 i ∧ EL.Own 34 wr w.heap.size (.slice A1 n ca) (ro10 l i) ∧ (∀ x, x ∈ l.take i → Tb10 x) ∧ Below w.heap.size w wr) (fun _ vi _ _ => n - (intOf vi).toNat)
  case atStart => exact ⟨0, Nat.zero_le _, rfl, OW.out, (fun x hx => by simp at hx), B1.out⟩
  case round =>
    obtain ⟨i, hi, rfl, ho, ht, hb⟩ := hrel
    have HO := Lib.hid ho
    have HT := Lib.hid ht
    have HB := Lib.hid hb
    clear ho ht hb
    by_cases hlt : i < n
    case neg =>
      obtain rfl : i = n := by omega
      have et : l.take i = l := List.take_of_length_le (by rw [HL.out]; exact Nat.le_refl _)
      have er : ro10 l i = l.map tn10 := by
        unfold ro10
        rw [et, List.drop_of_length_le (by rw [HL.out]; exact Nat.le_refl _), List.append_nil]
      rw [er] at HO
      rw [et] at HT
      have M1 := Lib.hid (margin10 A i c l wr (HR.out wr HB.out) HK.out HN.out)
      have M2 := Lib.hid fun (W : World) (q : Below wr.heap.size wr W) => margin10 A1 i ca (l.map tn10) W (grd_below (gown_rd HO.out) q (Nat.le_refl _)) (fun y hy => by
        obtain ⟨x, hx, rfl⟩ := List.mem_map.1 hy
        exact tn_ok10 (HK.out x hx) (HT.out x hx)) HN.out
      rw [(turned10 l).1, (turned10 l).2] at M2
      generalize marN l = mn at *
      generalize marE l = me at *
      clear et er HO
      go_wp2_with fail
      refine M1.out.mono ?_; rintro e w2 ⟨rfl, q2⟩
      have M3 := Lib.hid (M2.out w2 q2)
      have B2 := Lib.hid (HB.out.trans (q2.mono HB.out.size))
      clear q2
      go_wp2_with fail
      refine M3.out.mono ?_; rintro e w3 ⟨rfl, q3⟩
      have B3 := Lib.hid (B2.out.trans (q3.mono B2.out.size))
      clear q3
      go_wp2_with fail
      refine (KN.out _ B3.out).mono ?_; rintro e w4 ⟨rfl, q4⟩
      have Q4 := Lib.hid q4
      clear q4
      go_wp2_with fail
      go_ret
      exact ⟨rfl, Q4.out⟩
    case pos =>
      have hdk : decide ((i : Int) < n) = true := decide_eq_true (by omega)
      have hki : (i : Int) < (n : Int) := by omega
      obtain ⟨x, hx⟩ : ∃ x, l[i]? = some x := ⟨l[i]'(by have := HL.out; omega), List.getElem?_eq_getElem _⟩
      have HX := Lib.hid hx
      obtain ⟨b, cc, eb⟩ := gown_slot HO.out (by rw [ro_len10]; have := HL.out; omega)
      injection eb with eA en ec
      clear en
      subst eA ec
      have k25 : wr.cell? ⟨b, i * 26 + 25, none⟩ = some (.int .i64 x.q) := (gown_at HO.out (ro_at10 hx) (i := 25) (by decide)).trans (lq_q x)
      have f25 := gown_fz HO.out (i * 26 + 25)
      have ok := HK.out x (List.mem_of_getElem? hx)
      obtain ⟨o1, o2⟩ := ok.q
      have OS := Lib.hid ok.sp.sh
      have hbw : w.heap.size ≤ b := (gown_lt HO.out rfl).1
      obtain ⟨q, hq⟩ : ∃ q, x.q = q := ⟨_, rfl⟩
      rw [hq] at k25 o1 o2
      have HQ := Lib.hid hq
      clear hx ok hq
      by_cases cq : q < -10000000
      · have dq : decide (q < -10000000) = true := decide_eq_true cq
        go_wp2_with fail
        refine (KN.out _ HB.out).mono ?_; rintro e w4 ⟨rfl, q4⟩
        have Q4 := Lib.hid q4
        clear q4
        go_wp2_with fail
        go_ret
        exact ⟨rfl, Q4.out⟩
      have dq : decide (q < -10000000) = false := decide_eq_false cq
      obtain ⟨W2, hW2⟩ : ∃ W, wr.setCell ⟨b, i * 26 + 25, none⟩ (.int .i64 (-q)) = W := ⟨_, rfl⟩
      have O2 : Hid (EL.Own 34 W2 w.heap.size (.slice (some ⟨b, 0, none⟩) n ca) ((ro10 l i).set i (tk10 x 0))) := Lib.hid (by
        rw [← hW2, tk_zero10]
        exact gown_put HO.out (ro_at10 HX.out) (i := 25) (by decide) (by rw [HQ.out]; exact lq_setq10 x (-q)))
      have B2 : Hid (Below w.heap.size w W2) := Lib.hid (by rw [← hW2]; exact HB.out.setCell hbw _)
      have HW2 := Lib.hid hW2
      clear hW2
      go_wp2_with (rw [HW2.out])
      clear k25 f25 HW2
      go_loopw [39] (fun vk wr => ∃ k : Nat, k ≤ 16 ∧ vk = .int .i64 k ∧ EL.Own 34 wr w.heap.size (.slice (some ⟨b, 0, none⟩) n ca) ((ro10 l i).set i (tk10 x k)) ∧ (∀ s, s ∈ x.sp.sh.take k → -10000000 ≤ s) ∧ Below w.heap.size w wr) (fun vk _ => 16 - (intOf vk).toNat)
      case atStart => exact ⟨0, Nat.zero_le _, rfl, O2.out, (fun s hs => by simp at hs), B2.out⟩
      case round =>
        obtain ⟨k, hk, rfl, ho, ht, hb⟩ := hrel
        have HO2 := Lib.hid ho
        have HT2 := Lib.hid ht
        have HB2 := Lib.hid hb
        clear ho ht hb
        by_cases hlk : k < 16
        case neg =>
          obtain rfl : k = 16 := by omega
          have O3 : Hid (EL.Own 34 wr w.heap.size (.slice (some ⟨b, 0, none⟩) n ca) (ro10 l (i + 1))) := Lib.hid (by
            have := HO2.out
            rwa [tk_all10, ro_set10 HX.out] at this)
          have T3 : Hid (∀ y, y ∈ l.take (i + 1) → Tb10 y) := Lib.hid fun y hy => by
            rw [take_l10 HX.out] at hy
            rcases List.mem_append.1 hy with h | h
            · exact HT.out y h
            · rw [List.mem_singleton.1 h]
              have := HT2.out
              rw [List.take_of_length_le (by rw [x.len]; exact Nat.le_refl _)] at this
              exact ⟨by rw [HQ.out]; omega, this⟩
          go_wp2_with fail
          go_roundw
          case rel => exact ⟨i + 1, hlt, by go_num, O3.out, T3.out, HB2.out⟩
          case measure => simp [intOf]; omega
        case pos =>
          have hdl : decide ((k : Int) < 16) = true := decide_eq_true (by omega)
          have hkl : k < x.sp.sh.length := by rw [x.len]; exact hlk
          have ks : wr.cell? ⟨b, i * 26 + 6 + k, none⟩ = some (.int .i64 (x.sp.sh.getD k 0)) := by
            have h1 := gown_at HO2.out (ro_setat10 HX.out) (i := 6 + k) (by show 6 + k < 26; omega)
            rw [lq_sp (by omega), Sp.c6 (tk10 x k).len k hlk] at h1
            rw [Nat.add_assoc]
            refine h1.trans ?_
            congr 2
            exact part_get10 x.len hlk
          have fs := gown_fz HO2.out (i * 26 + 6 + k)
          have I := OS.out _ (getD_mem hkl)
          have T := Lib.hid (take_q hkl)
          have TK := Lib.hid (tk_next10 (x := x) hlk)
          obtain ⟨s, hs⟩ : ∃ s, x.sp.sh.getD k 0 = s := ⟨_, rfl⟩
          rw [hs] at ks I T TK
          obtain ⟨i1, i2⟩ := I
          clear hs hkl
          by_cases cs : s < -10000000
          · have ds : decide (s < -10000000) = true := decide_eq_true cs
            go_wp2_with fail
            refine (KN.out _ HB2.out).mono ?_; rintro e w4 ⟨rfl, q4⟩
            have Q4 := Lib.hid q4
            clear q4
            go_wp2_with fail
            go_ret
            exact ⟨rfl, Q4.out⟩
          have ds : decide (s < -10000000) = false := decide_eq_false cs
          have T2 : Hid (∀ y, y ∈ x.sp.sh.take (k + 1) → -10000000 ≤ y) := Lib.hid fun y hy => by
            rw [T.out] at hy
            rcases List.mem_append.1 hy with h | h
            · exact HT2.out y h
            · rw [List.mem_singleton.1 h]; omega
          have ks' : wr.drew.cell? ⟨b, i * 26 + 6 + k, none⟩ = some (.int .i64 s) := ks
          have fs' : wr.drew.frozen? ⟨b, i * 26 + 6 + k, none⟩ = false := fs
          obtain ⟨W3, hW3⟩ : ∃ W, (wr.setCell ⟨b, i * 26 + 6 + k, none⟩ (.int .i64 (-s))).drew = W := ⟨_, rfl⟩
          have O3 : Hid (EL.Own 34 W3 w.heap.size (.slice (some ⟨b, 0, none⟩) n ca) ((ro10 l i).set i (tk10 x (k + 1)))) := Lib.hid (by
            rw [← hW3]
            have := gown_put HO2.out (ro_setat10 HX.out) (i := 6 + k) (y := tk10 x (k + 1)) (by show 6 + k < 26; omega) TK.out
            rw [List.set_set, show i * EL.N + (6 + k) = i * 26 + 6 + k from (Nat.add_assoc _ _ _).symm] at this
            exact gown_same this fun _ _ => rfl)
          have B3 : Hid (Below w.heap.size w W3) := Lib.hid (by rw [← hW3]; exact below_drewN (HB2.out.setCell hbw _) 1)
          have HW3 := Lib.hid hW3
          have h16 : (k : Int) < 16 := by omega
          have WS : Hid (IntKind.i64.wrap (-s) = -s) := Lib.hid (by rw [IntKind.wrap_i64]; omega)
          clear hW3 TK T
          go_wp2_with fail
          refine wp_region_held_drew (S := fun _ => True) (by kernel_rfl) trivial (fun hH => ?_)
          refine wpAnyH_take (i := 0) (v := .slice (some ⟨b, 0, none⟩) n ca) rfl (by kernel_rfl) (by kernel_rfl) (by kernel_rfl) (fun _ _ _ h => h) (.inl ⟨by rfl, ?_⟩) (by assumption) ?_
          · intro W hW; go_simp
          try simp only [List.getElem_toArray, List.getElem_cons_zero, List.getElem_cons_succ, Act.put, List.setIfInBounds_toArray, List.set_cons_zero, List.set_cons_succ]
          refine wpAnyH_take (i := 1) (v := .int .i64 i) rfl (by kernel_rfl) (by kernel_rfl) (by kernel_rfl) (fun _ _ _ h => h) (.inl ⟨by rfl, ?_⟩) (by assumption) ?_
          · intro W hW; go_simp
          try simp only [List.getElem_toArray, List.getElem_cons_zero, List.getElem_cons_succ, Act.put, List.setIfInBounds_toArray, List.set_cons_zero, List.set_cons_succ]
          refine wpAnyH_take (i := 2) (v := .int .i64 k) rfl (by kernel_rfl) (by kernel_rfl) (by kernel_rfl) (fun _ _ _ h => h) (.inl ⟨by rfl, ?_⟩) (by assumption) ?_
          · intro W hW; go_simp
          try simp only [List.getElem_toArray, List.getElem_cons_zero, List.getElem_cons_succ, Act.put, List.setIfInBounds_toArray, List.set_cons_zero, List.set_cons_succ]
          refine wpAnyH_take (i := 3) (v := .slice (some ⟨b, 0, none⟩) n ca) rfl (by kernel_rfl) (by kernel_rfl) (by kernel_rfl) (fun _ _ _ h => h) (.inl ⟨by rfl, ?_⟩) (by assumption) ?_
          · intro W hW; go_simp
          try simp only [List.getElem_toArray, List.getElem_cons_zero, List.getElem_cons_succ, Act.put, List.setIfInBounds_toArray, List.set_cons_zero, List.set_cons_succ]
          refine wpAnyH_take (i := 4) (v := .int .i64 i) rfl (by kernel_rfl) (by kernel_rfl) (by kernel_rfl) (fun _ _ _ h => h) (.inl ⟨by rfl, ?_⟩) (by assumption) ?_
          · intro W hW; go_simp
          try simp only [List.getElem_toArray, List.getElem_cons_zero, List.getElem_cons_succ, Act.put, List.setIfInBounds_toArray, List.set_cons_zero, List.set_cons_succ]
          refine wpAnyH_take (i := 5) (v := .int .i64 k) rfl (by kernel_rfl) (by kernel_rfl) (by kernel_rfl) (fun _ _ _ h => h) (.inl ⟨by rfl, ?_⟩) (by assumption) ?_
          · intro W hW; go_simp
          try simp only [List.getElem_toArray, List.getElem_cons_zero, List.getElem_cons_succ, Act.put, List.setIfInBounds_toArray, List.set_cons_zero, List.set_cons_succ]
          refine wpAnyH_take (i := 6) (v := .pointer (some ⟨b, i * 26, none⟩)) rfl (by kernel_rfl) (by kernel_rfl) (by kernel_rfl) (fun _ _ _ h => h) (.inl ⟨by rfl, ?_⟩) (by assumption) ?_
          · intro W hW; go_simp
          try simp only [List.getElem_toArray, List.getElem_cons_zero, List.getElem_cons_succ, Act.put, List.setIfInBounds_toArray, List.set_cons_zero, List.set_cons_succ]
          refine wpAnyH_take (i := 7) (v := .pointer (some ⟨b, i * 26, none⟩)) rfl (by kernel_rfl) (by kernel_rfl) (by kernel_rfl) (fun _ _ _ h => h) (.inl ⟨by rfl, ?_⟩) (by assumption) ?_
          · intro W hW; go_simp
          try simp only [List.getElem_toArray, List.getElem_cons_zero, List.getElem_cons_succ, Act.put, List.setIfInBounds_toArray, List.set_cons_zero, List.set_cons_succ]
          refine wpAnyH_take (i := 8) (v := .pointer (some ⟨b, i * 26 + 6, none⟩)) rfl (by kernel_rfl) (by kernel_rfl) (by kernel_rfl) (fun _ _ _ h => h) (.inl ⟨by rfl, ?_⟩) (by assumption) ?_
          · intro W hW; go_simp
          try simp only [List.getElem_toArray, List.getElem_cons_zero, List.getElem_cons_succ, Act.put, List.setIfInBounds_toArray, List.set_cons_zero, List.set_cons_succ]
          refine wpAnyH_take (i := 9) (v := .pointer (some ⟨b, i * 26 + 6 + k, none⟩)) rfl (by kernel_rfl) (by kernel_rfl) (by kernel_rfl) (fun _ _ _ h => h) (.inl ⟨by rfl, ?_⟩) (by assumption) ?_
          · intro W hW; go_simp
          try simp only [List.getElem_toArray, List.getElem_cons_zero, List.getElem_cons_succ, Act.put, List.setIfInBounds_toArray, List.set_cons_zero, List.set_cons_succ]
          refine wpAnyH_take (i := 12) (v := .pointer (some ⟨b, i * 26, none⟩)) rfl (by kernel_rfl) (by kernel_rfl) (by kernel_rfl) (fun _ _ _ h => h) (.inl ⟨by rfl, ?_⟩) (by assumption) ?_
          · intro W hW; go_simp
          try simp only [List.getElem_toArray, List.getElem_cons_zero, List.getElem_cons_succ, Act.put, List.setIfInBounds_toArray, List.set_cons_zero, List.set_cons_succ]
          refine wpAnyH_take (i := 13) (v := .pointer (some ⟨b, i * 26, none⟩)) rfl (by kernel_rfl) (by kernel_rfl) (by kernel_rfl) (fun _ _ _ h => h) (.inl ⟨by rfl, ?_⟩) (by assumption) ?_
          · intro W hW; go_simp
          try simp only [List.getElem_toArray, List.getElem_cons_zero, List.getElem_cons_succ, Act.put, List.setIfInBounds_toArray, List.set_cons_zero, List.set_cons_succ]
          refine wpAnyH_take (i := 14) (v := .pointer (some ⟨b, i * 26 + 6, none⟩)) rfl (by kernel_rfl) (by kernel_rfl) (by kernel_rfl) (fun _ _ _ h => h) (.inl ⟨by rfl, ?_⟩) (by assumption) ?_
          · intro W hW; go_simp
          try simp only [List.getElem_toArray, List.getElem_cons_zero, List.getElem_cons_succ, Act.put, List.setIfInBounds_toArray, List.set_cons_zero, List.set_cons_succ]
          refine wpAnyH_ready (rs := [10]) (by decide +kernel) (by simp) (AllReadyH.cons rfl (fun KQ hK => ?_) AllReadyH.nil)
          go_simp
          refine hK.out _ _ trivial (fun _ => ?_)
          clear hK
          try simp only [List.getElem_toArray, List.getElem_cons_zero, List.getElem_cons_succ, Act.put, List.setIfInBounds_toArray, List.set_cons_zero, List.set_cons_succ]
          refine wpAnyH_take (i := 11) (v := .int .i64 (-s)) rfl (by kernel_rfl) (by kernel_rfl) (by kernel_rfl) (fun _ _ _ h => h) (.inl ⟨by rfl, ?_⟩) (by assumption) ?_
          · intro W hW; go_simp; exact WS.out
          try simp only [List.getElem_toArray, List.getElem_cons_zero, List.getElem_cons_succ, Act.put, List.setIfInBounds_toArray, List.set_cons_zero, List.set_cons_succ]
          refine wpAnyH_take (i := 15) (v := .pointer (some ⟨b, i * 26 + 6 + k, none⟩)) rfl (by kernel_rfl) (by kernel_rfl) (by kernel_rfl) (fun _ _ _ h => h) (.inl ⟨by rfl, ?_⟩) (by assumption) ?_
          · intro W hW; go_simp
          try simp only [List.getElem_toArray, List.getElem_cons_zero, List.getElem_cons_succ, Act.put, List.setIfInBounds_toArray, List.set_cons_zero, List.set_cons_succ]
          refine wpAnyH_ready (rs := [16]) (by decide +kernel) (by simp) (AllReadyH.cons rfl (fun KQ hK => ?_) AllReadyH.nil)
          go_simp
          refine hK.out _ _ trivial (fun _ => ?_)
          clear hK
          try simp only [List.getElem_toArray, List.getElem_cons_zero, List.getElem_cons_succ, Act.put, List.setIfInBounds_toArray, List.set_cons_zero, List.set_cons_succ]
          refine wpAnyH_done (by decide +kernel) ?_ _
          rw [HW3.out]
          go_wp2_with fail
          go_roundw
          case rel => exact ⟨k + 1, hlk, by go_num, O3.out, T2.out, B3.out⟩
          case measure => simp [intOf]; omega
end Go.Proofs.Ytgihmkdmcpcbeaa
