/- SealedClears, walked (by genAz.py). -/
import Derived.Test.YtcjianjnedbjkaaAy
import Derived.Test.YtcjianjnedbjkaaSz
namespace Go.Proofs.Ytcjianjnedbjkaa
open Go.RowKit Go.Shelf
set_option linter.unusedVariables false
set_option linter.unusedSimpArgs false

theorem clr_fok8 {b : Bool} {q : Int} {l : List Or} (h : ∀ x, x ∈ l → x.ok) : ∀ t, t ∈ clrF b q l → t.ok := fun t ht => by
  by_cases ok : OkC b q l
  · rw [← (fill_clr ok).1] at ht
    exact fill_ok8 (fun y hy => h y (sort_mem.1 hy)) (fun y hy => ok.pos y (sort_mem.1 hy)) (by have := ok.q1; omega) t ht
  · rw [(clr_no ok).2.2] at ht; cases ht
set_option maxRecDepth 100000 in
set_option maxHeartbeats 8000000 in
theorem clears8_all (K : ClearK) (b : Bool) (q : Int) (A : Option Addr) (n c : Nat) (l : List Or) (w : World) (h : EO.Rd w A n l) (hok : ∀ x, x ∈ l → x.ok) (h0 : A = none → c = 0) (hnc : n ≤ c) (hn : n ≤ maxLen) (hq : I64' q) :
    Calls Try.prog 3 #[.bool b, .int .i64 q, .slice A n c] w fun e w' => e = .returned (.bool true) ∧ Below w.heap.size w w' := by
  have KH := Lib.hid K
  have KN := Lib.hid (fun W => known8 K W)
  have KNOWN := Lib.hid (fun U (qU : Below w.heap.size w U) => (KN.out U).mono (fun e W h => (⟨h.1, qU.trans (h.2.mono qU.size)⟩ : e = .returned (.bool true) ∧ Below w.heap.size w W)))
  have HR := Lib.hid fun (W : World) (q : Below w.heap.size w W) => (show EO.Rd W A n l from grd_below h q (Nat.le_refl _))
  have HK := Lib.hid hok
  have HL := Lib.hid h.1
  have HQ := Lib.hid hq
  have H0 := Lib.hid h0
  have B0 := Lib.hid (Below.refl w.heap.size w)
  unfold maxLen at hn
  clear h hok hq K h0
  by_cases c1 : 200 < n
  · have c1' : decide ((200 : Int) < (n : Int)) = true := decide_eq_true (by omega)
    go_enter Try.func3, Try.ntmps3
    go_wp2_with fail
    refine (KNOWN.out _ B0.out).mono ?_; rintro e w2 ⟨rfl, q2⟩
    have Q2 := Lib.hid q2
    clear q2
    go_wp2_with fail
    go_ret
    exact ⟨rfl, Q2.out⟩
  have c1' : decide ((200 : Int) < (n : Int)) = false := decide_eq_false (by omega)
  have B1 := Lib.hid (below_new w (.cells #[] 31))
  have O1 : Hid (EO.Own 31 (w.alloc (.cells #[] 31)) w.heap.size (.slice (some ⟨w.heap.size, 0, none⟩) 0 0) []) := Lib.hid (gown_new w)
  have R1 := Lib.hid (HR.out _ B1.out)
  go_enter Try.func3, Try.ntmps3
  go_wp2_with (at_builtin; refine gpl_app TO rfl (.tmp 19) (.tmp 20) rfl w.heap.size _ [] rfl O1.out A n c l rfl R1.out H0.out (by simp; omega) (by simp) ?_; intro v2 w2 o2 g2 _; have O2 := Lib.hid o2; have Q2 := Lib.hid (B1.out.grown g2 (by simp) (fun k e => (gown_lt O1.out e).1)); clear o2 g2; obtain ⟨A2, n2, c2, rfl⟩ := gown_any O2.out)
  rw [List.nil_append] at O2
  obtain ⟨A2', c2', e2, na⟩ := gown_form O2.out
  injection e2 with eA eN ec
  subst eA eN ec
  have K2 := Lib.hid (KH.out b q A2 l.length c2 l w2 (gown_rd O2.out) HK.out na (by have := HL.out; unfold maxLen; omega) HQ.out)
  have FOK := Lib.hid (clr_fok8 (b := b) (q := q) HK.out)
  have RK := Lib.hid fun (W : World) (qW : Below w.heap.size w W) => rclear8 b q A n c l W (HR.out W qW) HK.out (by unfold maxLen; omega) HQ.out
  obtain ⟨f1, hf1⟩ : ∃ f, clrF b q l = f := ⟨_, rfl⟩
  obtain ⟨p1, hp1⟩ : ∃ f, clrP b q l = f := ⟨_, rfl⟩
  obtain ⟨e1, he1⟩ : ∃ f, clrA b q l = f := ⟨_, rfl⟩
  rw [hf1, hp1, he1] at K2
  rw [hf1] at FOK
  simp only [hf1, hp1, he1] at RK
  clear hf1 hp1 he1 na
  refine K2.out.mono ?_; rintro e w3 ⟨v3, rfl, o3, q3⟩
  have O3 := Lib.hid o3
  have Q3 := Lib.hid (Q2.out.trans (q3.mono Q2.out.size))
  have I3 := Lib.hid (gown_below O2.out q3)
  have RK3 := Lib.hid (RK.out w3 Q3.out)
  clear o3 q3 K2 RK
  go_wp2_with fail
  refine RK3.out.mono ?_; rintro e w4 ⟨v4, rfl, o4, q4⟩
  have P4 := Lib.hid o4
  have O4 := Lib.hid (gown_below O3.out q4)
  have Q4 := Lib.hid (Q3.out.trans (q4.mono Q3.out.size))
  have I4 := Lib.hid (gown_below I3.out q4)
  clear o4 q4 RK3
  obtain ⟨A6, c6, rfl, _⟩ := gown_form O4.out
  obtain ⟨A7, c7, rfl, _⟩ := gown_form P4.out
  have HL' := HL.out
  rw [HL'] at I4 ⊢
  clear HL'
  have LE := Lib.hid (show f1.length ≤ maxLen from by
    rcases Nat.eq_zero_or_pos f1.length with z | z
    · rw [z]; exact Nat.zero_le _
    · obtain ⟨b3, c3, e3⟩ := gown_slot O4.out z
      injection e3 with eA _ ec
      subst eA ec
      have := gown_cap O4.out
      unfold maxLen; omega)
  go_wp2_with fail
  go_loopw [40] (fun vi wr => ∃ j : Nat, j ≤ n ∧ vi = .int .i64 j ∧ Fr (fun _ : Nat => False) w4 wr) (fun vi _ => n - (intOf vi).toNat)
  case atStart => exact ⟨0, Nat.zero_le _, rfl, Fr.refl _ _⟩
  case round =>
    obtain ⟨j, hj, rfl, hf⟩ := hrel
    have F1 := Lib.hid hf
    clear hf
    by_cases hlt : j < n
    case neg =>
      obtain rfl : j = n := by omega
      have SA := Lib.hid (rsame8 A6 A7 f1.length c6 c7 f1 wr (gown_rd (gown_fr O4.out F1.out (fun _ _ h => h))) (gown_rd (gown_fr P4.out F1.out (fun _ _ h => h))) FOK.out LE.out)
      go_wp2_with fail
      refine SA.out.mono ?_; rintro e w5 ⟨rfl, f5⟩
      have F5 := Lib.hid (below_fr8 (below_fr8 Q4.out F1.out (fun _ h => h.elim) Q4.out.size) f5 (fun _ h => h.elim) (Nat.le_trans Q4.out.size F1.out.size))
      clear f5
      go_wp2_with fail
      refine (KNOWN.out _ F5.out).mono ?_; rintro e w8 ⟨rfl, q8⟩
      have Q8 := Lib.hid q8
      clear q8
      go_wp2_with fail
      go_ret
      exact ⟨rfl, Q8.out⟩
    case pos =>
      have hd : decide ((j : Int) < (n : Int)) = true := decide_eq_true (by omega)
      have hjn : (j : Int) < (n : Int) := by omega
      obtain ⟨x, hx⟩ : ∃ x, l[j]? = some x := ⟨l[j]'(by have := HL.out; omega), List.getElem?_eq_getElem _⟩
      obtain ⟨b1, o1, rfl, la⟩ := rng_fr8 (gown_rd I4.out) hx
      obtain ⟨b2, o2, rfl, lb⟩ := rng_fr8 (HR.out w4 Q4.out) hx
      have LA := Lib.hid la
      have LB := Lib.hid lb
      have OKT := Lib.hid (HK.out x (List.mem_of_getElem? hx))
      have ey := eqO_yes x
      clear hx la lb
      go_wp2_with fail
      refine wp_region_held_drew (S := fun U => Fr (fun _ : Nat => False) w4 U) (by kernel_rfl) (F1.out.drewN 1) (fun hH => ?_)
      refine wpAnyH_take (i := 0) (v := .slice (some ⟨b1, o1, none⟩) n c2) rfl (by kernel_rfl) (by kernel_rfl) (by kernel_rfl) (fun _ _ _ h => h) (.inl ⟨by rfl, ?_⟩) (by assumption) ?_
      · intro W hW; go_simp
      try simp only [List.getElem_toArray, List.getElem_cons_zero, Act.put, List.setIfInBounds_toArray, List.set_cons_zero, List.set_cons_succ]
      refine wpAnyH_take (i := 1) (v := .int .i64 j) rfl (by kernel_rfl) (by kernel_rfl) (by kernel_rfl) (fun _ _ _ h => h) (.inl ⟨by rfl, ?_⟩) (by assumption) ?_
      · intro W hW; go_simp
      try simp only [List.getElem_toArray, List.getElem_cons_zero, List.getElem_cons_succ, Act.put, List.setIfInBounds_toArray, List.set_cons_zero, List.set_cons_succ]
      refine wpAnyH_take (i := 2) (v := .pointer (some ⟨b1, o1 + j * 5, none⟩)) rfl (by kernel_rfl) (by kernel_rfl) (by kernel_rfl) (fun _ _ _ h => h) (.inl ⟨by rfl, ?_⟩) (by assumption) ?_
      · intro W hW; go_simp
      try simp only [List.getElem_toArray, List.getElem_cons_zero, List.getElem_cons_succ, Act.put, List.setIfInBounds_toArray, List.set_cons_zero, List.set_cons_succ]
      refine wpAnyH_take (i := 3) (v := .agg (EO.cells x).toArray) rfl (by kernel_rfl) (by kernel_rfl) (by kernel_rfl) (fun _ _ _ h => h) (gyields_load TO (by rfl) (.tmp 45) rfl b1 (o1 + j * 5) rfl (fun U hU => LA.out U hU)) (by assumption) ?_
      try simp only [List.getElem_toArray, List.getElem_cons_zero, List.getElem_cons_succ, Act.put, List.setIfInBounds_toArray, List.set_cons_zero, List.set_cons_succ]
      refine wpAnyH_take (i := 4) (v := .slice (some ⟨b2, o2, none⟩) n c) rfl (by kernel_rfl) (by kernel_rfl) (by kernel_rfl) (fun _ _ _ h => h) (.inl ⟨by rfl, ?_⟩) (by assumption) ?_
      · intro W hW; go_simp
      try simp only [List.getElem_toArray, List.getElem_cons_zero, List.getElem_cons_succ, Act.put, List.setIfInBounds_toArray, List.set_cons_zero, List.set_cons_succ]
      refine wpAnyH_take (i := 5) (v := .int .i64 j) rfl (by kernel_rfl) (by kernel_rfl) (by kernel_rfl) (fun _ _ _ h => h) (.inl ⟨by rfl, ?_⟩) (by assumption) ?_
      · intro W hW; go_simp
      try simp only [List.getElem_toArray, List.getElem_cons_zero, List.getElem_cons_succ, Act.put, List.setIfInBounds_toArray, List.set_cons_zero, List.set_cons_succ]
      refine wpAnyH_take (i := 6) (v := .pointer (some ⟨b2, o2 + j * 5, none⟩)) rfl (by kernel_rfl) (by kernel_rfl) (by kernel_rfl) (fun _ _ _ h => h) (.inl ⟨by rfl, ?_⟩) (by assumption) ?_
      · intro W hW; go_simp
      try simp only [List.getElem_toArray, List.getElem_cons_zero, List.getElem_cons_succ, Act.put, List.setIfInBounds_toArray, List.set_cons_zero, List.set_cons_succ]
      refine wpAnyH_take (i := 7) (v := .agg (EO.cells x).toArray) rfl (by kernel_rfl) (by kernel_rfl) (by kernel_rfl) (fun _ _ _ h => h) (gyields_load TO (by rfl) (.tmp 49) rfl b2 (o2 + j * 5) rfl (fun U hU => LB.out U hU)) (by assumption) ?_
      try simp only [List.getElem_toArray, List.getElem_cons_zero, List.getElem_cons_succ, Act.put, List.setIfInBounds_toArray, List.set_cons_zero, List.set_cons_succ]
      refine wpAnyH_take (i := 8) (v := .bool !(eqO x x)) rfl (by kernel_rfl) (by kernel_rfl) (by kernel_rfl) (fun _ _ _ h => h) (yields_neq_or (by rfl) _ _ rfl OKT.out OKT.out rfl rfl) (by assumption) ?_
      try simp only [List.getElem_toArray, List.getElem_cons_zero, List.getElem_cons_succ, Act.put, List.setIfInBounds_toArray, List.set_cons_zero, List.set_cons_succ]
      refine wpAnyH_done (by decide +kernel) ?_ _
      rw [ey]
      go_wp2_with fail
      go_roundw
      case rel => exact ⟨j + 1, hlt, by go_num, hH⟩
      case measure => simp [intOf]; omega
end Go.Proofs.Ytcjianjnedbjkaa
