/- SealedTurned, walked (by genAu.py). -/
import Derived.Test.YtcjianjnedbjkaaAs
namespace Go.Proofs.Ytcjianjnedbjkaa
open Go.RowKit Go.Shelf
set_option linter.unusedVariables false
set_option linter.unusedSimpArgs false

/-- One that buys; the same, turned. -/
def tb8 (x : Or) : Or := ⟨x.nu, x.ac, true, x.pr, x.le⟩
def tu8 (x : Or) : Or := ⟨x.nu, x.ac, false, 1001 - x.pr, x.le⟩
theorem tu_tu8 (x : Or) : tuC (tb8 x) = tu8 x := rfl
theorem bx_of8 {S : Nat → Prop} {W U : World} (h : Fr S W U) (x : Or) : EO.Bx 31 (U.alloc (.cells (EO.cells x).toArray 31)) U.heap.size x := gbx_new U x
theorem fr_alloc8 {S : Nat → Prop} {W U : World} (h : Fr S W U) (o : Obj) : Fr S W (U.alloc o) := h.same (Fr.below (below_new U o))
theorem fill_ok8 : ∀ {s : List Or} {left : Int}, (∀ x, x ∈ s → x.ok) → (∀ x, x ∈ s → 0 < x.le) → 0 ≤ left → ∀ t, t ∈ fillC s left → t.ok
  | [], left, _, _, _, t, ht => by simp [fillC] at ht
  | x :: r, left, h, hp, h0, t, ht => by
    unfold fillC at ht
    split at ht
    · cases ht
    · rename_i c
      have hx := h x (List.mem_cons_self ..)
      have px := hp x (List.mem_cons_self ..)
      rcases List.mem_cons.1 ht with rfl | ht
      · refine ⟨hx.nu, hx.ac, ?_⟩
        have := hx.le
        show I64' (minC x.le left)
        unfold I64' at this ⊢
        unfold minC; split <;> omega
      · exact fill_ok8 (fun y hy => h y (List.mem_cons_of_mem _ hy)) (fun y hy => hp y (List.mem_cons_of_mem _ hy)) (by unfold minC; split <;> omega) t ht
theorem clr_pb8 {b : Bool} {q : Int} {l : List Or} (h : clrF b q l ≠ []) : 0 < clrP b q l ∧ clrP b q l ≤ 10000000 := by
  by_cases ok : OkC b q l
  · have hl : l ≠ [] := fun e => by
      subst e
      exact h (by rw [← (fill_clr ok).1]; rfl)
    rw [(clr_ok ok).2.1]
    obtain ⟨⟨x, hx, e⟩, _⟩ := price_is (b := b) (q := q) hl
    have := may_pos (ok.may x hx).1
    rw [e]
    omega
  · exact absurd (clr_no ok).2.2 h
set_option maxRecDepth 100000 in
set_option maxHeartbeats 16000000 in
theorem turned8_all (K : ClearK) (q : Int) (A : Option Addr) (n c : Nat) (l : List Or) (w : World) (h : EO.Rd w A n l) (hok : ∀ x, x ∈ l → x.ok) (hn : n ≤ maxLen) (hq : I64' q) :
    Calls Try.prog 6 #[.int .i64 q, .slice A n c] w fun e w' => e = .returned (.bool true) ∧ Below w.heap.size w w' := by
  have KH := Lib.hid K
  have KN := Lib.hid (fun W => known8 K W)
  have KNOWN := Lib.hid (fun U (qU : Below w.heap.size w U) => (KN.out U).mono (fun e W h => (⟨h.1, qU.trans (h.2.mono qU.size)⟩ : e = .returned (.bool true) ∧ Below w.heap.size w W)))
  have HR := Lib.hid fun (W : World) (q : Below w.heap.size w W) => (show EO.Rd W A n l from grd_below h q (Nat.le_refl _))
  have HK := Lib.hid hok
  have HL := Lib.hid h.1
  have HQ := Lib.hid hq
  have B0 := Lib.hid (Below.refl w.heap.size w)
  unfold maxLen at hn
  clear h hok hq K
  by_cases c1 : 50 < n
  · have c1' : decide ((50 : Int) < (n : Int)) = true := decide_eq_true (by omega)
    go_enter Try.func6, Try.ntmps6
    go_wp2_with fail
    refine (KNOWN.out _ B0.out).mono ?_; rintro e w2 ⟨rfl, q2⟩
    have Q2 := Lib.hid q2
    clear q2
    go_wp2_with fail
    go_ret
    exact ⟨rfl, Q2.out⟩
  have c1' : decide ((50 : Int) < (n : Int)) = false := decide_eq_false (by omega)
  have hz := zero_o8
  go_enter Try.func6, Try.ntmps6
  go_wp2_with fail
  go_loopw [5, 6, 23] (fun va' vb' i wr => ∃ (k : Nat) (va vb : Value), k ≤ n ∧ i = .int .i64 k ∧ va = va' ∧ vb = vb' ∧ EO.Own 31 wr w.heap.size va ((l.take k).map tb8) ∧ EO.Own 31 wr w.heap.size vb ((l.take k).map tu8) ∧ (∀ j, va.ownBlock = some j → vb.ownBlock = some j → False) ∧ Below w.heap.size w wr ∧ ∀ x, x ∈ l.take k → 1 ≤ x.pr ∧ x.pr ≤ 1000) (fun _ _ i _ => n - (intOf i).toNat)
  case atStart => exact ⟨0, _, _, Nat.zero_le _, rfl, rfl, rfl, gown_nil _ _, gown_nil _ _, (fun j h => by cases h), B0.out, fun x hx => by simp at hx⟩
  case round =>
    obtain ⟨k, va, vb, hk, rfl, rfl, rfl, oa, ob, ap, hb, hp⟩ := hrel
    have OA0 := Lib.hid oa
    have OB0 := Lib.hid ob
    have AP := Lib.hid ap
    have HB := Lib.hid hb
    have HP := Lib.hid hp
    clear oa ob ap hb hp
    by_cases hlt : k < n
    case neg =>
      obtain rfl : k = n := by omega
      have et : l.take k = l := List.take_of_length_le (by rw [HL.out]; exact Nat.le_refl _)
      rw [et] at OA0 OB0 HP
      clear et
      obtain ⟨Aa, ca, rfl, na⟩ := gown_form OA0.out
      obtain ⟨Ab, cb, rfl, nb⟩ := gown_form OB0.out
      have la : (l.map tb8).length = k := by rw [List.length_map]; exact HL.out
      have lb : (l.map tu8).length = k := by rw [List.length_map]; exact HL.out
      rw [la] at OA0 ⊢
      rw [lb] at OB0 ⊢
      have okA : Hid (∀ x, x ∈ l.map tb8 → x.ok) := Lib.hid fun x hx => by
        obtain ⟨y, hy, rfl⟩ := List.mem_map.1 hx
        have := HK.out y hy
        exact ⟨this.nu, this.ac, this.pr, this.le⟩
      have okB : Hid (∀ x, x ∈ l.map tu8 → x.ok) := Lib.hid fun x hx => by
        obtain ⟨y, hy, rfl⟩ := List.mem_map.1 hx
        have := HK.out y hy
        have p := HP.out y hy
        exact ⟨this.nu, this.ac, by show I64' (1001 - y.pr); unfold I64'; omega, this.le⟩
      have KA := Lib.hid (KH.out true q Aa k ca (l.map tb8) wr (gown_rd OA0.out) okA.out na (by unfold maxLen; omega) HQ.out)
      have KB := Lib.hid fun (W : World) (qW : Below wr.heap.size wr W) => (KH.out false q Ab k cb (l.map tu8) W (grd_below (gown_rd OB0.out) qW (Nat.le_refl _)) okB.out nb (by unfold maxLen; omega) HQ.out)
      have em : l.map tu8 = (l.map tb8).map tuC := by rw [List.map_map]; rfl
      have TU := Lib.hid (clr_tuC (b := true) (q := q) (l := l.map tb8) (fun x hx => by
        obtain ⟨y, hy, rfl⟩ := List.mem_map.1 hx
        exact HP.out y hy))
      rw [← em] at TU
      obtain ⟨f1, hf1⟩ : ∃ f, clrF true q (l.map tb8) = f := ⟨_, rfl⟩
      obtain ⟨f2, hf2⟩ : ∃ f, clrF (!true) q (l.map tu8) = f := ⟨_, rfl⟩
      obtain ⟨p1, hp1⟩ : ∃ f, clrP true q (l.map tb8) = f := ⟨_, rfl⟩
      obtain ⟨p2, hp2⟩ : ∃ f, clrP (!true) q (l.map tu8) = f := ⟨_, rfl⟩
      obtain ⟨e1, he1⟩ : ∃ f, clrA true q (l.map tb8) = f := ⟨_, rfl⟩
      obtain ⟨e2, he2⟩ : ∃ f, clrA (!true) q (l.map tu8) = f := ⟨_, rfl⟩
      have FOK : Hid (∀ t, t ∈ f1 → t.ok) := Lib.hid fun t ht => by
        rw [← hf1] at ht
        by_cases ok : OkC true q (l.map tb8)
        · rw [← (fill_clr ok).1] at ht
          exact fill_ok8 (fun y hy => okA.out y (sort_mem.1 hy)) (fun y hy => ok.pos y (sort_mem.1 hy)) (by have := ok.q1; omega) t ht
        · rw [(clr_no ok).2.2] at ht; cases ht
      have PB : Hid (f2 ≠ [] → 0 < p2 ∧ p2 ≤ 10000000) := Lib.hid fun hh => by
        rw [← hp2]
        rw [← hf2] at hh
        exact clr_pb8 hh
      rw [hf1, hf2, hp1, hp2, he1, he2] at TU
      rw [hf1, hp1, he1] at KA
      change clrF false q (l.map tu8) = f2 at hf2
      change clrP false q (l.map tu8) = p2 at hp2
      change clrA false q (l.map tu8) = e2 at he2
      simp only [hf2, hp2, he2] at KB
      obtain ⟨t1, t2, t3⟩ := TU.out
      subst t1 t2
      have T3 := Lib.hid t3
      clear TU hf1 hf2 hp1 hp2 he1 he2 em la lb t3
      go_wp2_with fail
      refine KA.out.mono ?_; rintro e w6 ⟨v1, rfl, o1, q6⟩
      have O6 := Lib.hid o1
      have Q6 := Lib.hid q6
      have KB2 := Lib.hid (KB.out w6 q6)
      clear q6 o1 KA KB
      go_wp2_with fail
      refine KB2.out.mono ?_; rintro e w7 ⟨v2, rfl, o2, q7⟩
      have O7 := Lib.hid (gown_below O6.out q7)
      have P7 := Lib.hid o2
      have Q7 := Lib.hid (Q6.out.trans (q7.mono Q6.out.size))
      have HB7 := Lib.hid (HB.out.trans (Q7.out.mono HB.out.size))
      clear q7 o2 KB2
      obtain ⟨A6, c6, rfl, _⟩ := gown_form O7.out
      obtain ⟨A7, c7, rfl, _⟩ := gown_form P7.out
      have FIN : Hid (∀ W, Fr (fun _ : Nat => False) w7 W → Below w.heap.size w W) := Lib.hid fun W f => below_fr8 HB7.out f (fun _ h => h.elim) HB7.out.size
      obtain ⟨m, hm⟩ : ∃ m, f2.length = m := ⟨_, rfl⟩
      rw [hm] at O7 P7 ⊢
      have HM := Lib.hid hm
      clear hm
      rcases Nat.eq_zero_or_pos m with rfl | hpos
      · go_wp2_with fail
        refine wp_loop_rounds 1 ?_
        rw [rounds_succ]
        go_wp2_with fail
        refine (KNOWN.out _ HB7.out).mono ?_; rintro e w8 ⟨rfl, q8⟩
        have Q8 := Lib.hid q8
        clear q8
        go_wp2_with fail
        go_ret
        exact ⟨rfl, Q8.out⟩
      · have hne : f2 ≠ [] := fun e => by have := HM.out; rw [e] at this; simp at this; omega
        have hpi : (0 : Int) < (m : Int) := by omega
        have hpp := T3.out hne
        have hne' := hne
        subst hpp
        clear hne
        have pb := PB.out hne'
        have w1 : IntKind.i64.wrap (1001 - p2) = 1001 - p2 := by rw [IntKind.wrap_i64]; omega
        clear pb hne'
        go_wp2_with fail
        go_loopw [92] (fun i wi => ∃ j : Nat, j ≤ m ∧ i = .int .i64 j ∧ Fr (fun _ : Nat => False) w7 wi) (fun i _ => m - (intOf i).toNat)
        case atStart => exact ⟨0, Nat.zero_le _, rfl, Fr.refl _ _⟩
        case round =>
          obtain ⟨j, hj, rfl, hf⟩ := hrel
          have F1 := Lib.hid hf
          clear hf
          by_cases hlt2 : j < m
          case neg =>
            obtain rfl : j = m := by omega
            go_wp2_with fail
            refine (KNOWN.out _ (FIN.out _ F1.out)).mono ?_; rintro e w8 ⟨rfl, q8⟩
            have Q8 := Lib.hid q8
            clear q8
            go_wp2_with fail
            go_ret
            exact ⟨rfl, Q8.out⟩
          case pos =>
            have hd2 : decide ((j : Int) < (m : Int)) = true := decide_eq_true (by omega)
            have hlen : j < f2.length := by have := HM.out; omega
            obtain ⟨t, ht⟩ : ∃ t, f2[j]? = some t := ⟨f2[j], List.getElem?_eq_getElem hlen⟩
            clear hlen
            obtain ⟨b1, cc1, eb1⟩ := gown_slot O7.out (by have := HM.out; omega)
            obtain ⟨b2, cc2, eb2⟩ := gown_slot P7.out (by have := HM.out; omega)
            injection eb1 with eA1 _ ec1
            injection eb2 with eA2 _ ec2
            subst eA1 ec1 eA2 ec2
            have hcap := gown_cap O7.out
            have LA := Lib.hid fun (U : World) (f : Fr (fun _ : Nat => False) w7 U) => (show U.rangeAt b1 (j * 3) (EF.cells t) from gown_rng (gown_fr O7.out f (fun _ _ h => h)) ht)
            have LB := Lib.hid fun (U : World) (f : Fr (fun _ : Nat => False) w7 U) => (show U.rangeAt b2 (j * 3) (EF.cells t) from gown_rng (gown_fr P7.out f (fun _ _ h => h)) ht)
            have OKT := Lib.hid (FOK.out t (List.mem_of_getElem? ht))
            have ey := eqF_yes t
            clear ht
            go_wp2_with fail
            refine wp_region_held_drew (S := fun U => Fr (fun _ : Nat => False) w7 U) (by kernel_rfl) (F1.out.drewN 1) (fun hH => ?_)
            refine wpAnyH_take (i := 0) (v := .slice (some ⟨b1, 0, none⟩) m c6) rfl (by kernel_rfl) (by kernel_rfl) (by kernel_rfl) (fun _ _ _ h => h) (.inl ⟨by rfl, ?_⟩) (by assumption) ?_
            · intro W hW; go_simp
            try simp only [List.getElem_toArray, List.getElem_cons_zero, Act.put, List.setIfInBounds_toArray, List.set_cons_zero, List.set_cons_succ]
            refine wpAnyH_take (i := 1) (v := .int .i64 j) rfl (by kernel_rfl) (by kernel_rfl) (by kernel_rfl) (fun _ _ _ h => h) (.inl ⟨by rfl, ?_⟩) (by assumption) ?_
            · intro W hW; go_simp
            try simp only [List.getElem_toArray, List.getElem_cons_zero, List.getElem_cons_succ, Act.put, List.setIfInBounds_toArray, List.set_cons_zero, List.set_cons_succ]
            refine wpAnyH_take (i := 2) (v := .pointer (some ⟨b1, j * 3, none⟩)) rfl (by kernel_rfl) (by kernel_rfl) (by kernel_rfl) (fun _ _ _ h => h) (.inl ⟨by rfl, ?_⟩) (by assumption) ?_
            · intro W hW; go_simp
            try simp only [List.getElem_toArray, List.getElem_cons_zero, List.getElem_cons_succ, Act.put, List.setIfInBounds_toArray, List.set_cons_zero, List.set_cons_succ]
            refine wpAnyH_take (i := 3) (v := .agg (EF.cells t).toArray) rfl (by kernel_rfl) (by kernel_rfl) (by kernel_rfl) (fun _ _ _ h => h) (gyields_load TF (by rfl) (.tmp 97) rfl b1 (j * 3) rfl (fun U hU => LA.out U hU)) (by assumption) ?_
            try simp only [List.getElem_toArray, List.getElem_cons_zero, List.getElem_cons_succ, Act.put, List.setIfInBounds_toArray, List.set_cons_zero, List.set_cons_succ]
            refine wpAnyH_take (i := 4) (v := .slice (some ⟨b2, 0, none⟩) m c7) rfl (by kernel_rfl) (by kernel_rfl) (by kernel_rfl) (fun _ _ _ h => h) (.inl ⟨by rfl, ?_⟩) (by assumption) ?_
            · intro W hW; go_simp
            try simp only [List.getElem_toArray, List.getElem_cons_zero, List.getElem_cons_succ, Act.put, List.setIfInBounds_toArray, List.set_cons_zero, List.set_cons_succ]
            refine wpAnyH_take (i := 5) (v := .int .i64 j) rfl (by kernel_rfl) (by kernel_rfl) (by kernel_rfl) (fun _ _ _ h => h) (.inl ⟨by rfl, ?_⟩) (by assumption) ?_
            · intro W hW; go_simp
            try simp only [List.getElem_toArray, List.getElem_cons_zero, List.getElem_cons_succ, Act.put, List.setIfInBounds_toArray, List.set_cons_zero, List.set_cons_succ]
            refine wpAnyH_take (i := 6) (v := .pointer (some ⟨b2, j * 3, none⟩)) rfl (by kernel_rfl) (by kernel_rfl) (by kernel_rfl) (fun _ _ _ h => h) (.inl ⟨by rfl, ?_⟩) (by assumption) ?_
            · intro W hW; go_simp
            try simp only [List.getElem_toArray, List.getElem_cons_zero, List.getElem_cons_succ, Act.put, List.setIfInBounds_toArray, List.set_cons_zero, List.set_cons_succ]
            refine wpAnyH_take (i := 7) (v := .agg (EF.cells t).toArray) rfl (by kernel_rfl) (by kernel_rfl) (by kernel_rfl) (fun _ _ _ h => h) (gyields_load TF (by rfl) (.tmp 101) rfl b2 (j * 3) rfl (fun U hU => LB.out U hU)) (by assumption) ?_
            try simp only [List.getElem_toArray, List.getElem_cons_zero, List.getElem_cons_succ, Act.put, List.setIfInBounds_toArray, List.set_cons_zero, List.set_cons_succ]
            refine wpAnyH_take (i := 8) (v := .bool !(eqF t t)) rfl (by kernel_rfl) (by kernel_rfl) (by kernel_rfl) (fun _ _ _ h => h) (yields_neq_fl (by rfl) _ _ rfl OKT.out OKT.out rfl rfl) (by assumption) ?_
            try simp only [List.getElem_toArray, List.getElem_cons_zero, List.getElem_cons_succ, Act.put, List.setIfInBounds_toArray, List.set_cons_zero, List.set_cons_succ]
            refine wpAnyH_done (by decide +kernel) ?_ _
            rw [ey]
            go_wp2_with fail
            go_roundw
            case rel => exact ⟨j + 1, hlt2, by go_num, hH⟩
            case measure => simp [intOf]; omega
    case pos =>
      have hdk : decide ((k : Int) < n) = true := decide_eq_true (by omega)
      have hki : (k : Int) < (n : Int) := by omega
      obtain ⟨x, hx⟩ : ∃ x, l[k]? = some x := ⟨l[k]'(by have := HL.out; omega), List.getElem?_eq_getElem _⟩
      obtain ⟨bb, o, rfl, rg⟩ := grd_rng (HR.out wr HB.out) hx
      have hN5 : EO.N = 5 := rfl
      rw [hN5] at rg
      have RG := Lib.hid rg
      have HX := Lib.hid hx
      have OKX := Lib.hid (HK.out x (List.mem_of_getElem? hx))
      have X1 := Lib.hid (gbx_new (E := EO) (te := 31) wr zeroOr)
      obtain ⟨W2, hW2⟩ : ∃ W2, (wr.alloc (.cells (EO.cells zeroOr).toArray 31)).setRow wr.heap.size (EO.cells x).toArray = W2 := ⟨_, rfl⟩
      have y2 : EO.Bx 31 W2 wr.heap.size x := by rw [← hW2]; exact gbx_set X1.out
      have B2 : Hid (Below wr.heap.size wr W2) := Lib.hid (by rw [← hW2]; exact below_row0 (below_new _ _) (Nat.le_refl _))
      have k3 : W2.cell? ⟨wr.heap.size, 3, none⟩ = some (.int .i64 x.pr) := gbx_cell y2 3
      have Y2 := Lib.hid y2
      have G2 : Hid (wr.heap.size < W2.heap.size) := Lib.hid (Array.getElem?_eq_some_iff.1 y2).1
      have HW2 := Lib.hid hW2
      clear hx rg hN5 y2 hW2
      cases c2 : decide (x.pr < 1)
      case true =>
        go_wp2_with (first | ((with_reducible refine gwl_load TO bb (o + k * 5) RG.out ?_ ?_ ?_); rfl; rfl) | (refine gwl_store TO x wr.heap.size X1.out rfl rfl ?_; rw [HW2.out]))
        refine (KNOWN.out _ (HB.out.trans (B2.out.mono HB.out.size))).mono ?_; rintro e w9 ⟨rfl, q9⟩
        have Q9 := Lib.hid q9
        clear q9
        go_wp2_with fail
        go_ret
        exact ⟨rfl, Q9.out⟩
      cases c3 : decide (1000 < x.pr)
      case true =>
        go_wp2_with (first | ((with_reducible refine gwl_load TO bb (o + k * 5) RG.out ?_ ?_ ?_); rfl; rfl) | (refine gwl_store TO x wr.heap.size X1.out rfl rfl ?_; rw [HW2.out]))
        refine (KNOWN.out _ (HB.out.trans (B2.out.mono HB.out.size))).mono ?_; rintro e w9 ⟨rfl, q9⟩
        have Q9 := Lib.hid q9
        clear q9
        go_wp2_with fail
        go_ret
        exact ⟨rfl, Q9.out⟩
      have X3 := Lib.hid (gbx_new (E := EO) (te := 31) W2 zeroOr)
      obtain ⟨W4, hW4⟩ : ∃ W4, (W2.alloc (.cells (EO.cells zeroOr).toArray 31)).setRow W2.heap.size (EO.cells x).toArray = W4 := ⟨_, rfl⟩
      have y4 : EO.Bx 31 W4 W2.heap.size x := by rw [← hW4]; exact gbx_set X3.out
      have b4 : Below W2.heap.size W2 W4 := by rw [← hW4]; exact below_row0 (below_new _ _) (Nat.le_refl _)
      have z4 : EO.Bx 31 W4 wr.heap.size x := gbx_below Y2.out b4
      have k3' : W4.cell? ⟨wr.heap.size, 3, none⟩ = some (.int .i64 x.pr) := gbx_cell z4 3
      have kfa := fun j => gbx_fz z4 j
      have kfb := fun j => gbx_fz y4 j
      have ne : wr.heap.size ≠ W2.heap.size := by have := G2.out; omega
      obtain ⟨W5, hW5⟩ : ∃ W5, ((W4.setCell ⟨wr.heap.size, 2, none⟩ (.bool true)).setCell ⟨W2.heap.size, 2, none⟩ (.bool false)).setCell ⟨W2.heap.size, 3, none⟩ (.int .i64 (1001 - x.pr)) = W5 := ⟨_, rfl⟩
      have zz5 : EO.Bx 31 (W4.setCell ⟨wr.heap.size, 2, none⟩ (.bool true)) wr.heap.size (tb8 x) := gbx_put z4 (i := 2) rfl
      have yy5 : EO.Bx 31 (W4.setCell ⟨wr.heap.size, 2, none⟩ (.bool true)) W2.heap.size x := (heap_setCell_other W4 _ _ _ (Ne.symm ne)).trans y4
      have yy6 : EO.Bx 31 ((W4.setCell ⟨wr.heap.size, 2, none⟩ (.bool true)).setCell ⟨W2.heap.size, 2, none⟩ (.bool false)) W2.heap.size ⟨x.nu, x.ac, false, x.pr, x.le⟩ := gbx_put yy5 (i := 2) rfl
      have Y5 : Hid (EO.Bx 31 W5 W2.heap.size (tu8 x)) := Lib.hid (by rw [← hW5]; exact gbx_put yy6 (i := 3) rfl)
      have Z5 : Hid (EO.Bx 31 W5 wr.heap.size (tb8 x)) := Lib.hid (by rw [← hW5]; exact (heap_setCell_other _ _ _ _ ne).trans ((heap_setCell_other _ _ _ _ ne).trans zz5))
      have B5 : Hid (Below wr.heap.size wr W5) := Lib.hid (by rw [← hW5]; exact (((B2.out.trans (b4.mono B2.out.size)).setCell (Nat.le_refl _) _).setCell B2.out.size _).setCell B2.out.size _)
      have HW4 := Lib.hid hW4
      have HW5 := Lib.hid hW5
      have Y2R := Lib.hid (gbx_rng Y2.out)
      have OA := Lib.hid (gown_below OA0.out B5.out)
      have OB := Lib.hid (gown_below OB0.out B5.out)
      have VA : Hid (∀ j, va.ownBlock = some j → j < wr.heap.size) := Lib.hid fun j hj => (gown_lt OA0.out hj).2
      have VB : Hid (∀ j, vb.ownBlock = some j → j < wr.heap.size) := Lib.hid fun j hj => (gown_lt OB0.out hj).2
      have hS5 := B5.out.size
      have hS0 := HB.out.size
      have hS2 := G2.out
      have htl : (l.take k).length ≤ 50 := by rw [List.length_take]; omega
      have XA := Lib.hid fun (U : World) (f : Fr (fun k => va.ownBlock = some k ∨ vb.ownBlock = some k) W5 U) => (show U.rangeAt wr.heap.size 0 (EO.cells (tb8 x)) from gbx_rng ((f.at' _ (Array.getElem?_eq_some_iff.1 Z5.out).1 (fun h => by rcases h with h | h; have := VA.out _ h; omega; have := VB.out _ h; omega)).trans Z5.out))
      have XB := Lib.hid fun (U : World) (f : Fr (fun k => va.ownBlock = some k ∨ vb.ownBlock = some k) W5 U) => (show U.rangeAt W2.heap.size 0 (EO.cells (tu8 x)) from gbx_rng ((f.at' _ (Array.getElem?_eq_some_iff.1 Y5.out).1 (fun h => by rcases h with h | h; have := VA.out _ h; omega; have := VB.out _ h; omega)).trans Y5.out))
      have FIN : Hid (∀ v1 v2 U, EO.Own 31 U w.heap.size v1 ((l.take k).map tb8 ++ [tb8 x]) → EO.Own 31 U w.heap.size v2 ((l.take k).map tu8 ++ [tu8 x]) → (∀ k, v1.ownBlock = some k → v2.ownBlock = some k → False) → Fr (fun k => va.ownBlock = some k ∨ vb.ownBlock = some k) W5 U → ∃ (k' : Nat) (va vb : Value), k' ≤ n ∧ Value.int .i64 ((k : Int) + 1) = .int .i64 (k' : Nat) ∧ va = v1 ∧ vb = v2 ∧ EO.Own 31 U w.heap.size va ((l.take k').map tb8) ∧ EO.Own 31 U w.heap.size vb ((l.take k').map tu8) ∧ (∀ k, va.ownBlock = some k → vb.ownBlock = some k → False) ∧ Below w.heap.size w U ∧ ∀ x, x ∈ l.take k' → 1 ≤ x.pr ∧ x.pr ≤ 1000) := Lib.hid fun v1 v2 U a1 a2 ap f => by
        have e := take_snoc8 HX.out
        refine ⟨k + 1, v1, v2, hlt, by go_num, rfl, rfl, by rw [e, List.map_append]; exact a1, by rw [e, List.map_append]; exact a2, ap, below_fr8 (HB.out.trans (B5.out.mono HB.out.size)) f (fun j hj => ?_) (Nat.le_trans hS0 hS5), fun y hy => ?_⟩
        · rcases hj with hj | hj
          · exact (gown_lt OA0.out hj).1
          · exact (gown_lt OB0.out hj).1
        · rw [e, List.mem_append, List.mem_singleton] at hy
          rcases hy with hy | rfl
          · exact HP.out y hy
          · have := of_decide_eq_false c2
            have := of_decide_eq_false c3
            omega
      have wq : IntKind.i64.wrap (1001 - x.pr) = 1001 - x.pr := by
        have := of_decide_eq_false c2
        have := of_decide_eq_false c3
        rw [IntKind.wrap_i64]; omega
      have kfr := fun j => (show (W4.setCell ⟨wr.heap.size, 2, none⟩ (.bool true)).frozen? ⟨W2.heap.size, j, none⟩ = false from gbx_fz yy5 j)
      have kfr2 := fun j => (show ((W4.setCell ⟨wr.heap.size, 2, none⟩ (.bool true)).setCell ⟨W2.heap.size, 2, none⟩ (.bool false)).frozen? ⟨W2.heap.size, j, none⟩ = false from gbx_fz yy6 j)
      have kc2 : W4.cell? ⟨wr.heap.size, 2, none⟩ = some (.bool x.bu) := gbx_cell z4 2
      have kd2 : (W4.setCell ⟨wr.heap.size, 2, none⟩ (.bool true)).cell? ⟨W2.heap.size, 2, none⟩ = some (.bool x.bu) := gbx_cell yy5 2
      have ke3 : ((W4.setCell ⟨wr.heap.size, 2, none⟩ (.bool true)).setCell ⟨W2.heap.size, 2, none⟩ (.bool false)).cell? ⟨W2.heap.size, 3, none⟩ = some (.int .i64 x.pr) := gbx_cell yy6 3
      clear y4 b4 z4 zz5 yy5 yy6 hW4 hW5
      go_upto_region 12 with (first | ((with_reducible refine gwl_load TO bb (o + k * 5) RG.out ?_ ?_ ?_); rfl; rfl) | ((with_reducible refine gwl_load TO wr.heap.size 0 Y2R.out ?_ ?_ ?_); rfl; rfl) | (refine gwl_store TO x wr.heap.size X1.out rfl rfl ?_; rw [HW2.out]) | (refine gwl_store TO x W2.heap.size X3.out rfl rfl ?_; rw [HW4.out]))
      rw [HW5.out]
      clear k3 k3' kfa kfb kfr kfr2 kc2 kd2 ke3
      refine wp_region_held_drew (S := fun U => Fr (fun k => va.ownBlock = some k ∨ vb.ownBlock = some k) W5 U) (by kernel_rfl) ((Fr.refl _ _).drewN 1) (fun hH => ?_)
      refine wpAnyH_take (i := 0) (v := va) rfl (by kernel_rfl) (by kernel_rfl) (by kernel_rfl) (fun _ _ _ h => h) (.inl ⟨by rfl, ?_⟩) (by assumption) ?_
      · intro W hW; go_simp
      try simp only [List.getElem_toArray, List.getElem_cons_zero, Act.put, List.setIfInBounds_toArray, List.set_cons_zero, List.set_cons_succ]
      refine wpAnyH_take (i := 1) (v := .agg (EO.cells (tb8 x)).toArray) rfl (by kernel_rfl) (by kernel_rfl) (by kernel_rfl) (fun _ _ _ h => h) (gyields_load TO (by rfl) (.tmp 8) rfl wr.heap.size 0 rfl (fun U hU => XA.out U hU)) (by assumption) ?_
      try simp only [List.getElem_toArray, List.getElem_cons_zero, List.getElem_cons_succ, Act.put, List.setIfInBounds_toArray, List.set_cons_zero, List.set_cons_succ]
      refine wpAnyH_take (i := 4) (v := vb) rfl (by kernel_rfl) (by kernel_rfl) (by kernel_rfl) (fun _ _ _ h => h) (.inl ⟨by rfl, ?_⟩) (by assumption) ?_
      · intro W hW; go_simp
      try simp only [List.getElem_toArray, List.getElem_cons_zero, List.getElem_cons_succ, Act.put, List.setIfInBounds_toArray, List.set_cons_zero, List.set_cons_succ]
      refine wpAnyH_take (i := 5) (v := .agg (EO.cells (tu8 x)).toArray) rfl (by kernel_rfl) (by kernel_rfl) (by kernel_rfl) (fun _ _ _ h => h) (gyields_load TO (by rfl) (.tmp 9) rfl W2.heap.size 0 rfl (fun U hU => XB.out U hU)) (by assumption) ?_
      try simp only [List.getElem_toArray, List.getElem_cons_zero, List.getElem_cons_succ, Act.put, List.setIfInBounds_toArray, List.set_cons_zero, List.set_cons_succ]
      have oa := gown_same (W := W5.drew) OA.out (fun _ _ => rfl)
      have ob := gown_same (W := W5.drew) OB.out (fun _ _ => rfl)
      refine wpAnyH_ready (rs := [2, 6]) (by decide +kernel) (by simp) (AllReadyH.cons rfl (fun KQ hK => ?_) (AllReadyH.cons rfl (fun KQ hK => ?_) (AllReadyH.nil)))
      · rw [if_pos (by rfl)]
        refine gwp_bs TO rfl (s := tb8 x) rfl (fill_or8 _) ?_ (by decide)
        have xp := bx_of8 hH (tb8 x)
        have hlp := hH.size
        have hH1 := fr_alloc8 hH (.cells (EO.cells (tb8 x)).toArray 31)
        replace oa := gown_below oa (below_new _ (.cells (EO.cells (tb8 x)).toArray 31))
        replace ob := gown_below ob (below_new _ (.cells (EO.cells (tb8 x)).toArray 31))
        refine hK.out _ _ hH1 (fun _ => ?_)
        clear hK hH
        have hH := hH1
        clear hH1
        try simp only [List.getElem_toArray, List.getElem_cons_zero, List.getElem_cons_succ, Act.put, List.setIfInBounds_toArray, List.set_cons_zero, List.set_cons_succ]
        refine wpAnyH_ready (rs := [3, 6]) (by decide +kernel) (by simp) (AllReadyH.cons rfl (fun KQ hK => ?_) (AllReadyH.cons rfl (fun KQ hK => ?_) (AllReadyH.nil)))
        · rw [if_pos (by rfl)]
          have hlU := hH.size
          refine gwp_app TO _ _ rfl w.heap.size va _ rfl oa _ 1 1 [tb8 x] rfl (gbx_rd xp) (fun e => by cases e) (by simp; omega) (by omega) ?_
          intro v1 w2 o1 g1 e1
          have hH1 := hH.same (Fr.grown g1 (fun k hk => .inl hk))
          replace ob := gown_fr ob (Fr.grown (S := fun k => va.ownBlock = some k) g1 (fun k hk => hk)) (fun k hk e => AP.out k e hk)
          have ap1 : ∀ k, v1.ownBlock = some k → vb.ownBlock = some k → False := fun k hk hv => by
              rcases e1 with e1 | e1
              · exact AP.out k (by rw [← e1]; exact hk) hv
              · have := VB.out k hv; rw [hk] at e1; injection e1 with e1; omega
          refine hK.out _ _ hH1 (fun _ => ?_)
          clear hK hH
          have hH := hH1
          clear hH1
          try simp only [List.getElem_toArray, List.getElem_cons_zero, List.getElem_cons_succ, Act.put, List.setIfInBounds_toArray, List.set_cons_zero, List.set_cons_succ]
          refine wpAnyH_ready (rs := [6]) (by decide +kernel) (by simp) (AllReadyH.cons rfl (fun KQ hK => ?_) (AllReadyH.nil))
          rw [if_pos (by rfl)]
          refine gwp_bs TO rfl (s := tu8 x) rfl (fill_or8 _) ?_ (by decide)
          have xq := bx_of8 hH (tu8 x)
          have hlq := hH.size
          have hH1 := fr_alloc8 hH (.cells (EO.cells (tu8 x)).toArray 31)
          replace o1 := gown_below o1 (below_new _ (.cells (EO.cells (tu8 x)).toArray 31))
          replace ob := gown_below ob (below_new _ (.cells (EO.cells (tu8 x)).toArray 31))
          refine hK.out _ _ hH1 (fun _ => ?_)
          clear hK hH
          have hH := hH1
          clear hH1
          try simp only [List.getElem_toArray, List.getElem_cons_zero, List.getElem_cons_succ, Act.put, List.setIfInBounds_toArray, List.set_cons_zero, List.set_cons_succ]
          refine wpAnyH_ready (rs := [7]) (by decide +kernel) (by simp) (AllReadyH.cons rfl (fun KQ hK => ?_) (AllReadyH.nil))
          rw [if_pos (by rfl)]
          have hlU2 := hH.size
          refine gwp_app TO _ _ rfl w.heap.size vb _ rfl ob _ 1 1 [tu8 x] rfl (gbx_rd xq) (fun e => by cases e) (by simp; omega) (by omega) ?_
          intro v2 w3 o2 g2 e2
          have hH1 := hH.same (Fr.grown g2 (fun k hk => .inr hk))
          have lt1 : ∀ k, v1.ownBlock = some k → k < _ := fun k hk => (gown_lt o1 hk).2
          replace o1 := gown_fr o1 (Fr.grown (S := fun k => vb.ownBlock = some k) g2 (fun k hk => hk)) (fun k hk e => ap1 k hk e)
          have ap2 : ∀ k, v1.ownBlock = some k → v2.ownBlock = some k → False := fun k hk hv => by
              rcases e2 with e2 | e2
              · exact ap1 k hk (by rw [← e2]; exact hv)
              · have := lt1 k hk; rw [hv] at e2; injection e2 with e2; omega
          refine hK.out _ _ hH1 (fun _ => ?_)
          clear hK hH
          have hH := hH1
          clear hH1
          try simp only [List.getElem_toArray, List.getElem_cons_zero, List.getElem_cons_succ, Act.put, List.setIfInBounds_toArray, List.set_cons_zero, List.set_cons_succ]
          refine wpAnyH_take (i := 8) (v := v1) rfl (by kernel_rfl) (by kernel_rfl) (by kernel_rfl) (fun _ _ _ h => h) (.inl ⟨by rfl, ?_⟩) (by assumption) ?_
          · intro W hW; go_simp
          try simp only [List.getElem_toArray, List.getElem_cons_zero, List.getElem_cons_succ, Act.put, List.setIfInBounds_toArray, List.set_cons_zero, List.set_cons_succ]
          refine wpAnyH_take (i := 9) (v := v2) rfl (by kernel_rfl) (by kernel_rfl) (by kernel_rfl) (fun _ _ _ h => h) (.inl ⟨by rfl, ?_⟩) (by assumption) ?_
          · intro W hW; go_simp
          try simp only [List.getElem_toArray, List.getElem_cons_zero, List.getElem_cons_succ, Act.put, List.setIfInBounds_toArray, List.set_cons_zero, List.set_cons_succ]
          refine wpAnyH_done (by decide +kernel) ?_ _
          go_wp2_with fail
          go_roundw
          case rel => exact FIN.out _ _ _ o1 o2 ap2 hH
          case measure => simp [intOf]; omega
        · rw [if_pos (by rfl)]
          refine gwp_bs TO rfl (s := tu8 x) rfl (fill_or8 _) ?_ (by decide)
          have xq := bx_of8 hH (tu8 x)
          have hlq := hH.size
          have hH1 := fr_alloc8 hH (.cells (EO.cells (tu8 x)).toArray 31)
          replace xp := gbx_below xp (below_new _ (.cells (EO.cells (tu8 x)).toArray 31))
          replace oa := gown_below oa (below_new _ (.cells (EO.cells (tu8 x)).toArray 31))
          replace ob := gown_below ob (below_new _ (.cells (EO.cells (tu8 x)).toArray 31))
          refine hK.out _ _ hH1 (fun _ => ?_)
          clear hK hH
          have hH := hH1
          clear hH1
          try simp only [List.getElem_toArray, List.getElem_cons_zero, List.getElem_cons_succ, Act.put, List.setIfInBounds_toArray, List.set_cons_zero, List.set_cons_succ]
          refine wpAnyH_ready (rs := [3]) (by decide +kernel) (by simp) (AllReadyH.cons rfl (fun KQ hK => ?_) (AllReadyH.nil))
          rw [if_pos (by rfl)]
          have hlU := hH.size
          refine gwp_app TO _ _ rfl w.heap.size va _ rfl oa _ 1 1 [tb8 x] rfl (gbx_rd xp) (fun e => by cases e) (by simp; omega) (by omega) ?_
          intro v1 w2 o1 g1 e1
          have hH1 := hH.same (Fr.grown g1 (fun k hk => .inl hk))
          replace ob := gown_fr ob (Fr.grown (S := fun k => va.ownBlock = some k) g1 (fun k hk => hk)) (fun k hk e => AP.out k e hk)
          replace xq : EO.Bx 31 w2 _ (tu8 x) := (g1.block _ (Array.getElem?_eq_some_iff.1 xq).1 (fun e => by have := VA.out _ e.symm; omega)).trans xq
          have ap1 : ∀ k, v1.ownBlock = some k → vb.ownBlock = some k → False := fun k hk hv => by
              rcases e1 with e1 | e1
              · exact AP.out k (by rw [← e1]; exact hk) hv
              · have := VB.out k hv; rw [hk] at e1; injection e1 with e1; omega
          refine hK.out _ _ hH1 (fun _ => ?_)
          clear hK hH
          have hH := hH1
          clear hH1
          try simp only [List.getElem_toArray, List.getElem_cons_zero, List.getElem_cons_succ, Act.put, List.setIfInBounds_toArray, List.set_cons_zero, List.set_cons_succ]
          refine wpAnyH_ready (rs := [7]) (by decide +kernel) (by simp) (AllReadyH.cons rfl (fun KQ hK => ?_) (AllReadyH.nil))
          rw [if_pos (by rfl)]
          have hlU2 := hH.size
          refine gwp_app TO _ _ rfl w.heap.size vb _ rfl ob _ 1 1 [tu8 x] rfl (gbx_rd xq) (fun e => by cases e) (by simp; omega) (by omega) ?_
          intro v2 w3 o2 g2 e2
          have hH1 := hH.same (Fr.grown g2 (fun k hk => .inr hk))
          have lt1 : ∀ k, v1.ownBlock = some k → k < _ := fun k hk => (gown_lt o1 hk).2
          replace o1 := gown_fr o1 (Fr.grown (S := fun k => vb.ownBlock = some k) g2 (fun k hk => hk)) (fun k hk e => ap1 k hk e)
          have ap2 : ∀ k, v1.ownBlock = some k → v2.ownBlock = some k → False := fun k hk hv => by
              rcases e2 with e2 | e2
              · exact ap1 k hk (by rw [← e2]; exact hv)
              · have := lt1 k hk; rw [hv] at e2; injection e2 with e2; omega
          refine hK.out _ _ hH1 (fun _ => ?_)
          clear hK hH
          have hH := hH1
          clear hH1
          try simp only [List.getElem_toArray, List.getElem_cons_zero, List.getElem_cons_succ, Act.put, List.setIfInBounds_toArray, List.set_cons_zero, List.set_cons_succ]
          refine wpAnyH_take (i := 8) (v := v1) rfl (by kernel_rfl) (by kernel_rfl) (by kernel_rfl) (fun _ _ _ h => h) (.inl ⟨by rfl, ?_⟩) (by assumption) ?_
          · intro W hW; go_simp
          try simp only [List.getElem_toArray, List.getElem_cons_zero, List.getElem_cons_succ, Act.put, List.setIfInBounds_toArray, List.set_cons_zero, List.set_cons_succ]
          refine wpAnyH_take (i := 9) (v := v2) rfl (by kernel_rfl) (by kernel_rfl) (by kernel_rfl) (fun _ _ _ h => h) (.inl ⟨by rfl, ?_⟩) (by assumption) ?_
          · intro W hW; go_simp
          try simp only [List.getElem_toArray, List.getElem_cons_zero, List.getElem_cons_succ, Act.put, List.setIfInBounds_toArray, List.set_cons_zero, List.set_cons_succ]
          refine wpAnyH_done (by decide +kernel) ?_ _
          go_wp2_with fail
          go_roundw
          case rel => exact FIN.out _ _ _ o1 o2 ap2 hH
          case measure => simp [intOf]; omega
      · rw [if_pos (by rfl)]
        refine gwp_bs TO rfl (s := tu8 x) rfl (fill_or8 _) ?_ (by decide)
        have xq := bx_of8 hH (tu8 x)
        have hlq := hH.size
        have hH1 := fr_alloc8 hH (.cells (EO.cells (tu8 x)).toArray 31)
        replace oa := gown_below oa (below_new _ (.cells (EO.cells (tu8 x)).toArray 31))
        replace ob := gown_below ob (below_new _ (.cells (EO.cells (tu8 x)).toArray 31))
        refine hK.out _ _ hH1 (fun _ => ?_)
        clear hK hH
        have hH := hH1
        clear hH1
        try simp only [List.getElem_toArray, List.getElem_cons_zero, List.getElem_cons_succ, Act.put, List.setIfInBounds_toArray, List.set_cons_zero, List.set_cons_succ]
        refine wpAnyH_ready (rs := [2]) (by decide +kernel) (by simp) (AllReadyH.cons rfl (fun KQ hK => ?_) (AllReadyH.nil))
        rw [if_pos (by rfl)]
        refine gwp_bs TO rfl (s := tb8 x) rfl (fill_or8 _) ?_ (by decide)
        have xp := bx_of8 hH (tb8 x)
        have hlp := hH.size
        have hH1 := fr_alloc8 hH (.cells (EO.cells (tb8 x)).toArray 31)
        replace xq := gbx_below xq (below_new _ (.cells (EO.cells (tb8 x)).toArray 31))
        replace oa := gown_below oa (below_new _ (.cells (EO.cells (tb8 x)).toArray 31))
        replace ob := gown_below ob (below_new _ (.cells (EO.cells (tb8 x)).toArray 31))
        refine hK.out _ _ hH1 (fun _ => ?_)
        clear hK hH
        have hH := hH1
        clear hH1
        try simp only [List.getElem_toArray, List.getElem_cons_zero, List.getElem_cons_succ, Act.put, List.setIfInBounds_toArray, List.set_cons_zero, List.set_cons_succ]
        refine wpAnyH_ready (rs := [3]) (by decide +kernel) (by simp) (AllReadyH.cons rfl (fun KQ hK => ?_) (AllReadyH.nil))
        rw [if_pos (by rfl)]
        have hlU := hH.size
        refine gwp_app TO _ _ rfl w.heap.size va _ rfl oa _ 1 1 [tb8 x] rfl (gbx_rd xp) (fun e => by cases e) (by simp; omega) (by omega) ?_
        intro v1 w2 o1 g1 e1
        have hH1 := hH.same (Fr.grown g1 (fun k hk => .inl hk))
        replace ob := gown_fr ob (Fr.grown (S := fun k => va.ownBlock = some k) g1 (fun k hk => hk)) (fun k hk e => AP.out k e hk)
        replace xq : EO.Bx 31 w2 _ (tu8 x) := (g1.block _ (Array.getElem?_eq_some_iff.1 xq).1 (fun e => by have := VA.out _ e.symm; omega)).trans xq
        have ap1 : ∀ k, v1.ownBlock = some k → vb.ownBlock = some k → False := fun k hk hv => by
            rcases e1 with e1 | e1
            · exact AP.out k (by rw [← e1]; exact hk) hv
            · have := VB.out k hv; rw [hk] at e1; injection e1 with e1; omega
        refine hK.out _ _ hH1 (fun _ => ?_)
        clear hK hH
        have hH := hH1
        clear hH1
        try simp only [List.getElem_toArray, List.getElem_cons_zero, List.getElem_cons_succ, Act.put, List.setIfInBounds_toArray, List.set_cons_zero, List.set_cons_succ]
        refine wpAnyH_ready (rs := [7]) (by decide +kernel) (by simp) (AllReadyH.cons rfl (fun KQ hK => ?_) (AllReadyH.nil))
        rw [if_pos (by rfl)]
        have hlU2 := hH.size
        refine gwp_app TO _ _ rfl w.heap.size vb _ rfl ob _ 1 1 [tu8 x] rfl (gbx_rd xq) (fun e => by cases e) (by simp; omega) (by omega) ?_
        intro v2 w3 o2 g2 e2
        have hH1 := hH.same (Fr.grown g2 (fun k hk => .inr hk))
        have lt1 : ∀ k, v1.ownBlock = some k → k < _ := fun k hk => (gown_lt o1 hk).2
        replace o1 := gown_fr o1 (Fr.grown (S := fun k => vb.ownBlock = some k) g2 (fun k hk => hk)) (fun k hk e => ap1 k hk e)
        have ap2 : ∀ k, v1.ownBlock = some k → v2.ownBlock = some k → False := fun k hk hv => by
            rcases e2 with e2 | e2
            · exact ap1 k hk (by rw [← e2]; exact hv)
            · have := lt1 k hk; rw [hv] at e2; injection e2 with e2; omega
        refine hK.out _ _ hH1 (fun _ => ?_)
        clear hK hH
        have hH := hH1
        clear hH1
        try simp only [List.getElem_toArray, List.getElem_cons_zero, List.getElem_cons_succ, Act.put, List.setIfInBounds_toArray, List.set_cons_zero, List.set_cons_succ]
        refine wpAnyH_take (i := 8) (v := v1) rfl (by kernel_rfl) (by kernel_rfl) (by kernel_rfl) (fun _ _ _ h => h) (.inl ⟨by rfl, ?_⟩) (by assumption) ?_
        · intro W hW; go_simp
        try simp only [List.getElem_toArray, List.getElem_cons_zero, List.getElem_cons_succ, Act.put, List.setIfInBounds_toArray, List.set_cons_zero, List.set_cons_succ]
        refine wpAnyH_take (i := 9) (v := v2) rfl (by kernel_rfl) (by kernel_rfl) (by kernel_rfl) (fun _ _ _ h => h) (.inl ⟨by rfl, ?_⟩) (by assumption) ?_
        · intro W hW; go_simp
        try simp only [List.getElem_toArray, List.getElem_cons_zero, List.getElem_cons_succ, Act.put, List.setIfInBounds_toArray, List.set_cons_zero, List.set_cons_succ]
        refine wpAnyH_done (by decide +kernel) ?_ _
        go_wp2_with fail
        go_roundw
        case rel => exact FIN.out _ _ _ o1 o2 ap2 hH
        case measure => simp [intOf]; omega
end Go.Proofs.Ytcjianjnedbjkaa
