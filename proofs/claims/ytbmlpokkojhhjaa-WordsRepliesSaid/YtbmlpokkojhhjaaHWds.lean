/- WordsReplies, walked (by genWds.py). -/
import Derived.Test.YtbmlpokkojhhjaaG32
import Derived.Test.YtbmlpokkojhhjaaG12
namespace Go.Proofs.Ytbmlpokkojhhjaa
open Go.RowKit
set_option linter.unusedVariables false
set_option linter.unusedSimpArgs false

theorem flat_len15 {α : Type} {f : α → List Int} {P : α → Prop} {m : Nat} (hf : ∀ x, P x → (f x).length ≤ m) : ∀ l : List α, (∀ x, x ∈ l → P x) → (l.flatMap f).length ≤ m * l.length
  | [], _ => by simp
  | x :: l, h => by
    have h1 := hf x (h x (by simp))
    have h2 := flat_len15 hf l fun y hy => h y (by simp [hy])
    rw [List.flatMap_cons, List.length_append, List.length_cons, Nat.mul_add, Nat.mul_one]
    omega
theorem formR_len15 {r : Rw} (ok : r.ok) (he : 0 ≤ r.er) (hl : r.tr.length ≤ 300 ∧ r.go.length ≤ 300 ∧ r.ac.length ≤ 300) : (formR r).length ≤ 100000 := by
  have h0 : (nb r.er.toNat).length ≤ 10 := nb_len15 (by have := ok.er; unfold I64 at this; omega)
  have h1 : (nb r.nu.toNat).length ≤ 10 := nb_len15 ok.nu
  have h2 := ib_len ok.fi
  have h3 := ib_len ok.le
  have t1 := flat_len15 (f := trF) (P := Tw.ok) (m := 40) (fun t o => by
    have a := ib_len o.px
    have b := ib_len o.qt
    have c := nb_len15 o.nu
    have d : (nb t.ac.toNat).length ≤ 10 := nb_len15 (by have := o.ac; omega)
    unfold trF
    simp only [List.length_append]
    omega) r.tr ok.tr
  have t2 := flat_len15 (f := nF) (P := fun n => 0 ≤ n ∧ n ≤ 18446744073709551615) (m := 10) (fun n o => nb_len15 o) r.go ok.go
  have t3 := flat_len15 (f := nF) (P := fun n => 0 ≤ n ∧ n ≤ 4294967295) (m := 10) (fun n o => nb_len15 (by omega)) r.ac ok.ac
  have n1 : (nb r.tr.length).length ≤ 10 := nb_ten (by omega)
  have n2 : (nb r.go.length).length ≤ 10 := nb_ten (by omega)
  have n3 : (nb r.ac.length).length ≤ 10 := nb_ten (by omega)
  unfold formR lstF
  rw [List.length_append]
  split
  · simp only [List.length_append]
    omega
  · simp only [List.length_nil]
    omega
set_option maxRecDepth 100000 in
set_option maxHeartbeats 64000000 in
theorem reps15_all (K : WordsK) (v u : Rv) (r s : Rw) (w : World) (vo : v.ok) (vi : v.In w r) (ro : r.ok) (uo : u.ok) (ui : u.In w s) (so : s.ok) : Calls Try.prog 4 #[.agg (ERv.cells v).toArray, .agg (ERv.cells u).toArray] w fun e w' => e = .returned (.bool true) ∧ Below w.heap.size w w' := by
  have hzr := zero_rv15
  have KN := Lib.hid fun W => known15 K W
  have L1 := Lib.hid fun W => large15 v W vo
  have L2 := Lib.hid fun W => large15 u W uo
  have HK := Lib.hid K
  obtain ⟨W1, W2, h1, h2, x1, x2, b2⟩ := two_box15 v u w
  obtain ⟨g1, hg1⟩ : ∃ g, w.heap.size = g := ⟨_, rfl⟩
  obtain ⟨g2, hg2⟩ : ∃ g, W1.heap.size = g := ⟨_, rfl⟩
  rw [hg1] at x1
  rw [hg2] at x2
  have X1 := Lib.hid fun (W : World) (q : Below W2.heap.size W2 W) => gbx_rng (gbx_below x1 q)
  have X2 := Lib.hid fun (W : World) (q : Below W2.heap.size W2 W) => gbx_rng (gbx_below x2 q)
  have VI := Lib.hid fun (W : World) (q : Below W2.heap.size W2 W) => (show v.In W r from (vi.below b2).below q)
  have UI := Lib.hid fun (W : World) (q : Below W2.heap.size W2 W) => (show u.In W s from (ui.below b2).below q)
  have VO := Lib.hid vo
  have UO := Lib.hid uo
  have RO := Lib.hid ro
  have SO := Lib.hid so
  have ln1 := vi.tr.1
  have ln2 := vi.go.1
  have ln3 := vi.ac.1
  have B2 := Lib.hid b2
  have HW1 := Lib.hid h1
  have HW2 := Lib.hid h2
  have HG1 := Lib.hid hg1
  have HG2 := Lib.hid hg2
  clear K h1 h2 x1 x2 b2 hg1 hg2 vo uo ro so vi ui
  go_enter Try.func4, Try.ntmps4
  go_wp2_with (first | (rw [HW1.out, HG1.out]) | (rw [HW2.out, HG2.out]) | ((with_reducible refine rwl_load TRv g1 0 (X1.out W2 (Below.refl _ _)) ?_ ?_ ?_); rfl; rfl))
  refine (L1.out _).mono ?_; rintro e w3 ⟨rfl, q3⟩
  have H3 := Lib.hid q3
  clear q3
  cases l1 : lrgB v
  case true =>
    go_wp2_with fail
    refine (KN.out _).mono ?_; rintro e w9 ⟨rfl, q9⟩
    have qq := H3.out.trans (q9.mono H3.out.size)
    have Q9 := Lib.hid (B2.out.trans (qq.mono B2.out.size))
    clear q9 qq
    go_wp2_with fail
    go_ret
    exact ⟨rfl, HG1.out ▸ Q9.out⟩
  go_wp2_with ((with_reducible refine rwl_load TRv g2 0 (X2.out w3 H3.out) ?_ ?_ ?_); rfl; rfl)
  refine (L2.out _).mono ?_; rintro e w4 ⟨rfl, q4⟩
  have H4 := Lib.hid (H3.out.trans (q4.mono H3.out.size))
  clear q4
  cases l2 : lrgB u
  case true =>
    go_wp2_with fail
    refine (KN.out _).mono ?_; rintro e w9 ⟨rfl, q9⟩
    have qq := H4.out.trans (q9.mono H4.out.size)
    have Q9 := Lib.hid (B2.out.trans (qq.mono B2.out.size))
    clear q9 qq
    go_wp2_with fail
    go_ret
    exact ⟨rfl, HG1.out ▸ Q9.out⟩
  have LN : Hid (v.tl ≤ 5000 ∧ v.gl ≤ 5000 ∧ v.al ≤ 5000) := Lib.hid (by unfold lrgB at l1; simp at l1; omega)
  have LM : Hid (MayR r → r.tr.length ≤ 300 ∧ r.go.length ≤ 300 ∧ r.ac.length ≤ 300) := Lib.hid fun m => by
    have a := m.lt
    have b := m.lg
    have c := m.la
    unfold lrgB at l1
    simp at l1
    omega
  clear l1 l2 L1 L2 ln1 ln2 ln3
  go_wp2_with ((with_reducible refine rwl_load TRv g1 0 (X1.out w4 H4.out) ?_ ?_ ?_); rfl; rfl)
  refine (rcopy15 v r w4 VO.out (VI.out w4 H4.out) LN.out).mono ?_; rintro e w5 ⟨c, rfl, co, ci, q5⟩
  have Z5 : Hid (ERv.Bx 44 (w5.alloc (.cells (ERv.cells zeroRv).toArray 44)) w5.heap.size zeroRv) := Lib.hid (gbx_new w5 _)
  obtain ⟨w6, hw6⟩ : ∃ W, (w5.alloc (.cells (ERv.cells zeroRv).toArray 44)).setRow w5.heap.size (ERv.cells c).toArray = W := ⟨_, rfl⟩
  obtain ⟨g6, hg6⟩ : ∃ g, w5.heap.size = g := ⟨_, rfl⟩
  have x6 : ERv.Bx 44 w6 g6 c := by rw [← hw6, ← hg6]; exact gbx_set Z5.out
  have b6 : Below w5.heap.size w5 w6 := by rw [← hw6]; exact below_row0 (below_new _ _) (Nat.le_refl _)
  have h5 := H4.out.trans (q5.mono H4.out.size)
  have H6 := Lib.hid (h5.trans (b6.mono h5.size))
  have X6 := Lib.hid fun (W : World) (q : Below w6.heap.size w6 W) => gbx_rng (gbx_below x6 q)
  have CI := Lib.hid fun (W : World) (q : Below w6.heap.size w6 W) => (show c.In W r from (ci.below b6).below q)
  have CO := Lib.hid co
  have X16 := Lib.hid fun (W : World) (q : Below w6.heap.size w6 W) => X1.out W (H6.out.trans (q.mono H6.out.size))
  have X26 := Lib.hid fun (W : World) (q : Below w6.heap.size w6 W) => X2.out W (H6.out.trans (q.mono H6.out.size))
  have VI6 := Lib.hid fun (W : World) (q : Below w6.heap.size w6 W) => VI.out W (H6.out.trans (q.mono H6.out.size))
  have UI6 := Lib.hid fun (W : World) (q : Below w6.heap.size w6 W) => UI.out W (H6.out.trans (q.mono H6.out.size))
  have B6 := Lib.hid (B2.out.trans (H6.out.mono B2.out.size))
  have HW6 := Lib.hid hw6
  have HG6 := Lib.hid hg6
  clear q5 hw6 hg6 x6 b6 h5 co ci X1 X2 VI UI H3 H4
  go_wp2_with (first | (refine rwl_store TRv c w5.heap.size Z5.out rfl rfl ?_; rw [HW6.out, HG6.out]) | ((with_reducible refine rwl_load TRv g6 0 (X6.out w6 (Below.refl _ _)) ?_ ?_ ?_); rfl; rfl))
  refine (HK.out.rep c r w6 CO.out (CI.out w6 (Below.refl _ _)) RO.out).mono ?_; rintro e w7 ⟨A7, n7, c7, rfl, r7, q7, n7'⟩
  have H7 := Lib.hid q7
  have R7 := Lib.hid r7
  have N7 := Lib.hid n7'
  clear n7'
  have X67 := Lib.hid fun (W : World) (q : Below w7.heap.size w7 W) => X6.out W (H7.out.trans (q.mono H7.out.size))
  have X17 := Lib.hid fun (W : World) (q : Below w7.heap.size w7 W) => X16.out W (H7.out.trans (q.mono H7.out.size))
  have X27 := Lib.hid fun (W : World) (q : Below w7.heap.size w7 W) => X26.out W (H7.out.trans (q.mono H7.out.size))
  have CI7 := Lib.hid fun (W : World) (q : Below w7.heap.size w7 W) => CI.out W (H7.out.trans (q.mono H7.out.size))
  have VI7 := Lib.hid fun (W : World) (q : Below w7.heap.size w7 W) => VI6.out W (H7.out.trans (q.mono H7.out.size))
  have UI7 := Lib.hid fun (W : World) (q : Below w7.heap.size w7 W) => UI6.out W (H7.out.trans (q.mono H7.out.size))
  have B7 := Lib.hid (B6.out.trans (H7.out.mono B6.out.size))
  clear r7 q7 X6 X16 X26 CI VI6 UI6
  go_wp2_with fail
  refine wp_region_held_drew (S := fun U => Below w7.heap.size w7 U) (by kernel_rfl) (Below.refl _ _).drew (fun hH => ?_)
  refine wpAnyH_take (i := 0) (v := .agg (ERv.cells c).toArray) rfl (by kernel_rfl) (by kernel_rfl) (by kernel_rfl) (fun _ _ _ h => h) (ryields_load TRv (by rfl) (.tmp 5) rfl g6 0 rfl (fun U hU => X67.out U hU)) (by assumption) ?_
  try simp only [List.getElem_toArray, List.getElem_cons_zero, List.getElem_cons_succ, Act.put, List.setIfInBounds_toArray, List.set_cons_zero, List.set_cons_succ]
  refine wpAnyH_take (i := 2) (v := .agg (ERv.cells v).toArray) rfl (by kernel_rfl) (by kernel_rfl) (by kernel_rfl) (fun _ _ _ h => h) (ryields_load TRv (by rfl) (.tmp 2) rfl g1 0 rfl (fun U hU => X17.out U hU)) (by assumption) ?_
  try simp only [List.getElem_toArray, List.getElem_cons_zero, List.getElem_cons_succ, Act.put, List.setIfInBounds_toArray, List.set_cons_zero, List.set_cons_succ]
  refine wpAnyH_ready (rs := [1]) (by decide +kernel) (by simp) (AllReadyH.cons rfl (fun KQ hK => ?_) AllReadyH.nil)
  go_simp
  refine (HK.out.mayR c r _ CO.out (CI7.out _ hH) RO.out).mono ?_; rintro e0 Wa ⟨rfl, q1⟩
  have hH := hH.trans (q1.mono hH.size)
  clear q1
  refine hK.out _ _ hH (fun _ => ?_)
  clear hK
  try simp only [List.setIfInBounds_toArray, List.set_cons_zero, List.set_cons_succ]
  refine wpAnyH_ready (rs := [3]) (by decide +kernel) (by simp) (AllReadyH.cons rfl (fun KQ hK => ?_) AllReadyH.nil)
  go_simp
  refine (rmayr15 v r _ VO.out (VI7.out _ hH) RO.out).mono ?_; rintro e0 Wb ⟨rfl, q1⟩
  have hH := hH.trans (q1.mono hH.size)
  clear q1
  refine hK.out _ _ hH (fun _ => ?_)
  clear hK
  try simp only [List.setIfInBounds_toArray, List.set_cons_zero, List.set_cons_succ]
  refine wpAnyH_take (i := 4) (v := .bool false) rfl (by kernel_rfl) (by kernel_rfl) (by kernel_rfl) (fun _ _ _ h => h) (.inl ⟨by rfl, ?_⟩) (by assumption) ?_
  · intro W hW; go_simp
  try simp only [List.getElem_toArray, List.getElem_cons_zero, List.getElem_cons_succ, Act.put, List.setIfInBounds_toArray, List.set_cons_zero, List.set_cons_succ]
  refine wpAnyH_take (i := 5) (v := .bool false) rfl (by kernel_rfl) (by kernel_rfl) (by kernel_rfl) (fun _ _ _ h => h) (.inl ⟨by rfl, ?_⟩) (by assumption) ?_
  · intro W hW; go_simp
  try simp only [List.getElem_toArray, List.getElem_cons_zero, List.getElem_cons_succ, Act.put, List.setIfInBounds_toArray, List.set_cons_zero, List.set_cons_succ]
  refine wpAnyH_take (i := 6) (v := .agg (ERv.cells v).toArray) rfl (by kernel_rfl) (by kernel_rfl) (by kernel_rfl) (fun _ _ _ h => h) (ryields_load TRv (by rfl) (.tmp 2) rfl g1 0 rfl (fun U hU => X17.out U hU)) (by assumption) ?_
  try simp only [List.getElem_toArray, List.getElem_cons_zero, List.getElem_cons_succ, Act.put, List.setIfInBounds_toArray, List.set_cons_zero, List.set_cons_succ]
  refine wpAnyH_take (i := 7) (v := .agg (ERv.cells u).toArray) rfl (by kernel_rfl) (by kernel_rfl) (by kernel_rfl) (fun _ _ _ h => h) (ryields_load TRv (by rfl) (.tmp 3) rfl g2 0 rfl (fun U hU => X27.out U hU)) (by assumption) ?_
  try simp only [List.getElem_toArray, List.getElem_cons_zero, List.getElem_cons_succ, Act.put, List.setIfInBounds_toArray, List.set_cons_zero, List.set_cons_succ]
  refine wpAnyH_take (i := 9) (v := .agg (ERv.cells v).toArray) rfl (by kernel_rfl) (by kernel_rfl) (by kernel_rfl) (fun _ _ _ h => h) (ryields_load TRv (by rfl) (.tmp 2) rfl g1 0 rfl (fun U hU => X17.out U hU)) (by assumption) ?_
  try simp only [List.getElem_toArray, List.getElem_cons_zero, List.getElem_cons_succ, Act.put, List.setIfInBounds_toArray, List.set_cons_zero, List.set_cons_succ]
  refine wpAnyH_take (i := 10) (v := .agg (ERv.cells u).toArray) rfl (by kernel_rfl) (by kernel_rfl) (by kernel_rfl) (fun _ _ _ h => h) (ryields_load TRv (by rfl) (.tmp 3) rfl g2 0 rfl (fun U hU => X27.out U hU)) (by assumption) ?_
  try simp only [List.getElem_toArray, List.getElem_cons_zero, List.getElem_cons_succ, Act.put, List.setIfInBounds_toArray, List.set_cons_zero, List.set_cons_succ]
  refine wpAnyH_ready (rs := [8]) (by decide +kernel) (by simp) (AllReadyH.cons rfl (fun KQ hK => ?_) AllReadyH.nil)
  go_simp
  refine (HK.out.same v u r s _ VO.out (VI7.out _ hH) RO.out UO.out (UI7.out _ hH) SO.out).mono ?_; rintro e0 Wc ⟨rfl, q1⟩
  have hH := hH.trans (q1.mono hH.size)
  clear q1
  refine hK.out _ _ hH (fun _ => ?_)
  clear hK
  try simp only [List.setIfInBounds_toArray, List.set_cons_zero, List.set_cons_succ]
  refine wpAnyH_ready (rs := [11]) (by decide +kernel) (by simp) (AllReadyH.cons rfl (fun KQ hK => ?_) AllReadyH.nil)
  go_simp
  refine (rsame15 v u r s _ VO.out (VI7.out _ hH) RO.out UO.out (UI7.out _ hH) SO.out).mono ?_; rintro e0 Wd ⟨rfl, q1⟩
  have hH := hH.trans (q1.mono hH.size)
  clear q1
  refine hK.out _ _ hH (fun _ => ?_)
  clear hK
  try simp only [List.setIfInBounds_toArray, List.set_cons_zero, List.set_cons_succ]
  refine wpAnyH_take (i := 12) (v := .bool false) rfl (by kernel_rfl) (by kernel_rfl) (by kernel_rfl) (fun _ _ _ h => h) (.inl ⟨by rfl, ?_⟩) (by assumption) ?_
  · intro W hW; go_simp
  try simp only [List.getElem_toArray, List.getElem_cons_zero, List.getElem_cons_succ, Act.put, List.setIfInBounds_toArray, List.set_cons_zero, List.set_cons_succ]
  refine wpAnyH_take (i := 13) (v := .bool false) rfl (by kernel_rfl) (by kernel_rfl) (by kernel_rfl) (fun _ _ _ h => h) (.inl ⟨by rfl, ?_⟩) (by assumption) ?_
  · intro W hW; go_simp
  try simp only [List.getElem_toArray, List.getElem_cons_zero, List.getElem_cons_succ, Act.put, List.setIfInBounds_toArray, List.set_cons_zero, List.set_cons_succ]
  refine wpAnyH_take (i := 14) (v := .bool false) rfl (by kernel_rfl) (by kernel_rfl) (by kernel_rfl) (fun _ _ _ h => h) (.inl ⟨by rfl, ?_⟩) (by assumption) ?_
  · intro W hW; go_simp
  try simp only [List.getElem_toArray, List.getElem_cons_zero, List.getElem_cons_succ, Act.put, List.setIfInBounds_toArray, List.set_cons_zero, List.set_cons_succ]
  refine wpAnyH_take (i := 15) (v := .agg (ERv.cells c).toArray) rfl (by kernel_rfl) (by kernel_rfl) (by kernel_rfl) (fun _ _ _ h => h) (ryields_load TRv (by rfl) (.tmp 5) rfl g6 0 rfl (fun U hU => X67.out U hU)) (by assumption) ?_
  try simp only [List.getElem_toArray, List.getElem_cons_zero, List.getElem_cons_succ, Act.put, List.setIfInBounds_toArray, List.set_cons_zero, List.set_cons_succ]
  refine wpAnyH_take (i := 16) (v := .agg (ERv.cells v).toArray) rfl (by kernel_rfl) (by kernel_rfl) (by kernel_rfl) (fun _ _ _ h => h) (ryields_load TRv (by rfl) (.tmp 2) rfl g1 0 rfl (fun U hU => X17.out U hU)) (by assumption) ?_
  try simp only [List.getElem_toArray, List.getElem_cons_zero, List.getElem_cons_succ, Act.put, List.setIfInBounds_toArray, List.set_cons_zero, List.set_cons_succ]
  refine wpAnyH_ready (rs := [17]) (by decide +kernel) (by simp) (AllReadyH.cons rfl (fun KQ hK => ?_) AllReadyH.nil)
  go_simp
  refine (HK.out.same c v r r _ CO.out (CI7.out _ hH) RO.out VO.out (VI7.out _ hH) RO.out).mono ?_; rintro e0 We ⟨rfl, q1⟩
  have hH := hH.trans (q1.mono hH.size)
  clear q1
  rw [show eqRw r r = true from eqRw_yes.2 rfl]
  refine hK.out _ _ hH (fun _ => ?_)
  clear hK
  try simp only [List.setIfInBounds_toArray, List.set_cons_zero, List.set_cons_succ]
  refine wpAnyH_take (i := 18) (v := .bool false) rfl (by kernel_rfl) (by kernel_rfl) (by kernel_rfl) (fun _ _ _ h => h) (.inl ⟨by rfl, ?_⟩) (by assumption) ?_
  · intro W hW; go_simp
  try simp only [List.getElem_toArray, List.getElem_cons_zero, List.getElem_cons_succ, Act.put, List.setIfInBounds_toArray, List.set_cons_zero, List.set_cons_succ]
  refine wpAnyH_take (i := 19) (v := .bool false) rfl (by kernel_rfl) (by kernel_rfl) (by kernel_rfl) (fun _ _ _ h => h) (.inl ⟨by rfl, ?_⟩) (by assumption) ?_
  · intro W hW; go_simp
  try simp only [List.getElem_toArray, List.getElem_cons_zero, List.getElem_cons_succ, Act.put, List.setIfInBounds_toArray, List.set_cons_zero, List.set_cons_succ]
  refine wpAnyH_take (i := 20) (v := .bool false) rfl (by kernel_rfl) (by kernel_rfl) (by kernel_rfl) (fun _ _ _ h => h) (.inl ⟨by rfl, ?_⟩) (by assumption) ?_
  · intro W hW; go_simp
  try simp only [List.getElem_toArray, List.getElem_cons_zero, List.getElem_cons_succ, Act.put, List.setIfInBounds_toArray, List.set_cons_zero, List.set_cons_succ]
  refine wpAnyH_take (i := 21) (v := .agg (ERv.cells c).toArray) rfl (by kernel_rfl) (by kernel_rfl) (by kernel_rfl) (fun _ _ _ h => h) (ryields_load TRv (by rfl) (.tmp 5) rfl g6 0 rfl (fun U hU => X67.out U hU)) (by assumption) ?_
  try simp only [List.getElem_toArray, List.getElem_cons_zero, List.getElem_cons_succ, Act.put, List.setIfInBounds_toArray, List.set_cons_zero, List.set_cons_succ]
  refine wpAnyH_take (i := 22) (v := .agg (ERv.cells v).toArray) rfl (by kernel_rfl) (by kernel_rfl) (by kernel_rfl) (fun _ _ _ h => h) (ryields_load TRv (by rfl) (.tmp 2) rfl g1 0 rfl (fun U hU => X17.out U hU)) (by assumption) ?_
  try simp only [List.getElem_toArray, List.getElem_cons_zero, List.getElem_cons_succ, Act.put, List.setIfInBounds_toArray, List.set_cons_zero, List.set_cons_succ]
  refine wpAnyH_ready (rs := [23]) (by decide +kernel) (by simp) (AllReadyH.cons rfl (fun KQ hK => ?_) AllReadyH.nil)
  go_simp
  refine (rsame15 c v r r _ CO.out (CI7.out _ hH) RO.out VO.out (VI7.out _ hH) RO.out).mono ?_; rintro e0 Wf ⟨rfl, q1⟩
  have hH := hH.trans (q1.mono hH.size)
  clear q1
  rw [show eqRw r r = true from eqRw_yes.2 rfl]
  refine hK.out _ _ hH (fun _ => ?_)
  clear hK
  try simp only [List.setIfInBounds_toArray, List.set_cons_zero, List.set_cons_succ]
  refine wpAnyH_take (i := 24) (v := .bool false) rfl (by kernel_rfl) (by kernel_rfl) (by kernel_rfl) (fun _ _ _ h => h) (.inl ⟨by rfl, ?_⟩) (by assumption) ?_
  · intro W hW; go_simp
  try simp only [List.getElem_toArray, List.getElem_cons_zero, List.getElem_cons_succ, Act.put, List.setIfInBounds_toArray, List.set_cons_zero, List.set_cons_succ]
  refine wpAnyH_take (i := 25) (v := .bool false) rfl (by kernel_rfl) (by kernel_rfl) (by kernel_rfl) (fun _ _ _ h => h) (.inl ⟨by rfl, ?_⟩) (by assumption) ?_
  · intro W hW; go_simp
  try simp only [List.getElem_toArray, List.getElem_cons_zero, List.getElem_cons_succ, Act.put, List.setIfInBounds_toArray, List.set_cons_zero, List.set_cons_succ]
  refine wpAnyH_done (by decide +kernel) ?_ _
  have H8 := Lib.hid hH
  have B8 := Lib.hid (B7.out.trans (hH.mono B7.out.size))
  clear hH
  go_wp2_with ((with_reducible refine rwl_load TRv g1 0 (X17.out Wf H8.out) ?_ ?_ ?_); rfl; rfl)
  refine (rmayr15 v r Wf VO.out (VI7.out _ H8.out) RO.out).mono ?_; rintro e w9 ⟨rfl, q9⟩
  have H9 := Lib.hid (H8.out.trans (q9.mono H8.out.size))
  have B9 := Lib.hid (B7.out.trans (H9.out.mono B7.out.size))
  clear q9
  by_cases mr : MayR r
  case neg =>
    obtain ⟨f0, e0⟩ := rp_not mr
    have m0 : mrB r = false := by cases e : mrB r; rfl; exact absurd (mrB_yes.1 e) mr
    rw [f0] at R7
    rw [e0, m0]
    obtain rfl : n7 = 0 := R7.out.1.symm
    clear f0 e0 m0 mr
    go_wp2_with fail
    refine (KN.out _).mono ?_; rintro e wk ⟨rfl, qk⟩
    have Qk := Lib.hid (B9.out.trans (qk.mono B9.out.size))
    clear qk
    go_wp2_with fail
    go_ret
    exact ⟨rfl, HG1.out ▸ Qk.out⟩
  obtain ⟨f0, e0⟩ := rp_may mr
  rw [f0] at R7
  rw [e0, mrB_yes.2 mr]
  have MR := Lib.hid mr
  have LR := Lib.hid (LM.out mr)
  clear f0 e0 mr
  have R9 := Lib.hid (R7.out.below H9.out)
  have NB : n7 ≤ 100000 := by rw [← R7.out.1]; have := formR_len15 RO.out MR.out.er.1 LR.out; omega
  have RR := Lib.hid (HK.out.rdR A7 n7 c7 (formR r) w9 R9.out (formR_by r) N7.out NB)
  clear NB
  go_wp2_with fail
  refine RR.out.mono ?_; rintro e wa ⟨x, y, E, rfl, xo, xi, ha, qa⟩
  have hd : y = r ∧ E = 0 := by
    have ir : IsR (formR r) r := ⟨RO.out, MR.out, rfl⟩
    rcases ha with ⟨id, e0⟩ | ⟨no, -, -⟩
    · exact ⟨id.one ir, e0⟩
    · exact absurd ir (no r)
  obtain ⟨rfl, rfl⟩ := hd
  have Za : Hid (ERv.Bx 44 (wa.alloc (.cells (ERv.cells zeroRv).toArray 44)) wa.heap.size zeroRv) := Lib.hid (gbx_new wa _)
  obtain ⟨wb, hwb⟩ : ∃ W, (wa.alloc (.cells (ERv.cells zeroRv).toArray 44)).setRow wa.heap.size (ERv.cells x).toArray = W := ⟨_, rfl⟩
  obtain ⟨gb, hgb⟩ : ∃ g, wa.heap.size = g := ⟨_, rfl⟩
  have xb : ERv.Bx 44 wb gb x := by rw [← hwb, ← hgb]; exact gbx_set Za.out
  have bb : Below wa.heap.size wa wb := by rw [← hwb]; exact below_row0 (below_new _ _) (Nat.le_refl _)
  have ha' := H9.out.trans (qa.mono H9.out.size)
  have Hb := Lib.hid (ha'.trans (bb.mono ha'.size))
  have Xb := Lib.hid fun (W : World) (q : Below wb.heap.size wb W) => gbx_rng (gbx_below xb q)
  have XI := Lib.hid fun (W : World) (q : Below wb.heap.size wb W) => (show x.In W y from (xi.below bb).below q)
  have XO := Lib.hid xo
  have X1b := Lib.hid fun (W : World) (q : Below wb.heap.size wb W) => X17.out W (Hb.out.trans (q.mono Hb.out.size))
  have VIb := Lib.hid fun (W : World) (q : Below wb.heap.size wb W) => VI7.out W (Hb.out.trans (q.mono Hb.out.size))
  have Rb := Lib.hid fun (W : World) (q : Below wb.heap.size wb W) => R7.out.below (Hb.out.trans (q.mono Hb.out.size))
  have Bb := Lib.hid (B7.out.trans (Hb.out.mono B7.out.size))
  have HWb := Lib.hid hwb
  have HGb := Lib.hid hgb
  clear ha qa hwb hgb xb bb ha' xo xi
  go_wp2_with (refine rwl_store TRv x wa.heap.size Za.out rfl rfl ?_; rw [HWb.out, HGb.out])
  refine wp_region_held_drew (S := fun U => Below wb.heap.size wb U) (by kernel_rfl) (Below.refl _ _).drew (fun hH => ?_)
  refine wpAnyH_take (i := 0) (v := .int .i64 0) rfl (by kernel_rfl) (by kernel_rfl) (by kernel_rfl) (fun _ _ _ h => h) (.inl ⟨by rfl, ?_⟩) (by assumption) ?_
  · intro W hW; go_simp
  try simp only [List.getElem_toArray, List.getElem_cons_zero, Act.put, List.setIfInBounds_toArray, List.set_cons_zero, List.set_cons_succ]
  refine wpAnyH_take (i := 1) (v := .bool true) rfl (by kernel_rfl) (by kernel_rfl) (by kernel_rfl) (fun _ _ _ h => h) (.inl ⟨by rfl, ?_⟩) (by assumption) ?_
  · intro W hW; go_simp
  try simp only [List.getElem_toArray, List.getElem_cons_zero, List.getElem_cons_succ, Act.put, List.setIfInBounds_toArray, List.set_cons_zero, List.set_cons_succ]
  refine wpAnyH_take (i := 2) (v := .bool true) rfl (by kernel_rfl) (by kernel_rfl) (by kernel_rfl) (fun _ _ _ h => h) (.inl ⟨by rfl, ?_⟩) (by assumption) ?_
  · intro W hW; go_simp
  try simp only [List.getElem_toArray, List.getElem_cons_zero, List.getElem_cons_succ, Act.put, List.setIfInBounds_toArray, List.set_cons_zero, List.set_cons_succ]
  refine wpAnyH_take (i := 3) (v := .int .i64 0) rfl (by kernel_rfl) (by kernel_rfl) (by kernel_rfl) (fun _ _ _ h => h) (.inl ⟨by rfl, ?_⟩) (by assumption) ?_
  · intro W hW; go_simp
  try simp only [List.getElem_toArray, List.getElem_cons_zero, List.getElem_cons_succ, Act.put, List.setIfInBounds_toArray, List.set_cons_zero, List.set_cons_succ]
  refine wpAnyH_take (i := 4) (v := .bool true) rfl (by kernel_rfl) (by kernel_rfl) (by kernel_rfl) (fun _ _ _ h => h) (.inl ⟨by rfl, ?_⟩) (by assumption) ?_
  · intro W hW; go_simp
  try simp only [List.getElem_toArray, List.getElem_cons_zero, List.getElem_cons_succ, Act.put, List.setIfInBounds_toArray, List.set_cons_zero, List.set_cons_succ]
  refine wpAnyH_take (i := 5) (v := .bool true) rfl (by kernel_rfl) (by kernel_rfl) (by kernel_rfl) (fun _ _ _ h => h) (.inl ⟨by rfl, ?_⟩) (by assumption) ?_
  · intro W hW; go_simp
  try simp only [List.getElem_toArray, List.getElem_cons_zero, List.getElem_cons_succ, Act.put, List.setIfInBounds_toArray, List.set_cons_zero, List.set_cons_succ]
  refine wpAnyH_take (i := 6) (v := .bool true) rfl (by kernel_rfl) (by kernel_rfl) (by kernel_rfl) (fun _ _ _ h => h) (.inl ⟨by rfl, ?_⟩) (by assumption) ?_
  · intro W hW; go_simp
  try simp only [List.getElem_toArray, List.getElem_cons_zero, List.getElem_cons_succ, Act.put, List.setIfInBounds_toArray, List.set_cons_zero, List.set_cons_succ]
  refine wpAnyH_take (i := 7) (v := .agg (ERv.cells x).toArray) rfl (by kernel_rfl) (by kernel_rfl) (by kernel_rfl) (fun _ _ _ h => h) (ryields_load TRv (by rfl) (.tmp 8) rfl gb 0 rfl (fun U hU => Xb.out U hU)) (by assumption) ?_
  try simp only [List.getElem_toArray, List.getElem_cons_zero, List.getElem_cons_succ, Act.put, List.setIfInBounds_toArray, List.set_cons_zero, List.set_cons_succ]
  refine wpAnyH_take (i := 8) (v := .agg (ERv.cells v).toArray) rfl (by kernel_rfl) (by kernel_rfl) (by kernel_rfl) (fun _ _ _ h => h) (ryields_load TRv (by rfl) (.tmp 2) rfl g1 0 rfl (fun U hU => X1b.out U hU)) (by assumption) ?_
  try simp only [List.getElem_toArray, List.getElem_cons_zero, List.getElem_cons_succ, Act.put, List.setIfInBounds_toArray, List.set_cons_zero, List.set_cons_succ]
  refine wpAnyH_ready (rs := [9]) (by decide +kernel) (by simp) (AllReadyH.cons rfl (fun KQ hK => ?_) AllReadyH.nil)
  go_simp
  refine (rsame15 x v y y _ XO.out (XI.out _ hH) RO.out VO.out (VIb.out _ hH) RO.out).mono ?_; rintro e0 Wg ⟨rfl, q1⟩
  have hH := hH.trans (q1.mono hH.size)
  clear q1
  rw [show eqRw y y = true from eqRw_yes.2 rfl]
  refine hK.out _ _ hH (fun _ => ?_)
  clear hK
  try simp only [List.setIfInBounds_toArray, List.set_cons_zero, List.set_cons_succ]
  refine wpAnyH_take (i := 10) (v := .bool true) rfl (by kernel_rfl) (by kernel_rfl) (by kernel_rfl) (fun _ _ _ h => h) (.inl ⟨by rfl, ?_⟩) (by assumption) ?_
  · intro W hW; go_simp
  try simp only [List.getElem_toArray, List.getElem_cons_zero, List.getElem_cons_succ, Act.put, List.setIfInBounds_toArray, List.set_cons_zero, List.set_cons_succ]
  refine wpAnyH_take (i := 11) (v := .bool true) rfl (by kernel_rfl) (by kernel_rfl) (by kernel_rfl) (fun _ _ _ h => h) (.inl ⟨by rfl, ?_⟩) (by assumption) ?_
  · intro W hW; go_simp
  try simp only [List.getElem_toArray, List.getElem_cons_zero, List.getElem_cons_succ, Act.put, List.setIfInBounds_toArray, List.set_cons_zero, List.set_cons_succ]
  refine wpAnyH_take (i := 12) (v := .slice A7 n7 c7) rfl (by kernel_rfl) (by kernel_rfl) (by kernel_rfl) (fun _ _ _ h => h) (.inl ⟨by rfl, ?_⟩) (by assumption) ?_
  · intro W hW; go_simp
  try simp only [List.getElem_toArray, List.getElem_cons_zero, List.getElem_cons_succ, Act.put, List.setIfInBounds_toArray, List.set_cons_zero, List.set_cons_succ]
  refine wpAnyH_take (i := 14) (v := .agg (ERv.cells v).toArray) rfl (by kernel_rfl) (by kernel_rfl) (by kernel_rfl) (fun _ _ _ h => h) (ryields_load TRv (by rfl) (.tmp 2) rfl g1 0 rfl (fun U hU => X1b.out U hU)) (by assumption) ?_
  try simp only [List.getElem_toArray, List.getElem_cons_zero, List.getElem_cons_succ, Act.put, List.setIfInBounds_toArray, List.set_cons_zero, List.set_cons_succ]
  refine wpAnyH_take (i := 13) (v := .string (strOfNums (formR y))) rfl (by kernel_rfl) (by kernel_rfl) (by kernel_rfl) (fun _ _ _ h => h) (.inl ⟨by rfl, ?_⟩) (by assumption) ?_
  · intro W hW; have k0 := conv_any (c := c7) (Rb.out _ hW); go_simp
  try simp only [List.getElem_toArray, List.getElem_cons_zero, List.getElem_cons_succ, Act.put, List.setIfInBounds_toArray, List.set_cons_zero, List.set_cons_succ]
  refine wpAnyH_ready (rs := [15]) (by decide +kernel) (by simp) (AllReadyH.cons rfl (fun KQ hK => ?_) AllReadyH.nil)
  go_simp
  refine (rrep15 v y _ (VIb.out _ hH) RO.out MR.out.er.1 LR.out).mono ?_; rintro e0 Wh ⟨v9, rfl, hN⟩
  obtain ⟨A8, c8, rfl, r8, -⟩ := owns_pt hN.o
  have hH := hH.trans (hN.q.mono hH.size)
  have R8 := Lib.hid r8
  clear hN r8
  refine hK.out _ _ hH (fun _ => ?_)
  clear hK
  try simp only [List.setIfInBounds_toArray, List.set_cons_zero, List.set_cons_succ]
  refine wpAnyH_more (S1 := fun U => Below Wh.heap.size Wh U) (fun U b => hH.trans (b.mono hH.size)) _ _ _ _ ?_
  have HQ := Lib.hid hH
  clear hH
  have hH := Below.refl Wh.heap.size Wh
  obtain ⟨fl, hfl⟩ : ∃ fl, (formR y).length = fl := ⟨_, rfl⟩
  rw [hfl] at R8 ⊢
  clear hfl
  refine wpAnyH_take (i := 16) (v := .string (strOfNums (formR y))) rfl (by kernel_rfl) (by kernel_rfl) (by kernel_rfl) (fun _ _ _ h => h) (.inl ⟨by rfl, ?_⟩) (by assumption) ?_
  · intro W hW; have k0 := conv_any (c := c8) (R8.out.below hW); go_simp
  try simp only [List.getElem_toArray, List.getElem_cons_zero, List.getElem_cons_succ, Act.put, List.setIfInBounds_toArray, List.set_cons_zero, List.set_cons_succ]
  refine wpAnyH_take (i := 17) (v := .bool true) rfl (by kernel_rfl) (by kernel_rfl) (by kernel_rfl) (fun _ _ _ h => h) (.inl ⟨by rfl, ?_⟩) (by assumption) ?_
  · intro W hW; go_simp
  try simp only [List.getElem_toArray, List.getElem_cons_zero, List.getElem_cons_succ, Act.put, List.setIfInBounds_toArray, List.set_cons_zero, List.set_cons_succ]
  refine wpAnyH_take (i := 18) (v := .bool true) rfl (by kernel_rfl) (by kernel_rfl) (by kernel_rfl) (fun _ _ _ h => h) (.inl ⟨by rfl, ?_⟩) (by assumption) ?_
  · intro W hW; go_simp
  try simp only [List.getElem_toArray, List.getElem_cons_zero, List.getElem_cons_succ, Act.put, List.setIfInBounds_toArray, List.set_cons_zero, List.set_cons_succ]
  refine wpAnyH_take (i := 19) (v := .bool true) rfl (by kernel_rfl) (by kernel_rfl) (by kernel_rfl) (fun _ _ _ h => h) (.inl ⟨by rfl, ?_⟩) (by assumption) ?_
  · intro W hW; go_simp
  try simp only [List.getElem_toArray, List.getElem_cons_zero, List.getElem_cons_succ, Act.put, List.setIfInBounds_toArray, List.set_cons_zero, List.set_cons_succ]
  refine wpAnyH_ready (rs := [20]) (by decide +kernel) (by simp) (AllReadyH.cons rfl (fun KQ hK => ?_) AllReadyH.nil)
  go_simp
  refine (KN.out _).mono ?_; rintro e0 Wk ⟨rfl, q1⟩
  have hH := hH.trans (q1.mono hH.size)
  clear q1
  refine hK.out _ _ hH (fun _ => ?_)
  clear hK
  try simp only [List.setIfInBounds_toArray, List.set_cons_zero, List.set_cons_succ]
  refine wpAnyH_take (i := 21) (v := .bool true) rfl (by kernel_rfl) (by kernel_rfl) (by kernel_rfl) (fun _ _ _ h => h) (.inl ⟨by rfl, ?_⟩) (by assumption) ?_
  · intro W hW; go_simp
  try simp only [List.getElem_toArray, List.getElem_cons_zero, List.getElem_cons_succ, Act.put, List.setIfInBounds_toArray, List.set_cons_zero, List.set_cons_succ]
  refine wpAnyH_take (i := 22) (v := .bool true) rfl (by kernel_rfl) (by kernel_rfl) (by kernel_rfl) (fun _ _ _ h => h) (.inl ⟨by rfl, ?_⟩) (by assumption) ?_
  · intro W hW; go_simp
  try simp only [List.getElem_toArray, List.getElem_cons_zero, List.getElem_cons_succ, Act.put, List.setIfInBounds_toArray, List.set_cons_zero, List.set_cons_succ]
  refine wpAnyH_done (by decide +kernel) ?_ _
  have hQ := HQ.out.trans (hH.mono HQ.out.size)
  have Q9 := Lib.hid (Bb.out.trans (hQ.mono Bb.out.size))
  clear hH hQ
  go_wp2_with fail
  go_ret
  exact ⟨rfl, HG1.out ▸ Q9.out⟩
end Go.Proofs.Ytbmlpokkojhhjaa
