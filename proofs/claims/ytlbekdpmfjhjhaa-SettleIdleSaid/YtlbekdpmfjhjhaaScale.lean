/- The walk of the statement FixnumScale: it returns true for every total, every list of weights and every factor, and leaves the memory that was there as it was. -/
import Derived.Test.YtlbekdpmfjhjhaaSplit
namespace Go.Proofs.Ytlbekdpmfjhjhaa
open Go.RowKit Go.Sort

/-! Plain arithmetic -/
theorem pt_zero (ws : List Int) (g : Nat → Int) : pt 0 ws g = List.replicate ws.length 0 := by
  have h0 : ∀ t, Sp.sh 0 (sm ws) ws t = 0 := fun t => by unfold Sp.sh; rw [Int.zero_mul, Int.zero_ediv]
  have h1 : Sp.su (Sp.sh 0 (sm ws) ws) ws.length = 0 := by
    rw [Sp.su_eq (g := fun _ => 0) fun t _ => h0 t, Sp.su_const, Int.zero_mul]
  unfold pt
  rw [h1]
  apply List.ext_getElem
  · simp
  · intro i h2 h3
    simp [h0, Sp.hit]
theorem rn_unique {key : Int → Int} {n : Nat} {g h : Nat → Int} (r : St.Rn key g 0 n) (s : St.Rn key h 0 n) : ∀ k, k < n → g k = h k := by
  have half : ∀ {g h : Nat → Int} (k : Nat), St.Rn key g 0 n → St.Rn key h 0 n → k < n → (∀ j, j < k → g j = h j) → g k ≠ h k → St.lt key (h k) (g k) := by
    intro g h k r s hk ih hne
    have hin := (r.2 (g k)).1 ⟨k, Nat.zero_le _, hk, rfl⟩
    obtain ⟨p, _, p2, p3⟩ := (s.2 (g k)).2 hin
    rcases Nat.lt_trichotomy p k with h1 | h1 | h1
    · rw [← ih p h1] at p3
      exact absurd p3 (rn_ne r h1 hk)
    · subst h1
      exact absurd p3.symm hne
    · rw [← p3]
      exact s.1 k p (Nat.zero_le _) h1 p2
  intro k
  induction k using Nat.strongRecOn with
  | ind k ih =>
    intro hk
    refine Classical.byContradiction fun hne => ?_
    have h1 := half k r s hk (fun j hj => ih j hj (by omega)) hne
    have h2 := half k s r hk (fun j hj => (ih j hj (by omega)).symm) (fun e => hne e.symm)
    have := St.lt_trans h1 h2
    unfold St.lt at this
    omega
theorem rn_scale {key key' : Int → Int} {n : Nat} {g : Nat → Int} {c : Int} (hc : 0 < c) (h : ∀ t : Nat, key' t = key t * c) (r : St.Rn key' g 0 n) : St.Rn key g 0 n := by
  refine ⟨fun p q h1 h2 h3 => ?_, r.2⟩
  have hp := (r.2 (g p)).1 ⟨p, Nat.zero_le _, by omega, rfl⟩
  have hq := (r.2 (g q)).1 ⟨q, Nat.zero_le _, h3, rfl⟩
  have hl := r.1 p q h1 h2 h3
  obtain ⟨x, hx⟩ := Int.eq_ofNat_of_zero_le (a := g p) (by omega)
  obtain ⟨y, hy⟩ := Int.eq_ofNat_of_zero_le (a := g q) (by omega)
  rw [hx, hy] at hl ⊢
  unfold St.lt at hl ⊢
  rw [h x, h y] at hl
  rcases hl with hl | ⟨hl, k⟩
  · exact .inl (Int.lt_of_mul_lt_mul_right hl (by omega))
  · exact .inr ⟨Int.eq_of_mul_eq_mul_right (by omega) hl, k⟩
theorem hit_same {g h : Nat → Int} {t : Nat} : ∀ {k : Nat}, (∀ j, j < k → g j = h j) → Sp.hit g k t = Sp.hit h k t
  | 0, _ => rfl
  | k + 1, e => by
    simp only [Sp.hit]
    rw [hit_same fun j hj => e j (by omega), e k (by omega)]
theorem getD_mul (ws : List Int) (c : Int) (t : Nat) : (ws.map (· * c)).getD t 0 = ws.getD t 0 * c := by
  simp only [List.getD, List.getElem?_map]
  cases ws[t]? with
  | none => simp
  | some x => simp
theorem sm_mul (c : Int) : ∀ ws : List Int, sm (ws.map (· * c)) = sm ws * c
  | [] => by simp [sm]
  | x :: l => by simp only [List.map_cons, sm]; rw [sm_mul c l, Int.add_mul]
theorem sm_some {m : Int} : ∀ ws : List Int, (∀ t, t < ws.length → 0 ≤ ws.getD t 0 ∧ ws.getD t 0 ≤ m) → 0 ≤ sm ws ∧ sm ws ≤ m * ws.length := by
  intro ws h
  have e := Sp.sm_su ws ws.length (Nat.le_refl _)
  rw [List.take_length] at e
  rw [e]
  refine ⟨Sp.su_nonneg fun t ht => (h t ht).1, ?_⟩
  rw [← Sp.su_const]
  exact Sp.su_le fun t ht => (h t ht).2
/-- The weights as the statement takes them. -/
def Sc (ws : List Int) (c : Int) : Prop := ws.length ≤ 200 ∧ 1 ≤ c ∧ c ≤ 1000 ∧ ∀ t, t < ws.length → 0 ≤ ws.getD t 0 ∧ ws.getD t 0 ≤ 1099511627776
theorem sc_sums {ws : List Int} {c : Int} (h : Sc ws c) : 0 ≤ sm ws ∧ sm ws ≤ 219902325555200 ∧ 0 ≤ sm ws * c ∧ sm ws * c ≤ 219902325555200000 := by
  have h1 := sm_some ws h.2.2.2
  have h2 : sm ws ≤ 219902325555200 := by have := h.1; omega
  exact ⟨h1.1, h2, Int.mul_nonneg h1.1 (by have := h.2.1; omega), by
    have := Int.mul_le_mul h2 h.2.2.1 (by have := h.2.1; omega) (by decide : (0 : Int) ≤ 219902325555200)
    omega⟩
theorem sc_se {ws : List Int} {c : Int} (h : Sc ws c) (T : Int) : se T (ws.map (· * c)) false = se T ws false := by
  have h1 := sc_sums h
  have e1 : tE (sm ws) = 0 := tE_in (by unfold I64; omega)
  have e2 : tE (sm ws * c) = 0 := tE_in (by unfold I64; omega)
  unfold se
  rw [sm_mul, List.length_map, e1, e2]
  by_cases hz : sm ws = 0
  · rw [hz, Int.zero_mul]
  · have : sm ws * c ≠ 0 := Int.mul_ne_zero hz (by have := h.2.1; omega)
    rw [if_neg this, if_neg hz]
theorem sc_pt {ws : List Int} {c : Int} (h : Sc ws c) {T : Int} (hT : 0 ≤ T) {g g' : Nat → Int}
    (r : 0 < T → Sp.Ok T (sm ws) ws ∧ St.Rn (Sp.ky T (sm ws) ws) g 0 ws.length)
    (r' : 0 < T → Sp.Ok T (sm (ws.map (· * c))) (ws.map (· * c)) ∧ St.Rn (Sp.ky T (sm (ws.map (· * c))) (ws.map (· * c))) g' 0 (ws.map (· * c)).length) :
    pt T (ws.map (· * c)) g' = pt T ws g := by
  rcases Int.lt_or_eq_of_le hT with hT | hT
  · obtain ⟨o, r⟩ := r hT
    obtain ⟨_, r'⟩ := r' hT
    rw [sm_mul] at r'
    have hc : 0 < c := by have := h.2.1; omega
    have es : ∀ t, Sp.sh T (sm ws * c) (ws.map (· * c)) t = Sp.sh T (sm ws) ws t := fun t => by
      unfold Sp.sh
      rw [getD_mul, ← Int.mul_assoc, Int.mul_ediv_mul_of_pos_left _ _ hc]
    have er : ∀ t : Nat, Sp.ky T (sm ws * c) (ws.map (· * c)) t = Sp.ky T (sm ws) ws t * c := fun t => by
      unfold Sp.ky Sp.rs
      rw [Int.toNat_natCast, getD_mul, ← Int.mul_assoc, Int.mul_comm _ c, Int.mul_comm (sm ws) c, Int.mul_emod_mul_of_pos _ _ hc, Int.mul_comm c]
    have u := rn_unique r (by rw [List.length_map] at r'; exact rn_scale hc er r')
    have hfew := o.few
    unfold pt
    rw [List.length_map, sm_mul, Sp.su_eq (g := Sp.sh T (sm ws) ws) fun t _ => es t]
    refine List.map_congr_left fun t _ => ?_
    rw [es, hit_same fun j hj => (u j (by omega)).symm]
  · subst hT
    rw [pt_zero, pt_zero, List.length_map]
end Go.Proofs.Ytlbekdpmfjhjhaa
