/- Plain arithmetic on the parts: together they are the total; a greater weight has no smaller part; a weight of 0 has none; none is more than its weight, if the total is not more than all. -/
import Derived.Test.YtlbekdpmfjhjhaaScale
namespace Go.Proofs.Ytlbekdpmfjhjhaa
open Go.RowKit Go.Sort

namespace Sp
theorem hit_nonneg (g : Nat → Int) (t : Nat) : ∀ k, 0 ≤ hit g k t
  | 0 => Int.le_refl _
  | k + 1 => by
    have := hit_nonneg g t k
    simp only [hit]
    split <;> omega
theorem hit_one {g : Nat → Int} {k t j : Nat} (hj : j < k) (h : g j = t) : 1 ≤ hit g k t := by
  induction k with
  | zero => omega
  | succ k ih =>
    simp only [hit]
    by_cases e : j = k
    · subst e
      rw [if_pos h]
      have := hit_nonneg g t j
      omega
    · have := ih (by omega)
      split <;> omega
theorem su_point (p : Nat) : ∀ n, su (fun t => if (p : Int) = t then 1 else 0) n = if p < n then 1 else 0
  | 0 => by simp [su]
  | n + 1 => by
    simp only [su]
    rw [su_point p n]
    by_cases h1 : p < n
    · rw [if_pos h1, if_neg (by omega), if_pos (by omega)]; rfl
    · rw [if_neg h1]
      by_cases h2 : p = n
      · subst h2
        rw [if_pos rfl, if_pos (by omega)]; rfl
      · rw [if_neg (by omega), if_neg (by omega)]; rfl
/-- As many hits as places. -/
theorem su_hit {g : Nat → Int} {n : Nat} : ∀ {k : Nat}, (∀ j, j < k → 0 ≤ g j ∧ g j < n) → su (hit g k) n = k
  | 0, _ => by
    show su (fun t => hit g 0 t) n = _
    simp only [hit]
    rw [su_const]; simp
  | k + 1, h => by
    have h1 := h k (by omega)
    obtain ⟨p, hp⟩ := Int.eq_ofNat_of_zero_le h1.1
    have e : (hit g (k + 1)) = fun t => hit g k t + if (p : Int) = t then 1 else 0 := by
      funext t
      simp only [hit, hp]
    rw [e, su_add, su_hit fun j hj => h j (by omega), su_point, if_pos (by omega)]
    omega
end Sp

/-- The part of place t. -/
def pv (T : Int) (ws : List Int) (g : Nat → Int) (t : Nat) : Int := Sp.sh T (sm ws) ws t + Sp.hit g (T - Sp.su (Sp.sh T (sm ws) ws) ws.length).toNat t
theorem pt_getD {T : Int} {ws : List Int} {g : Nat → Int} {t : Nat} (h : t < ws.length) : (pt T ws g).getD t 0 = pv T ws g t := by
  unfold pt pv
  simp [List.getD, h]
theorem pt_len (T : Int) (ws : List Int) (g : Nat → Int) : (pt T ws g).length = ws.length := by unfold pt; rw [List.length_map, List.length_range]

/-- A total, weights, and the places in their order. -/
def Al2 (T : Int) (ws : List Int) (g : Nat → Int) : Prop := Sp.Ok T (sm ws) ws ∧ St.Rn (Sp.ky T (sm ws) ws) g 0 ws.length
variable {T : Int} {ws : List Int} {g : Nat → Int}
theorem Al2.place (h : Al2 T ws g) {t : Nat} (ht : t < ws.length) : ∃ p, p < ws.length ∧ g p = t := by
  obtain ⟨p, _, p2, p3⟩ := (h.2.2 t).2 ⟨by omega, by omega⟩
  exact ⟨p, p2, p3⟩
theorem Al2.left (h : Al2 T ws g) : ((T - Sp.su (Sp.sh T (sm ws) ws) ws.length).toNat : Int) = T - Sp.su (Sp.sh T (sm ws) ws) ws.length := by
  have := h.1.left (Nat.le_refl _)
  omega
theorem Al2.hit (h : Al2 T ws g) {k p t : Nat} (hk : k ≤ ws.length) (hp : p < ws.length) (ht : g p = t) : Sp.hit g k t = if p < k then 1 else 0 := by
  induction k with
  | zero => simp [Sp.hit]
  | succ k ih =>
    simp only [Sp.hit]
    rw [ih (by omega)]
    by_cases h1 : p < k
    · have n1 : ¬ g k = (t : Int) := fun e => rn_ne h.2 h1 (by omega) (ht.trans e.symm)
      rw [if_pos h1, if_neg n1, if_pos (by omega)]; rfl
    · rw [if_neg h1]
      by_cases h2 : p = k
      · subst h2
        rw [if_pos ht, if_pos (by omega)]; rfl
      · rw [if_neg fun e => rn_ne h.2 (show k < p by omega) hp (e.trans ht.symm), if_neg (by omega)]; rfl
theorem Al2.pv (h : Al2 T ws g) {p t : Nat} (hp : p < ws.length) (ht : g p = t) : pv T ws g t = Sp.sh T (sm ws) ws t + if (p : Int) < T - Sp.su (Sp.sh T (sm ws) ws) ws.length then 1 else 0 := by
  have hf := h.1.few
  have hl := h.left
  unfold Go.Proofs.Ytlbekdpmfjhjhaa.pv
  rw [h.hit (by omega) hp ht]
  congr 1
  by_cases c : (p : Int) < T - Sp.su (Sp.sh T (sm ws) ws) ws.length
  · rw [if_pos c, if_pos (by omega)]
  · rw [if_neg c, if_neg (by omega)]
/-- Together they are the total. -/
theorem Al2.sum (h : Al2 T ws g) : sm (pt T ws g) = T := by
  have hl := h.left
  have hf := h.1.few
  have e := Sp.sm_su (pt T ws g) ws.length (by rw [pt_len]; exact Nat.le_refl _)
  rw [List.take_of_length_le (by rw [pt_len]; exact Nat.le_refl _)] at e
  rw [e, Sp.su_eq (g := fun t => Sp.sh T (sm ws) ws t + Sp.hit g (T - Sp.su (Sp.sh T (sm ws) ws) ws.length).toNat t) fun t ht => pt_getD ht, Sp.su_add, Sp.su_hit]
  · omega
  · intro j hj
    have := (h.2.2 (g j)).1 ⟨j, Nat.zero_le _, by omega, rfl⟩
    omega
/-- Who gets one more has a rest. -/
theorem Al2.rest (h : Al2 T ws g) {p t : Nat} (hp : p < ws.length) (ht : g p = t) (hl : (p : Int) < T - Sp.su (Sp.sh T (sm ws) ws) ws.length) : 0 < Sp.rs T (sm ws) ws t := by
  refine Classical.byContradiction fun hn => ?_
  have h0 := h.1.rs t
  have hz : Sp.rs T (sm ws) ws t = 0 := by omega
  have hS := h.1.2.2.1
  have hr := h.1.rest
  have hle : Sp.su (Sp.rs T (sm ws) ws) ws.length ≤ Sp.su (fun s => (sm ws - 1) * Sp.hit g p s) ws.length := Sp.su_le fun s hs => by
    have h1 := h.1.rs s
    by_cases c : Sp.rs T (sm ws) ws s = 0
    · rw [c]
      exact Int.mul_nonneg (by omega) (Sp.hit_nonneg g s p)
    · obtain ⟨q, q1, q2⟩ := h.place hs
      have hqp : q < p := by
        refine Classical.byContradiction fun hqp => ?_
        rcases Nat.eq_or_lt_of_le (show p ≤ q by omega) with rfl | hlt
        · have : (s : Int) = t := by rw [← q2, ht]
          have : s = t := by omega
          subst this
          exact c hz
        · have := h.2.1 p q (Nat.zero_le _) hlt q1
          rw [ht, q2] at this
          unfold St.lt Sp.ky at this
          simp only [Int.toNat_natCast] at this
          omega
      have h2 := Sp.hit_one hqp q2
      have h3 : (sm ws - 1) * 1 ≤ (sm ws - 1) * Sp.hit g p s := Int.mul_le_mul_of_nonneg_left h2 (by omega)
      omega
  rw [Sp.su_mul, Sp.su_hit fun j hj => by
    have := (h.2.2 (g j)).1 ⟨j, Nat.zero_le _, by omega, rfl⟩
    omega] at hle
  have h4 : (sm ws - 1) * (p : Int) ≤ sm ws * (p : Int) := Int.mul_le_mul_of_nonneg_right (by omega) (by omega)
  have h5 : sm ws * ((p : Int) + 1) ≤ sm ws * (T - Sp.su (Sp.sh T (sm ws) ws) ws.length) := Int.mul_le_mul_of_nonneg_left (by omega) (by omega)
  rw [Int.mul_add] at h5
  omega
theorem Al2.nonneg (h : Al2 T ws g) {t : Nat} (ht : t < ws.length) : 0 ≤ Go.Proofs.Ytlbekdpmfjhjhaa.pv T ws g t := by
  obtain ⟨p, p1, p2⟩ := h.place ht
  rw [h.pv p1 p2]
  have := (h.1.sh t).1
  split <;> omega
theorem Al2.none (h : Al2 T ws g) {t : Nat} (ht : t < ws.length) (hw : ws.getD t 0 = 0) : Go.Proofs.Ytlbekdpmfjhjhaa.pv T ws g t = 0 := by
  obtain ⟨p, p1, p2⟩ := h.place ht
  rw [h.pv p1 p2]
  have e1 : Sp.sh T (sm ws) ws t = 0 := by unfold Sp.sh; rw [hw, Int.mul_zero, Int.zero_ediv]
  have e2 : Sp.rs T (sm ws) ws t = 0 := by unfold Sp.rs; rw [hw, Int.mul_zero, Int.zero_emod]
  rw [e1, if_neg fun c => by have := h.rest p1 p2 c; omega]; rfl
theorem Al2.most (h : Al2 T ws g) {t : Nat} (ht : t < ws.length) (hT : T ≤ sm ws) : Go.Proofs.Ytlbekdpmfjhjhaa.pv T ws g t ≤ ws.getD t 0 := by
  obtain ⟨p, p1, p2⟩ := h.place ht
  rw [h.pv p1 p2]
  have hS := h.1.2.2.1
  have h1 := Sp.sh_rs (T := T) (S := sm ws) (ws := ws) t
  have h2 : T * ws.getD t 0 ≤ sm ws * ws.getD t 0 := Int.mul_le_mul_of_nonneg_right hT (h.1.one t).1
  have h3 := h.1.rs t
  split
  · rename_i c
    have h4 := h.rest p1 p2 c
    have h5 : sm ws * Sp.sh T (sm ws) ws t < sm ws * ws.getD t 0 := by omega
    have := Int.lt_of_mul_lt_mul_left h5 (by omega)
    omega
  · have h5 : sm ws * Sp.sh T (sm ws) ws t ≤ sm ws * ws.getD t 0 := by omega
    have := Int.le_of_mul_le_mul_left h5 hS
    omega
/-- Of two weights. -/
theorem Al2.mono (h : Al2 T ws g) {s t : Nat} (hs : s < ws.length) (ht : t < ws.length) (hw : ws.getD s 0 < ws.getD t 0) : Go.Proofs.Ytlbekdpmfjhjhaa.pv T ws g s ≤ Go.Proofs.Ytlbekdpmfjhjhaa.pv T ws g t := by
  obtain ⟨p, p1, p2⟩ := h.place hs
  obtain ⟨q, q1, q2⟩ := h.place ht
  rw [h.pv p1 p2, h.pv q1 q2]
  have hS := h.1.2.2.1
  have a1 := Sp.sh_rs (T := T) (S := sm ws) (ws := ws) s
  have a2 := Sp.sh_rs (T := T) (S := sm ws) (ws := ws) t
  have b1 := h.1.rs s
  have b2 := h.1.rs t
  have hm : T * ws.getD s 0 < T * ws.getD t 0 := Int.mul_lt_mul_of_pos_left hw h.1.1
  have hle : Sp.sh T (sm ws) ws s ≤ Sp.sh T (sm ws) ws t := Int.ediv_le_ediv hS (by omega)
  rcases Int.lt_or_eq_of_le hle with hl | he
  · split <;> split <;> omega
  · have hk : Sp.rs T (sm ws) ws s < Sp.rs T (sm ws) ws t := by rw [he] at a1; omega
    have hqp : q < p := by
      refine Classical.byContradiction fun hn => ?_
      rcases Nat.eq_or_lt_of_le (show p ≤ q by omega) with rfl | hlt
      · have : (s : Int) = t := by rw [← p2, ← q2]
        have : s = t := by omega
        subst this
        omega
      · have := h.2.1 p q (Nat.zero_le _) hlt q1
        rw [p2, q2] at this
        unfold St.lt Sp.ky at this
        simp only [Int.toNat_natCast] at this
        omega
    split <;> split <;> omega
theorem Al2.same (h : Al2 T ws g) {s t : Nat} (hs : s < t) (ht : t < ws.length) (hw : ws.getD s 0 = ws.getD t 0) : Go.Proofs.Ytlbekdpmfjhjhaa.pv T ws g t ≤ Go.Proofs.Ytlbekdpmfjhjhaa.pv T ws g s ∧ Go.Proofs.Ytlbekdpmfjhjhaa.pv T ws g s ≤ Go.Proofs.Ytlbekdpmfjhjhaa.pv T ws g t + 1 := by
  obtain ⟨p, p1, p2⟩ := h.place (show s < ws.length by omega)
  obtain ⟨q, q1, q2⟩ := h.place ht
  rw [h.pv p1 p2, h.pv q1 q2]
  have e1 : Sp.sh T (sm ws) ws s = Sp.sh T (sm ws) ws t := by unfold Sp.sh; rw [hw]
  have e2 : Sp.rs T (sm ws) ws s = Sp.rs T (sm ws) ws t := by unfold Sp.rs; rw [hw]
  have hpq : p < q := by
    refine Classical.byContradiction fun hn => ?_
    rcases Nat.eq_or_lt_of_le (show q ≤ p by omega) with rfl | hlt
    · have : (s : Int) = t := by rw [← p2, ← q2]
      omega
    · have := h.2.1 q p (Nat.zero_le _) hlt p1
      rw [p2, q2] at this
      unfold St.lt Sp.ky at this
      simp only [Int.toNat_natCast] at this
      omega
  rw [e1]
  split <;> split <;> omega
/-- All fit. -/
theorem Al2.fits (h : Al2 T ws g) {t : Nat} (ht : t < ws.length) : Go.Proofs.Ytlbekdpmfjhjhaa.pv T ws g t ≤ T := by
  have e := Sp.sm_su (pt T ws g) ws.length (by rw [pt_len]; exact Nat.le_refl _)
  rw [List.take_of_length_le (by rw [pt_len]; exact Nat.le_refl _), h.sum] at e
  have h1 : ∀ s, 0 ≤ (pt T ws g).getD s 0 := fun s => by
    by_cases c : s < ws.length
    · rw [pt_getD c]; exact h.nonneg c
    · have : (pt T ws g).getD s 0 = 0 := by simp [List.getD, pt_len, Nat.le_of_not_lt c]
      omega
  have := Sp.su_ge h1 ht
  rw [pt_getD ht] at this
  omega
end Go.Proofs.Ytlbekdpmfjhjhaa
