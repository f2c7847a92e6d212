/- Plain arithmetic on cuts, no program: the parts that Split tells are the parts of a list, place by place. -/
import Derived.Test.YtlbekdpmfjhjhaaWhole
import Derived.Test.YtlbekdpmfjhjhaaStm
namespace Go.Proofs.Ytlbekdpmfjhjhaa
open Go.RowKit Go.Sort
set_option linter.unusedVariables false

namespace Cut
instance (key : Int → Int) (x y : Int) : Decidable (St.lt key x y) := by unfold St.lt; infer_instance
variable {T : Int} {ws : List Int} {g : Nat → Int}
theorem cnt_su (l : List Int) (p : Int → Bool) : ∀ k, k ≤ l.length → ((l.take k).countP p : Int) = Sp.su (fun t => if p (l.getD t 0) = true then 1 else 0) k
  | 0, _ => by simp [Sp.su]
  | k + 1, hk => by
    have ih := cnt_su l p k (by omega)
    have e : l.take (k + 1) = l.take k ++ [l.getD k 0] := by
      rw [List.take_succ_eq_append_getElem (show k < l.length by omega)]
      simp [List.getD, List.getElem?_eq_getElem (show k < l.length by omega)]
    rw [e, List.countP_append, Sp.su, ← ih]
    by_cases c : p (l.getD k 0) = true
    · rw [if_pos c, List.countP_cons_of_pos c]; simp
    · rw [if_neg c, List.countP_cons_of_neg c]; simp
theorem cnt_all (l : List Int) (p : Int → Bool) : (l.countP p : Int) = Sp.su (fun t => if p (l.getD t 0) = true then 1 else 0) l.length := by
  have := cnt_su l p l.length (Nat.le_refl _)
  rwa [List.take_length] at this
theorem drop_su (l : List Int) (p : Int → Bool) {k : Nat} (hk : k ≤ l.length) : ((l.drop k).countP p : Int) = Sp.su (fun t => if p (l.getD t 0) = true then 1 else 0) l.length - Sp.su (fun t => if p (l.getD t 0) = true then 1 else 0) k := by
  have h1 := cnt_all l p
  have h2 := cnt_su l p k hk
  have h3 : l.countP p = (l.take k).countP p + (l.drop k).countP p := by rw [← List.countP_append, List.take_append_drop]
  omega
theorem su_tail {f h : Nat → Int} {m : Nat} : ∀ {n : Nat}, m ≤ n → (∀ s, m ≤ s → s < n → f s = h s) → Sp.su f n - Sp.su f m = Sp.su h n - Sp.su h m
  | 0, hm, _ => by obtain rfl : m = 0 := by omega
                   omega
  | n + 1, hm, e => by
    by_cases c : m = n + 1
    · subst c; omega
    · have ih := su_tail (n := n) (f := f) (h := h) (by omega) (fun s h1 h2 => e s h1 (by omega))
      have := e n (by omega) (by omega)
      simp only [Sp.su]
      omega
theorem lt_back (h : Al2 T ws g) {p q : Nat} (hp : p < ws.length) (hq : q < ws.length) : St.lt (Sp.ky T (sm ws) ws) (g q) (g p) ↔ q < p := by
  have so := h.2.1
  constructor
  · intro c
    rcases Nat.lt_trichotomy q p with k | k | k
    · exact k
    · subst k
      unfold St.lt at c
      omega
    · have := so p q (Nat.zero_le _) k hq
      unfold St.lt at c this
      omega
  · intro c
    exact so q p (Nat.zero_le _) c hp
theorem rk_at (h : Al2 T ws g) {p t : Nat} (hp : p < ws.length) (ht : g p = t) (hn : t < ws.length) : (rk T (sm ws) (ws.take t) (ws.getD t 0) (ws.drop (t + 1)) : Int) = p := by
  have hb : ∀ j, j < p → 0 ≤ g j ∧ g j < ws.length := fun j hj => by
    have := (h.2.2 (g j)).1 ⟨j, Nat.zero_le _, by omega, rfl⟩
    omega
  have e0 := Sp.su_hit hb
  have e1 : Sp.su (Sp.hit g p) ws.length = Sp.su (fun s => if St.lt (Sp.ky T (sm ws) ws) s t then 1 else 0) ws.length := Sp.su_eq fun s hs => by
    obtain ⟨q, hq, eq⟩ := h.place hs
    rw [h.hit (by omega) hq eq]
    have := lt_back h hp hq
    rw [eq, ht] at this
    by_cases c : q < p
    · rw [if_pos c, if_pos (this.2 c)]
    · rw [if_neg c, if_neg (fun k => c (this.1 k))]
  have e2 : Sp.su (fun s => if St.lt (Sp.ky T (sm ws) ws) s t then (1 : Int) else 0) t = ((ws.take t).countP (fun y => decide (T * ws.getD t 0 % sm ws ≤ T * y % sm ws)) : Int) := by
    rw [cnt_su ws _ t (by omega)]
    refine Sp.su_eq fun s hs => ?_
    have : St.lt (Sp.ky T (sm ws) ws) s t ↔ T * ws.getD t 0 % sm ws ≤ T * ws.getD s 0 % sm ws := by
      unfold St.lt Sp.ky Sp.rs
      simp only [Int.toNat_natCast]
      omega
    by_cases c : T * ws.getD t 0 % sm ws ≤ T * ws.getD s 0 % sm ws
    · rw [if_pos (this.2 c), if_pos (decide_eq_true c)]
    · rw [if_neg (fun k => c (this.1 k)), if_neg (by simpa using c)]
  have e3 : Sp.su (fun s => if St.lt (Sp.ky T (sm ws) ws) s t then (1 : Int) else 0) ws.length - Sp.su (fun s => if St.lt (Sp.ky T (sm ws) ws) s t then (1 : Int) else 0) (t + 1) = ((ws.drop (t + 1)).countP (fun y => decide (T * ws.getD t 0 % sm ws < T * y % sm ws)) : Int) := by
    rw [drop_su ws _ (by omega)]
    refine su_tail (by omega) fun s h1 h2 => ?_
    have : St.lt (Sp.ky T (sm ws) ws) s t ↔ T * ws.getD t 0 % sm ws < T * ws.getD s 0 % sm ws := by
      unfold St.lt Sp.ky Sp.rs
      simp only [Int.toNat_natCast]
      omega
    by_cases c : T * ws.getD t 0 % sm ws < T * ws.getD s 0 % sm ws
    · rw [if_pos (this.2 c), if_pos (decide_eq_true c)]
    · rw [if_neg (fun k => c (this.1 k)), if_neg (by simpa using c)]
  have e4 : Sp.su (fun s => if St.lt (Sp.ky T (sm ws) ws) s t then (1 : Int) else 0) (t + 1) = Sp.su (fun s => if St.lt (Sp.ky T (sm ws) ws) s t then (1 : Int) else 0) t := by
    rw [Sp.su, if_neg (fun c => by unfold St.lt at c; omega), Int.add_zero]
  unfold rk
  omega
/-- What is left behind the shares. -/
def ex (T : Int) (ws : List Int) : Int := T - Sp.su (Sp.sh T (sm ws) ws) ws.length
theorem pt_go (h : Al2 T ws g) : pt T ws g = go T (sm ws) (ex T ws) [] ws := by
  refine List.ext_getElem? fun t => ?_
  by_cases ht : t < ws.length
  · rw [go_at [] ws t ht, List.nil_append]
    have e : (pt T ws g)[t]? = some (pv T ws g t) := by
      rw [← pt_getD ht]
      rw [List.getD, List.getElem?_eq_getElem (by rw [pt_len]; exact ht)]
      rfl
    obtain ⟨p, hp, ep⟩ := h.place ht
    rw [e, h.pv hp ep]
    unfold one ex Sp.sh
    rw [rk_at h hp ep ht]
  · rw [List.getElem?_eq_none (by rw [pt_len]; omega), List.getElem?_eq_none (by rw [go_len]; omega)]
theorem ex_some (h : Al2 T ws g) : ex T ws ≤ some' T (sm ws) ws := by
  have l := h.left
  have few := h.1.few
  have hb : ∀ j, j < (ex T ws).toNat → 0 ≤ g j ∧ g j < ws.length := fun j hj => by
    have := (h.2.2 (g j)).1 ⟨j, Nat.zero_le _, by unfold ex at hj; omega, rfl⟩
    omega
  have e0 := Sp.su_hit hb
  have e1 : Sp.su (Sp.hit g (ex T ws).toNat) ws.length ≤ Sp.su (fun t => if decide (0 < T * ws.getD t 0 % sm ws) = true then 1 else 0) ws.length := Sp.su_le fun t ht => by
    obtain ⟨p, hp, ep⟩ := h.place ht
    rw [h.hit (by unfold ex; omega) hp ep]
    by_cases c : p < (ex T ws).toNat
    · have : 0 < T * ws.getD t 0 % sm ws := h.rest hp ep (by unfold ex at c; omega)
      rw [if_pos c, if_pos (decide_eq_true this)]
      exact Int.le_refl _
    · rw [if_neg c]
      split <;> omega
  unfold some'
  rw [cnt_all ws (fun y => decide (0 < T * y % sm ws))]
  unfold ex at *
  omega
end Cut
end Go.Proofs.Ytlbekdpmfjhjhaa
