/- Texts of a proof, laid together: Qg, RdMath, Qb, Wda, Wdb, Qp. -/
import Derived.Laws.Rows
import Derived.Laws.Tables
import Derived.RegionTactic
import Derived.OrdersHeld
import Derived.BigFrame
import Derived.Test.YtbmlpokkojhhjaaGreatG01
/- Plain facts on the form of a contract's data; no program's function. -/
namespace Go.Proofs.YtbmlpokkojhhjaaGreat
open Go.RowKit

/-- The form, piece by piece. -/
def six (s : Sp) : List Int := nb s.nu.toNat ++ nb s.ro.toNat ++ nb s.ti.toNat ++ nb s.lo.toNat ++ nb s.ba.toNat ++ nb s.li.toNat
def shF (l : List Int) : List Int := l.flatMap ib
def form (s : Sp) : List Int := six s ++ shF s.sh ++ nb s.cr.toNat ++ nb s.la.toNat ++ nb s.fi.toNat
theorem shF_snoc (l : List Int) (x : Int) : shF (l ++ [x]) = shF l ++ ib x := by simp [shF]
theorem ib_by (i : Int) : By (ib i) := by
  unfold ib
  split <;> exact nb_by _
theorem By.app {a b : List Int} (h : By a) (k : By b) : By (a ++ b) := fun x hx => (List.mem_append.1 hx).elim (h x) (k x)
theorem shF_by : ∀ l, By (shF l)
  | [] => by intro x hx; simp [shF] at hx
  | y :: l => by
    have e : shF (y :: l) = ib y ++ shF l := by simp [shF]
    rw [e]
    exact (ib_by y).app (shF_by l)
theorem form_by (s : Sp) : By (form s) := by
  unfold form six
  exact ((((((((((nb_by _).app (nb_by _)).app (nb_by _)).app (nb_by _)).app (nb_by _)).app (nb_by _)).app (shF_by _)).app (nb_by _)).app (nb_by _)).app (nb_by _))
theorem ib_len {i : Int} (h : I64 i) : (ib i).length ≤ 10 := by
  obtain ⟨h1, h2⟩ := h
  unfold ib
  split
  · exact nb_ten (by omega)
  · exact nb_ten (by omega)
theorem shF_len : ∀ l : List Int, (∀ x, x ∈ l → I64 x) → (shF l).length ≤ 10 * l.length
  | [], _ => by simp [shF]
  | y :: l, h => by
    have e : shF (y :: l) = ib y ++ shF l := by simp [shF]
    have h1 := ib_len (h y (by simp))
    have h2 := shF_len l (fun x hx => h x (by simp [hx]))
    rw [e, List.length_append, List.length_cons]
    omega
theorem six_len {s : Sp} (h : s.ok) : (six s).length ≤ 60 := by
  have h1 := nb_ten (n := s.nu.toNat) (by have := h.nu; omega)
  have h2 := nb_ten (n := s.ro.toNat) (by have := h.ro; omega)
  have h3 := nb_ten (n := s.ti.toNat) (by have := h.ti.2; omega)
  have h4 := nb_ten (n := s.lo.toNat) (by have := h.lo.2; omega)
  have h5 := nb_ten (n := s.ba.toNat) (by have := h.ba.2; omega)
  have h6 := nb_ten (n := s.li.toNat) (by have := h.li.2; omega)
  unfold six
  simp only [List.length_append]
  omega
theorem form_len {s : Sp} (h : s.ok) : (form s).length ≤ 250 := by
  have h0 := six_len h
  have h1 := nb_ten (n := s.cr.toNat) (by have := h.cr.2; omega)
  have h2 := nb_ten (n := s.la.toNat) (by have := h.la.2; omega)
  have h3 := nb_ten (n := s.fi.toNat) (by have := h.fi.2; omega)
  have h4 := shF_len s.sh h.sh
  rw [h.len] at h4
  unfold form
  simp only [List.length_append]
  omega
end Go.Proofs.YtbmlpokkojhhjaaGreat
/- Plain facts on reading a number's form out of bytes, no program. -/
namespace Go.Proofs.YtbmlpokkojhhjaaGreat

/-- How many bytes of 128 and more stand ahead. -/
def ld : List Int → Nat
  | [] => 0
  | x :: l => if 128 ≤ x then ld l + 1 else 0
/-- The number whose digits to the base 128 the bytes are. -/
def dv : List Int → Int
  | [] => 0
  | x :: l => x % 128 + 128 * dv l
/-- What is read as a number: it, how many bytes it has, and the fault. -/
def rdN (bs : List Int) : Int × Nat × Int :=
  if bs.length ≤ ld bs then (0, 0, if 10 ≤ ld bs then 5 else 4)
  else if 9 < ld bs ∨ (ld bs = 9 ∧ 1 < bs.getD 9 0) ∨ (0 < ld bs ∧ bs.getD (ld bs) 0 = 0) then (0, 0, 5)
  else (dv (bs.take (ld bs + 1)), ld bs + 1, 0)

theorem ld_le : ∀ bs, ld bs ≤ bs.length
  | [] => Nat.le_refl _
  | x :: l => by
    have := ld_le l
    simp only [ld, List.length_cons]
    split <;> omega
theorem ld_eq : ∀ {bs : List Int} {k : Nat}, (∀ t, t < k → 128 ≤ bs.getD t 0) → k ≤ bs.length → (k < bs.length → bs.getD k 0 < 128) → ld bs = k
  | [], k, _, h, _ => by simp at h; rw [h]; rfl
  | x :: l, 0, _, _, h => by
    have := h (by simp)
    simp at this
    simp only [ld]
    rw [if_neg (by omega)]
  | x :: l, k + 1, h1, h2, h3 => by
    have h0 := h1 0 (by omega)
    simp at h0
    simp only [ld]
    rw [if_pos h0, ld_eq (bs := l) (k := k) (fun t ht => by have := h1 (t + 1) (by omega); simpa using this) (by simp at h2; omega) (fun hk => by have := h3 (by simp; omega); simpa using this)]
theorem dv_nonneg : ∀ bs, 0 ≤ dv bs
  | [] => Int.le_refl _
  | x :: l => by
    have := dv_nonneg l
    simp only [dv]; omega
theorem dv_drop : ∀ (bs : List Int) (j : Nat), dv (bs.drop j) ≤ dv bs
  | [], j => by simp
  | x :: l, 0 => Int.le_refl _
  | x :: l, j + 1 => by
    have h1 := dv_drop l j
    have h2 := dv_nonneg l
    simp only [List.drop_succ_cons, dv]; omega
theorem dv_step {bs : List Int} {j : Nat} (h : j < bs.length) : dv (bs.drop j) = bs.getD j 0 % 128 + 128 * dv (bs.drop (j + 1)) := by
  rw [List.drop_eq_getElem_cons h]
  simp [dv, List.getD, h]
theorem dv_lt : ∀ bs, dv bs < 128 ^ bs.length
  | [] => by simp [dv]
  | x :: l => by
    have := dv_lt l
    simp only [dv, List.length_cons, Int.pow_succ]; omega
theorem dv_snoc : ∀ (l : List Int) (x : Int), dv (l ++ [x]) = dv l + 128 ^ l.length * (x % 128)
  | [], x => by simp [dv]
  | y :: l, x => by
    have e : (128 : Int) ^ l.length * 128 * (x % 128) = 128 * (128 ^ l.length * (x % 128)) := by rw [Int.mul_comm (128 ^ l.length) 128, Int.mul_assoc]
    simp only [List.cons_append, dv, List.length_cons, Int.pow_succ]
    rw [dv_snoc l x, e, Int.mul_add]; omega
theorem dv_word {bs : List Int} {k : Nat} (hk : k < bs.length) (h9 : k ≤ 9) (h1 : k = 9 → 0 ≤ bs.getD 9 0 ∧ bs.getD 9 0 ≤ 1) : dv (bs.take (k + 1)) ≤ 18446744073709551615 := by
  by_cases h : k = 9
  · subst h
    have hx := h1 rfl
    rw [List.take_succ_eq_append_getElem hk, dv_snoc]
    have e : bs.getD 9 0 = bs[9] := by simp [List.getD, hk]
    rw [e] at hx
    have l := dv_lt (bs.take 9)
    rw [show (bs.take 9).length = 9 by simp; omega] at l ⊢
    have p : (128 : Int) ^ 9 = 9223372036854775808 := by decide
    rw [p] at l ⊢
    omega
  · have l := dv_lt (bs.take (k + 1))
    rw [show (bs.take (k + 1)).length = k + 1 by simp; omega] at l
    have p : (128 : Int) ^ (k + 1) ≤ 128 ^ 9 := by
      have h := Int.ofNat_le.2 (Nat.pow_le_pow_right (show 0 < 128 by decide) (show k + 1 ≤ 9 by omega))
      simpa using h
    have q : (128 : Int) ^ 9 = 9223372036854775808 := by decide
    omega
theorem take_getD {bs : List Int} {k t : Nat} (h : t < k) : (bs.take k).getD t 0 = bs.getD t 0 := by
  simp [List.getD, h]
/-- A form is read back, whatever stands behind it. -/
theorem nb_head {n : Nat} (h : 128 ≤ n) (l : List Int) : nb n ++ l = (((n % 128 : Nat) : Int) + 128) :: (nb (n / 128) ++ l) := by rw [nb_big h]; rfl
theorem ld_nb (n : Nat) (l : List Int) : ld (nb n ++ l) + 1 = (nb n).length := by
  induction n using Nat.strongRecOn with
  | _ n ih =>
    by_cases h : n < 128
    · rw [nb_small h]
      simp only [List.cons_append, ld, List.length_cons, List.length_nil]
      rw [if_neg (by omega)]
    · rw [nb_head (n := n) (by omega), nb_big (n := n) (by omega)]
      simp only [ld, List.length_cons]
      rw [if_pos (by omega), ih (n / 128) (by omega)]
theorem dv_nb (n : Nat) : dv (nb n) = n := by
  induction n using Nat.strongRecOn with
  | _ n ih =>
    by_cases h : n < 128
    · rw [nb_small h]
      simp only [dv]; omega
    · rw [nb_big (n := n) (by omega)]
      simp only [dv]
      rw [ih (n / 128) (by omega)]; omega
theorem last_nb (n : Nat) (l : List Int) : (nb n ++ l).getD ((nb n).length - 1) 0 < 128 ∧ (128 ≤ n → 0 < (nb n ++ l).getD ((nb n).length - 1) 0) := by
  induction n using Nat.strongRecOn with
  | _ n ih =>
    by_cases h0 : n < 128
    · rw [nb_small h0]
      simp
      omega
    · rw [nb_head (n := n) (by omega), nb_big (n := n) (by omega)]
      have hp := nb_pos (n / 128)
      obtain ⟨L, hL⟩ : ∃ L, (nb (n / 128)).length = L + 1 := ⟨(nb (n / 128)).length - 1, by omega⟩
      have k := ih (n / 128) (by omega)
      rw [List.length_cons, hL, show L + 1 + 1 - 1 = L + 1 from rfl]
      rw [hL, show L + 1 - 1 = L from rfl] at k
      have e : ∀ (y : Int) (m : List Int), (y :: m).getD (L + 1) 0 = m.getD L 0 := fun y m => by simp [List.getD]
      rw [e]
      refine ⟨k.1, fun _ => ?_⟩
      by_cases h : n / 128 < 128
      · rw [nb_small h] at hL ⊢
        simp at hL
        subst hL
        simp
        omega
      · exact k.2 (by omega)
theorem nine_nb {n : Nat} (hn : n < 18446744073709551616) (l : List Int) (h : (nb n).length = 10) : (nb n ++ l).getD 9 0 ≤ 1 := by
  have e := dv_nb n
  obtain ⟨x, m, hm⟩ : ∃ x m, nb n = m ++ [x] := ⟨(nb n).getLast (by intro c; rw [c] at h; simp at h), (nb n).dropLast, (List.dropLast_concat_getLast _).symm⟩
  have hx : 0 ≤ x ∧ x ≤ 255 := nb_by n x (by rw [hm]; simp)
  have hl : m.length = 9 := by rw [hm] at h; simp at h; exact h
  have hx1 := (last_nb n l).1
  rw [h] at hx1
  have ex : (nb n ++ l).getD 9 0 = x := by rw [hm]; simp [List.getD, hl]
  rw [show 10 - 1 = 9 from rfl, ex] at hx1
  rw [ex]
  rw [hm, dv_snoc, hl] at e
  have p : (128 : Int) ^ 9 = 9223372036854775808 := by decide
  rw [p] at e
  have := dv_nonneg m
  omega
/-- What was written is read. -/
theorem rd_nb {n : Nat} (hn : n < 18446744073709551616) (l : List Int) : rdN (nb n ++ l) = ((n : Int), (nb n).length, 0) := by
  have h1 := ld_nb n l
  have h2 := nb_ten hn
  have h3 := last_nb n l
  have hk : ld (nb n ++ l) = (nb n).length - 1 := by omega
  have h4 : ¬ (nb n ++ l).length ≤ ld (nb n ++ l) := by rw [List.length_append]; omega
  have h5 : ¬ (9 < ld (nb n ++ l) ∨ (ld (nb n ++ l) = 9 ∧ 1 < (nb n ++ l).getD 9 0) ∨ (0 < ld (nb n ++ l) ∧ (nb n ++ l).getD (ld (nb n ++ l)) 0 = 0)) := by
    rintro (c | ⟨c1, c2⟩ | ⟨c1, c2⟩)
    · omega
    · have := nine_nb hn l (by omega)
      omega
    · rw [hk] at c2
      by_cases h0 : n < 128
      · have hlen : (nb n).length = 1 := by rw [nb_small h0]; rfl
        omega
      · have := h3.2 (by omega)
        omega
  unfold rdN
  rw [if_neg h4, if_neg h5, h1, List.take_left, dv_nb]
/-- One form each: what is read as a number, written again, is the bytes that were read. -/
theorem nb_dv : ∀ (bs : List Int), By bs → (∀ t, t + 1 < bs.length → 128 ≤ bs.getD t 0) → 0 < bs.length → bs.getD (bs.length - 1) 0 < 128 → (1 < bs.length → bs.getD (bs.length - 1) 0 ≠ 0) → nb (dv bs).toNat = bs
  | [], _, _, h, _, _ => absurd h (Nat.lt_irrefl 0)
  | [x], hy, _, _, h1, _ => by
    have hx := hy x (by simp)
    simp at h1
    have e : dv [x] = x := by simp only [dv]; omega
    rw [e, nb_small (by omega)]
    congr 1; omega
  | x :: y :: l, hy, h128, _, h1, h2 => by
    have hx := hy x (by simp)
    have hx1 := h128 0 (by simp)
    simp at hx1
    have ih := nb_dv (y :: l) (fun z hz => hy z (by simp at hz ⊢; exact Or.inr hz)) (fun t ht => by
      have := h128 (t + 1) (by simp at ht ⊢; omega)
      simpa [List.getD] using this) (by simp) (by simpa [List.getD] using h1) (fun _ => by
      have := h2 (by simp)
      simpa [List.getD] using this)
    have h0 := dv_nonneg (y :: l)
    have hpos : 1 ≤ dv (y :: l) := by
      refine Classical.byContradiction fun c => ?_
      have c0 : dv (y :: l) = 0 := by omega
      rw [c0, show (0 : Int).toNat = 0 from rfl, nb_small (by omega)] at ih
      have hl : l = [] := by
        have := congrArg List.length ih
        simpa using this
      subst hl
      simp at ih
      have := h2 (by simp)
      simp at this
      omega
    have e : dv (x :: y :: l) = x % 128 + 128 * dv (y :: l) := rfl
    rw [nb_big (n := (dv (x :: y :: l)).toNat) (by rw [e]; omega), e]
    have e1 : (x % 128 + 128 * dv (y :: l)).toNat / 128 = (dv (y :: l)).toNat := by omega
    have e2 : (((x % 128 + 128 * dv (y :: l)).toNat % 128 : Nat) : Int) + 128 = x := by omega
    rw [e1, e2, ih]
end Go.Proofs.YtbmlpokkojhhjaaGreat
/- Plain facts: no form of a contract's data begins another one's; no program. -/
namespace Go.Proofs.YtbmlpokkojhhjaaGreat

theorem nb_cancel {n m : Nat} (hn : n < 18446744073709551616) (hm : m < 18446744073709551616) {l r : List Int} (h : nb n ++ l = nb m ++ r) : n = m ∧ l = r := by
  have h1 := rd_nb hn l
  have h2 := rd_nb hm r
  rw [h, h2] at h1
  simp only [Prod.mk.injEq] at h1
  have e : n = m := by omega
  subst e
  exact ⟨rfl, List.append_cancel_left h⟩
theorem ib_cancel {i j : Int} (hi : I64 i) (hj : I64 j) {l r : List Int} (h : ib i ++ l = ib j ++ r) : i = j ∧ l = r := by
  obtain ⟨i1, i2⟩ := hi
  obtain ⟨j1, j2⟩ := hj
  unfold ib at h
  split at h <;> split at h
  all_goals
    obtain ⟨e, e2⟩ := nb_cancel (by omega) (by omega) h
    exact ⟨by omega, e2⟩
theorem shF_cancel : ∀ (l m r q : List Int), l.length = m.length → (∀ x, x ∈ l → I64 x) → (∀ x, x ∈ m → I64 x) → shF l ++ r = shF m ++ q → l = m ∧ r = q
  | [], [], r, q, _, _, _, h => ⟨rfl, by simpa [shF] using h⟩
  | [], y :: m, _, _, hl, _, _, _ => by simp at hl
  | x :: l, [], _, _, hl, _, _, _ => by simp at hl
  | x :: l, y :: m, r, q, hl, h1, h2, h => by
    have e1 : shF (x :: l) = ib x ++ shF l := by simp [shF]
    have e2 : shF (y :: m) = ib y ++ shF m := by simp [shF]
    rw [e1, e2, List.append_assoc, List.append_assoc] at h
    obtain ⟨e, h'⟩ := ib_cancel (h1 x (by simp)) (h2 y (by simp)) h
    obtain ⟨e3, e4⟩ := shF_cancel l m r q (by simpa using hl) (fun z hz => h1 z (by simp [hz])) (fun z hz => h2 z (by simp [hz])) h'
    exact ⟨by rw [e, e3], e4⟩
/-- What fits its kind and is not below 0, as all numbers of data that may be are. -/
theorem small_of {x : Int} (h : x ≤ 9223372036854775807) : x.toNat < 18446744073709551616 := by omega
theorem form_begins {s t : Sp} (hs : s.ok) (ms : mayB s = true) (ht : t.ok) (mt : mayB t = true) {r : List Int} (h : form s ++ r = form t) : s = t ∧ r = [] := by
  have ps := head_parts (may_head ms)
  have pt := head_parts (may_head mt)
  have fs := may_fi ms
  have ft := may_fi mt
  have a1 := hs.nu
  have a2 := ht.nu
  have a3 := hs.ro
  have a4 := ht.ro
  have a5 := hs.la
  have a6 := ht.la
  have h2 : form s ++ r = form t ++ [] := by rw [List.append_nil]; exact h
  unfold form six at h2
  simp only [List.append_assoc] at h2
  obtain ⟨e0, h2⟩ := nb_cancel (by omega) (by omega) h2
  obtain ⟨e1, h2⟩ := nb_cancel (by omega) (by omega) h2
  obtain ⟨e2, h2⟩ := nb_cancel (by omega) (by omega) h2
  obtain ⟨e3, h2⟩ := nb_cancel (by omega) (by omega) h2
  obtain ⟨e4, h2⟩ := nb_cancel (by omega) (by omega) h2
  obtain ⟨e5, h2⟩ := nb_cancel (by omega) (by omega) h2
  obtain ⟨e6, h2⟩ := shF_cancel _ _ _ _ (by rw [hs.len, ht.len]) hs.sh ht.sh h2
  obtain ⟨e7, h2⟩ := nb_cancel (by omega) (by omega) h2
  obtain ⟨e8, h2⟩ := nb_cancel (by omega) (by omega) h2
  obtain ⟨e9, h2⟩ := nb_cancel (by omega) (by omega) h2
  refine ⟨?_, h2⟩
  obtain ⟨n1, r1, t1, l1, b1, i1, s1, c1, d1, f1⟩ := s
  obtain ⟨n2, r2, t2, l2, b2, i2, s2, c2, d2, f2⟩ := t
  dsimp only at *
  have g0 : n1 = n2 := by omega
  have g1 : r1 = r2 := by omega
  have g2 : t1 = t2 := by omega
  have g3 : l1 = l2 := by omega
  have g4 : b1 = b2 := by omega
  have g5 : i1 = i2 := by omega
  have g7 : c1 = c2 := by omega
  have g8 : d1 = d2 := by omega
  have g9 : f1 = f2 := by omega
  rw [g0, g1, g2, g3, g4, g5, e6, g7, g8, g9]
theorem form_more {s t : Sp} (hs : s.ok) (ms : mayB s = true) (ht : t.ok) (mt : mayB t = true) : form s ++ [0] ≠ form t := fun h => by
  have := (form_begins hs ms ht mt h).2
  cases this
theorem form_inj {s t : Sp} (hs : s.ok) (ms : mayB s = true) (ht : t.ok) (mt : mayB t = true) (h : form s = form t) : s = t :=
  (form_begins hs ms ht mt (r := []) (by rw [List.append_nil]; exact h)).1
end Go.Proofs.YtbmlpokkojhhjaaGreat
/- Plain: commands and replies, which may be, their forms; no form is another one's; no program. -/
namespace Go.Proofs.YtbmlpokkojhhjaaGreat
open Go.RowKit
set_option linter.unusedVariables false
set_option linter.unusedSimpArgs false

/-- A command. -/
structure Cm where
  kd : Int
  ac : Int
  ct : Int
  nu : Int
  am : Int
  sp : Sp
  on : Bool
  bu : Bool
  as' : Int
  px : Int
  qt : Int
  len : sp.sh.length = 16
structure Cm.ok (c : Cm) : Prop where
  kd : 0 ≤ c.kd ∧ c.kd ≤ 255
  ac : 0 ≤ c.ac ∧ c.ac ≤ 4294967295
  ct : 0 ≤ c.ct ∧ c.ct ≤ 4294967295
  nu : 0 ≤ c.nu ∧ c.nu ≤ 18446744073709551615
  am : I64 c.am
  sp : c.sp.ok
  as' : 0 ≤ c.as' ∧ c.as' ≤ 255
  px : I64 c.px
  qt : I64 c.qt
/-- Its fields by its kind: 0 account, 1 contract, 2 number, 3 amount, 4 data, 5 on, 6 buy, 7 as, 8 price, 9 quantity. -/
def flds (k : Int) : List Nat :=
  if k = 1 then [0, 3] else if k = 2 then [0, 3] else if k = 3 then [4] else if k = 4 then [1, 5] else if k = 5 then [0, 1, 6, 7, 8, 9] else if k = 6 then [0, 2] else if k = 7 then [0, 2, 8, 9] else if k = 8 then [0, 1] else if k = 9 then [0, 1, 6, 8, 9] else if k = 10 then [0, 5] else if k = 11 then [1, 8] else if k = 13 then [0] else if k = 14 then [1] else []
def fF (c : Cm) : Nat → List Int
  | 0 => nb c.ac.toNat
  | 1 => nb c.ct.toNat
  | 2 => nb c.nu.toNat
  | 3 => ib c.am
  | 4 => form c.sp
  | 5 => fb c.on
  | 6 => fb c.bu
  | 7 => nb c.as'.toNat
  | 8 => ib c.px
  | _ => ib c.qt
def formC (c : Cm) : List Int := nb c.kd.toNat ++ (flds c.kd).flatMap (fF c)
def zeroSpW : Sp := ⟨0, 0, 0, 0, 0, 0, [0, 0, 0, 0, 0, 0, 0, 0, 0, 0, 0, 0, 0, 0, 0, 0], 0, 0, 0⟩
/-- The i-th field is nothing; the fields are alike. -/
def noF (c : Cm) : Nat → Prop
  | 0 => c.ac = 0
  | 1 => c.ct = 0
  | 2 => c.nu = 0
  | 3 => c.am = 0
  | 4 => c.sp = zeroSpW
  | 5 => c.on = false
  | 6 => c.bu = false
  | 7 => c.as' = 0
  | 8 => c.px = 0
  | _ => c.qt = 0
def eqF15 (c d : Cm) : Nat → Prop
  | 0 => c.ac = d.ac
  | 1 => c.ct = d.ct
  | 2 => c.nu = d.nu
  | 3 => c.am = d.am
  | 4 => c.sp = d.sp
  | 5 => c.on = d.on
  | 6 => c.bu = d.bu
  | 7 => c.as' = d.as'
  | 8 => c.px = d.px
  | _ => c.qt = d.qt
structure MayC (c : Cm) : Prop where
  kd : 1 ≤ c.kd ∧ c.kd ≤ 14
  no : ∀ i, i < 10 → i ∉ flds c.kd → noF c i
  sp : 4 ∈ flds c.kd → mayB c.sp = true
theorem fb_cancel {a b : Bool} {l r : List Int} (h : fb a ++ l = fb b ++ r) : a = b ∧ l = r := by
  cases a <;> cases b <;> simp [fb] at h ⊢ <;> exact h
theorem form_cancel {s t : Sp} (hs : s.ok) (ms : mayB s = true) (ht : t.ok) (mt : mayB t = true) {l r : List Int} (h : form s ++ l = form t ++ r) : s = t ∧ l = r := by
  rcases List.append_eq_append_iff.1 h with ⟨x, h1, h2⟩ | ⟨x, h1, h2⟩
  · obtain ⟨e, e2⟩ := form_begins hs ms ht mt h1.symm
    subst e2
    exact ⟨e, by simpa using h2⟩
  · obtain ⟨e, e2⟩ := form_begins ht mt hs ms h1.symm
    subst e2
    exact ⟨e.symm, by simpa using h2.symm⟩
theorem fF_cancel {c d : Cm} (hc : c.ok) (hd : d.ok) {i : Nat} (hi : i < 10) (sc : i = 4 → mayB c.sp = true) (sd : i = 4 → mayB d.sp = true) {l r : List Int} (h : fF c i ++ l = fF d i ++ r) : eqF15 c d i ∧ l = r := by
  have c1 := hc.ac
  have c2 := hc.ct
  have c3 := hc.nu
  have c4 := hc.as'
  have d1 := hd.ac
  have d2 := hd.ct
  have d3 := hd.nu
  have d4 := hd.as'
  match i, hi with
  | 0, _ => obtain ⟨e, e2⟩ := nb_cancel (by omega) (by omega) h; exact ⟨by show c.ac = d.ac; omega, e2⟩
  | 1, _ => obtain ⟨e, e2⟩ := nb_cancel (by omega) (by omega) h; exact ⟨by show c.ct = d.ct; omega, e2⟩
  | 2, _ => obtain ⟨e, e2⟩ := nb_cancel (by omega) (by omega) h; exact ⟨by show c.nu = d.nu; omega, e2⟩
  | 3, _ => exact ib_cancel hc.am hd.am h
  | 4, _ => exact form_cancel hc.sp (sc rfl) hd.sp (sd rfl) h
  | 5, _ => exact fb_cancel h
  | 6, _ => exact fb_cancel h
  | 7, _ => obtain ⟨e, e2⟩ := nb_cancel (by omega) (by omega) h; exact ⟨by show c.as' = d.as'; omega, e2⟩
  | 8, _ => exact ib_cancel hc.px hd.px h
  | 9, _ => exact ib_cancel hc.qt hd.qt h
theorem fs_cancel {c d : Cm} (hc : c.ok) (hd : d.ok) : ∀ (L : List Nat), (∀ i, i ∈ L → i < 10) → (4 ∈ L → mayB c.sp = true) → (4 ∈ L → mayB d.sp = true) → ∀ {l r : List Int}, L.flatMap (fF c) ++ l = L.flatMap (fF d) ++ r → (∀ i, i ∈ L → eqF15 c d i) ∧ l = r
  | [], _, _, _, l, r, h => ⟨fun i hi => (by cases hi), by simpa using h⟩
  | j :: L, hL, sc, sd, l, r, h => by
    rw [List.flatMap_cons, List.flatMap_cons, List.append_assoc, List.append_assoc] at h
    obtain ⟨e, h'⟩ := fF_cancel hc hd (hL j (by simp)) (fun e => sc (by simp [e])) (fun e => sd (by simp [e])) h
    obtain ⟨e2, e3⟩ := fs_cancel hc hd L (fun i hi => hL i (by simp [hi])) (fun k => sc (by simp [k])) (fun k => sd (by simp [k])) h'
    refine ⟨fun i hi => ?_, e3⟩
    rcases List.mem_cons.1 hi with rfl | hi
    · exact e
    · exact e2 i hi
theorem ite_all15 {p : Prop} [Decidable p] {a b : List Nat} (ha : ∀ i, i ∈ a → i < 10) (hb : ∀ i, i ∈ b → i < 10) : ∀ i, i ∈ (if p then a else b) → i < 10 := by
  by_cases c : p
  · rw [if_pos c]; exact ha
  · rw [if_neg c]; exact hb
theorem flds_lt (k : Int) : ∀ i, i ∈ flds k → i < 10 := by
  unfold flds
  repeat (refine ite_all15 (by decide) ?_)
  decide
theorem eq_of_no {c d : Cm} : ∀ i, i < 10 → noF c i → noF d i → eqF15 c d i
  | 0, _, h, k => h.trans k.symm
  | 1, _, h, k => h.trans k.symm
  | 2, _, h, k => h.trans k.symm
  | 3, _, h, k => h.trans k.symm
  | 4, _, h, k => h.trans k.symm
  | 5, _, h, k => h.trans k.symm
  | 6, _, h, k => h.trans k.symm
  | 7, _, h, k => h.trans k.symm
  | 8, _, h, k => h.trans k.symm
  | 9, _, h, k => h.trans k.symm
theorem cm_eq {c d : Cm} (hk : c.kd = d.kd) (h : ∀ i, i < 10 → eqF15 c d i) : c = d := by
  obtain ⟨a0, a1, a2, a3, a4, a5, a6, a7, a8, a9, a10, _⟩ := c
  obtain ⟨b0, b1, b2, b3, b4, b5, b6, b7, b8, b9, b10, _⟩ := d
  have h0 : a1 = b1 := h 0 (by omega)
  have h1 : a2 = b2 := h 1 (by omega)
  have h2 : a3 = b3 := h 2 (by omega)
  have h3 : a4 = b4 := h 3 (by omega)
  have h4 : a5 = b5 := h 4 (by omega)
  have h5 : a6 = b6 := h 5 (by omega)
  have h6 : a7 = b7 := h 6 (by omega)
  have h7 : a8 = b8 := h 7 (by omega)
  have h8 : a9 = b9 := h 8 (by omega)
  have h9 : a10 = b10 := h 9 (by omega)
  have hk' : a0 = b0 := hk
  subst h0 h1 h2 h3 h4 h5 h6 h7 h8 h9 hk'
  rfl
/-- One form each, and none begins another one's. -/
theorem formC_cancel {c d : Cm} (hc : c.ok) (hd : d.ok) (mc : MayC c) (md : MayC d) {l r : List Int} (h : formC c ++ l = formC d ++ r) : c = d ∧ l = r := by
  have k1 := hc.kd
  have k2 := hd.kd
  unfold formC at h
  rw [List.append_assoc, List.append_assoc] at h
  obtain ⟨e, h'⟩ := nb_cancel (by omega) (by omega) h
  have ek : c.kd = d.kd := by omega
  have nd := md.no
  have sd := md.sp
  rw [← ek] at h' nd sd
  obtain ⟨e2, e3⟩ := fs_cancel hc hd (flds c.kd) (flds_lt c.kd) mc.sp sd h'
  refine ⟨cm_eq ek fun i hi => ?_, e3⟩
  by_cases m : i ∈ flds c.kd
  · exact e2 i m
  · exact eq_of_no i hi (mc.no i hi m) (nd i hi m)
theorem formC_inj {c d : Cm} (hc : c.ok) (hd : d.ok) (mc : MayC c) (md : MayC d) (h : formC c = formC d) : c = d :=
  (formC_cancel hc hd mc md (l := []) (r := []) (by rw [h])).1
/-- What bytes are read as: the one command that may be with that form, or none. -/
def IsC (bs : List Int) (c : Cm) : Prop := c.ok ∧ MayC c ∧ formC c = bs
theorem IsC.one {bs : List Int} {c d : Cm} (h : IsC bs c) (k : IsC bs d) : c = d := formC_inj h.1 k.1 h.2.1 k.2.1 (h.2.2.trans k.2.2.symm)
theorem IsC.more {bs : List Int} {c : Cm} (h : IsC bs c) (x : Int) (d : Cm) : ¬ IsC (bs ++ [x]) d := fun k => by
  have e : formC c ++ [x] = formC d ++ [] := by rw [h.2.2, k.2.2, List.append_nil]
  have := (formC_cancel h.1 k.1 h.2.1 k.2.1 e).2
  cases this
/-- A trade told. -/
structure Tw where
  px : Int
  qt : Int
  nu : Int
  ac : Int
structure Tw.ok (t : Tw) : Prop where
  px : I64 t.px
  qt : I64 t.qt
  nu : 0 ≤ t.nu ∧ t.nu ≤ 18446744073709551615
  ac : 0 ≤ t.ac ∧ t.ac ≤ 4294967295
/-- A reply. -/
structure Rw where
  er : Int
  nu : Int
  fi : Int
  le : Int
  tr : List Tw
  go : List Int
  ac : List Int
structure Rw.ok (r : Rw) : Prop where
  er : I64 r.er
  nu : 0 ≤ r.nu ∧ r.nu ≤ 18446744073709551615
  fi : I64 r.fi
  le : I64 r.le
  tr : ∀ t, t ∈ r.tr → t.ok
  go : ∀ n, n ∈ r.go → 0 ≤ n ∧ n ≤ 18446744073709551615
  ac : ∀ n, n ∈ r.ac → 0 ≤ n ∧ n ≤ 4294967295
def trF (t : Tw) : List Int := ib t.px ++ ib t.qt ++ nb t.nu.toNat ++ nb t.ac.toNat
def nF (n : Int) : List Int := nb n.toNat
def lstF {α : Type} (f : α → List Int) (l : List α) : List Int := nb l.length ++ l.flatMap f
def formR (r : Rw) : List Int := nb r.er.toNat ++ if r.er = 0 then nb r.nu.toNat ++ ib r.fi ++ ib r.le ++ lstF trF r.tr ++ lstF nF r.go ++ lstF nF r.ac else []
structure MayR (r : Rw) : Prop where
  er : 0 ≤ r.er ∧ r.er ≤ 999
  lt : r.tr.length ≤ 4000
  lg : r.go.length ≤ 4000
  la : r.ac.length ≤ 4000
  no : r.er ≠ 0 → r.nu = 0 ∧ r.fi = 0 ∧ r.le = 0 ∧ r.tr = [] ∧ r.go = [] ∧ r.ac = []
theorem trF_cancel {s t : Tw} (hs : s.ok) (ht : t.ok) {l r : List Int} (h : trF s ++ l = trF t ++ r) : s = t ∧ l = r := by
  have a1 := hs.nu
  have a2 := ht.nu
  have a3 := hs.ac
  have a4 := ht.ac
  unfold trF at h
  simp only [List.append_assoc] at h
  obtain ⟨e0, h⟩ := ib_cancel hs.px ht.px h
  obtain ⟨e1, h⟩ := ib_cancel hs.qt ht.qt h
  obtain ⟨e2, h⟩ := nb_cancel (by omega) (by omega) h
  obtain ⟨e3, h⟩ := nb_cancel (by omega) (by omega) h
  refine ⟨?_, h⟩
  have e2' : s.nu = t.nu := by omega
  have e3' : s.ac = t.ac := by omega
  clear e2 e3 a1 a2 a3 a4
  obtain ⟨a, b, c, d⟩ := s
  obtain ⟨a', b', c', d'⟩ := t
  simp only [Tw.mk.injEq]
  exact ⟨e0, e1, e2', e3'⟩
theorem nF_cancel {m n : Int} (hm : 0 ≤ m ∧ m ≤ 18446744073709551615) (hn : 0 ≤ n ∧ n ≤ 18446744073709551615) {l r : List Int} (h : nF m ++ l = nF n ++ r) : m = n ∧ l = r := by
  obtain ⟨e, e2⟩ := nb_cancel (by omega) (by omega) h
  exact ⟨by omega, e2⟩
theorem map_cancel {α : Type} {f : α → List Int} {P : α → Prop} (hf : ∀ (x y : α), P x → P y → ∀ {l r : List Int}, f x ++ l = f y ++ r → x = y ∧ l = r) : ∀ (a b : List α), a.length = b.length → (∀ x, x ∈ a → P x) → (∀ x, x ∈ b → P x) → ∀ {l r : List Int}, a.flatMap f ++ l = b.flatMap f ++ r → a = b ∧ l = r
  | [], [], _, _, _, l, r, h => ⟨rfl, by simpa using h⟩
  | [], y :: b, hl, _, _, _, _, _ => by simp at hl
  | x :: a, [], hl, _, _, _, _, _ => by simp at hl
  | x :: a, y :: b, hl, h1, h2, l, r, h => by
    rw [List.flatMap_cons, List.flatMap_cons, List.append_assoc, List.append_assoc] at h
    obtain ⟨e, h'⟩ := hf x y (h1 x (by simp)) (h2 y (by simp)) h
    obtain ⟨e2, e3⟩ := map_cancel hf a b (by simpa using hl) (fun z hz => h1 z (by simp [hz])) (fun z hz => h2 z (by simp [hz])) h'
    exact ⟨by rw [e, e2], e3⟩
theorem lstF_cancel {α : Type} {f : α → List Int} {P : α → Prop} (hf : ∀ (x y : α), P x → P y → ∀ {l r : List Int}, f x ++ l = f y ++ r → x = y ∧ l = r) {a b : List α} (la : a.length ≤ 4000) (lb : b.length ≤ 4000) (h1 : ∀ x, x ∈ a → P x) (h2 : ∀ x, x ∈ b → P x) {l r : List Int} (h : lstF f a ++ l = lstF f b ++ r) : a = b ∧ l = r := by
  unfold lstF at h
  rw [List.append_assoc, List.append_assoc] at h
  obtain ⟨e, h'⟩ := nb_cancel (by omega) (by omega) h
  exact map_cancel hf a b e h1 h2 h'
theorem formR_cancel {x y : Rw} (hx : x.ok) (hy : y.ok) (mx : MayR x) (my : MayR y) {l r : List Int} (h : formR x ++ l = formR y ++ r) : x = y ∧ l = r := by
  have k1 := mx.er
  have k2 := my.er
  unfold formR at h
  simp only [List.append_assoc] at h
  obtain ⟨e, h'⟩ := nb_cancel (by omega) (by omega) h
  have ek : x.er = y.er := by omega
  by_cases z : x.er = 0
  · rw [if_pos z, if_pos (by omega)] at h'
    simp only [List.append_assoc] at h'
    have a1 := hx.nu
    have a2 := hy.nu
    obtain ⟨e0, h'⟩ := nb_cancel (by omega) (by omega) h'
    obtain ⟨e1, h'⟩ := ib_cancel hx.fi hy.fi h'
    obtain ⟨e2, h'⟩ := ib_cancel hx.le hy.le h'
    obtain ⟨e3, h'⟩ := lstF_cancel (P := Tw.ok) (fun s t hs ht => trF_cancel hs ht) mx.lt my.lt hx.tr hy.tr h'
    obtain ⟨e4, h'⟩ := lstF_cancel (P := fun n => 0 ≤ n ∧ n ≤ 18446744073709551615) (fun s t hs ht => nF_cancel hs ht) mx.lg my.lg hx.go hy.go h'
    obtain ⟨e5, h'⟩ := lstF_cancel (P := fun n => 0 ≤ n ∧ n ≤ 18446744073709551615) (fun s t hs ht => nF_cancel hs ht) mx.la my.la (fun n hn => by have := hx.ac n hn; omega) (fun n hn => by have := hy.ac n hn; omega) h'
    refine ⟨?_, h'⟩
    obtain ⟨b0, b1, b2, b3, b4, b5, b6⟩ := x
    obtain ⟨c0, c1, c2, c3, c4, c5, c6⟩ := y
    simp only [Rw.mk.injEq]
    dsimp only at ek e0 e1 e2 e3 e4 e5 a1 a2
    exact ⟨ek, by omega, e1, e2, e3, e4, e5⟩
  · rw [if_neg z, if_neg (by omega)] at h'
    obtain ⟨p1, p2, p3, p4, p5, p6⟩ := mx.no z
    obtain ⟨q1, q2, q3, q4, q5, q6⟩ := my.no (by omega)
    refine ⟨?_, by simpa using h'⟩
    obtain ⟨b0, b1, b2, b3, b4, b5, b6⟩ := x
    obtain ⟨c0, c1, c2, c3, c4, c5, c6⟩ := y
    simp only [Rw.mk.injEq]
    dsimp only at ek p1 p2 p3 p4 p5 p6 q1 q2 q3 q4 q5 q6
    exact ⟨ek, by omega, by omega, by omega, by rw [p4, q4], by rw [p5, q5], by rw [p6, q6]⟩
def IsR (bs : List Int) (r : Rw) : Prop := r.ok ∧ MayR r ∧ formR r = bs
theorem IsR.one {bs : List Int} {c d : Rw} (h : IsR bs c) (k : IsR bs d) : c = d :=
  (formR_cancel h.1 k.1 h.2.1 k.2.1 (l := []) (r := []) (by rw [h.2.2, k.2.2])).1
theorem IsR.more {bs : List Int} {c : Rw} (h : IsR bs c) (x : Int) (d : Rw) : ¬ IsR (bs ++ [x]) d := fun k => by
  have e : formR c ++ [x] = formR d ++ [] := by rw [h.2.2, k.2.2, List.append_nil]
  have := (formR_cancel h.1 k.1 h.2.1 k.2.1 e).2
  cases this
end Go.Proofs.YtbmlpokkojhhjaaGreat
/- A command as 35 cells; the argument opened; no program's function. -/
namespace Go.Proofs.YtbmlpokkojhhjaaGreat
open Go.ChangeShapes Go.WideShapes Go.ChangeAt Go.RowKit
set_option linter.unusedVariables false
set_option linter.unusedSimpArgs false
set_option maxRecDepth 100000

def Cm.hd (c : Cm) : List Value := [.int .u8 c.kd, .int .u32 c.ac, .int .u32 c.ct, .int .u64 c.nu, .int .i64 c.am]
def Cm.tl (c : Cm) : List Value := [.bool c.on, .bool c.bu, .int .u8 c.as', .int .i64 c.px, .int .i64 c.qt]
theorem sp_len15 {s : Sp} (h : s.sh.length = 16) : s.cellL.length = 25 := by simp [Sp.cellL, h]
theorem sp_one15 (s : Sp) : ∀ u ∈ s.cellL, u.oneCell' = true := by
  intro u hu
  simp only [Sp.cellL, List.mem_append, List.mem_cons, List.mem_map, List.not_mem_nil, or_false] at hu
  rcases hu with (rfl | rfl | rfl | rfl | rfl | rfl) | ⟨x, _, rfl⟩ | rfl | rfl | rfl <;> rfl
def ECm : Elt Cm := ⟨fun c => c.hd ++ (c.sp.cellL ++ c.tl), 35, by decide, fun c => by rw [List.length_append, List.length_append, sp_len15 c.len]; rfl, fun c u hu => by
  rcases List.mem_append.1 hu with h | h
  · simp only [Cm.hd, List.mem_cons, List.not_mem_nil, or_false] at h
    rcases h with rfl | rfl | rfl | rfl | rfl <;> rfl
  · rcases List.mem_append.1 h with h | h
    · exact sp_one15 _ u h
    · simp only [Cm.tl, List.mem_cons, List.not_mem_nil, or_false] at h
      rcases h with rfl | rfl | rfl | rfl | rfl <;> rfl⟩
theorem TCm : EltR Tryz.prog ECm 32 := ⟨⟨_, Tryz.underlying32⟩, by kernel_rfl⟩
def zeroCm : Cm := ⟨0, 0, 0, 0, 0, zeroSpW, false, false, 0, 0, 0, rfl⟩
theorem zero_cm15 (w : World) : (zeroValue 32).run Tryz.prog w = .ok (.agg (ECm.cells zeroCm).toArray) w := by kernel_rfl
/-- The i-th cell: ahead of the data, within, behind. -/
theorem cm_hd (c : Cm) {i : Nat} (hi : i < 5) : (ECm.cells c)[i]? = c.hd[i]? := by
  show (c.hd ++ _)[i]? = _
  rw [List.getElem?_append_left (by show i < 5; exact hi)]
theorem cm_sp (c : Cm) {i : Nat} (hi : i < 25) : (ECm.cells c)[5 + i]? = c.sp.cellL[i]? := by
  show (c.hd ++ _)[5 + i]? = _
  rw [List.getElem?_append_right (by show 5 ≤ 5 + i; omega), show 5 + i - c.hd.length = i by show 5 + i - 5 = i; omega, List.getElem?_append_left (by rw [sp_len15 c.len]; exact hi)]
theorem cm_tl (c : Cm) (i : Nat) : (ECm.cells c)[30 + i]? = c.tl[i]? := by
  have e := sp_len15 c.len
  show (c.hd ++ _)[30 + i]? = _
  rw [List.getElem?_append_right (by show 5 ≤ 30 + i; omega), show 30 + i - c.hd.length = 25 + i by show 30 + i - 5 = 25 + i; omega, List.getElem?_append_right (by rw [e]; omega), e, show 25 + i - 25 = i by omega]
theorem cells15_cm : Tryz.prog.cellsOf 32 = 35 := by kernel_rfl
theorem cells15_kd : Tryz.prog.cellsOf 24 = 1 := by kernel_rfl
theorem cells15_as : Tryz.prog.cellsOf 30 = 1 := by kernel_rfl
theorem cells15_u32 : Tryz.prog.cellsOf 25 = 1 := by kernel_rfl
theorem cells15_u64 : Tryz.prog.cellsOf 26 = 1 := by kernel_rfl
theorem cells15_i64 : Tryz.prog.cellsOf 2 = 1 := by kernel_rfl
theorem cells15_bo : Tryz.prog.cellsOf 4 = 1 := by kernel_rfl
theorem parts15 {l : List Value} (h : l.length = 35) : ∃ a p b, l = a ++ (p ++ b) ∧ a.length = 5 ∧ p.length = 25 ∧ b.length = 5 :=
  ⟨l.take 5, (l.drop 5).take 25, (l.drop 5).drop 25, by rw [List.take_append_drop, List.take_append_drop], by simp [h], by simp [h], by simp [h]⟩
section
variable {H : Type} {enc : TypeId × Value → H} {W : World} {base : Nat} {spare : Nat → Bool} {held : Bool}
theorem bounds15_u64 {n : Int} (h : (Lit.int .u64 n).wf = true) : 0 ≤ n ∧ n ≤ 18446744073709551615 := by
  simp [Lit.wf, IntKind.min, IntKind.max, IntKind.signed, IntKind.bits] at h
  omega
theorem open15_cmL {fuel : Nat} {l : List Value} {y : DataW H × List MemPlace} (hl : l.length = 35) (hf : DataW.trod enc Tryz.prog W base spare held fuel 32 l = some y) : ∃ c : Cm, l = ECm.cells c ∧ c.ok := by
  obtain ⟨a, p, b, rfl, ha, hp, hb⟩ := parts15 hl
  match a, ha, b, hb with
  | [c0, c1, c2, c3, c4], _, [d0, d1, d2, d3, d4], _ =>
    obtain ⟨xs, n, _, hx, _, hlen, hg⟩ := DataW.trod_struct Tryz.underlying32 hf
    have h11 : xs.length = 11 := hlen
    have d30 : (p ++ [d0, d1, d2, d3, d4]).drop 25 = [d0, d1, d2, d3, d4] := by rw [← hp]; exact List.drop_left' rfl
    have dd : ∀ i, ([c0, c1, c2, c3, c4] ++ (p ++ [d0, d1, d2, d3, d4])).drop (5 + 25 + i) = [d0, d1, d2, d3, d4].drop i := fun i => by
      rw [← List.drop_drop, ← List.drop_drop]
      show (((p ++ [d0, d1, d2, d3, d4]).drop 25).drop i) = _
      rw [d30]
    have t5 : (([c0, c1, c2, c3, c4] ++ (p ++ [d0, d1, d2, d3, d4])).drop 5).take 25 = p := by
      show (p ++ [d0, d1, d2, d3, d4]).take 25 = p
      rw [← hp]; exact List.take_left' rfl
    have g0 : DataW.trod enc Tryz.prog W base spare held n 24 ((([c0, c1, c2, c3, c4] ++ (p ++ [d0, d1, d2, d3, d4])).drop 0).take (Tryz.prog.cellsOf 24)) = xs[0]? := hg 0 _ rfl
    have g1 : DataW.trod enc Tryz.prog W base spare held n 25 ((([c0, c1, c2, c3, c4] ++ (p ++ [d0, d1, d2, d3, d4])).drop 1).take (Tryz.prog.cellsOf 25)) = xs[1]? := hg 1 _ rfl
    have g2 : DataW.trod enc Tryz.prog W base spare held n 25 ((([c0, c1, c2, c3, c4] ++ (p ++ [d0, d1, d2, d3, d4])).drop 2).take (Tryz.prog.cellsOf 25)) = xs[2]? := hg 2 _ rfl
    have g3 : DataW.trod enc Tryz.prog W base spare held n 26 ((([c0, c1, c2, c3, c4] ++ (p ++ [d0, d1, d2, d3, d4])).drop 3).take (Tryz.prog.cellsOf 26)) = xs[3]? := hg 3 _ rfl
    have g4 : DataW.trod enc Tryz.prog W base spare held n 2 ((([c0, c1, c2, c3, c4] ++ (p ++ [d0, d1, d2, d3, d4])).drop 4).take (Tryz.prog.cellsOf 2)) = xs[4]? := hg 4 _ rfl
    have g5 : DataW.trod enc Tryz.prog W base spare held n 29 ((([c0, c1, c2, c3, c4] ++ (p ++ [d0, d1, d2, d3, d4])).drop 5).take (Tryz.prog.cellsOf 29)) = xs[5]? := hg 5 _ rfl
    have g6 : DataW.trod enc Tryz.prog W base spare held n 4 ((([c0, c1, c2, c3, c4] ++ (p ++ [d0, d1, d2, d3, d4])).drop (5 + 25 + 0)).take (Tryz.prog.cellsOf 4)) = xs[6]? := hg 6 _ rfl
    have g7 : DataW.trod enc Tryz.prog W base spare held n 4 ((([c0, c1, c2, c3, c4] ++ (p ++ [d0, d1, d2, d3, d4])).drop (5 + 25 + 1)).take (Tryz.prog.cellsOf 4)) = xs[7]? := hg 7 _ rfl
    have g8 : DataW.trod enc Tryz.prog W base spare held n 30 ((([c0, c1, c2, c3, c4] ++ (p ++ [d0, d1, d2, d3, d4])).drop (5 + 25 + 2)).take (Tryz.prog.cellsOf 30)) = xs[8]? := hg 8 _ rfl
    have g9 : DataW.trod enc Tryz.prog W base spare held n 2 ((([c0, c1, c2, c3, c4] ++ (p ++ [d0, d1, d2, d3, d4])).drop (5 + 25 + 3)).take (Tryz.prog.cellsOf 2)) = xs[9]? := hg 9 _ rfl
    have g10 : DataW.trod enc Tryz.prog W base spare held n 2 ((([c0, c1, c2, c3, c4] ++ (p ++ [d0, d1, d2, d3, d4])).drop (5 + 25 + 4)).take (Tryz.prog.cellsOf 2)) = xs[10]? := hg 10 _ rfl
    rw [cells15_kd, List.getElem?_eq_getElem (by omega)] at g0
    rw [cells15_u32, List.getElem?_eq_getElem (by omega)] at g1 g2
    rw [cells15_u64, List.getElem?_eq_getElem (by omega)] at g3
    rw [cells15_i64, List.getElem?_eq_getElem (by omega)] at g4
    rw [cells_sp, t5, List.getElem?_eq_getElem (by omega)] at g5
    rw [cells15_bo, dd, List.getElem?_eq_getElem (by omega)] at g6 g7
    rw [cells15_as, dd, List.getElem?_eq_getElem (by omega)] at g8
    rw [cells15_i64, dd, List.getElem?_eq_getElem (by omega)] at g9 g10
    obtain ⟨s, rfl, ok⟩ := open_specL hp g5
    obtain ⟨x0, e0, _, w0⟩ := DataW.trod_int Tryz.underlying24 g0
    obtain ⟨x1, e1, _, w1⟩ := DataW.trod_int Tryz.underlying25 g1
    obtain ⟨x2, e2, _, w2⟩ := DataW.trod_int Tryz.underlying25 g2
    obtain ⟨x3, e3, _, w3⟩ := DataW.trod_int Tryz.underlying26 g3
    obtain ⟨x4, e4, _, w4⟩ := DataW.trod_int Tryz.underlying2 g4
    obtain ⟨x6, e6, _⟩ := DataW.trod_bool Tryz.underlying4 g6
    obtain ⟨x7, e7, _⟩ := DataW.trod_bool Tryz.underlying4 g7
    obtain ⟨x8, e8, _, w8⟩ := DataW.trod_int Tryz.underlying30 g8
    obtain ⟨x9, e9, _, w9⟩ := DataW.trod_int Tryz.underlying2 g9
    obtain ⟨x10, e10, _, w10⟩ := DataW.trod_int Tryz.underlying2 g10
    simp at e0 e1 e2 e3 e4 e6 e7 e8 e9 e10
    subst e0 e1 e2 e3 e4 e6 e7 e8 e9 e10
    exact ⟨⟨x0, x1, x2, x3, x4, s, x6, x7, x8, x9, x10, ok.len⟩, rfl, bounds_u8 w0, bounds_u32 w1, bounds_u32 w2, bounds15_u64 w3, bounds_i64 w4, ok, bounds_u8 w8, bounds_i64 w9, bounds_i64 w10⟩
theorem open_cm15 {r : Reach} {b0 : Nat} {v : Value} {d : DataW H} {p : List MemPlace} (hv : Value.okWide Tryz.prog W r b0 32 v) (h : DataW.Trod enc Tryz.prog W base spare held 32 v d p) : ∃ c : Cm, v = .agg (ECm.cells c).toArray ∧ c.ok := by
  obtain ⟨cs, rfl, hsz⟩ := okWide_struct Tryz.underlying32 hv
  obtain ⟨l⟩ := cs
  obtain ⟨fuel, hf⟩ := h
  obtain ⟨o, rfl, ok⟩ := open15_cmL (hsz.trans cells15_cm) hf
  exact ⟨o, rfl, ok⟩
end
end Go.Proofs.YtbmlpokkojhhjaaGreat
/- A contract's data read whole out of memory, in plain regions and in such as draw their order; no program's function. -/
namespace Go.Proofs.YtbmlpokkojhhjaaGreat
open Go.RowKit

theorem info_sp : (Tryz.prog.info? 29).map (fun i => i.size) = some 25 := by kernel_rfl
/-- The data stand in a block. -/
def Box (w : World) (g : Nat) (s : Sp) : Prop := w.heap[g]? = some (.cells s.cells 29 (0, 0)) ∧ s.sh.length = 16
theorem Box.info {w : World} {g : Nat} {s : Sp} (h : Box w g s) : (Tryz.prog.info? 29).map (fun i => i.size) = some s.cells.size := by rw [info_sp, Sp.size h.2]
theorem Box.below {w W : World} {g : Nat} {s : Sp} (h : Box w g s) (b : Below w.heap.size w W) : Box W g s :=
  ⟨(b.block g (Array.getElem?_eq_some_iff.1 h.1).1).trans h.1, h.2⟩
theorem box_new (w : World) {s : Sp} (h : s.sh.length = 16) : Box (w.alloc (.cells s.cells 29)) w.heap.size s := ⟨heap_alloc_new w _, h⟩
theorem Box.cell {w : World} {g : Nat} {s : Sp} (h : Box w g s) (j : Nat) : w.cell? ⟨g, j, none⟩ = s.cells[j]? := cell_of_row w g j s.cells _ _ h.1
theorem wp_load_sp {o : Oper} {a : Act} {w : World} {K : Act → World → Prop} {Q : Exit → Act → World → Prop} (x : Operand) (ho : o.op = .load 29 x) (g : Nat) (hx : a.eval x = .pointer (some ⟨g, 0, none⟩)) {s : Sp} (hb : Box w g s)
    (h : K (a.put o.dst (.agg s.cells)) w) : o.wp Tryz.prog a w K Q :=
  wp_load_row 29 x ho g hx 29 s.cells (0, 0) _ hb.1 Tryz.underlying29 rfl hb.info h
theorem wpl_load_sp {ops : Array Oper} {rest : List Oper} {o : Oper} {a : Act} {w : World} {Q : Exit → Act → World → Prop} (hw : Region.wanted o (yielded ops a.tmps) = true) (x : Operand) (ho : o.op = .load 29 x) (g : Nat) (hx : a.eval x = .pointer (some ⟨g, 0, none⟩)) {s : Sp} (hb : Box w g s)
    (h : wpList Tryz.prog ops Q rest (a.put o.dst (.agg s.cells)) w) : wpList Tryz.prog ops Q (o :: rest) a w :=
  BigFrame.wpList_want hw fun _ hK => wp_load_sp x ho g hx hb (hK _ _ h)
theorem yields_load_sp {ops : Array Oper} {S : World → Prop} {o : Oper} {a : Act} (hw : Region.wanted o (yielded ops a.tmps) = true) (x : Operand) (ho : o.op = .load 29 x) (g : Nat) (hx : a.eval x = .pointer (some ⟨g, 0, none⟩)) {s : Sp} (hb : ∀ w, S w → Box w g s) :
    YieldsIf Tryz.prog ops S o (.agg s.cells) a :=
  .inl ⟨hw, fun w hw' => by
    unfold execOp
    simp only [ho, hx, Instr.loadAt, Instr.sureAddr, Sem.run_bind, Sem.run_pure, Result.andThen_ok, run_loadVar_row w g 29 29 s.cells (0, 0) _ (hb w hw').1 Tryz.underlying29 rfl (hb w hw').info]⟩
/-- The data are stored whole over others in a block. -/
theorem wpl_store_sp {ops : Array Oper} {rest : List Oper} {o : Oper} {a : Act} {w : World} {Q : Exit → Act → World → Prop} (hgd : o.guard = none) (x y : Operand) (ho : o.op = .store 29 x y) (g : Nat) (hx : a.eval x = .pointer (some ⟨g, 0, none⟩)) {s t : Sp} (hy : a.eval y = .agg s.cells) (hs : s.sh.length = 16) (hb : Box w g t)
    (h : wpList Tryz.prog ops Q rest (a.put o.dst undef) (w.setRow g s.cells)) : wpList Tryz.prog ops Q (o :: rest) a w :=
  wpList_store_row hgd 29 x y ho g s.cells hx hy 29 t.cells hb.1 (by rw [info_sp, Sp.size hs]) (by rw [Sp.size hs, Sp.size hb.2]) s.one h
theorem box_set {w : World} {g : Nat} {s t : Sp} (hb : Box w g t) (hs : s.sh.length = 16) : Box (w.setRow g s.cells) g s := ⟨setRow_heap w g t.cells s.cells _ _ hb.1, hs⟩
theorem box_cell {w : World} {g j : Nat} {s t : Sp} {v : Value} (hb : Box w g s) (ht : t.sh.length = 16) (e : s.cells.setIfInBounds j v = t.cells) : Box (w.setCell ⟨g, j, none⟩ v) g t :=
  ⟨by rw [heap_setCell_same w g j s.cells _ _ hb.1, e], ht⟩
theorem Box.free {w : World} {g : Nat} {s : Sp} (h : Box w g s) (j : Nat) : w.frozen? ⟨g, j, none⟩ = false := by
  simp [World.frozen?, h.1]
theorem below_row' {base : Nat} {w W : World} {g : Nat} {cs : Array Value} (b : Below base w W) (h : base ≤ g) : Below base w (W.setRow g cs) :=
  ⟨b.os, b.tape, b.output, by
    have := b.size
    show w.heap.size ≤ (W.heap.modify g _).size
    rw [Array.size_modify]; exact this, fun i hi => (setRow_other W g i cs (by omega)).trans (b.block i hi)⟩
theorem ret_sp {fn : Func} {p : Tmp} (h : fn.results = #[.cell p 29]) (tmps : Array Value) (w : World) (g : Nat) {s : Sp} (hp : tmps.getD p undef = .pointer (some ⟨g, 0, none⟩)) (hb : Box w g s) :
    (results fn tmps).run Tryz.prog w = .ok (.agg s.cells) w :=
  results_cell_row h tmps w g 29 s.cells (0, 0) _ hp hb.1 Tryz.underlying29 rfl hb.info
theorem zero_sp (w : World) : (zeroValue 29).run Tryz.prog w = .ok (.agg zeroSp.cells) w := by kernel_rfl
/-- The same, the operation written out: for arms that are tried at every operation. -/
theorem wl_load_sp {ops : Array Oper} {rest : List Oper} {a : Act} {w : World} {Q : Exit → Act → World → Prop} {d : Option Nat} {x : Operand} {ty : TypeId} {ps : String} {af : Array Edge} {gd : Option (Nat × Bool)} {s : Sp} (g : Nat) (hb : Box w g s)
    (hw : Region.wanted ⟨d, .load 29 x, ty, ps, af, gd⟩ (yielded ops a.tmps) = true) (hx : a.eval x = .pointer (some ⟨g, 0, none⟩))
    (h : wpList Tryz.prog ops Q rest (a.put d (.agg s.cells)) w) : wpList Tryz.prog ops Q (⟨d, .load 29 x, ty, ps, af, gd⟩ :: rest) a w :=
  wpl_load_sp hw x rfl g hx hb h
theorem wl_store_sp {ops : Array Oper} {rest : List Oper} {a : Act} {w : World} {Q : Exit → Act → World → Prop} {d : Option Nat} {x y : Operand} {ty : TypeId} {ps : String} {af : Array Edge} {t : Sp} (s : Sp) (g : Nat) (hb : Box w g t) (hs : s.sh.length = 16)
    (hx : a.eval x = .pointer (some ⟨g, 0, none⟩)) (hy : a.eval y = .agg s.cells)
    (h : wpList Tryz.prog ops Q rest (a.put d undef) (w.setRow g s.cells)) : wpList Tryz.prog ops Q (⟨d, .store 29 x y, ty, ps, af, none⟩ :: rest) a w :=
  wpl_store_sp rfl x y rfl g hx hy hs hb h
end Go.Proofs.YtbmlpokkojhhjaaGreat
