/- Plain facts: no form of a contract's data begins another one's; no program. -/
import Derived.Test.YtlnakhbcefmiaaaQg
import Derived.Test.YtlnakhbcefmiaaaQd
import Derived.Test.YtlnakhbcefmiaaaRdMath
namespace Go.Proofs.Ytlnakhbcefmiaaa

theorem nb_cancel {n m : Nat} (hn : n < 18446744073709551616) (hm : m < 18446744073709551616) {l r : List Int} (h : nb n ++ l = nb m ++ r) : n = m ∧ l = r := by
  have h1 := rd_nb hn l
  have h2 := rd_nb hm r
  rw [h, h2] at h1
  simp only [Prod.mk.injEq] at h1
  have e : n = m := by omega
  subst e
  exact ⟨rfl, List.append_cancel_left h⟩
theorem ib_cancel {i j : Int} (hi : I64 i) (hj : I64 j) {l r : List Int} (h : ib i ++ l = ib j ++ r) : i = j ∧ l = r := by
  obtain ⟨i1, i2⟩ := hi
  obtain ⟨j1, j2⟩ := hj
  unfold ib at h
  split at h <;> split at h
  all_goals
    obtain ⟨e, e2⟩ := nb_cancel (by omega) (by omega) h
    exact ⟨by omega, e2⟩
theorem shF_cancel : ∀ (l m r q : List Int), l.length = m.length → (∀ x, x ∈ l → I64 x) → (∀ x, x ∈ m → I64 x) → shF l ++ r = shF m ++ q → l = m ∧ r = q
  | [], [], r, q, _, _, _, h => ⟨rfl, by simpa [shF] using h⟩
  | [], y :: m, _, _, hl, _, _, _ => by simp at hl
  | x :: l, [], _, _, hl, _, _, _ => by simp at hl
  | x :: l, y :: m, r, q, hl, h1, h2, h => by
    have e1 : shF (x :: l) = ib x ++ shF l := by simp [shF]
    have e2 : shF (y :: m) = ib y ++ shF m := by simp [shF]
    rw [e1, e2, List.append_assoc, List.append_assoc] at h
    obtain ⟨e, h'⟩ := ib_cancel (h1 x (by simp)) (h2 y (by simp)) h
    obtain ⟨e3, e4⟩ := shF_cancel l m r q (by simpa using hl) (fun z hz => h1 z (by simp [hz])) (fun z hz => h2 z (by simp [hz])) h'
    exact ⟨by rw [e, e3], e4⟩
/-- What fits its kind and is not below 0, as all numbers of data that may be are. -/
theorem small_of {x : Int} (h : x ≤ 9223372036854775807) : x.toNat < 18446744073709551616 := by omega
theorem form_begins {s t : Sp} (hs : s.ok) (ms : mayB s = true) (ht : t.ok) (mt : mayB t = true) {r : List Int} (h : form s ++ r = form t) : s = t ∧ r = [] := by
  have ps := head_parts (may_head ms)
  have pt := head_parts (may_head mt)
  have fs := may_fi ms
  have ft := may_fi mt
  have a1 := hs.nu
  have a2 := ht.nu
  have a3 := hs.ro
  have a4 := ht.ro
  have a5 := hs.la
  have a6 := ht.la
  have h2 : form s ++ r = form t ++ [] := by rw [List.append_nil]; exact h
  unfold form six at h2
  simp only [List.append_assoc] at h2
  obtain ⟨e0, h2⟩ := nb_cancel (by omega) (by omega) h2
  obtain ⟨e1, h2⟩ := nb_cancel (by omega) (by omega) h2
  obtain ⟨e2, h2⟩ := nb_cancel (by omega) (by omega) h2
  obtain ⟨e3, h2⟩ := nb_cancel (by omega) (by omega) h2
  obtain ⟨e4, h2⟩ := nb_cancel (by omega) (by omega) h2
  obtain ⟨e5, h2⟩ := nb_cancel (by omega) (by omega) h2
  obtain ⟨e6, h2⟩ := shF_cancel _ _ _ _ (by rw [hs.len, ht.len]) hs.sh ht.sh h2
  obtain ⟨e7, h2⟩ := nb_cancel (by omega) (by omega) h2
  obtain ⟨e8, h2⟩ := nb_cancel (by omega) (by omega) h2
  obtain ⟨e9, h2⟩ := nb_cancel (by omega) (by omega) h2
  refine ⟨?_, h2⟩
  obtain ⟨n1, r1, t1, l1, b1, i1, s1, c1, d1, f1⟩ := s
  obtain ⟨n2, r2, t2, l2, b2, i2, s2, c2, d2, f2⟩ := t
  dsimp only at *
  have g0 : n1 = n2 := by omega
  have g1 : r1 = r2 := by omega
  have g2 : t1 = t2 := by omega
  have g3 : l1 = l2 := by omega
  have g4 : b1 = b2 := by omega
  have g5 : i1 = i2 := by omega
  have g7 : c1 = c2 := by omega
  have g8 : d1 = d2 := by omega
  have g9 : f1 = f2 := by omega
  rw [g0, g1, g2, g3, g4, g5, e6, g7, g8, g9]
theorem form_more {s t : Sp} (hs : s.ok) (ms : mayB s = true) (ht : t.ok) (mt : mayB t = true) : form s ++ [0] ≠ form t := fun h => by
  have := (form_begins hs ms ht mt h).2
  cases this
theorem form_inj {s t : Sp} (hs : s.ok) (ms : mayB s = true) (ht : t.ok) (mt : mayB t = true) (h : form s = form t) : s = t :=
  (form_begins hs ms ht mt (r := []) (by rw [List.append_nil]; exact h)).1
end Go.Proofs.Ytlnakhbcefmiaaa
