/- The order in which contracts expire; plain facts, no program's function. -/
import Derived.Test.YtejhnfkljfdejaaKm
namespace Go.Proofs.Ytejhnfkljfdejaa

def Up (cs : List Ct) : Prop := cs.Pairwise fun x y => x.sp.nu < y.sp.nu
theorem Up.lt {cs : List Ct} (h : Up cs) {i j : Nat} {x y : Ct} (hij : i < j) (hx : cs[i]? = some x) (hy : cs[j]? = some y) : x.sp.nu < y.sp.nu := by
  obtain ⟨h1, rfl⟩ := List.getElem?_eq_some_iff.1 hx
  obtain ⟨h2, rfl⟩ := List.getElem?_eq_some_iff.1 hy
  exact List.pairwise_iff_getElem.1 h i j h1 h2 hij
theorem Up.place {cs : List Ct} (h : Up cs) {k : Nat} {x : Ct} (hx : cs[k]? = some x) : placeC cs x.sp.nu = some k :=
  placeC_some cs x.sp.nu k ⟨x, hx, rfl⟩ fun j c hj hc e => by have := h.lt hj hc hx; omega
theorem place_no {cs : List Ct} {nu : Int} (h : placeC cs nu = none) : ∀ x, x ∈ cs → x.sp.nu ≠ nu := by
  induction cs with
  | nil => intro x hx; cases hx
  | cons c cs ih =>
    unfold placeC at h
    split at h
    · cases h
    · rename_i hc
      intro x hx
      rcases List.mem_cons.1 hx with rfl | hx
      · exact hc
      · exact ih (by simpa using h) x hx
theorem ins_up : ∀ (cs : List Ct) (y : Ct), Up cs → (∀ x, x ∈ cs → x.sp.nu ≠ y.sp.nu) → Up (cs.take (spotC cs y.sp.nu) ++ y :: cs.drop (spotC cs y.sp.nu))
  | [], y, _, _ => by simp [spotC, Up]
  | c :: cs, y, h, hn => by
    obtain ⟨h1, h2⟩ := List.pairwise_cons.1 h
    unfold spotC
    split
    · rename_i hc
      have ih := ins_up cs y h2 fun x hx => hn x (by simp [hx])
      rw [List.take_succ_cons, List.drop_succ_cons, List.cons_append]
      refine List.pairwise_cons.2 ⟨fun z hz => ?_, ih⟩
      rcases List.mem_append.1 hz with hz | hz
      · exact h1 z (List.mem_of_mem_take hz)
      · rcases List.mem_cons.1 hz with rfl | hz
        · exact hc
        · exact h1 z (List.mem_of_mem_drop hz)
    · rename_i hc
      rw [List.take_zero, List.drop_zero, List.nil_append]
      have hcy := hn c (by simp)
      refine List.pairwise_cons.2 ⟨fun z hz => ?_, h⟩
      rcases List.mem_cons.1 hz with rfl | hz
      · show y.sp.nu < z.sp.nu; omega
      · have := h1 z hz; show y.sp.nu < z.sp.nu; omega
theorem Up.list {cs : List Ct} (h : Up cs) (d : Int) (s : Sp) : Up (listC d cs s) := by
  unfold listC
  split
  · rename_i e
    have hp : placeC cs s.nu = none := by
      unfold listA at e
      split at e
      · split at e
        · cases e
        · rename_i hp; simpa using hp
      · cases e
    exact ins_up cs ⟨s, 1, s.fi⟩ h (place_no hp)
  · exact h
theorem Up.set {cs : List Ct} (h : Up cs) {k : Nat} {x y : Ct} (hx : cs[k]? = some x) (e : y.sp = x.sp) : Up (cs.set k y) := by
  have f : (cs.set k y).map (fun c => c.sp.nu) = cs.map (fun c => c.sp.nu) := by
    rw [List.map_set]
    obtain ⟨h1, rfl⟩ := List.getElem?_eq_some_iff.1 hx
    refine List.ext_getElem? fun j => ?_
    rw [List.getElem?_set]
    split
    · rename_i c
      subst c
      simp [h1, e]
    · rfl
  have g : (cs.map (fun c => c.sp.nu)).Pairwise (· < ·) := List.pairwise_map.2 h
  rw [← f] at g
  exact List.pairwise_map.1 g
/-- Expires ahead of. -/
def Ahead (x y : Ct) : Prop := x.sp.la < y.sp.la ∨ (x.sp.la = y.sp.la ∧ x.sp.nu < y.sp.nu)
theorem first_is {cs : List Ct} (h : Up cs) : ∀ n, n ≤ cs.length → (firstC cs n < 0 ∧ ∀ j x, j < n → cs[j]? = some x → x.st = 3) ∨ ∃ (k : Nat) (x : Ct), firstC cs n = k ∧ k < n ∧ cs[k]? = some x ∧ x.st ≠ 3 ∧ ∀ j y, j < n → cs[j]? = some y → y.st ≠ 3 → j ≠ k → Ahead x y
  | 0, _ => .inl ⟨by simp [firstC], fun j x hj => absurd hj (Nat.not_lt_zero _)⟩
  | n + 1, hn => by
    have hx : cs[n]? = some cs[n] := List.getElem?_eq_getElem (by omega)
    generalize cs[n] = x at hx
    unfold firstC
    simp only [hx]
    rcases first_is h n (by omega) with ⟨h1, h2⟩ | ⟨k, z, h1, h2, h3, h4, h5⟩
    · by_cases c : x.st = 3
      · rw [if_neg (fun q => q.1 c)]
        refine .inl ⟨h1, fun j y hj hy => ?_⟩
        by_cases e : j = n
        · subst e; rw [hx] at hy; cases hy; exact c
        · exact h2 j y (by omega) hy
      · rw [if_pos ⟨c, .inl h1⟩]
        refine .inr ⟨n, x, rfl, Nat.lt_succ_self n, hx, c, fun j y hj hy hs hne => absurd (h2 j y (by omega) hy) hs⟩
    · have hz : laOf cs (firstC cs n).toNat = z.sp.la := by unfold laOf; rw [h1]; simp [h3]
      by_cases c : x.st ≠ 3 ∧ (firstC cs n < 0 ∨ x.sp.la < laOf cs (firstC cs n).toNat)
      · rw [if_pos c]
        have hl : x.sp.la < z.sp.la := by
          rcases c.2 with q | q
          · omega
          · rw [hz] at q; exact q
        refine .inr ⟨n, x, rfl, Nat.lt_succ_self n, hx, c.1, fun j y hj hy hs hne => ?_⟩
        by_cases e : j = k
        · subst e; rw [h3] at hy; cases hy; exact .inl hl
        · rcases h5 j y (by omega) hy hs e with q | q
          · exact .inl (by omega)
          · exact .inl (by omega)
      · rw [if_neg c]
        refine .inr ⟨k, z, h1, by omega, h3, h4, fun j y hj hy hs hne => ?_⟩
        by_cases e : j = n
        · subst e
          rw [hx] at hy
          cases hy
          have hge : ¬ x.sp.la < z.sp.la := fun q => c ⟨hs, .inr (by rw [hz]; exact q)⟩
          have := h.lt h2 h3 hx
          by_cases q : z.sp.la = x.sp.la
          · exact .inr ⟨q, this⟩
          · exact .inl (by omega)
        · exact h5 j y (by omega) hy hs hne
/-- What holds of the contracts and of those that expired. -/
structure Oi (cs gone : List Ct) : Prop where
  up : Up cs
  at' : ∀ z, z ∈ gone → z.st = 3 ∧ ∃ k : Nat, cs[k]? = some z
  last : ∀ z : Ct, gone.getLast? = some z → ∀ x, x ∈ cs → x.st ≠ 3 → Ahead z x
theorem Oi.set {cs gone : List Ct} (h : Oi cs gone) {k : Nat} {x y : Ct} (hx : cs[k]? = some x) (hs : x.st ≠ 3) (e : y.sp = x.sp) : Oi (cs.set k y) gone := by
  refine ⟨h.up.set hx e, fun z hz => ?_, fun z hz u hu hus => ?_⟩
  · obtain ⟨h1, j, h2⟩ := h.at' z hz
    refine ⟨h1, j, ?_⟩
    rw [List.getElem?_set_ne]
    · exact h2
    · intro c
      subst c
      rw [hx] at h2
      cases h2
      exact hs h1
  · obtain ⟨j, hj⟩ := List.mem_iff_getElem?.1 hu
    rw [List.getElem?_set] at hj
    split at hj
    · split at hj
      · cases hj
        have := h.last z hz x (List.mem_of_getElem? hx) hs
        unfold Ahead at this ⊢
        rw [e]
        exact this
      · cases hj
    · exact h.last z hz u (List.mem_of_getElem? hj) hus
theorem Oi.halt {cs gone : List Ct} (h : Oi cs gone) (nu : Int) (on : Bool) : Oi (haltC cs nu on) gone := by
  unfold haltC
  have ha := al_cases cs nu
  generalize alC cs nu = a at ha ⊢
  cases ha with
  | none _ => exact h
  | gone _ _ _ _ => exact h
  | here _ h2 _ h4 => exact h.set h2 h4 rfl
theorem Oi.pub {cs gone : List Ct} (h : Oi cs gone) (nu p : Int) : Oi (pubC cs nu p) gone := by
  unfold pubC
  have ha := al_cases cs nu
  generalize alC cs nu = a at ha ⊢
  cases ha with
  | none _ => exact h
  | gone _ _ _ _ => exact h
  | here _ h2 _ h4 =>
    dsimp only
    split
    · exact h.set h2 h4 rfl
    · exact h
/-- A try: told, the contract is the first; else nothing turns. -/
theorem Oi.exp {cs gone : List Ct} (h : Oi cs gone) (d nu : Int) (he : dueA d cs nu = 0) :
    getA cs nu = 0 ∧ getC cs nu ∈ cs ∧ (∀ z : Ct, gone.getLast? = some z → Ahead z (getC cs nu)) ∧ Oi (expC d cs nu) (gone ++ [⟨(getC cs nu).sp, 3, (getC cs nu).pr⟩]) := by
  have ha := al_cases cs nu
  unfold expC
  have he' := he
  unfold dueA at he
  generalize alC cs nu = a at ha he ⊢
  cases ha with
  | none _ => cases he
  | gone _ _ _ _ => cases he
  | @here k x h1 h2 h3 h4 =>
    dsimp only at he ⊢
    split at he
    · cases he
    · split at he
      · rename_i hf
        have hg : getC cs nu = x := by unfold getC; simp [h1, h2]
        have hga : getA cs nu = 0 := by unfold getA; rw [h1]
        rw [hg, if_pos he']
        have hset := h.set (y := ⟨x.sp, 3, x.pr⟩) h2 h4 rfl
        refine ⟨hga, List.mem_of_getElem? h2, fun z hz => h.last z hz x (List.mem_of_getElem? h2) h4, hset.up, fun z hz => ?_, fun z hz u hu hus => ?_⟩
        · rcases List.mem_append.1 hz with hz | hz
          · exact hset.at' z hz
          · obtain rfl := List.mem_singleton.1 hz
            exact ⟨rfl, k, by rw [List.getElem?_set_self (List.getElem?_eq_some_iff.1 h2).1]⟩
        · have hz : (⟨x.sp, 3, x.pr⟩ : Ct) = z := by simpa using hz
          subst hz
          obtain ⟨j, hj⟩ := List.mem_iff_getElem?.1 hu
          rw [List.getElem?_set] at hj
          split at hj
          · split at hj
            · cases hj; exact absurd rfl hus
            · cases hj
          · rename_i hne
            rcases first_is h.up cs.length (Nat.le_refl _) with ⟨q, _⟩ | ⟨k', x', q1, q2, q3, q4, q5⟩
            · omega
            · obtain rfl : k' = k := by omega
              rw [h2] at q3
              cases q3
              exact q5 j u (List.getElem?_eq_some_iff.1 hj).1 hj hus (fun c => hne c.symm)
      · cases he
theorem Oi.noexp {cs : List Ct} {d nu : Int} (he : dueA d cs nu ≠ 0) : expC d cs nu = cs := by
  unfold expC
  generalize alC cs nu = a
  cases a with
  | here k x => dsimp only; rw [if_neg he]
  | _ => rfl
/-- One that is not there is told so by the try too. -/
theorem due_get {cs : List Ct} {d nu : Int} (h : getA cs nu ≠ 0) : dueA d cs nu = getA cs nu := by
  unfold getA at h ⊢
  unfold dueA alC
  cases e : placeC cs nu with
  | none => rfl
  | some k => rw [e] at h; exact absurd rfl h
theorem get_one (cs : List Ct) (nu : Int) : getA cs nu = 0 ∨ getA cs nu = 7 := by
  unfold getA
  cases placeC cs nu with
  | none => exact .inr rfl
  | some _ => exact .inl rfl
/-- One that expired is read as it was. -/
theorem Oi.get {cs gone : List Ct} (h : Oi cs gone) {z : Ct} (hz : z ∈ gone) : getA cs z.sp.nu = 0 ∧ getC cs z.sp.nu = z := by
  obtain ⟨_, k, hk⟩ := h.at' z hz
  have := h.up.place hk
  unfold getA getC
  simp [this, hk]
end Go.Proofs.Ytejhnfkljfdejaa
