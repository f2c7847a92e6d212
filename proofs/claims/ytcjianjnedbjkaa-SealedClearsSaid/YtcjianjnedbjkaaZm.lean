/- An auction of sealed bids, plain: what is filled at a price, the price, the fills; what follows. -/
import Derived.Test.YtcjianjnedbjkaaSm
namespace Go.Proofs.Ytcjianjnedbjkaa
set_option linter.unusedVariables false

/-- As much as there is at a price. -/
def oneC (b : Bool) (p : Int) (x : Or) : Int := if (x.pr == p || btr b x.pr p) = true then x.le else 0
def cumC (b : Bool) (l : List Or) (p : Int) : Int := (l.map (oneC b p)).sum
def atC (b : Bool) (q : Int) (l : List Or) (p : Int) : Int := if q < cumC b l p then q else cumC b l p
def nxtC (b : Bool) (q : Int) (l : List Or) (c p : Int) : Int := if atC b q l c < atC b q l p ∨ (atC b q l p = atC b q l c ∧ btr b p c = true) then p else c
def priC (b : Bool) (q : Int) (l r : List Or) (c : Int) : Int := r.foldl (fun c y => nxtC b q l c y.pr) c
/-- The price. -/
def priceC (b : Bool) (q : Int) (l : List Or) : Int := match l with
  | [] => 0
  | x :: r => priC b q l r x.pr
structure Fl where
  nu : Int
  ac : Int
  qt : Int
def minC (a b : Int) : Int := if b < a then b else a
/-- The fills, out of the bids in their order. -/
def fillC : List Or → Int → List Fl
  | [], _ => []
  | x :: r, left => if left ≤ 0 then [] else ⟨x.nu, x.ac, minC x.le left⟩ :: fillC r (left - minC x.le left)
/-- What an auction may be. -/
structure OkC (b : Bool) (q : Int) (l : List Or) : Prop where
  len : l.length ≤ 50
  q1 : 1 ≤ q
  q2 : q ≤ 10000000
  may : ∀ x, x ∈ l → mayO x = true ∧ x.bu = b
  dis : Dis l
open Classical in
noncomputable def clrA (b : Bool) (q : Int) (l : List Or) : Int := if 50 < l.length then 3 else if OkC b q l then 0 else 2
open Classical in
noncomputable def clrP (b : Bool) (q : Int) (l : List Or) : Int := if OkC b q l then priceC b q l else 0
open Classical in
noncomputable def clrF (b : Bool) (q : Int) (l : List Or) : List Fl := if OkC b q l then fillC (sortO b l) (atC b q l (priceC b q l)) else []
def sumC (l : List Or) : Int := (l.map (·.le)).sum
def sumF (f : List Fl) : Int := (f.map (·.qt)).sum
section
variable {b : Bool} {q : Int} {l s r : List Or} {x y : Or} {p c : Int}
theorem clr_ok (h : OkC b q l) : clrA b q l = 0 ∧ clrP b q l = priceC b q l ∧ clrF b q l = fillC (sortO b l) (atC b q l (priceC b q l)) := by
  unfold clrA clrP clrF
  have := h.len
  rw [if_neg (by omega), if_pos h, if_pos h, if_pos h]
  exact ⟨rfl, rfl, rfl⟩
theorem clr_no (h : ¬ OkC b q l) : clrA b q l ≠ 0 ∧ clrP b q l = 0 ∧ clrF b q l = [] := by
  unfold clrA clrP clrF
  rw [if_neg h, if_neg h, if_neg h]
  refine ⟨?_, rfl, rfl⟩
  split <;> decide
theorem ok_of (h : clrA b q l = 0) : OkC b q l := Classical.byContradiction fun c => (clr_no c).1 h
/-- Sums. -/
theorem one_le (h : 0 ≤ x.le) : 0 ≤ oneC b p x ∧ oneC b p x ≤ x.le := by
  unfold oneC
  split <;> omega
theorem cum_le : ∀ {l : List Or}, (∀ x, x ∈ l → 0 ≤ x.le) → 0 ≤ cumC b l p ∧ cumC b l p ≤ sumC l
  | [], _ => ⟨Int.le_refl _, Int.le_refl _⟩
  | x :: r, h => by
    have ih := cum_le (l := r) fun y hy => h y (List.mem_cons_of_mem _ hy)
    have h1 := one_le (b := b) (p := p) (h x (List.mem_cons_self ..))
    unfold cumC sumC at ih ⊢
    rw [List.map_cons, List.sum_cons, List.map_cons, List.sum_cons]
    omega
theorem cum_all {p : Int} : ∀ {l : List Or}, (∀ x, x ∈ l → btr b p x.pr = false) → cumC b l p = sumC l
  | [], _ => rfl
  | x :: r, h => by
    have ih := cum_all (l := r) fun y hy => h y (List.mem_cons_of_mem _ hy)
    have h1 := h x (List.mem_cons_self ..)
    unfold cumC sumC at ih ⊢
    rw [List.map_cons, List.sum_cons, List.map_cons, List.sum_cons, ih]
    have : oneC b p x = x.le := by
      unfold oneC
      rw [if_pos]
      cases h2 : btr b x.pr p
      · rw [btr_tot h2 h1]; simp
      · simp
    rw [this]
/-- A worst one. -/
theorem worst_is (b : Bool) : ∀ {l : List Or}, l ≠ [] → ∃ x, x ∈ l ∧ ∀ y, y ∈ l → btr b x.pr y.pr = false
  | [], h => absurd rfl h
  | [x], _ => ⟨x, List.mem_singleton.2 rfl, fun y hy => by rw [List.mem_singleton.1 hy]; exact btr_irr _ _⟩
  | x :: z :: r, _ => by
    obtain ⟨w, hw, h⟩ := worst_is b (l := z :: r) (by simp)
    cases c : btr b w.pr x.pr
    · refine ⟨w, List.mem_cons_of_mem _ hw, fun y hy => ?_⟩
      rcases List.mem_cons.1 hy with rfl | hy
      · exact c
      · exact h y hy
    · refine ⟨x, List.mem_cons_self .., fun y hy => ?_⟩
      rcases List.mem_cons.1 hy with rfl | hy
      · exact btr_irr _ _
      · exact btr_tr' (h y hy) (btr_as c)
/-- c is at least as good as p. -/
def geC (b : Bool) (q : Int) (l : List Or) (c p : Int) : Prop := atC b q l p < atC b q l c ∨ (atC b q l p = atC b q l c ∧ btr b p c = false)
theorem ge_refl : geC b q l c c := .inr ⟨rfl, btr_irr _ _⟩
theorem ge_trans {d : Int} (h : geC b q l d c) (k : geC b q l c p) : geC b q l d p := by
  rcases h with h | ⟨h, h'⟩
  · rcases k with k | ⟨k, k'⟩
    · exact .inl (by omega)
    · exact .inl (by omega)
  · rcases k with k | ⟨k, k'⟩
    · exact .inl (by omega)
    · exact .inr ⟨by omega, btr_tr' h' k'⟩
theorem nxt_ge : geC b q l (nxtC b q l c p) c ∧ geC b q l (nxtC b q l c p) p ∧ (nxtC b q l c p = c ∨ nxtC b q l c p = p) := by
  unfold nxtC
  split
  · rename_i h
    refine ⟨?_, ge_refl, .inr rfl⟩
    rcases h with h | ⟨h, h'⟩
    · exact .inl h
    · exact .inr ⟨h.symm, btr_as h'⟩
  · rename_i h
    refine ⟨ge_refl, ?_, .inl rfl⟩
    rcases Int.lt_or_le (atC b q l p) (atC b q l c) with k | k
    · exact .inl k
    · have e : atC b q l p = atC b q l c := by
        have : ¬ atC b q l c < atC b q l p := fun d => h (.inl d)
        omega
      refine .inr ⟨e, ?_⟩
      cases d : btr b p c
      · rfl
      · exact absurd (.inr ⟨e, d⟩) h
theorem pri_ge : ∀ (r : List Or) (c : Int), geC b q l (priC b q l r c) c ∧ (∀ y, y ∈ r → geC b q l (priC b q l r c) y.pr) ∧ (priC b q l r c = c ∨ ∃ y, y ∈ r ∧ priC b q l r c = y.pr)
  | [], c => ⟨ge_refl, (fun y hy => by cases hy), .inl rfl⟩
  | y :: r, c => by
    obtain ⟨h1, h2, h3⟩ := pri_ge r (nxtC b q l c y.pr)
    obtain ⟨n1, n2, n3⟩ := nxt_ge (b := b) (q := q) (l := l) (c := c) (p := y.pr)
    have e : priC b q l (y :: r) c = priC b q l r (nxtC b q l c y.pr) := rfl
    rw [e]
    refine ⟨ge_trans h1 n1, fun z hz => ?_, ?_⟩
    · rcases List.mem_cons.1 hz with rfl | hz
      · exact ge_trans h1 n2
      · exact h2 z hz
    · rcases h3 with h3 | ⟨z, hz, h3⟩
      · rcases n3 with n3 | n3
        · exact .inl (h3.trans n3)
        · exact .inr ⟨y, List.mem_cons_self .., h3.trans n3⟩
      · exact .inr ⟨z, List.mem_cons_of_mem _ hz, h3⟩
theorem price_is (h : l ≠ []) : (∃ x, x ∈ l ∧ priceC b q l = x.pr) ∧ ∀ y, y ∈ l → geC b q l (priceC b q l) y.pr := by
  cases l with
  | nil => exact absurd rfl h
  | cons x r =>
    obtain ⟨h1, h2, h3⟩ := pri_ge (b := b) (q := q) (l := x :: r) r x.pr
    show (∃ z, z ∈ x :: r ∧ priC b q (x :: r) r x.pr = z.pr) ∧ _
    refine ⟨?_, fun y hy => ?_⟩
    · rcases h3 with h3 | ⟨y, hy, h3⟩
      · exact ⟨x, List.mem_cons_self .., h3⟩
      · exact ⟨y, List.mem_cons_of_mem _ hy, h3⟩
    · rcases List.mem_cons.1 hy with rfl | hy
      · exact h1
      · exact h2 y hy
theorem at_le (hl : ∀ x, x ∈ l → 0 ≤ x.le) : atC b q l p ≤ minC (sumC l) q := by
  have := (cum_le (b := b) (p := p) hl).2
  unfold atC minC
  split <;> split <;> omega
theorem at_price (hl : ∀ x, x ∈ l → 0 ≤ x.le) (h : l ≠ []) : atC b q l (priceC b q l) = minC (sumC l) q := by
  obtain ⟨w, hw, hww⟩ := worst_is b h
  have e : atC b q l w.pr = minC (sumC l) q := by
    unfold atC minC
    rw [cum_all hww]
  have g := (price_is (b := b) (q := q) h).2 w hw
  have le := at_le (b := b) (q := q) (p := priceC b q l) hl
  rcases g with g | ⟨g, _⟩ <;> omega
/-- How much is filled in all. -/
theorem fill_sum : ∀ {s : List Or} {left : Int}, (∀ x, x ∈ s → 0 < x.le) → 0 ≤ left → sumF (fillC s left) = minC (sumC s) left
  | [], left, _, h => by
    unfold minC
    have : sumC ([] : List Or) = 0 := rfl
    rw [this]
    show (0 : Int) = _
    split <;> omega
  | x :: r, left, h, h0 => by
    have hx := h x (List.mem_cons_self ..)
    have hr : ∀ y, y ∈ r → 0 < y.le := fun y hy => h y (List.mem_cons_of_mem _ hy)
    have pos : 0 ≤ sumC r := by
      have := cum_le (b := true) (p := 0) (l := r) fun y hy => Int.le_of_lt (hr y hy)
      omega
    have es : sumC (x :: r) = x.le + sumC r := by simp [sumC]
    unfold fillC
    split
    · rename_i c
      have : left = 0 := by omega
      subst this
      show (0 : Int) = _
      unfold minC
      rw [es]; split <;> omega
    · rename_i c
      have mle : minC x.le left ≤ left ∧ minC x.le left ≤ x.le := by unfold minC; split <;> omega
      have ih := fill_sum (s := r) (left := left - minC x.le left) hr (by omega)
      have e : sumF (⟨x.nu, x.ac, minC x.le left⟩ :: fillC r (left - minC x.le left)) = minC x.le left + sumF (fillC r (left - minC x.le left)) := by simp [sumF]
      rw [e, ih, es]
      unfold minC at mle ⊢
      split <;> split <;> split <;> omega
/-- What one got. -/
def gotC (f : List Fl) (x : Or) : Int := (f.map fun t => if t.nu == x.nu then t.qt else 0).sum
theorem got_cons (t : Fl) (f : List Fl) (x : Or) : gotC (t :: f) x = (if t.nu == x.nu then t.qt else 0) + gotC f x := by simp [gotC]
theorem fill_nu : ∀ {s : List Or} {left : Int} {t : Fl}, t ∈ fillC s left → ∃ y, y ∈ s ∧ t.nu = y.nu
  | [], left, t, h => by simp [fillC] at h
  | x :: r, left, t, h => by
    unfold fillC at h
    split at h
    · cases h
    · rcases List.mem_cons.1 h with rfl | h
      · exact ⟨x, List.mem_cons_self .., rfl⟩
      · obtain ⟨y, hy, e⟩ := fill_nu h
        exact ⟨y, List.mem_cons_of_mem _ hy, e⟩
theorem got_none {f : List Fl} (h : ∀ t, t ∈ f → t.nu ≠ x.nu) : gotC f x = 0 := by
  induction f with
  | nil => rfl
  | cons t f ih =>
    rw [got_cons, ih fun u hu => h u (List.mem_cons_of_mem _ hu), if_neg (by simpa using h t (List.mem_cons_self ..))]; rfl
/-- Nobody is passed over. -/
theorem got_facts : ∀ {s : List Or} {left : Int}, (∀ x, x ∈ s → 0 < x.le) → Dis s → 0 ≤ left →
    (∀ x, x ∈ s → 0 ≤ gotC (fillC s left) x ∧ gotC (fillC s left) x ≤ x.le) ∧ s.Pairwise (fun x y => gotC (fillC s left) x < x.le → gotC (fillC s left) y = 0) ∧ (s.map (gotC (fillC s left))).sum = sumF (fillC s left)
  | [], left, _, _, _ => ⟨(fun x hx => by cases hx), List.Pairwise.nil, rfl⟩
  | x :: r, left, h, hd, h0 => by
    obtain ⟨d1, d2⟩ := List.pairwise_cons.1 hd
    have hx := h x (List.mem_cons_self ..)
    have hr : ∀ y, y ∈ r → 0 < y.le := fun y hy => h y (List.mem_cons_of_mem _ hy)
    unfold fillC
    split
    · rename_i c
      have z : ∀ y : Or, gotC [] y = 0 := fun _ => rfl
      refine ⟨fun y hy => ?_, ?_, ?_⟩
      · rw [z]; have := h y hy; omega
      · exact List.pairwise_of_forall fun y z' _ => z z'
      · show ((x :: r).map (gotC [])).sum = 0
        have : ∀ m : List Or, (m.map (gotC [])).sum = 0 := fun m => by
          induction m with
          | nil => rfl
          | cons a m ih => rw [List.map_cons, List.sum_cons, ih, z]; rfl
        exact this _
    · rename_i c
      have mle : minC x.le left ≤ left ∧ minC x.le left ≤ x.le ∧ 0 < minC x.le left := by unfold minC; split <;> omega
      obtain ⟨i1, i2, i3⟩ := got_facts (s := r) (left := left - minC x.le left) hr d2 (by omega)
      obtain ⟨f, hf⟩ : ∃ f, fillC r (left - minC x.le left) = f := ⟨_, rfl⟩
      have hz : minC x.le left < x.le → f = [] := fun q => by
        have : left - minC x.le left = 0 := by unfold minC at q ⊢; split at q <;> rename_i d <;> first | omega | (rw [if_pos d]; omega)
        rw [← hf, this]
        cases r with
        | nil => rfl
        | cons y r' => exact if_pos (Int.le_refl _)
      rw [hf] at i1 i2 i3 ⊢
      have gx : gotC (⟨x.nu, x.ac, minC x.le left⟩ :: f) x = minC x.le left := by
        rw [got_cons, got_none (f := f) fun t ht e => ?_]
        · simp
        · rw [← hf] at ht
          obtain ⟨y, hy, e2⟩ := fill_nu ht
          exact d1 y hy (e.symm.trans e2)
      have gy : ∀ y, y ∈ r → gotC (⟨x.nu, x.ac, minC x.le left⟩ :: f) y = gotC f y := fun y hy => by
        rw [got_cons, if_neg (by simpa using d1 y hy)]; simp
      refine ⟨fun y hy => ?_, List.pairwise_cons.2 ⟨fun y hy q => ?_, ?_⟩, ?_⟩
      · rcases List.mem_cons.1 hy with rfl | hy
        · rw [gx]; omega
        · rw [gy y hy]; exact i1 y hy
      · rw [gx] at q
        rw [gy y hy, hz q]; rfl
      · refine i2.imp_of_mem fun {y z} hy hz' k => ?_
        rw [gy y hy, gy z hz']
        exact k
      · rw [List.map_cons, List.sum_cons, gx, List.map_congr_left gy, i3]
        simp [sumF]
/-- Nothing is filled behind those that are as good as a price, if no more is filled than they have. -/
theorem got_good : ∀ {s : List Or} {left : Int}, Srt b s → (∀ x, x ∈ s → 0 < x.le) → left ≤ cumC b s p → ∀ t, t ∈ fillC s left → ∃ y, y ∈ s ∧ t.nu = y.nu ∧ btr b p y.pr = false
  | [], left, _, _, _, t, ht => by simp [fillC] at ht
  | x :: r, left, hs, h, hl, t, ht => by
    obtain ⟨s1, s2⟩ := List.pairwise_cons.1 hs
    have hx := h x (List.mem_cons_self ..)
    have hr : ∀ y, y ∈ r → 0 < y.le := fun y hy => h y (List.mem_cons_of_mem _ hy)
    have ec : cumC b (x :: r) p = oneC b p x + cumC b r p := by simp [cumC]
    unfold fillC at ht
    split at ht
    · cases ht
    · rename_i c
      cases hb : btr b p x.pr
      · rcases List.mem_cons.1 ht with rfl | ht
        · exact ⟨x, List.mem_cons_self .., rfl, hb⟩
        · have o1 := one_le (b := b) (p := p) (Int.le_of_lt hx)
          have mle : left - minC x.le left ≤ cumC b r p := by
            have p0 := (cum_le (b := b) (p := p) (l := r) fun y hy => Int.le_of_lt (hr y hy)).1
            unfold minC
            split <;> omega
          obtain ⟨y, hy, e1, e2⟩ := got_good s2 hr mle t ht
          exact ⟨y, List.mem_cons_of_mem _ hy, e1, e2⟩
      · have z : ∀ (m : List Or), (∀ y, y ∈ m → btr b p y.pr = true) → cumC b m p = 0 := fun m => by
          induction m with
          | nil => intro _; rfl
          | cons y m ih =>
            intro hm
            have e : cumC b (y :: m) p = oneC b p y + cumC b m p := by simp [cumC]
            have hy := hm y (List.mem_cons_self ..)
            rw [e, ih fun u hu => hm u (List.mem_cons_of_mem _ hu)]
            unfold oneC
            rw [if_neg]
            · rfl
            · rw [btr_as hy]
              have : (y.pr == p) = false := beq_eq_false_iff_ne.2 fun e => by rw [e, btr_irr] at hy; cases hy
              rw [this]; decide
        have := z (x :: r) fun y hy => by
          rcases List.mem_cons.1 hy with rfl | hy
          · exact hb
          · exact btr_tr hb (s1 y hy)
        omega
end
end Go.Proofs.Ytcjianjnedbjkaa
