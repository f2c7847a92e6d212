/- Plain: places in the order of their keys are the bids in the order of a side; filling the sorted bids tells the price. -/
import Derived.Test.YtcjianjnedbjkaaAe
import Derived.Test.YtcjianjnedbjkaaZn
namespace Go.Proofs.Ytcjianjnedbjkaa
set_option linter.unusedVariables false

/-- The key of a place: the better price is the greater one. -/
def kyP (b : Bool) (l : List Or) (v : Int) : Int := if b = true then (pko8 l v).pr else -(pko8 l v).pr
theorem ky_btr {b : Bool} {l : List Or} {x y : Int} : kyP b l y < kyP b l x ↔ btr b (pko8 l x).pr (pko8 l y).pr = true := by
  unfold kyP btr
  cases b <;> simp
theorem pk_app {l m : List Or} {v : Int} (h0 : 0 ≤ v) (h : v < l.length) : pko8 (l ++ m) v = pko8 l v := by
  unfold pko8
  rw [List.getD_eq_getElem?_getD, List.getD_eq_getElem?_getD, List.getElem?_append_left (by omega)]
theorem pk_last {l : List Or} {o : Or} : pko8 (l ++ [o]) (l.length : Int) = o := by
  unfold pko8
  simp
theorem pk_at {l : List Or} {k : Nat} {x : Or} (h : l[k]? = some x) : pko8 l (k : Int) = x := by
  unfold pko8
  rw [List.getD_eq_getElem?_getD, Int.toNat_natCast, h]; rfl
theorem ins_mid {b : Bool} {o : Or} : ∀ {A B : List Or}, (∀ x, x ∈ A → btr b o.pr x.pr = false) → (∀ x, x ∈ B → btr b o.pr x.pr = true) → insO b o (A ++ B) = A ++ o :: B
  | [], B, _, hB => ins_first hB
  | x :: A, B, hA, hB => by
    rw [List.cons_append, ins_no (hA x (List.mem_cons_self ..)), ins_mid (fun y hy => hA y (List.mem_cons_of_mem _ hy)) hB]
    rfl
theorem places_sort (b : Bool) (l : List Or) : ∀ P : List Int, P.Pairwise (St.lt (kyP b l)) → (∀ v, v ∈ P ↔ 0 ≤ v ∧ v < l.length) → P.map (pko8 l) = sortO b l := by
  refine snoc_ind (P := fun l => ∀ P : List Int, P.Pairwise (St.lt (kyP b l)) → (∀ v, v ∈ P ↔ 0 ≤ v ∧ v < l.length) → P.map (pko8 l) = sortO b l) ?_ ?_ l
  · intro P _ h
    cases P with
    | nil => rfl
    | cons v r => have := (h v).1 (List.mem_cons_self ..); simp at this; omega
  · intro l o ih P hP hm
    have hlen : ((l ++ [o]).length : Int) = l.length + 1 := by simp
    obtain ⟨A, B, rfl⟩ := List.append_of_mem ((hm l.length).2 ⟨by omega, by rw [hlen]; omega⟩)
    obtain ⟨pA, pB, pAB⟩ := List.pairwise_append.1 hP
    obtain ⟨pN, pB'⟩ := List.pairwise_cons.1 pB
    have neq : ∀ v, (v ∈ A ∨ v ∈ B) → v ≠ (l.length : Int) := by
      rintro v (h | h) rfl
      · have := pAB _ h _ (List.mem_cons_self ..)
        unfold St.lt at this; omega
      · have := pN _ h
        unfold St.lt at this; omega
    have rng : ∀ v, (v ∈ A ∨ v ∈ B) → 0 ≤ v ∧ v < l.length := fun v h => by
      have h1 := (hm v).1 (by rw [List.mem_append, List.mem_cons]; exact h.imp id .inr)
      have h2 := neq v h
      rw [hlen] at h1
      omega
    have ky : ∀ v, (v ∈ A ∨ v ∈ B) → kyP b (l ++ [o]) v = kyP b l v := fun v h => by
      unfold kyP
      rw [pk_app (rng v h).1 (rng v h).2]
    have lt' : ∀ x y, (x ∈ A ∨ x ∈ B) → (y ∈ A ∨ y ∈ B) → St.lt (kyP b (l ++ [o])) x y → St.lt (kyP b l) x y := fun x y hx hy h => by
      unfold St.lt at h ⊢
      rw [ky x hx, ky y hy] at h
      exact h
    have e1 := ih (A ++ B) (List.pairwise_append.2 ⟨pA.imp_of_mem fun hx hy h => lt' _ _ (.inl hx) (.inl hy) h, pB'.imp_of_mem fun hx hy h => lt' _ _ (.inr hx) (.inr hy) h, fun x hx y hy => lt' _ _ (.inl hx) (.inr hy) (pAB x hx y (List.mem_cons_of_mem _ hy))⟩) fun v => by
      rw [List.mem_append]
      refine ⟨rng v, fun h => ?_⟩
      have := (hm v).2 ⟨h.1, by rw [hlen]; omega⟩
      rw [List.mem_append, List.mem_cons] at this
      rcases this with h1 | h1 | h1
      · exact .inl h1
      · omega
      · exact .inr h1
    have eA : ∀ (L : List Int), (∀ v, v ∈ L → 0 ≤ v ∧ v < l.length) → L.map (pko8 (l ++ [o])) = L.map (pko8 l) := fun L h => List.map_congr_left fun v hv => pk_app (h v hv).1 (h v hv).2
    rw [List.map_append, List.map_cons, pk_last, sort_snoc, ← e1, List.map_append, eA A fun v h => rng v (.inl h), eA B fun v h => rng v (.inr h)]
    refine (ins_mid (fun x hx => ?_) fun x hx => ?_).symm
    · obtain ⟨v, hv, rfl⟩ := List.mem_map.1 hx
      have h := pAB v hv _ (List.mem_cons_self ..)
      cases c : btr b o.pr (pko8 l v).pr
      · rfl
      · have h2 := (ky_btr (b := b) (l := l ++ [o]) (x := l.length) (y := v)).2 (by rw [pk_last, pk_app (rng v (.inl hv)).1 (rng v (.inl hv)).2]; exact c)
        unfold St.lt at h; omega
    · obtain ⟨v, hv, rfl⟩ := List.mem_map.1 hx
      have h := pN v hv
      have h3 := rng v (.inr hv)
      have h2 := (ky_btr (b := b) (l := l ++ [o]) (x := l.length) (y := v)).1 (by unfold St.lt at h; omega)
      rw [pk_last, pk_app h3.1 h3.2] at h2
      exact h2
theorem row_sort {b : Bool} {l : List Or} {g : Nat → Int} (h : St.Rn (kyP b l) g 0 l.length) : rwo8 l g l.length = sortO b l := by
  have e : rwo8 l g l.length = ((List.range l.length).map g).map (pko8 l) := by unfold rwo8; rw [List.map_map]; rfl
  rw [e]
  refine places_sort b l _ ?_ fun v => ?_
  · rw [List.pairwise_map]
    refine List.Pairwise.imp_of_mem (R := (· < ·)) (fun {a c} ha hc hac => h.1 a c (Nat.zero_le _) hac (List.mem_range.1 hc)) List.pairwise_lt_range
  · rw [List.mem_map]
    have := h.2 v
    refine ⟨fun ⟨t, ht, e⟩ => ?_, fun hv => ?_⟩
    · have := this.1 ⟨t, Nat.zero_le _, List.mem_range.1 ht, e⟩
      simpa using this
    · obtain ⟨t, _, ht, e⟩ := this.2 (by simpa using hv)
      exact ⟨t, List.mem_range.2 ht, e⟩
/-- The price of the last one that gets something. -/
def fillP : List Or → Int → Int → Int
  | [], _, p => p
  | x :: r, left, p => if left ≤ 0 then p else fillP r (left - minC x.le left) x.pr
theorem fill_last : ∀ {s : List Or} {left p : Int}, (∀ x, x ∈ s → 0 < x.le) → 0 < left → s ≠ [] → ∃ pre x post, s = pre ++ x :: post ∧ fillP s left p = x.pr ∧ sumC pre < left ∧ (left ≤ sumC pre + x.le ∨ post = [])
  | [], _, _, _, _, h => absurd rfl h
  | x :: r, left, p, h, h0, _ => by
    have hx := h x (List.mem_cons_self ..)
    have hr : ∀ y, y ∈ r → 0 < y.le := fun y hy => h y (List.mem_cons_of_mem _ hy)
    unfold fillP
    rw [if_neg (by omega)]
    by_cases c : left ≤ x.le
    · have e : left - minC x.le left = 0 := by unfold minC; split <;> omega
      refine ⟨[], x, r, rfl, ?_, by show (0 : Int) < left; exact h0, .inl (by show left ≤ 0 + x.le; omega)⟩
      rw [e]
      cases r with
      | nil => rfl
      | cons y r' => unfold fillP; rw [if_pos (Int.le_refl _)]
    · have e : left - minC x.le left = left - x.le := by unfold minC; split <;> omega
      rw [e]
      by_cases hn : r = []
      · subst hn
        exact ⟨[], x, [], rfl, rfl, by show (0 : Int) < left; exact h0, .inr rfl⟩
      · obtain ⟨pre, y, post, rfl, e1, e2, e3⟩ := fill_last (s := r) (left := left - x.le) (p := x.pr) hr (by omega) hn
        have es : sumC (x :: pre) = x.le + sumC pre := by simp [sumC]
        exact ⟨x :: pre, y, post, rfl, e1, by rw [es]; omega, e3.imp (fun k => by rw [es]; omega) id⟩
theorem cum_app {b : Bool} {p : Int} (l m : List Or) : cumC b (l ++ m) p = cumC b l p + cumC b m p := by simp [cumC]
theorem sum_app (l m : List Or) : sumC (l ++ m) = sumC l + sumC m := by simp [sumC]
theorem cum_zero {b : Bool} {p : Int} : ∀ {l : List Or}, (∀ x, x ∈ l → btr b p x.pr = true) → cumC b l p = 0
  | [], _ => rfl
  | x :: r, h => by
    have ih := cum_zero (b := b) (p := p) (l := r) fun y hy => h y (List.mem_cons_of_mem _ hy)
    have hx := h x (List.mem_cons_self ..)
    have e : cumC b (x :: r) p = oneC b p x + cumC b r p := by simp [cumC]
    rw [e, ih]
    unfold oneC
    rw [if_neg]
    · rfl
    · rw [btr_as hx]
      have : (x.pr == p) = false := beq_eq_false_iff_ne.2 fun e => by rw [e, btr_irr] at hx; cases hx
      rw [this]; decide
theorem ge_anti {b : Bool} {q : Int} {l : List Or} {c p : Int} (h : geC b q l c p) (k : geC b q l p c) : c = p := by
  rcases h with h | ⟨h, h'⟩ <;> rcases k with k | ⟨k, k'⟩
  · omega
  · omega
  · omega
  · exact btr_tot k' h'
theorem sortO_ne {b : Bool} {l : List Or} (h : l ≠ []) : sortO b l ≠ [] := fun e => by
  have := sort_len b l
  rw [e] at this
  exact h (List.length_eq_zero_iff.1 this.symm)
/-- Filling what is sorted tells the price. -/
theorem fill_price {b : Bool} {q : Int} {l : List Or} (h : OkC b q l) : fillP (sortO b l) q 0 = priceC b q l := by
  by_cases hl : l = []
  · subst hl; rfl
  have hpos : ∀ x, x ∈ l → 0 < x.le := h.pos
  have hp0 : ∀ x, x ∈ l → 0 ≤ x.le := fun x hx => Int.le_of_lt (hpos x hx)
  have q1 := h.q1
  obtain ⟨pre, x, post, es, e1, e2, e3⟩ := fill_last (s := sortO b l) (left := q) (p := 0) (fun y hy => hpos y (sort_mem.1 hy)) (by omega) (sortO_ne hl)
  rw [e1]
  have srt := sort_srt b l
  rw [es] at srt
  obtain ⟨s1, s2, s3⟩ := List.pairwise_append.1 srt
  obtain ⟨s4, s5⟩ := List.pairwise_cons.1 s2
  have hxl : x ∈ l := sort_mem (buy := b).1 (by rw [es]; simp)
  have lpos : ∀ L : List Or, (∀ y, y ∈ L → y ∈ l) → ∀ y, y ∈ L → 0 ≤ y.le := fun L hL y hy => hp0 y (hL y hy)
  have mpre : ∀ y, y ∈ pre → y ∈ l := fun y hy => sort_mem (buy := b).1 (by rw [es]; simp [hy])
  have mpost : ∀ y, y ∈ post → y ∈ l := fun y hy => sort_mem (buy := b).1 (by rw [es]; simp [hy])
  have esum : sumC l = sumC pre + (x.le + sumC post) := by
    rw [← sum_sort (b := b), es, sum_app]; simp [sumC]
  have ecum : ∀ p, cumC b l p = cumC b pre p + (oneC b p x + cumC b post p) := fun p => by
    rw [← cum_sort (b := b), es, cum_app]; simp [cumC]
  have atx : atC b q l x.pr = minC (sumC l) q := by
    have c1 : cumC b pre x.pr = sumC pre := cum_all fun y hy => s3 y hy x (List.mem_cons_self ..)
    have c2 : oneC b x.pr x = x.le := by unfold oneC; rw [if_pos (by simp)]
    have c3 := cum_le (b := b) (p := x.pr) (l := post) (lpos post mpost)
    have c4 := ecum x.pr
    rw [c1, c2] at c4
    rcases e3 with e3 | e3
    · unfold atC minC
      split <;> split <;> omega
    · subst e3
      have z : cumC b ([] : List Or) x.pr = 0 := rfl
      have z2 : sumC ([] : List Or) = 0 := rfl
      unfold atC minC
      split <;> split <;> omega
  have ge : ∀ y, y ∈ l → geC b q l x.pr y.pr := fun y hy => by
    have le := at_le (b := b) (q := q) (p := y.pr) hp0
    cases c : btr b y.pr x.pr
    · rcases Int.lt_or_eq_of_le le with k | k
      · exact .inl (by rw [atx]; exact k)
      · exact .inr ⟨by rw [atx]; exact k, c⟩
    · refine .inl ?_
      rw [atx]
      have c1 := (cum_le (b := b) (p := y.pr) (l := pre) (lpos pre mpre)).2
      have c2 : cumC b (x :: post) y.pr = 0 := cum_zero fun z hz => by
        rcases List.mem_cons.1 hz with rfl | hz
        · exact c
        · exact btr_tr c (s4 z hz)
      have c2' : oneC b y.pr x + cumC b post y.pr = 0 := by rw [← c2]; simp [cumC]
      have c3 := ecum y.pr
      have hx := hpos x hxl
      have c4 := (cum_le (b := b) (p := 0) (l := post) (lpos post mpost)).1
      have c5 := (cum_le (b := b) (p := 0) (l := post) (lpos post mpost)).2
      unfold atC minC
      split <;> split <;> omega
  obtain ⟨⟨y, hy, ey⟩, hg⟩ := price_is (b := b) (q := q) hl
  rw [ey]
  refine ge_anti (ge y hy) ?_
  rw [← ey]
  exact hg x hxl
/-- More than there is fills as much as there is. -/
theorem fill_cap : ∀ {s : List Or} {left : Int}, (∀ x, x ∈ s → 0 < x.le) → 0 ≤ left → fillC s left = fillC s (minC (sumC s) left)
  | [], _, _, _ => rfl
  | x :: r, left, h, h0 => by
    have hx := h x (List.mem_cons_self ..)
    have hr : ∀ y, y ∈ r → 0 < y.le := fun y hy => h y (List.mem_cons_of_mem _ hy)
    have pos : 0 ≤ sumC r := by
      have := cum_le (b := true) (p := 0) (l := r) fun y hy => Int.le_of_lt (hr y hy)
      omega
    have es : sumC (x :: r) = x.le + sumC r := by simp [sumC]
    by_cases c : left ≤ 0
    · have : minC (sumC (x :: r)) left = left := by unfold minC; rw [es]; split <;> omega
      rw [this]
    · have c2 : ¬ minC (sumC (x :: r)) left ≤ 0 := by unfold minC; rw [es]; split <;> omega
      unfold fillC
      rw [if_neg c, if_neg c2]
      have e1 : minC x.le (minC (sumC (x :: r)) left) = minC x.le left := by rw [es]; unfold minC; (repeat' split) <;> omega
      rw [e1]
      have ih := fill_cap (s := r) (left := left - minC x.le left) hr (by unfold minC; split <;> omega)
      rw [ih]
      have e2 : minC (sumC (x :: r)) left - minC x.le left = minC (sumC r) (left - minC x.le left) ∨ (minC (sumC r) (left - minC x.le left) = 0 ∧ minC (sumC (x :: r)) left - minC x.le left = 0) := by
        rw [es]; unfold minC; (repeat' split) <;> omega
      rcases e2 with e2 | ⟨e2, e3⟩
      · rw [e2]
      · rw [e2, e3]
theorem fill_clr {b : Bool} {q : Int} {l : List Or} (h : OkC b q l) : fillC (sortO b l) q = clrF b q l ∧ fillP (sortO b l) q 0 = clrP b q l := by
  obtain ⟨_, e1, e2⟩ := clr_ok h
  rw [e1, e2]
  refine ⟨?_, fill_price h⟩
  have hpos : ∀ x, x ∈ sortO b l → 0 < x.le := fun y hy => h.pos y (sort_mem.1 hy)
  have q1 := h.q1
  rw [fill_cap hpos (by omega), sum_sort]
  by_cases hl : l = []
  · subst hl; rfl
  · rw [at_price (fun x hx => Int.le_of_lt (h.pos x hx)) hl]
end Go.Proofs.Ytcjianjnedbjkaa
