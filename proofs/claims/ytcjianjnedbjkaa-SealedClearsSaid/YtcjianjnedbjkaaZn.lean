/- An auction of sealed bids, plain: nobody is passed over; one bid more; the other way round. -/
import Derived.Test.YtcjianjnedbjkaaZm
namespace Go.Proofs.Ytcjianjnedbjkaa
set_option linter.unusedVariables false

theorem ins_pair {b : Bool} {o : Or} {R : Or → Or → Prop} : ∀ {s : List Or}, s.Pairwise R → Srt b s → (∀ x, x ∈ s → btr b o.pr x.pr = false → R x o) → (∀ x, x ∈ s → btr b o.pr x.pr = true → R o x) → (insO b o s).Pairwise R
  | [], _, _, _, _ => List.pairwise_singleton _ _
  | x :: r, h, hs, h1, h2 => by
    obtain ⟨a1, a2⟩ := List.pairwise_cons.1 h
    obtain ⟨s1, s2⟩ := List.pairwise_cons.1 hs
    cases c : btr b o.pr x.pr
    · rw [ins_no c]
      refine List.pairwise_cons.2 ⟨fun y hy => ?_, ins_pair a2 s2 (fun y hy => h1 y (List.mem_cons_of_mem _ hy)) (fun y hy => h2 y (List.mem_cons_of_mem _ hy))⟩
      rcases ins_mem.1 hy with rfl | hy
      · exact h1 x (List.mem_cons_self ..) c
      · exact a1 y hy
    · rw [ins_yes c]
      refine List.pairwise_cons.2 ⟨fun y hy => ?_, h⟩
      rcases List.mem_cons.1 hy with rfl | hy
      · exact h2 y (List.mem_cons_self ..) c
      · exact h2 y (List.mem_cons_of_mem _ hy) (btr_tr c (s1 y hy))
/-- One comes ahead of another one. -/
def Bef (l : List Or) (x y : Or) : Prop := ∃ i j : Nat, i < j ∧ l[i]? = some x ∧ l[j]? = some y
theorem bef_more {l : List Or} {x y o : Or} (h : Bef l x y) : Bef (l ++ [o]) x y := by
  obtain ⟨i, j, hij, hi, hj⟩ := h
  have li := (List.getElem?_eq_some_iff.1 hi).1
  have lj := (List.getElem?_eq_some_iff.1 hj).1
  exact ⟨i, j, hij, by rw [List.getElem?_append_left li, hi], by rw [List.getElem?_append_left lj, hj]⟩
theorem bef_last {l : List Or} {x o : Or} (h : x ∈ l) : Bef (l ++ [o]) x o := by
  obtain ⟨i, hi⟩ := List.getElem?_of_mem h
  have li := (List.getElem?_eq_some_iff.1 hi).1
  exact ⟨i, l.length, li, by rw [List.getElem?_append_left li, hi], by simp⟩
/-- The order keeps who came first, of one price. -/
theorem sort_bef (b : Bool) (l : List Or) : (sortO b l).Pairwise fun x y => btr b x.pr y.pr = true ∨ (x.pr = y.pr ∧ Bef l x y) := by
  refine snoc_ind (P := fun l => (sortO b l).Pairwise fun x y => btr b x.pr y.pr = true ∨ (x.pr = y.pr ∧ Bef l x y)) List.Pairwise.nil (fun l o ih => ?_) l
  rw [sort_snoc]
  refine ins_pair (ih.imp fun {x y} h => h.imp id fun ⟨e, k⟩ => ⟨e, bef_more k⟩) (sort_srt b l) (fun x hx c => ?_) (fun x hx c => .inl c)
  cases d : btr b x.pr o.pr
  · exact .inr ⟨btr_tot d c, bef_last (sort_mem.1 hx)⟩
  · exact .inl rfl
theorem sort_dis {b : Bool} {l : List Or} (h : Dis l) : Dis (sortO b l) := by
  revert h
  refine snoc_ind (P := fun l => Dis l → Dis (sortO b l)) (fun _ => List.Pairwise.nil) (fun l o ih h => ?_) l
  rw [sort_snoc]
  obtain ⟨h1, h2, h3⟩ := List.pairwise_append.1 h
  exact ins_pair (ih h1) (sort_srt b l) (fun x hx _ => h3 x (sort_mem.1 hx) o (List.mem_singleton.2 rfl)) (fun x hx _ => (h3 x (sort_mem.1 hx) o (List.mem_singleton.2 rfl)).symm)
theorem dis_at {l : List Or} (h : Dis l) {i j : Nat} {x : Or} (hi : l[i]? = some x) (hj : l[j]? = some x) : i = j := by
  obtain ⟨li, ei⟩ := List.getElem?_eq_some_iff.1 hi
  obtain ⟨lj, ej⟩ := List.getElem?_eq_some_iff.1 hj
  have p := List.pairwise_iff_getElem.1 h
  rcases Nat.lt_trichotomy i j with c | c | c
  · exact absurd (by rw [ei, ej]) (p i j li lj c)
  · exact c
  · exact absurd (by rw [ei, ej]) (p j i lj li c)
theorem dis_one {l : List Or} (h : Dis l) {x y : Or} (hx : x ∈ l) (hy : y ∈ l) (e : x.nu = y.nu) : x = y := by
  obtain ⟨i, hi⟩ := List.getElem?_of_mem hx
  obtain ⟨j, hj⟩ := List.getElem?_of_mem hy
  obtain ⟨li, ei⟩ := List.getElem?_eq_some_iff.1 hi
  obtain ⟨lj, ej⟩ := List.getElem?_eq_some_iff.1 hj
  have pp := List.pairwise_iff_getElem.1 h
  rcases Nat.lt_trichotomy i j with c | c | c
  · have := pp i j li lj c
    rw [ei, ej] at this
    exact absurd e this
  · subst c
    exact ei.symm.trans ej
  · have := pp j i lj li c
    rw [ei, ej] at this
    exact absurd e.symm this
section
variable {b : Bool} {q : Int} {l l' : List Or} {x y : Or} {p : Int}
theorem OkC.le (h : OkC b q l) (hm : ∀ x, mayO x = true → 0 < x.le) : ∀ x, x ∈ l → 0 < x.le := fun x hx => hm x (h.may x hx).1
theorem may_pos {x : Or} (h : mayO x = true) : 0 < x.le ∧ x.le ≤ 1000000 ∧ 0 < x.pr ∧ x.pr ≤ 10000000 := by
  unfold mayO at h
  simp only [Bool.and_eq_true, decide_eq_true_eq] at h
  omega
theorem OkC.pos (h : OkC b q l) : ∀ x, x ∈ l → 0 < x.le := fun x hx => (may_pos (h.may x hx).1).1
theorem sum_sort : sumC (sortO b l) = sumC l := sort_sum b (·.le) l
theorem cum_sort : cumC b (sortO b l) p = cumC b l p := sort_sum b (oneC b p) l
theorem sortC_nil : sortO b [] = [] := rfl
/-- What is filled is the quantity or all there is. -/
theorem clr_sum (h : OkC b q l) : sumF (clrF b q l) = minC (sumC l) q := by
  obtain ⟨_, _, e⟩ := clr_ok h
  rw [e]
  cases l with
  | nil =>
    show (0 : Int) = minC 0 q
    have := h.q1
    unfold minC
    rw [if_neg (by omega)]
  | cons x r =>
    have pos := h.pos
    have pz : ∀ z, z ∈ x :: r → 0 ≤ z.le := fun z hz => Int.le_of_lt (pos z hz)
    have sp : 0 ≤ sumC (x :: r) := by
      have := cum_le (b := true) (p := 0) pz
      omega
    rw [at_price pz (by simp), fill_sum (fun z hz => pos z (sort_mem.1 hz)) (by have := h.q1; unfold minC; split <;> omega), sum_sort]
    unfold minC
    split <;> first | rfl | omega | (split <;> omega)
theorem clr_fair (h : OkC b q l) :
    (l.map (gotC (clrF b q l))).sum = minC (sumC l) q ∧ (∀ x, x ∈ l → 0 ≤ gotC (clrF b q l) x ∧ gotC (clrF b q l) x ≤ x.le ∧ (0 < gotC (clrF b q l) x → btr b (clrP b q l) x.pr = false)) ∧
    ∀ (i k : Nat) (x y : Or), l[i]? = some x → l[k]? = some y → (btr b x.pr y.pr = true ∨ (y.pr = x.pr ∧ i < k)) → gotC (clrF b q l) x < x.le → gotC (clrF b q l) y = 0 := by
  have hs := clr_sum h
  obtain ⟨_, ep, e⟩ := clr_ok h
  rw [ep]
  rw [e] at hs ⊢
  obtain ⟨left, hleft⟩ : ∃ left, atC b q l (priceC b q l) = left := ⟨_, rfl⟩
  rw [hleft] at hs ⊢
  have pos := h.pos
  have pz : ∀ z, z ∈ l → 0 ≤ z.le := fun z hz => Int.le_of_lt (pos z hz)
  have cz := (cum_le (b := b) (p := priceC b q l) pz).1
  have l0 : 0 ≤ left := by
    rw [← hleft]
    have := h.q1
    unfold atC
    split <;> omega
  have lc : left ≤ cumC b (sortO b l) (priceC b q l) := by
    rw [cum_sort, ← hleft]
    unfold atC
    split <;> omega
  obtain ⟨g1, g2, g3⟩ := got_facts (s := sortO b l) (left := left) (fun z hz => pos z (sort_mem.1 hz)) (sort_dis h.dis) l0
  have gd := got_good (b := b) (p := priceC b q l) (sort_srt b l) (fun z hz => pos z (sort_mem.1 hz)) lc
  obtain ⟨f, hf⟩ : ∃ f, fillC (sortO b l) left = f := ⟨_, rfl⟩
  rw [hf] at g1 g2 g3 gd hs ⊢
  refine ⟨?_, fun x hx => ?_, fun i k x y hi hk hw hg => ?_⟩
  · rw [← hs, ← g3, sort_sum]
  · obtain ⟨a1, a2⟩ := g1 x (sort_mem.2 hx)
    refine ⟨a1, a2, fun c => ?_⟩
    cases d : btr b (priceC b q l) x.pr
    · rfl
    · exfalso
      have : gotC f x = 0 := got_none fun t ht e2 => by
        obtain ⟨y, hy, e3, e4⟩ := gd t ht
        have : y = x := dis_one (sort_dis (b := b) h.dis) hy (sort_mem.2 hx) (e3.symm.trans e2)
        rw [this, d] at e4
        cases e4
      omega
  · have mx : x ∈ sortO b l := sort_mem.2 (List.mem_of_getElem? hi)
    have my : y ∈ sortO b l := sort_mem.2 (List.mem_of_getElem? hk)
    obtain ⟨i', hi'⟩ := List.getElem?_of_mem mx
    obtain ⟨k', hk'⟩ := List.getElem?_of_mem my
    obtain ⟨li, ei⟩ := List.getElem?_eq_some_iff.1 hi'
    obtain ⟨lk, ek⟩ := List.getElem?_eq_some_iff.1 hk'
    have pr := List.pairwise_iff_getElem.1 (sort_bef b l)
    have pg := List.pairwise_iff_getElem.1 g2
    rcases Nat.lt_trichotomy i' k' with c | c | c
    · have := pg i' k' li lk c
      rw [ei, ek] at this
      exact this hg
    · subst c
      have exy : x = y := ei.symm.trans ek
      subst exy
      rcases hw with hw | ⟨_, hw⟩
      · rw [btr_irr] at hw; cases hw
      · have := dis_at h.dis hi hk; omega
    · have := pr k' i' lk li c
      rw [ei, ek] at this
      rcases this with r | ⟨r, i2, j2, hij, h2, h3⟩
      · rcases hw with hw | ⟨hw, _⟩
        · rw [btr_as hw] at r; cases r
        · rw [hw, btr_irr] at r; cases r
      · rcases hw with hw | ⟨_, hw⟩
        · rw [r, btr_irr] at hw; cases hw
        · have e1 := dis_at h.dis hi h3
          have e2 := dis_at h.dis hk h2
          omega
/-- One bid more. -/
theorem clr_more (h : OkC b q l) (h' : OkC b q l') (hm : ∀ x, x ∈ l → x ∈ l') (hs : sumC l ≤ sumC l') (hc : ∀ p, cumC b l p ≤ cumC b l' p) :
    sumF (clrF b q l) ≤ sumF (clrF b q l') ∧ (sumF (clrF b q l) = q → btr b (clrP b q l) (clrP b q l') = false) := by
  rw [clr_sum h, clr_sum h']
  refine ⟨by unfold minC; split <;> split <;> omega, fun e => ?_⟩
  rw [(clr_ok h).2.1, (clr_ok h').2.1]
  have q1 := h.q1
  have hne : l ≠ [] := fun c => by
    subst c
    have : minC (sumC []) q = 0 := by
      show minC 0 q = 0
      unfold minC
      rw [if_neg (by omega)]
    omega
  obtain ⟨x, hx, ex⟩ := (price_is (b := b) (q := q) hne).1
  have hne' : l' ≠ [] := fun c => by rw [c] at hm; exact absurd (hm x hx) (by simp)
  have z : ∀ z, z ∈ l → 0 ≤ z.le := fun z hz => Int.le_of_lt (h.pos z hz)
  have z' : ∀ z, z ∈ l' → 0 ≤ z.le := fun z hz => Int.le_of_lt (h'.pos z hz)
  have a1 := at_price (b := b) (q := q) z hne
  have a2 := at_price (b := b) (q := q) z' hne'
  have g := (price_is (b := b) (q := q) hne').2 x (hm x hx)
  rw [← ex] at g
  have m2 : minC (sumC l') q = q := by
    unfold minC at e ⊢
    split at e <;> split <;> omega
  have a3 : q ≤ atC b q l' (priceC b q l) := by
    have := hc (priceC b q l)
    rw [e] at a1
    unfold atC at a1 ⊢
    split at a1 <;> split <;> omega
  rcases g with g | ⟨_, g⟩
  · omega
  · exact g
end
/-- The other way round. -/
def tuC (o : Or) : Or := ⟨o.nu, o.ac, !o.bu, 1001 - o.pr, o.le⟩
section
variable {b : Bool} {q : Int} {l r : List Or} {p c : Int}
theorem btr_tuC (b : Bool) (x y : Int) : btr (!b) (1001 - x) (1001 - y) = btr b x y := by
  have h1 : decide (1001 - y < 1001 - x) = decide (x < y) := decide_eq_decide.2 (by omega)
  have h2 : decide (1001 - x < 1001 - y) = decide (y < x) := decide_eq_decide.2 (by omega)
  unfold btr
  rw [h1, h2]
  cases b <;> simp
theorem cum_tuC (b : Bool) (p : Int) : ∀ l : List Or, cumC (!b) (l.map tuC) (1001 - p) = cumC b l p
  | [] => rfl
  | x :: r => by
    have ih := cum_tuC b p r
    unfold cumC at ih ⊢
    rw [List.map_cons, List.map_cons, List.sum_cons, List.map_cons, List.sum_cons, ih]
    have : oneC (!b) (1001 - p) (tuC x) = oneC b p x := by
      unfold oneC
      rw [show btr (!b) (tuC x).pr (1001 - p) = btr b x.pr p from btr_tuC b x.pr p]
      have : ((tuC x).pr == 1001 - p) = (x.pr == p) := by
        show ((1001 - x.pr : Int) == 1001 - p) = _
        by_cases c : x.pr = p
        · subst c; simp
        · rw [beq_eq_false_iff_ne.2 c, beq_eq_false_iff_ne.2 (by omega)]
      rw [this]; rfl
    rw [this]
theorem at_tuC : atC (!b) q (l.map tuC) (1001 - p) = atC b q l p := by
  unfold atC
  rw [cum_tuC]
theorem nxt_tuC : nxtC (!b) q (l.map tuC) (1001 - c) (1001 - p) = 1001 - nxtC b q l c p := by
  unfold nxtC
  rw [at_tuC, at_tuC, btr_tuC]
  split <;> rfl
theorem pri_tuC : ∀ (r : List Or) (c : Int), priC (!b) q (l.map tuC) (r.map tuC) (1001 - c) = 1001 - priC b q l r c
  | [], c => rfl
  | x :: r, c => by
    show priC (!b) q (l.map tuC) (r.map tuC) (nxtC (!b) q (l.map tuC) (1001 - c) (1001 - x.pr)) = 1001 - priC b q l r (nxtC b q l c x.pr)
    rw [nxt_tuC]
    exact pri_tuC r _
theorem price_tuC (h : l ≠ []) : priceC (!b) q (l.map tuC) = 1001 - priceC b q l := by
  cases l with
  | nil => exact absurd rfl h
  | cons x r => exact pri_tuC (l := x :: r) r x.pr
theorem ins_tuC (b : Bool) : ∀ (os : List Or) (o : Or), insO (!b) (tuC o) (os.map tuC) = (insO b o os).map tuC
  | [], o => rfl
  | x :: r, o => by
    have ih := ins_tuC b r o
    rw [List.map_cons]
    unfold insO
    have e : btr (!b) (tuC o).pr (tuC x).pr = btr b o.pr x.pr := btr_tuC b o.pr x.pr
    rw [e]
    split
    · rfl
    · rw [List.map_cons, ih]
theorem sort_tuC (b : Bool) (l : List Or) : sortO (!b) (l.map tuC) = (sortO b l).map tuC := by
  refine snoc_ind (P := fun l => sortO (!b) (l.map tuC) = (sortO b l).map tuC) rfl (fun l o ih => ?_) l
  rw [List.map_append, List.map_cons, List.map_nil, sort_snoc, sort_snoc, ih, ins_tuC]
theorem fill_tuC : ∀ (s : List Or) (left : Int), fillC (s.map tuC) left = fillC s left
  | [], _ => rfl
  | x :: r, left => by
    rw [List.map_cons]
    unfold fillC
    rw [show (tuC x).le = x.le from rfl, fill_tuC r]; rfl
theorem may_tuC {o : Or} (h1 : 1 ≤ o.pr) (h2 : o.pr ≤ 1000) : mayO (tuC o) = mayO o := by
  unfold mayO tuC
  have e1 : decide (0 < 1001 - o.pr) = decide (0 < o.pr) := decide_eq_decide.2 (by omega)
  have e2 : decide (1001 - o.pr ≤ 10000000) = decide (o.pr ≤ 10000000) := decide_eq_decide.2 (by omega)
  simp only [e1, e2]
theorem ok_tuC (hp : ∀ x, x ∈ l → 1 ≤ x.pr ∧ x.pr ≤ 1000) : OkC (!b) q (l.map tuC) ↔ OkC b q l := by
  constructor
  · rintro ⟨h1, h2, h3, h4, h5⟩
    refine ⟨by rwa [List.length_map] at h1, h2, h3, fun x hx => ?_, ?_⟩
    · obtain ⟨m1, m2⟩ := h4 (tuC x) (List.mem_map.2 ⟨x, hx, rfl⟩)
      rw [may_tuC (hp x hx).1 (hp x hx).2] at m1
      exact ⟨m1, by have : (!x.bu) = !b := m2; revert this; cases x.bu <;> cases b <;> simp⟩
    · exact (List.pairwise_map.1 h5).imp fun {x y} k => k
  · rintro ⟨h1, h2, h3, h4, h5⟩
    refine ⟨by rwa [List.length_map], h2, h3, fun z hz => ?_, List.pairwise_map.2 (h5.imp fun {x y} k => k)⟩
    obtain ⟨x, hx, rfl⟩ := List.mem_map.1 hz
    obtain ⟨m1, m2⟩ := h4 x hx
    exact ⟨(may_tuC (hp x hx).1 (hp x hx).2).trans m1, by show (!x.bu) = !b; rw [m2]⟩
theorem clr_tuC (hp : ∀ x, x ∈ l → 1 ≤ x.pr ∧ x.pr ≤ 1000) : clrA (!b) q (l.map tuC) = clrA b q l ∧ clrF (!b) q (l.map tuC) = clrF b q l ∧ (clrF b q l ≠ [] → clrP b q l = 1001 - clrP (!b) q (l.map tuC)) := by
  by_cases h : OkC b q l
  · have h' := (ok_tuC (b := b) (q := q) hp).2 h
    obtain ⟨a1, a2, a3⟩ := clr_ok h
    obtain ⟨b1, b2, b3⟩ := clr_ok h'
    rw [a1, a2, a3, b1, b2, b3]
    by_cases hl : l = []
    · subst hl
      exact ⟨rfl, rfl, fun c => absurd rfl c⟩
    · rw [price_tuC hl, at_tuC, sort_tuC, fill_tuC]
      exact ⟨rfl, rfl, fun _ => by omega⟩
  · have h' : ¬ OkC (!b) q (l.map tuC) := fun c => h ((ok_tuC hp).1 c)
    obtain ⟨a1, a2, a3⟩ := clr_no h
    obtain ⟨b1, b2, b3⟩ := clr_no h'
    refine ⟨?_, by rw [a3, b3], fun c => absurd a3 c⟩
    unfold clrA
    rw [if_neg h, if_neg h', List.length_map]
end
end Go.Proofs.Ytcjianjnedbjkaa
