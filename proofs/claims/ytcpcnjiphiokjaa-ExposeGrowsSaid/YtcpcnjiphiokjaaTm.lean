/- PURE: margins of parts, turned ones, in another order; no program's function. -/
import Derived.Test.YtcpcnjiphiokjaaTa
namespace Go.Proofs.Ytcpcnjiphiokjaa
open Go.RowKit
set_option linter.unusedVariables false
set_option linter.unusedSimpArgs false

section
variable {r : Int} {l : List Lq} {p : Lq → Bool}
theorem sum_all10 {f : Lq → Int} (h0 : ∀ x, inR r x = false → f x = 0) : ∀ {l : List Lq}, (∀ x, x ∈ l → inR r x = true → p x = true) → sumL f (l.filter p) = sumL f l
  | [], _ => rfl
  | x :: l, h => by
    have ih := sum_all10 h0 (l := l) fun y hy => h y (List.mem_cons_of_mem _ hy)
    cases hp : p x
    · have hi : inR r x = false := by
        cases hi : inR r x
        · rfl
        · rw [h x (List.mem_cons_self ..) hi] at hp; cases hp
      rw [List.filter_cons_of_neg (by rw [hp]; decide), ih]
      show sumL f l = f x + sumL f l
      rw [h0 x hi]; omega
    · rw [List.filter_cons_of_pos hp]
      show f x + sumL f (l.filter p) = f x + sumL f l
      rw [ih]
theorem sum_none10 {f : Lq → Int} (h0 : ∀ x, inR r x = false → f x = 0) : ∀ {l : List Lq}, (∀ x, x ∈ l → inR r x = true → p x = false) → sumL f (l.filter p) = 0
  | [], _ => rfl
  | x :: l, h => by
    have ih := sum_none10 h0 (l := l) fun y hy => h y (List.mem_cons_of_mem _ hy)
    cases hp : p x
    · rw [List.filter_cons_of_neg (by rw [hp]; decide), ih]
    · have hi : inR r x = false := by
        cases hi : inR r x
        · rfl
        · rw [h x (List.mem_cons_self ..) hi] at hp; cases hp
      rw [List.filter_cons_of_pos hp]
      show f x + sumL f (l.filter p) = 0
      rw [ih, h0 x hi]; rfl
theorem ra_all10 : ∀ {l : List Lq}, (∀ x, x ∈ l → inR r x = true → p x = true) → raL r (l.filter p) = raL r l
  | [], _ => rfl
  | x :: l, h => by
    have ih := ra_all10 (l := l) fun y hy => h y (List.mem_cons_of_mem _ hy)
    cases hp : p x
    · have hi : inR r x = false := by
        cases hi : inR r x
        · rfl
        · rw [h x (List.mem_cons_self ..) hi] at hp; cases hp
      rw [List.filter_cons_of_neg (by rw [hp]; decide), ih]
      show raL r l = (if inR r x then min x.sp.cr (raL r l) else raL r l)
      rw [hi]; rfl
    · rw [List.filter_cons_of_pos hp]
      show (if inR r x then min x.sp.cr (raL r (l.filter p)) else raL r (l.filter p)) = (if inR r x then min x.sp.cr (raL r l) else raL r l)
      rw [ih]
theorem fS0 : ∀ x, inR r x = false → fS r x = 0 := fun x h => by unfold fS; rw [if_neg (by rw [h]; decide)]
theorem fL0 : ∀ x, inR r x = false → fL r x = 0 := fun x h => by unfold fL; rw [if_neg (by rw [h]; decide)]
theorem fN0 : ∀ x, inR r x = false → fN r x = 0 := fun x h => by unfold fN; rw [if_neg (by rw [h]; decide)]
theorem mar_all10 (h : ∀ x, x ∈ l → inR r x = true → p x = true) : marR r (l.filter p) = marR r l := by
  unfold marR scR loR soR
  rw [sum_all10 fS0 h, sum_all10 fL0 h, sum_all10 fN0 h, ra_all10 h]
theorem mar_none10 (h : ∀ x, x ∈ l → inR r x = true → p x = false) : marR r (l.filter p) = 0 := by
  unfold marR scR loR soR
  rw [sum_none10 fS0 h, sum_none10 fL0 h, sum_none10 fN0 h]
  simp
end
/-- Up to a route; beyond. -/
def upTo (r : Int) (x : Lq) : Bool := decide (x.sp.ro ≤ r)
theorem mar_split10 (l : List Lq) (q r : Int) : marR r l = marR r (l.filter (upTo q)) + marR r (l.filter fun x => !upTo q x) := by
  by_cases h : r ≤ q
  · rw [mar_all10 (p := upTo q) (fun x _ hi => ?_), mar_none10 (p := fun x => !upTo q x) (fun x _ hi => ?_)]
    · omega
    · unfold inR at hi; unfold upTo
      simp only [Bool.and_eq_true, decide_eq_true_eq] at hi
      rw [decide_eq_true (by omega)]; rfl
    · unfold inR at hi; unfold upTo
      simp only [Bool.and_eq_true, decide_eq_true_eq] at hi
      rw [decide_eq_true (by omega)]
  · rw [mar_none10 (p := upTo q) (fun x _ hi => ?_), mar_all10 (p := fun x => !upTo q x) (fun x _ hi => ?_)]
    · omega
    · unfold inR at hi; unfold upTo
      simp only [Bool.and_eq_true, decide_eq_true_eq] at hi
      rw [decide_eq_false (by omega)]; rfl
    · unfold inR at hi; unfold upTo
      simp only [Bool.and_eq_true, decide_eq_true_eq] at hi
      rw [decide_eq_false (by omega)]
theorem marU_congr {a b : List Lq} (h : ∀ r, marR r a = marR r b) : ∀ n, marU a n = marU b n
  | 0 => rfl
  | n + 1 => by show marU a n + _ = marU b n + _; rw [marU_congr h n, h]
theorem marU_split (l : List Lq) (q : Int) : ∀ n, marU l n = marU (l.filter (upTo q)) n + marU (l.filter fun x => !upTo q x) n
  | 0 => rfl
  | n + 1 => by
    have := mar_split10 l q ((n : Int) + 1)
    show marU l n + _ = (marU (l.filter (upTo q)) n + _) + (marU (l.filter fun x => !upTo q x) n + _)
    rw [marU_split l q n]; omega
theorem mar_part10 {l : List Lq} (h : marE l = 0) (p : Lq → Bool) : marE (l.filter p) = 0 := by
  obtain ⟨h1, h2, h3⟩ := mar_ok h
  refine mar_ok' (Nat.le_trans (List.length_filter_le _ _) h1) (fun x hx => h2 x (List.mem_filter.1 hx).1) (dup_iff.2 ?_)
  exact (dup_iff.1 h3).sublist List.filter_sublist
theorem marN_ok {l : List Lq} (h : marE l = 0) : marN l = marT l := by unfold marN; rw [if_pos h]
theorem marN_no {l : List Lq} (h : marE l ≠ 0) : marN l = 0 := by unfold marN; rw [if_neg h]
theorem routes10 {l : List Lq} (h : marE l = 0) (q : Int) : marE (l.filter (upTo q)) = 0 ∧ marE (l.filter fun x => !upTo q x) = 0 ∧ marN l = marN (l.filter (upTo q)) + marN (l.filter fun x => !upTo q x) := by
  have h1 := mar_part10 h (upTo q)
  have h2 := mar_part10 h (fun x => !upTo q x)
  refine ⟨h1, h2, ?_⟩
  rw [marN_ok h, marN_ok h1, marN_ok h2]
  exact marU_split l q 8
theorem marN_bd {l : List Lq} : 0 ≤ marN l ∧ marN l ≤ 12800000000000000 := by
  by_cases h : marE l = 0
  · rw [marN_ok h]
    obtain ⟨h1, h2, _⟩ := mar_ok h
    have := marU_bd (l := l) ⟨h1, h2⟩ 8
    unfold marT
    omega
  · rw [marN_no h]; omega

/-! The other way round in order. -/
theorem marR_rev (r : Int) (l : List Lq) : marR r l.reverse = marR r l := by
  unfold marR scR loR soR
  rw [sumL_rev, sumL_rev, sumL_rev, raL_rev]
theorem rev10 {l : List Lq} (h : marE l = 0) : marE l.reverse = 0 ∧ marN l.reverse = marN l := by
  obtain ⟨h1, h2, h3⟩ := mar_ok h
  have e : marE l.reverse = 0 := by
    refine mar_ok' (by rw [List.length_reverse]; exact h1) (fun x hx => h2 x (List.mem_reverse.1 hx)) (dup_iff.2 ?_)
    rw [List.pairwise_reverse]
    exact (dup_iff.1 h3).imp fun h => Ne.symm h
  refine ⟨e, ?_⟩
  rw [marN_ok h, marN_ok e]
  exact marU_congr (fun r => marR_rev r l) 8
/-! One more of nothing. -/
theorem more10 (l : List Lq) (x : Lq) (hq : x.q = 0) : marT (l ++ [x]) = marT l := by
  have hi : ∀ r, inR r x = false := fun r => by unfold inR; rw [show decide (x.q ≠ 0) = false from decide_eq_false (fun c => c hq), Bool.and_false]
  refine marU_congr (fun r => ?_) 8
  have hr : raL r (l ++ [x]) = raL r l := by
    have := raL_le r l
    rw [raL_app]
    show min _ (if inR r x then _ else _) = _
    rw [if_neg (by rw [hi r]; decide)]
    show min (raL r l) 10000000 = _
    omega
  unfold marR scR loR soR
  rw [sumL_app, sumL_app, sumL_app, sumL_one, sumL_one, sumL_one, hr, fS0 x (hi r), fL0 x (hi r), fN0 x (hi r)]
  simp
theorem more10' {l : List Lq} {x : Lq} (hq : x.q = 0) (h : marE l = 0) (h2 : marE (l ++ [x]) = 0) : marN (l ++ [x]) = marN l := by
  rw [marN_ok h, marN_ok h2, more10 l x hq]
/-! Without credits. -/
def fr10 (x : Lq) : Lq := ⟨{ x.sp with cr := 0 }, x.q, x.len⟩
theorem fr_may10 {s : Sp} (h : mayB s = true) : mayB { s with cr := 0 } = true := by
  unfold mayB headB at h ⊢
  simp only [Bool.and_eq_true] at h ⊢
  obtain ⟨⟨⟨⟨⟨⟨⟨⟨⟨⟨a, b⟩, c⟩, d⟩, e⟩, f⟩, g⟩, i⟩, j⟩, k⟩, m⟩ := h
  exact ⟨⟨⟨⟨⟨⟨⟨⟨⟨⟨a, b⟩, c⟩, d⟩, e⟩, f⟩, by decide⟩, i⟩, j⟩, k⟩, m⟩
theorem fr_leg10 {x : Lq} (h : legB x = true) : legB (fr10 x) = true := by
  rw [legB_iff] at h ⊢
  exact ⟨fr_may10 h.1, h.2⟩
theorem fr_sum10 {f : Lq → Int} (hf : ∀ x, f (fr10 x) = f x) : ∀ l : List Lq, sumL f (l.map fr10) = sumL f l
  | [] => rfl
  | x :: l => by show f (fr10 x) + sumL f (l.map fr10) = f x + sumL f l; rw [hf, fr_sum10 hf l]
theorem fr_cre10 {l : List Lq} (r : Int) (h : LegsB l) : min (loR r (l.map fr10)) (soR r (l.map fr10)) * raL r (l.map fr10) = 0 := by
  cases ha : l.any (inR r)
  · have h2 : loR r (l.map fr10) = 0 := by
      unfold loR
      rw [fr_sum10 (fun x => rfl)]
      have := sum_none10 (r := r) (p := fun _ => true) (f := fL r) fL0 (l := l) (fun x hx hi => by rw [List.any_eq_false] at ha; exact absurd hi (ha x hx))
      rwa [List.filter_eq_self.2 (fun _ _ => rfl)] at this
    have h3 : soR r (l.map fr10) = 0 := by
      unfold soR
      rw [fr_sum10 (fun x => rfl)]
      have := sum_none10 (r := r) (p := fun _ => true) (f := fN r) fN0 (l := l) (fun x hx hi => by rw [List.any_eq_false] at ha; exact absurd hi (ha x hx))
      rwa [List.filter_eq_self.2 (fun _ _ => rfl)] at this
    rw [h2, h3]; simp
  · have : ∀ m : List Lq, m.any (inR r) = true → raL r (m.map fr10) = 0 := by
      intro m
      induction m with
      | nil => intro h; cases h
      | cons y t ih =>
        intro h
        have hp : 0 ≤ raL r (t.map fr10) := raL_pos fun x hx => by
          obtain ⟨z, _, rfl⟩ := List.mem_map.1 hx
          exact Int.le_refl _
        show (if inR r y then min 0 (raL r (t.map fr10)) else raL r (t.map fr10)) = 0
        cases hy : inR r y
        · rw [List.any_cons, hy, Bool.false_or] at h
          rw [if_neg (by decide), ih h]
        · rw [if_pos rfl]; omega
    rw [this l ha]; simp
/-- All scans together. -/
def wsL (x : Lq) : Int := wst x.sp.sh x.q
def scU (l : List Lq) : Nat → Int
  | 0 => 0
  | n + 1 => scU l n + scR ((n : Int) + 1) l
theorem marU_le {l : List Lq} (h : LegsB l) : ∀ n, marU l n ≤ scU l n
  | 0 => Int.le_refl _
  | n + 1 => by
    have h1 := marU_le h n
    have h2 := marR_bd h ((n : Int) + 1)
    show marU l n + _ ≤ scU l n + _
    omega
theorem marU_free {l : List Lq} (h : LegsB l) : ∀ n, marU (l.map fr10) n = scU l n
  | 0 => rfl
  | n + 1 => by
    have h1 := marU_free h n
    have h2 := scR_bd h ((n : Int) + 1)
    show marU (l.map fr10) n + marR ((n : Int) + 1) (l.map fr10) = scU l n + scR ((n : Int) + 1) l
    rw [h1]
    unfold marR
    rw [fr_cre10 _ h]
    have e : scR ((n : Int) + 1) (l.map fr10) = scR ((n : Int) + 1) l := by unfold scR; exact fr_sum10 (fun x => rfl) l
    rw [e]
    omega
theorem sumL_add (f g : Lq → Int) : ∀ l : List Lq, sumL (fun x => f x + g x) l = sumL f l + sumL g l
  | [] => rfl
  | x :: l => by
    show (f x + g x) + sumL _ l = (f x + sumL f l) + (g x + sumL g l)
    rw [sumL_add f g l]; omega
def fU (n : Nat) (x : Lq) : Int := match n with | 0 => 0 | n + 1 => fU n x + fS ((n : Int) + 1) x
theorem scU_sum (l : List Lq) : ∀ n, scU l n = sumL (fU n) l
  | 0 => by
    show (0 : Int) = sumL (fun _ => 0) l
    induction l with
    | nil => rfl
    | cons x t ih => show (0 : Int) = 0 + sumL _ t; rw [← ih]; rfl
  | n + 1 => by
    show scU l n + scR ((n : Int) + 1) l = sumL (fun x => fU n x + fS ((n : Int) + 1) x) l
    rw [sumL_add, scU_sum l n]; rfl
theorem fU_8 {x : Lq} (h : legB x = true) : fU 8 x = wsL x := by
  have hr := (head_parts (may_head (legB_iff.1 h).1)).2.1
  by_cases hq : x.q = 0
  · have h0 : ∀ r, fS r x = 0 := fun r => fS0 x (by unfold inR; rw [show decide (x.q ≠ 0) = false from decide_eq_false (fun c => c hq), Bool.and_false])
    simp only [fU, h0, wsL, hq, wst_zero]
    rfl
  · have h0 : ∀ r, fS r x = if x.sp.ro = r then wsL x else 0 := fun r => by
      unfold fS inR wsL
      rw [show decide (x.q ≠ 0) = true from decide_eq_true hq, Bool.and_true]
      by_cases c : x.sp.ro = r
      · rw [decide_eq_true c, if_pos rfl, if_pos c]
      · rw [decide_eq_false c, if_neg (by decide), if_neg c]
    simp only [fU, h0]
    generalize wsL x = v
    generalize x.sp.ro = o at hr
    obtain rfl | rfl | rfl | rfl | rfl | rfl | rfl | rfl : o = 1 ∨ o = 2 ∨ o = 3 ∨ o = 4 ∨ o = 5 ∨ o = 6 ∨ o = 7 ∨ o = 8 := by omega
    all_goals simp
theorem scT {l : List Lq} (h : LegsB l) : scU l 8 = sumL wsL l := by
  rw [scU_sum]
  exact sumL_congr fun x hx => fU_8 (h.2 x hx)
theorem free10 {l : List Lq} (h : marE l = 0) : marE (l.map fr10) = 0 ∧ marN (l.map fr10) = sumL wsL l ∧ marN l ≤ sumL wsL l := by
  obtain ⟨h1, h2, h3⟩ := mar_ok h
  have e : marE (l.map fr10) = 0 := by
    refine mar_ok' (by rw [List.length_map]; exact h1) (fun x hx => ?_) (dup_iff.2 ?_)
    · obtain ⟨y, hy, rfl⟩ := List.mem_map.1 hx
      exact fr_leg10 (h2 y hy)
    · rw [List.pairwise_map]
      exact dup_iff.1 h3
  have hl : LegsB l := ⟨h1, h2⟩
  refine ⟨e, ?_, ?_⟩
  · rw [marN_ok e, ← scT hl]
    exact marU_free hl 8
  · rw [marN_ok h, ← scT hl]
    exact marU_le hl 8
theorem wsL_bd {l : List Lq} (h : LegsB l) : 0 ≤ sumL wsL l ∧ sumL wsL l ≤ 1600000000000000 := sumL_16 (B := 100000000000000) h.1 (by omega) fun x hx => by
  have h2 := wst_max (M := 10000000) (legB_sh (h.2 x hx)) (legB_iff.1 (h.2 x hx)).2
  exact ⟨wst_pos _ _, h2⟩
theorem scan_leg10 {x : Lq} (h : legB x = true) : scanE x.sp.sh x.q = 0 ∧ scanN x.sp.sh x.q = wsL x := by
  have hb : scanB x.sp.sh x.q = true := scanB_iff.2 ⟨legB_sh h, by have := (legB_iff.1 h).2; omega⟩
  unfold scanE scanN
  rw [hb]
  exact ⟨rfl, rfl⟩
/-! All turned. -/
def neg10 (l : List Int) : List Int := l.map fun x => -x
def tn10 (x : Lq) : Lq := ⟨{ x.sp with sh := neg10 x.sp.sh }, -x.q, by show (neg10 x.sp.sh).length = 16; unfold neg10; rw [List.length_map]; exact x.len⟩
theorem neg_up10 (l : List Int) : someUp (neg10 l) = someDown l := by
  induction l with
  | nil => rfl
  | cons x r ih =>
    show (decide (0 < -x) || someUp (neg10 r)) = (decide (x < 0) || someDown r)
    rw [ih, show decide (0 < -x) = decide (x < 0) from decide_eq_decide.2 (by omega)]
theorem neg_down10 (l : List Int) : someDown (neg10 l) = someUp l := by
  induction l with
  | nil => rfl
  | cons x r ih =>
    show (decide (-x < 0) || someDown (neg10 r)) = (decide (0 < x) || someUp r)
    rw [ih, show decide (-x < 0) = decide (0 < x) from decide_eq_decide.2 (by omega)]
theorem neg_all10 : ∀ {l : List Int}, (neg10 l).all (fun x => amB x (-10000000) 10000000) = l.all (fun x => amB x (-10000000) 10000000) := by
  intro l
  induction l with
  | nil => rfl
  | cons x r ih =>
    show (amB (-x) (-10000000) 10000000 && (neg10 r).all _) = (amB x (-10000000) 10000000 && r.all _)
    rw [ih]
    congr 1
    unfold amB
    exact decide_eq_decide.2 (by omega)
theorem tn_may10 (s : Sp) : mayB { s with sh := neg10 s.sh } = mayB s := by
  unfold mayB headB
  dsimp only
  rw [neg_all10, neg_up10, neg_down10]
  cases s.sh.all (fun x => amB x (-10000000) 10000000) <;> cases someUp s.sh <;> cases someDown s.sh <;> simp
theorem tn_leg10 (x : Lq) : legB (tn10 x) = legB x := by
  unfold legB
  show (mayB { x.sp with sh := neg10 x.sp.sh } && amB (-x.q) (-10000000) 10000000) = _
  rw [tn_may10]
  congr 1
  unfold amB
  exact decide_eq_decide.2 (by omega)
theorem tn_in10 (r : Int) (x : Lq) : inR r (tn10 x) = inR r x := by
  unfold inR
  show (decide (x.sp.ro = r) && decide (-x.q ≠ 0)) = _
  congr 1
  exact decide_eq_decide.2 (by omega)
theorem tn_sum10 {f g : Lq → Int} (hf : ∀ x, f (tn10 x) = g x) : ∀ l : List Lq, sumL f (l.map tn10) = sumL g l
  | [] => rfl
  | x :: l => by show f (tn10 x) + sumL f (l.map tn10) = g x + sumL g l; rw [hf, tn_sum10 hf l]
theorem tn_ra10 (r : Int) : ∀ l : List Lq, raL r (l.map tn10) = raL r l
  | [] => rfl
  | x :: l => by
    show (if inR r (tn10 x) then min x.sp.cr (raL r (l.map tn10)) else raL r (l.map tn10)) = _
    rw [tn_in10, tn_ra10 r l]; rfl
theorem tn_mar10 (r : Int) (l : List Lq) : marR r (l.map tn10) = marR r l := by
  have h1 : scR r (l.map tn10) = scR r l := tn_sum10 (fun x => by
    unfold fS
    rw [tn_in10]
    show (if inR r x then wst (x.sp.sh.map fun x => -x) (-x.q) else 0) = _
    rw [wst_turn]) l
  have h2 : loR r (l.map tn10) = soR r l := tn_sum10 (fun x => by unfold fL fN; rw [tn_in10]; rfl) l
  have h3 : soR r (l.map tn10) = loR r l := tn_sum10 (fun x => by
    unfold fL fN; rw [tn_in10]
    show (if inR r x then max (- -x.q) 0 else 0) = _
    rw [Int.neg_neg]) l
  unfold marR
  rw [h1, h2, h3, tn_ra10, show min (soR r l) (loR r l) = min (loR r l) (soR r l) by omega]
theorem turned10 (l : List Lq) : marE (l.map tn10) = marE l ∧ marN (l.map tn10) = marN l := by
  have e : marE (l.map tn10) = marE l := by
    unfold marE
    rw [List.length_map]
    have e1 : (l.map tn10).all legB = l.all legB := by
      induction l with
      | nil => rfl
      | cons x r ih => rw [List.map_cons, List.all_cons, List.all_cons, ih, tn_leg10]
    have e2 : dupQ (l.map tn10) = dupQ l := by
      unfold dupQ
      refine decide_eq_decide.2 (not_congr ?_)
      rw [List.pairwise_map]
      exact Iff.rfl
    rw [e1, e2]
  refine ⟨e, ?_⟩
  unfold marN
  rw [e]
  split
  · exact marU_congr (fun r => tn_mar10 r l) 8
  · rfl
end Go.Proofs.Ytcpcnjiphiokjaa
