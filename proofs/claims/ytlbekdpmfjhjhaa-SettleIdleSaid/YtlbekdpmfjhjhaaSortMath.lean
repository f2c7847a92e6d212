/- Plain arithmetic on rows of numbers, no program: why a stable sort by insertion and by symmetric merges orders a row by key downwards, and by the number upwards where keys are alike. -/
import Derived.Lib.Hide
namespace Go.Proofs.Ytlbekdpmfjhjhaa
namespace St
variable {key : Int → Int}

/-- Ahead: of the greater key; of two alike the smaller number. -/
def lt (key : Int → Int) (x y : Int) : Prop := key y < key x ∨ (key x = key y ∧ x < y)
theorem lt_trans {x y z : Int} (h : lt key x y) (k : lt key y z) : lt key x z := by unfold lt at *; omega
theorem lt_chain {x y z t : Int} (h : x = y ∨ lt key x y) (k : lt key y z) (l : z = t ∨ lt key z t) : lt key x t := by unfold lt at *; rcases h with rfl | h <;> rcases l with rfl | l <;> omega

/-- In order from a to b; what stands there; two rows of which the one's numbers are below the other's; a row of which a part was put in order. -/
def So (key : Int → Int) (f : Nat → Int) (a b : Nat) : Prop := ∀ p q, a ≤ p → p < q → q < b → lt key (f p) (f q)
def Im (f : Nat → Int) (a b : Nat) (v : Int) : Prop := ∃ k, a ≤ k ∧ k < b ∧ f k = v
def Cr (f : Nat → Int) (a m b : Nat) : Prop := ∀ p q, a ≤ p → p < m → m ≤ q → q < b → f p < f q
def Mg (key : Int → Int) (f h : Nat → Int) (a b : Nat) : Prop := (∀ k, k < a ∨ b ≤ k → h k = f k) ∧ (∀ v, Im h a b v ↔ Im f a b v) ∧ So key h a b

theorem lt_yes {x y : Int} (k : key x < key y) : lt key y x := Or.inl k
theorem lt_no {x y : Int} (h : x < y) (k : ¬ key x < key y) : lt key x y := by unfold lt; omega
theorem So.le {f : Nat → Int} {a b p q : Nat} (h : So key f a b) (hp : a ≤ p) (hpq : p ≤ q) (hq : q < b) : f p = f q ∨ lt key (f p) (f q) := by
  rcases Nat.eq_or_lt_of_le hpq with e | l
  · exact .inl (by rw [e])
  · exact .inr (h p q hp l hq)
theorem So.join {h : Nat → Int} {a m b : Nat} (h1 : So key h a m) (h2 : So key h m b) (j : a < m → m < b → lt key (h (m - 1)) (h m)) : So key h a b := by
  intro p q hp hpq hq
  by_cases c1 : q < m
  · exact h1 p q hp hpq c1
  · by_cases c2 : m ≤ p
    · exact h2 p q c2 hpq hq
    · exact lt_chain (h1.le hp (by omega) (by omega)) (j (by omega) (by omega)) (h2.le (Nat.le_refl _) (by omega) hq)
theorem So.part {f : Nat → Int} {a b c d : Nat} (h : So key f a b) (hc : a ≤ c) (hd : d ≤ b) : So key f c d := fun p q hp hpq hq => h p q (by omega) hpq (by omega)
theorem So.like {f g : Nat → Int} {a b : Nat} (h : So key f a b) (e : ∀ k, a ≤ k → k < b → g k = f k) : So key g a b := fun p q hp hpq hq => by
  rw [e p hp (by omega), e q (by omega) hq]; exact h p q hp hpq hq
theorem So.one (f : Nat → Int) {a b : Nat} (h : b ≤ a + 1) : So key f a b := fun p q hp hpq hq => by omega
theorem Im.like {f g : Nat → Int} {a b : Nat} {v : Int} (e : ∀ k, a ≤ k → k < b → g k = f k) : Im g a b v ↔ Im f a b v :=
  ⟨fun ⟨k, h1, h2, h3⟩ => ⟨k, h1, h2, by rw [← e k h1 h2]; exact h3⟩, fun ⟨k, h1, h2, h3⟩ => ⟨k, h1, h2, by rw [e k h1 h2]; exact h3⟩⟩
theorem Im.split {f : Nat → Int} {a m b : Nat} {v : Int} (h1 : a ≤ m) (h2 : m ≤ b) : Im f a b v ↔ Im f a m v ∨ Im f m b v :=
  ⟨fun ⟨k, l1, l2, l3⟩ => if h : k < m then .inl ⟨k, l1, h, l3⟩ else .inr ⟨k, by omega, l2, l3⟩,
   fun h => by
    rcases h with ⟨k, l1, l2, l3⟩ | ⟨k, l1, l2, l3⟩
    · exact ⟨k, l1, by omega, l3⟩
    · exact ⟨k, by omega, l2, l3⟩⟩
theorem Mg.self {f : Nat → Int} {a b : Nat} (h : So key f a b) : Mg key f f a b := ⟨fun _ _ => rfl, fun _ => Iff.rfl, h⟩

/-- The two parts from a to m and from m to b change places. -/
def rot (a m b : Nat) (f : Nat → Int) : Nat → Int := fun k => if a ≤ k ∧ k < b then (if k < a + (b - m) then f (k + (m - a)) else f (k - (b - m))) else f k
/-- n places from a on change with as many from b on. -/
def swr (a b n : Nat) (f : Nat → Int) : Nat → Int := fun k => if a ≤ k ∧ k < a + n then f (k - a + b) else if b ≤ k ∧ k < b + n then f (k - b + a) else f k

theorem rot_left {a m b k : Nat} {f : Nat → Int} (h : a ≤ k) (h' : k < a + (b - m)) (hm : a ≤ m) (hb : m ≤ b) : rot a m b f k = f (k + (m - a)) := by
  unfold rot; rw [if_pos ⟨h, by omega⟩, if_pos h']
theorem rot_right {a m b k : Nat} {f : Nat → Int} (h : a + (b - m) ≤ k) (h' : k < b) : rot a m b f k = f (k - (b - m)) := by
  unfold rot; rw [if_pos ⟨by omega, h'⟩, if_neg (by omega)]
theorem rot_out {a m b k : Nat} {f : Nat → Int} (h : k < a ∨ b ≤ k) : rot a m b f k = f k := by unfold rot; rw [if_neg (by omega)]
theorem rot_none1 (a b : Nat) (f : Nat → Int) (h : a ≤ b) : rot a a b f = f := by
  funext k
  by_cases h1 : a ≤ k ∧ k < b
  · rw [rot_left h1.1 (by omega) (Nat.le_refl _) h]; congr 1; omega
  · exact rot_out (by omega)
theorem rot_none2 (a b : Nat) (f : Nat → Int) : rot a b b f = f := by
  funext k
  by_cases h1 : a ≤ k ∧ k < b
  · rw [rot_right (by omega) h1.2]; congr 1; omega
  · exact rot_out (by omega)
/-- A rotation by exchanges of ranges: the shorter part goes to its place. -/
theorem rot_more {m i j : Nat} (f : Nat → Int) (hi : i ≤ m) (h : j < i) : rot (m - (i - j)) m (m + j) (swr (m - i) m j f) = rot (m - i) m (m + j) f := by
  funext k
  unfold rot swr
  by_cases h1 : m - i ≤ k ∧ k < m + j
  · rw [if_pos h1]
    by_cases h2 : k < m - i + (m + j - m)
    · rw [if_pos h2, if_neg (by omega), if_pos (by omega)]; congr 1; omega
    · rw [if_neg h2, if_pos (by omega)]
      by_cases h3 : k < m - (i - j) + (m + j - m)
      · rw [if_pos h3]
        by_cases h4 : k + (m - (m - (i - j))) < m
        · omega
        · rw [if_neg (by omega), if_pos (by omega)]; congr 1; omega
      · rw [if_neg h3, if_neg (by omega), if_neg (by omega)]
  · rw [if_neg h1, if_neg (by omega), if_neg (by omega), if_neg (by omega)]
theorem rot_less {m i j : Nat} (f : Nat → Int) (hi : i ≤ m) (h : i < j) : rot (m - i) m (m + (j - i)) (swr (m - i) (m + j - i) i f) = rot (m - i) m (m + j) f := by
  funext k
  unfold rot swr
  by_cases h1 : m - i ≤ k ∧ k < m + j
  · rw [if_pos h1]
    by_cases h2 : k < m - i + (m + j - m)
    · rw [if_pos h2]
      by_cases h3 : k < m + (j - i)
      · rw [if_pos ⟨h1.1, h3⟩]
        by_cases h4 : k < m - i + (m + (j - i) - m)
        · rw [if_pos h4, if_neg (by omega), if_neg (by omega)]
        · rw [if_neg h4, if_pos (by omega)]; congr 1; omega
      · omega
    · rw [if_neg h2]
      by_cases h3 : k < m + (j - i)
      · omega
      · rw [if_neg (by omega), if_neg (by omega), if_pos (by omega)]; congr 1; omega
  · rw [if_neg h1, if_neg (by omega), if_neg (by omega), if_neg (by omega)]
theorem rot_same {m i : Nat} (f : Nat → Int) (hi : i ≤ m) : swr (m - i) m i f = rot (m - i) m (m + i) f := by
  funext k
  unfold rot swr
  by_cases h1 : m - i ≤ k ∧ k < m + i
  · rw [if_pos h1]
    by_cases h2 : k < m
    · rw [if_pos (by omega), if_pos (by omega)]; congr 1; omega
    · rw [if_neg (by omega), if_pos (by omega), if_neg (by omega)]; congr 1; omega
  · rw [if_neg h1, if_neg (by omega), if_neg (by omega)]

/-- Parts of a rotated row. -/
theorem so_rot2 {f : Nat → Int} {s m e : Nat} (h : So key f m e) (h1 : s ≤ m) (h2 : m ≤ e) : So key (rot s m e f) s (s + (e - m)) := fun p q hp hpq hq => by
  rw [rot_left hp (by omega) h1 h2, rot_left (by omega) hq h1 h2]; exact h _ _ (by omega) (by omega) (by omega)
theorem so_rot3 {f : Nat → Int} {s m e : Nat} (h : So key f s m) (h2 : m ≤ e) : So key (rot s m e f) (s + (e - m)) e := fun p q hp hpq hq => by
  rw [rot_right hp (by omega), rot_right (by omega) hq]; exact h _ _ (by omega) (by omega) (by omega)
theorem im_rot2 {f : Nat → Int} {s m e : Nat} {v : Int} (h1 : s ≤ m) (h2 : m ≤ e) : Im (rot s m e f) s (s + (e - m)) v ↔ Im f m e v :=
  ⟨fun ⟨k, l1, l2, l3⟩ => ⟨k + (m - s), by omega, by omega, by rw [← l3, rot_left l1 l2 h1 h2]⟩,
   fun ⟨k, l1, l2, l3⟩ => ⟨k - (m - s), by omega, by omega, by rw [← l3, rot_left (by omega) (by omega) h1 h2]; congr 1; omega⟩⟩
theorem im_rot3 {f : Nat → Int} {s m e : Nat} {v : Int} (h2 : m ≤ e) : Im (rot s m e f) (s + (e - m)) e v ↔ Im f s m v :=
  ⟨fun ⟨k, l1, l2, l3⟩ => ⟨k - (e - m), by omega, by omega, by rw [← l3, rot_right l1 l2]⟩,
   fun ⟨k, l1, l2, l3⟩ => ⟨k + (e - m), by omega, by omega, by rw [← l3, rot_right (by omega) (by omega)]; congr 1; omega⟩⟩

/-- What a rotation leaves on the left stands ahead of what it leaves on the right. -/
theorem cross {f : Nat → Int} {a s m e b : Nat} (h1 : a ≤ s) (h2 : s ≤ m) (h3 : m ≤ e) (h4 : e ≤ b)
    (H1 : a < s → e < b → lt key (f (s - 1)) (f e)) (H2 : m < e → s < m → lt key (f (e - 1)) (f s)) (S1 : So key f a m) (S2 : So key f m b)
    {x y : Int} (hx : Im (rot s m e f) a (s + (e - m)) x) (hy : Im (rot s m e f) (s + (e - m)) b y) : lt key x y := by
  rw [Im.split (m := s) h1 (by omega), im_rot2 h2 h3, Im.like (f := f) (fun k _ h => rot_out (.inl h))] at hx
  rw [Im.split (m := e) (by omega) h4, im_rot3 h3, Im.like (f := f) (a := e) (fun k h _ => rot_out (.inr h))] at hy
  rcases hx with ⟨p, p1, p2, rfl⟩ | ⟨p, p1, p2, rfl⟩ <;> rcases hy with ⟨q, q1, q2, rfl⟩ | ⟨q, q1, q2, rfl⟩
  · exact S1 p q p1 (by omega) q2
  · exact lt_chain (S1.le p1 (by omega) (by omega)) (H1 (by omega) (by omega)) (S2.le h3 q1 q2)
  · exact lt_chain (S2.le p1 (by omega) (by omega)) (H2 (by omega) (by omega)) (S1.le h1 q1 q2)
  · exact S2 p q p1 (by omega) q2

/-- One step of a symmetric merge: a rotation, then each half for itself. -/
theorem merged {f g h : Nat → Int} {a s m e b : Nat} (h1 : a ≤ s) (h2 : s ≤ m) (h3 : m ≤ e) (h4 : e ≤ b)
    (H1 : a < s → e < b → lt key (f (s - 1)) (f e)) (H2 : m < e → s < m → lt key (f (e - 1)) (f s)) (S1 : So key f a m) (S2 : So key f m b)
    (L : Mg key (rot s m e f) g a (s + (e - m))) (R : Mg key g h (s + (e - m)) b) : Mg key f h a b := by
  have X := fun x y => cross h1 h2 h3 h4 H1 H2 S1 S2 (x := x) (y := y)
  have i1 : ∀ v, Im h a (s + (e - m)) v ↔ Im (rot s m e f) a (s + (e - m)) v := fun v =>
    (Im.like (fun k _ k2 => R.1 k (.inl k2))).trans (L.2.1 v)
  have i2 : ∀ v, Im h (s + (e - m)) b v ↔ Im (rot s m e f) (s + (e - m)) b v := fun v =>
    (R.2.1 v).trans (Im.like fun k k1 _ => L.1 k (.inr k1))
  refine ⟨fun k hk => ?_, fun v => ?_, ?_⟩
  · rw [R.1 k (by omega), L.1 k (by omega), rot_out (by omega)]
  · have e1 : Im f a b v ↔ (Im f a s v ∨ Im f s m v) ∨ (Im f m e v ∨ Im f e b v) :=
      (Im.split (by omega) (by omega)).trans (or_congr (Im.split h1 h2) (Im.split h3 h4))
    have e2 : Im (rot s m e f) a (s + (e - m)) v ↔ Im f a s v ∨ Im f m e v :=
      (Im.split h1 (by omega)).trans (or_congr (Im.like fun k _ h => rot_out (.inl h)) (im_rot2 h2 h3))
    have e3 : Im (rot s m e f) (s + (e - m)) b v ↔ Im f s m v ∨ Im f e b v :=
      (Im.split (by omega) h4).trans (or_congr (im_rot3 h3) (Im.like fun k h _ => rot_out (.inr h)))
    rw [Im.split (f := h) (m := s + (e - m)) (by omega) (by omega), i1, i2, e1, e2, e3]
    constructor
    · rintro ((h | h) | (h | h)) <;> simp [h]
    · rintro ((h | h) | (h | h)) <;> simp [h]
  · have l : So key h a (s + (e - m)) := L.2.2.like fun k _ k2 => R.1 k (.inl k2)
    exact l.join R.2.2 fun ha hb => X _ _ ((i1 _).1 ⟨_, by omega, by omega, rfl⟩) ((i2 _).1 ⟨_, by omega, by omega, rfl⟩)

/-- One element from the left goes to its place. -/
theorem first_in {f : Nat → Int} {a i b : Nat} (h1 : a + 1 ≤ i) (h2 : i ≤ b) (H1 : i < b → lt key (f a) (f i)) (H2 : a + 1 < i → lt key (f (i - 1)) (f a)) (S : So key f (a + 1) b) :
    Mg key f (rot a (a + 1) i f) a b := by
  refine merged (s := a) (m := a + 1) (e := i) (Nat.le_refl _) (by omega) h1 h2 (fun h => by omega) (fun h _ => H2 h) (So.one f (by omega)) S (Mg.self ?_) (Mg.self ?_)
  · exact so_rot2 (S.part (Nat.le_refl _) h2) (by omega) h1
  · refine So.join (m := i) (so_rot3 (So.one f (by omega)) h1) ((S.part h1 (Nat.le_refl _)).like fun k k1 _ => rot_out (.inr k1)) fun ha hb => ?_
    rw [rot_right (by omega) (by omega), rot_out (.inr (Nat.le_refl _))]
    have := H1 hb
    rwa [show i - 1 - (i - (a + 1)) = a by omega]
/-- One element from the right goes to its place. -/
theorem last_in {f : Nat → Int} {a i m : Nat} (h1 : a ≤ i) (h2 : i ≤ m) (H1 : a < i → lt key (f (i - 1)) (f m)) (H2 : i < m → lt key (f m) (f i)) (S : So key f a m) :
    Mg key f (rot i m (m + 1) f) a (m + 1) := by
  refine merged (s := i) (m := m) (e := m + 1) h1 h2 (by omega) (Nat.le_refl _) (fun _ h => by omega) (fun _ h => ?_) S (So.one f (by omega)) (Mg.self ?_) (Mg.self ?_)
  · rw [show m + 1 - 1 = m by omega]; exact H2 h
  · refine So.join (m := i) ((S.part (Nat.le_refl _) h2).like fun k _ k2 => rot_out (.inl k2)) (so_rot2 (So.one f (by omega)) h2 (by omega)) fun ha hb => ?_
    rw [rot_out (.inl (by omega)), rot_left (Nat.le_refl _) (by omega) h2 (by omega)]
    have := H1 ha
    rwa [show i + (m - i) = m by omega]
  · exact so_rot3 (S.part h1 (Nat.le_refl _)) (by omega)

/-- An exchange of two places. -/
def sw (i j : Nat) (f : Nat → Int) : Nat → Int := fun k => if k = j then f i else if k = i then f j else f k
theorem sw_down {f : Nat → Int} {k m : Nat} (h : k + 1 ≤ m) : sw (k + 1) k (rot (k + 1) m (m + 1) f) = rot k m (m + 1) f := by
  funext t
  unfold sw rot
  by_cases h1 : t = k
  · subst h1
    rw [if_pos rfl, if_pos (by omega), if_pos (by omega), if_pos (by omega), if_pos (by omega)]; congr 1; omega
  · rw [if_neg h1]
    by_cases h2 : t = k + 1
    · subst h2
      rw [if_pos rfl, if_neg (by omega), if_pos (by omega), if_neg (by omega)]; congr 1; omega
    · rw [if_neg h2]
      by_cases h3 : k + 1 ≤ t ∧ t < m + 1
      · rw [if_pos h3, if_neg (by omega), if_pos (by omega), if_neg (by omega)]
      · rw [if_neg h3, if_neg (by omega)]
theorem sw_up {f : Nat → Int} {a k : Nat} (h : a ≤ k) : sw k (k + 1) (rot a (a + 1) (k + 1) f) = rot a (a + 1) (k + 2) f := by
  funext t
  unfold sw rot
  by_cases h1 : t = k + 1
  · subst h1
    rw [if_pos rfl, if_pos (by omega), if_neg (by omega), if_pos (by omega), if_neg (by omega)]; congr 1; omega
  · rw [if_neg h1]
    by_cases h2 : t = k
    · subst h2
      rw [if_pos rfl, if_neg (by omega), if_pos (by omega), if_pos (by omega)]; congr 1; omega
    · rw [if_neg h2]
      by_cases h3 : a ≤ t ∧ t < k + 1
      · rw [if_pos h3, if_pos (by omega), if_pos (by omega), if_pos (by omega)]
      · rw [if_neg h3, if_neg (by omega)]
theorem sw_range {f : Nat → Int} {a b i : Nat} (h : a + i < b) : sw (a + i) (b + i) (swr a b i f) = swr a b (i + 1) f := by
  funext t
  unfold sw swr
  by_cases h1 : t = b + i
  · subst h1
    rw [if_pos rfl, if_neg (by omega), if_neg (by omega), if_neg (by omega), if_pos (by omega)]; congr 1; omega
  · rw [if_neg h1]
    by_cases h2 : t = a + i
    · subst h2
      rw [if_pos rfl, if_neg (by omega), if_neg (by omega), if_pos (by omega)]; congr 1; omega
    · rw [if_neg h2]
      by_cases h3 : a ≤ t ∧ t < a + i
      · rw [if_pos h3, if_pos (by omega)]
      · rw [if_neg h3]
        by_cases h4 : b ≤ t ∧ t < b + i
        · rw [if_pos h4, if_neg (by omega), if_pos (by omega)]
        · rw [if_neg h4, if_neg (by omega), if_neg (by omega)]
theorem swr_none (a b : Nat) (f : Nat → Int) : swr a b 0 f = f := by
  funext t
  unfold swr
  rw [if_neg (by omega), if_neg (by omega)]

/-- A run that holds its own numbers, in order; all of a row in runs; the runs that are done. -/
def Rn (key : Int → Int) (f : Nat → Int) (s e : Nat) : Prop := So key f s e ∧ ∀ v, Im f s e v ↔ (s : Int) ≤ v ∧ v < e
theorem Rn.like {f g : Nat → Int} {s e : Nat} (h : Rn key f s e) (k : ∀ t, s ≤ t → t < e → g t = f t) : Rn key g s e := ⟨h.1.like k, fun v => (Im.like k).trans (h.2 v)⟩
theorem Rn.cr {f : Nat → Int} {s m e : Nat} (h : Rn key f s m) (k : Rn key f m e) : Cr f s m e := fun p q h1 h2 h3 h4 => by
  have := (h.2 (f p)).1 ⟨p, h1, h2, rfl⟩
  have := (k.2 (f q)).1 ⟨q, h3, h4, rfl⟩
  omega
theorem Rn.merged {f g : Nat → Int} {s m e : Nat} (h : Rn key f s m) (k : Rn key f m e) (h1 : s ≤ m) (h2 : m ≤ e) (M : Mg key f g s e) : Rn key g s e :=
  ⟨M.2.2, fun v => by rw [M.2.1 v, Im.split h1 h2, h.2 v, k.2 v]; omega⟩
theorem Rn.ins {f g : Nat → Int} {s e : Nat} (h : ∀ t, s ≤ t → t < e → f t = t) (M : Mg key f g s e) : Rn key g s e :=
  ⟨M.2.2, fun v => by
    rw [M.2.1 v]
    constructor
    · rintro ⟨k, h1, h2, rfl⟩
      rw [h k h1 h2]; omega
    · intro hv
      exact ⟨v.toNat, by omega, by omega, by rw [h _ (by omega) (by omega)]; omega⟩⟩
/-- From s on to n in runs of bs, at most c of them. -/
def Rs (key : Int → Int) (f : Nat → Int) (bs n : Nat) : Nat → Nat → Prop
  | 0, s => n ≤ s
  | c + 1, s => n ≤ s ∨ (Rn key f s (min (s + bs) n) ∧ Rs key f bs n c (s + bs))
/-- The first c runs of bs. -/
def Rp (key : Int → Int) (f : Nat → Int) (bs : Nat) (c : Nat) : Prop := ∀ k, k < c → Rn key f (k * bs) (k * bs + bs)
theorem Rs.like {f g : Nat → Int} {bs n : Nat} : ∀ {c s : Nat}, Rs key f bs n c s → (∀ t, s ≤ t → g t = f t) → Rs key g bs n c s
  | 0, _, h, _ => h
  | c + 1, s, h, k => by
    rcases h with h | ⟨h1, h2⟩
    · exact .inl h
    · exact .inr ⟨h1.like fun t t1 _ => k t t1, h2.like fun t t1 => k t (by omega)⟩
theorem Rs.more {f : Nat → Int} {bs n : Nat} : ∀ {c s : Nat}, Rs key f bs n c s → Rs key f bs n (c + 1) s
  | 0, _, h => .inl h
  | _ + 1, _, h => by
    rcases h with h | ⟨h1, h2⟩
    · exact .inl h
    · exact .inr ⟨h1, h2.more⟩
theorem Rp.like {f g : Nat → Int} {bs c : Nat} (h : Rp key f bs c) (k : ∀ t, t < c * bs → g t = f t) : Rp key g bs c := fun i hi =>
  (h i hi).like fun t _ t2 => k t (by
    have := Nat.mul_le_mul_right bs (show i + 1 ≤ c by omega)
    rw [Nat.add_mul] at this
    omega)
theorem Rp.snoc {f : Nat → Int} {bs c : Nat} (h : Rp key f bs c) (k : Rn key f (c * bs) (c * bs + bs)) : Rp key f bs (c + 1) := fun i hi => by
  rcases Nat.lt_succ_iff_lt_or_eq.1 hi with h1 | rfl
  · exact h i h1
  · exact k
/-- The runs that are done, and what is behind them, are all. -/
theorem Rp.all {f : Nat → Int} {bs n d : Nat} : ∀ {c : Nat}, Rp key f bs c → Rs key f bs n d (c * bs) → c * bs ≤ n → Rs key f bs n (d + c) 0
  | 0, _, h, _ => by rw [Nat.zero_mul] at h; exact h
  | c + 1, h, k, hn => by
    have e : (c + 1) * bs = c * bs + bs := by rw [Nat.add_mul, Nat.one_mul]
    have k' : Rs key f bs n (d + 1) (c * bs) := .inr ⟨by rw [Nat.min_eq_left (by omega)]; exact h c (Nat.lt_succ_self c), by rw [← e]; exact k⟩
    have := Rp.all (d := d + 1) (fun i hi => h i (Nat.lt_succ_of_lt hi)) k' (by omega)
    rwa [show d + (c + 1) = d + 1 + c by omega]
/-- The runs that a rotation leaves, on the left and on the right. -/
theorem so_rot1 {f : Nat → Int} {a s m e : Nat} (h : So key f a m) (h2 : s ≤ m) : So key (rot s m e f) a s := (h.part (Nat.le_refl _) h2).like fun _ _ k => rot_out (.inl k)
theorem so_rot4 {f : Nat → Int} {s m e b : Nat} (h : So key f m b) (h2 : m ≤ e) : So key (rot s m e f) e b := (h.part h2 (Nat.le_refl _)).like fun _ k _ => rot_out (.inr k)
theorem cr_left {f : Nat → Int} {a s m e b : Nat} (h : Cr f a m b) (h2 : s ≤ m) (h3 : m ≤ e) (h4 : e ≤ b) : Cr (rot s m e f) a s (s + (e - m)) := fun p q hp hp' hq hq' => by
  rw [rot_out (.inl hp'), rot_left hq hq' h2 h3]
  exact h _ _ hp (by omega) (by omega) (by omega)
theorem cr_right {f : Nat → Int} {a s m e b : Nat} (h : Cr f a m b) (h1 : a ≤ s) (h3 : m ≤ e) : Cr (rot s m e f) (s + (e - m)) e b := fun p q hp hp' hq hq' => by
  rw [rot_out (.inr hq), rot_right hp hp']
  exact h _ _ (by omega) (by omega) (by omega) hq'
theorem Cr.like {f g : Nat → Int} {a m b : Nat} (h : Cr f a m b) (e : ∀ k, a ≤ k → k < b → g k = f k) : Cr g a m b := fun p q hp hp' hq hq' => by
  rw [e p hp (by omega), e q (by omega) hq']
  exact h p q hp hp' hq hq'
theorem Mg.none {f : Nat → Int} {a s b : Nat} (h1 : So key f a s) (h2 : So key f s b) (l1 : a ≤ s) (l2 : s ≤ b) (h : ¬ (a < s ∧ s < b)) : Mg key f f a b := by
  refine Mg.self ?_
  rcases Nat.eq_or_lt_of_le l1 with rfl | h3
  · exact h2
  · have : s = b := by omega
    subst this
    exact h1
end St
end Go.Proofs.Ytlbekdpmfjhjhaa
