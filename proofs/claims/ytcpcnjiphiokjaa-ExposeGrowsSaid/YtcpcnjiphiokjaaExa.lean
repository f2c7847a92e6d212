/- PURE: stakes, as 29 cells; what they need; no program's function. -/
import Derived.Test.YtcpcnjiphiokjaaTm
import Derived.Test.YtcpcnjiphiokjaaSb
namespace Go.Proofs.Ytcpcnjiphiokjaa
open Go.RowKit
set_option linter.unusedVariables false
set_option linter.unusedSimpArgs false

/-- A stake. -/
structure Sk where
  lg : Lq
  ba : Int
  pr : Int
  A : Option Addr
  n : Nat
  c : Nat
  os : List Or
structure Sk.ok (x : Sk) : Prop where
  lg : x.lg.ok
  ba : I64 x.ba
  pr : I64 x.pr
  os : ∀ o, o ∈ x.os → o.ok
  hn : x.n ≤ maxLen
  h0 : x.A = none → x.c = 0
  hc : x.n ≤ x.c
def Sk.cells (x : Sk) : List Value := EL.cells x.lg ++ [.int .i64 x.ba, .int .i64 x.pr, .slice x.A x.n x.c]
/-- Stakes are structs of 29 cells. -/
def EK : Elt Sk := ⟨Sk.cells, 29, by decide, fun x => by rw [Sk.cells, List.length_append, EL.len x.lg]; rfl, fun x u hu => by
  rcases List.mem_append.1 hu with h | h
  · exact EL.one _ u h
  · simp only [List.mem_cons, List.not_mem_nil, or_false] at h
    rcases h with rfl | rfl | rfl <;> rfl⟩
def zeroSk : Sk := ⟨zeroLq, 0, 0, none, 0, 0, []⟩
theorem TK : EltT Try.prog EK 22 33 := ⟨Try.underlying22, ⟨_, Try.underlying33⟩, ⟨.agg (EK.cells zeroSk).toArray, 240, by kernel_rfl, rfl, by decide⟩⟩
/-- Its orders lie in memory. -/
def Sk.In (w : World) (x : Sk) : Prop := EO.Rd w x.A x.n x.os
theorem sk_lg {x : Sk} {i : Nat} (hi : i < 26) : (EK.cells x)[i]? = (EL.cells x.lg)[i]? := by
  show (EL.cells x.lg ++ _)[i]? = _
  rw [List.getElem?_append_left (by rw [EL.len x.lg]; exact hi)]
theorem sk_more (x : Sk) (i : Nat) : (EK.cells x)[26 + i]? = [Value.int .i64 x.ba, .int .i64 x.pr, .slice x.A x.n x.c][i]? := by
  show (EL.cells x.lg ++ _)[26 + i]? = _
  have e : (EL.cells x.lg).length = 26 := EL.len x.lg
  rw [List.getElem?_append_right (by rw [e]; omega), e, show 26 + i - 26 = i by omega]
theorem sk_ba (x : Sk) : (EK.cells x)[26]? = some (.int .i64 x.ba) := sk_more x 0
theorem sk_pr (x : Sk) : (EK.cells x)[27]? = some (.int .i64 x.pr) := sk_more x 1
theorem sk_os (x : Sk) : (EK.cells x)[28]? = some (.slice x.A x.n x.c) := sk_more x 2

/-- What they need. -/
structure Nd where
  m : Int
  w : Int
  u : Int
def EN : Elt Nd := ⟨fun x => [.int .i64 x.m, .int .i64 x.w, .int .i64 x.u], 3, by decide, fun _ => rfl, fun x u hu => by
  simp only [List.mem_cons, List.not_mem_nil, or_false] at hu
  rcases hu with rfl | rfl | rfl <;> rfl⟩
def zeroNd : Nd := ⟨0, 0, 0⟩

/-- Sums over orders. -/
def sumO (f : Or → Int) : List Or → Int
  | [] => 0
  | x :: r => f x + sumO f r
theorem sumO_app (f : Or → Int) : ∀ l r : List Or, sumO f (l ++ r) = sumO f l + sumO f r
  | [], r => by show sumO f r = 0 + sumO f r; omega
  | x :: l, r => by show f x + sumO f (l ++ r) = f x + sumO f l + sumO f r; rw [sumO_app f l r]; omega
theorem sumO_one (f : Or → Int) (x : Or) : sumO f [x] = f x := by show f x + 0 = f x; omega
theorem sumO_snoc (f : Or → Int) (l : List Or) (x : Or) : sumO f (l ++ [x]) = sumO f l + f x := by rw [sumO_app, sumO_one]
theorem sumO_add (f g : Or → Int) : ∀ l : List Or, sumO (fun x => f x + g x) l = sumO f l + sumO g l
  | [] => rfl
  | x :: l => by
    show (f x + g x) + sumO _ l = (f x + sumO f l) + (g x + sumO g l)
    rw [sumO_add f g l]; omega
theorem sumO_bd {f : Or → Int} {B : Int} : ∀ {l : List Or}, (∀ x, x ∈ l → 0 ≤ f x ∧ f x ≤ B) → 0 ≤ sumO f l ∧ sumO f l ≤ l.length * B
  | [], _ => by unfold sumO; simp
  | x :: r, h => by
    have h1 := h x (List.mem_cons_self ..)
    have h2 := sumO_bd (f := f) (B := B) (l := r) fun y hy => h y (List.mem_cons_of_mem _ hy)
    have e : ((x :: r).length : Int) * B = r.length * B + B := by
      rw [List.length_cons]
      push_cast
      rw [Int.add_mul]; omega
    rw [e]
    show 0 ≤ f x + sumO f r ∧ f x + sumO f r ≤ _
    omega
theorem sumO_250 {f : Or → Int} {B : Int} {l : List Or} (hl : l.length ≤ 250) (hB : 0 ≤ B) (h : ∀ x, x ∈ l → 0 ≤ f x ∧ f x ≤ B) : 0 ≤ sumO f l ∧ sumO f l ≤ 250 * B := by
  have h1 := sumO_bd h
  have h2 : (l.length : Int) * B ≤ 250 * B := Int.mul_le_mul_of_nonneg_right (by omega) hB
  omega
theorem sumO_le {f g : Or → Int} : ∀ {l : List Or}, (∀ x, x ∈ l → f x ≤ g x) → sumO f l ≤ sumO g l
  | [], _ => Int.le_refl _
  | x :: r, h => by
    have h1 := h x (List.mem_cons_self ..)
    have h2 := sumO_le (f := f) (g := g) (l := r) fun y hy => h y (List.mem_cons_of_mem _ hy)
    show f x + sumO f r ≤ g x + sumO g r
    omega
/-- What is left to buy, to sell; how much worse a price is. -/
def buK (o : Or) : Int := if o.bu then o.le else 0
def seK (o : Or) : Int := if o.bu then 0 else o.le
def wrK (p : Int) (o : Or) : Int := if o.bu then max (o.pr - p) 0 else max (p - o.pr) 0
def ovK (p : Int) (o : Or) : Int := wrK p o * o.le
theorem mayO_iff {o : Or} : mayO o = true ↔ 0 < o.nu ∧ 0 < o.ac ∧ (0 < o.pr ∧ o.pr ≤ 10000000) ∧ 0 < o.le ∧ o.le ≤ 1000000 := by
  unfold mayO
  simp only [Bool.and_eq_true, decide_eq_true_eq]
  exact ⟨fun ⟨⟨⟨⟨⟨a, b⟩, c⟩, d⟩, e⟩, f⟩ => ⟨a, b, ⟨c, d⟩, e, f⟩, fun ⟨a, b, ⟨c, d⟩, e, f⟩ => ⟨⟨⟨⟨⟨a, b⟩, c⟩, d⟩, e⟩, f⟩⟩
theorem buK_bd {o : Or} (h : mayO o = true) : 0 ≤ buK o ∧ buK o ≤ 1000000 := by
  have := mayO_iff.1 h
  unfold buK
  split <;> omega
theorem seK_bd {o : Or} (h : mayO o = true) : 0 ≤ seK o ∧ seK o ≤ 1000000 := by
  have := mayO_iff.1 h
  unfold seK
  split <;> omega
theorem bsK_bd {o : Or} (h : mayO o = true) : 0 ≤ buK o + seK o ∧ buK o + seK o ≤ 1000000 := by
  have := mayO_iff.1 h
  unfold buK seK
  split <;> omega
theorem wrK_bd {o : Or} {p : Int} (h : mayO o = true) (hp : 1 ≤ p ∧ p ≤ 10000000) : 0 ≤ wrK p o ∧ wrK p o ≤ 10000000 := by
  have := mayO_iff.1 h
  unfold wrK
  split <;> omega
theorem ovK_bd {o : Or} {p : Int} (h : mayO o = true) (hp : 1 ≤ p ∧ p ≤ 10000000) : 0 ≤ ovK p o ∧ ovK p o ≤ 10000000000000 := by
  have h1 := wrK_bd h hp
  have h2 := mayO_iff.1 h
  have h3 := mulb (a := wrK p o) (A := 10000000) (b := o.le) (B := 1000000) (by omega) (by omega)
  have h4 : 0 ≤ wrK p o * o.le := Int.mul_nonneg h1.1 (by omega)
  unfold ovK
  omega
/-- A stake may be. -/
def stkB (x : Sk) : Bool := priceB x.lg.sp x.pr && amB x.lg.q (-10000000) 10000000 && amB x.ba (-1000000000000000) 1000000000000000 && decide (x.os.length ≤ 250) && x.os.all mayO
theorem stkB_iff {x : Sk} : stkB x = true ↔ priceB x.lg.sp x.pr = true ∧ (-10000000 ≤ x.lg.q ∧ x.lg.q ≤ 10000000) ∧ (-1000000000000000 ≤ x.ba ∧ x.ba ≤ 1000000000000000) ∧ x.os.length ≤ 250 ∧ ∀ o, o ∈ x.os → mayO o = true := by
  unfold stkB
  simp only [Bool.and_eq_true, amB_iff, decide_eq_true_eq, List.all_eq_true]
  exact ⟨fun ⟨⟨⟨⟨a, b⟩, c⟩, d⟩, e⟩ => ⟨a, b, c, d, e⟩, fun ⟨a, b, c, d, e⟩ => ⟨⟨⟨⟨a, b⟩, c⟩, d⟩, e⟩⟩
theorem stk_may {x : Sk} (h : stkB x = true) : mayB x.lg.sp = true := by
  have := (stkB_iff.1 h).1
  unfold priceB at this
  exact (Bool.and_eq_true .. ▸ this : _ ∧ _).1
theorem stk_pr {x : Sk} (h : stkB x = true) : 1 ≤ x.pr ∧ x.pr ≤ 10000000 := by
  have := (stkB_iff.1 h).1
  unfold priceB at this
  simp only [Bool.and_eq_true, prB_iff] at this
  exact this.2.1
theorem stk_leg {x : Sk} (h : stkB x = true) : legB x.lg = true := legB_iff.2 ⟨stk_may h, (stkB_iff.1 h).2.1⟩
/-- Its worst case; what marking takes. -/
def bK (x : Sk) : Int := sumO buK x.os
def sK (x : Sk) : Int := sumO seK x.os
def oK (x : Sk) : Int := sumO (ovK x.pr) x.os
def moK (x : Sk) : Int := max (max (wst x.lg.sp.sh (x.lg.q + bK x)) (wst x.lg.sp.sh (x.lg.q - sK x)) - wst x.lg.sp.sh x.lg.q) 0
def wsK (x : Sk) : Int := moK x + oK x
def mkK (x : Sk) : Int := x.ba - x.lg.q * x.pr
theorem bK_bd {x : Sk} (h : stkB x = true) : 0 ≤ bK x ∧ bK x ≤ 250000000 := sumO_250 (B := 1000000) (stkB_iff.1 h).2.2.2.1 (by omega) fun o ho => buK_bd ((stkB_iff.1 h).2.2.2.2 o ho)
theorem sK_bd {x : Sk} (h : stkB x = true) : 0 ≤ sK x ∧ sK x ≤ 250000000 := sumO_250 (B := 1000000) (stkB_iff.1 h).2.2.2.1 (by omega) fun o ho => seK_bd ((stkB_iff.1 h).2.2.2.2 o ho)
theorem oK_bd {x : Sk} (h : stkB x = true) : 0 ≤ oK x ∧ oK x ≤ 2500000000000000 := sumO_250 (B := 10000000000000) (stkB_iff.1 h).2.2.2.1 (by omega) fun o ho => ovK_bd ((stkB_iff.1 h).2.2.2.2 o ho) (stk_pr h)
theorem moK_bd {x : Sk} (h : stkB x = true) : 0 ≤ moK x ∧ moK x ≤ 2500000000000000 := by
  have hb := bK_bd h
  have hs := sK_bd h
  have hl := legB_sh (stk_leg h)
  have h1 := wst_sum x.lg.sp.sh x.lg.q (bK x)
  have h2 := wst_sum x.lg.sp.sh x.lg.q (-(sK x))
  have h3 := wst_max (M := 250000000) hl (q := bK x) (by omega)
  have h4 := wst_max (M := 250000000) hl (q := -(sK x)) (by omega)
  rw [show x.lg.q + -(sK x) = x.lg.q - sK x by omega] at h2
  unfold moK
  omega
theorem wsK_bd {x : Sk} (h : stkB x = true) : 0 ≤ wsK x ∧ wsK x ≤ 5000000000000000 := by
  have h1 := moK_bd h
  have h2 := oK_bd h
  unfold wsK
  omega
theorem qp_bd {x : Sk} (h : stkB x = true) : -100000000000000 ≤ x.lg.q * x.pr ∧ x.lg.q * x.pr ≤ 100000000000000 := by
  have h1 := (stkB_iff.1 h).2.1
  have h2 := stk_pr h
  have := mulb (a := x.lg.q) (A := 10000000) (b := x.pr) (B := 10000000) (by omega) (by omega)
  omega
theorem mkK_bd {x : Sk} (h : stkB x = true) : -1100000000000000 ≤ mkK x ∧ mkK x ≤ 1100000000000000 := by
  have h1 := qp_bd h
  have h2 := (stkB_iff.1 h).2.2.1
  unfold mkK
  omega
/-- Sums over stakes. -/
def sumK (f : Sk → Int) : List Sk → Int
  | [] => 0
  | x :: r => f x + sumK f r
theorem sumK_app (f : Sk → Int) : ∀ l r : List Sk, sumK f (l ++ r) = sumK f l + sumK f r
  | [], r => by show sumK f r = 0 + sumK f r; omega
  | x :: l, r => by show f x + sumK f (l ++ r) = f x + sumK f l + sumK f r; rw [sumK_app f l r]; omega
theorem sumK_snoc (f : Sk → Int) (l : List Sk) (x : Sk) : sumK f (l ++ [x]) = sumK f l + f x := by
  rw [sumK_app]
  show sumK f l + (f x + 0) = _
  omega
theorem sumK_bd {f : Sk → Int} {L B : Int} : ∀ {l : List Sk}, (∀ x, x ∈ l → L ≤ f x ∧ f x ≤ B) → l.length * L ≤ sumK f l ∧ sumK f l ≤ l.length * B
  | [], _ => by unfold sumK; simp
  | x :: r, h => by
    have h1 := h x (List.mem_cons_self ..)
    have h2 := sumK_bd (f := f) (L := L) (B := B) (l := r) fun y hy => h y (List.mem_cons_of_mem _ hy)
    have e : ∀ B : Int, ((x :: r).length : Int) * B = r.length * B + B := fun B => by
      rw [List.length_cons]
      push_cast
      rw [Int.add_mul]; omega
    rw [e, e]
    show _ ≤ f x + sumK f r ∧ f x + sumK f r ≤ _
    omega
/-- Stakes all of which may be. -/
def StksB (l : List Sk) : Prop := l.length ≤ 16 ∧ ∀ x, x ∈ l → stkB x = true
theorem StksB.take {l : List Sk} (h : StksB l) (k : Nat) : StksB (l.take k) := ⟨by rw [List.length_take]; have := h.1; omega, fun x hx => h.2 x (List.mem_of_mem_take hx)⟩
theorem sumW_bd {l : List Sk} (h : StksB l) : 0 ≤ sumK wsK l ∧ sumK wsK l ≤ 80000000000000000 := by
  have h1 := sumK_bd (f := wsK) (L := 0) (B := 5000000000000000) fun x hx => wsK_bd (h.2 x hx)
  have := h.1
  omega
theorem sumU_bd {l : List Sk} (h : StksB l) : -17600000000000000 ≤ sumK mkK l ∧ sumK mkK l ≤ 17600000000000000 := by
  have h1 := sumK_bd (f := mkK) fun x hx => mkK_bd (h.2 x hx)
  have := h.1
  omega
/-- What Need answers. -/
def lgK (l : List Sk) : List Lq := l.map Sk.lg
def neE (l : List Sk) : Int := if 16 < l.length then 3 else if !l.all stkB then 2 else marE (lgK l)
def neN (l : List Sk) : Nd := if neE l = 0 then ⟨marN (lgK l), sumK wsK l, max (sumK mkK l) 0⟩ else zeroNd
theorem neE_cases (l : List Sk) : (16 < l.length ∧ neE l = 3 ∧ neN l = zeroNd) ∨ (l.length ≤ 16 ∧ l.all stkB = false ∧ neE l = 2 ∧ neN l = zeroNd) ∨ (StksB l ∧ marE (lgK l) = 8 ∧ neE l = 8 ∧ neN l = zeroNd) ∨ (StksB l ∧ marE (lgK l) = 0 ∧ neE l = 0 ∧ neN l = ⟨marN (lgK l), sumK wsK l, max (sumK mkK l) 0⟩) := by
  unfold neN neE
  by_cases h : 16 < l.length
  · left
    rw [if_pos h]
    exact ⟨h, rfl, by rw [if_neg (by decide)]⟩
  right
  rw [if_neg h]
  cases ha : l.all stkB
  · left
    exact ⟨by omega, rfl, rfl, by rw [if_pos (show (!false) = true from rfl), if_neg (by decide)]⟩
  right
  have hs : StksB l := ⟨by omega, List.all_eq_true.1 ha⟩
  have hl : (lgK l).length ≤ 16 := by rw [lgK, List.length_map]; omega
  have hb : ∀ x, x ∈ lgK l → legB x = true := fun x hx => by
    obtain ⟨y, hy, rfl⟩ := List.mem_map.1 hx
    exact stk_leg (hs.2 y hy)
  rcases marE_cases (lgK l) with h1 | ⟨_, ⟨x, hx, e⟩, _⟩ | h1 | h1
  · omega
  · rw [hb x hx] at e; cases e
  · left
    rw [h1.2.2.2]
    exact ⟨hs, rfl, rfl, by rw [if_neg (by decide)]⟩
  · right
    rw [h1.2.2.2]
    exact ⟨hs, rfl, rfl, by rw [if_pos (by decide)]⟩
theorem ne_ok {l : List Sk} (h : neE l = 0) : StksB l ∧ marE (lgK l) = 0 ∧ neN l = ⟨marN (lgK l), sumK wsK l, max (sumK mkK l) 0⟩ := by
  rcases neE_cases l with c | c | c | c
  · rw [h] at c; omega
  · rw [h] at c; omega
  · rw [h] at c; omega
  · exact ⟨c.1, c.2.1, c.2.2.2⟩
theorem ne_bad {l : List Sk} (h : neE l ≠ 0) : neN l = zeroNd := by
  rcases neE_cases l with c | c | c | c
  · exact c.2.2
  · exact c.2.2.2
  · exact c.2.2.2
  · exact absurd c.2.2.1 h
theorem ne_ok' {l : List Sk} (h : StksB l) (hm : marE (lgK l) = 0) : neE l = 0 := by
  unfold neE
  rw [if_neg (by have := h.1; omega), List.all_eq_true.2 h.2, hm]; rfl
/-- The parts' bounds. -/
theorem ne_bd {l : List Sk} (h : neE l = 0) : (0 ≤ (neN l).m ∧ (neN l).m ≤ 1600000000000000) ∧ (0 ≤ (neN l).w ∧ (neN l).w ≤ 80000000000000000) ∧ (0 ≤ (neN l).u ∧ (neN l).u ≤ 17600000000000000) := by
  obtain ⟨h1, h2, h3⟩ := ne_ok h
  have hw := sumW_bd h1
  have hu := sumU_bd h1
  have hm := (free10 h2).2.2
  have hm2 := wsL_bd (l := lgK l) ⟨(mar_ok h2).1, (mar_ok h2).2.1⟩
  have hm3 := (marN_bd (l := lgK l)).1
  rw [h3]
  refine ⟨⟨hm3, ?_⟩, hw, ?_⟩
  · show marN (lgK l) ≤ _
    omega
  · show 0 ≤ max (sumK mkK l) 0 ∧ max (sumK mkK l) 0 ≤ _
    omega
/-- What Total answers. -/
def toN (n : Nd) : Int := if 9223372036854775807 < n.m + n.w + n.u then 9223372036854775807 else if n.m + n.w + n.u < -9223372036854775808 then -9223372036854775808 else n.m + n.w + n.u
theorem ne_total {l : List Sk} (h : neE l = 0) : 0 ≤ toN (neN l) ∧ toN (neN l) ≤ 100000000000000000 := by
  obtain ⟨h1, h2, h3⟩ := ne_bd h
  unfold toN
  rw [if_neg (by omega), if_neg (by omega)]
  omega
/-- Without orders; an order more. -/
def bareK (x : Sk) : Sk := { x with A := none, n := 0, c := 0, os := [] }
theorem bare_stk {x : Sk} (h : stkB x = true) : stkB (bareK x) = true := by
  obtain ⟨a, b, c, d, e⟩ := stkB_iff.1 h
  exact stkB_iff.2 ⟨a, b, c, Nat.zero_le _, fun o ho => by cases ho⟩
theorem bare_ws (x : Sk) : wsK (bareK x) = 0 := by
  show max (max (wst x.lg.sp.sh (x.lg.q + 0)) (wst x.lg.sp.sh (x.lg.q - 0)) - wst x.lg.sp.sh x.lg.q) 0 + 0 = 0
  simp only [Int.add_zero, Int.sub_zero]
  omega
theorem bare_lg (l : List Sk) : lgK (l.map bareK) = lgK l := by simp [lgK, bareK, Function.comp_def]
theorem bare_sum : ∀ l : List Sk, sumK wsK (l.map bareK) = 0 ∧ sumK mkK (l.map bareK) = sumK mkK l
  | [] => ⟨rfl, rfl⟩
  | x :: l => by
    obtain ⟨h1, h2⟩ := bare_sum l
    refine ⟨?_, ?_⟩
    · show wsK (bareK x) + sumK wsK (l.map bareK) = 0
      rw [bare_ws, h1]; rfl
    · show mkK x + sumK mkK (l.map bareK) = _
      rw [h2]; rfl
theorem bare_ne {l : List Sk} (h : neE l = 0) : neE (l.map bareK) = 0 ∧ neN (l.map bareK) = ⟨(neN l).m, 0, (neN l).u⟩ := by
  obtain ⟨h1, h2, h3⟩ := ne_ok h
  have hs : StksB (l.map bareK) := ⟨by rw [List.length_map]; exact h1.1, fun x hx => by
    obtain ⟨y, hy, rfl⟩ := List.mem_map.1 hx
    exact bare_stk (h1.2 y hy)⟩
  have he := ne_ok' hs (by rw [bare_lg]; exact h2)
  refine ⟨he, ?_⟩
  rw [(ne_ok he).2.2, h3, bare_lg, (bare_sum l).1, (bare_sum l).2]
/-- The scan grows away from the middle. -/
theorem wst_mid {l : List Int} {a b q : Int} (h1 : a ≤ q) (h2 : q ≤ b) : wst l q ≤ max (wst l a) (wst l b) := by
  rcases Int.le_total 0 q with c | c
  · have := wst_up (l := l) c h2
    omega
  · have := wst_down (l := l) c h1
    omega
theorem more_mo {l : List Int} {q b s b' s' : Int} (hb0 : 0 ≤ b) (hs0 : 0 ≤ s) (hb : b ≤ b') (hs : s ≤ s') : max (max (wst l (q + b)) (wst l (q - s)) - wst l q) 0 ≤ max (max (wst l (q + b')) (wst l (q - s')) - wst l q) 0 := by
  have h1 := wst_mid (l := l) (a := q - s') (q := q + b) (b := q + b') (by omega) (by omega)
  have h2 := wst_mid (l := l) (a := q - s') (q := q - s) (b := q + b') (by omega) (by omega)
  omega
theorem more_ws {x y : Sk} {o : Or} (h : stkB y = true) (e1 : y.lg = x.lg) (e2 : y.pr = x.pr) (e3 : y.os = x.os ++ [o]) (hx : stkB x = true) : wsK x ≤ wsK y := by
  have ho : mayO o = true := (stkB_iff.1 h).2.2.2.2 o (by rw [e3]; simp)
  have b1 := bK_bd hx
  have s1 := sK_bd hx
  have b2 := buK_bd ho
  have s2 := seK_bd ho
  have o2 := ovK_bd ho (stk_pr hx)
  have eb : bK y = bK x + buK o := by unfold bK; rw [e3, sumO_snoc]
  have es : sK y = sK x + seK o := by unfold sK; rw [e3, sumO_snoc]
  have eo : oK y = oK x + ovK x.pr o := by unfold oK; rw [e3, e2, sumO_snoc]
  have hm : moK x ≤ moK y := by
    unfold moK
    rw [e1, eb, es]
    exact more_mo b1.1 s1.1 (by omega) (by omega)
  unfold wsK
  rw [eo]
  omega
/-- Filled in parts. -/
theorem covers {x : Sk} (h : stkB x = true) {q loss : Int} (h1 : x.lg.q - sK x ≤ q) (h2 : q ≤ x.lg.q + bK x) (h3 : loss ≤ oK x) : wst x.lg.sp.sh q + loss ≤ wst x.lg.sp.sh x.lg.q + wsK x := by
  have := wst_mid (l := x.lg.sp.sh) h1 h2
  unfold wsK moK
  omega
/-- One alone. -/
theorem one_ne {l : List Sk} (h : neE l = 0) {x : Sk} (hx : x ∈ l) : neE [x] = 0 ∧ neN [x] = ⟨marN [x.lg], wsK x, max (mkK x) 0⟩ := by
  obtain ⟨h1, h2, h3⟩ := ne_ok h
  have hs : StksB [x] := ⟨by simp, fun y hy => by rw [List.mem_singleton.1 hy]; exact h1.2 x hx⟩
  have he : neE [x] = 0 := ne_ok' hs (mar_ok' (by simp [lgK]) (fun y hy => by
    rw [lgK, List.map_cons, List.map_nil, List.mem_singleton] at hy
    rw [hy]
    exact stk_leg (h1.2 x hx)) (dup_iff.2 (by simp [lgK])))
  refine ⟨he, ?_⟩
  rw [(ne_ok he).2.2]
  show Nd.mk (marN [x.lg]) (wsK x + 0) (max (mkK x + 0) 0) = _
  rw [Int.add_zero, Int.add_zero]
def posK (x : Sk) : Int := max (mkK x) 0
theorem pos_sum : ∀ l : List Sk, max (sumK mkK l) 0 ≤ sumK posK l
  | [] => Int.le_refl _
  | x :: l => by
    have := pos_sum l
    show max (mkK x + sumK mkK l) 0 ≤ max (mkK x) 0 + sumK posK l
    omega
end Go.Proofs.Ytcpcnjiphiokjaa
