/- Texts of a proof, laid together: Bm, Bn, Bo, Es, Bb. -/
import Derived.Test.YtdcjgcjnfcahkaaG05
import Derived.Test.YtdcjgcjnfcahkaaG01
/- The book, plain: what an order that comes meets, and each call's answer and the orders behind it, said of both sides' orders in their order. -/
namespace Go.Proofs.Ytdcjgcjnfcahkaa
open Go.RowKit
set_option linter.unusedVariables false

/-- A trade. -/
structure Td where
  pr : Int
  qt : Int
  nu : Int
  ac : Int
structure Td.ok (t : Td) : Prop where
  pr : I64' t.pr
  qt : I64' t.qt
  nu : 0 ≤ t.nu ∧ t.nu ≤ 18446744073709551615
  ac : 0 ≤ t.ac ∧ t.ac ≤ 4294967295
def Td.cells (t : Td) : List Value := [.int .i64 t.pr, .int .i64 t.qt, .int .u64 t.nu, .int .u32 t.ac]
/-- Trades are structs of four cells. -/
def ET : Elt Td := ⟨Td.cells, 4, by decide, fun _ => rfl, fun x u hu => by
  simp only [Td.cells, List.mem_cons, List.not_mem_nil, or_false] at hu
  rcases hu with rfl | rfl | rfl | rfl <;> rfl⟩
def zeroTd : Td := ⟨0, 0, 0, 0⟩
def Or.at (o : Or) (p l : Int) : Or := ⟨o.nu, o.ac, o.bu, p, l⟩

/-- What an order that comes has met: trades, one's own that went, how much was traded, what it has left; the other side behind it. -/
structure Mt where
  td : List Td
  gn : List Int
  fi : Int
  lf : Int
  os : List Or
/-- Does it meet an order? -/
def metO (o x : Or) : Bool := x.pr == o.pr || btr o.bu o.pr x.pr
def minO (a b : Int) : Int := if b < a then b else a
def meetO (o : Or) : List Or → Int → Mt
  | [], left => ⟨[], [], 0, left, []⟩
  | x :: r, left =>
    if left ≤ 0 ∨ metO o x = false then ⟨[], [], 0, left, x :: r⟩
    else if x.ac = o.ac then
      let m := meetO o r left
      ⟨m.td, x.nu :: m.gn, m.fi, m.lf, m.os⟩
    else if x.le ≤ left then
      let m := meetO o r (left - x.le)
      ⟨⟨x.pr, x.le, x.nu, x.ac⟩ :: m.td, m.gn, x.le + m.fi, m.lf, m.os⟩
    else ⟨[⟨x.pr, left, x.nu, x.ac⟩], [], left, 0, x.wi (x.le - left) :: r⟩
section
variable {o x : Or} {os r : List Or} {left : Int}
theorem meet_end (h : left ≤ 0) : meetO o os left = ⟨[], [], 0, left, os⟩ := by
  cases os with
  | nil => rfl
  | cons x r => exact if_pos (.inl h)
theorem meet_nil : meetO o [] left = ⟨[], [], 0, left, []⟩ := rfl
theorem meet_far (h : metO o x = false) : meetO o (x :: r) left = ⟨[], [], 0, left, x :: r⟩ := if_pos (.inr h)
theorem meet_own (h0 : 0 < left) (h : metO o x = true) (ha : x.ac = o.ac) : meetO o (x :: r) left = ⟨(meetO o r left).td, x.nu :: (meetO o r left).gn, (meetO o r left).fi, (meetO o r left).lf, (meetO o r left).os⟩ :=
  (if_neg (fun c => c.elim (by omega) (by rw [h]; simp))).trans (if_pos ha)
theorem meet_other (h0 : 0 < left) (h : metO o x = true) (ha : x.ac ≠ o.ac) : meetO o (x :: r) left = if x.le ≤ left then ⟨⟨x.pr, x.le, x.nu, x.ac⟩ :: (meetO o r (left - x.le)).td, (meetO o r (left - x.le)).gn, x.le + (meetO o r (left - x.le)).fi, (meetO o r (left - x.le)).lf, (meetO o r (left - x.le)).os⟩ else ⟨[⟨x.pr, left, x.nu, x.ac⟩], [], left, 0, x.wi (x.le - left) :: r⟩ :=
  (if_neg (fun c => c.elim (by omega) (by rw [h]; simp))).trans (if_neg ha)
/-- A trade: the same, whether the order that rests goes or not. -/
theorem meet_trade (h0 : 0 < left) (h : metO o x = true) (ha : x.ac ≠ o.ac) (hx : 0 < x.le) :
    let n := minO x.le left
    let m := meetO o (fillO (x :: r) n) (left - n)
    meetO o (x :: r) left = ⟨⟨x.pr, n, x.nu, x.ac⟩ :: m.td, m.gn, n + m.fi, m.lf, m.os⟩ := by
  intro n m
  have e := meet_other (r := r) h0 h ha
  by_cases hl : x.le ≤ left
  · have hn : n = x.le := by show minO _ _ = _; unfold minO; rw [if_neg (by omega)]
    have hf : fillO (x :: r) n = r := by
      rw [hn]
      exact (if_neg (by omega)).trans (if_pos (by omega))
    have hm : m = meetO o r (left - x.le) := by show meetO o (fillO (x :: r) n) (left - n) = _; rw [hf, hn]
    rw [hm, hn]
    exact e.trans (if_pos hl)
  · have hn : n = left := by show minO _ _ = _; unfold minO; rw [if_pos (by omega)]
    have hf : fillO (x :: r) n = x.wi (x.le - left) :: r := by
      rw [hn]
      exact (if_neg (by omega)).trans (if_neg (by omega))
    have hm : m = ⟨[], [], 0, 0, x.wi (x.le - left) :: r⟩ := by
      show meetO o (fillO (x :: r) n) (left - n) = _
      rw [hf, hn, meet_end (by omega), show left - left = 0 by omega]
    rw [hm, hn]
    refine (e.trans (if_neg hl)).trans ?_
    simp
end
theorem drop_head {buy : Bool} {x : Or} {r : List Or} (h : InvO buy (x :: r)) : dropO (x :: r) x.nu = r := by
  have d := (List.pairwise_cons.1 h.dis).1
  unfold dropO
  rw [List.filter_cons, if_neg (by simp)]
  exact List.filter_eq_self.2 fun y hy => by have := d y hy; simpa using fun c => this c.symm

/-- Both sides' orders: of those that buy, and of those that sell. -/
abbrev Sd := Bool → List Or
def Sd.up (S : Sd) (b : Bool) (os : List Or) : Sd := fun c => if c = b then os else S c
theorem Sd.up_at (S : Sd) (b : Bool) (os : List Or) : S.up b os b = os := if_pos rfl
theorem Sd.up_ne {b c : Bool} (S : Sd) (os : List Or) (h : c ≠ b) : S.up b os c = S c := if_neg h
theorem Sd.up_not (S : Sd) (b : Bool) (os : List Or) : S.up (!b) os b = S b := if_neg (by cases b <;> decide)
theorem Sd.up_not' (S : Sd) (b : Bool) (os : List Or) : S.up b os (!b) = S (!b) := if_neg (by cases b <;> decide)
theorem Sd.up_same (S : Sd) (b : Bool) : S.up b (S b) = S := by
  funext c
  unfold Sd.up
  split
  · rename_i h; rw [h]
  · rfl
def Sd.all (S : Sd) : List Or := S true ++ S false
def findB (S : Sd) (n : Int) : Option Or := (findO (S true) n).or (findO (S false) n)
/-- What is told of an order that came. -/
structure Pl where
  td : List Td
  gn : List Int
  fi : Int
  lf : Int
def zeroPl : Pl := ⟨[], [], 0, 0⟩
def metB (S : Sd) (o : Or) : Mt := meetO o (S (!o.bu)) o.le
def comeP (S : Sd) (o : Or) (rests : Bool) : Pl :=
  let m := metB S o
  ⟨m.td, m.gn, m.fi, if 0 < m.lf ∧ rests = true then m.lf else 0⟩
def comeS (S : Sd) (o : Or) (rests : Bool) : Sd :=
  let m := metB S o
  let T := S.up (!o.bu) m.os
  if 0 < m.lf ∧ rests = true then T.up o.bu (addO o.bu (T o.bu) (o.wi m.lf)) else T
def restK (k : Int) : Bool := k == 1 || k == 4
def placeA (S : Sd) (o : Or) (k : Int) : Int :=
  if mayO o = false ∨ k < 1 ∨ 4 < k then 2
  else if (findB S o.nu).isSome = true then 8
  else
    let f := sumR (!o.bu) (S (!o.bu)) o.pr o.ac
    if k = 3 ∧ f < o.le then 70 else if k = 4 ∧ 0 < f then 71 else if restK k = true ∧ f < o.le ∧ 100 ≤ (S o.bu).length then 9 else 0
def placeP (S : Sd) (o : Or) (k : Int) : Pl := if placeA S o k = 0 then comeP S o (restK k) else zeroPl
def placeS (S : Sd) (o : Or) (k : Int) : Sd := if placeA S o k = 0 then comeS S o (restK k) else S
def replA (S : Sd) (n p l : Int) : Int := match findB S n with
  | none => 7
  | some _ => if p < 1 ∨ 10000000 < p ∨ l < 1 ∨ 1000000 < l then 2 else 0
def replP (S : Sd) (n p l : Int) : Pl := match findB S n with
  | none => zeroPl
  | some o => if p < 1 ∨ 10000000 < p ∨ l < 1 ∨ 1000000 < l then zeroPl else if p = o.pr ∧ l ≤ o.le then ⟨[], [], 0, l⟩ else comeP (S.up o.bu (dropO (S o.bu) n)) (o.at p l) true
def replS (S : Sd) (n p l : Int) : Sd := match findB S n with
  | none => S
  | some o => if p < 1 ∨ 10000000 < p ∨ l < 1 ∨ 1000000 < l then S else if p = o.pr ∧ l ≤ o.le then S.up o.bu (lowO (S o.bu) n l) else comeS (S.up o.bu (dropO (S o.bu) n)) (o.at p l) true
def takeA (S : Sd) (n : Int) : Int := match findB S n with | none => 7 | some _ => 0
def takeX (S : Sd) (n : Int) : Or := (findB S n).getD zeroOr
def cancS (S : Sd) (n : Int) : Sd := match findB S n with | none => S | some o => S.up o.bu (dropO (S o.bu) n)
def ofAc (a : Int) (x : Or) : Bool := a == 0 || x.ac == a
def massX (S : Sd) (a : Int) : List Or := S.all.filter (ofAc a)
def massS (S : Sd) (a : Int) : Sd := fun b => (S b).filter fun x => !ofAc a x
def sumO (l : List Or) : Int := l.foldr (fun x s => x.le + s) 0
def openO (os : List Or) (a : Int) : Int := sumO (os.filter fun x => x.ac == a)
end Go.Proofs.Ytdcjgcjnfcahkaa
/- What an order that comes meets: plain facts. -/
namespace Go.Proofs.Ytdcjgcjnfcahkaa
open Go.RowKit
set_option linter.unusedVariables false

theorem meet_cases (o : Or) (P : List Or → Int → Mt → Prop)
    (h0 : ∀ os left, (os = [] ∨ left ≤ 0 ∨ ∃ x r, os = x :: r ∧ metO o x = false) → P os left ⟨[], [], 0, left, os⟩)
    (h1 : ∀ x r left, 0 < left → metO o x = true → x.ac = o.ac → P r left (meetO o r left) → P (x :: r) left ⟨(meetO o r left).td, x.nu :: (meetO o r left).gn, (meetO o r left).fi, (meetO o r left).lf, (meetO o r left).os⟩)
    (h2 : ∀ x r left, 0 < left → metO o x = true → x.ac ≠ o.ac → x.le ≤ left → P r (left - x.le) (meetO o r (left - x.le)) → P (x :: r) left ⟨⟨x.pr, x.le, x.nu, x.ac⟩ :: (meetO o r (left - x.le)).td, (meetO o r (left - x.le)).gn, x.le + (meetO o r (left - x.le)).fi, (meetO o r (left - x.le)).lf, (meetO o r (left - x.le)).os⟩)
    (h3 : ∀ x r left, 0 < left → metO o x = true → x.ac ≠ o.ac → left < x.le → P (x :: r) left ⟨[⟨x.pr, left, x.nu, x.ac⟩], [], left, 0, x.wi (x.le - left) :: r⟩) :
    ∀ os left, P os left (meetO o os left)
  | [], left => h0 [] left (.inl rfl)
  | x :: r, left => by
    by_cases hl : left ≤ 0
    · rw [meet_end hl]; exact h0 _ _ (.inr (.inl hl))
    · cases hm : metO o x
      · rw [meet_far hm]; exact h0 _ _ (.inr (.inr ⟨x, r, rfl, hm⟩))
      · by_cases ha : x.ac = o.ac
        · rw [meet_own (by omega) hm ha]
          exact h1 x r left (by omega) hm ha (meet_cases o P h0 h1 h2 h3 r left)
        · rw [meet_other (by omega) hm ha]
          by_cases hx : x.le ≤ left
          · rw [if_pos hx]
            exact h2 x r left (by omega) hm ha hx (meet_cases o P h0 h1 h2 h3 r (left - x.le))
          · rw [if_neg hx]
            exact h3 x r left (by omega) hm ha (by omega)
theorem inv_wi {buy : Bool} {x : Or} {r : List Or} {n : Int} (h : InvO buy (x :: r)) (h1 : 0 < n) (h2 : n ≤ x.le) : InvO buy (x.wi n :: r) := by
  by_cases e : n = x.le
  · have : x.wi n = x := by rw [e]; rfl
    rw [this]; exact h
  · have hx := may_le (h.may x (List.mem_cons_self ..)).1
    have q := h.fill (n := x.le - n)
    have e : fillO (x :: r) (x.le - n) = x.wi n :: r := by
      refine (if_neg (by omega)).trans ((if_neg (by omega)).trans ?_)
      rw [show x.le - (x.le - n) = n by omega]
    rw [e] at q
    exact q
/-- The other side behind it is in order. -/
theorem meet_inv {buy : Bool} (o : Or) (os : List Or) (left : Int) (h : InvO buy os) : InvO buy (meetO o os left).os := by
  refine meet_cases o (fun os _ m => InvO buy os → InvO buy m.os) ?_ ?_ ?_ ?_ os left h
  · intro os left _ h; exact h
  · intro x r left _ _ _ ih h; exact ih h.tail
  · intro x r left _ _ _ _ ih h; exact ih h.tail
  · intro x r left h0 _ _ hx h; exact inv_wi h (by omega) (by omega)
/-- Who stands there behind it stood there ahead of it, with at least as much. -/
theorem meet_mem (o : Or) (os : List Or) (left : Int) : ∀ x, x ∈ (meetO o os left).os → ∃ y, y ∈ os ∧ x.nu = y.nu ∧ x.ac = y.ac ∧ x.bu = y.bu ∧ x.pr = y.pr ∧ x.le ≤ y.le := by
  refine meet_cases o (fun os _ m => ∀ x, x ∈ m.os → ∃ y, y ∈ os ∧ x.nu = y.nu ∧ x.ac = y.ac ∧ x.bu = y.bu ∧ x.pr = y.pr ∧ x.le ≤ y.le) ?_ ?_ ?_ ?_ os left
  · intro os left _ x hx; exact ⟨x, hx, rfl, rfl, rfl, rfl, Int.le_refl _⟩
  · intro y r left _ _ _ ih x hx
    obtain ⟨z, hz, q⟩ := ih x hx
    exact ⟨z, List.mem_cons_of_mem _ hz, q⟩
  · intro y r left _ _ _ _ ih x hx
    obtain ⟨z, hz, q⟩ := ih x hx
    exact ⟨z, List.mem_cons_of_mem _ hz, q⟩
  · intro y r left h0 _ _ hy x hx
    rcases List.mem_cons.1 hx with rfl | hx
    · exact ⟨y, List.mem_cons_self .., rfl, rfl, rfl, rfl, by show y.le - left ≤ y.le; omega⟩
    · exact ⟨x, List.mem_cons_of_mem _ hx, rfl, rfl, rfl, rfl, Int.le_refl _⟩
theorem met_false {o x : Or} (h : metO o x = false) : btr o.bu x.pr o.pr = true := by
  obtain ⟨h1, h2⟩ := Bool.or_eq_false_iff.1 h
  cases c : btr o.bu x.pr o.pr
  · exact absurd (btr_tot c h2) (beq_eq_false_iff_ne.1 h1)
  · rfl
theorem met_true {o x : Or} (h : metO o x = true) : btr o.bu x.pr o.pr = false := by
  rcases Bool.or_eq_true_iff.1 h with e | e
  · rw [beq_iff_eq.1 e]; exact btr_irr _ _
  · exact btr_as e
theorem met_of {o x : Or} (h : btr o.bu x.pr o.pr = true) : metO o x = false := by
  cases c : metO o x
  · rfl
  · rw [met_true c] at h; cases h
theorem btr_not (b : Bool) (p q : Int) : btr (!b) p q = btr b q p := by cases b <;> simp [btr]
/-- Where the first one is not met, none is. -/
theorem met_none {o x : Or} {r : List Or} (s : Srt (!o.bu) (x :: r)) (h : metO o x = false) : ∀ y, y ∈ x :: r → metO o y = false := by
  intro y hy
  rcases List.mem_cons.1 hy with rfl | hy
  · exact h
  · have q := (List.pairwise_cons.1 s).1 y hy
    have f := met_false h
    rw [btr_not] at q
    refine met_of ?_
    cases hb : o.bu <;> rw [hb] at q f <;> simp [btr] at q f ⊢ <;> omega
/-- If it has something left, it meets none any more. -/
theorem meet_left (o : Or) (os : List Or) (left : Int) (s : Srt (!o.bu) os) : 0 < (meetO o os left).lf → ∀ x, x ∈ (meetO o os left).os → metO o x = false := by
  refine meet_cases o (fun os left m => Srt (!o.bu) os → 0 < m.lf → ∀ x, x ∈ m.os → metO o x = false) ?_ ?_ ?_ ?_ os left s
  · rintro os left (rfl | h | ⟨x, r, rfl, h⟩) s hl
    · intro x hx; simp at hx
    · exact absurd hl (by simpa using h)
    · exact met_none s h
  · intro x r left _ _ _ ih s; exact ih (List.pairwise_cons.1 s).2
  · intro x r left _ _ _ _ ih s; exact ih (List.pairwise_cons.1 s).2
  · intro x r left _ _ _ _ s hl; exact absurd hl (by simp)
/-- What was traded and what is left is what came. -/
theorem meet_sum (o : Or) (os : List Or) (left : Int) : (meetO o os left).fi + (meetO o os left).lf = left := by
  refine meet_cases o (fun os left m => m.fi + m.lf = left) ?_ ?_ ?_ ?_ os left
  · intro os left _; exact Int.zero_add _
  · intro x r left _ _ _ ih; exact ih
  · intro x r left _ _ _ _ ih
    exact (Int.add_assoc _ _ _).trans (by rw [ih]; omega)
  · intro x r left _ _ _ _; exact Int.add_zero _
theorem meet_ge (o : Or) (os : List Or) (left : Int) (h : 0 ≤ left) : 0 ≤ (meetO o os left).lf := by
  refine meet_cases o (fun os left m => 0 ≤ left → 0 ≤ m.lf) ?_ ?_ ?_ ?_ os left h
  · intro os left _ h; exact h
  · intro x r left _ _ _ ih h; exact ih h
  · intro x r left _ _ _ hx ih h; exact ih (by omega)
  · intro x r left _ _ _ _ _; exact Int.le_refl _
def sumT (l : List Td) : Int := l.foldr (fun t s => t.qt + s) 0
theorem meet_traded (o : Or) (os : List Or) (left : Int) : sumT (meetO o os left).td = (meetO o os left).fi := by
  refine meet_cases o (fun os left m => sumT m.td = m.fi) ?_ ?_ ?_ ?_ os left
  · intro os left _; rfl
  · intro x r left _ _ _ ih; exact ih
  · intro x r left _ _ _ _ ih
    show x.le + sumT _ = x.le + _
    rw [ih]
  · intro x r left _ _ _ _; exact Int.add_zero _
/-- The numbers of one's own that went stood there, of its account. -/
theorem meet_gone (o : Or) (os : List Or) (left : Int) : ∀ n, n ∈ (meetO o os left).gn → ∃ y, y ∈ os ∧ y.nu = n ∧ y.ac = o.ac := by
  refine meet_cases o (fun os left m => ∀ n, n ∈ m.gn → ∃ y, y ∈ os ∧ y.nu = n ∧ y.ac = o.ac) ?_ ?_ ?_ ?_ os left
  · intro os left _ n hn; simp at hn
  · intro x r left _ _ ha ih n hn
    rcases List.mem_cons.1 hn with rfl | hn
    · exact ⟨x, List.mem_cons_self .., rfl, ha⟩
    · obtain ⟨y, hy, q⟩ := ih n hn
      exact ⟨y, List.mem_cons_of_mem _ hy, q⟩
  · intro x r left _ _ _ _ ih n hn
    obtain ⟨y, hy, q⟩ := ih n hn
    exact ⟨y, List.mem_cons_of_mem _ hy, q⟩
  · intro x r left _ _ _ _ n hn; simp at hn
/-- Each trade: with an order that stood there, of another account, that it meets, of at least 1. -/
theorem meet_trades {buy : Bool} (o : Or) (os : List Or) (left : Int) (h : InvO buy os) : ∀ t, t ∈ (meetO o os left).td → 0 < t.qt ∧ ∃ y, y ∈ os ∧ y.nu = t.nu ∧ y.ac = t.ac ∧ y.pr = t.pr ∧ y.ac ≠ o.ac ∧ metO o y = true := by
  refine meet_cases o (fun os left m => InvO buy os → ∀ t, t ∈ m.td → 0 < t.qt ∧ ∃ y, y ∈ os ∧ y.nu = t.nu ∧ y.ac = t.ac ∧ y.pr = t.pr ∧ y.ac ≠ o.ac ∧ metO o y = true) ?_ ?_ ?_ ?_ os left h
  · intro os left _ _ t ht; simp at ht
  · intro x r left _ _ _ ih h t ht
    obtain ⟨q1, y, hy, q⟩ := ih h.tail t ht
    exact ⟨q1, y, List.mem_cons_of_mem _ hy, q⟩
  · intro x r left _ hm ha _ ih h t ht
    rcases List.mem_cons.1 ht with rfl | ht
    · exact ⟨(may_le (h.may x (List.mem_cons_self ..)).1).2.2.2.1, x, List.mem_cons_self .., rfl, rfl, rfl, ha, hm⟩
    · obtain ⟨q1, y, hy, q⟩ := ih h.tail t ht
      exact ⟨q1, y, List.mem_cons_of_mem _ hy, q⟩
  · intro x r left h0 hm ha _ h t ht
    rw [List.mem_singleton.1 ht]
    exact ⟨h0, x, List.mem_cons_self .., rfl, rfl, rfl, ha, hm⟩
end Go.Proofs.Ytdcjgcjnfcahkaa
/- A book stays in order behind every call: its sides are, no number stands on both, and none of one account is as good as one of another on the other side. -/
namespace Go.Proofs.Ytdcjgcjnfcahkaa
open Go.RowKit
set_option linter.unusedVariables false

structure InvB (S : Sd) : Prop where
  inv : ∀ b, InvO b (S b)
  cross : ∀ b x, x ∈ S b → ∀ y, y ∈ S (!b) → x.nu ≠ y.nu ∧ (x.ac ≠ y.ac → btr b y.pr x.pr = true)
theorem InvB.nil : InvB (fun _ => []) := ⟨fun b => InvO.nil b, fun b x h => by simp at h⟩
theorem not_not' (b : Bool) : (!!b) = b := by cases b <;> rfl
/-- Fewer, or with less left. -/
def Few (os l : List Or) : Prop := ∀ x, x ∈ os → ∃ y, y ∈ l ∧ x.nu = y.nu ∧ x.ac = y.ac ∧ x.pr = y.pr
theorem Few.refl (l : List Or) : Few l l := fun x h => ⟨x, h, rfl, rfl, rfl⟩
theorem few_filter (p : Or → Bool) (l : List Or) : Few (l.filter p) l := fun x h => ⟨x, (List.mem_filter.1 h).1, rfl, rfl, rfl⟩
theorem few_low (l : List Or) (n left : Int) : Few (lowO l n left) l := fun x h => by
  unfold lowO at h
  split at h
  · obtain ⟨z, hz, rfl⟩ := List.mem_map.1 h
    refine ⟨z, hz, wi_nu _ z left, ?_, wi_pr _ z left⟩
    split <;> rfl
  · exact ⟨x, h, rfl, rfl, rfl⟩
theorem few_meet (o : Or) (os : List Or) (left : Int) : Few (meetO o os left).os os := fun x h => by
  obtain ⟨y, hy, q1, q2, _, q3, _⟩ := meet_mem o os left x h
  exact ⟨y, hy, q1, q2, q3⟩
theorem InvB.few {S T : Sd} (h : InvB S) (hi : ∀ b, InvO b (T b)) (hf : ∀ b, Few (T b) (S b)) : InvB T :=
  ⟨hi, fun b x hx y hy => by
    obtain ⟨x', hx', a1, a2, a3⟩ := hf b x hx
    obtain ⟨y', hy', b1, b2, b3⟩ := hf (!b) y hy
    rw [a1, a2, a3, b1, b2, b3]
    exact h.cross b x' hx' y' hy'⟩
theorem InvB.up {S : Sd} {b : Bool} {os : List Or} (h : InvB S) (hi : InvO b os) (hf : Few os (S b)) : InvB (S.up b os) := by
  refine h.few (fun c => ?_) (fun c => ?_)
  · by_cases e : c = b
    · subst e; rw [Sd.up_at]; exact hi
    · rw [Sd.up_ne S os e]; exact h.inv c
  · by_cases e : c = b
    · subst e; rw [Sd.up_at]; exact hf
    · rw [Sd.up_ne S os e]; exact Few.refl _
theorem add_mem {buy : Bool} {os : List Or} {o x : Or} (h : x ∈ addO buy os o) : x = o ∨ x ∈ os := by
  unfold addO at h
  split at h
  · exact ins_mem.1 h
  · exact .inr h
/-- One comes to rest that is as good as none of another account, and whose number is new. -/
theorem InvB.add {S : Sd} {o : Or} (h : InvB S) (ok : o.ok) (hn : ∀ y, y ∈ S (!o.bu) → y.nu ≠ o.nu) (hm : ∀ y, y ∈ S (!o.bu) → metO o y = false) : InvB (S.up o.bu (addO o.bu (S o.bu) o)) := by
  have one : ∀ y, y ∈ S (!o.bu) → o.nu ≠ y.nu ∧ (o.ac ≠ y.ac → btr o.bu y.pr o.pr = true) := fun y hy => ⟨fun e => hn y hy e.symm, fun _ => met_false (hm y hy)⟩
  refine ⟨fun c => ?_, fun c x hx y hy => ?_⟩
  · by_cases e : c = o.bu
    · rw [e, Sd.up_at]; exact (h.inv o.bu).add ok
    · rw [Sd.up_ne S _ e]; exact h.inv c
  · by_cases e : c = o.bu
    · subst e
      rw [Sd.up_at] at hx
      rw [Sd.up_not'] at hy
      rcases add_mem hx with rfl | hx
      · exact one y hy
      · exact h.cross _ x hx y hy
    · have ec : (!c) = o.bu := by cases c <;> cases hb : o.bu <;> rw [hb] at e <;> first | rfl | exact absurd rfl e
      have ec' : c = !o.bu := by rw [← ec, not_not']
      rw [Sd.up_ne S _ e] at hx
      rw [ec, Sd.up_at] at hy
      rcases add_mem hy with rfl | hy
      · rw [ec'] at hx ⊢
        obtain ⟨q1, q2⟩ := one x hx
        exact ⟨fun c => q1 c.symm, fun c => by rw [btr_not]; exact q2 fun d => c d.symm⟩
      · rw [← ec] at hy
        exact h.cross c x hx y hy
theorem findB_none {S : Sd} {n : Int} (h : findB S n = none) : ∀ b y, y ∈ S b → y.nu ≠ n := by
  unfold findB at h
  cases c : findO (S true) n with
  | some x => rw [c] at h; cases h
  | none =>
    rw [c] at h
    have h2 : findO (S false) n = none := by simpa using h
    intro b
    cases b
    · exact find_not h2
    · exact find_not c
theorem met_wi (o y : Or) (n : Int) : metO (o.wi n) y = metO o y := rfl
theorem InvB.come {S : Sd} {o : Or} (rests : Bool) (h : InvB S) (ok : o.ok) (hle : 0 ≤ o.le) (hn : ∀ b y, y ∈ S b → y.nu ≠ o.nu) : InvB (comeS S o rests) := by
  have hT : InvB (S.up (!o.bu) (metB S o).os) := h.up (meet_inv o _ _ (h.inv _)) (few_meet o _ _)
  unfold comeS
  dsimp only
  split
  · rename_i c
    have hs := meet_sum o (S (!o.bu)) o.le
    have hl : (metB S o).lf ≤ o.le := by
      have hf : 0 ≤ (metB S o).fi := by
        have e := meet_traded o (S (!o.bu)) o.le
        show 0 ≤ (meetO o (S (!o.bu)) o.le).fi
        rw [← e]
        have pos := meet_trades o (S (!o.bu)) o.le (h.inv _)
        generalize (meetO o (S (!o.bu)) o.le).td = l at pos
        clear e
        induction l with
        | nil => exact Int.le_refl _
        | cons t l ih =>
          have := ih fun u hu => pos u (List.mem_cons_of_mem _ hu)
          have := (pos t (List.mem_cons_self ..)).1
          show 0 ≤ t.qt + sumT l
          omega
      show (meetO o (S (!o.bu)) o.le).lf ≤ o.le
      have hf' : 0 ≤ (meetO o (S (!o.bu)) o.le).fi := hf
      omega
    have okl := ok.le
    unfold I64' at okl
    have hadd := hT.add (o := o.wi (metB S o).lf) (wi_ok ok ⟨by have := c.1; omega, by omega⟩) (fun y hy => ?_) (fun y hy => ?_)
    · exact hadd
    · have hy : y ∈ (S.up (!o.bu) (metB S o).os) (!o.bu) := hy
      rw [Sd.up_at] at hy
      obtain ⟨z, hz, e, _⟩ := meet_mem o _ _ y hy
      show y.nu ≠ o.nu
      rw [e]
      exact hn _ z hz
    · have hy : y ∈ (S.up (!o.bu) (metB S o).os) (!o.bu) := hy
      rw [Sd.up_at] at hy
      rw [met_wi]
      exact meet_left o _ _ (h.inv _).srt c.1 y hy
  · exact hT
theorem InvB.place {S : Sd} {o : Or} {k : Int} (h : InvB S) (ok : o.ok) : InvB (placeS S o k) := by
  unfold placeS
  split
  case isFalse => exact h
  case isTrue e =>
    unfold placeA at e
    split at e
    · cases e
    · rename_i c1
      split at e
      · cases e
      · rename_i c2
        have hm : mayO o = true := by
          cases hq : mayO o
          · exact absurd (.inl hq) c1
          · rfl
        have := may_le hm
        refine h.come _ ok (by omega) (findB_none ?_)
        cases hf : findB S o.nu with
        | none => rfl
        | some x => rw [hf] at c2; exact absurd rfl c2
theorem findB_some {S : Sd} {n : Int} {x : Or} (h : findB S n = some x) : ∃ b, x ∈ S b ∧ x.nu = n := by
  unfold findB at h
  cases c : findO (S true) n with
  | some y =>
    rw [c] at h
    have e : y = x := by simpa using h
    subst e
    exact ⟨true, find_mem c⟩
  | none =>
    rw [c] at h
    have e : findO (S false) n = some x := by simpa using h
    exact ⟨false, find_mem e⟩
theorem InvB.own {S : Sd} {n : Int} {x : Or} (h : InvB S) (e : findB S n = some x) : x ∈ S x.bu ∧ x.nu = n := by
  obtain ⟨b, hx, q⟩ := findB_some e
  have := ((h.inv b).may x hx).2
  subst this
  exact ⟨hx, q⟩
/-- Once it is taken off its side, its number is free. -/
theorem InvB.free {S : Sd} {n : Int} {x : Or} (h : InvB S) (e : findB S n = some x) : ∀ b y, y ∈ S.up x.bu (dropO (S x.bu) n) b → y.nu ≠ n := by
  obtain ⟨hx, hn⟩ := h.own e
  intro b y hy
  by_cases c : b = x.bu
  · subst c
    rw [Sd.up_at] at hy
    have := (List.mem_filter.1 hy).2
    simpa using this
  · rw [Sd.up_ne S _ c] at hy
    have cb : b = !x.bu := by cases b <;> cases hb : x.bu <;> rw [hb] at c <;> first | rfl | exact absurd rfl c
    subst cb
    have := (h.cross x.bu x hx y hy).1
    rw [hn] at this
    exact fun d => this d.symm
theorem InvB.drop {S : Sd} {n : Int} {b : Bool} (h : InvB S) : InvB (S.up b (dropO (S b) n)) := h.up (h.inv b).drop (few_filter _ _)
theorem InvB.canc {S : Sd} {n : Int} (h : InvB S) : InvB (cancS S n) := by
  unfold cancS
  split
  · exact h
  · exact h.drop
theorem InvB.repl {S : Sd} {n p l : Int} (h : InvB S) (hp : I64' p) (hl : I64' l) : InvB (replS S n p l) := by
  unfold replS
  split
  · exact h
  · rename_i o e
    split
    · exact h
    · rename_i c
      split
      · exact h.up (h.inv _).low (few_low _ _ _)
      · obtain ⟨hx, hn⟩ := h.own e
        have oko := (h.inv _).ok o hx
        refine (h.drop (n := n) (b := o.bu)).come (o := o.at p l) true ⟨oko.nu, oko.ac, hp, hl⟩ (by show 0 ≤ l; omega) (fun b y hy => ?_)
        have := h.free e b y hy
        show y.nu ≠ o.nu
        rw [hn]; exact this
theorem InvB.mass {S : Sd} {a : Int} (h : InvB S) : InvB (massS S a) :=
  h.few (fun b => ⟨fun x hx => (h.inv b).ok x (List.mem_filter.1 hx).1, fun x hx => (h.inv b).may x (List.mem_filter.1 hx).1, (h.inv b).dis.filter _, (h.inv b).srt.filter _, Nat.le_trans (List.length_filter_le _ _) (h.inv b).len⟩) (fun b => few_filter _ _)
end Go.Proofs.Ytdcjgcjnfcahkaa
/- A list of numbers of one's own that grows within a range. -/
namespace Go.Proofs.Ytdcjgcjnfcahkaa
open Go.RowKit Go.Shelf
set_option linter.unusedVariables false

def ENu : Elt Int := ⟨fun n => [.int .u64 n], 1, by decide, fun _ => rfl, fun x u hu => by
  simp only [List.mem_cons, List.not_mem_nil, or_false] at hu
  rcases hu with rfl
  rfl⟩
theorem info_nu : ∃ z by', (Try.prog.info? 28).map (fun i => (i.zero, i.size, i.bytes)) = some (some z, 1, by') ∧ z.cells.size = 1 ∧ by' ≤ 4096 := ⟨.int .u64 0, 8, by kernel_rfl, rfl, by decide⟩
/-- append of numbers. -/
theorem nu_app {w : World} {ops : Array Oper} {rest : List Oper} {o : Oper} {a : Act} {Q : Exit → Act → World → Prop} (hgd : o.guard = none) (s x : Operand)
    (ho : o.op = .call { callee := .builtin .append, args := #[s, x], argTypes := #[47, 47] }) (base : Nat) (v : Value) (xs : List Int) (hs : a.eval s = v)
    (hown : ENu.Own 28 w base v xs) (ad : Addr) (m c : Nat) (l : List Int) (hx : a.eval x = .slice (some ad) m c) (hr : ENu.Rd w (some ad) m l) (hlen : xs.length + m ≤ 100000) (hbase : base ≤ w.heap.size)
    (h : ∀ v' w', ENu.Own 28 w' base v' (xs ++ l) → w.grownBy w' v.ownBlock → (v'.ownBlock = v.ownBlock ∨ v'.ownBlock = some w.heap.size) → wpList Try.prog ops Q rest (a.put o.dst v') w') : wpList Try.prog ops Q (o :: rest) a w := by
  obtain ⟨z, by', hi, hzs, hby⟩ := info_nu
  obtain ⟨i0, hi0, hz0, hz1, hz2⟩ := info_parts hi
  have el : (xs ++ l).length = xs.length + m := by rw [List.length_append, hr.1]
  refine wpList_append_own_at w hgd s x 47 ho base 28 i0 z 1 by' Try.underlying47 hi0 hz0 hz1 hz2 hzs (by decide) v xs.length (ENu.flat xs) hs hown ad m c (ENu.flat l) hx ?_ (grd_news hr) (gflat_cells _) (by unfold maxLen; omega) ?_ hbase fun v' w' h2 h3 _ h5 => h v' w' (by unfold Elt.Own; rw [el, gflat_app]; exact h2) h3 h5
  · rw [gflat_len, hr.1]; rfl
  · have := Nat.mul_le_mul hlen hby
    omega
/-- Within the range: the list in the variable at K; what lay there stays. -/
structure Lg (W0 : World) (K : Nat) (l : List Or) (v : Value) (W : World) : Prop where
  own : ENu.Own 28 W W0.heap.size v (l.map (·.nu))
  var : W.heap[K]? = some (.cells #[v] 47 (0, 0))
  at' : ∀ k, k < W0.heap.size → k ≠ K → W.heap[k]? = W0.heap[k]?
  sz : W0.heap.size ≤ W.heap.size
  b0 : Below 0 W0 W
section
variable {W0 W W' w1 w' : World} {K : Nat} {l : List Or} {v v' : Value} {x : Or}
theorem own_blk {a : Addr} {n c : Nat} : (Value.slice (some a) n c).ownBlock = some a.block := rfl
theorem sv_of (h : Lg W0 K l v W) {k : Nat} : Sv K W k ↔ k = K ∨ v.ownBlock = some k := by
  have hc : W.cell? ⟨K, 0, none⟩ = some v := by rw [cell_of_row _ _ _ _ _ _ h.var]; rfl
  constructor
  · rintro (rfl | ⟨a, n, c, e, hb⟩)
    · exact .inl rfl
    · rw [hc] at e
      cases e
      exact .inr (by rw [own_blk, hb])
  · rintro (rfl | e)
    · exact .inl rfl
    · obtain ⟨A, n, c, rfl⟩ := gown_any h.own
      cases A with
      | none => cases e
      | some a =>
        rw [own_blk] at e
        exact .inr ⟨a, n, c, hc, Option.some.inj e⟩
theorem Lg.grow (h : Lg W0 K l v W) (hK : K < W0.heap.size) (q : Below W.heap.size W W') : Lg W0 K l v W' :=
  ⟨gown_below h.own q, (q.block K (Array.getElem?_eq_some_iff.1 h.var).1).trans h.var, fun k hk hn => (q.block k (Nat.lt_of_lt_of_le hk h.sz)).trans (h.at' k hk hn), Nat.le_trans h.sz q.size, h.b0.trans (q.mono (Nat.zero_le _))⟩
theorem Lg.calm (h : Lg W0 K l v W) (hK : K < W0.heap.size) (b : Below W0.heap.size W W') (hS : ∀ k, Sv K W k → (∃ cs t f, W.heap[k]? = some (.cells cs t f)) → W'.heap[k]? = W.heap[k]?) : Lg W0 K l v W' := by
  refine ⟨gown_same h.own fun k hk => hS k ((sv_of h).2 (.inr hk)) ?_, (hS K (.inl rfl) ⟨_, _, _, h.var⟩).trans h.var, fun k hk hn => (b.block k hk).trans (h.at' k hk hn), Nat.le_trans h.sz b.size, h.b0.trans (b.mono (Nat.zero_le _))⟩
  obtain ⟨cur, e⟩ := gown_cells h.own hk
  exact ⟨_, _, _, e⟩
theorem Lg.push (h : Lg W0 K l v W) (hK : K < W0.heap.size) (q : Below W.heap.size W w1) (o' : ENu.Own 28 w' W0.heap.size v' (l.map (·.nu) ++ [x.nu])) (g : w1.grownBy w' v.ownBlock) (hv : v'.ownBlock = v.ownBlock ∨ v'.ownBlock = some w1.heap.size) :
    Lg W0 K (l ++ [x]) v' (w'.setCell ⟨K, 0, none⟩ v') ∧ Kc (Sv K) W (w'.setCell ⟨K, 0, none⟩ v') ∧ KeepsFrom W0.heap.size W (w'.setCell ⟨K, 0, none⟩ v') := by
  have hKl := (Array.getElem?_eq_some_iff.1 h.var).1
  have f1 : Fr (fun k => v.ownBlock = some k) w1 w' := Fr.grown g (fun k e => e)
  have f2 : Fr (fun k => k = K ∨ v.ownBlock = some k) W w' := (Fr.below (S := fun _ => False) q).trans f1 (fun _ h => h.elim) (fun _ _ h => .inr h)
  have f3 : Fr (fun k => k = K ∨ v.ownBlock = some k) W (w'.setCell ⟨K, 0, none⟩ v') := f2.same (Fr.set (S := fun k => k = K ∨ v.ownBlock = some k) (p := ⟨K, 0, none⟩) (.inl rfl) v')
  have nK : ∀ k, v.ownBlock = some k → k ≠ K := fun k e => by have := (gown_lt h.own e).1; omega
  have nK' : ∀ k, v'.ownBlock = some k → k ≠ K := fun k e => by have := (gown_lt o' e).1; omega
  have var' : w'.heap[K]? = some (.cells #[v] 47 (0, 0)) := (f1.at' K (Nat.lt_of_lt_of_le hKl q.size) (fun e => nK K e rfl)).trans ((q.block K hKl).trans h.var)
  have L : Lg W0 K (l ++ [x]) v' (w'.setCell ⟨K, 0, none⟩ v') := by
    refine ⟨?_, heap_setCell_same w' K 0 _ _ v' var', fun k hk hn => (f3.at' k (Nat.lt_of_lt_of_le hk h.sz) (fun c => ?_)).trans (h.at' k hk hn), Nat.le_trans h.sz f3.size, h.b0.trans f3.b0⟩
    · rw [List.map_append]
      exact gown_same o' fun k hk => heap_setCell_other w' ⟨K, 0, none⟩ k v' (nK' k hk)
    · rcases c with c | c
      · exact hn c
      · have := (gown_lt h.own c).1; omega
  refine ⟨L, fun wf => ⟨fun k hk => ?_, fun k hk => ?_, f3.b0, fun k hk hn hc => f3.at' k hk (fun c => hn ((sv_of h).2 c))⟩, f3.size, fun k o _ hk hc => ?_⟩
  · rcases (sv_of L).1 hk with rfl | e
    · exact (Array.getElem?_eq_some_iff.1 L.var).1
    · exact (gown_lt L.own e).2
  · rcases (sv_of L).1 hk with rfl | e
    · exact .inl (.inl rfl)
    · rcases hv with c | c
      · exact .inl ((sv_of h).2 (.inr (by rw [← c]; exact e)))
      · rw [c] at e
        cases e
        exact .inr q.size
  · refine (f3.at' k (Array.getElem?_eq_some_iff.1 hk).1 (fun c => ?_)).trans hk
    rcases c with rfl | c
    · rw [h.var] at hk; cases hk; cases hc
    · obtain ⟨cur, e⟩ := gown_cells h.own c
      rw [e] at hk; cases hk; cases hc
theorem nu_obj (h : Lg W0 K l v W) (hK : K < W0.heap.size) (q : Below W.heap.size W w1) (g : w1.grownBy w' v.ownBlock) : w'.heap[K]? = some (.cells #[v] 47 (0, 0)) :=
  have hKl := (Array.getElem?_eq_some_iff.1 h.var).1
  (g.block K (Nat.lt_of_lt_of_le hKl q.size) (fun e => by have := (gown_lt h.own e.symm).1; omega)).trans ((q.block K hKl).trans h.var)
theorem nu_kept (h : Lg W0 K l v W) (hK : K < W0.heap.size) (q : Below W.heap.size W w1) (g : w1.grownBy w' v.ownBlock) : w'.cell? ⟨K, 0, none⟩ = some v := by
  rw [cell_of_row _ _ _ _ _ _ (nu_obj h hK q g)]; rfl
theorem nu_fz (h : Lg W0 K l v W) (hK : K < W0.heap.size) (q : Below W.heap.size W w1) (g : w1.grownBy w' v.ownBlock) : w'.frozen? ⟨K, 0, none⟩ = false := by
  simp [World.frozen?, nu_obj h hK q g]
end
end Go.Proofs.Ytdcjgcjnfcahkaa
/- The document's plain book in memory: its block, its two sides. -/
namespace Go.Proofs.Ytdcjgcjnfcahkaa
open Go.RowKit
set_option linter.unusedVariables false

/-- The plain book at block G; its sides' blocks and lists by whether they buy. -/
structure Bk (W : World) (B G : Nat) (g : Bool → Nat) (v : Bool → Value) (S : Sd) : Prop where
  blk : W.heap[G]? = some (.cells #[.pointer (some ⟨g true, 0, none⟩), .pointer (some ⟨g false, 0, none⟩)] 72 (0, 0))
  ps : ∀ b, Ps W B (g b) (v b) b (S b)
  ge : B ≤ G
  ne : g true ≠ g false
  vv : ∀ k, (v true).ownBlock = some k → (v false).ownBlock ≠ some k
def upV (v : Bool → Value) (b : Bool) (u : Value) : Bool → Value := fun c => if c = b then u else v c
/-- The blocks that a call on it may turn. -/
def gsB (g : Bool → Nat) (k : Nat) : Prop := ∃ b, k = g b
section
variable {W W' w w' : World} {B G : Nat} {g : Bool → Nat} {v : Bool → Value} {S : Sd} {b : Bool}
theorem Ps.side {W : World} {B g : Nat} {v : Value} {buy : Bool} {os : List Or} (h : Ps W B g v buy os) : W.heap[g]? = some (.cells #[.bool buy, v] 70 (0, 0)) := by
  obtain ⟨l, h, _⟩ := h
  exact h.blk
theorem Ps.ge {W : World} {B g : Nat} {v : Value} {buy : Bool} {os : List Or} (h : Ps W B g v buy os) : B ≤ g := by
  obtain ⟨l, h, _⟩ := h
  exact h.ge
theorem Ps.row {W : World} {B g : Nat} {v : Value} {buy : Bool} {os : List Or} (h : Ps W B g v buy os) {k : Nat} (hk : v.ownBlock = some k) : B ≤ k ∧ ∃ cur, W.heap[k]? = some (.cells cur 31 (0, 0)) := by
  obtain ⟨l, h, _⟩ := h
  exact ⟨(gown_lt h.own hk).1, gown_cells h.own hk⟩
theorem Bk.c0 (h : Bk W B G g v S) : W.cell? ⟨G, 0, none⟩ = some (.pointer (some ⟨g true, 0, none⟩)) := by rw [cell_of_row _ _ _ _ _ _ h.blk]; rfl
theorem Bk.c1 (h : Bk W B G g v S) : W.cell? ⟨G, 1, none⟩ = some (.pointer (some ⟨g false, 0, none⟩)) := by rw [cell_of_row _ _ _ _ _ _ h.blk]; rfl
theorem Bk.gl (h : Bk W B G g v S) : G < W.heap.size := (Array.getElem?_eq_some_iff.1 h.blk).1
theorem Bk.gb (h : Bk W B G g v S) (b : Bool) : G ≠ g b := fun e => by
  have q := (h.ps b).side
  rw [← e, h.blk] at q
  injection q with q
  injection q with _ q
  exact absurd q (by decide)
theorem Bk.gv (h : Bk W B G g v S) {b : Bool} {k : Nat} (hk : (v b).ownBlock = some k) : k ≠ G := by
  rintro rfl
  obtain ⟨cur, q⟩ := ((h.ps b).row hk).2
  rw [h.blk] at q
  injection q with q
  injection q with _ q
  exact absurd q (by decide)
theorem Bk.gs (h : Bk W B G g v S) {b c : Bool} {k : Nat} (hk : (v b).ownBlock = some k) : k ≠ g c := by
  rintro rfl
  obtain ⟨cur, q⟩ := ((h.ps b).row hk).2
  rw [(h.ps c).side] at q
  injection q with q
  injection q with _ q
  exact absurd q (by decide)
theorem Bk.gg (h : Bk W B G g v S) {b c : Bool} (e : b ≠ c) : g b ≠ g c := by
  cases b <;> cases c <;> first | exact absurd rfl e | exact h.ne | exact h.ne.symm
theorem Bk.keep {T : Nat → Prop} (h : Bk W B G g v S) (f : Fr T W W') (hG : ¬ T G) (hg : ∀ b, ¬ T (g b)) (hv : ∀ b k, (v b).ownBlock = some k → ¬ T k) : Bk W' B G g v S :=
  ⟨(f.at' G h.gl hG).trans h.blk, fun b => (h.ps b).keep f (hg b) (hv b), h.ge, h.ne, h.vv⟩
theorem Bk.below (h : Bk W B G g v S) (q : Below W.heap.size W W') : Bk W' B G g v S := h.keep (T := fun _ => False) (Fr.below q) (fun h => h) (fun _ h => h) (fun _ _ _ h => h)
end
/-- Behind a call on it. -/
def BkN (w : World) (B G : Nat) (g : Bool → Nat) (v : Bool → Value) (S : Sd) (w' : World) : Prop := ∃ v', Bk w' B G g v' S ∧ Fr (gsB g) w w' ∧ ∀ b k, (v' b).ownBlock = some k → (v b).ownBlock = some k ∨ w.heap.size ≤ k
section
variable {W w w' w2 : World} {B G : Nat} {g : Bool → Nat} {v : Bool → Value} {S T : Sd} {b : Bool} {os : List Or}
theorem bkn_same (h : Bk w B G g v S) (q : Below w.heap.size w w') : BkN w B G g v S w' := ⟨v, h.below q, Fr.below q, fun _ _ h => .inl h⟩
theorem bkn_from (q : Below W.heap.size W w) (h : BkN w B G g v S w') : BkN W B G g v S w' := by
  obtain ⟨v', h1, h2, h3⟩ := h
  exact ⟨v', h1, (Fr.below q).same h2, fun b k hk => (h3 b k hk).imp id fun c => Nat.le_trans q.size c⟩
theorem bkn_then (h : BkN w B G g v S w') (q : Below w'.heap.size w' w2) : BkN w B G g v S w2 := by
  obtain ⟨v', h1, h2, h3⟩ := h
  exact ⟨v', h1.below q, h2.same (Fr.below q), h3⟩
theorem bkn_trans (h : BkN w B G g v S w') (k : ∀ v', Bk w' B G g v' S → BkN w' B G g v' T w2) : BkN w B G g v T w2 := by
  obtain ⟨v1, h1, h2, h3⟩ := h
  obtain ⟨v2, k1, k2, k3⟩ := k v1 h1
  refine ⟨v2, k1, h2.same k2, fun b j hj => ?_⟩
  rcases k3 b j hj with c | c
  · exact h3 b j c
  · exact .inr (Nat.le_trans h2.size c)
/-- A call on a side is a call on the book. -/
theorem Bk.turn (h : Bk w B G g v S) (q : PsN w B (g b) (v b) b os w') : BkN w B G g v (S.up b os) w' := by
  obtain ⟨u, q1, q2, q3⟩ := q
  have hlt : ∀ c k, (v c).ownBlock = some k → k < w.heap.size := fun c k hk => by
    obtain ⟨cur, e⟩ := ((h.ps c).row hk).2
    exact (Array.getElem?_eq_some_iff.1 e).1
  have other : ∀ c, c ≠ b → Ps w' B (g c) (v c) c (S c) := fun c hc => (h.ps c).keep q2 (h.gg hc) (fun k hk => h.gs hk)
  refine ⟨upV v b u, ⟨(q2.at' G h.gl (h.gb b)).trans h.blk, fun c => ?_, h.ge, h.ne, fun k hk => ?_⟩, q2.mono (fun k e => ⟨b, e⟩), fun c k hk => ?_⟩
  · by_cases e : c = b
    · subst e
      rw [Sd.up_at, show upV v c u c = u from if_pos rfl]
      exact q1
    · rw [Sd.up_ne S os e, show upV v b u c = v c from if_neg e]
      exact other c e
  · cases b
    · rw [show upV v false u true = v true from if_neg (by decide)] at hk
      rw [show upV v false u false = u from if_pos rfl]
      intro e
      rcases q3 k e with c | c
      · exact h.vv k hk c
      · have := hlt true k hk; omega
    · rw [show upV v true u true = u from if_pos rfl] at hk
      rw [show upV v true u false = v false from if_neg (by decide)]
      intro e
      rcases q3 k hk with c | c
      · exact h.vv k c e
      · have := hlt false k e; omega
  · by_cases e : c = b
    · subst e
      rw [show upV v c u c = u from if_pos rfl] at hk
      exact q3 k hk
    · rw [show upV v b u c = v c from if_neg e] at hk
      exact .inl hk
end
/-- What the program says of trades, of numbers. -/
theorem TT : EltT Try.prog ET 46 63 := ⟨Try.underlying46, ⟨_, Try.underlying63⟩, ⟨.agg (ET.cells zeroTd).toArray, 32, by kernel_rfl, rfl, by decide⟩⟩
def Pl.cells (p : Pl) (t n : Value) : Array Value := #[t, n, .int .i64 p.fi, .int .i64 p.lf]
/-- What is told of an order that came, as a value. -/
def PlV (W : World) (B : Nat) (u : Value) (p : Pl) : Prop := ∃ t n, u = .agg (p.cells t n) ∧ ET.Own 63 W B t p.td ∧ ENu.Own 28 W B n p.gn
theorem zero_pl (w : World) : (zeroValue 49).run Try.prog w = .ok (.agg (zeroPl.cells (.slice none 0 0) (.slice none 0 0))) w := by kernel_rfl
end Go.Proofs.Ytdcjgcjnfcahkaa
