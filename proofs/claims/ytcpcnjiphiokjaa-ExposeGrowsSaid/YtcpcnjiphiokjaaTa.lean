/- PURE: scans and margins; legs as 26 cells; no program's function. -/
import Derived.Test.YtcpcnjiphiokjaaSa
import Derived.Test.YtcpcnjiphiokjaaQa
namespace Go.Proofs.Ytcpcnjiphiokjaa
open Go.RowKit
set_option linter.unusedVariables false
set_option linter.unusedSimpArgs false

/-- A leg. -/
structure Lq where
  sp : Sp
  q : Int
  len : sp.sh.length = 16
structure Lq.ok (x : Lq) : Prop where
  sp : x.sp.ok
  q : I64 x.q
def Lq.cells (x : Lq) : List Value := x.sp.cellL ++ [.int .i64 x.q]
theorem sp_lenL {s : Sp} (h : s.sh.length = 16) : s.cellL.length = 25 := by simp [Sp.cellL, h]
theorem sp_oneL (s : Sp) : ∀ u ∈ s.cellL, u.oneCell' = true := by
  intro u hu
  simp only [Sp.cellL, List.mem_append, List.mem_cons, List.mem_map, List.not_mem_nil, or_false] at hu
  rcases hu with (rfl | rfl | rfl | rfl | rfl | rfl) | ⟨x, _, rfl⟩ | rfl | rfl | rfl <;> rfl
/-- Legs are structs of 26 cells. -/
def EL : Elt Lq := ⟨Lq.cells, 26, by decide, fun x => by rw [Lq.cells, List.length_append, sp_lenL x.len]; rfl, fun x u hu => by
  rcases List.mem_append.1 hu with h | h
  · exact sp_oneL _ u h
  · rw [List.mem_singleton.1 h]; rfl⟩
/-- Data are structs of 25 cells, whatever they are. -/
structure Sq where
  sp : Sp
  len : sp.sh.length = 16
def zeroLq : Lq := ⟨zeroSp, 0, rfl⟩
theorem zeroLq_ok : zeroLq.ok := ⟨zero_ok, by show I64 0; unfold I64; omega⟩
theorem TL : EltT Try.prog EL 52 30 := ⟨Try.underlying52, ⟨_, Try.underlying30⟩, ⟨.agg (EL.cells zeroLq).toArray, 200, by kernel_rfl, rfl, by decide⟩⟩
theorem lq_sp {x : Lq} {i : Nat} (hi : i < 25) : (EL.cells x)[i]? = x.sp.cells[i]? := by
  show (x.sp.cellL ++ _)[i]? = _
  rw [List.getElem?_append_left (by rw [sp_lenL x.len]; exact hi)]
  simp [Sp.cells]
theorem lq_q (x : Lq) : (EL.cells x)[25]? = some (.int .i64 x.q) := by
  show (x.sp.cellL ++ _)[25]? = _
  rw [List.getElem?_append_right (by rw [sp_lenL x.len]; omega), sp_lenL x.len]; rfl

/-- The scan. -/
def wst : List Int → Int → Int
  | [], _ => 0
  | x :: r, q => max (-q * x) (wst r q)
theorem wst_pos : ∀ (l : List Int) (q : Int), 0 ≤ wst l q
  | [], _ => Int.le_refl _
  | x :: r, q => by have := wst_pos r q; unfold wst; omega
theorem wst_ge : ∀ {l : List Int} {q x : Int}, x ∈ l → -q * x ≤ wst l q
  | y :: r, q, x, h => by
    rcases List.mem_cons.1 h with rfl | h
    · unfold wst; omega
    · have := wst_ge (q := q) h; unfold wst; omega
theorem wst_is : ∀ (l : List Int) (q : Int), wst l q = 0 ∨ ∃ x, x ∈ l ∧ wst l q = -q * x
  | [], _ => .inl rfl
  | y :: r, q => by
    unfold wst
    rcases wst_is r q with h | ⟨x, hx, h⟩
    · rcases Int.le_total (-q * y) 0 with c | c
      · left; omega
      · right; exact ⟨y, List.mem_cons_self .., by omega⟩
    · rcases Int.le_total (-q * y) (wst r q) with c | c
      · right; exact ⟨x, List.mem_cons_of_mem _ hx, by omega⟩
      · right; exact ⟨y, List.mem_cons_self .., by omega⟩
theorem wst_le {l : List Int} {q m : Int} (h0 : 0 ≤ m) (h : ∀ x, x ∈ l → -q * x ≤ m) : wst l q ≤ m := by
  rcases wst_is l q with e | ⟨x, hx, e⟩
  · omega
  · have := h x hx; omega
theorem wst_app : ∀ (l r : List Int) (q : Int), wst (l ++ r) q = max (wst l q) (wst r q)
  | [], r, q => by have := wst_pos r q; show wst r q = max 0 (wst r q); omega
  | x :: l, r, q => by
    show max (-q * x) (wst (l ++ r) q) = max (max (-q * x) (wst l q)) (wst r q)
    rw [wst_app l r q]; omega
theorem wst_snoc (l : List Int) (x q : Int) : wst (l ++ [x]) q = max (wst l q) (-q * x) := by
  rw [wst_app]
  have := wst_pos l q
  show max (wst l q) (max (-q * x) 0) = _
  omega
theorem take_q {l : List Int} {k : Nat} (h : k < l.length) : l.take (k + 1) = l.take k ++ [l.getD k 0] := by
  rw [List.take_succ_eq_append_getElem h]
  simp [List.getD, h]
/-- Products of what may be. -/
theorem mulb {a b A B : Int} (ha : -A ≤ a ∧ a ≤ A) (hb : -B ≤ b ∧ b ≤ B) : -(A * B) ≤ a * b ∧ a * b ≤ A * B := by
  have h1 : (a * b).natAbs ≤ A.toNat * B.toNat := by
    rw [Int.natAbs_mul]
    exact Nat.mul_le_mul (by omega) (by omega)
  have h2 : ((A.toNat * B.toNat : Nat) : Int) = A * B := by
    rw [Int.natCast_mul]
    rw [Int.toNat_of_nonneg (by omega), Int.toNat_of_nonneg (by omega)]
  omega
def ShB (l : List Int) : Prop := ∀ x, x ∈ l → -10000000 ≤ x ∧ x ≤ 10000000
theorem wst_max {l : List Int} {q M : Int} (hl : ShB l) (hq : -M ≤ q ∧ q ≤ M) : wst l q ≤ M * 10000000 := by
  refine wst_le (by omega) fun x hx => ?_
  have := mulb (a := -q) (A := M) (b := x) (B := 10000000) (by omega) (hl x hx)
  omega
theorem wst_zero (l : List Int) : wst l 0 = 0 := by
  rcases wst_is l 0 with h | ⟨x, _, h⟩
  · exact h
  · rw [h]; simp
theorem wst_up {l : List Int} {p q : Int} (h0 : 0 ≤ p) (h : p ≤ q) : wst l p ≤ wst l q := by
  refine wst_le (wst_pos _ _) fun x hx => ?_
  rcases Int.le_total 0 x with c | c
  · have h1 : 0 ≤ p * x := Int.mul_nonneg h0 c
    have h2 := wst_pos l q
    rw [Int.neg_mul]; omega
  · have h1 := wst_ge (q := q) hx
    have h2 : 0 ≤ (q - p) * (-x) := Int.mul_nonneg (by omega) (by omega)
    rw [Int.sub_mul, Int.mul_neg, Int.mul_neg] at h2
    rw [Int.neg_mul] at h1 ⊢
    omega
theorem wst_turn (l : List Int) (q : Int) : wst (l.map fun x => -x) (-q) = wst l q := by
  induction l with
  | nil => rfl
  | cons x r ih =>
    show max (-(-q) * (-x)) (wst (r.map fun x => -x) (-q)) = max (-q * x) (wst r q)
    rw [ih, Int.neg_neg, Int.mul_neg, Int.neg_mul]
theorem wst_down {l : List Int} {p q : Int} (h0 : p ≤ 0) (h : q ≤ p) : wst l p ≤ wst l q := by
  have := wst_up (l := l.map fun x => -x) (p := -p) (q := -q) (by omega) (by omega)
  rwa [wst_turn, wst_turn] at this
theorem wst_sum (l : List Int) (p q : Int) : wst l (p + q) ≤ wst l p + wst l q := by
  have a := wst_pos l p
  have b := wst_pos l q
  refine wst_le (by omega) fun x hx => ?_
  have h1 := wst_ge (q := p) hx
  have h2 := wst_ge (q := q) hx
  rw [Int.neg_mul] at h1 h2 ⊢
  rw [Int.add_mul]
  omega

/-- Sums over legs. -/
def sumL (f : Lq → Int) : List Lq → Int
  | [] => 0
  | x :: r => f x + sumL f r
theorem sumL_app (f : Lq → Int) : ∀ l r : List Lq, sumL f (l ++ r) = sumL f l + sumL f r
  | [], r => by show sumL f r = 0 + sumL f r; omega
  | x :: l, r => by show f x + sumL f (l ++ r) = f x + sumL f l + sumL f r; rw [sumL_app f l r]; omega
theorem sumL_one (f : Lq → Int) (x : Lq) : sumL f [x] = f x := by show f x + 0 = f x; omega
theorem sumL_rev (f : Lq → Int) : ∀ l : List Lq, sumL f l.reverse = sumL f l
  | [] => rfl
  | x :: l => by
    rw [List.reverse_cons, sumL_app, sumL_one, sumL_rev f l]
    show _ = f x + sumL f l
    omega
theorem sumL_bd {f : Lq → Int} {B : Int} : ∀ {l : List Lq}, (∀ x, x ∈ l → 0 ≤ f x ∧ f x ≤ B) → 0 ≤ sumL f l ∧ sumL f l ≤ l.length * B
  | [], _ => by unfold sumL; simp
  | x :: r, h => by
    have h1 := h x (List.mem_cons_self ..)
    have h2 := sumL_bd (f := f) (B := B) (l := r) fun y hy => h y (List.mem_cons_of_mem _ hy)
    have e : ((x :: r).length : Int) * B = r.length * B + B := by
      rw [List.length_cons]
      push_cast
      rw [Int.add_mul]; omega
    rw [e]
    show 0 ≤ f x + sumL f r ∧ f x + sumL f r ≤ _
    omega
theorem sumL_congr {f g : Lq → Int} : ∀ {l : List Lq}, (∀ x, x ∈ l → f x = g x) → sumL f l = sumL g l
  | [], _ => rfl
  | x :: r, h => by
    show f x + sumL f r = g x + sumL g r
    rw [h x (List.mem_cons_self ..), sumL_congr fun y hy => h y (List.mem_cons_of_mem _ hy)]
/-- Of a route, and not nothing. -/
def inR (r : Int) (x : Lq) : Bool := decide (x.sp.ro = r) && decide (x.q ≠ 0)
def fS (r : Int) (x : Lq) : Int := if inR r x then wst x.sp.sh x.q else 0
def fL (r : Int) (x : Lq) : Int := if inR r x then max x.q 0 else 0
def fN (r : Int) (x : Lq) : Int := if inR r x then max (-x.q) 0 else 0
/-- The least Credit. -/
def raL (r : Int) : List Lq → Int
  | [] => 10000000
  | x :: l => if inR r x then min x.sp.cr (raL r l) else raL r l
theorem raL_le (r : Int) : ∀ l : List Lq, raL r l ≤ 10000000
  | [] => Int.le_refl _
  | x :: l => by
    have := raL_le r l
    unfold raL
    split <;> omega
theorem raL_app (r : Int) : ∀ a b : List Lq, raL r (a ++ b) = min (raL r a) (raL r b)
  | [], b => by have := raL_le r b; show raL r b = min 10000000 (raL r b); omega
  | x :: a, b => by
    have ih := raL_app r a b
    show (if inR r x then min x.sp.cr (raL r (a ++ b)) else raL r (a ++ b)) = min (if inR r x then min x.sp.cr (raL r a) else raL r a) (raL r b)
    rw [ih]
    split <;> omega
theorem raL_rev (r : Int) : ∀ l : List Lq, raL r l.reverse = raL r l
  | [] => rfl
  | x :: l => by
    have h1 := raL_le r l
    rw [List.reverse_cons, raL_app, raL_rev r l]
    show min (raL r l) (if inR r x then min x.sp.cr 10000000 else 10000000) = (if inR r x then min x.sp.cr (raL r l) else raL r l)
    split <;> omega
theorem raL_pos {r : Int} : ∀ {l : List Lq}, (∀ x, x ∈ l → 0 ≤ x.sp.cr) → 0 ≤ raL r l
  | [], _ => by unfold raL; omega
  | x :: l, h => by
    have h1 := h x (List.mem_cons_self ..)
    have h2 := raL_pos (r := r) (l := l) fun y hy => h y (List.mem_cons_of_mem _ hy)
    unfold raL
    split <;> omega
def scR (r : Int) (l : List Lq) : Int := sumL (fS r) l
def loR (r : Int) (l : List Lq) : Int := sumL (fL r) l
def soR (r : Int) (l : List Lq) : Int := sumL (fN r) l
/-- A route's margin. -/
def marR (r : Int) (l : List Lq) : Int := max (scR r l - min (loR r l) (soR r l) * raL r l) 0
/-- Of the first n routes. -/
def marU (l : List Lq) : Nat → Int
  | 0 => 0
  | n + 1 => marU l n + marR ((n : Int) + 1) l
def marT (l : List Lq) : Int := marU l 8
/-- A leg may be. -/
def legB (x : Lq) : Bool := mayB x.sp && amB x.q (-10000000) 10000000
/-- Numbers, each once. -/
def seenQ : List Lq → List Int
  | [] => []
  | x :: r => if x.sp.nu ∈ seenQ r then seenQ r else x.sp.nu :: seenQ r
def dupQ (l : List Lq) : Bool := decide ¬ l.Pairwise fun a b => a.sp.nu ≠ b.sp.nu
/-- What Scan answers; what Margin answers. -/
def scanB (sh : List Int) (q : Int) : Bool := sh.all (fun x => amB x (-10000000) 10000000) && amB q (-1000000000) 1000000000
def scanN (sh : List Int) (q : Int) : Int := if scanB sh q then wst sh q else 0
def scanE (sh : List Int) (q : Int) : Int := if scanB sh q then 0 else 2
def marE (l : List Lq) : Int := if 16 < l.length then 3 else if !l.all legB then 2 else if dupQ l then 8 else 0
def marN (l : List Lq) : Int := if marE l = 0 then marT l else 0
theorem scanB_iff {sh : List Int} {q : Int} : scanB sh q = true ↔ ShB sh ∧ -1000000000 ≤ q ∧ q ≤ 1000000000 := by
  unfold scanB ShB
  rw [Bool.and_eq_true, List.all_eq_true, amB_iff]
  exact ⟨fun h => ⟨fun x hx => amB_iff.1 (h.1 x hx), h.2⟩, fun h => ⟨fun x hx => amB_iff.2 (h.1 x hx), h.2⟩⟩
theorem legB_iff {x : Lq} : legB x = true ↔ mayB x.sp = true ∧ -10000000 ≤ x.q ∧ x.q ≤ 10000000 := by
  unfold legB
  rw [Bool.and_eq_true, amB_iff]
theorem marE_cases (l : List Lq) : (16 < l.length ∧ marE l = 3) ∨ (l.length ≤ 16 ∧ (∃ x, x ∈ l ∧ legB x = false) ∧ marE l = 2) ∨ (l.length ≤ 16 ∧ (∀ x, x ∈ l → legB x = true) ∧ dupQ l = true ∧ marE l = 8) ∨ (l.length ≤ 16 ∧ (∀ x, x ∈ l → legB x = true) ∧ dupQ l = false ∧ marE l = 0) := by
  unfold marE
  by_cases h : 16 < l.length
  · exact .inl ⟨h, if_pos h⟩
  right
  rw [if_neg h]
  cases ha : l.all legB
  · left
    refine ⟨by omega, ?_, rfl⟩
    obtain ⟨x, hx, e⟩ := List.all_eq_false.1 ha
    exact ⟨x, hx, by simpa using e⟩
  right
  have ha' := List.all_eq_true.1 ha
  cases hd : dupQ l
  · right
    exact ⟨by omega, ha', rfl, rfl⟩
  · left
    exact ⟨by omega, ha', rfl, rfl⟩
theorem mar_ok {l : List Lq} (h : marE l = 0) : l.length ≤ 16 ∧ (∀ x, x ∈ l → legB x = true) ∧ dupQ l = false := by
  rcases marE_cases l with h1 | h1 | h1 | h1
  · rw [h] at h1; omega
  · rw [h] at h1; omega
  · rw [h] at h1; omega
  · exact ⟨h1.1, h1.2.1, h1.2.2.1⟩
theorem mar_ok' {l : List Lq} (h1 : l.length ≤ 16) (h2 : ∀ x, x ∈ l → legB x = true) (h3 : dupQ l = false) : marE l = 0 := by
  unfold marE
  rw [if_neg (by omega), List.all_eq_true.2 h2, h3]; rfl
theorem dup_iff {l : List Lq} : dupQ l = false ↔ l.Pairwise fun a b => a.sp.nu ≠ b.sp.nu := by
  unfold dupQ
  rw [decide_eq_false_iff_not, Classical.not_not]
theorem legB_sh {x : Lq} (h : legB x = true) : ShB x.sp.sh := may_sh (legB_iff.1 h).1
theorem legB_cr {x : Lq} (h : legB x = true) : 0 ≤ x.sp.cr ∧ x.sp.cr ≤ 10000000 := (head_parts (may_head (legB_iff.1 h).1)).2.2.2.2.2.2
/-- What each leg adds to a route. -/
theorem fS_bd {r : Int} {x : Lq} (h : legB x = true) : 0 ≤ fS r x ∧ fS r x ≤ 100000000000000 := by
  have h1 := wst_pos x.sp.sh x.q
  have h2 := wst_max (M := 10000000) (legB_sh h) (legB_iff.1 h).2
  unfold fS
  split <;> omega
theorem fL_bd {r : Int} {x : Lq} (h : legB x = true) : 0 ≤ fL r x ∧ fL r x ≤ 10000000 := by
  have h2 := (legB_iff.1 h).2
  unfold fL
  split <;> omega
theorem fN_bd {r : Int} {x : Lq} (h : legB x = true) : 0 ≤ fN r x ∧ fN r x ≤ 10000000 := by
  have h2 := (legB_iff.1 h).2
  unfold fN
  split <;> omega
theorem sumL_16 {f : Lq → Int} {B : Int} {l : List Lq} (hl : l.length ≤ 16) (hB : 0 ≤ B) (h : ∀ x, x ∈ l → 0 ≤ f x ∧ f x ≤ B) : 0 ≤ sumL f l ∧ sumL f l ≤ 16 * B := by
  have h1 := sumL_bd h
  have h2 : (l.length : Int) * B ≤ 16 * B := Int.mul_le_mul_of_nonneg_right (by omega) hB
  omega
/-- Legs all of which may be. -/
def LegsB (l : List Lq) : Prop := l.length ≤ 16 ∧ ∀ x, x ∈ l → legB x = true
theorem LegsB.take {l : List Lq} (h : LegsB l) (k : Nat) : LegsB (l.take k) := ⟨by rw [List.length_take]; have := h.1; omega, fun x hx => h.2 x (List.mem_of_mem_take hx)⟩
theorem scR_bd {l : List Lq} (h : LegsB l) (r : Int) : 0 ≤ scR r l ∧ scR r l ≤ 1600000000000000 := sumL_16 h.1 (by omega) fun x hx => fS_bd (h.2 x hx)
theorem loR_bd {l : List Lq} (h : LegsB l) (r : Int) : 0 ≤ loR r l ∧ loR r l ≤ 160000000 := sumL_16 h.1 (by omega) fun x hx => fL_bd (h.2 x hx)
theorem soR_bd {l : List Lq} (h : LegsB l) (r : Int) : 0 ≤ soR r l ∧ soR r l ≤ 160000000 := sumL_16 h.1 (by omega) fun x hx => fN_bd (h.2 x hx)
theorem raL_bd {l : List Lq} (h : LegsB l) (r : Int) : 0 ≤ raL r l ∧ raL r l ≤ 10000000 := ⟨raL_pos fun x hx => (legB_cr (h.2 x hx)).1, raL_le r l⟩
theorem cre_bd {l : List Lq} (h : LegsB l) (r : Int) : 0 ≤ min (loR r l) (soR r l) * raL r l ∧ min (loR r l) (soR r l) * raL r l ≤ 1600000000000000 := by
  have h1 := loR_bd h r
  have h2 := soR_bd h r
  have h3 := raL_bd h r
  have h4 := mulb (a := min (loR r l) (soR r l)) (A := 160000000) (b := raL r l) (B := 10000000) (by omega) (by omega)
  exact ⟨Int.mul_nonneg (by omega) h3.1, by omega⟩
theorem marR_bd {l : List Lq} (h : LegsB l) (r : Int) : 0 ≤ marR r l ∧ marR r l ≤ scR r l := by
  have h1 := scR_bd h r
  have h2 := cre_bd h r
  unfold marR
  omega
theorem marU_bd {l : List Lq} (h : LegsB l) : ∀ n, 0 ≤ marU l n ∧ marU l n ≤ n * 1600000000000000
  | 0 => by unfold marU; omega
  | n + 1 => by
    have h1 := marU_bd h n
    have h2 := marR_bd h ((n : Int) + 1)
    have h3 := scR_bd h ((n : Int) + 1)
    unfold marU
    push_cast
    omega
end Go.Proofs.Ytcpcnjiphiokjaa
