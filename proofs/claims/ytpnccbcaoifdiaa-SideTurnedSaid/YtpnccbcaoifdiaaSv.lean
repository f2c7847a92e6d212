/- The document's plain side, said of its orders in their order. -/
import Derived.Test.YtpnccbcaoifdiaaSu
namespace Go.Proofs.Ytpnccbcaoifdiaa
open Go.RowKit
set_option linter.unusedVariables false

def findO (os : List Or) (n : Int) : Option Or := os.find? fun x => x.nu == n
def addA (buy : Bool) (os : List Or) (o : Or) : Int := if (mayO o && o.bu == buy) = false then 2 else if (findO os o.nu).isSome = true then 8 else if 100 ≤ os.length then 9 else 0
def addO (buy : Bool) (os : List Or) (o : Or) : List Or := if addA buy os o = 0 then insO buy o os else os
def fillA : List Or → Int → Int
  | [], _ => 7
  | x :: _, n => if n < 1 ∨ x.le < n then 2 else 0
def fillX : List Or → Int → Or
  | [], _ => zeroOr
  | x :: _, n => if n < 1 ∨ x.le < n then zeroOr else x.wi (x.le - n)
def fillO : List Or → Int → List Or
  | [], _ => []
  | x :: r, n => if n < 1 ∨ x.le < n then x :: r else if x.le - n = 0 then r else x.wi (x.le - n) :: r
def getA (os : List Or) (n : Int) : Int := match findO os n with | none => 7 | some _ => 0
def getX (os : List Or) (n : Int) : Or := (findO os n).getD zeroOr
def dropO (os : List Or) (n : Int) : List Or := os.filter fun y => y.nu != n
def lowA (os : List Or) (n left : Int) : Int := match findO os n with | none => 7 | some x => lowE x left
def lowO (os : List Or) (n left : Int) : List Or := if lowA os n left = 0 then os.map (fun z => if z.nu = n then z.wi left else z) else os

theorem dis_uniq {x y : Or} : ∀ {l : List Or}, Dis l → x ∈ l → y ∈ l → x.nu = y.nu → x = y
  | [], _, hx, _, _ => by simp at hx
  | z :: r, h, hx, hy, e => by
    obtain ⟨h1, h2⟩ := List.pairwise_cons.1 h
    rcases List.mem_cons.1 hx with e1 | hx
    · rcases List.mem_cons.1 hy with e2 | hy
      · rw [e1, e2]
      · exact absurd (by rw [← e, e1]) (h1 y hy)
    · rcases List.mem_cons.1 hy with e2 | hy
      · exact absurd (by rw [e, e2]) (h1 x hx)
      · exact dis_uniq h2 hx hy e
/-- As they came, and in their order. -/
structure Ms (buy : Bool) (l os : List Or) : Prop where
  so : sortO buy l = os
  di : Dis l
  ma : ∀ x, x ∈ l → mayO x = true ∧ x.bu = buy
theorem may_le {x : Or} (h : mayO x = true) : 0 < x.nu ∧ 0 < x.ac ∧ (0 < x.pr ∧ x.pr ≤ 10000000) ∧ 0 < x.le ∧ x.le ≤ 1000000 := by
  unfold mayO at h
  simp only [Bool.and_eq_true, decide_eq_true_eq] at h
  omega
section
variable {buy : Bool} {l os : List Or} {n : Int} {k : Nat} {x : Or}
theorem Ms.nil : Ms buy [] [] := ⟨rfl, List.Pairwise.nil, fun x h => by simp at h⟩
theorem Ms.len (h : Ms buy l os) : os.length = l.length := by rw [← h.so, sort_len]
theorem Ms.mem (h : Ms buy l os) : x ∈ os ↔ x ∈ l := by rw [← h.so]; exact sort_mem
theorem Ms.none (h : Ms buy l os) (hn : ∀ y, y ∈ l → y.nu ≠ n) : findO os n = none :=
  List.find?_eq_none.2 fun y hy => by simpa using hn y (h.mem.1 hy)
theorem Ms.some (h : Ms buy l os) (hx : x ∈ l) (e : x.nu = n) : findO os n = some x := by
  cases hf : findO os n with
  | none => exact absurd (beq_iff_eq.2 e) (List.find?_eq_none.1 hf x (h.mem.2 hx))
  | some y =>
    have h1 := List.mem_of_find?_eq_some hf
    have h2 := List.find?_some hf
    rw [dis_uniq h.di (h.mem.1 h1) hx ((beq_iff_eq.1 h2).trans e.symm)]
theorem Ms.erase (h : Ms buy l os) (hx : l[k]? = Option.some x) (e : x.nu = n) : Ms buy (l.eraseIdx k) (dropO os n) := by
  subst e
  refine ⟨?_, ?_, fun y hy => h.ma y (List.mem_of_mem_eraseIdx hy)⟩
  · rw [dis_erase h.di hx, sort_filter, h.so]; rfl
  · rw [dis_erase h.di hx]; exact dis_filter _ h.di
/-- Another rest at a place is another rest at a number. -/
theorem Ms.maps (h : Ms buy l os) (hx : l[k]? = Option.some x) (e : x.nu = n) (m : Int) : l.set k (x.wi m) = l.map fun z => if z.nu = n then z.wi m else z := by
  subst e
  rw [dis_set h.di hx (show (x.wi m).nu = x.nu from rfl)]
  refine List.map_congr_left fun z hz => ?_
  by_cases c : z.nu = x.nu
  · rw [if_pos c, if_pos c, dis_uniq h.di hz (List.mem_of_getElem? hx) c]
  · rw [if_neg c, if_neg c]
theorem wi_nu (c : Prop) [Decidable c] (z : Or) (m : Int) : (if c then z.wi m else z).nu = z.nu := by split <;> rfl
theorem wi_pr (c : Prop) [Decidable c] (z : Or) (m : Int) : (if c then z.wi m else z).pr = z.pr := by split <;> rfl
theorem wi_bu (c : Prop) [Decidable c] (z : Or) (m : Int) : (if c then z.wi m else z).bu = z.bu := by split <;> rfl
theorem may_wi {z : Or} {m : Int} (h : mayO z = true) (h1 : 0 < m) (h2 : m ≤ z.le) : mayO (z.wi m) = true := by
  have := may_le h
  unfold mayO Or.wi
  simp only [Bool.and_eq_true, decide_eq_true_eq]
  omega
theorem Ms.low (h : Ms buy l os) (hx : l[k]? = Option.some x) (e : x.nu = n) {m : Int} (h1 : 0 < m) (h2 : m ≤ x.le) : Ms buy (l.set k (x.wi m)) (os.map fun z => if z.nu = n then z.wi m else z) := by
  refine ⟨?_, ?_, ?_⟩
  · rw [h.maps hx e, sort_map _ _ (fun z => wi_pr _ z m), h.so]
  · rw [h.maps hx e]; exact dis_map _ (fun z => wi_nu _ z m) h.di
  · intro y hy
    rcases List.mem_or_eq_of_mem_set hy with q | rfl
    · exact h.ma y q
    · have := h.ma x (List.mem_of_getElem? hx)
      exact ⟨may_wi this.1 h1 h2, this.2⟩
theorem Ms.snoc (h : Ms buy l os) {o : Or} (hn : ∀ y, y ∈ l → y.nu ≠ o.nu) (hm : mayO o = true) (hb : o.bu = buy) : Ms buy (l ++ [o]) (insO buy o os) := by
  refine ⟨by rw [sort_snoc, h.so], dis_snoc h.di hn, fun y hy => ?_⟩
  rcases List.mem_append.1 hy with q | q
  · exact h.ma y q
  · rw [List.mem_singleton.1 q]; exact ⟨hm, hb⟩
/-- The first one, and what is left. -/
theorem Ms.head (h : Ms buy l os) (hl : l ≠ []) : ∃ (k : Nat) (x : Or) (r : List Or), fstO buy l l.length = k ∧ l[k]? = Option.some x ∧ os = x :: r ∧ Ms buy (l.eraseIdx k) r ∧ ∀ m, 0 < m → m ≤ x.le → Ms buy (l.set k (x.wi m)) (x.wi m :: r) := by
  obtain ⟨k, x, h1, h2, h3⟩ := sort_sel buy l hl
  have e : os = x :: sortO buy (l.eraseIdx k) := by rw [← h.so, h3]
  have hm : Ms buy (l.eraseIdx k) (sortO buy (l.eraseIdx k)) := ⟨rfl, by rw [dis_erase h.di h2]; exact dis_filter _ h.di, fun y hy => h.ma y (List.mem_of_mem_eraseIdx hy)⟩
  refine ⟨k, x, _, h1, h2, e, hm, fun m m1 m2 => ?_⟩
  have q := h.low h2 rfl m1 m2
  have e2 : (os.map fun z => if z.nu = x.nu then z.wi m else z) = x.wi m :: sortO buy (l.eraseIdx k) := by
    rw [e, List.map_cons, if_pos rfl]
    congr 1
    refine (List.map_congr_left (g := id) fun z hz => ?_).trans (List.map_id _)
    rw [if_neg]; rfl
    have hz' := hm.mem.1 hz
    rw [dis_erase h.di h2] at hz'
    simpa using (List.mem_filter.1 hz').2
  rw [e2] at q
  exact q
theorem Ms.isnil (h : Ms buy l os) (hl : l = []) : os = [] := by rw [← h.so, hl]; rfl
end
end Go.Proofs.Ytpnccbcaoifdiaa
