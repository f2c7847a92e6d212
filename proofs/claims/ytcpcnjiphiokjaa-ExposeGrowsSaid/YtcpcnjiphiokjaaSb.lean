/- Orders as cells; what a side answers, and its orders behind a call; plain facts. -/
import Derived.Test.YtcpcnjiphiokjaaSa
namespace Go.Proofs.Ytcpcnjiphiokjaa
open Go.RowKit

def I64' (x : Int) : Prop := -9223372036854775808 ≤ x ∧ x ≤ 9223372036854775807
/-- An order. -/
structure Or where
  nu : Int
  ac : Int
  bu : Bool
  pr : Int
  le : Int
structure Or.ok (o : Or) : Prop where
  nu : 0 ≤ o.nu ∧ o.nu ≤ 18446744073709551615
  ac : 0 ≤ o.ac ∧ o.ac ≤ 4294967295
  pr : I64' o.pr
  le : I64' o.le
def Or.cells (o : Or) : List Value := [.int .u64 o.nu, .int .u32 o.ac, .bool o.bu, .int .i64 o.pr, .int .i64 o.le]
/-- Orders are structs of five cells. -/
def EO : Elt Or := ⟨Or.cells, 5, by decide, fun _ => rfl, fun x u hu => by
  simp only [Or.cells, List.mem_cons, List.not_mem_nil, or_false] at hu
  rcases hu with rfl | rfl | rfl | rfl | rfl <;> rfl⟩
def zeroOr : Or := ⟨0, 0, false, 0, 0⟩
theorem zeroOr_ok : zeroOr.ok := by constructor <;> simp [zeroOr, I64']
theorem TO : EltT Try.prog EO 31 41 := ⟨Try.underlying31, ⟨_, Try.underlying41⟩, ⟨.agg (EO.cells zeroOr).toArray, 32, by kernel_rfl, rfl, by decide⟩⟩
theorem Or.set4 (o : Or) (n : Int) : (Or.mk o.nu o.ac o.bu o.pr n).cells = o.cells.set 4 (.int .i64 n) := rfl

/-- May be. -/
def mayO (o : Or) : Bool := decide (0 < o.nu) && decide (0 < o.ac) && decide (0 < o.pr) && decide (o.pr ≤ 10000000) && decide (0 < o.le) && decide (o.le ≤ 1000000)
/-- Better, of two prices. -/
def btr (buy : Bool) (a b : Int) : Bool := (buy && decide (b < a)) || (!buy && decide (a < b))
theorem btr_irr (buy : Bool) (a : Int) : btr buy a a = false := by cases buy <;> simp [btr]
theorem btr_tr {buy : Bool} {a b c : Int} (h : btr buy a b = true) (k : btr buy c b = false) : btr buy a c = true := by
  cases buy <;> simp [btr] at h k ⊢ <;> omega
theorem btr_tot {buy : Bool} {a b : Int} (h : btr buy a b = false) (k : btr buy b a = false) : a = b := by
  cases buy <;> simp [btr] at h k <;> omega
theorem btr_tr' {buy : Bool} {a b c : Int} (h : btr buy b a = false) (k : btr buy c b = false) : btr buy c a = false := by
  cases buy <;> simp [btr] at h k ⊢ <;> omega
theorem btr_as {buy : Bool} {a b : Int} (h : btr buy a b = true) : btr buy b a = false := by
  cases buy <;> simp [btr] at h ⊢ <;> omega
/-- An order comes: behind all that are better or as good. -/
def insO (buy : Bool) (o : Or) : List Or → List Or
  | [] => [o]
  | x :: r => if btr buy o.pr x.pr then o :: x :: r else x :: insO buy o r
/-- In the order of a side, out of the order in which they came. -/
def sortO (buy : Bool) (l : List Or) : List Or := l.foldl (fun s o => insO buy o s) []
theorem sort_snoc (buy : Bool) (l : List Or) (o : Or) : sortO buy (l ++ [o]) = insO buy o (sortO buy l) := by simp [sortO]
theorem ins_mem {buy : Bool} {o x : Or} : ∀ {l : List Or}, x ∈ insO buy o l ↔ x = o ∨ x ∈ l
  | [] => by simp [insO]
  | y :: r => by
    unfold insO
    split
    · simp
    · rw [List.mem_cons, ins_mem, List.mem_cons]
      constructor
      · rintro (h | h | h)
        · exact .inr (.inl h)
        · exact .inl h
        · exact .inr (.inr h)
      · rintro (h | h | h)
        · exact .inr (.inl h)
        · exact .inl h
        · exact .inr (.inr h)
theorem insO_len (buy : Bool) (o : Or) : ∀ l : List Or, (insO buy o l).length = l.length + 1
  | [] => rfl
  | y :: r => by
    unfold insO
    split
    · rfl
    · rw [List.length_cons, insO_len buy o r, List.length_cons]
theorem snoc_ind {α : Type} {P : List α → Prop} (h0 : P []) (h1 : ∀ l x, P l → P (l ++ [x])) (l : List α) : P l := by
  have key : ∀ r : List α, P r.reverse := by
    intro r
    induction r with
    | nil => exact h0
    | cons x r ih => rw [List.reverse_cons]; exact h1 _ x ih
  have := key l.reverse
  rwa [List.reverse_reverse] at this
theorem sort_len (buy : Bool) (l : List Or) : (sortO buy l).length = l.length := by
  refine snoc_ind (P := fun l => (sortO buy l).length = l.length) rfl (fun l o ih => ?_) l
  rw [sort_snoc, insO_len, ih, List.length_append]; rfl
theorem sort_mem {buy : Bool} {x : Or} {l : List Or} : x ∈ sortO buy l ↔ x ∈ l := by
  refine snoc_ind (P := fun l => x ∈ sortO buy l ↔ x ∈ l) Iff.rfl (fun l o ih => ?_) l
  rw [sort_snoc, ins_mem, ih, List.mem_append, List.mem_singleton]
  exact ⟨fun h => h.elim .inr .inl, fun h => h.elim .inr .inl⟩
end Go.Proofs.Ytcpcnjiphiokjaa
