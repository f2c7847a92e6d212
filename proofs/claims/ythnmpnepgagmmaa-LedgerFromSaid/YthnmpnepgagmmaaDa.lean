/- Accounts, positions, variations as cells; the document's ledger in memory: the fund, and both lists in rows of its own. -/
import Derived.Test.YthnmpnepgagmmaaSa
import Derived.Test.YthnmpnepgagmmaaUb
namespace Go.Proofs.Ythnmpnepgagmmaa
open Go.RowKit Go.Shelf
set_option linter.unusedVariables false

/-- An account. -/
structure Ac where
  nu : Int
  ca : Int
  ki : Bool
  de : Bool
structure Ac.ok (a : Ac) : Prop where
  nu : 0 ≤ a.nu ∧ a.nu ≤ 4294967295
  ca : -9223372036854775808 ≤ a.ca ∧ a.ca ≤ 9223372036854775807
def Ac.cells (a : Ac) : List Value := [.int .u32 a.nu, .int .i64 a.ca, .bool a.ki, .bool a.de]
def EA : Elt Ac := ⟨Ac.cells, 4, by decide, fun _ => rfl, fun x u hu => by
  simp only [Ac.cells, List.mem_cons, List.not_mem_nil, or_false] at hu
  rcases hu with rfl | rfl | rfl | rfl <;> rfl⟩
def zeroAc : Ac := ⟨0, 0, false, false⟩
theorem TA : EltT Try.prog EA 26 33 := ⟨Try.underlying26, ⟨_, Try.underlying33⟩, ⟨.agg (EA.cells zeroAc).toArray, 24, by kernel_rfl, rfl, by decide⟩⟩
theorem zero_ac (w : World) : (zeroValue 33).run Try.prog w = .ok (.agg (EA.cells zeroAc).toArray) w := by kernel_rfl
/-- A position. -/
structure Po where
  co : Int
  ac : Int
  q : Int
  b : Int
structure Po.ok (p : Po) : Prop where
  co : 0 ≤ p.co ∧ p.co ≤ 4294967295
  ac : 0 ≤ p.ac ∧ p.ac ≤ 4294967295
  q : -9223372036854775808 ≤ p.q ∧ p.q ≤ 9223372036854775807
  b : -9223372036854775808 ≤ p.b ∧ p.b ≤ 9223372036854775807
def Po.cells (p : Po) : List Value := [.int .u32 p.co, .int .u32 p.ac, .int .i64 p.q, .int .i64 p.b]
def EP : Elt Po := ⟨Po.cells, 4, by decide, fun _ => rfl, fun x u hu => by
  simp only [Po.cells, List.mem_cons, List.not_mem_nil, or_false] at hu
  rcases hu with rfl | rfl | rfl | rfl <;> rfl⟩
def zeroPo : Po := ⟨0, 0, 0, 0⟩
theorem TP : EltT Try.prog EP 27 47 := ⟨Try.underlying27, ⟨_, Try.underlying47⟩, ⟨.agg (EP.cells zeroPo).toArray, 24, by kernel_rfl, rfl, by decide⟩⟩
theorem zero_po (w : World) : (zeroValue 47).run Try.prog w = .ok (.agg (EP.cells zeroPo).toArray) w := by kernel_rfl
/-- A variation. -/
structure Va where
  ac : Int
  v : Int
structure Va.ok (p : Va) : Prop where
  ac : 0 ≤ p.ac ∧ p.ac ≤ 4294967295
  v : -9223372036854775808 ≤ p.v ∧ p.v ≤ 9223372036854775807
def Va.cells (p : Va) : List Value := [.int .u32 p.ac, .int .i64 p.v]
def EV : Elt Va := ⟨Va.cells, 2, by decide, fun _ => rfl, fun x u hu => by
  simp only [Va.cells, List.mem_cons, List.not_mem_nil, or_false] at hu
  rcases hu with rfl | rfl <;> rfl⟩
def zeroVa : Va := ⟨0, 0⟩
theorem TV : EltT Try.prog EV 42 62 := ⟨Try.underlying42, ⟨_, Try.underlying62⟩, ⟨.agg (EV.cells zeroVa).toArray, 16, by kernel_rfl, rfl, by decide⟩⟩
theorem zero_va (w : World) : (zeroValue 62).run Try.prog w = .ok (.agg (EV.cells zeroVa).toArray) w := by kernel_rfl
/-- The plain ledger. -/
structure Lg where
  fund : Int
  al : List Ac
  hl : List Po
/-- Its facts: as many accounts as may be, and all cash in bounds; lists that may be built. -/
structure LgOk (L : Lg) : Prop where
  fund : 0 ≤ L.fund ∧ L.fund ≤ 1000000000000000
  ok : ∀ a, a ∈ L.al → a.ok
  cash : ∀ a, a ∈ L.al → 0 ≤ a.ca ∧ a.ca ≤ 1000000000000000
  len : L.al.length ≤ 64
  pok : ∀ p, p ∈ L.hl → p.ok
  pb : ∀ p, p ∈ L.hl → (-10000000 ≤ p.q ∧ p.q ≤ 10000000) ∧ (-1000000000000000 ≤ p.b ∧ p.b ≤ 1000000000000000)
  hlen : L.hl.length ≤ 2000
/-- The document's ledger in memory. -/
structure Rl (W : World) (B g : Nat) (va vh : Value) (L : Lg) : Prop where
  blk : W.heap[g]? = some (.cells #[.int .i64 L.fund, va, vh] 29 (0, 0))
  oa : EA.Own 33 W B va L.al
  oh : EP.Own 47 W B vh L.hl
  ge : B ≤ g
section
variable {W W' : World} {B g : Nat} {va vh : Value} {L : Lg}
theorem Rl.c0 (h : Rl W B g va vh L) : W.cell? ⟨g, 0, none⟩ = some (.int .i64 L.fund) := by rw [cell_of_row _ _ _ _ _ _ h.blk]; rfl
theorem Rl.c1 (h : Rl W B g va vh L) : W.cell? ⟨g, 1, none⟩ = some va := by rw [cell_of_row _ _ _ _ _ _ h.blk]; rfl
theorem Rl.c2 (h : Rl W B g va vh L) : W.cell? ⟨g, 2, none⟩ = some vh := by rw [cell_of_row _ _ _ _ _ _ h.blk]; rfl
theorem Rl.fz (h : Rl W B g va vh L) (j : Nat) : W.frozen? ⟨g, j, none⟩ = false := by simp [World.frozen?, h.blk]
theorem Rl.gl (h : Rl W B g va vh L) : g < W.heap.size := (Array.getElem?_eq_some_iff.1 h.blk).1
theorem Rl.apartA (h : Rl W B g va vh L) (k : Nat) (hk : va.ownBlock = some k) : k ≠ g := by
  rintro rfl
  obtain ⟨cur, hh⟩ := gown_cells h.oa hk
  rw [h.blk] at hh
  injection hh with hh
  injection hh with _ hh
  exact absurd hh (by decide)
theorem Rl.apartH (h : Rl W B g va vh L) (k : Nat) (hk : vh.ownBlock = some k) : k ≠ g := by
  rintro rfl
  obtain ⟨cur, hh⟩ := gown_cells h.oh hk
  rw [h.blk] at hh
  injection hh with hh
  injection hh with _ hh
  exact absurd hh (by decide)
/-- Its blocks. -/
def RlS (g : Nat) (va vh : Value) (k : Nat) : Prop := k = g ∨ va.ownBlock = some k ∨ vh.ownBlock = some k
theorem Rl.keep {S : Nat → Prop} (h : Rl W B g va vh L) (f : Fr S W W') (hS : ∀ k, RlS g va vh k → ¬ S k) : Rl W' B g va vh L :=
  ⟨(f.at' g h.gl (hS g (.inl rfl))).trans h.blk, gown_fr h.oa f (fun k hk => hS k (.inr (.inl hk))), gown_fr h.oh f (fun k hk => hS k (.inr (.inr hk))), h.ge⟩
theorem Rl.below (h : Rl W B g va vh L) (q : Below W.heap.size W W') : Rl W' B g va vh L := h.keep (S := fun _ => False) (Fr.below q) (fun _ _ h => h)
theorem Rl.drewN (h : Rl W B g va vh L) (n : Nat) : Rl (W.drewN n) B g va vh L := ⟨h.blk, h.oa, h.oh, h.ge⟩
theorem Rl.lt (h : Rl W B g va vh L) {k : Nat} (hk : RlS g va vh k) : B ≤ k ∧ k < W.heap.size := by
  rcases hk with rfl | hk | hk
  · exact ⟨h.ge, h.gl⟩
  · exact gown_lt h.oa hk
  · exact gown_lt h.oh hk
theorem Rl.low {B' : Nat} (h : Rl W B g va vh L) (hB : B' ≤ B) : Rl W B' g va vh L := ⟨h.blk, gown_low h.oa hB, gown_low h.oh hB, Nat.le_trans hB h.ge⟩
end
/-- Where an account stands: -1, or its place. -/
def atL (al : List Ac) (n : Int) : Int := match al.findIdx? (fun x => x.nu == n) with | some k => (k : Int) | none => -1
theorem atL_hit {al : List Ac} {n : Int} {k : Nat} {x : Ac} (hx : al[k]? = some x) (hp : x.nu = n) (hn : ∀ (j : Nat) (y : Ac), j < k → al[j]? = some y → y.nu ≠ n) : atL al n = k := by
  obtain ⟨hk, rfl⟩ := List.getElem?_eq_some_iff.1 hx
  have e : al.findIdx? (fun x => x.nu == n) = some k := List.findIdx?_eq_some_iff_getElem.2 ⟨hk, beq_iff_eq.2 hp, fun j hj c => hn j _ hj (List.getElem?_eq_getElem _) (beq_iff_eq.1 c)⟩
  unfold atL; rw [e]
theorem atL_miss {al : List Ac} {n : Int} (hn : ∀ (j : Nat) (y : Ac), al[j]? = some y → y.nu ≠ n) : atL al n = -1 := by
  have e : al.findIdx? (fun x => x.nu == n) = none := List.findIdx?_eq_none_iff.2 fun y hy => by
    obtain ⟨j, hj⟩ := List.getElem?_of_mem hy
    exact beq_eq_false_iff_ne.2 (hn j y hj)
  unfold atL; rw [e]
theorem atL_cases (al : List Ac) (n : Int) : (atL al n = -1 ∧ ∀ y, y ∈ al → y.nu ≠ n) ∨ ∃ (k : Nat) (x : Ac), atL al n = k ∧ al[k]? = some x ∧ x.nu = n := by
  unfold atL
  cases e : al.findIdx? (fun x => x.nu == n) with
  | none => exact .inl ⟨rfl, fun y hy => by have := List.findIdx?_eq_none_iff.1 e y hy; exact beq_eq_false_iff_ne.1 this⟩
  | some k =>
    obtain ⟨hk, hp, _⟩ := List.findIdx?_eq_some_iff_getElem.1 e
    exact .inr ⟨k, _, rfl, List.getElem?_eq_getElem hk, beq_iff_eq.1 hp⟩
def cashL (al : List Ac) : Int := (al.map (·.ca)).sum
def fundsL (L : Lg) : Int := L.fund + cashL L.al
def findP (hl : List Po) (c a : Int) : Option Po := hl.find? fun p => p.co == c && p.ac == a
/-- A position, or noughts. -/
def posL (hl : List Po) (c a : Int) : Po := match findP hl c a with | some p => p | none => ⟨c, a, 0, 0⟩
end Go.Proofs.Ythnmpnepgagmmaa
