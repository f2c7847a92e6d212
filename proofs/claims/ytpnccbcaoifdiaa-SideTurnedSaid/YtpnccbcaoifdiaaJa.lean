/- The program's side in memory: orders that stand, with how many had come. -/
import Derived.Test.YtpnccbcaoifdiaaSx
import Derived.Test.YtpnccbcaoifdiaaUa
namespace Go.Proofs.Ytpnccbcaoifdiaa
open Go.RowKit
set_option linter.unusedVariables false

/-- An order that stands. -/
structure St where
  o : Or
  cm : Int
structure St.ok (x : St) : Prop where
  o : x.o.ok
  cm : 0 ≤ x.cm ∧ x.cm ≤ 18446744073709551615
def St.cells (x : St) : List Value := [.int .u64 x.o.nu, .int .u32 x.o.ac, .bool x.o.bu, .int .i64 x.o.pr, .int .i64 x.o.le, .int .u64 x.cm]
def ESt : Elt St := ⟨St.cells, 6, by decide, fun _ => rfl, fun x u hu => by
  simp only [St.cells, List.mem_cons, List.not_mem_nil, or_false] at hu
  rcases hu with rfl | rfl | rfl | rfl | rfl | rfl <;> rfl⟩
def zeroSt : St := ⟨zeroOr, 0⟩
theorem zeroSt_ok : zeroSt.ok := ⟨zeroOr_ok, by decide⟩
theorem TSt : EltT Try.prog ESt 49 66 := ⟨Try.underlying49, ⟨_, Try.underlying66⟩, ⟨.agg (ESt.cells zeroSt).toArray, 40, by kernel_rfl, rfl, by decide⟩⟩
theorem zero_st (w : World) : (zeroValue 66).run Try.prog w = .ok (.agg (ESt.cells zeroSt).toArray) w := by kernel_rfl
def osOf (l : List St) : List Or := l.map (·.o)
/-- a stands ahead of b. -/
def ahB (buy : Bool) (a b : St) : Bool := if a.o.pr = b.o.pr then decide (a.cm < b.cm) else btr buy a.o.pr b.o.pr
theorem ahB_irr (buy : Bool) (a : St) : ahB buy a a = false := by simp [ahB]
theorem ahB_as {buy : Bool} {a b : St} (h : ahB buy a b = true) : ahB buy b a = false := by
  unfold ahB at h ⊢
  split at h
  · rename_i e
    rw [if_pos e.symm]
    have := of_decide_eq_true h
    exact decide_eq_false (by omega)
  · rename_i e
    rw [if_neg (fun c => e c.symm)]
    exact btr_as h
/-- The program's side at block g: whether it buys, how many have come, a row of those that stand, in their order. -/
structure Ds (W : World) (g : Nat) (v : Value) (buy : Bool) (c : Int) (l : List St) : Prop where
  blk : W.heap[g]? = some (.cells #[.bool true, .bool buy, .int .u64 c, v] 51 (0, 0))
  own : ESt.Own 66 W 0 v l
  inv : InvO buy (osOf l)
  cm : ∀ x, x ∈ l → 0 ≤ x.cm ∧ x.cm ≤ c
  asc : l.Pairwise fun x y => ahB buy x y = true
  nn : 0 ≤ c ∧ c ≤ 18446744073709551615
/-- Its blocks. -/
def DsS (g : Nat) (v : Value) (k : Nat) : Prop := k = g ∨ v.ownBlock = some k
section
variable {W W' : World} {g : Nat} {v : Value} {buy : Bool} {c : Int} {l : List St}
theorem Ds.c0 (h : Ds W g v buy c l) : W.cell? ⟨g, 0, none⟩ = some (.bool true) := by rw [cell_of_row _ _ _ _ _ _ h.blk]; rfl
theorem Ds.c1 (h : Ds W g v buy c l) : W.cell? ⟨g, 1, none⟩ = some (.bool buy) := by rw [cell_of_row _ _ _ _ _ _ h.blk]; rfl
theorem Ds.c2 (h : Ds W g v buy c l) : W.cell? ⟨g, 2, none⟩ = some (.int .u64 c) := by rw [cell_of_row _ _ _ _ _ _ h.blk]; rfl
theorem Ds.c3 (h : Ds W g v buy c l) : W.cell? ⟨g, 3, none⟩ = some v := by rw [cell_of_row _ _ _ _ _ _ h.blk]; rfl
theorem Ds.fz (h : Ds W g v buy c l) (j : Nat) : W.frozen? ⟨g, j, none⟩ = false := by simp [World.frozen?, h.blk]
theorem Ds.gl (h : Ds W g v buy c l) : g < W.heap.size := (Array.getElem?_eq_some_iff.1 h.blk).1
theorem Ds.vl (h : Ds W g v buy c l) (k : Nat) (hk : v.ownBlock = some k) : k < W.heap.size := (gown_lt h.own hk).2
theorem Ds.sl (h : Ds W g v buy c l) {k : Nat} (hk : DsS g v k) : k < W.heap.size := hk.elim (fun e => e ▸ h.gl) (h.vl k)
theorem Ds.le (h : Ds W g v buy c l) : l.length ≤ 100 := by have := h.inv.len; rwa [osOf, List.length_map] at this
theorem Ds.ok (h : Ds W g v buy c l) (x : St) (hx : x ∈ l) : x.ok := ⟨h.inv.ok _ (List.mem_map.2 ⟨x, hx, rfl⟩), by have := h.cm x hx; have := h.nn; omega⟩
theorem Ds.keep {S : Nat → Prop} (h : Ds W g v buy c l) (f : Fr S W W') (hS : ∀ k, DsS g v k → ¬ S k) : Ds W' g v buy c l :=
  ⟨(f.at' g h.gl (hS g (.inl rfl))).trans h.blk, gown_fr h.own f (fun k hk => hS k (.inr hk)), h.inv, h.cm, h.asc, h.nn⟩
theorem Ds.below (h : Ds W g v buy c l) (q : Below W.heap.size W W') : Ds W' g v buy c l := h.keep (S := fun _ => False) (Fr.below q) (fun _ _ h => h)
theorem Ds.same (h : Ds W g v buy c l) (hb : ∀ k, DsS g v k → (∃ c t f, W.heap[k]? = some (.cells c t f)) → W'.heap[k]? = W.heap[k]?) : Ds W' g v buy c l :=
  ⟨(hb g (.inl rfl) ⟨_, _, _, h.blk⟩).trans h.blk, gown_same h.own (fun k hk => hb k (.inr hk) (by obtain ⟨cur, e⟩ := gown_cells h.own hk; exact ⟨_, _, _, e⟩)), h.inv, h.cm, h.asc, h.nn⟩
/-- The row is another block than the side: their types differ. -/
theorem Ds.apart (h : Ds W g v buy c l) (k : Nat) (hk : v.ownBlock = some k) : k ≠ g := by
  rintro rfl
  obtain ⟨cur, e⟩ := gown_cells h.own hk
  rw [h.blk] at e
  injection e with e
  injection e with _ e
  exact absurd e (by decide)
theorem Ds.form (h : Ds W g v buy c l) : ∃ A cp, v = .slice A l.length cp ∧ (A = none → cp = 0) := gown_form h.own
theorem Ds.slot (h : Ds W g v buy c l) (hk : 0 < l.length) : ∃ b cp, v = .slice (some ⟨b, 0, none⟩) l.length cp := gown_slot h.own hk
end
/-- An order is the beginning of one that stands. -/
theorem st_or {w : World} {b o : Nat} {x : St} (h : w.rangeAt b o (ESt.cells x)) : w.rangeAt b o (EO.cells x.o) := fun j u hj => h j u (by
  have hl := (List.getElem?_eq_some_iff.1 hj).1
  rw [EO.len] at hl
  have : j < 5 := hl
  rw [← hj]
  match j, this with
  | 0, _ => rfl
  | 1, _ => rfl
  | 2, _ => rfl
  | 3, _ => rfl
  | 4, _ => rfl)
theorem st_cell {w : World} {b o : Nat} {x : St} (h : w.rangeAt b o (ESt.cells x)) (j : Nat) (hj : j < 6) : w.cell? ⟨b, o + j, none⟩ = (ESt.cells x)[j]? := by
  have hl : j < (ESt.cells x).length := by rw [ESt.len]; exact hj
  rw [h j _ (List.getElem?_eq_getElem hl), List.getElem?_eq_getElem hl]
end Go.Proofs.Ytpnccbcaoifdiaa
