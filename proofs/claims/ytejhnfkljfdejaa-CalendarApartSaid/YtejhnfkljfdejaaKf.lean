/- A frame: which blocks a call may turn; the document's plain calendar in memory. No program's function. -/
import Derived.Test.YtejhnfkljfdejaaKd
import Derived.Test.YtejhnfkljfdejaaQp
import Derived.Deep.AppendLies
import Derived.Deep.MidRow
namespace Go.Proofs.Ytejhnfkljfdejaa
open Go.RowKit

/-- Only blocks of S, and new ones, have turned. -/
structure Fr (S : Nat → Prop) (W W' : World) : Prop where
  b0 : Below 0 W W'
  at' : ∀ k, k < W.heap.size → ¬ S k → W'.heap[k]? = W.heap[k]?
theorem Fr.refl (S : Nat → Prop) (W : World) : Fr S W W := ⟨Below.refl 0 W, fun _ _ _ => rfl⟩
theorem Fr.trans {S T U : Nat → Prop} {a b c : World} (h : Fr S a b) (k : Fr T b c) (hS : ∀ k, S k → U k) (hT : ∀ k, k < a.heap.size → T k → U k) : Fr U a c :=
  ⟨h.b0.trans k.b0, fun i hi hn => (k.at' i (Nat.lt_of_lt_of_le hi h.b0.size) fun ht => hn (hT i hi ht)).trans (h.at' i hi fun hs => hn (hS i hs))⟩
theorem Fr.same {S : Nat → Prop} {a b c : World} (h : Fr S a b) (k : Fr S b c) : Fr S a c := h.trans k (fun _ h => h) (fun _ _ h => h)
theorem Fr.mono {S T : Nat → Prop} {a b : World} (h : Fr S a b) (hS : ∀ k, S k → T k) : Fr T a b := ⟨h.b0, fun i hi hn => h.at' i hi fun hs => hn (hS i hs)⟩
theorem Fr.below {S : Nat → Prop} {a b : World} (h : Below a.heap.size a b) : Fr S a b := ⟨h.mono (Nat.zero_le _), fun i hi _ => h.block i hi⟩
theorem Fr.set {S : Nat → Prop} {W : World} {p : Addr} (hp : S p.block) (u : Value) : Fr S W (W.setCell p u) :=
  ⟨(Below.refl 0 W).setCell (Nat.zero_le _) u, fun i _ hn => heap_setCell_other W p i u fun e => hn (e ▸ hp)⟩
theorem Fr.grown {S : Nat → Prop} {W W' : World} {row : Option Nat} (h : W.grownBy W' row) (hS : ∀ k, row = some k → S k) : Fr S W W' :=
  ⟨(Below.refl 0 W).grown h (Nat.zero_le _) (fun _ _ => Nat.zero_le _), fun i hi hn => h.block i hi fun e => hn (hS i e.symm)⟩
theorem Fr.size {S : Nat → Prop} {a b : World} (h : Fr S a b) : a.heap.size ≤ b.heap.size := h.b0.size

/-- The plain calendar at block g: a day, and a row of contracts of its own. -/
structure Rc (W : World) (B g : Nat) (v : Value) (d : Int) (cs : List Ct) : Prop where
  blk : W.heap[g]? = some (.cells #[.int .u32 d, v] 29 (0, 0))
  own : W.ownsRow B 45 27 v cs.length (flat cs)
  ge : B ≤ g
  le : cs.length ≤ 16
  ok : ∀ x, x ∈ cs → x.ok
  dy : 0 ≤ d ∧ d ≤ 4294967295
  one : ∃ A c, v = .slice A cs.length c
/-- What the plain calendar may turn. -/
def RcS (g : Nat) (v : Value) (k : Nat) : Prop := k = g ∨ v.ownBlock = some k
section
variable {W : World} {B g : Nat} {v : Value} {d : Int} {cs : List Ct}
theorem Rc.c0 (h : Rc W B g v d cs) : W.cell? ⟨g, 0, none⟩ = some (.int .u32 d) := by rw [cell_of_row _ _ _ _ _ _ h.blk]; rfl
theorem Rc.c1 (h : Rc W B g v d cs) : W.cell? ⟨g, 1, none⟩ = some v := by rw [cell_of_row _ _ _ _ _ _ h.blk]; rfl
theorem Rc.fz (h : Rc W B g v d cs) (j : Nat) : W.frozen? ⟨g, j, none⟩ = false := by simp [World.frozen?, h.blk]
theorem Rc.sh (h : Rc W B g v d cs) (x : Ct) (hx : x ∈ cs) : x.sp.sh.length = 16 := (h.ok x hx).sp.len
theorem Rc.form (h : Rc W B g v d cs) : (v = .slice none 0 0 ∧ cs = []) ∨ ∃ b c, v = .slice (some ⟨b, 0, none⟩) cs.length c ∧ B ≤ b ∧ b < W.heap.size := by
  rcases h.own.2 with ⟨e, n⟩ | ⟨b, c, cur, e, hb, hh, _⟩
  · exact .inl ⟨e, List.length_eq_zero_iff.1 n⟩
  · exact .inr ⟨b, c, e, hb, (Array.getElem?_eq_some_iff.1 hh).1⟩
theorem Rc.slot (h : Rc W B g v d cs) {k : Nat} (hk : k < cs.length) : ∃ b c, v = .slice (some ⟨b, 0, none⟩) cs.length c := by
  rcases h.form with ⟨_, rfl⟩ | ⟨b, c, e, _⟩
  · exact absurd hk (Nat.not_lt_zero k)
  · exact ⟨b, c, e⟩
theorem Rc.keep {S : Nat → Prop} {W' : World} (h : Rc W B g v d cs) (f : Fr S W W') (hg : ¬ S g) (hv : ∀ k, v.ownBlock = some k → ¬ S k) : Rc W' B g v d cs := by
  refine ⟨(f.at' g (Array.getElem?_eq_some_iff.1 h.blk).1 hg).trans h.blk, ?_, h.ge, h.le, h.ok, h.dy, h.one⟩
  refine ⟨h.own.1, ?_⟩
  rcases h.own.2 with e | ⟨b, c, cur, e, hb, hh, r⟩
  · exact .inl e
  · exact .inr ⟨b, c, cur, e, hb, (f.at' b (Array.getElem?_eq_some_iff.1 hh).1 (hv b (by rw [e]; rfl))).trans hh, r⟩
end
theorem Rc.at {W : World} {B g b c n : Nat} {d : Int} {cs : List Ct} (h : Rc W B g (.slice (some ⟨b, 0, none⟩) n c) d cs) {k : Nat} {x : Ct} (hk : cs[k]? = some x) {i : Nat} (hi : i < 27) : W.cell? ⟨b, k * 27 + i, none⟩ = x.cellL[i]? := by
  have hkl : k < cs.length := (List.getElem?_eq_some_iff.1 hk).1
  have o := h.own
  obtain ⟨A, c', e⟩ := h.one
  cases e
  rw [o.cellAt (k * 27 + i) (by omega), flat_at cs k x h.sh hk i hi]
/-- A cell of one contract is written. -/
theorem flat_set : ∀ (cs : List Ct) (k : Nat) (x y : Ct) (i : Nat) (u : Value), (∀ c, c ∈ cs → c.sp.sh.length = 16) → cs[k]? = some x → i < 27 → y.cellL = x.cellL.set i u → flat (cs.set k y) = (flat cs).set (k * 27 + i) u
  | [], k, x, y, i, u, _, h, _, _ => by simp at h
  | z :: cs, 0, x, y, i, u, hs, hk, hi, e => by
    obtain rfl : z = x := by simpa using hk
    have l := Ct.lenL (hs z (by simp))
    simp only [List.set_cons_zero, Nat.zero_mul, Nat.zero_add]
    show y.cellL ++ flat cs = (z.cellL ++ flat cs).set i u
    rw [List.set_append_left _ _ (by rw [l]; exact hi), e]
  | z :: cs, k + 1, x, y, i, u, hs, hk, hi, e => by
    have l := Ct.lenL (hs z (by simp))
    simp only [List.set_cons_succ]
    show z.cellL ++ flat (cs.set k y) = (z.cellL ++ flat cs).set ((k + 1) * 27 + i) u
    rw [List.set_append_right _ _ (by rw [l]; omega), l, show (k + 1) * 27 + i - 27 = k * 27 + i by omega, flat_set cs k x y i u (fun c hc => hs c (by simp [hc])) (by simpa using hk) hi e]
theorem Ct.set25 {c : Ct} (h : c.sp.sh.length = 16) (t : Int) : (Ct.mk c.sp t c.pr).cellL = c.cellL.set 25 (.int .u8 t) := by
  simp only [Ct.cellL]
  rw [List.set_append_right _ _ (by rw [Sp.lenL h]; omega), Sp.lenL h]; rfl
theorem Ct.set26 {c : Ct} (h : c.sp.sh.length = 16) (p : Int) : (Ct.mk c.sp c.st p).cellL = c.cellL.set 26 (.int .i64 p) := by
  simp only [Ct.cellL]
  rw [List.set_append_right _ _ (by rw [Sp.lenL h]; omega), Sp.lenL h]; rfl
theorem Rc.put {W : World} {B g b c n : Nat} {d : Int} {cs : List Ct} (h : Rc W B g (.slice (some ⟨b, 0, none⟩) n c) d cs) (hgb : g ≠ b) {k : Nat} {x y : Ct} (hk : cs[k]? = some x) {i : Nat} (hi : i < 27) {u : Value} (e : y.cellL = x.cellL.set i u) (ho : y.ok) :
    Rc (W.setCell ⟨b, k * 27 + i, none⟩ u) B g (.slice (some ⟨b, 0, none⟩) n c) d (cs.set k y) := by
  obtain ⟨A, c', e1⟩ := h.one
  obtain ⟨b', c1, cur, e2, hb, hh, hn, hm, hs, ht⟩ := h.own.2.resolve_left (fun c => by cases c.1)
  cases e1
  cases e2
  refine ⟨(heap_setCell_other W _ g u (by simpa using hgb)).trans h.blk, ?_, h.ge, by rw [List.length_set]; exact h.le, ?_, h.dy, ⟨_, _, by rw [List.length_set]⟩⟩
  · rw [List.length_set]
    refine ⟨?_, .inr ⟨b, c, cur.setIfInBounds (k * 27 + i) u, rfl, hb, heap_setCell_same W b _ cur _ _ hh, hn, hm, by rw [Array.size_setIfInBounds]; exact hs, ?_⟩⟩
    · rw [flat_len _ (fun z hz => ?_), List.length_set]
      rcases List.mem_or_eq_of_mem_set hz with q | rfl
      · exact h.sh z q
      · exact ho.sp.len
    · rw [Array.toList_setIfInBounds, List.take_set, ht, flat_set cs k x y i u h.sh hk hi e]
  · intro z hz
    rcases List.mem_or_eq_of_mem_set hz with q | rfl
    · exact h.ok z q
    · exact ho
theorem Rc.day {W : World} {B g : Nat} {v : Value} {d : Int} {cs : List Ct} (h : Rc W B g v d cs) (hgb : ∀ k, v.ownBlock = some k → k ≠ g) (d' : Int) (hd : 0 ≤ d' ∧ d' ≤ 4294967295) : Rc (W.setCell ⟨g, 0, none⟩ (.int .u32 d')) B g v d' cs := by
  refine ⟨heap_setCell_same W g 0 _ _ _ h.blk, ?_, h.ge, h.le, h.ok, hd, h.one⟩
  refine ⟨h.own.1, ?_⟩
  rcases h.own.2 with e | ⟨b, c, cur, e, hb, hh, r⟩
  · exact .inl e
  · exact .inr ⟨b, c, cur, e, hb, (heap_setCell_other W _ b _ (hgb b (by rw [e]; rfl))).trans hh, r⟩
/-- The row is another block than the calendar: their types differ. -/
theorem Rc.apart {W : World} {B g : Nat} {v : Value} {d : Int} {cs : List Ct} (h : Rc W B g v d cs) (k : Nat) (hk : v.ownBlock = some k) : k ≠ g := by
  rintro rfl
  rcases h.own.2 with ⟨e, _⟩ | ⟨b, c, cur, e, hb, hh, r⟩
  · rw [e] at hk; cases hk
  · rw [e] at hk
    cases hk
    rw [h.blk] at hh
    injection hh with hh
    injection hh with _ hh
    exact absurd hh (by decide)
/-- A contract's data, or a contract, read whole out of the middle of a row. -/
theorem Rc.rng {W : World} {B g b c n : Nat} {d : Int} {cs : List Ct} (h : Rc W B g (.slice (some ⟨b, 0, none⟩) n c) d cs) {k : Nat} {x : Ct} (hk : cs[k]? = some x) : W.rangeAt b (k * 27) x.cellL := fun j u hj => by
  have hl := Ct.lenL (h.sh x (List.mem_of_getElem? hk))
  rw [h.at hk (by have := (List.getElem?_eq_some_iff.1 hj).1; omega), hj]
theorem rng_sp {W : World} {b o : Nat} {x : Ct} (h : W.rangeAt b o x.cellL) : W.rangeAt b o x.sp.cellL := fun j u hj => by
  have hl := (List.getElem?_eq_some_iff.1 hj).1
  exact h j u (by rw [Ct.cellL, List.getElem?_append_left hl, hj])
def Ct.cells (c : Ct) : Array Value := c.cellL.toArray
theorem wl_load_spm {ops : Array Oper} {rest : List Oper} {a : Act} {w : World} {Q : Exit → Act → World → Prop} {d : Option Nat} {x : Operand} {ty : TypeId} {ps : String} {af : Array Edge} {s : Sp} (b o : Nat) (hl : s.sh.length = 16) (hb : w.rangeAt b o s.cellL)
    (hx : a.eval x = .pointer (some ⟨b, o, none⟩)) (h : wpList Try.prog ops Q rest (a.put d (.agg s.cells)) w) : wpList Try.prog ops Q (⟨d, .load 33 x, ty, ps, af, none⟩ :: rest) a w :=
  wpList_load_mid rfl 33 x rfl b o hx s.cellL _ hb Try.underlying33 rfl (by rw [info_sp, Sp.lenL hl]) h
theorem info_cs : (Try.prog.info? 45).map (fun i => i.size) = some 27 := by kernel_rfl
theorem wl_load_ctm {ops : Array Oper} {rest : List Oper} {a : Act} {w : World} {Q : Exit → Act → World → Prop} {d : Option Nat} {x : Operand} {ty : TypeId} {ps : String} {af : Array Edge} {s : Ct} (b o : Nat) (hl : s.sp.sh.length = 16) (hb : w.rangeAt b o s.cellL)
    (hx : a.eval x = .pointer (some ⟨b, o, none⟩)) (h : wpList Try.prog ops Q rest (a.put d (.agg s.cells)) w) : wpList Try.prog ops Q (⟨d, .load 45 x, ty, ps, af, none⟩ :: rest) a w :=
  wpList_load_mid rfl 45 x rfl b o hx s.cellL _ hb Try.underlying45 rfl (by rw [info_cs, Ct.lenL hl]) h
end Go.Proofs.Ytejhnfkljfdejaa
