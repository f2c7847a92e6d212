/- Maps in memory as lists in any order, whatever the key and the element: made, read, written, gone over; plain facts, no program's function, no program's type. -/
import Derived.Test.YthnmpnepgagmmaaSa
import Derived.Maps.RangeWalk
import Derived.DeepKeys4
namespace Go.Proofs.Ythnmpnepgagmmaa
open Go.RowKit Go.MapKept
open Go.Maps (Keyed)
open Go.ChangeMaps (setBlock)
open Go.ChangeMaps (heap_setBlock_same heap_setBlock_other)
set_option linter.unusedVariables false
set_option linter.unusedSimpArgs false
set_option linter.unusedSectionVars false

/-- A kind of map: which key an element stands at, how both look, which keys may be. -/
structure MapT (α κ : Type) (P : Program) (k : TypeId) where
  key : α → κ
  kv : κ → Value
  vv : α → Value
  ok : κ → Prop
  K : Keyed P k
  lit : ∀ c, ok c → ∃ l, keyOf P k (kv c) = some l
  inj : ∀ c d, kv c = kv d → c = d
section
variable {α κ : Type} [DecidableEq κ] {P : Program} {k t e : TypeId} (M : MapT α κ P k)
def MapT.pf (x : α) : Value × Value := (M.kv (M.key x), M.vv x)
def pr9 (e : MapEntry) : Value × Value := (e.key, e.val)
/-- The map in block b holds just these. -/
def MapT.Mp (w : World) (b : Nat) (l : List α) : Prop :=
  ∃ es clock, w.heap[b]? = some (.map es clock) ∧ Stamped es clock ∧ (es.toList.map pr9).Perm (l.map M.pf) ∧ ∀ x, x ∈ l → M.ok (M.key x)
/-- All but the one at c. -/
def MapT.but (l : List α) (c : κ) : List α := l.filter fun x => decide (M.key x ≠ c)
variable {M} {w W : World} {b r : Nat} {l l' : List α}
theorem MapT.Mp.perm (h : M.Mp w b l) (p : l.Perm l') : M.Mp w b l' := by
  obtain ⟨es, clock, hb, st, hp, ok⟩ := h
  exact ⟨es, clock, hb, st, hp.trans (p.map _), fun x hx => ok x (p.mem_iff.2 hx)⟩
theorem MapT.Mp.same (h : M.Mp w b l) (e : W.heap[b]? = w.heap[b]?) : M.Mp W b l := by
  obtain ⟨es, clock, hb, r⟩ := h
  exact ⟨es, clock, e.trans hb, r⟩
theorem MapT.Mp.lt (h : M.Mp w b l) : b < w.heap.size := by
  obtain ⟨es, clock, hb, r⟩ := h
  exact (Array.getElem?_eq_some_iff.1 hb).1
theorem MapT.Mp.blk (h : M.Mp w b l) : ∃ es clock, w.heap[b]? = some (.map es clock) := by
  obtain ⟨es, clock, hb, r⟩ := h
  exact ⟨_, _, hb⟩
theorem MapT.Mp.below (h : M.Mp w b l) (q : Below w.heap.size w W) : M.Mp W b l := h.same (q.block b h.lt)
theorem MapT.Mp.fr {S : Nat → Prop} (h : M.Mp w b l) (f : Fr S w W) (hS : ¬ S b) : M.Mp W b l := h.same (f.at' b h.lt hS)
theorem MapT.Mp.okl (h : M.Mp w b l) : ∀ x, x ∈ l → M.ok (M.key x) := by
  obtain ⟨es, clock, hb, st, hp, ok⟩ := h
  exact ok
theorem MapT.Mp.made (w : World) : M.Mp (w.alloc (.map #[] 0)) w.heap.size [] :=
  ⟨#[], 0, (MapKept.heap_alloc w _).1, stamped_empty 0, by simp, fun x h => by cases h⟩
theorem nodup_fst {es : List MapEntry} (hn : (es.map (·.key)).Nodup) (hp : (es.map pr9).Perm (l.map M.pf)) : l.Pairwise fun x y => M.key x ≠ M.key y := by
  have h1 : ((es.map pr9).map Prod.fst) = es.map (·.key) := by simp [List.map_map, Function.comp_def, pr9]
  have h2 : ((l.map M.pf).map Prod.fst) = l.map fun x => M.kv (M.key x) := by simp [List.map_map, Function.comp_def, MapT.pf]
  have h3 := hp.map Prod.fst
  rw [h1, h2] at h3
  have h4 := h3.nodup_iff.1 hn
  unfold List.Nodup at h4
  rw [List.pairwise_map] at h4
  exact h4.imp fun {a b} h c => h (by rw [c])
/-- No key twice. -/
theorem MapT.Mp.dis (h : M.Mp w b l) : l.Pairwise fun x y => M.key x ≠ M.key y := by
  obtain ⟨es, clock, hb, st, hp, ok⟩ := h
  exact nodup_fst st.2.2 hp
theorem dis_one {x y : α} : ∀ {l : List α}, (l.Pairwise fun x y => M.key x ≠ M.key y) → x ∈ l → y ∈ l → M.key x = M.key y → x = y
  | [], _, hx, _, _ => by cases hx
  | a :: l, d, hx, hy, e => by
    obtain ⟨d1, d2⟩ := List.pairwise_cons.1 d
    rcases List.mem_cons.1 hx with e1 | h1
    · rcases List.mem_cons.1 hy with e2 | h2
      · rw [e1, e2]
      · exact absurd (e1 ▸ e) (d1 y h2)
    · rcases List.mem_cons.1 hy with e2 | h2
      · exact absurd (e2 ▸ e).symm (d1 x h1)
      · exact dis_one d2 h1 h2 e
/-- The one at c. -/
def MapT.at (M : MapT α κ P k) (l : List α) (c : κ) : Option α := l.find? fun x => decide (M.key x = c)
theorem at_none {c : κ} (h : ∀ x, x ∈ l → M.key x ≠ c) : M.at l c = none := List.find?_eq_none.2 fun x hx => by simpa using h x hx
theorem at_some {c : κ} {x : α} (d : l.Pairwise fun x y => M.key x ≠ M.key y) (hx : x ∈ l) (e : M.key x = c) : M.at l c = some x := by
  unfold MapT.at
  cases h : l.find? fun x => decide (M.key x = c) with
  | none => exact absurd e (by simpa using List.find?_eq_none.1 h x hx)
  | some y =>
    have h1 := List.mem_of_find?_eq_some h
    have h2 := List.find?_some h
    rw [dis_one d h1 hx ((by simpa using h2 : M.key y = c).trans e.symm)]
theorem at_inv {c : κ} {x : α} (h : M.at l c = some x) : x ∈ l ∧ M.key x = c := ⟨List.mem_of_find?_eq_some h, by have := List.find?_some h; simpa using this⟩
theorem at_not {c : κ} (h : M.at l c = none) : ∀ x, x ∈ l → M.key x ≠ c := fun x hx => by simpa using List.find?_eq_none.1 h x hx
theorem but_all {c : κ} (h : ∀ x, x ∈ l → M.key x ≠ c) : M.but l c = l := List.filter_eq_self.2 fun x hx => by simpa using h x hx
theorem mem_but {c : κ} {x : α} : x ∈ M.but l c ↔ x ∈ l ∧ M.key x ≠ c := by unfold MapT.but; rw [List.mem_filter]; simp
/-- What findKey answers, and what the entries look like then. -/
theorem find9 {es : Array MapEntry} (ok : ∀ x, x ∈ l → M.ok (M.key x)) (st : (es.toList.map (·.key)).Nodup) (hp : (es.toList.map pr9).Perm (l.map M.pf)) (w : World) {c : κ} (hc : M.ok c) :
    ((Instr.findKey k (M.kv c) es.toList).run P w = .ok none w ∧ (∀ e ∈ es.toList, e.key ≠ M.kv c) ∧ ∀ x, x ∈ l → M.key x ≠ c) ∨
    ∃ (e : MapEntry) (x : α) (j : Nat), (Instr.findKey k (M.kv c) es.toList).run P w = .ok (some (j, e.val)) w ∧ es.toList[j]? = some e ∧ e.key = M.kv c ∧ x ∈ l ∧ M.key x = c ∧ e.val = M.vv x ∧
      ((es.toList.eraseIdx j).map pr9).Perm ((M.but l c).map M.pf) := by
  have hmem : ∀ e, e ∈ es.toList → ∃ x, x ∈ l ∧ pr9 e = M.pf x := fun e he => by
    obtain ⟨x, hx, h⟩ := List.mem_map.1 (hp.mem_iff.1 (List.mem_map.2 ⟨e, he, rfl⟩))
    exact ⟨x, hx, h.symm⟩
  obtain ⟨lc, hlc⟩ := M.lit c hc
  rcases M.K.find w hlc es.toList (fun e he => by
    obtain ⟨x, hx, h⟩ := hmem e he
    obtain ⟨q, hq⟩ := M.lit _ (ok x hx)
    exact ⟨q, by rw [show e.key = M.kv (M.key x) from congrArg Prod.fst h]; exact hq⟩) with ⟨h1, h2⟩ | ⟨j, e, h1, h2, h3⟩
  · refine .inl ⟨h1, h2, fun x hx cc => ?_⟩
    obtain ⟨e, he, h⟩ := List.mem_map.1 (hp.mem_iff.2 (List.mem_map.2 ⟨x, hx, rfl⟩))
    exact h2 e he (by rw [← cc]; exact congrArg Prod.fst h)
  · obtain ⟨x, hx, h⟩ := hmem e (List.mem_of_getElem? h2)
    have hk : M.key x = c := M.inj _ _ ((congrArg Prod.fst h).symm.trans h3)
    refine .inr ⟨e, x, j, h1, h2, h3, hx, hk, congrArg Prod.snd h, ?_⟩
    have d := nodup_fst st hp
    obtain ⟨L1, L2, hL⟩ := List.append_of_mem hx
    have hbut : M.but l c = L1 ++ L2 := by
      rw [hL] at d ⊢
      have d1 := List.pairwise_append.1 d
      unfold MapT.but
      rw [List.filter_append, List.filter_cons, if_neg (by simpa using hk)]
      rw [List.filter_eq_self.2 (fun y hy => by
        have := d1.2.2 y hy x (List.mem_cons_self ..)
        rw [hk] at this
        simpa using this), List.filter_eq_self.2 (fun y hy => by
        have := (List.pairwise_cons.1 d1.2.1).1 y hy
        rw [hk] at this
        simpa using this.symm)]
    rw [hbut]
    obtain ⟨hj, ej⟩ := List.getElem?_eq_some_iff.1 h2
    have p1 : (pr9 e :: (es.toList.eraseIdx j).map pr9).Perm (es.toList.map pr9) := by
      rw [← List.map_cons]
      refine List.Perm.map _ ?_
      have := (Go.ChangeMaps.set_perm es.toList j hj e).symm
      rw [← ej, List.set_getElem_self] at this
      rw [← ej]
      exact this
    have p2 : (l.map M.pf).Perm (M.pf x :: (L1 ++ L2).map M.pf) := by
      rw [← List.map_cons, hL]
      exact List.Perm.map _ List.perm_middle
    have p3 := p1.trans (hp.trans p2)
    rw [h] at p3
    exact p3.cons_inv
/-- What a look-up answers. -/
def MapT.res (M : MapT α κ P k) (z : Value) : Option α → Value
  | some x => .tuple #[M.vv x, .bool true]
  | none => .tuple #[z, .bool false]
theorem MapT.Mp.look (h : M.Mp w b l) (ht : P.underlying t = some (.map k e)) {z : Value} (hz : (zeroValue e).run P w = .ok z w) {c : κ} (hc : M.ok c) :
    (Instr.lookup t (.map (some b)) (M.kv c) true).run P w = .ok (M.res z (M.at l c)) w := by
  have d := h.dis
  obtain ⟨es, clock, hb, st, hp, ok⟩ := h
  obtain ⟨lc, hlc⟩ := M.lit c hc
  rcases find9 ok st.2.2 hp w hc with ⟨h1, h2, h3⟩ | ⟨e0, x, j, h1, h2, h3, hx, hk, hv, _⟩
  · rw [at_none h3]
    simp [Instr.lookup, run_underlying ht, MapKept.run_getObj_map hb, M.K.check w _ hlc, h1, hz, Result.andThen, MapT.res]
  · rw [at_some d hx hk]
    simp [Instr.lookup, run_underlying ht, MapKept.run_getObj_map hb, M.K.check w _ hlc, h1, Result.andThen, MapT.res, hv]
theorem fr_block {o o' : Obj} (hb : w.heap[b]? = some o) : Fr (fun k => k = b) w (setBlock w b o') :=
  ⟨⟨rfl, rfl, rfl, by simp [setBlock], fun i hi => absurd hi (Nat.not_lt_zero i)⟩, fun i _ hi => by
    show (w.heap.setIfInBounds b o')[i]? = _
    rw [Array.getElem?_setIfInBounds_ne (Ne.symm hi)]⟩
theorem MapT.Mp.put (h : M.Mp w b l) (ht : P.underlying t = some (.map k e)) (x : α) (hc : M.ok (M.key x)) :
    ∃ W, (Instr.mapUpdate t (.map (some b)) (M.kv (M.key x)) (M.vv x)).run P w = .ok () W ∧ M.Mp W b (x :: M.but l (M.key x)) ∧ Fr (fun k => k = b) w W := by
  obtain ⟨es, clock, hb, st, hp, ok⟩ := h
  obtain ⟨lc, hlc⟩ := M.lit _ hc
  have okn : ∀ y, y ∈ x :: M.but l (M.key x) → M.ok (M.key y) := fun y hy => by
    rcases List.mem_cons.1 hy with rfl | hy
    · exact hc
    · exact ok y (mem_but.1 hy).1
  rcases find9 ok st.2.2 hp w hc with ⟨h1, h2, h3⟩ | ⟨e0, x0, j, h1, h2, h3, hx, hk, hv, hq⟩
  · refine ⟨setBlock w b (.map (es.push ⟨M.kv (M.key x), M.vv x, clock⟩) (clock + 1)), ?_, ⟨_, _, heap_setBlock_same hb _, stamped_push st h2, ?_, okn⟩, fr_block hb⟩
    · simp [Instr.mapUpdate, run_underlying ht, MapKept.run_getObj_map hb, M.K.check w false hlc, h1, MapKept.run_setObj_map _ hb, Result.andThen, setBlock]
    · rw [but_all h3, Array.toList_push, List.map_append, List.map_cons, List.map_nil, List.map_cons]
      exact (List.perm_append_singleton _ _).trans (hp.cons _)
  · have hj : es[j]? = some e0 := by simpa using h2
    have hjl : j < es.toList.length := (List.getElem?_eq_some_iff.1 h2).1
    have hkeyf : ∀ e', es[j]? = some e' → ({ e' with key := M.kv (M.key x), val := M.vv x } : MapEntry).key = e'.key := fun e' he' => by rw [hj] at he'; cases he'; exact h3.symm
    have hlist : (es.modify j (fun e' => { e' with key := M.kv (M.key x), val := M.vv x })).toList = es.toList.set j { e0 with key := M.kv (M.key x), val := M.vv x } := by rw [Array.toList_modify, Go.ChangeMaps.modify_eq_set _ _ _ _ h2]
    refine ⟨setBlock w b (.map (es.modify j (fun e' => { e' with key := M.kv (M.key x), val := M.vv x })) clock), ?_, ⟨_, _, heap_setBlock_same hb _, stamped_modify st _ _ (fun _ _ => rfl) (fun e' _ he' => hkeyf e' he'), ?_, okn⟩, fr_block hb⟩
    · simp [Instr.mapUpdate, run_underlying ht, MapKept.run_getObj_map hb, M.K.check w false hlc, h1, hj, h3, M.K.stays w hlc, MapKept.run_setObj_map _ hb, Result.andThen, setBlock]
    · rw [hlist, List.map_cons]
      exact ((Go.ChangeMaps.set_perm _ _ hjl _).map _).trans (by rw [List.map_cons]; exact hq.cons _)
theorem MapT.Mp.del (h : M.Mp w b l) (ht : P.underlying t = some (.map k e)) {c : κ} (hc : M.ok c) (ty : TypeId) :
    ∃ W, (Builtin.delete_ #[t, k] ty #[.map (some b), M.kv c]).run P w = .ok (.tuple #[]) W ∧ M.Mp W b (M.but l c) ∧ Fr (fun k => k = b) w W := by
  obtain ⟨es, clock, hb, st, hp, ok⟩ := h
  obtain ⟨lc, hlc⟩ := M.lit _ hc
  rcases find9 ok st.2.2 hp w hc with ⟨h1, h2, h3⟩ | ⟨e0, x0, j, h1, h2, h3, hx, hk, hv, hq⟩
  · refine ⟨setBlock w b (.map es clock), ?_, ⟨_, _, heap_setBlock_same hb _, st, by rw [but_all h3]; exact hp, fun y hy => ok y (mem_but.1 hy).1⟩, fr_block hb⟩
    simp [Builtin.delete_, run_underlying ht, MapKept.run_getObj_map hb, M.K.check w _ hlc, h1, MapKept.run_setObj_map _ hb, Result.andThen, setBlock]
  · have hjl : j < es.toList.length := (List.getElem?_eq_some_iff.1 h2).1
    have hsub : (es.eraseIdxIfInBounds j).toList = es.toList.eraseIdx j := by
      unfold Array.eraseIdxIfInBounds
      rw [dif_pos (by simpa using hjl)]
      simp
    refine ⟨setBlock w b (.map (es.eraseIdxIfInBounds j) clock), ?_, ⟨_, _, heap_setBlock_same hb _, stamped_erase st j, by rw [hsub]; exact hq, fun y hy => ok y (mem_but.1 hy).1⟩, fr_block hb⟩
    simp [Builtin.delete_, run_underlying ht, MapKept.run_getObj_map hb, M.K.check w _ hlc, h1, MapKept.run_setObj_map _ hb, Result.andThen, setBlock]
theorem MapT.Mp.len (h : M.Mp w b l) (ht : P.underlying t = some (.map k e)) (ty : TypeId) : (Builtin.len_ #[t] ty #[.map (some b)]).run P w = .ok (.int .i64 l.length) w := by
  obtain ⟨es, clock, hb, st, hp, ok⟩ := h
  have e1 : es.size = l.length := by have := hp.length_eq; simpa using this
  simp [Builtin.len_, run_underlying ht, MapKept.run_getObj_map hb, goInt, Result.andThen, e1]
/-- A copy: the same entries in a new block. -/
theorem MapT.Mp.copy (h : M.Mp w b l) : ∃ es clock, w.heap[b]? = some (.map es clock) ∧ M.Mp (w.alloc (.map es clock)) w.heap.size l := by
  obtain ⟨es, clock, hb, st, hp, ok⟩ := h
  exact ⟨es, clock, hb, es, clock, (MapKept.heap_alloc w _).1, st, hp, ok⟩
variable (M) in
/-- A range under way: those still to come. -/
def MapT.Rg (w : World) (r b : Nat) (l todo : List α) : Prop :=
  ∃ es clock since seen c0, w.heap[b]? = some (.map es clock) ∧ Stamped es clock ∧ (es.toList.map pr9).Perm (l.map M.pf) ∧ (∀ x, x ∈ l → M.ok (M.key x)) ∧ w.heap[r]? = some (.mapIter (some b) since seen c0) ∧
    (∀ x ∈ es.toList, x.born < since) ∧ since ≤ c0 ∧ since ≤ clock ∧ ((leftOf es seen).toList.map pr9).Perm (todo.map M.pf) ∧ ∀ x, x ∈ todo → x ∈ l
variable {todo : List α}
theorem MapT.Rg.mp (h : M.Rg w r b l todo) : M.Mp w b l := by
  obtain ⟨es, clock, since, seen, c0, hb, st, hp, ok, _⟩ := h
  exact ⟨es, clock, hb, st, hp, ok⟩
theorem MapT.Rg.iter (h : M.Rg w r b l todo) : ∃ s sn c, w.heap[r]? = some (.mapIter (some b) s sn c) := by
  obtain ⟨es, clock, since, seen, c0, hb, st, hp, ok, hr, _⟩ := h
  exact ⟨_, _, _, hr⟩
theorem MapT.Rg.lt (h : M.Rg w r b l todo) : r < w.heap.size := by
  obtain ⟨_, _, _, hr⟩ := h.iter
  exact (Array.getElem?_eq_some_iff.1 hr).1
theorem MapT.Rg.same (h : M.Rg w r b l todo) (e1 : W.heap[b]? = w.heap[b]?) (e2 : W.heap[r]? = w.heap[r]?) : M.Rg W r b l todo := by
  obtain ⟨es, clock, since, seen, c0, hb, st, hp, ok, hr, q⟩ := h
  exact ⟨es, clock, since, seen, c0, e1.trans hb, st, hp, ok, e2.trans hr, q⟩
theorem MapT.Rg.below (h : M.Rg w r b l todo) (q : Below w.heap.size w W) : M.Rg W r b l todo := h.same (q.block b h.mp.lt) (q.block r h.lt)
/-- How many are still to come, read off the world. -/
theorem MapT.Rg.left (h : M.Rg w r b l todo) : w.rangeLeft b r = todo.length := by
  obtain ⟨es, clock, since, seen, c0, hb, st, hp, ok, hr, _, _, _, q, _⟩ := h
  simp only [World.rangeLeft, hb, hr]
  have := q.length_eq
  simpa using this
theorem MapT.Rg.sub (h : M.Rg w r b l todo) : ∀ x, x ∈ todo → x ∈ l := by
  obtain ⟨es, clock, since, seen, c0, hb, st, hp, ok, hr, _, _, _, q, s⟩ := h
  exact s
theorem MapT.Mp.range (h : M.Mp w b l) (ht : P.underlying t = some (.map k e)) :
    ∃ W, (Instr.range t (.map (some b))).run P w = .ok (.pointer (some ⟨w.heap.size, 0, none⟩)) W ∧ M.Rg W w.heap.size b l l ∧ Below w.heap.size w W ∧ w.heap.size < W.heap.size := by
  have hlt := h.lt
  obtain ⟨es, clock, hb, st, hp, ok⟩ := h
  refine ⟨_, run_range_map w t k e b es clock ht hb, ⟨es, clock, clock, #[], clock, ((MapKept.heap_alloc w _).2 b hlt).trans hb, st, hp, ok, (MapKept.heap_alloc w _).1, st.1, Nat.le_refl _, Nat.le_refl _, ?_, fun _ h => h⟩, below_new w _, by simp⟩
  have e1 : (leftOf es #[]).toList = es.toList := by unfold leftOf; simp
  rw [e1]
  exact hp
theorem MapT.Rg.next (h : M.Rg w r b l todo) (ty : TypeId) :
    (todo = [] ∧ (Instr.next (.pointer (some ⟨r, 0, none⟩)) false ty).run P w = .ok (.tuple #[.bool false]) w) ∨
    ∃ x todo' W, todo.Perm (x :: todo') ∧ (Instr.next (.pointer (some ⟨r, 0, none⟩)) false ty).run P w = .ok (.tuple #[.bool true, M.kv (M.key x), M.vv x]) W ∧ M.Rg W r b l todo' ∧ Fr (fun k => k = r) w W ∧ W.heap.size = w.heap.size ∧
      (Instr.entry (.pointer (some ⟨r, 0, none⟩))).run P W = .ok (.tuple #[M.kv (M.key x), M.vv x]) W := by
  obtain ⟨es, clock, since, seen, c0, hb, st, hp, ok, hr, hold, hsc, hsk, q, sub⟩ := h
  have hne : b ≠ r := fun e => by rw [e, hr] at hb; cases hb
  rcases run_next_at (P := P) w ty r b since c0 seen es clock hr hb hold hsc with ⟨h0, hrun⟩ | ⟨e0, he, w1, hal, hrun⟩
  · refine .inl ⟨?_, hrun⟩
    have := q.length_eq
    simp [h0] at this
    first | exact this | exact this.symm | exact List.length_eq_zero_iff.1 this.symm
  · obtain ⟨hem, hes⟩ := mem_left he
    have hst := (stamped_iff es clock).1 st
    obtain ⟨x, hx, hpx⟩ := List.mem_map.1 (q.mem_iff.1 (List.mem_map.2 ⟨e0, he, rfl⟩))
    obtain ⟨L1, L2, hL⟩ := List.append_of_mem hx
    have ek : e0.key = M.kv (M.key x) := (congrArg Prod.fst hpx).symm
    have ev : e0.val = M.vv x := (congrArg Prod.snd hpx).symm
    have hr1 : w1.heap[r]? = some (.mapIter (some b) since seen c0) := by rcases hal with rfl | rfl <;> exact hr
    have hb1 : w1.heap[b]? = some (.map es clock) := by rcases hal with rfl | rfl <;> exact hb
    have hw1 : w1.heap = w.heap := by rcases hal with rfl | rfl <;> rfl
    have hbW : (setBlock w1 r (.mapIter (some b) since (seen.push e0.born) clock)).heap[b]? = some (.map es clock) := by
      show (w1.heap.setIfInBounds r _)[b]? = _
      rw [Array.getElem?_setIfInBounds_ne (Ne.symm hne)]; exact hb1
    have hrW : (setBlock w1 r (.mapIter (some b) since (seen.push e0.born) clock)).heap[r]? = some (.mapIter (some b) since (seen.push e0.born) clock) := by
      show (w1.heap.setIfInBounds r _)[r]? = _
      rw [Array.getElem?_setIfInBounds_self_of_lt (Array.getElem?_eq_some_iff.1 hr1).1]
    refine .inr ⟨x, L1 ++ L2, _, by rw [hL]; exact List.perm_middle, by rw [← ek, ← ev]; exact hrun, ⟨es, clock, since, seen.push e0.born, clock, hbW, st, hp, ok, hrW, hold, by omega, hsk, ?_, fun y hy => sub y ?_⟩, ?_, ?_, ?_⟩
    · have e1 : (leftOf es (seen.push e0.born)).toList = (leftOf es seen).toList.filter (fun y => y.born != e0.born) := by
        unfold leftOf
        rw [Array.toList_filter, Array.toList_filter, List.filter_filter]
        congr 1
        funext y
        by_cases h1 : y.born = e0.born <;> by_cases h2 : y.born ∈ seen <;> simp [h1, h2]
      rw [e1]
      obtain ⟨A, C, hA⟩ := List.append_of_mem he
      have hnd : ((leftOf es seen).toList.map (·.born)).Nodup := by
        have : (leftOf es seen).toList.Sublist es.toList := by unfold leftOf; rw [Array.toList_filter]; exact List.filter_sublist
        exact (this.map _).nodup st.2.1
      rw [hA] at hnd q ⊢
      rw [List.map_append, List.map_cons] at hnd
      have hn2 := List.nodup_append.1 hnd
      have hn3 := List.nodup_cons.1 hn2.2.1
      have f1 : A.filter (fun y => y.born != e0.born) = A := List.filter_eq_self.2 fun y hy => by
        have := hn2.2.2 y.born (List.mem_map.2 ⟨y, hy, rfl⟩) e0.born (List.mem_cons_self ..)
        simpa using this
      have f2 : C.filter (fun y => y.born != e0.born) = C := List.filter_eq_self.2 fun y hy => by
        have : y.born ≠ e0.born := fun c => hn3.1 (by rw [← c]; exact List.mem_map.2 ⟨y, hy, rfl⟩)
        simpa using this
      rw [List.filter_append, List.filter_cons, if_neg (by simp), f1, f2]
      rw [hL] at q
      have p1 : ((A ++ e0 :: C).map pr9).Perm (pr9 e0 :: (A ++ C).map pr9) := by rw [← List.map_cons]; exact List.Perm.map _ List.perm_middle
      have p2 : ((L1 ++ x :: L2).map M.pf).Perm (M.pf x :: (L1 ++ L2).map M.pf) := by rw [← List.map_cons]; exact List.Perm.map _ List.perm_middle
      have p3 := p1.symm.trans (q.trans p2)
      rw [← hpx] at p3
      exact p3.cons_inv
    · rw [hL]
      rcases List.mem_append.1 hy with h | h
      · exact List.mem_append.2 (.inl h)
      · exact List.mem_append.2 (.inr (List.mem_cons_of_mem _ h))
    · refine ⟨⟨?_, ?_, ?_, ?_, fun i hi => absurd hi (Nat.not_lt_zero i)⟩, fun i _ hi => ?_⟩
      · rcases hal with rfl | rfl <;> rfl
      · rcases hal with rfl | rfl <;> rfl
      · rcases hal with rfl | rfl <;> rfl
      · simp [setBlock, hw1]
      · show (w1.heap.setIfInBounds r _)[i]? = _
        rw [Array.getElem?_setIfInBounds_ne (Ne.symm hi), hw1]
    · simp [setBlock, hw1]
    · rw [← ek, ← ev]
      exact run_entry_at _ r b since seen es clock e0 hrW hbW hem st.2.1
end
/-! At the operations. -/
section
variable {α κ : Type} [DecidableEq κ] {P : Program} {k e : TypeId} {M : MapT α κ P k} (w : World) {ops : Array Oper} {rest : List Oper} {o : Oper} {a : Act} {Q : Exit → Act → World → Prop} {b r : Nat} {l : List α}
theorem wp9_look {w : World} {K : Act → World → Prop} (m x : Operand) (t : TypeId) (hop : o.op = Op.lookup t m x true) (ht : P.underlying t = some (.map k e)) {z : Value} (hz : (zeroValue e).run P w = .ok z w)
    (hm : a.eval m = .map (some b)) (h : M.Mp w b l) {c : κ} (hx : a.eval x = M.kv c) (hc : M.ok c) (hK : K (a.put o.dst (M.res z (M.at l c))) w) : o.wp P a w K Q := by
  unfold Oper.wp
  simp [execOp, hop, hm, hx, h.look ht hz hc, Result.andThen]
  exact hK
theorem wpl9_look (hg : o.guard = none) (m x : Operand) (t : TypeId) (hop : o.op = Op.lookup t m x true) (ht : P.underlying t = some (.map k e)) {z : Value} (hz : (zeroValue e).run P w = .ok z w)
    (hm : a.eval m = .map (some b)) (h : M.Mp w b l) {c : κ} (hx : a.eval x = M.kv c) (hc : M.ok c) (hK : wpList P ops Q rest (a.put o.dst (M.res z (M.at l c))) w) : wpList P ops Q (o :: rest) a w :=
  wpList_plain hg fun K' hK' => wp9_look m x t hop ht hz hm h hx hc (hK' _ _ hK)
theorem wp9_put {w : World} {K : Act → World → Prop} (m x v : Operand) (t : TypeId) (hop : o.op = Op.mapUpdate t m x v) (ht : P.underlying t = some (.map k e))
    (hm : a.eval m = .map (some b)) (h : M.Mp w b l) (y : α) (hx : a.eval x = M.kv (M.key y)) (hv : a.eval v = M.vv y) (hc : M.ok (M.key y))
    (hK : ∀ W, M.Mp W b (y :: M.but l (M.key y)) → Fr (fun k => k = b) w W → K (a.put o.dst undef) W) : o.wp P a w K Q := by
  obtain ⟨W, hrun, r1, r2⟩ := h.put ht y hc
  unfold Oper.wp
  simp [execOp, hop, hm, hx, hv, hrun, Result.andThen]
  exact hK W r1 r2
theorem wp9_del {w : World} {K : Act → World → Prop} (m x : Operand) (t : TypeId) (hop : o.op = Op.call { callee := Callee.builtin Builtin.delete, args := #[m, x], argTypes := #[t, k] }) (ht : P.underlying t = some (.map k e))
    (hm : a.eval m = .map (some b)) (h : M.Mp w b l) {c : κ} (hx : a.eval x = M.kv c) (hc : M.ok c)
    (hK : ∀ W, M.Mp W b (M.but l c) → Fr (fun k => k = b) w W → K (a.put o.dst (.tuple #[])) W) : o.wp P a w K Q := by
  obtain ⟨W, hrun, r1, r2⟩ := h.del ht hc o.type
  unfold Oper.wp
  simp [execOp, hop, resolve, invoke, builtin, hm, hx, hrun, Result.andThen]
  exact hK W r1 r2
theorem wpl9_range (hg : o.guard = none) (m : Operand) (t : TypeId) (hop : o.op = Op.range t m) (ht : P.underlying t = some (.map k e)) (hm : a.eval m = .map (some b)) (h : M.Mp w b l)
    (hK : ∀ W, M.Rg W w.heap.size b l l → Below w.heap.size w W → w.heap.size < W.heap.size → wpList P ops Q rest (a.put o.dst (.pointer (some ⟨w.heap.size, 0, none⟩))) W) : wpList P ops Q (o :: rest) a w := by
  refine wpList_plain hg fun K' hK' => ?_
  obtain ⟨W, hrun, r1, r2, r3⟩ := h.range ht
  unfold Oper.wp
  simp [execOp, hop, hm, hrun, Result.andThen]
  exact hK' _ _ (hK W r1 r2 r3)
theorem wpl9_next (hg : o.guard = none) (it : Operand) (hop : o.op = Op.next it false) {todo : List α} (hit : a.eval it = .pointer (some ⟨r, 0, none⟩)) (h : M.Rg w r b l todo)
    (hDone : todo = [] → wpList P ops Q rest (a.put o.dst (.tuple #[.bool false])) w)
    (hMore : ∀ x todo' W, todo.Perm (x :: todo') → M.Rg W r b l todo' → Fr (fun k => k = r) w W → W.heap.size = w.heap.size → (Instr.entry (.pointer (some ⟨r, 0, none⟩))).run P W = .ok (.tuple #[M.kv (M.key x), M.vv x]) W →
      wpList P ops Q rest (a.put o.dst (.tuple #[.bool true, M.kv (M.key x), M.vv x])) W) : wpList P ops Q (o :: rest) a w := by
  refine wpList_plain hg fun K' hK' => ?_
  unfold Oper.wp
  rcases h.next o.type with ⟨h0, hrun⟩ | ⟨x, todo', W, hp, hrun, hr, hf, hs, he⟩
  · simp [execOp, hop, hit, hrun, Result.andThen]
    exact hK' _ _ (hDone h0)
  · simp [execOp, hop, hit, hrun, Result.andThen]
    exact hK' _ _ (hMore x todo' W hp hr hf hs he)
end
end Go.Proofs.Ythnmpnepgagmmaa
