/- The walk of the statement CalendarApart, given the program's calendar. -/
import Derived.Test.YtejhnfkljfdejaaKl
import Derived.Test.YtejhnfkljfdejaaKe
namespace Go.Proofs.Ytejhnfkljfdejaa
open Go.RowKit Go.Shelf

/-- Ahead of a call on it: the calendar and the list that grows are kept by whatever keeps their blocks. -/
theorem Od.begin {Pc : PcT} {w W0 W : World} {F : Nat → Prop} {g : Nat} {d : Int} {cs : List Ct} {X : List (Nat × Obj)} (hp : Pc W F g d cs) (b0 : Below w.heap.size w W0) (b : Below W0.heap.size W0 W) (hF : ∀ k, F k → W0.heap.size ≤ k)
    (hX : ∀ p, p ∈ X → W0.heap[p.1]? = some p.2) : Od Pc w X W g d cs (.slice none 0 0) [] :=
  ⟨F, hp, b0.trans (b.mono b0.size), fun k hk => Nat.le_trans b0.size (hF k hk), ⟨rfl, .inl ⟨rfl, rfl⟩⟩, fun k e => (by cases e), fun z hz => (by cases hz), fun p hx => by
    have hl := (Array.getElem?_eq_some_iff.1 (hX p hx)).1
    exact ⟨(b.block _ hl).trans (hX p hx), fun c => by have := hF _ c; omega, fun e => by cases e⟩⟩
theorem Od.c_list {Pc : PcT} {zc : Array Value} (K : CalK Pc zc) {w W : World} {X : List (Nat × Obj)} {g : Nat} {v : Value} {d : Int} {cs gs : List Ct} {s : Sp} (h : Od Pc w X W g d cs v gs) (hs : s.ok) : Calls Try.prog 12 #[.pointer (some ⟨g, 0, none⟩), .agg s.cells] W fun e W' => e = .returned (.int .i64 (listA d cs s)) ∧ Od Pc w X W' g d (listC d cs s) v gs := by
  obtain ⟨F, h⟩ := h
  exact (K.list h.pc hs).mono fun e W' q => ⟨q.1, h.aft q.2⟩
/-- The blocks that no call turns: the number, the answer, the copied list, the marks. -/
def X5 (w : World) (nu : Int) (wb : Nat) (v : Value) (Ds : List Nat) : List (Nat × Obj) := [(w.heap.size, Obj.cells #[.int .u32 nu] 26 (0, 0)), (w.heap.size + 1, Obj.cells #[.bool false] 4 (0, 0)), (wb, Obj.cells #[v] 27 (0, 0))] ++ Ds.map fun D => (D, Obj.deferred (some []))
/-- The same contracts, but for those of one number, whose data are the same. -/
def Alike (cs cs2 : List Ct) (nu : Int) : Prop := cs2.length = cs.length ∧ ∀ (i : Nat) (x y : Ct), cs[i]? = some x → cs2[i]? = some y → y.sp = x.sp ∧ (y = x ∨ y.sp.nu = nu)
theorem Alike.refl (cs : List Ct) (nu : Int) : Alike cs cs nu := ⟨rfl, fun i x y h1 h2 => by rw [h1] at h2; cases h2; exact ⟨rfl, .inl rfl⟩⟩
theorem Alike.set {cs cs2 : List Ct} {nu : Int} (h : Alike cs cs2 nu) {k : Nat} {x y : Ct} (hx : cs2[k]? = some x) (hn : x.sp.nu = nu) (e : y.sp = x.sp) : Alike cs (cs2.set k y) nu := by
  refine ⟨by rw [List.length_set]; exact h.1, fun i u z h1 h2 => ?_⟩
  rw [List.getElem?_set] at h2
  split at h2
  · rename_i c
    subst c
    split at h2
    · cases h2
      exact ⟨e.trans (h.2 k u x h1 hx).1, .inr (by rw [e]; exact hn)⟩
    · cases h2
  · exact h.2 i u z h1 h2
theorem Alike.halt {cs cs2 : List Ct} {nu : Int} (h : Alike cs cs2 nu) (on : Bool) : Alike cs (haltC cs2 nu on) nu := by
  unfold haltC
  have ha := al_cases cs2 nu
  generalize alC cs2 nu = a at ha ⊢
  cases ha with
  | none _ => exact h
  | gone _ _ _ _ => exact h
  | here _ h2 h3 _ => exact h.set h2 h3 rfl
theorem Alike.pub {cs cs2 : List Ct} {nu : Int} (h : Alike cs cs2 nu) (p : Int) : Alike cs (pubC cs2 nu p) nu := by
  unfold pubC
  have ha := al_cases cs2 nu
  generalize alC cs2 nu = a at ha ⊢
  cases ha with
  | none _ => exact h
  | gone _ _ _ _ => exact h
  | here _ h2 h3 _ =>
    dsimp only
    split
    · exact h.set h2 h3 rfl
    · exact h
theorem Alike.exp {cs cs2 : List Ct} {nu : Int} (h : Alike cs cs2 nu) (d : Int) : Alike cs (expC d cs2 nu) nu := by
  unfold expC
  have ha := al_cases cs2 nu
  generalize alC cs2 nu = a at ha ⊢
  cases ha with
  | none _ => exact h
  | gone _ _ _ _ => exact h
  | here _ h2 h3 _ =>
    dsimp only
    split
    · exact h.set h2 h3 rfl
    · exact h
/-- The calendar behind any calls of the one number. -/
def As (Pc : PcT) (w : World) (X : List (Nat × Obj)) (W : World) (g : Nat) (cs : List Ct) (nu : Int) (v : Value) (gs : List Ct) : Prop := ∃ cs2, Od Pc w X W g 0 cs2 v gs ∧ Alike cs cs2 nu
section
variable {Pc : PcT} {zc : Array Value} {w W W' : World} {X : List (Nat × Obj)} {g : Nat} {v : Value} {cs gs : List Ct} {nu : Int}
theorem As.bl (h : As Pc w X W g cs nu v gs) : Below w.heap.size w W := by
  obtain ⟨_, h, _⟩ := h
  exact h.bl
theorem As.at' (h : As Pc w X W g cs nu v gs) {p : Nat × Obj} (hp : p ∈ X) : W.heap[p.1]? = some p.2 := by
  obtain ⟨_, h, _⟩ := h
  exact h.at' hp
theorem As.below (K : CalK Pc zc) (h : As Pc w X W g cs nu v gs) (q : Below W.heap.size W W') : As Pc w X W' g cs nu v gs := by
  obtain ⟨cs2, h, a⟩ := h
  exact ⟨cs2, h.below K q, a⟩
theorem As.c_halt (K : CalK Pc zc) (h : As Pc w X W g cs nu v gs) {on : Bool} (hn : 0 ≤ nu ∧ nu ≤ 4294967295) : Calls Try.prog 14 #[.pointer (some ⟨g, 0, none⟩), .int .u32 nu, .bool on] W fun e W' => (∃ r, e = .returned (.int .i64 r)) ∧ As Pc w X W' g cs nu v gs := by
  obtain ⟨cs2, h, a⟩ := h
  exact (h.c_halt K hn).mono fun e W' q => ⟨⟨_, q.1⟩, _, q.2, a.halt on⟩
theorem As.c_pub (K : CalK Pc zc) (h : As Pc w X W g cs nu v gs) {p : Int} (hn : 0 ≤ nu ∧ nu ≤ 4294967295) (hp : I64 p) : Calls Try.prog 16 #[.pointer (some ⟨g, 0, none⟩), .int .u32 nu, .int .i64 p] W fun e W' => (∃ r, e = .returned (.int .i64 r)) ∧ As Pc w X W' g cs nu v gs := by
  obtain ⟨cs2, h, a⟩ := h
  exact (h.c_pub K hn hp).mono fun e W' q => ⟨⟨_, q.1⟩, _, q.2, a.pub p⟩
theorem As.c_exp (K : CalK Pc zc) (h : As Pc w X W g cs nu v gs) (hn : 0 ≤ nu ∧ nu ≤ 4294967295) : Calls Try.prog 20 #[.pointer (some ⟨g, 0, none⟩), .int .u32 nu] W fun e W' => (∃ r, e = .returned (.int .i64 r)) ∧ As Pc w X W' g cs nu v gs := by
  obtain ⟨cs2, h, a⟩ := h
  exact (h.c_exp K hn).mono fun e W' q => ⟨⟨_, q.1⟩, _, q.2, a.exp 0⟩
theorem As.c_due (K : CalK Pc zc) (h : As Pc w X W g cs nu v gs) (hn : 0 ≤ nu ∧ nu ≤ 4294967295) : Calls Try.prog 18 #[.pointer (some ⟨g, 0, none⟩), .int .u32 nu] W fun e W' => (∃ r, e = .returned (.int .i64 r)) ∧ As Pc w X W' g cs nu v gs := by
  obtain ⟨cs2, ⟨F, h⟩, a⟩ := h
  exact (K.due h.pc hn).mono fun e W' q => ⟨⟨_, q.1⟩, _, h.aft q.2, a⟩
theorem As.drew (K : CalK Pc zc) (h : As Pc w X W g cs nu v gs) : As Pc w X W.drew g cs nu v gs := h.below K (Below.refl _ W).drew
end
theorem yields_nsp {ops : Array Oper} {S : World → Prop} {o : Oper} {a : Act} (hw : Region.wanted o (yielded ops a.tmps) = true) (x y : Operand) {t2 : TypeId} (ho : o.op = .binOp .neq 33 x y t2) {u v : Sp} (hu : u.ok) (hv : v.ok) (hx : a.eval x = .agg u.cells) (hy : a.eval y = .agg v.cells) {b : Bool} (hb : eqS u v = b) :
    YieldsIf Try.prog ops S o (.bool !b) a := by
  subst hb
  exact .inl ⟨hw, fun w _ => exec_sp (.inr rfl) ho hu hv hx hy w⟩
theorem yields_nct {ops : Array Oper} {S : World → Prop} {o : Oper} {a : Act} (hw : Region.wanted o (yielded ops a.tmps) = true) (x y : Operand) {t2 : TypeId} (ho : o.op = .binOp .neq 45 x y t2) {u v : Ct} (hu : u.ok) (hv : v.ok) (hx : a.eval x = .agg u.cells) (hy : a.eval y = .agg v.cells) {b : Bool} (hb : eqB u v = b) :
    YieldsIf Try.prog ops S o (.bool !b) a := by
  subst hb
  exact yields_neq_ct hw x y ho hu hv hx hy
/-- Within the loop that holds all contracts against the copied list. -/
structure Hw (ib : Nat) (W7 : World) (n : Nat) (W : World) : Prop where
  fr : Fr (fun k => k = ib ∨ W7.heap.size ≤ k) W7 W
  ct : W.heap[ib]? = some (.cells #[.int .i64 (n : Int)] 3 (0, 0))
theorem Hw.own {ib n : Nat} {W7 A C : World} {row : Option Nat} (h : Hw ib W7 n A) (hw : ib < W7.heap.size) (hg : A.grownBy C row) (hr : ∀ k, row = some k → W7.heap.size ≤ k ∧ ∃ o, A.heap[k]? = some o ∧ o.isCells = false) : Hw ib W7 n C :=
  ⟨h.fr.same (Fr.grown hg (fun k e => .inr (hr k e).1)), (hg.block ib (Array.getElem?_eq_some_iff.1 h.ct).1 (fun e => by have := (hr ib e.symm).1; omega)).trans h.ct⟩
theorem Hw.below {ib n : Nat} {W7 W W' : World} (h : Hw ib W7 n W) (q : Below W.heap.size W W') : Hw ib W7 n W' :=
  ⟨h.fr.same (Fr.below q), (q.block ib (Array.getElem?_eq_some_iff.1 h.ct).1).trans h.ct⟩
/-- Within the loop that copies all contracts. -/
structure Gw (wb : Nat) (W3 : World) (pre : List OkCt) (W : World) : Prop where
  fr : Fr (fun k => k = wb ∨ W3.heap.size ≤ k) W3 W
  row : ∃ A c, W.heap[wb]? = some (.cells #[.slice A pre.length c] 27 (0, 0)) ∧ W.ownsRow W3.heap.size 45 27 (.slice A pre.length c) pre.length (flat (vals pre))
theorem Gw.own {wb : Nat} {W3 A C : World} {pre : List OkCt} {row : Option Nat} (h : Gw wb W3 pre A) (hw : wb < W3.heap.size) (hg : A.grownBy C row) (hr : ∀ k, row = some k → W3.heap.size ≤ k ∧ ∃ o, A.heap[k]? = some o ∧ o.isCells = false) : Gw wb W3 pre C := by
  obtain ⟨Aa, c, h1, h2⟩ := h.row
  refine ⟨h.fr.same (Fr.grown hg (fun k e => .inr (hr k e).1)), Aa, c, (hg.block wb (Array.getElem?_eq_some_iff.1 h1).1 (fun e => by have := (hr wb e.symm).1; omega)).trans h1, own_fr h2 (Fr.grown (S := fun k => row = some k) hg (fun k e => e)) fun k e q => ?_⟩
  obtain ⟨_, ob, ho, hc⟩ := hr k q
  rcases h2.2 with ⟨e2, _⟩ | ⟨b, cc, cur, e2, hb, hh, _⟩
  · rw [e2] at e; cases e
  · rw [e2] at e; cases e
    rw [hh] at ho
    cases ho
    cases hc
theorem Gw.start {W3 : World} {wb : Nat} (h : W3.heap[wb]? = some (.cells #[.slice none 0 0] 27 (0, 0))) : Gw wb W3 [] W3 := ⟨Fr.refl _ _, none, 0, h, ⟨rfl, .inl ⟨rfl, rfl⟩⟩⟩
theorem sv_nil {W : World} {b k : Nat} (h : W.heap[b]? = some (.cells #[.slice none 0 0] 27 (0, 0))) (s : Sv b W k) : k = b := by
  rcases s with e | ⟨a, n, c, e, _⟩
  · exact e
  · rw [cell_of_row _ _ _ _ _ _ h] at e; cases e
theorem sv_start {W : World} {b : Nat} (h : W.heap[b]? = some (.cells #[.slice none 0 0] 27 (0, 0))) (hb : b < W.heap.size) : ∀ k, Sv b W k → k < W.heap.size := fun k s => by rw [sv_nil h s]; exact hb
theorem Gw.push {wb : Nat} {W3 W W6 : World} {pre : List OkCt} {x : OkCt} {A : Option Addr} {c : Nat} {v' : Value} (h : Gw wb W3 pre W) (hw : wb < W3.heap.size) (h1 : W.heap[wb]? = some (.cells #[.slice A pre.length c] 27 (0, 0)))
    (h2 : W.ownsRow W3.heap.size 45 27 (.slice A pre.length c) pre.length (flat (vals pre))) (o : W6.ownsRow W3.heap.size 45 27 v' (pre.length + 1) (flat (vals pre ++ [x.1])))
    (hg : (W.alloc (.cells x.1.cells 45)).grownBy W6 (Value.slice A pre.length c).ownBlock) (hat : v'.ownBlock = (Value.slice A pre.length c).ownBlock ∨ v'.ownBlock = some (W.alloc (.cells x.1.cells 45)).heap.size) :
    W6.heap[wb]? = some (.cells #[.slice A pre.length c] 27 (0, 0)) ∧ Gw wb W3 (pre ++ [x]) (W6.setCell ⟨wb, 0, none⟩ v') ∧ KeepsOthers W (W6.setCell ⟨wb, 0, none⟩ v') ∧ Kc (Sv wb) W (W6.setCell ⟨wb, 0, none⟩ v') := by
  have hl := (Array.getElem?_eq_some_iff.1 h1).1
  have hb : ∀ k, (Value.slice A pre.length c).ownBlock = some k → W3.heap.size ≤ k := fun k e => (own_ge h2 e).1
  have e0 : (W.alloc (.cells x.1.cells 45)).heap[wb]? = W.heap[wb]? := ((Below.refl W.heap.size W).alloc (Nat.le_refl _) _).block wb hl
  have hw6 : W6.heap[wb]? = some (.cells #[.slice A pre.length c] 27 (0, 0)) := (hg.block wb (by simp; omega) (fun e => by have := hb wb e.symm; omega)).trans (e0.trans h1)
  have fa : Fr (fun k => k = wb ∨ W3.heap.size ≤ k) W (W.alloc (.cells x.1.cells 45)) := Fr.below ((Below.refl W.heap.size W).alloc (Nat.le_refl _) (.cells x.1.cells 45))
  have f6 : Fr (fun k => k = wb ∨ W3.heap.size ≤ k) W (W6.setCell ⟨wb, 0, none⟩ v') := (fa.same (Fr.grown hg (fun k e => .inr (hb k e)))).same (Fr.set (p := ⟨wb, 0, none⟩) (.inl rfl) v')
  have f7 : Fr (fun k => wb = k) W6 (W6.setCell ⟨wb, 0, none⟩ v') := Fr.set (p := ⟨wb, 0, none⟩) rfl v'
  refine ⟨hw6, ⟨h.fr.same f6, ?_⟩, (((KeepsOthers.alloc W _).trans (KeepsOthers.of_grownBy hg fun j ob e ho => ?_)).trans (KeepsOthers.setCell _ _ _)), ?_⟩
  · obtain ⟨A', c', rfl⟩ := own_form o
    refine ⟨A', c', ?_, ?_⟩
    · rw [List.length_append]
      exact heap_setCell_same W6 wb 0 _ _ (.slice A' (pre.length + 1) c') hw6
    · rw [List.length_append, vals_snoc]
      exact own_fr o f7 (fun k e q => by have := (own_ge o e).1; omega)
  · rcases h2.2 with ⟨e2, _⟩ | ⟨b, cc, cur, e2, hb2, hh, _⟩
    · rw [e2] at e; cases e
    · rw [e2] at e; cases e
      have : (W.alloc (.cells x.1.cells 45)).heap[b]? = some (.cells cur 45 (0, 0)) := (((Below.refl W.heap.size W).alloc (Nat.le_refl _) _).block b (Array.getElem?_eq_some_iff.1 hh).1).trans hh
      rw [this] at ho
      cases ho
      rfl
  · obtain ⟨A', c', rfl⟩ := own_form o
    intro wf
    have cB : (W6.setCell ⟨wb, 0, none⟩ (.slice A' (pre.length + 1) c')).cell? ⟨wb, 0, none⟩ = some (.slice A' (pre.length + 1) c') := by
      rw [cell_of_row _ _ _ _ _ _ (heap_setCell_same W6 wb 0 _ _ (.slice A' (pre.length + 1) c') hw6)]; rfl
    have cA : W.cell? ⟨wb, 0, none⟩ = some (.slice A pre.length c) := by rw [cell_of_row _ _ _ _ _ _ h1]; rfl
    have szA : (W.alloc (.cells x.1.cells 45)).heap.size = W.heap.size + 1 := by simp
    have sv : ∀ k, Sv wb (W6.setCell ⟨wb, 0, none⟩ (.slice A' (pre.length + 1) c')) k → k = wb ∨ (Value.slice A' (pre.length + 1) c').ownBlock = some k := fun k hk => by
      rcases hk with rfl | ⟨a, n, c2, e, hb2⟩
      · exact .inl rfl
      · rw [cB] at e; cases e; exact .inr (by rw [← hb2]; rfl)
    have sz6 : W6.heap.size ≤ (W6.setCell ⟨wb, 0, none⟩ (.slice A' (pre.length + 1) c')).heap.size := f7.size
    refine ⟨fun k hk => ?_, fun k hk => ?_, f6.b0, fun k hk hn hc => ?_⟩
    · rcases sv k hk with rfl | e
      · exact Nat.lt_of_lt_of_le hl f6.size
      · exact Nat.lt_of_lt_of_le (own_ge o e).2 sz6
    · rcases sv k hk with rfl | e
      · exact .inl (.inl rfl)
      · rcases hat with q | q
        · rw [q] at e
          cases A with
          | none => cases e
          | some a => cases e; exact .inl (.inr ⟨a, _, _, cA, rfl⟩)
        · rw [q] at e; cases e; exact .inr (by omega)
    · have hkw : k ≠ wb := fun e => hn (.inl e)
      have e1 : (W6.setCell ⟨wb, 0, none⟩ (.slice A' (pre.length + 1) c')).heap[k]? = W6.heap[k]? := heap_setCell_other W6 _ k _ hkw
      have e2 : W6.heap[k]? = (W.alloc (.cells x.1.cells 45)).heap[k]? := hg.block k (by omega) (fun e => hn (by
        cases A with
        | none => cases e
        | some a => cases e; exact .inr ⟨a, _, _, cA, rfl⟩))
      exact e1.trans (e2.trans (((Below.refl W.heap.size W).alloc (Nat.le_refl _) _).block k hk))
set_option maxRecDepth 100000 in
set_option maxHeartbeats 8000000 in
theorem apart_in {Pc : PcT} {zc : Array Value} (K : CalK Pc zc) (A0 : Option Addr) (n c0 : Nat) (os : List Sp) (nu : Int) (A2 : Option Addr) (q c2 : Nat) (ps : List OpC) (w : World)
    (hr0 : RdS w A0 n os) (hk0 : ∀ x, x ∈ os → x.ok) (hnu : 0 ≤ nu ∧ nu ≤ 4294967295) (hr2 : RdO w A2 q ps) (hk2 : ∀ x, x ∈ ps → x.ok) (hn : n ≤ 16) (hq : q ≤ 100) :
    Calls Try.prog 7 #[.slice A0 n c0, .int .u32 nu, .slice A2 q c2] w fun e w' => e = .returned (.bool true) ∧ Below w.heap.size w w' := by
  have KN := Lib.hid (fun W => known5_any K W)
  have KH := Lib.hid K
  have R0 := Lib.hid hr0
  have R2 := Lib.hid hr2
  have O0 := Lib.hid hk0
  have O2 := Lib.hid hk2
  have HN := Lib.hid hnu
  have ZC := zero_ct
  have EQ := eql_seq
  have d0 : decide (16 < (n : Int)) = false := decide_eq_false (by omega)
  have d1 : decide (100 < (q : Int)) = false := decide_eq_false (by omega)
  clear K hr0 hr2 hk0 hk2 hnu
  refine calls_marks Try.func7 rfl ?_
  simp only [Try.ntmps7, List.size_toArray, List.length_cons, List.length_nil, Nat.reduceAdd, Nat.reduceSub, Array.replicate_succ, Array.replicate_zero, List.push_toArray, List.append_toArray, List.nil_append, List.cons_append]
  go_wp2_with fail
  refine (KH.out.new _).mono ?_; rintro e w1 ⟨g, F, rfl, hp, b1, hF⟩
  have X0 : ∀ p, p ∈ [(w.heap.size, Obj.cells #[.int .u32 nu] 26 (0, 0)), (w.heap.size + 1, Obj.cells #[.bool false] 4 (0, 0))] → ((w.alloc (.cells #[.int .u32 nu] 26)).alloc (.cells #[.bool false] 4)).heap[p.1]? = some p.2 := fun p hx => by
    simp only [List.mem_cons, List.not_mem_nil, or_false] at hx
    rcases hx with rfl | rfl
    · exact heap_alloc2_old w _ _
    · exact heap_alloc2_new w _ _
  have OD := Lib.hid (Od.begin hp (((Below.refl _ w).alloc (Nat.le_refl _) _).alloc (by simp) _) b1 hF X0)
  clear hp b1 hF X0
  go_wp2_with fail
  go_loopw [34] (fun i wr => ∃ (k : Nat) (cs : List Ct), k ≤ n ∧ i = .int .i64 k ∧ Od Pc w [(w.heap.size, Obj.cells #[.int .u32 nu] 26 (0, 0)), (w.heap.size + 1, Obj.cells #[.bool false] 4 (0, 0))] wr g 0 cs (.slice none 0 0) []) (fun i _ => n - (intOf i).toNat)
  case atStart => exact ⟨0, [], Nat.zero_le _, rfl, OD.out⟩
  case round =>
    clear OD
    obtain ⟨k, cs, hk, rfl, ho⟩ := hrel
    by_cases hlt : k < n
    case pos =>
      obtain ⟨b, o, rfl, hb, hrg⟩ := R0.out.2 (by omega)
      have hlen := R0.out.1
      obtain ⟨x, hx⟩ : ∃ x, os[k]? = some x := ⟨os[k]'(by omega), List.getElem?_eq_getElem _⟩
      have OKX := Lib.hid (O0.out x (List.mem_of_getElem? hx))
      have RG : Hid (wr.rangeAt b (o + k * 25) x.cellL) := Lib.hid fun j v hj => by
        have := hrg k x hx j v hj
        have hbb := ho.bl.block b hb
        unfold World.cell? at this ⊢
        rw [hbb]
        exact this
      have LS := Lib.hid (ho.c_list KH.out OKX.out)
      have hkl : (k : Int) < (n : Int) := by omega
      clear hrg hx ho
      go_wp2_with (first | ((with_reducible refine wl_load_spm b (o + k * 25) OKX.out.len RG.out ?_ ?_); rfl))
      refine LS.out.mono ?_; rintro e w2 ⟨rfl, h2⟩
      have H2 := Lib.hid h2
      clear h2 LS
      go_wp2_with fail
      go_roundw
      case rel => exact ⟨k + 1, _, hlt, by go_num, H2.out⟩
      case measure => simp [intOf]; omega
    case neg =>
      obtain rfl : k = n := by omega
      have OD := Lib.hid ho
      have OO := Lib.hid (ho.oks KH.out).1
      clear ho
      obtain ⟨W1, hW1⟩ : ∃ W, wr = W := ⟨_, rfl⟩
      rw [hW1] at OD ⊢
      clear hW1
      obtain ⟨F1, od⟩ := OD.out
      have LF := Lib.hid (KH.out.lt od.pc)
      have HNW : Hid (w.heap.size + 1 < W1.heap.size) := Lib.hid (Array.getElem?_eq_some_iff.1 (od.ex (w.heap.size + 1, Obj.cells #[.bool false] 4 (0, 0)) (by simp)).1).1
      have CL := (KH.out.ok od.pc).2.1
      have o1 := od.below KH.out ((Below.refl _ W1).alloc (Nat.le_refl _) (.cells #[.slice none 0 0] 27))
      clear od OD
      go_wp2_with fail
      refine (KH.out.all o1.pc).mono ?_; rintro e W2 ⟨gf1, lb1, T1, rfl, q1, -, -, -⟩
      have o2 := o1.below KH.out q1
      have wb2 := (q1.block W1.heap.size (by simp)).trans (heap_alloc_new W1 (.cells #[.slice none 0 0] 27))
      clear o1 q1
      go_wp2_with fail
      refine (KH.out.all o2.pc).mono ?_; rintro e W3 ⟨gf, lb, T, rfl, q2, en, hT, tell⟩
      have o3 := o2.below KH.out q2
      have wb3 : W3.heap[W1.heap.size]? = some (.cells #[.slice none 0 0] 27 (0, 0)) := (q2.block W1.heap.size (Array.getElem?_eq_some_iff.1 wb2).1).trans wb2
      go_wp2_with fail
      have hwb := (Array.getElem?_eq_some_iff.1 wb2).1
      have hnw : w.heap.size + 1 < W1.heap.size := HNW.out
      have HTS : Hid (∀ k, T k → ¬ (k = W1.heap.size ∨ W3.heap.size ≤ k)) := Lib.hid (by
        intro k hk c
        obtain ⟨h1, h2⟩ := hT k hk
        rcases c with c | c
        · rcases h2 with h2 | h2
          · have := LF.out k h2
            omega
          · omega
        · omega)
      refine (wpIn_wide (n := 9)).1 ?_
      have hw3 : W1.heap.size < W3.heap.size := (Array.getElem?_eq_some_iff.1 wb3).1
      refine wpIn_rangeFunc_ownH rfl (by decide) (gf := gf) (lb := lb) rfl trivial en (tell W3 (Sv W1.heap.size) 8 (Fr.refl _ _) (Still.var hw3) (sv_start wb3 hw3) (fun k hk c => HTS.out k hk (.inl (sv_nil wb3 c))) (by decide)) (fun h k => h.trans k)
        (fun W l o o' hl ho hc _ => Kc.put (Still.var hw3) hl ho hc) (Below.refl _ _) (fun _ => rfl)
        (fun (pre : List OkCt) W => Gw W1.heap.size W3 pre W) (fun _ _ _ => False)
        (fun s A C row hs hg hr => hs.own hw3 hg hr) (fun _ _ _ _ _ hs _ _ => hs) (Gw.start wb3)
        (fun x a' W => ∃ bx, W3.heap.size ≤ bx ∧ Cb W bx x.1 ∧ a' = { tmps := #[.slice A0 k c0, .int .u32 nu, .slice A2 q c2, undef, .pointer (some ⟨w.heap.size, 0, none⟩), undef, .pointer (some ⟨w.heap.size + 1, 0, none⟩), .pointer (some ⟨g, 0, none⟩), u8, .pointer (some ⟨W1.heap.size, 0, none⟩), .pointer (some ⟨bx, 0, none⟩), undef, undef, undef, .pointer (some ⟨g, 0, none⟩), .pointer (some ⟨g, 0, none⟩), .bool false, .bool false, .slice A0 k c0, .int .i64 (k : Int), .bool false, .bool false, .bool false, .slice A2 q c2, .int .i64 (q : Int), .bool false, .bool false, undef, undef, undef, undef, undef, .slice A0 k c0, .int .i64 (k : Int), .int .i64 (k : Int), .bool false, u36, u37, u38, u39, u40, u41, u42, u43, .pointer (some ⟨g, 0, none⟩), .func (.func gf1) #[] lb1, .bool false, .pointer (some ⟨g, 0, none⟩), .func (.func gf) #[] lb, .agg x.1.cells, undef, undef, undef, undef, undef, undef, undef, undef, undef, undef, undef, undef, undef, undef, undef, undef, undef, undef, undef, undef, undef, undef, undef, undef, undef, undef, undef, undef, undef, undef, undef, undef, undef, undef, undef, undef, undef, undef, undef, undef, undef, undef, undef, undef, undef, undef, undef, undef, undef, undef, undef, undef, undef, undef, undef, undef, undef, undef, undef, undef, undef, undef, undef, undef, undef, undef, undef, undef, undef, undef, undef, undef, undef, undef, undef, undef, undef, undef, undef, undef, undef, undef, undef, undef, undef, undef, undef, undef, undef, undef, undef, undef, undef, undef], defers := [] })
        (fun x a' s A C row hs hg hr => by
          obtain ⟨bx, h1, h2, h3⟩ := hs
          refine ⟨bx, h1, ⟨(hg.block bx (Array.getElem?_eq_some_iff.1 h2.1).1 (fun e => ?_)).trans h2.1, h2.2⟩, h3⟩
          obtain ⟨_, ob, ho, hc⟩ := hr bx e.symm
          rw [h2.1] at ho
          cases ho
          cases hc) ?assign ?body ?done ?stop
      case assign =>
        rintro l pre x W KK hgw hK
        have HC := Lib.hid (cb_new W (x := zeroCt) rfl)
        have HX := Lib.hid x.2
        refine region_in rfl (fun ⟨_, _, h⟩ => h) ?_
        go_wp2_with ((with_reducible refine wl_store_ct x.1 W.heap.size HC.out HX.out.sp.len ?_ ?_ ?_); rfl; rfl)
        have b : Below W.heap.size W ((W.alloc (.cells zeroCt.cells 45)).setRow W.heap.size x.1.cells) := below_row' ((Below.refl _ W).alloc (Nat.le_refl _) _) (Nat.le_refl _)
        obtain ⟨Ar, cr, r1, r2⟩ := hgw.row
        have fb : Fr (fun k => k = W1.heap.size ∨ W3.heap.size ≤ k) W ((W.alloc (.cells zeroCt.cells 45)).setRow W.heap.size x.1.cells) := Fr.below b
        refine hK _ _ ⟨b.size, fun k o _ hk _ => (b.block k (Array.getElem?_eq_some_iff.1 hk).1).trans hk⟩ (Kc.below (Still.var hw3) hgw.fr.size b) ⟨hgw.fr.same fb, Ar, cr, (b.block _ (Array.getElem?_eq_some_iff.1 r1).1).trans r1, own_fr r2 (S := fun _ => False) (Fr.below b) (fun _ _ q => q)⟩ ⟨W.heap.size, hgw.fr.size, cb_set HC.out HX.out.sp.len, rfl⟩
      case body =>
        rintro l pre x a' W - - hgw ⟨bx, hb, hbx, rfl⟩ hlen
        obtain ⟨Ar, cr, r1, r2⟩ := hgw.row
        have GW := Lib.hid hgw
        have R1 := Lib.hid r1
        have OWN : Hid ((W.alloc (.cells x.1.cells 45)).ownsRow W3.heap.size 45 27 (.slice Ar pre.length cr) pre.length (flat (vals pre))) := Lib.hid (own_fr r2 (S := fun _ => False) (Fr.below ((Below.refl _ W).alloc (Nat.le_refl _) _)) (fun _ _ q => q))
        have OW2 := Lib.hid r2
        have HBX := Lib.hid hbx
        have HX := Lib.hid x.2
        have RD := Lib.hid (rd_one W x.1)
        have hsz : W3.heap.size ≤ (W.alloc (.cells x.1.cells 45)).heap.size := Nat.le_trans hgw.fr.size (by simp)
        have cw : W.cell? ⟨W1.heap.size, 0, none⟩ = some (.slice Ar pre.length cr) := by rw [cell_of_row _ _ _ _ _ _ r1]; rfl
        have hnn : pre.length + 1 ≤ 4000 := by omega
        clear hgw r1 r2 hbx hb hlen
        refine wpIn_block ?_
        refine region_in rfl (fun ⟨_, _, h⟩ => h) ?_
        go_wp2_with (first
          | ((with_reducible refine wl_load_ct bx HBX.out ?_ ?_ ?_); rfl; rfl)
          | ((with_reducible refine wl_bs_ct x.1 HX.out.sp.len ?_ ?_); rfl)
          | (at_builtin; refine wpl_app1 rfl (.tmp 50) (.tmp 52) rfl W3.heap.size (.slice Ar pre.length cr) pre.length (vals pre) rfl OWN.out ⟨W.heap.size, 0, none⟩ x.1 rfl RD.out HX.out.sp.len hnn hsz ?_; intro v' w6 ho6 hg6 ha6; obtain ⟨A6, c6, rfl⟩ := own_form ho6; have PU := Lib.hid (GW.out.push hw3 R1.out OW2.out ho6 hg6 ha6); have cw6 : w6.cell? ⟨W1.heap.size, 0, none⟩ = some (.slice Ar pre.length cr) := (by rw [cell_of_row _ _ _ _ _ _ PU.out.1]; rfl); have fw6 : w6.frozen? ⟨W1.heap.size, 0, none⟩ = false := (by have := PU.out.1; simp [World.frozen?, this]); clear ho6 hg6 ha6))
        exact ⟨PU.out.2.2.1.from _, PU.out.2.2.2, PU.out.2.1⟩
      case done =>
        rintro D ys W hD hS hgw hK
        obtain ⟨Ar, cr, r1, r2⟩ := hgw.row
        have hyl : ys.length = cs.length := by rw [← hS, vals_len]
        rw [hyl] at r1 r2
        rw [hS] at r2
        have OD : Hid (Od Pc w (X5 w nu W1.heap.size (.slice Ar cs.length cr) [D]) W g 0 cs (.slice Ar cs.length cr) cs) := Lib.hid ⟨F1, KH.out.keep o3.pc hgw.fr (fun k hk q => by have := LF.out k hk; have := o3.bl.size; omega), fr_below o3.bl hgw.fr (fun k q => by have := o3.bl.size; omega), o3.hf, ⟨r2.1, r2.2.imp id fun ⟨b, cap, cur, e, k, r⟩ => ⟨b, cap, cur, e, Nat.le_trans o3.bl.size k, r⟩⟩, fun k e q => (by have := (own_ge r2 e).1; have := LF.out k q; omega), OO.out, fun p hp => by
          have hv : ∀ k, k < W3.heap.size → (Value.slice Ar cs.length cr).ownBlock ≠ some k := fun k hk e => by have := (own_ge r2 e).1; omega
          simp only [X5, List.mem_append, List.mem_cons, List.mem_map, List.not_mem_nil, or_false] at hp
          rcases hp with (rfl | rfl | rfl) | ⟨E, rfl, rfl⟩
          · obtain ⟨e1, e2, _⟩ := o3.ex (w.heap.size, Obj.cells #[.int .u32 nu] 26 (0, 0)) (by simp)
            have hl := (Array.getElem?_eq_some_iff.1 e1).1
            exact ⟨(hgw.fr.at' _ hl (fun q => by have := hnw; dsimp only at q hl; omega)).trans e1, e2, hv _ hl⟩
          · obtain ⟨e1, e2, _⟩ := o3.ex (w.heap.size + 1, Obj.cells #[.bool false] 4 (0, 0)) (by simp)
            have hl := (Array.getElem?_eq_some_iff.1 e1).1
            exact ⟨(hgw.fr.at' _ hl (fun q => by have := hnw; dsimp only at q hl; omega)).trans e1, e2, hv _ hl⟩
          · exact ⟨r1, fun q => by have := LF.out _ q; dsimp only at this; omega, hv _ hw3⟩
          · refine ⟨hK, fun q => by have := LF.out _ q; dsimp only at this; omega, fun e => ?_⟩
            rcases r2.2 with ⟨e2, _⟩ | ⟨b, cc, cur, e2, hb2, hh, _⟩
            · rw [e2] at e; cases e
            · rw [e2] at e
              cases e
              rw [hh] at hK
              cases hK⟩
        have LD : Hid (w.heap.size ≤ D) := Lib.hid (Nat.le_trans o3.bl.size hD)
        clear hgw hK r1 r2 hS hD o3 hyl
        go_wp2_with fail
        go_loopw [56] (fun i wr => ∃ p : Nat, p ≤ q ∧ i = .int .i64 p ∧ As Pc w (X5 w nu W1.heap.size (.slice Ar cs.length cr) [D]) wr g cs nu (.slice Ar cs.length cr) cs) (fun i _ => q - (intOf i).toNat)
        case atStart => exact ⟨0, Nat.zero_le _, rfl, cs, OD.out, Alike.refl _ _⟩
        case round =>
          clear OD
          obtain ⟨p, hp, rfl, ha⟩ := hrel
          by_cases hlt : p < q
          case pos =>
            obtain ⟨b, o, rfl, hb, hrg⟩ := R2.out.2 (by omega)
            have hlen := R2.out.1
            obtain ⟨x, hx⟩ : ∃ x, ps[p]? = some x := ⟨ps[p]'(by omega), List.getElem?_eq_getElem _⟩
            have OKX := Lib.hid (O2.out x (List.mem_of_getElem? hx))
            have RG : Hid (∀ W, Below w.heap.size w W → W.rangeAt b (o + p * 29) x.cellL) := Lib.hid fun W bb j v hj => by
              have := hrg p x hx j v hj
              unfold World.cell? at this ⊢
              rw [bb.block b hb]
              exact this
            have TN : Hid (∀ W, As Pc w (X5 w nu W1.heap.size (.slice Ar cs.length cr) [D]) W g cs nu (.slice Ar cs.length cr) cs → W.cell? ⟨w.heap.size, 0, none⟩ = some (.int .u32 nu)) := Lib.hid fun W h => by rw [cell_of_row _ _ _ _ _ _ (h.at' (p := (w.heap.size, Obj.cells #[.int .u32 nu] 26 (0, 0))) (by simp [X5]))]; rfl
            have TO : Hid (∀ W, As Pc w (X5 w nu W1.heap.size (.slice Ar cs.length cr) [D]) W g cs nu (.slice Ar cs.length cr) cs → W.cell? ⟨b, o + p * 29 + 27, none⟩ = some (.bool x.on)) := Lib.hid fun W h => RG.out W h.bl 27 _ (by simpa [OpC.cells] using OpC.cb OKX.out.sp.len)
            have TP : Hid (∀ W, As Pc w (X5 w nu W1.heap.size (.slice Ar cs.length cr) [D]) W g cs nu (.slice Ar cs.length cr) cs → W.cell? ⟨b, o + p * 29 + 28, none⟩ = some (.int .i64 x.pr)) := Lib.hid fun W h => RG.out W h.bl 28 _ (by simpa [OpC.cells] using OpC.cc OKX.out.sp.len)
            have tk : wr.cell? ⟨b, o + p * 29, none⟩ = some (.int .i64 x.kd) := RG.out _ ha.bl 0 _ rfl
            have hpq : (p : Int) < (q : Int) := by omega
            have HA := Lib.hid ha
            clear hrg hx ha
            by_cases k3 : x.kd = 3
            · rw [k3] at tk
              go_wp2_with fail
              refine wp_region_held_drew (S := fun U => As Pc w (X5 w nu W1.heap.size (.slice Ar cs.length cr) [D]) U g cs nu (.slice Ar cs.length cr) cs) (by kernel_rfl) (HA.out.drew KH.out) (fun hH => ?_)
              refine wpAnyH_take (i := 0) (v := .pointer (some ⟨g, 0, none⟩)) rfl (by kernel_rfl) (by kernel_rfl) (by kernel_rfl) (fun _ _ _ h => h) (.inl ⟨by rfl, ?_⟩) (by assumption) ?_
              · intro W hW; go_simp
              try simp only [List.getElem_toArray, List.getElem_cons_zero, Act.put, List.setIfInBounds_toArray, List.set_cons_zero, List.set_cons_succ]
              refine wpAnyH_take (i := 1) (v := .int .u32 nu) rfl (by kernel_rfl) (by kernel_rfl) (by kernel_rfl) (fun _ _ _ h => h) (.inl ⟨by rfl, ?_⟩) (by assumption) ?_
              · intro W hW; have c1 := TN.out W hW; go_simp
              try simp only [List.getElem_toArray, List.getElem_cons_zero, List.getElem_cons_succ, Act.put, List.setIfInBounds_toArray, List.set_cons_zero, List.set_cons_succ]
              refine wpAnyH_take (i := 2) (v := .slice (some ⟨b, o, none⟩) q c2) rfl (by kernel_rfl) (by kernel_rfl) (by kernel_rfl) (fun _ _ _ h => h) (.inl ⟨by rfl, ?_⟩) (by assumption) ?_
              · intro W hW; go_simp
              try simp only [List.getElem_toArray, List.getElem_cons_zero, List.getElem_cons_succ, Act.put, List.setIfInBounds_toArray, List.set_cons_zero, List.set_cons_succ]
              refine wpAnyH_take (i := 3) (v := .int .i64 (p : Int)) rfl (by kernel_rfl) (by kernel_rfl) (by kernel_rfl) (fun _ _ _ h => h) (.inl ⟨by rfl, ?_⟩) (by assumption) ?_
              · intro W hW; go_simp
              try simp only [List.getElem_toArray, List.getElem_cons_zero, List.getElem_cons_succ, Act.put, List.setIfInBounds_toArray, List.set_cons_zero, List.set_cons_succ]
              refine wpAnyH_take (i := 4) (v := .pointer (some ⟨b, o + p * 29, none⟩)) rfl (by kernel_rfl) (by kernel_rfl) (by kernel_rfl) (fun _ _ _ h => h) (.inl ⟨by rfl, ?_⟩) (by assumption) ?_
              · intro W hW; go_simp
              try simp only [List.getElem_toArray, List.getElem_cons_zero, List.getElem_cons_succ, Act.put, List.setIfInBounds_toArray, List.set_cons_zero, List.set_cons_succ]
              refine wpAnyH_take (i := 5) (v := .pointer (some ⟨b, o + p * 29 + 27, none⟩)) rfl (by kernel_rfl) (by kernel_rfl) (by kernel_rfl) (fun _ _ _ h => h) (.inl ⟨by rfl, ?_⟩) (by assumption) ?_
              · intro W hW; go_simp
              try simp only [List.getElem_toArray, List.getElem_cons_zero, List.getElem_cons_succ, Act.put, List.setIfInBounds_toArray, List.set_cons_zero, List.set_cons_succ]
              refine wpAnyH_take (i := 6) (v := .bool x.on) rfl (by kernel_rfl) (by kernel_rfl) (by kernel_rfl) (fun _ _ _ h => h) (.inl ⟨by rfl, ?_⟩) (by assumption) ?_
              · intro W hW; have c1 := TO.out W hW; go_simp
              try simp only [List.getElem_toArray, List.getElem_cons_zero, List.getElem_cons_succ, Act.put, List.setIfInBounds_toArray, List.set_cons_zero, List.set_cons_succ]
              refine wpAnyH_ready (rs := [7]) (by decide +kernel) (by simp) (AllReadyH.cons rfl (fun KQ hK => ?_) AllReadyH.nil)
              go_simp
              refine (hH.c_halt KH.out (on := x.on) HN.out).mono ?_; rintro e0 W4 ⟨⟨r, rfl⟩, h4⟩
              refine hK.out _ _ h4 (fun _ => ?_)
              clear hK
              try simp only [List.setIfInBounds_toArray, List.set_cons_zero, List.set_cons_succ]
              refine wpAnyH_done (by decide +kernel) ?_ _
              have H3 := Lib.hid h4
              clear h4 hH HA
              go_wp2_with fail
              go_roundw
              case rel => exact ⟨p + 1, hlt, by go_num, H3.out⟩
              case measure => simp [intOf]; omega
            by_cases k4 : x.kd = 4
            · rw [k4] at tk
              go_wp2_with fail
              refine wp_region_held_drew (S := fun U => As Pc w (X5 w nu W1.heap.size (.slice Ar cs.length cr) [D]) U g cs nu (.slice Ar cs.length cr) cs) (by kernel_rfl) (HA.out.drew KH.out) (fun hH => ?_)
              refine wpAnyH_take (i := 0) (v := .pointer (some ⟨g, 0, none⟩)) rfl (by kernel_rfl) (by kernel_rfl) (by kernel_rfl) (fun _ _ _ h => h) (.inl ⟨by rfl, ?_⟩) (by assumption) ?_
              · intro W hW; go_simp
              try simp only [List.getElem_toArray, List.getElem_cons_zero, Act.put, List.setIfInBounds_toArray, List.set_cons_zero, List.set_cons_succ]
              refine wpAnyH_take (i := 1) (v := .int .u32 nu) rfl (by kernel_rfl) (by kernel_rfl) (by kernel_rfl) (fun _ _ _ h => h) (.inl ⟨by rfl, ?_⟩) (by assumption) ?_
              · intro W hW; have c1 := TN.out W hW; go_simp
              try simp only [List.getElem_toArray, List.getElem_cons_zero, List.getElem_cons_succ, Act.put, List.setIfInBounds_toArray, List.set_cons_zero, List.set_cons_succ]
              refine wpAnyH_take (i := 2) (v := .slice (some ⟨b, o, none⟩) q c2) rfl (by kernel_rfl) (by kernel_rfl) (by kernel_rfl) (fun _ _ _ h => h) (.inl ⟨by rfl, ?_⟩) (by assumption) ?_
              · intro W hW; go_simp
              try simp only [List.getElem_toArray, List.getElem_cons_zero, List.getElem_cons_succ, Act.put, List.setIfInBounds_toArray, List.set_cons_zero, List.set_cons_succ]
              refine wpAnyH_take (i := 3) (v := .int .i64 (p : Int)) rfl (by kernel_rfl) (by kernel_rfl) (by kernel_rfl) (fun _ _ _ h => h) (.inl ⟨by rfl, ?_⟩) (by assumption) ?_
              · intro W hW; go_simp
              try simp only [List.getElem_toArray, List.getElem_cons_zero, List.getElem_cons_succ, Act.put, List.setIfInBounds_toArray, List.set_cons_zero, List.set_cons_succ]
              refine wpAnyH_take (i := 4) (v := .pointer (some ⟨b, o + p * 29, none⟩)) rfl (by kernel_rfl) (by kernel_rfl) (by kernel_rfl) (fun _ _ _ h => h) (.inl ⟨by rfl, ?_⟩) (by assumption) ?_
              · intro W hW; go_simp
              try simp only [List.getElem_toArray, List.getElem_cons_zero, List.getElem_cons_succ, Act.put, List.setIfInBounds_toArray, List.set_cons_zero, List.set_cons_succ]
              refine wpAnyH_take (i := 5) (v := .pointer (some ⟨b, o + p * 29 + 28, none⟩)) rfl (by kernel_rfl) (by kernel_rfl) (by kernel_rfl) (fun _ _ _ h => h) (.inl ⟨by rfl, ?_⟩) (by assumption) ?_
              · intro W hW; go_simp
              try simp only [List.getElem_toArray, List.getElem_cons_zero, List.getElem_cons_succ, Act.put, List.setIfInBounds_toArray, List.set_cons_zero, List.set_cons_succ]
              refine wpAnyH_take (i := 6) (v := .int .i64 x.pr) rfl (by kernel_rfl) (by kernel_rfl) (by kernel_rfl) (fun _ _ _ h => h) (.inl ⟨by rfl, ?_⟩) (by assumption) ?_
              · intro W hW; have c1 := TP.out W hW; go_simp
              try simp only [List.getElem_toArray, List.getElem_cons_zero, List.getElem_cons_succ, Act.put, List.setIfInBounds_toArray, List.set_cons_zero, List.set_cons_succ]
              refine wpAnyH_ready (rs := [7]) (by decide +kernel) (by simp) (AllReadyH.cons rfl (fun KQ hK => ?_) AllReadyH.nil)
              go_simp
              refine (hH.c_pub KH.out HN.out OKX.out.pr).mono ?_; rintro e0 W4 ⟨⟨r, rfl⟩, h4⟩
              refine hK.out _ _ h4 (fun _ => ?_)
              clear hK
              try simp only [List.setIfInBounds_toArray, List.set_cons_zero, List.set_cons_succ]
              refine wpAnyH_done (by decide +kernel) ?_ _
              have H3 := Lib.hid h4
              clear h4 hH HA
              go_wp2_with fail
              go_roundw
              case rel => exact ⟨p + 1, hlt, by go_num, H3.out⟩
              case measure => simp [intOf]; omega
            by_cases k5 : x.kd = 5
            · rw [k5] at tk
              have tn := TN.out _ HA.out
              have LS := Lib.hid (HA.out.c_due KH.out HN.out)
              go_wp2_with fail
              refine LS.out.mono ?_; rintro e W4 ⟨⟨r, rfl⟩, h4⟩
              have H3 := Lib.hid h4
              clear h4 HA LS tn
              go_wp2_with fail
              go_roundw
              case rel => exact ⟨p + 1, hlt, by go_num, H3.out⟩
              case measure => simp [intOf]; omega
            by_cases k6 : x.kd = 6
            · rw [k6] at tk
              have tn := TN.out _ HA.out
              have LS := Lib.hid (HA.out.c_exp KH.out HN.out)
              go_wp2_with fail
              refine LS.out.mono ?_; rintro e W4 ⟨⟨r, rfl⟩, h4⟩
              have H3 := Lib.hid h4
              clear h4 HA LS tn
              go_wp2_with fail
              go_roundw
              case rel => exact ⟨p + 1, hlt, by go_num, H3.out⟩
              case measure => simp [intOf]; omega
            obtain ⟨kd, hkd⟩ : ∃ y, x.kd = y := ⟨_, rfl⟩
            rw [hkd] at tk k3 k4 k5 k6
            have e3 : (kd == 3) = false := by simpa using k3
            have e4 : (kd == 4) = false := by simpa using k4
            have e5 : (kd == 5) = false := by simpa using k5
            have e6 : (kd == 6) = false := by simpa using k6
            have H3 := HA
            clear HA
            go_wp2_with fail
            go_roundw
            case rel => exact ⟨p + 1, hlt, by go_num, H3.out⟩
            case measure => simp [intOf]; omega
          case neg =>
            obtain rfl : p = q := by omega
            obtain ⟨cs2, ⟨F5, o5⟩, al⟩ := ha
            obtain ⟨W5, hW5⟩ : ∃ W, wr = W := ⟨_, rfl⟩
            rw [hW5] at o5 ⊢
            clear hW5 OO
            have AL := Lib.hid al
            have LF5 := Lib.hid (KH.out.lt o5.pc)
            have o6 := o5.below KH.out ((Below.refl _ W5).alloc (Nat.le_refl _) (.cells #[.int .i64 0] 3))
            have LX : Hid (w.heap.size + 1 < W5.heap.size ∧ W1.heap.size < W5.heap.size ∧ D < W5.heap.size) := Lib.hid ⟨(Array.getElem?_eq_some_iff.1 (o5.ex (w.heap.size + 1, Obj.cells #[.bool false] 4 (0, 0)) (by simp [X5])).1).1, (Array.getElem?_eq_some_iff.1 (o5.ex (W1.heap.size, Obj.cells #[.slice Ar cs.length cr] 27 (0, 0)) (by simp [X5])).1).1, (Array.getElem?_eq_some_iff.1 (o5.ex (D, Obj.deferred (some [])) (by simp [X5])).1).1⟩
            have LV5 : Hid (∀ k, (Value.slice Ar cs.length cr).ownBlock = some k → k < W5.heap.size) := Lib.hid fun k e => (own_ge o5.own e).2
            have COK := Lib.hid (KH.out.ok o5.pc).1
            clear o5 al
            go_wp2_with fail
            refine (KH.out.all o6.pc).mono ?_; rintro e W6 ⟨gf3, lb3, T3, rfl, q1, -, -, -⟩
            have o7 := o6.below KH.out q1
            have ib6 := (q1.block W5.heap.size (by simp)).trans (heap_alloc_new W5 (.cells #[.int .i64 0] 3))
            clear o6 q1
            go_wp2_with fail
            refine (KH.out.all o7.pc).mono ?_; rintro e W7 ⟨gf4, lb4, T4, rfl, q2, en4, hT4, tell4⟩
            have o8 := o7.below KH.out q2
            have ib7 : W7.heap[W5.heap.size]? = some (.cells #[.int .i64 0] 3 (0, 0)) := (q2.block W5.heap.size (Array.getElem?_eq_some_iff.1 ib6).1).trans ib6
            go_wp2_with fail
            have hib := (Array.getElem?_eq_some_iff.1 ib7).1
            have h57 : W5.heap.size < W7.heap.size := hib
            have O8 : Hid (∀ W, Fr (fun k => k = W5.heap.size ∨ W7.heap.size ≤ k) W7 W → OdF Pc w (X5 w nu W1.heap.size (.slice Ar cs.length cr) [D]) W F5 g 0 cs2 (.slice Ar cs.length cr) cs) := Lib.hid fun W f => o8.step KH.out f (fun k q => by have := LX.out.1; omega) (fun k hk q => by have := LF5.out k hk; omega) (fun k hk q => by have := LV5.out k hk; omega) (fun r hr q => by
              have hx := LX.out
              simp only [X5, List.mem_append, List.mem_cons, List.mem_map, List.not_mem_nil, or_false] at hr
              rcases hr with (rfl | rfl | rfl) | ⟨E, rfl, rfl⟩ <;> dsimp only at q <;> omega)
            have HTS4 : Hid (∀ k, T4 k → ¬ (k = W5.heap.size ∨ W7.heap.size ≤ k)) := Lib.hid (by
              intro k hk c
              obtain ⟨h1, h2⟩ := hT4 k hk
              have h3 := (Array.getElem?_eq_some_iff.1 ib6).1
              rcases c with c | c
              · rcases h2 with h2 | h2
                · have := LF5.out k h2
                  omega
                · omega
              · omega)
            have TL4 := Lib.hid tell4
            have EN4 := Lib.hid en4
            clear o7 o8 tell4 en4 hT4 ib6 q2
            refine (wpIn_wide (n := 9)).1 ?_
            refine wpIn_rangeFunc_ownH rfl (by decide) (gf := gf4) (lb := lb4) rfl trivial EN4.out (TL4.out W7 (fun _ k => k = W5.heap.size) 8 (Fr.refl _ _) (Still.const _ _) (fun k hk => by omega) (fun k hk c => HTS4.out k hk (.inl c)) (by decide)) (fun h k => h.trans k)
              (fun W l o o' hl ho hc _ => Kc.put (Still.const _ _) hl ho hc) (Below.refl _ _) (fun _ => rfl)
              (fun (pre : List OkCt) W => Hw W5.heap.size W7 pre.length W) (fun _ pre _ => ¬ (vals pre <+: cs2))
              (fun s A C row hs hg hr => hs.own h57 hg hr) (fun _ _ _ _ _ hs _ _ => hs) ⟨Fr.refl _ _, ib7⟩
              (fun x a' W => ∃ bx, W7.heap.size ≤ bx ∧ Cb W bx x.1 ∧ a' = { tmps := #[.slice A0 k c0, .int .u32 nu, .slice A2 p c2, undef, .pointer (some ⟨w.heap.size, 0, none⟩), undef, .pointer (some ⟨w.heap.size + 1, 0, none⟩), .pointer (some ⟨g, 0, none⟩), u8, .pointer (some ⟨W1.heap.size, 0, none⟩), undef, u11, .pointer (some ⟨W5.heap.size, 0, none⟩), .pointer (some ⟨bx, 0, none⟩), .pointer (some ⟨g, 0, none⟩), .pointer (some ⟨g, 0, none⟩), .bool false, .bool false, .slice A0 k c0, .int .i64 (k : Int), .bool false, .bool false, .bool false, .slice A2 p c2, .int .i64 (p : Int), .bool false, .bool false, undef, undef, undef, undef, undef, .slice A0 k c0, .int .i64 (k : Int), .int .i64 (k : Int), .bool false, u36, u37, u38, u39, u40, u41, u42, u43, .pointer (some ⟨g, 0, none⟩), .func (.func gf1) #[] lb1, .bool false, .pointer (some ⟨g, 0, none⟩), .func (.func gf) #[] lb, undef, undef, undef, undef, undef, .slice A2 p c2, .int .i64 (p : Int), .int .i64 (p : Int), .bool false, u58, u59, u60, u61, u62, u63, u64, u65, u66, u67, u68, u69, u70, u71, u72, u73, u74, u75, u76, u77, u78, u79, u80, u81, u82, u83, u84, u85, u86, u87, u88, u89, u90, u91, u92, u93, u94, .pointer (some ⟨g, 0, none⟩), .func (.func gf3) #[] lb3, .bool false, .pointer (some ⟨g, 0, none⟩), .func (.func gf4) #[] lb4, .agg x.1.cells, undef, undef, undef, undef, undef, undef, undef, undef, undef, undef, undef, undef, undef, undef, undef, undef, undef, undef, undef, undef, undef, undef, undef, undef, undef, undef, undef, undef, undef, undef, undef, undef, undef, undef, undef, undef, undef, undef, undef, undef, undef, undef, undef], defers := [] })
              (fun x a' s A C row hs hg hr => by
                obtain ⟨bx, h1, h2, h3⟩ := hs
                refine ⟨bx, h1, ⟨(hg.block bx (Array.getElem?_eq_some_iff.1 h2.1).1 (fun e => ?_)).trans h2.1, h2.2⟩, h3⟩
                obtain ⟨_, ob, ho, hc⟩ := hr bx e.symm
                rw [h2.1] at ho
                cases ho
                cases hc) ?assign2 ?body2 ?done2 ?stop2
            case assign2 =>
              rintro l pre x W KK hgw hK
              have HC := Lib.hid (cb_new W (x := zeroCt) rfl)
              have HX := Lib.hid x.2
              refine region_in rfl (fun ⟨_, _, h⟩ => h) ?_
              go_wp2_with ((with_reducible refine wl_store_ct x.1 W.heap.size HC.out HX.out.sp.len ?_ ?_ ?_); rfl; rfl)
              have b : Below W.heap.size W ((W.alloc (.cells zeroCt.cells 45)).setRow W.heap.size x.1.cells) := below_row' ((Below.refl _ W).alloc (Nat.le_refl _) _) (Nat.le_refl _)
              refine hK _ _ ⟨b.size, fun k o _ hk _ => (b.block k (Array.getElem?_eq_some_iff.1 hk).1).trans hk⟩ (Kc.below (Still.const _ _) hgw.fr.size b) (hgw.below b) ⟨W.heap.size, hgw.fr.size, cb_set HC.out HX.out.sp.len, rfl⟩
            case body2 =>
              rintro l pre x a' W - - hgw ⟨bx, hb, hbx, rfl⟩ hlen
              have hcl := AL.out.1
              have hlen' : pre.length < cs.length := by omega
              obtain ⟨y, hy⟩ : ∃ y, cs[pre.length]? = some y := ⟨cs[pre.length], List.getElem?_eq_getElem hlen'⟩
              have ow := O8.out W hgw.fr
              obtain ⟨bv, cv, ev, rgv⟩ := Od.rng ⟨F5, ow⟩ hy
              injection ev with ev1 ev2 ev3
              subst ev1
              have YOK := Lib.hid (ow.ok y (List.mem_of_getElem? hy))
              have HX := Lib.hid x.2
              have HBX := Lib.hid hbx
              have HWW := Lib.hid hgw
              have RG := Lib.hid rgv
              have RX : Hid (W.rangeAt bx 0 x.1.sp.cellL) := Lib.hid (rng_sp (fun j u hj => by rw [Nat.zero_add, cell_of_row _ _ _ _ _ _ hbx.1]; simpa [Ct.cells] using hj))
              have PRE : Hid (vals (pre ++ [x]) <+: cs2 → x.1.sp = y.sp ∧ (x.1 = y ∨ x.1.sp.nu = nu)) := Lib.hid fun hpre => by
                obtain ⟨rest, hr⟩ := hpre
                have e : cs2[pre.length]? = some x.1 := by
                  rw [← hr, vals_snoc, List.append_assoc, ← vals_len, List.getElem?_append_right (Nat.le_refl _)]
                  simp
                exact AL.out.2 pre.length y x.1 hy e
              have cn : W.cell? ⟨W5.heap.size, 0, none⟩ = some (.int .i64 (pre.length : Int)) := by rw [cell_of_row _ _ _ _ _ _ hgw.ct]; rfl
              have wbx := (ow.ex (W1.heap.size, Obj.cells #[.slice (some ⟨bv, 0, none⟩) cs.length cr] 27 (0, 0)) (by simp [X5])).1
              have cw : W.cell? ⟨W1.heap.size, 0, none⟩ = some (.slice (some ⟨bv, 0, none⟩) cs.length cr) := by rw [cell_of_row _ _ _ _ _ _ wbx]; rfl
              have nbx := (ow.ex (w.heap.size, Obj.cells #[.int .u32 nu] 26 (0, 0)) (by simp [X5])).1
              have cnu : W.cell? ⟨w.heap.size, 0, none⟩ = some (.int .u32 nu) := by rw [cell_of_row _ _ _ _ _ _ nbx]; rfl
              have xnu : W.cell? ⟨bx, 0, none⟩ = some (.int .u32 x.1.sp.nu) := by rw [cell_of_row _ _ _ _ _ _ hbx.1]; rfl
              have rbx := (ow.ex (w.heap.size + 1, Obj.cells #[.bool false] 4 (0, 0)) (by simp [X5])).1
              have cn' : W.drew.cell? ⟨W5.heap.size, 0, none⟩ = some (.int .i64 (pre.length : Int)) := cn
              have hfn : W.drew.frozen? ⟨W5.heap.size, 0, none⟩ = false := by have := hgw.ct; show W.frozen? _ = false; simp [World.frozen?, this]
              have cr' : W.drew.cell? ⟨w.heap.size + 1, 0, none⟩ = some (.bool false) := by show W.cell? _ = _; rw [cell_of_row _ _ _ _ _ _ rbx]; rfl
              have hfr : W.drew.frozen? ⟨w.heap.size + 1, 0, none⟩ = false := by show W.frozen? _ = false; simp [World.frozen?, rbx]
              have hge : decide ((cs.length : Int) ≤ (pre.length : Int)) = false := decide_eq_false (by omega)
              have hi : (pre.length : Int) < (cs.length : Int) := by omega
              clear hgw hbx rgv ow wbx nbx rbx hy ev2 ev3 hb hlen
              refine wpIn_block ?_
              by_cases cs1 : x.1.sp = y.sp
              · have hb1 : eqS x.1.sp y.sp = true := by rw [cs1]; exact eqS_yes _
                by_cases cs2' : x.1 = y
                · have hb2 : eqB x.1 y = true := by rw [cs2']; exact eqB_yes _
                  apply wpIn_seq_k; intro KB hKB
                  apply wpIn_seq_k; intro KA hKA
                  refine region_held_in (S := fun U => U = W.drew) rfl (fun ⟨_, _, h⟩ => h) (by kernel_rfl) rfl (fun hH => ?_)
                  refine wpAnyH_take (i := 0) (v := .int .i64 (pre.length : Int)) rfl (by kernel_rfl) (by kernel_rfl) (by kernel_rfl) (fun _ _ _ h => h) (.inl ⟨by rfl, ?_⟩) (by assumption) ?_
                  · intro W hW; subst hW; go_simp
                  try simp only [List.getElem_toArray, List.getElem_cons_zero, Act.put, List.setIfInBounds_toArray, List.set_cons_zero, List.set_cons_succ]
                  refine wpAnyH_take (i := 1) (v := .slice (some ⟨bv, 0, none⟩) cs.length cr) rfl (by kernel_rfl) (by kernel_rfl) (by kernel_rfl) (fun _ _ _ h => h) (.inl ⟨by rfl, ?_⟩) (by assumption) ?_
                  · intro W hW; subst hW; go_simp
                  try simp only [List.getElem_toArray, List.getElem_cons_zero, List.getElem_cons_succ, Act.put, List.setIfInBounds_toArray, List.set_cons_zero, List.set_cons_succ]
                  refine wpAnyH_take (i := 2) (v := .int .i64 (cs.length : Int)) rfl (by kernel_rfl) (by kernel_rfl) (by kernel_rfl) (fun _ _ _ h => h) (.inl ⟨by rfl, ?_⟩) (by assumption) ?_
                  · intro W hW; subst hW; go_simp
                  try simp only [List.getElem_toArray, List.getElem_cons_zero, List.getElem_cons_succ, Act.put, List.setIfInBounds_toArray, List.set_cons_zero, List.set_cons_succ]
                  refine wpAnyH_take (i := 3) (v := .bool false) rfl (by kernel_rfl) (by kernel_rfl) (by kernel_rfl) (fun _ _ _ h => h) (.inl ⟨by rfl, ?_⟩) (by assumption) ?_
                  · intro W hW; subst hW; go_simp
                  try simp only [List.getElem_toArray, List.getElem_cons_zero, List.getElem_cons_succ, Act.put, List.setIfInBounds_toArray, List.set_cons_zero, List.set_cons_succ]
                  refine wpAnyH_take (i := 4) (v := .bool false) rfl (by kernel_rfl) (by kernel_rfl) (by kernel_rfl) (fun _ _ _ h => h) (.inl ⟨by rfl, ?_⟩) (by assumption) ?_
                  · intro W hW; subst hW; go_simp
                  try simp only [List.getElem_toArray, List.getElem_cons_zero, List.getElem_cons_succ, Act.put, List.setIfInBounds_toArray, List.set_cons_zero, List.set_cons_succ]
                  refine wpAnyH_take (i := 5) (v := .pointer (some ⟨bx, 0, none⟩)) rfl (by kernel_rfl) (by kernel_rfl) (by kernel_rfl) (fun _ _ _ h => h) (.inl ⟨by rfl, ?_⟩) (by assumption) ?_
                  · intro W hW; subst hW; go_simp
                  try simp only [List.getElem_toArray, List.getElem_cons_zero, List.getElem_cons_succ, Act.put, List.setIfInBounds_toArray, List.set_cons_zero, List.set_cons_succ]
                  refine wpAnyH_take (i := 6) (v := .agg x.1.sp.cells) rfl (by kernel_rfl) (by kernel_rfl) (by kernel_rfl) (fun _ _ _ h => h) (yields_load_spm (by rfl) (.tmp 106) rfl bx 0 rfl HX.out.sp.len (fun U hU => by subst hU; exact RX.out)) (by assumption) ?_
                  try simp only [List.getElem_toArray, List.getElem_cons_zero, List.getElem_cons_succ, Act.put, List.setIfInBounds_toArray, List.set_cons_zero, List.set_cons_succ]
                  refine wpAnyH_take (i := 7) (v := .slice (some ⟨bv, 0, none⟩) cs.length cr) rfl (by kernel_rfl) (by kernel_rfl) (by kernel_rfl) (fun _ _ _ h => h) (.inl ⟨by rfl, ?_⟩) (by assumption) ?_
                  · intro W hW; subst hW; go_simp
                  try simp only [List.getElem_toArray, List.getElem_cons_zero, List.getElem_cons_succ, Act.put, List.setIfInBounds_toArray, List.set_cons_zero, List.set_cons_succ]
                  refine wpAnyH_take (i := 8) (v := .int .i64 (pre.length : Int)) rfl (by kernel_rfl) (by kernel_rfl) (by kernel_rfl) (fun _ _ _ h => h) (.inl ⟨by rfl, ?_⟩) (by assumption) ?_
                  · intro W hW; subst hW; go_simp
                  try simp only [List.getElem_toArray, List.getElem_cons_zero, List.getElem_cons_succ, Act.put, List.setIfInBounds_toArray, List.set_cons_zero, List.set_cons_succ]
                  refine wpAnyH_take (i := 9) (v := .pointer (some ⟨bv, pre.length * 27, none⟩)) rfl (by kernel_rfl) (by kernel_rfl) (by kernel_rfl) (fun _ _ _ h => h) (.inl ⟨by rfl, ?_⟩) (by assumption) ?_
                  · intro W hW; subst hW; go_simp
                  try simp only [List.getElem_toArray, List.getElem_cons_zero, List.getElem_cons_succ, Act.put, List.setIfInBounds_toArray, List.set_cons_zero, List.set_cons_succ]
                  refine wpAnyH_take (i := 10) (v := .pointer (some ⟨bv, pre.length * 27, none⟩)) rfl (by kernel_rfl) (by kernel_rfl) (by kernel_rfl) (fun _ _ _ h => h) (.inl ⟨by rfl, ?_⟩) (by assumption) ?_
                  · intro W hW; subst hW; go_simp
                  try simp only [List.getElem_toArray, List.getElem_cons_zero, List.getElem_cons_succ, Act.put, List.setIfInBounds_toArray, List.set_cons_zero, List.set_cons_succ]
                  refine wpAnyH_take (i := 11) (v := .agg y.sp.cells) rfl (by kernel_rfl) (by kernel_rfl) (by kernel_rfl) (fun _ _ _ h => h) (yields_load_spm (by rfl) (.tmp 111) rfl bv (pre.length * 27) rfl YOK.out.sp.len (fun U hU => by subst hU; exact rng_sp RG.out)) (by assumption) ?_
                  try simp only [List.getElem_toArray, List.getElem_cons_zero, List.getElem_cons_succ, Act.put, List.setIfInBounds_toArray, List.set_cons_zero, List.set_cons_succ]
                  refine wpAnyH_take (i := 12) (v := .bool false) rfl (by kernel_rfl) (by kernel_rfl) (by kernel_rfl) (fun _ _ _ h => h) (yields_nsp (by rfl) (.tmp 107) (.tmp 112) rfl HX.out.sp YOK.out.sp rfl rfl hb1) (by assumption) ?_
                  try simp only [List.getElem_toArray, List.getElem_cons_zero, List.getElem_cons_succ, Act.put, List.setIfInBounds_toArray, List.set_cons_zero, List.set_cons_succ]
                  refine wpAnyH_take (i := 13) (v := .bool false) rfl (by kernel_rfl) (by kernel_rfl) (by kernel_rfl) (fun _ _ _ h => h) (.inl ⟨by rfl, ?_⟩) (by assumption) ?_
                  · intro W hW; subst hW; go_simp
                  try simp only [List.getElem_toArray, List.getElem_cons_zero, List.getElem_cons_succ, Act.put, List.setIfInBounds_toArray, List.set_cons_zero, List.set_cons_succ]
                  refine wpAnyH_take (i := 14) (v := .bool false) rfl (by kernel_rfl) (by kernel_rfl) (by kernel_rfl) (fun _ _ _ h => h) (.inl ⟨by rfl, ?_⟩) (by assumption) ?_
                  · intro W hW; subst hW; go_simp
                  try simp only [List.getElem_toArray, List.getElem_cons_zero, List.getElem_cons_succ, Act.put, List.setIfInBounds_toArray, List.set_cons_zero, List.set_cons_succ]
                  refine wpAnyH_take (i := 15) (v := .agg x.1.cells) rfl (by kernel_rfl) (by kernel_rfl) (by kernel_rfl) (fun _ _ _ h => h) (yields_load_ct (by rfl) (.tmp 13) rfl bx rfl (fun U hU => by subst hU; exact HBX.out)) (by assumption) ?_
                  try simp only [List.getElem_toArray, List.getElem_cons_zero, List.getElem_cons_succ, Act.put, List.setIfInBounds_toArray, List.set_cons_zero, List.set_cons_succ]
                  refine wpAnyH_take (i := 16) (v := .slice (some ⟨bv, 0, none⟩) cs.length cr) rfl (by kernel_rfl) (by kernel_rfl) (by kernel_rfl) (fun _ _ _ h => h) (.inl ⟨by rfl, ?_⟩) (by assumption) ?_
                  · intro W hW; subst hW; go_simp
                  try simp only [List.getElem_toArray, List.getElem_cons_zero, List.getElem_cons_succ, Act.put, List.setIfInBounds_toArray, List.set_cons_zero, List.set_cons_succ]
                  refine wpAnyH_take (i := 17) (v := .int .i64 (pre.length : Int)) rfl (by kernel_rfl) (by kernel_rfl) (by kernel_rfl) (fun _ _ _ h => h) (.inl ⟨by rfl, ?_⟩) (by assumption) ?_
                  · intro W hW; subst hW; go_simp
                  try simp only [List.getElem_toArray, List.getElem_cons_zero, List.getElem_cons_succ, Act.put, List.setIfInBounds_toArray, List.set_cons_zero, List.set_cons_succ]
                  refine wpAnyH_take (i := 18) (v := .pointer (some ⟨bv, pre.length * 27, none⟩)) rfl (by kernel_rfl) (by kernel_rfl) (by kernel_rfl) (fun _ _ _ h => h) (.inl ⟨by rfl, ?_⟩) (by assumption) ?_
                  · intro W hW; subst hW; go_simp
                  try simp only [List.getElem_toArray, List.getElem_cons_zero, List.getElem_cons_succ, Act.put, List.setIfInBounds_toArray, List.set_cons_zero, List.set_cons_succ]
                  refine wpAnyH_take (i := 19) (v := .agg y.cells) rfl (by kernel_rfl) (by kernel_rfl) (by kernel_rfl) (fun _ _ _ h => h) (yields_load_ctm (by rfl) (.tmp 119) rfl bv (pre.length * 27) rfl YOK.out.sp.len (fun U hU => by subst hU; exact RG.out)) (by assumption) ?_
                  try simp only [List.getElem_toArray, List.getElem_cons_zero, List.getElem_cons_succ, Act.put, List.setIfInBounds_toArray, List.set_cons_zero, List.set_cons_succ]
                  refine wpAnyH_take (i := 20) (v := .bool false) rfl (by kernel_rfl) (by kernel_rfl) (by kernel_rfl) (fun _ _ _ h => h) (yields_nct (by rfl) (.tmp 116) (.tmp 120) rfl HX.out YOK.out rfl rfl hb2) (by assumption) ?_
                  try simp only [List.getElem_toArray, List.getElem_cons_zero, List.getElem_cons_succ, Act.put, List.setIfInBounds_toArray, List.set_cons_zero, List.set_cons_succ]
                  refine wpAnyH_take (i := 21) (v := .bool false) rfl (by kernel_rfl) (by kernel_rfl) (by kernel_rfl) (fun _ _ _ h => h) (.inl ⟨by rfl, ?_⟩) (by assumption) ?_
                  · intro W hW; subst hW; go_simp
                  try simp only [List.getElem_toArray, List.getElem_cons_zero, List.getElem_cons_succ, Act.put, List.setIfInBounds_toArray, List.set_cons_zero, List.set_cons_succ]
                  refine wpAnyH_take (i := 22) (v := undef) rfl (by kernel_rfl) (by kernel_rfl) (by kernel_rfl) (fun _ _ _ h => h) (.inr ⟨by rfl, rfl⟩) (by assumption) ?_
                  try simp only [List.getElem_toArray, List.getElem_cons_zero, List.getElem_cons_succ, Act.put, List.setIfInBounds_toArray, List.set_cons_zero, List.set_cons_succ]
                  refine wpAnyH_take (i := 23) (v := undef) rfl (by kernel_rfl) (by kernel_rfl) (by kernel_rfl) (fun _ _ _ h => h) (.inr ⟨by rfl, rfl⟩) (by assumption) ?_
                  try simp only [List.getElem_toArray, List.getElem_cons_zero, List.getElem_cons_succ, Act.put, List.setIfInBounds_toArray, List.set_cons_zero, List.set_cons_succ]
                  refine wpAnyH_take (i := 24) (v := undef) rfl (by kernel_rfl) (by kernel_rfl) (by kernel_rfl) (fun _ _ _ h => h) (.inr ⟨by rfl, rfl⟩) (by assumption) ?_
                  try simp only [List.getElem_toArray, List.getElem_cons_zero, List.getElem_cons_succ, Act.put, List.setIfInBounds_toArray, List.set_cons_zero, List.set_cons_succ]
                  refine wpAnyH_take (i := 25) (v := undef) rfl (by kernel_rfl) (by kernel_rfl) (by kernel_rfl) (fun _ _ _ h => h) (.inr ⟨by rfl, rfl⟩) (by assumption) ?_
                  try simp only [List.getElem_toArray, List.getElem_cons_zero, List.getElem_cons_succ, Act.put, List.setIfInBounds_toArray, List.set_cons_zero, List.set_cons_succ]
                  refine wpAnyH_take (i := 26) (v := undef) rfl (by kernel_rfl) (by kernel_rfl) (by kernel_rfl) (fun _ _ _ h => h) (.inr ⟨by rfl, rfl⟩) (by assumption) ?_
                  try simp only [List.getElem_toArray, List.getElem_cons_zero, List.getElem_cons_succ, Act.put, List.setIfInBounds_toArray, List.set_cons_zero, List.set_cons_succ]
                  refine wpAnyH_take (i := 27) (v := .bool false) rfl (by kernel_rfl) (by kernel_rfl) (by kernel_rfl) (fun _ _ _ h => h) (.inl ⟨by rfl, ?_⟩) (by assumption) ?_
                  · intro W hW; subst hW; go_simp
                  try simp only [List.getElem_toArray, List.getElem_cons_zero, List.getElem_cons_succ, Act.put, List.setIfInBounds_toArray, List.set_cons_zero, List.set_cons_succ]
                  refine wpAnyH_take (i := 28) (v := .bool false) rfl (by kernel_rfl) (by kernel_rfl) (by kernel_rfl) (fun _ _ _ h => h) (.inl ⟨by rfl, ?_⟩) (by assumption) ?_
                  · intro W hW; subst hW; go_simp
                  try simp only [List.getElem_toArray, List.getElem_cons_zero, List.getElem_cons_succ, Act.put, List.setIfInBounds_toArray, List.set_cons_zero, List.set_cons_succ]
                  refine wpAnyH_done (by decide +kernel) ?_ _
                  refine hKA _ _ ?_
                  refine wpIn_cond_false rfl ?_
                  apply wpIn_skip
                  refine hKB _ _ ?_
                  refine region_in rfl (fun ⟨_, _, h⟩ => h) ?_
                  go_wp2
                  have f1 : Fr (fun k => k = W5.heap.size ∨ W7.heap.size ≤ k) W W.drew := Fr.below (Below.refl _ W).drew
                  have FS : ∀ u, Fr (fun k => k = W5.heap.size ∨ W7.heap.size ≤ k) W (W.drew.setCell ⟨W5.heap.size, 0, none⟩ u) := fun u => f1.same (Fr.set (S := fun k => k = W5.heap.size ∨ W7.heap.size ≤ k) (p := ⟨W5.heap.size, 0, none⟩) (.inl rfl) u)
                  refine ⟨((KeepsOthers.drew W).trans (KeepsOthers.setCell _ ⟨W5.heap.size, 0, none⟩ _)).from _, Kc.fr ((Fr.below (Below.refl _ W).drew).same (Fr.set (S := fun k => k = W5.heap.size) (p := ⟨W5.heap.size, 0, none⟩) rfl _)), HWW.out.fr.same (FS _), ?_⟩
                  have := heap_setCell_same W.drew W5.heap.size 0 _ _ (.int .i64 ((pre.length : Int) + 1)) HWW.out.ct
                  rw [List.length_append, Int.natCast_add]
                  exact this
                · have hb2 : eqB x.1 y = false := eqB_no cs2'
                  by_cases cs3 : x.1.sp.nu = nu
                  · have hn3 : y.sp.nu = nu := by rw [← cs1]; exact cs3
                    apply wpIn_seq_k; intro KB hKB
                    apply wpIn_seq_k; intro KA hKA
                    refine region_held_in (S := fun U => U = W.drew) rfl (fun ⟨_, _, h⟩ => h) (by kernel_rfl) rfl (fun hH => ?_)
                    refine wpAnyH_take (i := 0) (v := .int .i64 (pre.length : Int)) rfl (by kernel_rfl) (by kernel_rfl) (by kernel_rfl) (fun _ _ _ h => h) (.inl ⟨by rfl, ?_⟩) (by assumption) ?_
                    · intro W hW; subst hW; go_simp
                    try simp only [List.getElem_toArray, List.getElem_cons_zero, Act.put, List.setIfInBounds_toArray, List.set_cons_zero, List.set_cons_succ]
                    refine wpAnyH_take (i := 1) (v := .slice (some ⟨bv, 0, none⟩) cs.length cr) rfl (by kernel_rfl) (by kernel_rfl) (by kernel_rfl) (fun _ _ _ h => h) (.inl ⟨by rfl, ?_⟩) (by assumption) ?_
                    · intro W hW; subst hW; go_simp
                    try simp only [List.getElem_toArray, List.getElem_cons_zero, List.getElem_cons_succ, Act.put, List.setIfInBounds_toArray, List.set_cons_zero, List.set_cons_succ]
                    refine wpAnyH_take (i := 2) (v := .int .i64 (cs.length : Int)) rfl (by kernel_rfl) (by kernel_rfl) (by kernel_rfl) (fun _ _ _ h => h) (.inl ⟨by rfl, ?_⟩) (by assumption) ?_
                    · intro W hW; subst hW; go_simp
                    try simp only [List.getElem_toArray, List.getElem_cons_zero, List.getElem_cons_succ, Act.put, List.setIfInBounds_toArray, List.set_cons_zero, List.set_cons_succ]
                    refine wpAnyH_take (i := 3) (v := .bool false) rfl (by kernel_rfl) (by kernel_rfl) (by kernel_rfl) (fun _ _ _ h => h) (.inl ⟨by rfl, ?_⟩) (by assumption) ?_
                    · intro W hW; subst hW; go_simp
                    try simp only [List.getElem_toArray, List.getElem_cons_zero, List.getElem_cons_succ, Act.put, List.setIfInBounds_toArray, List.set_cons_zero, List.set_cons_succ]
                    refine wpAnyH_take (i := 4) (v := .bool false) rfl (by kernel_rfl) (by kernel_rfl) (by kernel_rfl) (fun _ _ _ h => h) (.inl ⟨by rfl, ?_⟩) (by assumption) ?_
                    · intro W hW; subst hW; go_simp
                    try simp only [List.getElem_toArray, List.getElem_cons_zero, List.getElem_cons_succ, Act.put, List.setIfInBounds_toArray, List.set_cons_zero, List.set_cons_succ]
                    refine wpAnyH_take (i := 5) (v := .pointer (some ⟨bx, 0, none⟩)) rfl (by kernel_rfl) (by kernel_rfl) (by kernel_rfl) (fun _ _ _ h => h) (.inl ⟨by rfl, ?_⟩) (by assumption) ?_
                    · intro W hW; subst hW; go_simp
                    try simp only [List.getElem_toArray, List.getElem_cons_zero, List.getElem_cons_succ, Act.put, List.setIfInBounds_toArray, List.set_cons_zero, List.set_cons_succ]
                    refine wpAnyH_take (i := 6) (v := .agg x.1.sp.cells) rfl (by kernel_rfl) (by kernel_rfl) (by kernel_rfl) (fun _ _ _ h => h) (yields_load_spm (by rfl) (.tmp 106) rfl bx 0 rfl HX.out.sp.len (fun U hU => by subst hU; exact RX.out)) (by assumption) ?_
                    try simp only [List.getElem_toArray, List.getElem_cons_zero, List.getElem_cons_succ, Act.put, List.setIfInBounds_toArray, List.set_cons_zero, List.set_cons_succ]
                    refine wpAnyH_take (i := 7) (v := .slice (some ⟨bv, 0, none⟩) cs.length cr) rfl (by kernel_rfl) (by kernel_rfl) (by kernel_rfl) (fun _ _ _ h => h) (.inl ⟨by rfl, ?_⟩) (by assumption) ?_
                    · intro W hW; subst hW; go_simp
                    try simp only [List.getElem_toArray, List.getElem_cons_zero, List.getElem_cons_succ, Act.put, List.setIfInBounds_toArray, List.set_cons_zero, List.set_cons_succ]
                    refine wpAnyH_take (i := 8) (v := .int .i64 (pre.length : Int)) rfl (by kernel_rfl) (by kernel_rfl) (by kernel_rfl) (fun _ _ _ h => h) (.inl ⟨by rfl, ?_⟩) (by assumption) ?_
                    · intro W hW; subst hW; go_simp
                    try simp only [List.getElem_toArray, List.getElem_cons_zero, List.getElem_cons_succ, Act.put, List.setIfInBounds_toArray, List.set_cons_zero, List.set_cons_succ]
                    refine wpAnyH_take (i := 9) (v := .pointer (some ⟨bv, pre.length * 27, none⟩)) rfl (by kernel_rfl) (by kernel_rfl) (by kernel_rfl) (fun _ _ _ h => h) (.inl ⟨by rfl, ?_⟩) (by assumption) ?_
                    · intro W hW; subst hW; go_simp
                    try simp only [List.getElem_toArray, List.getElem_cons_zero, List.getElem_cons_succ, Act.put, List.setIfInBounds_toArray, List.set_cons_zero, List.set_cons_succ]
                    refine wpAnyH_take (i := 10) (v := .pointer (some ⟨bv, pre.length * 27, none⟩)) rfl (by kernel_rfl) (by kernel_rfl) (by kernel_rfl) (fun _ _ _ h => h) (.inl ⟨by rfl, ?_⟩) (by assumption) ?_
                    · intro W hW; subst hW; go_simp
                    try simp only [List.getElem_toArray, List.getElem_cons_zero, List.getElem_cons_succ, Act.put, List.setIfInBounds_toArray, List.set_cons_zero, List.set_cons_succ]
                    refine wpAnyH_take (i := 11) (v := .agg y.sp.cells) rfl (by kernel_rfl) (by kernel_rfl) (by kernel_rfl) (fun _ _ _ h => h) (yields_load_spm (by rfl) (.tmp 111) rfl bv (pre.length * 27) rfl YOK.out.sp.len (fun U hU => by subst hU; exact rng_sp RG.out)) (by assumption) ?_
                    try simp only [List.getElem_toArray, List.getElem_cons_zero, List.getElem_cons_succ, Act.put, List.setIfInBounds_toArray, List.set_cons_zero, List.set_cons_succ]
                    refine wpAnyH_take (i := 12) (v := .bool false) rfl (by kernel_rfl) (by kernel_rfl) (by kernel_rfl) (fun _ _ _ h => h) (yields_nsp (by rfl) (.tmp 107) (.tmp 112) rfl HX.out.sp YOK.out.sp rfl rfl hb1) (by assumption) ?_
                    try simp only [List.getElem_toArray, List.getElem_cons_zero, List.getElem_cons_succ, Act.put, List.setIfInBounds_toArray, List.set_cons_zero, List.set_cons_succ]
                    refine wpAnyH_take (i := 13) (v := .bool false) rfl (by kernel_rfl) (by kernel_rfl) (by kernel_rfl) (fun _ _ _ h => h) (.inl ⟨by rfl, ?_⟩) (by assumption) ?_
                    · intro W hW; subst hW; go_simp
                    try simp only [List.getElem_toArray, List.getElem_cons_zero, List.getElem_cons_succ, Act.put, List.setIfInBounds_toArray, List.set_cons_zero, List.set_cons_succ]
                    refine wpAnyH_take (i := 14) (v := .bool false) rfl (by kernel_rfl) (by kernel_rfl) (by kernel_rfl) (fun _ _ _ h => h) (.inl ⟨by rfl, ?_⟩) (by assumption) ?_
                    · intro W hW; subst hW; go_simp
                    try simp only [List.getElem_toArray, List.getElem_cons_zero, List.getElem_cons_succ, Act.put, List.setIfInBounds_toArray, List.set_cons_zero, List.set_cons_succ]
                    refine wpAnyH_take (i := 15) (v := .agg x.1.cells) rfl (by kernel_rfl) (by kernel_rfl) (by kernel_rfl) (fun _ _ _ h => h) (yields_load_ct (by rfl) (.tmp 13) rfl bx rfl (fun U hU => by subst hU; exact HBX.out)) (by assumption) ?_
                    try simp only [List.getElem_toArray, List.getElem_cons_zero, List.getElem_cons_succ, Act.put, List.setIfInBounds_toArray, List.set_cons_zero, List.set_cons_succ]
                    refine wpAnyH_take (i := 16) (v := .slice (some ⟨bv, 0, none⟩) cs.length cr) rfl (by kernel_rfl) (by kernel_rfl) (by kernel_rfl) (fun _ _ _ h => h) (.inl ⟨by rfl, ?_⟩) (by assumption) ?_
                    · intro W hW; subst hW; go_simp
                    try simp only [List.getElem_toArray, List.getElem_cons_zero, List.getElem_cons_succ, Act.put, List.setIfInBounds_toArray, List.set_cons_zero, List.set_cons_succ]
                    refine wpAnyH_take (i := 17) (v := .int .i64 (pre.length : Int)) rfl (by kernel_rfl) (by kernel_rfl) (by kernel_rfl) (fun _ _ _ h => h) (.inl ⟨by rfl, ?_⟩) (by assumption) ?_
                    · intro W hW; subst hW; go_simp
                    try simp only [List.getElem_toArray, List.getElem_cons_zero, List.getElem_cons_succ, Act.put, List.setIfInBounds_toArray, List.set_cons_zero, List.set_cons_succ]
                    refine wpAnyH_take (i := 18) (v := .pointer (some ⟨bv, pre.length * 27, none⟩)) rfl (by kernel_rfl) (by kernel_rfl) (by kernel_rfl) (fun _ _ _ h => h) (.inl ⟨by rfl, ?_⟩) (by assumption) ?_
                    · intro W hW; subst hW; go_simp
                    try simp only [List.getElem_toArray, List.getElem_cons_zero, List.getElem_cons_succ, Act.put, List.setIfInBounds_toArray, List.set_cons_zero, List.set_cons_succ]
                    refine wpAnyH_take (i := 19) (v := .agg y.cells) rfl (by kernel_rfl) (by kernel_rfl) (by kernel_rfl) (fun _ _ _ h => h) (yields_load_ctm (by rfl) (.tmp 119) rfl bv (pre.length * 27) rfl YOK.out.sp.len (fun U hU => by subst hU; exact RG.out)) (by assumption) ?_
                    try simp only [List.getElem_toArray, List.getElem_cons_zero, List.getElem_cons_succ, Act.put, List.setIfInBounds_toArray, List.set_cons_zero, List.set_cons_succ]
                    refine wpAnyH_take (i := 20) (v := .bool true) rfl (by kernel_rfl) (by kernel_rfl) (by kernel_rfl) (fun _ _ _ h => h) (yields_nct (by rfl) (.tmp 116) (.tmp 120) rfl HX.out YOK.out rfl rfl hb2) (by assumption) ?_
                    try simp only [List.getElem_toArray, List.getElem_cons_zero, List.getElem_cons_succ, Act.put, List.setIfInBounds_toArray, List.set_cons_zero, List.set_cons_succ]
                    refine wpAnyH_take (i := 21) (v := .bool true) rfl (by kernel_rfl) (by kernel_rfl) (by kernel_rfl) (fun _ _ _ h => h) (.inl ⟨by rfl, ?_⟩) (by assumption) ?_
                    · intro W hW; subst hW; go_simp
                    try simp only [List.getElem_toArray, List.getElem_cons_zero, List.getElem_cons_succ, Act.put, List.setIfInBounds_toArray, List.set_cons_zero, List.set_cons_succ]
                    refine wpAnyH_take (i := 22) (v := .pointer (some ⟨bx, 0, none⟩)) rfl (by kernel_rfl) (by kernel_rfl) (by kernel_rfl) (fun _ _ _ h => h) (.inl ⟨by rfl, ?_⟩) (by assumption) ?_
                    · intro W hW; subst hW; go_simp
                    try simp only [List.getElem_toArray, List.getElem_cons_zero, List.getElem_cons_succ, Act.put, List.setIfInBounds_toArray, List.set_cons_zero, List.set_cons_succ]
                    refine wpAnyH_take (i := 23) (v := .pointer (some ⟨bx, 0, none⟩)) rfl (by kernel_rfl) (by kernel_rfl) (by kernel_rfl) (fun _ _ _ h => h) (.inl ⟨by rfl, ?_⟩) (by assumption) ?_
                    · intro W hW; subst hW; go_simp
                    try simp only [List.getElem_toArray, List.getElem_cons_zero, List.getElem_cons_succ, Act.put, List.setIfInBounds_toArray, List.set_cons_zero, List.set_cons_succ]
                    refine wpAnyH_take (i := 24) (v := .int .u32 x.1.sp.nu) rfl (by kernel_rfl) (by kernel_rfl) (by kernel_rfl) (fun _ _ _ h => h) (.inl ⟨by rfl, ?_⟩) (by assumption) ?_
                    · intro W hW; subst hW; go_simp
                    try simp only [List.getElem_toArray, List.getElem_cons_zero, List.getElem_cons_succ, Act.put, List.setIfInBounds_toArray, List.set_cons_zero, List.set_cons_succ]
                    refine wpAnyH_take (i := 25) (v := .int .u32 nu) rfl (by kernel_rfl) (by kernel_rfl) (by kernel_rfl) (fun _ _ _ h => h) (.inl ⟨by rfl, ?_⟩) (by assumption) ?_
                    · intro W hW; subst hW; go_simp
                    try simp only [List.getElem_toArray, List.getElem_cons_zero, List.getElem_cons_succ, Act.put, List.setIfInBounds_toArray, List.set_cons_zero, List.set_cons_succ]
                    refine wpAnyH_take (i := 26) (v := .bool false) rfl (by kernel_rfl) (by kernel_rfl) (by kernel_rfl) (fun _ _ _ h => h) (.inl ⟨by rfl, ?_⟩) (by assumption) ?_
                    · intro W hW; subst hW; go_simp
                    try simp only [List.getElem_toArray, List.getElem_cons_zero, List.getElem_cons_succ, Act.put, List.setIfInBounds_toArray, List.set_cons_zero, List.set_cons_succ]
                    refine wpAnyH_take (i := 27) (v := .bool false) rfl (by kernel_rfl) (by kernel_rfl) (by kernel_rfl) (fun _ _ _ h => h) (.inl ⟨by rfl, ?_⟩) (by assumption) ?_
                    · intro W hW; subst hW; go_simp
                    try simp only [List.getElem_toArray, List.getElem_cons_zero, List.getElem_cons_succ, Act.put, List.setIfInBounds_toArray, List.set_cons_zero, List.set_cons_succ]
                    refine wpAnyH_take (i := 28) (v := .bool false) rfl (by kernel_rfl) (by kernel_rfl) (by kernel_rfl) (fun _ _ _ h => h) (.inl ⟨by rfl, ?_⟩) (by assumption) ?_
                    · intro W hW; subst hW; go_simp
                    try simp only [List.getElem_toArray, List.getElem_cons_zero, List.getElem_cons_succ, Act.put, List.setIfInBounds_toArray, List.set_cons_zero, List.set_cons_succ]
                    refine wpAnyH_done (by decide +kernel) ?_ _
                    refine hKA _ _ ?_
                    refine wpIn_cond_false rfl ?_
                    apply wpIn_skip
                    refine hKB _ _ ?_
                    refine region_in rfl (fun ⟨_, _, h⟩ => h) ?_
                    go_wp2
                    have f1 : Fr (fun k => k = W5.heap.size ∨ W7.heap.size ≤ k) W W.drew := Fr.below (Below.refl _ W).drew
                    have FS : ∀ u, Fr (fun k => k = W5.heap.size ∨ W7.heap.size ≤ k) W (W.drew.setCell ⟨W5.heap.size, 0, none⟩ u) := fun u => f1.same (Fr.set (S := fun k => k = W5.heap.size ∨ W7.heap.size ≤ k) (p := ⟨W5.heap.size, 0, none⟩) (.inl rfl) u)
                    refine ⟨((KeepsOthers.drew W).trans (KeepsOthers.setCell _ ⟨W5.heap.size, 0, none⟩ _)).from _, Kc.fr ((Fr.below (Below.refl _ W).drew).same (Fr.set (S := fun k => k = W5.heap.size) (p := ⟨W5.heap.size, 0, none⟩) rfl _)), HWW.out.fr.same (FS _), ?_⟩
                    have := heap_setCell_same W.drew W5.heap.size 0 _ _ (.int .i64 ((pre.length : Int) + 1)) HWW.out.ct
                    rw [List.length_append, Int.natCast_add]
                    exact this
                  · have hn3 : ¬ y.sp.nu = nu := by rw [← cs1]; exact cs3
                    apply wpIn_seq_k; intro KB hKB
                    apply wpIn_seq_k; intro KA hKA
                    refine region_held_in (S := fun U => U = W.drew) rfl (fun ⟨_, _, h⟩ => h) (by kernel_rfl) rfl (fun hH => ?_)
                    refine wpAnyH_take (i := 0) (v := .int .i64 (pre.length : Int)) rfl (by kernel_rfl) (by kernel_rfl) (by kernel_rfl) (fun _ _ _ h => h) (.inl ⟨by rfl, ?_⟩) (by assumption) ?_
                    · intro W hW; subst hW; go_simp
                    try simp only [List.getElem_toArray, List.getElem_cons_zero, Act.put, List.setIfInBounds_toArray, List.set_cons_zero, List.set_cons_succ]
                    refine wpAnyH_take (i := 1) (v := .slice (some ⟨bv, 0, none⟩) cs.length cr) rfl (by kernel_rfl) (by kernel_rfl) (by kernel_rfl) (fun _ _ _ h => h) (.inl ⟨by rfl, ?_⟩) (by assumption) ?_
                    · intro W hW; subst hW; go_simp
                    try simp only [List.getElem_toArray, List.getElem_cons_zero, List.getElem_cons_succ, Act.put, List.setIfInBounds_toArray, List.set_cons_zero, List.set_cons_succ]
                    refine wpAnyH_take (i := 2) (v := .int .i64 (cs.length : Int)) rfl (by kernel_rfl) (by kernel_rfl) (by kernel_rfl) (fun _ _ _ h => h) (.inl ⟨by rfl, ?_⟩) (by assumption) ?_
                    · intro W hW; subst hW; go_simp
                    try simp only [List.getElem_toArray, List.getElem_cons_zero, List.getElem_cons_succ, Act.put, List.setIfInBounds_toArray, List.set_cons_zero, List.set_cons_succ]
                    refine wpAnyH_take (i := 3) (v := .bool false) rfl (by kernel_rfl) (by kernel_rfl) (by kernel_rfl) (fun _ _ _ h => h) (.inl ⟨by rfl, ?_⟩) (by assumption) ?_
                    · intro W hW; subst hW; go_simp
                    try simp only [List.getElem_toArray, List.getElem_cons_zero, List.getElem_cons_succ, Act.put, List.setIfInBounds_toArray, List.set_cons_zero, List.set_cons_succ]
                    refine wpAnyH_take (i := 4) (v := .bool false) rfl (by kernel_rfl) (by kernel_rfl) (by kernel_rfl) (fun _ _ _ h => h) (.inl ⟨by rfl, ?_⟩) (by assumption) ?_
                    · intro W hW; subst hW; go_simp
                    try simp only [List.getElem_toArray, List.getElem_cons_zero, List.getElem_cons_succ, Act.put, List.setIfInBounds_toArray, List.set_cons_zero, List.set_cons_succ]
                    refine wpAnyH_take (i := 5) (v := .pointer (some ⟨bx, 0, none⟩)) rfl (by kernel_rfl) (by kernel_rfl) (by kernel_rfl) (fun _ _ _ h => h) (.inl ⟨by rfl, ?_⟩) (by assumption) ?_
                    · intro W hW; subst hW; go_simp
                    try simp only [List.getElem_toArray, List.getElem_cons_zero, List.getElem_cons_succ, Act.put, List.setIfInBounds_toArray, List.set_cons_zero, List.set_cons_succ]
                    refine wpAnyH_take (i := 6) (v := .agg x.1.sp.cells) rfl (by kernel_rfl) (by kernel_rfl) (by kernel_rfl) (fun _ _ _ h => h) (yields_load_spm (by rfl) (.tmp 106) rfl bx 0 rfl HX.out.sp.len (fun U hU => by subst hU; exact RX.out)) (by assumption) ?_
                    try simp only [List.getElem_toArray, List.getElem_cons_zero, List.getElem_cons_succ, Act.put, List.setIfInBounds_toArray, List.set_cons_zero, List.set_cons_succ]
                    refine wpAnyH_take (i := 7) (v := .slice (some ⟨bv, 0, none⟩) cs.length cr) rfl (by kernel_rfl) (by kernel_rfl) (by kernel_rfl) (fun _ _ _ h => h) (.inl ⟨by rfl, ?_⟩) (by assumption) ?_
                    · intro W hW; subst hW; go_simp
                    try simp only [List.getElem_toArray, List.getElem_cons_zero, List.getElem_cons_succ, Act.put, List.setIfInBounds_toArray, List.set_cons_zero, List.set_cons_succ]
                    refine wpAnyH_take (i := 8) (v := .int .i64 (pre.length : Int)) rfl (by kernel_rfl) (by kernel_rfl) (by kernel_rfl) (fun _ _ _ h => h) (.inl ⟨by rfl, ?_⟩) (by assumption) ?_
                    · intro W hW; subst hW; go_simp
                    try simp only [List.getElem_toArray, List.getElem_cons_zero, List.getElem_cons_succ, Act.put, List.setIfInBounds_toArray, List.set_cons_zero, List.set_cons_succ]
                    refine wpAnyH_take (i := 9) (v := .pointer (some ⟨bv, pre.length * 27, none⟩)) rfl (by kernel_rfl) (by kernel_rfl) (by kernel_rfl) (fun _ _ _ h => h) (.inl ⟨by rfl, ?_⟩) (by assumption) ?_
                    · intro W hW; subst hW; go_simp
                    try simp only [List.getElem_toArray, List.getElem_cons_zero, List.getElem_cons_succ, Act.put, List.setIfInBounds_toArray, List.set_cons_zero, List.set_cons_succ]
                    refine wpAnyH_take (i := 10) (v := .pointer (some ⟨bv, pre.length * 27, none⟩)) rfl (by kernel_rfl) (by kernel_rfl) (by kernel_rfl) (fun _ _ _ h => h) (.inl ⟨by rfl, ?_⟩) (by assumption) ?_
                    · intro W hW; subst hW; go_simp
                    try simp only [List.getElem_toArray, List.getElem_cons_zero, List.getElem_cons_succ, Act.put, List.setIfInBounds_toArray, List.set_cons_zero, List.set_cons_succ]
                    refine wpAnyH_take (i := 11) (v := .agg y.sp.cells) rfl (by kernel_rfl) (by kernel_rfl) (by kernel_rfl) (fun _ _ _ h => h) (yields_load_spm (by rfl) (.tmp 111) rfl bv (pre.length * 27) rfl YOK.out.sp.len (fun U hU => by subst hU; exact rng_sp RG.out)) (by assumption) ?_
                    try simp only [List.getElem_toArray, List.getElem_cons_zero, List.getElem_cons_succ, Act.put, List.setIfInBounds_toArray, List.set_cons_zero, List.set_cons_succ]
                    refine wpAnyH_take (i := 12) (v := .bool false) rfl (by kernel_rfl) (by kernel_rfl) (by kernel_rfl) (fun _ _ _ h => h) (yields_nsp (by rfl) (.tmp 107) (.tmp 112) rfl HX.out.sp YOK.out.sp rfl rfl hb1) (by assumption) ?_
                    try simp only [List.getElem_toArray, List.getElem_cons_zero, List.getElem_cons_succ, Act.put, List.setIfInBounds_toArray, List.set_cons_zero, List.set_cons_succ]
                    refine wpAnyH_take (i := 13) (v := .bool false) rfl (by kernel_rfl) (by kernel_rfl) (by kernel_rfl) (fun _ _ _ h => h) (.inl ⟨by rfl, ?_⟩) (by assumption) ?_
                    · intro W hW; subst hW; go_simp
                    try simp only [List.getElem_toArray, List.getElem_cons_zero, List.getElem_cons_succ, Act.put, List.setIfInBounds_toArray, List.set_cons_zero, List.set_cons_succ]
                    refine wpAnyH_take (i := 14) (v := .bool false) rfl (by kernel_rfl) (by kernel_rfl) (by kernel_rfl) (fun _ _ _ h => h) (.inl ⟨by rfl, ?_⟩) (by assumption) ?_
                    · intro W hW; subst hW; go_simp
                    try simp only [List.getElem_toArray, List.getElem_cons_zero, List.getElem_cons_succ, Act.put, List.setIfInBounds_toArray, List.set_cons_zero, List.set_cons_succ]
                    refine wpAnyH_take (i := 15) (v := .agg x.1.cells) rfl (by kernel_rfl) (by kernel_rfl) (by kernel_rfl) (fun _ _ _ h => h) (yields_load_ct (by rfl) (.tmp 13) rfl bx rfl (fun U hU => by subst hU; exact HBX.out)) (by assumption) ?_
                    try simp only [List.getElem_toArray, List.getElem_cons_zero, List.getElem_cons_succ, Act.put, List.setIfInBounds_toArray, List.set_cons_zero, List.set_cons_succ]
                    refine wpAnyH_take (i := 16) (v := .slice (some ⟨bv, 0, none⟩) cs.length cr) rfl (by kernel_rfl) (by kernel_rfl) (by kernel_rfl) (fun _ _ _ h => h) (.inl ⟨by rfl, ?_⟩) (by assumption) ?_
                    · intro W hW; subst hW; go_simp
                    try simp only [List.getElem_toArray, List.getElem_cons_zero, List.getElem_cons_succ, Act.put, List.setIfInBounds_toArray, List.set_cons_zero, List.set_cons_succ]
                    refine wpAnyH_take (i := 17) (v := .int .i64 (pre.length : Int)) rfl (by kernel_rfl) (by kernel_rfl) (by kernel_rfl) (fun _ _ _ h => h) (.inl ⟨by rfl, ?_⟩) (by assumption) ?_
                    · intro W hW; subst hW; go_simp
                    try simp only [List.getElem_toArray, List.getElem_cons_zero, List.getElem_cons_succ, Act.put, List.setIfInBounds_toArray, List.set_cons_zero, List.set_cons_succ]
                    refine wpAnyH_take (i := 18) (v := .pointer (some ⟨bv, pre.length * 27, none⟩)) rfl (by kernel_rfl) (by kernel_rfl) (by kernel_rfl) (fun _ _ _ h => h) (.inl ⟨by rfl, ?_⟩) (by assumption) ?_
                    · intro W hW; subst hW; go_simp
                    try simp only [List.getElem_toArray, List.getElem_cons_zero, List.getElem_cons_succ, Act.put, List.setIfInBounds_toArray, List.set_cons_zero, List.set_cons_succ]
                    refine wpAnyH_take (i := 19) (v := .agg y.cells) rfl (by kernel_rfl) (by kernel_rfl) (by kernel_rfl) (fun _ _ _ h => h) (yields_load_ctm (by rfl) (.tmp 119) rfl bv (pre.length * 27) rfl YOK.out.sp.len (fun U hU => by subst hU; exact RG.out)) (by assumption) ?_
                    try simp only [List.getElem_toArray, List.getElem_cons_zero, List.getElem_cons_succ, Act.put, List.setIfInBounds_toArray, List.set_cons_zero, List.set_cons_succ]
                    refine wpAnyH_take (i := 20) (v := .bool true) rfl (by kernel_rfl) (by kernel_rfl) (by kernel_rfl) (fun _ _ _ h => h) (yields_nct (by rfl) (.tmp 116) (.tmp 120) rfl HX.out YOK.out rfl rfl hb2) (by assumption) ?_
                    try simp only [List.getElem_toArray, List.getElem_cons_zero, List.getElem_cons_succ, Act.put, List.setIfInBounds_toArray, List.set_cons_zero, List.set_cons_succ]
                    refine wpAnyH_take (i := 21) (v := .bool true) rfl (by kernel_rfl) (by kernel_rfl) (by kernel_rfl) (fun _ _ _ h => h) (.inl ⟨by rfl, ?_⟩) (by assumption) ?_
                    · intro W hW; subst hW; go_simp
                    try simp only [List.getElem_toArray, List.getElem_cons_zero, List.getElem_cons_succ, Act.put, List.setIfInBounds_toArray, List.set_cons_zero, List.set_cons_succ]
                    refine wpAnyH_take (i := 22) (v := .pointer (some ⟨bx, 0, none⟩)) rfl (by kernel_rfl) (by kernel_rfl) (by kernel_rfl) (fun _ _ _ h => h) (.inl ⟨by rfl, ?_⟩) (by assumption) ?_
                    · intro W hW; subst hW; go_simp
                    try simp only [List.getElem_toArray, List.getElem_cons_zero, List.getElem_cons_succ, Act.put, List.setIfInBounds_toArray, List.set_cons_zero, List.set_cons_succ]
                    refine wpAnyH_take (i := 23) (v := .pointer (some ⟨bx, 0, none⟩)) rfl (by kernel_rfl) (by kernel_rfl) (by kernel_rfl) (fun _ _ _ h => h) (.inl ⟨by rfl, ?_⟩) (by assumption) ?_
                    · intro W hW; subst hW; go_simp
                    try simp only [List.getElem_toArray, List.getElem_cons_zero, List.getElem_cons_succ, Act.put, List.setIfInBounds_toArray, List.set_cons_zero, List.set_cons_succ]
                    refine wpAnyH_take (i := 24) (v := .int .u32 x.1.sp.nu) rfl (by kernel_rfl) (by kernel_rfl) (by kernel_rfl) (fun _ _ _ h => h) (.inl ⟨by rfl, ?_⟩) (by assumption) ?_
                    · intro W hW; subst hW; go_simp
                    try simp only [List.getElem_toArray, List.getElem_cons_zero, List.getElem_cons_succ, Act.put, List.setIfInBounds_toArray, List.set_cons_zero, List.set_cons_succ]
                    refine wpAnyH_take (i := 25) (v := .int .u32 nu) rfl (by kernel_rfl) (by kernel_rfl) (by kernel_rfl) (fun _ _ _ h => h) (.inl ⟨by rfl, ?_⟩) (by assumption) ?_
                    · intro W hW; subst hW; go_simp
                    try simp only [List.getElem_toArray, List.getElem_cons_zero, List.getElem_cons_succ, Act.put, List.setIfInBounds_toArray, List.set_cons_zero, List.set_cons_succ]
                    refine wpAnyH_take (i := 26) (v := .bool true) rfl (by kernel_rfl) (by kernel_rfl) (by kernel_rfl) (fun _ _ _ h => h) (.inl ⟨by rfl, ?_⟩) (by assumption) ?_
                    · intro W hW; subst hW; go_simp
                    try simp only [List.getElem_toArray, List.getElem_cons_zero, List.getElem_cons_succ, Act.put, List.setIfInBounds_toArray, List.set_cons_zero, List.set_cons_succ]
                    refine wpAnyH_take (i := 27) (v := .bool true) rfl (by kernel_rfl) (by kernel_rfl) (by kernel_rfl) (fun _ _ _ h => h) (.inl ⟨by rfl, ?_⟩) (by assumption) ?_
                    · intro W hW; subst hW; go_simp
                    try simp only [List.getElem_toArray, List.getElem_cons_zero, List.getElem_cons_succ, Act.put, List.setIfInBounds_toArray, List.set_cons_zero, List.set_cons_succ]
                    refine wpAnyH_take (i := 28) (v := .bool true) rfl (by kernel_rfl) (by kernel_rfl) (by kernel_rfl) (fun _ _ _ h => h) (.inl ⟨by rfl, ?_⟩) (by assumption) ?_
                    · intro W hW; subst hW; go_simp
                    try simp only [List.getElem_toArray, List.getElem_cons_zero, List.getElem_cons_succ, Act.put, List.setIfInBounds_toArray, List.set_cons_zero, List.set_cons_succ]
                    refine wpAnyH_done (by decide +kernel) ?_ _
                    refine hKA _ _ ?_
                    refine wpIn_cond_true rfl ?_
                    apply wpIn_seq_k; intro K9 h9
                    refine region_in rfl (fun ⟨_, _, h⟩ => h) ?_
                    go_wp2
                    apply wpIn_ret
                    refine ⟨((KeepsOthers.drew W).trans (KeepsOthers.setCell _ _ _)).from _, fun hpre => ?_⟩
                    obtain ⟨r1, r2⟩ := PRE.out hpre
                    exact (r2.elim cs2' cs3).elim
              · have hb1 : eqS x.1.sp y.sp = false := eqS_no cs1
                apply wpIn_seq_k; intro KB hKB
                apply wpIn_seq_k; intro KA hKA
                refine region_held_in (S := fun U => U = W.drew) rfl (fun ⟨_, _, h⟩ => h) (by kernel_rfl) rfl (fun hH => ?_)
                refine wpAnyH_take (i := 0) (v := .int .i64 (pre.length : Int)) rfl (by kernel_rfl) (by kernel_rfl) (by kernel_rfl) (fun _ _ _ h => h) (.inl ⟨by rfl, ?_⟩) (by assumption) ?_
                · intro W hW; subst hW; go_simp
                try simp only [List.getElem_toArray, List.getElem_cons_zero, Act.put, List.setIfInBounds_toArray, List.set_cons_zero, List.set_cons_succ]
                refine wpAnyH_take (i := 1) (v := .slice (some ⟨bv, 0, none⟩) cs.length cr) rfl (by kernel_rfl) (by kernel_rfl) (by kernel_rfl) (fun _ _ _ h => h) (.inl ⟨by rfl, ?_⟩) (by assumption) ?_
                · intro W hW; subst hW; go_simp
                try simp only [List.getElem_toArray, List.getElem_cons_zero, List.getElem_cons_succ, Act.put, List.setIfInBounds_toArray, List.set_cons_zero, List.set_cons_succ]
                refine wpAnyH_take (i := 2) (v := .int .i64 (cs.length : Int)) rfl (by kernel_rfl) (by kernel_rfl) (by kernel_rfl) (fun _ _ _ h => h) (.inl ⟨by rfl, ?_⟩) (by assumption) ?_
                · intro W hW; subst hW; go_simp
                try simp only [List.getElem_toArray, List.getElem_cons_zero, List.getElem_cons_succ, Act.put, List.setIfInBounds_toArray, List.set_cons_zero, List.set_cons_succ]
                refine wpAnyH_take (i := 3) (v := .bool false) rfl (by kernel_rfl) (by kernel_rfl) (by kernel_rfl) (fun _ _ _ h => h) (.inl ⟨by rfl, ?_⟩) (by assumption) ?_
                · intro W hW; subst hW; go_simp
                try simp only [List.getElem_toArray, List.getElem_cons_zero, List.getElem_cons_succ, Act.put, List.setIfInBounds_toArray, List.set_cons_zero, List.set_cons_succ]
                refine wpAnyH_take (i := 4) (v := .bool false) rfl (by kernel_rfl) (by kernel_rfl) (by kernel_rfl) (fun _ _ _ h => h) (.inl ⟨by rfl, ?_⟩) (by assumption) ?_
                · intro W hW; subst hW; go_simp
                try simp only [List.getElem_toArray, List.getElem_cons_zero, List.getElem_cons_succ, Act.put, List.setIfInBounds_toArray, List.set_cons_zero, List.set_cons_succ]
                refine wpAnyH_take (i := 5) (v := .pointer (some ⟨bx, 0, none⟩)) rfl (by kernel_rfl) (by kernel_rfl) (by kernel_rfl) (fun _ _ _ h => h) (.inl ⟨by rfl, ?_⟩) (by assumption) ?_
                · intro W hW; subst hW; go_simp
                try simp only [List.getElem_toArray, List.getElem_cons_zero, List.getElem_cons_succ, Act.put, List.setIfInBounds_toArray, List.set_cons_zero, List.set_cons_succ]
                refine wpAnyH_take (i := 6) (v := .agg x.1.sp.cells) rfl (by kernel_rfl) (by kernel_rfl) (by kernel_rfl) (fun _ _ _ h => h) (yields_load_spm (by rfl) (.tmp 106) rfl bx 0 rfl HX.out.sp.len (fun U hU => by subst hU; exact RX.out)) (by assumption) ?_
                try simp only [List.getElem_toArray, List.getElem_cons_zero, List.getElem_cons_succ, Act.put, List.setIfInBounds_toArray, List.set_cons_zero, List.set_cons_succ]
                refine wpAnyH_take (i := 7) (v := .slice (some ⟨bv, 0, none⟩) cs.length cr) rfl (by kernel_rfl) (by kernel_rfl) (by kernel_rfl) (fun _ _ _ h => h) (.inl ⟨by rfl, ?_⟩) (by assumption) ?_
                · intro W hW; subst hW; go_simp
                try simp only [List.getElem_toArray, List.getElem_cons_zero, List.getElem_cons_succ, Act.put, List.setIfInBounds_toArray, List.set_cons_zero, List.set_cons_succ]
                refine wpAnyH_take (i := 8) (v := .int .i64 (pre.length : Int)) rfl (by kernel_rfl) (by kernel_rfl) (by kernel_rfl) (fun _ _ _ h => h) (.inl ⟨by rfl, ?_⟩) (by assumption) ?_
                · intro W hW; subst hW; go_simp
                try simp only [List.getElem_toArray, List.getElem_cons_zero, List.getElem_cons_succ, Act.put, List.setIfInBounds_toArray, List.set_cons_zero, List.set_cons_succ]
                refine wpAnyH_take (i := 9) (v := .pointer (some ⟨bv, pre.length * 27, none⟩)) rfl (by kernel_rfl) (by kernel_rfl) (by kernel_rfl) (fun _ _ _ h => h) (.inl ⟨by rfl, ?_⟩) (by assumption) ?_
                · intro W hW; subst hW; go_simp
                try simp only [List.getElem_toArray, List.getElem_cons_zero, List.getElem_cons_succ, Act.put, List.setIfInBounds_toArray, List.set_cons_zero, List.set_cons_succ]
                refine wpAnyH_take (i := 10) (v := .pointer (some ⟨bv, pre.length * 27, none⟩)) rfl (by kernel_rfl) (by kernel_rfl) (by kernel_rfl) (fun _ _ _ h => h) (.inl ⟨by rfl, ?_⟩) (by assumption) ?_
                · intro W hW; subst hW; go_simp
                try simp only [List.getElem_toArray, List.getElem_cons_zero, List.getElem_cons_succ, Act.put, List.setIfInBounds_toArray, List.set_cons_zero, List.set_cons_succ]
                refine wpAnyH_take (i := 11) (v := .agg y.sp.cells) rfl (by kernel_rfl) (by kernel_rfl) (by kernel_rfl) (fun _ _ _ h => h) (yields_load_spm (by rfl) (.tmp 111) rfl bv (pre.length * 27) rfl YOK.out.sp.len (fun U hU => by subst hU; exact rng_sp RG.out)) (by assumption) ?_
                try simp only [List.getElem_toArray, List.getElem_cons_zero, List.getElem_cons_succ, Act.put, List.setIfInBounds_toArray, List.set_cons_zero, List.set_cons_succ]
                refine wpAnyH_take (i := 12) (v := .bool true) rfl (by kernel_rfl) (by kernel_rfl) (by kernel_rfl) (fun _ _ _ h => h) (yields_nsp (by rfl) (.tmp 107) (.tmp 112) rfl HX.out.sp YOK.out.sp rfl rfl hb1) (by assumption) ?_
                try simp only [List.getElem_toArray, List.getElem_cons_zero, List.getElem_cons_succ, Act.put, List.setIfInBounds_toArray, List.set_cons_zero, List.set_cons_succ]
                refine wpAnyH_take (i := 13) (v := .bool true) rfl (by kernel_rfl) (by kernel_rfl) (by kernel_rfl) (fun _ _ _ h => h) (.inl ⟨by rfl, ?_⟩) (by assumption) ?_
                · intro W hW; subst hW; go_simp
                try simp only [List.getElem_toArray, List.getElem_cons_zero, List.getElem_cons_succ, Act.put, List.setIfInBounds_toArray, List.set_cons_zero, List.set_cons_succ]
                refine wpAnyH_take (i := 14) (v := .bool true) rfl (by kernel_rfl) (by kernel_rfl) (by kernel_rfl) (fun _ _ _ h => h) (.inl ⟨by rfl, ?_⟩) (by assumption) ?_
                · intro W hW; subst hW; go_simp
                try simp only [List.getElem_toArray, List.getElem_cons_zero, List.getElem_cons_succ, Act.put, List.setIfInBounds_toArray, List.set_cons_zero, List.set_cons_succ]
                refine wpAnyH_take (i := 15) (v := undef) rfl (by kernel_rfl) (by kernel_rfl) (by kernel_rfl) (fun _ _ _ h => h) (.inr ⟨by rfl, rfl⟩) (by assumption) ?_
                try simp only [List.getElem_toArray, List.getElem_cons_zero, List.getElem_cons_succ, Act.put, List.setIfInBounds_toArray, List.set_cons_zero, List.set_cons_succ]
                refine wpAnyH_take (i := 16) (v := undef) rfl (by kernel_rfl) (by kernel_rfl) (by kernel_rfl) (fun _ _ _ h => h) (.inr ⟨by rfl, rfl⟩) (by assumption) ?_
                try simp only [List.getElem_toArray, List.getElem_cons_zero, List.getElem_cons_succ, Act.put, List.setIfInBounds_toArray, List.set_cons_zero, List.set_cons_succ]
                refine wpAnyH_take (i := 17) (v := undef) rfl (by kernel_rfl) (by kernel_rfl) (by kernel_rfl) (fun _ _ _ h => h) (.inr ⟨by rfl, rfl⟩) (by assumption) ?_
                try simp only [List.getElem_toArray, List.getElem_cons_zero, List.getElem_cons_succ, Act.put, List.setIfInBounds_toArray, List.set_cons_zero, List.set_cons_succ]
                refine wpAnyH_take (i := 18) (v := undef) rfl (by kernel_rfl) (by kernel_rfl) (by kernel_rfl) (fun _ _ _ h => h) (.inr ⟨by rfl, rfl⟩) (by assumption) ?_
                try simp only [List.getElem_toArray, List.getElem_cons_zero, List.getElem_cons_succ, Act.put, List.setIfInBounds_toArray, List.set_cons_zero, List.set_cons_succ]
                refine wpAnyH_take (i := 19) (v := undef) rfl (by kernel_rfl) (by kernel_rfl) (by kernel_rfl) (fun _ _ _ h => h) (.inr ⟨by rfl, rfl⟩) (by assumption) ?_
                try simp only [List.getElem_toArray, List.getElem_cons_zero, List.getElem_cons_succ, Act.put, List.setIfInBounds_toArray, List.set_cons_zero, List.set_cons_succ]
                refine wpAnyH_take (i := 20) (v := undef) rfl (by kernel_rfl) (by kernel_rfl) (by kernel_rfl) (fun _ _ _ h => h) (.inr ⟨by rfl, rfl⟩) (by assumption) ?_
                try simp only [List.getElem_toArray, List.getElem_cons_zero, List.getElem_cons_succ, Act.put, List.setIfInBounds_toArray, List.set_cons_zero, List.set_cons_succ]
                refine wpAnyH_take (i := 21) (v := undef) rfl (by kernel_rfl) (by kernel_rfl) (by kernel_rfl) (fun _ _ _ h => h) (.inr ⟨by rfl, rfl⟩) (by assumption) ?_
                try simp only [List.getElem_toArray, List.getElem_cons_zero, List.getElem_cons_succ, Act.put, List.setIfInBounds_toArray, List.set_cons_zero, List.set_cons_succ]
                refine wpAnyH_take (i := 22) (v := undef) rfl (by kernel_rfl) (by kernel_rfl) (by kernel_rfl) (fun _ _ _ h => h) (.inr ⟨by rfl, rfl⟩) (by assumption) ?_
                try simp only [List.getElem_toArray, List.getElem_cons_zero, List.getElem_cons_succ, Act.put, List.setIfInBounds_toArray, List.set_cons_zero, List.set_cons_succ]
                refine wpAnyH_take (i := 23) (v := undef) rfl (by kernel_rfl) (by kernel_rfl) (by kernel_rfl) (fun _ _ _ h => h) (.inr ⟨by rfl, rfl⟩) (by assumption) ?_
                try simp only [List.getElem_toArray, List.getElem_cons_zero, List.getElem_cons_succ, Act.put, List.setIfInBounds_toArray, List.set_cons_zero, List.set_cons_succ]
                refine wpAnyH_take (i := 24) (v := undef) rfl (by kernel_rfl) (by kernel_rfl) (by kernel_rfl) (fun _ _ _ h => h) (.inr ⟨by rfl, rfl⟩) (by assumption) ?_
                try simp only [List.getElem_toArray, List.getElem_cons_zero, List.getElem_cons_succ, Act.put, List.setIfInBounds_toArray, List.set_cons_zero, List.set_cons_succ]
                refine wpAnyH_take (i := 25) (v := undef) rfl (by kernel_rfl) (by kernel_rfl) (by kernel_rfl) (fun _ _ _ h => h) (.inr ⟨by rfl, rfl⟩) (by assumption) ?_
                try simp only [List.getElem_toArray, List.getElem_cons_zero, List.getElem_cons_succ, Act.put, List.setIfInBounds_toArray, List.set_cons_zero, List.set_cons_succ]
                refine wpAnyH_take (i := 26) (v := undef) rfl (by kernel_rfl) (by kernel_rfl) (by kernel_rfl) (fun _ _ _ h => h) (.inr ⟨by rfl, rfl⟩) (by assumption) ?_
                try simp only [List.getElem_toArray, List.getElem_cons_zero, List.getElem_cons_succ, Act.put, List.setIfInBounds_toArray, List.set_cons_zero, List.set_cons_succ]
                refine wpAnyH_take (i := 27) (v := undef) rfl (by kernel_rfl) (by kernel_rfl) (by kernel_rfl) (fun _ _ _ h => h) (.inr ⟨by rfl, rfl⟩) (by assumption) ?_
                try simp only [List.getElem_toArray, List.getElem_cons_zero, List.getElem_cons_succ, Act.put, List.setIfInBounds_toArray, List.set_cons_zero, List.set_cons_succ]
                refine wpAnyH_take (i := 28) (v := .bool true) rfl (by kernel_rfl) (by kernel_rfl) (by kernel_rfl) (fun _ _ _ h => h) (.inl ⟨by rfl, ?_⟩) (by assumption) ?_
                · intro W hW; subst hW; go_simp
                try simp only [List.getElem_toArray, List.getElem_cons_zero, List.getElem_cons_succ, Act.put, List.setIfInBounds_toArray, List.set_cons_zero, List.set_cons_succ]
                refine wpAnyH_done (by decide +kernel) ?_ _
                refine hKA _ _ ?_
                refine wpIn_cond_true rfl ?_
                apply wpIn_seq_k; intro K9 h9
                refine region_in rfl (fun ⟨_, _, h⟩ => h) ?_
                go_wp2
                apply wpIn_ret
                refine ⟨((KeepsOthers.drew W).trans (KeepsOthers.setCell _ _ _)).from _, fun hpre => ?_⟩
                obtain ⟨r1, r2⟩ := PRE.out hpre
                exact cs1 r1
            case done2 =>
              rintro D2 ys W hD2 hS hgw hK2
              have hyl : ys.length = cs.length := by rw [← vals_len, hS]; exact AL.out.1
              rw [hyl] at hgw
              have hlx := LX.out
              have O9 := Lib.hid (((O8.out W hgw.fr).add hgw.ct (fun c => by have := LF5.out _ c; omega) (fun c => by have := LV5.out _ c; omega)).add hK2 (fun c => by have := LF5.out _ c; omega) (fun c => by have := LV5.out _ c; omega))
              have ND : Hid (D2 ≠ D) := Lib.hid (by omega)
              have LD2 : Hid (w.heap.size ≤ D2) := Lib.hid (by omega)
              clear hgw hK2 hS hyl hlx hD2 O8 TL4 EN4 HTS4
              have ci : W.cell? ⟨W5.heap.size, 0, none⟩ = some (.int .i64 (cs.length : Int)) := by rw [cell_of_row _ _ _ _ _ _ (O9.out.ex (W5.heap.size, _) (List.mem_cons_of_mem _ (List.mem_cons_self))).1]; rfl
              have cw : W.cell? ⟨W1.heap.size, 0, none⟩ = some (.slice Ar cs.length cr) := by rw [cell_of_row _ _ _ _ _ _ (O9.out.ex (W1.heap.size, Obj.cells #[.slice Ar cs.length cr] 27 (0, 0)) (by simp [X5])).1]; rfl
              go_wp2_with fail
              refine (KH.out.day O9.out.pc).mono ?_; rintro e W8 ⟨rfl, q8⟩
              have OA := Lib.hid (O9.out.below KH.out q8)
              clear q8 O9
              go_wp2_with fail
              refine (KN.out _).mono ?_; rintro e W9 ⟨rfl, q9⟩
              have ob := OA.out.below KH.out q9
              have RB := Lib.hid (ob.ex (w.heap.size + 1, Obj.cells #[.bool false] 4 (0, 0)) (by simp [X5])).1
              have M2 := Lib.hid (ob.ex (D2, _) (List.mem_cons_self)).1
              have M1 := Lib.hid (ob.ex (D, Obj.deferred (some [])) (by simp [X5])).1
              have BL := Lib.hid ob.bl
              clear ob OA q9
              have cb : W9.cell? ⟨w.heap.size + 1, 0, none⟩ = some (.bool false) := by rw [cell_of_row _ _ _ _ _ _ RB.out]; rfl
              have fb : W9.frozen? ⟨w.heap.size + 1, 0, none⟩ = false := by have := RB.out; simp [World.frozen?, this]
              go_wp2_with fail
              have n2 : D2 ≠ w.heap.size + 1 := fun e => by have h := M2.out; rw [e] at h; have h2 := RB.out; rw [h] at h2; cases h2
              have n1 : D ≠ w.heap.size + 1 := fun e => by have h := M1.out; rw [e] at h; have h2 := RB.out; rw [h] at h2; cases h2
              have BR : (W9.setCell ⟨w.heap.size + 1, 0, none⟩ (.bool true)).heap[w.heap.size + 1]? = some (.cells #[.bool true] 4 (0, 0)) := heap_setCell_same W9 (w.heap.size + 1) 0 _ _ (.bool true) RB.out
              refine ret_marks [D2, D] rfl ?_ ?_ (ret_cellb rfl _ _ (w.heap.size + 1) true rfl ?_) ⟨rfl, ?_⟩
              · simpa using ND.out
              · intro E hE
                simp only [List.mem_cons, List.not_mem_nil, or_false] at hE
                rcases hE with rfl | rfl
                · exact (heap_setCell_other W9 _ _ _ n2).trans M2.out
                · exact (heap_setCell_other W9 _ _ _ n1).trans M1.out
              · rw [cell_of_row _ _ _ _ _ _ ((unmark_other [D2, D] _ (w.heap.size + 1) (by simp; exact ⟨fun e => n2 e.symm, fun e => n1 e.symm⟩)).trans BR)]; rfl
              · refine unmark_below [D2, D] _ _ _ ?_ (by have := BL.out.size; show w.heap.size ≤ (W9.setCell _ _).heap.size; simp; omega) (BL.out.setCell (by show w.heap.size ≤ w.heap.size + 1; omega) _)
                intro E hE
                simp only [List.mem_cons, List.not_mem_nil, or_false] at hE
                rcases hE with rfl | rfl
                · exact LD2.out
                · exact LD.out
            case stop2 =>
              rintro D2 c pre W hD2 hS hx hK2
              exact absurd hS hx
      case stop =>
        rintro D c pre W hD hS hx hK
        exact hx.elim
set_option maxRecDepth 100000 in
theorem apart_out0 {Pc : PcT} {zc : Array Value} (K : CalK Pc zc) (A0 : Option Addr) (n c0 : Nat) (nu : Int) (A2 : Option Addr) (q c2 : Nat) (w : World) (h : 16 < n) :
    Calls Try.prog 7 #[.slice A0 n c0, .int .u32 nu, .slice A2 q c2] w fun e w' => e = .returned (.bool true) ∧ Below w.heap.size w w' := by
  have KN := Lib.hid (fun W => known5_any K W)
  have NW := Lib.hid (fun W => K.new W)
  have X0 := Lib.hid ((((Below.refl _ w).alloc (Nat.le_refl _) (.cells #[.int .u32 nu] 26)).alloc (by simp) (.cells #[.bool false] 4)))
  have E0 : Hid (((w.alloc (.cells #[.int .u32 nu] 26)).alloc (.cells #[.bool false] 4)).heap[w.heap.size + 1]? = some (.cells #[.bool false] 4 (0, 0))) := Lib.hid (heap_alloc2_new w _ _)
  have d0 : decide (16 < (n : Int)) = true := decide_eq_true (by omega)
  clear K h
  refine calls_marks Try.func7 rfl ?_
  simp only [Try.ntmps7, List.size_toArray, List.length_cons, List.length_nil, Nat.reduceAdd, Nat.reduceSub, Array.replicate_succ, Array.replicate_zero, List.push_toArray, List.append_toArray, List.nil_append, List.cons_append]
  go_wp2_with fail
  refine (NW.out _).mono ?_; rintro e w1 ⟨g, F, rfl, -, b1, -⟩
  have B1 := Lib.hid (X0.out.trans (b1.mono X0.out.size))
  have E1 := Lib.hid ((b1.block (w.heap.size + 1) (Array.getElem?_eq_some_iff.1 E0.out).1).trans E0.out)
  clear NW b1 X0 E0
  go_wp2_with fail
  refine (KN.out _).mono ?_; rintro e w4 ⟨rfl, q4⟩
  have B4 := Lib.hid (B1.out.trans (q4.mono B1.out.size))
  have E4 := Lib.hid ((q4.block (w.heap.size + 1) (Array.getElem?_eq_some_iff.1 E1.out).1).trans E1.out)
  clear q4 B1 E1
  have cb : w4.cell? ⟨w.heap.size + 1, 0, none⟩ = some (.bool false) := by rw [cell_of_row _ _ _ _ _ _ E4.out]; rfl
  have fb : w4.frozen? ⟨w.heap.size + 1, 0, none⟩ = false := by have := E4.out; simp [World.frozen?, this]
  go_wp2_with fail
  have BR : (w4.setCell ⟨w.heap.size + 1, 0, none⟩ (.bool true)).heap[w.heap.size + 1]? = some (.cells #[.bool true] 4 (0, 0)) := heap_setCell_same w4 (w.heap.size + 1) 0 _ _ (.bool true) E4.out
  refine ret_marks [] rfl List.nodup_nil (fun E hE => by cases hE) (ret_cellb rfl _ _ (w.heap.size + 1) true rfl ?_) ⟨rfl, ?_⟩
  · show (w4.setCell ⟨w.heap.size + 1, 0, none⟩ (.bool true)).cell? _ = _; rw [cell_of_row _ _ _ _ _ _ BR]; rfl
  · exact B4.out.setCell (by show w.heap.size ≤ w.heap.size + 1; omega) _
set_option maxRecDepth 100000 in
theorem apart_out1 {Pc : PcT} {zc : Array Value} (K : CalK Pc zc) (A0 : Option Addr) (n c0 : Nat) (nu : Int) (A2 : Option Addr) (q c2 : Nat) (w : World) (h : n ≤ 16 ∧ 100 < q) :
    Calls Try.prog 7 #[.slice A0 n c0, .int .u32 nu, .slice A2 q c2] w fun e w' => e = .returned (.bool true) ∧ Below w.heap.size w w' := by
  have KN := Lib.hid (fun W => known5_any K W)
  have NW := Lib.hid (fun W => K.new W)
  have X0 := Lib.hid ((((Below.refl _ w).alloc (Nat.le_refl _) (.cells #[.int .u32 nu] 26)).alloc (by simp) (.cells #[.bool false] 4)))
  have E0 : Hid (((w.alloc (.cells #[.int .u32 nu] 26)).alloc (.cells #[.bool false] 4)).heap[w.heap.size + 1]? = some (.cells #[.bool false] 4 (0, 0))) := Lib.hid (heap_alloc2_new w _ _)
  have d0 : decide (16 < (n : Int)) = false := decide_eq_false (by omega)
  have d1 : decide (100 < (q : Int)) = true := decide_eq_true (by omega)
  clear K h
  refine calls_marks Try.func7 rfl ?_
  simp only [Try.ntmps7, List.size_toArray, List.length_cons, List.length_nil, Nat.reduceAdd, Nat.reduceSub, Array.replicate_succ, Array.replicate_zero, List.push_toArray, List.append_toArray, List.nil_append, List.cons_append]
  go_wp2_with fail
  refine (NW.out _).mono ?_; rintro e w1 ⟨g, F, rfl, -, b1, -⟩
  have B1 := Lib.hid (X0.out.trans (b1.mono X0.out.size))
  have E1 := Lib.hid ((b1.block (w.heap.size + 1) (Array.getElem?_eq_some_iff.1 E0.out).1).trans E0.out)
  clear NW b1 X0 E0
  go_wp2_with fail
  refine (KN.out _).mono ?_; rintro e w4 ⟨rfl, q4⟩
  have B4 := Lib.hid (B1.out.trans (q4.mono B1.out.size))
  have E4 := Lib.hid ((q4.block (w.heap.size + 1) (Array.getElem?_eq_some_iff.1 E1.out).1).trans E1.out)
  clear q4 B1 E1
  have cb : w4.cell? ⟨w.heap.size + 1, 0, none⟩ = some (.bool false) := by rw [cell_of_row _ _ _ _ _ _ E4.out]; rfl
  have fb : w4.frozen? ⟨w.heap.size + 1, 0, none⟩ = false := by have := E4.out; simp [World.frozen?, this]
  go_wp2_with fail
  have BR : (w4.setCell ⟨w.heap.size + 1, 0, none⟩ (.bool true)).heap[w.heap.size + 1]? = some (.cells #[.bool true] 4 (0, 0)) := heap_setCell_same w4 (w.heap.size + 1) 0 _ _ (.bool true) E4.out
  refine ret_marks [] rfl List.nodup_nil (fun E hE => by cases hE) (ret_cellb rfl _ _ (w.heap.size + 1) true rfl ?_) ⟨rfl, ?_⟩
  · show (w4.setCell ⟨w.heap.size + 1, 0, none⟩ (.bool true)).cell? _ = _; rw [cell_of_row _ _ _ _ _ _ BR]; rfl
  · exact B4.out.setCell (by show w.heap.size ≤ w.heap.size + 1; omega) _
theorem apart_all {Pc : PcT} {zc : Array Value} (K : CalK Pc zc) (A0 : Option Addr) (n c0 : Nat) (os : List Sp) (nu : Int) (A2 : Option Addr) (q c2 : Nat) (ps : List OpC) (w : World)
    (hr0 : RdS w A0 n os) (hk0 : ∀ x, x ∈ os → x.ok) (hnu : 0 ≤ nu ∧ nu ≤ 4294967295) (hr2 : RdO w A2 q ps) (hk2 : ∀ x, x ∈ ps → x.ok) :
    Calls Try.prog 7 #[.slice A0 n c0, .int .u32 nu, .slice A2 q c2] w fun e w' => e = .returned (.bool true) ∧ Below w.heap.size w w' := by
  by_cases h0 : n ≤ 16
  · by_cases h2 : q ≤ 100
    · exact apart_in K A0 n c0 os nu A2 q c2 ps w hr0 hk0 hnu hr2 hk2 h0 h2
    · exact apart_out1 K A0 n c0 nu A2 q c2 w ⟨h0, by omega⟩
  · exact apart_out0 K A0 n c0 nu A2 q c2 w (by omega)
end Go.Proofs.Ytejhnfkljfdejaa
