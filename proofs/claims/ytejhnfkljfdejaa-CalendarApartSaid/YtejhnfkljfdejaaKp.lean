/- The program's calendar and the plain one side by side, and blocks that neither turns. -/
import Derived.Test.YtejhnfkljfdejaaKo
import Derived.Test.YtejhnfkljfdejaaKn
import Derived.Test.YtejhnfkljfdejaaKw
import Derived.Test.YtejhnfkljfdejaaKu
namespace Go.Proofs.Ytejhnfkljfdejaa
open Go.RowKit Go.Shelf

structure Pl (Pc : PcT) (w : World) (X : List (Nat × Obj)) (W : World) (F : Nat → Prop) (g gr : Nat) (v : Value) (d : Int) (cs : List Ct) (d2 : Int) (cs2 : List Ct) : Prop where
  pc : Pc W F g d cs
  rc : Rc W w.heap.size gr v d2 cs2
  lt : ∀ k, F k → k < W.heap.size
  lv : ∀ k, RcS gr v k → k < W.heap.size
  ap : ∀ k, F k → ¬ RcS gr v k
  fp : ∀ k, F k → w.heap.size ≤ k
  fv : ∀ k, RcS gr v k → w.heap.size ≤ k
  bl : Below w.heap.size w W
  ex : ∀ p, p ∈ X → W.heap[p.1]? = some p.2 ∧ ¬ F p.1 ∧ ¬ RcS gr v p.1
def PlE (Pc : PcT) (w : World) (X : List (Nat × Obj)) (W : World) (g gr : Nat) (d : Int) (cs : List Ct) (d2 : Int) (cs2 : List Ct) : Prop := ∃ F v, Pl Pc w X W F g gr v d cs d2 cs2
/-- Whatever the two are. -/
def PlX (Pc : PcT) (w : World) (X : List (Nat × Obj)) (W : World) (g gr : Nat) : Prop := ∃ d cs d2 cs2, PlE Pc w X W g gr d cs d2 cs2
section
variable {Pc : PcT} {zc : Array Value} {w W W' : World} {X : List (Nat × Obj)} {F : Nat → Prop} {g gr : Nat} {v : Value} {d d' d2 d2' : Int} {cs cs' cs2 cs2' : List Ct}
theorem fr_below {S : Nat → Prop} (b : Below w.heap.size w W) (f : Fr S W W') (hS : ∀ k, S k → w.heap.size ≤ k) : Below w.heap.size w W' :=
  ⟨f.b0.os.trans b.os, f.b0.tape.trans b.tape, f.b0.output.trans b.output, Nat.le_trans b.size f.size, fun k hk => (f.at' k (Nat.lt_of_lt_of_le hk b.size) (fun c => by have := hS k c; omega)).trans (b.block k hk)⟩
theorem Pl.prog (K : CalK Pc zc) (h : Pl Pc w X W F g gr v d cs d2 cs2) (a : Aft Pc W F g d' cs' W') : PlE Pc w X W' g gr d' cs' d2 cs2 := by
  obtain ⟨F', h1, h2, h3⟩ := a
  refine ⟨F', v, h1, h.rc.keep h2 (fun c => h.ap _ c (.inl rfl)) (fun k hk c => h.ap _ c (.inr hk)), K.lt h1, fun k hk => Nat.lt_of_lt_of_le (h.lv k hk) h2.size, fun k hk c => ?_, fun k hk => ?_, h.fv, fr_below h.bl h2 h.fp, fun p hp => ?_⟩
  · rcases h3 k hk with q | q
    · exact h.ap k q c
    · have := h.lv k c; omega
  · rcases h3 k hk with q | q
    · exact h.fp k q
    · exact Nat.le_trans h.bl.size q
  · obtain ⟨e1, e2, e3⟩ := h.ex p hp
    have hl := (Array.getElem?_eq_some_iff.1 e1).1
    exact ⟨(h2.at' _ hl e2).trans e1, fun c => (h3 _ c).elim e2 (fun q => by omega), e3⟩
theorem Pl.plain (K : CalK Pc zc) (h : Pl Pc w X W F g gr v d cs d2 cs2) (a : RcN W w.heap.size gr v d2' cs2' W') : PlE Pc w X W' g gr d cs d2' cs2' := by
  obtain ⟨v', h1, h2, h3⟩ := a
  have hv : ∀ k, RcS gr v' k → RcS gr v k ∨ W.heap.size ≤ k := fun k hk => hk.elim (fun e => .inl (.inl e)) (fun e => (h3 k e).imp .inr id)
  have hg : gr < W'.heap.size := (Array.getElem?_eq_some_iff.1 h1.blk).1
  refine ⟨F, v', K.keep h.pc h2 (fun k hk c => h.ap k hk c), h1, fun k hk => Nat.lt_of_lt_of_le (h.lt k hk) h2.size, fun k hk => ?_, fun k hk c => ?_, h.fp, fun k hk => ?_, fr_below h.bl h2 h.fv, fun p hp => ?_⟩
  · rcases hk with rfl | hk
    · exact hg
    · rcases h1.own.2 with ⟨e, _⟩ | ⟨b, c, cur, e, hb, hh, _⟩
      · rw [e] at hk; cases hk
      · rw [e] at hk; cases hk; exact (Array.getElem?_eq_some_iff.1 hh).1
  · rcases hv k c with q | q
    · exact h.ap k hk q
    · have := h.lt k hk; omega
  · rcases hv k hk with q | q
    · exact h.fv k q
    · exact Nat.le_trans h.bl.size q
  · obtain ⟨e1, e2, e3⟩ := h.ex p hp
    have hl := (Array.getElem?_eq_some_iff.1 e1).1
    exact ⟨(h2.at' _ hl e3).trans e1, e2, fun c => (hv _ c).elim e3 (fun q => by omega)⟩
theorem Pl.below (K : CalK Pc zc) (h : Pl Pc w X W F g gr v d cs d2 cs2) (q : Below W.heap.size W W') : Pl Pc w X W' F g gr v d cs d2 cs2 := by
  have f : Fr (fun _ => False) W W' := Fr.below q
  refine ⟨K.keep h.pc f (fun _ _ c => c), h.rc.keep f (fun c => c) (fun _ _ c => c), fun k hk => Nat.lt_of_lt_of_le (h.lt k hk) q.size, fun k hk => Nat.lt_of_lt_of_le (h.lv k hk) q.size, h.ap, h.fp, h.fv, h.bl.trans (q.mono h.bl.size), fun p hp => ?_⟩
  obtain ⟨e1, e2, e3⟩ := h.ex p hp
  exact ⟨(q.block _ (Array.getElem?_eq_some_iff.1 e1).1).trans e1, e2, e3⟩
/-- A block that is new joins those that neither turns. -/
theorem Pl.add (K : CalK Pc zc) (h : Pl Pc w X W F g gr v d cs d2 cs2) (q : Below W.heap.size W W') {b : Nat} {ob : Obj} (hb : W'.heap[b]? = some ob) (hn : W.heap.size ≤ b) : Pl Pc w ((b, ob) :: X) W' F g gr v d cs d2 cs2 := by
  have k := h.below K q
  refine ⟨k.pc, k.rc, k.lt, k.lv, k.ap, k.fp, k.fv, k.bl, fun p hp => ?_⟩
  rcases List.mem_cons.1 hp with rfl | hp
  · exact ⟨hb, fun c => by have := h.lt _ c; simp at this; omega, fun c => by have := h.lv _ c; simp at this; omega⟩
  · exact k.ex p hp
theorem Pl.drop {p : Nat × Obj} (h : Pl Pc w (p :: X) W F g gr v d cs d2 cs2) : Pl Pc w X W F g gr v d cs d2 cs2 := ⟨h.pc, h.rc, h.lt, h.lv, h.ap, h.fp, h.fv, h.bl, fun q hq => h.ex q (List.mem_cons_of_mem _ hq)⟩
theorem PlE.below (K : CalK Pc zc) (h : PlE Pc w X W g gr d cs d2 cs2) (q : Below W.heap.size W W') : PlE Pc w X W' g gr d cs d2 cs2 := by
  obtain ⟨F, v, p⟩ := h
  exact ⟨F, v, p.below K q⟩
theorem PlE.add (K : CalK Pc zc) (h : PlE Pc w X W g gr d cs d2 cs2) (q : Below W.heap.size W W') {b : Nat} {ob : Obj} (hb : W'.heap[b]? = some ob) (hn : W.heap.size ≤ b) : PlE Pc w ((b, ob) :: X) W' g gr d cs d2 cs2 := by
  obtain ⟨F, v, p⟩ := h
  exact ⟨F, v, p.add K q hb hn⟩
theorem PlE.drop {p : Nat × Obj} (h : PlE Pc w (p :: X) W g gr d cs d2 cs2) : PlE Pc w X W g gr d cs d2 cs2 := by
  obtain ⟨F, v, q⟩ := h
  exact ⟨F, v, q.drop⟩
theorem PlE.x (h : PlE Pc w X W g gr d cs d2 cs2) : PlX Pc w X W g gr := ⟨d, cs, d2, cs2, h⟩
theorem PlX.at (h : PlX Pc w X W g gr) {p : Nat × Obj} (hp : p ∈ X) : W.heap[p.1]? = some p.2 := by
  obtain ⟨_, _, _, _, _, _, q⟩ := h
  exact (q.ex p hp).1
theorem PlX.drew (K : CalK Pc zc) (h : PlX Pc w X W g gr) : PlX Pc w X W.drew g gr := by
  obtain ⟨_, _, _, _, h⟩ := h
  exact (h.below K (Below.refl _ W).drew).x
theorem PlE.drew (K : CalK Pc zc) (h : PlE Pc w X W g gr d cs d2 cs2) : PlE Pc w X W.drew g gr d cs d2 cs2 := h.below K (Below.refl _ W).drew
theorem PlE.bl (h : PlE Pc w X W g gr d cs d2 cs2) : Below w.heap.size w W := by
  obtain ⟨_, _, p⟩ := h
  exact p.bl
/-- The calls, one side at a time. -/
theorem PlE.c_next (K : CalK Pc zc) (h : PlE Pc w X W g gr d cs d2 cs2) : Calls Try.prog 10 #[.pointer (some ⟨g, 0, none⟩)] W fun e W' => e = .returned (.int .i64 (nextA d)) ∧ PlE Pc w X W' g gr (nextD d) cs d2 cs2 := by
  obtain ⟨F, v, p⟩ := h
  exact (K.next p.pc).mono fun e W' q => ⟨q.1, p.prog K q.2⟩
theorem PlE.r_next (K : CalK Pc zc) (h : PlE Pc w X W g gr d cs d2 cs2) : Calls Try.prog 11 #[.pointer (some ⟨gr, 0, none⟩)] W fun e W' => e = .returned (.int .i64 (nextA d2)) ∧ PlE Pc w X W' g gr d cs (nextD d2) cs2 := by
  obtain ⟨F, v, p⟩ := h
  exact (rnext_any _ gr v d2 cs2 W p.rc).mono fun e W' q => ⟨q.1, p.plain K (rcn_same q.2.1 q.2.2)⟩
theorem PlE.c_list (K : CalK Pc zc) (h : PlE Pc w X W g gr d cs d2 cs2) {s : Sp} (ok : s.ok) : Calls Try.prog 12 #[.pointer (some ⟨g, 0, none⟩), .agg s.cells] W fun e W' => e = .returned (.int .i64 (listA d cs s)) ∧ PlE Pc w X W' g gr d (listC d cs s) d2 cs2 := by
  obtain ⟨F, v, p⟩ := h
  exact (K.list p.pc ok).mono fun e W' q => ⟨q.1, p.prog K q.2⟩
theorem PlE.r_list (K : CalK Pc zc) (h : PlE Pc w X W g gr d cs d2 cs2) {s : Sp} (ok : s.ok) : Calls Try.prog 13 #[.pointer (some ⟨gr, 0, none⟩), .agg s.cells] W fun e W' => e = .returned (.int .i64 (listA d2 cs2 s)) ∧ PlE Pc w X W' g gr d cs d2 (listC d2 cs2 s) := by
  obtain ⟨F, v, p⟩ := h
  exact (rlist_any _ gr v d2 cs2 s W p.rc p.bl.size ok).mono fun e W' q => ⟨q.1, p.plain K q.2⟩
theorem PlE.c_halt (K : CalK Pc zc) (h : PlE Pc w X W g gr d cs d2 cs2) {nu : Int} {on : Bool} (hn : 0 ≤ nu ∧ nu ≤ 4294967295) : Calls Try.prog 14 #[.pointer (some ⟨g, 0, none⟩), .int .u32 nu, .bool on] W fun e W' => e = .returned (.int .i64 (alC cs nu).e) ∧ PlE Pc w X W' g gr d (haltC cs nu on) d2 cs2 := by
  obtain ⟨F, v, p⟩ := h
  exact (K.halt p.pc hn).mono fun e W' q => ⟨q.1, p.prog K q.2⟩
theorem PlE.r_halt (K : CalK Pc zc) (h : PlE Pc w X W g gr d cs d2 cs2) {nu : Int} {on : Bool} (hn : 0 ≤ nu ∧ nu ≤ 4294967295) : Calls Try.prog 15 #[.pointer (some ⟨gr, 0, none⟩), .int .u32 nu, .bool on] W fun e W' => e = .returned (.int .i64 (alC cs2 nu).e) ∧ PlE Pc w X W' g gr d cs d2 (haltC cs2 nu on) := by
  obtain ⟨F, v, p⟩ := h
  exact (rhalt_any _ gr v d2 cs2 nu on W p.rc hn).mono fun e W' q => ⟨q.1, p.plain K (rcn_same q.2.1 q.2.2)⟩
theorem PlE.c_pub (K : CalK Pc zc) (h : PlE Pc w X W g gr d cs d2 cs2) {nu pr : Int} (hn : 0 ≤ nu ∧ nu ≤ 4294967295) (hp : I64 pr) : Calls Try.prog 16 #[.pointer (some ⟨g, 0, none⟩), .int .u32 nu, .int .i64 pr] W fun e W' => e = .returned (.int .i64 (pubA cs nu pr)) ∧ PlE Pc w X W' g gr d (pubC cs nu pr) d2 cs2 := by
  obtain ⟨F, v, p⟩ := h
  exact (K.pub p.pc hn hp).mono fun e W' q => ⟨q.1, p.prog K q.2⟩
theorem PlE.r_pub (K : CalK Pc zc) (h : PlE Pc w X W g gr d cs d2 cs2) {nu pr : Int} (hn : 0 ≤ nu ∧ nu ≤ 4294967295) (hp : I64 pr) : Calls Try.prog 17 #[.pointer (some ⟨gr, 0, none⟩), .int .u32 nu, .int .i64 pr] W fun e W' => e = .returned (.int .i64 (pubA cs2 nu pr)) ∧ PlE Pc w X W' g gr d cs d2 (pubC cs2 nu pr) := by
  obtain ⟨F, v, p⟩ := h
  exact (rpub_any _ gr v d2 cs2 nu pr W p.rc hn hp).mono fun e W' q => ⟨q.1, p.plain K (rcn_same q.2.1 q.2.2)⟩
theorem PlE.c_due (K : CalK Pc zc) (h : PlE Pc w X W g gr d cs d2 cs2) {nu : Int} (hn : 0 ≤ nu ∧ nu ≤ 4294967295) : Calls Try.prog 18 #[.pointer (some ⟨g, 0, none⟩), .int .u32 nu] W fun e W' => e = .returned (.int .i64 (dueA d cs nu)) ∧ PlE Pc w X W' g gr d cs d2 cs2 := by
  obtain ⟨F, v, p⟩ := h
  exact (K.due p.pc hn).mono fun e W' q => ⟨q.1, p.prog K q.2⟩
theorem PlE.r_due (K : CalK Pc zc) (h : PlE Pc w X W g gr d cs d2 cs2) {nu : Int} (hn : 0 ≤ nu ∧ nu ≤ 4294967295) : Calls Try.prog 19 #[.pointer (some ⟨gr, 0, none⟩), .int .u32 nu] W fun e W' => e = .returned (.int .i64 (dueA d2 cs2 nu)) ∧ PlE Pc w X W' g gr d cs d2 cs2 := by
  obtain ⟨F, v, p⟩ := h
  exact (rdue_any _ gr v d2 cs2 nu W p.rc hn).mono fun e W' q => ⟨q.1, p.plain K (rcn_same q.2.1 (q.2.2.mono fun _ c => c.elim))⟩
theorem PlE.c_exp (K : CalK Pc zc) (h : PlE Pc w X W g gr d cs d2 cs2) {nu : Int} (hn : 0 ≤ nu ∧ nu ≤ 4294967295) : Calls Try.prog 20 #[.pointer (some ⟨g, 0, none⟩), .int .u32 nu] W fun e W' => e = .returned (.int .i64 (dueA d cs nu)) ∧ PlE Pc w X W' g gr d (expC d cs nu) d2 cs2 := by
  obtain ⟨F, v, p⟩ := h
  exact (K.exp p.pc hn).mono fun e W' q => ⟨q.1, p.prog K q.2⟩
theorem PlE.r_exp (K : CalK Pc zc) (h : PlE Pc w X W g gr d cs d2 cs2) {nu : Int} (hn : 0 ≤ nu ∧ nu ≤ 4294967295) : Calls Try.prog 21 #[.pointer (some ⟨gr, 0, none⟩), .int .u32 nu] W fun e W' => e = .returned (.int .i64 (dueA d2 cs2 nu)) ∧ PlE Pc w X W' g gr d cs d2 (expC d2 cs2 nu) := by
  obtain ⟨F, v, p⟩ := h
  exact (rexpire_any _ gr v d2 cs2 nu W p.rc hn).mono fun e W' q => ⟨q.1, p.plain K (rcn_same q.2.1 q.2.2)⟩
theorem PlE.c_get (K : CalK Pc zc) (h : PlE Pc w X W g gr d cs d2 cs2) {nu : Int} (hn : 0 ≤ nu ∧ nu ≤ 4294967295) : Calls Try.prog 24 #[.pointer (some ⟨g, 0, none⟩), .int .u32 nu] W fun e W' => e = .returned (.tuple #[.agg (getC cs nu).cells, .int .i64 (getA cs nu)]) ∧ PlE Pc w X W' g gr d cs d2 cs2 := by
  obtain ⟨F, v, p⟩ := h
  exact (K.get p.pc hn).mono fun e W' q => ⟨q.1, p.prog K q.2⟩
theorem PlE.r_get (K : CalK Pc zc) (h : PlE Pc w X W g gr d cs d2 cs2) {nu : Int} (hn : 0 ≤ nu ∧ nu ≤ 4294967295) : Calls Try.prog 25 #[.pointer (some ⟨gr, 0, none⟩), .int .u32 nu] W fun e W' => e = .returned (.tuple #[.agg (getC cs2 nu).cells, .int .i64 (getA cs2 nu)]) ∧ PlE Pc w X W' g gr d cs d2 cs2 := by
  obtain ⟨F, v, p⟩ := h
  exact (rget_any _ gr v d2 cs2 nu W p.rc hn).mono fun e W' q => ⟨q.1, p.plain K (rcn_same q.2.1 (q.2.2.mono fun _ c => c.elim))⟩
/-- The copy goes on; the old one is another calendar from then on. -/
theorem PlE.c_copy (K : CalK Pc zc) (h : PlE Pc w X W g gr d cs d2 cs2) : Calls Try.prog 22 #[.pointer (some ⟨g, 0, none⟩)] W fun e W' => ∃ g2, e = .returned (.pointer (some ⟨g2, 0, none⟩)) ∧ ∃ F v F2, Pl Pc w X W' F g gr v d cs d2 cs2 ∧ Pc W' F2 g2 d cs ∧ (∀ k, F2 k → ¬ F k ∧ ¬ RcS gr v k ∧ w.heap.size ≤ k ∧ k < W'.heap.size) ∧ (∀ p, p ∈ X → ¬ F2 p.1) := by
  obtain ⟨F, v, p⟩ := h
  refine (K.copy p.pc).mono ?_
  rintro e W' ⟨g2, F2, rfl, h1, q, h2⟩
  refine ⟨g2, rfl, F, v, F2, p.below K q, h1, fun k hk => ?_, fun r hr c => ?_⟩
  · have := h2 k hk
    exact ⟨fun c => by have := p.lt k c; omega, fun c => by have := p.lv k c; omega, Nat.le_trans p.bl.size this, K.lt h1 k hk⟩
  · have h3 := (Array.getElem?_eq_some_iff.1 (p.ex r hr).1).1
    have := h2 _ c
    omega
theorem PlE.same (K : CalK Pc zc) (h : PlE Pc w X W g gr d cs d cs) : Calls Try.prog 26 #[.pointer (some ⟨g, 0, none⟩), .pointer (some ⟨gr, 0, none⟩)] W fun e W' => e = .returned (.bool true) ∧ PlE Pc w X W' g gr d cs d cs := by
  obtain ⟨F, v, p⟩ := h
  exact (same_any K w.heap.size g gr F v d cs W p.pc p.rc).mono fun e W' q => ⟨q.1, F, v, p.below K q.2⟩
end
end Go.Proofs.Ytejhnfkljfdejaa
