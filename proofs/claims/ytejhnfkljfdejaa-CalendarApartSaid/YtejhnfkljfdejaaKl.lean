/- The program's calendar and a list of contracts that grows; lists that are read. -/
import Derived.Test.YtejhnfkljfdejaaKi
import Derived.Test.YtejhnfkljfdejaaKo
import Derived.Test.YtejhnfkljfdejaaKq
import Derived.Test.YtejhnfkljfdejaaKx
import Derived.Test.YtejhnfkljfdejaaKp
import Derived.Maps.AppendAt
namespace Go.Proofs.Ytejhnfkljfdejaa
open Go.RowKit Go.Shelf

/-- A list in memory that is read: each element's cells. -/
def RdG {α : Type} (cells : α → List Value) (N : Nat) (W : World) (A : Option Addr) (m : Nat) (os : List α) : Prop := os.length = m ∧ (0 < m → ∃ b o, A = some ⟨b, o, none⟩ ∧ b < W.heap.size ∧ ∀ (k : Nat) (x : α), os[k]? = some x → W.rangeAt b (o + k * N) (cells x))
abbrev RdS := RdG Sp.cellL 25
abbrev RdU := RdG (fun x : Int => [Value.int .u32 x]) 1
abbrev RdT := RdG (fun x : Bool => [Value.bool x]) 1
theorem RdG.below {α : Type} {cells : α → List Value} {N : Nat} {W W' : World} {A : Option Addr} {m : Nat} {os : List α} (h : RdG cells N W A m os) {B : Nat} (q : Below B W W') (hB : W.heap.size ≤ B) : RdG cells N W' A m os := by
  refine ⟨h.1, fun hp => ?_⟩
  obtain ⟨b, o, e, hb, hr⟩ := h.2 hp
  refine ⟨b, o, e, Nat.lt_of_lt_of_le hb q.size, fun k x hk j v hj => ?_⟩
  have := hr k x hk j v hj
  unfold World.cell? at this ⊢
  rw [q.block b (by omega)]
  exact this
theorem own_fr {W W' : World} {B n : Nat} {v : Value} {xs : List Value} {S : Nat → Prop} (o : W.ownsRow B 45 27 v n xs) (f : Fr S W W') (hv : ∀ k, v.ownBlock = some k → ¬ S k) : W'.ownsRow B 45 27 v n xs := by
  refine ⟨o.1, ?_⟩
  rcases o.2 with e | ⟨b, c, cur, e, hb, hh, r⟩
  · exact .inl e
  · exact .inr ⟨b, c, cur, e, hb, (f.at' b (Array.getElem?_eq_some_iff.1 hh).1 (hv b (by rw [e]; rfl))).trans hh, r⟩
/-- The program's calendar and a list of one's own that grows; blocks that neither turns. -/
structure OdF (Pc : PcT) (w : World) (X : List (Nat × Obj)) (W : World) (F : Nat → Prop) (g : Nat) (d : Int) (cs : List Ct) (v : Value) (gs : List Ct) : Prop where
  pc : Pc W F g d cs
  bl : Below w.heap.size w W
  hf : ∀ k, F k → w.heap.size ≤ k
  own : W.ownsRow w.heap.size 45 27 v gs.length (flat gs)
  ap : ∀ k, v.ownBlock = some k → ¬ F k
  ok : ∀ z, z ∈ gs → z.ok
  ex : ∀ p, p ∈ X → W.heap[p.1]? = some p.2 ∧ ¬ F p.1 ∧ v.ownBlock ≠ some p.1
def Od (Pc : PcT) (w : World) (X : List (Nat × Obj)) (W : World) (g : Nat) (d : Int) (cs : List Ct) (v : Value) (gs : List Ct) : Prop := ∃ F, OdF Pc w X W F g d cs v gs
section
variable {Pc : PcT} {zc : Array Value} {w W W' : World} {X : List (Nat × Obj)} {F : Nat → Prop} {g : Nat} {v v' : Value} {d d' : Int} {cs cs' gs : List Ct}
theorem OdF.aft (h : OdF Pc w X W F g d cs v gs) (a : Aft Pc W F g d' cs' W') : Od Pc w X W' g d' cs' v gs := by
  obtain ⟨F', h1, h2, h3⟩ := a
  refine ⟨F', h1, fr_below h.bl h2 h.hf, fun k hk => ?_, own_fr h.own h2 h.ap, fun k e c => ?_, h.ok, fun p hp => ?_⟩
  · rcases h3 k hk with c | c
    · exact h.hf k c
    · exact Nat.le_trans h.bl.size c
  · rcases h3 k c with c | c
    · exact h.ap k e c
    · have := (own_ge h.own e).2; omega
  · obtain ⟨e1, e2, e3⟩ := h.ex p hp
    have hl := (Array.getElem?_eq_some_iff.1 e1).1
    exact ⟨(h2.at' _ hl e2).trans e1, fun c => (h3 _ c).elim e2 (fun q => by omega), e3⟩
theorem OdF.step (K : CalK Pc zc) {S : Nat → Prop} (h : OdF Pc w X W F g d cs v gs) (f : Fr S W W') (h1 : ∀ k, S k → w.heap.size ≤ k) (h2 : ∀ k, F k → ¬ S k) (h3 : ∀ k, v.ownBlock = some k → ¬ S k) (h4 : ∀ p, p ∈ X → ¬ S p.1) : OdF Pc w X W' F g d cs v gs :=
  ⟨K.keep h.pc f h2, fr_below h.bl f h1, h.hf, own_fr h.own f h3, h.ap, h.ok, fun p hp => ⟨(f.at' _ (Array.getElem?_eq_some_iff.1 (h.ex p hp).1).1 (h4 p hp)).trans (h.ex p hp).1, (h.ex p hp).2⟩⟩
theorem OdF.below (K : CalK Pc zc) (h : OdF Pc w X W F g d cs v gs) (q : Below W.heap.size W W') : OdF Pc w X W' F g d cs v gs :=
  h.step K (S := fun _ => False) (Fr.below q) (fun _ c => c.elim) (fun _ _ c => c) (fun _ _ c => c) (fun _ _ c => c)
theorem OdF.add (h : OdF Pc w X W F g d cs v gs) {b : Nat} {ob : Obj} (hb : W.heap[b]? = some ob) (h1 : ¬ F b) (h2 : v.ownBlock ≠ some b) : OdF Pc w ((b, ob) :: X) W F g d cs v gs :=
  ⟨h.pc, h.bl, h.hf, h.own, h.ap, h.ok, fun p hp => by
    rcases List.mem_cons.1 hp with rfl | hp
    · exact ⟨hb, h1, h2⟩
    · exact h.ex p hp⟩
theorem OdF.drop (h : OdF Pc w X W F g d cs v gs) : OdF Pc w [] W F g d cs v gs := ⟨h.pc, h.bl, h.hf, h.own, h.ap, h.ok, fun p hp => by cases hp⟩
theorem Od.below (K : CalK Pc zc) (h : Od Pc w X W g d cs v gs) (q : Below W.heap.size W W') : Od Pc w X W' g d cs v gs := by
  obtain ⟨F, h⟩ := h
  exact ⟨F, h.below K q⟩
theorem Od.bl (h : Od Pc w X W g d cs v gs) : Below w.heap.size w W := by
  obtain ⟨F, h⟩ := h
  exact h.bl
/-- A block that is new joins those that neither turns. -/
theorem Od.new (K : CalK Pc zc) (h : Od Pc w [] W g d cs v gs) (q : Below W.heap.size W W') {b : Nat} {ob : Obj} (hb : W'.heap[b]? = some ob) (hn : W.heap.size ≤ b) : Od Pc w [(b, ob)] W' g d cs v gs := by
  obtain ⟨F, h⟩ := h
  exact ⟨F, (h.below K q).add hb (fun c => by have := K.lt h.pc b c; omega) (fun e => by have := (own_ge h.own e).2; omega)⟩
theorem Od.drop (h : Od Pc w X W g d cs v gs) : Od Pc w [] W g d cs v gs := by
  obtain ⟨F, h⟩ := h
  exact ⟨F, h.drop⟩
/-- Such a block is written. -/
theorem Od.put (K : CalK Pc zc) {b j : Nat} {ob ob' : Obj} {u : Value} (h : Od Pc w [(b, ob)] W g d cs v gs) (hw : w.heap.size ≤ b) (e : (W.setCell ⟨b, j, none⟩ u).heap[b]? = some ob') : Od Pc w [(b, ob')] (W.setCell ⟨b, j, none⟩ u) g d cs v gs := by
  obtain ⟨F, h⟩ := h
  obtain ⟨e1, e2, e3⟩ := h.ex (b, ob) (by simp)
  have f : Fr (fun k => b = k) W (W.setCell ⟨b, j, none⟩ u) := Fr.set (p := ⟨b, j, none⟩) rfl u
  exact ⟨F, (h.drop.step K f (fun k c => c ▸ hw) (fun k hk c => e2 (by rw [show (b, ob).1 = k from c]; exact hk)) (fun k hk c => e3 (by rw [show (b, ob).1 = k from c]; exact hk)) (fun p hp => by cases hp)).add e e2 e3⟩
theorem Od.at' (h : Od Pc w X W g d cs v gs) {p : Nat × Obj} (hp : p ∈ X) : W.heap[p.1]? = some p.2 := by
  obtain ⟨F, h⟩ := h
  exact (h.ex p hp).1
theorem Od.push (K : CalK Pc zc) (h : Od Pc w [] W g d cs v gs) {x : Ct} (hx : x.ok) (o : W'.ownsRow w.heap.size 45 27 v' (gs.length + 1) (flat (gs ++ [x]))) (hg : W.grownBy W' v.ownBlock) (ha : v'.ownBlock = v.ownBlock ∨ v'.ownBlock = some W.heap.size) : Od Pc w [] W' g d cs v' (gs ++ [x]) := by
  obtain ⟨F, h⟩ := h
  have hB : ∀ k, v.ownBlock = some k → w.heap.size ≤ k := fun k e => (own_ge h.own e).1
  have f : Fr (fun k => v.ownBlock = some k) W W' := Fr.grown hg (fun k e => e)
  refine ⟨F, K.keep h.pc f (fun k hk c => h.ap k c hk), h.bl.grown hg h.bl.size hB, h.hf, by rw [List.length_append]; exact o, fun k e => ?_, fun z hz => ?_, fun p hp => by cases hp⟩
  · rcases ha with c | c
    · exact h.ap k (c ▸ e)
    · rw [c] at e
      cases e
      intro c
      have := K.lt h.pc _ c
      omega
  · rcases List.mem_append.1 hz with hz | hz
    · exact h.ok z hz
    · obtain rfl := List.mem_singleton.1 hz
      exact hx
theorem Od.start (h : Ca Pc w W g d cs) : Od Pc w [] W g d cs (.slice none 0 0) [] := by
  obtain ⟨F, h1, h2, h3⟩ := h
  exact ⟨F, h1, h2, h3, ⟨rfl, .inl ⟨rfl, rfl⟩⟩, fun k e => (by cases e), fun z hz => (by cases hz), fun p hp => (by cases hp)⟩
theorem Od.form (h : Od Pc w X W g d cs v gs) : ∃ A c, v = .slice A gs.length c := by
  obtain ⟨F, h⟩ := h
  rcases h.own.2 with ⟨e, hz⟩ | ⟨b, cap, cur, e, _⟩
  · exact ⟨none, 0, by rw [e, hz]⟩
  · exact ⟨_, _, e⟩
theorem Od.rng (h : Od Pc w X W g d cs v gs) {k : Nat} {x : Ct} (hk : gs[k]? = some x) : ∃ b c, v = .slice (some ⟨b, 0, none⟩) gs.length c ∧ W.rangeAt b (k * 27) x.cellL := by
  obtain ⟨F, h⟩ := h
  have hkl : k < gs.length := (List.getElem?_eq_some_iff.1 hk).1
  obtain ⟨b, c, rfl⟩ := own_one_form h.own (by omega)
  have hs : ∀ y, y ∈ gs → y.sp.sh.length = 16 := fun y hy => (h.ok y hy).sp.len
  refine ⟨b, c, rfl, fun j u hj => ?_⟩
  have hl := Ct.lenL (hs x (List.mem_of_getElem? hk))
  have hj' := (List.getElem?_eq_some_iff.1 hj).1
  rw [h.own.cellAt (k * 27 + j) (by omega), flat_at gs k x hs hk j (by omega), hj]
theorem Od.oks (K : CalK Pc zc) (h : Od Pc w X W g d cs v gs) : (∀ x, x ∈ cs → x.ok) ∧ ∀ z, z ∈ gs → z.ok := by
  obtain ⟨F, h⟩ := h
  exact ⟨(K.ok h.pc).1, h.ok⟩
theorem Od.c_get (K : CalK Pc zc) (h : Od Pc w X W g d cs v gs) {nu : Int} (hn : 0 ≤ nu ∧ nu ≤ 4294967295) : Calls Try.prog 24 #[.pointer (some ⟨g, 0, none⟩), .int .u32 nu] W fun e W' => e = .returned (.tuple #[.agg (getC cs nu).cells, .int .i64 (getA cs nu)]) ∧ Od Pc w X W' g d cs v gs := by
  obtain ⟨F, h⟩ := h
  exact (K.get h.pc hn).mono fun e W' q => ⟨q.1, h.aft q.2⟩
theorem Od.c_exp (K : CalK Pc zc) (h : Od Pc w X W g d cs v gs) {nu : Int} (hn : 0 ≤ nu ∧ nu ≤ 4294967295) : Calls Try.prog 20 #[.pointer (some ⟨g, 0, none⟩), .int .u32 nu] W fun e W' => e = .returned (.int .i64 (dueA d cs nu)) ∧ Od Pc w X W' g d (expC d cs nu) v gs := by
  obtain ⟨F, h⟩ := h
  exact (K.exp h.pc hn).mono fun e W' q => ⟨q.1, h.aft q.2⟩
theorem Od.c_pub (K : CalK Pc zc) (h : Od Pc w X W g d cs v gs) {nu p : Int} (hn : 0 ≤ nu ∧ nu ≤ 4294967295) (hp : I64 p) : Calls Try.prog 16 #[.pointer (some ⟨g, 0, none⟩), .int .u32 nu, .int .i64 p] W fun e W' => e = .returned (.int .i64 (pubA cs nu p)) ∧ Od Pc w X W' g d (pubC cs nu p) v gs := by
  obtain ⟨F, h⟩ := h
  exact (K.pub h.pc hn hp).mono fun e W' q => ⟨q.1, h.aft q.2⟩
theorem Od.c_halt (K : CalK Pc zc) (h : Od Pc w X W g d cs v gs) {nu : Int} {on : Bool} (hn : 0 ≤ nu ∧ nu ≤ 4294967295) : Calls Try.prog 14 #[.pointer (some ⟨g, 0, none⟩), .int .u32 nu, .bool on] W fun e W' => e = .returned (.int .i64 (alC cs nu).e) ∧ Od Pc w X W' g d (haltC cs nu on) v gs := by
  obtain ⟨F, h⟩ := h
  exact (K.halt h.pc hn).mono fun e W' q => ⟨q.1, h.aft q.2⟩
theorem Od.c_next (K : CalK Pc zc) (h : Od Pc w X W g d cs v gs) : Calls Try.prog 10 #[.pointer (some ⟨g, 0, none⟩)] W fun e W' => e = .returned (.int .i64 (nextA d)) ∧ Od Pc w X W' g (nextD d) cs v gs := by
  obtain ⟨F, h⟩ := h
  exact (K.next h.pc).mono fun e W' q => ⟨q.1, h.aft q.2⟩
end
theorem yields_neq_self {ops : Array Oper} {S : World → Prop} {o : Oper} {a : Act} (hw : Region.wanted o (yielded ops a.tmps) = true) (x y : Operand) {t2 : TypeId} (ho : o.op = .binOp .neq 45 x y t2) {u : Ct} (hu : u.ok) (hx : a.eval x = .agg u.cells) (hy : a.eval y = .agg u.cells) :
    YieldsIf Try.prog ops S o (.bool false) a := by
  have h := yields_neq_ct (S := S) hw x y ho hu hu hx hy
  rw [eqB_yes] at h
  exact h
theorem st_set {x : Ct} (h : x.sp.sh.length = 16) (s : Int) : x.cells.setIfInBounds 25 (.int .u8 s) = (Ct.mk x.sp s x.pr).cells := by
  have e := Ct.set25 h s
  unfold Ct.cells
  rw [e, List.setIfInBounds_toArray]
theorem ct_gone {x : Ct} (h : x.ok) : (Ct.mk x.sp 3 x.pr).ok := ⟨h.sp, ⟨show (0 : Int) ≤ 3 by omega, show (3 : Int) ≤ 255 by omega⟩, h.pr⟩
theorem wpl_app1 {w : World} {ops : Array Oper} {rest : List Oper} {o : Oper} {a : Act} {Q : Exit → Act → World → Prop} (hgd : o.guard = none) (s x : Operand)
    (ho : o.op = .call { callee := .builtin .append, args := #[s, x], argTypes := #[27, 27] }) (base : Nat) (v : Value) (n : Nat) (xs : List Ct) (hs : a.eval s = v)
    (hown : w.ownsRow base 45 27 v n (flat xs)) (ad : Addr) (y : Ct) (hx : a.eval x = .slice (some ad) 1 1) (hr : RdC w (some ad) 1 [y]) (hl : y.sp.sh.length = 16) (hlen : n + 1 ≤ 4000) (hbase : base ≤ w.heap.size)
    (h : ∀ v' w', w'.ownsRow base 45 27 v' (n + 1) (flat (xs ++ [y])) → w.grownBy w' v.ownBlock → (v'.ownBlock = v.ownBlock ∨ v'.ownBlock = some w.heap.size) → wpList Try.prog ops Q rest (a.put o.dst v') w') : wpList Try.prog ops Q (o :: rest) a w := by
  obtain ⟨i0, hi0, hz0, hz1, hz2⟩ := info_parts info_ctz
  have ef : flat (xs ++ [y]) = flat xs ++ flat [y] := by simp [flat]
  refine wpList_append_own_at w hgd s x 27 ho base 45 i0 _ 27 208 Try.underlying27 hi0 hz0 hz1 hz2 (by show zeroCt.cells.size = 27; kernel_rfl) (by decide) v n (flat xs) hs hown ad 1 1 (flat [y]) hx ?_ (news_ct hr) (one_ct _) (by unfold maxLen; omega) (by omega) hbase fun v' w' h2 h3 _ h5 => h v' w' (ef ▸ h2) h3 h5
  rw [flat_len [y] (fun z hz => by obtain rfl := List.mem_singleton.1 hz; exact hl)]
  rfl
end Go.Proofs.Ytejhnfkljfdejaa
