/- Texts of a proof, laid together: Il, Im, In, Ua, Ja. -/
import Derived.Laws.CopyOwn
import Derived.Laws.Externs
import Derived.Lib.Overlaps
import Derived.Lib.AppendZerosOnto
import Derived.Shelf.RegionOpenPlain
import Derived.Lib.Walk
import Derived.Lib.SliceRun
import Derived.Test.YtdcjgcjnfcahkaaG06
import Derived.Test.YtdcjgcjnfcahkaaG08
import Derived.Test.YtdcjgcjnfcahkaaG13
import Derived.Test.YtdcjgcjnfcahkaaG10
import Derived.Test.YtdcjgcjnfcahkaaG01
import Derived.Test.YtdcjgcjnfcahkaaG05
/- A list of structs of one's own that grows within a range; no program's function. -/
namespace Go.Proofs.Ytdcjgcjnfcahkaa
open Go.RowKit Go.Shelf
set_option linter.unusedVariables false

/-- Within the range: the list in the variable at K; what lay there stays. -/
structure Lq {α : Type} (E : Elt α) (te ts : TypeId) (W0 : World) (K : Nat) (l : List α) (v : Value) (W : World) : Prop where
  own : E.Own te W W0.heap.size v l
  var : W.heap[K]? = some (.cells #[v] ts (0, 0))
  at' : ∀ k, k < W0.heap.size → k ≠ K → W.heap[k]? = W0.heap[k]?
  sz : W0.heap.size ≤ W.heap.size
  b0 : Below 0 W0 W
section
variable {α : Type} {E : Elt α} {te ts : TypeId} {W0 W W' w1 w' : World} {K : Nat} {l : List α} {v v' : Value} {x : α}
theorem sq_of (h : Lq E te ts W0 K l v W) {k : Nat} : Sv K W k ↔ k = K ∨ v.ownBlock = some k := by
  have hc : W.cell? ⟨K, 0, none⟩ = some v := by rw [cell_of_row _ _ _ _ _ _ h.var]; rfl
  constructor
  · rintro (rfl | ⟨a, n, c, e, hb⟩)
    · exact .inl rfl
    · rw [hc] at e
      cases e
      exact .inr (by rw [own_blk, hb])
  · rintro (rfl | e)
    · exact .inl rfl
    · obtain ⟨A, n, c, rfl⟩ := gown_any h.own
      cases A with
      | none => cases e
      | some a =>
        rw [own_blk] at e
        exact .inr ⟨a, n, c, hc, Option.some.inj e⟩
theorem Lq.grow (h : Lq E te ts W0 K l v W) (hK : K < W0.heap.size) (q : Below W.heap.size W W') : Lq E te ts W0 K l v W' :=
  ⟨gown_below h.own q, (q.block K (Array.getElem?_eq_some_iff.1 h.var).1).trans h.var, fun k hk hn => (q.block k (Nat.lt_of_lt_of_le hk h.sz)).trans (h.at' k hk hn), Nat.le_trans h.sz q.size, h.b0.trans (q.mono (Nat.zero_le _))⟩
theorem Lq.calm (h : Lq E te ts W0 K l v W) (hK : K < W0.heap.size) (b : Below W0.heap.size W W') (hS : ∀ k, Sv K W k → (∃ cs t f, W.heap[k]? = some (.cells cs t f)) → W'.heap[k]? = W.heap[k]?) : Lq E te ts W0 K l v W' := by
  refine ⟨gown_same h.own fun k hk => hS k ((sq_of h).2 (.inr hk)) ?_, (hS K (.inl rfl) ⟨_, _, _, h.var⟩).trans h.var, fun k hk hn => (b.block k hk).trans (h.at' k hk hn), Nat.le_trans h.sz b.size, h.b0.trans (b.mono (Nat.zero_le _))⟩
  obtain ⟨cur, e⟩ := gown_cells h.own hk
  exact ⟨_, _, _, e⟩
theorem Lq.push (h : Lq E te ts W0 K l v W) (hK : K < W0.heap.size) (q : Below W.heap.size W w1) (o' : E.Own te w' W0.heap.size v' (l ++ [x])) (g : w1.grownBy w' v.ownBlock) (hv : v'.ownBlock = v.ownBlock ∨ v'.ownBlock = some w1.heap.size) :
    Lq E te ts W0 K (l ++ [x]) v' (w'.setCell ⟨K, 0, none⟩ v') ∧ Kc (Sv K) W (w'.setCell ⟨K, 0, none⟩ v') ∧ KeepsFrom W0.heap.size W (w'.setCell ⟨K, 0, none⟩ v') := by
  have hKl := (Array.getElem?_eq_some_iff.1 h.var).1
  have f1 : Fr (fun k => v.ownBlock = some k) w1 w' := Fr.grown g (fun k e => e)
  have f2 : Fr (fun k => k = K ∨ v.ownBlock = some k) W w' := (Fr.below (S := fun _ => False) q).trans f1 (fun _ h => h.elim) (fun _ _ h => .inr h)
  have f3 : Fr (fun k => k = K ∨ v.ownBlock = some k) W (w'.setCell ⟨K, 0, none⟩ v') := f2.same (Fr.set (S := fun k => k = K ∨ v.ownBlock = some k) (p := ⟨K, 0, none⟩) (.inl rfl) v')
  have nK : ∀ k, v.ownBlock = some k → k ≠ K := fun k e => by have := (gown_lt h.own e).1; omega
  have nK' : ∀ k, v'.ownBlock = some k → k ≠ K := fun k e => by have := (gown_lt o' e).1; omega
  have var' : w'.heap[K]? = some (.cells #[v] ts (0, 0)) := (f1.at' K (Nat.lt_of_lt_of_le hKl q.size) (fun e => nK K e rfl)).trans ((q.block K hKl).trans h.var)
  have L : Lq E te ts W0 K (l ++ [x]) v' (w'.setCell ⟨K, 0, none⟩ v') := by
    refine ⟨?_, heap_setCell_same w' K 0 _ _ v' var', fun k hk hn => (f3.at' k (Nat.lt_of_lt_of_le hk h.sz) (fun c => ?_)).trans (h.at' k hk hn), Nat.le_trans h.sz f3.size, h.b0.trans f3.b0⟩
    · exact gown_same o' fun k hk => heap_setCell_other w' ⟨K, 0, none⟩ k v' (nK' k hk)
    · rcases c with c | c
      · exact hn c
      · have := (gown_lt h.own c).1; omega
  refine ⟨L, fun wf => ⟨fun k hk => ?_, fun k hk => ?_, f3.b0, fun k hk hn hc => f3.at' k hk (fun c => hn ((sq_of h).2 c))⟩, f3.size, fun k o _ hk hc => ?_⟩
  · rcases (sq_of L).1 hk with rfl | e
    · exact (Array.getElem?_eq_some_iff.1 L.var).1
    · exact (gown_lt L.own e).2
  · rcases (sq_of L).1 hk with rfl | e
    · exact .inl (.inl rfl)
    · rcases hv with c | c
      · exact .inl ((sq_of h).2 (.inr (by rw [← c]; exact e)))
      · rw [c] at e
        cases e
        exact .inr q.size
  · refine (f3.at' k (Array.getElem?_eq_some_iff.1 hk).1 (fun c => ?_)).trans hk
    rcases c with rfl | c
    · rw [h.var] at hk; cases hk; cases hc
    · obtain ⟨cur, e⟩ := gown_cells h.own c
      rw [e] at hk; cases hk; cases hc
theorem lq_obj (h : Lq E te ts W0 K l v W) (hK : K < W0.heap.size) (q : Below W.heap.size W w1) (g : w1.grownBy w' v.ownBlock) : w'.heap[K]? = some (.cells #[v] ts (0, 0)) :=
  have hKl := (Array.getElem?_eq_some_iff.1 h.var).1
  (g.block K (Nat.lt_of_lt_of_le hKl q.size) (fun e => by have := (gown_lt h.own e.symm).1; omega)).trans ((q.block K hKl).trans h.var)
theorem lq_kept (h : Lq E te ts W0 K l v W) (hK : K < W0.heap.size) (q : Below W.heap.size W w1) (g : w1.grownBy w' v.ownBlock) : w'.cell? ⟨K, 0, none⟩ = some v := by
  rw [cell_of_row _ _ _ _ _ _ (lq_obj h hK q g)]; rfl
theorem lq_fz (h : Lq E te ts W0 K l v W) (hK : K < W0.heap.size) (q : Below W.heap.size W w1) (g : w1.grownBy w' v.ownBlock) : w'.frozen? ⟨K, 0, none⟩ = false := by
  simp [World.frozen?, lq_obj h hK q g]
end
theorem lq_start {α : Type} {E : Elt α} {te ts : TypeId} {W0 : World} {K : Nat} (h : W0.heap[K]? = some (.cells #[.slice none 0 0] ts (0, 0))) : Lq E te ts W0 K [] (.slice none 0 0) W0 :=
  ⟨gown_nil _ _, h, fun _ _ _ => rfl, Nat.le_refl _, Below.refl _ _⟩
/-- The frame of such a range. -/
theorem Lq.fr {α : Type} {E : Elt α} {te ts : TypeId} {W0 W : World} {K : Nat} {l : List α} {v : Value} (h : Lq E te ts W0 K l v W) : Fr (fun k => k = K) W0 W := ⟨h.b0, fun k hk hn => h.at' k hk hn⟩
theorem fr_unmark {Ds : List Nat} (w : World) : Fr (fun k => k ∈ Ds) w (unmark Ds w) := ⟨unmark_below Ds w w 0 (fun D _ => Nat.zero_le _) (Nat.zero_le _) (Below.refl _ _), fun k _ hn => unmark_other Ds w k hn⟩
end Go.Proofs.Ytdcjgcjnfcahkaa
/- The program's book: Mass. -/
namespace Go.Proofs.Ytdcjgcjnfcahkaa
open Go.RowKit Go.Shelf
set_option linter.unusedVariables false
set_option linter.unusedSimpArgs false

theorem obj_cell {W : World} {k : Nat} {u : Value} {t : TypeId} (h : W.heap[k]? = some (.cells #[u] t (0, 0))) : W.cell? ⟨k, 0, none⟩ = some u := by rw [cell_of_row _ _ _ _ _ _ h]; rfl
theorem obj_fz {W : World} {k : Nat} {cs : Array Value} {t : TypeId} (h : W.heap[k]? = some (.cells cs t (0, 0))) (j : Nat) : W.frozen? ⟨k, j, none⟩ = false := by simp [World.frozen?, h]
theorem massF_filter (a : Int) : ∀ (l : List Or) (S : Sd), massF a S (l.filter (ofAc a)) = massF a S l
  | [], _ => rfl
  | x :: r, S => by
    cases c : ofAc a x
    · rw [List.filter_cons_of_neg (by rw [c]; decide)]
      show _ = massF a (if ofAc a x = true then _ else S) r
      rw [c, if_neg (by decide)]
      exact massF_filter a r S
    · rw [List.filter_cons_of_pos c]
      show massF a (if ofAc a x = true then _ else S) (r.filter (ofAc a)) = massF a (if ofAc a x = true then _ else S) r
      exact massF_filter a r _
theorem acc_bx (w : World) (a : Int) : ∃ W2, (w.alloc (.cells #[.int .u32 a] 29)).alloc (.cells #[.slice none 0 0] 35) = W2 ∧ Below w.heap.size w W2 ∧ W2.heap[w.heap.size]? = some (.cells #[.int .u32 a] 29 (0, 0)) ∧ W2.heap[w.heap.size + 1]? = some (.cells #[.slice none 0 0] 35 (0, 0)) ∧ W2.heap.size = w.heap.size + 1 + 1 :=
  ⟨_, rfl, ((Below.refl _ w).alloc (Nat.le_refl _) _).alloc (by simp) _, heap_alloc2_old w _ _, heap_alloc2_new w _ _, by simp⟩
/-- Within the second loop: those that go, the variable that holds them, the mark of the first loop. -/
structure MkL (Pd : PdT) (w : World) (K D : Nat) (G : Nat) (g : Bool → Nat) (F0 : Bool → Nat → Prop) (T : Sd) (t : Nat) (v : Value) (l : List Or) (F : Bool → Nat → Prop) (W : World) : Prop where
  bp : Bp Pd W G g F T t
  fr : Fr (fun k => ∃ b, F0 b k) w W
  fn : ∀ b k, F b k → F0 b k ∨ w.heap.size ≤ k
  lo : EO.Own 31 W w.heap.size v l
  lv : W.heap[K]? = some (.cells #[v] 35 (0, 0))
  dm : W.heap[D]? = some (.deferred (some []))
  ap : ∀ b k, F b k → k ≠ K ∧ v.ownBlock ≠ some k ∧ k ≠ D
section
variable {Pd : PdT} {zs : Array Value} {w W W' : World} {K D G : Nat} {g : Bool → Nat} {F0 F : Bool → Nat → Prop} {T : Sd} {t : Nat} {v : Value} {l : List Or} {b : Bool} {os : List Or}
theorem MkL.below (SK : SideK Pd zs) (h : MkL Pd w K D G g F0 T t v l F W) (q : Below W.heap.size W W') : MkL Pd w K D G g F0 T t v l F W' :=
  ⟨h.bp.below SK q, h.fr.same (Fr.below q), h.fn, gown_below h.lo q, (q.block _ (Array.getElem?_eq_some_iff.1 h.lv).1).trans h.lv, (q.block _ (Array.getElem?_eq_some_iff.1 h.dm).1).trans h.dm, h.ap⟩
theorem MkL.side (SK : SideK Pd zs) (h : MkL Pd w K D G g F0 T t v l F W) (q : AftO Pd W (F b) (g b) b os t W') : ∃ F', MkL Pd w K D G g F0 (T.up b os) t v l F' W' := by
  obtain ⟨F', k1, k2, k3⟩ := h.bp.turn SK (Nat.le_refl _) q
  have no : ∀ k, (∃ b, F b k) → k ≠ K ∧ v.ownBlock ≠ some k ∧ k ≠ D := fun k ⟨b, hk⟩ => h.ap b k hk
  refine ⟨F', k1, h.fr.trans k2 (fun _ h => h) (fun k hk ⟨b, c⟩ => ?_), fun b k hk => ?_, gown_fr h.lo k2 (fun k hk c => (no k c).2.1 hk), stays k2 h.lv (fun c => (no _ c).1 rfl), stays k2 h.dm (fun c => (no _ c).2.2 rfl), fun b k hk => ?_⟩
  · rcases h.fn b k c with c | c
    · exact ⟨b, c⟩
    · omega
  · rcases k3 b k hk with c | c
    · exact h.fn b k c
    · exact .inr (Nat.le_trans h.fr.size c)
  · rcases k3 b k hk with c | c
    · exact h.ap b k c
    · have l1 := (Array.getElem?_eq_some_iff.1 h.lv).1
      have l2 := (Array.getElem?_eq_some_iff.1 h.dm).1
      exact ⟨by omega, fun e => by have := (gown_lt h.lo e).2; omega, by omega⟩
end
section
variable {Pd : PdT} {zs : Array Value} {w : World} {G : Nat} {g : Bool → Nat} {F : Bool → Nat → Prop} {S : Sd} {t : Nat} {a : Int}
set_option maxRecDepth 100000 in
set_option maxHeartbeats 8000000 in
theorem pmass_any (K : SideK Pd zs) (CK : CellK Pd) (h : Bp Pd w G g F S t) : Calls Try.prog 14 #[.pointer (some ⟨G, 0, none⟩), .int .u32 a] w fun e w' => ∃ u, e = .returned u ∧ EO.Own 31 w' w.heap.size u (massX S a) ∧
    ∃ F', Bp Pd w' G g F' (massS S a) t ∧ Fr (fun k => ∃ b, F b k) w w' ∧ (∀ b k, F' b k → F b k ∨ w.heap.size ≤ k) ∧ ∀ b k, F' b k → u.ownBlock ≠ some k := by
  have hz := zero_or
  have KH := Lib.hid K
  have CH := Lib.hid CK
  have HH := Lib.hid h
  obtain ⟨W2, hW2, b2, e0, e1, s2⟩ := acc_bx w a
  have HA := Lib.hid (pball_any K CK (h.below K b2))
  have MF : Hid (massF a S (massX S a) = massS S a) := Lib.hid (by unfold massX; rw [massF_filter]; exact massF_all a (h.inv K))
  have AL : Hid (∀ x, x ∈ S.all → x.ok) := Lib.hid (fun x hx => by
    rcases List.mem_append.1 hx with hx | hx
    · exact (h.inv K _).ok x hx
    · exact (h.inv K _).ok x hx)
  have LN : Hid (S.all.length ≤ 200) := Lib.hid (by
    have := (h.inv K true).len
    have := (h.inv K false).len
    show (S true ++ S false).length ≤ 200
    rw [List.length_append]; omega)
  have HW := Lib.hid hW2
  have B2 := Lib.hid b2
  have E0 := Lib.hid e0
  have E1 := Lib.hid e1
  have S2 := Lib.hid s2
  have LF := Lib.hid fun (k : Nat) (hk : BpF G F k) => h.lt K hk
  clear K CK h hW2 b2 e0 e1 s2
  obtain ⟨al, hal⟩ : ∃ al, S.all = al := ⟨_, rfl⟩
  obtain ⟨ml, hml⟩ : ∃ ml, massX S a = ml := ⟨_, rfl⟩
  have HML : Hid (al.filter (ofAc a) = ml) := Lib.hid (by rw [← hal, ← hml]; rfl)
  rw [hal] at HA AL LN
  rw [hml] at MF ⊢
  clear hal hml
  refine calls_marks Try.func14 rfl ?_
  simp only [Try.ntmps14, List.size_toArray, List.length_cons, List.length_nil, Nat.reduceAdd, Nat.reduceSub, Array.replicate_succ, Array.replicate_zero, List.push_toArray, List.append_toArray, List.nil_append, List.cons_append]
  go_wp2_with fail
  rw [HW.out]
  refine HA.out.mono ?_; rintro e V ⟨gf, lb, T, rfl, q1, en, hT, tell⟩
  have TL := Lib.hid tell
  have EN := Lib.hid en
  have Q1 := Lib.hid q1
  have HT := Lib.hid hT
  have SV : Hid (w.heap.size + 1 + 1 ≤ V.heap.size) := Lib.hid (by have := S2.out; have := q1.size; omega)
  have V0 : Hid (V.heap[w.heap.size]? = some (.cells #[.int .u32 a] 29 (0, 0))) := Lib.hid ((q1.block _ (by have := S2.out; omega)).trans E0.out)
  have V1 : Hid (V.heap[w.heap.size + 1]? = some (.cells #[.slice none 0 0] 35 (0, 0))) := Lib.hid ((q1.block _ (by have := S2.out; omega)).trans E1.out)
  clear q1 en hT tell E0 E1
  go_wp2_with fail
  rename_i Q0 K0 a0
  have A0 := Lib.hid a0
  clear a0
  refine (wpIn_wide (n := 9)).1 ?_
  have hsv := SV.out
  have L0 : Hid (Lq EO 31 35 V (w.heap.size + 1) [] (.slice none 0 0) V) := Lib.hid (lq_start V1.out)
  refine range_deep (S := Sv (w.heap.size + 1)) (by decide) rfl EN.out (Still.var (by omega)) (TL.out V (Sv (w.heap.size + 1)) 8 (Fr.refl _ _) (Still.var (by omega)) (fun k hk => by
      rcases (sq_of L0.out).1 hk with rfl | e
      · omega
      · cases e) (fun k hk c => by
      rcases (sq_of L0.out).1 c with rfl | e
      · have := S2.out
        rcases (HT.out _ hk).2 with d | d
        · have := LF.out _ d; omega
        · omega
      · cases e) (by decide)) (fun _ => rfl)
    (fun pre U => pre.length ≤ 200 ∧ ∃ v, Lq EO 31 35 V (w.heap.size + 1) ((valsO pre).filter (ofAc a)) v U)
    (fun _ _ _ => False)
    (fun s A C ⟨hl, v, hj⟩ b k => ⟨hl, v, hj.calm (by omega) b k⟩)
    (fun _ s A C hj _ _ => hj)
    ⟨Nat.zero_le _, _, L0.out⟩
    (fun x a' U => ∃ bx, V.heap.size ≤ bx ∧ EO.Bx 31 U bx x.1 ∧ a' = { tmps := #[.pointer (some ⟨G, 0, none⟩), .int .u32 a, undef, .pointer (some ⟨w.heap.size, 0, none⟩), .slice none 0 0, .pointer (some ⟨w.heap.size + 1, 0, none⟩), .pointer (some ⟨bx, 0, none⟩), undef, undef, .pointer (some ⟨G, 0, none⟩), .func (.func gf) #[] lb, .agg (EO.cells x.1).toArray, undef, undef, undef, undef, undef, undef, undef, undef, undef, undef, undef, undef, undef, undef, undef, undef, undef, undef, undef, undef, undef, undef, undef, undef, undef, undef, undef], defers := [] })
    (fun x a' U l o o' hx hl ho hc => by
      obtain ⟨bx, h1, h2, h3⟩ := hx
      refine ⟨bx, h1, ?_, h3⟩
      show (U.putObj l o').heap[bx]? = _
      rw [World.putObj_heap_other (fun e => ?_)]
      · exact h2
      · subst e
        rw [show U.heap[bx]? = _ from h2] at ho
        cases ho
        cases hc) ?assign ?body ?done ?stop
  case assign =>
    rintro l pre x U KK ⟨hl, v, h2⟩ hK
    have HZ := Lib.hid (gbx_new (E := EO) (te := 31) U zeroOr)
    refine region_in rfl (fun ⟨_, _, h⟩ => h) ?_
    go_wp2_with (refine gwl_store TO x.1 U.heap.size HZ.out rfl rfl ?_)
    have q : Below U.heap.size U ((U.alloc (.cells (EO.cells zeroOr).toArray 31)).setRow U.heap.size (EO.cells x.1).toArray) := row_inO (Nat.le_refl _) (below_new U _)
    refine hK _ _ ⟨q.size, fun k o _ hk _ => (q.block k (Array.getElem?_eq_some_iff.1 hk).1).trans hk⟩ (Kc.below (Still.var (N := V.heap.size) (by omega)) h2.sz q) ⟨hl, v, h2.grow (by omega) q⟩ ⟨U.heap.size, h2.sz, gbx_set HZ.out, rfl⟩
  case body =>
    rintro l pre x a' U - - ⟨hl, v, h2⟩ ⟨bx, hb, hbx, rfl⟩ hlen
    have H2 := Lib.hid h2
    have RGX := Lib.hid (gbx_rng hbx)
    have x1 : U.cell? ⟨bx, 1, none⟩ = some (.int .u32 x.1.ac) := gbx_cell hbx 1
    have y0 : U.cell? ⟨w.heap.size, 0, none⟩ = some (.int .u32 a) := obj_cell ((h2.at' _ (by omega) (by omega)).trans V0.out)
    have cv : U.cell? ⟨w.heap.size + 1, 0, none⟩ = some v := obj_cell h2.var
    have HP : Hid ((pre ++ [x]).length ≤ 200) := Lib.hid (by have := LN.out; rw [List.length_append, List.length_singleton]; omega)
    obtain ⟨A5, n5, c5, rfl⟩ := gown_any h2.own
    obtain ⟨fl, hfl⟩ : ∃ fl, (valsO pre).filter (ofAc a) = fl := ⟨_, rfl⟩
    have FL : Hid (fl.length + 1 ≤ 100000) := Lib.hid (by rw [← hfl]; have := List.length_filter_le (ofAc a) (valsO pre); rw [valsO_len] at this; omega)
    have SN : Hid ((valsO (pre ++ [x])).filter (ofAc a) = fl ++ if ofAc a x.1 = true then [x.1] else []) := Lib.hid (by
      rw [valsO_snoc, List.filter_append, hfl]
      congr 1
      cases c : ofAc a x.1 <;> simp [c])
    rw [hfl] at H2 h2
    have QN := Lib.hid (below_new U (.cells (EO.cells x.1).toArray 31))
    have OWN := Lib.hid (gown_below h2.own QN.out)
    have RDN := Lib.hid (gbx_rd (gbx_new (E := EO) (te := 31) U x.1))
    have SZ := Lib.hid h2.sz
    have hc0 : (a == 0) = true ∨ (a == 0) = false ∧ (x.1.ac == a) = true ∨ (a == 0) = false ∧ (x.1.ac == a) = false := by
      cases (a == 0)
      · cases (x.1.ac == a)
        · exact .inr (.inr ⟨rfl, rfl⟩)
        · exact .inr (.inl ⟨rfl, rfl⟩)
      · exact .inl rfl
    clear h2 hbx hfl hl
    refine wpIn_block ?_
    rcases hc0 with c0 | ⟨c0, c1⟩ | ⟨c0, c1⟩
    rotate_left 2
    · have CC : Hid (ofAc a x.1 = false) := Lib.hid (by unfold ofAc; rw [c0, c1]; rfl)
      apply wpIn_seq_k; intro KB hKB
      refine region_in rfl (fun ⟨_, _, h⟩ => h) ?_
      go_wp2_with fail
      refine wpIn_cond_false rfl ?_
      apply wpIn_skip
      refine ⟨KeepsFrom.refl _ _, Kc.below (Still.var (N := V.heap.size) (by omega)) SZ.out (Below.refl _ _), HP.out, .slice A5 n5 c5, ?_⟩
      rw [SN.out, CC.out]
      simpa using H2.out
    all_goals
      have CC : Hid (ofAc a x.1 = true) := Lib.hid (by unfold ofAc; first | rw [c0, c1]; rfl | rw [c0]; rfl)
      apply wpIn_seq_k; intro KB hKB
      refine region_in rfl (fun ⟨_, _, h⟩ => h) ?_
      go_wp2_with fail
      refine wpIn_cond_true rfl ?_
      refine region_in rfl (fun ⟨_, _, h⟩ => h) ?_
      go_wp2_with (first
        | ((with_reducible refine gwl_load TO bx 0 RGX.out ?_ ?_ ?_); rfl; rfl)
        | ((with_reducible refine gwl_bs TO (s := x.1) ?_ (fill_or x.1) ?_ (by decide)); rfl)
        | (at_builtin; refine gpl_app TO rfl (.tmp 20) (.tmp 22) rfl V.heap.size (.slice A5 n5 c5) fl rfl OWN.out (some ⟨U.heap.size, 0, none⟩) 1 1 [x.1] rfl RDN.out (fun e => by cases e) FL.out (by have := SZ.out; simp; omega) ?_; intro v' w' o1 o2 o3; obtain ⟨A6, n6, c6, rfl⟩ := gown_any o1; have PUSH := Lib.hid (H2.out.push (x := x.1) (by omega) QN.out o1 o2 o3); have cv' : w'.cell? ⟨w.heap.size + 1, 0, none⟩ = some (.slice A5 n5 c5) := lq_kept H2.out (by omega) QN.out o2; have fv' : w'.frozen? ⟨w.heap.size + 1, 0, none⟩ = false := lq_fz H2.out (by omega) QN.out o2; clear o1 o2 o3))
      obtain ⟨g1, g2, g3⟩ := PUSH.out
      refine ⟨g3, g2, HP.out, .slice A6 n6 c6, ?_⟩
      rw [SN.out, CC.out, if_pos rfl]
      exact g1
  case stop =>
    rintro D c pre U hD hS hx hM
    exact hx.elim
  case done =>
    rintro D xs U hD hS ⟨hl0, v, h2⟩ hM
    rw [hS, HML.out] at h2
    obtain ⟨A5, n5, c5, rfl⟩ := gown_any h2.own
    obtain ⟨m, hm⟩ : ∃ m, ml.length = m := ⟨_, rfl⟩
    have HL := Lib.hid hm
    have en : n5 = m := by
      obtain ⟨A, c, e, _⟩ := gown_form h2.own
      injection e with _ e _
      rw [e, hm]
    subst en
    have hle : n5 ≤ 200 := by
      have := LN.out
      rw [← hm, ← HML.out]
      exact Nat.le_trans (List.length_filter_le _ _) this
    have cv : U.cell? ⟨w.heap.size + 1, 0, none⟩ = some (.slice A5 n5 c5) := obj_cell h2.var
    have dl := (Array.getElem?_eq_some_iff.1 hM).1
    have M0 : Hid (MkL Pd w (w.heap.size + 1) D G g F S t (.slice A5 n5 c5) ml F U) := Lib.hid ⟨((HH.out.below KH.out B2.out).below KH.out Q1.out).keep KH.out h2.fr (fun k hk e => by have := LF.out k hk; omega), ((Fr.below B2.out).same (Fr.below (Q1.out))).trans h2.fr (fun _ h => h) (fun k hk e => by omega), fun _ _ h => .inl h, gown_low h2.own (by omega), h2.var, hM, fun b k hk => ⟨by have := LF.out k (.inr ⟨b, hk⟩); omega, fun e => by have := LF.out k (.inr ⟨b, hk⟩); have := (gown_lt h2.own e).1; omega, by have := LF.out k (.inr ⟨b, hk⟩); omega⟩⟩
    have HDV : Hid (V.heap.size ≤ D) := Lib.hid hD
    clear h2 hl0 hM hD hS hm dl
    go_wp2_with fail
    refine A0.out _ _ ?_
    clear A0
    go_wp2_with fail
    go_loopw [8, 26] (fun u i wr => ∃ (k : Nat) (F' : Bool → Nat → Prop), k ≤ n5 ∧ i = .int .i64 k ∧ MkL Pd w (w.heap.size + 1) D G g F (massF a S (ml.take k)) t (.slice A5 n5 c5) ml F' wr) (fun _ i _ => n5 - (intOf i).toNat)
    case atStart => exact ⟨0, F, Nat.zero_le _, rfl, M0.out⟩
    case round =>
      obtain ⟨k, F1, hk, rfl, hM⟩ := hrel
      have M1 := Lib.hid hM
      clear hM M0 cv
      by_cases hlt : k < n5
      case neg =>
        obtain rfl : k = n5 := by omega
        have hd : decide ((k : Int) < k) = false := decide_eq_false (by omega)
        have cv : wr.cell? ⟨w.heap.size + 1, 0, none⟩ = some (.slice A5 k c5) := obj_cell M1.out.lv
        go_wp2_with fail
        have f := fr_unmark (Ds := [D]) wr
        have hDF : ∀ b j, F1 b j → j ∉ [D] := fun b j hj c => (M1.out.ap b j hj).2.2 (List.mem_singleton.1 c)
        refine ret_marks [D] rfl (by simp) ?_ (results_tmp rfl _ _ _) ⟨.slice A5 k c5, rfl, ?_, F1, ?_, ?_, M1.out.fn, fun b j hj => (M1.out.ap b j hj).2.1⟩
        · intro E hE
          rw [List.mem_singleton.1 hE]; exact M1.out.dm
        · refine gown_fr M1.out.lo f (fun j hj c => ?_)
          obtain ⟨cur, e⟩ := gown_cells M1.out.lo hj
          rw [List.mem_singleton.1 c, M1.out.dm] at e
          cases e
        · have e := M1.out.bp.keep KH.out f (fun j hj c => by
            rcases hj with rfl | ⟨b, hj⟩
            · have := HDV.out; have := HH.out.gl
              have := List.mem_singleton.1 c; omega
            · exact hDF b j hj c)
          rw [show ml.take k = ml from List.take_of_length_le (by rw [HL.out]; exact Nat.le_refl _), MF.out] at e
          exact e
        · exact M1.out.fr.trans f (fun _ h => h) (fun j hj c => by have := HDV.out; have := List.mem_singleton.1 c; omega)
      case pos =>
        have hd : decide ((k : Int) < n5) = true := decide_eq_true (by omega)
        have hki : (k : Int) < (n5 : Int) := by omega
        obtain ⟨x, hx⟩ : ∃ x, ml[k]? = some x := ⟨ml[k]'(by rw [HL.out]; exact hlt), List.getElem?_eq_getElem _⟩
        have own := M1.out.lo
        rw [← HL.out] at own
        obtain ⟨b, c', eb⟩ := gown_slot own (by have := HL.out; omega)
        injection eb with e1 _ e2
        subst e1 e2
        have RG : Hid (wr.rangeAt b (k * 5) (EO.cells x)) := Lib.hid (gown_rng own hx)
        have hxm : x ∈ al.filter (ofAc a) := by rw [HML.out]; exact List.mem_of_getElem? hx
        have HC := (List.mem_filter.1 hxm).2
        have S1 := Lib.hid (massF_snoc a S ml hx)
        rw [HC, if_pos rfl] at S1
        have XO := Lib.hid (AL.out x (List.mem_filter.1 hxm).1)
        obtain ⟨T1, hT1⟩ : ∃ T1, massF a S (ml.take k) = T1 := ⟨_, rfl⟩
        rw [hT1] at S1 M1
        obtain ⟨V2, hV, bV, yV, zV, sV⟩ := put_or x (Below.refl wr.heap.size wr)
        have HV := Lib.hid hV
        have ZV := Lib.hid zV
        have YV := Lib.hid yV
        have M2 := Lib.hid (M1.out.below KH.out bV)
        clear hx own hxm HC hT1 hV bV yV zV sV
        obtain ⟨bx, hbx⟩ : ∃ bx, x.bu = bx := ⟨_, rfl⟩
        have HBX := Lib.hid hbx
        rw [hbx] at S1
        clear hbx
        go_wp2_with (first | ((with_reducible refine gwl_load TO b (k * 5) RG.out ?_ ?_ ?_); rfl; rfl) | (refine gwl_store TO x wr.heap.size ZV.out rfl rfl ?_; rw [HV.out]))
        have M3 := M2.out.below KH.out (Below.refl _ _).drew
        have K2 : Hid (∀ U, EO.Bx 31 U wr.heap.size x → U.cell? ⟨wr.heap.size, 2, none⟩ = some (.bool bx)) := Lib.hid fun U hU => by rw [← HBX.out]; exact gbx_cell hU 2
        have K0 : Hid (∀ U, EO.Bx 31 U wr.heap.size x → U.cell? ⟨wr.heap.size, 0, none⟩ = some (.int .u64 x.nu)) := Lib.hid fun U hU => gbx_cell hU 0
        refine wp_region_held_drew (S := fun U => EO.Bx 31 U wr.heap.size x) (by kernel_rfl) (show EO.Bx 31 V2.drew wr.heap.size x from YV.out) (fun hH => ?_)
        refine wpAnyH_take (i := 0) (v := .pointer (some ⟨G, 0, none⟩)) rfl (by kernel_rfl) (by kernel_rfl) (by kernel_rfl) (fun _ _ _ h => h) (.inl ⟨by rfl, ?_⟩) (by assumption) ?_
        · intro W hW; go_simp
        try simp only [List.getElem_toArray, List.getElem_cons_zero, Act.put, List.setIfInBounds_toArray, List.set_cons_zero, List.set_cons_succ]
        refine wpAnyH_take (i := 1) (v := .pointer (some ⟨wr.heap.size, 2, none⟩)) rfl (by kernel_rfl) (by kernel_rfl) (by kernel_rfl) (fun _ _ _ h => h) (.inl ⟨by rfl, ?_⟩) (by assumption) ?_
        · intro W hW; go_simp
        try simp only [List.getElem_toArray, List.getElem_cons_zero, List.getElem_cons_succ, Act.put, List.setIfInBounds_toArray, List.set_cons_zero, List.set_cons_succ]
        refine wpAnyH_take (i := 2) (v := .bool bx) rfl (by kernel_rfl) (by kernel_rfl) (by kernel_rfl) (fun _ _ _ h => h) (.inl ⟨by rfl, ?_⟩) (by assumption) ?_
        · intro W hW; have k := K2.out W hW; go_simp
        try simp only [List.getElem_toArray, List.getElem_cons_zero, List.getElem_cons_succ, Act.put, List.setIfInBounds_toArray, List.set_cons_zero, List.set_cons_succ]
        refine wpAnyH_take (i := 4) (v := .pointer (some ⟨wr.heap.size, 0, none⟩)) rfl (by kernel_rfl) (by kernel_rfl) (by kernel_rfl) (fun _ _ _ h => h) (.inl ⟨by rfl, ?_⟩) (by assumption) ?_
        · intro W hW; go_simp
        try simp only [List.getElem_toArray, List.getElem_cons_zero, List.getElem_cons_succ, Act.put, List.setIfInBounds_toArray, List.set_cons_zero, List.set_cons_succ]
        refine wpAnyH_take (i := 5) (v := .int .u64 x.nu) rfl (by kernel_rfl) (by kernel_rfl) (by kernel_rfl) (fun _ _ _ h => h) (.inl ⟨by rfl, ?_⟩) (by assumption) ?_
        · intro W hW; have k := K0.out W hW; go_simp
        try simp only [List.getElem_toArray, List.getElem_cons_zero, List.getElem_cons_succ, Act.put, List.setIfInBounds_toArray, List.set_cons_zero, List.set_cons_succ]
        refine wpAnyH_ready (rs := [3]) (by decide +kernel) (by simp) (AllReadyH.cons rfl (fun KQ hK => ?_) AllReadyH.nil)
        go_simp
        refine (pside_any bx M3.bp).mono ?_; rintro e0 W1 ⟨rfl, rfl⟩
        have hH := hH
        refine hK.out _ _ hH (fun _ => ?_)
        clear hK 
        try simp only [List.setIfInBounds_toArray, List.set_cons_zero, List.set_cons_succ]
        refine wpAnyH_ready (rs := [6]) (by decide +kernel) (by simp) (AllReadyH.cons rfl (fun KQ hK => ?_) AllReadyH.nil)
        go_simp
        refine (KH.out.drop (M3.bp.pd bx) XO.out.nu).mono ?_; rintro e0 W9 ⟨rfl, q9⟩
        have y9 : EO.Bx 31 W9 wr.heap.size x := by
          obtain ⟨_, _, f, _⟩ := q9
          refine stays f (show V2.drew.heap[wr.heap.size]? = _ from YV.out) (fun c => ?_)
          have := M1.out.bp.flt KH.out bx c
          omega
        obtain ⟨F9, m9⟩ := M3.side KH.out q9
        refine hK.out _ _ y9 (fun _ => ?_)
        clear hK q9
        try simp only [List.setIfInBounds_toArray, List.set_cons_zero, List.set_cons_succ]
        refine wpAnyH_done (by decide +kernel) ?_ _
        have M9 := Lib.hid m9
        clear m9 hH M3 y9
        go_wp2_with fail
        go_roundw
        case rel => exact ⟨k + 1, F9, hlt, by go_num, by rw [S1.out]; exact M9.out⟩
        case measure => simp [intOf]; omega
end
end Go.Proofs.Ytdcjgcjnfcahkaa
/- The program's book: Open. -/
namespace Go.Proofs.Ytdcjgcjnfcahkaa
open Go.RowKit Go.Shelf
set_option linter.unusedVariables false
set_option linter.unusedSimpArgs false

/-- Within Open: what lies ahead stays; both sums, at N and behind it. -/
structure Io (W0 : World) (N : Nat) (s t : Int) (W : World) : Prop where
  at' : ∀ k, k < N → W.heap[k]? = W0.heap[k]?
  s1 : W.heap[N]? = some (.cells #[.int .i64 s] 2 (0, 0))
  s2 : W.heap[N + 1]? = some (.cells #[.int .i64 t] 2 (0, 0))
  sz : W0.heap.size ≤ W.heap.size
  b0 : Below 0 W0 W
section
variable {W0 W W' : World} {N B : Nat} {s t z : Int}
theorem Io.below (h : Io W0 N s t W) (b : Below B W W') (hB : N + 1 < B) : Io W0 N s t W' :=
  ⟨fun k hk => (b.block k (by omega)).trans (h.at' k hk), (b.block N (by omega)).trans h.s1, (b.block (N + 1) hB).trans h.s2, Nat.le_trans h.sz b.size, h.b0.trans (b.mono (Nat.zero_le _))⟩
theorem Io.put1 (h : Io W0 N s t W) (z : Int) : Io W0 N z t (W.setCell ⟨N, 0, none⟩ (.int .i64 z)) :=
  ⟨fun k hk => (heap_setCell_other W ⟨N, 0, none⟩ k _ (by show k ≠ N; omega)).trans (h.at' k hk), heap_setCell_same W N 0 _ _ (.int .i64 z) h.s1, (heap_setCell_other W ⟨N, 0, none⟩ _ _ (by show N + 1 ≠ N; omega)).trans h.s2, by have := h.sz; simp; omega, h.b0.setCell (Nat.zero_le _) _⟩
theorem Io.put2 (h : Io W0 N s t W) (z : Int) : Io W0 N s z (W.setCell ⟨N + 1, 0, none⟩ (.int .i64 z)) :=
  ⟨fun k hk => (heap_setCell_other W ⟨N + 1, 0, none⟩ k _ (by show k ≠ N + 1; omega)).trans (h.at' k hk), (heap_setCell_other W ⟨N + 1, 0, none⟩ _ _ (by show N ≠ N + 1; omega)).trans h.s1, heap_setCell_same W (N + 1) 0 _ _ (.int .i64 z) h.s2, by have := h.sz; simp; omega, h.b0.setCell (Nat.zero_le _) _⟩
end
/-- At the end: both sums are written once more. -/
structure Sf2 (N : Nat) (s t : Int) (U X : World) : Prop where
  fr : Fr (fun k => k = N ∨ k = N + 1) U X
  s1 : X.heap[N]? = some (.cells #[.int .i64 s] 2 (0, 0))
  s2 : X.heap[N + 1]? = some (.cells #[.int .i64 t] 2 (0, 0))
theorem Sf2.put1 {N : Nat} {s t : Int} {U X : World} (h : Sf2 N s t U X) : Sf2 N s t U (X.setCell ⟨N, 0, none⟩ (.int .i64 s)) :=
  ⟨h.fr.same (Fr.set (p := ⟨N, 0, none⟩) (.inl rfl) _), heap_setCell_same X N 0 _ _ (.int .i64 s) h.s1, (heap_setCell_other X ⟨N, 0, none⟩ _ _ (by show N + 1 ≠ N; omega)).trans h.s2⟩
theorem Sf2.put2 {N : Nat} {s t : Int} {U X : World} (h : Sf2 N s t U X) : Sf2 N s t U (X.setCell ⟨N + 1, 0, none⟩ (.int .i64 t)) :=
  ⟨h.fr.same (Fr.set (p := ⟨N + 1, 0, none⟩) (.inr rfl) _), (heap_setCell_other X ⟨N + 1, 0, none⟩ _ _ (by show N ≠ N + 1; omega)).trans h.s1, heap_setCell_same X (N + 1) 0 _ _ (.int .i64 t) h.s2⟩
theorem opn_app (b : Bool) (a : Int) (l m : List Or) : opn b a (l ++ m) = opn b a l + opn b a m := by
  unfold opn
  rw [List.map_append, List.sum_append]
theorem opn_one (b : Bool) (a : Int) (x : Or) : opn b a [x] = opn1 b a x := by simp [opn]
theorem thr_bx (w : World) (a : Int) : ∃ W3, ((w.alloc (.cells #[.int .u32 a] 29)).alloc (.cells #[.int .i64 0] 2)).alloc (.cells #[.int .i64 0] 2) = W3 ∧ Below w.heap.size w W3 ∧ W3.heap[w.heap.size]? = some (.cells #[.int .u32 a] 29 (0, 0)) ∧ W3.heap[w.heap.size + 1]? = some (.cells #[.int .i64 0] 2 (0, 0)) ∧ W3.heap[w.heap.size + 1 + 1]? = some (.cells #[.int .i64 0] 2 (0, 0)) ∧ W3.heap.size = w.heap.size + 1 + 1 + 1 := by
  generalize h1 : w.alloc (.cells #[.int .u32 a] 29) = W1
  have e1 : W1.heap[w.heap.size]? = some (.cells #[.int .u32 a] 29 (0, 0)) := h1 ▸ heap_alloc_new w _
  have s1 : W1.heap.size = w.heap.size + 1 := by rw [← h1]; simp
  have q1 : Below w.heap.size w W1 := h1 ▸ below_new w _
  generalize h2 : W1.alloc (.cells #[.int .i64 0] 2) = W2
  have e2 : W2.heap[W1.heap.size]? = some (.cells #[.int .i64 0] 2 (0, 0)) := h2 ▸ heap_alloc_new W1 _
  have s2 : W2.heap.size = W1.heap.size + 1 := by rw [← h2]; simp
  have q2 : Below W1.heap.size W1 W2 := h2 ▸ below_new W1 _
  generalize h3 : W2.alloc (.cells #[.int .i64 0] 2) = W3
  have e3 : W3.heap[W2.heap.size]? = some (.cells #[.int .i64 0] 2 (0, 0)) := h3 ▸ heap_alloc_new W2 _
  have s3 : W3.heap.size = W2.heap.size + 1 := by rw [← h3]; simp
  have q3 : Below W2.heap.size W2 W3 := h3 ▸ below_new W2 _
  rw [s1] at e2
  rw [s2, s1] at e3
  exact ⟨W3, rfl, (q1.trans (q2.mono (by omega))).trans (q3.mono (by omega)), (q3.block _ (by omega)).trans ((q2.block _ (by omega)).trans e1), (q3.block _ (by omega)).trans e2, e3, by omega⟩
theorem ret_two {fn : Func} {p q : Tmp} (h : fn.results = #[.cell p 2, .cell q 2]) (tmps : Array Value) (w : World) (g g' : Nat) (s t : Int) (hp : tmps.getD p undef = .pointer (some ⟨g, 0, none⟩)) (hq : tmps.getD q undef = .pointer (some ⟨g', 0, none⟩)) (h1 : w.cell? ⟨g, 0, none⟩ = some (.int .i64 s)) (h2 : w.cell? ⟨g', 0, none⟩ = some (.int .i64 t)) :
    (results fn tmps).run Try.prog w = .ok (.tuple #[.int .i64 s, .int .i64 t]) w := by
  have hp' : tmps[p]?.getD undef = .pointer (some ⟨g, 0, none⟩) := by simpa using hp
  have hq' : tmps[q]?.getD undef = .pointer (some ⟨g', 0, none⟩) := by simpa using hq
  simp [results, h, hp', hq', asAddr, go_sem, h1, h2]
section
variable {w : World} {p : Option Addr} {F : Nat → Prop} {os : List Or} {a : Int}
set_option maxRecDepth 100000 in
set_option maxHeartbeats 8000000 in
theorem popen_of (hle : ∀ x, x ∈ os → 0 ≤ x.le ∧ x.le ≤ 1000000) (hlen : os.length ≤ 200) (A : ∀ W, Below w.heap.size w W → Calls Try.prog 31 #[.pointer p] W (AllB W F os)) (hF : ∀ k, F k → k < w.heap.size) :
    Calls Try.prog 23 #[.pointer p, .int .u32 a] w fun e w' => e = .returned (.tuple #[.int .i64 (opn true a os), .int .i64 (opn false a os)]) ∧ Below w.heap.size w w' := by
  have hz := zero_or
  obtain ⟨W3, hW3, b3, e0, e1, e2, s3⟩ := thr_bx w a
  have HA := Lib.hid (A W3 b3)
  have HF := Lib.hid hF
  have HLE := Lib.hid hle
  have HLN := Lib.hid hlen
  have HW := Lib.hid hW3
  have B3 := Lib.hid b3
  have E0 := Lib.hid e0
  have E1 := Lib.hid e1
  have E2 := Lib.hid e2
  have S3 := Lib.hid s3
  clear A hF hle hlen hW3 b3 e0 e1 e2 s3
  refine calls_marks Try.func23 rfl ?_
  simp only [Try.ntmps23, List.size_toArray, List.length_cons, List.length_nil, Nat.reduceAdd, Nat.reduceSub, Array.replicate_succ, Array.replicate_zero, List.push_toArray, List.append_toArray, List.nil_append, List.cons_append]
  go_wp2_with fail
  rw [HW.out]
  refine HA.out.mono ?_; rintro e V ⟨gf, lb, T, rfl, q1, en, hT, tell⟩
  have TL := Lib.hid tell
  have EN := Lib.hid en
  have Q1 := Lib.hid q1
  have HT := Lib.hid hT
  have SV : Hid (w.heap.size + 1 + 1 + 1 ≤ V.heap.size) := Lib.hid (by have := S3.out; have := q1.size; omega)
  have V0 : Hid (V.heap[w.heap.size]? = some (.cells #[.int .u32 a] 29 (0, 0))) := Lib.hid ((q1.block _ (by have := S3.out; omega)).trans E0.out)
  have V1 : Hid (V.heap[w.heap.size + 1]? = some (.cells #[.int .i64 0] 2 (0, 0))) := Lib.hid ((q1.block _ (by have := S3.out; omega)).trans E1.out)
  have V2 : Hid (V.heap[w.heap.size + 1 + 1]? = some (.cells #[.int .i64 0] 2 (0, 0))) := Lib.hid ((q1.block _ (by have := S3.out; omega)).trans E2.out)
  clear q1 en hT tell E0 E1 E2
  go_wp2_with fail
  refine (wpIn_wide (n := 9)).1 ?_
  have hsv := SV.out
  have I0 : Hid (Io V (w.heap.size + 1) 0 0 V) := Lib.hid ⟨fun _ _ => rfl, V1.out, V2.out, Nat.le_refl _, Below.refl _ _⟩
  refine range_deep (S := fun _ k => k = w.heap.size + 1 ∨ k = w.heap.size + 1 + 1) (by decide) rfl EN.out (Still.const _ _) (TL.out V (fun _ k => k = w.heap.size + 1 ∨ k = w.heap.size + 1 + 1) 8 (Fr.refl _ _) (Still.const _ _) (fun k hk => by omega) (fun k hk c => by
      have := S3.out
      rcases (HT.out k hk).2 with d | d
      · have := HF.out k d; omega
      · omega) (by decide)) (fun _ => rfl)
    (fun pre U => ∃ s t, (valsO pre <+: os → s = opn true a (valsO pre) ∧ t = opn false a (valsO pre)) ∧ Io V (w.heap.size + 1) s t U)
    (fun _ _ _ => False)
    (fun s A C ⟨x, y, hz, hj⟩ b _ => ⟨x, y, hz, hj.below b (by omega)⟩)
    (fun _ s A C hj _ _ => hj)
    ⟨0, 0, fun _ => ⟨rfl, rfl⟩, I0.out⟩
    (fun x a' U => ∃ bx, V.heap.size ≤ bx ∧ EO.Bx 31 U bx x.1 ∧ a' = { tmps := #[.pointer p, .int .u32 a, undef, .pointer (some ⟨w.heap.size, 0, none⟩), .pointer (some ⟨w.heap.size + 1, 0, none⟩), .pointer (some ⟨w.heap.size + 1 + 1, 0, none⟩), .pointer (some ⟨bx, 0, none⟩), .pointer p, .func (.func gf) #[] lb, .agg (EO.cells x.1).toArray, undef, undef, undef, undef, undef, undef, undef, undef, undef, undef, undef, undef, undef, undef, undef, undef, undef, undef], defers := [] })
    (fun x a' U l o o' hx hl ho hc => by
      obtain ⟨bx, h1, h2, h3⟩ := hx
      refine ⟨bx, h1, ?_, h3⟩
      show (U.putObj l o').heap[bx]? = _
      rw [World.putObj_heap_other (fun e => ?_)]
      · exact h2
      · subst e
        rw [show U.heap[bx]? = _ from h2] at ho
        cases ho
        cases hc) ?assign ?body ?done ?stop
  case assign =>
    rintro l pre x U KK ⟨s, t, h1, h2⟩ hK
    have HZ := Lib.hid (gbx_new (E := EO) (te := 31) U zeroOr)
    refine region_in rfl (fun ⟨_, _, h⟩ => h) ?_
    go_wp2_with (refine gwl_store TO x.1 U.heap.size HZ.out rfl rfl ?_)
    have q : Below U.heap.size U ((U.alloc (.cells (EO.cells zeroOr).toArray 31)).setRow U.heap.size (EO.cells x.1).toArray) := row_inO (Nat.le_refl _) (below_new U _)
    have hs := h2.sz
    refine hK _ _ ⟨q.size, fun k o _ hk _ => (q.block k (Array.getElem?_eq_some_iff.1 hk).1).trans hk⟩ (Kc.below (Still.const _ _) (Nat.le_refl _) q) ⟨s, t, h1, h2.below q (by omega)⟩ ⟨U.heap.size, h2.sz, gbx_set HZ.out, rfl⟩
  case body =>
    rintro l pre x a' U - - ⟨s, t, h1, h2⟩ ⟨bx, hb, hbx, rfl⟩ hlen
    have H1 := Lib.hid h1
    have H2 := Lib.hid h2
    have x1 : U.cell? ⟨bx, 1, none⟩ = some (.int .u32 x.1.ac) := gbx_cell hbx 1
    have x2 : U.cell? ⟨bx, 2, none⟩ = some (.bool x.1.bu) := gbx_cell hbx 2
    have x4 : U.cell? ⟨bx, 4, none⟩ = some (.int .i64 x.1.le) := gbx_cell hbx 4
    have y0 : U.cell? ⟨w.heap.size, 0, none⟩ = some (.int .u32 a) := by rw [cell_of_row _ _ _ _ _ _ ((h2.at' _ (by omega)).trans V0.out)]; rfl
    have y1 : U.cell? ⟨w.heap.size + 1, 0, none⟩ = some (.int .i64 s) := by rw [cell_of_row _ _ _ _ _ _ h2.s1]; rfl
    have y2 : U.cell? ⟨w.heap.size + 1 + 1, 0, none⟩ = some (.int .i64 t) := by rw [cell_of_row _ _ _ _ _ _ h2.s2]; rfl
    have f1 : U.frozen? ⟨w.heap.size + 1, 0, none⟩ = false := by have := h2.s1; simp [World.frozen?, this]
    have f2 : U.frozen? ⟨w.heap.size + 1 + 1, 0, none⟩ = false := by have := h2.s2; simp [World.frozen?, this]
    have NXT : Hid (valsO (pre ++ [x]) <+: os → valsO pre <+: os ∧ x.1 ∈ os ∧ opn true a (valsO (pre ++ [x])) = opn true a (valsO pre) + opn1 true a x.1 ∧ opn false a (valsO (pre ++ [x])) = opn false a (valsO pre) + opn1 false a x.1) := Lib.hid fun h => by
      rw [valsO_snoc] at h ⊢
      refine ⟨(List.prefix_append _ _).trans h, h.subset (by simp), ?_, ?_⟩
      · rw [opn_app, opn_one]
      · rw [opn_app, opn_one]
    have BND : Hid (∀ b, valsO pre <+: os → 0 ≤ opn b a (valsO pre) ∧ opn b a (valsO pre) ≤ 200000000) := Lib.hid fun b h => by
      have h1 := opn_le b a (valsO pre) (fun y hy => HLE.out y (h.subset hy))
      have h2 := h.length_le
      have h3 := HLN.out
      omega
    clear h1 h2 hbx
    obtain ⟨xx, xok⟩ := x
    obtain ⟨xn, xa, xb, xp, xl⟩ := xx
    dsimp only at x1 x2 x4
    refine wpIn_block ?_
    refine wpIn_block ?_
    cases ha : (xa == a)
    · have ha' : (xa != a) = true := by simp [bne, ha]
      have HA' := Lib.hid ha
      apply wpIn_seq_k; intro KB hKB
      refine region_in rfl (fun ⟨_, _, h⟩ => h) ?_
      go_wp2_with fail
      refine wpIn_cond_true rfl ?_
      apply wpIn_skip
      refine ⟨KeepsFrom.refl _ _, Kc.fr (Fr.refl _ _), s, t, fun hpre => ?_, H2.out⟩
      obtain ⟨hp1, hx, q1, q2⟩ := NXT.out hpre
      obtain ⟨r1, r2⟩ := H1.out hp1
      rw [q1, q2, r1, r2]
      have e := HA'.out
      unfold opn1
      dsimp only
      rw [e]
      simp
    · have ha' : (xa != a) = false := by simp [bne, ha]
      have HA' := Lib.hid ha
      cases xb
      · apply wpIn_seq_k; intro KB hKB
        refine region_in rfl (fun ⟨_, _, h⟩ => h) ?_
        go_wp2_with fail
        refine wpIn_cond_false rfl ?_
        apply wpIn_seq_k; intro KA hKA
        refine region_in rfl (fun ⟨_, _, h⟩ => h) ?_
        go_wp2_with fail
        refine wpIn_cond_false rfl ?_
        refine region_in rfl (fun ⟨_, _, h⟩ => h) ?_
        go_wp2_with fail
        refine ⟨(KeepsOthers.setCell U ⟨w.heap.size + 1 + 1, 0, none⟩ _).from _, Kc.fr (Fr.set (S := fun k => k = w.heap.size + 1 ∨ k = w.heap.size + 1 + 1) (p := ⟨w.heap.size + 1 + 1, 0, none⟩) (.inr rfl) _), s, _, fun hpre => ?_, H2.out.put2 _⟩
        obtain ⟨hp1, hx, q1, q2⟩ := NXT.out hpre
        obtain ⟨r1, r2⟩ := H1.out hp1
        have bb := BND.out false hp1
        have hl := HLE.out _ hx
        dsimp only at hl
        rw [q1, q2, r1, r2]
        have e := HA'.out
        unfold opn1
        dsimp only
        rw [e]
        refine ⟨by simp, ?_⟩
        simp only [Bool.true_and, beq_self_eq_true, if_true]
        unfold wrap64
        omega
      · apply wpIn_seq_k; intro KB hKB
        refine region_in rfl (fun ⟨_, _, h⟩ => h) ?_
        go_wp2_with fail
        refine wpIn_cond_false rfl ?_
        apply wpIn_seq_k; intro KA hKA
        refine region_in rfl (fun ⟨_, _, h⟩ => h) ?_
        go_wp2_with fail
        refine wpIn_cond_true rfl ?_
        refine region_in rfl (fun ⟨_, _, h⟩ => h) ?_
        go_wp2_with fail
        refine ⟨(KeepsOthers.setCell U ⟨w.heap.size + 1, 0, none⟩ _).from _, Kc.fr (Fr.set (S := fun k => k = w.heap.size + 1 ∨ k = w.heap.size + 1 + 1) (p := ⟨w.heap.size + 1, 0, none⟩) (.inl rfl) _), _, t, fun hpre => ?_, H2.out.put1 _⟩
        obtain ⟨hp1, hx, q1, q2⟩ := NXT.out hpre
        obtain ⟨r1, r2⟩ := H1.out hp1
        have bb := BND.out true hp1
        have hl := HLE.out _ hx
        dsimp only at hl
        rw [q1, q2, r1, r2]
        have e := HA'.out
        unfold opn1
        dsimp only
        rw [e]
        refine ⟨?_, by simp⟩
        simp only [Bool.true_and, beq_self_eq_true, if_true]
        unfold wrap64
        omega
  case stop =>
    rintro D c pre U hD hS hx hM
    exact hx.elim
  case done =>
    rintro D xs U hD hS ⟨s, t, h1, h2⟩ hM
    obtain ⟨rfl, rfl⟩ := h1 (by rw [hS]; exact List.prefix_refl _)
    rw [hS] at h2
    obtain ⟨s, hs⟩ : ∃ s, opn true a os = s := ⟨_, rfl⟩
    obtain ⟨t, ht⟩ : ∃ t, opn false a os = t := ⟨_, rfl⟩
    rw [hs, ht] at h2
    have HS := Lib.hid hs
    have HT' := Lib.hid ht
    have H2 := Lib.hid h2
    have HM := Lib.hid hM
    have HD := Lib.hid hD
    have SS : Hid (∀ X : World, Fr (fun k => k = w.heap.size + 1 ∨ k = w.heap.size + 1 + 1) U X → Below w.heap.size w X ∧ X.heap[D]? = some (.deferred (some []))) := Lib.hid fun X f => by
      have b1 := B3.out.trans (Q1.out.mono B3.out.size)
      have dl := (Array.getElem?_eq_some_iff.1 HM.out).1
      have hd := HD.out
      have sz := H2.out.sz
      refine ⟨⟨f.b0.os.trans (H2.out.b0.os.trans b1.os), f.b0.tape.trans (H2.out.b0.tape.trans b1.tape), f.b0.output.trans (H2.out.b0.output.trans b1.output), Nat.le_trans b1.size (Nat.le_trans H2.out.sz f.size), fun k hk => (f.at' k (by have := b1.size; omega) (by omega)).trans ((H2.out.at' k (by omega)).trans (b1.block k hk))⟩, (f.at' D dl (by omega)).trans HM.out⟩
    clear h1 h2 hM hD hs ht hS
    have HCC : Hid (∀ X : World, Sf2 (w.heap.size + 1) s t U X → X.cell? ⟨w.heap.size + 1, 0, none⟩ = some (.int .i64 s) ∧ X.cell? ⟨w.heap.size + 1 + 1, 0, none⟩ = some (.int .i64 t) ∧ X.frozen? ⟨w.heap.size + 1, 0, none⟩ = false ∧ X.frozen? ⟨w.heap.size + 1 + 1, 0, none⟩ = false) := Lib.hid fun X h => by
      refine ⟨?_, ?_, ?_, ?_⟩
      · rw [cell_of_row _ _ _ _ _ _ h.s1]; rfl
      · rw [cell_of_row _ _ _ _ _ _ h.s2]; rfl
      · have := h.s1; simp [World.frozen?, this]
      · have := h.s2; simp [World.frozen?, this]
    have S0 : Hid (Sf2 (w.heap.size + 1) s t U U.drew) := Lib.hid ⟨⟨(Below.refl 0 U).drew, fun _ _ _ => rfl⟩, H2.out.s1, H2.out.s2⟩
    go_wp2_with fail
    refine wp_region_held_drew (S := Sf2 (w.heap.size + 1) s t U) (by kernel_rfl) S0.out (fun hH => ?_)
    refine wpAnyH_take (i := 0) (v := .int .i64 s) rfl (by kernel_rfl) (by kernel_rfl) (by kernel_rfl) (fun _ _ _ h => h) (.inl ⟨by rfl, ?_⟩) (by assumption) ?_
    · intro W hW; obtain ⟨c1, c2, f1, f2⟩ := HCC.out W hW; go_simp
    try simp only [List.getElem_toArray, List.getElem_cons_zero, Act.put, List.setIfInBounds_toArray, List.set_cons_zero, List.set_cons_succ]
    refine wpAnyH_take (i := 1) (v := .int .i64 t) rfl (by kernel_rfl) (by kernel_rfl) (by kernel_rfl) (fun _ _ _ h => h) (.inl ⟨by rfl, ?_⟩) (by assumption) ?_
    · intro W hW; obtain ⟨c1, c2, f1, f2⟩ := HCC.out W hW; go_simp
    try simp only [List.getElem_toArray, List.getElem_cons_zero, List.getElem_cons_succ, Act.put, List.setIfInBounds_toArray, List.set_cons_zero, List.set_cons_succ]
    refine wpAnyH_ready (rs := [2]) (by decide +kernel) (by simp) (AllReadyH.cons rfl (fun KQ hK => ?_) AllReadyH.nil)
    obtain ⟨c1, c2, f1, f2⟩ := HCC.out _ hH
    obtain ⟨d1, d2, i1, i2⟩ := HCC.out _ S0.out
    have d1 : U.cell? ⟨w.heap.size + 1, 0, none⟩ = some (.int .i64 s) := d1
    have d2 : U.cell? ⟨w.heap.size + 1 + 1, 0, none⟩ = some (.int .i64 t) := d2
    have i1 : U.frozen? ⟨w.heap.size + 1, 0, none⟩ = false := i1
    have i2 : U.frozen? ⟨w.heap.size + 1 + 1, 0, none⟩ = false := i2
    go_simp
    have hH := hH.put1
    refine hK.out _ _ hH (fun _ => ?_)
    clear hK c1 c2 f1 f2 d1 d2 i1 i2
    try simp only [List.setIfInBounds_toArray, List.set_cons_zero, List.set_cons_succ]
    refine wpAnyH_ready (rs := [3]) (by decide +kernel) (by simp) (AllReadyH.cons rfl (fun KQ hK => ?_) AllReadyH.nil)
    obtain ⟨c1, c2, f1, f2⟩ := HCC.out _ hH
    obtain ⟨d1, d2, i1, i2⟩ := HCC.out _ S0.out
    have d1 : U.cell? ⟨w.heap.size + 1, 0, none⟩ = some (.int .i64 s) := d1
    have d2 : U.cell? ⟨w.heap.size + 1 + 1, 0, none⟩ = some (.int .i64 t) := d2
    have i1 : U.frozen? ⟨w.heap.size + 1, 0, none⟩ = false := i1
    have i2 : U.frozen? ⟨w.heap.size + 1 + 1, 0, none⟩ = false := i2
    go_simp
    have hH := hH.put2
    refine hK.out _ _ hH (fun _ => ?_)
    clear hK c1 c2 f1 f2 d1 d2 i1 i2
    try simp only [List.setIfInBounds_toArray, List.set_cons_zero, List.set_cons_succ]
    refine wpAnyH_done (by decide +kernel) ?_ _
    obtain ⟨c1, c2, _, _⟩ := HCC.out _ hH
    have HF := Lib.hid hH
    clear hH
    go_wp2_with fail
    obtain ⟨b1, b2⟩ := SS.out _ HF.out.fr
    have hd := HD.out
    refine ret_marks [D] rfl (by simp) (fun E hE => by rw [List.mem_singleton.1 hE]; exact b2) (ret_two rfl _ _ (w.heap.size + 1) (w.heap.size + 1 + 1) s t rfl rfl ?_ ?_) ⟨by rw [HS.out, HT'.out], unmark_below [D] _ _ _ (fun E hE => by rw [List.mem_singleton.1 hE]; omega) b1.size b1⟩
    · exact (cell_of_row _ _ _ _ _ _ ((unmark_other [D] _ (w.heap.size + 1) (by simp; omega)).trans HF.out.s1)).trans rfl
    · exact (cell_of_row _ _ _ _ _ _ ((unmark_other [D] _ (w.heap.size + 1 + 1) (by simp; omega)).trans HF.out.s2)).trans rfl
end
end Go.Proofs.Ytdcjgcjnfcahkaa
/- Lists of structs and the library's search, insert, delete: plain facts, whatever the struct; no program's function, no program's type. -/
namespace Go.Proofs.Ytdcjgcjnfcahkaa
open Go.RowKit Go.Shelf
set_option linter.unusedVariables false
set_option linter.unusedSimpArgs false

section
variable {α : Type} {E : Elt α}
/-- Where the first one is that meets a test; -1. -/
def gidx (p : α → Bool) (l : List α) : Int := match l.findIdx? p with | some k => (k : Int) | none => -1
theorem gidx_hit {p : α → Bool} {l : List α} {k : Nat} {x : α} (hx : l[k]? = some x) (hp : p x = true) (hn : ∀ (j : Nat) (y : α), j < k → l[j]? = some y → p y = false) : l.findIdx? p = some k := by
  obtain ⟨hk, rfl⟩ := List.getElem?_eq_some_iff.1 hx
  refine List.findIdx?_eq_some_iff_getElem.2 ⟨hk, hp, fun j hj => ?_⟩
  rw [hn j _ hj (List.getElem?_eq_getElem _)]
  decide
theorem gidx_miss {p : α → Bool} {l : List α} (hn : ∀ (j : Nat) (y : α), l[j]? = some y → p y = false) : l.findIdx? p = none := by
  refine List.findIdx?_eq_none_iff.2 fun y hy => ?_
  obtain ⟨j, hj⟩ := List.getElem?_of_mem hy
  exact hn j y hj
theorem gidx_cases (p : α → Bool) (l : List α) : (gidx p l = -1 ∧ ∀ y, y ∈ l → p y = false) ∨ ∃ (k : Nat) (x : α), gidx p l = k ∧ k < l.length ∧ l[k]? = some x ∧ p x = true ∧ ∀ (j : Nat) (y : α), j < k → l[j]? = some y → p y = false := by
  unfold gidx
  cases e : l.findIdx? p with
  | none => exact .inl ⟨rfl, List.findIdx?_eq_none_iff.1 e⟩
  | some k =>
    obtain ⟨hk, hp, hn⟩ := List.findIdx?_eq_some_iff_getElem.1 e
    refine .inr ⟨k, l[k], rfl, hk, List.getElem?_eq_getElem hk, hp, fun j y hj hy => ?_⟩
    obtain ⟨hj', rfl⟩ := List.getElem?_eq_some_iff.1 hy
    have := hn j hj
    simpa using this
/-- A test of a struct, told by a function value: it may lay blocks of its own. -/
def GTests (P : Program) (E : Elt α) (ok : α → Prop) (g : Nat) (lb : Array Value) (p : α → Bool) (w : World) : Prop :=
  ∀ (W : World) (x : α), Below w.heap.size w W → ok x → Calls P g (#[.agg (E.cells x).toArray] ++ lb) W fun e w' => e = .returned (.bool (p x)) ∧ Below W.heap.size W w'
theorem gins_len {l : List α} {x : α} {i n : Nat} (hl : l.length = n) (hi : i ≤ n) : (l.take i ++ x :: l.drop i).length = n + 1 := by
  rw [List.length_append, List.length_cons, List.length_take, List.length_drop, hl, Nat.min_eq_left hi]; omega
theorem gl_take {l : List α} {n i : Nat} (hl : l.length = n) (hi : i ≤ n) : (E.flat (l.take i)).length = i * E.N := by
  rw [gflat_len, List.length_take, hl, Nat.min_eq_left hi]
theorem gl_drop {l : List α} {n i : Nat} (hl : l.length = n) : (E.flat (l.drop i)).length = n * E.N - i * E.N := by
  rw [gflat_len, List.length_drop, hl, Nat.sub_mul]
/-- A row behind two copies: what stood from a place on is moved by one, and one is laid there. -/
theorem grow_ins {L : List Value} {l : List α} {x : α} {i n : Nat} (hl : l.length = n) (hi : i ≤ n) (hL : L.take (i * E.N) = E.flat (l.take i)) (hZ : (n + 1) * E.N ≤ L.length) :
    ((splice (splice L ((i + 1) * E.N) (E.flat (l.drop i))) (i * E.N) (E.cells x))).take ((n + 1) * E.N) = E.flat (l.take i ++ x :: l.drop i) ∧ (splice (splice L ((i + 1) * E.N) (E.flat (l.drop i))) (i * E.N) (E.cells x)).length = L.length := by
  have h1 := gl_drop (E := E) (i := i) hl
  have h3 := gl_take (E := E) hl hi
  have h2 := E.len x
  have hm := Nat.mul_le_mul_right E.N hi
  rw [Nat.succ_mul] at hZ ⊢
  rw [Nat.succ_mul]
  generalize i * E.N = a at *
  generalize n * E.N = b at *
  generalize E.N = M at *
  have l1 : (splice L (a + M) (E.flat (l.drop i))).length = L.length := length_splice _ _ _ (by rw [h1]; omega)
  refine ⟨?_, by rw [length_splice _ _ _ (by rw [l1, h2]; omega), l1]⟩
  have e1 : (splice L (a + M) (E.flat (l.drop i))).take a = E.flat (l.take i) := by
    unfold splice
    rw [List.take_append_of_le_length (by rw [List.length_take]; omega), List.take_take, Nat.min_eq_left (by omega), hL]
  have e2 : (splice L (a + M) (E.flat (l.drop i))).drop (a + M) = E.flat (l.drop i) ++ L.drop (a + M + (b - a)) := by
    unfold splice
    rw [List.drop_append_of_le_length (by rw [List.length_take]; omega), List.drop_take, show a + M - (a + M) = 0 by omega, List.take_zero, List.nil_append, h1]
  have e3 : splice (splice L (a + M) (E.flat (l.drop i))) a (E.cells x) = E.flat (l.take i) ++ (E.cells x ++ (E.flat (l.drop i) ++ L.drop (a + M + (b - a)))) := by
    rw [splice, e1, h2, e2]
  have e4 : E.flat (l.take i ++ x :: l.drop i) = E.flat (l.take i) ++ (E.cells x ++ E.flat (l.drop i)) := by rw [gflat_app, gflat_cons]
  rw [e3, e4, ← List.append_assoc (E.cells x), ← List.append_assoc (E.flat _)]
  rw [List.take_append_of_le_length (by rw [List.length_append, List.length_append, h1, h2, h3]; omega)]
  exact List.take_of_length_le (by rw [List.length_append, List.length_append, h1, h2, h3]; omega)
theorem grow_ins2 {L : List Value} {l : List α} {x : α} {i n : Nat} (hl : l.length = n) (hi : i ≤ n) (hL : L.take (i * E.N) = E.flat (l.take i)) (hZ : (n + 1) * E.N ≤ L.length) :
    (splice (splice L (i * E.N) (E.cells x)) ((i + 1) * E.N) (E.flat (l.drop i))).take ((n + 1) * E.N) = E.flat (l.take i ++ x :: l.drop i) ∧ (splice (splice L (i * E.N) (E.cells x)) ((i + 1) * E.N) (E.flat (l.drop i))).length = L.length := by
  have h1 := gl_drop (E := E) (i := i) hl
  have h3 := gl_take (E := E) hl hi
  have h2 := E.len x
  have hm := Nat.mul_le_mul_right E.N hi
  rw [Nat.succ_mul] at hZ ⊢
  rw [Nat.succ_mul]
  generalize i * E.N = a at *
  generalize n * E.N = b at *
  generalize E.N = M at *
  have l1 : (splice L a (E.cells x)).length = L.length := length_splice _ _ _ (by rw [h2]; omega)
  refine ⟨?_, by rw [length_splice _ _ _ (by rw [l1, h1]; omega), l1]⟩
  have e1 : (splice L a (E.cells x)).take (a + M) = E.flat (l.take i) ++ E.cells x := by
    rw [splice, hL, ← List.append_assoc, List.take_append_of_le_length (by rw [List.length_append, h2, h3]; omega)]
    exact List.take_of_length_le (by rw [List.length_append, h2, h3]; omega)
  have e4 : E.flat (l.take i ++ x :: l.drop i) = E.flat (l.take i) ++ (E.cells x ++ E.flat (l.drop i)) := by rw [gflat_app, gflat_cons]
  have e5 : splice (splice L a (E.cells x)) (a + M) (E.flat (l.drop i)) = (splice L a (E.cells x)).take (a + M) ++ (E.flat (l.drop i) ++ (splice L a (E.cells x)).drop (a + M + (E.flat (l.drop i)).length)) := rfl
  rw [e5, e1, e4, ← List.append_assoc, ← List.append_assoc (E.flat (l.take i)), List.take_append_of_le_length (by rw [List.length_append, List.length_append, h1, h2, h3]; omega)]
  exact List.take_of_length_le (by rw [List.length_append, List.length_append, h1, h2, h3]; omega)
/-- A row behind a delete: what stood behind a place is moved to it, and the last one is made noughts. -/
theorem grow_del {L : List Value} {l : List α} {i n : Nat} {Z : List Value} (hl : l.length = n + 1) (hi : i ≤ n) (hL : L.take ((n + 1) * E.N) = E.flat l) (hZ : (n + 1) * E.N ≤ L.length) (hz : Z.length = E.N) :
    (splice (splice L (i * E.N) (E.flat (l.drop (i + 1)))) (n * E.N) Z).take (n * E.N) = E.flat (l.eraseIdx i) ∧ (splice (splice L (i * E.N) (E.flat (l.drop (i + 1)))) (n * E.N) Z).length = L.length := by
  have h1 := gl_drop (E := E) (i := i + 1) hl
  have h3 := gl_take (E := E) hl (Nat.le_succ_of_le hi)
  have hm := Nat.mul_le_mul_right E.N hi
  have hA : L.take (i * E.N) = E.flat (l.take i) := by
    have := congrArg (List.take (i * E.N)) hL
    rw [List.take_take, gflat_take, Nat.min_eq_left (Nat.mul_le_mul_right E.N (Nat.le_succ_of_le hi))] at this
    exact this
  rw [Nat.succ_mul, Nat.succ_mul] at h1
  rw [Nat.succ_mul] at hZ
  generalize i * E.N = a at *
  generalize n * E.N = b at *
  generalize E.N = M at *
  have l1 : (splice L a (E.flat (l.drop (i + 1)))).length = L.length := length_splice _ _ _ (by rw [h1]; omega)
  refine ⟨?_, by rw [length_splice _ _ _ (by rw [l1, hz]; omega), l1]⟩
  rw [List.eraseIdx_eq_take_drop_succ, gflat_app, splice, List.take_append_of_le_length (by rw [List.length_take, l1]; omega), List.take_take, Nat.min_self, splice, hA, ← List.append_assoc, List.take_append_of_le_length (by rw [List.length_append, h1, h3]; omega)]
  exact List.take_of_length_le (by rw [List.length_append, h1, h3]; omega)
end
section
variable {α : Type} {E : Elt α} {P : Program} {ts te : TypeId}
/-- copy, into a row. -/
theorem grun_copy (T : EltT P E ts te) (w : World) (ty : TypeId) (g o dLen dCap : Nat) (a : Addr) (sLen sCap m : Nat) (cur : Array Value) (cs : List Value) (hg : w.heap[g]? = some (.cells cur te (0, 0))) (hm : Nat.min sLen dLen = m) (hn : cs.length = m * E.N)
    (hsrc : ∀ j v, cs[j]? = some v → w.cell? (a.add j) = some v) (hfit : o + cs.length ≤ cur.size) (h1 : ∀ v ∈ cs, v.oneCell' = true) :
    (Builtin.copy_ #[ts, ts] ty #[.slice (some ⟨g, o, none⟩) dLen dCap, .slice (some a) sLen sCap]).run P w = .ok (goInt m) (w.setRow g (splice cur.toList o cs).toArray) := by
  have hl := run_loadCells_list (P := P) w a cs hsrc
  have hst := run_storeCells_at P g o te cs 0 cur w hg (by simpa using hfit) h1
  obtain ⟨z, by', hi, _, _⟩ := T.info
  obtain ⟨i0, hi0, _, hz1, _⟩ := info_parts hi
  rw [splice, ← List.append_assoc]
  simp [Builtin.copy_, run_underlying T.und, Builtin.lenOf, Builtin.firstCells, sizeOf, typeInfo, hi0, hz1, hm, ← hn, hl, hst]
theorem gstep_copy {ops : Array Oper} {o : Oper} {a : Act} {w : World} {K : Act → World → Prop} {Q : Exit → Act → World → Prop} {X : Prop}
    (hg : o.guard = none) (d x : Operand) (dT sT : TypeId) (hop : o.op = Op.call { callee := Callee.builtin Builtin.copy, args := #[d, x], argTypes := #[dT, sT] })
    (v u : Value) (hd : a.eval d = v) (hx : a.eval x = u) {v' : Value} {w' : World} (hr : (Builtin.copy_ #[dT, sT] o.type #[v, u]).run P w = .ok v' w') (hK : K (a.put o.dst v') w') :
    if Region.wanted o (yielded ops a.tmps) = true then Oper.wp P o a w K Q else X := by
  have hw : Region.wanted o (yielded ops a.tmps) = true := by simp [Region.wanted, hg]
  rw [if_pos hw]
  unfold Oper.wp
  simp [execOp, hop, resolve, invoke, builtin, hd, hx, hr, Result.andThen]
  exact hK
theorem gwl_copy (w : World) {ops : Array Oper} {rest : List Oper} {o : Oper} {a : Act} {Q : Exit → Act → World → Prop} (hgd : o.guard = none) (d s : Operand) (t t' : TypeId)
    (ho : o.op = .call { callee := .builtin .copy, args := #[d, s], argTypes := #[t, t'] }) (v u : Value) (hd : a.eval d = v) (hs : a.eval s = u) {v' : Value} {w' : World}
    (hr : (Builtin.copy_ #[t, t'] o.type #[v, u]).run P w = .ok v' w') (h : wpList P ops Q rest (a.put o.dst v') w') : wpList P ops Q (o :: rest) a w :=
  wpList_plain hgd fun K hK => by
    unfold Oper.wp execOp
    simp only [ho, resolve, invoke, builtin, Sem.run_bind, Sem.run_pure, Result.andThen_ok, List.map_toArray, List.map_cons, List.map_nil, hd, hs, hr]
    exact hK _ _ h
/-- append upon a row that has room. -/
theorem grun_room (T : EltT P E ts te) (w : World) (ty : TypeId) (g sLen sCap : Nat) (cur : Array Value) (hg : w.heap[g]? = some (.cells cur te (0, 0))) (a : Addr) (m c : Nat) (news : List Value) (hl : news.length = m * E.N) (hnews : ∀ j u, news[j]? = some u → w.cell? (a.add j) = some u)
    (h1 : ∀ u ∈ news, u.oneCell' = true) (hroom : sLen + m ≤ sCap) (hfit : sLen * E.N + news.length ≤ cur.size) :
    (Builtin.append_ #[ts, ts] ty #[.slice (some ⟨g, 0, none⟩) sLen sCap, .slice (some a) m c]).run P w = .ok (.slice (some ⟨g, 0, none⟩) (sLen + m) sCap) (w.setRow g (splice cur.toList (sLen * E.N) news).toArray) := by
  obtain ⟨z, by', hi, _, _⟩ := T.info
  obtain ⟨i0, hi0, _, hz1, _⟩ := info_parts hi
  have := run_append_room (P := P) w ts ty te i0 T.und hi0 g sLen sCap cur hg a m c news (by rw [hz1]; exact hl) hnews h1 hroom (by rw [hz1]; exact hfit)
  rw [this, splice, hz1, ← List.append_assoc]
theorem gstep_append {ops : Array Oper} {o : Oper} {a : Act} {w : World} {K : Act → World → Prop} {Q : Exit → Act → World → Prop} {X : Prop}
    (hg : o.guard = none) (d x : Operand) (dT sT : TypeId) (hop : o.op = Op.call { callee := Callee.builtin Builtin.append, args := #[d, x], argTypes := #[dT, sT] })
    (v u : Value) (hd : a.eval d = v) (hx : a.eval x = u) {v' : Value} {w' : World} (hr : (Builtin.append_ #[dT, sT] o.type #[v, u]).run P w = .ok v' w') (hK : K (a.put o.dst v') w') :
    if Region.wanted o (yielded ops a.tmps) = true then Oper.wp P o a w K Q else X := by
  have hw : Region.wanted o (yielded ops a.tmps) = true := by simp [Region.wanted, hg]
  rw [if_pos hw]
  unfold Oper.wp
  simp [execOp, hop, resolve, invoke, builtin, hd, hx, hr, Result.andThen]
  exact hK
/-- clear, of a part of a row. -/
theorem grun_clear (T : EltT P E ts te) (w : World) (ty : TypeId) {z : Value} (hv : ∀ w, (zeroValue te).run P w = .ok z w) (hz : z.cells.size = E.N) (hz1 : ∀ u ∈ z.cells.toList, u.oneCell' = true) (g o n c : Nat) (cur : Array Value) (hg : w.heap[g]? = some (.cells cur te (0, 0))) (hn : 0 < n) (hfit : o + n * E.N ≤ cur.size) :
    (Builtin.clear_ #[ts] ty #[.slice (some ⟨g, o, none⟩) n c]).run P w = .ok (.tuple #[]) (w.setRow g (splice cur.toList o (Builtin.zeroCells z.cells n).toList).toArray) := by
  have hlen : (Builtin.zeroCells z.cells n).toList.length = n * E.N := by rw [Array.length_toList, size_zeroCells, hz]
  have h1 : ∀ u ∈ (Builtin.zeroCells z.cells n).toList, u.oneCell' = true := by
    intro u hu
    simp only [Builtin.zeroCells, Array.toList_map, List.mem_map] at hu
    obtain ⟨i, _, rfl⟩ := hu
    have hp : i % z.cells.size < z.cells.size := Nat.mod_lt _ (by rw [hz]; exact E.pos)
    rw [getElem!_pos z.cells _ hp]
    exact hz1 _ (by simp)
  have hst := run_storeCells_at P g o te _ 0 cur w hg (by rw [hlen]; simpa using hfit) h1
  obtain ⟨m, rfl⟩ : ∃ m, n = m + 1 := ⟨n - 1, by omega⟩
  rw [splice, ← List.append_assoc]
  simp only [Nat.add_zero] at hst
  simp [Builtin.clear_, run_underlying T.und, hv, hst]
theorem gwl_clear (w : World) {ops : Array Oper} {rest : List Oper} {o : Oper} {a : Act} {Q : Exit → Act → World → Prop} (hgd : o.guard = none) (s : Operand) (t : TypeId)
    (ho : o.op = .call { callee := .builtin .clear, args := #[s], argTypes := #[t] }) (v : Value) (hs : a.eval s = v) {v' : Value} {w' : World}
    (hr : (Builtin.clear_ #[t] o.type #[v]).run P w = .ok v' w') (h : wpList P ops Q rest (a.put o.dst v') w') : wpList P ops Q (o :: rest) a w :=
  wpList_plain hgd fun K hK => by
    unfold Oper.wp execOp
    simp only [ho, resolve, invoke, builtin, Sem.run_bind, Sem.run_pure, Result.andThen_ok, List.map_toArray, List.map_cons, List.map_nil, hs, hr]
    exact hK _ _ h
end
end Go.Proofs.Ytdcjgcjnfcahkaa
/- The program's side in memory: orders that stand, with how many had come. -/
namespace Go.Proofs.Ytdcjgcjnfcahkaa
open Go.RowKit
set_option linter.unusedVariables false

/-- An order that stands. -/
structure St where
  o : Or
  cm : Int
structure St.ok (x : St) : Prop where
  o : x.o.ok
  cm : 0 ≤ x.cm ∧ x.cm ≤ 18446744073709551615
def St.cells (x : St) : List Value := [.int .u64 x.o.nu, .int .u32 x.o.ac, .bool x.o.bu, .int .i64 x.o.pr, .int .i64 x.o.le, .int .u64 x.cm]
def ESt : Elt St := ⟨St.cells, 6, by decide, fun _ => rfl, fun x u hu => by
  simp only [St.cells, List.mem_cons, List.not_mem_nil, or_false] at hu
  rcases hu with rfl | rfl | rfl | rfl | rfl | rfl <;> rfl⟩
def zeroSt : St := ⟨zeroOr, 0⟩
theorem zeroSt_ok : zeroSt.ok := ⟨zeroOr_ok, by decide⟩
theorem TSt : EltT Try.prog ESt 83 88 := ⟨Try.underlying83, ⟨_, Try.underlying88⟩, ⟨.agg (ESt.cells zeroSt).toArray, 40, by kernel_rfl, rfl, by decide⟩⟩
theorem zero_st (w : World) : (zeroValue 88).run Try.prog w = .ok (.agg (ESt.cells zeroSt).toArray) w := by kernel_rfl
def osOf (l : List St) : List Or := l.map (·.o)
/-- a stands ahead of b. -/
def ahB (buy : Bool) (a b : St) : Bool := if a.o.pr = b.o.pr then decide (a.cm < b.cm) else btr buy a.o.pr b.o.pr
theorem ahB_irr (buy : Bool) (a : St) : ahB buy a a = false := by simp [ahB]
theorem ahB_as {buy : Bool} {a b : St} (h : ahB buy a b = true) : ahB buy b a = false := by
  unfold ahB at h ⊢
  split at h
  · rename_i e
    rw [if_pos e.symm]
    have := of_decide_eq_true h
    exact decide_eq_false (by omega)
  · rename_i e
    rw [if_neg (fun c => e c.symm)]
    exact btr_as h
/-- The program's side at block g: whether it buys, how many have come, a row of those that stand, in their order. -/
structure Ds (W : World) (g : Nat) (v : Value) (buy : Bool) (c : Int) (l : List St) : Prop where
  blk : W.heap[g]? = some (.cells #[.bool true, .bool buy, .int .u64 c, v] 85 (0, 0))
  own : ESt.Own 88 W 0 v l
  inv : InvO buy (osOf l)
  cm : ∀ x, x ∈ l → 0 ≤ x.cm ∧ x.cm ≤ c
  asc : l.Pairwise fun x y => ahB buy x y = true
  nn : 0 ≤ c ∧ c ≤ 18446744073709551615
/-- Its blocks. -/
def DsS (g : Nat) (v : Value) (k : Nat) : Prop := k = g ∨ v.ownBlock = some k
section
variable {W W' : World} {g : Nat} {v : Value} {buy : Bool} {c : Int} {l : List St}
theorem Ds.c0 (h : Ds W g v buy c l) : W.cell? ⟨g, 0, none⟩ = some (.bool true) := by rw [cell_of_row _ _ _ _ _ _ h.blk]; rfl
theorem Ds.c1 (h : Ds W g v buy c l) : W.cell? ⟨g, 1, none⟩ = some (.bool buy) := by rw [cell_of_row _ _ _ _ _ _ h.blk]; rfl
theorem Ds.c2 (h : Ds W g v buy c l) : W.cell? ⟨g, 2, none⟩ = some (.int .u64 c) := by rw [cell_of_row _ _ _ _ _ _ h.blk]; rfl
theorem Ds.c3 (h : Ds W g v buy c l) : W.cell? ⟨g, 3, none⟩ = some v := by rw [cell_of_row _ _ _ _ _ _ h.blk]; rfl
theorem Ds.fz (h : Ds W g v buy c l) (j : Nat) : W.frozen? ⟨g, j, none⟩ = false := by simp [World.frozen?, h.blk]
theorem Ds.gl (h : Ds W g v buy c l) : g < W.heap.size := (Array.getElem?_eq_some_iff.1 h.blk).1
theorem Ds.vl (h : Ds W g v buy c l) (k : Nat) (hk : v.ownBlock = some k) : k < W.heap.size := (gown_lt h.own hk).2
theorem Ds.sl (h : Ds W g v buy c l) {k : Nat} (hk : DsS g v k) : k < W.heap.size := hk.elim (fun e => e ▸ h.gl) (h.vl k)
theorem Ds.le (h : Ds W g v buy c l) : l.length ≤ 100 := by have := h.inv.len; rwa [osOf, List.length_map] at this
theorem Ds.ok (h : Ds W g v buy c l) (x : St) (hx : x ∈ l) : x.ok := ⟨h.inv.ok _ (List.mem_map.2 ⟨x, hx, rfl⟩), by have := h.cm x hx; have := h.nn; omega⟩
theorem Ds.keep {S : Nat → Prop} (h : Ds W g v buy c l) (f : Fr S W W') (hS : ∀ k, DsS g v k → ¬ S k) : Ds W' g v buy c l :=
  ⟨(f.at' g h.gl (hS g (.inl rfl))).trans h.blk, gown_fr h.own f (fun k hk => hS k (.inr hk)), h.inv, h.cm, h.asc, h.nn⟩
theorem Ds.below (h : Ds W g v buy c l) (q : Below W.heap.size W W') : Ds W' g v buy c l := h.keep (S := fun _ => False) (Fr.below q) (fun _ _ h => h)
theorem Ds.same (h : Ds W g v buy c l) (hb : ∀ k, DsS g v k → (∃ c t f, W.heap[k]? = some (.cells c t f)) → W'.heap[k]? = W.heap[k]?) : Ds W' g v buy c l :=
  ⟨(hb g (.inl rfl) ⟨_, _, _, h.blk⟩).trans h.blk, gown_same h.own (fun k hk => hb k (.inr hk) (by obtain ⟨cur, e⟩ := gown_cells h.own hk; exact ⟨_, _, _, e⟩)), h.inv, h.cm, h.asc, h.nn⟩
/-- The row is another block than the side: their types differ. -/
theorem Ds.apart (h : Ds W g v buy c l) (k : Nat) (hk : v.ownBlock = some k) : k ≠ g := by
  rintro rfl
  obtain ⟨cur, e⟩ := gown_cells h.own hk
  rw [h.blk] at e
  injection e with e
  injection e with _ e
  exact absurd e (by decide)
theorem Ds.form (h : Ds W g v buy c l) : ∃ A cp, v = .slice A l.length cp ∧ (A = none → cp = 0) := gown_form h.own
theorem Ds.slot (h : Ds W g v buy c l) (hk : 0 < l.length) : ∃ b cp, v = .slice (some ⟨b, 0, none⟩) l.length cp := gown_slot h.own hk
end
/-- An order is the beginning of one that stands. -/
theorem st_or {w : World} {b o : Nat} {x : St} (h : w.rangeAt b o (ESt.cells x)) : w.rangeAt b o (EO.cells x.o) := fun j u hj => h j u (by
  have hl := (List.getElem?_eq_some_iff.1 hj).1
  rw [EO.len] at hl
  have : j < 5 := hl
  rw [← hj]
  match j, this with
  | 0, _ => rfl
  | 1, _ => rfl
  | 2, _ => rfl
  | 3, _ => rfl
  | 4, _ => rfl)
theorem st_cell {w : World} {b o : Nat} {x : St} (h : w.rangeAt b o (ESt.cells x)) (j : Nat) (hj : j < 6) : w.cell? ⟨b, o + j, none⟩ = (ESt.cells x)[j]? := by
  have hl : j < (ESt.cells x).length := by rw [ESt.len]; exact hj
  rw [h j _ (List.getElem?_eq_getElem hl), List.getElem?_eq_getElem hl]
end Go.Proofs.Ytdcjgcjnfcahkaa
