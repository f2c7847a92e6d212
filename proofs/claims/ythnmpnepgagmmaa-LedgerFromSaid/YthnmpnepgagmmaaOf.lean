/- The statements' 'same' of stage 9 (by genOf.py). -/
import Derived.Test.YthnmpnepgagmmaaOe
import Derived.Test.YthnmpnepgagmmaaMn
import Derived.Test.YthnmpnepgagmmaaMe
namespace Go.Proofs.Ythnmpnepgagmmaa
open Go.RowKit Go.Shelf
set_option linter.unusedVariables false
set_option linter.unusedSimpArgs false

theorem four_objE (w : World) (c d e f : Array Value) (s t u v : TypeId) : ∃ W2, (((w.alloc (.cells c s)).alloc (.cells d t)).alloc (.cells e u)).alloc (.cells f v) = W2 ∧ Below w.heap.size w W2 ∧ W2.heap[w.heap.size]? = some (.cells c s (0, 0)) ∧ W2.heap[w.heap.size + 1]? = some (.cells d t (0, 0)) ∧ W2.heap[w.heap.size + 2]? = some (.cells e u (0, 0)) ∧ W2.heap[w.heap.size + 3]? = some (.cells f v (0, 0)) ∧ W2.heap.size = w.heap.size + 4 := by
  obtain ⟨W1, h1, b1, e1, e2⟩ := two_objE w c d s t
  obtain ⟨W2, h2, b2, e3, e4⟩ := two_objE W1 e f u v
  have s1 : W1.heap.size = w.heap.size + 2 := by rw [← h1]; simp
  have s2 : W2.heap.size = W1.heap.size + 2 := by rw [← h2]; simp
  rw [s1] at e3 e4
  refine ⟨W2, by rw [h1, h2], b1.trans (b2.mono b1.size), (b2.block _ (by omega)).trans e1, (b2.block _ (by omega)).trans e2, e3, e4, by omega⟩
/-- At the end: one cell may turn. -/
structure SfE (W : World) (R : Nat) (U : World) : Prop where
  fr : Fr (fun k => k = R ∨ W.heap.size ≤ k) W U
  r : ∃ b, U.heap[R]? = some (.cells #[.bool b] 4 (0, 0))
section
variable {W U U' : World} {R : Nat}
theorem SfE.cell (h : SfE W R U) {k j : Nat} {u : Value} (hk : k < W.heap.size) (hn : k ≠ R) (e : W.cell? ⟨k, j, none⟩ = some u) : U.cell? ⟨k, j, none⟩ = some u := by
  rw [← e]; exact World.cell?_of_block (h.fr.at' k hk (by omega))
theorem SfE.grow (h : SfE W R U) (q : Below U.heap.size U U') (hR : R < W.heap.size) : SfE W R U' :=
  ⟨h.fr.trans (Fr.below (S := fun _ => False) q) (fun _ h => h) (fun _ _ h => h.elim), h.r.imp fun b e => (q.block R (Nat.lt_of_lt_of_le hR h.fr.size)).trans e⟩
theorem SfE.put (h : SfE W R U) (b : Bool) : SfE W R (U.setCell ⟨R, 0, none⟩ (.bool b)) := by
  obtain ⟨c, e⟩ := h.r
  exact ⟨h.fr.trans (Fr.set (S := fun k => k = R) (p := ⟨R, 0, none⟩) rfl _) (fun _ h => h) (fun _ _ h => .inl h), b, heap_setCell_same U R 0 _ _ (.bool b) e⟩
end
/-- A round's own counter. -/
theorem below_iw {w W0 W : World} {N : Nat} {o : Obj} (b : Below w.heap.size w W0) (h : Iw9 W0 N o W) (hN : w.heap.size ≤ N) : Below w.heap.size w W :=
  below_frE b h.fr (fun k hk cc => by have := b.size; rcases cc with c | c <;> omega)
set_option maxRecDepth 100000 in
set_option maxHeartbeats 16000000 in
theorem same9 {w : World} {g ba bp B gr : Nat} {va vh : Value} {L : Lg} (hd : Dl w g ba bp L) (hr : Rl w B gr va vh L) (hl : L.hl.length ≤ 4000) :
    Calls Try.prog 23 #[.pointer (some ⟨g, 0, none⟩), .pointer (some ⟨gr, 0, none⟩)] w fun e w' => e = .returned (.bool true) ∧ Below w.heap.size w w' := by
  obtain ⟨A, cp, hva, hA⟩ := gown_form hr.oa
  obtain ⟨n, hn⟩ : ∃ n, L.al.length = n := ⟨_, rfl⟩
  rw [hn] at hva
  have OA : Hid (EA.Own 33 w B (.slice A n cp) L.al) := Lib.hid (hva ▸ hr.oa)
  have V1 : Hid (∀ W, Below w.heap.size w W → W.cell? ⟨gr, 1, none⟩ = some (.slice A n cp)) := Lib.hid (fun W q => hva ▸ (hr.below q).c1)
  have V0 : Hid (∀ W, Below w.heap.size w W → W.cell? ⟨gr, 0, none⟩ = some (.int .i64 L.fund)) := Lib.hid (fun W q => (hr.below q).c0)
  have OKS : Hid (∀ p, p ∈ L.al → p.ok) := Lib.hid (fun p hp => hok_ac hd.inv hp)
  have OKP : Hid (∀ p, p ∈ L.hl → p.ok) := Lib.hid (fun p hp => hok_po hd.inv hp)
  have LEN : Hid (n ≤ 64) := Lib.hid (by rw [← hn]; exact hd.inv.len)
  have DL : Hid (∀ W, Below w.heap.size w W → Dl W g ba bp L) := Lib.hid (fun W q => hd.below q)
  have RL : Hid (∀ W, Below w.heap.size w W → Rl W B gr va vh L) := Lib.hid (fun W q => hr.below q)
  have LTW : Hid (∀ k, LdS g ba bp k → k < w.heap.size) := Lib.hid (fun k hk => hd.lt hk)
  have LTR : Hid (∀ b, (Value.slice A n cp).ownBlock = some b → b < w.heap.size) := Lib.hid (fun b hb => (gown_lt OA.out hb).2)
  have HL := Lib.hid hl
  have HN := Lib.hid hn
  have EQ := eql_seqPE
  have EQ2 := eql_seqAE
  have hz := zero_po
  have hz2 := zero_ac
  clear hd hr hl hn hva hA
  refine calls_marks Try.func23 rfl ?_
  simp only [Try.ntmps23, List.size_toArray, List.length_cons, List.length_nil, Nat.reduceAdd, Nat.reduceSub, Array.replicate_succ, Array.replicate_zero, List.push_toArray, List.append_toArray, List.nil_append, List.cons_append]
  obtain ⟨W2, hW2, b2, e0, e1, e2, e3, s2⟩ := four_objE w #[.pointer (some ⟨g, 0, none⟩)] #[.pointer (some ⟨gr, 0, none⟩)] #[.bool false] #[.int .i64 0] 23 25 4 3
  have c0 : W2.cell? ⟨w.heap.size, 0, none⟩ = some (.pointer (some ⟨g, 0, none⟩)) := obj_cellE e0
  have c0' := hW2.symm ▸ c0
  have HW2 := Lib.hid hW2
  have B2 := Lib.hid b2
  have E2 := Lib.hid (And.intro e0 (And.intro e1 (And.intro e2 e3)))
  have S2 := Lib.hid s2
  clear hW2 b2 e0 e1 e2 e3 s2
  go_wp2_with fail
  rw [HW2.out]
  refine (laccts9 (DL.out W2 B2.out).lb (DL.out W2 B2.out).ma (DL.out W2 B2.out).inv).mono ?_; rintro e W2' ⟨gf1, lb1, T1, rfl, p1, -, -, -⟩
  have P1 := Lib.hid p1
  have P1W := Lib.hid (B2.out.trans (p1.mono B2.out.size))
  have c1 : W2'.cell? ⟨w.heap.size, 0, none⟩ = some (.pointer (some ⟨g, 0, none⟩)) := cell_below c0 p1 (Nat.le_refl _)
  clear p1 c0'
  go_wp2_with fail
  refine (laccts9 (DL.out W2' P1W.out).lb (DL.out W2' P1W.out).ma (DL.out W2' P1W.out).inv).mono ?_; rintro e W3 ⟨gf, lb, T, rfl, p2, en, hT, tell⟩
  have B3 : Hid (Below W2.heap.size W2 W3) := Lib.hid (P1.out.trans (p2.mono P1.out.size))
  have TL := Lib.hid tell
  have EN := Lib.hid en
  have HT := Lib.hid hT
  have S2' : Hid (W2.heap.size ≤ W2'.heap.size) := Lib.hid P1.out.size
  clear p2 en hT tell P1 c0 c1
  go_wp2_with fail
  refine (wpIn_wide (n := 9)).1 ?_
  have hs2 := S2.out
  have hs3 := B3.out.size
  have hs2' := S2'.out
  have BW3 : Hid (Below w.heap.size w W3) := Lib.hid (B2.out.trans (B3.out.mono B2.out.size))
  have E3 : Hid (W3.heap[w.heap.size]? = some (.cells #[.pointer (some ⟨g, 0, none⟩)] 23 (0, 0)) ∧ W3.heap[w.heap.size + 1]? = some (.cells #[.pointer (some ⟨gr, 0, none⟩)] 25 (0, 0)) ∧ W3.heap[w.heap.size + 2]? = some (.cells #[.bool false] 4 (0, 0)) ∧ W3.heap[w.heap.size + 3]? = some (.cells #[.int .i64 0] 3 (0, 0))) := Lib.hid ⟨(B3.out.block _ (by omega)).trans E2.out.1, (B3.out.block _ (by omega)).trans E2.out.2.1, (B3.out.block _ (by omega)).trans E2.out.2.2.1, (B3.out.block _ (by omega)).trans E2.out.2.2.2⟩
  clear HW2 B2 E2 P1W
  refine range_calmN (S := fun _ k => k = w.heap.size + 3) (N0 := W3.heap.size) (Sd := fun xs => xs = L.al) (Sp := fun pre => pre <+: L.al) (Pr := fun xs => xs <+: L.al) (encs := encA) (by decide) rfl EN.out (Still.const _ _) (Nat.le_refl _)
    (TL.out W3 (fun _ k => k = w.heap.size + 3) 8 W3.heap.size (Fr.refl _ _) (Still.const _ _) (fun k hk => .inl (HT.out k hk).1) (fun k hk => by omega) (fun k hk c => by
      rcases (HT.out k hk).2 with h | h
      · have := LTW.out k (h.imp id .inl); omega
      · omega) (by decide)) (fun _ => rfl)
    (fun pre W => Iw9 W3 (w.heap.size + 3) (.cells #[.int .i64 (pre.length : Int)] 3 (0, 0)) W)
    (fun _ _ _ => False)
    (fun s A C hj b _ => hj.below (by omega) b (Nat.le_refl _))
    (fun _ s A C hj _ _ => hj)
    (Iw9.refl E3.out.2.2.2)
    (fun x a' W => ∃ bx, W3.heap.size ≤ bx ∧ EA.Bx 33 W bx x ∧ ∃ u : Nat → Value, a' = { tmps := #[.pointer (some ⟨g, 0, none⟩), .pointer (some ⟨gr, 0, none⟩), .pointer (some ⟨w.heap.size, 0, none⟩), .pointer (some ⟨w.heap.size + 1, 0, none⟩), .pointer (some ⟨w.heap.size + 2, 0, none⟩), .pointer (some ⟨w.heap.size + 3, 0, none⟩), .pointer (some ⟨bx, 0, none⟩), u 7, u 8, u 9, u 10, u 11, u 12, u 13, u 14, u 15, u 16, u 17, u 18, u 19, u 20, u 21, u 22, u 23, u 24, u 25, u 26, u 27, u 28, u 29, u 30, u 31, u 32, u 33, u 34, u 35, u 36, u 37, u 38, u 39, u 40, u 41, u 42, u 43, u 44, u 45, u 46, u 47, u 48, u 49, u 50, u 51, u 52, u 53, u 54, u 55, u 56, u 57, u 58, u 59, u 60, u 61, u 62, u 63, u 64, u 65, u 66, u 67, u 68, u 69, u 70, u 71, u 72, u 73, u 74, u 75, u 76, u 77, u 78, u 79, u 80, u 81, u 82, u 83, u 84, u 85, u 86, u 87, u 88, u 89, u 90, u 91, u 92, u 93, u 94, u 95, u 96, u 97, u 98, u 99, u 100, u 101, u 102, u 103, u 104, u 105, u 106, u 107], defers := [] })
    (fun x a' W l o o' hx hl ho hc => by
      obtain ⟨bx, h1, h2, h3⟩ := hx
      refine ⟨bx, h1, ?_, h3⟩
      show (W.putObj l o').heap[bx]? = _
      rw [World.putObj_heap_other (fun e => ?_)]
      · exact h2
      · subst e
        rw [show W.heap[bx]? = _ from h2] at ho
        cases ho
        cases hc) ?assign ?body ?done ?stop
  case assign =>
    rintro l pre x W KK h2 _ hK
    have HZ := Lib.hid (gbx_new (E := EA) (te := 33) W zeroAc)
    refine region_in rfl (fun ⟨_, _, h⟩ => h) ?_
    go_wp2_with (refine gwl_store TA x W.heap.size HZ.out rfl rfl ?_)
    have q : Below W.heap.size W ((W.alloc (.cells (EA.cells zeroAc).toArray 33)).setRow W.heap.size (EA.cells x).toArray) := below_row0 (below_new W _) (Nat.le_refl _)
    refine hK _ _ ⟨q.size, fun k o _ hk _ => (q.block k (Array.getElem?_eq_some_iff.1 hk).1).trans hk⟩ (Kn.below (Still.const _ _) (Nat.le_refl _) q) (h2.grow (by omega) q) ⟨W.heap.size, h2.sz, gbx_set HZ.out, intro_uE rfl⟩
  case body =>
    rintro l pre x a' W hlW ⟨rl, hrl⟩ h2 ⟨bx, hb, hbx, u, rfl⟩ hlen
    have hy : L.al[pre.length]? = some x := pre_at hlen
    have hlt : pre.length < n := by rw [← HN.out]; exact (List.getElem?_eq_some_iff.1 hy).1
    obtain ⟨bv, cv, ev⟩ := gown_slot OA.out (by have := HN.out; omega)
    injection ev with e1 e3 e2
    clear e3
    subst e1 e2
    have BW : Hid (Below w.heap.size w W) := Lib.hid (below_iw BW3.out h2 (by omega))
    have XOK := Lib.hid (OKS.out x (List.mem_of_getElem? hy))
    have HBX0 := Lib.hid hbx
    have HBX := Lib.hid (gbx_rng hbx)
    have H2 := Lib.hid h2
    have HRL := Lib.hid hrl
    have hbv : bv < w.heap.size := LTR.out bv rfl
    have cn : W.cell? ⟨w.heap.size + 3, 0, none⟩ = some (.int .i64 (pre.length : Int)) := obj_cellE h2.sm
    have k0 : W.heap[w.heap.size]? = some (.cells #[.pointer (some ⟨g, 0, none⟩)] 23 (0, 0)) := (h2.at' _ (by omega) (by omega)).trans E3.out.1
    have k1 : W.heap[w.heap.size + 1]? = some (.cells #[.pointer (some ⟨gr, 0, none⟩)] 25 (0, 0)) := (h2.at' _ (by omega) (by omega)).trans E3.out.2.1
    have c1 : W.cell? ⟨w.heap.size + 1, 0, none⟩ = some (.pointer (some ⟨gr, 0, none⟩)) := obj_cellE k1
    have K01 := Lib.hid (And.intro k0 k1)
    have ca : W.cell? ⟨gr, 1, none⟩ = some (.slice (some ⟨bv, 0, none⟩) n cp) := V1.out W BW.out
    have RG : Hid (W.rangeAt bv (pre.length * 4) (EA.cells x)) := Lib.hid (gown_rng (gown_below OA.out BW.out) hy)
    have hge : decide ((n : Int) ≤ (pre.length : Int)) = false := decide_eq_false (by omega)
    have hi : (pre.length : Int) < (n : Int) := by omega
    have hw1 : wrap64 ((pre.length : Int) + 1) = (pre.length : Int) + 1 := by have := LEN.out; unfold wrap64; omega
    have PL : Hid (pre ++ [x] <+: L.al) := Lib.hid hlen
    have XM : Hid (x ∈ L.al) := Lib.hid (List.mem_of_getElem? hy)
    clear h2 hbx hy hlen k0 k1 hrl
    obtain ⟨b, hbq⟩ : ∃ b, eqAc9 x x = b := ⟨_, rfl⟩
    refine wpIn_block ?_
    apply wpIn_seq_k; intro KB hKB; have HKB := Lib.hid hKB; clear hKB
    apply wpIn_seq_k; intro KA hKA; have HKA := Lib.hid hKA; clear hKA
    refine region_held_in (S := fun U => U = W.drew) rfl (fun ⟨_, _, h⟩ => h) (by kernel_rfl) rfl (fun hH => ?_)
    refine wpAnyH_take (i := 0) (v := .int .i64 (pre.length : Int)) rfl (by kernel_rfl) (by kernel_rfl) (by kernel_rfl) (fun _ _ _ h => h) (.inl ⟨by rfl, ?_⟩) (by assumption) ?_
    · intro W hW; subst hW; go_simp
    try simp only [List.getElem_toArray, List.getElem_cons_zero, List.getElem_cons_succ, Act.put, List.setIfInBounds_toArray, List.set_cons_zero, List.set_cons_succ]
    refine wpAnyH_take (i := 1) (v := .pointer (some ⟨gr, 0, none⟩)) rfl (by kernel_rfl) (by kernel_rfl) (by kernel_rfl) (fun _ _ _ h => h) (.inl ⟨by rfl, ?_⟩) (by assumption) ?_
    · intro W hW; subst hW; go_simp
    try simp only [List.getElem_toArray, List.getElem_cons_zero, List.getElem_cons_succ, Act.put, List.setIfInBounds_toArray, List.set_cons_zero, List.set_cons_succ]
    refine wpAnyH_take (i := 2) (v := .pointer (some ⟨gr, 0, none⟩)) rfl (by kernel_rfl) (by kernel_rfl) (by kernel_rfl) (fun _ _ _ h => h) (.inl ⟨by rfl, ?_⟩) (by assumption) ?_
    · intro W hW; subst hW; go_simp
    try simp only [List.getElem_toArray, List.getElem_cons_zero, List.getElem_cons_succ, Act.put, List.setIfInBounds_toArray, List.set_cons_zero, List.set_cons_succ]
    refine wpAnyH_take (i := 3) (v := .pointer (some ⟨gr, 1, none⟩)) rfl (by kernel_rfl) (by kernel_rfl) (by kernel_rfl) (fun _ _ _ h => h) (.inl ⟨by rfl, ?_⟩) (by assumption) ?_
    · intro W hW; subst hW; go_simp
    try simp only [List.getElem_toArray, List.getElem_cons_zero, List.getElem_cons_succ, Act.put, List.setIfInBounds_toArray, List.set_cons_zero, List.set_cons_succ]
    refine wpAnyH_take (i := 4) (v := .slice (some ⟨bv, 0, none⟩) n cp) rfl (by kernel_rfl) (by kernel_rfl) (by kernel_rfl) (fun _ _ _ h => h) (.inl ⟨by rfl, ?_⟩) (by assumption) ?_
    · intro W hW; subst hW; go_simp
    try simp only [List.getElem_toArray, List.getElem_cons_zero, List.getElem_cons_succ, Act.put, List.setIfInBounds_toArray, List.set_cons_zero, List.set_cons_succ]
    refine wpAnyH_take (i := 5) (v := .int .i64 (n : Int)) rfl (by kernel_rfl) (by kernel_rfl) (by kernel_rfl) (fun _ _ _ h => h) (.inl ⟨by rfl, ?_⟩) (by assumption) ?_
    · intro W hW; subst hW; go_simp
    try simp only [List.getElem_toArray, List.getElem_cons_zero, List.getElem_cons_succ, Act.put, List.setIfInBounds_toArray, List.set_cons_zero, List.set_cons_succ]
    refine wpAnyH_take (i := 6) (v := .bool false) rfl (by kernel_rfl) (by kernel_rfl) (by kernel_rfl) (fun _ _ _ h => h) (.inl ⟨by rfl, ?_⟩) (by assumption) ?_
    · intro W hW; subst hW; go_simp
    try simp only [List.getElem_toArray, List.getElem_cons_zero, List.getElem_cons_succ, Act.put, List.setIfInBounds_toArray, List.set_cons_zero, List.set_cons_succ]
    refine wpAnyH_take (i := 7) (v := .bool false) rfl (by kernel_rfl) (by kernel_rfl) (by kernel_rfl) (fun _ _ _ h => h) (.inl ⟨by rfl, ?_⟩) (by assumption) ?_
    · intro W hW; subst hW; go_simp
    try simp only [List.getElem_toArray, List.getElem_cons_zero, List.getElem_cons_succ, Act.put, List.setIfInBounds_toArray, List.set_cons_zero, List.set_cons_succ]
    refine wpAnyH_take (i := 8) (v := .agg (EA.cells x).toArray) rfl (by kernel_rfl) (by kernel_rfl) (by kernel_rfl) (fun _ _ _ h => h) (gyields_load TA (by rfl) (.tmp 6) rfl bx 0 rfl (fun U hU => by subst hU; exact HBX.out)) (by assumption) ?_
    try simp only [List.getElem_toArray, List.getElem_cons_zero, List.getElem_cons_succ, Act.put, List.setIfInBounds_toArray, List.set_cons_zero, List.set_cons_succ]
    refine wpAnyH_take (i := 9) (v := .pointer (some ⟨gr, 0, none⟩)) rfl (by kernel_rfl) (by kernel_rfl) (by kernel_rfl) (fun _ _ _ h => h) (.inl ⟨by rfl, ?_⟩) (by assumption) ?_
    · intro W hW; subst hW; go_simp
    try simp only [List.getElem_toArray, List.getElem_cons_zero, List.getElem_cons_succ, Act.put, List.setIfInBounds_toArray, List.set_cons_zero, List.set_cons_succ]
    refine wpAnyH_take (i := 10) (v := .pointer (some ⟨gr, 0, none⟩)) rfl (by kernel_rfl) (by kernel_rfl) (by kernel_rfl) (fun _ _ _ h => h) (.inl ⟨by rfl, ?_⟩) (by assumption) ?_
    · intro W hW; subst hW; go_simp
    try simp only [List.getElem_toArray, List.getElem_cons_zero, List.getElem_cons_succ, Act.put, List.setIfInBounds_toArray, List.set_cons_zero, List.set_cons_succ]
    refine wpAnyH_take (i := 11) (v := .pointer (some ⟨gr, 1, none⟩)) rfl (by kernel_rfl) (by kernel_rfl) (by kernel_rfl) (fun _ _ _ h => h) (.inl ⟨by rfl, ?_⟩) (by assumption) ?_
    · intro W hW; subst hW; go_simp
    try simp only [List.getElem_toArray, List.getElem_cons_zero, List.getElem_cons_succ, Act.put, List.setIfInBounds_toArray, List.set_cons_zero, List.set_cons_succ]
    refine wpAnyH_take (i := 12) (v := .slice (some ⟨bv, 0, none⟩) n cp) rfl (by kernel_rfl) (by kernel_rfl) (by kernel_rfl) (fun _ _ _ h => h) (.inl ⟨by rfl, ?_⟩) (by assumption) ?_
    · intro W hW; subst hW; go_simp
    try simp only [List.getElem_toArray, List.getElem_cons_zero, List.getElem_cons_succ, Act.put, List.setIfInBounds_toArray, List.set_cons_zero, List.set_cons_succ]
    refine wpAnyH_take (i := 13) (v := .int .i64 (pre.length : Int)) rfl (by kernel_rfl) (by kernel_rfl) (by kernel_rfl) (fun _ _ _ h => h) (.inl ⟨by rfl, ?_⟩) (by assumption) ?_
    · intro W hW; subst hW; go_simp
    try simp only [List.getElem_toArray, List.getElem_cons_zero, List.getElem_cons_succ, Act.put, List.setIfInBounds_toArray, List.set_cons_zero, List.set_cons_succ]
    refine wpAnyH_take (i := 14) (v := .pointer (some ⟨bv, pre.length * 4, none⟩)) rfl (by kernel_rfl) (by kernel_rfl) (by kernel_rfl) (fun _ _ _ h => h) (.inl ⟨by rfl, ?_⟩) (by assumption) ?_
    · intro W hW; subst hW; go_simp
    try simp only [List.getElem_toArray, List.getElem_cons_zero, List.getElem_cons_succ, Act.put, List.setIfInBounds_toArray, List.set_cons_zero, List.set_cons_succ]
    refine wpAnyH_take (i := 15) (v := .agg (EA.cells x).toArray) rfl (by kernel_rfl) (by kernel_rfl) (by kernel_rfl) (fun _ _ _ h => h) (gyields_load TA (by rfl) (.tmp 32) rfl bv (pre.length * 4) rfl (fun U hU => by subst hU; exact RG.out)) (by assumption) ?_
    try simp only [List.getElem_toArray, List.getElem_cons_zero, List.getElem_cons_succ, Act.put, List.setIfInBounds_toArray, List.set_cons_zero, List.set_cons_succ]
    refine wpAnyH_take (i := 16) (v := .bool !b) rfl (by kernel_rfl) (by kernel_rfl) (by kernel_rfl) (fun _ _ _ h => h) (by rw [← hbq]; exact yields_neq_ac9 (by rfl) (.tmp 26) (.tmp 33) rfl XOK.out XOK.out rfl rfl) (by assumption) ?_
    try simp only [List.getElem_toArray, List.getElem_cons_zero, List.getElem_cons_succ, Act.put, List.setIfInBounds_toArray, List.set_cons_zero, List.set_cons_succ]
    refine wpAnyH_take (i := 17) (v := .bool !b) rfl (by kernel_rfl) (by kernel_rfl) (by kernel_rfl) (fun _ _ _ h => h) (.inl ⟨by rfl, ?_⟩) (by assumption) ?_
    · intro W hW; subst hW; go_simp
    try simp only [List.getElem_toArray, List.getElem_cons_zero, List.getElem_cons_succ, Act.put, List.setIfInBounds_toArray, List.set_cons_zero, List.set_cons_succ]
    obtain rfl : b = true := hbq.symm.trans (eqAc9_yes x)
    refine wpAnyH_done (by decide +kernel) ?_ _
    refine HKA.out _ _ ?_
    have cn' : W.drew.cell? ⟨w.heap.size + 3, 0, none⟩ = some (.int .i64 (pre.length : Int)) := cn
    have fn' : W.drew.frozen? ⟨w.heap.size + 3, 0, none⟩ = false := obj_fzE H2.out.sm 0
    refine wpIn_cond_false rfl ?_
    apply wpIn_skip
    refine HKB.out _ _ ?_
    have e1 : (((pre ++ [x]).length : Nat) : Int) = (pre.length : Int) + 1 := by simp
    have PE := Lib.hid e1
    clear e1
    have BX2 := HBX0.out
    apply wpIn_seq_k; intro KC hKC; have HKC := Lib.hid hKC; clear hKC
    refine region_in rfl (fun ⟨_, _, h⟩ => h) ?_
    go_wp2_with fail
    try rw [hw1]
    refine HKC.out _ _ ?_
    clear HKC KC HKA KA HKB KB cn cn' fn' c1 ca RG HBX hge hi hw1
    change Code.wpIn _ _ _ _ _ _ (W.drew.setCell ⟨w.heap.size + 3, 0, none⟩ (.int .i64 ((pre.length : Int) + 1)))
    have i1 := H2.out.drew.put (t := 3) (v := .int .i64 ((pre.length : Int) + 1))
    have kf1 : KeepsFrom W3.heap.size W (W.drew.setCell ⟨w.heap.size + 3, 0, none⟩ (.int .i64 ((pre.length : Int) + 1))) := ((KeepsOthers.drew W).trans (KeepsOthers.setCell _ _ _)).from _
    have kn1 : Kn W3.heap.size (fun _ k => k = w.heap.size + 3) W (W.drew.setCell ⟨w.heap.size + 3, 0, none⟩ (.int .i64 ((pre.length : Int) + 1))) := Kn.fr (Fr.same ⟨(Below.refl 0 W).drew, fun _ _ _ => rfl⟩ (Fr.set (S := fun k => k = w.heap.size + 3) (p := ⟨w.heap.size + 3, 0, none⟩) rfl _))
    have at1 : ∀ k, k ≠ w.heap.size + 3 → (W.drew.setCell ⟨w.heap.size + 3, 0, none⟩ (.int .i64 ((pre.length : Int) + 1))).heap[k]? = W.heap[k]? := fun k hk => heap_setCell_other W.drew ⟨w.heap.size + 3, 0, none⟩ k _ hk
    obtain ⟨V, hV⟩ : ∃ V, W.drew.setCell ⟨w.heap.size + 3, 0, none⟩ (.int .i64 ((pre.length : Int) + 1)) = V := ⟨_, rfl⟩
    rw [hV] at i1 kf1 kn1 at1 ⊢
    clear hV
    have hWs := H2.out.sz
    have hlL := (Array.getElem?_eq_some_iff.1 HRL.out).1
    have I1 := Lib.hid i1
    have KF1 := Lib.hid kf1
    have KN1 := Lib.hid kn1
    have BV : Hid (Below w.heap.size w V) := Lib.hid (below_iw BW3.out i1 (by omega))
    have q0 : V.heap[w.heap.size]? = some (.cells #[.pointer (some ⟨g, 0, none⟩)] 23 (0, 0)) := (at1 _ (by omega)).trans K01.out.1
    have q1 : V.heap[w.heap.size + 1]? = some (.cells #[.pointer (some ⟨gr, 0, none⟩)] 25 (0, 0)) := (at1 _ (by omega)).trans K01.out.2
    have q2 : EA.Bx 33 V bx x := (at1 bx (by omega)).trans HBX0.out
    have q3 : V.heap[l]? = some (.loop rl) := (at1 l (by omega)).trans HRL.out
    have Q0 := Lib.hid (And.intro q0 (And.intro q1 (And.intro q2 q3)))
    have hVs : W3.heap.size ≤ V.heap.size := i1.sz
    clear i1 kf1 kn1 at1 q0 q1 q2 q3 K01 BX2 HBX0 HRL H2 BW hlL hWs
    have nu0 : Hid (0 ≤ x.nu ∧ x.nu ≤ 4294967295) := Lib.hid XOK.out.nu
    obtain ⟨hs, hhs⟩ : ∃ hs, ofH L.hl x.nu = hs := ⟨_, rfl⟩
    obtain ⟨m, hm⟩ : ∃ m, hs.length = m := ⟨_, rfl⟩
    have HHS := Lib.hid hhs
    have HM := Lib.hid hm
    have ML : Hid (m ≤ 4000) := Lib.hid (by rw [← hm, ← hhs]; exact Nat.le_trans (List.length_filter_le _ _) HL.out)
    have OKH : Hid (∀ p, p ∈ hs → p.ok) := Lib.hid (fun p hp => by rw [← hhs] at hp; exact OKP.out p (List.mem_filter.1 hp).1)
    clear hhs hm
    apply wpIn_seq_k; intro KC hKC; have HKC := Lib.hid hKC; clear hKC
    refine region_in rfl (fun ⟨_, _, h⟩ => h) ?_
    go_wp2_with fail
    refine HKC.out _ _ ?_
    clear HKC KC
    have k1 : (V.alloc (.cells #[.int .i64 0] 3)).heap[V.heap.size]? = some (.cells #[.int .i64 0] 3 (0, 0)) := heap_alloc_new V _
    have b1 := below_new V (.cells #[.int .i64 0] 3)
    have s1 : (V.alloc (.cells #[.int .i64 0] 3)).heap.size = V.heap.size + 1 := by simp
    obtain ⟨V1, hV1⟩ : ∃ V1, V.alloc (.cells #[.int .i64 0] 3) = V1 := ⟨_, rfl⟩
    rw [hV1] at k1 b1 s1 ⊢
    clear hV1
    have B1 := Lib.hid b1
    have K1 := Lib.hid k1
    have BV1 : Hid (Below w.heap.size w V1) := Lib.hid (BV.out.trans (b1.mono BV.out.size))
    have c1 : V1.cell? ⟨w.heap.size + 1, 0, none⟩ = some (.pointer (some ⟨gr, 0, none⟩)) := obj_cellE ((b1.block _ (by omega)).trans Q0.out.2.1)
    have cx : V1.cell? ⟨bx, 0, none⟩ = some (.int .u32 x.nu) := gbx_cell (show EA.Bx 33 V1 bx x from (b1.block _ (Array.getElem?_eq_some_iff.1 Q0.out.2.2.1).1).trans Q0.out.2.2.1) 0
    clear b1 k1
    have OF : Hid (Calls Try.prog 44 #[.pointer (some ⟨gr, 0, none⟩), .int .u32 x.nu] V1 fun e w' => ∃ v', e = .returned v' ∧ EP.Own 47 w' V1.heap.size v' hs ∧ Below V1.heap.size V1 w') := Lib.hid (by
      have h := rof9 x.nu V1 (RL.out V1 BV1.out) nu0.out (by have := HL.out; omega)
      have e : (L.hl.filter fun y => y.ac == x.nu) = hs := HHS.out
      rw [e] at h; exact h)
    apply wpIn_seq_k; intro KC hKC; have HKC := Lib.hid hKC; clear hKC
    refine region_in rfl (fun ⟨_, _, h⟩ => h) ?_
    go_wp2_with fail
    refine OF.out.mono ?_; rintro e V2 ⟨v', rfl, ho, p2⟩
    obtain ⟨A2, cq, rfl, hA2⟩ := gown_form ho
    rw [HM.out] at ho ⊢
    have OW := Lib.hid ho
    have P2 := Lib.hid p2
    have hs2b := p2.size
    clear ho p2 hA2 OF c1 cx
    go_wp2_with fail
    refine HKC.out _ _ ?_
    clear HKC KC
    have l2 : (V2.alloc (.cells #[.slice A2 m cq] 27)).heap[V2.heap.size]? = some (.cells #[.slice A2 m cq] 27 (0, 0)) := heap_alloc_new V2 _
    have b2 := below_new V2 (.cells #[.slice A2 m cq] 27)
    have s2c : (V2.alloc (.cells #[.slice A2 m cq] 27)).heap.size = V2.heap.size + 1 := by simp
    obtain ⟨V3, hV3⟩ : ∃ V3, V2.alloc (.cells #[.slice A2 m cq] 27) = V3 := ⟨_, rfl⟩
    rw [hV3] at l2 b2 s2c ⊢
    clear hV3
    have BB : Hid (Below V.heap.size V V3) := Lib.hid (B1.out.trans ((P2.out.mono (by omega)).trans (b2.mono (by omega))))
    have BV3 : Hid (Below w.heap.size w V3) := Lib.hid (BV.out.trans (BB.out.mono BV.out.size))
    have L2 := Lib.hid l2
    have K3 : Hid (V3.heap[V.heap.size]? = some (.cells #[.int .i64 0] 3 (0, 0))) := Lib.hid ((b2.block _ (by omega)).trans ((P2.out.block _ (by omega)).trans K1.out))
    have O3 : Hid (EP.Own 47 V3 V1.heap.size (.slice A2 m cq) hs) := Lib.hid (gown_below OW.out b2)
    have OBL : Hid (∀ b, (Value.slice A2 m cq).ownBlock = some b → V1.heap.size ≤ b ∧ b < V2.heap.size) := Lib.hid (fun b hb => gown_lt OW.out hb)
    have c0 : V3.cell? ⟨w.heap.size, 0, none⟩ = some (.pointer (some ⟨g, 0, none⟩)) := obj_cellE ((BB.out.block _ (by omega)).trans Q0.out.1)
    have bxV : bx < V.heap.size := (Array.getElem?_eq_some_iff.1 Q0.out.2.2.1).1
    have lV : l < V.heap.size := (Array.getElem?_eq_some_iff.1 Q0.out.2.2.2).1
    have hx3 : EA.Bx 33 V3 bx x := (BB.out.block _ bxV).trans Q0.out.2.2.1
    have cx : V3.cell? ⟨bx, 0, none⟩ = some (.int .u32 x.nu) := gbx_cell hx3 0
    clear l2 b2 K1 B1 OW P2
    apply wpIn_seq_k; intro KC hKC; have HKC := Lib.hid hKC; clear hKC
    apply wpIn_seq_k; intro KB hKB; have HKB := Lib.hid hKB; clear hKB
    refine region_in rfl (fun ⟨_, _, h⟩ => h) ?_
    go_wp2_with fail
    refine (lheld9 x.nu (DL.out V3 BV3.out).lb (DL.out V3 BV3.out).mp (DL.out V3 BV3.out).inv).mono ?_; rintro e V4 ⟨gf2, lb2, T2, rfl, p4, -, -, -⟩
    have P4 := Lib.hid p4
    have BV4 : Hid (Below w.heap.size w V4) := Lib.hid (BV3.out.trans (p4.mono BV3.out.size))
    have c04 : V4.cell? ⟨w.heap.size, 0, none⟩ = some (.pointer (some ⟨g, 0, none⟩)) := cell_below c0 p4 (Nat.le_refl _)
    have cx4 : V4.cell? ⟨bx, 0, none⟩ = some (.int .u32 x.nu) := cell_below cx p4 (Nat.le_refl _)
    clear p4 c0 cx
    go_wp2_with fail
    refine HKB.out _ _ ?_
    clear HKB KB
    refine wpIn_cond_false rfl ?_
    apply wpIn_skip
    refine HKC.out _ _ ?_
    clear HKC KC
    apply wpIn_seq_k; intro KC hKC; have HKC := Lib.hid hKC; clear hKC
    apply wpIn_seq_k; intro KB hKB; have HKB := Lib.hid hKB; clear hKB
    refine region_in rfl (fun ⟨_, _, h⟩ => h) ?_
    go_wp2_with fail
    refine (lheld9 x.nu (DL.out V4 BV4.out).lb (DL.out V4 BV4.out).mp (DL.out V4 BV4.out).inv).mono ?_; rintro e V5 ⟨gf2', lb2', T2', rfl, p5, en2, hT2, tell2⟩
    rw [HHS.out] at tell2
    have B35 : Hid (Below V3.heap.size V3 V5) := Lib.hid (P4.out.trans (p5.mono P4.out.size))
    have TL2 := Lib.hid tell2
    have EN2 := Lib.hid en2
    have HT2 := Lib.hid hT2
    have hs34 := P4.out.size
    have hs45 := p5.size
    clear p5 en2 hT2 tell2 P4 c04 cx4
    go_wp2_with fail
    refine HKB.out _ _ ?_
    clear HKB KB
    have B5 : Hid (Below V.heap.size V V5) := Lib.hid (BB.out.trans (B35.out.mono BB.out.size))
    have K5 : Hid (V5.heap[V.heap.size]? = some (.cells #[.int .i64 0] 3 (0, 0))) := Lib.hid ((B35.out.block _ (by omega)).trans K3.out)
    have L5 : Hid (V5.heap[V2.heap.size]? = some (.cells #[.slice A2 m cq] 27 (0, 0))) := Lib.hid ((B35.out.block _ (by omega)).trans L2.out)
    have O5 : Hid (EP.Own 47 V5 V1.heap.size (.slice A2 m cq) hs) := Lib.hid (gown_below O3.out B35.out)
    clear K3 L2 O3
    refine wpIn_block ?_
    refine range_calmR (l₀ := l) (r₀ := rl) (S := fun _ k => k = V.heap.size) (N0 := V5.heap.size) (Sd := fun xs => xs = hs) (Sp := fun pre => pre <+: hs) (Pr := fun xs => xs <+: hs) (encs := encP) ((B5.out.block _ lV).trans Q0.out.2.2.2) (by decide) rfl EN2.out (Still.const _ _) (Nat.le_refl _)
      (TL2.out V5 (fun _ k => k = V.heap.size) _ V5.heap.size (Fr.refl _ _) (Still.const _ _) (fun k hk => .inl (HT2.out k hk).1) (fun k hk => by omega) (fun k hk c => by
        rcases (HT2.out k hk).2 with h | h
        · have := LTW.out k (h.imp id .inr); omega
        · omega) (by decide)) (fun _ => rfl)
      (fun pre U => Iw9 V5 V.heap.size (.cells #[.int .i64 (pre.length : Int)] 3 (0, 0)) U)
      (fun _ _ _ => False)
      (fun s A C hj b _ => hj.below (by omega) b (Nat.le_refl _))
      (fun _ s A C hj _ _ => hj)
      (Iw9.refl K5.out)
      (fun y a' U => ∃ by', V5.heap.size ≤ by' ∧ EP.Bx 47 U by' y ∧ ∃ u : Nat → Value, a' = { tmps := #[.pointer (some ⟨g, 0, none⟩), .pointer (some ⟨gr, 0, none⟩), .pointer (some ⟨w.heap.size, 0, none⟩), .pointer (some ⟨w.heap.size + 1, 0, none⟩), .pointer (some ⟨w.heap.size + 2, 0, none⟩), .pointer (some ⟨w.heap.size + 3, 0, none⟩), .pointer (some ⟨bx, 0, none⟩), .pointer (some ⟨V.heap.size, 0, none⟩), .pointer (some ⟨V2.heap.size, 0, none⟩), .pointer (some ⟨by', 0, none⟩), u 10, u 11, u 12, u 13, u 14, u 15, u 16, u 17, u 18, u 19, u 20, u 21, u 22, u 23, u 24, u 25, u 26, u 27, u 28, u 29, u 30, u 31, u 32, u 33, u 34, u 35, u 36, u 37, u 38, u 39, u 40, u 41, u 42, u 43, u 44, u 45, u 46, u 47, u 48, u 49, u 50, u 51, u 52, u 53, u 54, u 55, u 56, u 57, u 58, u 59, u 60, u 61, u 62, u 63, u 64, u 65, u 66, u 67, u 68, u 69, u 70, u 71, u 72, u 73, u 74, u 75, u 76, u 77, u 78, u 79, u 80, u 81, u 82, u 83, u 84, u 85, u 86, u 87, u 88, u 89, u 90, u 91, u 92, u 93, u 94, u 95, u 96, u 97, u 98, u 99, u 100, u 101, u 102, u 103, u 104, u 105, u 106, u 107], defers := [] })
      (fun y a' U l o o' hx hl ho hc => by
        obtain ⟨bx, h1, h2, h3⟩ := hx
        refine ⟨bx, h1, ?_, h3⟩
        show (U.putObj l o').heap[bx]? = _
        rw [World.putObj_heap_other (fun e => ?_)]
        · exact h2
        · subst e
          rw [show U.heap[bx]? = _ from h2] at ho
          cases ho
          cases hc) ?assign3 ?body3 ?done3 ?stop3
    case assign3 =>
      rintro l3 pre3 y U KK h2 _ hK
      rw [show (Fence.wide.inRound l).inRound l3 = Fence.wide.inRound l3 from rfl]
      have HZ := Lib.hid (gbx_new (E := EP) (te := 47) U zeroPo)
      refine region_in rfl (fun ⟨_, _, h⟩ => h) ?_
      go_wp2_with (refine gwl_store TP y U.heap.size HZ.out rfl rfl ?_)
      have q : Below U.heap.size U ((U.alloc (.cells (EP.cells zeroPo).toArray 47)).setRow U.heap.size (EP.cells y).toArray) := below_row0 (below_new U _) (Nat.le_refl _)
      refine hK _ _ ⟨q.size, fun k o _ hk _ => (q.block k (Array.getElem?_eq_some_iff.1 hk).1).trans hk⟩ (Kn.below (Still.const _ _) (Nat.le_refl _) q) (h2.grow (by omega) q) ⟨U.heap.size, h2.sz, gbx_set HZ.out, intro_uE rfl⟩
    case stop3 =>
      rintro c2 pre3 U hS hx
      exact hx.elim
    case body3 =>
      rintro l3 pre3 y a' U - - h2 ⟨by', hb, hbx, u, rfl⟩ hlen
      rw [show (Fence.wide.inRound l).inRound l3 = Fence.wide.inRound l3 from rfl]
      have hy : hs[pre3.length]? = some y := pre_at hlen
      have hlt : pre3.length < m := by rw [← HM.out]; exact (List.getElem?_eq_some_iff.1 hy).1
      obtain ⟨bv, cv, ev⟩ := gown_slot O5.out (by have := HM.out; omega)
      injection ev with e1 e3 e2
      clear e3
      subst e1 e2
      have YOK := Lib.hid (OKH.out y (List.mem_of_getElem? hy))
      have HBX := Lib.hid (gbx_rng hbx)
      have H2 := Lib.hid h2
      have hbv := OBL.out bv rfl
      have cn : U.cell? ⟨V.heap.size, 0, none⟩ = some (.int .i64 (pre3.length : Int)) := obj_cellE h2.sm
      have cl : U.cell? ⟨V2.heap.size, 0, none⟩ = some (.slice (some ⟨bv, 0, none⟩) m cq) := h2.cell (by omega) (by omega) (obj_cellE L5.out)
      have RG : Hid (U.rangeAt bv (pre3.length * 4) (EP.cells y)) := Lib.hid (gown_rng (gown_same O5.out fun k hk => h2.at' k (by have := OBL.out k hk; omega) (by have := OBL.out k hk; omega)) hy)
      have hge : decide ((m : Int) ≤ (pre3.length : Int)) = false := decide_eq_false (by omega)
      have hi : (pre3.length : Int) < (m : Int) := by omega
      have hw1 : wrap64 ((pre3.length : Int) + 1) = (pre3.length : Int) + 1 := by have := ML.out; unfold wrap64; omega
      clear h2 hbx hy
      obtain ⟨b, hbq⟩ : ∃ b, eqPo9 y y = b := ⟨_, rfl⟩
      refine wpIn_block ?_
      apply wpIn_seq_k; intro KB hKB; have HKB := Lib.hid hKB; clear hKB
      apply wpIn_seq_k; intro KA hKA; have HKA := Lib.hid hKA; clear hKA
      refine region_held_in (S := fun X => X = U.drew) rfl (fun ⟨_, _, h⟩ => h) (by kernel_rfl) rfl (fun hH => ?_)
      refine wpAnyH_take (i := 0) (v := .int .i64 (pre3.length : Int)) rfl (by kernel_rfl) (by kernel_rfl) (by kernel_rfl) (fun _ _ _ h => h) (.inl ⟨by rfl, ?_⟩) (by assumption) ?_
      · intro W hW; subst hW; go_simp
      try simp only [List.getElem_toArray, List.getElem_cons_zero, List.getElem_cons_succ, Act.put, List.setIfInBounds_toArray, List.set_cons_zero, List.set_cons_succ]
      refine wpAnyH_take (i := 1) (v := .slice (some ⟨bv, 0, none⟩) m cq) rfl (by kernel_rfl) (by kernel_rfl) (by kernel_rfl) (fun _ _ _ h => h) (.inl ⟨by rfl, ?_⟩) (by assumption) ?_
      · intro W hW; subst hW; go_simp
      try simp only [List.getElem_toArray, List.getElem_cons_zero, List.getElem_cons_succ, Act.put, List.setIfInBounds_toArray, List.set_cons_zero, List.set_cons_succ]
      refine wpAnyH_take (i := 2) (v := .int .i64 (m : Int)) rfl (by kernel_rfl) (by kernel_rfl) (by kernel_rfl) (fun _ _ _ h => h) (.inl ⟨by rfl, ?_⟩) (by assumption) ?_
      · intro W hW; subst hW; go_simp
      try simp only [List.getElem_toArray, List.getElem_cons_zero, List.getElem_cons_succ, Act.put, List.setIfInBounds_toArray, List.set_cons_zero, List.set_cons_succ]
      refine wpAnyH_take (i := 3) (v := .bool false) rfl (by kernel_rfl) (by kernel_rfl) (by kernel_rfl) (fun _ _ _ h => h) (.inl ⟨by rfl, ?_⟩) (by assumption) ?_
      · intro W hW; subst hW; go_simp
      try simp only [List.getElem_toArray, List.getElem_cons_zero, List.getElem_cons_succ, Act.put, List.setIfInBounds_toArray, List.set_cons_zero, List.set_cons_succ]
      refine wpAnyH_take (i := 4) (v := .bool false) rfl (by kernel_rfl) (by kernel_rfl) (by kernel_rfl) (fun _ _ _ h => h) (.inl ⟨by rfl, ?_⟩) (by assumption) ?_
      · intro W hW; subst hW; go_simp
      try simp only [List.getElem_toArray, List.getElem_cons_zero, List.getElem_cons_succ, Act.put, List.setIfInBounds_toArray, List.set_cons_zero, List.set_cons_succ]
      refine wpAnyH_take (i := 5) (v := .agg (EP.cells y).toArray) rfl (by kernel_rfl) (by kernel_rfl) (by kernel_rfl) (fun _ _ _ h => h) (gyields_load TP (by rfl) (.tmp 9) rfl by' 0 rfl (fun U hU => by subst hU; exact HBX.out)) (by assumption) ?_
      try simp only [List.getElem_toArray, List.getElem_cons_zero, List.getElem_cons_succ, Act.put, List.setIfInBounds_toArray, List.set_cons_zero, List.set_cons_succ]
      refine wpAnyH_take (i := 6) (v := .slice (some ⟨bv, 0, none⟩) m cq) rfl (by kernel_rfl) (by kernel_rfl) (by kernel_rfl) (fun _ _ _ h => h) (.inl ⟨by rfl, ?_⟩) (by assumption) ?_
      · intro W hW; subst hW; go_simp
      try simp only [List.getElem_toArray, List.getElem_cons_zero, List.getElem_cons_succ, Act.put, List.setIfInBounds_toArray, List.set_cons_zero, List.set_cons_succ]
      refine wpAnyH_take (i := 7) (v := .int .i64 (pre3.length : Int)) rfl (by kernel_rfl) (by kernel_rfl) (by kernel_rfl) (fun _ _ _ h => h) (.inl ⟨by rfl, ?_⟩) (by assumption) ?_
      · intro W hW; subst hW; go_simp
      try simp only [List.getElem_toArray, List.getElem_cons_zero, List.getElem_cons_succ, Act.put, List.setIfInBounds_toArray, List.set_cons_zero, List.set_cons_succ]
      refine wpAnyH_take (i := 8) (v := .pointer (some ⟨bv, pre3.length * 4, none⟩)) rfl (by kernel_rfl) (by kernel_rfl) (by kernel_rfl) (fun _ _ _ h => h) (.inl ⟨by rfl, ?_⟩) (by assumption) ?_
      · intro W hW; subst hW; go_simp
      try simp only [List.getElem_toArray, List.getElem_cons_zero, List.getElem_cons_succ, Act.put, List.setIfInBounds_toArray, List.set_cons_zero, List.set_cons_succ]
      refine wpAnyH_take (i := 9) (v := .agg (EP.cells y).toArray) rfl (by kernel_rfl) (by kernel_rfl) (by kernel_rfl) (fun _ _ _ h => h) (gyields_load TP (by rfl) (.tmp 60) rfl bv (pre3.length * 4) rfl (fun U hU => by subst hU; exact RG.out)) (by assumption) ?_
      try simp only [List.getElem_toArray, List.getElem_cons_zero, List.getElem_cons_succ, Act.put, List.setIfInBounds_toArray, List.set_cons_zero, List.set_cons_succ]
      refine wpAnyH_take (i := 10) (v := .bool !b) rfl (by kernel_rfl) (by kernel_rfl) (by kernel_rfl) (fun _ _ _ h => h) (by rw [← hbq]; exact yields_neq_po9 (by rfl) (.tmp 57) (.tmp 61) rfl YOK.out YOK.out rfl rfl) (by assumption) ?_
      try simp only [List.getElem_toArray, List.getElem_cons_zero, List.getElem_cons_succ, Act.put, List.setIfInBounds_toArray, List.set_cons_zero, List.set_cons_succ]
      refine wpAnyH_take (i := 11) (v := .bool !b) rfl (by kernel_rfl) (by kernel_rfl) (by kernel_rfl) (fun _ _ _ h => h) (.inl ⟨by rfl, ?_⟩) (by assumption) ?_
      · intro W hW; subst hW; go_simp
      try simp only [List.getElem_toArray, List.getElem_cons_zero, List.getElem_cons_succ, Act.put, List.setIfInBounds_toArray, List.set_cons_zero, List.set_cons_succ]
      obtain rfl : b = true := hbq.symm.trans (eqPo9_yes y)
      refine wpAnyH_done (by decide +kernel) ?_ _
      refine HKA.out _ _ ?_
      have cn' : U.drew.cell? ⟨V.heap.size, 0, none⟩ = some (.int .i64 (pre3.length : Int)) := cn
      have fn' : U.drew.frozen? ⟨V.heap.size, 0, none⟩ = false := obj_fzE H2.out.sm 0
      refine wpIn_cond_false rfl ?_
      apply wpIn_skip
      refine HKB.out _ _ ?_
      refine region_in rfl (fun ⟨_, _, h⟩ => h) ?_
      go_wp2_with fail
      try rw [hw1]
      refine ⟨((KeepsOthers.drew U).trans (KeepsOthers.setCell _ _ _)).from _, Kn.fr (Fr.same ⟨(Below.refl 0 U).drew, fun _ _ _ => rfl⟩ (Fr.set (S := fun k => k = V.heap.size) (p := ⟨V.heap.size, 0, none⟩) rfl _)), ?_⟩
      have := H2.out.drew.put (t := 3) (v := .int .i64 ((pre3.length : Int) + 1))
      have e : (((pre3 ++ [y]).length : Nat) : Int) = (pre3.length : Int) + 1 := by simp
      show Iw9 V5 V.heap.size (.cells #[.int .i64 (((pre3 ++ [y]).length : Nat) : Int)] 3 (0, 0)) _
      rw [e]
      exact this
    case done3 =>
      rintro ys U hS h2
      subst hS
      rw [HM.out] at h2
      have BF : Hid (Below V.heap.size V U) := Lib.hid (below_iw B5.out h2 (Nat.le_refl _))
      have ck : U.cell? ⟨V.heap.size, 0, none⟩ = some (.int .i64 (m : Int)) := obj_cellE h2.sm
      have cl : U.cell? ⟨V2.heap.size, 0, none⟩ = some (.slice A2 m cq) := h2.cell (by omega) (by omega) (obj_cellE L5.out)
      have hnq : ((m : Int) != (m : Int)) = false := by simp
      clear h2
      refine HKC.out _ _ ?_
      apply wpIn_seq_k; intro KB hKB; have HKB := Lib.hid hKB; clear hKB
      refine region_in rfl (fun ⟨_, _, h⟩ => h) ?_
      go_wp2_with fail
      refine HKB.out _ _ ?_
      refine wpIn_cond_false rfl ?_
      apply wpIn_skip
      have q := BF.out
      refine ⟨KF1.out.trans ⟨q.size, fun k o _ hk _ => (q.block k (Array.getElem?_eq_some_iff.1 hk).1).trans hk⟩, KN1.out.trans (Kn.below (Still.const _ 0) (Nat.zero_le _) q), ?_⟩
      show Iw9 W3 (w.heap.size + 3) (.cells #[.int .i64 (((pre ++ [x]).length : Nat) : Int)] 3 (0, 0)) _
      rw [PE.out]
      exact I1.out.grow (by omega) q
  case stop =>
    rintro D c2 pre W hD hS hx hK
    exact hx.elim
  case done =>
    rintro D ys W hD hS h2 hK
    subst hS
    rw [HN.out] at h2
    have H2 := Lib.hid h2
    have HKD := Lib.hid hK
    have HDG : Hid (W3.heap.size ≤ D) := Lib.hid hD
    have DLT : Hid (D < W.heap.size) := Lib.hid (Array.getElem?_eq_some_iff.1 hK).1
    have BW : Hid (Below w.heap.size w W) := Lib.hid (below_iw BW3.out h2 (by omega))
    have c0 : W.cell? ⟨w.heap.size, 0, none⟩ = some (.pointer (some ⟨g, 0, none⟩)) := obj_cellE ((h2.at' _ (by omega) (by omega)).trans E3.out.1)
    clear h2 hK hD
    go_wp2_with fail
    refine (laccts9 (DL.out W BW.out).lb (DL.out W BW.out).ma (DL.out W BW.out).inv).mono ?_; rintro e0 W4 ⟨gf3, lb3, T3, rfl, q1, -, -, -⟩
    have Q4 := Lib.hid q1
    have BW4 := Lib.hid (BW.out.trans (q1.mono BW.out.size))
    have c04 : W4.cell? ⟨w.heap.size, 0, none⟩ = some (.pointer (some ⟨g, 0, none⟩)) := cell_below c0 q1 (Nat.le_refl _)
    clear q1 c0
    go_wp2_with fail
    refine (laccts9 (DL.out W4 BW4.out).lb (DL.out W4 BW4.out).ma (DL.out W4 BW4.out).inv).mono ?_; rintro e0 W5 ⟨gf4, lb4, T4, rfl, q1, en4, hT4, tell4⟩
    have Q5 : Hid (Below W.heap.size W W5) := Lib.hid (Q4.out.trans (q1.mono Q4.out.size))
    have TL4 := Lib.hid tell4
    have EN4 := Lib.hid en4
    have HT4 := Lib.hid hT4
    clear q1 en4 hT4 tell4 Q4 BW4 c04
    go_wp2_with fail
    refine (wpIn_wide (n := 9)).1 ?_
    have H5 := Lib.hid (H2.out.grow (by omega) Q5.out)
    have K5 : Hid (W5.heap[D]? = some (.deferred (some []))) := Lib.hid ((Q5.out.block D DLT.out).trans HKD.out)
    have BW5 : Hid (Below w.heap.size w W5) := Lib.hid (BW.out.trans (Q5.out.mono BW.out.size))
    clear H2 Q5 HKD
    have hD3 := HDG.out
    have hz5 := H5.out.sz
    have hDl : D < W5.heap.size := (Array.getElem?_eq_some_iff.1 K5.out).1
    refine range_calmN (S := fun _ _ => False) (N0 := W5.heap.size) (Sd := fun xs => xs = L.al) (Sp := fun pre => pre <+: L.al) (Pr := fun xs => xs <+: L.al) (encs := encA) (by decide) rfl EN4.out (Still.const _ _) (Nat.le_refl _)
      (TL4.out W5 (fun _ _ => False) 8 W5.heap.size (Fr.refl _ _) (Still.const _ _) (fun k hk => .inl (HT4.out k hk).1) (fun k hk => hk.elim) (fun k hk c => c) (by decide)) (fun _ => rfl)
      (fun _ W => Below W5.heap.size W5 W)
      (fun c _ W => c = .exit 4 ∧ Below W5.heap.size W5 W)
      (fun s A C hj b _ => hj.trans b)
      (fun c s A C hj b _ => ⟨hj.1, hj.2.trans b⟩)
      (Below.refl _ _)
      (fun _ _ _ => True)
      (fun x a' W l o o' hx hl ho hc => hx) ?assign2 ?body2 ?done2 ?stop2
    case assign2 =>
      rintro l pre x W KK hi _ hK
      gi_wp2
      exact hK _ _ (KeepsFrom.refl _ _) (Kn.fr (Fr.refl _ _)) hi trivial
    case body2 =>
      rintro l pre x a' W - - hI - hlen
      refine wpIn_block ?_
      apply wpIn_exit
      exact ⟨KeepsFrom.refl _ _, rfl, hI⟩
    case done2 =>
      rintro D2 ys2 W hD2 hS2 hF hK2
      have K6 : Hid (W.heap[D]? = some (.deferred (some []))) := Lib.hid ((hF.block D hDl).trans K5.out)
      have KE := Lib.hid hK2
      have HDE : Hid (W5.heap.size ≤ D2) := Lib.hid hD2
      have BW6 : Hid (Below w.heap.size w W) := Lib.hid (BW5.out.trans (hF.mono BW5.out.size))
      have h6 : Hid (∀ k o, k < W3.heap.size → k ≠ w.heap.size + 3 → W3.heap[k]? = some o → W.heap[k]? = some o) := Lib.hid (fun k o hk hn e => (hF.block k (by omega)).trans ((H5.out.at' k hk hn).trans e))
      have N6 : Hid (W.heap[w.heap.size + 3]? = some (.cells #[.int .i64 (n : Int)] 3 (0, 0))) := Lib.hid ((hF.block _ (by omega)).trans H5.out.sm)
      have c0 : W.cell? ⟨w.heap.size, 0, none⟩ = some (.pointer (some ⟨g, 0, none⟩)) := obj_cellE (h6.out _ _ (by omega) (by omega) E3.out.1)
      have SW : Hid (W5.heap.size ≤ W.heap.size) := Lib.hid hF.size
      have dW : D2 < W.heap.size := (Array.getElem?_eq_some_iff.1 KE.out).1
      have dW1 : D < W.heap.size := (Array.getElem?_eq_some_iff.1 K6.out).1
      clear hF hK2 hD2 H5 K5 BW5
      have GT := lget9 0 W (DL.out W BW6.out) ⟨by decide, by decide⟩
      rw [getL_zero] at GT
      have GTH := Lib.hid GT
      clear GT
      go_wp2_with fail
      refine GTH.out.mono ?_; rintro e0 W7 ⟨rfl, q7⟩
      have Q7 := Lib.hid q7
      have hq7 := q7.size
      have hsw := SW.out
      obtain ⟨fd, hfd⟩ : ∃ fd, L.fund = fd := ⟨_, rfl⟩
      rw [hfd]
      have HFD := Lib.hid hfd
      obtain ⟨zf, hzf⟩ : ∃ zf : Ac, zf = ⟨0, fd, false, false⟩ := ⟨_, rfl⟩
      rw [← hzf]
      have HZF := Lib.hid hzf
      have HZ := Lib.hid (gbx_new (E := EA) (te := 33) W7 zeroAc)
      clear q7 GTH c0 hfd hzf
      go_wp2_with (refine gwl_store TA zf W7.heap.size HZ.out rfl rfl ?_)
      obtain ⟨W8, hW8⟩ : ∃ W8, (W7.alloc (.cells (EA.cells zeroAc).toArray 33)).setRow W7.heap.size (EA.cells zf).toArray = W8 := ⟨_, rfl⟩
      have Q8 : Hid (Below W7.heap.size W7 W8) := Lib.hid (hW8 ▸ below_row0 (below_new W7 _) (Nat.le_refl _))
      have F8 : Hid (EA.Bx 33 W8 W7.heap.size zf) := Lib.hid (hW8 ▸ gbx_set HZ.out)
      rw [hW8]
      clear hW8 HZ
      have B68 : Hid (Below W.heap.size W W8) := Lib.hid (Q7.out.trans (Q8.out.mono hq7))
      have BW8 : Hid (Below w.heap.size w W8) := Lib.hid (BW6.out.trans (B68.out.mono BW6.out.size))
      have hb8 := B68.out.size
      have hl8 : W7.heap.size < W8.heap.size := (Array.getElem?_eq_some_iff.1 F8.out).1
      have K08 : Hid (W8.heap[w.heap.size]? = some (.cells #[.pointer (some ⟨g, 0, none⟩)] 23 (0, 0))) := Lib.hid ((B68.out.block _ (by omega)).trans (h6.out _ _ (by omega) (by omega) E3.out.1))
      have K18 : Hid (W8.heap[w.heap.size + 1]? = some (.cells #[.pointer (some ⟨gr, 0, none⟩)] 25 (0, 0))) := Lib.hid ((B68.out.block _ (by omega)).trans (h6.out _ _ (by omega) (by omega) E3.out.2.1))
      have R8 : Hid (W8.heap[w.heap.size + 2]? = some (.cells #[.bool false] 4 (0, 0))) := Lib.hid ((B68.out.block _ (by omega)).trans (h6.out _ _ (by omega) (by omega) E3.out.2.2.1))
      have N8 : Hid (W8.heap[w.heap.size + 3]? = some (.cells #[.int .i64 (n : Int)] 3 (0, 0))) := Lib.hid ((B68.out.block _ (by omega)).trans N6.out)
      have M8 : Hid (W8.heap[D2]? = some (.deferred (some [])) ∧ W8.heap[D]? = some (.deferred (some []))) := Lib.hid ⟨(B68.out.block _ dW).trans KE.out, (B68.out.block _ dW1).trans K6.out⟩
      have DK : Hid (∀ U, SfE W8 (w.heap.size + 2) U → Dl U g ba bp L ∧ Rl U B gr va vh L) := Lib.hid (fun U hU => by
        have b := below_frE BW8.out hU.fr (fun k hk cc => by rcases cc with c | c <;> omega)
        exact ⟨DL.out U b, RL.out U b⟩)
      have heq : ((n : Int) == (n : Int)) = true := by simp
      have ZOK : Hid (zf.ok) := Lib.hid (by
        have h := (DL.out W BW6.out).inv.fund
        rw [HFD.out] at h
        simp only [mF] at h
        rw [HZF.out]
        exact ⟨by show (0 : Int) ≤ 0 ∧ (0 : Int) ≤ 4294967295; omega, by show -9223372036854775808 ≤ fd ∧ fd ≤ 9223372036854775807; omega⟩)
      have V1U : Hid (∀ U, SfE W8 (w.heap.size + 2) U → U.cell? ⟨gr, 1, none⟩ = some (.slice A n cp) ∧ U.cell? ⟨gr, 0, none⟩ = some (.int .i64 fd)) := Lib.hid (fun U hU => by
        have b := below_frE BW8.out hU.fr (fun k hk cc => by rcases cc with c | c <;> omega)
        exact ⟨V1.out U b, by rw [← HFD.out]; exact V0.out U b⟩)
      clear KE K6 N6 h6 BW6 Q7 Q8
      try go_wp2_with fail
      refine wp_region_held_drew (S := SfE W8 (w.heap.size + 2)) (by kernel_rfl) ⟨⟨(Below.refl 0 W8).drew, fun _ _ _ => rfl⟩, false, R8.out⟩ (fun hH => ?_)
      refine wpAnyH_take (i := 0) (v := .int .i64 (n : Int)) rfl (by kernel_rfl) (by kernel_rfl) (by kernel_rfl) (fun _ _ _ h => h) (.inl ⟨by rfl, ?_⟩) (by assumption) ?_
      · intro W hW; have c1 := hW.cell (by omega) (by omega) (obj_cellE N8.out); go_simp
      try simp only [List.getElem_toArray, List.getElem_cons_zero, List.getElem_cons_succ, Act.put, List.setIfInBounds_toArray, List.set_cons_zero, List.set_cons_succ]
      refine wpAnyH_take (i := 1) (v := .pointer (some ⟨gr, 0, none⟩)) rfl (by kernel_rfl) (by kernel_rfl) (by kernel_rfl) (fun _ _ _ h => h) (.inl ⟨by rfl, ?_⟩) (by assumption) ?_
      · intro W hW; have c1 := hW.cell (by omega) (by omega) (obj_cellE K18.out); go_simp
      try simp only [List.getElem_toArray, List.getElem_cons_zero, List.getElem_cons_succ, Act.put, List.setIfInBounds_toArray, List.set_cons_zero, List.set_cons_succ]
      refine wpAnyH_take (i := 2) (v := .pointer (some ⟨gr, 0, none⟩)) rfl (by kernel_rfl) (by kernel_rfl) (by kernel_rfl) (fun _ _ _ h => h) (.inl ⟨by rfl, ?_⟩) (by assumption) ?_
      · intro W hW; have c1 := (V1U.out W hW).1; go_simp
      try simp only [List.getElem_toArray, List.getElem_cons_zero, List.getElem_cons_succ, Act.put, List.setIfInBounds_toArray, List.set_cons_zero, List.set_cons_succ]
      refine wpAnyH_take (i := 3) (v := .pointer (some ⟨gr, 1, none⟩)) rfl (by kernel_rfl) (by kernel_rfl) (by kernel_rfl) (fun _ _ _ h => h) (.inl ⟨by rfl, ?_⟩) (by assumption) ?_
      · intro W hW; go_simp
      try simp only [List.getElem_toArray, List.getElem_cons_zero, List.getElem_cons_succ, Act.put, List.setIfInBounds_toArray, List.set_cons_zero, List.set_cons_succ]
      refine wpAnyH_take (i := 4) (v := .slice A n cp) rfl (by kernel_rfl) (by kernel_rfl) (by kernel_rfl) (fun _ _ _ h => h) (.inl ⟨by rfl, ?_⟩) (by assumption) ?_
      · intro W hW; have c1 := (V1U.out W hW).1; go_simp
      try simp only [List.getElem_toArray, List.getElem_cons_zero, List.getElem_cons_succ, Act.put, List.setIfInBounds_toArray, List.set_cons_zero, List.set_cons_succ]
      refine wpAnyH_take (i := 5) (v := .int .i64 (n : Int)) rfl (by kernel_rfl) (by kernel_rfl) (by kernel_rfl) (fun _ _ _ h => h) (.inl ⟨by rfl, ?_⟩) (by assumption) ?_
      · intro W hW; go_simp
      try simp only [List.getElem_toArray, List.getElem_cons_zero, List.getElem_cons_succ, Act.put, List.setIfInBounds_toArray, List.set_cons_zero, List.set_cons_succ]
      refine wpAnyH_take (i := 6) (v := .bool true) rfl (by kernel_rfl) (by kernel_rfl) (by kernel_rfl) (fun _ _ _ h => h) (.inl ⟨by rfl, ?_⟩) (by assumption) ?_
      · intro W hW; go_simp
      try simp only [List.getElem_toArray, List.getElem_cons_zero, List.getElem_cons_succ, Act.put, List.setIfInBounds_toArray, List.set_cons_zero, List.set_cons_succ]
      refine wpAnyH_take (i := 7) (v := .bool true) rfl (by kernel_rfl) (by kernel_rfl) (by kernel_rfl) (fun _ _ _ h => h) (.inl ⟨by rfl, ?_⟩) (by assumption) ?_
      · intro W hW; go_simp
      try simp only [List.getElem_toArray, List.getElem_cons_zero, List.getElem_cons_succ, Act.put, List.setIfInBounds_toArray, List.set_cons_zero, List.set_cons_succ]
      refine wpAnyH_take (i := 8) (v := .pointer (some ⟨g, 0, none⟩)) rfl (by kernel_rfl) (by kernel_rfl) (by kernel_rfl) (fun _ _ _ h => h) (.inl ⟨by rfl, ?_⟩) (by assumption) ?_
      · intro W hW; have c1 := hW.cell (by omega) (by omega) (obj_cellE K08.out); go_simp
      try simp only [List.getElem_toArray, List.getElem_cons_zero, List.getElem_cons_succ, Act.put, List.setIfInBounds_toArray, List.set_cons_zero, List.set_cons_succ]
      refine wpAnyH_take (i := 10) (v := .pointer (some ⟨gr, 0, none⟩)) rfl (by kernel_rfl) (by kernel_rfl) (by kernel_rfl) (fun _ _ _ h => h) (.inl ⟨by rfl, ?_⟩) (by assumption) ?_
      · intro W hW; have c1 := hW.cell (by omega) (by omega) (obj_cellE K18.out); go_simp
      try simp only [List.getElem_toArray, List.getElem_cons_zero, List.getElem_cons_succ, Act.put, List.setIfInBounds_toArray, List.set_cons_zero, List.set_cons_succ]
      refine wpAnyH_ready (rs := [9]) (by decide +kernel) (by simp) (AllReadyH.cons rfl (fun KQ hK => ?_) AllReadyH.nil)
      go_simp
      refine (lfunds9 _ (DK.out _ hH).1).mono ?_; rintro e0 U1 ⟨rfl, q1⟩
      have hH1 := hH.grow q1 (by omega)
      refine hK.out _ _ hH1 (fun _ => ?_)
      clear hK q1 hH
      try simp only [List.setIfInBounds_toArray, List.set_cons_zero, List.set_cons_succ]
      refine wpAnyH_ready (rs := [11]) (by decide +kernel) (by simp) (AllReadyH.cons rfl (fun KQ hK => ?_) AllReadyH.nil)
      go_simp
      have LI := (DK.out _ hH1).1.inv
      have LF := LI.fund
      simp only [mF] at LF
      refine (rfunds9 _ (DK.out _ hH1).2 LF (fun a ha => by have := (LI.aok a ha).2; simp only [mF] at this; exact this) (by have := LI.len; omega)).mono ?_; rintro e0 U2 ⟨rfl, rfl⟩
      refine hK.out _ _ hH1 (fun _ => ?_)
      clear hK LI LF
      try simp only [List.setIfInBounds_toArray, List.set_cons_zero, List.set_cons_succ]
      refine wpAnyH_take (i := 12) (v := .bool true) rfl (by kernel_rfl) (by kernel_rfl) (by kernel_rfl) (fun _ _ _ h => h) (.inl ⟨by rfl, ?_⟩) (by assumption) ?_
      · intro W hW; go_simp
      try simp only [List.getElem_toArray, List.getElem_cons_zero, List.getElem_cons_succ, Act.put, List.setIfInBounds_toArray, List.set_cons_zero, List.set_cons_succ]
      refine wpAnyH_take (i := 13) (v := .bool true) rfl (by kernel_rfl) (by kernel_rfl) (by kernel_rfl) (fun _ _ _ h => h) (.inl ⟨by rfl, ?_⟩) (by assumption) ?_
      · intro W hW; go_simp
      try simp only [List.getElem_toArray, List.getElem_cons_zero, List.getElem_cons_succ, Act.put, List.setIfInBounds_toArray, List.set_cons_zero, List.set_cons_succ]
      refine wpAnyH_take (i := 14) (v := .bool true) rfl (by kernel_rfl) (by kernel_rfl) (by kernel_rfl) (fun _ _ _ h => h) (.inl ⟨by rfl, ?_⟩) (by assumption) ?_
      · intro W hW; go_simp
      try simp only [List.getElem_toArray, List.getElem_cons_zero, List.getElem_cons_succ, Act.put, List.setIfInBounds_toArray, List.set_cons_zero, List.set_cons_succ]
      refine wpAnyH_take (i := 15) (v := .int .i64 0) rfl (by kernel_rfl) (by kernel_rfl) (by kernel_rfl) (fun _ _ _ h => h) (.inl ⟨by rfl, ?_⟩) (by assumption) ?_
      · intro W hW; go_simp
      try simp only [List.getElem_toArray, List.getElem_cons_zero, List.getElem_cons_succ, Act.put, List.setIfInBounds_toArray, List.set_cons_zero, List.set_cons_succ]
      refine wpAnyH_take (i := 16) (v := .bool true) rfl (by kernel_rfl) (by kernel_rfl) (by kernel_rfl) (fun _ _ _ h => h) (.inl ⟨by rfl, ?_⟩) (by assumption) ?_
      · intro W hW; go_simp
      try simp only [List.getElem_toArray, List.getElem_cons_zero, List.getElem_cons_succ, Act.put, List.setIfInBounds_toArray, List.set_cons_zero, List.set_cons_succ]
      refine wpAnyH_take (i := 17) (v := .bool true) rfl (by kernel_rfl) (by kernel_rfl) (by kernel_rfl) (fun _ _ _ h => h) (.inl ⟨by rfl, ?_⟩) (by assumption) ?_
      · intro W hW; go_simp
      try simp only [List.getElem_toArray, List.getElem_cons_zero, List.getElem_cons_succ, Act.put, List.setIfInBounds_toArray, List.set_cons_zero, List.set_cons_succ]
      refine wpAnyH_take (i := 18) (v := .bool true) rfl (by kernel_rfl) (by kernel_rfl) (by kernel_rfl) (fun _ _ _ h => h) (.inl ⟨by rfl, ?_⟩) (by assumption) ?_
      · intro W hW; go_simp
      try simp only [List.getElem_toArray, List.getElem_cons_zero, List.getElem_cons_succ, Act.put, List.setIfInBounds_toArray, List.set_cons_zero, List.set_cons_succ]
      refine wpAnyH_take (i := 19) (v := .agg (EA.cells zf).toArray) rfl (by kernel_rfl) (by kernel_rfl) (by kernel_rfl) (fun _ _ _ h => h) (gyields_load TA (by rfl) (.tmp 10) rfl W7.heap.size 0 rfl (fun U hU => gbx_rng (show EA.Bx 33 U W7.heap.size zf from (hU.fr.at' _ hl8 (by omega)).trans F8.out))) (by assumption) ?_
      try simp only [List.getElem_toArray, List.getElem_cons_zero, List.getElem_cons_succ, Act.put, List.setIfInBounds_toArray, List.set_cons_zero, List.set_cons_succ]
      refine wpAnyH_take (i := 20) (v := .pointer (some ⟨gr, 0, none⟩)) rfl (by kernel_rfl) (by kernel_rfl) (by kernel_rfl) (fun _ _ _ h => h) (.inl ⟨by rfl, ?_⟩) (by assumption) ?_
      · intro W hW; have c1 := hW.cell (by omega) (by omega) (obj_cellE K18.out); go_simp
      try simp only [List.getElem_toArray, List.getElem_cons_zero, List.getElem_cons_succ, Act.put, List.setIfInBounds_toArray, List.set_cons_zero, List.set_cons_succ]
      refine wpAnyH_take (i := 21) (v := .pointer (some ⟨gr, 0, none⟩)) rfl (by kernel_rfl) (by kernel_rfl) (by kernel_rfl) (fun _ _ _ h => h) (.inl ⟨by rfl, ?_⟩) (by assumption) ?_
      · intro W hW; have c1 := (V1U.out W hW).2; go_simp
      try simp only [List.getElem_toArray, List.getElem_cons_zero, List.getElem_cons_succ, Act.put, List.setIfInBounds_toArray, List.set_cons_zero, List.set_cons_succ]
      refine wpAnyH_take (i := 22) (v := .pointer (some ⟨gr, 0, none⟩)) rfl (by kernel_rfl) (by kernel_rfl) (by kernel_rfl) (fun _ _ _ h => h) (.inl ⟨by rfl, ?_⟩) (by assumption) ?_
      · intro W hW; go_simp
      try simp only [List.getElem_toArray, List.getElem_cons_zero, List.getElem_cons_succ, Act.put, List.setIfInBounds_toArray, List.set_cons_zero, List.set_cons_succ]
      refine wpAnyH_take (i := 23) (v := .int .i64 fd) rfl (by kernel_rfl) (by kernel_rfl) (by kernel_rfl) (fun _ _ _ h => h) (.inl ⟨by rfl, ?_⟩) (by assumption) ?_
      · intro W hW; have c1 := (V1U.out W hW).2; go_simp
      try simp only [List.getElem_toArray, List.getElem_cons_zero, List.getElem_cons_succ, Act.put, List.setIfInBounds_toArray, List.set_cons_zero, List.set_cons_succ]
      refine wpAnyH_take (i := 24) (v := .agg (EA.cells zf).toArray) rfl (by kernel_rfl) (by kernel_rfl) (by kernel_rfl) (fun _ _ _ h => h) (.inl ⟨by rfl, ?_⟩) (by assumption) ?_
      · intro W hW; rw [HZF.out]; go_simp; rfl
      try simp only [List.getElem_toArray, List.getElem_cons_zero, List.getElem_cons_succ, Act.put, List.setIfInBounds_toArray, List.set_cons_zero, List.set_cons_succ]
      obtain ⟨b2, hb2⟩ : ∃ b, eqAc9 zf zf = b := ⟨_, rfl⟩
      refine wpAnyH_take (i := 25) (v := .bool b2) rfl (by kernel_rfl) (by kernel_rfl) (by kernel_rfl) (fun _ _ _ h => h) (by rw [← hb2]; exact yields_eql_ac9 (by rfl) (.tmp 100) (.tmp 105) rfl ZOK.out ZOK.out rfl rfl) (by assumption) ?_
      try simp only [List.getElem_toArray, List.getElem_cons_zero, List.getElem_cons_succ, Act.put, List.setIfInBounds_toArray, List.set_cons_zero, List.set_cons_succ]
      obtain rfl : b2 = true := hb2.symm.trans (eqAc9_yes zf)
      refine wpAnyH_take (i := 26) (v := .bool true) rfl (by kernel_rfl) (by kernel_rfl) (by kernel_rfl) (fun _ _ _ h => h) (.inl ⟨by rfl, ?_⟩) (by assumption) ?_
      · intro W hW; go_simp
      try simp only [List.getElem_toArray, List.getElem_cons_zero, List.getElem_cons_succ, Act.put, List.setIfInBounds_toArray, List.set_cons_zero, List.set_cons_succ]
      refine wpAnyH_ready (rs := [27]) (by decide +kernel) (by simp) (AllReadyH.cons rfl (fun KQ hK => ?_) AllReadyH.nil)
      obtain ⟨b6, hb6⟩ := hH1.r
      have c6 := obj_cellE hb6
      have f6 := obj_fzE hb6 0
      go_simp
      have hH2 := hH1.put true
      have R7 := heap_setCell_same _ (w.heap.size + 2) 0 _ _ (.bool true) hb6
      have HH2 := Lib.hid hH2
      have HR7 := Lib.hid R7
      refine hK.out _ _ hH2 (fun _ => ?_)
      clear hK hH1 hb6 c6 f6 R7 hH2
      try simp only [List.setIfInBounds_toArray, List.set_cons_zero, List.set_cons_succ]
      refine wpAnyH_done (by decide +kernel) ?_ _
      go_wp2_with fail
      have hde := HDE.out
      refine ret_marks [D2, D] rfl ?_ ?_ (ret_cellE rfl _ _ (w.heap.size + 2) true rfl ?_) ⟨rfl, ?_⟩
      · simp; omega
      · intro E hE
        simp only [List.mem_cons, List.not_mem_nil, or_false] at hE
        rcases hE with rfl | rfl
        · exact (HH2.out.fr.at' _ (Array.getElem?_eq_some_iff.1 M8.out.1).1 (by omega)).trans M8.out.1
        · exact (HH2.out.fr.at' _ (Array.getElem?_eq_some_iff.1 M8.out.2).1 (by omega)).trans M8.out.2
      · rw [cell_of_row _ _ _ _ _ _ ((unmark_other [D2, D] _ (w.heap.size + 2) (by simp; omega)).trans HR7.out)]; rfl
      · have BF := below_frE BW8.out HH2.out.fr (fun k hk cc => by rcases cc with c | c <;> omega)
        refine unmark_below [D2, D] _ _ _ ?_ BF.size BF
        intro E hE
        simp only [List.mem_cons, List.not_mem_nil, or_false] at hE
        rcases hE with rfl | rfl <;> omega
    case stop2 =>
      rintro D2 c2 pre2 W hD2 hS2 ⟨rfl, hF⟩ hK2
      apply wpIn_exit
      have K6 : Hid (W.heap[D]? = some (.deferred (some []))) := Lib.hid ((hF.block D hDl).trans K5.out)
      have KE := Lib.hid hK2
      have HDE : Hid (W5.heap.size ≤ D2) := Lib.hid hD2
      have BW6 : Hid (Below w.heap.size w W) := Lib.hid (BW5.out.trans (hF.mono BW5.out.size))
      have h6 : Hid (∀ k o, k < W3.heap.size → k ≠ w.heap.size + 3 → W3.heap[k]? = some o → W.heap[k]? = some o) := Lib.hid (fun k o hk hn e => (hF.block k (by omega)).trans ((H5.out.at' k hk hn).trans e))
      have N6 : Hid (W.heap[w.heap.size + 3]? = some (.cells #[.int .i64 (n : Int)] 3 (0, 0))) := Lib.hid ((hF.block _ (by omega)).trans H5.out.sm)
      have c0 : W.cell? ⟨w.heap.size, 0, none⟩ = some (.pointer (some ⟨g, 0, none⟩)) := obj_cellE (h6.out _ _ (by omega) (by omega) E3.out.1)
      have SW : Hid (W5.heap.size ≤ W.heap.size) := Lib.hid hF.size
      have dW : D2 < W.heap.size := (Array.getElem?_eq_some_iff.1 KE.out).1
      have dW1 : D < W.heap.size := (Array.getElem?_eq_some_iff.1 K6.out).1
      clear hF hK2 hD2 H5 K5 BW5
      have GT := lget9 0 W (DL.out W BW6.out) ⟨by decide, by decide⟩
      rw [getL_zero] at GT
      have GTH := Lib.hid GT
      clear GT
      go_wp2_with fail
      refine GTH.out.mono ?_; rintro e0 W7 ⟨rfl, q7⟩
      have Q7 := Lib.hid q7
      have hq7 := q7.size
      have hsw := SW.out
      obtain ⟨fd, hfd⟩ : ∃ fd, L.fund = fd := ⟨_, rfl⟩
      rw [hfd]
      have HFD := Lib.hid hfd
      obtain ⟨zf, hzf⟩ : ∃ zf : Ac, zf = ⟨0, fd, false, false⟩ := ⟨_, rfl⟩
      rw [← hzf]
      have HZF := Lib.hid hzf
      have HZ := Lib.hid (gbx_new (E := EA) (te := 33) W7 zeroAc)
      clear q7 GTH c0 hfd hzf
      go_wp2_with (refine gwl_store TA zf W7.heap.size HZ.out rfl rfl ?_)
      obtain ⟨W8, hW8⟩ : ∃ W8, (W7.alloc (.cells (EA.cells zeroAc).toArray 33)).setRow W7.heap.size (EA.cells zf).toArray = W8 := ⟨_, rfl⟩
      have Q8 : Hid (Below W7.heap.size W7 W8) := Lib.hid (hW8 ▸ below_row0 (below_new W7 _) (Nat.le_refl _))
      have F8 : Hid (EA.Bx 33 W8 W7.heap.size zf) := Lib.hid (hW8 ▸ gbx_set HZ.out)
      rw [hW8]
      clear hW8 HZ
      have B68 : Hid (Below W.heap.size W W8) := Lib.hid (Q7.out.trans (Q8.out.mono hq7))
      have BW8 : Hid (Below w.heap.size w W8) := Lib.hid (BW6.out.trans (B68.out.mono BW6.out.size))
      have hb8 := B68.out.size
      have hl8 : W7.heap.size < W8.heap.size := (Array.getElem?_eq_some_iff.1 F8.out).1
      have K08 : Hid (W8.heap[w.heap.size]? = some (.cells #[.pointer (some ⟨g, 0, none⟩)] 23 (0, 0))) := Lib.hid ((B68.out.block _ (by omega)).trans (h6.out _ _ (by omega) (by omega) E3.out.1))
      have K18 : Hid (W8.heap[w.heap.size + 1]? = some (.cells #[.pointer (some ⟨gr, 0, none⟩)] 25 (0, 0))) := Lib.hid ((B68.out.block _ (by omega)).trans (h6.out _ _ (by omega) (by omega) E3.out.2.1))
      have R8 : Hid (W8.heap[w.heap.size + 2]? = some (.cells #[.bool false] 4 (0, 0))) := Lib.hid ((B68.out.block _ (by omega)).trans (h6.out _ _ (by omega) (by omega) E3.out.2.2.1))
      have N8 : Hid (W8.heap[w.heap.size + 3]? = some (.cells #[.int .i64 (n : Int)] 3 (0, 0))) := Lib.hid ((B68.out.block _ (by omega)).trans N6.out)
      have M8 : Hid (W8.heap[D2]? = some (.deferred (some [])) ∧ W8.heap[D]? = some (.deferred (some []))) := Lib.hid ⟨(B68.out.block _ dW).trans KE.out, (B68.out.block _ dW1).trans K6.out⟩
      have DK : Hid (∀ U, SfE W8 (w.heap.size + 2) U → Dl U g ba bp L ∧ Rl U B gr va vh L) := Lib.hid (fun U hU => by
        have b := below_frE BW8.out hU.fr (fun k hk cc => by rcases cc with c | c <;> omega)
        exact ⟨DL.out U b, RL.out U b⟩)
      have heq : ((n : Int) == (n : Int)) = true := by simp
      have ZOK : Hid (zf.ok) := Lib.hid (by
        have h := (DL.out W BW6.out).inv.fund
        rw [HFD.out] at h
        simp only [mF] at h
        rw [HZF.out]
        exact ⟨by show (0 : Int) ≤ 0 ∧ (0 : Int) ≤ 4294967295; omega, by show -9223372036854775808 ≤ fd ∧ fd ≤ 9223372036854775807; omega⟩)
      have V1U : Hid (∀ U, SfE W8 (w.heap.size + 2) U → U.cell? ⟨gr, 1, none⟩ = some (.slice A n cp) ∧ U.cell? ⟨gr, 0, none⟩ = some (.int .i64 fd)) := Lib.hid (fun U hU => by
        have b := below_frE BW8.out hU.fr (fun k hk cc => by rcases cc with c | c <;> omega)
        exact ⟨V1.out U b, by rw [← HFD.out]; exact V0.out U b⟩)
      clear KE K6 N6 h6 BW6 Q7 Q8
      try go_wp2_with fail
      refine wp_region_held_drew (S := SfE W8 (w.heap.size + 2)) (by kernel_rfl) ⟨⟨(Below.refl 0 W8).drew, fun _ _ _ => rfl⟩, false, R8.out⟩ (fun hH => ?_)
      refine wpAnyH_take (i := 0) (v := .int .i64 (n : Int)) rfl (by kernel_rfl) (by kernel_rfl) (by kernel_rfl) (fun _ _ _ h => h) (.inl ⟨by rfl, ?_⟩) (by assumption) ?_
      · intro W hW; have c1 := hW.cell (by omega) (by omega) (obj_cellE N8.out); go_simp
      try simp only [List.getElem_toArray, List.getElem_cons_zero, List.getElem_cons_succ, Act.put, List.setIfInBounds_toArray, List.set_cons_zero, List.set_cons_succ]
      refine wpAnyH_take (i := 1) (v := .pointer (some ⟨gr, 0, none⟩)) rfl (by kernel_rfl) (by kernel_rfl) (by kernel_rfl) (fun _ _ _ h => h) (.inl ⟨by rfl, ?_⟩) (by assumption) ?_
      · intro W hW; have c1 := hW.cell (by omega) (by omega) (obj_cellE K18.out); go_simp
      try simp only [List.getElem_toArray, List.getElem_cons_zero, List.getElem_cons_succ, Act.put, List.setIfInBounds_toArray, List.set_cons_zero, List.set_cons_succ]
      refine wpAnyH_take (i := 2) (v := .pointer (some ⟨gr, 0, none⟩)) rfl (by kernel_rfl) (by kernel_rfl) (by kernel_rfl) (fun _ _ _ h => h) (.inl ⟨by rfl, ?_⟩) (by assumption) ?_
      · intro W hW; have c1 := (V1U.out W hW).1; go_simp
      try simp only [List.getElem_toArray, List.getElem_cons_zero, List.getElem_cons_succ, Act.put, List.setIfInBounds_toArray, List.set_cons_zero, List.set_cons_succ]
      refine wpAnyH_take (i := 3) (v := .pointer (some ⟨gr, 1, none⟩)) rfl (by kernel_rfl) (by kernel_rfl) (by kernel_rfl) (fun _ _ _ h => h) (.inl ⟨by rfl, ?_⟩) (by assumption) ?_
      · intro W hW; go_simp
      try simp only [List.getElem_toArray, List.getElem_cons_zero, List.getElem_cons_succ, Act.put, List.setIfInBounds_toArray, List.set_cons_zero, List.set_cons_succ]
      refine wpAnyH_take (i := 4) (v := .slice A n cp) rfl (by kernel_rfl) (by kernel_rfl) (by kernel_rfl) (fun _ _ _ h => h) (.inl ⟨by rfl, ?_⟩) (by assumption) ?_
      · intro W hW; have c1 := (V1U.out W hW).1; go_simp
      try simp only [List.getElem_toArray, List.getElem_cons_zero, List.getElem_cons_succ, Act.put, List.setIfInBounds_toArray, List.set_cons_zero, List.set_cons_succ]
      refine wpAnyH_take (i := 5) (v := .int .i64 (n : Int)) rfl (by kernel_rfl) (by kernel_rfl) (by kernel_rfl) (fun _ _ _ h => h) (.inl ⟨by rfl, ?_⟩) (by assumption) ?_
      · intro W hW; go_simp
      try simp only [List.getElem_toArray, List.getElem_cons_zero, List.getElem_cons_succ, Act.put, List.setIfInBounds_toArray, List.set_cons_zero, List.set_cons_succ]
      refine wpAnyH_take (i := 6) (v := .bool true) rfl (by kernel_rfl) (by kernel_rfl) (by kernel_rfl) (fun _ _ _ h => h) (.inl ⟨by rfl, ?_⟩) (by assumption) ?_
      · intro W hW; go_simp
      try simp only [List.getElem_toArray, List.getElem_cons_zero, List.getElem_cons_succ, Act.put, List.setIfInBounds_toArray, List.set_cons_zero, List.set_cons_succ]
      refine wpAnyH_take (i := 7) (v := .bool true) rfl (by kernel_rfl) (by kernel_rfl) (by kernel_rfl) (fun _ _ _ h => h) (.inl ⟨by rfl, ?_⟩) (by assumption) ?_
      · intro W hW; go_simp
      try simp only [List.getElem_toArray, List.getElem_cons_zero, List.getElem_cons_succ, Act.put, List.setIfInBounds_toArray, List.set_cons_zero, List.set_cons_succ]
      refine wpAnyH_take (i := 8) (v := .pointer (some ⟨g, 0, none⟩)) rfl (by kernel_rfl) (by kernel_rfl) (by kernel_rfl) (fun _ _ _ h => h) (.inl ⟨by rfl, ?_⟩) (by assumption) ?_
      · intro W hW; have c1 := hW.cell (by omega) (by omega) (obj_cellE K08.out); go_simp
      try simp only [List.getElem_toArray, List.getElem_cons_zero, List.getElem_cons_succ, Act.put, List.setIfInBounds_toArray, List.set_cons_zero, List.set_cons_succ]
      refine wpAnyH_take (i := 10) (v := .pointer (some ⟨gr, 0, none⟩)) rfl (by kernel_rfl) (by kernel_rfl) (by kernel_rfl) (fun _ _ _ h => h) (.inl ⟨by rfl, ?_⟩) (by assumption) ?_
      · intro W hW; have c1 := hW.cell (by omega) (by omega) (obj_cellE K18.out); go_simp
      try simp only [List.getElem_toArray, List.getElem_cons_zero, List.getElem_cons_succ, Act.put, List.setIfInBounds_toArray, List.set_cons_zero, List.set_cons_succ]
      refine wpAnyH_ready (rs := [9]) (by decide +kernel) (by simp) (AllReadyH.cons rfl (fun KQ hK => ?_) AllReadyH.nil)
      go_simp
      refine (lfunds9 _ (DK.out _ hH).1).mono ?_; rintro e0 U1 ⟨rfl, q1⟩
      have hH1 := hH.grow q1 (by omega)
      refine hK.out _ _ hH1 (fun _ => ?_)
      clear hK q1 hH
      try simp only [List.setIfInBounds_toArray, List.set_cons_zero, List.set_cons_succ]
      refine wpAnyH_ready (rs := [11]) (by decide +kernel) (by simp) (AllReadyH.cons rfl (fun KQ hK => ?_) AllReadyH.nil)
      go_simp
      have LI := (DK.out _ hH1).1.inv
      have LF := LI.fund
      simp only [mF] at LF
      refine (rfunds9 _ (DK.out _ hH1).2 LF (fun a ha => by have := (LI.aok a ha).2; simp only [mF] at this; exact this) (by have := LI.len; omega)).mono ?_; rintro e0 U2 ⟨rfl, rfl⟩
      refine hK.out _ _ hH1 (fun _ => ?_)
      clear hK LI LF
      try simp only [List.setIfInBounds_toArray, List.set_cons_zero, List.set_cons_succ]
      refine wpAnyH_take (i := 12) (v := .bool true) rfl (by kernel_rfl) (by kernel_rfl) (by kernel_rfl) (fun _ _ _ h => h) (.inl ⟨by rfl, ?_⟩) (by assumption) ?_
      · intro W hW; go_simp
      try simp only [List.getElem_toArray, List.getElem_cons_zero, List.getElem_cons_succ, Act.put, List.setIfInBounds_toArray, List.set_cons_zero, List.set_cons_succ]
      refine wpAnyH_take (i := 13) (v := .bool true) rfl (by kernel_rfl) (by kernel_rfl) (by kernel_rfl) (fun _ _ _ h => h) (.inl ⟨by rfl, ?_⟩) (by assumption) ?_
      · intro W hW; go_simp
      try simp only [List.getElem_toArray, List.getElem_cons_zero, List.getElem_cons_succ, Act.put, List.setIfInBounds_toArray, List.set_cons_zero, List.set_cons_succ]
      refine wpAnyH_take (i := 14) (v := .bool true) rfl (by kernel_rfl) (by kernel_rfl) (by kernel_rfl) (fun _ _ _ h => h) (.inl ⟨by rfl, ?_⟩) (by assumption) ?_
      · intro W hW; go_simp
      try simp only [List.getElem_toArray, List.getElem_cons_zero, List.getElem_cons_succ, Act.put, List.setIfInBounds_toArray, List.set_cons_zero, List.set_cons_succ]
      refine wpAnyH_take (i := 15) (v := .int .i64 0) rfl (by kernel_rfl) (by kernel_rfl) (by kernel_rfl) (fun _ _ _ h => h) (.inl ⟨by rfl, ?_⟩) (by assumption) ?_
      · intro W hW; go_simp
      try simp only [List.getElem_toArray, List.getElem_cons_zero, List.getElem_cons_succ, Act.put, List.setIfInBounds_toArray, List.set_cons_zero, List.set_cons_succ]
      refine wpAnyH_take (i := 16) (v := .bool true) rfl (by kernel_rfl) (by kernel_rfl) (by kernel_rfl) (fun _ _ _ h => h) (.inl ⟨by rfl, ?_⟩) (by assumption) ?_
      · intro W hW; go_simp
      try simp only [List.getElem_toArray, List.getElem_cons_zero, List.getElem_cons_succ, Act.put, List.setIfInBounds_toArray, List.set_cons_zero, List.set_cons_succ]
      refine wpAnyH_take (i := 17) (v := .bool true) rfl (by kernel_rfl) (by kernel_rfl) (by kernel_rfl) (fun _ _ _ h => h) (.inl ⟨by rfl, ?_⟩) (by assumption) ?_
      · intro W hW; go_simp
      try simp only [List.getElem_toArray, List.getElem_cons_zero, List.getElem_cons_succ, Act.put, List.setIfInBounds_toArray, List.set_cons_zero, List.set_cons_succ]
      refine wpAnyH_take (i := 18) (v := .bool true) rfl (by kernel_rfl) (by kernel_rfl) (by kernel_rfl) (fun _ _ _ h => h) (.inl ⟨by rfl, ?_⟩) (by assumption) ?_
      · intro W hW; go_simp
      try simp only [List.getElem_toArray, List.getElem_cons_zero, List.getElem_cons_succ, Act.put, List.setIfInBounds_toArray, List.set_cons_zero, List.set_cons_succ]
      refine wpAnyH_take (i := 19) (v := .agg (EA.cells zf).toArray) rfl (by kernel_rfl) (by kernel_rfl) (by kernel_rfl) (fun _ _ _ h => h) (gyields_load TA (by rfl) (.tmp 10) rfl W7.heap.size 0 rfl (fun U hU => gbx_rng (show EA.Bx 33 U W7.heap.size zf from (hU.fr.at' _ hl8 (by omega)).trans F8.out))) (by assumption) ?_
      try simp only [List.getElem_toArray, List.getElem_cons_zero, List.getElem_cons_succ, Act.put, List.setIfInBounds_toArray, List.set_cons_zero, List.set_cons_succ]
      refine wpAnyH_take (i := 20) (v := .pointer (some ⟨gr, 0, none⟩)) rfl (by kernel_rfl) (by kernel_rfl) (by kernel_rfl) (fun _ _ _ h => h) (.inl ⟨by rfl, ?_⟩) (by assumption) ?_
      · intro W hW; have c1 := hW.cell (by omega) (by omega) (obj_cellE K18.out); go_simp
      try simp only [List.getElem_toArray, List.getElem_cons_zero, List.getElem_cons_succ, Act.put, List.setIfInBounds_toArray, List.set_cons_zero, List.set_cons_succ]
      refine wpAnyH_take (i := 21) (v := .pointer (some ⟨gr, 0, none⟩)) rfl (by kernel_rfl) (by kernel_rfl) (by kernel_rfl) (fun _ _ _ h => h) (.inl ⟨by rfl, ?_⟩) (by assumption) ?_
      · intro W hW; have c1 := (V1U.out W hW).2; go_simp
      try simp only [List.getElem_toArray, List.getElem_cons_zero, List.getElem_cons_succ, Act.put, List.setIfInBounds_toArray, List.set_cons_zero, List.set_cons_succ]
      refine wpAnyH_take (i := 22) (v := .pointer (some ⟨gr, 0, none⟩)) rfl (by kernel_rfl) (by kernel_rfl) (by kernel_rfl) (fun _ _ _ h => h) (.inl ⟨by rfl, ?_⟩) (by assumption) ?_
      · intro W hW; go_simp
      try simp only [List.getElem_toArray, List.getElem_cons_zero, List.getElem_cons_succ, Act.put, List.setIfInBounds_toArray, List.set_cons_zero, List.set_cons_succ]
      refine wpAnyH_take (i := 23) (v := .int .i64 fd) rfl (by kernel_rfl) (by kernel_rfl) (by kernel_rfl) (fun _ _ _ h => h) (.inl ⟨by rfl, ?_⟩) (by assumption) ?_
      · intro W hW; have c1 := (V1U.out W hW).2; go_simp
      try simp only [List.getElem_toArray, List.getElem_cons_zero, List.getElem_cons_succ, Act.put, List.setIfInBounds_toArray, List.set_cons_zero, List.set_cons_succ]
      refine wpAnyH_take (i := 24) (v := .agg (EA.cells zf).toArray) rfl (by kernel_rfl) (by kernel_rfl) (by kernel_rfl) (fun _ _ _ h => h) (.inl ⟨by rfl, ?_⟩) (by assumption) ?_
      · intro W hW; rw [HZF.out]; go_simp; rfl
      try simp only [List.getElem_toArray, List.getElem_cons_zero, List.getElem_cons_succ, Act.put, List.setIfInBounds_toArray, List.set_cons_zero, List.set_cons_succ]
      obtain ⟨b2, hb2⟩ : ∃ b, eqAc9 zf zf = b := ⟨_, rfl⟩
      refine wpAnyH_take (i := 25) (v := .bool b2) rfl (by kernel_rfl) (by kernel_rfl) (by kernel_rfl) (fun _ _ _ h => h) (by rw [← hb2]; exact yields_eql_ac9 (by rfl) (.tmp 100) (.tmp 105) rfl ZOK.out ZOK.out rfl rfl) (by assumption) ?_
      try simp only [List.getElem_toArray, List.getElem_cons_zero, List.getElem_cons_succ, Act.put, List.setIfInBounds_toArray, List.set_cons_zero, List.set_cons_succ]
      obtain rfl : b2 = true := hb2.symm.trans (eqAc9_yes zf)
      refine wpAnyH_take (i := 26) (v := .bool true) rfl (by kernel_rfl) (by kernel_rfl) (by kernel_rfl) (fun _ _ _ h => h) (.inl ⟨by rfl, ?_⟩) (by assumption) ?_
      · intro W hW; go_simp
      try simp only [List.getElem_toArray, List.getElem_cons_zero, List.getElem_cons_succ, Act.put, List.setIfInBounds_toArray, List.set_cons_zero, List.set_cons_succ]
      refine wpAnyH_ready (rs := [27]) (by decide +kernel) (by simp) (AllReadyH.cons rfl (fun KQ hK => ?_) AllReadyH.nil)
      obtain ⟨b6, hb6⟩ := hH1.r
      have c6 := obj_cellE hb6
      have f6 := obj_fzE hb6 0
      go_simp
      have hH2 := hH1.put true
      have R7 := heap_setCell_same _ (w.heap.size + 2) 0 _ _ (.bool true) hb6
      have HH2 := Lib.hid hH2
      have HR7 := Lib.hid R7
      refine hK.out _ _ hH2 (fun _ => ?_)
      clear hK hH1 hb6 c6 f6 R7 hH2
      try simp only [List.setIfInBounds_toArray, List.set_cons_zero, List.set_cons_succ]
      refine wpAnyH_done (by decide +kernel) ?_ _
      go_wp2_with fail
      have hde := HDE.out
      refine ret_marks [D2, D] rfl ?_ ?_ (ret_cellE rfl _ _ (w.heap.size + 2) true rfl ?_) ⟨rfl, ?_⟩
      · simp; omega
      · intro E hE
        simp only [List.mem_cons, List.not_mem_nil, or_false] at hE
        rcases hE with rfl | rfl
        · exact (HH2.out.fr.at' _ (Array.getElem?_eq_some_iff.1 M8.out.1).1 (by omega)).trans M8.out.1
        · exact (HH2.out.fr.at' _ (Array.getElem?_eq_some_iff.1 M8.out.2).1 (by omega)).trans M8.out.2
      · rw [cell_of_row _ _ _ _ _ _ ((unmark_other [D2, D] _ (w.heap.size + 2) (by simp; omega)).trans HR7.out)]; rfl
      · have BF := below_frE BW8.out HH2.out.fr (fun k hk cc => by rcases cc with c | c <;> omega)
        refine unmark_below [D2, D] _ _ _ ?_ BF.size BF
        intro E hE
        simp only [List.mem_cons, List.not_mem_nil, or_false] at hE
        rcases hE with rfl | rfl <;> omega
end Go.Proofs.Ythnmpnepgagmmaa
