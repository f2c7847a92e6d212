/- The statements' 'holders' of stage 9 (by genOe.py). -/
import Derived.Test.YthnmpnepgagmmaaOd
import Derived.Test.YthnmpnepgagmmaaMq
import Derived.Test.YthnmpnepgagmmaaLa
import Derived.Test.YthnmpnepgagmmaaRi
import Derived.Test.YthnmpnepgagmmaaDe
namespace Go.Proofs.Ythnmpnepgagmmaa
open Go.RowKit Go.Shelf
set_option linter.unusedVariables false
set_option linter.unusedSimpArgs false

/-- Within a loop: what lies there stays, but the cell that counts. -/
structure Iw9 (W0 : World) (N : Nat) (o : Obj) (W : World) : Prop where
  at' : ∀ k, k < W0.heap.size → k ≠ N → W.heap[k]? = W0.heap[k]?
  sm : W.heap[N]? = some o
  sz : W0.heap.size ≤ W.heap.size
  b0 : Below 0 W0 W
section
variable {W0 W W' : World} {N B : Nat} {o : Obj}
theorem Iw9.refl (h : W0.heap[N]? = some o) : Iw9 W0 N o W0 := ⟨fun _ _ _ => rfl, h, Nat.le_refl _, Below.refl _ _⟩
theorem Iw9.below (h : Iw9 W0 N o W) (hN : N < W0.heap.size) (b : Below B W W') (hB : W0.heap.size ≤ B) : Iw9 W0 N o W' :=
  ⟨fun k hk hn => (b.block k (by omega)).trans (h.at' k hk hn), (b.block N (by omega)).trans h.sm, Nat.le_trans h.sz b.size, h.b0.trans (b.mono (Nat.zero_le _))⟩
theorem Iw9.grow (h : Iw9 W0 N o W) (hN : N < W0.heap.size) (b : Below W.heap.size W W') : Iw9 W0 N o W' := h.below hN b h.sz
theorem Iw9.drew (h : Iw9 W0 N o W) : Iw9 W0 N o W.drew := ⟨h.at', h.sm, h.sz, h.b0.drew⟩
theorem Iw9.fr (h : Iw9 W0 N o W) : Fr (fun k => k = N ∨ W0.heap.size ≤ k) W0 W := ⟨h.b0, fun k hk hn => h.at' k hk (fun e => hn (.inl e))⟩
theorem Iw9.cell (h : Iw9 W0 N o W) {k j : Nat} {u : Value} (hk : k < W0.heap.size) (hn : k ≠ N) (e : W0.cell? ⟨k, j, none⟩ = some u) : W.cell? ⟨k, j, none⟩ = some u := by rw [← e]; exact World.cell?_of_block (h.at' k hk hn)
end
theorem obj_cellE {W : World} {k : Nat} {u : Value} {t : TypeId} (h : W.heap[k]? = some (.cells #[u] t (0, 0))) : W.cell? ⟨k, 0, none⟩ = some u := by rw [cell_of_row _ _ _ _ _ _ h]; rfl
theorem obj_fzE {W : World} {k : Nat} {cs : Array Value} {t : TypeId} (h : W.heap[k]? = some (.cells cs t (0, 0))) (j : Nat) : W.frozen? ⟨k, j, none⟩ = false := by simp [World.frozen?, h]
theorem two_objE (w : World) (c d : Array Value) (s t : TypeId) : ∃ W2, (w.alloc (.cells c s)).alloc (.cells d t) = W2 ∧ Below w.heap.size w W2 ∧ W2.heap[w.heap.size]? = some (.cells c s (0, 0)) ∧ W2.heap[w.heap.size + 1]? = some (.cells d t (0, 0)) :=
  ⟨_, rfl, ((Below.refl _ w).alloc (Nat.le_refl _) _).alloc (by simp) _, heap_alloc2_old w _ _, heap_alloc2_new w _ _⟩
theorem Iw9.put {W0 W : World} {N : Nat} {u : Value} {t : TypeId} (h : Iw9 W0 N (.cells #[u] t (0, 0)) W) {v : Value} : Iw9 W0 N (.cells #[v] t (0, 0)) (W.setCell ⟨N, 0, none⟩ v) :=
  ⟨fun k hk hn => (heap_setCell_other W ⟨N, 0, none⟩ k v hn).trans (h.at' k hk hn), heap_setCell_same W N 0 _ _ v h.sm, by have := h.sz; simp; omega, h.b0.setCell (Nat.zero_le _) _⟩
theorem intro_uE {T : Array Value} {D : List Deferred} {F : (Nat → Value) → Array Value} (h : F (fun i => T.getD i undef) = T) : ∃ u : Nat → Value, (Act.mk T D) = Act.mk (F u) D := ⟨_, by rw [h]⟩
theorem below_frE {w W U : World} {S : Nat → Prop} (b : Below w.heap.size w W) (f : Fr S W U) (hS : ∀ k, k < w.heap.size → ¬ S k) : Below w.heap.size w U :=
  ⟨f.b0.os.trans b.os, f.b0.tape.trans b.tape, f.b0.output.trans b.output, Nat.le_trans b.size f.size, fun k hk => (f.at' k (Nat.lt_of_lt_of_le hk b.size) (hS k hk)).trans (b.block k hk)⟩
theorem ret_cellE {fn : Func} {p : Tmp} (h : fn.results = #[.cell p 4]) (tmps : Array Value) (w : World) (g : Nat) (b : Bool) (hp : tmps.getD p undef = .pointer (some ⟨g, 0, none⟩)) (hb : w.cell? ⟨g, 0, none⟩ = some (.bool b)) :
    (results fn tmps).run Try.prog w = .ok (.bool b) w := by
  have hp' : tmps[p]?.getD undef = .pointer (some ⟨g, 0, none⟩) := by simpa using hp
  simp [results, h, hp', asAddr, go_sem, hb]
theorem eql_seqPE (gf : Nat) (lb : Array Value) (W : World) : (binOp .eql 73 (.func (.func gf) #[] lb) .nilFunc).run Try.prog W = .ok (.bool false) W := by
  kernel_rfl
theorem eql_seqAE (gf : Nat) (lb : Array Value) (W : World) : (binOp .eql 82 (.func (.func gf) #[] lb) .nilFunc).run Try.prog W = .ok (.bool false) W := by
  kernel_rfl
theorem pre_at {α : Type} {pre ls : List α} {x : α} (h : pre ++ [x] <+: ls) : ls[pre.length]? = some x := by
  obtain ⟨r, rfl⟩ := h
  simp
theorem hok_po {L : Lg} (h : LgI L) {p : Po} (hp : p ∈ L.hl) : p.ok := by
  obtain ⟨⟨h1, h2⟩, ⟨h3, h4⟩, -⟩ := h.pok p hp
  simp only [mQ, mF] at h3 h4
  exact ⟨by omega, by omega, by omega, by omega⟩
theorem hok_ac {L : Lg} (h : LgI L) {p : Ac} (hp : p ∈ L.al) : p.ok := by
  obtain ⟨h1, h2⟩ := h.aok p hp
  simp only [mF] at h2
  exact ⟨by omega, by omega⟩
set_option maxRecDepth 100000 in
set_option maxHeartbeats 16000000 in
theorem holds9 {w : World} {g ba bp B gr : Nat} {va vh : Value} {L : Lg} {c : Int} (hd : Dl w g ba bp L) (hr : Rl w B gr va vh L) (hc : U32' c) (hl : L.hl.length ≤ 4000) :
    Calls Try.prog 24 #[.pointer (some ⟨g, 0, none⟩), .pointer (some ⟨gr, 0, none⟩), .int .u32 c] w fun e w' => e = .returned (.bool true) ∧ Below w.heap.size w w' := by
  obtain ⟨hs, hhs⟩ : ∃ hs, holdersH L.hl c = hs := ⟨_, rfl⟩
  have OKS : Hid (∀ p, p ∈ hs → p.ok) := Lib.hid (fun p hp => by rw [← hhs] at hp; exact hok_po hd.inv (List.mem_filter.1 hp).1)
  have HL : Hid (∀ W, Below w.heap.size w W → Calls Try.prog 40 #[.pointer (some ⟨gr, 0, none⟩), .int .u32 c] W fun e w' => ∃ v', e = .returned v' ∧ EP.Own 47 w' W.heap.size v' hs ∧ Below W.heap.size W w') := Lib.hid (fun W q => by
    have h := rholders9 c W (hr.below q) hc (by omega)
    have e : (L.hl.filter fun x => x.co == c) = hs := hhs
    rw [e] at h; exact h)
  obtain ⟨n, hn⟩ : ∃ n, hs.length = n := ⟨_, rfl⟩
  have LEN : Hid (n ≤ 4000) := Lib.hid (by rw [← hn, ← hhs]; exact Nat.le_trans (List.length_filter_le _ _) hl)
  have HOL : Hid (∀ W, Below w.heap.size w W → Dl W g ba bp L) := Lib.hid (fun W q => hd.below q)
  have LTW : Hid (∀ k, LdS g ba bp k → k < w.heap.size) := Lib.hid (fun k hk => hd.lt hk)
  have HHS := Lib.hid hhs
  have HN := Lib.hid hn
  have HC := Lib.hid hc
  have EQ := eql_seqPE
  have hz := zero_po
  obtain ⟨W0, hW0⟩ : ∃ W0, w.alloc (.cells #[.bool false] 4) = W0 := ⟨_, rfl⟩
  have b0 : Below w.heap.size w W0 := hW0 ▸ below_new w _
  have r0 : W0.heap[w.heap.size]? = some (.cells #[.bool false] 4 (0, 0)) := hW0 ▸ heap_alloc_new w _
  have HW0 := Lib.hid hW0
  have B0 := Lib.hid b0
  have R0 := Lib.hid r0
  clear hd hr hW0 b0 r0 hl hc hhs hn
  refine calls_marks Try.func24 rfl ?_
  simp only [Try.ntmps24, List.size_toArray, List.length_cons, List.length_nil, Nat.reduceAdd, Nat.reduceSub, Array.replicate_succ, Array.replicate_zero, List.push_toArray, List.append_toArray, List.nil_append, List.cons_append]
  go_wp2_with fail
  rw [HW0.out]
  refine (HL.out W0 B0.out).mono ?_; rintro e W1 ⟨v', rfl, ho, q1⟩
  obtain ⟨A, cp, rfl, hA⟩ := gown_form ho
  rw [HN.out] at ho ⊢
  have OW := Lib.hid ho
  have Q1 := Lib.hid q1
  clear ho q1 hA
  go_wp2_with fail
  obtain ⟨W2, hW2, b2, l2, n2⟩ := two_objE W1 #[.slice A n cp] #[.int .i64 0] 27 3
  rw [hW2]
  have B2 : Hid (Below w.heap.size w W2) := Lib.hid ((B0.out.trans (Q1.out.mono B0.out.size)).trans (b2.mono (Nat.le_trans B0.out.size Q1.out.size)))
  have L2 := Lib.hid l2
  have N2 := Lib.hid n2
  have R2 : Hid (W2.heap[w.heap.size]? = some (.cells #[.bool false] 4 (0, 0))) := Lib.hid ((b2.block _ (by have := Q1.out.size; have := (Array.getElem?_eq_some_iff.1 R0.out).1; omega)).trans ((Q1.out.block _ (Array.getElem?_eq_some_iff.1 R0.out).1).trans R0.out))
  have O2 : Hid (EP.Own 47 W2 W0.heap.size (.slice A n cp) hs) := Lib.hid (gown_below OW.out b2)
  have R1L : Hid (w.heap.size < W1.heap.size) := Lib.hid (by have := Q1.out.size; have := (Array.getElem?_eq_some_iff.1 R0.out).1; omega)
  clear hW2 b2 l2 n2
  refine (lholders9 (HOL.out W2 B2.out) HC.out).mono ?_; rintro e W2' ⟨gf1, lb1, T1, rfl, p1, -, -, -⟩
  have P1 := Lib.hid p1
  clear p1
  go_wp2_with fail
  refine (lholders9 (HOL.out W2' (B2.out.trans (P1.out.mono B2.out.size))) HC.out).mono ?_; rintro e W3 ⟨gf, lb, T, rfl, p2, en, hT, tell⟩
  rw [HHS.out] at tell
  have B3 : Hid (Below W2.heap.size W2 W3) := Lib.hid (P1.out.trans (p2.mono P1.out.size))
  have TL := Lib.hid tell
  have EN := Lib.hid en
  have HT := Lib.hid hT
  have S2 : Hid (W2.heap.size ≤ W2'.heap.size) := Lib.hid P1.out.size
  have NL : Hid (W1.heap.size + 1 < W2.heap.size) := Lib.hid (Array.getElem?_eq_some_iff.1 N2.out).1
  clear p2 en hT tell P1
  go_wp2_with fail
  refine (wpIn_wide (n := 9)).1 ?_
  have hnl := NL.out
  have hs3 := B3.out.size
  have hs2 := S2.out
  have hr1 := R1L.out
  have N3 : Hid (W3.heap[W1.heap.size + 1]? = some (.cells #[.int .i64 0] 3 (0, 0))) := Lib.hid ((B3.out.block _ hnl).trans N2.out)
  have L3 : Hid (W3.heap[W1.heap.size]? = some (.cells #[.slice A n cp] 27 (0, 0))) := Lib.hid ((B3.out.block _ (by omega)).trans L2.out)
  have R3 : Hid (W3.heap[w.heap.size]? = some (.cells #[.bool false] 4 (0, 0))) := Lib.hid ((B3.out.block _ (by omega)).trans R2.out)
  have O3 : Hid (EP.Own 47 W3 W0.heap.size (.slice A n cp) hs) := Lib.hid (gown_below O2.out B3.out)
  have BW3 : Hid (Below w.heap.size w W3) := Lib.hid (B2.out.trans (B3.out.mono B2.out.size))
  have OBL : Hid (∀ b, (Value.slice A n cp).ownBlock = some b → b < W1.heap.size) := Lib.hid (fun b hb => (gown_lt OW.out hb).2)
  have BW2S : Hid (w.heap.size ≤ W2'.heap.size) := Lib.hid (Nat.le_trans B2.out.size S2.out)
  clear L2 N2 R2 O2 B2 Q1 R0
  refine range_calmN (S := fun _ k => k = W1.heap.size + 1) (N0 := W3.heap.size) (Sd := fun xs => xs = hs) (Sp := fun pre => pre <+: hs) (Pr := fun xs => xs <+: hs) (encs := encP) (by decide) rfl EN.out (Still.const _ _) (Nat.le_refl _)
    (TL.out W3 (fun _ k => k = W1.heap.size + 1) 8 W3.heap.size (Fr.refl _ _) (Still.const _ _) (Nat.le_refl _) (fun k hk => .inl (HT.out k hk).1) (fun k hk => by omega) (fun k hk c => by
      rcases (HT.out k hk).2 with h | h
      · have := LTW.out k h; omega
      · omega) (by decide)) (fun _ => rfl)
    (fun pre W => Iw9 W3 (W1.heap.size + 1) (.cells #[.int .i64 (pre.length : Int)] 3 (0, 0)) W)
    (fun _ _ _ => False)
    (fun s A C hj b _ => hj.below (by omega) b (Nat.le_refl _))
    (fun _ s A C hj _ _ => hj)
    (Iw9.refl N3.out)
    (fun x a' W => ∃ bx, W3.heap.size ≤ bx ∧ EP.Bx 47 W bx x ∧ ∃ u : Nat → Value, a' = { tmps := #[.pointer (some ⟨g, 0, none⟩), .pointer (some ⟨gr, 0, none⟩), .int .u32 c, u 3, u 4, u 5, .pointer (some ⟨w.heap.size, 0, none⟩), .pointer (some ⟨W1.heap.size, 0, none⟩), .pointer (some ⟨W1.heap.size + 1, 0, none⟩), .pointer (some ⟨bx, 0, none⟩), u 10, u 11, u 12, u 13, u 14, u 15, u 16, u 17, u 18, u 19, u 20, u 21, u 22, u 23, u 24, u 25, u 26, u 27, u 28, u 29, u 30, u 31, u 32, u 33, u 34, u 35, u 36, u 37, u 38, u 39, u 40, u 41, u 42, u 43, u 44, u 45, u 46], defers := [] })
    (fun x a' W l o o' hx hl ho hc => by
      obtain ⟨bx, h1, h2, h3⟩ := hx
      refine ⟨bx, h1, ?_, h3⟩
      show (W.putObj l o').heap[bx]? = _
      rw [World.putObj_heap_other (fun e => ?_)]
      · exact h2
      · subst e
        rw [show W.heap[bx]? = _ from h2] at ho
        cases ho
        cases hc) ?assign ?body ?done ?stop
  case assign =>
    rintro l pre x W KK h2 _ hK
    have HZ := Lib.hid (gbx_new (E := EP) (te := 47) W zeroPo)
    refine region_in rfl (fun ⟨_, _, h⟩ => h) ?_
    go_wp2_with (refine gwl_store TP x W.heap.size HZ.out rfl rfl ?_)
    have q : Below W.heap.size W ((W.alloc (.cells (EP.cells zeroPo).toArray 47)).setRow W.heap.size (EP.cells x).toArray) := below_row0 (below_new W _) (Nat.le_refl _)
    refine hK _ _ ⟨q.size, fun k o _ hk _ => (q.block k (Array.getElem?_eq_some_iff.1 hk).1).trans hk⟩ (Kn.below (Still.const _ _) (Nat.le_refl _) q) (h2.grow (by omega) q) ⟨W.heap.size, h2.sz, gbx_set HZ.out, intro_uE rfl⟩
  case body =>
    rintro l pre x a' W - - h2 ⟨bx, hb, hbx, u, rfl⟩ hlen
    have hy : hs[pre.length]? = some x := pre_at hlen
    have hlt : pre.length < n := by rw [← HN.out]; exact (List.getElem?_eq_some_iff.1 hy).1
    obtain ⟨bv, cv, ev⟩ := gown_slot O3.out (by have := HN.out; omega)
    injection ev with e1 e3 e2
    clear e3
    subst e1 e2
    have XOK := Lib.hid (OKS.out x (List.mem_of_getElem? hy))
    have HBX := Lib.hid (gbx_rng hbx)
    have H2 := Lib.hid h2
    have hbv : bv < W1.heap.size := OBL.out bv rfl
    have cn : W.cell? ⟨W1.heap.size + 1, 0, none⟩ = some (.int .i64 (pre.length : Int)) := obj_cellE h2.sm
    have cl : W.cell? ⟨W1.heap.size, 0, none⟩ = some (.slice (some ⟨bv, 0, none⟩) n cp) := h2.cell (by omega) (by omega) (obj_cellE L3.out)
    have RG : Hid (W.rangeAt bv (pre.length * 4) (EP.cells x)) := Lib.hid (gown_rng (gown_same O3.out fun k hk => h2.at' k (by have := OBL.out k hk; omega) (by have := OBL.out k hk; omega)) hy)
    have hge : decide ((n : Int) ≤ (pre.length : Int)) = false := decide_eq_false (by omega)
    have hi : (pre.length : Int) < (n : Int) := by omega
    have hw1 : wrap64 ((pre.length : Int) + 1) = (pre.length : Int) + 1 := by have := LEN.out; unfold wrap64; omega
    clear h2 hbx hy
    obtain ⟨b, hbq⟩ : ∃ b, eqPo9 x x = b := ⟨_, rfl⟩
    refine wpIn_block ?_
    apply wpIn_seq_k; intro KB hKB; have HKB := Lib.hid hKB; clear hKB
    apply wpIn_seq_k; intro KA hKA; have HKA := Lib.hid hKA; clear hKA
    refine region_held_in (S := fun U => U = W.drew) rfl (fun ⟨_, _, h⟩ => h) (by kernel_rfl) rfl (fun hH => ?_)
    refine wpAnyH_take (i := 0) (v := .int .i64 (pre.length : Int)) rfl (by kernel_rfl) (by kernel_rfl) (by kernel_rfl) (fun _ _ _ h => h) (.inl ⟨by rfl, ?_⟩) (by assumption) ?_
    · intro W hW; subst hW; go_simp
    try simp only [List.getElem_toArray, List.getElem_cons_zero, List.getElem_cons_succ, Act.put, List.setIfInBounds_toArray, List.set_cons_zero, List.set_cons_succ]
    refine wpAnyH_take (i := 1) (v := .slice (some ⟨bv, 0, none⟩) n cp) rfl (by kernel_rfl) (by kernel_rfl) (by kernel_rfl) (fun _ _ _ h => h) (.inl ⟨by rfl, ?_⟩) (by assumption) ?_
    · intro W hW; subst hW; go_simp
    try simp only [List.getElem_toArray, List.getElem_cons_zero, List.getElem_cons_succ, Act.put, List.setIfInBounds_toArray, List.set_cons_zero, List.set_cons_succ]
    refine wpAnyH_take (i := 2) (v := .int .i64 (n : Int)) rfl (by kernel_rfl) (by kernel_rfl) (by kernel_rfl) (fun _ _ _ h => h) (.inl ⟨by rfl, ?_⟩) (by assumption) ?_
    · intro W hW; subst hW; go_simp
    try simp only [List.getElem_toArray, List.getElem_cons_zero, List.getElem_cons_succ, Act.put, List.setIfInBounds_toArray, List.set_cons_zero, List.set_cons_succ]
    refine wpAnyH_take (i := 3) (v := .bool false) rfl (by kernel_rfl) (by kernel_rfl) (by kernel_rfl) (fun _ _ _ h => h) (.inl ⟨by rfl, ?_⟩) (by assumption) ?_
    · intro W hW; subst hW; go_simp
    try simp only [List.getElem_toArray, List.getElem_cons_zero, List.getElem_cons_succ, Act.put, List.setIfInBounds_toArray, List.set_cons_zero, List.set_cons_succ]
    refine wpAnyH_take (i := 4) (v := .bool false) rfl (by kernel_rfl) (by kernel_rfl) (by kernel_rfl) (fun _ _ _ h => h) (.inl ⟨by rfl, ?_⟩) (by assumption) ?_
    · intro W hW; subst hW; go_simp
    try simp only [List.getElem_toArray, List.getElem_cons_zero, List.getElem_cons_succ, Act.put, List.setIfInBounds_toArray, List.set_cons_zero, List.set_cons_succ]
    refine wpAnyH_take (i := 5) (v := .agg (EP.cells x).toArray) rfl (by kernel_rfl) (by kernel_rfl) (by kernel_rfl) (fun _ _ _ h => h) (gyields_load TP (by rfl) (.tmp 9) rfl bx 0 rfl (fun U hU => by subst hU; exact HBX.out)) (by assumption) ?_
    try simp only [List.getElem_toArray, List.getElem_cons_zero, List.getElem_cons_succ, Act.put, List.setIfInBounds_toArray, List.set_cons_zero, List.set_cons_succ]
    refine wpAnyH_take (i := 6) (v := .slice (some ⟨bv, 0, none⟩) n cp) rfl (by kernel_rfl) (by kernel_rfl) (by kernel_rfl) (fun _ _ _ h => h) (.inl ⟨by rfl, ?_⟩) (by assumption) ?_
    · intro W hW; subst hW; go_simp
    try simp only [List.getElem_toArray, List.getElem_cons_zero, List.getElem_cons_succ, Act.put, List.setIfInBounds_toArray, List.set_cons_zero, List.set_cons_succ]
    refine wpAnyH_take (i := 7) (v := .int .i64 (pre.length : Int)) rfl (by kernel_rfl) (by kernel_rfl) (by kernel_rfl) (fun _ _ _ h => h) (.inl ⟨by rfl, ?_⟩) (by assumption) ?_
    · intro W hW; subst hW; go_simp
    try simp only [List.getElem_toArray, List.getElem_cons_zero, List.getElem_cons_succ, Act.put, List.setIfInBounds_toArray, List.set_cons_zero, List.set_cons_succ]
    refine wpAnyH_take (i := 8) (v := .pointer (some ⟨bv, pre.length * 4, none⟩)) rfl (by kernel_rfl) (by kernel_rfl) (by kernel_rfl) (fun _ _ _ h => h) (.inl ⟨by rfl, ?_⟩) (by assumption) ?_
    · intro W hW; subst hW; go_simp
    try simp only [List.getElem_toArray, List.getElem_cons_zero, List.getElem_cons_succ, Act.put, List.setIfInBounds_toArray, List.set_cons_zero, List.set_cons_succ]
    refine wpAnyH_take (i := 9) (v := .agg (EP.cells x).toArray) rfl (by kernel_rfl) (by kernel_rfl) (by kernel_rfl) (fun _ _ _ h => h) (gyields_load TP (by rfl) (.tmp 29) rfl bv (pre.length * 4) rfl (fun U hU => by subst hU; exact RG.out)) (by assumption) ?_
    try simp only [List.getElem_toArray, List.getElem_cons_zero, List.getElem_cons_succ, Act.put, List.setIfInBounds_toArray, List.set_cons_zero, List.set_cons_succ]
    refine wpAnyH_take (i := 10) (v := .bool !b) rfl (by kernel_rfl) (by kernel_rfl) (by kernel_rfl) (fun _ _ _ h => h) (by rw [← hbq]; exact yields_neq_po9 (by rfl) (.tmp 26) (.tmp 30) rfl XOK.out XOK.out rfl rfl) (by assumption) ?_
    try simp only [List.getElem_toArray, List.getElem_cons_zero, List.getElem_cons_succ, Act.put, List.setIfInBounds_toArray, List.set_cons_zero, List.set_cons_succ]
    refine wpAnyH_take (i := 11) (v := .bool !b) rfl (by kernel_rfl) (by kernel_rfl) (by kernel_rfl) (fun _ _ _ h => h) (.inl ⟨by rfl, ?_⟩) (by assumption) ?_
    · intro W hW; subst hW; go_simp
    try simp only [List.getElem_toArray, List.getElem_cons_zero, List.getElem_cons_succ, Act.put, List.setIfInBounds_toArray, List.set_cons_zero, List.set_cons_succ]
    obtain rfl : b = true := hbq.symm.trans (eqPo9_yes x)
    refine wpAnyH_done (by decide +kernel) ?_ _
    refine HKA.out _ _ ?_
    have cn' : W.drew.cell? ⟨W1.heap.size + 1, 0, none⟩ = some (.int .i64 (pre.length : Int)) := cn
    have fn' : W.drew.frozen? ⟨W1.heap.size + 1, 0, none⟩ = false := obj_fzE H2.out.sm 0
    refine wpIn_cond_false rfl ?_
    apply wpIn_skip
    refine HKB.out _ _ ?_
    refine region_in rfl (fun ⟨_, _, h⟩ => h) ?_
    go_wp2_with fail
    try rw [hw1]
    refine ⟨((KeepsOthers.drew W).trans (KeepsOthers.setCell _ _ _)).from _, Kn.fr (Fr.same ⟨(Below.refl 0 W).drew, fun _ _ _ => rfl⟩ (Fr.set (S := fun k => k = W1.heap.size + 1) (p := ⟨W1.heap.size + 1, 0, none⟩) rfl _)), ?_⟩
    have := H2.out.drew.put (t := 3) (v := .int .i64 ((pre.length : Int) + 1))
    have e : (((pre ++ [x]).length : Nat) : Int) = (pre.length : Int) + 1 := by simp
    show Iw9 W3 (W1.heap.size + 1) (.cells #[.int .i64 (((pre ++ [x]).length : Nat) : Int)] 3 (0, 0)) _
    rw [e]
    exact this
  case stop =>
    rintro D c2 pre W hD hS hx hK
    exact hx.elim
  case done =>
    rintro D ys W hD hS h2 hK
    subst hS
    rw [HN.out] at h2
    have H2 := Lib.hid h2
    have HKD := Lib.hid hK
    have HDG : Hid (W3.heap.size ≤ D) := Lib.hid hD
    have DL : Hid (D < W.heap.size) := Lib.hid (Array.getElem?_eq_some_iff.1 hK).1
    have BW : Hid (Below w.heap.size w W) := Lib.hid (below_frE BW3.out h2.fr (fun k hk cc => by have := BW3.out.size; omega))
    clear h2 hK hD
    go_wp2_with fail
    refine (lholders9 (HOL.out W BW.out) HC.out).mono ?_; rintro e0 W4 ⟨gf3, lb3, T3, rfl, q1, -, -, -⟩
    have Q4 := Lib.hid q1
    clear q1
    go_wp2_with fail
    refine (lholders9 (HOL.out W4 (BW.out.trans (Q4.out.mono BW.out.size))) HC.out).mono ?_; rintro e0 W5 ⟨gf4, lb4, T4, rfl, q1, en4, hT4, tell4⟩
    rw [HHS.out] at tell4
    have Q5 : Hid (Below W.heap.size W W5) := Lib.hid (Q4.out.trans (q1.mono Q4.out.size))
    have TL4 := Lib.hid tell4
    have EN4 := Lib.hid en4
    have HT4 := Lib.hid hT4
    clear q1 en4 hT4 tell4 Q4
    go_wp2_with fail
    refine (wpIn_wide (n := 9)).1 ?_
    have H5 := Lib.hid (H2.out.grow (by omega) Q5.out)
    have K5 : Hid (W5.heap[D]? = some (.deferred (some []))) := Lib.hid ((Q5.out.block D DL.out).trans HKD.out)
    have BW5 : Hid (Below w.heap.size w W5) := Lib.hid (BW.out.trans (Q5.out.mono BW.out.size))
    have R5 : Hid (W5.heap[w.heap.size]? = some (.cells #[.bool false] 4 (0, 0))) := Lib.hid ((H5.out.at' _ (by omega) (by omega)).trans R3.out)
    have L5 : Hid (W5.heap[W1.heap.size]? = some (.cells #[.slice A n cp] 27 (0, 0))) := Lib.hid ((H5.out.at' _ (by omega) (by omega)).trans L3.out)
    clear H2 Q5 HKD
    have hD3 := HDG.out
    have hz5 := H5.out.sz
    have hDl : D < W5.heap.size := (Array.getElem?_eq_some_iff.1 K5.out).1
    refine range_calmN (S := fun _ _ => False) (N0 := W5.heap.size) (Sd := fun xs => xs = ys) (Sp := fun pre => pre <+: ys) (Pr := fun xs => xs <+: ys) (encs := encP) (by decide) rfl EN4.out (Still.const _ _) (Nat.le_refl _)
      (TL4.out W5 (fun _ _ => False) 8 W5.heap.size (Fr.refl _ _) (Still.const _ _) (Nat.le_refl _) (fun k hk => .inl (HT4.out k hk).1) (fun k hk => hk.elim) (fun k hk c => c) (by decide)) (fun _ => rfl)
      (fun _ W => Below W5.heap.size W5 W)
      (fun c _ W => c = .exit 2 ∧ Below W5.heap.size W5 W)
      (fun s A C hj b _ => hj.trans b)
      (fun c s A C hj b _ => ⟨hj.1, hj.2.trans b⟩)
      (Below.refl _ _)
      (fun _ _ _ => True)
      (fun x a' W l o o' hx hl ho hc => hx) ?assign2 ?body2 ?done2 ?stop2
    case assign2 =>
      rintro l pre x W KK hi _ hK
      gi_wp2
      exact hK _ _ (KeepsFrom.refl _ _) (Kn.fr (Fr.refl _ _)) hi trivial
    case body2 =>
      rintro l pre x a' W - - hI - hlen
      refine wpIn_block ?_
      apply wpIn_exit
      exact ⟨KeepsFrom.refl _ _, rfl, hI⟩
    case done2 =>
      rintro D2 ys2 W hD2 hS2 hF hK2
      have K6 : Hid (W.heap[D]? = some (.deferred (some []))) := Lib.hid ((hF.block D hDl).trans K5.out)
      have KE := Lib.hid hK2
      have HDE : Hid (W5.heap.size ≤ D2) := Lib.hid hD2
      have BW6 : Hid (Below w.heap.size w W) := Lib.hid (BW5.out.trans (hF.mono BW5.out.size))
      have r6 := (hF.block _ (by omega)).trans R5.out
      have R6 := Lib.hid r6
      have cR : W.cell? ⟨w.heap.size, 0, none⟩ = some (.bool false) := obj_cellE r6
      have fR : W.frozen? ⟨w.heap.size, 0, none⟩ = false := obj_fzE r6 0
      have cL : W.cell? ⟨W1.heap.size, 0, none⟩ = some (.slice A n cp) := obj_cellE ((hF.block _ (by omega)).trans L5.out)
      have cN : W.cell? ⟨W1.heap.size + 1, 0, none⟩ = some (.int .i64 (n : Int)) := obj_cellE ((hF.block _ (by omega)).trans H5.out.sm)
      have SW : Hid (W5.heap.size ≤ W.heap.size) := Lib.hid hF.size
      have heq : ((n : Int) == (n : Int)) = true := by simp
      have heq2 : decide ((n : Int) = (n : Int)) = true := by simp
      clear hF hK2 hD2 R5 L5 H5 K5 BW5 r6
      go_wp2_with fail
      have hsw := SW.out
      have hde := HDE.out
      have hd2 : D2 < W.heap.size := (Array.getElem?_eq_some_iff.1 KE.out).1
      have hd1 : D < W.heap.size := (Array.getElem?_eq_some_iff.1 K6.out).1
      have hbs := BW6.out.size
      refine ret_marks [D2, D] rfl ?_ ?_ (ret_cellE rfl _ _ w.heap.size true rfl ?_) ⟨rfl, ?_⟩
      · simp; omega
      · intro E hE
        simp only [List.mem_cons, List.not_mem_nil, or_false] at hE
        rcases hE with rfl | rfl
        · exact (heap_setCell_other W _ _ _ (by show E ≠ w.heap.size; omega)).trans KE.out
        · exact (heap_setCell_other W _ _ _ (by show E ≠ w.heap.size; omega)).trans K6.out
      · rw [cell_of_row _ _ _ _ _ _ ((unmark_other [D2, D] _ w.heap.size (by simp; omega)).trans (heap_setCell_same W w.heap.size 0 _ _ (.bool true) R6.out))]; rfl
      · have BF : Below w.heap.size w (W.setCell ⟨w.heap.size, 0, none⟩ (.bool true)) := BW6.out.setCell (by show w.heap.size ≤ w.heap.size; omega) _
        refine unmark_below [D2, D] _ _ _ ?_ BF.size BF
        intro E hE
        simp only [List.mem_cons, List.not_mem_nil, or_false] at hE
        rcases hE with rfl | rfl <;> omega
    case stop2 =>
      rintro D2 c2 pre2 W hD2 hS2 ⟨rfl, hF⟩ hK2
      apply wpIn_exit
      have K6 : Hid (W.heap[D]? = some (.deferred (some []))) := Lib.hid ((hF.block D hDl).trans K5.out)
      have KE := Lib.hid hK2
      have HDE : Hid (W5.heap.size ≤ D2) := Lib.hid hD2
      have BW6 : Hid (Below w.heap.size w W) := Lib.hid (BW5.out.trans (hF.mono BW5.out.size))
      have r6 := (hF.block _ (by omega)).trans R5.out
      have R6 := Lib.hid r6
      have cR : W.cell? ⟨w.heap.size, 0, none⟩ = some (.bool false) := obj_cellE r6
      have fR : W.frozen? ⟨w.heap.size, 0, none⟩ = false := obj_fzE r6 0
      have cL : W.cell? ⟨W1.heap.size, 0, none⟩ = some (.slice A n cp) := obj_cellE ((hF.block _ (by omega)).trans L5.out)
      have cN : W.cell? ⟨W1.heap.size + 1, 0, none⟩ = some (.int .i64 (n : Int)) := obj_cellE ((hF.block _ (by omega)).trans H5.out.sm)
      have SW : Hid (W5.heap.size ≤ W.heap.size) := Lib.hid hF.size
      have heq : ((n : Int) == (n : Int)) = true := by simp
      have heq2 : decide ((n : Int) = (n : Int)) = true := by simp
      clear hF hK2 hD2 R5 L5 H5 K5 BW5 r6
      go_wp2_with fail
      have hsw := SW.out
      have hde := HDE.out
      have hd2 : D2 < W.heap.size := (Array.getElem?_eq_some_iff.1 KE.out).1
      have hd1 : D < W.heap.size := (Array.getElem?_eq_some_iff.1 K6.out).1
      have hbs := BW6.out.size
      refine ret_marks [D2, D] rfl ?_ ?_ (ret_cellE rfl _ _ w.heap.size true rfl ?_) ⟨rfl, ?_⟩
      · simp; omega
      · intro E hE
        simp only [List.mem_cons, List.not_mem_nil, or_false] at hE
        rcases hE with rfl | rfl
        · exact (heap_setCell_other W _ _ _ (by show E ≠ w.heap.size; omega)).trans KE.out
        · exact (heap_setCell_other W _ _ _ (by show E ≠ w.heap.size; omega)).trans K6.out
      · rw [cell_of_row _ _ _ _ _ _ ((unmark_other [D2, D] _ w.heap.size (by simp; omega)).trans (heap_setCell_same W w.heap.size 0 _ _ (.bool true) R6.out))]; rfl
      · have BF : Below w.heap.size w (W.setCell ⟨w.heap.size, 0, none⟩ (.bool true)) := BW6.out.setCell (by show w.heap.size ≤ w.heap.size; omega) _
        refine unmark_below [D2, D] _ _ _ ?_ BF.size BF
        intro E hE
        simp only [List.mem_cons, List.not_mem_nil, or_false] at hE
        rcases hE with rfl | rfl <;> omega
end Go.Proofs.Ythnmpnepgagmmaa
