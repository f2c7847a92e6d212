/- The statements' 'same' of stage 6, given the program's side. -/
import Derived.Test.YtpnccbcaoifdiaaSy
import Derived.Test.YtpnccbcaoifdiaaSz
import Derived.Test.YtpnccbcaoifdiaaRi
namespace Go.Proofs.Ytpnccbcaoifdiaa
open Go.RowKit Go.Shelf
set_option linter.unusedVariables false
set_option linter.unusedSimpArgs false

/-- Within a loop: what lies there stays, but the cell that counts. -/
structure Iw (W0 : World) (N : Nat) (o : Obj) (W : World) : Prop where
  at' : ∀ k, k < W0.heap.size → k ≠ N → W.heap[k]? = W0.heap[k]?
  sm : W.heap[N]? = some o
  sz : W0.heap.size ≤ W.heap.size
  b0 : Below 0 W0 W
section
variable {W0 W W' : World} {N B : Nat} {o : Obj}
theorem Iw.refl (h : W0.heap[N]? = some o) : Iw W0 N o W0 := ⟨fun _ _ _ => rfl, h, Nat.le_refl _, Below.refl _ _⟩
theorem Iw.below (h : Iw W0 N o W) (hN : N < W0.heap.size) (b : Below B W W') (hB : W0.heap.size ≤ B) : Iw W0 N o W' :=
  ⟨fun k hk hn => (b.block k (by omega)).trans (h.at' k hk hn), (b.block N (by omega)).trans h.sm, Nat.le_trans h.sz b.size, h.b0.trans (b.mono (Nat.zero_le _))⟩
theorem Iw.grow (h : Iw W0 N o W) (hN : N < W0.heap.size) (b : Below W.heap.size W W') : Iw W0 N o W' := h.below hN b h.sz
theorem Iw.drew (h : Iw W0 N o W) : Iw W0 N o W.drew := ⟨h.at', h.sm, h.sz, h.b0.drew⟩
theorem Iw.fr (h : Iw W0 N o W) : Fr (fun k => k = N ∨ W0.heap.size ≤ k) W0 W := ⟨h.b0, fun k hk hn => h.at' k hk (fun e => hn (.inl e))⟩
theorem Iw.cell (h : Iw W0 N o W) {k j : Nat} {u : Value} (hk : k < W0.heap.size) (hn : k ≠ N) (e : W0.cell? ⟨k, j, none⟩ = some u) : W.cell? ⟨k, j, none⟩ = some u := by rw [← e]; exact World.cell?_of_block (h.at' k hk hn)
end
theorem obj_cell {W : World} {k : Nat} {u : Value} {t : TypeId} (h : W.heap[k]? = some (.cells #[u] t (0, 0))) : W.cell? ⟨k, 0, none⟩ = some u := by rw [cell_of_row _ _ _ _ _ _ h]; rfl
theorem obj_fz {W : World} {k : Nat} {cs : Array Value} {t : TypeId} (h : W.heap[k]? = some (.cells cs t (0, 0))) (j : Nat) : W.frozen? ⟨k, j, none⟩ = false := by simp [World.frozen?, h]
theorem two_obj (w : World) (c d : Array Value) (s t : TypeId) : ∃ W2, (w.alloc (.cells c s)).alloc (.cells d t) = W2 ∧ Below w.heap.size w W2 ∧ W2.heap[w.heap.size]? = some (.cells c s (0, 0)) ∧ W2.heap[w.heap.size + 1]? = some (.cells d t (0, 0)) :=
  ⟨_, rfl, ((Below.refl _ w).alloc (Nat.le_refl _) _).alloc (by simp) _, heap_alloc2_old w _ _, heap_alloc2_new w _ _⟩
theorem Iw.put {W0 W : World} {N : Nat} {u : Value} {t : TypeId} (h : Iw W0 N (.cells #[u] t (0, 0)) W) {v : Value} : Iw W0 N (.cells #[v] t (0, 0)) (W.setCell ⟨N, 0, none⟩ v) :=
  ⟨fun k hk hn => (heap_setCell_other W ⟨N, 0, none⟩ k v hn).trans (h.at' k hk hn), heap_setCell_same W N 0 _ _ v h.sm, by have := h.sz; simp; omega, h.b0.setCell (Nat.zero_le _) _⟩
/-- At the end: one cell may turn. -/
structure Sf (W : World) (R : Nat) (U : World) : Prop where
  fr : Fr (fun k => k = R ∨ W.heap.size ≤ k) W U
  r : ∃ b, U.heap[R]? = some (.cells #[.bool b] 4 (0, 0))
section
variable {W U U' : World} {R : Nat}
theorem Sf.cell (h : Sf W R U) {k j : Nat} {u : Value} (hk : k < W.heap.size) (hn : k ≠ R) (e : W.cell? ⟨k, j, none⟩ = some u) : U.cell? ⟨k, j, none⟩ = some u := by
  rw [← e]; exact World.cell?_of_block (h.fr.at' k hk (by omega))
theorem Sf.grow (h : Sf W R U) (q : Below U.heap.size U U') (hR : R < W.heap.size) : Sf W R U' :=
  ⟨h.fr.trans (Fr.below (S := fun _ => False) q) (fun _ h => h) (fun _ _ h => h.elim), h.r.imp fun b e => (q.block R (Nat.lt_of_lt_of_le hR h.fr.size)).trans e⟩
theorem Sf.put (h : Sf W R U) (b : Bool) : Sf W R (U.setCell ⟨R, 0, none⟩ (.bool b)) := by
  obtain ⟨c, e⟩ := h.r
  exact ⟨h.fr.trans (Fr.set (S := fun k => k = R) (p := ⟨R, 0, none⟩) rfl _) (fun _ h => h) (fun _ _ h => .inl h), b, heap_setCell_same U R 0 _ _ (.bool b) e⟩
end
theorem below_fr {w W U : World} {S : Nat → Prop} (b : Below w.heap.size w W) (f : Fr S W U) (hS : ∀ k, k < w.heap.size → ¬ S k) : Below w.heap.size w U :=
  ⟨f.b0.os.trans b.os, f.b0.tape.trans b.tape, f.b0.output.trans b.output, Nat.le_trans b.size f.size, fun k hk => (f.at' k (Nat.lt_of_lt_of_le hk b.size) (hS k hk)).trans (b.block k hk)⟩
theorem ret_cell6 {fn : Func} {p : Tmp} (h : fn.results = #[.cell p 4]) (tmps : Array Value) (w : World) (g : Nat) (b : Bool) (hp : tmps.getD p undef = .pointer (some ⟨g, 0, none⟩)) (hb : w.cell? ⟨g, 0, none⟩ = some (.bool b)) :
    (results fn tmps).run Try.prog w = .ok (.bool b) w := by
  have hp' : tmps[p]?.getD undef = .pointer (some ⟨g, 0, none⟩) := by simpa using hp
  simp [results, h, hp', asAddr, go_sem, hb]
theorem eql_seq6 (gf : Nat) (lb : Array Value) (W : World) : (binOp .eql 55 (.func (.func gf) #[] lb) .nilFunc).run Try.prog W = .ok (.bool false) W := by
  kernel_rfl
set_option maxRecDepth 100000 in
set_option maxHeartbeats 8000000 in
theorem same6_any {Pd : PdT} {zs : Array Value} (K : SideK Pd zs) {w : World} {F : Nat → Prop} {g gr B : Nat} {v : Value} {buy : Bool} {os : List Or} {t : Nat} (hp : Pd w F g buy os t) (hr : Ps w B gr v buy os) :
    Calls Try.prog 27 #[.pointer (some ⟨g, 0, none⟩), .pointer (some ⟨gr, 0, none⟩)] w fun e w' => e = .returned (.bool true) ∧ Below w.heap.size w w' := by
  have KH := Lib.hid K
  have HP := Lib.hid hp
  have OKS := Lib.hid (K.inv hp).ok
  have LEN := Lib.hid (K.inv hp).len
  obtain ⟨W0, hW0⟩ : ∃ W0, w.alloc (.cells #[.bool false] 4) = W0 := ⟨_, rfl⟩
  have b0 : Below w.heap.size w W0 := hW0 ▸ below_new w _
  have r0 : W0.heap[w.heap.size]? = some (.cells #[.bool false] 4 (0, 0)) := hW0 ▸ heap_alloc_new w _
  have HL := pall (hr.below b0)
  have HW0 := Lib.hid hW0
  have B0 := Lib.hid b0
  have R0 := Lib.hid r0
  have EQ := eql_seq6
  have hz := zero_or
  clear K hp hr hW0 b0 r0
  refine calls_marks Try.func27 rfl ?_
  simp only [Try.ntmps27, List.size_toArray, List.length_cons, List.length_nil, Nat.reduceAdd, Nat.reduceSub, Array.replicate_succ, Array.replicate_zero, List.push_toArray, List.append_toArray, List.nil_append, List.cons_append]
  go_wp2_with fail
  rw [HW0.out]
  refine HL.mono ?_; rintro e W1 ⟨v', rfl, ho, q1⟩
  obtain ⟨A, cp, rfl, hA⟩ := gown_form ho
  have OW := Lib.hid ho
  have Q1 := Lib.hid q1
  clear ho q1
  go_wp2_with fail
  obtain ⟨W2, hW2, b2, l2, n2⟩ := two_obj W1 #[.slice A os.length cp] #[.int .i64 0] 26 3
  rw [hW2]
  have B2 : Hid (Below w.heap.size w W2) := Lib.hid ((B0.out.trans (Q1.out.mono B0.out.size)).trans (b2.mono (Nat.le_trans B0.out.size Q1.out.size)))
  have L2 := Lib.hid l2
  have N2 := Lib.hid n2
  have R2 : Hid (W2.heap[w.heap.size]? = some (.cells #[.bool false] 4 (0, 0))) := Lib.hid ((b2.block _ (by have := Q1.out.size; have := (Array.getElem?_eq_some_iff.1 R0.out).1; omega)).trans ((Q1.out.block _ (Array.getElem?_eq_some_iff.1 R0.out).1).trans R0.out))
  have O2 : Hid (EO.Own 33 W2 W0.heap.size (.slice A os.length cp) os) := Lib.hid (gown_below OW.out b2)
  have LF : Hid (∀ k, F k → k < w.heap.size) := Lib.hid (KH.out.lt HP.out)
  have P2 : Hid (Pd W2 F g buy os t) := Lib.hid (KH.out.keep (S := fun _ => False) HP.out (Fr.below B2.out) (fun _ _ h => h))
  have R1L : Hid (w.heap.size < W1.heap.size) := Lib.hid (by have := Q1.out.size; have := (Array.getElem?_eq_some_iff.1 R0.out).1; omega)
  clear hW2 b2 l2 n2
  refine (KH.out.all P2.out).mono ?_; rintro e W2' ⟨gf1, lb1, T1, rfl, p1, -, -, -⟩
  have P1 := Lib.hid p1
  clear p1
  go_wp2_with fail
  refine (KH.out.all (KH.out.keep (S := fun _ => False) P2.out (Fr.below P1.out) (fun _ _ h => h))).mono ?_; rintro e W3 ⟨gf, lb, T, rfl, p2, en, hT, tell⟩
  have B3 : Hid (Below W2.heap.size W2 W3) := Lib.hid (P1.out.trans (p2.mono P1.out.size))
  have TL := Lib.hid tell
  have EN := Lib.hid en
  have HT := Lib.hid hT
  have S2 : Hid (W2.heap.size ≤ W2'.heap.size) := Lib.hid P1.out.size
  have NL : Hid (W1.heap.size + 1 < W2.heap.size) := Lib.hid (Array.getElem?_eq_some_iff.1 N2.out).1
  clear p2 en hT tell P1
  go_wp2_with fail
  refine (wpIn_wide (n := 9)).1 ?_
  have hnl := NL.out
  have hs3 := B3.out.size
  have hs2 := S2.out
  have hr1 := R1L.out
  have N3 : Hid (W3.heap[W1.heap.size + 1]? = some (.cells #[.int .i64 0] 3 (0, 0))) := Lib.hid ((B3.out.block _ hnl).trans N2.out)
  have L3 : Hid (W3.heap[W1.heap.size]? = some (.cells #[.slice A os.length cp] 26 (0, 0))) := Lib.hid ((B3.out.block _ (by omega)).trans L2.out)
  have R3 : Hid (W3.heap[w.heap.size]? = some (.cells #[.bool false] 4 (0, 0))) := Lib.hid ((B3.out.block _ (by omega)).trans R2.out)
  have O3 : Hid (EO.Own 33 W3 W0.heap.size (.slice A os.length cp) os) := Lib.hid (gown_below O2.out B3.out)
  have P3 : Hid (Pd W3 F g buy os t) := Lib.hid (KH.out.keep (S := fun _ => False) P2.out (Fr.below B3.out) (fun _ _ h => h))
  have BW3 : Hid (Below w.heap.size w W3) := Lib.hid (B2.out.trans (B3.out.mono B2.out.size))
  have OBL : Hid (∀ b, (Value.slice A os.length cp).ownBlock = some b → b < W1.heap.size) := Lib.hid (fun b hb => (gown_lt OW.out hb).2)
  clear L2 N2 R2 O2 P2 B2 Q1 R0
  refine range_calm (S := fun _ k => k = W1.heap.size + 1) (by decide) rfl EN.out (Still.const _ _) (TL.out W3 (fun _ k => k = W1.heap.size + 1) 8 (Fr.refl _ _) (Still.const _ _) (fun k hk => by omega) (fun k hk c => by
      rcases (HT.out k hk).2 with h | h
      · have := LF.out k h; omega
      · omega) (by decide)) (fun _ => rfl)
    (fun pre W => valsO pre <+: os ∧ Iw W3 (W1.heap.size + 1) (.cells #[.int .i64 (pre.length : Int)] 3 (0, 0)) W)
    (fun _ pre _ => ¬ (valsO pre <+: os))
    (fun s A C hj b _ => ⟨hj.1, hj.2.below (by omega) b (Nat.le_refl _)⟩)
    (fun _ s A C hj _ _ => hj)
    ⟨List.nil_prefix, Iw.refl N3.out⟩
    (fun x a' W => ∃ bx, W3.heap.size ≤ bx ∧ EO.Bx 33 W bx x.1 ∧ a' = { tmps := #[.pointer (some ⟨g, 0, none⟩), .pointer (some ⟨gr, 0, none⟩), undef, undef, .pointer (some ⟨w.heap.size, 0, none⟩), .pointer (some ⟨W1.heap.size, 0, none⟩), .pointer (some ⟨W1.heap.size + 1, 0, none⟩), .pointer (some ⟨bx, 0, none⟩), .pointer (some ⟨gr, 0, none⟩), .slice A os.length cp, .pointer (some ⟨g, 0, none⟩), .func (.func gf1) #[] lb1, .bool false, .pointer (some ⟨g, 0, none⟩), .func (.func gf) #[] lb, .agg (EO.cells x.1).toArray, undef, undef, undef, undef, undef, undef, undef, undef, undef, undef, undef, undef, undef, undef, undef, undef, undef, undef, undef, undef, undef, undef, undef, undef, undef, undef, undef, undef, undef, undef], defers := [] })
    (fun x a' W l o o' hx hl ho hc => by
      obtain ⟨bx, h1, h2, h3⟩ := hx
      refine ⟨bx, h1, ?_, h3⟩
      show (W.putObj l o').heap[bx]? = _
      rw [World.putObj_heap_other (fun e => ?_)]
      · exact h2
      · subst e
        rw [show W.heap[bx]? = _ from h2] at ho
        cases ho
        cases hc) ?assign ?body ?done ?stop
  case assign =>
    rintro l pre x W KK ⟨h1, h2⟩ hK
    have HZ := Lib.hid (gbx_new (E := EO) (te := 33) W zeroOr)
    refine region_in rfl (fun ⟨_, _, h⟩ => h) ?_
    go_wp2_with (refine gwl_store TO x.1 W.heap.size HZ.out rfl rfl ?_)
    have q : Below W.heap.size W ((W.alloc (.cells (EO.cells zeroOr).toArray 33)).setRow W.heap.size (EO.cells x.1).toArray) := row_inO (Nat.le_refl _) (below_new W _)
    refine hK _ _ ⟨q.size, fun k o _ hk _ => (q.block k (Array.getElem?_eq_some_iff.1 hk).1).trans hk⟩ (Kc.below (Still.const _ _) (Nat.le_refl _) q) ⟨h1, h2.grow (by omega) q⟩ ⟨W.heap.size, h2.sz, gbx_set HZ.out, rfl⟩
  case body =>
    rintro l pre x a' W - - ⟨h1, h2⟩ ⟨bx, hb, hbx, rfl⟩ hlen
    obtain ⟨y, hy⟩ : ∃ y, os[pre.length]? = some y := ⟨os[pre.length], List.getElem?_eq_getElem hlen⟩
    have HY : Hid (os[pre.length]? = some y) := Lib.hid hy
    obtain ⟨bv, cv, ev⟩ := gown_slot O3.out (by omega)
    injection ev with e1 _ e2
    subst e1 e2
    have YOK := Lib.hid (OKS.out y (List.mem_of_getElem? hy))
    have HX := Lib.hid x.2
    have HBX := Lib.hid (gbx_rng hbx)
    have H1 := Lib.hid h1
    have H2 := Lib.hid h2
    have hbv : bv < W1.heap.size := OBL.out bv rfl
    have cn : W.cell? ⟨W1.heap.size + 1, 0, none⟩ = some (.int .i64 (pre.length : Int)) := obj_cell h2.sm
    have cl : W.cell? ⟨W1.heap.size, 0, none⟩ = some (.slice (some ⟨bv, 0, none⟩) os.length cp) := h2.cell (by omega) (by omega) (obj_cell L3.out)
    have RG : Hid (W.rangeAt bv (pre.length * 5) (EO.cells y)) := Lib.hid (gown_rng (gown_same O3.out fun k hk => h2.at' k (by have := OBL.out k hk; omega) (by have := OBL.out k hk; omega)) hy)
    have hge : decide ((os.length : Int) ≤ (pre.length : Int)) = false := decide_eq_false (by omega)
    have hi : (pre.length : Int) < (os.length : Int) := by omega
    have h100 : pre.length < 100 := by have := LEN.out; omega
    clear h1 h2 hbx hy
    obtain ⟨b, hbq⟩ : ∃ b, eqO x.1 y = b := ⟨_, rfl⟩
    refine wpIn_block ?_
    apply wpIn_seq_k; intro KB hKB
    apply wpIn_seq_k; intro KA hKA
    refine region_held_in (S := fun U => U = W.drew) rfl (fun ⟨_, _, h⟩ => h) (by kernel_rfl) rfl (fun hH => ?_)
    refine wpAnyH_take (i := 0) (v := .int .i64 (pre.length : Int)) rfl (by kernel_rfl) (by kernel_rfl) (by kernel_rfl) (fun _ _ _ h => h) (.inl ⟨by rfl, ?_⟩) (by assumption) ?_
    · intro W hW; subst hW; go_simp
    try simp only [List.getElem_toArray, List.getElem_cons_zero, Act.put, List.setIfInBounds_toArray, List.set_cons_zero, List.set_cons_succ]
    refine wpAnyH_take (i := 1) (v := .slice (some ⟨bv, 0, none⟩) os.length cp) rfl (by kernel_rfl) (by kernel_rfl) (by kernel_rfl) (fun _ _ _ h => h) (.inl ⟨by rfl, ?_⟩) (by assumption) ?_
    · intro W hW; subst hW; go_simp
    try simp only [List.getElem_toArray, List.getElem_cons_zero, List.getElem_cons_succ, Act.put, List.setIfInBounds_toArray, List.set_cons_zero, List.set_cons_succ]
    refine wpAnyH_take (i := 2) (v := .int .i64 (os.length : Int)) rfl (by kernel_rfl) (by kernel_rfl) (by kernel_rfl) (fun _ _ _ h => h) (.inl ⟨by rfl, ?_⟩) (by assumption) ?_
    · intro W hW; subst hW; go_simp
    try simp only [List.getElem_toArray, List.getElem_cons_zero, List.getElem_cons_succ, Act.put, List.setIfInBounds_toArray, List.set_cons_zero, List.set_cons_succ]
    refine wpAnyH_take (i := 3) (v := .bool false) rfl (by kernel_rfl) (by kernel_rfl) (by kernel_rfl) (fun _ _ _ h => h) (.inl ⟨by rfl, ?_⟩) (by assumption) ?_
    · intro W hW; subst hW; go_simp
    try simp only [List.getElem_toArray, List.getElem_cons_zero, List.getElem_cons_succ, Act.put, List.setIfInBounds_toArray, List.set_cons_zero, List.set_cons_succ]
    refine wpAnyH_take (i := 4) (v := .bool false) rfl (by kernel_rfl) (by kernel_rfl) (by kernel_rfl) (fun _ _ _ h => h) (.inl ⟨by rfl, ?_⟩) (by assumption) ?_
    · intro W hW; subst hW; go_simp
    try simp only [List.getElem_toArray, List.getElem_cons_zero, List.getElem_cons_succ, Act.put, List.setIfInBounds_toArray, List.set_cons_zero, List.set_cons_succ]
    refine wpAnyH_take (i := 5) (v := .agg (EO.cells x.1).toArray) rfl (by kernel_rfl) (by kernel_rfl) (by kernel_rfl) (fun _ _ _ h => h) (gyields_load TO (by rfl) (.tmp 7) rfl bx 0 rfl (fun U hU => by subst hU; exact HBX.out)) (by assumption) ?_
    try simp only [List.getElem_toArray, List.getElem_cons_zero, List.getElem_cons_succ, Act.put, List.setIfInBounds_toArray, List.set_cons_zero, List.set_cons_succ]
    refine wpAnyH_take (i := 6) (v := .slice (some ⟨bv, 0, none⟩) os.length cp) rfl (by kernel_rfl) (by kernel_rfl) (by kernel_rfl) (fun _ _ _ h => h) (.inl ⟨by rfl, ?_⟩) (by assumption) ?_
    · intro W hW; subst hW; go_simp
    try simp only [List.getElem_toArray, List.getElem_cons_zero, List.getElem_cons_succ, Act.put, List.setIfInBounds_toArray, List.set_cons_zero, List.set_cons_succ]
    refine wpAnyH_take (i := 7) (v := .int .i64 (pre.length : Int)) rfl (by kernel_rfl) (by kernel_rfl) (by kernel_rfl) (fun _ _ _ h => h) (.inl ⟨by rfl, ?_⟩) (by assumption) ?_
    · intro W hW; subst hW; go_simp
    try simp only [List.getElem_toArray, List.getElem_cons_zero, List.getElem_cons_succ, Act.put, List.setIfInBounds_toArray, List.set_cons_zero, List.set_cons_succ]
    refine wpAnyH_take (i := 8) (v := .pointer (some ⟨bv, pre.length * 5, none⟩)) rfl (by kernel_rfl) (by kernel_rfl) (by kernel_rfl) (fun _ _ _ h => h) (.inl ⟨by rfl, ?_⟩) (by assumption) ?_
    · intro W hW; subst hW; go_simp
    try simp only [List.getElem_toArray, List.getElem_cons_zero, List.getElem_cons_succ, Act.put, List.setIfInBounds_toArray, List.set_cons_zero, List.set_cons_succ]
    refine wpAnyH_take (i := 9) (v := .agg (EO.cells y).toArray) rfl (by kernel_rfl) (by kernel_rfl) (by kernel_rfl) (fun _ _ _ h => h) (gyields_load TO (by rfl) (.tmp 24) rfl bv (pre.length * 5) rfl (fun U hU => by subst hU; exact RG.out)) (by assumption) ?_
    try simp only [List.getElem_toArray, List.getElem_cons_zero, List.getElem_cons_succ, Act.put, List.setIfInBounds_toArray, List.set_cons_zero, List.set_cons_succ]
    refine wpAnyH_take (i := 10) (v := .bool !b) rfl (by kernel_rfl) (by kernel_rfl) (by kernel_rfl) (fun _ _ _ h => h) (by rw [← hbq]; exact yields_neq_or (by rfl) (.tmp 21) (.tmp 25) rfl HX.out YOK.out rfl rfl) (by assumption) ?_
    try simp only [List.getElem_toArray, List.getElem_cons_zero, List.getElem_cons_succ, Act.put, List.setIfInBounds_toArray, List.set_cons_zero, List.set_cons_succ]
    refine wpAnyH_take (i := 11) (v := .bool !b) rfl (by kernel_rfl) (by kernel_rfl) (by kernel_rfl) (fun _ _ _ h => h) (.inl ⟨by rfl, ?_⟩) (by assumption) ?_
    · intro W hW; subst hW; go_simp
    try simp only [List.getElem_toArray, List.getElem_cons_zero, List.getElem_cons_succ, Act.put, List.setIfInBounds_toArray, List.set_cons_zero, List.set_cons_succ]
    refine wpAnyH_done (by decide +kernel) ?_ _
    refine hKA _ _ ?_
    have cn' : W.drew.cell? ⟨W1.heap.size + 1, 0, none⟩ = some (.int .i64 (pre.length : Int)) := cn
    have fn' : W.drew.frozen? ⟨W1.heap.size + 1, 0, none⟩ = false := obj_fz H2.out.sm 0
    have rr : W.heap[w.heap.size]? = some (.cells #[.bool false] 4 (0, 0)) := (H2.out.at' _ (by omega) (by omega)).trans R3.out
    have cr' : W.drew.cell? ⟨w.heap.size, 0, none⟩ = some (.bool false) := obj_cell rr
    have fr' : W.drew.frozen? ⟨w.heap.size, 0, none⟩ = false := obj_fz rr 0
    cases b
    · refine wpIn_cond_true rfl ?_
      apply wpIn_seq_k; intro K9 h9
      refine region_in rfl (fun ⟨_, _, h⟩ => h) ?_
      go_wp2
      apply wpIn_ret
      refine ⟨((KeepsOthers.drew W).trans (KeepsOthers.setCell _ _ _)).from _, fun hpre => ?_⟩
      obtain ⟨rest, hr⟩ := hpre
      have e := HY.out
      rw [← hr, valsO_snoc, List.append_assoc, ← valsO_len, List.getElem?_append_right (Nat.le_refl _)] at e
      simp at e
      rw [e, eqO_yes] at hbq
      cases hbq
    · refine wpIn_cond_false rfl ?_
      apply wpIn_skip
      refine hKB _ _ ?_
      refine region_in rfl (fun ⟨_, _, h⟩ => h) ?_
      go_wp2
      have exy : x.1 = y := eqO_iff.1 hbq
      refine ⟨((KeepsOthers.drew W).trans (KeepsOthers.setCell _ _ _)).from _, Kc.fr (Fr.same ⟨(Below.refl 0 W).drew, fun _ _ _ => rfl⟩ (Fr.set (S := fun k => k = W1.heap.size + 1) (p := ⟨W1.heap.size + 1, 0, none⟩) rfl _)), ?_, ?_⟩
      · obtain ⟨rest, hr⟩ := H1.out
        have e := HY.out
        rw [← hr, ← valsO_len, List.getElem?_append_right (Nat.le_refl _)] at e
        simp at e
        obtain ⟨rest2, hr2⟩ : ∃ r2, rest = y :: r2 := by cases rest with | nil => simp at e | cons a r2 => simp at e; exact ⟨r2, by rw [e]⟩
        exact ⟨rest2, by rw [valsO_snoc, ← hr, hr2, ← exy]; simp⟩
      · have := H2.out.drew.put (t := 3) (v := .int .i64 ((pre.length : Int) + 1))
        rw [List.length_append, Int.natCast_add]
        exact this
  case stop =>
    rintro D c pre W hD hS hx hK
    exact absurd hS hx
  case done =>
    rintro D ys W hD hS ⟨h1, h2⟩ hK
    have hyl : (ys.length : Int) = (os.length : Int) := by rw [← hS, valsO_len]
    rw [hyl] at h2
    have H2 := Lib.hid h2
    have HKD := Lib.hid hK
    have HDG : Hid (W3.heap.size ≤ D) := Lib.hid hD
    have PW : Hid (Pd W F g buy os t) := Lib.hid (KH.out.keep P3.out h2.fr (fun k hk => by have := LF.out k hk; omega))
    have DL : Hid (D < W.heap.size) := Lib.hid (Array.getElem?_eq_some_iff.1 hK).1
    clear h1 h2 hK hD hS hyl
    go_wp2_with fail
    refine (KH.out.all PW.out).mono ?_; rintro e0 W4 ⟨gf3, lb3, T3, rfl, q1, -, -, -⟩
    have Q4 := Lib.hid q1
    clear q1
    go_wp2_with fail
    refine (KH.out.all (KH.out.keep (S := fun _ => False) PW.out (Fr.below Q4.out) (fun _ _ h => h))).mono ?_; rintro e0 W5 ⟨gf4, lb4, T4, rfl, q1, en4, hT4, tell4⟩
    have Q5 : Hid (Below W.heap.size W W5) := Lib.hid (Q4.out.trans (q1.mono Q4.out.size))
    have TL4 := Lib.hid tell4
    have EN4 := Lib.hid en4
    clear q1 en4 hT4 tell4 Q4
    go_wp2_with fail
    refine (wpIn_wide (n := 9)).1 ?_
    have H5 := Lib.hid (H2.out.grow (by omega) Q5.out)
    have K5 : Hid (W5.heap[D]? = some (.deferred (some []))) := Lib.hid ((Q5.out.block D DL.out).trans HKD.out)
    have P5 : Hid (Pd W5 F g buy os t) := Lib.hid (KH.out.keep (S := fun _ => False) PW.out (Fr.below Q5.out) (fun _ _ h => h))
    have BW5 : Hid (Below w.heap.size w W5) := Lib.hid (by
      have f := H5.out.fr
      exact ⟨f.b0.os.trans BW3.out.os, f.b0.tape.trans BW3.out.tape, f.b0.output.trans BW3.out.output, Nat.le_trans BW3.out.size f.size, fun k hk => (f.at' k (Nat.lt_of_lt_of_le hk BW3.out.size) (fun c => by have := BW3.out.size; omega)).trans (BW3.out.block k hk)⟩)
    have R5 : Hid (W5.heap[w.heap.size]? = some (.cells #[.bool false] 4 (0, 0))) := Lib.hid ((H5.out.at' _ (by omega) (by omega)).trans R3.out)
    have L5 : Hid (W5.heap[W1.heap.size]? = some (.cells #[.slice A os.length cp] 26 (0, 0))) := Lib.hid ((H5.out.at' _ (by omega) (by omega)).trans L3.out)
    clear H2 PW Q5 HKD
    have hD3 := HDG.out
    have hz5 := H5.out.sz
    have hDl : D < W5.heap.size := (Array.getElem?_eq_some_iff.1 K5.out).1
    refine range_calm (S := fun _ _ => False) (by decide) rfl EN4.out (Still.const _ _) (TL4.out W5 (fun _ _ => False) 8 (Fr.refl _ _) (Still.const _ _) (fun k hk => hk.elim) (fun k hk c => c) (by decide)) (fun _ => rfl)
      (fun (_ : List OkOr) W => Below W5.heap.size W5 W)
      (fun c _ W => c = .exit 2 ∧ Below W5.heap.size W5 W)
      (fun s A C hj b _ => hj.trans b)
      (fun c s A C hj b _ => ⟨hj.1, hj.2.trans b⟩)
      (Below.refl _ _)
      (fun x a' W => a' = { tmps := #[.pointer (some ⟨g, 0, none⟩), .pointer (some ⟨gr, 0, none⟩), undef, undef, .pointer (some ⟨w.heap.size, 0, none⟩), .pointer (some ⟨W1.heap.size, 0, none⟩), .pointer (some ⟨W1.heap.size + 1, 0, none⟩), undef, .pointer (some ⟨gr, 0, none⟩), .slice A os.length cp, .pointer (some ⟨g, 0, none⟩), .func (.func gf1) #[] lb1, .bool false, .pointer (some ⟨g, 0, none⟩), .func (.func gf) #[] lb, undef, undef, undef, undef, undef, undef, undef, undef, undef, undef, undef, undef, undef, undef, undef, .pointer (some ⟨g, 0, none⟩), .func (.func gf3) #[] lb3, .bool false, .pointer (some ⟨g, 0, none⟩), .func (.func gf4) #[] lb4, .agg (EO.cells x.1).toArray, undef, undef, undef, undef, undef, undef, undef, undef, undef, undef], defers := [] })
      (fun x a' W l o o' hx hl ho hc => hx) ?assign2 ?body2 ?done2 ?stop2
    case assign2 =>
      rintro l pre x W KK hi hK
      gi_wp2
      exact hK _ _ (KeepsFrom.refl _ _) (Kc.fr (Fr.refl _ _)) hi rfl
    case body2 =>
      rintro l pre x a' W - - hI rfl hlen
      refine wpIn_block ?_
      apply wpIn_exit
      exact ⟨KeepsFrom.refl _ _, rfl, hI⟩
    case done2 =>
      rintro D2 ys2 W hD2 hS2 hF hK2
      have K6 : Hid (W.heap[D]? = some (.deferred (some []))) := Lib.hid ((hF.block D hDl).trans K5.out)
      have KE := Lib.hid hK2
      have HDE : Hid (W5.heap.size ≤ D2) := Lib.hid hD2
      have P6 : Hid (Pd W F g buy os t) := Lib.hid (KH.out.keep (S := fun _ => False) P5.out (Fr.below hF) (fun _ _ h => h))
      have BW6 : Hid (Below w.heap.size w W) := Lib.hid (BW5.out.trans (hF.mono BW5.out.size))
      have R6 : Hid (W.heap[w.heap.size]? = some (.cells #[.bool false] 4 (0, 0))) := Lib.hid ((hF.block _ (by omega)).trans R5.out)
      have L6 : Hid (W.heap[W1.heap.size]? = some (.cells #[.slice A os.length cp] 26 (0, 0))) := Lib.hid ((hF.block _ (by omega)).trans L5.out)
      have N6 : Hid (W.heap[W1.heap.size + 1]? = some (.cells #[.int .i64 (os.length : Int)] 3 (0, 0))) := Lib.hid ((hF.block _ (by omega)).trans H5.out.sm)
      have SW : Hid (W5.heap.size ≤ W.heap.size) := Lib.hid hF.size
      have heq : ((os.length : Int) == (os.length : Int)) = true := by simp
      clear hF hK2 hD2 R5 L5 H5 K5 P5 BW5
      go_wp2_with fail
      refine wp_region_held_drew (S := Sf W w.heap.size) (by kernel_rfl) ⟨⟨(Below.refl 0 W).drew, fun _ _ _ => rfl⟩, false, R6.out⟩ (fun hH => ?_)
      refine wpAnyH_take (i := 0) (v := .int .i64 (os.length : Int)) rfl (by kernel_rfl) (by kernel_rfl) (by kernel_rfl) (fun _ _ _ h => h) (.inl ⟨by rfl, ?_⟩) (by assumption) ?_
      · intro W hW; have c1 := hW.cell (by have := SW.out; omega) (by omega) (obj_cell N6.out); go_simp
      try simp only [List.getElem_toArray, List.getElem_cons_zero, Act.put, List.setIfInBounds_toArray, List.set_cons_zero, List.set_cons_succ]
      refine wpAnyH_take (i := 1) (v := .slice A os.length cp) rfl (by kernel_rfl) (by kernel_rfl) (by kernel_rfl) (fun _ _ _ h => h) (.inl ⟨by rfl, ?_⟩) (by assumption) ?_
      · intro W hW; have c1 := hW.cell (by have := SW.out; omega) (by omega) (obj_cell L6.out); go_simp
      try simp only [List.getElem_toArray, List.getElem_cons_zero, List.getElem_cons_succ, Act.put, List.setIfInBounds_toArray, List.set_cons_zero, List.set_cons_succ]
      refine wpAnyH_take (i := 2) (v := .int .i64 (os.length : Int)) rfl (by kernel_rfl) (by kernel_rfl) (by kernel_rfl) (fun _ _ _ h => h) (.inl ⟨by rfl, ?_⟩) (by assumption) ?_
      · intro W hW; go_simp
      try simp only [List.getElem_toArray, List.getElem_cons_zero, List.getElem_cons_succ, Act.put, List.setIfInBounds_toArray, List.set_cons_zero, List.set_cons_succ]
      refine wpAnyH_take (i := 3) (v := .bool true) rfl (by kernel_rfl) (by kernel_rfl) (by kernel_rfl) (fun _ _ _ h => h) (.inl ⟨by rfl, ?_⟩) (by assumption) ?_
      · intro W hW; go_simp
      try simp only [List.getElem_toArray, List.getElem_cons_zero, List.getElem_cons_succ, Act.put, List.setIfInBounds_toArray, List.set_cons_zero, List.set_cons_succ]
      refine wpAnyH_take (i := 4) (v := .bool true) rfl (by kernel_rfl) (by kernel_rfl) (by kernel_rfl) (fun _ _ _ h => h) (.inl ⟨by rfl, ?_⟩) (by assumption) ?_
      · intro W hW; go_simp
      try simp only [List.getElem_toArray, List.getElem_cons_zero, List.getElem_cons_succ, Act.put, List.setIfInBounds_toArray, List.set_cons_zero, List.set_cons_succ]
      refine wpAnyH_take (i := 5) (v := .pointer (some ⟨g, 0, none⟩)) rfl (by kernel_rfl) (by kernel_rfl) (by kernel_rfl) (fun _ _ _ h => h) (.inl ⟨by rfl, ?_⟩) (by assumption) ?_
      · intro W hW; go_simp
      try simp only [List.getElem_toArray, List.getElem_cons_zero, List.getElem_cons_succ, Act.put, List.setIfInBounds_toArray, List.set_cons_zero, List.set_cons_succ]
      refine wpAnyH_take (i := 7) (v := .int .i64 (os.length : Int)) rfl (by kernel_rfl) (by kernel_rfl) (by kernel_rfl) (fun _ _ _ h => h) (.inl ⟨by rfl, ?_⟩) (by assumption) ?_
      · intro W hW; have c1 := hW.cell (by have := SW.out; omega) (by omega) (obj_cell N6.out); go_simp
      try simp only [List.getElem_toArray, List.getElem_cons_zero, List.getElem_cons_succ, Act.put, List.setIfInBounds_toArray, List.set_cons_zero, List.set_cons_succ]
      refine wpAnyH_ready (rs := [6]) (by decide +kernel) (by simp) (AllReadyH.cons rfl (fun KQ hK => ?_) AllReadyH.nil)
      go_simp
      refine (KH.out.len (KH.out.keep P6.out hH.fr (fun k hk => by have := LF.out k hk; have := SW.out; omega))).mono ?_; rintro e0 U1 ⟨rfl, q1⟩
      have hH1 := hH.grow q1 (by have := SW.out; omega)
      refine hK.out _ _ hH1 (fun _ => ?_)
      clear hK q1 hH
      try simp only [List.setIfInBounds_toArray, List.set_cons_zero, List.set_cons_succ]
      refine wpAnyH_take (i := 8) (v := .bool true) rfl (by kernel_rfl) (by kernel_rfl) (by kernel_rfl) (fun _ _ _ h => h) (.inl ⟨by rfl, ?_⟩) (by assumption) ?_
      · intro W hW; go_simp
      try simp only [List.getElem_toArray, List.getElem_cons_zero, List.getElem_cons_succ, Act.put, List.setIfInBounds_toArray, List.set_cons_zero, List.set_cons_succ]
      refine wpAnyH_take (i := 9) (v := .bool true) rfl (by kernel_rfl) (by kernel_rfl) (by kernel_rfl) (fun _ _ _ h => h) (.inl ⟨by rfl, ?_⟩) (by assumption) ?_
      · intro W hW; go_simp
      try simp only [List.getElem_toArray, List.getElem_cons_zero, List.getElem_cons_succ, Act.put, List.setIfInBounds_toArray, List.set_cons_zero, List.set_cons_succ]
      refine wpAnyH_ready (rs := [10]) (by decide +kernel) (by simp) (AllReadyH.cons rfl (fun KQ hK => ?_) AllReadyH.nil)
      obtain ⟨b6, hb6⟩ := hH1.r
      have c6 : U1.cell? ⟨w.heap.size, 0, none⟩ = some (.bool b6) := obj_cell hb6
      have f6 := obj_fz hb6 0
      go_simp
      have hH2 := hH1.put true
      have R7 := heap_setCell_same U1 w.heap.size 0 _ _ (.bool true) hb6
      have HH2 := Lib.hid hH2
      have HR7 := Lib.hid R7
      refine hK.out _ _ hH2 (fun _ => ?_)
      clear hK hH1 hb6 c6 f6 R7 hH2
      try simp only [List.setIfInBounds_toArray, List.set_cons_zero, List.set_cons_succ]
      refine wpAnyH_done (by decide +kernel) ?_ _
      go_wp2_with fail
      have hsw := SW.out
      have hde := HDE.out
      have hd2 : D2 < W.heap.size := (Array.getElem?_eq_some_iff.1 KE.out).1
      have hd1 : D < W.heap.size := (Array.getElem?_eq_some_iff.1 K6.out).1
      refine ret_marks [D2, D] rfl ?_ ?_ (ret_cell6 rfl _ _ w.heap.size true rfl ?_) ⟨rfl, ?_⟩
      · simp; omega
      · intro E hE
        simp only [List.mem_cons, List.not_mem_nil, or_false] at hE
        rcases hE with rfl | rfl
        · exact (HH2.out.fr.at' _ (Array.getElem?_eq_some_iff.1 KE.out).1 (by omega)).trans KE.out
        · exact (HH2.out.fr.at' _ (Array.getElem?_eq_some_iff.1 K6.out).1 (by omega)).trans K6.out
      · rw [cell_of_row _ _ _ _ _ _ ((unmark_other [D2, D] _ w.heap.size (by simp; omega)).trans HR7.out)]; rfl
      · have BF := below_fr BW6.out HH2.out.fr (fun k hk c => by have := BW6.out.size; rcases c with c | c <;> omega)
        refine unmark_below [D2, D] _ _ _ ?_ BF.size BF
        intro E hE
        simp only [List.mem_cons, List.not_mem_nil, or_false] at hE
        rcases hE with rfl | rfl <;> omega
    case stop2 =>
      rintro D2 c2 pre2 W hD2 hS2 ⟨rfl, hF⟩ hK2
      apply wpIn_exit
      have K6 : Hid (W.heap[D]? = some (.deferred (some []))) := Lib.hid ((hF.block D hDl).trans K5.out)
      have KE := Lib.hid hK2
      have HDE : Hid (W5.heap.size ≤ D2) := Lib.hid hD2
      have P6 : Hid (Pd W F g buy os t) := Lib.hid (KH.out.keep (S := fun _ => False) P5.out (Fr.below hF) (fun _ _ h => h))
      have BW6 : Hid (Below w.heap.size w W) := Lib.hid (BW5.out.trans (hF.mono BW5.out.size))
      have R6 : Hid (W.heap[w.heap.size]? = some (.cells #[.bool false] 4 (0, 0))) := Lib.hid ((hF.block _ (by omega)).trans R5.out)
      have L6 : Hid (W.heap[W1.heap.size]? = some (.cells #[.slice A os.length cp] 26 (0, 0))) := Lib.hid ((hF.block _ (by omega)).trans L5.out)
      have N6 : Hid (W.heap[W1.heap.size + 1]? = some (.cells #[.int .i64 (os.length : Int)] 3 (0, 0))) := Lib.hid ((hF.block _ (by omega)).trans H5.out.sm)
      have SW : Hid (W5.heap.size ≤ W.heap.size) := Lib.hid hF.size
      have heq : ((os.length : Int) == (os.length : Int)) = true := by simp
      clear hF hK2 hD2 R5 L5 H5 K5 P5 BW5
      go_wp2_with fail
      refine wp_region_held_drew (S := Sf W w.heap.size) (by kernel_rfl) ⟨⟨(Below.refl 0 W).drew, fun _ _ _ => rfl⟩, false, R6.out⟩ (fun hH => ?_)
      refine wpAnyH_take (i := 0) (v := .int .i64 (os.length : Int)) rfl (by kernel_rfl) (by kernel_rfl) (by kernel_rfl) (fun _ _ _ h => h) (.inl ⟨by rfl, ?_⟩) (by assumption) ?_
      · intro W hW; have c1 := hW.cell (by have := SW.out; omega) (by omega) (obj_cell N6.out); go_simp
      try simp only [List.getElem_toArray, List.getElem_cons_zero, Act.put, List.setIfInBounds_toArray, List.set_cons_zero, List.set_cons_succ]
      refine wpAnyH_take (i := 1) (v := .slice A os.length cp) rfl (by kernel_rfl) (by kernel_rfl) (by kernel_rfl) (fun _ _ _ h => h) (.inl ⟨by rfl, ?_⟩) (by assumption) ?_
      · intro W hW; have c1 := hW.cell (by have := SW.out; omega) (by omega) (obj_cell L6.out); go_simp
      try simp only [List.getElem_toArray, List.getElem_cons_zero, List.getElem_cons_succ, Act.put, List.setIfInBounds_toArray, List.set_cons_zero, List.set_cons_succ]
      refine wpAnyH_take (i := 2) (v := .int .i64 (os.length : Int)) rfl (by kernel_rfl) (by kernel_rfl) (by kernel_rfl) (fun _ _ _ h => h) (.inl ⟨by rfl, ?_⟩) (by assumption) ?_
      · intro W hW; go_simp
      try simp only [List.getElem_toArray, List.getElem_cons_zero, List.getElem_cons_succ, Act.put, List.setIfInBounds_toArray, List.set_cons_zero, List.set_cons_succ]
      refine wpAnyH_take (i := 3) (v := .bool true) rfl (by kernel_rfl) (by kernel_rfl) (by kernel_rfl) (fun _ _ _ h => h) (.inl ⟨by rfl, ?_⟩) (by assumption) ?_
      · intro W hW; go_simp
      try simp only [List.getElem_toArray, List.getElem_cons_zero, List.getElem_cons_succ, Act.put, List.setIfInBounds_toArray, List.set_cons_zero, List.set_cons_succ]
      refine wpAnyH_take (i := 4) (v := .bool true) rfl (by kernel_rfl) (by kernel_rfl) (by kernel_rfl) (fun _ _ _ h => h) (.inl ⟨by rfl, ?_⟩) (by assumption) ?_
      · intro W hW; go_simp
      try simp only [List.getElem_toArray, List.getElem_cons_zero, List.getElem_cons_succ, Act.put, List.setIfInBounds_toArray, List.set_cons_zero, List.set_cons_succ]
      refine wpAnyH_take (i := 5) (v := .pointer (some ⟨g, 0, none⟩)) rfl (by kernel_rfl) (by kernel_rfl) (by kernel_rfl) (fun _ _ _ h => h) (.inl ⟨by rfl, ?_⟩) (by assumption) ?_
      · intro W hW; go_simp
      try simp only [List.getElem_toArray, List.getElem_cons_zero, List.getElem_cons_succ, Act.put, List.setIfInBounds_toArray, List.set_cons_zero, List.set_cons_succ]
      refine wpAnyH_take (i := 7) (v := .int .i64 (os.length : Int)) rfl (by kernel_rfl) (by kernel_rfl) (by kernel_rfl) (fun _ _ _ h => h) (.inl ⟨by rfl, ?_⟩) (by assumption) ?_
      · intro W hW; have c1 := hW.cell (by have := SW.out; omega) (by omega) (obj_cell N6.out); go_simp
      try simp only [List.getElem_toArray, List.getElem_cons_zero, List.getElem_cons_succ, Act.put, List.setIfInBounds_toArray, List.set_cons_zero, List.set_cons_succ]
      refine wpAnyH_ready (rs := [6]) (by decide +kernel) (by simp) (AllReadyH.cons rfl (fun KQ hK => ?_) AllReadyH.nil)
      go_simp
      refine (KH.out.len (KH.out.keep P6.out hH.fr (fun k hk => by have := LF.out k hk; have := SW.out; omega))).mono ?_; rintro e0 U1 ⟨rfl, q1⟩
      have hH1 := hH.grow q1 (by have := SW.out; omega)
      refine hK.out _ _ hH1 (fun _ => ?_)
      clear hK q1 hH
      try simp only [List.setIfInBounds_toArray, List.set_cons_zero, List.set_cons_succ]
      refine wpAnyH_take (i := 8) (v := .bool true) rfl (by kernel_rfl) (by kernel_rfl) (by kernel_rfl) (fun _ _ _ h => h) (.inl ⟨by rfl, ?_⟩) (by assumption) ?_
      · intro W hW; go_simp
      try simp only [List.getElem_toArray, List.getElem_cons_zero, List.getElem_cons_succ, Act.put, List.setIfInBounds_toArray, List.set_cons_zero, List.set_cons_succ]
      refine wpAnyH_take (i := 9) (v := .bool true) rfl (by kernel_rfl) (by kernel_rfl) (by kernel_rfl) (fun _ _ _ h => h) (.inl ⟨by rfl, ?_⟩) (by assumption) ?_
      · intro W hW; go_simp
      try simp only [List.getElem_toArray, List.getElem_cons_zero, List.getElem_cons_succ, Act.put, List.setIfInBounds_toArray, List.set_cons_zero, List.set_cons_succ]
      refine wpAnyH_ready (rs := [10]) (by decide +kernel) (by simp) (AllReadyH.cons rfl (fun KQ hK => ?_) AllReadyH.nil)
      obtain ⟨b6, hb6⟩ := hH1.r
      have c6 : U1.cell? ⟨w.heap.size, 0, none⟩ = some (.bool b6) := obj_cell hb6
      have f6 := obj_fz hb6 0
      go_simp
      have hH2 := hH1.put true
      have R7 := heap_setCell_same U1 w.heap.size 0 _ _ (.bool true) hb6
      have HH2 := Lib.hid hH2
      have HR7 := Lib.hid R7
      refine hK.out _ _ hH2 (fun _ => ?_)
      clear hK hH1 hb6 c6 f6 R7 hH2
      try simp only [List.setIfInBounds_toArray, List.set_cons_zero, List.set_cons_succ]
      refine wpAnyH_done (by decide +kernel) ?_ _
      go_wp2_with fail
      have hsw := SW.out
      have hde := HDE.out
      have hd2 : D2 < W.heap.size := (Array.getElem?_eq_some_iff.1 KE.out).1
      have hd1 : D < W.heap.size := (Array.getElem?_eq_some_iff.1 K6.out).1
      refine ret_marks [D2, D] rfl ?_ ?_ (ret_cell6 rfl _ _ w.heap.size true rfl ?_) ⟨rfl, ?_⟩
      · simp; omega
      · intro E hE
        simp only [List.mem_cons, List.not_mem_nil, or_false] at hE
        rcases hE with rfl | rfl
        · exact (HH2.out.fr.at' _ (Array.getElem?_eq_some_iff.1 KE.out).1 (by omega)).trans KE.out
        · exact (HH2.out.fr.at' _ (Array.getElem?_eq_some_iff.1 K6.out).1 (by omega)).trans K6.out
      · rw [cell_of_row _ _ _ _ _ _ ((unmark_other [D2, D] _ w.heap.size (by simp; omega)).trans HR7.out)]; rfl
      · have BF := below_fr BW6.out HH2.out.fr (fun k hk c => by have := BW6.out.size; rcases c with c | c <;> omega)
        refine unmark_below [D2, D] _ _ _ ?_ BF.size BF
        intro E hE
        simp only [List.mem_cons, List.not_mem_nil, or_false] at hE
        rcases hE with rfl | rfl <;> omega
end Go.Proofs.Ytpnccbcaoifdiaa
