/- The walk of the statement SideNone, given the program's side. -/
import Derived.Test.YtpnccbcaoifdiaaEa
import Derived.Test.YtpnccbcaoifdiaaEg
import Derived.LoopN
namespace Go.Proofs.Ytpnccbcaoifdiaa
open Go.RowKit Go.Shelf
set_option linter.unusedVariables false
set_option linter.unusedSimpArgs false

/-- What lies ahead of the loop: the argument's box, the result's, the zero side, the two pointers. -/
structure Nz6 (w W : World) (o : Or) (zs : Array Value) (Ds : List Nat) : Prop where
  bl : Below w.heap.size w W
  b0 : EO.Bx 33 W w.heap.size o
  b1 : W.heap[w.heap.size + 1]? = some (.cells #[.bool false] 4 (0, 0))
  b2 : W.heap[w.heap.size + 2]? = some (.cells zs 51 (0, 0))
  b3 : W.heap[w.heap.size + 3]? = some (.cells #[.pointer none, .pointer (some ⟨w.heap.size + 2, 0, none⟩)] 23 (0, 0))
  dm : ∀ D, D ∈ Ds → w.heap.size + 4 ≤ D ∧ W.heap[D]? = some (.deferred (some []))
  nd : Ds.Nodup
section
variable {w W W' : World} {o : Or} {zs : Array Value} {Ds : List Nat}
theorem nz6_new (w : World) (o : Or) (zs : Array Value) : Nz6 w ((((w.alloc (.cells (EO.cells o).toArray 33)).alloc (.cells #[.bool false] 4)).alloc (.cells zs 51)).alloc (.cells #[.pointer none, .pointer (some ⟨w.heap.size + 2, 0, none⟩)] 23)) o zs [] := by
  generalize h1 : w.alloc (.cells (EO.cells o).toArray 33) = W1
  have e1 : W1.heap[w.heap.size]? = some (.cells (EO.cells o).toArray 33 (0, 0)) := h1 ▸ heap_alloc_new w _
  have s1 : W1.heap.size = w.heap.size + 1 := by rw [← h1]; simp
  have q1 : Below w.heap.size w W1 := h1 ▸ below_new w _
  generalize h2 : W1.alloc (.cells #[.bool false] 4) = W2
  have e2 : W2.heap[W1.heap.size]? = some (.cells #[.bool false] 4 (0, 0)) := h2 ▸ heap_alloc_new W1 _
  have s2 : W2.heap.size = W1.heap.size + 1 := by rw [← h2]; simp
  have q2 : Below W1.heap.size W1 W2 := h2 ▸ below_new W1 _
  generalize h3 : W2.alloc (.cells zs 51) = W3
  have e3 : W3.heap[W2.heap.size]? = some (.cells zs 51 (0, 0)) := h3 ▸ heap_alloc_new W2 _
  have s3 : W3.heap.size = W2.heap.size + 1 := by rw [← h3]; simp
  have q3 : Below W2.heap.size W2 W3 := h3 ▸ below_new W2 _
  generalize h4 : W3.alloc (.cells #[.pointer none, .pointer (some ⟨w.heap.size + 2, 0, none⟩)] 23) = W4
  have e4 : W4.heap[W3.heap.size]? = some (.cells #[.pointer none, .pointer (some ⟨w.heap.size + 2, 0, none⟩)] 23 (0, 0)) := h4 ▸ heap_alloc_new W3 _
  have q4 : Below W3.heap.size W3 W4 := h4 ▸ below_new W3 _
  rw [s1] at e2
  rw [s2, s1] at e3
  rw [s3, s2, s1] at e4
  refine ⟨((q1.trans (q2.mono (by omega))).trans (q3.mono (by omega))).trans (q4.mono (by omega)), ?_, ?_, ?_, e4, fun D h => (by cases h), List.nodup_nil⟩
  · exact (q4.block _ (by omega)).trans ((q3.block _ (by omega)).trans ((q2.block _ (by omega)).trans e1))
  · exact (q4.block _ (by omega)).trans ((q3.block _ (by omega)).trans e2)
  · exact (q4.block _ (by omega)).trans e3
theorem Nz6.sz (h : Nz6 w W o zs Ds) : w.heap.size + 3 < W.heap.size := (Array.getElem?_eq_some_iff.1 h.b3).1
theorem Nz6.below (h : Nz6 w W o zs Ds) (q : Below W.heap.size W W') : Nz6 w W' o zs Ds := by
  have z := h.sz
  exact ⟨h.bl.trans (q.mono h.bl.size), gbx_below h.b0 q, (q.block _ (by omega)).trans h.b1, (q.block _ (by omega)).trans h.b2, (q.block _ (by omega)).trans h.b3, fun D hD => ⟨(h.dm D hD).1, (q.block _ (Array.getElem?_eq_some_iff.1 (h.dm D hD).2).1).trans (h.dm D hD).2⟩, h.nd⟩
theorem Nz6.nc (h : Nz6 w W o zs Ds) : Ns zs W (some ⟨w.heap.size + 2, 0, none⟩) := .inr ⟨_, rfl, h.b2⟩
theorem Nz6.mark (h : Nz6 w W o zs Ds) (f : Below W.heap.size W W') {D : Nat} (hD : W.heap.size ≤ D) (e : W'.heap[D]? = some (.deferred (some []))) : Nz6 w W' o zs (D :: Ds) := by
  have k : Nz6 w W' o zs Ds := h.below f
  refine ⟨k.bl, k.b0, k.b1, k.b2, k.b3, fun E hE => ?_, List.nodup_cons.2 ⟨fun c => ?_, h.nd⟩⟩
  rotate_left
  · have := (Array.getElem?_eq_some_iff.1 (h.dm D c).2).1
    omega
  rcases List.mem_cons.1 hE with rfl | hE
  · have := h.sz
    exact ⟨by omega, e⟩
  · exact k.dm E hE
theorem Nz6.c0 (h : Nz6 w W o zs Ds) : W.cell? ⟨w.heap.size, 0, none⟩ = some (.int .u64 o.nu) := gbx_cell h.b0 0
theorem Nz6.c1 (h : Nz6 w W o zs Ds) : W.cell? ⟨w.heap.size, 1, none⟩ = some (.int .u32 o.ac) := gbx_cell h.b0 1
theorem ns_nil (W : World) : Ns zs W none := .inl rfl
end
set_option maxRecDepth 100000 in
set_option maxHeartbeats 8000000 in
theorem none6_all {Pd : PdT} {zs : Array Value} (K : SideK Pd zs) (o : Or) (n : Int) (w : World) (ok : o.ok) (hn : I64' n) :
    Calls Try.prog 4 #[.agg (EO.cells o).toArray, .int .i64 n] w fun e w' => e = .returned (.bool true) ∧ Below w.heap.size w w' := by
  have KN := Lib.hid (fun W => known6_any K W)
  have KH := Lib.hid K
  have OK := Lib.hid ok
  have HN := Lib.hid hn
  have NU : Hid (U64' o.nu) := Lib.hid ok.nu
  have AC : Hid (0 ≤ o.ac ∧ o.ac ≤ 4294967295) := Lib.hid ok.ac
  have Z := K.zero
  have EQ := eql_seq6
  have ZC := zero_or
  have NZ := Lib.hid (nz6_new w o zs)
  clear K ok hn
  refine calls_marks Try.func4 rfl ?_
  simp only [Try.ntmps4, List.size_toArray, List.length_cons, List.length_nil, Nat.reduceAdd, Nat.reduceSub, Array.replicate_succ, Array.replicate_zero, List.push_toArray, List.append_toArray, List.nil_append, List.cons_append]
  go_wp2_with fail
  rw [show w.heap.size + 1 + 1 = w.heap.size + 2 from rfl, show w.heap.size + 1 + 1 + 1 = w.heap.size + 3 from rfl]
  generalize ((((w.alloc (.cells (EO.cells o).toArray 33)).alloc (.cells #[.bool false] 4)).alloc (.cells zs 51)).alloc (.cells #[.pointer none, .pointer (some ⟨w.heap.size + 2, 0, none⟩)] 23)) = W0 at NZ ⊢
  have p0 : W0.cell? ⟨w.heap.size + 3, 0, none⟩ = some (.pointer none) := by rw [cell_of_row _ _ _ _ _ _ NZ.out.b3]; rfl
  refine wp_loop_rounds 3 ?_
  rw [rounds_succ]
  go_wp2_with fail
  refine (KH.out.nFill HN.out (ns_nil _)).mono ?_; rintro e0 U11 ⟨⟨x11, rfl⟩, q⟩
  obtain ⟨V11, hV, bV, yV, zV, sV⟩ := put_or x11 q
  have HV11 := Lib.hid hV
  have ZV11 := Lib.hid zV
  have N11 := Lib.hid (NZ.out.below bV)
  have d11 := N11.out.c0
  clear q hV bV yV zV sV NZ
  go_wp2_with (refine gwl_store TO x11 U11.heap.size ZV11.out rfl rfl ?_; rw [HV11.out])
  refine (KH.out.nDrop NU.out (ns_nil _)).mono ?_; rintro e0 U12 ⟨⟨x12, rfl⟩, q⟩
  obtain ⟨V12, hV, bV, yV, zV, sV⟩ := put_or x12 q
  have HV12 := Lib.hid hV
  have ZV12 := Lib.hid zV
  have N12 := Lib.hid (N11.out.below bV)
  have d12 := N12.out.c0
  clear q hV bV yV zV sV N11
  go_wp2_with (refine gwl_store TO x12 U12.heap.size ZV12.out rfl rfl ?_; rw [HV12.out])
  refine (KH.out.nGet NU.out (ns_nil _)).mono ?_; rintro e0 U13 ⟨⟨x13, rfl⟩, q⟩
  obtain ⟨V13, hV, bV, yV, zV, sV⟩ := put_or x13 q
  have HV13 := Lib.hid hV
  have ZV13 := Lib.hid zV
  have N13 := Lib.hid (N12.out.below bV)
  have d13 := N13.out.c0
  clear q hV bV yV zV sV N12
  go_wp2_with (refine gwl_store TO x13 U13.heap.size ZV13.out rfl rfl ?_; rw [HV13.out])
  refine (KH.out.nBest (ns_nil _)).mono ?_; rintro e0 U14 ⟨rfl, q⟩
  obtain ⟨V14, hV, bV, yV, zV, sV⟩ := put_or zeroOr q
  have HV14 := Lib.hid hV
  have ZV14 := Lib.hid zV
  have N14 := Lib.hid (N13.out.below bV)
  have YB1 : Hid (∀ W, Below V14.heap.size V14 W → W.rangeAt U14.heap.size 0 (EO.cells zeroOr)) := Lib.hid fun W q => gbx_rng (gbx_below yV q)
  have RG1 := Lib.hid (gbx_rng N14.out.b0)
  clear q hV bV yV zV sV N13
  go_wp2_with (first | (refine gwl_store TO zeroOr U14.heap.size ZV14.out rfl rfl ?_; rw [HV14.out]) | ((with_reducible refine gwl_load TO w.heap.size 0 RG1.out ?_ ?_ ?_); rfl; rfl))
  refine (KH.out.nAdd OK.out (ns_nil _)).mono ?_; rintro e0 U15 ⟨rfl, q⟩
  have N15 := Lib.hid (N14.out.below q)
  have e15 := N15.out.c0
  have QA1 := Lib.hid q
  clear q N14
  go_wp2_with fail
  refine (KH.out.nLow NU.out HN.out (ns_nil _)).mono ?_; rintro e0 U16 ⟨rfl, q⟩
  have N16 := Lib.hid (N15.out.below q)
  have e16 := N16.out.c1
  have YC1 := Lib.hid (YB1.out _ (QA1.out.trans (q.mono QA1.out.size)))
  clear q N15
  go_wp2_with (first | ((with_reducible refine gwl_load TO U14.heap.size 0 YC1.out ?_ ?_ ?_); rfl; rfl) | ((with_reducible refine wl_build0_or ?_ ?_); rfl) | ((with_reducible refine wl_neq_or0 zeroOr_ok ?_ ?_ ?_ ?_); rfl; rfl; rfl))
  refine (KH.out.nReach HN.out AC.out (ns_nil _)).mono ?_; rintro e0 U17 ⟨rfl, q⟩
  have N17 := Lib.hid (N16.out.below q)
  clear q N16
  go_wp2_with fail
  refine (KH.out.nLen (ns_nil _)).mono ?_; rintro e0 U18 ⟨rfl, q⟩
  have N18 := Lib.hid (N17.out.below q)
  clear q N17
  go_wp2_with fail
  refine (KH.out.nCopy (ns_nil _)).mono ?_; rintro e0 U19 ⟨rfl, q⟩
  have N19 := Lib.hid (N18.out.below q)
  clear q N18
  go_wp2_with fail
  refine (KH.out.nAll (ns_nil _)).mono ?_; rintro e0 U1A ⟨gf11, lb11, T, rfl, q, -, -, -⟩
  have N1A := Lib.hid (N19.out.below q)
  clear q N19
  go_wp2_with fail
  refine (KH.out.nAll (ns_nil _)).mono ?_; rintro e0 U1B ⟨gf12, lb12, T, rfl, q, en, hT, tell⟩
  have N1B := Lib.hid (N1A.out.below q)
  clear q N1A
  go_wp2_with fail
  refine (wpIn_wide (n := 9)).1 ?_
  refine range_calm (S := fun _ _ => False) (by decide) rfl en (Still.const _ _) (tell U1B (fun _ _ => False) 8 (Fr.refl _ _) (Still.const _ _) (fun k hk => hk.elim) (fun k hk c => c) (by decide)) (fun _ => rfl)
    (fun (_ : List OkOr) W => Below U1B.heap.size U1B W) (fun _ _ _ => False) (fun s A C hj b _ => hj.trans b) (fun c s A C hj b _ => hj) (Below.refl _ _) (fun _ _ _ => True) (fun _ _ _ _ _ _ _ _ _ _ => trivial)
    (fun l pre x W KK hi hK => by gi_wp2; exact hK _ _ (KeepsFrom.refl _ _) (Kc.fr (Fr.refl _ _)) hi trivial) (fun l pre x a' W _ _ _ _ hlen => absurd hlen (Nat.not_lt_zero _)) ?done1 (fun D c pre W hD hS hx hK => hx.elim)
  rintro D1 ys X1 hD - hF hM
  have M1 := Lib.hid (N1B.out.mark hF hD hM)
  clear hF hM hD en hT tell N1B
  have p1 : X1.cell? ⟨w.heap.size + 3, 1, none⟩ = some (.pointer (some ⟨w.heap.size + 2, 0, none⟩)) := by rw [cell_of_row _ _ _ _ _ _ M1.out.b3]; rfl
  clear p0
  go_wp2_with fail
  rw [rounds_succ]
  go_wp2_with fail
  refine (KH.out.nFill HN.out M1.out.nc).mono ?_; rintro e0 U21 ⟨⟨x21, rfl⟩, q⟩
  obtain ⟨V21, hV, bV, yV, zV, sV⟩ := put_or x21 q
  have HV21 := Lib.hid hV
  have ZV21 := Lib.hid zV
  have N21 := Lib.hid (M1.out.below bV)
  have d21 := N21.out.c0
  clear q hV bV yV zV sV M1
  go_wp2_with (refine gwl_store TO x21 U21.heap.size ZV21.out rfl rfl ?_; rw [HV21.out])
  refine (KH.out.nDrop NU.out N21.out.nc).mono ?_; rintro e0 U22 ⟨⟨x22, rfl⟩, q⟩
  obtain ⟨V22, hV, bV, yV, zV, sV⟩ := put_or x22 q
  have HV22 := Lib.hid hV
  have ZV22 := Lib.hid zV
  have N22 := Lib.hid (N21.out.below bV)
  have d22 := N22.out.c0
  clear q hV bV yV zV sV N21
  go_wp2_with (refine gwl_store TO x22 U22.heap.size ZV22.out rfl rfl ?_; rw [HV22.out])
  refine (KH.out.nGet NU.out N22.out.nc).mono ?_; rintro e0 U23 ⟨⟨x23, rfl⟩, q⟩
  obtain ⟨V23, hV, bV, yV, zV, sV⟩ := put_or x23 q
  have HV23 := Lib.hid hV
  have ZV23 := Lib.hid zV
  have N23 := Lib.hid (N22.out.below bV)
  have d23 := N23.out.c0
  clear q hV bV yV zV sV N22
  go_wp2_with (refine gwl_store TO x23 U23.heap.size ZV23.out rfl rfl ?_; rw [HV23.out])
  refine (KH.out.nBest N23.out.nc).mono ?_; rintro e0 U24 ⟨rfl, q⟩
  obtain ⟨V24, hV, bV, yV, zV, sV⟩ := put_or zeroOr q
  have HV24 := Lib.hid hV
  have ZV24 := Lib.hid zV
  have N24 := Lib.hid (N23.out.below bV)
  have YB2 : Hid (∀ W, Below V24.heap.size V24 W → W.rangeAt U24.heap.size 0 (EO.cells zeroOr)) := Lib.hid fun W q => gbx_rng (gbx_below yV q)
  have RG2 := Lib.hid (gbx_rng N24.out.b0)
  clear q hV bV yV zV sV N23
  go_wp2_with (first | (refine gwl_store TO zeroOr U24.heap.size ZV24.out rfl rfl ?_; rw [HV24.out]) | ((with_reducible refine gwl_load TO w.heap.size 0 RG2.out ?_ ?_ ?_); rfl; rfl))
  refine (KH.out.nAdd OK.out N24.out.nc).mono ?_; rintro e0 U25 ⟨rfl, q⟩
  have N25 := Lib.hid (N24.out.below q)
  have e25 := N25.out.c0
  have QA2 := Lib.hid q
  clear q N24
  go_wp2_with fail
  refine (KH.out.nLow NU.out HN.out N25.out.nc).mono ?_; rintro e0 U26 ⟨rfl, q⟩
  have N26 := Lib.hid (N25.out.below q)
  have e26 := N26.out.c1
  have YC2 := Lib.hid (YB2.out _ (QA2.out.trans (q.mono QA2.out.size)))
  clear q N25
  go_wp2_with (first | ((with_reducible refine gwl_load TO U24.heap.size 0 YC2.out ?_ ?_ ?_); rfl; rfl) | ((with_reducible refine wl_build0_or ?_ ?_); rfl) | ((with_reducible refine wl_neq_or0 zeroOr_ok ?_ ?_ ?_ ?_); rfl; rfl; rfl))
  refine (KH.out.nReach HN.out AC.out N26.out.nc).mono ?_; rintro e0 U27 ⟨rfl, q⟩
  have N27 := Lib.hid (N26.out.below q)
  clear q N26
  go_wp2_with fail
  refine (KH.out.nLen N27.out.nc).mono ?_; rintro e0 U28 ⟨rfl, q⟩
  have N28 := Lib.hid (N27.out.below q)
  clear q N27
  go_wp2_with fail
  refine (KH.out.nCopy N28.out.nc).mono ?_; rintro e0 U29 ⟨rfl, q⟩
  have N29 := Lib.hid (N28.out.below q)
  clear q N28
  go_wp2_with fail
  refine (KH.out.nAll N29.out.nc).mono ?_; rintro e0 U2A ⟨gf21, lb21, T, rfl, q, -, -, -⟩
  have N2A := Lib.hid (N29.out.below q)
  clear q N29
  go_wp2_with fail
  refine (KH.out.nAll N2A.out.nc).mono ?_; rintro e0 U2B ⟨gf22, lb22, T, rfl, q, en, hT, tell⟩
  have N2B := Lib.hid (N2A.out.below q)
  clear q N2A
  go_wp2_with fail
  refine (wpIn_wide (n := 9)).1 ?_
  refine range_calm (S := fun _ _ => False) (by decide) rfl en (Still.const _ _) (tell U2B (fun _ _ => False) 8 (Fr.refl _ _) (Still.const _ _) (fun k hk => hk.elim) (fun k hk c => c) (by decide)) (fun _ => rfl)
    (fun (_ : List OkOr) W => Below U2B.heap.size U2B W) (fun _ _ _ => False) (fun s A C hj b _ => hj.trans b) (fun c s A C hj b _ => hj) (Below.refl _ _) (fun _ _ _ => True) (fun _ _ _ _ _ _ _ _ _ _ => trivial)
    (fun l pre x W KK hi hK => by gi_wp2; exact hK _ _ (KeepsFrom.refl _ _) (Kc.fr (Fr.refl _ _)) hi trivial) (fun l pre x a' W _ _ _ _ hlen => absurd hlen (Nat.not_lt_zero _)) ?done2 (fun D c pre W hD hS hx hK => hx.elim)
  rintro D2 ys X2 hD - hF hM
  have M2 := Lib.hid (N2B.out.mark hF hD hM)
  clear hF hM hD en hT tell N2B
  clear p1
  go_wp2_with fail
  rw [rounds_succ]
  go_wp2_with fail
  refine (KN.out _).mono ?_; rintro e0 W9 ⟨rfl, q⟩
  have M3 := Lib.hid (M2.out.below q)
  clear q M2
  have cb : W9.cell? ⟨w.heap.size + 1, 0, none⟩ = some (.bool false) := obj_cell M3.out.b1
  have fb : W9.frozen? ⟨w.heap.size + 1, 0, none⟩ = false := obj_fz M3.out.b1 0
  go_wp2_with fail
  have BR : (W9.setCell ⟨w.heap.size + 1, 0, none⟩ (.bool true)).heap[w.heap.size + 1]? = some (.cells #[.bool true] 4 (0, 0)) := heap_setCell_same W9 (w.heap.size + 1) 0 _ _ (.bool true) M3.out.b1
  have hD : ∀ E, E ∈ [D2, D1] → w.heap.size + 4 ≤ E := fun E hE => (M3.out.dm E hE).1
  have hz := M3.out.sz
  refine ret_marks [D2, D1] rfl M3.out.nd ?_ (ret_cell6 rfl _ _ (w.heap.size + 1) true rfl ?_) ⟨rfl, ?_⟩
  · intro E hE
    have := hD E hE
    exact (heap_setCell_other W9 _ _ _ (by show E ≠ w.heap.size + 1; omega)).trans (M3.out.dm E hE).2
  · rw [cell_of_row _ _ _ _ _ _ ((unmark_other [D2, D1] _ (w.heap.size + 1) (fun c => by have := hD _ c; omega)).trans BR)]; rfl
  · refine unmark_below [D2, D1] _ _ _ (fun E hE => by have := hD E hE; omega) (by show w.heap.size ≤ (W9.setCell _ _).heap.size; simp; omega) (M3.out.bl.setCell (by show w.heap.size ≤ w.heap.size + 1; omega) _)
end Go.Proofs.Ytpnccbcaoifdiaa
