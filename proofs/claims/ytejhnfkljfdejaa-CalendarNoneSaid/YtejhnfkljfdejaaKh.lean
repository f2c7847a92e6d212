/- The walk of the statement CalendarNone, given the program's calendar. -/
import Derived.Test.YtejhnfkljfdejaaKn
import Derived.Test.YtejhnfkljfdejaaKo
import Derived.LoopN
namespace Go.Proofs.Ytejhnfkljfdejaa
open Go.RowKit Go.Shelf

/-- What lies ahead of the loop: the argument's box, the result's, the zero calendar, the two pointers. -/
structure Nz (w W : World) (s : Sp) (zc : Array Value) (Ds : List Nat) : Prop where
  bl : Below w.heap.size w W
  b0 : Box W w.heap.size s
  b1 : W.heap[w.heap.size + 1]? = some (.cells #[.bool false] 4 (0, 0))
  b2 : W.heap[w.heap.size + 2]? = some (.cells zc 51 (0, 0))
  b3 : W.heap[w.heap.size + 3]? = some (.cells #[.pointer none, .pointer (some ⟨w.heap.size + 2, 0, none⟩)] 23 (0, 0))
  dm : ∀ D, D ∈ Ds → w.heap.size + 4 ≤ D ∧ W.heap[D]? = some (.deferred (some []))
  nd : Ds.Nodup
section
variable {w W W' : World} {s : Sp} {zc : Array Value} {Ds : List Nat}
theorem nz_new (w : World) {s : Sp} (hs : s.sh.length = 16) (zc : Array Value) : Nz w ((((w.alloc (.cells s.cells 33)).alloc (.cells #[.bool false] 4)).alloc (.cells zc 51)).alloc (.cells #[.pointer none, .pointer (some ⟨w.heap.size + 2, 0, none⟩)] 23)) s zc [] := by
  generalize h1 : w.alloc (.cells s.cells 33) = W1
  have e1 : W1.heap[w.heap.size]? = some (.cells s.cells 33 (0, 0)) := h1 ▸ heap_alloc_new w _
  have s1 : W1.heap.size = w.heap.size + 1 := by rw [← h1]; simp
  have q1 : Below w.heap.size w W1 := h1 ▸ (Below.refl _ w).alloc (Nat.le_refl _) _
  generalize h2 : W1.alloc (.cells #[.bool false] 4) = W2
  have e2 : W2.heap[W1.heap.size]? = some (.cells #[.bool false] 4 (0, 0)) := h2 ▸ heap_alloc_new W1 _
  have s2 : W2.heap.size = W1.heap.size + 1 := by rw [← h2]; simp
  have q2 : Below W1.heap.size W1 W2 := h2 ▸ (Below.refl _ W1).alloc (Nat.le_refl _) _
  generalize h3 : W2.alloc (.cells zc 51) = W3
  have e3 : W3.heap[W2.heap.size]? = some (.cells zc 51 (0, 0)) := h3 ▸ heap_alloc_new W2 _
  have s3 : W3.heap.size = W2.heap.size + 1 := by rw [← h3]; simp
  have q3 : Below W2.heap.size W2 W3 := h3 ▸ (Below.refl _ W2).alloc (Nat.le_refl _) _
  generalize h4 : W3.alloc (.cells #[.pointer none, .pointer (some ⟨w.heap.size + 2, 0, none⟩)] 23) = W4
  have e4 : W4.heap[W3.heap.size]? = some (.cells #[.pointer none, .pointer (some ⟨w.heap.size + 2, 0, none⟩)] 23 (0, 0)) := h4 ▸ heap_alloc_new W3 _
  have q4 : Below W3.heap.size W3 W4 := h4 ▸ (Below.refl _ W3).alloc (Nat.le_refl _) _
  rw [s1] at e2
  rw [s2, s1] at e3
  rw [s3, s2, s1] at e4
  refine ⟨((q1.trans (q2.mono (by omega))).trans (q3.mono (by omega))).trans (q4.mono (by omega)), ⟨?_, hs⟩, ?_, ?_, e4, fun D h => (by cases h), List.nodup_nil⟩
  · exact (q4.block _ (by omega)).trans ((q3.block _ (by omega)).trans ((q2.block _ (by omega)).trans e1))
  · exact (q4.block _ (by omega)).trans ((q3.block _ (by omega)).trans e2)
  · exact (q4.block _ (by omega)).trans e3
theorem Nz.sz (h : Nz w W s zc Ds) : w.heap.size + 3 < W.heap.size := (Array.getElem?_eq_some_iff.1 h.b3).1
theorem Nz.below (h : Nz w W s zc Ds) (q : Below W.heap.size W W') : Nz w W' s zc Ds := by
  have z := h.sz
  exact ⟨h.bl.trans (q.mono h.bl.size), ⟨(q.block _ (by omega)).trans h.b0.1, h.b0.2⟩, (q.block _ (by omega)).trans h.b1, (q.block _ (by omega)).trans h.b2, (q.block _ (by omega)).trans h.b3, fun D hD => ⟨(h.dm D hD).1, (q.block _ (Array.getElem?_eq_some_iff.1 (h.dm D hD).2).1).trans (h.dm D hD).2⟩, h.nd⟩
theorem Nz.nc (h : Nz w W s zc Ds) : Nc zc W (some ⟨w.heap.size + 2, 0, none⟩) := .inr ⟨_, rfl, h.b2⟩
theorem Nz.mark (h : Nz w W s zc Ds) (f : Fr (fun k => W.heap.size ≤ k) W W') {D : Nat} (hD : W.heap.size ≤ D) (e : W'.heap[D]? = some (.deferred (some []))) : Nz w W' s zc (D :: Ds) := by
  have k : Nz w W' s zc Ds := h.below ⟨f.b0.os, f.b0.tape, f.b0.output, f.size, fun k hk => f.at' k hk (by omega)⟩
  refine ⟨k.bl, k.b0, k.b1, k.b2, k.b3, fun E hE => ?_, List.nodup_cons.2 ⟨fun c => ?_, h.nd⟩⟩
  rotate_left
  · have := (Array.getElem?_eq_some_iff.1 (h.dm D c).2).1
    omega
  rcases List.mem_cons.1 hE with rfl | hE
  · have := h.sz
    exact ⟨by omega, e⟩
  · exact k.dm E hE
theorem nc_nil (W : World) : Nc zc W none := .inl rfl
end
set_option maxRecDepth 100000 in
set_option maxHeartbeats 8000000 in
theorem none_all {Pc : PcT} {zc : Array Value} (K : CalK Pc zc) (s : Sp) (nu pr : Int) (w : World) (ok : s.ok) :
    Calls Try.prog 4 #[.agg s.cells, .int .u32 nu, .int .i64 pr] w fun e w' => e = .returned (.bool true) ∧ Below w.heap.size w w' := by
  have KN := Lib.hid (fun W => known5_any K W)
  have KH := Lib.hid K
  have OK := Lib.hid ok
  have Z := K.zero
  have EQ := eql_seq
  have ZC := zero_ct
  have NZ := Lib.hid (nz_new w ok.len zc)
  clear K ok
  refine calls_marks Try.func4 rfl ?_
  simp only [Try.ntmps4, List.size_toArray, List.length_cons, List.length_nil, Nat.reduceAdd, Nat.reduceSub, Array.replicate_succ, Array.replicate_zero, List.push_toArray, List.append_toArray, List.nil_append, List.cons_append]
  go_wp2_with fail
  rw [show w.heap.size + 1 + 1 = w.heap.size + 2 from rfl, show w.heap.size + 1 + 1 + 1 = w.heap.size + 3 from rfl]
  generalize ((((w.alloc (.cells s.cells 33)).alloc (.cells #[.bool false] 4)).alloc (.cells zc 51)).alloc (.cells #[.pointer none, .pointer (some ⟨w.heap.size + 2, 0, none⟩)] 23)) = W0 at NZ ⊢
  have p0 : W0.cell? ⟨w.heap.size + 3, 0, none⟩ = some (.pointer none) := by rw [cell_of_row _ _ _ _ _ _ NZ.out.b3]; rfl
  refine wp_loop_rounds 3 ?_
  rw [rounds_succ]
  go_wp2_with fail
  refine (KH.out.nGet (nc_nil _)).mono ?_; rintro e0 U11 ⟨rfl, q⟩
  have N11 := Lib.hid (NZ.out.below q)
  clear q NZ
  have HC := Lib.hid (cb_new U11 (x := zeroCt) rfl)
  have NB := Lib.hid (N11.out.below (below_row' (g := U11.heap.size) (cs := zeroCt.cells) ((Below.refl _ U11).alloc (Nat.le_refl _) (.cells zeroCt.cells 45)) (Nat.le_refl _)))
  clear N11
  go_wp2_with ((with_reducible refine wl_store_ct zeroCt U11.heap.size HC.out rfl ?_ ?_ ?_); rfl; rfl)
  clear HC
  refine (KH.out.nNext (nc_nil _)).mono ?_; rintro e0 U12 ⟨rfl, q⟩
  have N12 := Lib.hid (NB.out.below q)
  clear q NB
  go_wp2_with ((with_reducible refine wl_load_sp w.heap.size N12.out.b0 ?_ ?_ ?_); rfl; rfl)
  refine (KH.out.nList OK.out (nc_nil _)).mono ?_; rintro e0 U13 ⟨rfl, q⟩
  have N13 := Lib.hid (N12.out.below q)
  clear q N12
  go_wp2_with fail
  refine (KH.out.nHalt (nc_nil _)).mono ?_; rintro e0 U14 ⟨rfl, q⟩
  have N14 := Lib.hid (N13.out.below q)
  clear q N13
  go_wp2_with fail
  refine (KH.out.nPub (nc_nil _)).mono ?_; rintro e0 U15 ⟨rfl, q⟩
  have N15 := Lib.hid (N14.out.below q)
  clear q N14
  go_wp2_with fail
  refine (KH.out.nDue (nc_nil _)).mono ?_; rintro e0 U16 ⟨rfl, q⟩
  have N16 := Lib.hid (N15.out.below q)
  clear q N15
  go_wp2_with fail
  refine (KH.out.nExp (nc_nil _)).mono ?_; rintro e0 U17 ⟨rfl, q⟩
  have N17 := Lib.hid (N16.out.below q)
  clear q N16
  go_wp2_with fail
  refine (KH.out.nDay (nc_nil _)).mono ?_; rintro e0 U18 ⟨rfl, q⟩
  have N18 := Lib.hid (N17.out.below q)
  clear q N17
  go_wp2_with fail
  refine (KH.out.nCopy (nc_nil _)).mono ?_; rintro e0 U19 ⟨rfl, q⟩
  have N19 := Lib.hid (N18.out.below q)
  clear q N18
  go_wp2_with fail
  refine (KH.out.nAll (nc_nil _)).mono ?_; rintro e0 U110 ⟨gf11, lb11, T, rfl, q, -, -, -⟩
  have N110 := Lib.hid (N19.out.below q)
  clear q N19
  go_wp2_with fail
  refine (KH.out.nAll (nc_nil _)).mono ?_; rintro e0 U111 ⟨gf12, lb12, T, rfl, q, en, hT, tell⟩
  have N111 := Lib.hid (N110.out.below q)
  clear q N110
  go_wp2_with fail
  refine (wpIn_wide (n := 9)).1 ?_
  refine wpIn_rangeFunc_ownG rfl (by decide) (gf := gf12) (lb := lb12) rfl trivial en (tell U111 (fun _ _ => False) 8 (Fr.refl _ _) (Still.const _ _) (fun k hk => hk.elim) (fun k hk c => c) (by decide)) (fun h k => h.trans k)
    (fun W l o o' hl ho hc _ => Kc.put (Still.const _ _) hl ho hc) (Below.refl _ _) (fun _ => rfl)
    (fun (_ : List OkCt) W => Fr (fun k => U111.heap.size ≤ k) U111 W) (fun _ _ _ => False)
    (fun s A C row hs hg hr => hs.same (Fr.grown hg (fun k e => (hr k e).1))) (fun _ s A C row hs _ _ => hs) (Fr.refl _ _) _
    (fun l x W K hK => wpIn_skip hK) (fun l pre x W hI hlen => absurd hlen (Nat.not_lt_zero _)) ?done1 (fun D c pre W hD hS hx hK => hx.elim)
  rintro D1 ys V1 hD - hF hM
  have M1 := Lib.hid (N111.out.mark hF hD hM)
  clear hF hM hD en hT tell N111
  have p1 : V1.cell? ⟨w.heap.size + 3, 1, none⟩ = some (.pointer (some ⟨w.heap.size + 2, 0, none⟩)) := by rw [cell_of_row _ _ _ _ _ _ M1.out.b3]; rfl
  clear p0
  go_wp2_with fail
  rw [rounds_succ]
  go_wp2_with fail
  refine (KH.out.nGet M1.out.nc).mono ?_; rintro e0 U21 ⟨rfl, q⟩
  have N21 := Lib.hid (M1.out.below q)
  clear q M1
  have HC := Lib.hid (cb_new U21 (x := zeroCt) rfl)
  have NB := Lib.hid (N21.out.below (below_row' (g := U21.heap.size) (cs := zeroCt.cells) ((Below.refl _ U21).alloc (Nat.le_refl _) (.cells zeroCt.cells 45)) (Nat.le_refl _)))
  clear N21
  go_wp2_with ((with_reducible refine wl_store_ct zeroCt U21.heap.size HC.out rfl ?_ ?_ ?_); rfl; rfl)
  clear HC
  refine (KH.out.nNext NB.out.nc).mono ?_; rintro e0 U22 ⟨rfl, q⟩
  have N22 := Lib.hid (NB.out.below q)
  clear q NB
  go_wp2_with ((with_reducible refine wl_load_sp w.heap.size N22.out.b0 ?_ ?_ ?_); rfl; rfl)
  refine (KH.out.nList OK.out N22.out.nc).mono ?_; rintro e0 U23 ⟨rfl, q⟩
  have N23 := Lib.hid (N22.out.below q)
  clear q N22
  go_wp2_with fail
  refine (KH.out.nHalt N23.out.nc).mono ?_; rintro e0 U24 ⟨rfl, q⟩
  have N24 := Lib.hid (N23.out.below q)
  clear q N23
  go_wp2_with fail
  refine (KH.out.nPub N24.out.nc).mono ?_; rintro e0 U25 ⟨rfl, q⟩
  have N25 := Lib.hid (N24.out.below q)
  clear q N24
  go_wp2_with fail
  refine (KH.out.nDue N25.out.nc).mono ?_; rintro e0 U26 ⟨rfl, q⟩
  have N26 := Lib.hid (N25.out.below q)
  clear q N25
  go_wp2_with fail
  refine (KH.out.nExp N26.out.nc).mono ?_; rintro e0 U27 ⟨rfl, q⟩
  have N27 := Lib.hid (N26.out.below q)
  clear q N26
  go_wp2_with fail
  refine (KH.out.nDay N27.out.nc).mono ?_; rintro e0 U28 ⟨rfl, q⟩
  have N28 := Lib.hid (N27.out.below q)
  clear q N27
  go_wp2_with fail
  refine (KH.out.nCopy N28.out.nc).mono ?_; rintro e0 U29 ⟨rfl, q⟩
  have N29 := Lib.hid (N28.out.below q)
  clear q N28
  go_wp2_with fail
  refine (KH.out.nAll N29.out.nc).mono ?_; rintro e0 U210 ⟨gf21, lb21, T, rfl, q, -, -, -⟩
  have N210 := Lib.hid (N29.out.below q)
  clear q N29
  go_wp2_with fail
  refine (KH.out.nAll N210.out.nc).mono ?_; rintro e0 U211 ⟨gf22, lb22, T, rfl, q, en, hT, tell⟩
  have N211 := Lib.hid (N210.out.below q)
  clear q N210
  go_wp2_with fail
  refine (wpIn_wide (n := 9)).1 ?_
  refine wpIn_rangeFunc_ownG rfl (by decide) (gf := gf22) (lb := lb22) rfl trivial en (tell U211 (fun _ _ => False) 8 (Fr.refl _ _) (Still.const _ _) (fun k hk => hk.elim) (fun k hk c => c) (by decide)) (fun h k => h.trans k)
    (fun W l o o' hl ho hc _ => Kc.put (Still.const _ _) hl ho hc) (Below.refl _ _) (fun _ => rfl)
    (fun (_ : List OkCt) W => Fr (fun k => U211.heap.size ≤ k) U211 W) (fun _ _ _ => False)
    (fun s A C row hs hg hr => hs.same (Fr.grown hg (fun k e => (hr k e).1))) (fun _ s A C row hs _ _ => hs) (Fr.refl _ _) _
    (fun l x W K hK => wpIn_skip hK) (fun l pre x W hI hlen => absurd hlen (Nat.not_lt_zero _)) ?done2 (fun D c pre W hD hS hx hK => hx.elim)
  rintro D2 ys V2 hD - hF hM
  have M2 := Lib.hid (N211.out.mark hF hD hM)
  clear hF hM hD en hT tell N211
  clear p1
  go_wp2_with fail
  rw [rounds_succ]
  go_wp2_with fail
  refine (KN.out _).mono ?_; rintro e0 W9 ⟨rfl, q⟩
  have M3 := Lib.hid (M2.out.below q)
  clear q M2
  have cb : W9.cell? ⟨w.heap.size + 1, 0, none⟩ = some (.bool false) := by rw [cell_of_row _ _ _ _ _ _ M3.out.b1]; rfl
  have fb : W9.frozen? ⟨w.heap.size + 1, 0, none⟩ = false := by have := M3.out.b1; simp [World.frozen?, this]
  go_wp2_with fail
  have BR : (W9.setCell ⟨w.heap.size + 1, 0, none⟩ (.bool true)).heap[w.heap.size + 1]? = some (.cells #[.bool true] 4 (0, 0)) := heap_setCell_same W9 (w.heap.size + 1) 0 _ _ (.bool true) M3.out.b1
  have hD : ∀ E, E ∈ [D2, D1] → w.heap.size + 4 ≤ E := fun E hE => (M3.out.dm E hE).1
  have hz := M3.out.sz
  refine ret_marks [D2, D1] rfl M3.out.nd ?_ (ret_cellb rfl _ _ (w.heap.size + 1) true rfl ?_) ⟨rfl, ?_⟩
  · intro E hE
    have := hD E hE
    exact (heap_setCell_other W9 _ _ _ (by show E ≠ w.heap.size + 1; omega)).trans (M3.out.dm E hE).2
  · rw [cell_of_row _ _ _ _ _ _ ((unmark_other [D2, D1] _ (w.heap.size + 1) (fun c => by have := hD _ c; omega)).trans BR)]; rfl
  · refine unmark_below [D2, D1] _ _ _ (fun E hE => by have := hD E hE; omega) (by show w.heap.size ≤ (W9.setCell _ _).heap.size; simp; omega) (M3.out.bl.setCell (by show w.heap.size ≤ w.heap.size + 1; omega) _)
end Go.Proofs.Ytejhnfkljfdejaa
