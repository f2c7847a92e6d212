/- The walk of the statement BookNone, given the program's book. -/
import Derived.LoopN
import Derived.Test.YtdcjgcjnfcahkaaG24
import Derived.Test.YtdcjgcjnfcahkaaG22
namespace Go.Proofs.Ytdcjgcjnfcahkaa
open Go.RowKit Go.Shelf
set_option linter.unusedVariables false
set_option linter.unusedSimpArgs false

/-- What lies ahead of the loop: the argument's box, the zero book, the two pointers. -/
structure Nz7 (w W : World) (o : Or) : Prop where
  bl : Below w.heap.size w W
  b0 : EO.Bx 31 W w.heap.size o
  b1 : W.heap[w.heap.size + 1]? = some (.cells zbk 44 (0, 0))
  b2 : W.heap[w.heap.size + 2]? = some (.cells #[.pointer none, .pointer (some ⟨w.heap.size + 1, 0, none⟩)] 23 (0, 0))
section
variable {w W W' : World} {o : Or}
theorem nz7_new (w : World) (o : Or) : Nz7 w (((w.alloc (.cells (EO.cells o).toArray 31)).alloc (.cells zbk 44)).alloc (.cells #[.pointer none, .pointer (some ⟨w.heap.size + 1, 0, none⟩)] 23)) o := by
  generalize h1 : w.alloc (.cells (EO.cells o).toArray 31) = W1
  have e1 : W1.heap[w.heap.size]? = some (.cells (EO.cells o).toArray 31 (0, 0)) := h1 ▸ heap_alloc_new w _
  have s1 : W1.heap.size = w.heap.size + 1 := by rw [← h1]; simp
  have q1 : Below w.heap.size w W1 := h1 ▸ below_new w _
  generalize h2 : W1.alloc (.cells zbk 44) = W2
  have e2 : W2.heap[W1.heap.size]? = some (.cells zbk 44 (0, 0)) := h2 ▸ heap_alloc_new W1 _
  have s2 : W2.heap.size = W1.heap.size + 1 := by rw [← h2]; simp
  have q2 : Below W1.heap.size W1 W2 := h2 ▸ below_new W1 _
  generalize h3 : W2.alloc (.cells #[.pointer none, .pointer (some ⟨w.heap.size + 1, 0, none⟩)] 23) = W3
  have e3 : W3.heap[W2.heap.size]? = some (.cells #[.pointer none, .pointer (some ⟨w.heap.size + 1, 0, none⟩)] 23 (0, 0)) := h3 ▸ heap_alloc_new W2 _
  have q3 : Below W2.heap.size W2 W3 := h3 ▸ below_new W2 _
  rw [s1] at e2
  rw [s2, s1] at e3
  exact ⟨(q1.trans (q2.mono (by omega))).trans (q3.mono (by omega)), (q3.block _ (by omega)).trans ((q2.block _ (by omega)).trans e1), (q3.block _ (by omega)).trans e2, e3⟩
theorem Nz7.below (h : Nz7 w W o) (q : Below W.heap.size W W') : Nz7 w W' o :=
  ⟨h.bl.trans (q.mono h.bl.size), gbx_below h.b0 q, (q.block _ (Array.getElem?_eq_some_iff.1 h.b1).1).trans h.b1, (q.block _ (Array.getElem?_eq_some_iff.1 h.b2).1).trans h.b2⟩
theorem Nz7.nb (h : Nz7 w W o) : Nb W (some ⟨w.heap.size + 1, 0, none⟩) := .inr ⟨_, rfl, h.b1⟩
theorem nb_nil (W : World) : Nb W none := .inl rfl
end
set_option maxRecDepth 100000 in
theorem wl_build0_pxg {ops : Array Oper} {rest : List Oper} {a : Act} {w : World} {Q : Exit → Act → World → Prop} {d : Option Nat} {ty : TypeId} {ps : String} {af : Array Edge} {gd : Option (Nat × Bool)} (hw : Region.wanted ⟨d, .build 49 #[], ty, ps, af, gd⟩ (yielded ops a.tmps) = true) (h : wpList Try.prog ops Q rest (a.put d (.agg (EPx.cells zeroPx).toArray)) w) :
    wpList Try.prog ops Q (⟨d, .build 49 #[], ty, ps, af, gd⟩ :: rest) a w := by
  have e : ∀ f : (Nat × Operand) → (Nat × Value), (Array.map f #[]).toList = [] := fun f => by simp
  refine BigFrame.wpList_want hw fun _ hK => wp_build 49 #[] rfl (by rw [e, built_px0]; rfl) ?_
  rw [e, built_px0]
  exact hK _ _ h
theorem same_zero (w : World) : Calls Try.prog 24 #[.agg (EPx.cells zeroPx).toArray, .agg (EPx.cells zeroPx).toArray] w fun e w' => e = .returned (.bool true) ∧ Below w.heap.size w w' :=
  bsp_same zeroPx zeroPx [] [] w (grd_nil _ _) (grd_nil _ _) (grd_nil _ _) (grd_nil _ _) rfl rfl (fun x hx => by simp at hx) (Nat.zero_le _) (Nat.zero_le _)
set_option maxRecDepth 100000 in
set_option maxHeartbeats 8000000 in
theorem none7_all {Pb : PbT} (K : BookK Pb) (o : Or) (k : Int) (w : World) (ok : o.ok) :
    Calls Try.prog 4 #[.agg (EO.cells o).toArray, .int .u8 k] w fun e w' => e = .returned (.bool true) ∧ Below w.heap.size w w' := by
  have KN := Lib.hid (fun W => known7_any K W)
  have KH := Lib.hid K
  have Z := zero_bk
  have ZC := zero_or
  have ZP := zero_px
  have NZ := Lib.hid (nz7_new w o)
  clear K ok
  go_enter Try.func4, Try.ntmps4
  go_wp2_with fail
  rw [show w.heap.size + 1 + 1 = w.heap.size + 2 from rfl]
  generalize (((w.alloc (.cells (EO.cells o).toArray 31)).alloc (.cells zbk 44)).alloc (.cells #[.pointer none, .pointer (some ⟨w.heap.size + 1, 0, none⟩)] 23)) = W0 at NZ ⊢
  refine wp_loop_rounds 3 ?_
  rw [rounds_succ]
  have pp : W0.cell? ⟨w.heap.size + 2, 0, none⟩ = some (.pointer none) := by rw [cell_of_row _ _ _ _ _ _ NZ.out.b2]; rfl
  have RG := Lib.hid (gbx_rng NZ.out.b0)
  go_wp2_with ((with_reducible refine gwl_load TO w.heap.size 0 RG.out ?_ ?_ ?_); rfl; rfl)
  refine (KH.out.nPlace (o := o) (k := k) (nb_nil _)).mono ?_; rintro e0 U01 ⟨rfl, q⟩
  obtain ⟨V01, hV, bV, yV, zV, sV⟩ := put_px zeroPx q
  have HV := Lib.hid hV
  have ZV := Lib.hid zV
  have N01 := Lib.hid (NZ.out.below bV)
  have YP := Lib.hid fun (W : World) (q : Below V01.heap.size V01 W) => gbx_rng (gbx_below yV q)
  have d0 : V01.cell? ⟨w.heap.size, 0, none⟩ = some (.int .u64 o.nu) := gbx_cell N01.out.b0 0
  have d3 : V01.cell? ⟨w.heap.size, 3, none⟩ = some (.int .i64 o.pr) := gbx_cell N01.out.b0 3
  have d4 : V01.cell? ⟨w.heap.size, 4, none⟩ = some (.int .i64 o.le) := gbx_cell N01.out.b0 4
  clear q hV bV yV zV sV pp RG NZ
  go_wp2_with (refine wl_store_px zeroPx U01.heap.size ZV.out rfl rfl ?_; rw [HV.out])
  refine (KH.out.nRepl (n := o.nu) (pr := o.pr) (l := o.le) (nb_nil _)).mono ?_; rintro e0 U02 ⟨rfl, q⟩
  obtain ⟨V02, hV, bV, yV, zV, sV⟩ := put_px zeroPx q
  have HV := Lib.hid hV
  have ZV := Lib.hid zV
  have N02 := Lib.hid (N01.out.below bV)
  have Q2 := Lib.hid bV
  have YR := Lib.hid fun (W : World) (q : Below V02.heap.size V02 W) => gbx_rng (gbx_below yV q)
  have d0 : V02.cell? ⟨w.heap.size, 0, none⟩ = some (.int .u64 o.nu) := gbx_cell N02.out.b0 0
  clear q hV bV yV zV sV d3 d4 N01
  go_wp2_with (refine wl_store_px zeroPx U02.heap.size ZV.out rfl rfl ?_; rw [HV.out])
  refine (KH.out.nCanc (n := o.nu) (nb_nil _)).mono ?_; rintro e0 U03 ⟨rfl, q⟩
  obtain ⟨V03, hV, bV, yV, zV, sV⟩ := put_or zeroOr q
  have HV := Lib.hid hV
  have ZV := Lib.hid zV
  have N03 := Lib.hid (N02.out.below bV)
  have Q3 := Lib.hid bV
  have d0 : V03.cell? ⟨w.heap.size, 0, none⟩ = some (.int .u64 o.nu) := gbx_cell N03.out.b0 0
  clear q hV bV yV zV sV N02
  go_wp2_with (refine gwl_store TO zeroOr U03.heap.size ZV.out rfl rfl ?_; rw [HV.out])
  refine (KH.out.nGet (n := o.nu) (nb_nil _)).mono ?_; rintro e0 U04 ⟨rfl, q⟩
  obtain ⟨V04, hV, bV, yV, zV, sV⟩ := put_or zeroOr q
  have HV := Lib.hid hV
  have ZV := Lib.hid zV
  have N04 := Lib.hid (N03.out.below bV)
  have Q4 := Lib.hid (Q3.out.trans (bV.mono Q3.out.size))
  have d0 : V04.cell? ⟨w.heap.size, 1, none⟩ = some (.int .u32 o.ac) := gbx_cell N04.out.b0 1
  clear q hV bV yV zV sV N03
  go_wp2_with (refine gwl_store TO zeroOr U04.heap.size ZV.out rfl rfl ?_; rw [HV.out])
  refine (KH.out.nOpen (a := o.ac) (nb_nil _)).mono ?_; rintro e0 U05 ⟨rfl, q⟩
  have N05 := Lib.hid (N04.out.below q)
  have Q5 := Lib.hid (Q4.out.trans (q.mono Q4.out.size))
  have R1 := Lib.hid (YP.out _ (Q2.out.trans (Q5.out.mono Q2.out.size)))
  clear q N04
  go_wp2_with (first | ((with_reducible refine wl_load_px U01.heap.size 0 R1.out ?_ ?_ ?_); rfl; rfl) | ((with_reducible refine wl_build0_pxg ?_ ?_); rfl))
  refine (same_zero _).mono ?_; rintro e0 U06 ⟨rfl, q⟩
  have N06 := Lib.hid (N05.out.below q)
  have R2 := Lib.hid (YR.out _ (Q5.out.trans (q.mono Q5.out.size)))
  clear q N05
  go_wp2_with (first | ((with_reducible refine wl_load_px U02.heap.size 0 R2.out ?_ ?_ ?_); rfl; rfl) | ((with_reducible refine wl_build0_pxg ?_ ?_); rfl))
  refine (same_zero _).mono ?_; rintro e0 U07 ⟨rfl, q⟩
  have N07 := Lib.hid (N06.out.below q)
  clear q N06
  go_wp2_with fail
  refine (KH.out.nMass (a := 0) (nb_nil _)).mono ?_; rintro e0 U08 ⟨rfl, q⟩
  have N08 := Lib.hid (N07.out.below q)
  clear q N07
  go_wp2_with fail
  refine (orders7_nil KH.out (nb_nil _)).mono ?_; rintro e0 U09 ⟨v, rfl, ho, q⟩
  obtain ⟨Ao, co, rfl, _⟩ := gown_form ho
  have N09 := Lib.hid (N08.out.below q)
  clear q ho N08
  rw [show (([] : List Or).length) = 0 from rfl]
  go_wp2_with fail
  refine (KH.out.nCopy (nb_nil _)).mono ?_; rintro e0 W1 ⟨rfl, q⟩
  have NN1 := Lib.hid (N09.out.below q)
  clear q YP YR Q2 Q3 Q4 Q5 R1 R2 d0 N09
  go_wp2_with fail
  rw [rounds_succ]
  have pp : W1.cell? ⟨w.heap.size + 2, 1, none⟩ = some (.pointer (some ⟨w.heap.size + 1, 0, none⟩)) := by rw [cell_of_row _ _ _ _ _ _ NN1.out.b2]; rfl
  have RG := Lib.hid (gbx_rng NN1.out.b0)
  go_wp2_with ((with_reducible refine gwl_load TO w.heap.size 0 RG.out ?_ ?_ ?_); rfl; rfl)
  refine (KH.out.nPlace (o := o) (k := k) NN1.out.nb).mono ?_; rintro e0 U11 ⟨rfl, q⟩
  obtain ⟨V11, hV, bV, yV, zV, sV⟩ := put_px zeroPx q
  have HV := Lib.hid hV
  have ZV := Lib.hid zV
  have N11 := Lib.hid (NN1.out.below bV)
  have YP := Lib.hid fun (W : World) (q : Below V11.heap.size V11 W) => gbx_rng (gbx_below yV q)
  have d0 : V11.cell? ⟨w.heap.size, 0, none⟩ = some (.int .u64 o.nu) := gbx_cell N11.out.b0 0
  have d3 : V11.cell? ⟨w.heap.size, 3, none⟩ = some (.int .i64 o.pr) := gbx_cell N11.out.b0 3
  have d4 : V11.cell? ⟨w.heap.size, 4, none⟩ = some (.int .i64 o.le) := gbx_cell N11.out.b0 4
  clear q hV bV yV zV sV pp RG NN1
  go_wp2_with (refine wl_store_px zeroPx U11.heap.size ZV.out rfl rfl ?_; rw [HV.out])
  refine (KH.out.nRepl (n := o.nu) (pr := o.pr) (l := o.le) N11.out.nb).mono ?_; rintro e0 U12 ⟨rfl, q⟩
  obtain ⟨V12, hV, bV, yV, zV, sV⟩ := put_px zeroPx q
  have HV := Lib.hid hV
  have ZV := Lib.hid zV
  have N12 := Lib.hid (N11.out.below bV)
  have Q2 := Lib.hid bV
  have YR := Lib.hid fun (W : World) (q : Below V12.heap.size V12 W) => gbx_rng (gbx_below yV q)
  have d0 : V12.cell? ⟨w.heap.size, 0, none⟩ = some (.int .u64 o.nu) := gbx_cell N12.out.b0 0
  clear q hV bV yV zV sV d3 d4 N11
  go_wp2_with (refine wl_store_px zeroPx U12.heap.size ZV.out rfl rfl ?_; rw [HV.out])
  refine (KH.out.nCanc (n := o.nu) N12.out.nb).mono ?_; rintro e0 U13 ⟨rfl, q⟩
  obtain ⟨V13, hV, bV, yV, zV, sV⟩ := put_or zeroOr q
  have HV := Lib.hid hV
  have ZV := Lib.hid zV
  have N13 := Lib.hid (N12.out.below bV)
  have Q3 := Lib.hid bV
  have d0 : V13.cell? ⟨w.heap.size, 0, none⟩ = some (.int .u64 o.nu) := gbx_cell N13.out.b0 0
  clear q hV bV yV zV sV N12
  go_wp2_with (refine gwl_store TO zeroOr U13.heap.size ZV.out rfl rfl ?_; rw [HV.out])
  refine (KH.out.nGet (n := o.nu) N13.out.nb).mono ?_; rintro e0 U14 ⟨rfl, q⟩
  obtain ⟨V14, hV, bV, yV, zV, sV⟩ := put_or zeroOr q
  have HV := Lib.hid hV
  have ZV := Lib.hid zV
  have N14 := Lib.hid (N13.out.below bV)
  have Q4 := Lib.hid (Q3.out.trans (bV.mono Q3.out.size))
  have d0 : V14.cell? ⟨w.heap.size, 1, none⟩ = some (.int .u32 o.ac) := gbx_cell N14.out.b0 1
  clear q hV bV yV zV sV N13
  go_wp2_with (refine gwl_store TO zeroOr U14.heap.size ZV.out rfl rfl ?_; rw [HV.out])
  refine (KH.out.nOpen (a := o.ac) N14.out.nb).mono ?_; rintro e0 U15 ⟨rfl, q⟩
  have N15 := Lib.hid (N14.out.below q)
  have Q5 := Lib.hid (Q4.out.trans (q.mono Q4.out.size))
  have R1 := Lib.hid (YP.out _ (Q2.out.trans (Q5.out.mono Q2.out.size)))
  clear q N14
  go_wp2_with (first | ((with_reducible refine wl_load_px U11.heap.size 0 R1.out ?_ ?_ ?_); rfl; rfl) | ((with_reducible refine wl_build0_pxg ?_ ?_); rfl))
  refine (same_zero _).mono ?_; rintro e0 U16 ⟨rfl, q⟩
  have N16 := Lib.hid (N15.out.below q)
  have R2 := Lib.hid (YR.out _ (Q5.out.trans (q.mono Q5.out.size)))
  clear q N15
  go_wp2_with (first | ((with_reducible refine wl_load_px U12.heap.size 0 R2.out ?_ ?_ ?_); rfl; rfl) | ((with_reducible refine wl_build0_pxg ?_ ?_); rfl))
  refine (same_zero _).mono ?_; rintro e0 U17 ⟨rfl, q⟩
  have N17 := Lib.hid (N16.out.below q)
  clear q N16
  go_wp2_with fail
  refine (KH.out.nMass (a := 0) N17.out.nb).mono ?_; rintro e0 U18 ⟨rfl, q⟩
  have N18 := Lib.hid (N17.out.below q)
  clear q N17
  go_wp2_with fail
  refine (orders7_nil KH.out N18.out.nb).mono ?_; rintro e0 U19 ⟨v, rfl, ho, q⟩
  obtain ⟨Ao, co, rfl, _⟩ := gown_form ho
  have N19 := Lib.hid (N18.out.below q)
  clear q ho N18
  rw [show (([] : List Or).length) = 0 from rfl]
  go_wp2_with fail
  refine (KH.out.nCopy N19.out.nb).mono ?_; rintro e0 W2 ⟨rfl, q⟩
  have NN2 := Lib.hid (N19.out.below q)
  clear q YP YR Q2 Q3 Q4 Q5 R1 R2 d0 N19
  go_wp2_with fail
  rw [rounds_succ]
  go_wp2_with fail
  refine (KN.out _).mono ?_; rintro e0 W9 ⟨rfl, q⟩
  have BF := Lib.hid (NN2.out.bl.trans (q.mono NN2.out.bl.size))
  clear q
  go_wp2_with fail
  go_ret
  exact ⟨rfl, BF.out⟩
end Go.Proofs.Ytdcjgcjnfcahkaa
