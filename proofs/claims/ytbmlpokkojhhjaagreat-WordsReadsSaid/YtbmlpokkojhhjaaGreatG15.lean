/- Texts of a proof, laid together: Qi, Qn, Gc, Gf, Wfa, Vw. -/
import Derived.Deep.RegionHeld3
import Derived.Lib.AppendZerosOnto
import Derived.Lib.SliceRun
import Derived.Lib.Walk
import Derived.Test.YtbmlpokkojhhjaaGreatG14
import Derived.Test.YtbmlpokkojhhjaaGreatG13
import Derived.Test.YtbmlpokkojhhjaaGreatG01
import Derived.Test.YtbmlpokkojhhjaaGreatG06
import Derived.Test.YtbmlpokkojhhjaaGreatG02
/- Contracts of the document's plain answers: a quantity. -/
namespace Go.Proofs.YtbmlpokkojhhjaaGreat
open Go.RowKit

theorem not_qty {s : Sp} (h : mayB s = false) (n : Int) : qtyB s n = false := by unfold qtyB; rw [h]; rfl
theorem out_qty {s : Sp} {n : Int} (h : amB n 1 1000000 = false) : qtyB s n = false := by
  unfold qtyB
  rw [decide_eq_false (fun c => by rw [amB_iff.2 c.1] at h; cases h)]
  cases mayB s <;> rfl
theorem may_qty {s : Sp} (h : mayB s = true) {n : Int} (hn : amB n 1 1000000 = true) : qtyB s n = (n / s.lo * s.lo == n) := by
  have e0 : n / s.lo * s.lo + n % s.lo = n := Int.ediv_mul_add_emod n s.lo
  unfold qtyB
  rw [h, Bool.true_and]
  by_cases c : n % s.lo = 0
  · rw [decide_eq_true ⟨amB_iff.1 hn, c⟩, beq_iff_eq.2 (by omega)]
  · rw [decide_eq_false (fun h => c h.2)]
    exact (beq_eq_false_iff_ne.2 (by omega)).symm































































































































































































































end Go.Proofs.YtbmlpokkojhhjaaGreat
/- Contract of the document's plain answer: within a band. -/
namespace Go.Proofs.YtbmlpokkojhhjaaGreat
open Go.RowKit

theorem not_band {s : Sp} (h : mayB s = false) (a b : Int) : bandB s a b = false := by unfold bandB; rw [h]; rfl
theorem may_band {s : Sp} (h : mayB s = true) (a b : Int) : bandB s a b = decide (a - b ≤ s.ba ∧ b - a ≤ s.ba) := by unfold bandB; rw [h]; rfl
theorem band_comm (s : Sp) (a b : Int) : bandB s a b = bandB s b a := by
  unfold bandB
  congr 1
  exact decide_eq_decide.2 And.comm
/-- Of two numbers in their order. -/
theorem band_far {s : Sp} (h : mayB s = true) {a b : Int} (k : s.ba < b - a) : bandB s a b = false := by
  rw [may_band h, decide_eq_false (fun c => by omega)]
theorem band_near {s : Sp} (h : mayB s = true) {a b : Int} (hab : a ≤ b) : bandB s a b = decide (b - a ≤ s.ba) := by
  have := (head_parts (may_head h)).2.2.2.2.1
  rw [may_band h]
  by_cases c : b - a ≤ s.ba
  · rw [decide_eq_true c, decide_eq_true (by omega)]
  · rw [decide_eq_false c, decide_eq_false (by omega)]



























































































































































































































end Go.Proofs.YtbmlpokkojhhjaaGreat
/- Contracts of the program's own calls: whether a contract's data may be, a price, a quantity, within the band. -/
namespace Go.Proofs.YtbmlpokkojhhjaaGreat
open Go.RowKit

theorem wl_load_arrg {ops : Array Oper} {rest : List Oper} {a : Act} {w : World} {Q : Exit → Act → World → Prop} {d : Option Nat} {x : Operand} {ty : TypeId} {ps : String} {af : Array Edge} {gd : Option (Nat × Bool)} {s : Sp} (g : Nat) (hb : Box w g s)
    (hw : Region.wanted ⟨d, .load 27 x, ty, ps, af, gd⟩ (yielded ops a.tmps) = true) (hx : a.eval x = .pointer (some ⟨g, 6, none⟩))
    (h : wpList Tryz.prog ops Q rest (a.put d (.agg s.arr)) w) : wpList Tryz.prog ops Q (⟨d, .load 27 x, ty, ps, af, gd⟩ :: rest) a w :=
  BigFrame.wpList_want hw fun _ hK => wp_load_mid 27 x rfl g 6 hx (s.sh.map (Value.int .i64)) _ hb.range Tryz.underlying27 rfl (by rw [info_arr, List.length_map, hb.2]) (hK _ _ h)
theorem may_split (s : Sp) : mayB s = (decide (s.nu ≠ 0) && amB s.ro 1 8 && amB s.ti 1 10000000 && amB s.lo 1 1000000 && amB s.ba 0 10000000 && amB s.li 1 10000000 && shB s.sh && amB s.cr 0 10000000 && stB s.fi s.ti 10000000) := by
  unfold mayB headB shB stB prB
  cases amB s.cr 0 10000000 <;> simp [Bool.and_assoc]
theorem may_fails {s : Sp} (h : mayB s = false) : s.nu = 0 ∨
    (s.nu ≠ 0 ∧ amB s.ro 1 8 = false) ∨
    (s.nu ≠ 0 ∧ amB s.ro 1 8 = true ∧ amB s.ti 1 10000000 = false) ∨
    (s.nu ≠ 0 ∧ amB s.ro 1 8 = true ∧ amB s.ti 1 10000000 = true ∧ amB s.lo 1 1000000 = false) ∨
    (s.nu ≠ 0 ∧ amB s.ro 1 8 = true ∧ amB s.ti 1 10000000 = true ∧ amB s.lo 1 1000000 = true ∧ amB s.ba 0 10000000 = false) ∨
    (s.nu ≠ 0 ∧ amB s.ro 1 8 = true ∧ amB s.ti 1 10000000 = true ∧ amB s.lo 1 1000000 = true ∧ amB s.ba 0 10000000 = true ∧ amB s.li 1 10000000 = false) ∨
    (s.nu ≠ 0 ∧ amB s.ro 1 8 = true ∧ amB s.ti 1 10000000 = true ∧ amB s.lo 1 1000000 = true ∧ amB s.ba 0 10000000 = true ∧ amB s.li 1 10000000 = true ∧ shB s.sh = false) ∨
    (s.nu ≠ 0 ∧ amB s.ro 1 8 = true ∧ amB s.ti 1 10000000 = true ∧ amB s.lo 1 1000000 = true ∧ amB s.ba 0 10000000 = true ∧ amB s.li 1 10000000 = true ∧ shB s.sh = true ∧ amB s.cr 0 10000000 = false) ∨
    (s.nu ≠ 0 ∧ amB s.ro 1 8 = true ∧ amB s.ti 1 10000000 = true ∧ amB s.lo 1 1000000 = true ∧ amB s.ba 0 10000000 = true ∧ amB s.li 1 10000000 = true ∧ shB s.sh = true ∧ amB s.cr 0 10000000 = true ∧ stB s.fi s.ti 10000000 = false) := by
  rw [may_split] at h
  by_cases a : s.nu = 0
  · exact .inl a
  rw [decide_eq_true a] at h
  refine .inr ?_
  cases c1 : amB s.ro 1 8
  · exact .inl ⟨a, rfl⟩
  refine .inr ?_
  cases c2 : amB s.ti 1 10000000
  · exact .inl ⟨a, rfl, rfl⟩
  refine .inr ?_
  cases c3 : amB s.lo 1 1000000
  · exact .inl ⟨a, rfl, rfl, rfl⟩
  refine .inr ?_
  cases c4 : amB s.ba 0 10000000
  · exact .inl ⟨a, rfl, rfl, rfl, rfl⟩
  refine .inr ?_
  cases c5 : amB s.li 1 10000000
  · exact .inl ⟨a, rfl, rfl, rfl, rfl, rfl⟩
  refine .inr ?_
  cases c6 : shB s.sh
  · exact .inl ⟨a, rfl, rfl, rfl, rfl, rfl, rfl⟩
  refine .inr ?_
  cases c7 : amB s.cr 0 10000000
  · exact .inl ⟨a, rfl, rfl, rfl, rfl, rfl, rfl, rfl⟩
  refine .inr ⟨a, rfl, rfl, rfl, rfl, rfl, rfl, rfl, ?_⟩
  rw [c1, c2, c3, c4, c5, c6, c7] at h
  simpa using h
theorem may_holds {s : Sp} (h : mayB s = true) : s.nu ≠ 0 ∧ amB s.ro 1 8 = true ∧ amB s.ti 1 10000000 = true ∧ amB s.lo 1 1000000 = true ∧ amB s.ba 0 10000000 = true ∧ amB s.li 1 10000000 = true ∧ shB s.sh = true ∧ amB s.cr 0 10000000 = true ∧ stB s.fi s.ti 10000000 = true := by
  rw [may_split] at h
  simp only [Bool.and_eq_true, decide_eq_true_eq] at h
  obtain ⟨⟨⟨⟨⟨⟨⟨⟨a, b⟩, c⟩, d⟩, e⟩, f⟩, g⟩, i⟩, j⟩ := h
  exact ⟨a, b, c, d, e, f, g, i, j⟩

set_option maxRecDepth 100000 in
set_option maxHeartbeats 4000000 in
theorem pmay_no (s : Sp) (w : World) (ok : s.ok) (hm : mayB s = false) : Calls Tryz.prog 69 #[.agg s.cells] w fun e w' => e = .returned (.bool false) ∧ Below w.heap.size w w' := by
  have AM := Lib.hid (fun n l m W => pamong_any n l m W)
  have SH := Lib.hid (fun W => pshift_any s W ok.len ok.sh)
  have ST := Lib.hid (fun W h => psteps_any s.fi s.ti 10000000 W h)
  have C0 := s.c0
  have C1 := s.c1
  have C2 := s.c2
  have C3 := s.c3
  have C4 := s.c4
  have C5 := s.c5
  have C22 := Lib.hid (Sp.c22 ok.len)
  have C24 := Lib.hid (Sp.c24 ok.len)
  have o1 := ok.nu
  have o2 := ok.ro
  have hf := may_fails hm
  have B := Lib.hid ((Below.refl w.heap.size w).alloc (Nat.le_refl _) (.cells s.cells 29))
  have HB := Lib.hid (box_new w ok.len)
  clear hm ok
  obtain ⟨o1a, o1b⟩ := o1
  obtain ⟨o2a, o2b⟩ := o2
  obtain ⟨nu, hnu⟩ : ∃ nu, s.nu = nu := ⟨_, rfl⟩
  obtain ⟨ro, hro⟩ : ∃ ro, s.ro = ro := ⟨_, rfl⟩
  rw [hnu] at C0 hf o1a o1b
  rw [hro] at C1 hf o2a o2b
  clear hnu hro
  rcases hf with rfl | ⟨a, d0⟩ | ⟨a, d0, d1⟩ | ⟨a, d0, d1, d2⟩ | ⟨a, d0, d1, d2, d3⟩ | ⟨a, d0, d1, d2, d3, d4⟩ | ⟨a, d0, d1, d2, d3, d4, d5⟩ | ⟨a, d0, d1, d2, d3, d4, d5, d6⟩ | ⟨a, d0, d1, d2, d3, d4, d5, d6, d7⟩
  iterate 6
    · try have a0 : (nu != 0) = true := bne_iff_ne.2 a
      go_enter Tryz.func69, Tryz.ntmps69
      go_wp2_with (go_at_call 105; refine (AM.out _ _ _ _).mono ?_; rintro e w' ⟨rfl, rfl⟩)
      go_ret
      exact ⟨rfl, B.out⟩
  iterate 3
    · have a0 : (nu != 0) = true := bne_iff_ne.2 a
      have TI := Lib.hid (amB_iff.1 d1)
      rw [d5] at SH
      try rw [d7] at ST
      clear d5
      try clear d7
      go_enter Tryz.func69, Tryz.ntmps69
      go_wp2_with (first
        | (go_at_call 105; refine (AM.out _ _ _ _).mono ?_; rintro e w' ⟨rfl, rfl⟩)
        | ((with_reducible refine wl_load_arrg w.heap.size HB.out ?_ ?_ ?_); rfl; rfl))
      refine (SH.out _).mono ?_; rintro e w1 ⟨rfl, q⟩
      have B1 := Lib.hid (B.out.trans (q.mono B.out.size))
      have HB1 := Lib.hid (HB.out.below q)
      have k22 := HB1.out.cell 22
      rw [C22.out] at k22
      have k24 := HB1.out.cell 24
      rw [C24.out] at k24
      have k2 := HB1.out.cell 2
      rw [C2] at k2
      clear q
      go_wp2_with (go_at_call 105; refine (AM.out _ _ _ _).mono ?_; rintro e w' ⟨rfl, rfl⟩)
      try
        refine (ST.out _ TI.out).mono ?_; rintro e w2 ⟨rfl, rfl⟩
        go_wp2_with fail
      go_ret
      exact ⟨rfl, B1.out⟩
set_option maxRecDepth 100000 in
set_option maxHeartbeats 4000000 in
theorem pmay_yes (s : Sp) (w : World) (ok : s.ok) (hm : mayB s = true) : Calls Tryz.prog 69 #[.agg s.cells] w fun e w' => e = .returned (.bool true) ∧ Below w.heap.size w w' := by
  have AM := Lib.hid (fun n l m W => pamong_any n l m W)
  have SH := Lib.hid (fun W => pshift_any s W ok.len ok.sh)
  have ST := Lib.hid (fun W h => psteps_any s.fi s.ti 10000000 W h)
  have C0 := s.c0
  have C1 := s.c1
  have C2 := s.c2
  have C3 := s.c3
  have C4 := s.c4
  have C5 := s.c5
  have C22 := Lib.hid (Sp.c22 ok.len)
  have C24 := Lib.hid (Sp.c24 ok.len)
  have o1 := ok.nu
  have o2 := ok.ro
  obtain ⟨a, d0, d1, d2, d3, d4, d5, d6, d7⟩ := may_holds hm
  have B := Lib.hid ((Below.refl w.heap.size w).alloc (Nat.le_refl _) (.cells s.cells 29))
  have HB := Lib.hid (box_new w ok.len)
  clear hm ok
  obtain ⟨o1a, o1b⟩ := o1
  obtain ⟨o2a, o2b⟩ := o2
  obtain ⟨nu, hnu⟩ : ∃ nu, s.nu = nu := ⟨_, rfl⟩
  obtain ⟨ro, hro⟩ : ∃ ro, s.ro = ro := ⟨_, rfl⟩
  rw [hnu] at C0 a o1a o1b
  rw [hro] at C1 d0 o2a o2b
  clear hnu hro
  have a0 : (nu != 0) = true := bne_iff_ne.2 a
  have TI := Lib.hid (amB_iff.1 d1)
  rw [d5] at SH
  rw [d7] at ST
  clear d5 d7
  go_enter Tryz.func69, Tryz.ntmps69
  go_wp2_with (first
    | (go_at_call 105; refine (AM.out _ _ _ _).mono ?_; rintro e w' ⟨rfl, rfl⟩)
    | ((with_reducible refine wl_load_arrg w.heap.size HB.out ?_ ?_ ?_); rfl; rfl))
  refine (SH.out _).mono ?_; rintro e w1 ⟨rfl, q⟩
  have B1 := Lib.hid (B.out.trans (q.mono B.out.size))
  have HB1 := Lib.hid (HB.out.below q)
  have k22 := HB1.out.cell 22
  rw [C22.out] at k22
  have k24 := HB1.out.cell 24
  rw [C24.out] at k24
  have k2 := HB1.out.cell 2
  rw [C2] at k2
  clear q
  go_wp2_with (go_at_call 105; refine (AM.out _ _ _ _).mono ?_; rintro e w' ⟨rfl, rfl⟩)
  refine (ST.out _ TI.out).mono ?_; rintro e w2 ⟨rfl, rfl⟩
  go_wp2_with fail
  go_ret
  exact ⟨rfl, B1.out⟩
theorem pmay_any (s : Sp) (w : World) (ok : s.ok) : Calls Tryz.prog 69 #[.agg s.cells] w fun e w' => e = .returned (.bool (mayB s)) ∧ Below w.heap.size w w' := by
  cases h : mayB s
  · exact pmay_no s w ok h
  · exact pmay_yes s w ok h




























































































































































end Go.Proofs.YtbmlpokkojhhjaaGreat
/- Contract of the program's own call that reads a contract's data out of a reader. -/
namespace Go.Proofs.YtbmlpokkojhhjaaGreat
open Go.RowKit

/-- What Take reads, and the fault behind it. -/
def took (bs : List Int) (e : Int) : Sp × List Int × Int :=
  if mayB (tS fmax bs e).1 = true then tS fmax bs e else (zeroSp, (tS fmax bs e).2.1, if (tS fmax bs e).2.2 = 0 then 5 else (tS fmax bs e).2.2)
def TookOk (w : World) (g : Nat) (A : Option Addr) (bs : List Int) (e : Int) (E : Ending) (W : World) : Prop := E = .returned (.agg (took bs e).1.cells) ∧ Dd w g A (took bs e).2.1 (took bs e).2.2 W

set_option maxRecDepth 100000 in
set_option maxHeartbeats 8000000 in
theorem ptake_any (g n c : Nat) (A : Option Addr) (bs : List Int) (e : Int) (w : World) (h : Rq w g A n c bs e) (hy : By bs) (hn : n ≤ 200000) (hA0 : ∀ a, A = some a → 0 < n → a.block < w.heap.size) :
    Calls Tryz.prog 56 #[.pointer (some ⟨g, 0, none⟩)] w (TookOk w g A bs e) := by
  have Z := zero_sp
  have HLT := Lib.hid h.lt
  have HGW : Hid ((w.alloc (.cells zeroSp.cells 29)).alloc (.cells zeroSp.cells 29) = (w.alloc (.cells zeroSp.cells 29)).alloc (.cells zeroSp.cells 29)) := Lib.hid rfl
  have BX : Hid (Box ((w.alloc (.cells zeroSp.cells 29)).alloc (.cells zeroSp.cells 29)) w.heap.size zeroSp) := Lib.hid ⟨heap_alloc2_old w _ _, rfl⟩
  have T : Hid (St w ((w.alloc (.cells zeroSp.cells 29)).alloc (.cells zeroSp.cells 29)) g (w.heap.size + 1) n A ((w.alloc (.cells zeroSp.cells 29)).alloc (.cells zeroSp.cells 29)) zeroSp bs e) := Lib.hid
    ⟨⟨⟨A, n, c, h.below (((Below.refl _ w).alloc (Nat.le_refl _) _).alloc (by simp) _), fun a ha => ⟨a, ha, rfl⟩⟩, ⟨h.lt, hA0⟩, by rw [h.r.1]; exact Nat.le_refl _, by omega, ⟨heap_alloc2_new w _ _, rfl⟩, below_grown (((Below.refl _ w).alloc (Nat.le_refl _) _).alloc (by simp) _) _⟩, Stay.refl _ _ _, hy, hn⟩
  clear h hy hA0 hn
  obtain ⟨w2, hw2⟩ : ∃ W, ((w.alloc (.cells zeroSp.cells 29)).alloc (.cells zeroSp.cells 29)) = W := ⟨_, rfl⟩
  have hs2 : w2.heap.size = w.heap.size + 2 := by rw [← hw2]; simp
  have HS2 := Lib.hid hs2
  have HW2 := Lib.hid hw2
  rw [hw2] at T BX
  clear hs2 hw2 HGW
  have K0 := Lib.hid (T.out.smallC 4294967295)
  have M0 := sR_most T.out.by_ e (m := 4294967295) (by decide)
  obtain ⟨⟨v0, b1, e1⟩, h0⟩ : ∃ r, sR bs e 4294967295 = r := ⟨_, rfl⟩
  rw [h0] at K0 M0
  dsimp only at K0 M0
  have H0 := Lib.hid h0
  obtain ⟨m1, m2⟩ := M0
  clear h0 T
  go_enter Tryz.func56, Tryz.ntmps56
  go_wp2_with fail
  rw [HW2.out]
  refine K0.out.mono ?_; rintro e0 W1 ⟨rfl, t⟩
  have T := Lib.hid t
  clear t K0
  have hcell := T.out.tk.box.cell 0
  rw [Sp.c0] at hcell
  have hfree := T.out.tk.box.free 0
  have T1 := Lib.hid (T.out.put (v := .int .u32 v0) rfl (set0 v0))
  clear T
  have K0 := Lib.hid (T1.out.smallC 255)
  have M0 := sR_most T1.out.by_ e1 (m := 255) (by decide)
  obtain ⟨⟨v1, b2, e2⟩, h0⟩ : ∃ r, sR b1 e1 255 = r := ⟨_, rfl⟩
  rw [h0] at K0 M0
  dsimp only at K0 M0
  have H1 := Lib.hid h0
  obtain ⟨p1, p2⟩ := M0
  clear h0 T1
  go_wp2_with fail
  refine K0.out.mono ?_; rintro e0 W2 ⟨rfl, t⟩
  have T := Lib.hid t
  clear t K0 hcell hfree
  have hcell := T.out.tk.box.cell 1
  rw [Sp.c1] at hcell
  have hfree := T.out.tk.box.free 1
  have T1 := Lib.hid (T.out.put (v := .int .u8 v1) rfl (set1 v1))
  clear T
  have OK : Hid (({ zeroSp with nu := v0, ro := v1 } : Sp).ok) := Lib.hid ⟨⟨m1, m2⟩, ⟨p1, p2⟩, zero_ok.ti, zero_ok.lo, zero_ok.ba, zero_ok.li, zero_ok.len, zero_ok.sh, zero_ok.cr, zero_ok.la, zero_ok.fi⟩
  have PTS : Hid (∀ cs : Array Value, ((W2.setCell ⟨w.heap.size + 1, 1, none⟩ (.int .u8 v1)).alloc (.cells cs 99)).heap[W2.heap.size]? = some (.cells cs 99 (0, 0))) := Lib.hid (fun cs => by
    have := heap_alloc_new (W2.setCell ⟨w.heap.size + 1, 1, none⟩ (.int .u8 v1)) (.cells cs 99)
    rwa [show (W2.setCell ⟨w.heap.size + 1, 1, none⟩ (.int .u8 v1)).heap.size = W2.heap.size by simp] at this)
  have PS : Hid (w2.heap.size ≤ W2.heap.size) := Lib.hid (by have := T1.out.st.size; simpa using this)
  have TA := Lib.hid (fun o => T1.out.below (((Below.refl _ _).alloc (Nat.le_refl _) o)))
  clear T1
  go_wp2_with fail
  obtain ⟨ps, hps⟩ : ∃ cs : Array Value, #[.pointer (some ⟨w.heap.size + 1, 2, none⟩), .pointer (some ⟨w.heap.size + 1, 3, none⟩), .pointer (some ⟨w.heap.size + 1, 4, none⟩), .pointer (some ⟨w.heap.size + 1, 5, none⟩)] = cs := ⟨_, rfl⟩
  have HP : Hid (∀ k, k < 4 → ps[k]? = some (.pointer (some ⟨w.heap.size + 1, 2 + k, none⟩))) := Lib.hid (fun k hk => by
    rw [← hps]
    match k, hk with
    | 0, _ => rfl
    | 1, _ => rfl
    | 2, _ => rfl
    | 3, _ => rfl)
  have T := Lib.hid (TA.out (.cells ps 99))
  have HG := Lib.hid (PTS.out ps)
  rw [hps]
  obtain ⟨w3, hw3⟩ : ∃ W, (W2.setCell ⟨w.heap.size + 1, 1, none⟩ (.int .u8 v1)).alloc (.cells ps 99) = W := ⟨_, rfl⟩
  rw [hw3] at T HG ⊢
  have BX3 : Hid (Box w3 w.heap.size zeroSp) := Lib.hid ⟨(T.out.st.block w.heap.size (by have := HS2.out; omega) (by have := HLT.out; omega) (by omega)).trans BX.out.1, BX.out.2⟩
  have TB := Lib.hid T.out.base
  obtain ⟨pb, hpb⟩ : ∃ b, W2.heap.size = b := ⟨_, rfl⟩
  have PB : Hid (pb ≠ g ∧ pb ≠ w.heap.size + 1 ∧ pb < w3.heap.size ∧ w.heap.size < w3.heap.size) := Lib.hid (by
    have h1 := PS.out
    have h2 := HS2.out
    have h3 := HLT.out
    have h4 : pb < w3.heap.size := by rw [← hpb]; exact (Array.getElem?_eq_some_iff.1 HG.out).1
    rw [hpb] at h1
    exact ⟨by omega, by omega, h4, by omega⟩)
  rw [hpb] at HG ⊢
  clear hps hw3 TA PTS T BX PS hpb HW2 hcell hfree
  obtain ⟨s2, hs2⟩ : ∃ s, ({ zeroSp with nu := v0, ro := v1 } : Sp) = s := ⟨_, rfl⟩
  have HS := Lib.hid hs2
  rw [hs2] at TB OK
  clear hs2
  go_loopw [21] (fun i wr => ∃ (k : Nat) (s' : Sp) (b' : List Int) (e' : Int), k ≤ 4 ∧ i = .int .i64 k ∧ stF s2 b2 e2 k = (s', b', e') ∧ s'.ok ∧ St w w3 g (w.heap.size + 1) n A wr s' b' e') (fun i _ => 4 - (intOf i).toNat)
  case atStart => exact ⟨0, _, _, _, Nat.zero_le _, rfl, rfl, OK.out, TB.out⟩
  case round =>
    obtain ⟨k, s', b', e', hk, rfl, hst, hok, ht⟩ := hrel
    have HST := Lib.hid hst
    have HOK := Lib.hid hok
    have T := Lib.hid ht
    clear hst hok ht TB
    by_cases hlt : k < 4
    case pos =>
      have hd : decide ((k : Int) < 4) = true := decide_eq_true (by omega)
      have ck : wr.cell? ⟨pb, k, none⟩ = some (.pointer (some ⟨w.heap.size + 1, 2 + k, none⟩)) := by
        rw [cell_of_row _ _ _ _ _ _ ((T.out.st.block pb PB.out.2.2.1 PB.out.1 PB.out.2.1).trans HG.out)]
        exact HP.out k hlt
      have K0 := Lib.hid T.out.natC
      have M0 := sR_most T.out.by_ e' (m := i63) (by decide)
      obtain ⟨⟨x, b1', e1'⟩, h0⟩ : ∃ r, sR b' e' i63 = r := ⟨_, rfl⟩
      have HN : Hid (stF s2 b2 e2 (k + 1) = (setK s' x k, b1', e1')) := Lib.hid (by
        show (setK (stF s2 b2 e2 k).1 (sR (stF s2 b2 e2 k).2.1 (stF s2 b2 e2 k).2.2 i63).1 k, (sR (stF s2 b2 e2 k).2.1 (stF s2 b2 e2 k).2.2 i63).2) = _
        rw [HST.out]
        dsimp only
        rw [h0])
      rw [h0] at K0 M0
      dsimp only at K0 M0
      obtain ⟨q1, q2⟩ := M0
      have HX : Hid (I64 x) := Lib.hid ⟨by omega, q2⟩
      clear h0 T q1 q2
      go_wp2_with fail
      refine K0.out.mono ?_; rintro e0 W4 ⟨rfl, t⟩
      have T := Lib.hid t
      clear t K0
      have hcell := T.out.tk.box.cell (2 + k)
      rw [getK_at _ _ hlt] at hcell
      have hfree := T.out.tk.box.free (2 + k)
      have T1 := Lib.hid (T.out.put (v := .int .i64 x) (by rw [setK_sh]; exact HOK.out.len) (setK_at s' k hlt x))
      clear T
      go_wp2_with fail
      go_roundw
      case rel => exact ⟨k + 1, _, _, _, hlt, by go_num, HN.out, setK_ok HOK.out HX.out k, T1.out⟩
      case measure => simp [intOf]; omega
    case neg =>
      obtain rfl : k = 4 := by omega
      rw [show ((4 : Nat) : Int) = 4 from rfl]
      clear hk hlt OK HP HG
      obtain ⟨b3, hb3⟩ : ∃ b, b' = b := ⟨_, rfl⟩
      obtain ⟨e3, he3⟩ : ∃ b, e' = b := ⟨_, rfl⟩
      obtain ⟨s3, hs3⟩ : ∃ b, s' = b := ⟨_, rfl⟩
      rw [hb3, he3, hs3] at T HST
      rw [hs3] at HOK
      have H2 := HST
      clear hb3 he3 hs3 HST
      go_wp2_with fail
      go_loopw [30] (fun i wr => ∃ (k : Nat) (s' : Sp) (b' : List Int) (e' : Int), k ≤ 16 ∧ i = .int .i64 k ∧ shS s3 b3 e3 k = (s', b', e') ∧ s'.ok ∧ St w w3 g (w.heap.size + 1) n A wr s' b' e') (fun i _ => 16 - (intOf i).toNat)
      case atStart => exact ⟨0, _, _, _, Nat.zero_le _, rfl, rfl, HOK.out, T.out⟩
      case round =>
        clear T HOK
        obtain ⟨k, s', b', e', hk, rfl, hst, hok, ht⟩ := hrel
        have HST := Lib.hid hst
        have HOK := Lib.hid hok
        have T := Lib.hid ht
        clear hst hok ht
        by_cases hlt : k < 16
        case pos =>
          have hd : decide ((k : Int) < 16) = true := decide_eq_true (by omega)
          have K0 := Lib.hid T.out.intC
          have HX := Lib.hid (iR_fits T.out.by_ e')
          obtain ⟨⟨x, b1', e1'⟩, h0⟩ : ∃ r, iR b' e' = r := ⟨_, rfl⟩
          have HN : Hid (shS s3 b3 e3 (k + 1) = ({ s' with sh := s'.sh.set k x }, b1', e1')) := Lib.hid (by
            show (({ (shS s3 b3 e3 k).1 with sh := (shS s3 b3 e3 k).1.sh.set k (iR (shS s3 b3 e3 k).2.1 (shS s3 b3 e3 k).2.2).1 } : Sp), (iR (shS s3 b3 e3 k).2.1 (shS s3 b3 e3 k).2.2).2) = _
            rw [HST.out]
            dsimp only
            rw [h0])
          rw [h0] at K0 HX
          dsimp only at K0 HX
          clear h0 T
          go_wp2_with fail
          refine K0.out.mono ?_; rintro e0 W4 ⟨rfl, t⟩
          have T := Lib.hid t
          clear t K0
          have hcell := T.out.tk.box.cell (6 + k)
          rw [Sp.c6 HOK.out.len k hlt] at hcell
          have hfree := T.out.tk.box.free (6 + k)
          have T1 := Lib.hid (T.out.put (v := .int .i64 x) ((List.length_set).trans HOK.out.len) (set6 HOK.out.len k hlt x))
          clear T
          go_wp2_with fail
          go_roundw
          case rel => exact ⟨k + 1, _, _, _, hlt, by go_num, HN.out, setS_ok HOK.out HX.out k, T1.out⟩
          case measure => simp [intOf]; omega
        case neg =>
          obtain rfl : k = 16 := by omega
          rw [show ((16 : Nat) : Int) = 16 from rfl]
          clear hk hlt
          have K0 := Lib.hid T.out.natC
          have M0 := sR_most T.out.by_ e' (m := i63) (by decide)
          obtain ⟨⟨v6, b6, e6⟩, h0⟩ : ∃ r, sR b' e' i63 = r := ⟨_, rfl⟩
          rw [h0] at K0 M0
          dsimp only at K0 M0
          have H6 := Lib.hid h0
          have OK6 : Hid (({ s' with cr := v6 } : Sp).ok) := Lib.hid ⟨HOK.out.nu, HOK.out.ro, HOK.out.ti, HOK.out.lo, HOK.out.ba, HOK.out.li, HOK.out.len, HOK.out.sh, (i64_of M0.1 M0.2), HOK.out.la, HOK.out.fi⟩
          clear h0 T M0
          go_wp2_with fail
          refine K0.out.mono ?_; rintro e0 W4 ⟨rfl, t⟩
          have T := Lib.hid t
          clear t K0
          have hcell := T.out.tk.box.cell 22
          rw [Sp.c22 HOK.out.len] at hcell
          have hfree := T.out.tk.box.free 22
          have T1 := Lib.hid (T.out.put (v := .int .i64 v6) OK6.out.len (set22 HOK.out.len v6))
          clear T
          have K0 := Lib.hid (T1.out.smallC 4294967295)
          have M0 := sR_most T1.out.by_ e6 (m := 4294967295) (by decide)
          obtain ⟨⟨v7, b7, e7⟩, h0⟩ : ∃ r, sR b6 e6 4294967295 = r := ⟨_, rfl⟩
          rw [h0] at K0 M0
          dsimp only at K0 M0
          have H7 := Lib.hid h0
          obtain ⟨q1, q2⟩ := M0
          have OK7 : Hid (({ s' with cr := v6, la := v7 } : Sp).ok) := Lib.hid ⟨HOK.out.nu, HOK.out.ro, HOK.out.ti, HOK.out.lo, HOK.out.ba, HOK.out.li, HOK.out.len, HOK.out.sh, OK6.out.cr, ⟨q1, q2⟩, HOK.out.fi⟩
          clear h0 T1
          go_wp2_with fail
          refine K0.out.mono ?_; rintro e0 W5 ⟨rfl, t⟩
          have T := Lib.hid t
          clear t K0 hcell hfree
          have hcell := T.out.tk.box.cell 23
          rw [Sp.c23 OK6.out.len] at hcell
          have hfree := T.out.tk.box.free 23
          have T1 := Lib.hid (T.out.put (v := .int .u32 v7) OK7.out.len (set23 OK6.out.len v7))
          clear T
          have K0 := Lib.hid T1.out.natC
          have M0 := sR_most T1.out.by_ e7 (m := i63) (by decide)
          obtain ⟨⟨v8, b8, e8⟩, h0⟩ : ∃ r, sR b7 e7 i63 = r := ⟨_, rfl⟩
          rw [h0] at K0 M0
          dsimp only at K0 M0
          have H8 := Lib.hid h0
          have OK8 : Hid (({ s' with cr := v6, la := v7, fi := v8 } : Sp).ok) := Lib.hid ⟨HOK.out.nu, HOK.out.ro, HOK.out.ti, HOK.out.lo, HOK.out.ba, HOK.out.li, HOK.out.len, HOK.out.sh, OK6.out.cr, ⟨q1, q2⟩, (i64_of M0.1 M0.2)⟩
          clear h0 T1 M0
          go_wp2_with fail
          refine K0.out.mono ?_; rintro e0 W6 ⟨rfl, t⟩
          have T := Lib.hid t
          clear t K0 hcell hfree
          have hcell := T.out.tk.box.cell 24
          rw [Sp.c24 OK7.out.len] at hcell
          have hfree := T.out.tk.box.free 24
          have T1 := Lib.hid (T.out.put (v := .int .i64 v8) OK8.out.len (set24 OK7.out.len v8))
          have TE : Hid (tS fmax bs e = ({ s' with cr := v6, la := v7, fi := v8 }, b8, e8)) := Lib.hid (tS_steps H0.out H1.out (by rw [HS.out]; exact H2.out) HST.out H6.out H7.out H8.out)
          obtain ⟨s8, hs8⟩ : ∃ s, ({ s' with cr := v6, la := v7, fi := v8 } : Sp) = s := ⟨_, rfl⟩
          rw [hs8] at TE OK8
          rw [hs8] at T1
          clear T H0 H1 H2 HST H6 H7 H8 OK6 OK7 HOK hs8
          have MY := Lib.hid (fun W => pmay_any s8 W OK8.out)
          cases hm : mayB s8
          · have TK : Hid (took bs e = (zeroSp, b8, if e8 = 0 then 5 else e8)) := Lib.hid (by
              unfold took
              rw [TE.out]
              dsimp only
              rw [if_neg (by rw [hm]; exact Bool.false_ne_true)])
            rw [hm] at MY
            clear hm TE OK8
            go_wp2_with ((with_reducible refine wl_load_sp (w.heap.size + 1) T1.out.tk.box ?_ ?_ ?_); rfl; rfl)
            refine (MY.out _).mono ?_; rintro e0 W7 ⟨rfl, q⟩
            have T2 := Lib.hid (T1.out.below q)
            have FA : Hid (Calls Tryz.prog 98 #[.pointer (some ⟨g, 0, none⟩), .int .i64 5] W7 fun E W' => E = .returned (.tuple #[]) ∧ St w w3 g (w.heap.size + 1) n A W' s8 b8 (if e8 = 0 then 5 else e8)) := Lib.hid (by
              obtain ⟨A', n', c', rq, hA⟩ := T2.out.tk.rq
              refine (fail_any g n' c' A' b8 e8 5 _ rq).mono ?_
              rintro E W' ⟨rfl, d⟩
              exact ⟨rfl, T2.out.call hA d T2.out.by_ (Nat.le_refl _)⟩)
            clear q T1 MY hcell hfree
            go_wp2_with fail
            refine FA.out.mono ?_; rintro e0 W8 ⟨rfl, t⟩
            have T := Lib.hid t
            have BX : Hid (Box W8 w.heap.size zeroSp) := Lib.hid ⟨(T.out.st.block w.heap.size PB.out.2.2.2 (by have := HLT.out; omega) (by omega)).trans BX3.out.1, rfl⟩
            clear t FA T2
            have HR := Lib.hid (box_set BX.out (s := zeroSp) rfl)
            go_wp2_with ((with_reducible refine wl_store_sp zeroSp w.heap.size BX.out rfl ?_ ?_ ?_); rfl; rfl)
            refine bodyPost_ret (ret_sp rfl _ _ w.heap.size rfl HR.out) rfl ?_
            unfold TookOk
            rw [TK.out]
            exact ⟨rfl, T.out.tk.done (Nat.le_refl _) _⟩
          · have TK : Hid (took bs e = (s8, b8, e8)) := Lib.hid (by
              unfold took
              rw [TE.out]
              dsimp only
              rw [if_pos hm])
            rw [hm] at MY
            have HL8 := Lib.hid OK8.out.len
            clear hm TE OK8
            go_wp2_with ((with_reducible refine wl_load_sp (w.heap.size + 1) T1.out.tk.box ?_ ?_ ?_); rfl; rfl)
            refine (MY.out _).mono ?_; rintro e0 W7 ⟨rfl, q⟩
            have T := Lib.hid (T1.out.below q)
            have BX : Hid (Box W7 w.heap.size zeroSp) := Lib.hid ⟨(T.out.st.block w.heap.size PB.out.2.2.2 (by have := HLT.out; omega) (by omega)).trans BX3.out.1, rfl⟩
            clear q T1 MY hcell hfree
            have HR := Lib.hid (box_set BX.out (s := s8) HL8.out)
            go_wp2_with (first
              | ((with_reducible refine wl_load_sp (w.heap.size + 1) T.out.tk.box ?_ ?_ ?_); rfl; rfl)
              | ((with_reducible refine wl_store_sp s8 w.heap.size BX.out HL8.out ?_ ?_ ?_); rfl; rfl))
            refine bodyPost_ret (ret_sp rfl _ _ w.heap.size rfl HR.out) rfl ?_
            unfold TookOk
            rw [TK.out]
            exact ⟨rfl, T.out.tk.done (Nat.le_refl _) _⟩
end Go.Proofs.YtbmlpokkojhhjaaGreat
/- Plain: a command made of another one's fields; what is read field by field, as a function. -/
namespace Go.Proofs.YtbmlpokkojhhjaaGreat.Wz
open Go.RowKit
set_option linter.unusedVariables false
set_option linter.unusedSimpArgs false

theorem tK_len (bs : List Int) (e : Int) : (took bs e).1.sh.length = 16 := by
  unfold took
  split
  · show (tS fmax bs e).1.sh.length = 16
    unfold tS
    dsimp only
    exact iRs_len _ _ 16
  · rfl
theorem fmax_le15 (i : Nat) : fmax i ≤ 9223372036854775807 := by
  unfold fmax
  split
  · decide
  · split
    · decide
    · split <;> decide
/-- Field i of s, put into c. -/
def cpF (s c : Cm) : Nat → Cm
  | 0 => { c with ac := s.ac }
  | 1 => { c with ct := s.ct }
  | 2 => { c with nu := s.nu }
  | 3 => { c with am := s.am }
  | 4 => { c with sp := s.sp, len := s.len }
  | 5 => { c with on := s.on }
  | 6 => { c with bu := s.bu }
  | 7 => { c with as' := s.as' }
  | 8 => { c with px := s.px }
  | _ => { c with qt := s.qt }
theorem ten {P : Nat → Prop} (h0 : P 0) (h1 : P 1) (h2 : P 2) (h3 : P 3) (h4 : P 4) (h5 : P 5) (h6 : P 6) (h7 : P 7) (h8 : P 8) (h9 : P 9) : ∀ i, i < 10 → P i
  | 0, _ => h0
  | 1, _ => h1
  | 2, _ => h2
  | 3, _ => h3
  | 4, _ => h4
  | 5, _ => h5
  | 6, _ => h6
  | 7, _ => h7
  | 8, _ => h8
  | 9, _ => h9
theorem cp_kd (s c : Cm) : ∀ i, i < 10 → (cpF s c i).kd = c.kd := ten rfl rfl rfl rfl rfl rfl rfl rfl rfl rfl
theorem cp_same (s c : Cm) : ∀ i, i < 10 → eqF15 (cpF s c i) s i := ten rfl rfl rfl rfl rfl rfl rfl rfl rfl rfl
theorem cp_other (s c d : Cm) : ∀ i, i < 10 → ∀ j, j < 10 → j ≠ i → (eqF15 c d j → eqF15 (cpF s c i) d j) ∧ (noF c j → noF (cpF s c i) j) := by
  refine ten ?_ ?_ ?_ ?_ ?_ ?_ ?_ ?_ ?_ ?_ <;>
  refine ten ?_ ?_ ?_ ?_ ?_ ?_ ?_ ?_ ?_ ?_ <;> first | exact fun h => absurd rfl h | exact fun _ => ⟨fun h => h, fun h => h⟩
theorem cp_ok {s c : Cm} (hs : s.ok) (hc : c.ok) : ∀ i, i < 10 → (cpF s c i).ok :=
  ten ⟨hc.kd, hs.ac, hc.ct, hc.nu, hc.am, hc.sp, hc.as', hc.px, hc.qt⟩ ⟨hc.kd, hc.ac, hs.ct, hc.nu, hc.am, hc.sp, hc.as', hc.px, hc.qt⟩ ⟨hc.kd, hc.ac, hc.ct, hs.nu, hc.am, hc.sp, hc.as', hc.px, hc.qt⟩ ⟨hc.kd, hc.ac, hc.ct, hc.nu, hs.am, hc.sp, hc.as', hc.px, hc.qt⟩ ⟨hc.kd, hc.ac, hc.ct, hc.nu, hc.am, hs.sp, hc.as', hc.px, hc.qt⟩ ⟨hc.kd, hc.ac, hc.ct, hc.nu, hc.am, hc.sp, hc.as', hc.px, hc.qt⟩ ⟨hc.kd, hc.ac, hc.ct, hc.nu, hc.am, hc.sp, hc.as', hc.px, hc.qt⟩ ⟨hc.kd, hc.ac, hc.ct, hc.nu, hc.am, hc.sp, hs.as', hc.px, hc.qt⟩ ⟨hc.kd, hc.ac, hc.ct, hc.nu, hc.am, hc.sp, hc.as', hs.px, hc.qt⟩ ⟨hc.kd, hc.ac, hc.ct, hc.nu, hc.am, hc.sp, hc.as', hc.px, hs.qt⟩
/-- So many of the fields, put into an empty command of that kind. -/
def kC (v : Int) : Cm := { zeroCm with kd := v }
def bareC (s : Cm) : Nat → Cm
  | 0 => kC s.kd
  | k + 1 => match (flds s.kd)[k]? with
    | some i => cpF s (bareC s k) i
    | none => bareC s k
theorem bare_next {s : Cm} {k i : Nat} (h : (flds s.kd)[k]? = some i) : bareC s (k + 1) = cpF s (bareC s k) i := by
  conv => lhs; unfold bareC
  rw [h]
theorem kC_ok {v : Int} (h : 0 ≤ v ∧ v ≤ 255) : (kC v).ok := Wt.zeroCm_ok15 h
theorem kC_no (v : Int) : ∀ i, i < 10 → noF (kC v) i := Wt.zero_no15 v
theorem ite_nd {p : Prop} [Decidable p] {a b : List Nat} (ha : a.Nodup) (hb : b.Nodup) : (if p then a else b).Nodup := by
  by_cases c : p
  · rw [if_pos c]; exact ha
  · rw [if_neg c]; exact hb
theorem nodup15 (k : Int) : (flds k).Nodup := by
  unfold flds
  repeat (refine ite_nd (by decide) ?_)
  decide
theorem ite_four {p : Prop} [Decidable p] {a b : List Nat} (h : 4 ∈ (if p then a else b)) (ha : 4 ∉ a) : 4 ∈ b := by
  by_cases c : p
  · rw [if_pos c] at h; exact absurd h ha
  · rw [if_neg c] at h; exact h
theorem four15 {k : Int} (h : 4 ∈ flds k) : k = 3 := by
  unfold flds at h
  replace h := ite_four h (by decide)
  replace h := ite_four h (by decide)
  by_cases e : k = 3
  · exact e
  rw [if_neg e] at h
  exfalso
  replace h := ite_four h (by decide)
  replace h := ite_four h (by decide)
  replace h := ite_four h (by decide)
  replace h := ite_four h (by decide)
  replace h := ite_four h (by decide)
  replace h := ite_four h (by decide)
  replace h := ite_four h (by decide)
  replace h := ite_four h (by decide)
  replace h := ite_four h (by decide)
  replace h := ite_four h (by decide)
  exact absurd h (by decide)
theorem bare_all (s : Cm) (hs : s.ok) : ∀ k, k ≤ (flds s.kd).length → (bareC s k).kd = s.kd ∧ (bareC s k).ok ∧ (∀ i, i ∈ (flds s.kd).take k → eqF15 (bareC s k) s i) ∧ ∀ i, i < 10 → i ∉ (flds s.kd).take k → noF (bareC s k) i
  | 0, _ => ⟨rfl, kC_ok hs.kd, fun i hi => by simp at hi, fun i hi _ => kC_no s.kd i hi⟩
  | k + 1, h => by
    obtain ⟨a1, a2, a3, a4⟩ := bare_all s hs k (by omega)
    have hk : k < (flds s.kd).length := by omega
    have hi := List.getElem?_eq_getElem hk
    obtain ⟨i, he⟩ : ∃ i, (flds s.kd)[k] = i := ⟨_, rfl⟩
    rw [he] at hi
    have h10 : i < 10 := flds_lt _ i (List.mem_of_getElem? hi)
    have tk : (flds s.kd).take (k + 1) = (flds s.kd).take k ++ [i] := by rw [List.take_add_one, hi]; rfl
    rw [bare_next hi, tk]
    refine ⟨(cp_kd _ _ i h10).trans a1, cp_ok hs a2 i h10, fun j hj => ?_, fun j hj hn => ?_⟩
    · by_cases e : j = i
      · rw [e]; exact cp_same s _ i h10
      · rcases List.mem_append.1 hj with m | m
        · exact (cp_other s _ s i h10 j (flds_lt _ j (List.mem_of_mem_take m)) e).1 (a3 j m)
        · exact absurd (List.mem_singleton.1 m) e
    · have e : j ≠ i := fun e => hn (List.mem_append.2 (.inr (by rw [e]; exact List.mem_singleton.2 rfl)))
      exact (cp_other s _ s i h10 j hj e).2 (a4 j hj fun m => hn (List.mem_append.2 (.inl m)))
def bareA (s : Cm) : Cm := bareC s (flds s.kd).length
theorem may_bare {c : Cm} (hc : c.ok) : MayC c ↔ (1 ≤ c.kd ∧ c.kd ≤ 14) ∧ c = bareA c ∧ (c.kd = 3 → mayB c.sp = true) := by
  obtain ⟨a1, a2, a3, a4⟩ := bare_all c hc _ (Nat.le_refl _)
  rw [List.take_length] at a3 a4
  constructor
  · intro h
    refine ⟨h.kd, cm_eq a1.symm fun i hi => ?_, fun e => h.sp (by rw [e]; decide)⟩
    by_cases m : i ∈ flds c.kd
    · have := a3 i m
      revert this
      exact ten (P := fun i => eqF15 (bareC c (flds c.kd).length) c i → eqF15 c (bareA c) i) Eq.symm Eq.symm Eq.symm Eq.symm Eq.symm Eq.symm Eq.symm Eq.symm Eq.symm Eq.symm i hi
    · exact eq_of_no i hi (h.no i hi m) (a4 i hi m)
  · rintro ⟨h1, h2, h3⟩
    refine ⟨h1, fun i hi hn => ?_, fun m => h3 (four15 m)⟩
    have h4 := a4 i hi hn
    have h5 : bareC c (flds c.kd).length = c := h2.symm
    rw [h5] at h4
    exact h4
theorem listed15 {k : Int} (h : ¬ (1 ≤ k ∧ k ≤ 14)) : flds k = [] := by
  unfold flds
  repeat (rw [if_neg (by omega)])
/-- Field i, read. -/
def rdF (c : Cm) (b : List Int) (e : Int) : Nat → Cm × List Int × Int
  | 0 => ({ c with ac := (sR b e 4294967295).1 }, (sR b e 4294967295).2)
  | 1 => ({ c with ct := (sR b e 4294967295).1 }, (sR b e 4294967295).2)
  | 2 => ({ c with nu := (sR b e top).1 }, (sR b e top).2)
  | 3 => ({ c with am := (iR b e).1 }, (iR b e).2)
  | 4 => ({ c with sp := (took b e).1, len := tK_len b e }, (took b e).2)
  | 5 => ({ c with on := (fR b e).1 }, (fR b e).2)
  | 6 => ({ c with bu := (fR b e).1 }, (fR b e).2)
  | 7 => ({ c with as' := (sR b e 255).1 }, (sR b e 255).2)
  | 8 => ({ c with px := (iR b e).1 }, (iR b e).2)
  | _ => ({ c with qt := (iR b e).1 }, (iR b e).2)
theorem took_rest {s : Sp} (ok : s.ok) (hm : mayB s = true) (r : List Int) : took (form s ++ r) 0 = (s, r, 0) := by
  have hp := head_parts (may_head hm)
  have hf := may_fi hm
  have a1 := ok.nu
  have a3 := ok.ro
  have a5 := ok.la
  have e := tS_form fmax ok hm (by show s.nu ≤ 4294967295; omega) (by show s.ro ≤ 255; omega) (by show s.ti ≤ i63; unfold i63; omega) (by show s.lo ≤ i63; unfold i63; omega) (by show s.ba ≤ i63; unfold i63; omega) (by show s.li ≤ i63; unfold i63; omega) (by show s.cr ≤ i63; unfold i63; omega) (by show s.la ≤ 4294967295; omega) (by show s.fi ≤ i63; unfold i63; omega) r
  unfold took
  rw [e]
  exact if_pos hm
theorem took_back {b : List Int} (hy : By b) (h : (took b 0).2.2 = 0) : b = form (took b 0).1 ++ (took b 0).2.1 ∧ (took b 0).1.ok ∧ By (took b 0).2.1 := by
  unfold took at h ⊢
  split at h
  case isTrue hm =>
    rw [if_pos hm]
    obtain ⟨⟨s, r, e⟩, ht⟩ : ∃ t, tS fmax b 0 = t := ⟨_, rfl⟩
    rw [ht] at h ⊢
    dsimp only at h ⊢
    subst h
    have hb := tS_back fmax hy (Int.le_refl _) (Int.le_refl _) (Int.le_refl _) fmax_le15 ht
    exact ⟨hb.2.1, hb.1, hb.2.2⟩
  case isFalse hm =>
    dsimp only at h
    by_cases h0 : (tS fmax b 0).2.2 = 0
    · rw [if_pos h0] at h; cases h
    · rw [if_neg h0] at h; exact absurd h h0
theorem iRs_by15 {bs : List Int} (hy : By bs) (e : Int) : ∀ k, By (iRs bs e k).2.1 ∧ (iRs bs e k).2.1.length ≤ bs.length
  | 0 => ⟨hy, Nat.le_refl _⟩
  | k + 1 => by
    have ih := iRs_by15 hy e k
    have h := iR_by ih.1 (iRs bs e k).2.2
    exact ⟨h.1, Nat.le_trans h.2 ih.2⟩
theorem tS_by15 (m : Nat → Int) {bs : List Int} (hy : By bs) (e : Int) : By (tS m bs e).2.1 ∧ (tS m bs e).2.1.length ≤ bs.length := by
  unfold tS
  dsimp only
  have h0 := sR_by hy e (m 0)
  generalize sR bs e (m 0) = r0 at *
  have h1 := sR_by h0.1 r0.2.2 (m 1)
  generalize sR r0.2.1 r0.2.2 (m 1) = r1 at *
  have h2 := sR_by h1.1 r1.2.2 (m 2)
  generalize sR r1.2.1 r1.2.2 (m 2) = r2 at *
  have h3 := sR_by h2.1 r2.2.2 (m 3)
  generalize sR r2.2.1 r2.2.2 (m 3) = r3 at *
  have h4 := sR_by h3.1 r3.2.2 (m 4)
  generalize sR r3.2.1 r3.2.2 (m 4) = r4 at *
  have h5 := sR_by h4.1 r4.2.2 (m 5)
  generalize sR r4.2.1 r4.2.2 (m 5) = r5 at *
  have hq := iRs_by15 h5.1 r5.2.2 16
  generalize iRs r5.2.1 r5.2.2 16 = q at *
  have h6 := sR_by hq.1 q.2.2 (m 6)
  generalize sR q.2.1 q.2.2 (m 6) = r6 at *
  have h7 := sR_by h6.1 r6.2.2 (m 7)
  generalize sR r6.2.1 r6.2.2 (m 7) = r7 at *
  have h8 := sR_by h7.1 r7.2.2 (m 8)
  exact ⟨h8.1, by omega⟩
theorem took_by15 {bs : List Int} (hy : By bs) (e : Int) : By (took bs e).2.1 ∧ (took bs e).2.1.length ≤ bs.length := by
  have h := tS_by15 fmax hy e
  unfold took
  split
  · exact h
  · exact h
end Go.Proofs.YtbmlpokkojhhjaaGreat.Wz
/- The program's own wire: Nat, Int. -/
namespace Go.Proofs.YtbmlpokkojhhjaaGreat
open Go.RowKit


/-- A form was written behind a list. -/
def Wrote (base : Nat) (v : Value) (bs f : List Int) (W : World) (E : Ending) (W' : World) : Prop :=
  ∃ v', E = .returned v' ∧ W'.ownsRow base 5 1 v' (bs ++ f).length ((bs ++ f).map (Value.int .u8)) ∧ W.grownBy W' v.ownBlock
def Owns (W : World) (base : Nat) (v : Value) (bs : List Int) : Prop := W.ownsRow base 5 1 v bs.length (bs.map (Value.int .u8)) ∧ base ≤ W.heap.size ∧ bs.length ≤ 1000000
theorem Wrote.below {base : Nat} {v : Value} {bs f : List Int} {W : World} {E : Ending} {W' : World} (h : Wrote base v bs f W E W') (o : Owns W base v bs) {N : Nat} (hN : N ≤ base) : Below N W W' := by
  obtain ⟨v', _, _, hg⟩ := h
  exact (Below.refl _ W).grown hg (Nat.le_trans hN o.2.1) fun k hk => Nat.le_trans hN (o.1.lt k hk).1


set_option maxRecDepth 100000 in
theorem natural_any (n : Nat) (hn : n < 18446744073709551616) (w : World) : Calls Tryz.prog 83 #[.int .u64 n] w fun e W => Made w (nb n) e W := by
  have ht := nb_ten hn
  obtain ⟨i0, hi0, hz0, hz1, hz2⟩ := info_parts info_u8
  have HN := Lib.hid hn
  clear hn
  go_enter Tryz.func83, Tryz.ntmps83
  go_wp2_with fail
  go_loopw [0, 3] (fun x v wr => ∃ (m : Nat) (pre : List Int), x = .int .u64 m ∧ m ≤ 18446744073709551615 ∧ nb n = pre ++ nb m ∧ wr.ownsRow w.heap.size 5 1 v pre.length (pre.map (Value.int .u8)) ∧ Below w.heap.size w wr) (fun x _ _ => (intOf x).toNat)
  case atStart => exact ⟨n, [], rfl, by have := HN.out; omega, rfl, World.ownsRow_nil _ _ _ _, Below.refl _ _⟩
  case round =>
    obtain ⟨m, pre, rfl, hm, hpre, hown, hB⟩ := hrel
    have hl : pre.length + (nb m).length ≤ 10 := by rw [← List.length_append, ← hpre]; exact ht
    have hmp := nb_pos m
    have HB := Lib.hid hB
    have HO := Lib.hid hown
    have HP := Lib.hid hpre
    have hbs := HB.out.size
    clear hB hown hpre
    by_cases h : 128 ≤ m
    · have HH := Lib.hid (nb_big h)
      have N1 := Lib.hid (new_news wr ((m : Int) % 128 + 128))
      have N2 := Lib.hid (one_x ((m : Int) % 128 + 128))
      go_wp2_with (at_builtin; refine wpList_append_own _ rfl _ _ 22 rfl w.heap.size 5 i0 (.int .u8 0) 1 1 Tryz.underlying22 hi0 hz0 hz1 hz2 rfl (by decide) _ _ _ rfl (HO.out.alloc _) ⟨wr.heap.size, 0, none⟩ 1 1 [.int .u8 ((m : Int) % 128 + 128)] rfl rfl N1.out N2.out (by unfold maxLen; omega) (by omega) (by simp; omega) ?_; intro v' w1 hown' hgrow _; rw [← map_snoc] at hown'; have HO' := Lib.hid hown'; have HB' := Lib.hid ((HB.out.alloc HB.out.size _).grown hgrow (by have := HB.out.size; simp; omega) (fun j hj => (HO.out.lt j hj).1)); clear hown' hgrow)
      go_roundw
      case rel => exact ⟨m / 128, pre ++ [((m % 128 : Nat) : Int) + 128], by go_num, by omega, by rw [HP.out, HH.out]; simp, by rw [show ((m % 128 : Nat) : Int) = (m : Int) % 128 from by omega, List.length_append]; exact HO'.out, HB'.out⟩
      case measure => simp [intOf]; omega
    · have HH := Lib.hid (nb_small (n := m) (by omega))
      have N1 := Lib.hid (new_news wr (m : Int))
      have N2 := Lib.hid (one_x (m : Int))
      go_wp2_with (at_builtin; refine wpList_append_own _ rfl _ _ 22 rfl w.heap.size 5 i0 (.int .u8 0) 1 1 Tryz.underlying22 hi0 hz0 hz1 hz2 rfl (by decide) _ _ _ rfl (HO.out.alloc _) ⟨wr.heap.size, 0, none⟩ 1 1 [.int .u8 (m : Int)] rfl rfl N1.out N2.out (by unfold maxLen; omega) (by omega) (by simp; omega) ?_; intro v' w1 hown' hgrow _; rw [← map_snoc] at hown'; have HO' := Lib.hid hown'; have HB' := Lib.hid ((HB.out.alloc HB.out.size _).grown hgrow (by have := HB.out.size; simp; omega) (fun j hj => (HO.out.lt j hj).1)); clear hown' hgrow)
      go_ret
      refine ⟨_, rfl, ?_, HB'.out⟩
      rw [HP.out, HH.out, List.length_append]
      exact HO'.out

set_option maxRecDepth 100000 in
theorem grow_any (n : Nat) (hn : n ≤ 4000000) (w : World) : Calls Tryz.prog 113 #[.slice none 0 0, .int .i64 n] w fun e W => Made w [] e W := by
  obtain ⟨i0, hi0, hz0, hz1, hz2⟩ := info_parts info_u8
  rcases Nat.eq_zero_or_pos n with rfl | hp
  · go_enter Tryz.func113, Tryz.ntmps113
    go_wp2
    go_ret
    exact ⟨_, rfl, World.ownsRow_nil _ _ _ _, Below.refl _ _⟩
  · have hold : (Builtin.firstCells i0.size 0 (.slice none 0 0)).run Tryz.prog w.drew = .ok ([] : List Value).toArray w.drew := run_firstCells_none w.drew i0.size 0 0 0
    have hrz : ∀ ty, (Builtin.append_ #[22, 3] ty #[.slice none 0 0, .int .i64 n]).run Tryz.prog w =
        .ok (.slice (some ⟨w.heap.size, 0, none⟩) n (grownCap w n 0 5)) (w.drew.alloc (.cells (([] : List Value).toArray ++ Builtin.zeroCells (Value.int .u8 0).cells n ++ Builtin.zeroCells (Value.int .u8 0).cells (grownCap w n 0 5 - n)) 5)) := fun ty => by
      have h := Lib.run_append_grow_zeros w 22 3 ty 5 i0 (.int .u8 0) .i64 .i64 Tryz.underlying22 Tryz.underlying3 hi0 hz0 none 0 0 [] hold n hp (by omega) (by omega) (by omega) (by rw [hz2]; omega) (growslice_fits (by omega) (by rw [hz2]; omega))
      rwa [Nat.zero_add] at h
    have hge := grownCap_ge w n 0 5
    have hle := grownCap_le_maxLen w n 0 5 (by unfold maxLen; omega)
    obtain ⟨G, hG⟩ : ∃ G, grownCap w n 0 5 = G := ⟨_, rfl⟩
    rw [hG] at hrz hge hle
    have hG63 : G ≤ 9223372036854775807 := by unfold maxLen at hle; omega
    have hsz : (([] : List Value).toArray ++ Builtin.zeroCells (Value.int .u8 0).cells n ++ Builtin.zeroCells (Value.int .u8 0).cells (G - n)).size = G * 1 := by
      simp [Builtin.zeroCells, Value.cells]; omega
    have O := Lib.hid (World.ownsRow_made (base := w.heap.size) (e := 5) (size := 1) w.drew _ G (Nat.le_refl _) hle hsz)
    have Q := Lib.hid ((Below.refl w.heap.size w).drew.alloc (Nat.le_refl _) (.cells (([] : List Value).toArray ++ Builtin.zeroCells (Value.int .u8 0).cells n ++ Builtin.zeroCells (Value.int .u8 0).cells (G - n)) 5))
    obtain ⟨W, hW⟩ : ∃ W, w.drew.alloc (.cells (([] : List Value).toArray ++ Builtin.zeroCells (Value.int .u8 0).cells n ++ Builtin.zeroCells (Value.int .u8 0).cells (G - n)) 5) = W := ⟨_, rfl⟩
    rw [hW] at O Q hrz
    clear hsz hold hG hW
    go_enter Tryz.func113, Tryz.ntmps113
    go_wp2_with (at_builtin; refine Lib.wpList_append_run _ rfl _ _ _ _ rfl _ _ rfl rfl _ _ (hrz _) ?_)
    go_ret
    exact ⟨_, rfl, O.out, Q.out⟩
set_option maxRecDepth 100000 in
set_option maxHeartbeats 1000000 in
theorem concat_any (g m : Nat) (ps : List Pt) (w : World) (hm : ps.length = m) (hm2 : m ≤ 1000) (hc : ∀ j p, ps[j]? = some p → w.cell? ⟨g, j, none⟩ = some p.v) (ho : ∀ p, p ∈ ps → p.ok w) (hT : (cat ps).length ≤ 4000000) :
    Calls Tryz.prog 82 #[.slice (some ⟨g, 0, none⟩) m m] w fun e W => Made w (cat ps) e W := by
  obtain ⟨i0, hi0, hz0, hz1, hz2⟩ := info_parts info_u8
  have HC := Lib.hid hc
  have HO := Lib.hid ho
  have HM := Lib.hid hm
  clear hc ho hm
  go_enter Tryz.func82, Tryz.ntmps82
  go_wp2_with fail
  go_loop [3, 5, 11] (fun z _ i => ∃ k : Nat, k ≤ m ∧ i = .int .i64 k ∧ z = .int .i64 (cat (ps.take k)).length) (fun _ _ i => m - (intOf i).toNat)
  case atStart => exact ⟨0, Nat.zero_le _, rfl, rfl⟩
  case round =>
    obtain ⟨k, hk, rfl, rfl⟩ := hrel
    by_cases hlt : k < m
    case pos =>
      obtain ⟨p, hp⟩ : ∃ p, ps[k]? = some p := ⟨ps[k]'(by rw [HM.out]; exact hlt), List.getElem?_eq_getElem _⟩
      have hcell := HC.out k p hp
      have h1 := cat_take ps k p hp
      have h2 := cat_le ps (k + 1)
      have h3 := congrArg List.length h1
      rw [List.length_append, (HO.out p (List.mem_of_getElem? hp)).1.1] at h3
      obtain ⟨L, hL⟩ : ∃ L, (cat (ps.take k)).length = L := ⟨_, rfl⟩
      obtain ⟨A, n, c, bs⟩ := p
      unfold Pt.v at hcell
      dsimp only at hcell h3
      rw [hL] at h3
      have hb : L + n ≤ 4000000 := by omega
      have H3 := Lib.hid h3
      rw [hL]
      clear h1 h2 h3 hp hL
      go_wp2
      go_round
      case rel => exact ⟨k + 1, hlt, by go_num, by rw [H3.out]; go_num⟩
      case measure => simp [intOf]; omega
    case neg =>
      obtain rfl : k = m := by omega
      have hT' : (cat (ps.take k)).length ≤ 4000000 := by have := cat_le ps k; omega
      have G := Lib.hid (grow_any (cat (ps.take k)).length hT' w)
      obtain ⟨L, hL⟩ : ∃ L, (cat (ps.take k)).length = L := ⟨_, rfl⟩
      rw [hL] at G hT' ⊢
      clear hL
      go_wp2_with fail
      refine G.out.mono ?_; rintro e w1 ⟨v, rfl, hN⟩
      have O0 := Lib.hid hN.o
      have B0 := Lib.hid hN.q
      clear hN G
      go_wp2_with fail
      go_loopw [6, 8, 27] (fun v _ i wr => ∃ j : Nat, j ≤ k ∧ i = .int .i64 j ∧ wr.ownsRow w.heap.size 5 1 v (cat (ps.take j)).length ((cat (ps.take j)).map (Value.int .u8)) ∧ Below w.heap.size w wr) (fun _ _ i _ => k - (intOf i).toNat)
      case atStart => exact ⟨0, Nat.zero_le _, rfl, O0.out, B0.out⟩
      case round =>
        obtain ⟨j, hj, rfl, hown, hB⟩ := hrel
        have HW := Lib.hid hown
        have HB := Lib.hid hB
        clear hown hB
        by_cases hlt : j < k
        case neg =>
          obtain rfl : j = k := by omega
          go_wp2
          go_ret
          refine ⟨_, rfl, ?_, HB.out⟩
          have e : ps.take j = ps := List.take_of_length_le (by rw [HM.out]; exact Nat.le_refl _)
          have := HW.out
          rwa [e] at this
        case pos =>
          obtain ⟨p, hp⟩ : ∃ p, ps[j]? = some p := ⟨ps[j]'(by rw [HM.out]; exact hlt), List.getElem?_eq_getElem _⟩
          have hcell := (HB.out.cell (World.block_lt_of_cell? w _ (HC.out j p hp))).trans (HC.out j p hp)
          have h1 := cat_take ps j p hp
          have h2 := cat_le ps (j + 1)
          have h3 := congrArg List.length h1
          have hok := HO.out p (List.mem_of_getElem? hp)
          rw [List.length_append, hok.1.1] at h3
          have hr := hok.1.below HB.out
          have h0 := hok.2
          have hbs := HB.out.size
          obtain ⟨A, n, c, bs⟩ := p
          unfold Pt.v at hcell
          dsimp only at hcell h3 hr h0 h1
          have hl := hr.1
          have H1 := Lib.hid h1
          have hb : (cat (ps.take j)).length + n ≤ 4000000 := by omega
          have H3 := Lib.hid h3
          have e2 : ((cat (ps.take (j + 1))).map (Value.int .u8)) = (cat (ps.take j)).map (Value.int .u8) ++ bs.map (Value.int .u8) := by rw [h1, List.map_append]
          have E2 := Lib.hid e2
          obtain ⟨L, hL⟩ : ∃ L, (cat (ps.take j)).length = L := ⟨_, rfl⟩
          obtain ⟨X, hX⟩ : ∃ X, (cat (ps.take j)).map (Value.int .u8) = X := ⟨_, rfl⟩
          rw [hL, hX] at HW
          rw [hL] at H3 hb
          rw [hX] at E2
          clear h1 h2 h3 hp hL hX hok e2
          cases A with
          | none =>
            obtain ⟨rfl, rfl⟩ := h0 rfl
            have : bs = [] := List.eq_nil_of_length_eq_zero hl
            subst this
            clear h0 hr hl
            go_wp2_with (at_builtin; refine wpList_append_own_none rfl _ _ 22 rfl w.heap.size 5 i0 1 Tryz.underlying22 hi0 _ _ _ rfl HW.out rfl ?_)
            go_roundw
            case rel => exact ⟨j + 1, hlt, by go_num, by rw [H3.out, E2.out]; simpa using HW.out, HB.out⟩
            case measure => simp [intOf]; omega
          | some ad =>
            have NW := Lib.hid (news_rd hr)
            have HL : Hid ((bs.map (Value.int .u8)).length = n * 1) := Lib.hid (by simp [hl])
            clear h0 hr hl
            go_wp2_with (at_builtin; refine wpList_append_own _ rfl _ _ 22 rfl w.heap.size 5 i0 (.int .u8 0) 1 1 Tryz.underlying22 hi0 hz0 hz1 hz2 rfl (by decide) _ _ _ rfl HW.out ad n c (bs.map (Value.int .u8)) rfl HL.out NW.out (one_u8 _) (by unfold maxLen; omega) (by omega) hbs ?_; intro v2 w2 hown2 hgrow2 _; have HG := Lib.hid (HB.out.grown hgrow2 hbs (fun j hj => (HW.out.lt j hj).1)); have HW2 := Lib.hid hown2; clear hown2 hgrow2)
            go_roundw
            case rel => exact ⟨j + 1, hlt, by go_num, by rw [H3.out, E2.out]; exact HW2.out, HG.out⟩
            case measure => simp [intOf]; omega

theorem made_wrote {W : World} {base : Nat} {v : Value} {bs f : List Int} {E : Ending} {W' : World} (hb : base ≤ W.heap.size) (h : Made W (bs ++ f) E W') : Wrote base v bs f W E W' := by
  obtain ⟨v', e, hn⟩ := h
  exact ⟨v', e, own_less hn.o hb, below_grown hn.q _⟩
set_option maxRecDepth 100000 in
theorem wnat_any (base : Nat) (v : Value) (bs : List Int) (k : Nat) (W : World) (h : Owns W base v bs) (hk : k < 18446744073709551616) :
    Calls Tryz.prog 38 #[v, .int .u64 k] W fun E W' => Wrote base v bs (nb k) W E W' := by
  obtain ⟨ho, hb, hl⟩ := h
  have ht := nb_ten hk
  obtain ⟨A, c, rfl, hr, h0⟩ := owns_pt ho
  have K := Lib.hid (natural_any k hk W)
  have HR := Lib.hid hr
  have H0 := Lib.hid h0
  clear ho hr h0
  obtain ⟨L, hL⟩ : ∃ L, bs.length = L := ⟨_, rfl⟩
  rw [hL] at HR H0 hl ⊢
  have HB := Lib.hid hb
  clear hb
  refine Calls.mono (R := fun E W' => Made W (bs ++ nb k) E W') ?_ fun E W' h => made_wrote HB.out h
  go_enter Tryz.func38, Tryz.ntmps38
  go_wp2_with fail
  refine K.out.mono ?_; rintro e w1 ⟨v1, rfl, hN⟩
  obtain ⟨A1, c1, rfl, hr1, h01⟩ := owns_pt hN.o
  have CC := Lib.hid (concat_any w1.heap.size 2 [⟨A, L, c, bs⟩, ⟨A1, (nb k).length, c1, nb k⟩] (w1.alloc (.cells #[.slice A L c, .slice A1 (nb k).length c1] 22)) rfl (by decide) (two_at w1 ⟨A, L, c, bs⟩ ⟨A1, (nb k).length, c1, nb k⟩)
    (by
      intro p hp
      simp only [List.mem_cons, List.not_mem_nil, or_false] at hp
      rcases hp with rfl | rfl
      · exact ⟨(HR.out.below hN.q).below ((Below.refl _ w1).alloc (Nat.le_refl _) _), H0.out⟩
      · exact ⟨hr1.below ((Below.refl _ w1).alloc (Nat.le_refl _) _), h01⟩)
    (by simp [cat]; omega))
  have Q1 := Lib.hid (hN.q.alloc hN.q.size (.cells #[.slice A L c, .slice A1 (nb k).length c1] 22))
  have hs := hN.q.size
  obtain ⟨M, hM⟩ : ∃ M, (nb k).length = M := ⟨_, rfl⟩
  rw [hM] at CC Q1 ⊢
  clear hN hr1 h01 K hM
  go_wp2_with fail
  refine CC.out.mono ?_; rintro e w2 ⟨v2, rfl, hN2⟩
  have Q2 := Lib.hid (Q1.out.trans (hN2.q.mono Q1.out.size))
  have O2 := Lib.hid (own_less hN2.o Q1.out.size)
  clear hN2
  go_wp2_with fail
  go_ret
  refine ⟨_, rfl, ?_, Q2.out⟩
  have := O2.out
  simpa [cat] using this
theorem xor_zero {k : Int} (h0 : 0 ≤ k) (h1 : k ≤ 9223372036854775807) : bits .xor .u64 (k * 2) (k / 9223372036854775808) = (((2 * k).toNat : Nat) : Int) := by
  have := bits_xor_u64_nat (2 * k).toNat 0 (by omega) (by omega)
  rw [Nat.xor_zero] at this
  rw [show k / 9223372036854775808 = ((0 : Nat) : Int) by omega, show k * 2 = (((2 * k).toNat : Nat) : Int) by omega]
  exact this
theorem xor_ones (a : Nat) (h : a < 18446744073709551616) : a ^^^ 18446744073709551615 = 18446744073709551615 - a := by
  have e := congrArg BitVec.toNat (BitVec.xor_allOnes (x := BitVec.ofNat 64 a))
  rw [BitVec.toNat_xor, BitVec.toNat_not, BitVec.toNat_allOnes, BitVec.toNat_ofNat, Nat.mod_eq_of_lt (by omega)] at e
  exact e
theorem xor_neg {k : Int} (h0 : k < 0) (h1 : -9223372036854775808 ≤ k) : bits .xor .u64 (IntKind.u64.wrap (IntKind.u64.wrap k * 2)) (IntKind.u64.wrap (k / 9223372036854775808)) = (((2 * (-(k + 1)) + 1).toNat : Nat) : Int) := by
  have e1 : IntKind.u64.wrap (IntKind.u64.wrap k * 2) = (((2 * k + 18446744073709551616).toNat : Nat) : Int) := by rw [IntKind.wrap_u64, IntKind.wrap_u64]; omega
  have e2 : IntKind.u64.wrap (k / 9223372036854775808) = ((18446744073709551615 : Nat) : Int) := by rw [IntKind.wrap_u64]; omega
  rw [e1, e2, bits_xor_u64_nat _ _ (by omega) (by omega), xor_ones _ (by omega)]
  congr 1; omega
set_option maxRecDepth 100000 in
theorem wint_any (base : Nat) (v : Value) (bs : List Int) (k : Int) (W : World) (h : Owns W base v bs) (hk : -9223372036854775808 ≤ k ∧ k ≤ 9223372036854775807) :
    Calls Tryz.prog 39 #[v, .int .i64 k] W fun E W' => Wrote base v bs (ib k) W E W' := by
  by_cases h0 : 0 ≤ k
  · have C := wnat_any base v bs (2 * k).toNat W h (by omega)
    rw [← xor_zero h0 hk.2, show nb (2 * k).toNat = ib k from (if_pos h0).symm] at C
    have CC := Lib.hid C
    clear h C
    go_enter Tryz.func39, Tryz.ntmps39
    go_wp2_with fail
    refine CC.out.mono ?_; rintro e w1 ⟨v', rfl, r⟩
    have R := Lib.hid r
    clear r
    go_wp2_with fail
    go_ret
    exact ⟨_, rfl, R.out⟩
  · have C := wnat_any base v bs (2 * (-(k + 1)) + 1).toNat W h (by omega)
    rw [← xor_neg (by omega) hk.1, show nb (2 * (-(k + 1)) + 1).toNat = ib k from (if_neg h0).symm] at C
    have CC := Lib.hid C
    clear h C
    go_enter Tryz.func39, Tryz.ntmps39
    go_wp2_with fail
    refine CC.out.mono ?_; rintro e w1 ⟨v', rfl, r⟩
    have R := Lib.hid r
    clear r
    go_wp2_with fail
    go_ret
    exact ⟨_, rfl, R.out⟩
end Go.Proofs.YtbmlpokkojhhjaaGreat
