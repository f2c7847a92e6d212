/- The statements' own check: known. -/
import Derived.Test.YthnmpnepgagmmaaLb
import Derived.Test.YthnmpnepgagmmaaLc
import Derived.Test.YthnmpnepgagmmaaMr
namespace Go.Proofs.Ythnmpnepgagmmaa
open Go.RowKit Go.Shelf
set_option linter.unusedVariables false
set_option linter.unusedSimpArgs false
set_option linter.unusedSectionVars false

def K0 : Lg := ⟨0, [], []⟩
def K1 : Lg := ⟨0, [⟨1, 100, false, false⟩], []⟩
def K2 : Lg := ⟨0, [⟨1, 100, false, false⟩, ⟨2, 100, false, false⟩], []⟩
def K3 : Lg := ⟨0, [⟨1, 100, false, false⟩, ⟨2, 100, false, false⟩], [⟨5, 1, 3, 30⟩, ⟨5, 2, -3, -30⟩]⟩
def K4 : Lg := ⟨0, [⟨1, 100, false, false⟩, ⟨2, 100, false, false⟩], [⟨5, 1, 3, 36⟩, ⟨5, 2, -3, -36⟩]⟩
def kv9 : List Va := [⟨1, 6⟩, ⟨2, -6⟩]
theorem k01 : depE K0 1 100 = 0 ∧ depL K0 1 100 = K1 := ⟨by kernel_rfl, by kernel_rfl⟩
theorem k12 : depE K1 2 100 = 0 ∧ depL K1 2 100 = K2 := ⟨by kernel_rfl, by kernel_rfl⟩
theorem k23 : traE K2 5 1 2 10 3 = 0 ∧ traL K2 5 1 2 10 3 = K3 := ⟨by kernel_rfl, by kernel_rfl⟩
theorem k34 : marE 5 12 = 0 ∧ marX K3 5 12 = kv9 ∧ marL K3 5 12 false = K4 := ⟨by kernel_rfl, by kernel_rfl, by kernel_rfl⟩
theorem k4 : posH K4.hl 5 1 = ⟨5, 1, 3, 36⟩ ∧ fundsL K4 = 200 := ⟨by kernel_rfl, by kernel_rfl⟩
theorem fill_kv9 (z : Value) (h : z.cells.size = 2) : Instr.fill (fun i => some (i * 2, 2)) ((Array.range (2 * 2)).map (z.cells[· % z.cells.size]!)) [(0, .agg #[.int .u32 1, .int .i64 6]), (1, .agg #[.int .u32 2, .int .i64 (-6)])] = some (EV.flat kv9).toArray := by
  obtain ⟨a, b, hz⟩ := two9 h
  rw [hz]
  kernel_rfl
set_option maxRecDepth 100000 in
theorem wl_kv9 {ops : Array Oper} {rest : List Oper} {a : Act} {w : World} {Q : Exit → Act → World → Prop} {d : Option Nat} {x y : Operand} {ty : TypeId} {ps : String} {af : Array Edge} {gd : Option (Nat × Bool)}
    (hw : Region.wanted ⟨d, .buildSlice 42 2 #[(0, x), (1, y)], ty, ps, af, gd⟩ (yielded ops a.tmps) = true)
    (hx : a.eval x = .agg #[.int .u32 1, .int .i64 6]) (hy : a.eval y = .agg #[.int .u32 2, .int .i64 (-6)])
    (h : wpList Try.prog ops Q rest (a.put d (.slice (some ⟨w.heap.size, 0, none⟩) 2 2)) (w.alloc (.cells (EV.flat kv9).toArray 62))) :
    wpList Try.prog ops Q (⟨d, .buildSlice 42 2 #[(0, x), (1, y)], ty, ps, af, gd⟩ :: rest) a w := by
  obtain ⟨z0, by', hi, hzs, _⟩ := TV.info
  obtain ⟨ie, h1, h2, h3, _⟩ := info_parts hi
  refine BigFrame.wpList_want hw fun _ hK => wp_buildSlice 42 62 2 #[(0, x), (1, y)] rfl (EV.flat kv9).toArray ie z0 TV.und h1 h2 (by rw [h3]; decide) (by rw [h3]; decide) ?_ (hK _ _ h)
  rw [h3, show ((#[(0, x), (1, y)] : Array (Nat × Operand)).map fun (i, x) => (i, a.eval x)).toList = [(0, a.eval x), (1, a.eval y)] from by simp, hx, hy]
  exact fill_kv9 z0 hzs
set_option maxRecDepth 100000 in
theorem rd_kv9 (w : World) : EV.Rd (w.alloc (.cells (EV.flat kv9).toArray 62)) (some ⟨w.heap.size, 0, none⟩) 2 kv9 :=
  ⟨rfl, (fun h => by cases h), fun _ a e => by
    cases e
    refine ⟨rfl, fun j u hj => ?_⟩
    rw [Nat.zero_add, cell_of_row _ _ _ _ _ _ (heap_alloc_new w (.cells (EV.flat kv9).toArray 62))]
    rw [List.getElem?_toArray]; exact hj⟩
set_option maxRecDepth 100000 in
set_option maxHeartbeats 8000000 in
theorem known9_any (w : World) : Calls Try.prog 6 #[] w fun e w' => e = .returned (.bool true) ∧ Below w.heap.size w w' := by
  have NW := Lib.hid (lnew9 w)
  have okp : Po.ok ⟨5, 1, 3, 36⟩ := ⟨by decide, by decide, by decide, by decide⟩
  have D1 := Lib.hid fun (g ba bp : Nat) (W : World) (h : Dl W g ba bp K0) => (by have := ldep9 1 100 W h (by decide); rw [k01.1, k01.2] at this; exact this : Calls Try.prog _ _ W fun e w' => e = .returned (.int .i64 0) ∧ AfL W g ba bp K1 w')
  have D2 := Lib.hid fun (g ba bp : Nat) (W : World) (h : Dl W g ba bp K1) => (by have := ldep9 2 100 W h (by decide); rw [k12.1, k12.2] at this; exact this : Calls Try.prog _ _ W fun e w' => e = .returned (.int .i64 0) ∧ AfL W g ba bp K2 w')
  have D3 := Lib.hid fun (g ba bp : Nat) (W : World) (h : Dl W g ba bp K2) => (by have := ltra9 5 1 2 10 3 W h (by decide) (by decide) (by decide); rw [k23.1, k23.2] at this; exact this : Calls Try.prog _ _ W fun e w' => e = .returned (.int .i64 0) ∧ AfL W g ba bp K3 w')
  have D4 := Lib.hid fun (g ba bp : Nat) (W : World) (h : Dl W g ba bp K3) => (by have := lmark9 5 12 false W h (by decide); rw [k34.1, k34.2.1, k34.2.2] at this; exact this : Calls Try.prog _ _ W fun e w' => ∃ v, e = .returned (.tuple #[v, .int .i64 0]) ∧ EV.Own 62 w' W.heap.size v kv9 ∧ AfL W g ba bp K4 w')
  have P4 := Lib.hid fun (g ba bp : Nat) (W : World) (h : Dl W g ba bp K4) => (by have := lpos9 5 1 W h (by decide) (by decide); rw [k4.1] at this; exact this : Calls Try.prog _ _ W fun e w' => e = .returned (.agg (EP.cells ⟨5, 1, 3, 36⟩).toArray) ∧ Below W.heap.size W w')
  have F4 := Lib.hid fun (g ba bp : Nat) (W : World) (h : Dl W g ba bp K4) => (by have := lfunds9 W h; rw [k4.2] at this; exact this : Calls Try.prog _ _ W fun e w' => e = .returned (.int .i64 200) ∧ Below W.heap.size W w')
  have OKP := Lib.hid okp
  clear okp
  go_enter Try.func6, Try.ntmps6
  go_wp2_with fail
  refine NW.out.mono ?_; rintro e w1 ⟨g, ba, bp, rfl, h1, q1, nw⟩
  have H1 := Lib.hid h1
  have Q1 := Lib.hid q1
  have GW := Lib.hid nw
  clear h1 q1 nw
  go_wp2_with fail
  refine (D1.out g ba bp w1 H1.out).mono ?_; rintro e w2 ⟨rfl, h2, f2⟩
  have H2 := Lib.hid h2
  have F2 := Lib.hid f2
  clear h2 f2
  go_wp2_with fail
  refine (D2.out g ba bp w2 H2.out).mono ?_; rintro e w3 ⟨rfl, h3, f3⟩
  have H3 := Lib.hid h3
  have F3 := Lib.hid f3
  clear h3 f3
  go_wp2_with fail
  refine (D3.out g ba bp w3 H3.out).mono ?_; rintro e w4 ⟨rfl, h4, f4⟩
  have H4 := Lib.hid h4
  have F5 := Lib.hid f4
  clear h4 f4
  go_wp2_with fail
  refine (D4.out g ba bp w4 H4.out).mono ?_; rintro e w5 ⟨v, rfl, o5, h5, f5⟩
  obtain ⟨A, cp, rfl, _⟩ := gown_form o5
  have H5 := Lib.hid h5
  have F6 := Lib.hid f5
  have BW : Hid (Below w.heap.size w w5) := Lib.hid (by
    have f : Fr (LdS g ba bp) w1 w5 := ((F2.out.same F3.out).same F5.out).same F6.out
    exact ⟨(Q1.out.mono (Nat.zero_le _)).trans f.b0 |>.os, (Q1.out.mono (Nat.zero_le _)).trans f.b0 |>.tape, (Q1.out.mono (Nat.zero_le _)).trans f.b0 |>.output, Nat.le_trans Q1.out.size f.size, fun k hk => (f.at' k (Nat.lt_of_lt_of_le hk Q1.out.size) (fun c => by have := GW.out k c; omega)).trans (Q1.out.block k hk)⟩)
  have bn := below_new w5 (.cells (EV.flat kv9).toArray 62)
  have RA := Lib.hid (grd_below (gown_rd o5) bn (Nat.le_refl _))
  have RB := Lib.hid (rd_kv9 w5)
  have BN := Lib.hid bn
  have H6 := Lib.hid (H5.out.below bn)
  have okv : Hid (∀ t, t ∈ kv9 → t.ok) := Lib.hid (fun t ht => by
    rcases List.mem_cons.1 ht with rfl | ht
    · exact ⟨by decide, by decide⟩
    · rcases List.mem_cons.1 ht with rfl | ht
      · exact ⟨by decide, by decide⟩
      · cases ht)
  have l2 : kv9.length = 2 := rfl
  rw [l2] at RA
  rw [l2]
  clear o5 h5 f5 bn l2
  obtain ⟨w6, hw6⟩ : ∃ w6, w5.alloc (.cells (EV.flat kv9).toArray 62) = w6 := ⟨_, rfl⟩
  rw [hw6] at RA RB BN H6
  have HW6 := Lib.hid hw6
  have SV := Lib.hid (rsame9 A (some ⟨w5.heap.size, 0, none⟩) 2 cp 2 kv9 w6 RA.out RB.out okv.out (by decide))
  clear hw6
  go_wp2_with (first | ((with_reducible refine wl_kv9 ?_ ?_ ?_ ?_); rfl; rfl; rfl; rw [HW6.out]))
  refine SV.out.mono ?_; rintro e w7 ⟨rfl, f7⟩
  have B7 := Lib.hid f7.out
  have H7 := Lib.hid (H6.out.below f7.out)
  clear f7
  go_wp2_with fail
  refine (P4.out g ba bp w7 H7.out).mono ?_; rintro e w8 ⟨rfl, q8⟩
  have H8 := Lib.hid (H7.out.below q8)
  have Q8 := Lib.hid q8
  clear q8
  go_wp2_with (first | ((with_reducible refine wl_eql_po90 OKP.out ?_ ?_ ?_ ?_); rfl; rfl; rfl))
  refine (F4.out g ba bp w8 H8.out).mono ?_; rintro e w9 ⟨rfl, q9⟩
  have Q9 := Lib.hid q9
  clear q9
  go_wp2_with fail
  go_ret
  have b6 := BW.out.trans (BN.out.mono BW.out.size)
  have b7 := b6.trans (B7.out.mono b6.size)
  have b8 := b7.trans (Q8.out.mono b7.size)
  exact ⟨rfl, b8.trans (Q9.out.mono b8.size)⟩
end Go.Proofs.Ythnmpnepgagmmaa
