/- The program's sealed: what the sorted bids get; Clear. -/
import Derived.Test.YtcjianjnedbjkaaAj
namespace Go.Proofs.Ytcjianjnedbjkaa
open Go.RowKit Go.Shelf
set_option linter.unusedVariables false
set_option linter.unusedSimpArgs false

/-- Fills are structs of three cells. -/
def Fl.cells (t : Fl) : List Value := [.int .u64 t.nu, .int .u32 t.ac, .int .i64 t.qt]
def EF : Elt Fl := ⟨Fl.cells, 3, by decide, fun _ => rfl, fun x u hu => by
  simp only [Fl.cells, List.mem_cons, List.not_mem_nil, or_false] at hu
  rcases hu with rfl | rfl | rfl <;> rfl⟩
def zeroFl : Fl := ⟨0, 0, 0⟩
theorem TF : EltT Try.prog EF 24 36 := ⟨Try.underlying24, ⟨_, Try.underlying36⟩, ⟨.agg (EF.cells zeroFl).toArray, 24, by kernel_rfl, rfl, by decide⟩⟩
theorem three8 {α : Type} {l : Array α} (h : l.size = 3) : ∃ a b c, l = #[a, b, c] := by
  obtain ⟨l⟩ := l
  match l, h with
  | [a, b, c], _ => exact ⟨a, b, c, rfl⟩
theorem fill_fl (o : Fl) (z : Value) (h : z.cells.size = EF.N) : Instr.fill (fun i => some (i * EF.N, EF.N)) ((Array.range (1 * EF.N)).map (z.cells[· % z.cells.size]!)) [(0, .agg (EF.cells o).toArray)] = some (EF.cells o).toArray := by
  obtain ⟨a, b, c, hz⟩ := three8 (show z.cells.size = 3 from h)
  rw [hz]
  obtain ⟨nu, ac, qt⟩ := o
  kernel_rfl
theorem min_le8 {a b : Int} : minC a b ≤ a ∧ minC a b ≤ b := by unfold minC; split <;> omega
set_option maxRecDepth 100000 in
set_option maxHeartbeats 8000000 in
theorem fill_o8 (A : Option Addr) (n c : Nat) (s : List Or) (q : Int) (w : World) (h : EO.Rd w A n s) (hpos : ∀ x, x ∈ s → 0 < x.le ∧ x.le ≤ 1000000) (hn : n ≤ 1000) (hq : 0 ≤ q ∧ q ≤ 10000000) :
    Calls Try.prog 15 #[.int .i64 q, .slice A n c] w fun e w' => ∃ v, e = .returned (.tuple #[.int .i64 (fillP s q 0), v]) ∧ EF.Own 36 w' w.heap.size v (fillC s q) ∧ Below w.heap.size w w' := by
  have hz := zero_o8
  have HR := Lib.hid h
  have HK := Lib.hid hpos
  have HL := Lib.hid h.1
  obtain ⟨fp, hfp⟩ : ∃ fp, fillP s q 0 = fp := ⟨_, rfl⟩
  obtain ⟨fc, hfc⟩ : ∃ fc, fillC s q = fc := ⟨_, rfl⟩
  rw [hfp, hfc]
  have HFP := Lib.hid hfp
  have HFC := Lib.hid hfc
  obtain ⟨q1, q2⟩ := hq
  clear h hpos hfp hfc
  go_enter Try.func15, Try.ntmps15
  go_wp2_with fail
  go_step3
  go_wp2_with fail
  go_step3
  go_wp2_with fail
  go_loopw [0, 6, 7, 13] (fun vl vp v i wr => ∃ (k : Nat) (left p : Int) (fl : List Fl), k ≤ n ∧ i = .int .i64 k ∧ vl = .int .i64 left ∧ vp = .int .i64 p ∧ 0 ≤ left ∧ left ≤ 10000000 ∧ EF.Own 36 wr w.heap.size v fl ∧ Below w.heap.size w wr ∧ fl.length ≤ k ∧ fl ++ fillC (s.drop k) left = fc ∧ fillP (s.drop k) left p = fp) (fun _ _ _ i _ => n - (intOf i).toNat)
  case atStart => exact ⟨0, q, 0, [], Nat.zero_le _, rfl, rfl, rfl, q1, q2, gown_nil _ _, Below.refl _ _, Nat.le_refl _, by simpa using HFC.out, by simpa using HFP.out⟩
  case round =>
    obtain ⟨k, left, p, fl, hk, rfl, rfl, rfl, l1, l2, ho, hb, hfl, e1, e2⟩ := hrel
    have HO := Lib.hid ho
    have HB := Lib.hid hb
    have HFL := Lib.hid hfl
    have E1 := Lib.hid e1
    have E2 := Lib.hid e2
    clear ho hb hfl e1 e2 q1 q2
    obtain ⟨A1, n1, c1, rfl⟩ := gown_any HO.out
    by_cases hlt : k < n
    case neg =>
      obtain rfl : k = n := by omega
      have ed : s.drop k = [] := List.drop_of_length_le (by rw [HL.out]; exact Nat.le_refl _)
      have F1 : Hid (fl = fc) := Lib.hid (by rw [← E1.out, ed]; simp [fillC])
      have F2 : Hid (p = fp) := Lib.hid (by rw [← E2.out, ed]; rfl)
      clear ed
      go_wp2_with fail
      try rw [Exit.noGoto_ret]
      go_ret2
      exact ⟨_, by rw [F2.out]; rfl, by rw [← F1.out]; exact HO.out, HB.out⟩
    case pos =>
      have hdk : decide ((k : Int) < n) = true := decide_eq_true (by omega)
      have hki : (k : Int) < (n : Int) := by omega
      obtain ⟨x, hx⟩ : ∃ x, s[k]? = some x := ⟨s[k]'(by have := HL.out; omega), List.getElem?_eq_getElem _⟩
      obtain ⟨x1, x2⟩ := HK.out x (List.mem_of_getElem? hx)
      have ed : s.drop k = x :: s.drop (k + 1) := by rw [← List.getElem_cons_drop (i := k) (h := by have := HL.out; omega), (List.getElem?_eq_some_iff.1 hx).2]
      obtain ⟨b, o, rfl, rg⟩ := rng_o8 HR.out HB.out (Nat.le_refl _) hx
      have RG := Lib.hid rg
      have X1 := Lib.hid (gbx_new (E := EO) (te := 31) wr zeroOr)
      obtain ⟨W2, hW2⟩ : ∃ W2, (wr.alloc (.cells (EO.cells zeroOr).toArray 31)).setRow wr.heap.size (EO.cells x).toArray = W2 := ⟨_, rfl⟩
      have y2 : EO.Bx 31 W2 wr.heap.size x := by rw [← hW2]; exact gbx_set X1.out
      have B2 : Hid (Below wr.heap.size wr W2) := Lib.hid (by rw [← hW2]; exact below_row0 (below_new _ _) (Nat.le_refl _))
      have k0 : W2.cell? ⟨wr.heap.size, 0, none⟩ = some (.int .u64 x.nu) := gbx_cell y2 0
      have k1 : W2.cell? ⟨wr.heap.size, 1, none⟩ = some (.int .u32 x.ac) := gbx_cell y2 1
      have k3 : W2.cell? ⟨wr.heap.size, 3, none⟩ = some (.int .i64 x.pr) := gbx_cell y2 3
      have k4 : W2.cell? ⟨wr.heap.size, 4, none⟩ = some (.int .i64 x.le) := gbx_cell y2 4
      have HW2 := Lib.hid hW2
      have S2 := Lib.hid B2.out.size
      clear hx rg y2 hW2
      by_cases h0 : left = 0
      · subst h0
        have F1 : Hid (fl = fc) := Lib.hid (by rw [← E1.out, ed]; unfold fillC; simp)
        have F2 : Hid (p = fp) := Lib.hid (by rw [← E2.out, ed]; unfold fillP; simp)
        have HX := Lib.hid (⟨x1, x2⟩ : 0 < x.le ∧ x.le ≤ 1000000)
        clear ed x1 x2 l1 l2
        go_wp2_with (first | ((with_reducible refine gwl_load TO b (o + k * 5) RG.out ?_ ?_ ?_); rfl; rfl) | (refine gwl_store TO x wr.heap.size X1.out rfl rfl ?_; rw [HW2.out]))
        try rw [Exit.noGoto_ret]
        go_ret2
        exact ⟨_, by rw [F2.out]; rfl, by rw [← F1.out]; exact gown_below HO.out B2.out, HB.out.trans (B2.out.mono HB.out.size)⟩
      · have h0b : (left == 0) = false := by simpa using h0
        obtain ⟨m, hm⟩ : ∃ m, minC x.le left = m := ⟨_, rfl⟩
        have m1 : 0 < m ∧ m ≤ left ∧ m ≤ 1000000 := by rw [← hm]; unfold minC; split <;> omega
        obtain ⟨m1, m2, m3⟩ := m1
        have F1 : Hid ((fl ++ [⟨x.nu, x.ac, m⟩]) ++ fillC (s.drop (k + 1)) (left - m) = fc) := Lib.hid (by
          rw [← E1.out, ed]
          have : fillC (x :: s.drop (k + 1)) left = ⟨x.nu, x.ac, m⟩ :: fillC (s.drop (k + 1)) (left - m) := by
            rw [fillC, if_neg (by omega), hm]
          rw [this, List.append_assoc]; rfl)
        have F2 : Hid (fillP (s.drop (k + 1)) (left - m) x.pr = fp) := Lib.hid (by
          rw [← E2.out, ed]
          have : fillP (x :: s.drop (k + 1)) left p = fillP (s.drop (k + 1)) (left - m) x.pr := by
            rw [fillP, if_neg (by omega), hm]
          rw [this])
        obtain ⟨W3, hW3⟩ : ∃ W3, W2.alloc (.cells (EF.cells ⟨x.nu, x.ac, m⟩).toArray 36) = W3 := ⟨_, rfl⟩
        have RD : Hid (EF.Rd W3 (some ⟨W2.heap.size, 0, none⟩) 1 [⟨x.nu, x.ac, m⟩]) := Lib.hid (by rw [← hW3]; exact gbx_rd (gbx_new (E := EF) W2 _))
        have B3 : Hid (Below wr.heap.size wr W3) := Lib.hid (by rw [← hW3]; exact B2.out.alloc S2.out _)
        have O3 := Lib.hid (gown_below HO.out B3.out)
        have HW3 := Lib.hid hW3
        have wm : IntKind.i64.wrap (left - m) = left - m := by rw [IntKind.wrap_i64]; omega
        clear ed hW3
        have FIN : Hid (∀ v' w', EF.Own 36 w' w.heap.size v' (fl ++ [⟨x.nu, x.ac, m⟩]) → W3.grownBy w' (Value.slice A1 n1 c1).ownBlock → ∃ (k' : Nat) (left' p' : Int) (fl' : List Fl), k' ≤ n ∧ Value.int .i64 ((k : Int) + 1) = .int .i64 k' ∧ Value.int .i64 (left - m) = .int .i64 left' ∧ Value.int .i64 x.pr = .int .i64 p' ∧ 0 ≤ left' ∧ left' ≤ 10000000 ∧ EF.Own 36 w' w.heap.size v' fl' ∧ Below w.heap.size w w' ∧ fl'.length ≤ k' ∧ fl' ++ fillC (s.drop k') left' = fc ∧ fillP (s.drop k') left' p' = fp) := Lib.hid fun v' w' o1 g1 =>
          ⟨k + 1, left - m, x.pr, _, hlt, by go_num, rfl, rfl, by omega, by omega, o1, (HB.out.trans (B3.out.mono HB.out.size)).grown g1 (Nat.le_trans HB.out.size B3.out.size) (fun j hj => (gown_lt HO.out hj).1), by have := HFL.out; rw [List.length_append, List.length_singleton]; omega, F1.out, F2.out⟩
        by_cases hc : left < x.le
        · have e : m = left := by rw [← hm]; unfold minC; rw [if_pos hc]
          subst e
          have HC := Lib.hid hm
          clear hm h0
          go_wp2_with (first | ((with_reducible refine gwl_load TO b (o + k * 5) RG.out ?_ ?_ ?_); rfl; rfl) | (refine gwl_store TO x wr.heap.size X1.out rfl rfl ?_; rw [HW2.out]) | (refine gwl_bs TF (s := ⟨x.nu, x.ac, m⟩) rfl (fill_fl _) ?_ (by decide); rw [HW3.out]) | (at_builtin; refine gpl_app TF rfl (.tmp 32) (.tmp 39) rfl w.heap.size (.slice A1 n1 c1) fl rfl O3.out _ 1 1 [⟨x.nu, x.ac, m⟩] rfl RD.out (fun e => by cases e) (by have := HFL.out; omega) (Nat.le_trans HB.out.size B3.out.size) ?_; intro v' w' o1 o2 o3))
          go_roundw
          case rel =>
            have f := FIN.out _ _ o1 o2
            rw [Int.sub_self] at f
            exact f
          case measure => simp [intOf]; omega
        · have e : m = x.le := by rw [← hm]; unfold minC; rw [if_neg hc]
          subst e
          have HC := Lib.hid hm
          clear hm h0
          go_wp2_with (first | ((with_reducible refine gwl_load TO b (o + k * 5) RG.out ?_ ?_ ?_); rfl; rfl) | (refine gwl_store TO x wr.heap.size X1.out rfl rfl ?_; rw [HW2.out]) | (refine gwl_bs TF (s := ⟨x.nu, x.ac, x.le⟩) rfl (fill_fl _) ?_ (by decide); rw [HW3.out]) | (at_builtin; refine gpl_app TF rfl (.tmp 32) (.tmp 39) rfl w.heap.size (.slice A1 n1 c1) fl rfl O3.out _ 1 1 [⟨x.nu, x.ac, x.le⟩] rfl RD.out (fun e => by cases e) (by have := HFL.out; omega) (Nat.le_trans HB.out.size B3.out.size) ?_; intro v' w' o1 o2 o3))
          go_roundw
          case rel => exact FIN.out _ _ o1 o2
          case measure => simp [intOf]; omega
end Go.Proofs.Ytcjianjnedbjkaa
