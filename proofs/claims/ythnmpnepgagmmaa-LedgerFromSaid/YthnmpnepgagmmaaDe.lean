/- Contracts of the document's ledger: Position, Holders, Of (by genDe.py). -/
import Derived.Test.YthnmpnepgagmmaaDb
namespace Go.Proofs.Ythnmpnepgagmmaa
open Go.RowKit Go.Shelf
set_option linter.unusedVariables false
set_option linter.unusedSimpArgs false

theorem four9 {α : Type} {l : Array α} (h : l.size = 4) : ∃ a b c d, l = #[a, b, c, d] := by
  obtain ⟨l⟩ := l
  match l, h with
  | [a, b, c, d], _ => exact ⟨a, b, c, d, rfl⟩
theorem fill_ac (o : Ac) (z : Value) (h : z.cells.size = EA.N) : Instr.fill (fun i => some (i * EA.N, EA.N)) ((Array.range (1 * EA.N)).map (z.cells[· % z.cells.size]!)) [(0, .agg (EA.cells o).toArray)] = some (EA.cells o).toArray := by
  obtain ⟨a, b, c, d, hz⟩ := four9 (show z.cells.size = 4 from h)
  rw [hz]
  obtain ⟨nu, ca, ki, de⟩ := o
  kernel_rfl
theorem fill_po (o : Po) (z : Value) (h : z.cells.size = EP.N) : Instr.fill (fun i => some (i * EP.N, EP.N)) ((Array.range (1 * EP.N)).map (z.cells[· % z.cells.size]!)) [(0, .agg (EP.cells o).toArray)] = some (EP.cells o).toArray := by
  obtain ⟨a, b, c, d, hz⟩ := four9 (show z.cells.size = 4 from h)
  rw [hz]
  obtain ⟨co, ac, q, b⟩ := o
  kernel_rfl
theorem filt_snoc {α : Type} {l : List α} {k : Nat} {x : α} (p : α → Bool) (h : l[k]? = some x) : (l.take (k + 1)).filter p = (l.take k).filter p ++ (if p x = true then [x] else []) := by
  rw [List.take_add_one, h]
  simp [List.filter_append, List.filter_cons]
set_option maxRecDepth 100000 in
set_option maxHeartbeats 4000000 in
theorem rholders9 {B g : Nat} {va vh : Value} {L : Lg} (n : Int) (w : World) (h : Rl w B g va vh L) (hn : 0 ≤ n ∧ n ≤ 4294967295) (hl : L.hl.length ≤ 5000) :
    Calls Try.prog 40 #[.pointer (some ⟨g, 0, none⟩), .int .u32 n] w fun e w' => ∃ v', e = .returned v' ∧ EP.Own 47 w' w.heap.size v' (L.hl.filter fun x => x.co == n) ∧ Below w.heap.size w w' := by
  obtain ⟨A, c, rfl, _⟩ := gown_form h.oh
  obtain ⟨hs, hhs⟩ : ∃ hs, L.hl = hs := ⟨_, rfl⟩
  have k0 := h.c2
  have o0 := h.oh
  rw [hhs] at k0 o0 hl ⊢
  obtain ⟨m, hm⟩ : ∃ m, hs.length = m := ⟨_, rfl⟩
  rw [hm] at k0 o0 hl
  have HL := Lib.hid hm
  have K := Lib.hid fun (U : World) (q : Below w.heap.size w U) => (show U.cell? ⟨g, 2, none⟩ = some (.slice A m c) from cell_below k0 q (Nat.le_refl _))
  have HO := Lib.hid fun (U : World) (q : Below w.heap.size w U) => gown_below o0 q
  clear h hhs hm k0 o0
  go_enter Try.func40, Try.ntmps40
  go_wp2_with fail
  go_loopw [5, 6] (fun o i wr => ∃ (k : Nat) (fl : List Po), k ≤ m ∧ i = .int .i64 k ∧ EP.Own 47 wr w.heap.size o fl ∧ Below w.heap.size w wr ∧ fl = (hs.take k).filter (fun x => x.co == n) ∧ fl.length ≤ k) (fun _ i _ => m - (intOf i).toNat)
  case atStart => exact ⟨0, [], Nat.zero_le _, rfl, gown_nil _ _, Below.refl _ _, rfl, Nat.le_refl _⟩
  case round =>
    obtain ⟨k, fl, hk, rfl, hO, hB, hfl, hlen⟩ := hrel
    have OW := Lib.hid hO
    have HB := Lib.hid hB
    have HFL := Lib.hid hfl
    have HLN := Lib.hid hlen
    have kw := K.out _ hB
    obtain ⟨A1, n1, c1, rfl⟩ := gown_any hO
    clear hO hB hfl hlen
    by_cases hlt : k < m
    case neg =>
      obtain rfl : k = m := by omega
      have E : Hid (fl = hs.filter (fun x => x.co == n)) := Lib.hid (by rw [HFL.out, List.take_of_length_le (by rw [HL.out]; exact Nat.le_refl _)])
      go_wp2_with fail
      go_ret
      exact ⟨_, rfl, by rw [← E.out]; exact OW.out, HB.out⟩
    case pos =>
      have hd : decide ((k : Int) < m) = true := decide_eq_true (by omega)
      obtain ⟨x, hx⟩ : ∃ x, hs[k]? = some x := ⟨hs[k]'(by rw [HL.out]; exact hlt), List.getElem?_eq_getElem _⟩
      have HW := Lib.hid (HO.out _ HB.out)
      obtain ⟨b, c', eb⟩ := gown_slot HW.out (by have := HL.out; omega)
      injection eb with e1 _ e2
      subst e1 e2
      have hcap := gown_cap HW.out
      have hcell := gown_at HW.out hx (i := 0) (by decide)
      obtain ⟨b', o', e', rg⟩ := grd_rng (gown_rd HW.out) hx
      cases e'
      have e0 : (EP.cells x)[0]? = some (.int .u32 x.co) := rfl
      have eN : EP.N = 4 := rfl
      rw [eN] at rg
      rw [e0, eN, Nat.add_zero] at hcell
      rw [Nat.zero_add] at rg
      have RG := Lib.hid rg
      have SN := Lib.hid (filt_snoc (fun x : Po => x.co == n) hx)
      clear hx e0 eN rg
      by_cases he : x.co = n
      · have he1 : (x.co == n) = true := beq_iff_eq.2 he
        obtain ⟨W3, hW3⟩ : ∃ W3, wr.alloc (.cells (EP.cells x).toArray 47) = W3 := ⟨_, rfl⟩
        have RD : Hid (EP.Rd W3 (some ⟨wr.heap.size, 0, none⟩) 1 [x]) := Lib.hid (by rw [← hW3]; exact gbx_rd (gbx_new (E := EP) wr _))
        have B3 : Hid (Below wr.heap.size wr W3) := Lib.hid (by rw [← hW3]; exact below_new _ _)
        have O3 := Lib.hid (gown_below OW.out B3.out)
        have HW3 := Lib.hid hW3
        have E : Hid (fl ++ [x] = (hs.take (k + 1)).filter (fun x => x.co == n)) := Lib.hid (by rw [SN.out, ← HFL.out, if_pos he1])
        clear he hW3
        go_wp2_with (first | ((with_reducible refine gwl_load TP b (k * 4) RG.out ?_ ?_ ?_); rfl; rfl) | (refine gwl_bs TP (s := x) rfl (fill_po _) ?_ (by decide); rw [HW3.out]) | (at_builtin; refine gpl_app TP rfl (.tmp 26) (.tmp 34) rfl w.heap.size (.slice A1 n1 c1) fl rfl O3.out _ 1 1 [x] rfl RD.out (fun e => by cases e) (by have := HLN.out; omega) (Nat.le_trans HB.out.size B3.out.size) ?_; intro v' w' o1 o2 o3))
        go_roundw
        case rel => exact ⟨k + 1, _, hlt, by go_num, o1, (HB.out.trans (B3.out.mono HB.out.size)).grown o2 (Nat.le_trans HB.out.size B3.out.size) (fun j hj => (gown_lt OW.out hj).1), E.out, by have := HLN.out; rw [List.length_append, List.length_singleton]; omega⟩
        case measure => simp [intOf]; omega
      · have he1 : (x.co == n) = false := beq_eq_false_iff_ne.2 he
        have E : Hid (fl = (hs.take (k + 1)).filter (fun x => x.co == n)) := Lib.hid (by rw [SN.out, ← HFL.out, if_neg (by rw [he1]; decide), List.append_nil])
        clear he
        go_wp2_with fail
        go_roundw
        case rel => exact ⟨k + 1, _, hlt, by go_num, OW.out, HB.out, E.out, Nat.le_succ_of_le HLN.out⟩
        case measure => simp [intOf]; omega
set_option maxRecDepth 100000 in
set_option maxHeartbeats 4000000 in
theorem rof9 {B g : Nat} {va vh : Value} {L : Lg} (n : Int) (w : World) (h : Rl w B g va vh L) (hn : 0 ≤ n ∧ n ≤ 4294967295) (hl : L.hl.length ≤ 5000) :
    Calls Try.prog 44 #[.pointer (some ⟨g, 0, none⟩), .int .u32 n] w fun e w' => ∃ v', e = .returned v' ∧ EP.Own 47 w' w.heap.size v' (L.hl.filter fun x => x.ac == n) ∧ Below w.heap.size w w' := by
  obtain ⟨A, c, rfl, _⟩ := gown_form h.oh
  obtain ⟨hs, hhs⟩ : ∃ hs, L.hl = hs := ⟨_, rfl⟩
  have k0 := h.c2
  have o0 := h.oh
  rw [hhs] at k0 o0 hl ⊢
  obtain ⟨m, hm⟩ : ∃ m, hs.length = m := ⟨_, rfl⟩
  rw [hm] at k0 o0 hl
  have HL := Lib.hid hm
  have K := Lib.hid fun (U : World) (q : Below w.heap.size w U) => (show U.cell? ⟨g, 2, none⟩ = some (.slice A m c) from cell_below k0 q (Nat.le_refl _))
  have HO := Lib.hid fun (U : World) (q : Below w.heap.size w U) => gown_below o0 q
  clear h hhs hm k0 o0
  go_enter Try.func44, Try.ntmps44
  go_wp2_with fail
  go_loopw [5, 6] (fun o i wr => ∃ (k : Nat) (fl : List Po), k ≤ m ∧ i = .int .i64 k ∧ EP.Own 47 wr w.heap.size o fl ∧ Below w.heap.size w wr ∧ fl = (hs.take k).filter (fun x => x.ac == n) ∧ fl.length ≤ k) (fun _ i _ => m - (intOf i).toNat)
  case atStart => exact ⟨0, [], Nat.zero_le _, rfl, gown_nil _ _, Below.refl _ _, rfl, Nat.le_refl _⟩
  case round =>
    obtain ⟨k, fl, hk, rfl, hO, hB, hfl, hlen⟩ := hrel
    have OW := Lib.hid hO
    have HB := Lib.hid hB
    have HFL := Lib.hid hfl
    have HLN := Lib.hid hlen
    have kw := K.out _ hB
    obtain ⟨A1, n1, c1, rfl⟩ := gown_any hO
    clear hO hB hfl hlen
    by_cases hlt : k < m
    case neg =>
      obtain rfl : k = m := by omega
      have E : Hid (fl = hs.filter (fun x => x.ac == n)) := Lib.hid (by rw [HFL.out, List.take_of_length_le (by rw [HL.out]; exact Nat.le_refl _)])
      go_wp2_with fail
      go_ret
      exact ⟨_, rfl, by rw [← E.out]; exact OW.out, HB.out⟩
    case pos =>
      have hd : decide ((k : Int) < m) = true := decide_eq_true (by omega)
      obtain ⟨x, hx⟩ : ∃ x, hs[k]? = some x := ⟨hs[k]'(by rw [HL.out]; exact hlt), List.getElem?_eq_getElem _⟩
      have HW := Lib.hid (HO.out _ HB.out)
      obtain ⟨b, c', eb⟩ := gown_slot HW.out (by have := HL.out; omega)
      injection eb with e1 _ e2
      subst e1 e2
      have hcap := gown_cap HW.out
      have hcell := gown_at HW.out hx (i := 1) (by decide)
      obtain ⟨b', o', e', rg⟩ := grd_rng (gown_rd HW.out) hx
      cases e'
      have e0 : (EP.cells x)[1]? = some (.int .u32 x.ac) := rfl
      have eN : EP.N = 4 := rfl
      rw [eN] at rg
      rw [e0, eN] at hcell
      rw [Nat.zero_add] at rg
      have RG := Lib.hid rg
      have SN := Lib.hid (filt_snoc (fun x : Po => x.ac == n) hx)
      clear hx e0 eN rg
      by_cases he : x.ac = n
      · have he1 : (x.ac == n) = true := beq_iff_eq.2 he
        obtain ⟨W3, hW3⟩ : ∃ W3, wr.alloc (.cells (EP.cells x).toArray 47) = W3 := ⟨_, rfl⟩
        have RD : Hid (EP.Rd W3 (some ⟨wr.heap.size, 0, none⟩) 1 [x]) := Lib.hid (by rw [← hW3]; exact gbx_rd (gbx_new (E := EP) wr _))
        have B3 : Hid (Below wr.heap.size wr W3) := Lib.hid (by rw [← hW3]; exact below_new _ _)
        have O3 := Lib.hid (gown_below OW.out B3.out)
        have HW3 := Lib.hid hW3
        have E : Hid (fl ++ [x] = (hs.take (k + 1)).filter (fun x => x.ac == n)) := Lib.hid (by rw [SN.out, ← HFL.out, if_pos he1])
        clear he hW3
        go_wp2_with (first | ((with_reducible refine gwl_load TP b (k * 4) RG.out ?_ ?_ ?_); rfl; rfl) | (refine gwl_bs TP (s := x) rfl (fill_po _) ?_ (by decide); rw [HW3.out]) | (at_builtin; refine gpl_app TP rfl (.tmp 26) (.tmp 34) rfl w.heap.size (.slice A1 n1 c1) fl rfl O3.out _ 1 1 [x] rfl RD.out (fun e => by cases e) (by have := HLN.out; omega) (Nat.le_trans HB.out.size B3.out.size) ?_; intro v' w' o1 o2 o3))
        go_roundw
        case rel => exact ⟨k + 1, _, hlt, by go_num, o1, (HB.out.trans (B3.out.mono HB.out.size)).grown o2 (Nat.le_trans HB.out.size B3.out.size) (fun j hj => (gown_lt OW.out hj).1), E.out, by have := HLN.out; rw [List.length_append, List.length_singleton]; omega⟩
        case measure => simp [intOf]; omega
      · have he1 : (x.ac == n) = false := beq_eq_false_iff_ne.2 he
        have E : Hid (fl = (hs.take (k + 1)).filter (fun x => x.ac == n)) := Lib.hid (by rw [SN.out, ← HFL.out, if_neg (by rw [he1]; decide), List.append_nil])
        clear he
        go_wp2_with fail
        go_roundw
        case rel => exact ⟨k + 1, _, hlt, by go_num, OW.out, HB.out, E.out, Nat.le_succ_of_le HLN.out⟩
        case measure => simp [intOf]; omega
end Go.Proofs.Ythnmpnepgagmmaa
