/- The library's search, clone, insert, delete at a struct (by genLib.py). -/
import Derived.Test.YtpnccbcaoifdiaaJb
import Derived.Test.YtpnccbcaoifdiaaUa
namespace Go.Proofs.Ytpnccbcaoifdiaa
open Go.RowKit Go.Shelf
set_option linter.unusedVariables false
set_option linter.unusedSimpArgs false


theorem zero_sz_so : (Value.agg (ESt.cells zeroSt).toArray).cells.size = 6 := by kernel_rfl
set_option maxRecDepth 100000 in
set_option maxHeartbeats 4000000 in
theorem ins_shift_so (b n c i vb : Nat) (l : List St) (x : St) (w : World) (ho : w.ownsRow 0 66 6 (.slice (some ⟨b, 0, none⟩) n c) n (ESt.flat l)) (hl : l.length = n) (hn : n ≤ 1000) (hi : i < n) (hc : n + 1 ≤ c) (hx : ESt.Bx 66 w vb x) (hvb : vb ≠ b) :
    Calls Try.prog 33 #[.slice (some ⟨b, 0, none⟩) n c, .int .i64 i, .slice (some ⟨vb, 0, none⟩) 1 1] w fun e w' => e = .returned (.slice (some ⟨b, 0, none⟩) (n + 1) c) ∧ w'.ownsRow 0 66 6 (.slice (some ⟨b, 0, none⟩) (n + 1) c) (n + 1) (ESt.flat (l.take i ++ x :: l.drop i)) ∧ Fr (fun k => k = b) w w' := by
  obtain ⟨cur, hh, hnc, hcm, hsz, htk⟩ : ∃ cur, w.heap[b]? = some (.cells cur 66 (0, 0)) ∧ n ≤ c ∧ c ≤ maxLen ∧ cur.size = c * 6 ∧ cur.toList.take (n * 6) = ESt.flat l := by
    obtain ⟨b', c', cur, e, _, r⟩ := ho.2.resolve_left (fun c => by cases c.1)
    cases e
    exact ⟨cur, r⟩
  have hz2 : ¬ ((i : Int) = (n : Int)) := by omega
  have hc2 : ¬ ((c : Int) < (n : Int) + 1) := by omega
  have hx0 : w.heap[vb]? = some (.cells (ESt.cells x).toArray 66 (0, 0)) := hx
  have hcx := cl_len_so x
  have hcs : (ESt.cells x).toArray.size = 6 := by simp [hcx]
  have hov : ∀ lb cb, (callFunc 49 #[.slice (some ⟨vb, 0, none⟩) 1 1, .slice (some ⟨b, (i + 1) * 6, none⟩) lb cb]).run Try.prog w = .ok (.value (.bool false)) w := fun lb cb => by
    rw [run_callFunc_extern Try.func49 (by kernel_rfl) (by kernel_rfl) (by kernel_rfl) (e := Extern.SlicesOverlaps.overlaps #[49, 49] #[4]) (by kernel_rfl),
      Lib.run_overlaps_apart w 49 4 66 TSt.und 6 (fun w => by kernel_rfl) ⟨vb, 0, none⟩ ⟨b, (i + 1) * 6, none⟩ 1 1 lb cb hvb 66 66 (ESt.cells x).toArray.size cur.size (by simp [World.shape?, hx0]) (by simp [World.shape?, hh]) (by omega) (by simp [World.frozen?, hx0]) (by simp [World.frozen?, hx0])]
    rfl
  have hcl : ∀ j u, (ESt.flat l)[j]? = some u → w.cell? ⟨b, j, none⟩ = some u := fun j u hj => by
    have hj' := (List.getElem?_eq_some_iff.1 hj).1
    rw [fl_len_so, hl] at hj'
    rw [cell_of_row _ _ _ _ _ _ hh, ← Array.getElem?_toList, ← hj, ← htk, List.getElem?_take, if_pos hj']
  have hd1 : (ESt.flat (l.drop i)).length = (n - i) * 6 := by rw [fl_len_so, List.length_drop, hl]
  have hsrc : ∀ j u, (ESt.flat (l.drop i))[j]? = some u → w.drew.cell? ((⟨b, i * 6, none⟩ : Addr).add j) = some u := fun j u hj => by
    rw [Addr.add_mid]
    rw [← gflat_drop, List.getElem?_drop] at hj
    exact hcl _ _ hj
  obtain ⟨cur1, hcur1⟩ : ∃ c1, c1 = (splice cur.toList ((i + 1) * 6) (ESt.flat (l.drop i))).toArray := ⟨_, rfl⟩
  have hcp1 : ∀ ty dc sc, (Builtin.copy_ #[49, 49] ty #[.slice (some ⟨b, (i + 1) * 6, none⟩) (n - i) dc, .slice (some ⟨b, i * 6, none⟩) (n + 1 - i) sc]).run Try.prog w.drew = .ok (goInt (n - i : Nat)) (w.drew.setRow b cur1) := fun ty dc sc => by
    rw [hcur1]
    exact grun_copy TSt w.drew ty b ((i + 1) * 6) (n - i) dc ⟨b, i * 6, none⟩ (n + 1 - i) sc (n - i) cur (ESt.flat (l.drop i)) hh (by simp only [Nat.min_def]; split <;> omega) hd1 hsrc (by rw [hd1, hsz]; omega) (gflat_cells _)
  have hs1 : cur1.size = c * 6 := by rw [hcur1, List.size_toArray, length_splice _ _ _ (by rw [hd1, Array.length_toList, hsz]; omega), Array.length_toList, hsz]
  obtain ⟨W1, hW1⟩ : ∃ W1, W1 = w.drew.setRow b cur1 := ⟨_, rfl⟩
  have hh1 : W1.heap[b]? = some (.cells cur1 66 (0, 0)) := by rw [hW1]; exact setRow_heap w.drew b cur cur1 _ _ hh
  have RI : (splice (splice cur.toList ((i + 1) * 6) (ESt.flat (l.drop i))) (i * 6) (ESt.cells x)).take ((n + 1) * 6) = ESt.flat (l.take i ++ x :: l.drop i) ∧ (splice (splice cur.toList ((i + 1) * 6) (ESt.flat (l.drop i))) (i * 6) (ESt.cells x)).length = cur.toList.length :=
    grow_ins (E := ESt) (L := cur.toList) (l := l) (x := x) (i := i) (n := n) hl (Nat.le_of_lt hi) (by
      have := congrArg (List.take (i * 6)) htk
      rw [List.take_take, Nat.min_eq_left (by omega)] at this
      exact this.trans (gflat_take (E := ESt) l i)) (by rw [Array.length_toList, hsz]; exact Nat.mul_le_mul_right 6 hc)
  have hx1 : ESt.Bx 66 W1 vb x := by
    show W1.heap[vb]? = _
    rw [hW1]; exact (setRow_other w.drew b vb cur1 hvb).trans hx
  obtain ⟨cur2, hcur2⟩ : ∃ c2, c2 = (splice cur1.toList (i * 6) (ESt.cells x)).toArray := ⟨_, rfl⟩
  have hcp2 : ∀ (W : World), W = W1 → ∀ ty dc, (Builtin.copy_ #[49, 49] ty #[.slice (some ⟨b, i * 6, none⟩) (n + 1 - i) dc, .slice (some ⟨vb, 0, none⟩) 1 1]).run Try.prog W = .ok (goInt (1 : Nat)) (W1.setRow b cur2) := fun W hW ty dc => by
    rw [hW, hcur2]
    exact grun_copy TSt W1 ty b (i * 6) (n + 1 - i) dc ⟨vb, 0, none⟩ 1 1 1 cur1 (ESt.cells x) hh1 (by simp only [Nat.min_def]; split <;> omega) (by rw [hcx]; rfl) (fun j u hj => by
      rw [Addr.add_mid]; exact gbx_rng hx1 j u hj) (by rw [hs1, hcx]; omega) (ESt.one x)
  have FIN : Hid ((W1.setRow b cur2).ownsRow 0 66 6 (.slice (some ⟨b, 0, none⟩) (n + 1) c) (n + 1) (ESt.flat (l.take i ++ x :: l.drop i)) ∧ Fr (fun k => k = b) w (W1.setRow b cur2)) := by
    have hb := (Array.getElem?_eq_some_iff.1 hh).1
    refine Lib.hid ⟨⟨?_, .inr ⟨b, c, cur2, rfl, Nat.zero_le _, setRow_heap W1 b cur1 cur2 _ _ hh1, hc, hcm, ?_, ?_⟩⟩, ?_⟩
    · rw [fl_len_so, gins_len hl (Nat.le_of_lt hi)]
    · rw [hcur2, hcur1, List.size_toArray, ← hsz, RI.2, Array.length_toList]
    · rw [hcur2, hcur1]
      exact RI.1
    · rw [hW1]
      refine ⟨⟨rfl, rfl, rfl, ?_, fun k hk => absurd hk (Nat.not_lt_zero k)⟩, fun k hk hn => ?_⟩
      · show w.heap.size ≤ _
        simp only [World.setRow, Array.size_modify]
        exact Nat.le_refl _
      · exact (setRow_other _ b k cur2 hn).trans (setRow_other w.drew b k cur1 hn)
  have hmx : c ≤ 9223372036854775807 := hcm
  clear ho hh htk hcl hsrc RI hh1 hx1 hcur1 hcur2 hd1 hx hx0 hcx hcs
  rw [← hW1] at hcp1
  clear hW1
  have mixed : Try.prog.follows .mixedOrders = true := by kernel_rfl
  have hw1 : IntKind.i64.wrap ((i : Int) + 1) = (i : Int) + 1 := by rw [IntKind.wrap_i64]; omega
  have hb1 : (0 : Int) ≤ (i : Int) + 1 := by omega
  have hin : i ≤ n := by omega
  have htn : ((i : Int) + 1).toNat = i + 1 := by omega
  have hb2 : ¬ (c = i + 1) := by omega
  have hb3 : (i : Int) ≤ (n : Int) + 1 := by omega
  have hb4 : ¬ (c = i) := by omega
  go_enter Try.func33, Try.ntmps33
  go_wp2_with (simp only [hov])
  go_region_law_o (refine gstep_copy rfl _ _ 49 49 rfl _ _ (by simp [Act.eval, Act.put]) (by simp [Act.eval, Act.put]) (hcp1 _ _ _) ?_)
  go_wp2_with (at_builtin; refine gwl_copy _ rfl _ _ 49 49 rfl _ _ rfl rfl (hcp2 _ rfl _ _) ?_)
  go_ret
  exact ⟨rfl, FIN.out.1, FIN.out.2⟩
set_option maxRecDepth 100000 in
set_option maxHeartbeats 4000000 in
theorem ins_grow_so (b n c i vb : Nat) (l : List St) (x : St) (w : World) (ho : w.ownsRow 0 66 6 (.slice (some ⟨b, 0, none⟩) n c) n (ESt.flat l)) (hl : l.length = n) (hn : n ≤ 1000) (hi : i < n) (hroom : c < n + 1) (hx : ESt.Bx 66 w vb x) :
    Calls Try.prog 33 #[.slice (some ⟨b, 0, none⟩) n c, .int .i64 i, .slice (some ⟨vb, 0, none⟩) 1 1] w fun e w' => ∃ G, e = .returned (.slice (some ⟨w.heap.size, 0, none⟩) (n + 1) G) ∧ w'.ownsRow 0 66 6 (.slice (some ⟨w.heap.size, 0, none⟩) (n + 1) G) (n + 1) (ESt.flat (l.take i ++ x :: l.drop i)) ∧ Fr (fun _ => False) w w' := by
  obtain ⟨cur, hh, hnc, hcm, hsz, htk⟩ : ∃ cur, w.heap[b]? = some (.cells cur 66 (0, 0)) ∧ n ≤ c ∧ c ≤ maxLen ∧ cur.size = c * 6 ∧ cur.toList.take (n * 6) = ESt.flat l := by
    obtain ⟨b', c', cur, e, _, r⟩ := ho.2.resolve_left (fun c => by cases c.1)
    cases e
    exact ⟨cur, r⟩
  obtain ⟨z0, by', hiz, _, hbyle⟩ := TSt.info
  have hz9 : z0 = .agg (ESt.cells zeroSt).toArray := by
    have e : (Try.prog.info? 66).map (fun i => i.zero) = some (some (.agg (ESt.cells zeroSt).toArray)) := by kernel_rfl
    obtain ⟨i9, h9, hz9, _, _⟩ := info_parts hiz
    rw [h9] at e
    simp at e
    rw [hz9] at e
    injection e
  subst hz9
  have hiz : (Try.prog.info? 66).map (fun i => (i.zero, i.size, i.bytes)) = some (some (.agg (ESt.cells zeroSt).toArray), 6, by') := hiz
  obtain ⟨i0, hi0, hz0, hz1, hzb⟩ := info_parts hiz
  have hz2 : ¬ ((i : Int) = (n : Int)) := by omega
  have hz3 : (c : Int) < (n : Int) + 1 := by omega
  have hbw : b < w.heap.size := (Array.getElem?_eq_some_iff.1 hh).1
  have hx0 : w.heap[vb]? = some (.cells (ESt.cells x).toArray 66 (0, 0)) := hx
  have hcx := cl_len_so x
  have hvw : vb < w.heap.size := (Array.getElem?_eq_some_iff.1 hx0).1
  have hcl : ∀ j u, (ESt.flat l)[j]? = some u → w.cell? ⟨b, j, none⟩ = some u := fun j u hj => by
    have hj' := (List.getElem?_eq_some_iff.1 hj).1
    rw [fl_len_so, hl] at hj'
    rw [cell_of_row _ _ _ _ _ _ hh, ← Array.getElem?_toList, ← hj, ← htk, List.getElem?_take, if_pos hj']
  have hd1 : (ESt.flat (l.drop i)).length = (n - i) * 6 := by rw [fl_len_so, List.length_drop, hl]
  have ht1 : (ESt.flat (l.take i)).length = i * 6 := by rw [fl_len_so, List.length_take, hl, Nat.min_eq_left (Nat.le_of_lt hi)]
  have hdr : ∀ j u, (ESt.flat (l.drop i))[j]? = some u → w.cell? ⟨b, i * 6 + j, none⟩ = some u := fun j u hj => by
    rw [← gflat_drop, List.getElem?_drop] at hj
    exact hcl _ _ hj
  have hta : ∀ j u, (ESt.flat (l.take i))[j]? = some u → w.drew.cell? ((⟨b, 0, none⟩ : Addr).add j) = some u := fun j u hj => by
    rw [Addr.add_mid, Nat.zero_add]
    refine hcl _ _ ?_
    rw [← gflat_take, List.getElem?_take] at hj
    split at hj
    · exact hj
    · cases hj
  have hkk : (n : Int) + 1 - (i : Int) = ((n + 1 - i : Nat) : Int) := by omega
  have hik : i + (n + 1 - i) = n + 1 := by omega
  have hold : (Builtin.firstCells i0.size i (.slice (some ⟨b, 0, none⟩) i c)).run Try.prog w.drew = .ok (ESt.flat (l.take i)).toArray w.drew := by
    rw [hz1]
    exact run_firstCells_some (w := w.drew) 6 i ⟨b, 0, none⟩ i c (ESt.flat (l.take i)) ht1 hta
  obtain ⟨G, hG⟩ : ∃ G, G = grownCap w (n + 1) c 66 := ⟨_, rfl⟩
  obtain ⟨ROW, hROW⟩ : ∃ ROW : Array Value, ROW = (ESt.flat (l.take i)).toArray ++ Builtin.zeroCells (Value.agg (ESt.cells zeroSt).toArray).cells (n + 1 - i) ++ Builtin.zeroCells (Value.agg (ESt.cells zeroSt).toArray).cells (G - (n + 1)) := ⟨_, rfl⟩
  have hb96 : (n + 1) * by' ≤ 100001 * 4096 := Nat.mul_le_mul (by omega) hbyle
  have hb97 : (n + 1 - i) * by' ≤ 100001 * 4096 := Nat.mul_le_mul (by omega) hbyle
  have hrz : ∀ ty, (Builtin.append_ #[49, 3] ty #[.slice (some ⟨b, 0, none⟩) i c, .int .i64 ((n : Int) + 1 - (i : Int))]).run Try.prog w =
      .ok (.slice (some ⟨w.heap.size, 0, none⟩) (n + 1) G) (w.drew.alloc (.cells ROW 66)) := fun ty => by
    have h := Lib.run_append_grow_zeros w 49 3 ty 66 i0 _ .i64 .i64 TSt.und Try.underlying3 hi0 hz0 (some ⟨b, 0, none⟩) i c (ESt.flat (l.take i)) hold (n + 1 - i) (by omega) (by rw [hz1]; omega) (by omega) (by omega) (by rw [hzb]; omega) (by rw [hzb, hik]; exact growslice_fits hroom (by omega))
    rw [hik, ← hG] at h
    rw [← hROW] at h
    rw [hkk]
    exact h
  have hGn : n + 1 ≤ G := by rw [hG]; exact grownCap_ge w _ _ _
  have hGm : G ≤ maxLen := by rw [hG]; exact grownCap_le_maxLen w (n + 1) c 66 (by unfold maxLen; omega)
  have hRs : ROW.size = G * 6 := by
    rw [hROW, Array.size_append, Array.size_append, size_zeroCells, size_zeroCells, zero_sz_so, List.size_toArray, ht1]
    omega
  have hRt : ROW.toList.take (i * 6) = ESt.flat (l.take i) := by
    rw [hROW, Array.toList_append, Array.toList_append, List.append_assoc, List.take_append_of_le_length (by rw [ht1]; exact Nat.le_refl _)]
    exact List.take_of_length_le (by rw [ht1]; exact Nat.le_refl _)
  have RI : (splice (splice ROW.toList (i * 6) (ESt.cells x)) ((i + 1) * 6) (ESt.flat (l.drop i))).take ((n + 1) * 6) = ESt.flat (l.take i ++ x :: l.drop i) ∧ (splice (splice ROW.toList (i * 6) (ESt.cells x)) ((i + 1) * 6) (ESt.flat (l.drop i))).length = ROW.toList.length :=
    grow_ins2 (E := ESt) (L := ROW.toList) (l := l) (x := x) (i := i) (n := n) hl (Nat.le_of_lt hi) hRt (by rw [Array.length_toList, hRs]; exact Nat.mul_le_mul_right 6 hGn)
  obtain ⟨W1, hW1⟩ : ∃ W1, W1 = w.drew.alloc (.cells ROW 66) := ⟨_, rfl⟩
  have hh1 : W1.heap[w.heap.size]? = some (.cells ROW 66 (0, 0)) := by rw [hW1]; exact heap_alloc_new w.drew _
  have hxA : ESt.Bx 66 W1 vb x := by
    show W1.heap[vb]? = _
    rw [hW1]; exact ((below_new w.drew _).block vb hvw).trans hx0
  obtain ⟨curA, hcurA⟩ : ∃ c1, c1 = (splice ROW.toList (i * 6) (ESt.cells x)).toArray := ⟨_, rfl⟩
  have hcpA : ∀ (W : World), W = W1 → ∀ ty dc, (Builtin.copy_ #[49, 49] ty #[.slice (some ⟨w.heap.size, i * 6, none⟩) (n + 1 - i) dc, .slice (some ⟨vb, 0, none⟩) 1 1]).run Try.prog W = .ok (goInt (1 : Nat)) (W1.setRow w.heap.size curA) := fun W hW ty dc => by
    rw [hW, hcurA]
    exact grun_copy TSt W1 ty w.heap.size (i * 6) (n + 1 - i) dc ⟨vb, 0, none⟩ 1 1 1 ROW (ESt.cells x) hh1 (by simp only [Nat.min_def]; split <;> omega) (by rw [hcx]; rfl) (fun j u hj => by
      rw [Addr.add_mid]; exact gbx_rng hxA j u hj) (by rw [hRs, hcx]; omega) (ESt.one x)
  have hsA : curA.size = G * 6 := by rw [hcurA, List.size_toArray, length_splice _ _ _ (by have e : ROW.toList.length = ROW.size := Array.length_toList; omega), Array.length_toList, hRs]
  obtain ⟨W2, hW2⟩ : ∃ W2, W2 = W1.setRow w.heap.size curA := ⟨_, rfl⟩
  rw [← hW2] at hcpA
  have hh2 : W2.heap[w.heap.size]? = some (.cells curA 66 (0, 0)) := by rw [hW2]; exact setRow_heap W1 _ _ _ _ _ hh1
  obtain ⟨curB, hcurB⟩ : ∃ c1, c1 = (splice curA.toList ((i + 1) * 6) (ESt.flat (l.drop i))).toArray := ⟨_, rfl⟩
  have hcpB : ∀ ty dc sc, (Builtin.copy_ #[49, 49] ty #[.slice (some ⟨w.heap.size, (i + 1) * 6, none⟩) (n - i) dc, .slice (some ⟨b, i * 6, none⟩) (n - i) sc]).run Try.prog W2.drew = .ok (goInt (n - i : Nat)) (W2.drew.setRow w.heap.size curB) := fun ty dc sc => by
    rw [hcurB]
    exact grun_copy TSt W2.drew ty w.heap.size ((i + 1) * 6) (n - i) dc ⟨b, i * 6, none⟩ (n - i) sc (n - i) curA (ESt.flat (l.drop i)) hh2 (by simp only [Nat.min_def]; split <;> omega) hd1 (fun j u hj => by
      rw [Addr.add_mid]
      have h0 := hdr j u hj
      have hne : b ≠ w.heap.size := by omega
      have e : W2.heap[b]? = w.heap[b]? := by rw [hW2, hW1]; exact (setRow_other _ _ b curA hne).trans ((below_new w.drew _).block b hbw)
      show W2.cell? _ = _
      unfold World.cell? at h0 ⊢
      rw [e]
      exact h0) (by rw [hd1, hsA]; omega) (gflat_cells _)
  have FIN : Hid ((W2.drew.setRow w.heap.size curB).ownsRow 0 66 6 (.slice (some ⟨w.heap.size, 0, none⟩) (n + 1) G) (n + 1) (ESt.flat (l.take i ++ x :: l.drop i)) ∧ Fr (fun _ => False) w (W2.drew.setRow w.heap.size curB)) := by
    refine Lib.hid ⟨⟨?_, .inr ⟨_, G, curB, rfl, Nat.zero_le _, setRow_heap W2.drew _ curA curB _ _ hh2, hGn, hGm, ?_, ?_⟩⟩, ?_⟩
    · rw [fl_len_so, gins_len hl (Nat.le_of_lt hi)]
    · rw [hcurB, hcurA, List.size_toArray, RI.2, Array.length_toList, hRs]
    · rw [hcurB, hcurA]
      exact RI.1
    · refine Fr.below ?_
      have b1 : Below w.heap.size w W1 := by rw [hW1]; exact (Below.refl w.heap.size w).drew.alloc (Nat.le_refl _) _
      have b2 : Below w.heap.size w W2 := by rw [hW2]; exact below_row0 b1 (Nat.le_refl _)
      exact below_row0 b2.drew (Nat.le_refl _)
  have hGmx : G ≤ 9223372036854775807 := hGm
  have hcmx : c ≤ 9223372036854775807 := hcm
  clear ho hh htk hcl RI hh1 hh2 hxA hcurA hcurB hd1 ht1 hdr hta hold hRs hRt hsA hG hROW hx hx0 hcx hb96 hb97
  have hE1 : (w.alloc (.cells ROW 66)).drew = W1 := by rw [hW1]; rfl
  have mixed : Try.prog.follows .mixedOrders = true := by kernel_rfl
  have hw1 : IntKind.i64.wrap ((i : Int) + 1) = (i : Int) + 1 := by rw [IntKind.wrap_i64]; omega
  have hb1 : (0 : Int) ≤ (i : Int) + 1 := by omega
  have hin : i ≤ n := by omega
  have htn : ((i : Int) + 1).toNat = i + 1 := by omega
  have hb3 : (i : Int) ≤ (n : Int) := by omega
  have hb4 : ¬ (c = i) := by omega
  have hGi : ¬ (G = i) := by omega
  have hGim : ¬ (G = i + 1) := by omega
  clear hkk hik
  rw [← hW1] at hrz
  have HE := Lib.hid hE1
  have HV := Lib.hid hW1
  have HU := Lib.hid hW2
  clear hE1 hW1 hW2
  go_enter Try.func33, Try.ntmps33
  go_wp2_with (first
    | (at_builtin; refine Lib.wpList_append_run _ rfl _ _ _ _ rfl _ _ rfl rfl _ _ (hrz _) ?_)
    | (at_builtin; refine gwl_copy _ rfl _ _ 49 49 rfl _ _ rfl rfl (hcpA _ rfl _ _) ?_))
  go_region_law_o (refine gstep_copy rfl _ _ 49 49 rfl _ _ (by simp [Act.eval, Act.put]) (by simp [Act.eval, Act.put]) (hcpB _ _ _) ?_)
  go_wp2_with fail
  go_ret
  exact ⟨G, rfl, FIN.out.1, FIN.out.2⟩
set_option maxRecDepth 100000 in
set_option maxHeartbeats 2000000 in
theorem ins_end_so (v : Value) (n vb : Nat) (l : List St) (x : St) (w : World) (ho : ESt.Own 66 w 0 v l) (hl : l.length = n) (hn : n ≤ 1000) (hx : ESt.Bx 66 w vb x) :
    Calls Try.prog 33 #[v, .int .i64 n, .slice (some ⟨vb, 0, none⟩) 1 1] w fun e w' => ∃ v', e = .returned v' ∧ ESt.Own 66 w' 0 v' (l ++ [x]) ∧ Fr (fun k => v.ownBlock = some k) w w' ∧ (v'.ownBlock = v.ownBlock ∨ v'.ownBlock = some w.heap.size) := by
  have RX := Lib.hid (gbx_rd hx)
  have HO := Lib.hid ho
  have hcl : l.length + 1 ≤ 100000 := by omega
  rcases ho.2 with ⟨rfl, hn0⟩ | ⟨b, c, cur, rfl, _, _, hnc, hcm, _⟩
  · have hn1 : n = 0 := by rw [← hl]; exact hn0
    clear hl hcl hn0
    subst hn1
    have hcl : l.length + 1 ≤ 100000 := by rcases HO.out.2 with ⟨_, q⟩ | ⟨_, _, _, q, _⟩ <;> first | omega | cases q
    clear ho hx
    go_enter Try.func33, Try.ntmps33
    go_wp2_with (at_builtin; refine gpl_app TSt rfl _ _ rfl 0 _ l rfl HO.out (some ⟨vb, 0, none⟩) 1 1 [x] rfl RX.out (fun e => by cases e) hcl (Nat.zero_le _) ?_; intro v' w' h1 h2 h3)
    go_ret
    exact ⟨v', rfl, h1, Fr.grown h2 (fun k e => e), h3⟩
  · rw [hl] at hnc HO
    have hmx : c ≤ 9223372036854775807 := hcm
    by_cases hcn : c = n
    · subst hcn
      clear ho hx
      rw [hl]
      go_enter Try.func33, Try.ntmps33
      go_wp2_with (at_builtin; refine gpl_app TSt rfl _ _ rfl 0 _ l rfl HO.out (some ⟨vb, 0, none⟩) 1 1 [x] rfl RX.out (fun e => by cases e) hcl (Nat.zero_le _) ?_; intro v' w' h1 h2 h3)
      go_ret
      exact ⟨v', rfl, h1, Fr.grown h2 (fun k e => e), h3⟩
    · clear ho hx
      rw [hl]
      go_enter Try.func33, Try.ntmps33
      go_wp2_with (at_builtin; refine gpl_app TSt rfl _ _ rfl 0 _ l rfl HO.out (some ⟨vb, 0, none⟩) 1 1 [x] rfl RX.out (fun e => by cases e) hcl (Nat.zero_le _) ?_; intro v' w' h1 h2 h3)
      go_ret
      exact ⟨v', rfl, h1, Fr.grown h2 (fun k e => e), h3⟩
/-- Insert, in whatever way. -/
theorem insert_so (v : Value) (n i vb : Nat) (l : List St) (x : St) (w : World) (ho : ESt.Own 66 w 0 v l) (hl : l.length = n) (hn : n ≤ 1000) (hi : i ≤ n) (hx : ESt.Bx 66 w vb x) (hvb : v.ownBlock ≠ some vb) :
    Calls Try.prog 33 #[v, .int .i64 i, .slice (some ⟨vb, 0, none⟩) 1 1] w fun e w' => ∃ v', e = .returned v' ∧ ESt.Own 66 w' 0 v' (l.take i ++ x :: l.drop i) ∧ Fr (fun k => v.ownBlock = some k) w w' ∧ (v'.ownBlock = v.ownBlock ∨ v'.ownBlock = some w.heap.size) := by
  have el := gins_len (x := x) hl hi
  rcases Nat.lt_or_ge i n with c | c
  · obtain ⟨b, cap, rfl⟩ := gown_slot ho (by omega)
    have ho1 : w.ownsRow 0 66 6 (.slice (some ⟨b, 0, none⟩) l.length cap) l.length (ESt.flat l) := ho
    rw [hl] at ho1 ⊢
    rcases Nat.lt_or_ge cap (n + 1) with q | q
    · refine (ins_grow_so b n cap i vb l x w ho1 hl hn c q hx).mono ?_
      rintro e w' ⟨G, rfl, h1, h2⟩
      exact ⟨_, rfl, (by unfold Elt.Own; rw [el]; exact h1), h2.mono fun _ h => h.elim, .inr rfl⟩
    · refine (ins_shift_so b n cap i vb l x w ho1 hl hn c q hx (fun e => hvb (by rw [e]; rfl))).mono ?_
      rintro e w' ⟨rfl, h1, h2⟩
      exact ⟨_, rfl, (by unfold Elt.Own; rw [el]; exact h1), h2.mono fun k h => by rw [h]; rfl, .inl rfl⟩
  · obtain rfl : i = n := by omega
    refine (ins_end_so v i vb l x w ho hl hn hx).mono ?_
    rintro e w' ⟨v', rfl, h1, h2, h3⟩
    refine ⟨v', rfl, ?_, h2, h3⟩
    rw [List.take_of_length_le (by omega), List.drop_of_length_le (by omega)]
    exact h1
end Go.Proofs.Ytpnccbcaoifdiaa
