/- The library's search, clone, insert, delete at a struct (by genLib.py). -/
import Derived.Test.YtpnccbcaoifdiaaJb
import Derived.Test.YtpnccbcaoifdiaaUa
namespace Go.Proofs.Ytpnccbcaoifdiaa
open Go.RowKit Go.Shelf
set_option linter.unusedVariables false
set_option linter.unusedSimpArgs false


set_option maxRecDepth 100000 in
set_option maxHeartbeats 4000000 in
theorem del_in_so (b n c i j : Nat) (l : List St) (w : World) (ho : w.ownsRow 0 66 6 (.slice (some ⟨b, 0, none⟩) n c) n (ESt.flat l)) (hl : l.length = n) (hn : n ≤ 1000) (hij : j = i + 1) (hj : j ≤ n) :
    Calls Try.prog 37 #[.slice (some ⟨b, 0, none⟩) n c, .int .i64 i, .int .i64 j] w fun e w' => e = .returned (.slice (some ⟨b, 0, none⟩) (i + (n - j)) c) ∧ w'.ownsRow 0 66 6 (.slice (some ⟨b, 0, none⟩) (i + (n - j)) c) (i + (n - j)) (ESt.flat (l.eraseIdx i)) ∧ Fr (fun k => k = b) w w' := by
  obtain ⟨cur, hh, hnc, hcm, hsz, htk⟩ : ∃ cur, w.heap[b]? = some (.cells cur 66 (0, 0)) ∧ n ≤ c ∧ c ≤ maxLen ∧ cur.size = c * 6 ∧ cur.toList.take (n * 6) = ESt.flat l := by
    obtain ⟨b', c', cur, e, _, r⟩ := ho.2.resolve_left (fun c => by cases c.1)
    cases e
    exact ⟨cur, r⟩
  have hcl : ∀ j u, (ESt.flat l)[j]? = some u → w.cell? ⟨b, j, none⟩ = some u := fun j u hj => by
    have hj' := (List.getElem?_eq_some_iff.1 hj).1
    rw [fl_len_so, hl] at hj'
    rw [cell_of_row _ _ _ _ _ _ hh, ← Array.getElem?_toList, ← hj, ← htk, List.getElem?_take, if_pos hj']
  have hd1 : (ESt.flat (l.drop j)).length = (n - j) * 6 := by rw [fl_len_so, List.length_drop, hl]
  obtain ⟨A, hA, hsrc⟩ : ∃ A : Addr, (if c = j then some (⟨b, 0, none⟩ : Addr) else some ⟨b, j * 6, none⟩) = some A ∧ Hid (∀ t u, (ESt.flat (l.drop j))[t]? = some u → w.drew.cell? (A.add t) = some u) := by
    by_cases h : c = j
    · refine ⟨⟨b, 0, none⟩, by simp [h], Lib.hid fun t u hu => ?_⟩
      have h0 : (ESt.flat (l.drop j)).length = 0 := by rw [hd1, show n - j = 0 by omega, Nat.zero_mul]
      rw [List.length_eq_zero_iff.1 h0] at hu
      simp at hu
    · refine ⟨⟨b, j * 6, none⟩, by simp [h], Lib.hid fun t u hu => ?_⟩
      rw [Addr.add_mid]
      rw [← gflat_drop, List.getElem?_drop] at hu
      exact hcl _ _ hu
  have hin : i + (n - j) < n := by omega
  obtain ⟨m, hm⟩ : ∃ m, i + (n - j) = m := ⟨_, rfl⟩
  have hnm : n = m + 1 := by omega
  obtain ⟨cur1, hcur1⟩ : ∃ c1, c1 = (splice cur.toList (i * 6) (ESt.flat (l.drop j))).toArray := ⟨_, rfl⟩
  obtain ⟨W1, hW1⟩ : ∃ W1, W1 = w.drew.setRow b cur1 := ⟨_, rfl⟩
  have hap : ∀ ty dc, (Builtin.append_ #[49, 49] ty #[.slice (some ⟨b, 0, none⟩) i c, .slice (some A) (n - j) dc]).run Try.prog w.drew = .ok (.slice (some ⟨b, 0, none⟩) (i + (n - j)) c) W1 := fun ty dc => by
    rw [hW1, hcur1]
    exact grun_room TSt w.drew ty b i c cur hh A (n - j) dc (ESt.flat (l.drop j)) hd1 hsrc.out (gflat_cells _) (by omega) (by rw [hd1, hsz]; show i * 6 + (n - j) * 6 ≤ c * 6; omega)
  have hs1 : cur1.size = c * 6 := by rw [hcur1, List.size_toArray, length_splice _ _ _ (by rw [hd1, Array.length_toList, hsz]; omega), Array.length_toList, hsz]
  have hh1 : W1.heap[b]? = some (.cells cur1 66 (0, 0)) := by rw [hW1]; exact setRow_heap w.drew b cur cur1 _ _ hh
  have zv : ∀ w, (zeroValue 66).run Try.prog w = .ok (.agg (ESt.cells zeroSt).toArray) w := fun w => by kernel_rfl
  have hzl : ((Builtin.zeroCells (Value.agg (ESt.cells zeroSt).toArray).cells (n - m)).toList).length = 6 := by
    rw [Array.length_toList, size_zeroCells, show n - m = 1 by omega, Nat.one_mul]; kernel_rfl
  obtain ⟨cur2, hcur2⟩ : ∃ c2, c2 = (splice cur1.toList (m * 6) (Builtin.zeroCells (Value.agg (ESt.cells zeroSt).toArray).cells (n - m)).toList).toArray := ⟨_, rfl⟩
  have hclr : ∀ ty, (Builtin.clear_ #[49] ty #[.slice (some ⟨b, (i + (n - j)) * 6, none⟩) (n - (i + (n - j))) (c - (i + (n - j)))]).run Try.prog W1 = .ok (.tuple #[]) (W1.setRow b cur2) := fun ty => by
    rw [hm, hcur2]
    exact grun_clear TSt W1 ty zv (by kernel_rfl) (fun u hu => ESt.one zeroSt u (by simpa [Value.cells] using hu)) b (m * 6) (n - m) (c - m) cur1 hh1 (by omega) (by rw [hs1]; show m * 6 + (n - m) * 6 ≤ c * 6; omega)
  have RI : (splice (splice cur.toList (i * 6) (ESt.flat (l.drop (i + 1)))) (m * 6) (Builtin.zeroCells (Value.agg (ESt.cells zeroSt).toArray).cells (n - m)).toList).take (m * 6) = ESt.flat (l.eraseIdx i) ∧ (splice (splice cur.toList (i * 6) (ESt.flat (l.drop (i + 1)))) (m * 6) (Builtin.zeroCells (Value.agg (ESt.cells zeroSt).toArray).cells (n - m)).toList).length = cur.toList.length :=
    grow_del (E := ESt) (L := cur.toList) (l := l) (i := i) (n := m) (hl.trans hnm) (by omega) (by rw [← hnm]; exact htk) (by rw [← hnm, Array.length_toList, hsz]; exact Nat.mul_le_mul_right 6 hnc) hzl
  have FIN : Hid ((W1.setRow b cur2).ownsRow 0 66 6 (.slice (some ⟨b, 0, none⟩) (i + (n - j)) c) (i + (n - j)) (ESt.flat (l.eraseIdx i)) ∧ Fr (fun k => k = b) w (W1.setRow b cur2)) := by
    refine Lib.hid ⟨⟨?_, .inr ⟨b, c, cur2, rfl, Nat.zero_le _, setRow_heap W1 b cur1 cur2 _ _ hh1, by omega, hcm, ?_, ?_⟩⟩, ?_⟩
    · rw [fl_len_so, List.length_eraseIdx, if_pos (by omega)]; congr 1; omega
    · rw [hcur2, hcur1, hij, List.size_toArray, ← hsz, RI.2, Array.length_toList]
    · rw [hcur2, hcur1, hij, ← hij, hm, hij]
      exact RI.1
    · rw [hW1]
      refine ⟨⟨rfl, rfl, rfl, ?_, fun k hk => absurd hk (Nat.not_lt_zero k)⟩, fun k hk hn => ?_⟩
      · show w.heap.size ≤ _
        simp only [World.setRow, Array.size_modify]
        exact Nat.le_refl _
      · exact (setRow_other _ b k cur2 hn).trans (setRow_other w.drew b k cur1 hn)
  have hmx : c ≤ 9223372036854775807 := hcm
  have hne : ¬ ((i : Int) = (j : Int)) := by omega
  have hic : i ≤ c := by omega
  have hjc : j ≤ c := by omega
  have hijn : i ≤ j := by omega
  have HA := hA
  clear ho hh htk hcl hsrc RI hh1 hcur1 hcur2 hd1 hW1 hs1 hzl hm hnm hij hsz
  have mixed : Try.prog.follows .mixedOrders = true := by kernel_rfl
  go_enter Try.func37, Try.ntmps37
  go_wp2_with fail
  go_region_law_o (refine gstep_append rfl (.tmp 22) (.tmp 25) 49 49 rfl (.slice (some ⟨b, 0, none⟩) i c) (.slice (some A) (n - j) (c - j)) (by simp [Act.eval, Act.put]) (by simp [Act.eval, Act.put]) (hap 49 (c - j)) ?_)
  go_wp2_with (at_builtin; refine gwl_clear _ rfl _ 49 rfl _ rfl (hclr _) ?_)
  go_ret
  exact ⟨rfl, FIN.out.1, FIN.out.2⟩
/-- Delete, of one. -/
theorem delete_so (b n c i : Nat) (l : List St) (w : World) (ho : ESt.Own 66 w 0 (.slice (some ⟨b, 0, none⟩) n c) l) (hl : l.length = n) (hn : n ≤ 1000) (hi : i < n) (j : Nat) (hj : j = i + 1) :
    Calls Try.prog 37 #[.slice (some ⟨b, 0, none⟩) n c, .int .i64 i, .int .i64 j] w fun e w' => e = .returned (.slice (some ⟨b, 0, none⟩) (n - 1) c) ∧ ESt.Own 66 w' 0 (.slice (some ⟨b, 0, none⟩) (n - 1) c) (l.eraseIdx i) ∧ Fr (fun k => k = b) w w' := by
  have ho1 : w.ownsRow 0 66 6 (.slice (some ⟨b, 0, none⟩) n c) l.length (ESt.flat l) := ho
  rw [hl] at ho1
  have e : i + (n - j) = n - 1 := by omega
  have el : (l.eraseIdx i).length = n - 1 := by rw [List.length_eraseIdx, if_pos (by omega), hl]
  refine (del_in_so b n c i j l w ho1 hl hn hj (by omega)).mono ?_
  rintro e0 w' ⟨rfl, h1, h2⟩
  rw [e] at h1 ⊢
  exact ⟨rfl, by unfold Elt.Own; rw [el]; exact h1, h2⟩
end Go.Proofs.Ytpnccbcaoifdiaa
