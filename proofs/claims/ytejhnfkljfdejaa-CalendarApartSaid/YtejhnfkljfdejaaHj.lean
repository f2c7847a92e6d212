/- The library's slices.Insert of one contract: the other ways. -/
import Derived.Test.YtejhnfkljfdejaaHi
import Derived.Test.YtejhnfkljfdejaaKl
namespace Go.Proofs.Ytejhnfkljfdejaa
open Go.RowKit Go.Shelf
set_option linter.unusedVariables false
set_option linter.unusedSimpArgs false

theorem row_ins2 {L : List Value} {cs : List Ct} {x : Ct} {i n : Nat} (hl : cs.length = n) (hi : i ≤ n) (hs : ∀ y, y ∈ cs → y.sp.sh.length = 16) (hx : x.sp.sh.length = 16) (hL : L.take (i * 27) = flat (cs.take i)) (hZ : (n + 1) * 27 ≤ L.length) :
    (splice (splice L (i * 27) x.cellL) ((i + 1) * 27) (flat (cs.drop i))).take ((n + 1) * 27) = flat (cs.take i ++ x :: cs.drop i) ∧ (splice (splice L (i * 27) x.cellL) ((i + 1) * 27) (flat (cs.drop i))).length = L.length := by
  have h1 : (flat (cs.drop i)).length = (n - i) * 27 := by rw [flat_len _ (fun y hy => hs y (List.mem_of_mem_drop hy)), List.length_drop, hl]
  have h2 := Ct.lenL hx
  have h3 : (flat (cs.take i)).length = i * 27 := by rw [flat_len _ (fun y hy => hs y (List.mem_of_mem_take hy)), List.length_take, hl, Nat.min_eq_left hi]
  have l1 : (splice L (i * 27) x.cellL).length = L.length := length_splice _ _ _ (by rw [h2]; omega)
  refine ⟨?_, by rw [length_splice _ _ _ (by rw [l1, h1]; omega), l1]⟩
  have e1 : (splice L (i * 27) x.cellL).take ((i + 1) * 27) = flat (cs.take i) ++ x.cellL := by
    rw [splice, hL, ← List.append_assoc, List.take_append_of_le_length (by rw [List.length_append, h2, h3]; omega)]
    exact List.take_of_length_le (by rw [List.length_append, h2, h3]; omega)
  have e4 : flat (cs.take i ++ x :: cs.drop i) = flat (cs.take i) ++ (x.cellL ++ flat (cs.drop i)) := by simp [flat]
  have e5 : splice (splice L (i * 27) x.cellL) ((i + 1) * 27) (flat (cs.drop i)) = (splice L (i * 27) x.cellL).take ((i + 1) * 27) ++ (flat (cs.drop i) ++ (splice L (i * 27) x.cellL).drop ((i + 1) * 27 + (flat (cs.drop i)).length)) := rfl
  rw [e5, e1, e4, ← List.append_assoc, ← List.append_assoc (flat (cs.take i)), List.take_append_of_le_length (by rw [List.length_append, List.length_append, h1, h2, h3]; omega)]
  exact List.take_of_length_le (by rw [List.length_append, List.length_append, h1, h2, h3]; omega)
theorem ins_all {cs : List Ct} {x : Ct} {i : Nat} (hs : ∀ y, y ∈ cs → y.sp.sh.length = 16) (hx : x.sp.sh.length = 16) : ∀ y, y ∈ cs.take i ++ x :: cs.drop i → y.sp.sh.length = 16 := by
  intro y hy
  rcases List.mem_append.1 hy with q | q
  · exact hs y (List.mem_of_mem_take q)
  rcases List.mem_cons.1 q with rfl | q
  · exact hx
  · exact hs y (List.mem_of_mem_drop q)
theorem ins_len {cs : List Ct} {x : Ct} {i n : Nat} (hl : cs.length = n) (hi : i ≤ n) : (cs.take i ++ x :: cs.drop i).length = n + 1 := by
  rw [List.length_append, List.length_cons, List.length_take, List.length_drop, hl, Nat.min_eq_left hi]; omega
theorem zct_size : (Value.agg zeroCt.cells).cells.size = 27 := by kernel_rfl
set_option maxRecDepth 100000 in
set_option maxHeartbeats 4000000 in
theorem ins_grow (b n c i vb : Nat) (cs : List Ct) (x : Ct) (w : World) (ho : w.ownsRow 0 45 27 (.slice (some ⟨b, 0, none⟩) n c) n (flat cs)) (hl : cs.length = n) (hn : n ≤ 16) (hi : i < n) (hroom : c < n + 1) (hs : ∀ y, y ∈ cs → y.sp.sh.length = 16) (hx : Cb w vb x) :
    Calls Try.prog 34 #[.slice (some ⟨b, 0, none⟩) n c, .int .i64 i, .slice (some ⟨vb, 0, none⟩) 1 1] w fun e w' => ∃ G, e = .returned (.slice (some ⟨w.heap.size, 0, none⟩) (n + 1) G) ∧ w'.ownsRow 0 45 27 (.slice (some ⟨w.heap.size, 0, none⟩) (n + 1) G) (n + 1) (flat (cs.take i ++ x :: cs.drop i)) ∧ Fr (fun _ => False) w w' := by
  obtain ⟨cur, hh, hnc, hcm, hsz, htk⟩ : ∃ cur, w.heap[b]? = some (.cells cur 45 (0, 0)) ∧ n ≤ c ∧ c ≤ maxLen ∧ cur.size = c * 27 ∧ cur.toList.take (n * 27) = flat cs := by
    obtain ⟨b', c', cur, e, _, r⟩ := ho.2.resolve_left (fun c => by cases c.1)
    cases e
    exact ⟨cur, r⟩
  obtain ⟨i0, hi0, hz0, hz1, hzb⟩ := info_parts info_ctz
  have hz2 : ¬ ((i : Int) = (n : Int)) := by omega
  have hz3 : (c : Int) < (n : Int) + 1 := by omega
  have hbw : b < w.heap.size := (Array.getElem?_eq_some_iff.1 hh).1
  have hvw : vb < w.heap.size := (Array.getElem?_eq_some_iff.1 hx.1).1
  have hcl : ∀ j u, (flat cs)[j]? = some u → w.cell? ⟨b, j, none⟩ = some u := fun j u hj => by
    have hj' := (List.getElem?_eq_some_iff.1 hj).1
    rw [flat_len cs hs, hl] at hj'
    rw [cell_of_row _ _ _ _ _ _ hh, ← Array.getElem?_toList, ← hj, ← htk, List.getElem?_take, if_pos hj']
  have hd1 : (flat (cs.drop i)).length = (n - i) * 27 := by rw [flat_len _ (fun y hy => hs y (List.mem_of_mem_drop hy)), List.length_drop, hl]
  have ht1 : (flat (cs.take i)).length = i * 27 := by rw [flat_len _ (fun y hy => hs y (List.mem_of_mem_take hy)), List.length_take, hl, Nat.min_eq_left (Nat.le_of_lt hi)]
  have hdr : ∀ j u, (flat (cs.drop i))[j]? = some u → w.cell? ⟨b, i * 27 + j, none⟩ = some u := fun j u hj => by
    have hj' := (List.getElem?_eq_some_iff.1 hj).1
    have := flat_part (cs := cs) (i := i) (j := n) (q := j) (by omega) (by omega) hs (by omega)
    rw [List.take_of_length_le (by omega)] at this
    exact hcl _ _ (by rw [← this, hj])
  have hta : ∀ j u, (flat (cs.take i))[j]? = some u → w.drew.cell? ((⟨b, 0, none⟩ : Addr).add j) = some u := fun j u hj => by
    have hj' := (List.getElem?_eq_some_iff.1 hj).1
    rw [Addr.add_mid, Nat.zero_add]
    refine hcl _ _ ?_
    have e : flat cs = flat (cs.take i) ++ flat (cs.drop i) := by rw [← flat_app, List.take_append_drop]
    rw [e, List.getElem?_append_left hj', hj]
  have hkk : (n : Int) + 1 - (i : Int) = ((n + 1 - i : Nat) : Int) := by omega
  have hik : i + (n + 1 - i) = n + 1 := by omega
  have hold : (Builtin.firstCells i0.size i (.slice (some ⟨b, 0, none⟩) i c)).run Try.prog w.drew = .ok (flat (cs.take i)).toArray w.drew := by
    rw [hz1]
    exact run_firstCells_some (w := w.drew) 27 i ⟨b, 0, none⟩ i c (flat (cs.take i)) ht1 hta
  obtain ⟨G, hG⟩ : ∃ G, G = grownCap w (n + 1) c 45 := ⟨_, rfl⟩
  obtain ⟨ROW, hROW⟩ : ∃ ROW : Array Value, ROW = (flat (cs.take i)).toArray ++ Builtin.zeroCells (Value.agg zeroCt.cells).cells (n + 1 - i) ++ Builtin.zeroCells (Value.agg zeroCt.cells).cells (G - (n + 1)) := ⟨_, rfl⟩
  have hrz : ∀ ty, (Builtin.append_ #[27, 3] ty #[.slice (some ⟨b, 0, none⟩) i c, .int .i64 ((n : Int) + 1 - (i : Int))]).run Try.prog w =
      .ok (.slice (some ⟨w.heap.size, 0, none⟩) (n + 1) G) (w.drew.alloc (.cells ROW 45)) := fun ty => by
    have h := Lib.run_append_grow_zeros w 27 3 ty 45 i0 _ .i64 .i64 Try.underlying27 Try.underlying3 hi0 hz0 (some ⟨b, 0, none⟩) i c (flat (cs.take i)) hold (n + 1 - i) (by omega) (by omega) (by omega) (by omega) (by rw [hzb]; omega) (by rw [hzb, hik]; exact growslice_fits hroom (by omega))
    rw [hik, ← hG] at h
    rw [← hROW] at h
    rw [hkk]
    exact h
  have hGn : n + 1 ≤ G := by rw [hG]; exact grownCap_ge w _ _ _
  have hGm : G ≤ maxLen := by rw [hG]; exact grownCap_le_maxLen w (n + 1) c 45 (by unfold maxLen; omega)
  have hRs : ROW.size = G * 27 := by
    rw [hROW, Array.size_append, Array.size_append, size_zeroCells, size_zeroCells, zct_size, List.size_toArray, ht1]
    omega
  have hRt : ROW.toList.take (i * 27) = flat (cs.take i) := by
    rw [hROW, Array.toList_append, Array.toList_append, List.append_assoc, List.take_append_of_le_length (by rw [ht1]; exact Nat.le_refl _)]
    exact List.take_of_length_le (by rw [ht1]; exact Nat.le_refl _)
  have RI := row_ins2 (x := x) hl (Nat.le_of_lt hi) hs hx.2 hRt (by rw [Array.length_toList, hRs]; omega)
  obtain ⟨W1, hW1⟩ : ∃ W1, W1 = w.drew.alloc (.cells ROW 45) := ⟨_, rfl⟩
  have hh1 : W1.heap[w.heap.size]? = some (.cells ROW 45 (0, 0)) := by rw [hW1]; exact heap_alloc_new w.drew _
  have h1x : ∀ v ∈ x.cellL, v.oneCell' = true := by
    have := x.one
    simp only [Ct.cells, List.all_toArray, List.all_eq_true] at this
    exact this
  have hxA : Cb W1 vb x := ⟨by rw [hW1]; exact ((below_new w.drew _).block vb hvw).trans hx.1, hx.2⟩
  obtain ⟨curA, hcurA⟩ : ∃ c1, c1 = (splice ROW.toList (i * 27) x.cellL).toArray := ⟨_, rfl⟩
  have hcpA : ∀ (W : World), W = W1 → ∀ ty dc, (Builtin.copy_ #[27, 27] ty #[.slice (some ⟨w.heap.size, i * 27, none⟩) (n + 1 - i) dc, .slice (some ⟨vb, 0, none⟩) 1 1]).run Try.prog W = .ok (goInt (1 : Nat)) (W1.setRow w.heap.size curA) := fun W hW ty dc => by
    rw [hW]
    have h := run_copy27 W1 ty w.heap.size (i * 27) (n + 1 - i) dc ⟨vb, 0, none⟩ 1 1 1 ROW x.cellL hh1 (by simp only [Nat.min_def]; split <;> omega) (by rw [Ct.lenL hx.2]) (fun j u hj => by
      rw [Addr.add_mid]; exact rng_row hxA j u hj) (by rw [hRs, Ct.lenL hx.2]; omega) h1x
    rw [h, hcurA, splice, List.append_assoc]
  have hsA : curA.size = G * 27 := by rw [hcurA, List.size_toArray, length_splice _ _ _ (by have := Ct.lenL hx.2; have e : ROW.toList.length = ROW.size := Array.length_toList; omega), Array.length_toList, hRs]
  obtain ⟨W2, hW2⟩ : ∃ W2, W2 = W1.setRow w.heap.size curA := ⟨_, rfl⟩
  rw [← hW2] at hcpA
  have hh2 : W2.heap[w.heap.size]? = some (.cells curA 45 (0, 0)) := by rw [hW2]; exact setRow_heap W1 _ _ _ _ _ hh1
  obtain ⟨curB, hcurB⟩ : ∃ c1, c1 = (splice curA.toList ((i + 1) * 27) (flat (cs.drop i))).toArray := ⟨_, rfl⟩
  have hcpB : ∀ ty dc sc, (Builtin.copy_ #[27, 27] ty #[.slice (some ⟨w.heap.size, (i + 1) * 27, none⟩) (n - i) dc, .slice (some ⟨b, i * 27, none⟩) (n - i) sc]).run Try.prog W2.drew = .ok (goInt (n - i : Nat)) (W2.drew.setRow w.heap.size curB) := fun ty dc sc => by
    have h := run_copy27 W2.drew ty w.heap.size ((i + 1) * 27) (n - i) dc ⟨b, i * 27, none⟩ (n - i) sc (n - i) curA (flat (cs.drop i)) hh2 (by simp only [Nat.min_def]; split <;> omega) hd1 (fun j u hj => by
      rw [Addr.add_mid]
      have h0 := hdr j u hj
      have hne : b ≠ w.heap.size := by omega
      have e : W2.heap[b]? = w.heap[b]? := by rw [hW2, hW1]; exact (setRow_other _ _ b curA hne).trans ((below_new w.drew _).block b hbw)
      show W2.cell? _ = _
      unfold World.cell? at h0 ⊢
      rw [e]
      exact h0) (by rw [hd1, hsA]; omega) (one_ct _)
    rw [h, hcurB, splice, List.append_assoc]
  have FIN : Hid ((W2.drew.setRow w.heap.size curB).ownsRow 0 45 27 (.slice (some ⟨w.heap.size, 0, none⟩) (n + 1) G) (n + 1) (flat (cs.take i ++ x :: cs.drop i)) ∧ Fr (fun _ => False) w (W2.drew.setRow w.heap.size curB)) := by
    refine Lib.hid ⟨⟨?_, .inr ⟨_, G, curB, rfl, Nat.zero_le _, setRow_heap W2.drew _ curA curB _ _ hh2, hGn, hGm, ?_, ?_⟩⟩, ?_⟩
    · rw [flat_len _ (ins_all hs hx.2), ins_len hl (Nat.le_of_lt hi)]
    · rw [hcurB, hcurA, List.size_toArray, RI.2, Array.length_toList, hRs]
    · rw [hcurB, hcurA]
      exact RI.1
    · refine Fr.below ?_
      have b1 : Below w.heap.size w W1 := by rw [hW1]; exact (Below.refl w.heap.size w).drew.alloc (Nat.le_refl _) _
      have b2 : Below w.heap.size w W2 := by rw [hW2]; exact below_setRow b1 (Nat.le_refl _) _
      exact below_setRow b2.drew (Nat.le_refl _) _
  have hGmx : G ≤ 9223372036854775807 := hGm
  have hcmx : c ≤ 9223372036854775807 := hcm
  clear ho hh htk hcl RI hh1 hh2 hxA hs hcurA hcurB hd1 ht1 hdr hta hold hRs hRt hsA h1x hG hROW
  have hE1 : (w.alloc (.cells ROW 45)).drew = W1 := by rw [hW1]; rfl
  have mixed : Try.prog.follows .mixedOrders = true := by kernel_rfl
  have hw1 : IntKind.i64.wrap ((i : Int) + 1) = (i : Int) + 1 := by rw [IntKind.wrap_i64]; omega
  have hb1 : (0 : Int) ≤ (i : Int) + 1 := by omega
  have hin : i ≤ n := by omega
  have htn : ((i : Int) + 1).toNat = i + 1 := by omega
  have hb3 : (i : Int) ≤ (n : Int) := by omega
  have hb4 : ¬ (c = i) := by omega
  have hGi : ¬ (G = i) := by omega
  have hGim : ¬ (G = i + 1) := by omega
  clear hkk hik
  rw [← hW1] at hrz
  have HE := Lib.hid hE1
  have HV := Lib.hid hW1
  have HU := Lib.hid hW2
  clear hE1 hW1 hW2
  go_enter Try.func34, Try.ntmps34
  go_wp2_with (first
    | (at_builtin; refine Lib.wpList_append_run _ rfl _ _ _ _ rfl _ _ rfl rfl _ _ (hrz _) ?_)
    | (at_builtin; refine wpList_copyC _ rfl _ _ 27 27 rfl _ _ rfl rfl (hcpA _ rfl _ _) ?_))
  go_region_law_o (refine step_copyC rfl _ _ 27 27 rfl _ _ (by simp [Act.eval, Act.put]) (by simp [Act.eval, Act.put]) (hcpB _ _ _) ?_)
  go_wp2_with fail
  go_ret
  exact ⟨G, rfl, FIN.out.1, FIN.out.2⟩
set_option maxRecDepth 100000 in
set_option maxHeartbeats 2000000 in
theorem ins_end (v : Value) (n vb : Nat) (cs : List Ct) (x : Ct) (w : World) (ho : w.ownsRow 0 45 27 v n (flat cs)) (hn : n ≤ 16) (hx : Cb w vb x) :
    Calls Try.prog 34 #[v, .int .i64 n, .slice (some ⟨vb, 0, none⟩) 1 1] w fun e w' => ∃ v', e = .returned v' ∧ w'.ownsRow 0 45 27 v' (n + 1) (flat (cs ++ [x])) ∧ Fr (fun k => v.ownBlock = some k) w w' ∧ (v'.ownBlock = v.ownBlock ∨ v'.ownBlock = some w.heap.size) := by
  have RX := Lib.hid (show RdC w (some ⟨vb, 0, none⟩) 1 [x] from ⟨rfl, (fun h => by cases h), (fun _ a h => by cases h; rfl), fun b o _ h => by
    cases h
    have e : flat [x] = x.cellL := by simp [flat]
    rw [e]
    exact rng_row hx⟩)
  have HX := Lib.hid hx.2
  have HO := Lib.hid ho
  rcases ho.2 with ⟨rfl, rfl⟩ | ⟨b, c, cur, rfl, _, _, hnc, hcm, _⟩
  · clear ho hx
    go_enter Try.func34, Try.ntmps34
    go_wp2_with (at_builtin; refine wpl_app1 rfl _ _ rfl 0 _ 0 cs rfl HO.out ⟨vb, 0, none⟩ x rfl RX.out HX.out (by omega) (Nat.zero_le _) ?_; intro v' w' h1 h2 h3)
    go_ret
    exact ⟨v', rfl, h1, Fr.grown h2 (fun k e => e), h3⟩
  · have hmx : c ≤ 9223372036854775807 := hcm
    by_cases hcn : c = n
    · subst hcn
      clear ho hx
      go_enter Try.func34, Try.ntmps34
      go_wp2_with (at_builtin; refine wpl_app1 rfl _ _ rfl 0 _ c cs rfl HO.out ⟨vb, 0, none⟩ x rfl RX.out HX.out (by omega) (Nat.zero_le _) ?_; intro v' w' h1 h2 h3)
      go_ret
      exact ⟨v', rfl, h1, Fr.grown h2 (fun k e => e), h3⟩
    · clear ho hx
      go_enter Try.func34, Try.ntmps34
      go_wp2_with (at_builtin; refine wpl_app1 rfl _ _ rfl 0 _ n cs rfl HO.out ⟨vb, 0, none⟩ x rfl RX.out HX.out (by omega) (Nat.zero_le _) ?_; intro v' w' h1 h2 h3)
      go_ret
      exact ⟨v', rfl, h1, Fr.grown h2 (fun k e => e), h3⟩
/-- In whatever way. -/
theorem insert_any (v : Value) (n i vb : Nat) (cs : List Ct) (x : Ct) (w : World) (ho : w.ownsRow 0 45 27 v n (flat cs)) (hl : cs.length = n) (hn : n ≤ 16) (hi : i ≤ n) (hs : ∀ y, y ∈ cs → y.sp.sh.length = 16) (hx : Cb w vb x) (hvb : v.ownBlock ≠ some vb) :
    Calls Try.prog 34 #[v, .int .i64 i, .slice (some ⟨vb, 0, none⟩) 1 1] w fun e w' => ∃ v', e = .returned v' ∧ w'.ownsRow 0 45 27 v' (n + 1) (flat (cs.take i ++ x :: cs.drop i)) ∧ Fr (fun k => v.ownBlock = some k) w w' ∧ (v'.ownBlock = v.ownBlock ∨ v'.ownBlock = some w.heap.size) := by
  rcases Nat.lt_or_ge i n with c | c
  · obtain ⟨b, cap, rfl⟩ := own_one_form ho (by omega)
    rcases Nat.lt_or_ge cap (n + 1) with q | q
    · refine (ins_grow b n cap i vb cs x w ho hl hn c q hs hx).mono ?_
      rintro e w' ⟨G, rfl, h1, h2⟩
      exact ⟨_, rfl, h1, h2.mono fun _ h => h.elim, .inr rfl⟩
    · refine (ins_shift b n cap i vb cs x w ho hl hn c q hs hx (fun e => hvb (by rw [e]; rfl))).mono ?_
      rintro e w' ⟨rfl, h1, h2⟩
      exact ⟨_, rfl, h1, h2.mono fun k h => by rw [h]; rfl, .inl rfl⟩
  · obtain rfl : i = n := by omega
    refine (ins_end v i vb cs x w ho hn hx).mono ?_
    rintro e w' ⟨v', rfl, h1, h2, h3⟩
    refine ⟨v', rfl, ?_, h2, h3⟩
    rw [List.take_of_length_le (by omega), List.drop_of_length_le (by omega)]
    exact h1
end Go.Proofs.Ytejhnfkljfdejaa
