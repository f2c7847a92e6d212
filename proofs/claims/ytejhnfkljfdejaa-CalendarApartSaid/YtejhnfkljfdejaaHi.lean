/- The library's slices.Insert of one contract. -/
import Derived.Test.YtejhnfkljfdejaaHd
import Derived.Maps.AppendAt
import Derived.Laws.CopyOwn
import Derived.Laws.Externs
import Derived.Lib.Overlaps
import Derived.Lib.AppendZerosOnto
import Derived.Shelf.RegionOpenPlain
import Derived.Lib.Walk
import Derived.Lib.SliceRun
namespace Go.Proofs.Ytejhnfkljfdejaa
open Go.RowKit Go.Shelf
set_option linter.unusedVariables false
set_option linter.unusedSimpArgs false

theorem run_copy27 (w : World) (ty : TypeId) (g o dLen dCap : Nat) (a : Addr) (sLen sCap m : Nat) (cur : Array Value) (cs : List Value) (hg : w.heap[g]? = some (.cells cur 45 (0, 0))) (hm : Nat.min sLen dLen = m) (hn : cs.length = m * 27)
    (hsrc : ∀ j v, cs[j]? = some v → w.cell? (a.add j) = some v) (hfit : o + cs.length ≤ cur.size) (h1 : ∀ v ∈ cs, v.oneCell' = true) :
    (Builtin.copy_ #[27, 27] ty #[.slice (some ⟨g, o, none⟩) dLen dCap, .slice (some a) sLen sCap]).run Try.prog w = .ok (goInt m) (w.setRow g (cur.toList.take o ++ cs ++ cur.toList.drop (o + cs.length)).toArray) := by
  have hl := run_loadCells_list (P := Try.prog) w a cs hsrc
  have hst := run_storeCells_at Try.prog g o 45 cs 0 cur w hg (by simpa using hfit) h1
  obtain ⟨i0, hi0, _, hz1, _⟩ := info_parts info_ctz
  simp [Builtin.copy_, run_underlying Try.underlying27, Builtin.lenOf, Builtin.firstCells, sizeOf, typeInfo, hi0, hz1, hm, ← hn, hl, hst]
theorem step_copyC {ops : Array Oper} {o : Oper} {a : Act} {w : World} {K : Act → World → Prop} {Q : Exit → Act → World → Prop} {E : Prop}
    (hg : o.guard = none) (d x : Operand) (dT sT : TypeId) (hop : o.op = Op.call { callee := Callee.builtin Builtin.copy, args := #[d, x], argTypes := #[dT, sT] })
    (v u : Value) (hd : a.eval d = v) (hx : a.eval x = u) {v' : Value} {w' : World} (hr : (Builtin.copy_ #[dT, sT] o.type #[v, u]).run Try.prog w = .ok v' w') (hK : K (a.put o.dst v') w') :
    if Region.wanted o (yielded ops a.tmps) = true then Oper.wp Try.prog o a w K Q else E := by
  have hw : Region.wanted o (yielded ops a.tmps) = true := by simp [Region.wanted, hg]
  rw [if_pos hw]
  unfold Oper.wp
  simp [execOp, hop, resolve, invoke, builtin, hd, hx, hr, Result.andThen]
  exact hK
theorem wpList_copyC (w : World) {ops : Array Oper} {rest : List Oper} {o : Oper} {a : Act} {Q : Exit → Act → World → Prop} (hgd : o.guard = none) (d s : Operand) (t t' : TypeId)
    (ho : o.op = .call { callee := .builtin .copy, args := #[d, s], argTypes := #[t, t'] }) (v u : Value) (hd : a.eval d = v) (hs : a.eval s = u) {v' : Value} {w' : World}
    (hr : (Builtin.copy_ #[t, t'] o.type #[v, u]).run Try.prog w = .ok v' w') (h : wpList Try.prog ops Q rest (a.put o.dst v') w') : wpList Try.prog ops Q (o :: rest) a w :=
  wpList_plain hgd fun K hK => by
    unfold Oper.wp execOp
    simp only [ho, resolve, invoke, builtin, Sem.run_bind, Sem.run_pure, Result.andThen_ok, List.map_toArray, List.map_cons, List.map_nil, hd, hs, hr]
    exact hK _ _ h
theorem flat_app (a b : List Ct) : flat (a ++ b) = flat a ++ flat b := by simp [flat]
/-- A row behind two copies: what stood from a place on is moved by one, and one contract is laid there. -/
theorem row_ins {L : List Value} {cs : List Ct} {x : Ct} {i n : Nat} (hl : cs.length = n) (hi : i ≤ n) (hs : ∀ y, y ∈ cs → y.sp.sh.length = 16) (hx : x.sp.sh.length = 16) (hL : L.take (i * 27) = flat (cs.take i)) (hZ : (n + 1) * 27 ≤ L.length) :
    ((splice (splice L ((i + 1) * 27) (flat (cs.drop i))) (i * 27) x.cellL)).take ((n + 1) * 27) = flat (cs.take i ++ x :: cs.drop i) ∧ ((splice (splice L ((i + 1) * 27) (flat (cs.drop i))) (i * 27) x.cellL)).length = L.length := by
  have h1 : (flat (cs.drop i)).length = (n - i) * 27 := by rw [flat_len _ (fun y hy => hs y (List.mem_of_mem_drop hy)), List.length_drop, hl]
  have h2 := Ct.lenL hx
  have h3 : (flat (cs.take i)).length = i * 27 := by rw [flat_len _ (fun y hy => hs y (List.mem_of_mem_take hy)), List.length_take, hl, Nat.min_eq_left hi]
  have l1 : (splice L ((i + 1) * 27) (flat (cs.drop i))).length = L.length := length_splice _ _ _ (by rw [h1]; omega)
  refine ⟨?_, by rw [length_splice _ _ _ (by rw [l1, h2]; omega), l1]⟩
  have e1 : (splice L ((i + 1) * 27) (flat (cs.drop i))).take (i * 27) = flat (cs.take i) := by
    unfold splice
    rw [List.take_append_of_le_length (by rw [List.length_take]; omega), List.take_take, Nat.min_eq_left (by omega), hL]
  have e2 : (splice L ((i + 1) * 27) (flat (cs.drop i))).drop (i * 27 + 27) = flat (cs.drop i) ++ L.drop ((i + 1) * 27 + (n - i) * 27) := by
    unfold splice
    rw [show i * 27 + 27 = (i + 1) * 27 by omega, List.drop_append_of_le_length (by rw [List.length_take]; omega), List.drop_take, show (i + 1) * 27 - (i + 1) * 27 = 0 by omega, List.take_zero, List.nil_append, h1]
  have e3 : splice (splice L ((i + 1) * 27) (flat (cs.drop i))) (i * 27) x.cellL = flat (cs.take i) ++ (x.cellL ++ (flat (cs.drop i) ++ L.drop ((i + 1) * 27 + (n - i) * 27))) := by
    rw [splice, e1, h2, e2]
  have e4 : flat (cs.take i ++ x :: cs.drop i) = flat (cs.take i) ++ (x.cellL ++ flat (cs.drop i)) := by simp [flat]
  rw [e3, e4, ← List.append_assoc x.cellL, ← List.append_assoc (flat _)]
  rw [List.take_append_of_le_length (by rw [List.length_append, List.length_append, h1, h2, h3]; omega)]
  exact List.take_of_length_le (by rw [List.length_append, List.length_append, h1, h2, h3]; omega)
set_option maxRecDepth 100000 in
set_option maxHeartbeats 4000000 in
theorem ins_shift (b n c i vb : Nat) (cs : List Ct) (x : Ct) (w : World) (ho : w.ownsRow 0 45 27 (.slice (some ⟨b, 0, none⟩) n c) n (flat cs)) (hl : cs.length = n) (hn : n ≤ 16) (hi : i < n) (hc : n + 1 ≤ c) (hs : ∀ y, y ∈ cs → y.sp.sh.length = 16) (hx : Cb w vb x) (hvb : vb ≠ b) :
    Calls Try.prog 34 #[.slice (some ⟨b, 0, none⟩) n c, .int .i64 i, .slice (some ⟨vb, 0, none⟩) 1 1] w fun e w' => e = .returned (.slice (some ⟨b, 0, none⟩) (n + 1) c) ∧ w'.ownsRow 0 45 27 (.slice (some ⟨b, 0, none⟩) (n + 1) c) (n + 1) (flat (cs.take i ++ x :: cs.drop i)) ∧ Fr (fun k => k = b) w w' := by
  obtain ⟨cur, hh, hnc, hcm, hsz, htk⟩ : ∃ cur, w.heap[b]? = some (.cells cur 45 (0, 0)) ∧ n ≤ c ∧ c ≤ maxLen ∧ cur.size = c * 27 ∧ cur.toList.take (n * 27) = flat cs := by
    obtain ⟨b', c', cur, e, _, r⟩ := ho.2.resolve_left (fun c => by cases c.1)
    cases e
    exact ⟨cur, r⟩
  have hz2 : ¬ ((i : Int) = (n : Int)) := by omega
  have hc2 : ¬ ((c : Int) < (n : Int) + 1) := by omega
  have hov : ∀ lb cb, (callFunc 55 #[.slice (some ⟨vb, 0, none⟩) 1 1, .slice (some ⟨b, (i + 1) * 27, none⟩) lb cb]).run Try.prog w = .ok (.value (.bool false)) w := fun lb cb => by
    have hkx : x.cells.size = 27 := Ct.size hx.2
    rw [run_callFunc_extern Try.func55 (by kernel_rfl) (by kernel_rfl) (by kernel_rfl) (e := Extern.SlicesOverlaps.overlaps #[27, 27] #[4]) (by kernel_rfl),
      Lib.run_overlaps_apart w 27 4 45 Try.underlying27 27 (fun w => by kernel_rfl) ⟨vb, 0, none⟩ ⟨b, (i + 1) * 27, none⟩ 1 1 lb cb hvb 45 45 x.cells.size cur.size (by simp [World.shape?, hx.1]) (by simp [World.shape?, hh]) (by omega) (by simp [World.frozen?, hx.1]) (by simp [World.frozen?, hx.1])]
    rfl
  have hcl : ∀ j u, (flat cs)[j]? = some u → w.cell? ⟨b, j, none⟩ = some u := fun j u hj => by
    have hj' := (List.getElem?_eq_some_iff.1 hj).1
    rw [flat_len cs hs, hl] at hj'
    rw [cell_of_row _ _ _ _ _ _ hh, ← Array.getElem?_toList, ← hj, ← htk, List.getElem?_take, if_pos hj']
  have hd1 : (flat (cs.drop i)).length = (n - i) * 27 := by rw [flat_len _ (fun y hy => hs y (List.mem_of_mem_drop hy)), List.length_drop, hl]
  have hsrc : ∀ j u, (flat (cs.drop i))[j]? = some u → w.drew.cell? ((⟨b, i * 27, none⟩ : Addr).add j) = some u := fun j u hj => by
    have hj' := (List.getElem?_eq_some_iff.1 hj).1
    rw [Addr.add_mid]
    have := flat_part (cs := cs) (i := i) (j := n) (q := j) (by omega) (by omega) hs (by omega)
    rw [List.take_of_length_le (by omega)] at this
    exact hcl _ _ (by rw [← this, hj])
  obtain ⟨cur1, hcur1⟩ : ∃ c1, c1 = (splice cur.toList ((i + 1) * 27) (flat (cs.drop i))).toArray := ⟨_, rfl⟩
  have hcp1 : ∀ ty dc sc, (Builtin.copy_ #[27, 27] ty #[.slice (some ⟨b, (i + 1) * 27, none⟩) (n - i) dc, .slice (some ⟨b, i * 27, none⟩) (n + 1 - i) sc]).run Try.prog w.drew = .ok (goInt (n - i : Nat)) (w.drew.setRow b cur1) := fun ty dc sc => by
    have h := run_copy27 w.drew ty b ((i + 1) * 27) (n - i) dc ⟨b, i * 27, none⟩ (n + 1 - i) sc (n - i) cur (flat (cs.drop i)) hh (by simp only [Nat.min_def]; split <;> omega) hd1 hsrc (by rw [hd1, hsz]; omega) (one_ct _)
    rw [h, hcur1, splice, List.append_assoc]
  have hs1 : cur1.size = c * 27 := by rw [hcur1, List.size_toArray, length_splice _ _ _ (by rw [hd1, Array.length_toList, hsz]; omega), Array.length_toList, hsz]
  obtain ⟨W1, hW1⟩ : ∃ W1, W1 = w.drew.setRow b cur1 := ⟨_, rfl⟩
  have hh1 : W1.heap[b]? = some (.cells cur1 45 (0, 0)) := by rw [hW1]; exact setRow_heap w.drew b cur cur1 _ _ hh
  have RI := row_ins (L := cur.toList) (x := x) hl (Nat.le_of_lt hi) hs hx.2 (by
    have := congrArg (List.take (i * 27)) htk
    rw [List.take_take, Nat.min_eq_left (by omega)] at this
    rw [this]
    have e : flat cs = flat (cs.take i) ++ flat (cs.drop i) := by rw [← flat_app, List.take_append_drop]
    have h3 : (flat (cs.take i)).length = i * 27 := by rw [flat_len _ (fun y hy => hs y (List.mem_of_mem_take hy)), List.length_take, hl, Nat.min_eq_left (Nat.le_of_lt hi)]
    rw [e, List.take_append_of_le_length (by omega)]
    exact List.take_of_length_le (by omega)) (by rw [Array.length_toList, hsz]; omega)
  have hx1 : Cb W1 vb x := ⟨by rw [hW1]; exact (setRow_other w.drew b vb cur1 hvb).trans hx.1, hx.2⟩
  obtain ⟨cur2, hcur2⟩ : ∃ c2, c2 = (splice cur1.toList (i * 27) x.cellL).toArray := ⟨_, rfl⟩
  have hcp2 : ∀ (W : World), W = W1 → ∀ ty dc, (Builtin.copy_ #[27, 27] ty #[.slice (some ⟨b, i * 27, none⟩) (n + 1 - i) dc, .slice (some ⟨vb, 0, none⟩) 1 1]).run Try.prog W = .ok (goInt (1 : Nat)) (W1.setRow b cur2) := fun W hW ty dc => by
    rw [hW]
    have h := run_copy27 W1 ty b (i * 27) (n + 1 - i) dc ⟨vb, 0, none⟩ 1 1 1 cur1 x.cellL hh1 (by simp only [Nat.min_def]; split <;> omega) (by rw [Ct.lenL hx.2]) (fun j u hj => by
      rw [Addr.add_mid]; exact rng_row hx1 j u hj) (by rw [hs1, Ct.lenL hx.2]; omega) (by
        have := x.one
        simp only [Ct.cells, List.all_toArray, List.all_eq_true] at this
        exact this)
    rw [h, hcur2, splice, List.append_assoc]
  have FIN : Hid ((W1.setRow b cur2).ownsRow 0 45 27 (.slice (some ⟨b, 0, none⟩) (n + 1) c) (n + 1) (flat (cs.take i ++ x :: cs.drop i)) ∧ Fr (fun k => k = b) w (W1.setRow b cur2)) := by
    have hb := (Array.getElem?_eq_some_iff.1 hh).1
    refine Lib.hid ⟨⟨?_, .inr ⟨b, c, cur2, rfl, Nat.zero_le _, setRow_heap W1 b cur1 cur2 _ _ hh1, hc, hcm, ?_, ?_⟩⟩, ?_⟩
    · rw [flat_len _ (fun y hy => ?_)]
      · rw [List.length_append, List.length_cons, List.length_take, List.length_drop, hl, Nat.min_eq_left (Nat.le_of_lt hi)]
        congr 1
        omega
      · rcases List.mem_append.1 hy with q | q
        · exact hs y (List.mem_of_mem_take q)
        rcases List.mem_cons.1 q with rfl | q
        · exact hx.2
        · exact hs y (List.mem_of_mem_drop q)
    · rw [hcur2, hcur1, List.size_toArray, ← hsz, RI.2, Array.length_toList]
    · rw [hcur2, hcur1]
      exact RI.1
    · rw [hW1]
      refine ⟨⟨rfl, rfl, rfl, ?_, fun k hk => absurd hk (Nat.not_lt_zero k)⟩, fun k hk hn => ?_⟩
      · show w.heap.size ≤ _
        simp only [World.setRow, Array.size_modify]
        exact Nat.le_refl _
      · exact (setRow_other _ b k cur2 hn).trans (setRow_other w.drew b k cur1 hn)
  have hmx : c ≤ 9223372036854775807 := hcm
  clear ho hh htk hcl hsrc RI hh1 hx1 hs hcur1 hcur2 hd1
  rw [← hW1] at hcp1
  clear hW1
  have mixed : Try.prog.follows .mixedOrders = true := by kernel_rfl
  have hw1 : IntKind.i64.wrap ((i : Int) + 1) = (i : Int) + 1 := by rw [IntKind.wrap_i64]; omega
  have hb1 : (0 : Int) ≤ (i : Int) + 1 := by omega
  have hin : i ≤ n := by omega
  have htn : ((i : Int) + 1).toNat = i + 1 := by omega
  have hb2 : ¬ (c = i + 1) := by omega
  have hb3 : (i : Int) ≤ (n : Int) + 1 := by omega
  have hb4 : ¬ (c = i) := by omega
  go_enter Try.func34, Try.ntmps34
  go_wp2_with (simp only [hov])
  go_region_law_o (refine step_copyC rfl _ _ 27 27 rfl _ _ (by simp [Act.eval, Act.put]) (by simp [Act.eval, Act.put]) (hcp1 _ _ _) ?_)
  go_wp2_with (at_builtin; refine wpList_copyC _ rfl _ _ 27 27 rfl _ _ rfl rfl (hcp2 _ rfl _ _) ?_)
  go_ret
  exact ⟨rfl, FIN.out.1, FIN.out.2⟩
end Go.Proofs.Ytejhnfkljfdejaa
