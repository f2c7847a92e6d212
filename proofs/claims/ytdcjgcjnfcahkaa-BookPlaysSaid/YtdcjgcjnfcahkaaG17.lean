/- Texts of a proof, laid together: Jd, Ub, Jh, Jk, Jm. -/
import Derived.Test.YtdcjgcjnfcahkaaG16
import Derived.Test.YtdcjgcjnfcahkaaG15
import Derived.Test.YtdcjgcjnfcahkaaG07
/- The library's search, clone, insert, delete at a struct (by genLib.py). -/
namespace Go.Proofs.Ytdcjgcjnfcahkaa
open Go.RowKit Go.Shelf
set_option linter.unusedVariables false
set_option linter.unusedSimpArgs false


set_option maxRecDepth 100000 in
set_option maxHeartbeats 4000000 in
theorem del_in_so (b n c i j : Nat) (l : List St) (w : World) (ho : w.ownsRow 0 88 6 (.slice (some ⟨b, 0, none⟩) n c) n (ESt.flat l)) (hl : l.length = n) (hn : n ≤ 1000) (hij : j = i + 1) (hj : j ≤ n) :
    Calls Try.prog 53 #[.slice (some ⟨b, 0, none⟩) n c, .int .i64 i, .int .i64 j] w fun e w' => e = .returned (.slice (some ⟨b, 0, none⟩) (i + (n - j)) c) ∧ w'.ownsRow 0 88 6 (.slice (some ⟨b, 0, none⟩) (i + (n - j)) c) (i + (n - j)) (ESt.flat (l.eraseIdx i)) ∧ Fr (fun k => k = b) w w' := by
  obtain ⟨cur, hh, hnc, hcm, hsz, htk⟩ : ∃ cur, w.heap[b]? = some (.cells cur 88 (0, 0)) ∧ n ≤ c ∧ c ≤ maxLen ∧ cur.size = c * 6 ∧ cur.toList.take (n * 6) = ESt.flat l := by
    obtain ⟨b', c', cur, e, _, r⟩ := ho.2.resolve_left (fun c => by cases c.1)
    cases e
    exact ⟨cur, r⟩
  have hcl : ∀ j u, (ESt.flat l)[j]? = some u → w.cell? ⟨b, j, none⟩ = some u := fun j u hj => by
    have hj' := (List.getElem?_eq_some_iff.1 hj).1
    rw [fl_len_so, hl] at hj'
    rw [cell_of_row _ _ _ _ _ _ hh, ← Array.getElem?_toList, ← hj, ← htk, List.getElem?_take, if_pos hj']
  have hd1 : (ESt.flat (l.drop j)).length = (n - j) * 6 := by rw [fl_len_so, List.length_drop, hl]
  obtain ⟨A, hA, hsrc⟩ : ∃ A : Addr, (if c = j then some (⟨b, 0, none⟩ : Addr) else some ⟨b, j * 6, none⟩) = some A ∧ Hid (∀ t u, (ESt.flat (l.drop j))[t]? = some u → w.drew.cell? (A.add t) = some u) := by
    by_cases h : c = j
    · refine ⟨⟨b, 0, none⟩, by simp [h], Lib.hid fun t u hu => ?_⟩
      have h0 : (ESt.flat (l.drop j)).length = 0 := by rw [hd1, show n - j = 0 by omega, Nat.zero_mul]
      rw [List.length_eq_zero_iff.1 h0] at hu
      simp at hu
    · refine ⟨⟨b, j * 6, none⟩, by simp [h], Lib.hid fun t u hu => ?_⟩
      rw [Addr.add_mid]
      rw [← gflat_drop, List.getElem?_drop] at hu
      exact hcl _ _ hu
  have hin : i + (n - j) < n := by omega
  obtain ⟨m, hm⟩ : ∃ m, i + (n - j) = m := ⟨_, rfl⟩
  have hnm : n = m + 1 := by omega
  obtain ⟨cur1, hcur1⟩ : ∃ c1, c1 = (splice cur.toList (i * 6) (ESt.flat (l.drop j))).toArray := ⟨_, rfl⟩
  obtain ⟨W1, hW1⟩ : ∃ W1, W1 = w.drew.setRow b cur1 := ⟨_, rfl⟩
  have hap : ∀ ty dc, (Builtin.append_ #[83, 83] ty #[.slice (some ⟨b, 0, none⟩) i c, .slice (some A) (n - j) dc]).run Try.prog w.drew = .ok (.slice (some ⟨b, 0, none⟩) (i + (n - j)) c) W1 := fun ty dc => by
    rw [hW1, hcur1]
    exact grun_room TSt w.drew ty b i c cur hh A (n - j) dc (ESt.flat (l.drop j)) hd1 hsrc.out (gflat_cells _) (by omega) (by rw [hd1, hsz]; show i * 6 + (n - j) * 6 ≤ c * 6; omega)
  have hs1 : cur1.size = c * 6 := by rw [hcur1, List.size_toArray, length_splice _ _ _ (by rw [hd1, Array.length_toList, hsz]; omega), Array.length_toList, hsz]
  have hh1 : W1.heap[b]? = some (.cells cur1 88 (0, 0)) := by rw [hW1]; exact setRow_heap w.drew b cur cur1 _ _ hh
  have zv : ∀ w, (zeroValue 88).run Try.prog w = .ok (.agg (ESt.cells zeroSt).toArray) w := fun w => by kernel_rfl
  have hzl : ((Builtin.zeroCells (Value.agg (ESt.cells zeroSt).toArray).cells (n - m)).toList).length = 6 := by
    rw [Array.length_toList, size_zeroCells, show n - m = 1 by omega, Nat.one_mul]; kernel_rfl
  obtain ⟨cur2, hcur2⟩ : ∃ c2, c2 = (splice cur1.toList (m * 6) (Builtin.zeroCells (Value.agg (ESt.cells zeroSt).toArray).cells (n - m)).toList).toArray := ⟨_, rfl⟩
  have hclr : ∀ ty, (Builtin.clear_ #[83] ty #[.slice (some ⟨b, (i + (n - j)) * 6, none⟩) (n - (i + (n - j))) (c - (i + (n - j)))]).run Try.prog W1 = .ok (.tuple #[]) (W1.setRow b cur2) := fun ty => by
    rw [hm, hcur2]
    exact grun_clear TSt W1 ty zv (by kernel_rfl) (fun u hu => ESt.one zeroSt u (by simpa [Value.cells] using hu)) b (m * 6) (n - m) (c - m) cur1 hh1 (by omega) (by rw [hs1]; show m * 6 + (n - m) * 6 ≤ c * 6; omega)
  have RI : (splice (splice cur.toList (i * 6) (ESt.flat (l.drop (i + 1)))) (m * 6) (Builtin.zeroCells (Value.agg (ESt.cells zeroSt).toArray).cells (n - m)).toList).take (m * 6) = ESt.flat (l.eraseIdx i) ∧ (splice (splice cur.toList (i * 6) (ESt.flat (l.drop (i + 1)))) (m * 6) (Builtin.zeroCells (Value.agg (ESt.cells zeroSt).toArray).cells (n - m)).toList).length = cur.toList.length :=
    grow_del (E := ESt) (L := cur.toList) (l := l) (i := i) (n := m) (hl.trans hnm) (by omega) (by rw [← hnm]; exact htk) (by rw [← hnm, Array.length_toList, hsz]; exact Nat.mul_le_mul_right 6 hnc) hzl
  have FIN : Hid ((W1.setRow b cur2).ownsRow 0 88 6 (.slice (some ⟨b, 0, none⟩) (i + (n - j)) c) (i + (n - j)) (ESt.flat (l.eraseIdx i)) ∧ Fr (fun k => k = b) w (W1.setRow b cur2)) := by
    refine Lib.hid ⟨⟨?_, .inr ⟨b, c, cur2, rfl, Nat.zero_le _, setRow_heap W1 b cur1 cur2 _ _ hh1, by omega, hcm, ?_, ?_⟩⟩, ?_⟩
    · rw [fl_len_so, List.length_eraseIdx, if_pos (by omega)]; congr 1; omega
    · rw [hcur2, hcur1, hij, List.size_toArray, ← hsz, RI.2, Array.length_toList]
    · rw [hcur2, hcur1, hij, ← hij, hm, hij]
      exact RI.1
    · rw [hW1]
      refine ⟨⟨rfl, rfl, rfl, ?_, fun k hk => absurd hk (Nat.not_lt_zero k)⟩, fun k hk hn => ?_⟩
      · show w.heap.size ≤ _
        simp only [World.setRow, Array.size_modify]
        exact Nat.le_refl _
      · exact (setRow_other _ b k cur2 hn).trans (setRow_other w.drew b k cur1 hn)
  have hmx : c ≤ 9223372036854775807 := hcm
  have hne : ¬ ((i : Int) = (j : Int)) := by omega
  have hic : i ≤ c := by omega
  have hjc : j ≤ c := by omega
  have hijn : i ≤ j := by omega
  have HA := hA
  clear ho hh htk hcl hsrc RI hh1 hcur1 hcur2 hd1 hW1 hs1 hzl hm hnm hij hsz
  have mixed : Try.prog.follows .mixedOrders = true := by kernel_rfl
  go_enter Try.func53, Try.ntmps53
  go_wp2_with fail
  go_region_law_o (refine gstep_append rfl (.tmp 22) (.tmp 25) 83 83 rfl (.slice (some ⟨b, 0, none⟩) i c) (.slice (some A) (n - j) (c - j)) (by simp [Act.eval, Act.put]) (by simp [Act.eval, Act.put]) (hap 83 (c - j)) ?_)
  go_wp2_with (at_builtin; refine gwl_clear _ rfl _ 83 rfl _ rfl (hclr _) ?_)
  go_ret
  exact ⟨rfl, FIN.out.1, FIN.out.2⟩
/-- Delete, of one. -/
theorem delete_so (b n c i : Nat) (l : List St) (w : World) (ho : ESt.Own 88 w 0 (.slice (some ⟨b, 0, none⟩) n c) l) (hl : l.length = n) (hn : n ≤ 1000) (hi : i < n) (j : Nat) (hj : j = i + 1) :
    Calls Try.prog 53 #[.slice (some ⟨b, 0, none⟩) n c, .int .i64 i, .int .i64 j] w fun e w' => e = .returned (.slice (some ⟨b, 0, none⟩) (n - 1) c) ∧ ESt.Own 88 w' 0 (.slice (some ⟨b, 0, none⟩) (n - 1) c) (l.eraseIdx i) ∧ Fr (fun k => k = b) w w' := by
  have ho1 : w.ownsRow 0 88 6 (.slice (some ⟨b, 0, none⟩) n c) l.length (ESt.flat l) := ho
  rw [hl] at ho1
  have e : i + (n - j) = n - 1 := by omega
  have el : (l.eraseIdx i).length = n - 1 := by rw [List.length_eraseIdx, if_pos (by omega), hl]
  refine (del_in_so b n c i j l w ho1 hl hn hj (by omega)).mono ?_
  rintro e0 w' ⟨rfl, h1, h2⟩
  rw [e] at h1 ⊢
  exact ⟨rfl, by unfold Elt.Own; rw [el]; exact h1, h2⟩
end Go.Proofs.Ytdcjgcjnfcahkaa
/- One struct of a row written whole: plain facts, whatever the struct; no program's function, no program's type. -/
namespace Go.Proofs.Ytdcjgcjnfcahkaa
open Go.RowKit Go.Shelf
set_option linter.unusedVariables false

theorem splice_set (L : List Value) (o : Nat) (v : Value) (r : List Value) (h : o + (r.length + 1) ≤ L.length) : splice (L.set o v) (o + 1) r = splice L o (v :: r) := by
  unfold splice
  have e1 : (L.set o v).take (o + 1) = L.take o ++ [v] := by
    rw [List.take_add_one, List.getElem?_set_self (by omega), List.take_set_of_le (Nat.le_refl _)]; rfl
  have e2 : (L.set o v).drop (o + 1 + r.length) = L.drop (o + (v :: r).length) := by
    rw [List.drop_set_of_lt (by omega), List.length_cons]; congr 1; omega
  rw [e1, e2, List.append_assoc]; rfl
theorem heap_setCells (b : Nat) (t : TypeId) : ∀ (vs : List Value) (o : Nat) (w : World) (cur : Array Value), w.heap[b]? = some (.cells cur t (0, 0)) → o + vs.length ≤ cur.size → (w.setCells b o vs).heap[b]? = some (.cells (splice cur.toList o vs).toArray t (0, 0))
  | [], o, w, cur, h, _ => by
    have e : splice cur.toList o [] = cur.toList := by simp [splice]
    rw [World.setCells, h, e]
  | v :: r, o, w, cur, h, hl => by
    rw [World.setCells]
    have h1 := heap_setCell_same w b o cur t v h
    have hl' : o + (r.length + 1) ≤ cur.size := hl
    rw [heap_setCells b t r (o + 1) _ _ h1 (by rw [Array.size_setIfInBounds]; omega), Array.toList_setIfInBounds, splice_set _ _ _ _ (by rw [Array.length_toList]; exact hl')]
theorem setCells_other (b : Nat) : ∀ (vs : List Value) (o : Nat) (w : World) (k : Nat), k ≠ b → (w.setCells b o vs).heap[k]? = w.heap[k]?
  | [], _, _, _, _ => rfl
  | v :: r, o, w, k, h => by
    rw [World.setCells, setCells_other b r (o + 1) _ k h]
    exact heap_setCell_other w _ k v h
theorem fr_cells {S : Nat → Prop} {b : Nat} (h : S b) : ∀ (vs : List Value) (o : Nat) (w : World), Fr S w (w.setCells b o vs)
  | [], _, w => Fr.refl _ _
  | v :: r, o, w => by
    rw [World.setCells]
    exact (Fr.set (p := ⟨b, o, none⟩) h v).same (fr_cells h r (o + 1) _)
section
variable {α : Type} {E : Elt α}
theorem gset_flat {L : List Value} {l : List α} {x y : α} {k n : Nat} (hl : l.length = n) (hk : k < n) (hL : L.take (n * E.N) = E.flat l) (hZ : n * E.N ≤ L.length) : (splice L (k * E.N) (E.cells y)).take (n * E.N) = E.flat (l.set k y) ∧ (splice L (k * E.N) (E.cells y)).length = L.length := by
  have h0 := E.len y
  have h1 : (E.flat (l.drop (k + 1))).length = n * E.N - (k * E.N + E.N) := by rw [gl_drop hl, Nat.succ_mul]
  have h3 := gl_take (E := E) hl (Nat.le_of_lt hk)
  have hm : k * E.N + E.N ≤ n * E.N := by rw [← Nat.succ_mul]; exact Nat.mul_le_mul_right E.N hk
  have hA : L.take (k * E.N) = E.flat (l.take k) := by
    have := congrArg (List.take (k * E.N)) hL
    rw [List.take_take, gflat_take, Nat.min_eq_left (by omega)] at this
    exact this
  have hB : (L.drop (k * E.N + E.N)).take (n * E.N - (k * E.N + E.N)) = E.flat (l.drop (k + 1)) := by
    rw [← gflat_drop, ← hL, Nat.succ_mul, List.drop_take]
  have hs : l.set k y = l.take k ++ y :: l.drop (k + 1) := by
    rw [List.set_eq_take_append_cons_drop, if_pos (by omega)]
  have e4 : E.flat (l.take k ++ y :: l.drop (k + 1)) = E.flat (l.take k) ++ (E.cells y ++ E.flat (l.drop (k + 1))) := by rw [gflat_app, gflat_cons]
  rw [hs, e4]
  generalize k * E.N = a at *
  generalize n * E.N = b at *
  generalize E.N = M at *
  refine ⟨?_, length_splice _ _ _ (by rw [h0]; omega)⟩
  rw [splice, hA, h0, List.take_append, h3, List.take_of_length_le (by rw [h3]; omega), List.take_append, h0, List.take_of_length_le (l := E.cells y) (by rw [h0]; omega), show b - a - M = b - (a + M) by omega, hB]
/-- One of a row of one's own written whole. -/
theorem gown_set {te : TypeId} {w : World} {B b n c : Nat} {l : List α} (h : E.Own te w B (.slice (some ⟨b, 0, none⟩) n c) l) {k : Nat} (hk : k < l.length) (y : α) : E.Own te (w.setCells b (k * E.N) (E.cells y)) B (.slice (some ⟨b, 0, none⟩) n c) (l.set k y) := by
  obtain ⟨A', c', e1, _⟩ := gown_form h
  obtain ⟨b', c1, cur, e2, hb, hh, hn, hm, hs, ht⟩ := h.2.resolve_left (fun c => by cases c.1)
  cases e1
  cases e2
  have hct : cur.toList.length = cur.size := Array.length_toList
  have hcs : l.length * E.N ≤ cur.toList.length := by rw [hct, hs]; exact Nat.mul_le_mul_right E.N hn
  obtain ⟨r1, r2⟩ := gset_flat (E := E) (L := cur.toList) (y := y) (x := y) rfl hk ht hcs
  have hk1 : k * E.N + E.N ≤ l.length * E.N := by rw [← Nat.succ_mul]; exact Nat.mul_le_mul_right E.N hk
  refine ⟨by rw [gflat_len], .inr ⟨b, c, _, by rw [List.length_set], hb, heap_setCells b te _ _ w cur hh (by rw [E.len]; omega), by rw [List.length_set]; exact hn, hm, ?_, ?_⟩⟩
  · rw [List.size_toArray, r2, hct, hs]
  · rw [List.length_set]; exact r1
theorem gown_there {te : TypeId} {w : World} {B b n c : Nat} {l : List α} (h : E.Own te w B (.slice (some ⟨b, 0, none⟩) n c) l) {k : Nat} {x : α} (hx : l[k]? = some x) (y : α) : w.there b (k * E.N) (E.cells y).toArray.size := fun j hj => by
  have hj' : j < E.N := by rw [List.size_toArray, E.len] at hj; exact hj
  refine ⟨?_, gown_fz h _⟩
  rw [gown_at h hx hj', List.getElem?_eq_getElem (by rw [E.len]; exact hj')]
  rfl
end
end Go.Proofs.Ytdcjgcjnfcahkaa
/- The program's side: what is behind a call; Drop, Lower. -/
namespace Go.Proofs.Ytdcjgcjnfcahkaa
open Go.RowKit Go.Shelf
set_option linter.unusedVariables false

theorem osOf_erase : ∀ (l : List St) (k : Nat), osOf (l.eraseIdx k) = (osOf l).eraseIdx k
  | [], k => by simp [osOf]
  | x :: l, 0 => by simp [osOf]
  | x :: l, k + 1 => by
    have := osOf_erase l k
    simp only [osOf] at this ⊢
    simp [this]
theorem osOf_at {l : List St} {k : Nat} {x : St} (hx : l[k]? = some x) : (osOf l)[k]? = some x.o := by rw [osOf, List.getElem?_map, hx]; rfl
theorem osOf_len (l : List St) : (osOf l).length = l.length := by simp [osOf]
theorem find_at {os : List Or} {k : Nat} {x : Or} {n : Int} (d : Dis os) (hx : os[k]? = some x) (e : x.nu = n) : findO os n = some x := by
  have hm := List.mem_of_getElem? hx
  cases hf : findO os n with
  | none => exact absurd (beq_iff_eq.2 e) (List.find?_eq_none.1 hf x hm)
  | some y =>
    obtain ⟨h1, h2⟩ := find_mem hf
    rw [dis_uniq d h1 hm (h2.trans e.symm)]
theorem find_off {l : List St} {n : Int} (h : ∀ y, y ∈ l → nuIs n y = false) : findO (osOf l) n = none :=
  List.find?_eq_none.2 fun y hy => by
    obtain ⟨z, hz, rfl⟩ := List.mem_map.1 hy
    have := h z hz
    unfold nuIs at this
    simp [this]
theorem drop_at {os : List Or} {k : Nat} {x : Or} {n : Int} (d : Dis os) (hx : os[k]? = some x) (e : x.nu = n) : dropO os n = os.eraseIdx k := by
  subst e
  rw [dis_erase d hx]; rfl
theorem low_at {os : List Or} {k : Nat} {x : Or} {n : Int} (d : Dis os) (hx : os[k]? = some x) (e : x.nu = n) (m : Int) : os.set k (x.wi m) = os.map fun z => if z.nu = n then z.wi m else z := by
  subst e
  rw [dis_set d hx (show (x.wi m).nu = x.nu from rfl)]
  refine List.map_congr_left fun z hz => ?_
  by_cases c : z.nu = x.nu
  · rw [if_pos c, if_pos c, dis_uniq d hz (List.mem_of_getElem? hx) c]
  · rw [if_neg c, if_neg c]
def keyS (x : St) : Int × Int := (x.o.pr, x.cm)
theorem asc_key {buy : Bool} {l l' : List St} (h : l.Pairwise fun x y => ahB buy x y = true) (e : l'.map keyS = l.map keyS) : l'.Pairwise fun x y => ahB buy x y = true := by
  have key : ∀ l : List St, (l.Pairwise fun x y => ahB buy x y = true) ↔ (l.map keyS).Pairwise fun a b => (if a.1 = b.1 then decide (a.2 < b.2) else btr buy a.1 b.1) = true := fun l => by
    rw [List.pairwise_map]; rfl
  rw [key, e, ← key]; exact h
theorem key_set {l : List St} {k : Nat} {x y : St} (hx : l[k]? = some x) (e : keyS y = keyS x) : (l.set k y).map keyS = l.map keyS := by
  apply List.ext_getElem?
  intro i
  rw [List.getElem?_map, List.getElem?_map, List.getElem?_set]
  split
  · rename_i c
    subst c
    rw [hx]
    have := (List.getElem?_eq_some_iff.1 hx).1
    rw [if_pos this]
    simp [e]
  · rfl
section
variable {g : Nat} {v : Value} {buy : Bool} {c : Int} {l : List St} {w : World}
/-- A side behind a call. -/
def DsN (w : World) (g : Nat) (v : Value) (buy : Bool) (c : Int) (l : List St) (w' : World) : Prop := ∃ v', Ds w' g v' buy c l ∧ Fr (DsS g v) w w' ∧ ∀ k, v'.ownBlock = some k → v.ownBlock = some k ∨ w.heap.size ≤ k
theorem dsn_same {w' : World} (h : Ds w g v buy c l) (q : Below w.heap.size w w') : DsN w g v buy c l w' := ⟨v, h.below q, Fr.below q, fun _ e => .inl e⟩
/-- Another row is written into the side. -/
theorem ds_put {W W2 : World} (h : Ds W g v buy c l) {v2 : Value} {l2 : List St} (f : Fr (fun k => v.ownBlock = some k) W W2) (o2 : ESt.Own 88 W2 0 v2 l2) (hv : v2.ownBlock = v.ownBlock ∨ v2.ownBlock = some W.heap.size)
    (i2 : InvO buy (osOf l2)) (m2 : ∀ x, x ∈ l2 → 0 ≤ x.cm ∧ x.cm ≤ c) (a2 : l2.Pairwise fun x y => ahB buy x y = true) :
    W2.cell? ⟨g, 3, none⟩ = some v ∧ W2.frozen? ⟨g, 3, none⟩ = false ∧ Ds (W2.setCell ⟨g, 3, none⟩ v2) g v2 buy c l2 ∧ Fr (DsS g v) W (W2.setCell ⟨g, 3, none⟩ v2) := by
  have hb : W2.heap[g]? = some (.cells #[.bool true, .bool buy, .int .u64 c, v] 85 (0, 0)) := (f.at' g h.gl (fun e => h.apart g e rfl)).trans h.blk
  have hne : ∀ k, v2.ownBlock = some k → k ≠ g := fun k hk => by
    rcases hv with e | e
    · exact h.apart k (by rw [← e]; exact hk)
    · rw [e] at hk; cases hk
      have := h.gl; omega
  refine ⟨by rw [cell_of_row _ _ _ _ _ _ hb]; rfl, by simp [World.frozen?, hb], ⟨heap_setCell_same W2 g 3 _ _ _ hb, ?_, i2, m2, a2, h.nn⟩, (f.mono fun k e => .inr e).same (Fr.set (.inl rfl) _)⟩
  exact gown_same o2 fun k hk => heap_setCell_other W2 ⟨g, 3, none⟩ k v2 (hne k hk)
/-- The end of a call that has a struct as its result. -/
theorem dsn_fin {W3 W5 : World} {v2 : Value} {l2 : List St} (h : Ds w g v buy c l) (b3 : Below w.heap.size w W3) (d5 : Ds W5 g v2 buy c l2) (f5 : Fr (DsS g v) W3 W5) (hv : v2.ownBlock = v.ownBlock ∨ v2.ownBlock = some W3.heap.size) (hlt : w.heap.size < W3.heap.size) (cs : Array Value) : DsN w g v buy c l2 (W5.setRow w.heap.size cs) := by
  have hS : ∀ k, DsS g v2 k → ¬ k = w.heap.size := fun k hk e => by
    subst e
    rcases hk with e | hk
    · have := h.gl; omega
    · rcases hv with e | e
      · rw [e] at hk; have := h.vl _ hk; omega
      · rw [e] at hk; injection hk with hk; omega
  refine ⟨v2, d5.keep (S := fun k => k = w.heap.size) (fr_row (S := fun k => k = w.heap.size) rfl cs) hS, ((Fr.below b3).trans f5 (fun _ h => h) (fun k _ h => h)).trans (fr_row (S := fun k => k = w.heap.size) rfl cs) (fun _ h => h) (fun k hk e => by omega), fun k hk => ?_⟩
  rcases hv with e | e
  · exact .inl (by rw [← e]; exact hk)
  · rw [e] at hk; injection hk with hk; exact .inr (by omega)
theorem or_put {W1 W2 : World} (x : Or) (q : Below W1.heap.size W1 W2) : ∃ W3, (W2.alloc (.cells (EO.cells zeroOr).toArray 31)).setRow W2.heap.size (EO.cells x).toArray = W3 ∧ Below W1.heap.size W1 W3 ∧ EO.Bx 31 W3 W2.heap.size x ∧ EO.Bx 31 (W2.alloc (.cells (EO.cells zeroOr).toArray 31)) W2.heap.size zeroOr ∧ W2.heap.size < W3.heap.size := by
  refine ⟨_, rfl, q.trans ((row_inO (Nat.le_refl _) (below_new W2 _)).mono q.size), gbx_set (gbx_new W2 zeroOr), gbx_new W2 zeroOr, ?_⟩
  show W2.heap.size < ((W2.alloc _).heap.modify _ _).size
  rw [Array.size_modify]; simp
theorem gbx_kept {α : Type} {E : Elt α} {te : TypeId} {W W' : World} {S : Nat → Prop} {k : Nat} {x : α} (h : E.Bx te W k x) (f : Fr S W W') (hS : ¬ S k) : E.Bx te W' k x := (f.at' k (Array.getElem?_eq_some_iff.1 h).1 hS).trans h
set_option maxRecDepth 100000 in
set_option maxHeartbeats 2000000 in
theorem sdrop_err {p : Option Addr} {n er : Int} (her : (er != 0) = true) (F : ∀ W, Below w.heap.size w W → Calls Try.prog 52 #[.pointer p, .int .u64 n] W fun e w' => e = .returned (.tuple #[.int .i64 0, .int .i64 er]) ∧ Below W.heap.size W w') :
    Calls Try.prog 33 #[.pointer p, .int .u64 n] w fun e w' => e = .returned (.tuple #[.agg (EO.cells zeroOr).toArray, .int .i64 er]) ∧ Below w.heap.size w w' := by
  have hz := zero_or
  obtain ⟨W1, hW1, b1, x1, _⟩ := res_new w
  have F := F W1 b1
  have HW := Lib.hid hW1
  have X1 := Lib.hid fun W (q : Below W1.heap.size W1 W) => gbx_below x1 q
  have B1 := Lib.hid b1
  clear x1 b1 hW1
  go_enter Try.func33, Try.ntmps33
  go_wp2_with fail
  rw [HW.out]
  refine F.mono ?_; rintro e W2 ⟨rfl, q⟩
  have Q := Lib.hid q
  clear q
  go_wp2_with (first | (refine gwl_build0 built_or ?_) | (refine gwl_store TO zeroOr w.heap.size (X1.out _ Q.out) rfl rfl ?_))
  exact bodyPost_ret (gret TO rfl _ _ w.heap.size rfl rfl (gbx_set (X1.out _ Q.out))) rfl ⟨rfl, row_inO (Nat.le_refl _) (B1.out.trans (Q.out.mono B1.out.size))⟩
set_option maxRecDepth 100000 in
set_option maxHeartbeats 4000000 in
theorem sdrop_some {n : Int} {k : Nat} {x : St} (h : Ds w g v buy c l) (hk : gidx (nuIs n) l = k) (hx : l[k]? = some x) : Calls Try.prog 33 #[.pointer (some ⟨g, 0, none⟩), .int .u64 n] w fun e w' => e = .returned (.tuple #[.agg (EO.cells x.o).toArray, .int .i64 0]) ∧ DsN w g v buy c (l.eraseIdx k) w' := by
  have hz := zero_or
  obtain ⟨W1, hW1, b1, x1, s1⟩ := res_new w
  have h1 := h.below b1
  have F := sat_some n h1 hk
  have hkl := (List.getElem?_eq_some_iff.1 hx).1
  obtain ⟨b, cp, rfl⟩ := h.slot (by omega)
  have K3 := Lib.hid fun W (q : Below W1.heap.size W1 W) => (h1.below q).c3
  have RG : Hid (∀ W, Below W1.heap.size W1 W → W.rangeAt b (k * 6) (EO.cells x.o)) := Lib.hid fun W q => st_or (gown_rng (h1.below q).own hx)
  have e1 : (((k + 1 : Nat)) : Int) = (k : Int) + 1 := by omega
  have DEL := Lib.hid fun W (q : Below W1.heap.size W1 W) => delete_so b l.length cp k l W (h1.below q).own rfl (by have := h.le; omega) hkl (k + 1) rfl
  rw [e1] at DEL
  have H1 := Lib.hid h1
  have HH := Lib.hid h
  have HW := Lib.hid hW1
  have X1 := Lib.hid fun W (q : Below W1.heap.size W1 W) => gbx_below x1 q
  have B1 := Lib.hid b1
  have S1 := Lib.hid s1
  have BL : Hid (b < w.heap.size ∧ g < w.heap.size) := Lib.hid ⟨h.vl b rfl, h.gl⟩
  have hki : (k : Int) < (l.length : Int) := by omega
  have hkw : (k : Int) + 1 ≤ 9223372036854775807 := by have := h.le; omega
  have INV : Hid (InvO buy (osOf (l.eraseIdx k))) := Lib.hid (by
    rw [osOf_erase]
    have hm : nuIs n x = true := by
      rcases gidx_cases (nuIs n) l with ⟨e, _⟩ | ⟨k', x', e, _, hx', hp, _⟩
      · rw [hk] at e; omega
      · rw [hk] at e
        have : k = k' := by omega
        subst this
        rw [hx] at hx'; cases hx'; exact hp
    rw [← drop_at h.inv.dis (osOf_at hx) (beq_iff_eq.1 hm)]
    exact h.inv.drop)
  have CM : Hid (∀ y, y ∈ l.eraseIdx k → 0 ≤ y.cm ∧ y.cm ≤ c) := Lib.hid fun y hy => h.cm y (List.mem_of_mem_eraseIdx hy)
  have ASC : Hid ((l.eraseIdx k).Pairwise fun x y => ahB buy x y = true) := Lib.hid (h.asc.sublist (List.eraseIdx_sublist _ _))
  clear h h1 x1 b1 hW1 hk hx hkl s1 e1
  generalize l.length = m at *
  go_enter Try.func33, Try.ntmps33
  go_wp2_with fail
  rw [HW.out]
  refine F.mono ?_; rintro e W2 ⟨rfl, q⟩
  obtain ⟨W3, hW3, b3, y3, z3, s3⟩ := or_put x.o q
  have Q := Lib.hid q
  have HW3 := Lib.hid hW3
  have B3 := Lib.hid b3
  have Y3 := Lib.hid y3
  have Z3 := Lib.hid z3
  have S3 := Lib.hid s3
  have k2 := K3.out _ q
  have k3 := K3.out _ b3
  clear q hW3 b3 y3 z3 s3
  go_wp2_with (first | ((with_reducible refine gwl_load TO b (k * 6) (RG.out _ Q.out) ?_ ?_ ?_); rfl; rfl) | (refine gwl_store TO x.o W2.heap.size Z3.out rfl rfl ?_; rw [HW3.out]))
  refine (DEL.out _ B3.out).mono ?_; rintro e W4 ⟨rfl, o4, f4⟩
  obtain ⟨c4, z4, d5, f5⟩ := ds_put (H1.out.below B3.out) (f4.mono fun k e => by rw [e]; rfl) o4 (.inl rfl) INV.out CM.out ASC.out
  have fb : ∀ j, w.heap.size ≤ j → ¬ DsS g (.slice (some ⟨b, 0, none⟩) m cp) j := fun j hj c => by
    have := BL.out
    rcases c with c | c
    · omega
    · injection c with c; have : b = j := c; omega
  have Y5 := Lib.hid (gbx_rng (gbx_kept Y3.out f5 (fb _ (by have := Q.out.size; have := S1.out; omega))))
  have X5 := Lib.hid (gbx_kept (X1.out _ B3.out) f5 (fb _ (Nat.le_refl _)))
  have D5 := Lib.hid d5
  have F5 := Lib.hid f5
  clear o4 f4 d5 f5 fb
  go_wp2_with (first | ((with_reducible refine gwl_load TO W2.heap.size 0 Y5.out ?_ ?_ ?_); rfl; rfl) | (refine gwl_store TO x.o w.heap.size X5.out rfl rfl ?_))
  exact bodyPost_ret (gret TO rfl _ _ w.heap.size rfl rfl (gbx_set X5.out)) rfl ⟨rfl, dsn_fin HH.out (B1.out.trans (B3.out.mono B1.out.size)) D5.out F5.out (.inl rfl) (by have := Q.out.size; have := S1.out; have := S3.out; omega) _⟩
set_option maxRecDepth 100000 in
theorem slow_err {p : Option Addr} {n left er : Int} (her : (er != 0) = true) (F : Calls Try.prog 52 #[.pointer p, .int .u64 n] w fun e w' => e = .returned (.tuple #[.int .i64 0, .int .i64 er]) ∧ Below w.heap.size w w') :
    Calls Try.prog 46 #[.pointer p, .int .u64 n, .int .i64 left] w fun e w' => e = .returned (.int .i64 er) ∧ Below w.heap.size w w' := by
  go_enter Try.func46, Try.ntmps46
  go_wp2_with fail
  refine F.mono ?_; rintro e W2 ⟨rfl, q⟩
  have Q := Lib.hid q
  clear q
  go_wp2_with fail
  go_ret
  exact ⟨rfl, Q.out⟩
theorem st_set4 (x : St) (n : Int) : ESt.cells ⟨x.o.wi n, x.cm⟩ = (ESt.cells x).set 4 (.int .i64 n) := rfl
theorem wit_false {n m : Int} (h : witB n m = false) : n < 1 ∨ m < n := by
  unfold witB at h
  by_cases c : n < 1
  · exact .inl c
  · right
    rw [decide_eq_true (show 1 ≤ n by omega), Bool.true_and] at h
    have := of_decide_eq_false h
    omega
theorem wit_true {n m : Int} (h : witB n m = true) : 1 ≤ n ∧ n ≤ m := by
  unfold witB at h
  rw [Bool.and_eq_true, decide_eq_true_eq, decide_eq_true_eq] at h
  exact h
set_option maxRecDepth 100000 in
set_option maxHeartbeats 2000000 in
theorem slow_bad {n left : Int} {k : Nat} {x : St} (h : Ds w g v buy c l) (hk : gidx (nuIs n) l = k) (hx : l[k]? = some x) (hb : witB left x.o.le = false) :
    Calls Try.prog 46 #[.pointer (some ⟨g, 0, none⟩), .int .u64 n, .int .i64 left] w fun e w' => e = .returned (.int .i64 2) ∧ Below w.heap.size w w' := by
  have F := sat_some n h hk
  have hkl := (List.getElem?_eq_some_iff.1 hx).1
  obtain ⟨b, cp, rfl⟩ := h.slot (by omega)
  have K3 := Lib.hid fun W (q : Below w.heap.size w W) => (h.below q).c3
  have K4 := Lib.hid fun W (q : Below w.heap.size w W) => gown_at (h.below q).own hx (i := 4) (by decide)
  have WT := Lib.hid fun W => wit_any left x.o.le W
  rw [hb] at WT
  have hki : (k : Int) < (l.length : Int) := by omega
  clear h hk hx hb
  generalize l.length = m at *
  go_enter Try.func46, Try.ntmps46
  go_wp2_with fail
  refine F.mono ?_; rintro e W2 ⟨rfl, q⟩
  have Q := Lib.hid q
  have k3 := K3.out _ q
  have k4 : W2.cell? ⟨b, k * 6 + 4, none⟩ = some (.int .i64 x.o.le) := K4.out _ q
  clear q
  go_wp2_with fail
  refine (WT.out _).mono ?_; rintro e w3 ⟨rfl, rfl⟩
  go_wp2_with fail
  go_ret
  exact ⟨rfl, Q.out⟩
set_option maxRecDepth 100000 in
set_option maxHeartbeats 2000000 in
theorem slow_ok {n left : Int} {k : Nat} {x : St} (h : Ds w g v buy c l) (hk : gidx (nuIs n) l = k) (hx : l[k]? = some x) (hb : witB left x.o.le = true) (hi : InvO buy (osOf (l.set k ⟨x.o.wi left, x.cm⟩))) :
    Calls Try.prog 46 #[.pointer (some ⟨g, 0, none⟩), .int .u64 n, .int .i64 left] w fun e w' => e = .returned (.int .i64 0) ∧ DsN w g v buy c (l.set k ⟨x.o.wi left, x.cm⟩) w' := by
  have F := sat_some n h hk
  have hkl := (List.getElem?_eq_some_iff.1 hx).1
  obtain ⟨b, cp, rfl⟩ := h.slot (by omega)
  have K3 := Lib.hid fun W (q : Below w.heap.size w W) => (h.below q).c3
  have K4 := Lib.hid fun W (q : Below w.heap.size w W) => gown_at (h.below q).own hx (i := 4) (by decide)
  have FZ := Lib.hid fun W (q : Below w.heap.size w W) => gown_fz (h.below q).own (k * 6 + 4)
  have WT := Lib.hid fun W => wit_any left x.o.le W
  rw [hb] at WT
  have hki : (k : Int) < (l.length : Int) := by omega
  have FIN : Hid (∀ W, Below w.heap.size w W → DsN w g (.slice (some ⟨b, 0, none⟩) l.length cp) buy c (l.set k ⟨x.o.wi left, x.cm⟩) (W.setCell ⟨b, k * 6 + 4, none⟩ (.int .i64 left))) := Lib.hid fun W q => by
    have d := h.below q
    have f : Fr (fun j => j = b) W (W.setCell ⟨b, k * 6 + 4, none⟩ (.int .i64 left)) := Fr.set (S := fun j => j = b) (p := ⟨b, k * 6 + 4, none⟩) rfl _
    refine ⟨_, ⟨(f.at' g d.gl (fun e => d.apart b rfl e.symm)).trans d.blk, gown_put d.own hx (by decide) (st_set4 x left), hi, fun y hy => ?_, asc_key h.asc (key_set hx rfl), h.nn⟩, ((Fr.below q).trans f (fun _ c => c) (fun j _ e => .inr (by rw [e]; rfl))), fun j e => .inl e⟩
    rcases List.mem_or_eq_of_mem_set hy with q | rfl
    · exact h.cm y q
    · exact h.cm x (List.mem_of_getElem? hx)
  clear h hk hx hb hi
  generalize l.length = m at *
  go_enter Try.func46, Try.ntmps46
  go_wp2_with fail
  refine F.mono ?_; rintro e W2 ⟨rfl, q⟩
  have Q := Lib.hid q
  have k3 := K3.out _ q
  have k4 : W2.cell? ⟨b, k * 6 + 4, none⟩ = some (.int .i64 x.o.le) := K4.out _ q
  have fz := FZ.out _ q
  clear q
  go_wp2_with fail
  refine (WT.out _).mono ?_; rintro e w3 ⟨rfl, rfl⟩
  go_wp2_with fail
  go_ret
  exact ⟨rfl, FIN.out _ Q.out⟩
end
end Go.Proofs.Ytdcjgcjnfcahkaa
/- The program's side: what All tells. -/
namespace Go.Proofs.Ytdcjgcjnfcahkaa
open Go.RowKit Go.Shelf
set_option linter.unusedVariables false

theorem st_inj {x y : St} (h : ESt.cells x = ESt.cells y) : x = y := by
  obtain ⟨⟨a, b, c, d, e⟩, f⟩ := x
  obtain ⟨⟨a', b', c', d', e'⟩, f'⟩ := y
  simp only [ESt, St.cells, List.cons.injEq, Value.int.injEq, Value.bool.injEq, true_and, and_true] at h
  obtain ⟨rfl, rfl, rfl, rfl, rfl, rfl⟩ := h
  rfl
theorem bx_uniq {W : World} {X : Nat} {x y : St} (h : ESt.Bx 88 W X x) (k : ESt.Bx 88 W X y) : x = y := by
  have e := Option.some.inj (h.symm.trans k)
  injection e with e _ _
  exact st_inj (by simpa using e)
/-- Where the one that lies in block X stands. -/
theorem pos_of {buy : Bool} {l : List St} {W : World} {X k : Nat} {y : St} (ha : l.Pairwise fun x y => ahB buy x y = true) (hx : ESt.Bx 88 W X y) (hk : l[k]? = some y) :
    l.findIdx (fun z => @decide (ESt.Bx 88 W X z) (Classical.propDecidable _)) = k := by
  obtain ⟨hl, hg⟩ := List.getElem?_eq_some_iff.1 hk
  rw [List.findIdx_eq hl]
  refine ⟨by rw [hg]; simpa using hx, fun j hj => ?_⟩
  have hjl : j < l.length := by omega
  have hp := List.pairwise_iff_getElem.1 ha j k hjl hl hj
  simp only [decide_eq_false_iff_not]
  intro c
  have e := bx_uniq c hx
  rw [e, hg, ahB_irr] at hp
  cases hp
/-- Who stands behind the one at k. -/
theorem gidx_behind {buy : Bool} {l : List St} {k : Nat} {a : St} (ha : l.Pairwise fun x y => ahB buy x y = true) (hk : l[k]? = some a) :
    (∀ y, l[k + 1]? = some y → gidx (ahB buy a) l = ((k + 1 : Nat) : Int)) ∧ (l.length ≤ k + 1 → gidx (ahB buy a) l = -1) := by
  obtain ⟨hl, hg⟩ := List.getElem?_eq_some_iff.1 hk
  have hlow : ∀ (j : Nat) (y : St), j < k + 1 → l[j]? = some y → ahB buy a y = false := fun j y hj hy => by
    obtain ⟨hjl, hgj⟩ := List.getElem?_eq_some_iff.1 hy
    rcases Nat.lt_or_ge j k with c | c
    · have hp := List.pairwise_iff_getElem.1 ha j k hjl hl c
      rw [hgj, hg] at hp
      exact ahB_as hp
    · obtain rfl : j = k := by omega
      rw [← hgj, hg]
      exact ahB_irr buy a
  refine ⟨fun y hy => ?_, fun h => ?_⟩
  · obtain ⟨hyl, hgy⟩ := List.getElem?_eq_some_iff.1 hy
    have hp := List.pairwise_iff_getElem.1 ha k (k + 1) hl hyl (by omega)
    rw [hg, hgy] at hp
    unfold gidx
    rw [gidx_hit hy hp hlow]
  · unfold gidx
    rw [gidx_miss (fun j y hy => hlow j y (by have := (List.getElem?_eq_some_iff.1 hy).1; omega) hy)]
/-- Within the iterator: the side, the iterator's variable, a block of its own with the one told last. -/
structure ItS (S : World → Nat → Prop) (N C g X : Nat) (v : Value) (buy : Bool) (c : Int) (l : List St) (y : St) (W : World) : Prop where
  ds : Ds W g v buy c l
  cb : W.heap[C]? = some (.cells #[.pointer (some ⟨g, 0, none⟩)] 42 (0, 0))
  xb : ESt.Bx 88 W X y
  sz : N ≤ W.heap.size
  wf : ∀ k, S W k → k < W.heap.size
  ap : ∀ k, (k = C ∨ DsS g v k ∨ k = X) → ¬ S W k
  nX : ∀ k, (k = C ∨ DsS g v k) → k ≠ X
section
variable {S : World → Nat → Prop} {N C g X : Nat} {v : Value} {buy : Bool} {c : Int} {l : List St} {y : St} {W W' : World}
theorem ItS.cl (h : ItS S N C g X v buy c l y W) : W.cell? ⟨C, 0, none⟩ = some (.pointer (some ⟨g, 0, none⟩)) := by rw [cell_of_row _ _ _ _ _ _ h.cb]; rfl
theorem ItS.lt (h : ItS S N C g X v buy c l y W) {k : Nat} (hk : k = C ∨ DsS g v k ∨ k = X) : k < W.heap.size := by
  rcases hk with rfl | hk | rfl
  · exact (Array.getElem?_eq_some_iff.1 h.cb).1
  · exact h.ds.sl hk
  · exact (Array.getElem?_eq_some_iff.1 h.xb).1
theorem ItS.below (st : Still S N) (h : ItS S N C g X v buy c l y W) (q : Below W.heap.size W W') : ItS S N C g X v buy c l y W' := by
  have s := st W W' h.sz (fun k hk => q.block k (Nat.lt_of_lt_of_le hk h.sz))
  exact ⟨h.ds.below q, (q.block C (Array.getElem?_eq_some_iff.1 h.cb).1).trans h.cb, gbx_below h.xb q, Nat.le_trans h.sz q.size, fun k hk => Nat.lt_of_lt_of_le (h.wf k (s k hk)) q.size, fun k hk c => h.ap k hk (s k c), h.nX⟩
theorem ItS.kept (h : ItS S N C g X v buy c l y W) (k : Kc S W W') : ItS S N C g X v buy c l y W' := by
  obtain ⟨h1, h2, h3, h4⟩ := k h.wf
  refine ⟨h.ds.same fun j hj hc => h4 j (h.lt (.inr (.inl hj))) (h.ap j (.inr (.inl hj))) hc, (h4 C (h.lt (.inl rfl)) (h.ap C (.inl rfl)) ⟨_, _, _, h.cb⟩).trans h.cb,
    (h4 X (h.lt (.inr (.inr rfl))) (h.ap X (.inr (.inr rfl))) ⟨_, _, _, h.xb⟩).trans h.xb, Nat.le_trans h.sz h3.size, h1, fun j hj c => ?_, h.nX⟩
  rcases h2 j c with c | c
  · exact h.ap j hj c
  · have := h.lt hj; omega
theorem ItS.put (st : Still S N) (h : ItS S N C g X v buy c l y W) (hX : N ≤ X) (z : St) : ItS S N C g X v buy c l z (W.setRow X (ESt.cells z).toArray) := by
  have f : Fr (fun k => k = X) W (W.setRow X (ESt.cells z).toArray) := fr_row (S := fun k => k = X) rfl _
  have s := st W (W.setRow X (ESt.cells z).toArray) h.sz (fun k hk => setRow_other W X k _ (by omega))
  exact ⟨h.ds.keep f (fun k hk => h.nX k (.inr hk)), (f.at' C (h.lt (.inl rfl)) (h.nX C (.inl rfl))).trans h.cb, gbx_set h.xb, Nat.le_trans h.sz f.size, fun k hk => Nat.lt_of_lt_of_le (h.wf k (s k hk)) f.size, fun k hk c => h.ap k hk (s k c), h.nX⟩
/-- What hangs on other blocks stays as the block is written. -/
theorem ItS.calm {β : Type} {B : Nat} {J : β → World → Prop} (cJ : Calm B S J) (h : ItS S N C g X v buy c l y W) (hX : B ≤ X) (z : St) {s : β} (j : J s W) : J s (W.setRow X (ESt.cells z).toArray) := by
  refine cJ s W _ j (below_row0 (Below.refl B W) hX) (fun k hk hc => setRow_other W X k _ (fun e => ?_))
  subst e
  exact h.ap k (.inr (.inr rfl)) hk
end
theorem wlIn_load_org {n : Nat} {ops : Array Oper} {rest : List Oper} {a : Act} {w : World} {Q : Exit → Act → World → Prop} {d : Option Nat} {x : Operand} {ty : TypeId} {ps : String} {af : Array Edge} {gd : Option (Nat × Bool)} {s : Or} (b o : Nat) (hb : w.rangeAt b o (EO.cells s))
    (hw : Region.wanted ⟨d, .load 31 x, ty, ps, af, gd⟩ (yielded ops a.tmps) = true) (hx : a.eval x = .pointer (some ⟨b, o, none⟩)) (h : wpListIn Fence.wide n Try.prog ops Q rest (a.put d (.agg (EO.cells s).toArray)) w) : wpListIn Fence.wide n Try.prog ops Q (⟨d, .load 31 x, ty, ps, af, gd⟩ :: rest) a w :=
  wpListIn_step fun K hK => by
    rw [if_pos hw]
    obtain ⟨fs, hu⟩ := TO.row
    exact op_wide (fun c e => by cases e) (wp_load_mid 31 x rfl b o hx (EO.cells s) _ hb hu rfl (by rw [gsize TO, EO.len]) (hK _ _ h))
/-- first, behind: one answer for each. -/
theorem sfirst_any {g : Nat} {v : Value} {buy : Bool} {c : Int} {l : List St} {w : World} (h : Ds w g v buy c l) : ∃ y b, (b = decide (0 < l.length) ∧ ∀ x, l[0]? = some x → y = x) ∧
    Calls Try.prog 74 #[.pointer (some ⟨g, 0, none⟩)] w fun e w' => e = .returned (.tuple #[.agg (ESt.cells y).toArray, .bool b]) ∧ Below w.heap.size w w' := by
  cases l with
  | nil => exact ⟨zeroSt, false, ⟨rfl, fun x hx => by cases hx⟩, sfirst_none h⟩
  | cons x r => exact ⟨x, true, ⟨by simp, fun z hz => by simpa using hz⟩, sfirst_some h⟩
theorem sbehind_any {g : Nat} {v : Value} {buy : Bool} {c : Int} {l : List St} {w : World} (h : Ds w g v buy c l) {k : Nat} {a : St} (hk : l[k]? = some a) : ∃ y b, (b = decide (k + 1 < l.length) ∧ ∀ x, l[k + 1]? = some x → y = x) ∧
    Calls Try.prog 75 #[.pointer (some ⟨g, 0, none⟩), .agg (ESt.cells a).toArray] w fun e w' => e = .returned (.tuple #[.agg (ESt.cells y).toArray, .bool b]) ∧ Below w.heap.size w w' := by
  obtain ⟨h1, h2⟩ := gidx_behind h.asc hk
  rcases Nat.lt_or_ge (k + 1) l.length with c | c
  · obtain ⟨x, hx⟩ : ∃ x, l[k + 1]? = some x := ⟨l[k + 1], List.getElem?_eq_getElem c⟩
    exact ⟨x, true, ⟨(decide_eq_true c).symm, fun z hz => by rw [hx] at hz; cases hz; rfl⟩, sbehind_some a h (h1 x hx) hx⟩
  · exact ⟨zeroSt, false, ⟨(decide_eq_false (by omega)).symm, fun z hz => by have := (List.getElem?_eq_some_iff.1 hz).1; omega⟩, sbehind_none a h (h2 c)⟩
set_option maxRecDepth 100000 in
set_option maxHeartbeats 2000000 in
theorem sall1_in (n l0 : Nat) (hn : 1 ≤ n) {S : World → Nat → Prop} {N C g : Nat} {v : Value} {buy : Bool} {c : Int} {l : List St} (st : Still S N) (J Jx : List OkOr → World → Prop) (W : World) (hNW : N ≤ W.heap.size) (cJ : Calm W.heap.size S J)
    (hY : ∀ pre x W1, J pre W1 → pre.length < (osOf l).length → YieldAt Fence.wide (n - 1) Try.prog l0 #[.agg (EO.cells x.1).toArray] W1 fun e W' =>
      (e = .returned (.bool true) ∧ J (pre ++ [x]) W' ∧ Kc S W1 W') ∨ (e = .returned (.bool false) ∧ Jx (pre ++ [x]) W'))
    (hd : Ds W g v buy c l) (hC : W.heap[C]? = some (.cells #[.pointer (some ⟨g, 0, none⟩)] 42 (0, 0))) (wf : ∀ k, S W k → k < W.heap.size) (ap : ∀ k, (k = C ∨ DsS g v k) → ¬ S W k) (h0 : J [] W) :
    CallsIn Fence.wide n Try.prog 73 #[.func (.yield l0) #[] #[], .pointer (some ⟨C, 0, none⟩)] W fun e W' => (∃ v, e = .returned v) ∧
      ((∃ xs, valsO xs = osOf l ∧ J xs W') ∨ (∃ pre, valsO pre <+: osOf l ∧ Jx pre W')) := by
  obtain ⟨y0, b0, ⟨hb0, hy0⟩, F⟩ := sfirst_any hd
  have DW := Lib.hid hd
  have OK := Lib.hid hd.ok
  have ASC := Lib.hid hd.asc
  have cl : W.cell? ⟨C, 0, none⟩ = some (.pointer (some ⟨g, 0, none⟩)) := by rw [cell_of_row _ _ _ _ _ _ hC]; rfl
  have HC := Lib.hid hC
  have WF := Lib.hid wf
  have AP := Lib.hid ap
  have CJ := Lib.hid cJ
  have HY := Lib.hid hY
  have ST := Lib.hid st
  have J0 := Lib.hid h0
  have HB0 := Lib.hid hb0
  have HY0 := Lib.hid hy0
  have NW := Lib.hid hNW
  have ZS := Lib.hid fun W1 : World => gbx_new (E := ESt) (te := 88) W1 zeroSt
  have hz := zero_st
  clear hd hC wf ap cJ hY st h0 hb0 hy0 hNW
  refine callsIn_of_wp Try.func73 rfl trivial ?_ rfl
  simp only [Try.ntmps73, List.size_toArray, List.length_cons, List.length_nil, Nat.reduceAdd, Nat.reduceSub, Array.replicate_succ, Array.replicate_zero, List.push_toArray, List.append_toArray, List.nil_append, List.cons_append]
  apply wpIn_seq_k; intro K1 h1
  refine wpIn_wide.2 ?_
  go_wp2_with fail
  refine F.mono ?_; rintro e w1 ⟨rfl, q⟩
  have Q := Lib.hid q
  have Z1 := Lib.hid (ZS.out w1)
  clear q
  go_wp2_with (refine gwl_store TSt y0 w1.heap.size Z1.out rfl rfl ?_)
  obtain ⟨w3, hw3⟩ : ∃ w3, (w1.alloc (.cells (ESt.cells zeroSt).toArray 88)).setRow w1.heap.size (ESt.cells y0).toArray = w3 := ⟨_, rfl⟩
  rw [hw3]
  have q3 : Below W.heap.size W w3 := by rw [← hw3]; exact Q.out.trans ((row_inS (Nat.le_refl _) (below_new w1 _)).mono Q.out.size)
  have xb : ESt.Bx 88 w3 w1.heap.size y0 := by rw [← hw3]; exact gbx_set Z1.out
  have hX : W.heap.size ≤ w1.heap.size := Q.out.size
  have s3 := ST.out W w3 NW.out (fun k hk => q3.block k (Nat.lt_of_lt_of_le hk NW.out))
  have cC : C < W.heap.size := (Array.getElem?_eq_some_iff.1 HC.out).1
  have I3 : Hid (ItS S N C g w1.heap.size v buy c l y0 w3) := Lib.hid ⟨DW.out.below q3, (q3.block C cC).trans HC.out, xb, Nat.le_trans NW.out q3.size, fun k hk => Nat.lt_of_lt_of_le (WF.out k (s3 k hk)) q3.size, fun k hk e => by
    rcases hk with rfl | hk | rfl
    · exact AP.out _ (.inl rfl) (s3 _ e)
    · exact AP.out _ (.inr hk) (s3 _ e)
    · have := WF.out _ (s3 _ e); omega, fun k hk => by
    rcases hk with rfl | hk
    · omega
    · have := DW.out.sl hk; omega⟩
  have J3 := Lib.hid (CJ.out.grow (Nat.le_refl _) q3 J0.out)
  have HX0 := Lib.hid hX
  have NX : Hid (N ≤ w1.heap.size) := Lib.hid (Nat.le_trans NW.out hX)
  generalize w1.heap.size = X at *
  clear q3 xb hX s3 cC hw3 Z1 Q
  refine wpIn_block ?_
  gi_loopw [4] (fun t wr => ∃ (k : Nat) (y : St) (pre : List OkOr), t = .bool (decide (k < l.length)) ∧ k ≤ l.length ∧ (∀ x, l[k]? = some x → y = x) ∧ valsO pre = (osOf l).take k ∧ ItS S N C g X v buy c l y wr ∧ J pre wr)
    (fun t wr => match t with | .bool true => l.length - l.findIdx (fun z => @decide (ESt.Bx 88 wr X z) (Classical.propDecidable _)) | _ => 0)
  case atStart => exact ⟨0, y0, [], by rw [HB0.out], Nat.zero_le _, HY0.out, rfl, I3.out, J3.out⟩
  case round =>
    obtain ⟨k, y, pre, rfl, hk, hy, hpre, hit, hJ⟩ := hrel
    have IT := Lib.hid hit
    have JJ := Lib.hid hJ
    have PR := Lib.hid hpre
    have cl := hit.cl
    rcases Nat.lt_or_ge k l.length with hlt | hge
    · obtain ⟨x, hx⟩ : ∃ x, l[k]? = some x := ⟨l[k], List.getElem?_eq_getElem hlt⟩
      obtain rfl := hy x hx
      have HX := Lib.hid hx
      have XO := Lib.hid (OK.out y (List.mem_of_getElem? hx))
      have LT := Lib.hid hlt
      have hpl : pre.length < (osOf l).length := by
        have := congrArg List.length hpre
        rw [valsO_len, List.length_take, osOf_len] at this
        rw [osOf_len]
        omega
      have MS := Lib.hid (pos_of ASC.out hit.xb hx)
      obtain ⟨fn, tmps, assign, body, hyl, hR⟩ := HY.out pre ⟨y.o, XO.out.o⟩ wr hJ hpl
      have HR := Lib.hid hR
      have RG := Lib.hid (st_or (gbx_rng hit.xb))
      have PX : Hid (valsO (pre ++ [⟨y.o, XO.out.o⟩]) = (osOf l).take (k + 1)) := Lib.hid (by rw [valsO_snoc, hpre, List.take_add_one, osOf_at hx]; rfl)
      rw [decide_eq_true hlt]
      clear hit hJ hy hpre hx hR hlt hpl
      apply wpIn_seq_k; intro K2 h2
      have H2 := Lib.hid h2
      clear h2
      gi_wp2_with ((with_reducible refine wlIn_load_org X 0 RG.out ?_ ?_ ?_); rfl; rfl)
      refine HR.out.mono ?_
      rintro e W4 (⟨rfl, hJ4, hk4⟩ | ⟨rfl, hJx⟩)
      · have I4 := Lib.hid (IT.out.kept hk4)
        have J4 := Lib.hid hJ4
        clear hJ4 hk4
        have cl4 := I4.out.cl
        gi_wp2
        refine H2.out _ _ ?_
        refine wpIn_block ?_
        refine wpIn_wide.2 ?_
        obtain ⟨z, b, ⟨hb, hz'⟩, BH⟩ := sbehind_any I4.out.ds HX.out
        have HB := Lib.hid hb
        have HZ := Lib.hid hz'
        have RG4 := Lib.hid (gbx_rng I4.out.xb)
        clear hb hz'
        go_wp2_with ((with_reducible refine gwl_load TSt X 0 RG4.out ?_ ?_ ?_); rfl; rfl)
        refine BH.mono ?_; rintro e w5 ⟨rfl, q⟩
        have I5 := Lib.hid (I4.out.below ST.out q)
        have J5 := Lib.hid (CJ.out.grow (by have := HX0.out; have := I4.out.lt (.inr (.inr rfl)); omega) q J4.out)
        clear q
        go_wp2_with (refine gwl_store TSt z X I5.out.xb rfl rfl ?_)
        have h6 := (HX0.out)
        have hB : W.heap.size ≤ X := HX0.out
        refine ⟨⟨k + 1, z, pre ++ [⟨y.o, XO.out.o⟩], by rw [HB.out], LT.out, HZ.out, PX.out, I5.out.put ST.out NX.out z, I5.out.calm CJ.out hB z J5.out⟩, ?_⟩
        show _ < l.length - _
        rw [MS.out]
        have hLT := LT.out
        rw [HB.out]
        rcases Nat.lt_or_ge (k + 1) l.length with c1 | c1
        · rw [decide_eq_true c1]
          obtain ⟨z', hz'⟩ : ∃ z', l[k + 1]? = some z' := ⟨l[k + 1], List.getElem?_eq_getElem c1⟩
          obtain rfl := HZ.out z' hz'
          show l.length - _ < _
          rw [pos_of ASC.out (I5.out.put ST.out NX.out z).xb hz']
          omega
        · rw [decide_eq_false (by omega)]
          show 0 < _
          omega
      · gi_wp2
        refine bodyPost_end (results_none rfl _ _ _) rfl ?_
        exact ⟨⟨_, rfl⟩, .inr ⟨_, by rw [PX.out]; exact List.take_prefix _ _, hJx⟩⟩
    · obtain rfl : k = l.length := by omega
      rw [decide_eq_false (Nat.lt_irrefl _)]
      gi_wp2
      refine ⟨fun f e => (by cases e), ?_⟩
      gi_wp2
      refine bodyPost_end (results_none rfl _ _ _) rfl ?_
      exact ⟨⟨_, rfl⟩, .inl ⟨pre, by rw [PR.out, List.take_of_length_le (by rw [osOf_len]; exact Nat.le_refl _)], JJ.out⟩⟩
end Go.Proofs.Ytdcjgcjnfcahkaa
/- The program's side: All, there or not. -/
namespace Go.Proofs.Ytdcjgcjnfcahkaa
open Go.RowKit Go.Shelf
set_option linter.unusedVariables false

set_option maxRecDepth 100000 in
theorem sall_calls (p : Option Addr) (w : World) : Calls Try.prog 51 #[.pointer p] w fun e w' => e = .returned (.func (.func 73) #[] #[.pointer (some ⟨w.heap.size, 0, none⟩)]) ∧ w' = w.alloc (.cells #[.pointer p] 42) := by
  go_enter Try.func51, Try.ntmps51
  go_wp2_with fail
  go_ret
  exact ⟨rfl, rfl⟩
theorem senters_all : Enters Try.prog 73 := enters_of Try.func73 (by kernel_rfl) rfl
theorem sall_any {g : Nat} {v : Value} {buy : Bool} {c : Int} {l : List St} {w : World} (h : Ds w g v buy c l) : Calls Try.prog 51 #[.pointer (some ⟨g, 0, none⟩)] w (AllO w (DsS g v) (osOf l)) := by
  refine (sall_calls _ w).mono ?_
  rintro e w' ⟨rfl, rfl⟩
  have b := below_new w (.cells #[.pointer (some ⟨g, 0, none⟩)] 42)
  refine ⟨_, _, fun k => k = w.heap.size ∨ DsS g v k, rfl, b, senters_all, fun k hk => ?_, ?_⟩
  · rcases hk with rfl | hk
    · exact ⟨by simp, .inr (Nat.le_refl _)⟩
    · exact ⟨Nat.lt_of_lt_of_le (h.sl hk) b.size, .inl hk⟩
  · intro W2 S n fr st wf ap hn l0 J Jx W hW cJ _ hY h0
    have cb := heap_alloc_new w (.cells #[.pointer (some ⟨g, 0, none⟩)] 42)
    have d2 : Ds W2 g v buy c l := (h.below b).keep fr (fun k hk c => c (.inr hk))
    have c2 : W2.heap[w.heap.size]? = some (.cells #[.pointer (some ⟨g, 0, none⟩)] 42 (0, 0)) := (fr.at' _ (by simp) (fun c => c (.inl rfl))).trans cb
    have s := st W2 W (Nat.le_refl _) (fun k hk => hW.block k hk)
    exact sall1_in n l0 (by omega) st J Jx W hW.size cJ hY (d2.below hW) ((hW.block _ (Array.getElem?_eq_some_iff.1 c2).1).trans c2) (fun k hk => Nat.lt_of_lt_of_le (wf k (s k hk)) hW.size)
      (fun k hk c => ap k hk (s k c)) h0
theorem szero (w : World) : (zeroValue 85).run Try.prog w = .ok (.agg #[.bool false, .bool false, .int .u64 0, .slice none 0 0]) w := by kernel_rfl
abbrev zsd : Array Value := #[.bool false, .bool false, .int .u64 0, .slice none 0 0]
section
variable {w W : World} {p : Option Addr}
theorem Ns.below (h : Ns zsd w p) (q : Below w.heap.size w W) : Ns zsd W p := h.imp id fun ⟨g, e, hg⟩ => ⟨g, e, (q.block g (Array.getElem?_eq_some_iff.1 hg).1).trans hg⟩
theorem smiss_ns (h : Ns zsd w p) : Calls Try.prog 48 #[.pointer p] w fun e w' => e = .returned (.bool true) ∧ w = w' := by
  rcases h with rfl | ⟨g, rfl, hg⟩
  · exact smiss_nil w
  · exact smiss_zero (by rw [cell_of_row _ _ _ _ _ _ hg]; rfl)
theorem smiss_nsB (h : Ns zsd w p) (W : World) (q : Below w.heap.size w W) : Calls Try.prog 48 #[.pointer p] W fun e w' => e = .returned (.bool true) ∧ W = w' := smiss_ns (h.below q)
end
set_option maxRecDepth 100000 in
set_option maxHeartbeats 2000000 in
theorem snall1_in (n l0 C : Nat) (p : Option Addr) (J Jx : List OkOr → World → Prop) {B : Nat} {S : World → Nat → Prop} (W : World) (hB : B ≤ W.heap.size) (cJ : Calm B S J) (hC : W.cell? ⟨C, 0, none⟩ = some (.pointer p)) (hN : Ns zsd W p) (h0 : J [] W) :
    CallsIn Fence.wide n Try.prog 73 #[.func (.yield l0) #[] #[], .pointer (some ⟨C, 0, none⟩)] W fun e W' => (∃ v, e = .returned v) ∧
      ((∃ xs, valsO xs = [] ∧ J xs W') ∨ (∃ pre, valsO pre <+: [] ∧ Jx pre W')) := by
  have CJ := Lib.hid cJ
  have HB := Lib.hid hB
  have J0 := Lib.hid h0
  have cl := hC
  have F := sfirst_nc (smiss_nsB hN)
  have ZS := Lib.hid fun W1 : World => gbx_new (E := ESt) (te := 88) W1 zeroSt
  have hz := zero_st
  clear cJ hB h0 hC hN
  refine callsIn_of_wp Try.func73 rfl trivial ?_ rfl
  simp only [Try.ntmps73, List.size_toArray, List.length_cons, List.length_nil, Nat.reduceAdd, Nat.reduceSub, Array.replicate_succ, Array.replicate_zero, List.push_toArray, List.append_toArray, List.nil_append, List.cons_append]
  apply wpIn_seq_k; intro K1 h1
  refine wpIn_wide.2 ?_
  go_wp2_with fail
  refine F.mono ?_; rintro e w1 ⟨rfl, q⟩
  have Q := Lib.hid q
  have Z1 := Lib.hid (ZS.out w1)
  clear q
  go_wp2_with (refine gwl_store TSt zeroSt w1.heap.size Z1.out rfl rfl ?_)
  obtain ⟨w3, hw3⟩ : ∃ w3, (w1.alloc (.cells (ESt.cells zeroSt).toArray 88)).setRow w1.heap.size (ESt.cells zeroSt).toArray = w3 := ⟨_, rfl⟩
  rw [hw3]
  have q3 : Below W.heap.size W w3 := by rw [← hw3]; exact Q.out.trans ((row_inS (Nat.le_refl _) (below_new w1 _)).mono Q.out.size)
  have J3 := Lib.hid (CJ.out.grow HB.out q3 J0.out)
  generalize w1.heap.size = X at *
  clear q3 hw3 Z1 Q
  refine wpIn_block ?_
  gi_loopw [4] (fun t wr => t = .bool false ∧ wr = w3) (fun t wr => 0)
  case atStart => exact ⟨rfl, rfl⟩
  case round =>
    obtain ⟨rfl, rfl⟩ := hrel
    gi_wp2
    refine ⟨fun f e => (by cases e), ?_⟩
    gi_wp2
    refine bodyPost_end (results_none rfl _ _ _) rfl ?_
    exact ⟨⟨_, rfl⟩, .inl ⟨[], rfl, J3.out⟩⟩
theorem snall_any {w : World} {p : Option Addr} (h : Ns zsd w p) : Calls Try.prog 51 #[.pointer p] w (AllO w (fun k => p = some ⟨k, 0, none⟩) []) := by
  refine (sall_calls _ w).mono ?_
  rintro e w' ⟨rfl, rfl⟩
  have b := below_new w (.cells #[.pointer p] 42)
  refine ⟨_, _, fun k => k = w.heap.size ∨ p = some ⟨k, 0, none⟩, rfl, b, senters_all, fun k hk => ?_, ?_⟩
  · rcases hk with rfl | hk
    · exact ⟨by simp, .inr (Nat.le_refl _)⟩
    · refine ⟨Nat.lt_of_lt_of_le ?_ b.size, .inl hk⟩
      rcases h with e | ⟨g, e, hg⟩
      · rw [e] at hk; cases hk
      · rw [e] at hk; cases hk; exact (Array.getElem?_eq_some_iff.1 hg).1
  · intro W2 S n fr st wf ap hn l0 J Jx W hW cJ _ hY h0
    have cb := heap_alloc_new w (.cells #[.pointer p] 42)
    have c2 : W2.heap[w.heap.size]? = some (.cells #[.pointer p] 42 (0, 0)) := (fr.at' _ (by simp) (fun c => c (.inl rfl))).trans cb
    have n2 : Ns zsd W2 p := by
      rcases h.below b with e | ⟨g, e, hg⟩
      · exact .inl e
      · exact .inr ⟨g, e, (fr.at' g (Array.getElem?_eq_some_iff.1 hg).1 (fun c => c (.inr e))).trans hg⟩
    exact snall1_in n l0 w.heap.size p J Jx W (Nat.le_refl _) cJ (cell_below (by rw [cell_of_row _ _ _ _ _ _ c2]; rfl) hW (Nat.le_refl _)) (n2.below hW) h0
end Go.Proofs.Ytdcjgcjnfcahkaa
