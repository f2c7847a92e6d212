/- The program's side: Add. -/
import Derived.Test.YtdcjgcjnfcahkaaG19
namespace Go.Proofs.Ytdcjgcjnfcahkaa
open Go.RowKit Go.Shelf
set_option linter.unusedVariables false
set_option linter.unusedSimpArgs false

theorem plB_spec (buy : Bool) (p : Int) (l : List St) : plB buy p l ≤ l.length ∧ (∀ (j : Nat) (y : St), j < plB buy p l → l[j]? = some y → btr buy p y.o.pr = false) ∧ ∀ y, l[plB buy p l]? = some y → btr buy p y.o.pr = true := by
  unfold plB
  cases e : l.findIdx? (worse buy p) with
  | none =>
    have h := List.findIdx?_eq_none_iff.1 e
    refine ⟨Nat.le_refl _, fun j y _ hy => h y (List.mem_of_getElem? hy), fun y hy => ?_⟩
    have := (List.getElem?_eq_some_iff.1 hy).1
    simp at this
  | some k =>
    obtain ⟨hk, hp, hn⟩ := List.findIdx?_eq_some_iff_getElem.1 e
    refine ⟨Nat.le_of_lt hk, fun j y hj hy => ?_, fun y hy => ?_⟩
    · obtain ⟨hj', rfl⟩ := List.getElem?_eq_some_iff.1 hy
      have := hn j hj
      unfold worse at this
      simpa using this
    · have hy' : l[k]? = some y := hy
      rw [List.getElem?_eq_getElem hk] at hy'
      cases hy'
      exact hp
/-- Where an order that comes is put. -/
theorem ins_at {buy : Bool} {o : Or} : ∀ {os : List Or} {k : Nat}, k ≤ os.length → (∀ (j : Nat) (y : Or), j < k → os[j]? = some y → btr buy o.pr y.pr = false) → (∀ y, os[k]? = some y → btr buy o.pr y.pr = true) → insO buy o os = os.take k ++ o :: os.drop k
  | [], k, hk, _, _ => by
    have : k = 0 := by simpa using hk
    subst this; rfl
  | x :: r, 0, _, _, h2 => by
    rw [ins_yes (h2 x rfl)]; rfl
  | x :: r, k + 1, hk, h1, h2 => by
    rw [ins_no (h1 0 x (by omega) rfl), ins_at (k := k) (by simpa using hk) (fun j y hj hy => h1 (j + 1) y (by omega) (by simpa using hy)) (fun y hy => h2 y (by simpa using hy))]
    rfl
theorem osOf_ins (l : List St) (x : St) (k : Nat) : osOf (l.take k ++ x :: l.drop k) = (osOf l).take k ++ x.o :: (osOf l).drop k := by simp [osOf]
theorem asc_ins {buy : Bool} {l : List St} {o : Or} {c : Int} (h : l.Pairwise fun x y => ahB buy x y = true) (hm : ∀ x, x ∈ l → x.cm ≤ c) {k : Nat} (hk : k ≤ l.length) (h1 : ∀ (j : Nat) (y : St), j < k → l[j]? = some y → btr buy o.pr y.o.pr = false) (h2 : ∀ y, l[k]? = some y → btr buy o.pr y.o.pr = true) :
    (l.take k ++ (St.mk o (c + 1)) :: l.drop k).Pairwise fun x y => ahB buy x y = true := by
  have e := List.take_append_drop k l
  have hp := h
  rw [← e] at hp
  obtain ⟨p1, p2, p3⟩ := List.pairwise_append.1 hp
  refine List.pairwise_append.2 ⟨p1, List.pairwise_cons.2 ⟨fun y hy => ?_, p2⟩, fun x hx y hy => ?_⟩
  · have key : btr buy o.pr y.o.pr = true := by
      cases hd : l.drop k with
      | nil => rw [hd] at hy; simp at hy
      | cons z r =>
        have hz : l[k]? = some z := by
          have : (l.drop k)[0]? = some z := by rw [hd]; rfl
          simpa using this
        rw [hd] at hy p2
        rcases List.mem_cons.1 hy with rfl | hy
        · exact h2 _ hz
        · have q := (List.pairwise_cons.1 p2).1 y hy
          have hb := h2 _ hz
          unfold ahB at q
          split at q
          · rename_i e; rw [← e]; exact hb
          · exact btr_tr hb (btr_as q)
    unfold ahB
    rw [if_neg]
    · exact key
    · intro e
      have e : o.pr = y.o.pr := e
      rw [e, btr_irr] at key
      cases key
  · rcases List.mem_cons.1 hy with rfl | hy
    · obtain ⟨j, hj⟩ := List.getElem?_of_mem hx
      have hjk : j < k := by
        have := (List.getElem?_eq_some_iff.1 hj).1
        rw [List.length_take] at this
        omega
      have hj' : l[j]? = some x := by rw [List.getElem?_take, if_pos hjk] at hj; exact hj
      have hb := h1 j x hjk hj'
      unfold ahB
      split
      · have := hm x (List.mem_of_getElem? hj')
        exact decide_eq_true (by show x.cm < c + 1; omega)
      · rename_i ne
        cases hq : btr buy x.o.pr o.pr
        · exact absurd (btr_tot hq hb) ne
        · rfl
    · exact p3 x hx y hy
theorem built_so (o : Or) (c : Int) : Try.prog.built 88 [(0, .agg (EO.cells o).toArray), (1, .int .u64 c)] = some (ESt.cells ⟨o, c⟩).toArray := by kernel_rfl
theorem yields_build_so {ops : Array Oper} {S : World → Prop} {op : Oper} {a : Act} (hw : Region.wanted op (yielded ops a.tmps) = true) (x y : Operand) (ho : op.op = .build 88 #[(0, x), (1, y)]) (o : Or) (c : Int)
    (hx : a.eval x = .agg (EO.cells o).toArray) (hy : a.eval y = .int .u64 c) : YieldsIf Try.prog ops S op (.agg (ESt.cells ⟨o, c⟩).toArray) a :=
  .inl ⟨hw, fun w _ => by
    have e : ((#[(0, x), (1, y)] : Array (Nat × Operand)).map fun (i, x) => (i, a.eval x)).toList = [(0, .agg (EO.cells o).toArray), (1, .int .u64 c)] := by simp [hx, hy]
    have hb := run_build w 88 ((#[(0, x), (1, y)] : Array (Nat × Operand)).map fun (i, x) => (i, a.eval x)) (ESt.cells ⟨o, c⟩).toArray (by rw [e]; exact built_so o c)
    unfold execOp
    simp only [ho, Sem.run_bind]
    rw [hb]
    rfl⟩
theorem six {α : Type} {l : Array α} (h : l.size = 6) : ∃ a b c d e f, l = #[a, b, c, d, e, f] := by
  obtain ⟨l⟩ := l
  match l, h with
  | [a, b, c, d, e, f], _ => exact ⟨a, b, c, d, e, f, rfl⟩
theorem fill_so (x : St) (z : Value) (h : z.cells.size = ESt.N) : Instr.fill (fun i => some (i * ESt.N, ESt.N)) ((Array.range (1 * ESt.N)).map (z.cells[· % z.cells.size]!)) [(0, .agg (ESt.cells x).toArray)] = some (ESt.cells x).toArray := by
  obtain ⟨a, b, c, d, e, f, hz⟩ := six (show z.cells.size = 6 from h)
  rw [hz]
  obtain ⟨⟨nu, ac, bu, pr, le⟩, cm⟩ := x
  kernel_rfl
section
variable {g : Nat} {v : Value} {buy : Bool} {c : Int} {l : List St} {w : World}
theorem Ds.came {W : World} (h : Ds W g v buy c l) (hc : c + 1 ≤ 18446744073709551615) : Ds (W.setCell ⟨g, 2, none⟩ (.int .u64 (c + 1))) g v buy (c + 1) l :=
  ⟨heap_setCell_same W g 2 _ _ _ h.blk, gown_same h.own (fun k hk => heap_setCell_other W ⟨g, 2, none⟩ k _ (h.apart k hk)), h.inv, fun x hx => by have := h.cm x hx; omega, h.asc, by have := h.nn; omega⟩
set_option maxRecDepth 100000 in
theorem sadd_nc {p : Option Addr} {o : Or} (M : ∀ W, Below w.heap.size w W → Calls Try.prog 48 #[.pointer p] W fun e w' => e = .returned (.bool true) ∧ W = w') : Calls Try.prog 44 #[.pointer p, .agg (EO.cells o).toArray] w fun e w' => e = .returned (.int .i64 1) ∧ Below w.heap.size w w' := by
  have B := below_new w (.cells (EO.cells o).toArray 31)
  have M := M _ B
  have BB := Lib.hid B
  clear B
  go_enter Try.func44, Try.ntmps44
  go_wp2_with fail
  refine M.mono ?_; rintro e w2 ⟨rfl, rfl⟩
  go_wp2_with fail
  go_ret
  exact ⟨rfl, BB.out⟩
set_option maxRecDepth 100000 in
set_option maxHeartbeats 2000000 in
theorem sadd_may {o : Or} (h : Ds w g v buy c l) (ok : o.ok) (hm : mayO o = false) : Calls Try.prog 44 #[.pointer (some ⟨g, 0, none⟩), .agg (EO.cells o).toArray] w fun e w' => e = .returned (.int .i64 2) ∧ Below w.heap.size w w' := by
  obtain ⟨W1, hW1⟩ : ∃ W1, w.alloc (.cells (EO.cells o).toArray 31) = W1 := ⟨_, rfl⟩
  have b1 : Below w.heap.size w W1 := by rw [← hW1]; exact below_new w _
  have x1 : EO.Bx 31 W1 w.heap.size o := by rw [← hW1]; exact gbx_new w o
  have s1 : W1.heap.size = w.heap.size + 1 := by rw [← hW1]; simp
  have h1 := h.below b1
  have M := smiss_no h1.c0
  have MY := Lib.hid fun W => smay_any o W ok
  have HW := Lib.hid hW1
  have B1 := Lib.hid b1
  have H1 := Lib.hid h1
  have HH := Lib.hid h
  have S1 := Lib.hid s1
  have XB := Lib.hid x1
  have X0 := Lib.hid fun (W : World) (q : Below W1.heap.size W1 W) => (show W.cell? ⟨w.heap.size, 0, none⟩ = some (.int .u64 o.nu) from gbx_cell (gbx_below x1 q) 0)
  have X2 := Lib.hid fun (W : World) (q : Below W1.heap.size W1 W) => (show W.cell? ⟨w.heap.size, 2, none⟩ = some (.bool o.bu) from gbx_cell (gbx_below x1 q) 2)
  have XR := Lib.hid fun (W : World) (q : Below W1.heap.size W1 W) => gbx_rng (gbx_below x1 q)
  have C1 := Lib.hid fun (W : World) (q : Below W1.heap.size W1 W) => (h1.below q).c1
  have K3 := Lib.hid fun (W : World) (q : Below W1.heap.size W1 W) => (h1.below q).c3
  have FI := Lib.hid fun (W : World) (q : Below W1.heap.size W1 W) => sfind_any o.nu (h1.below q)
  rw [hm] at MY
  clear h h1 hW1 b1 x1 s1 hm
  go_enter Try.func44, Try.ntmps44
  go_wp2_with fail
  rw [HW.out]
  refine M.mono ?_; rintro e w2 ⟨rfl, rfl⟩
  go_wp2_with fail
  refine wp_region_held_drew (S := fun U => Below W1.heap.size W1 U) (by kernel_rfl) (Below.refl _ _).drew (fun hH => ?_)
  refine wpAnyH_take (i := 0) (v := .agg (EO.cells o).toArray) rfl (by kernel_rfl) (by kernel_rfl) (by kernel_rfl) (fun _ _ _ h => h) (gyields_load TO (by rfl) (.tmp 3) rfl w.heap.size 0 rfl XR.out) (by assumption) ?_
  try simp only [List.getElem_toArray, List.getElem_cons_zero, Act.put, List.setIfInBounds_toArray, List.set_cons_zero, List.set_cons_succ]
  refine wpAnyH_ready (rs := [1]) (by decide +kernel) (by simp) (AllReadyH.cons rfl (fun KQ hK => ?_) AllReadyH.nil)
  go_simp
  refine (MY.out _).mono ?_; rintro e0 W2 ⟨rfl, q1⟩
  have hH := hH.trans (q1.mono hH.size)
  refine hK.out _ _ hH (fun _ => ?_)
  clear hK q1
  try simp only [List.setIfInBounds_toArray, List.set_cons_zero, List.set_cons_succ]
  refine wpAnyH_take (i := 2) (v := .bool true) rfl (by kernel_rfl) (by kernel_rfl) (by kernel_rfl) (fun _ _ _ h => h) (.inl ⟨by rfl, ?_⟩) (by assumption) ?_
  · intro W hW; go_simp
  try simp only [List.getElem_toArray, List.getElem_cons_zero, List.getElem_cons_succ, Act.put, List.setIfInBounds_toArray, List.set_cons_zero, List.set_cons_succ]
  refine wpAnyH_take (i := 3) (v := .bool true) rfl (by kernel_rfl) (by kernel_rfl) (by kernel_rfl) (fun _ _ _ h => h) (.inl ⟨by rfl, ?_⟩) (by assumption) ?_
  · intro W hW; go_simp
  try simp only [List.getElem_toArray, List.getElem_cons_zero, List.getElem_cons_succ, Act.put, List.setIfInBounds_toArray, List.set_cons_zero, List.set_cons_succ]
  refine wpAnyH_take (i := 4) (v := undef) rfl (by kernel_rfl) (by kernel_rfl) (by kernel_rfl) (fun _ _ _ h => h) (.inr ⟨by rfl, rfl⟩) (by assumption) ?_
  try simp only [List.getElem_toArray, List.getElem_cons_zero, List.getElem_cons_succ, Act.put, List.setIfInBounds_toArray, List.set_cons_zero, List.set_cons_succ]
  refine wpAnyH_take (i := 5) (v := undef) rfl (by kernel_rfl) (by kernel_rfl) (by kernel_rfl) (fun _ _ _ h => h) (.inr ⟨by rfl, rfl⟩) (by assumption) ?_
  try simp only [List.getElem_toArray, List.getElem_cons_zero, List.getElem_cons_succ, Act.put, List.setIfInBounds_toArray, List.set_cons_zero, List.set_cons_succ]
  refine wpAnyH_take (i := 6) (v := undef) rfl (by kernel_rfl) (by kernel_rfl) (by kernel_rfl) (fun _ _ _ h => h) (.inr ⟨by rfl, rfl⟩) (by assumption) ?_
  try simp only [List.getElem_toArray, List.getElem_cons_zero, List.getElem_cons_succ, Act.put, List.setIfInBounds_toArray, List.set_cons_zero, List.set_cons_succ]
  refine wpAnyH_take (i := 7) (v := undef) rfl (by kernel_rfl) (by kernel_rfl) (by kernel_rfl) (fun _ _ _ h => h) (.inr ⟨by rfl, rfl⟩) (by assumption) ?_
  try simp only [List.getElem_toArray, List.getElem_cons_zero, List.getElem_cons_succ, Act.put, List.setIfInBounds_toArray, List.set_cons_zero, List.set_cons_succ]
  refine wpAnyH_take (i := 8) (v := undef) rfl (by kernel_rfl) (by kernel_rfl) (by kernel_rfl) (fun _ _ _ h => h) (.inr ⟨by rfl, rfl⟩) (by assumption) ?_
  try simp only [List.getElem_toArray, List.getElem_cons_zero, List.getElem_cons_succ, Act.put, List.setIfInBounds_toArray, List.set_cons_zero, List.set_cons_succ]
  refine wpAnyH_take (i := 9) (v := undef) rfl (by kernel_rfl) (by kernel_rfl) (by kernel_rfl) (fun _ _ _ h => h) (.inr ⟨by rfl, rfl⟩) (by assumption) ?_
  try simp only [List.getElem_toArray, List.getElem_cons_zero, List.getElem_cons_succ, Act.put, List.setIfInBounds_toArray, List.set_cons_zero, List.set_cons_succ]
  refine wpAnyH_take (i := 10) (v := undef) rfl (by kernel_rfl) (by kernel_rfl) (by kernel_rfl) (fun _ _ _ h => h) (.inr ⟨by rfl, rfl⟩) (by assumption) ?_
  try simp only [List.getElem_toArray, List.getElem_cons_zero, List.getElem_cons_succ, Act.put, List.setIfInBounds_toArray, List.set_cons_zero, List.set_cons_succ]
  refine wpAnyH_take (i := 11) (v := .bool true) rfl (by kernel_rfl) (by kernel_rfl) (by kernel_rfl) (fun _ _ _ h => h) (.inl ⟨by rfl, ?_⟩) (by assumption) ?_
  · intro W hW; go_simp
  try simp only [List.getElem_toArray, List.getElem_cons_zero, List.getElem_cons_succ, Act.put, List.setIfInBounds_toArray, List.set_cons_zero, List.set_cons_succ]
  refine wpAnyH_take (i := 12) (v := .bool true) rfl (by kernel_rfl) (by kernel_rfl) (by kernel_rfl) (fun _ _ _ h => h) (.inl ⟨by rfl, ?_⟩) (by assumption) ?_
  · intro W hW; go_simp
  try simp only [List.getElem_toArray, List.getElem_cons_zero, List.getElem_cons_succ, Act.put, List.setIfInBounds_toArray, List.set_cons_zero, List.set_cons_succ]
  refine wpAnyH_done (by decide +kernel) ?_ _
  have Q2 := Lib.hid hH
  clear hH
  go_wp2_with fail
  go_ret
  exact ⟨rfl, B1.out.trans (Q2.out.mono B1.out.size)⟩
set_option maxRecDepth 100000 in
set_option maxHeartbeats 2000000 in
theorem sadd_bu {o : Or} (h : Ds w g v buy c l) (ok : o.ok) (hm : mayO o = true) (hb : (o.bu == buy) = false) : Calls Try.prog 44 #[.pointer (some ⟨g, 0, none⟩), .agg (EO.cells o).toArray] w fun e w' => e = .returned (.int .i64 2) ∧ Below w.heap.size w w' := by
  obtain ⟨W1, hW1⟩ : ∃ W1, w.alloc (.cells (EO.cells o).toArray 31) = W1 := ⟨_, rfl⟩
  have b1 : Below w.heap.size w W1 := by rw [← hW1]; exact below_new w _
  have x1 : EO.Bx 31 W1 w.heap.size o := by rw [← hW1]; exact gbx_new w o
  have s1 : W1.heap.size = w.heap.size + 1 := by rw [← hW1]; simp
  have h1 := h.below b1
  have M := smiss_no h1.c0
  have MY := Lib.hid fun W => smay_any o W ok
  have HW := Lib.hid hW1
  have B1 := Lib.hid b1
  have H1 := Lib.hid h1
  have HH := Lib.hid h
  have S1 := Lib.hid s1
  have XB := Lib.hid x1
  have X0 := Lib.hid fun (W : World) (q : Below W1.heap.size W1 W) => (show W.cell? ⟨w.heap.size, 0, none⟩ = some (.int .u64 o.nu) from gbx_cell (gbx_below x1 q) 0)
  have X2 := Lib.hid fun (W : World) (q : Below W1.heap.size W1 W) => (show W.cell? ⟨w.heap.size, 2, none⟩ = some (.bool o.bu) from gbx_cell (gbx_below x1 q) 2)
  have XR := Lib.hid fun (W : World) (q : Below W1.heap.size W1 W) => gbx_rng (gbx_below x1 q)
  have C1 := Lib.hid fun (W : World) (q : Below W1.heap.size W1 W) => (h1.below q).c1
  have K3 := Lib.hid fun (W : World) (q : Below W1.heap.size W1 W) => (h1.below q).c3
  have FI := Lib.hid fun (W : World) (q : Below W1.heap.size W1 W) => sfind_any o.nu (h1.below q)
  rw [hm] at MY
  have hne : (o.bu != buy) = true := by rw [bne, hb]; rfl
  clear h h1 hW1 b1 x1 s1 hm
  go_enter Try.func44, Try.ntmps44
  go_wp2_with fail
  rw [HW.out]
  refine M.mono ?_; rintro e w2 ⟨rfl, rfl⟩
  go_wp2_with fail
  refine wp_region_held_drew (S := fun U => Below W1.heap.size W1 U) (by kernel_rfl) (Below.refl _ _).drew (fun hH => ?_)
  refine wpAnyH_take (i := 0) (v := .agg (EO.cells o).toArray) rfl (by kernel_rfl) (by kernel_rfl) (by kernel_rfl) (fun _ _ _ h => h) (gyields_load TO (by rfl) (.tmp 3) rfl w.heap.size 0 rfl XR.out) (by assumption) ?_
  try simp only [List.getElem_toArray, List.getElem_cons_zero, Act.put, List.setIfInBounds_toArray, List.set_cons_zero, List.set_cons_succ]
  refine wpAnyH_ready (rs := [1]) (by decide +kernel) (by simp) (AllReadyH.cons rfl (fun KQ hK => ?_) AllReadyH.nil)
  go_simp
  refine (MY.out _).mono ?_; rintro e0 W2 ⟨rfl, q1⟩
  have hH := hH.trans (q1.mono hH.size)
  refine hK.out _ _ hH (fun _ => ?_)
  clear hK q1
  try simp only [List.setIfInBounds_toArray, List.set_cons_zero, List.set_cons_succ]
  refine wpAnyH_take (i := 2) (v := .bool false) rfl (by kernel_rfl) (by kernel_rfl) (by kernel_rfl) (fun _ _ _ h => h) (.inl ⟨by rfl, ?_⟩) (by assumption) ?_
  · intro W hW; go_simp
  try simp only [List.getElem_toArray, List.getElem_cons_zero, List.getElem_cons_succ, Act.put, List.setIfInBounds_toArray, List.set_cons_zero, List.set_cons_succ]
  refine wpAnyH_take (i := 3) (v := .bool false) rfl (by kernel_rfl) (by kernel_rfl) (by kernel_rfl) (fun _ _ _ h => h) (.inl ⟨by rfl, ?_⟩) (by assumption) ?_
  · intro W hW; go_simp
  try simp only [List.getElem_toArray, List.getElem_cons_zero, List.getElem_cons_succ, Act.put, List.setIfInBounds_toArray, List.set_cons_zero, List.set_cons_succ]
  refine wpAnyH_take (i := 4) (v := .pointer (some ⟨w.heap.size, 2, none⟩)) rfl (by kernel_rfl) (by kernel_rfl) (by kernel_rfl) (fun _ _ _ h => h) (.inl ⟨by rfl, ?_⟩) (by assumption) ?_
  · intro W hW; go_simp
  try simp only [List.getElem_toArray, List.getElem_cons_zero, List.getElem_cons_succ, Act.put, List.setIfInBounds_toArray, List.set_cons_zero, List.set_cons_succ]
  refine wpAnyH_take (i := 5) (v := .bool o.bu) rfl (by kernel_rfl) (by kernel_rfl) (by kernel_rfl) (fun _ _ _ h => h) (.inl ⟨by rfl, ?_⟩) (by assumption) ?_
  · intro W hW; have h1 := X2.out W hW; go_simp
  try simp only [List.getElem_toArray, List.getElem_cons_zero, List.getElem_cons_succ, Act.put, List.setIfInBounds_toArray, List.set_cons_zero, List.set_cons_succ]
  refine wpAnyH_take (i := 6) (v := .pointer (some ⟨g, 0, none⟩)) rfl (by kernel_rfl) (by kernel_rfl) (by kernel_rfl) (fun _ _ _ h => h) (.inl ⟨by rfl, ?_⟩) (by assumption) ?_
  · intro W hW; go_simp
  try simp only [List.getElem_toArray, List.getElem_cons_zero, List.getElem_cons_succ, Act.put, List.setIfInBounds_toArray, List.set_cons_zero, List.set_cons_succ]
  refine wpAnyH_take (i := 7) (v := .pointer (some ⟨g, 0, none⟩)) rfl (by kernel_rfl) (by kernel_rfl) (by kernel_rfl) (fun _ _ _ h => h) (.inl ⟨by rfl, ?_⟩) (by assumption) ?_
  · intro W hW; go_simp
  try simp only [List.getElem_toArray, List.getElem_cons_zero, List.getElem_cons_succ, Act.put, List.setIfInBounds_toArray, List.set_cons_zero, List.set_cons_succ]
  refine wpAnyH_take (i := 8) (v := .pointer (some ⟨g, 1, none⟩)) rfl (by kernel_rfl) (by kernel_rfl) (by kernel_rfl) (fun _ _ _ h => h) (.inl ⟨by rfl, ?_⟩) (by assumption) ?_
  · intro W hW; go_simp
  try simp only [List.getElem_toArray, List.getElem_cons_zero, List.getElem_cons_succ, Act.put, List.setIfInBounds_toArray, List.set_cons_zero, List.set_cons_succ]
  refine wpAnyH_take (i := 9) (v := .bool buy) rfl (by kernel_rfl) (by kernel_rfl) (by kernel_rfl) (fun _ _ _ h => h) (.inl ⟨by rfl, ?_⟩) (by assumption) ?_
  · intro W hW; have h1 := C1.out W hW; go_simp
  try simp only [List.getElem_toArray, List.getElem_cons_zero, List.getElem_cons_succ, Act.put, List.setIfInBounds_toArray, List.set_cons_zero, List.set_cons_succ]
  refine wpAnyH_take (i := 10) (v := .bool true) rfl (by kernel_rfl) (by kernel_rfl) (by kernel_rfl) (fun _ _ _ h => h) (.inl ⟨by rfl, ?_⟩) (by assumption) ?_
  · intro W hW; go_simp
  try simp only [List.getElem_toArray, List.getElem_cons_zero, List.getElem_cons_succ, Act.put, List.setIfInBounds_toArray, List.set_cons_zero, List.set_cons_succ]
  refine wpAnyH_take (i := 11) (v := .bool true) rfl (by kernel_rfl) (by kernel_rfl) (by kernel_rfl) (fun _ _ _ h => h) (.inl ⟨by rfl, ?_⟩) (by assumption) ?_
  · intro W hW; go_simp
  try simp only [List.getElem_toArray, List.getElem_cons_zero, List.getElem_cons_succ, Act.put, List.setIfInBounds_toArray, List.set_cons_zero, List.set_cons_succ]
  refine wpAnyH_take (i := 12) (v := .bool true) rfl (by kernel_rfl) (by kernel_rfl) (by kernel_rfl) (fun _ _ _ h => h) (.inl ⟨by rfl, ?_⟩) (by assumption) ?_
  · intro W hW; go_simp
  try simp only [List.getElem_toArray, List.getElem_cons_zero, List.getElem_cons_succ, Act.put, List.setIfInBounds_toArray, List.set_cons_zero, List.set_cons_succ]
  refine wpAnyH_done (by decide +kernel) ?_ _
  have Q2 := Lib.hid hH
  clear hH
  go_wp2_with fail
  go_ret
  exact ⟨rfl, B1.out.trans (Q2.out.mono B1.out.size)⟩
set_option maxRecDepth 100000 in
set_option maxHeartbeats 2000000 in
theorem sadd_twice {o : Or} (h : Ds w g v buy c l) (ok : o.ok) (hm : mayO o = true) (hb : (o.bu == buy) = true) {k : Nat} (hk : gidx (nuIs o.nu) l = k) : Calls Try.prog 44 #[.pointer (some ⟨g, 0, none⟩), .agg (EO.cells o).toArray] w fun e w' => e = .returned (.int .i64 8) ∧ Below w.heap.size w w' := by
  obtain ⟨W1, hW1⟩ : ∃ W1, w.alloc (.cells (EO.cells o).toArray 31) = W1 := ⟨_, rfl⟩
  have b1 : Below w.heap.size w W1 := by rw [← hW1]; exact below_new w _
  have x1 : EO.Bx 31 W1 w.heap.size o := by rw [← hW1]; exact gbx_new w o
  have s1 : W1.heap.size = w.heap.size + 1 := by rw [← hW1]; simp
  have h1 := h.below b1
  have M := smiss_no h1.c0
  have MY := Lib.hid fun W => smay_any o W ok
  have HW := Lib.hid hW1
  have B1 := Lib.hid b1
  have H1 := Lib.hid h1
  have HH := Lib.hid h
  have S1 := Lib.hid s1
  have XB := Lib.hid x1
  have X0 := Lib.hid fun (W : World) (q : Below W1.heap.size W1 W) => (show W.cell? ⟨w.heap.size, 0, none⟩ = some (.int .u64 o.nu) from gbx_cell (gbx_below x1 q) 0)
  have X2 := Lib.hid fun (W : World) (q : Below W1.heap.size W1 W) => (show W.cell? ⟨w.heap.size, 2, none⟩ = some (.bool o.bu) from gbx_cell (gbx_below x1 q) 2)
  have XR := Lib.hid fun (W : World) (q : Below W1.heap.size W1 W) => gbx_rng (gbx_below x1 q)
  have C1 := Lib.hid fun (W : World) (q : Below W1.heap.size W1 W) => (h1.below q).c1
  have K3 := Lib.hid fun (W : World) (q : Below W1.heap.size W1 W) => (h1.below q).c3
  have FI := Lib.hid fun (W : World) (q : Below W1.heap.size W1 W) => sfind_any o.nu (h1.below q)
  rw [hm] at MY
  rw [hk] at FI
  have hne : (o.bu != buy) = false := by rw [bne, hb]; rfl
  have hge : decide ((0 : Int) ≤ (k : Int)) = true := decide_eq_true (by omega)
  clear h h1 hW1 b1 x1 s1 hm hk
  go_enter Try.func44, Try.ntmps44
  go_wp2_with fail
  rw [HW.out]
  refine M.mono ?_; rintro e w2 ⟨rfl, rfl⟩
  go_wp2_with fail
  refine wp_region_held_drew (S := fun U => Below W1.heap.size W1 U) (by kernel_rfl) (Below.refl _ _).drew (fun hH => ?_)
  refine wpAnyH_take (i := 0) (v := .agg (EO.cells o).toArray) rfl (by kernel_rfl) (by kernel_rfl) (by kernel_rfl) (fun _ _ _ h => h) (gyields_load TO (by rfl) (.tmp 3) rfl w.heap.size 0 rfl XR.out) (by assumption) ?_
  try simp only [List.getElem_toArray, List.getElem_cons_zero, Act.put, List.setIfInBounds_toArray, List.set_cons_zero, List.set_cons_succ]
  refine wpAnyH_ready (rs := [1]) (by decide +kernel) (by simp) (AllReadyH.cons rfl (fun KQ hK => ?_) AllReadyH.nil)
  go_simp
  refine (MY.out _).mono ?_; rintro e0 W2 ⟨rfl, q1⟩
  have hH := hH.trans (q1.mono hH.size)
  refine hK.out _ _ hH (fun _ => ?_)
  clear hK q1
  try simp only [List.setIfInBounds_toArray, List.set_cons_zero, List.set_cons_succ]
  refine wpAnyH_take (i := 2) (v := .bool false) rfl (by kernel_rfl) (by kernel_rfl) (by kernel_rfl) (fun _ _ _ h => h) (.inl ⟨by rfl, ?_⟩) (by assumption) ?_
  · intro W hW; go_simp
  try simp only [List.getElem_toArray, List.getElem_cons_zero, List.getElem_cons_succ, Act.put, List.setIfInBounds_toArray, List.set_cons_zero, List.set_cons_succ]
  refine wpAnyH_take (i := 3) (v := .bool false) rfl (by kernel_rfl) (by kernel_rfl) (by kernel_rfl) (fun _ _ _ h => h) (.inl ⟨by rfl, ?_⟩) (by assumption) ?_
  · intro W hW; go_simp
  try simp only [List.getElem_toArray, List.getElem_cons_zero, List.getElem_cons_succ, Act.put, List.setIfInBounds_toArray, List.set_cons_zero, List.set_cons_succ]
  refine wpAnyH_take (i := 4) (v := .pointer (some ⟨w.heap.size, 2, none⟩)) rfl (by kernel_rfl) (by kernel_rfl) (by kernel_rfl) (fun _ _ _ h => h) (.inl ⟨by rfl, ?_⟩) (by assumption) ?_
  · intro W hW; go_simp
  try simp only [List.getElem_toArray, List.getElem_cons_zero, List.getElem_cons_succ, Act.put, List.setIfInBounds_toArray, List.set_cons_zero, List.set_cons_succ]
  refine wpAnyH_take (i := 5) (v := .bool o.bu) rfl (by kernel_rfl) (by kernel_rfl) (by kernel_rfl) (fun _ _ _ h => h) (.inl ⟨by rfl, ?_⟩) (by assumption) ?_
  · intro W hW; have h1 := X2.out W hW; go_simp
  try simp only [List.getElem_toArray, List.getElem_cons_zero, List.getElem_cons_succ, Act.put, List.setIfInBounds_toArray, List.set_cons_zero, List.set_cons_succ]
  refine wpAnyH_take (i := 6) (v := .pointer (some ⟨g, 0, none⟩)) rfl (by kernel_rfl) (by kernel_rfl) (by kernel_rfl) (fun _ _ _ h => h) (.inl ⟨by rfl, ?_⟩) (by assumption) ?_
  · intro W hW; go_simp
  try simp only [List.getElem_toArray, List.getElem_cons_zero, List.getElem_cons_succ, Act.put, List.setIfInBounds_toArray, List.set_cons_zero, List.set_cons_succ]
  refine wpAnyH_take (i := 7) (v := .pointer (some ⟨g, 0, none⟩)) rfl (by kernel_rfl) (by kernel_rfl) (by kernel_rfl) (fun _ _ _ h => h) (.inl ⟨by rfl, ?_⟩) (by assumption) ?_
  · intro W hW; go_simp
  try simp only [List.getElem_toArray, List.getElem_cons_zero, List.getElem_cons_succ, Act.put, List.setIfInBounds_toArray, List.set_cons_zero, List.set_cons_succ]
  refine wpAnyH_take (i := 8) (v := .pointer (some ⟨g, 1, none⟩)) rfl (by kernel_rfl) (by kernel_rfl) (by kernel_rfl) (fun _ _ _ h => h) (.inl ⟨by rfl, ?_⟩) (by assumption) ?_
  · intro W hW; go_simp
  try simp only [List.getElem_toArray, List.getElem_cons_zero, List.getElem_cons_succ, Act.put, List.setIfInBounds_toArray, List.set_cons_zero, List.set_cons_succ]
  refine wpAnyH_take (i := 9) (v := .bool buy) rfl (by kernel_rfl) (by kernel_rfl) (by kernel_rfl) (fun _ _ _ h => h) (.inl ⟨by rfl, ?_⟩) (by assumption) ?_
  · intro W hW; have h1 := C1.out W hW; go_simp
  try simp only [List.getElem_toArray, List.getElem_cons_zero, List.getElem_cons_succ, Act.put, List.setIfInBounds_toArray, List.set_cons_zero, List.set_cons_succ]
  refine wpAnyH_take (i := 10) (v := .bool false) rfl (by kernel_rfl) (by kernel_rfl) (by kernel_rfl) (fun _ _ _ h => h) (.inl ⟨by rfl, ?_⟩) (by assumption) ?_
  · intro W hW; go_simp
  try simp only [List.getElem_toArray, List.getElem_cons_zero, List.getElem_cons_succ, Act.put, List.setIfInBounds_toArray, List.set_cons_zero, List.set_cons_succ]
  refine wpAnyH_take (i := 11) (v := .bool false) rfl (by kernel_rfl) (by kernel_rfl) (by kernel_rfl) (fun _ _ _ h => h) (.inl ⟨by rfl, ?_⟩) (by assumption) ?_
  · intro W hW; go_simp
  try simp only [List.getElem_toArray, List.getElem_cons_zero, List.getElem_cons_succ, Act.put, List.setIfInBounds_toArray, List.set_cons_zero, List.set_cons_succ]
  refine wpAnyH_take (i := 12) (v := .bool false) rfl (by kernel_rfl) (by kernel_rfl) (by kernel_rfl) (fun _ _ _ h => h) (.inl ⟨by rfl, ?_⟩) (by assumption) ?_
  · intro W hW; go_simp
  try simp only [List.getElem_toArray, List.getElem_cons_zero, List.getElem_cons_succ, Act.put, List.setIfInBounds_toArray, List.set_cons_zero, List.set_cons_succ]
  refine wpAnyH_done (by decide +kernel) ?_ _
  have Q2 := Lib.hid hH
  have x0 := X0.out _ hH
  clear hH
  go_wp2_with fail
  refine (FI.out _ Q2.out).mono ?_; rintro e W3 ⟨rfl, q⟩
  have Q3 := Lib.hid (Q2.out.trans (q.mono Q2.out.size))
  have k3 := K3.out _ Q3.out
  clear q x0
  clear k3
  go_wp2_with fail
  go_ret
  exact ⟨rfl, B1.out.trans (Q3.out.mono B1.out.size)⟩
set_option maxRecDepth 100000 in
set_option maxHeartbeats 2000000 in
theorem sadd_full {o : Or} (h : Ds w g v buy c l) (ok : o.ok) (hm : mayO o = true) (hb : (o.bu == buy) = true) (hk : gidx (nuIs o.nu) l = -1) (hl : 100 ≤ l.length) : Calls Try.prog 44 #[.pointer (some ⟨g, 0, none⟩), .agg (EO.cells o).toArray] w fun e w' => e = .returned (.int .i64 9) ∧ Below w.heap.size w w' := by
  obtain ⟨W1, hW1⟩ : ∃ W1, w.alloc (.cells (EO.cells o).toArray 31) = W1 := ⟨_, rfl⟩
  have b1 : Below w.heap.size w W1 := by rw [← hW1]; exact below_new w _
  have x1 : EO.Bx 31 W1 w.heap.size o := by rw [← hW1]; exact gbx_new w o
  have s1 : W1.heap.size = w.heap.size + 1 := by rw [← hW1]; simp
  have h1 := h.below b1
  have M := smiss_no h1.c0
  have MY := Lib.hid fun W => smay_any o W ok
  have HW := Lib.hid hW1
  have B1 := Lib.hid b1
  have H1 := Lib.hid h1
  have HH := Lib.hid h
  have S1 := Lib.hid s1
  have XB := Lib.hid x1
  have X0 := Lib.hid fun (W : World) (q : Below W1.heap.size W1 W) => (show W.cell? ⟨w.heap.size, 0, none⟩ = some (.int .u64 o.nu) from gbx_cell (gbx_below x1 q) 0)
  have X2 := Lib.hid fun (W : World) (q : Below W1.heap.size W1 W) => (show W.cell? ⟨w.heap.size, 2, none⟩ = some (.bool o.bu) from gbx_cell (gbx_below x1 q) 2)
  have XR := Lib.hid fun (W : World) (q : Below W1.heap.size W1 W) => gbx_rng (gbx_below x1 q)
  have C1 := Lib.hid fun (W : World) (q : Below W1.heap.size W1 W) => (h1.below q).c1
  have K3 := Lib.hid fun (W : World) (q : Below W1.heap.size W1 W) => (h1.below q).c3
  have FI := Lib.hid fun (W : World) (q : Below W1.heap.size W1 W) => sfind_any o.nu (h1.below q)
  rw [hm] at MY
  rw [hk] at FI
  have hne : (o.bu != buy) = false := by rw [bne, hb]; rfl
  obtain ⟨A, cp, rfl, _⟩ := h.form
  have hge : decide ((100 : Int) ≤ (l.length : Int)) = true := decide_eq_true (by omega)
  clear h h1 hW1 b1 x1 s1 hm hk hl
  generalize l.length = m at *
  go_enter Try.func44, Try.ntmps44
  go_wp2_with fail
  rw [HW.out]
  refine M.mono ?_; rintro e w2 ⟨rfl, rfl⟩
  go_wp2_with fail
  refine wp_region_held_drew (S := fun U => Below W1.heap.size W1 U) (by kernel_rfl) (Below.refl _ _).drew (fun hH => ?_)
  refine wpAnyH_take (i := 0) (v := .agg (EO.cells o).toArray) rfl (by kernel_rfl) (by kernel_rfl) (by kernel_rfl) (fun _ _ _ h => h) (gyields_load TO (by rfl) (.tmp 3) rfl w.heap.size 0 rfl XR.out) (by assumption) ?_
  try simp only [List.getElem_toArray, List.getElem_cons_zero, Act.put, List.setIfInBounds_toArray, List.set_cons_zero, List.set_cons_succ]
  refine wpAnyH_ready (rs := [1]) (by decide +kernel) (by simp) (AllReadyH.cons rfl (fun KQ hK => ?_) AllReadyH.nil)
  go_simp
  refine (MY.out _).mono ?_; rintro e0 W2 ⟨rfl, q1⟩
  have hH := hH.trans (q1.mono hH.size)
  refine hK.out _ _ hH (fun _ => ?_)
  clear hK q1
  try simp only [List.setIfInBounds_toArray, List.set_cons_zero, List.set_cons_succ]
  refine wpAnyH_take (i := 2) (v := .bool false) rfl (by kernel_rfl) (by kernel_rfl) (by kernel_rfl) (fun _ _ _ h => h) (.inl ⟨by rfl, ?_⟩) (by assumption) ?_
  · intro W hW; go_simp
  try simp only [List.getElem_toArray, List.getElem_cons_zero, List.getElem_cons_succ, Act.put, List.setIfInBounds_toArray, List.set_cons_zero, List.set_cons_succ]
  refine wpAnyH_take (i := 3) (v := .bool false) rfl (by kernel_rfl) (by kernel_rfl) (by kernel_rfl) (fun _ _ _ h => h) (.inl ⟨by rfl, ?_⟩) (by assumption) ?_
  · intro W hW; go_simp
  try simp only [List.getElem_toArray, List.getElem_cons_zero, List.getElem_cons_succ, Act.put, List.setIfInBounds_toArray, List.set_cons_zero, List.set_cons_succ]
  refine wpAnyH_take (i := 4) (v := .pointer (some ⟨w.heap.size, 2, none⟩)) rfl (by kernel_rfl) (by kernel_rfl) (by kernel_rfl) (fun _ _ _ h => h) (.inl ⟨by rfl, ?_⟩) (by assumption) ?_
  · intro W hW; go_simp
  try simp only [List.getElem_toArray, List.getElem_cons_zero, List.getElem_cons_succ, Act.put, List.setIfInBounds_toArray, List.set_cons_zero, List.set_cons_succ]
  refine wpAnyH_take (i := 5) (v := .bool o.bu) rfl (by kernel_rfl) (by kernel_rfl) (by kernel_rfl) (fun _ _ _ h => h) (.inl ⟨by rfl, ?_⟩) (by assumption) ?_
  · intro W hW; have h1 := X2.out W hW; go_simp
  try simp only [List.getElem_toArray, List.getElem_cons_zero, List.getElem_cons_succ, Act.put, List.setIfInBounds_toArray, List.set_cons_zero, List.set_cons_succ]
  refine wpAnyH_take (i := 6) (v := .pointer (some ⟨g, 0, none⟩)) rfl (by kernel_rfl) (by kernel_rfl) (by kernel_rfl) (fun _ _ _ h => h) (.inl ⟨by rfl, ?_⟩) (by assumption) ?_
  · intro W hW; go_simp
  try simp only [List.getElem_toArray, List.getElem_cons_zero, List.getElem_cons_succ, Act.put, List.setIfInBounds_toArray, List.set_cons_zero, List.set_cons_succ]
  refine wpAnyH_take (i := 7) (v := .pointer (some ⟨g, 0, none⟩)) rfl (by kernel_rfl) (by kernel_rfl) (by kernel_rfl) (fun _ _ _ h => h) (.inl ⟨by rfl, ?_⟩) (by assumption) ?_
  · intro W hW; go_simp
  try simp only [List.getElem_toArray, List.getElem_cons_zero, List.getElem_cons_succ, Act.put, List.setIfInBounds_toArray, List.set_cons_zero, List.set_cons_succ]
  refine wpAnyH_take (i := 8) (v := .pointer (some ⟨g, 1, none⟩)) rfl (by kernel_rfl) (by kernel_rfl) (by kernel_rfl) (fun _ _ _ h => h) (.inl ⟨by rfl, ?_⟩) (by assumption) ?_
  · intro W hW; go_simp
  try simp only [List.getElem_toArray, List.getElem_cons_zero, List.getElem_cons_succ, Act.put, List.setIfInBounds_toArray, List.set_cons_zero, List.set_cons_succ]
  refine wpAnyH_take (i := 9) (v := .bool buy) rfl (by kernel_rfl) (by kernel_rfl) (by kernel_rfl) (fun _ _ _ h => h) (.inl ⟨by rfl, ?_⟩) (by assumption) ?_
  · intro W hW; have h1 := C1.out W hW; go_simp
  try simp only [List.getElem_toArray, List.getElem_cons_zero, List.getElem_cons_succ, Act.put, List.setIfInBounds_toArray, List.set_cons_zero, List.set_cons_succ]
  refine wpAnyH_take (i := 10) (v := .bool false) rfl (by kernel_rfl) (by kernel_rfl) (by kernel_rfl) (fun _ _ _ h => h) (.inl ⟨by rfl, ?_⟩) (by assumption) ?_
  · intro W hW; go_simp
  try simp only [List.getElem_toArray, List.getElem_cons_zero, List.getElem_cons_succ, Act.put, List.setIfInBounds_toArray, List.set_cons_zero, List.set_cons_succ]
  refine wpAnyH_take (i := 11) (v := .bool false) rfl (by kernel_rfl) (by kernel_rfl) (by kernel_rfl) (fun _ _ _ h => h) (.inl ⟨by rfl, ?_⟩) (by assumption) ?_
  · intro W hW; go_simp
  try simp only [List.getElem_toArray, List.getElem_cons_zero, List.getElem_cons_succ, Act.put, List.setIfInBounds_toArray, List.set_cons_zero, List.set_cons_succ]
  refine wpAnyH_take (i := 12) (v := .bool false) rfl (by kernel_rfl) (by kernel_rfl) (by kernel_rfl) (fun _ _ _ h => h) (.inl ⟨by rfl, ?_⟩) (by assumption) ?_
  · intro W hW; go_simp
  try simp only [List.getElem_toArray, List.getElem_cons_zero, List.getElem_cons_succ, Act.put, List.setIfInBounds_toArray, List.set_cons_zero, List.set_cons_succ]
  refine wpAnyH_done (by decide +kernel) ?_ _
  have Q2 := Lib.hid hH
  have x0 := X0.out _ hH
  clear hH
  go_wp2_with fail
  refine (FI.out _ Q2.out).mono ?_; rintro e W3 ⟨rfl, q⟩
  have Q3 := Lib.hid (Q2.out.trans (q.mono Q2.out.size))
  have k3 := K3.out _ Q3.out
  clear q x0
  go_wp2_with fail
  go_ret
  exact ⟨rfl, B1.out.trans (Q3.out.mono B1.out.size)⟩
set_option maxRecDepth 100000 in
set_option maxHeartbeats 16000000 in
theorem sadd_ok {o : Or} (h : Ds w g v buy c l) (ok : o.ok) (hm : mayO o = true) (hb : (o.bu == buy) = true) (hk : gidx (nuIs o.nu) l = -1) (hl : l.length < 100) (hc : c + 1 ≤ 18446744073709551615) (hi : InvO buy (osOf (l.take (plB buy o.pr l) ++ (St.mk o (c + 1)) :: l.drop (plB buy o.pr l)))) : Calls Try.prog 44 #[.pointer (some ⟨g, 0, none⟩), .agg (EO.cells o).toArray] w fun e w' => e = .returned (.int .i64 0) ∧ DsN w g v buy (c + 1) (l.take (plB buy o.pr l) ++ (St.mk o (c + 1)) :: l.drop (plB buy o.pr l)) w' := by
  obtain ⟨W1, hW1⟩ : ∃ W1, w.alloc (.cells (EO.cells o).toArray 31) = W1 := ⟨_, rfl⟩
  have b1 : Below w.heap.size w W1 := by rw [← hW1]; exact below_new w _
  have x1 : EO.Bx 31 W1 w.heap.size o := by rw [← hW1]; exact gbx_new w o
  have s1 : W1.heap.size = w.heap.size + 1 := by rw [← hW1]; simp
  have h1 := h.below b1
  have M := smiss_no h1.c0
  have MY := Lib.hid fun W => smay_any o W ok
  have HW := Lib.hid hW1
  have B1 := Lib.hid b1
  have H1 := Lib.hid h1
  have HH := Lib.hid h
  have S1 := Lib.hid s1
  have XB := Lib.hid x1
  have X0 := Lib.hid fun (W : World) (q : Below W1.heap.size W1 W) => (show W.cell? ⟨w.heap.size, 0, none⟩ = some (.int .u64 o.nu) from gbx_cell (gbx_below x1 q) 0)
  have X2 := Lib.hid fun (W : World) (q : Below W1.heap.size W1 W) => (show W.cell? ⟨w.heap.size, 2, none⟩ = some (.bool o.bu) from gbx_cell (gbx_below x1 q) 2)
  have XR := Lib.hid fun (W : World) (q : Below W1.heap.size W1 W) => gbx_rng (gbx_below x1 q)
  have C1 := Lib.hid fun (W : World) (q : Below W1.heap.size W1 W) => (h1.below q).c1
  have K3 := Lib.hid fun (W : World) (q : Below W1.heap.size W1 W) => (h1.below q).c3
  have FI := Lib.hid fun (W : World) (q : Below W1.heap.size W1 W) => sfind_any o.nu (h1.below q)
  rw [hm] at MY
  rw [hk] at FI
  have hne : (o.bu != buy) = false := by rw [bne, hb]; rfl
  obtain ⟨p1, p2, p3⟩ := plB_spec buy o.pr l
  have ASC := Lib.hid (asc_ins (o := o) h.asc (fun x hx => (h.cm x hx).2) p1 p2 p3)
  have CM : Hid (∀ y, y ∈ l.take (plB buy o.pr l) ++ (St.mk o (c + 1)) :: l.drop (plB buy o.pr l) → 0 ≤ y.cm ∧ y.cm ≤ c + 1) := Lib.hid fun y hy => by
    rcases List.mem_append.1 hy with q | q
    · have := h.cm y (List.mem_of_mem_take q); omega
    · rcases List.mem_cons.1 q with rfl | q
      · exact ⟨by have := h.nn; show 0 ≤ c + 1; omega, by show c + 1 ≤ c + 1; omega⟩
      · have := h.cm y (List.mem_of_mem_drop q); omega
  have INV := Lib.hid hi
  have hge : decide ((100 : Int) ≤ (l.length : Int)) = false := decide_eq_false (by omega)
  have C2 := Lib.hid fun (W : World) (q : Below W1.heap.size W1 W) => (h1.below q).c2
  have FZ := Lib.hid fun (W : World) (q : Below W1.heap.size W1 W) => (h1.below q).fz 2
  have HC := Lib.hid hc
  obtain ⟨c1, _⟩ := h.nn
  have GN : Hid (∀ k, DsS g v k → k < w.heap.size) := Lib.hid fun k hk => h.sl hk
  have PL := Lib.hid fun (W : World) (h : Ds W g v buy (c + 1) l) => splace_any o.pr h
  have p1' := p1
  obtain ⟨kk, hkk⟩ : ∃ kk, plB buy o.pr l = kk := ⟨_, rfl⟩
  rw [hkk] at ASC CM INV PL p1' ⊢
  have INS := Lib.hid fun (W : World) (ow : ESt.Own 88 W 0 v l) (vb : Nat) (hx : ESt.Bx 88 W vb ⟨o, c + 1⟩) (hvb : v.ownBlock ≠ some vb) => insert_so v l.length kk vb l ⟨o, c + 1⟩ W ow rfl (by omega) p1' hx hvb
  have p1 := p1'
  clear h h1 hW1 b1 x1 s1 hm hk p2 p3 p1' hi hkk ok
  obtain ⟨A, cp, rfl, _⟩ := HH.out.form
  generalize l.length = m at *
  go_enter Try.func44, Try.ntmps44
  go_wp2_with fail
  rw [HW.out]
  refine M.mono ?_; rintro e w2 ⟨rfl, rfl⟩
  go_wp2_with fail
  refine wp_region_held_drew (S := fun U => Below W1.heap.size W1 U) (by kernel_rfl) (Below.refl _ _).drew (fun hH => ?_)
  refine wpAnyH_take (i := 0) (v := .agg (EO.cells o).toArray) rfl (by kernel_rfl) (by kernel_rfl) (by kernel_rfl) (fun _ _ _ h => h) (gyields_load TO (by rfl) (.tmp 3) rfl w.heap.size 0 rfl XR.out) (by assumption) ?_
  try simp only [List.getElem_toArray, List.getElem_cons_zero, Act.put, List.setIfInBounds_toArray, List.set_cons_zero, List.set_cons_succ]
  refine wpAnyH_ready (rs := [1]) (by decide +kernel) (by simp) (AllReadyH.cons rfl (fun KQ hK => ?_) AllReadyH.nil)
  go_simp
  refine (MY.out _).mono ?_; rintro e0 W2 ⟨rfl, q1⟩
  have hH := hH.trans (q1.mono hH.size)
  refine hK.out _ _ hH (fun _ => ?_)
  clear hK q1
  try simp only [List.setIfInBounds_toArray, List.set_cons_zero, List.set_cons_succ]
  refine wpAnyH_take (i := 2) (v := .bool false) rfl (by kernel_rfl) (by kernel_rfl) (by kernel_rfl) (fun _ _ _ h => h) (.inl ⟨by rfl, ?_⟩) (by assumption) ?_
  · intro W hW; go_simp
  try simp only [List.getElem_toArray, List.getElem_cons_zero, List.getElem_cons_succ, Act.put, List.setIfInBounds_toArray, List.set_cons_zero, List.set_cons_succ]
  refine wpAnyH_take (i := 3) (v := .bool false) rfl (by kernel_rfl) (by kernel_rfl) (by kernel_rfl) (fun _ _ _ h => h) (.inl ⟨by rfl, ?_⟩) (by assumption) ?_
  · intro W hW; go_simp
  try simp only [List.getElem_toArray, List.getElem_cons_zero, List.getElem_cons_succ, Act.put, List.setIfInBounds_toArray, List.set_cons_zero, List.set_cons_succ]
  refine wpAnyH_take (i := 4) (v := .pointer (some ⟨w.heap.size, 2, none⟩)) rfl (by kernel_rfl) (by kernel_rfl) (by kernel_rfl) (fun _ _ _ h => h) (.inl ⟨by rfl, ?_⟩) (by assumption) ?_
  · intro W hW; go_simp
  try simp only [List.getElem_toArray, List.getElem_cons_zero, List.getElem_cons_succ, Act.put, List.setIfInBounds_toArray, List.set_cons_zero, List.set_cons_succ]
  refine wpAnyH_take (i := 5) (v := .bool o.bu) rfl (by kernel_rfl) (by kernel_rfl) (by kernel_rfl) (fun _ _ _ h => h) (.inl ⟨by rfl, ?_⟩) (by assumption) ?_
  · intro W hW; have h1 := X2.out W hW; go_simp
  try simp only [List.getElem_toArray, List.getElem_cons_zero, List.getElem_cons_succ, Act.put, List.setIfInBounds_toArray, List.set_cons_zero, List.set_cons_succ]
  refine wpAnyH_take (i := 6) (v := .pointer (some ⟨g, 0, none⟩)) rfl (by kernel_rfl) (by kernel_rfl) (by kernel_rfl) (fun _ _ _ h => h) (.inl ⟨by rfl, ?_⟩) (by assumption) ?_
  · intro W hW; go_simp
  try simp only [List.getElem_toArray, List.getElem_cons_zero, List.getElem_cons_succ, Act.put, List.setIfInBounds_toArray, List.set_cons_zero, List.set_cons_succ]
  refine wpAnyH_take (i := 7) (v := .pointer (some ⟨g, 0, none⟩)) rfl (by kernel_rfl) (by kernel_rfl) (by kernel_rfl) (fun _ _ _ h => h) (.inl ⟨by rfl, ?_⟩) (by assumption) ?_
  · intro W hW; go_simp
  try simp only [List.getElem_toArray, List.getElem_cons_zero, List.getElem_cons_succ, Act.put, List.setIfInBounds_toArray, List.set_cons_zero, List.set_cons_succ]
  refine wpAnyH_take (i := 8) (v := .pointer (some ⟨g, 1, none⟩)) rfl (by kernel_rfl) (by kernel_rfl) (by kernel_rfl) (fun _ _ _ h => h) (.inl ⟨by rfl, ?_⟩) (by assumption) ?_
  · intro W hW; go_simp
  try simp only [List.getElem_toArray, List.getElem_cons_zero, List.getElem_cons_succ, Act.put, List.setIfInBounds_toArray, List.set_cons_zero, List.set_cons_succ]
  refine wpAnyH_take (i := 9) (v := .bool buy) rfl (by kernel_rfl) (by kernel_rfl) (by kernel_rfl) (fun _ _ _ h => h) (.inl ⟨by rfl, ?_⟩) (by assumption) ?_
  · intro W hW; have h1 := C1.out W hW; go_simp
  try simp only [List.getElem_toArray, List.getElem_cons_zero, List.getElem_cons_succ, Act.put, List.setIfInBounds_toArray, List.set_cons_zero, List.set_cons_succ]
  refine wpAnyH_take (i := 10) (v := .bool false) rfl (by kernel_rfl) (by kernel_rfl) (by kernel_rfl) (fun _ _ _ h => h) (.inl ⟨by rfl, ?_⟩) (by assumption) ?_
  · intro W hW; go_simp
  try simp only [List.getElem_toArray, List.getElem_cons_zero, List.getElem_cons_succ, Act.put, List.setIfInBounds_toArray, List.set_cons_zero, List.set_cons_succ]
  refine wpAnyH_take (i := 11) (v := .bool false) rfl (by kernel_rfl) (by kernel_rfl) (by kernel_rfl) (fun _ _ _ h => h) (.inl ⟨by rfl, ?_⟩) (by assumption) ?_
  · intro W hW; go_simp
  try simp only [List.getElem_toArray, List.getElem_cons_zero, List.getElem_cons_succ, Act.put, List.setIfInBounds_toArray, List.set_cons_zero, List.set_cons_succ]
  refine wpAnyH_take (i := 12) (v := .bool false) rfl (by kernel_rfl) (by kernel_rfl) (by kernel_rfl) (fun _ _ _ h => h) (.inl ⟨by rfl, ?_⟩) (by assumption) ?_
  · intro W hW; go_simp
  try simp only [List.getElem_toArray, List.getElem_cons_zero, List.getElem_cons_succ, Act.put, List.setIfInBounds_toArray, List.set_cons_zero, List.set_cons_succ]
  refine wpAnyH_done (by decide +kernel) ?_ _
  have Q2 := Lib.hid hH
  have x0 := X0.out _ hH
  clear hH
  go_wp2_with fail
  refine (FI.out _ Q2.out).mono ?_; rintro e W3 ⟨rfl, q⟩
  have Q3 := Lib.hid (Q2.out.trans (q.mono Q2.out.size))
  have k3 := K3.out _ Q3.out
  clear q x0
  have k2 := C2.out _ Q3.out
  have fz := FZ.out _ Q3.out
  go_wp2_with fail
  obtain ⟨W5, hW5⟩ : ∃ W5, W3.setCell ⟨g, 2, none⟩ (.int .u64 (c + 1)) = W5 := ⟨_, rfl⟩
  have D3 := H1.out.below Q3.out
  have D5 : Hid (Ds W5 g (.slice A m cp) buy (c + 1) l) := Lib.hid (by rw [← hW5]; exact D3.came HC.out)
  have F35 : Hid (Fr (fun k => k = g) W3 W5) := Lib.hid (by rw [← hW5]; exact Fr.set (S := fun k => k = g) (p := ⟨g, 2, none⟩) rfl _)
  have hg : g < w.heap.size := GN.out g (.inl rfl)
  have X5 : Hid (EO.Bx 31 W5 w.heap.size o) := Lib.hid (gbx_kept (gbx_below XB.out Q3.out) F35.out (by omega))
  have S5 : Hid (w.heap.size < W5.heap.size) := Lib.hid (Array.getElem?_eq_some_iff.1 X5.out).1
  have SS : Hid (∀ U, Fr (DsS g (.slice A m cp)) W5 U → U.rangeAt w.heap.size 0 (EO.cells o)) := Lib.hid fun U f => gbx_rng (gbx_kept X5.out f (fun e => by have := GN.out _ e; omega))
  have SP : Hid (∀ U, Fr (DsS g (.slice A m cp)) W5 U → U.cell? ⟨w.heap.size, 3, none⟩ = some (.int .i64 o.pr)) := Lib.hid fun U f => gbx_cell (gbx_kept X5.out f (fun e => by have := GN.out _ e; omega)) 3
  have FB : Hid (∀ U, Below W5.heap.size W5 U → Fr (DsS g (.slice A m cp)) W5 U ∧ U.cell? ⟨g, 2, none⟩ = some (.int .u64 (c + 1))) := Lib.hid fun U q => ⟨Fr.below q, (D5.out.below q).c2⟩
  have FW := Lib.hid F35.out
  rw [hW5]
  clear k2 fz k3 D3 hW5 F35
  refine wp_region_held_drew (S := fun U => Fr (DsS g (.slice A m cp)) W5 U ∧ U.cell? ⟨g, 2, none⟩ = some (.int .u64 (c + 1))) (by kernel_rfl) (FB.out _ (Below.refl _ _).drew) (fun hH => ?_)
  refine wpAnyH_take (i := 0) (v := .pointer (some ⟨g, 0, none⟩)) rfl (by kernel_rfl) (by kernel_rfl) (by kernel_rfl) (fun _ _ _ h => h) (.inl ⟨by rfl, ?_⟩) (by assumption) ?_
  · intro W hW; go_simp
  try simp only [List.getElem_toArray, List.getElem_cons_zero, Act.put, List.setIfInBounds_toArray, List.set_cons_zero, List.set_cons_succ]
  refine wpAnyH_take (i := 1) (v := .pointer (some ⟨g, 0, none⟩)) rfl (by kernel_rfl) (by kernel_rfl) (by kernel_rfl) (fun _ _ _ h => h) (.inl ⟨by rfl, ?_⟩) (by assumption) ?_
  · intro W hW; go_simp
  try simp only [List.getElem_toArray, List.getElem_cons_zero, List.getElem_cons_succ, Act.put, List.setIfInBounds_toArray, List.set_cons_zero, List.set_cons_succ]
  refine wpAnyH_take (i := 2) (v := .pointer (some ⟨g, 0, none⟩)) rfl (by kernel_rfl) (by kernel_rfl) (by kernel_rfl) (fun _ _ _ h => h) (.inl ⟨by rfl, ?_⟩) (by assumption) ?_
  · intro W hW; go_simp
  try simp only [List.getElem_toArray, List.getElem_cons_zero, List.getElem_cons_succ, Act.put, List.setIfInBounds_toArray, List.set_cons_zero, List.set_cons_succ]
  refine wpAnyH_take (i := 3) (v := .pointer (some ⟨g, 3, none⟩)) rfl (by kernel_rfl) (by kernel_rfl) (by kernel_rfl) (fun _ _ _ h => h) (.inl ⟨by rfl, ?_⟩) (by assumption) ?_
  · intro W hW; go_simp
  try simp only [List.getElem_toArray, List.getElem_cons_zero, List.getElem_cons_succ, Act.put, List.setIfInBounds_toArray, List.set_cons_zero, List.set_cons_succ]
  refine wpAnyH_take (i := 5) (v := .pointer (some ⟨g, 0, none⟩)) rfl (by kernel_rfl) (by kernel_rfl) (by kernel_rfl) (fun _ _ _ h => h) (.inl ⟨by rfl, ?_⟩) (by assumption) ?_
  · intro W hW; go_simp
  try simp only [List.getElem_toArray, List.getElem_cons_zero, List.getElem_cons_succ, Act.put, List.setIfInBounds_toArray, List.set_cons_zero, List.set_cons_succ]
  refine wpAnyH_take (i := 6) (v := .pointer (some ⟨w.heap.size, 3, none⟩)) rfl (by kernel_rfl) (by kernel_rfl) (by kernel_rfl) (fun _ _ _ h => h) (.inl ⟨by rfl, ?_⟩) (by assumption) ?_
  · intro W hW; go_simp
  try simp only [List.getElem_toArray, List.getElem_cons_zero, List.getElem_cons_succ, Act.put, List.setIfInBounds_toArray, List.set_cons_zero, List.set_cons_succ]
  refine wpAnyH_take (i := 7) (v := .int .i64 o.pr) rfl (by kernel_rfl) (by kernel_rfl) (by kernel_rfl) (fun _ _ _ h => h) (.inl ⟨by rfl, ?_⟩) (by assumption) ?_
  · intro W hW; have k := SP.out W hW.1; go_simp
  try simp only [List.getElem_toArray, List.getElem_cons_zero, List.getElem_cons_succ, Act.put, List.setIfInBounds_toArray, List.set_cons_zero, List.set_cons_succ]
  refine wpAnyH_take (i := 9) (v := .agg (EO.cells o).toArray) rfl (by kernel_rfl) (by kernel_rfl) (by kernel_rfl) (fun _ _ _ h => h) (gyields_load TO (by rfl) (.tmp 3) rfl w.heap.size 0 rfl (fun U hU => SS.out U hU.1)) (by assumption) ?_
  try simp only [List.getElem_toArray, List.getElem_cons_zero, List.getElem_cons_succ, Act.put, List.setIfInBounds_toArray, List.set_cons_zero, List.set_cons_succ]
  refine wpAnyH_take (i := 10) (v := .pointer (some ⟨g, 0, none⟩)) rfl (by kernel_rfl) (by kernel_rfl) (by kernel_rfl) (fun _ _ _ h => h) (.inl ⟨by rfl, ?_⟩) (by assumption) ?_
  · intro W hW; go_simp
  try simp only [List.getElem_toArray, List.getElem_cons_zero, List.getElem_cons_succ, Act.put, List.setIfInBounds_toArray, List.set_cons_zero, List.set_cons_succ]
  refine wpAnyH_take (i := 11) (v := .pointer (some ⟨g, 0, none⟩)) rfl (by kernel_rfl) (by kernel_rfl) (by kernel_rfl) (fun _ _ _ h => h) (.inl ⟨by rfl, ?_⟩) (by assumption) ?_
  · intro W hW; go_simp
  try simp only [List.getElem_toArray, List.getElem_cons_zero, List.getElem_cons_succ, Act.put, List.setIfInBounds_toArray, List.set_cons_zero, List.set_cons_succ]
  refine wpAnyH_take (i := 12) (v := .pointer (some ⟨g, 2, none⟩)) rfl (by kernel_rfl) (by kernel_rfl) (by kernel_rfl) (fun _ _ _ h => h) (.inl ⟨by rfl, ?_⟩) (by assumption) ?_
  · intro W hW; go_simp
  try simp only [List.getElem_toArray, List.getElem_cons_zero, List.getElem_cons_succ, Act.put, List.setIfInBounds_toArray, List.set_cons_zero, List.set_cons_succ]
  refine wpAnyH_take (i := 13) (v := .int .u64 (c + 1)) rfl (by kernel_rfl) (by kernel_rfl) (by kernel_rfl) (fun _ _ _ h => h) (.inl ⟨by rfl, ?_⟩) (by assumption) ?_
  · intro W hW; have k := hW.2; go_simp
  try simp only [List.getElem_toArray, List.getElem_cons_zero, List.getElem_cons_succ, Act.put, List.setIfInBounds_toArray, List.set_cons_zero, List.set_cons_succ]
  refine wpAnyH_take (i := 14) (v := .agg (ESt.cells ⟨o, c + 1⟩).toArray) rfl (by kernel_rfl) (by kernel_rfl) (by kernel_rfl) (fun _ _ _ h => h) (yields_build_so (by rfl) (.tmp 50) (.tmp 54) rfl o (c + 1) rfl rfl) (by assumption) ?_
  try simp only [List.getElem_toArray, List.getElem_cons_zero, List.getElem_cons_succ, Act.put, List.setIfInBounds_toArray, List.set_cons_zero, List.set_cons_succ]
  have U0 : Hid (Below W5.heap.size W5 W5.drew) := Lib.hid (Below.refl _ _).drew
  clear hH
  refine wpAnyH_ready (rs := [4, 8, 15]) (by decide +kernel) (by simp) (AllReadyH.cons rfl (fun KQ hK => ?_) (AllReadyH.cons rfl (fun KQ hK => ?_) (AllReadyH.cons rfl (fun KQ hK => ?_) AllReadyH.nil)))
  · have k3 := (D5.out.below U0.out).c3
    go_simp
    refine hK.out _ _ (FB.out _ U0.out) (fun _ => ?_)
    clear hK k3
    try simp only [List.setIfInBounds_toArray, List.set_cons_zero, List.set_cons_succ]
    refine wpAnyH_ready (rs := [8, 15]) (by decide +kernel) (by simp) (AllReadyH.cons rfl (fun KQ hK => ?_) (AllReadyH.cons rfl (fun KQ hK => ?_) AllReadyH.nil))
    · go_simp
      refine (PL.out _ (D5.out.below U0.out)).mono ?_; rintro e0 V1 ⟨rfl, q⟩
      have U1 := Lib.hid (U0.out.trans (q.mono U0.out.size))
      refine hK.out _ _ (FB.out _ U1.out) (fun _ => ?_)
      clear hK q
      try simp only [List.setIfInBounds_toArray, List.set_cons_zero, List.set_cons_succ]
      refine wpAnyH_ready (rs := [15]) (by decide +kernel) (by simp) (AllReadyH.cons rfl (fun KQ hK => ?_) AllReadyH.nil)
      rw [if_pos (by rfl)]
      refine gwp_bs TSt rfl (s := ⟨o, c + 1⟩) rfl (fill_so _) ?_ (by decide)
      obtain ⟨V2, hV⟩ : ∃ VV, V1.alloc (.cells (ESt.cells ⟨o, c + 1⟩).toArray 88) = VV := ⟨_, rfl⟩
      rw [hV]
      have bn : Below V1.heap.size V1 V2 := by rw [← hV]; exact below_new _ _
      have VB : Hid (ESt.Bx 88 V2 V1.heap.size ⟨o, c + 1⟩) := Lib.hid (by rw [← hV]; exact gbx_new _ _)
      have VL : Hid (w.heap.size ≤ V1.heap.size) := Lib.hid (by have := U1.out.size; have := S5.out; omega)
      have U2 := Lib.hid (U1.out.trans (bn.mono U1.out.size))
      refine hK.out _ _ (FB.out _ U2.out) (fun _ => ?_)
      clear hK bn hV
      try simp only [List.getElem_toArray, List.getElem_cons_zero, List.getElem_cons_succ, Act.put, List.setIfInBounds_toArray, List.set_cons_zero, List.set_cons_succ]
      have O := D5.out.below U2.out
      refine wpAnyH_ready (rs := [16]) (by decide +kernel) (by simp) (AllReadyH.cons rfl (fun KQ hK => ?_) AllReadyH.nil)
      go_simp
      refine (INS.out _ O.own _ VB.out (fun e => by have h9 := GN.out _ (.inr e); have h8 := VL.out; omega)).mono ?_; rintro e0 W8 ⟨v8, rfl, o8, f8, a8⟩
      obtain ⟨c8, z8, d8, g8⟩ := ds_put O f8 o8 a8 INV.out CM.out ASC.out
      have h8 : Fr (DsS g (.slice A m cp)) W5 W8 ∧ W8.cell? ⟨g, 2, none⟩ = some (.int .u64 (c + 1)) := ⟨(Fr.below U2.out).trans f8 (fun _ h => h) (fun _ _ e => .inr e), (World.cell?_of_block (f8.at' g O.gl (fun e => O.apart g e rfl))).trans O.c2⟩
      have h9 : Fr (DsS g (.slice A m cp)) W5 (W8.setCell ⟨g, 3, none⟩ v8) ∧ (W8.setCell ⟨g, 3, none⟩ v8).cell? ⟨g, 2, none⟩ = some (.int .u64 (c + 1)) := ⟨h8.1.same (Fr.set (p := ⟨g, 3, none⟩) (.inl rfl) _), d8.c2⟩
      have D8 := Lib.hid d8
      have H9 := Lib.hid h9
      have A8 := Lib.hid a8
      obtain ⟨A9, n9, c9, rfl⟩ := gown_any o8
      have HH8 := Lib.hid h8
      refine hK.out _ _ h8 (fun _ => ?_)
      clear hK h8 h9 f8 o8 d8 g8 a8 O
      try simp only [List.setIfInBounds_toArray, List.set_cons_zero, List.set_cons_succ]
      refine wpAnyH_take (i := 17) (v := .pointer (some ⟨g, 0, none⟩)) rfl (by kernel_rfl) (by kernel_rfl) (by kernel_rfl) (fun _ _ _ h => h) (.inl ⟨by rfl, ?_⟩) HH8.out ?_
      · intro W hW; go_simp
      try simp only [List.getElem_toArray, List.getElem_cons_zero, List.getElem_cons_succ, Act.put, List.setIfInBounds_toArray, List.set_cons_zero, List.set_cons_succ]
      refine wpAnyH_take (i := 18) (v := .pointer (some ⟨g, 3, none⟩)) rfl (by kernel_rfl) (by kernel_rfl) (by kernel_rfl) (fun _ _ _ h => h) (.inl ⟨by rfl, ?_⟩) HH8.out ?_
      · intro W hW; go_simp
      try simp only [List.getElem_toArray, List.getElem_cons_zero, List.getElem_cons_succ, Act.put, List.setIfInBounds_toArray, List.set_cons_zero, List.set_cons_succ]
      refine wpAnyH_ready (rs := [19]) (by decide +kernel) (by simp) (AllReadyH.cons rfl (fun KQ hK => ?_) AllReadyH.nil)
      go_simp
      refine hK.out _ _ H9.out (fun _ => ?_)
      clear hK c8 z8
      try simp only [Act.put]
      refine wpAnyH_done (by decide +kernel) ?_ _
      go_wp2_with fail
      go_ret
      have f0 : Fr (DsS g (.slice A m cp)) w W5 := ((Fr.below (B1.out.trans (Q3.out.mono B1.out.size))).trans FW.out (fun _ h => h) (fun k _ e => .inl e))
      refine ⟨rfl, _, D8.out, f0.same H9.out.1, fun k hk => ?_⟩
      rcases A8.out with e | e
      · exact .inl (by rw [← e]; exact hk)
      · rw [e] at hk; injection hk with hk; exact .inr (by have := U2.out.size; have := S5.out; omega)
    · rw [if_pos (by rfl)]
      refine gwp_bs TSt rfl (s := ⟨o, c + 1⟩) rfl (fill_so _) ?_ (by decide)
      obtain ⟨V1, hV⟩ : ∃ VV, W5.drew.alloc (.cells (ESt.cells ⟨o, c + 1⟩).toArray 88) = VV := ⟨_, rfl⟩
      rw [hV]
      have bn : Below W5.drew.heap.size W5.drew V1 := by rw [← hV]; exact below_new _ _
      have VB : Hid (ESt.Bx 88 V1 W5.drew.heap.size ⟨o, c + 1⟩) := Lib.hid (by rw [← hV]; exact gbx_new _ _)
      have VL : Hid (w.heap.size ≤ W5.drew.heap.size) := Lib.hid (by have := U0.out.size; have := S5.out; omega)
      have U1 := Lib.hid (U0.out.trans (bn.mono U0.out.size))
      refine hK.out _ _ (FB.out _ U1.out) (fun _ => ?_)
      clear hK bn hV
      try simp only [List.getElem_toArray, List.getElem_cons_zero, List.getElem_cons_succ, Act.put, List.setIfInBounds_toArray, List.set_cons_zero, List.set_cons_succ]
      refine wpAnyH_ready (rs := [8]) (by decide +kernel) (by simp) (AllReadyH.cons rfl (fun KQ hK => ?_) AllReadyH.nil)
      go_simp
      refine (PL.out _ (D5.out.below U1.out)).mono ?_; rintro e0 V2 ⟨rfl, q⟩
      have U2 := Lib.hid (U1.out.trans (q.mono U1.out.size))
      have VB := Lib.hid (gbx_below VB.out q)
      refine hK.out _ _ (FB.out _ U2.out) (fun _ => ?_)
      clear hK q
      try simp only [List.setIfInBounds_toArray, List.set_cons_zero, List.set_cons_succ]
      have O := D5.out.below U2.out
      refine wpAnyH_ready (rs := [16]) (by decide +kernel) (by simp) (AllReadyH.cons rfl (fun KQ hK => ?_) AllReadyH.nil)
      go_simp
      refine (INS.out _ O.own _ VB.out (fun e => by have h9 := GN.out _ (.inr e); have h8 := VL.out; omega)).mono ?_; rintro e0 W8 ⟨v8, rfl, o8, f8, a8⟩
      obtain ⟨c8, z8, d8, g8⟩ := ds_put O f8 o8 a8 INV.out CM.out ASC.out
      have h8 : Fr (DsS g (.slice A m cp)) W5 W8 ∧ W8.cell? ⟨g, 2, none⟩ = some (.int .u64 (c + 1)) := ⟨(Fr.below U2.out).trans f8 (fun _ h => h) (fun _ _ e => .inr e), (World.cell?_of_block (f8.at' g O.gl (fun e => O.apart g e rfl))).trans O.c2⟩
      have h9 : Fr (DsS g (.slice A m cp)) W5 (W8.setCell ⟨g, 3, none⟩ v8) ∧ (W8.setCell ⟨g, 3, none⟩ v8).cell? ⟨g, 2, none⟩ = some (.int .u64 (c + 1)) := ⟨h8.1.same (Fr.set (p := ⟨g, 3, none⟩) (.inl rfl) _), d8.c2⟩
      have D8 := Lib.hid d8
      have H9 := Lib.hid h9
      have A8 := Lib.hid a8
      obtain ⟨A9, n9, c9, rfl⟩ := gown_any o8
      have HH8 := Lib.hid h8
      refine hK.out _ _ h8 (fun _ => ?_)
      clear hK h8 h9 f8 o8 d8 g8 a8 O
      try simp only [List.setIfInBounds_toArray, List.set_cons_zero, List.set_cons_succ]
      refine wpAnyH_take (i := 17) (v := .pointer (some ⟨g, 0, none⟩)) rfl (by kernel_rfl) (by kernel_rfl) (by kernel_rfl) (fun _ _ _ h => h) (.inl ⟨by rfl, ?_⟩) HH8.out ?_
      · intro W hW; go_simp
      try simp only [List.getElem_toArray, List.getElem_cons_zero, List.getElem_cons_succ, Act.put, List.setIfInBounds_toArray, List.set_cons_zero, List.set_cons_succ]
      refine wpAnyH_take (i := 18) (v := .pointer (some ⟨g, 3, none⟩)) rfl (by kernel_rfl) (by kernel_rfl) (by kernel_rfl) (fun _ _ _ h => h) (.inl ⟨by rfl, ?_⟩) HH8.out ?_
      · intro W hW; go_simp
      try simp only [List.getElem_toArray, List.getElem_cons_zero, List.getElem_cons_succ, Act.put, List.setIfInBounds_toArray, List.set_cons_zero, List.set_cons_succ]
      refine wpAnyH_ready (rs := [19]) (by decide +kernel) (by simp) (AllReadyH.cons rfl (fun KQ hK => ?_) AllReadyH.nil)
      go_simp
      refine hK.out _ _ H9.out (fun _ => ?_)
      clear hK c8 z8
      try simp only [Act.put]
      refine wpAnyH_done (by decide +kernel) ?_ _
      go_wp2_with fail
      go_ret
      have f0 : Fr (DsS g (.slice A m cp)) w W5 := ((Fr.below (B1.out.trans (Q3.out.mono B1.out.size))).trans FW.out (fun _ h => h) (fun k _ e => .inl e))
      refine ⟨rfl, _, D8.out, f0.same H9.out.1, fun k hk => ?_⟩
      rcases A8.out with e | e
      · exact .inl (by rw [← e]; exact hk)
      · rw [e] at hk; injection hk with hk; exact .inr (by have := U2.out.size; have := S5.out; omega)
  · go_simp
    refine (PL.out _ (D5.out.below U0.out)).mono ?_; rintro e0 V1 ⟨rfl, q⟩
    have U1 := Lib.hid (U0.out.trans (q.mono U0.out.size))
    refine hK.out _ _ (FB.out _ U1.out) (fun _ => ?_)
    clear hK q
    try simp only [List.setIfInBounds_toArray, List.set_cons_zero, List.set_cons_succ]
    refine wpAnyH_ready (rs := [4, 15]) (by decide +kernel) (by simp) (AllReadyH.cons rfl (fun KQ hK => ?_) (AllReadyH.cons rfl (fun KQ hK => ?_) AllReadyH.nil))
    · have k3 := (D5.out.below U1.out).c3
      go_simp
      refine hK.out _ _ (FB.out _ U1.out) (fun _ => ?_)
      clear hK k3
      try simp only [List.setIfInBounds_toArray, List.set_cons_zero, List.set_cons_succ]
      refine wpAnyH_ready (rs := [15]) (by decide +kernel) (by simp) (AllReadyH.cons rfl (fun KQ hK => ?_) AllReadyH.nil)
      rw [if_pos (by rfl)]
      refine gwp_bs TSt rfl (s := ⟨o, c + 1⟩) rfl (fill_so _) ?_ (by decide)
      obtain ⟨V2, hV⟩ : ∃ VV, V1.alloc (.cells (ESt.cells ⟨o, c + 1⟩).toArray 88) = VV := ⟨_, rfl⟩
      rw [hV]
      have bn : Below V1.heap.size V1 V2 := by rw [← hV]; exact below_new _ _
      have VB : Hid (ESt.Bx 88 V2 V1.heap.size ⟨o, c + 1⟩) := Lib.hid (by rw [← hV]; exact gbx_new _ _)
      have VL : Hid (w.heap.size ≤ V1.heap.size) := Lib.hid (by have := U1.out.size; have := S5.out; omega)
      have U2 := Lib.hid (U1.out.trans (bn.mono U1.out.size))
      refine hK.out _ _ (FB.out _ U2.out) (fun _ => ?_)
      clear hK bn hV
      try simp only [List.getElem_toArray, List.getElem_cons_zero, List.getElem_cons_succ, Act.put, List.setIfInBounds_toArray, List.set_cons_zero, List.set_cons_succ]
      have O := D5.out.below U2.out
      refine wpAnyH_ready (rs := [16]) (by decide +kernel) (by simp) (AllReadyH.cons rfl (fun KQ hK => ?_) AllReadyH.nil)
      go_simp
      refine (INS.out _ O.own _ VB.out (fun e => by have h9 := GN.out _ (.inr e); have h8 := VL.out; omega)).mono ?_; rintro e0 W8 ⟨v8, rfl, o8, f8, a8⟩
      obtain ⟨c8, z8, d8, g8⟩ := ds_put O f8 o8 a8 INV.out CM.out ASC.out
      have h8 : Fr (DsS g (.slice A m cp)) W5 W8 ∧ W8.cell? ⟨g, 2, none⟩ = some (.int .u64 (c + 1)) := ⟨(Fr.below U2.out).trans f8 (fun _ h => h) (fun _ _ e => .inr e), (World.cell?_of_block (f8.at' g O.gl (fun e => O.apart g e rfl))).trans O.c2⟩
      have h9 : Fr (DsS g (.slice A m cp)) W5 (W8.setCell ⟨g, 3, none⟩ v8) ∧ (W8.setCell ⟨g, 3, none⟩ v8).cell? ⟨g, 2, none⟩ = some (.int .u64 (c + 1)) := ⟨h8.1.same (Fr.set (p := ⟨g, 3, none⟩) (.inl rfl) _), d8.c2⟩
      have D8 := Lib.hid d8
      have H9 := Lib.hid h9
      have A8 := Lib.hid a8
      obtain ⟨A9, n9, c9, rfl⟩ := gown_any o8
      have HH8 := Lib.hid h8
      refine hK.out _ _ h8 (fun _ => ?_)
      clear hK h8 h9 f8 o8 d8 g8 a8 O
      try simp only [List.setIfInBounds_toArray, List.set_cons_zero, List.set_cons_succ]
      refine wpAnyH_take (i := 17) (v := .pointer (some ⟨g, 0, none⟩)) rfl (by kernel_rfl) (by kernel_rfl) (by kernel_rfl) (fun _ _ _ h => h) (.inl ⟨by rfl, ?_⟩) HH8.out ?_
      · intro W hW; go_simp
      try simp only [List.getElem_toArray, List.getElem_cons_zero, List.getElem_cons_succ, Act.put, List.setIfInBounds_toArray, List.set_cons_zero, List.set_cons_succ]
      refine wpAnyH_take (i := 18) (v := .pointer (some ⟨g, 3, none⟩)) rfl (by kernel_rfl) (by kernel_rfl) (by kernel_rfl) (fun _ _ _ h => h) (.inl ⟨by rfl, ?_⟩) HH8.out ?_
      · intro W hW; go_simp
      try simp only [List.getElem_toArray, List.getElem_cons_zero, List.getElem_cons_succ, Act.put, List.setIfInBounds_toArray, List.set_cons_zero, List.set_cons_succ]
      refine wpAnyH_ready (rs := [19]) (by decide +kernel) (by simp) (AllReadyH.cons rfl (fun KQ hK => ?_) AllReadyH.nil)
      go_simp
      refine hK.out _ _ H9.out (fun _ => ?_)
      clear hK c8 z8
      try simp only [Act.put]
      refine wpAnyH_done (by decide +kernel) ?_ _
      go_wp2_with fail
      go_ret
      have f0 : Fr (DsS g (.slice A m cp)) w W5 := ((Fr.below (B1.out.trans (Q3.out.mono B1.out.size))).trans FW.out (fun _ h => h) (fun k _ e => .inl e))
      refine ⟨rfl, _, D8.out, f0.same H9.out.1, fun k hk => ?_⟩
      rcases A8.out with e | e
      · exact .inl (by rw [← e]; exact hk)
      · rw [e] at hk; injection hk with hk; exact .inr (by have := U2.out.size; have := S5.out; omega)
    · rw [if_pos (by rfl)]
      refine gwp_bs TSt rfl (s := ⟨o, c + 1⟩) rfl (fill_so _) ?_ (by decide)
      obtain ⟨V2, hV⟩ : ∃ VV, V1.alloc (.cells (ESt.cells ⟨o, c + 1⟩).toArray 88) = VV := ⟨_, rfl⟩
      rw [hV]
      have bn : Below V1.heap.size V1 V2 := by rw [← hV]; exact below_new _ _
      have VB : Hid (ESt.Bx 88 V2 V1.heap.size ⟨o, c + 1⟩) := Lib.hid (by rw [← hV]; exact gbx_new _ _)
      have VL : Hid (w.heap.size ≤ V1.heap.size) := Lib.hid (by have := U1.out.size; have := S5.out; omega)
      have U2 := Lib.hid (U1.out.trans (bn.mono U1.out.size))
      refine hK.out _ _ (FB.out _ U2.out) (fun _ => ?_)
      clear hK bn hV
      try simp only [List.getElem_toArray, List.getElem_cons_zero, List.getElem_cons_succ, Act.put, List.setIfInBounds_toArray, List.set_cons_zero, List.set_cons_succ]
      refine wpAnyH_ready (rs := [4]) (by decide +kernel) (by simp) (AllReadyH.cons rfl (fun KQ hK => ?_) AllReadyH.nil)
      have k3 := (D5.out.below U2.out).c3
      go_simp
      refine hK.out _ _ (FB.out _ U2.out) (fun _ => ?_)
      clear hK k3
      try simp only [List.setIfInBounds_toArray, List.set_cons_zero, List.set_cons_succ]
      have O := D5.out.below U2.out
      refine wpAnyH_ready (rs := [16]) (by decide +kernel) (by simp) (AllReadyH.cons rfl (fun KQ hK => ?_) AllReadyH.nil)
      go_simp
      refine (INS.out _ O.own _ VB.out (fun e => by have h9 := GN.out _ (.inr e); have h8 := VL.out; omega)).mono ?_; rintro e0 W8 ⟨v8, rfl, o8, f8, a8⟩
      obtain ⟨c8, z8, d8, g8⟩ := ds_put O f8 o8 a8 INV.out CM.out ASC.out
      have h8 : Fr (DsS g (.slice A m cp)) W5 W8 ∧ W8.cell? ⟨g, 2, none⟩ = some (.int .u64 (c + 1)) := ⟨(Fr.below U2.out).trans f8 (fun _ h => h) (fun _ _ e => .inr e), (World.cell?_of_block (f8.at' g O.gl (fun e => O.apart g e rfl))).trans O.c2⟩
      have h9 : Fr (DsS g (.slice A m cp)) W5 (W8.setCell ⟨g, 3, none⟩ v8) ∧ (W8.setCell ⟨g, 3, none⟩ v8).cell? ⟨g, 2, none⟩ = some (.int .u64 (c + 1)) := ⟨h8.1.same (Fr.set (p := ⟨g, 3, none⟩) (.inl rfl) _), d8.c2⟩
      have D8 := Lib.hid d8
      have H9 := Lib.hid h9
      have A8 := Lib.hid a8
      obtain ⟨A9, n9, c9, rfl⟩ := gown_any o8
      have HH8 := Lib.hid h8
      refine hK.out _ _ h8 (fun _ => ?_)
      clear hK h8 h9 f8 o8 d8 g8 a8 O
      try simp only [List.setIfInBounds_toArray, List.set_cons_zero, List.set_cons_succ]
      refine wpAnyH_take (i := 17) (v := .pointer (some ⟨g, 0, none⟩)) rfl (by kernel_rfl) (by kernel_rfl) (by kernel_rfl) (fun _ _ _ h => h) (.inl ⟨by rfl, ?_⟩) HH8.out ?_
      · intro W hW; go_simp
      try simp only [List.getElem_toArray, List.getElem_cons_zero, List.getElem_cons_succ, Act.put, List.setIfInBounds_toArray, List.set_cons_zero, List.set_cons_succ]
      refine wpAnyH_take (i := 18) (v := .pointer (some ⟨g, 3, none⟩)) rfl (by kernel_rfl) (by kernel_rfl) (by kernel_rfl) (fun _ _ _ h => h) (.inl ⟨by rfl, ?_⟩) HH8.out ?_
      · intro W hW; go_simp
      try simp only [List.getElem_toArray, List.getElem_cons_zero, List.getElem_cons_succ, Act.put, List.setIfInBounds_toArray, List.set_cons_zero, List.set_cons_succ]
      refine wpAnyH_ready (rs := [19]) (by decide +kernel) (by simp) (AllReadyH.cons rfl (fun KQ hK => ?_) AllReadyH.nil)
      go_simp
      refine hK.out _ _ H9.out (fun _ => ?_)
      clear hK c8 z8
      try simp only [Act.put]
      refine wpAnyH_done (by decide +kernel) ?_ _
      go_wp2_with fail
      go_ret
      have f0 : Fr (DsS g (.slice A m cp)) w W5 := ((Fr.below (B1.out.trans (Q3.out.mono B1.out.size))).trans FW.out (fun _ h => h) (fun k _ e => .inl e))
      refine ⟨rfl, _, D8.out, f0.same H9.out.1, fun k hk => ?_⟩
      rcases A8.out with e | e
      · exact .inl (by rw [← e]; exact hk)
      · rw [e] at hk; injection hk with hk; exact .inr (by have := U2.out.size; have := S5.out; omega)
  · rw [if_pos (by rfl)]
    refine gwp_bs TSt rfl (s := ⟨o, c + 1⟩) rfl (fill_so _) ?_ (by decide)
    obtain ⟨V1, hV⟩ : ∃ VV, W5.drew.alloc (.cells (ESt.cells ⟨o, c + 1⟩).toArray 88) = VV := ⟨_, rfl⟩
    rw [hV]
    have bn : Below W5.drew.heap.size W5.drew V1 := by rw [← hV]; exact below_new _ _
    have VB : Hid (ESt.Bx 88 V1 W5.drew.heap.size ⟨o, c + 1⟩) := Lib.hid (by rw [← hV]; exact gbx_new _ _)
    have VL : Hid (w.heap.size ≤ W5.drew.heap.size) := Lib.hid (by have := U0.out.size; have := S5.out; omega)
    have U1 := Lib.hid (U0.out.trans (bn.mono U0.out.size))
    refine hK.out _ _ (FB.out _ U1.out) (fun _ => ?_)
    clear hK bn hV
    try simp only [List.getElem_toArray, List.getElem_cons_zero, List.getElem_cons_succ, Act.put, List.setIfInBounds_toArray, List.set_cons_zero, List.set_cons_succ]
    refine wpAnyH_ready (rs := [4, 8]) (by decide +kernel) (by simp) (AllReadyH.cons rfl (fun KQ hK => ?_) (AllReadyH.cons rfl (fun KQ hK => ?_) AllReadyH.nil))
    · have k3 := (D5.out.below U1.out).c3
      go_simp
      refine hK.out _ _ (FB.out _ U1.out) (fun _ => ?_)
      clear hK k3
      try simp only [List.setIfInBounds_toArray, List.set_cons_zero, List.set_cons_succ]
      refine wpAnyH_ready (rs := [8]) (by decide +kernel) (by simp) (AllReadyH.cons rfl (fun KQ hK => ?_) AllReadyH.nil)
      go_simp
      refine (PL.out _ (D5.out.below U1.out)).mono ?_; rintro e0 V2 ⟨rfl, q⟩
      have U2 := Lib.hid (U1.out.trans (q.mono U1.out.size))
      have VB := Lib.hid (gbx_below VB.out q)
      refine hK.out _ _ (FB.out _ U2.out) (fun _ => ?_)
      clear hK q
      try simp only [List.setIfInBounds_toArray, List.set_cons_zero, List.set_cons_succ]
      have O := D5.out.below U2.out
      refine wpAnyH_ready (rs := [16]) (by decide +kernel) (by simp) (AllReadyH.cons rfl (fun KQ hK => ?_) AllReadyH.nil)
      go_simp
      refine (INS.out _ O.own _ VB.out (fun e => by have h9 := GN.out _ (.inr e); have h8 := VL.out; omega)).mono ?_; rintro e0 W8 ⟨v8, rfl, o8, f8, a8⟩
      obtain ⟨c8, z8, d8, g8⟩ := ds_put O f8 o8 a8 INV.out CM.out ASC.out
      have h8 : Fr (DsS g (.slice A m cp)) W5 W8 ∧ W8.cell? ⟨g, 2, none⟩ = some (.int .u64 (c + 1)) := ⟨(Fr.below U2.out).trans f8 (fun _ h => h) (fun _ _ e => .inr e), (World.cell?_of_block (f8.at' g O.gl (fun e => O.apart g e rfl))).trans O.c2⟩
      have h9 : Fr (DsS g (.slice A m cp)) W5 (W8.setCell ⟨g, 3, none⟩ v8) ∧ (W8.setCell ⟨g, 3, none⟩ v8).cell? ⟨g, 2, none⟩ = some (.int .u64 (c + 1)) := ⟨h8.1.same (Fr.set (p := ⟨g, 3, none⟩) (.inl rfl) _), d8.c2⟩
      have D8 := Lib.hid d8
      have H9 := Lib.hid h9
      have A8 := Lib.hid a8
      obtain ⟨A9, n9, c9, rfl⟩ := gown_any o8
      have HH8 := Lib.hid h8
      refine hK.out _ _ h8 (fun _ => ?_)
      clear hK h8 h9 f8 o8 d8 g8 a8 O
      try simp only [List.setIfInBounds_toArray, List.set_cons_zero, List.set_cons_succ]
      refine wpAnyH_take (i := 17) (v := .pointer (some ⟨g, 0, none⟩)) rfl (by kernel_rfl) (by kernel_rfl) (by kernel_rfl) (fun _ _ _ h => h) (.inl ⟨by rfl, ?_⟩) HH8.out ?_
      · intro W hW; go_simp
      try simp only [List.getElem_toArray, List.getElem_cons_zero, List.getElem_cons_succ, Act.put, List.setIfInBounds_toArray, List.set_cons_zero, List.set_cons_succ]
      refine wpAnyH_take (i := 18) (v := .pointer (some ⟨g, 3, none⟩)) rfl (by kernel_rfl) (by kernel_rfl) (by kernel_rfl) (fun _ _ _ h => h) (.inl ⟨by rfl, ?_⟩) HH8.out ?_
      · intro W hW; go_simp
      try simp only [List.getElem_toArray, List.getElem_cons_zero, List.getElem_cons_succ, Act.put, List.setIfInBounds_toArray, List.set_cons_zero, List.set_cons_succ]
      refine wpAnyH_ready (rs := [19]) (by decide +kernel) (by simp) (AllReadyH.cons rfl (fun KQ hK => ?_) AllReadyH.nil)
      go_simp
      refine hK.out _ _ H9.out (fun _ => ?_)
      clear hK c8 z8
      try simp only [Act.put]
      refine wpAnyH_done (by decide +kernel) ?_ _
      go_wp2_with fail
      go_ret
      have f0 : Fr (DsS g (.slice A m cp)) w W5 := ((Fr.below (B1.out.trans (Q3.out.mono B1.out.size))).trans FW.out (fun _ h => h) (fun k _ e => .inl e))
      refine ⟨rfl, _, D8.out, f0.same H9.out.1, fun k hk => ?_⟩
      rcases A8.out with e | e
      · exact .inl (by rw [← e]; exact hk)
      · rw [e] at hk; injection hk with hk; exact .inr (by have := U2.out.size; have := S5.out; omega)
    · go_simp
      refine (PL.out _ (D5.out.below U1.out)).mono ?_; rintro e0 V2 ⟨rfl, q⟩
      have U2 := Lib.hid (U1.out.trans (q.mono U1.out.size))
      have VB := Lib.hid (gbx_below VB.out q)
      refine hK.out _ _ (FB.out _ U2.out) (fun _ => ?_)
      clear hK q
      try simp only [List.setIfInBounds_toArray, List.set_cons_zero, List.set_cons_succ]
      refine wpAnyH_ready (rs := [4]) (by decide +kernel) (by simp) (AllReadyH.cons rfl (fun KQ hK => ?_) AllReadyH.nil)
      have k3 := (D5.out.below U2.out).c3
      go_simp
      refine hK.out _ _ (FB.out _ U2.out) (fun _ => ?_)
      clear hK k3
      try simp only [List.setIfInBounds_toArray, List.set_cons_zero, List.set_cons_succ]
      have O := D5.out.below U2.out
      refine wpAnyH_ready (rs := [16]) (by decide +kernel) (by simp) (AllReadyH.cons rfl (fun KQ hK => ?_) AllReadyH.nil)
      go_simp
      refine (INS.out _ O.own _ VB.out (fun e => by have h9 := GN.out _ (.inr e); have h8 := VL.out; omega)).mono ?_; rintro e0 W8 ⟨v8, rfl, o8, f8, a8⟩
      obtain ⟨c8, z8, d8, g8⟩ := ds_put O f8 o8 a8 INV.out CM.out ASC.out
      have h8 : Fr (DsS g (.slice A m cp)) W5 W8 ∧ W8.cell? ⟨g, 2, none⟩ = some (.int .u64 (c + 1)) := ⟨(Fr.below U2.out).trans f8 (fun _ h => h) (fun _ _ e => .inr e), (World.cell?_of_block (f8.at' g O.gl (fun e => O.apart g e rfl))).trans O.c2⟩
      have h9 : Fr (DsS g (.slice A m cp)) W5 (W8.setCell ⟨g, 3, none⟩ v8) ∧ (W8.setCell ⟨g, 3, none⟩ v8).cell? ⟨g, 2, none⟩ = some (.int .u64 (c + 1)) := ⟨h8.1.same (Fr.set (p := ⟨g, 3, none⟩) (.inl rfl) _), d8.c2⟩
      have D8 := Lib.hid d8
      have H9 := Lib.hid h9
      have A8 := Lib.hid a8
      obtain ⟨A9, n9, c9, rfl⟩ := gown_any o8
      have HH8 := Lib.hid h8
      refine hK.out _ _ h8 (fun _ => ?_)
      clear hK h8 h9 f8 o8 d8 g8 a8 O
      try simp only [List.setIfInBounds_toArray, List.set_cons_zero, List.set_cons_succ]
      refine wpAnyH_take (i := 17) (v := .pointer (some ⟨g, 0, none⟩)) rfl (by kernel_rfl) (by kernel_rfl) (by kernel_rfl) (fun _ _ _ h => h) (.inl ⟨by rfl, ?_⟩) HH8.out ?_
      · intro W hW; go_simp
      try simp only [List.getElem_toArray, List.getElem_cons_zero, List.getElem_cons_succ, Act.put, List.setIfInBounds_toArray, List.set_cons_zero, List.set_cons_succ]
      refine wpAnyH_take (i := 18) (v := .pointer (some ⟨g, 3, none⟩)) rfl (by kernel_rfl) (by kernel_rfl) (by kernel_rfl) (fun _ _ _ h => h) (.inl ⟨by rfl, ?_⟩) HH8.out ?_
      · intro W hW; go_simp
      try simp only [List.getElem_toArray, List.getElem_cons_zero, List.getElem_cons_succ, Act.put, List.setIfInBounds_toArray, List.set_cons_zero, List.set_cons_succ]
      refine wpAnyH_ready (rs := [19]) (by decide +kernel) (by simp) (AllReadyH.cons rfl (fun KQ hK => ?_) AllReadyH.nil)
      go_simp
      refine hK.out _ _ H9.out (fun _ => ?_)
      clear hK c8 z8
      try simp only [Act.put]
      refine wpAnyH_done (by decide +kernel) ?_ _
      go_wp2_with fail
      go_ret
      have f0 : Fr (DsS g (.slice A m cp)) w W5 := ((Fr.below (B1.out.trans (Q3.out.mono B1.out.size))).trans FW.out (fun _ h => h) (fun k _ e => .inl e))
      refine ⟨rfl, _, D8.out, f0.same H9.out.1, fun k hk => ?_⟩
      rcases A8.out with e | e
      · exact .inl (by rw [← e]; exact hk)
      · rw [e] at hk; injection hk with hk; exact .inr (by have := U2.out.size; have := S5.out; omega)
end
end Go.Proofs.Ytdcjgcjnfcahkaa
