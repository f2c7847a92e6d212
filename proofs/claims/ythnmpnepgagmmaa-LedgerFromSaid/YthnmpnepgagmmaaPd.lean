/- The program's evenOut: sums by contract in a map. -/
import Derived.Test.YthnmpnepgagmmaaPa
import Derived.Test.YthnmpnepgagmmaaMe
import Derived.Test.YthnmpnepgagmmaaLa
namespace Go.Proofs.Ythnmpnepgagmmaa
open Go.RowKit Go.Shelf
set_option linter.unusedVariables false
set_option linter.unusedSimpArgs false

/-- The sums of a contract. -/
structure Sm where
  co : Int
  q : Int
  b : Int
def Sm.cells (s : Sm) : List Value := [.int .i64 s.q, .int .i64 s.b]
def ES : Elt Sm := ⟨Sm.cells, 2, by decide, fun _ => rfl, fun x u hu => by
  simp only [Sm.cells, List.mem_cons, List.not_mem_nil, or_false] at hu
  rcases hu with rfl | rfl <;> rfl⟩
def MS : MapT Sm Int Try.prog 31 where
  key := Sm.co
  kv n := .int .u32 n
  vv s := .agg (ES.cells s).toArray
  ok := U32'
  K := Go.Maps.int_keyed Try.underlying31
  lit c h := ⟨_, key_u32 h⟩
  inj c d h := by injection h
theorem zero_sm (w : World) : (zeroValue 103).run Try.prog w = .ok (.agg (ES.cells ⟨0, 0, 0⟩).toArray) w := by kernel_rfl
def qS (c : Int) (hl : List Po) : Int := ((holdersH hl c).map Po.q).sum
def bS (c : Int) (hl : List Po) : Int := ((holdersH hl c).map Po.b).sum
/-- Each contract adds up to nothing. -/
def evenB (hl : List Po) : Bool := hl.all fun p => wrap64 (qS p.co hl) == 0 && wrap64 (bS p.co hl) == 0
def rdS (l : List Sm) (c : Int) : Sm := (MS.at l c).getD ⟨c, 0, 0⟩
/-- What the map holds behind some positions. -/
structure SmI (pre : List Po) (l : List Sm) : Prop where
  rd : ∀ c, (rdS l c).q = wrap64 (qS c pre) ∧ (rdS l c).b = wrap64 (bS c pre)
  at' : ∀ s, s ∈ l → ∃ p, p ∈ pre ∧ p.co = s.co
  dis : l.Pairwise fun x y => MS.key x ≠ MS.key y
theorem qS_snoc (c : Int) (pre : List Po) (p : Po) : qS c (pre ++ [p]) = qS c pre + (if p.co = c then p.q else 0) ∧ bS c (pre ++ [p]) = bS c pre + (if p.co = c then p.b else 0) := by
  unfold qS bS holdersH
  rw [List.filter_append]
  by_cases h : p.co = c
  · simp [h]
  · simp [h]
theorem SmI.nil : SmI [] [] := ⟨fun c => by refine ⟨?_, ?_⟩ <;> simp [rdS, qS, bS, holdersH, MapT.at, wrap64], (fun s h => nomatch h), List.Pairwise.nil⟩
theorem at_putS (l : List Sm) (x : Sm) (c : Int) : MS.at (x :: MS.but l x.co) c = if x.co = c then some x else MS.at l c := by
  by_cases h : x.co = c
  · rw [if_pos h]
    unfold MapT.at
    rw [List.find?_cons, show decide (MS.key x = c) = true from decide_eq_true h]
  · rw [if_neg h]
    have e : MS.at (x :: MS.but l x.co) c = MS.at (MS.but l x.co) c := by
      unfold MapT.at
      rw [List.find?_cons, show decide (MS.key x = c) = false from decide_eq_false h]
    rw [e, at_but, if_neg (fun e => h e.symm)]
theorem SmI.snoc {pre : List Po} {l : List Sm} (h : SmI pre l) (p : Po) : SmI (pre ++ [p]) (⟨p.co, wrap64 ((rdS l p.co).q + p.q), wrap64 ((rdS l p.co).b + p.b)⟩ :: MS.but l p.co) := by
  have wa : ∀ a b : Int, wrap64 (wrap64 a + b) = wrap64 (a + b) := fun a b => by unfold wrap64; omega
  refine ⟨fun c => ?_, fun s hs => ?_, ?_⟩
  · obtain ⟨e1, e2⟩ := qS_snoc c pre p
    rw [e1, e2]
    have h0 := h.rd p.co
    obtain ⟨X, hX⟩ : ∃ X, rdS l p.co = X := ⟨_, rfl⟩
    rw [hX] at h0 ⊢
    unfold rdS
    rw [show MS.at (⟨p.co, wrap64 (X.q + p.q), wrap64 (X.b + p.b)⟩ :: MS.but l p.co) c = _ from at_putS l ⟨p.co, wrap64 (X.q + p.q), wrap64 (X.b + p.b)⟩ c]
    by_cases hc : p.co = c
    · have h1 := h0
      rw [if_pos (show (Sm.mk p.co _ _).co = c from hc), if_pos hc, if_pos hc, h1.1, h1.2]
      rw [hc]
      exact ⟨wa _ _, wa _ _⟩
    · rw [if_neg (show ¬ (Sm.mk p.co _ _).co = c from hc), if_neg hc, if_neg hc]
      have h1 := h.rd c
      unfold rdS at h1
      rw [Int.add_zero, Int.add_zero]
      exact h1
  · rcases List.mem_cons.1 hs with rfl | hs
    · exact ⟨p, List.mem_append_right _ (List.mem_singleton.2 rfl), rfl⟩
    · obtain ⟨q, hq, e⟩ := h.at' s (mem_but.1 hs).1
      exact ⟨q, List.mem_append_left _ hq, e⟩
  · refine List.Pairwise.cons (fun s hs c => (mem_but.1 hs).2 c.symm) (h.dis.filter _)
theorem SmI.even {hl : List Po} {l : List Sm} (h : SmI hl l) (z : ∀ s, s ∈ l → s.q = 0 ∧ s.b = 0) : evenB hl = true := by
  unfold evenB
  rw [List.all_eq_true]
  intro p hp
  have h1 := h.rd p.co
  have h2 : (rdS l p.co).q = 0 ∧ (rdS l p.co).b = 0 := by
    unfold rdS
    cases e : MS.at l p.co with
    | none => exact ⟨rfl, rfl⟩
    | some s => exact z s (at_inv e).1
  rw [h2.1, h2.2] at h1
  simp [← h1.1, ← h1.2]
theorem SmI.odd {hl : List Po} {l : List Sm} (h : SmI hl l) {s : Sm} (hs : s ∈ l) (z : ¬ (s.q = 0 ∧ s.b = 0)) : evenB hl = false := by
  obtain ⟨p, hp, e⟩ := h.at' s hs
  have h1 := h.rd p.co
  have h2 : rdS l p.co = s := by
    unfold rdS
    rw [at_some h.dis hs (show MS.key s = p.co from e.symm)]
    rfl
  rw [h2] at h1
  unfold evenB
  rw [List.all_eq_false]
  refine ⟨p, hp, fun c => z ?_⟩
  simp only [Bool.and_eq_true, beq_iff_eq] at c
  exact ⟨h1.1.trans c.1, h1.2.trans c.2⟩
section
variable {w : World} {ops : Array Oper} {rest : List Oper} {o : Oper} {a : Act} {Q : Exit → Act → World → Prop} {b : Nat} {l : List Sm}
theorem look_s9 (h : MS.Mp w b l) {c : Int} (hc : U32' c) : (Instr.lookup 101 (.map (some b)) (.int .u32 c) false).run Try.prog w = .ok (.agg (ES.cells (rdS l c)).toArray) w := by
  have d := h.dis
  obtain ⟨es, clock, hb, st, hp, ok⟩ := h
  obtain ⟨lc, hlc⟩ := MS.lit c hc
  have kv : MS.kv c = .int .u32 c := rfl
  unfold rdS
  rcases find9 ok st.2.2 hp w hc with ⟨h1, h2, h3⟩ | ⟨e0, x, j, h1, h2, h3, hx, hk, hv, _⟩
  · rw [at_none h3]
    rw [kv] at h1 hlc
    have hz := zero_sm w
    simp [Instr.lookup, run_underlying Try.underlying101, MapKept.run_getObj_map hb, MS.K.check w _ hlc, h1, hz, Result.andThen]
    rfl
  · rw [at_some d hx hk]
    rw [kv] at h1 hlc
    simp [Instr.lookup, run_underlying Try.underlying101, MapKept.run_getObj_map hb, MS.K.check w _ hlc, h1, Result.andThen, hv]
    rfl
theorem wl_look_s9 (hg : o.guard = none) (m x : Operand) (hop : o.op = Op.lookup 101 m x false) (hm : a.eval m = .map (some b)) (h : MS.Mp w b l) {c : Int} (hx : a.eval x = .int .u32 c) (hc : U32' c)
    (hK : wpList Try.prog ops Q rest (a.put o.dst (.agg (ES.cells (rdS l c)).toArray)) w) : wpList Try.prog ops Q (o :: rest) a w :=
  wpList_plain hg fun K' hK' => by
    unfold Oper.wp
    simp [execOp, hop, hm, hx, look_s9 h hc, Result.andThen]
    exact hK' _ _ hK
theorem wl_put_s9 (hg : o.guard = none) (m x v : Operand) (hop : o.op = Op.mapUpdate 101 m x v) (hm : a.eval m = .map (some b)) (h : MS.Mp w b l) (y : Sm) (hx : a.eval x = .int .u32 y.co) (hv : a.eval v = .agg (ES.cells y).toArray) (hc : U32' y.co)
    (hK : ∀ W, MS.Mp W b (y :: MS.but l y.co) → Fr (fun k => k = b) w W → wpList Try.prog ops Q rest (a.put o.dst undef) W) : wpList Try.prog ops Q (o :: rest) a w :=
  wpList_plain hg fun K' hK' => wp9_put m x v _ hop Try.underlying101 hm h y hx hv hc fun W h1 h2 => hK' _ _ (hK W h1 h2)
theorem wplS_next {r : Nat} {todo : List Sm} (hg : o.guard = none) (it : Operand) (hop : o.op = Op.next it false) (hit : a.eval it = .pointer (some ⟨r, 0, none⟩)) (h : MS.Rg w r b l todo)
    (hDone : todo = [] → Hid (wpList Try.prog ops Q rest (a.put o.dst (.tuple #[.bool false])) w))
    (hMore : ∀ x todo' W, todo.Perm (x :: todo') → MS.Rg W r b l todo' → Fr (fun k => k = r) w W → W.heap.size = w.heap.size → (Instr.entry (.pointer (some ⟨r, 0, none⟩))).run Try.prog W = .ok (.tuple #[.int .u32 x.co, .agg (ES.cells x).toArray]) W →
      Hid (wpList Try.prog ops Q rest (a.put o.dst (.tuple #[.bool true, .int .u32 x.co, .agg (ES.cells x).toArray])) W)) : wpList Try.prog ops Q (o :: rest) a w :=
  wpl9_next w hg it hop hit h (fun ht => (hDone ht).out) (fun x t W p q f s e => (hMore x t W p q f s e).out)
end
theorem below_frP {w W U : World} {S : Nat → Prop} (b : Below w.heap.size w W) (f : Fr S W U) (hS : ∀ k, k < w.heap.size → ¬ S k) : Below w.heap.size w U :=
  ⟨f.b0.os.trans b.os, f.b0.tape.trans b.tape, f.b0.output.trans b.output, Nat.le_trans b.size f.size, fun k hk => (f.at' k (Nat.lt_of_lt_of_le hk b.size) (hS k hk)).trans (b.block k hk)⟩
theorem newS9 (w : World) : ∃ W1, w.alloc (.cells (ES.cells ⟨0, 0, 0⟩).toArray 103) = W1 ∧ Below w.heap.size w W1 ∧ ES.Bx 103 W1 w.heap.size ⟨0, 0, 0⟩ := ⟨_, rfl, below_new w _, gbx_new w _⟩
theorem size_s9 : (Try.prog.info? 103).map (fun i => i.size) = some 2 := by kernel_rfl
section
variable {ops : Array Oper} {rest : List Oper} {a : Act} {w : World} {Q : Exit → Act → World → Prop} {d : Option Nat} {x y : Operand} {t2 ty : TypeId} {ps : String} {af : Array Edge} {gd : Option (Nat × Bool)}
theorem wl_store_s9 (s : Sm) {t : Sm} (g : Nat) (hb : ES.Bx 103 w g t) (hx : a.eval x = .pointer (some ⟨g, 0, none⟩)) (hy : a.eval y = .agg (ES.cells s).toArray)
    (h : wpList Try.prog ops Q rest (a.put d undef) (w.setRow g (ES.cells s).toArray)) : wpList Try.prog ops Q (⟨d, .store 103 x y, ty, ps, af, none⟩ :: rest) a w :=
  wpList_store_row rfl 103 x y rfl g (ES.cells s).toArray hx hy 103 (ES.cells t).toArray hb size_s9 rfl (gall_one s) h
theorem wl_load_s9 {s : Sm} (g : Nat) (hb : ES.Bx 103 w g s) (hx : a.eval x = .pointer (some ⟨g, 0, none⟩)) (h : wpList Try.prog ops Q rest (a.put d (.agg (ES.cells s).toArray)) w) : wpList Try.prog ops Q (⟨d, .load 103 x, ty, ps, af, none⟩ :: rest) a w :=
  wpList_load_row rfl 103 x rfl g hx 103 _ (0, 0) _ hb Try.underlying103 rfl size_s9 h
theorem key_s9 : Try.prog.keyTypeAt 3 103 = true := by kernel_rfl
theorem guard_s9 : Try.prog.eqGuardType Try.prog.depth 103 = false := by kernel_rfl
abbrev I9' (n : Int) : Prop := -9223372036854775808 ≤ n ∧ n ≤ 9223372036854775807
theorem lits_s9 (s : Sm) (h : I9' s.q ∧ I9' s.b) : Try.prog.keyLits 3 103 (ES.cells s) = some [.int .i64 s.q, .int .i64 s.b] := by
  have h0 := wf9_i64 h.1
  have h1 := wf9_i64 h.2
  have c2 : Try.prog.cellsOf 2 = 1 := by kernel_rfl
  have c5 : Try.prog.cellsOf 103 = 2 := by kernel_rfl
  simp [Program.keyLits, ES, Sm.cells, c5, Try.underlying103, Try.underlying2, c2, h0, h1]
theorem formed_s9 (s : Sm) : (Value.agg (ES.cells s).toArray).formed Try.prog 103 = true := by
  have c5 : Try.prog.cellsOf 103 = 2 := by kernel_rfl
  simp [Value.formed, Try.underlying103, c5, ES, Sm.cells]
theorem eq_s9_run (u v : Sm) (hu : I9' u.q ∧ I9' u.b) (hv : I9' v.q ∧ I9' v.b) (w : World) : (Op.equalIn 10000 103 (.agg (ES.cells u).toArray) (.agg (ES.cells v).toArray)).run Try.prog w = .ok (decide (u.q = v.q) && decide (u.b = v.b)) w := by
  have ex : (Value.agg (ES.cells u).toArray).cells.toList = ES.cells u := by simp [Value.cells]
  have ey : (Value.agg (ES.cells v).toArray).cells.toList = ES.cells v := by simp [Value.cells]
  obtain ⟨r, h1, h2⟩ := run_equalIn_deep (P := Try.prog) 9997 3 103 key_s9 w 3 3 (.agg (ES.cells u).toArray) (.agg (ES.cells v).toArray) _ _ (formed_s9 u) (formed_s9 v) (by rw [ex]; exact lits_s9 u hu) (by rw [ey]; exact lits_s9 v hv)
  rw [h1]
  have : r = (decide (u.q = v.q) && decide (u.b = v.b)) := by
    rw [Bool.eq_iff_iff, h2]
    simp
  rw [this]
theorem wl_neq_s9 {u v : Sm} (hu : I9' u.q ∧ I9' u.b) (hv : I9' v.q ∧ I9' v.b) (hx : a.eval x = .agg (ES.cells u).toArray) (hy : a.eval y = .agg (ES.cells v).toArray)
    (h : wpList Try.prog ops Q rest (a.put d (.bool !(decide (u.q = v.q) && decide (u.b = v.b)))) w) : wpList Try.prog ops Q (⟨d, .binOp .neq 103 x y t2, ty, ps, af, none⟩ :: rest) a w :=
  wpList_plain rfl fun K' hK' => by
    unfold Oper.wp execOp
    simp only [hx, hy, Sem.run_bind, run_eqGuard_agg w _ _ _ _ _ _ guard_s9, Result.andThen_ok, run_neq_struct, eq_s9_run u v hu hv w, Sem.run_pure]
    exact hK' _ _ h
end
theorem SmI.ok {pre : List Po} {l : List Sm} (h : SmI pre l) {s : Sm} (hs : s ∈ l) : I9' s.q ∧ I9' s.b := by
  have h1 := h.rd s.co
  have h2 : rdS l s.co = s := by
    unfold rdS
    rw [at_some h.dis hs (show MS.key s = s.co from rfl)]
    rfl
  rw [h2] at h1
  rw [h1.1, h1.2]
  unfold I9' wrap64
  omega
set_option maxRecDepth 100000 in
set_option maxHeartbeats 8000000 in
theorem levn9 (A : Option Addr) (n c : Nat) (hl : List Po) (w : World) (h : EP.Rd w A n hl) (hok : ∀ p, p ∈ hl → U32' p.co) (hn : n ≤ 200) :
    Calls Try.prog 51 #[.slice A n c] w fun e w' => e = .returned (.bool (evenB hl)) ∧ Below w.heap.size w w' := by
  have HR := Lib.hid h
  have hz := zero_po
  have hz2 := zero_sm
  have hmm := @run_makeMap Try.prog
  have HN : Hid (hl.length = n) := Lib.hid h.1
  have HOK := Lib.hid hok
  obtain ⟨r, hr⟩ : ∃ r, evenB hl = r := ⟨_, rfl⟩
  rw [hr]
  have HRR := Lib.hid hr
  clear h hr hok
  have m1 := MapT.Mp.made (M := MS) w
  have q1 := below_new w (.map #[] 0)
  obtain ⟨W1, hW1⟩ : ∃ W1, w.alloc (.map #[] 0) = W1 := ⟨_, rfl⟩
  rw [hW1] at m1 q1
  have M1 := Lib.hid m1
  have Q1 := Lib.hid q1
  have HW1 := Lib.hid hW1
  clear m1 q1 hW1
  go_enter Try.func51, Try.ntmps51
  go_wp2_with fail
  try rw [HW1.out]
  go_loopw [12] (fun i wr => ∃ (k : Nat) (l : List Sm), k ≤ n ∧ i = .int .i64 k ∧ MS.Mp wr w.heap.size l ∧ SmI (hl.take k) l ∧ Below w.heap.size w wr) (fun i _ => n - (intOf i).toNat)
  case atStart => exact ⟨0, [], Nat.zero_le _, rfl, M1.out, SmI.nil, Q1.out⟩
  case round =>
    obtain ⟨k, l, hk, rfl, hm, hi, hB⟩ := hrel
    have HM := Lib.hid hm
    have HI := Lib.hid hi
    have HB := Lib.hid hB
    clear hm hi hB
    by_cases hlt : k < n
    case neg =>
      obtain rfl : k = n := by omega
      have hd : decide ((k : Int) < (k : Int)) = false := by simp
      have SI : Hid (SmI hl l) := Lib.hid (by have := HI.out; rwa [List.take_of_length_le (by rw [HN.out]; exact Nat.le_refl _)] at this)
      have BLT : Hid (w.heap.size < wr.heap.size) := Lib.hid HM.out.lt
      have NW := Lib.hid newS9
      go_wp2_with (at_range; refine wpl9_range _ rfl _ _ rfl Try.underlying101 rfl HM.out ?_; intro W1 rg q1 s1)
      go_frame
      have RG := Lib.hid rg
      have Q1' := Lib.hid (HB.out.trans (q1.mono HB.out.size))
      have SL := Lib.hid s1
      clear rg q1 s1
      obtain ⟨R, hR⟩ : ∃ R, wr.heap.size = R := ⟨_, rfl⟩
      rw [hR] at RG SL BLT ⊢
      have RLE : Hid (w.heap.size < R) := BLT
      clear HB HM hR
      go_loopw [2] (fun v wr => v = .bool false ∧ ∃ (done todo : List Sm), l.Perm (done ++ todo) ∧ (∀ s, s ∈ done → s.q = 0 ∧ s.b = 0) ∧ MS.Rg wr R w.heap.size l todo ∧ Below w.heap.size w wr) (fun _ wr => wr.rangeLeft w.heap.size R)
      case atStart => exact ⟨rfl, [], l, List.Perm.refl _, (fun s h => nomatch h), RG.out, Q1'.out⟩
      case round =>
        obtain ⟨rfl, done, todo, hp, hz0, hr, hq⟩ := hrel
        have HP := Lib.hid hp
        have HZ0 := Lib.hid hz0
        have HR2 := Lib.hid hr
        have HQ := Lib.hid hq
        have hlf := hr.left
        have HLF := Lib.hid hlf
        clear hp hz0 hr hq hlf
        go_wp2_with (at_next; refine wplS_next rfl _ rfl rfl HR2.out (fun ht => ?_) (fun x todo' W hpt hr2 f2 hs2 hen => ?_))
        · refine Lib.hid ?_
          have E : Hid (r = true) := Lib.hid (by
            rw [← HRR.out]
            refine SI.out.even fun s hs => ?_
            have h1 := HP.out.mem_iff.1 hs
            rw [ht, List.append_nil] at h1
            exact HZ0.out s h1)
          go_wp2_with fail
          go_ret
          rw [E.out]
          exact ⟨rfl, HQ.out⟩
        · refine Lib.hid ?_
          obtain ⟨W2, hW2, b2, x2⟩ := NW.out W
          obtain ⟨W3, hW3⟩ : ∃ W3, W2.setRow W.heap.size (ES.cells x).toArray = W3 := ⟨_, rfl⟩
          have HW2 := Lib.hid hW2
          have X2 := Lib.hid x2
          have HW3 := Lib.hid hW3
          have X3 : Hid (ES.Bx 103 W3 W.heap.size x) := Lib.hid (hW3 ▸ gbx_set x2)
          have q3 : Below W.heap.size W W3 := by rw [← hW3]; exact below_row0 b2 (Nat.le_refl _)
          have HA : l.Perm ((done ++ [x]) ++ todo') := by
            have := HP.out.trans (hpt.append_left done)
            simpa using this
          have HAL := Lib.hid HA
          have XM : x ∈ l := HA.mem_iff.2 (by simp)
          have XMH := Lib.hid XM
          have OK := Lib.hid (SI.out.ok XM)
          have R3 := Lib.hid (hr2.below q3)
          have Q3 : Hid (Below w.heap.size w W3) := Lib.hid (by
            have h1 := below_frP HQ.out f2 (fun k hk e => by have := RLE.out; omega)
            exact h1.trans (q3.mono h1.size))
          have PT := Lib.hid hpt
          clear hpt hr2 f2 hs2 hW2 b2 x2 hW3 q3 HA XM
          have NZ : Hid (I9' (Sm.mk 0 0 0).q ∧ I9' (Sm.mk 0 0 0).b) := Lib.hid ⟨⟨by decide, by decide⟩, ⟨by decide, by decide⟩⟩
          obtain ⟨t, ht⟩ : ∃ t, (decide (x.q = (Sm.mk 0 0 0).q) && decide (x.b = (Sm.mk 0 0 0).b)) = t := ⟨_, rfl⟩
          have HT := Lib.hid ht
          clear ht
          cases t
          · have E : Hid (r = false) := Lib.hid (by
              rw [← HRR.out]
              refine SI.out.odd XMH.out fun c => ?_
              have := HT.out
              simp [c.1, c.2] at this)
            go_wp2_with (first | (rw [HW2.out]; refine wl_store_s9 x W.heap.size X2.out rfl rfl ?_; rw [HW3.out]) | (refine wl_load_s9 W.heap.size X3.out rfl ?_) | (refine wl_neq_s9 (v := Sm.mk 0 0 0) OK.out NZ.out rfl rfl ?_; rw [HT.out]))
            go_ret
            rw [E.out]
            exact ⟨rfl, Q3.out⟩
          · have E : Hid (x.q = 0 ∧ x.b = 0) := Lib.hid (by simpa using HT.out)
            go_wp2_with (first | (rw [HW2.out]; refine wl_store_s9 x W.heap.size X2.out rfl rfl ?_; rw [HW3.out]) | (refine wl_load_s9 W.heap.size X3.out rfl ?_) | (refine wl_neq_s9 (v := Sm.mk 0 0 0) OK.out NZ.out rfl rfl ?_; rw [HT.out]))
            go_roundw
            case rel => exact ⟨done ++ [x], todo', HAL.out, (fun s hs => by
              rcases List.mem_append.1 hs with h | h
              · exact HZ0.out s h
              · obtain rfl := List.mem_singleton.1 h; exact E.out), R3.out, Q3.out⟩
            case measure =>
              show W3.rangeLeft w.heap.size R < wr.rangeLeft w.heap.size R
              rw [R3.out.left, HLF.out, PT.out.length_eq]
              simp
    case pos =>
      have hd : decide ((k : Int) < n) = true := decide_eq_true (by omega)
      have hki : (k : Int) < (n : Int) := by omega
      obtain ⟨x, hx⟩ : ∃ x, hl[k]? = some x := ⟨hl[k]'(by have := HN.out; omega), List.getElem?_eq_getElem _⟩
      obtain ⟨b, o, rfl, rg⟩ := grd_rng HR.out hx
      have RG : Hid (wr.rangeAt b (o + k * 4) (EP.cells x)) := Lib.hid (rng_below rg HB.out (Nat.le_refl _))
      have CU := Lib.hid (HOK.out x (List.mem_of_getElem? hx))
      have SN : Hid (SmI (hl.take (k + 1)) (⟨x.co, wrap64 ((rdS l x.co).q + x.q), wrap64 ((rdS l x.co).b + x.b)⟩ :: MS.but l x.co)) := Lib.hid (by
        have e : hl.take (k + 1) = hl.take k ++ [x] := by rw [List.take_add_one, hx]; rfl
        rw [e]; exact HI.out.snoc x)
      obtain ⟨W2, hW2, b2, z2⟩ := newP9 wr
      obtain ⟨W3, hW3⟩ : ∃ W3, W2.setRow wr.heap.size (EP.cells x).toArray = W3 := ⟨_, rfl⟩
      have Z2 := Lib.hid z2
      have HW2 := Lib.hid hW2
      have HW3 := Lib.hid hW3
      have x3 : EP.Bx 47 W3 wr.heap.size x := hW3 ▸ gbx_set z2
      have b3 : Below wr.heap.size wr W3 := by rw [← hW3]; exact below_row0 b2 (Nat.le_refl _)
      have X3 := Lib.hid x3
      have B3 := Lib.hid b3
      have k0 : W3.cell? ⟨wr.heap.size, 0, none⟩ = some (.int .u32 x.co) := gbx_cell x3 0
      have M3 := Lib.hid (HM.out.below b3)
      obtain ⟨s, hs⟩ : ∃ s, rdS l x.co = s := ⟨_, rfl⟩
      rw [hs] at SN
      have HS := Lib.hid hs
      obtain ⟨W4, hW4, b4, z4⟩ := newS9 W3
      obtain ⟨W5, hW5⟩ : ∃ W5, W4.setRow W3.heap.size (ES.cells s).toArray = W5 := ⟨_, rfl⟩
      have Z4 := Lib.hid z4
      have HW4 := Lib.hid hW4
      have HW5 := Lib.hid hW5
      have x5 : ES.Bx 103 W5 W3.heap.size s := hW5 ▸ gbx_set z4
      have b5 : Below W3.heap.size W3 W5 := by rw [← hW5]; exact below_row0 b4 (Nat.le_refl _)
      have B5 := Lib.hid b5
      have y3 := gbx_below x3 b5
      have j0 : W5.cell? ⟨wr.heap.size, 0, none⟩ = some (.int .u32 x.co) := gbx_cell y3 0
      have j2 : W5.cell? ⟨wr.heap.size, 2, none⟩ = some (.int .i64 x.q) := gbx_cell y3 2
      have j3 : W5.cell? ⟨wr.heap.size, 3, none⟩ = some (.int .i64 x.b) := gbx_cell y3 3
      have i0 : W5.cell? ⟨W3.heap.size, 0, none⟩ = some (.int .i64 s.q) := gbx_cell x5 0
      have i1 : W5.cell? ⟨W3.heap.size, 1, none⟩ = some (.int .i64 s.b) := gbx_cell x5 1
      have M5 := Lib.hid (M3.out.below b5)
      clear hx rg hW2 z2 hW3 x3 b3 hW4 z4 hW5 x5 b5 y3 hs b2 b4
      go_wp2_with (first | ((with_reducible refine gwl_load TP b (o + k * 4) RG.out ?_ ?_ ?_); rfl; rfl) | (rw [HW2.out]; refine gwl_store TP x wr.heap.size Z2.out rfl rfl ?_; rw [HW3.out]) | (at_lookup; refine wl_look_s9 rfl _ _ rfl rfl M3.out rfl CU.out ?_; rw [HS.out]) | (rw [HW4.out]; refine wl_store_s9 s W3.heap.size Z4.out rfl rfl ?_; rw [HW5.out]) | (at_mapUpdate; refine wl_put_s9 rfl _ _ _ rfl rfl M5.out ⟨x.co, wrap64 (s.q + x.q), wrap64 (s.b + x.b)⟩ rfl rfl CU.out ?_; intro W6 m6 f6; have M6 := Lib.hid m6; have F6 := Lib.hid f6; clear m6 f6))
      go_roundw
      case rel => exact ⟨k + 1, _, hlt, by go_num, M6.out, SN.out, below_frP (HB.out.trans ((B3.out.trans (B5.out.mono B3.out.size)).mono HB.out.size)) F6.out (fun j hj e => by omega)⟩
      case measure => simp only [intOf]; omega
end Go.Proofs.Ythnmpnepgagmmaa
