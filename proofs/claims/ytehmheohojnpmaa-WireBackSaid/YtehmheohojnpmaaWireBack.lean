/- WireBack returns true for every list of parts, and the argument reads afterwards as before: no conditions. -/
import Derived.Test.YtehmheohojnpmaaRows
import Derived.Test.YtehmheohojnpmaaNz
import Derived.WalkKit
import Derived.ProofKit
import Derived.OpenShut
import Derived.ShutString
import Derived.ChangeOld
import Derived.Below
import Derived.SizedLaws
import Derived.Deep.Slices
namespace Go.Proofs.Ytehmheohojnpmaa.wireBack
open Go.ChangeShapes Go.WideShapes Go.ChangeAt Go.RowKit
set_option linter.unusedVariables false

theorem own : ownKnob Try.prog.godebug = none := by kernel_rfl
theorem laidOut : laidOutB Try.prog = true := by kernel_rfl
theorem cellsE : Try.prog.cellsOf 55 = 3 := by kernel_rfl
theorem cellsI : Try.prog.cellsOf 3 = 1 := by kernel_rfl
theorem cellsJ : Try.prog.cellsOf 2 = 1 := by kernel_rfl
theorem cellsS : Try.prog.cellsOf 23 = 1 := by kernel_rfl
theorem bytesU : Try.prog.bytesOf 5 = 1 := by kernel_rfl

set_option maxRecDepth 100000 in
theorem out (A : Option Addr) (m d : Nat) (w : World) (hm : m ≤ 9223372036854775807) (h : 300 < m) :
    Calls Try.prog 5 #[.slice A m d] w fun e w' => e = .returned (.bool true) ∧ Below w.heap.size w w' := by
  go_enter Try.func5, Try.ntmps5
  go_wp2_with fail
  refine (known_own _).mono ?_; rintro e w1 ⟨rfl, q⟩
  go_wp2_with fail
  go_ret
  exact ⟨rfl, q⟩

theorem walk (a0 : Option Addr) (len0 cap0 : Nat) (kf nf : Nat → Int) (ta : Nat → Option Addr) (tn tc : Nat → Nat) (tf : Nat → List Int) (w : World) (w0 : Parts w a0 len0 kf nf ta tn tc tf) (hl : len0 ≤ maxLen) :
    Calls Try.prog 5 #[.slice a0 len0 cap0] w fun e w' => e = .returned (.bool true) ∧ Below w.heap.size w w' := by
  by_cases h : 300 < len0
  · exact out a0 len0 cap0 w (by unfold maxLen at hl; omega) h
  · exact back_walk a0 len0 cap0 kf nf ta tn tc tf w w0 (by omega)

theorem weights_all {H : Type} {P : Program} {e : TypeId} {n : Nat} {d : DataW H} (hn : n ∈ d.weights P e) : ∀ ds : List (DataW H), d ∈ ds → n ∈ DataW.weightsAll P e ds
  | [], h => by simp at h
  | x :: ds, h => by
    simp only [DataW.weightsAll, List.mem_append]
    rcases List.mem_cons.1 h with rfl | h
    · exact .inl hn
    · exact .inr (weights_all hn ds h)
/-- One part, as it lies in memory. -/
def OnePart (W : World) (x : Addr) (i : Nat) (p : Int × Int × Option Addr × Nat × Nat × List Int) : Prop :=
  W.cell? (x.add (i * 3)) = some (.int .i64 p.1) ∧ W.cell? (x.add (i * 3 + 1)) = some (.int .i64 p.2.1) ∧ W.cell? (x.add (i * 3 + 2)) = some (.slice p.2.2.1 p.2.2.2.1 p.2.2.2.2.1) ∧
    (-9223372036854775808 ≤ p.2.1 ∧ p.2.1 ≤ 9223372036854775807) ∧ RdB W p.2.2.1 p.2.2.2.1 p.2.2.2.2.2 ∧ By p.2.2.2.2.2 ∧ (p.2.2.1 = none → p.2.2.2.1 = 0 ∧ p.2.2.2.2.1 = 0) ∧ p.2.2.2.1 ≤ 140737488351232

set_option maxRecDepth 100000 in
theorem lifted (os : Os) (started : os.Started) (H : Type) (enc : TypeId × Value → H) :
    ReturnsInHanded {} Try.checked os 5 .any (Rows.wireBackSpec.pre6 enc Try.prog Try.f5 Rows.wireBackRow.domain false) (Rows.wireBackSpec.post enc Try.prog Try.f5 false true false false) := by
  refine returnsInHanded_of_change_sized (C := Try.checked) own started (by kernel_rfl) Try.func5
    (ChangeSpec.witness6 (enc := enc) (C := Try.checked) false ⟨#[], #[.slice none 0 0], []⟩ 8 (by kernel_rfl) (by kernel_rfl) (by kernel_rfl) (by kernel_rfl)) ?_
  intro W base args ds gs before hval0 hW hcnd hsz0 _
  have hsz : (DataW.weightsEach Try.prog (Try.f5.params.toList ++ Rows.wireBackSpec.plain.varTypes Try.prog) (ds ++ gs)).all (· ≤ reachBytes) = true := hsz0
  clear hsz0
  have hval : ∀ (j : Nat) t v, Try.f5.params[j]? = some t → args[j]? = some v → Value.okWide Try.prog W .any base t v := hval0
  have hW' := hW
  obtain ⟨p, q, hA0, hV, rfl, hfz, hnd⟩ := hW
  have hA : DataW.TrodAll enc Try.prog W 0 (fun _ => true) true Try.f5.params.toList args.toList ds p := hA0
  rw [Try.params5] at hA hval hsz
  obtain ⟨v0, vs0, d0, ds0, p0, q0, hargs, rfl, rfl, h0, r0⟩ := trodAll_cons hA
  obtain ⟨rfl, rfl, rfl⟩ := trodAll_nil r0
  obtain rfl : args = #[v0] := by cases args; simp_all
  obtain ⟨rfl, rfl⟩ := trodVars_none hV
  obtain ⟨a0, len0, cap0, rfl⟩ := okWide_slice Try.underlying53 (hval 0 53 v0 rfl rfl)
  have k0 := h0
  have lt0 : ∀ x ∈ p0, x.block < W.heap.size := by obtain ⟨m, hm⟩ := k0; exact DataW.trod_lt m _ _ _ hm
  obtain ⟨kf, nf, ta, tn, tc, tf, w0, hl0⟩ : ∃ kf nf ta tn tc tf, Parts W a0 len0 kf nf ta tn tc tf ∧ len0 ≤ maxLen := by
    obtain ⟨fuel, hf⟩ := h0
    rcases Deep.open_slice Try.underlying53 hf with ⟨hcs, _⟩ | ⟨x, l, c, m, k, D, Pl, hcs, _, hl, hm, hmm, hx, hi⟩
    · simp [Value.cells] at hcs
      obtain ⟨rfl, rfl, rfl⟩ := hcs
      exact ⟨fun _ => 0, fun _ => 0, fun _ => none, fun _ => 0, fun _ => 0, fun _ => [], ⟨fun j hj => absurd hj (Nat.not_lt_zero j), fun j hj => absurd hj (Nat.not_lt_zero j), fun h => absurd h (Nat.lt_irrefl 0)⟩, Nat.zero_le _⟩
    · simp [Value.cells] at hcs
      obtain ⟨rfl, rfl, rfl⟩ := hcs
      have hlm : len0 ≤ m := by rw [hmm]; split <;> omega
      simp only [Prod.mk.injEq] at hx
      obtain ⟨rfl, -⟩ := hx
      have hw : ∀ i, i < len0 → ∀ n, n ∈ (D i).weights Try.prog 55 → n ≤ reachBytes := by
        intro i hil n hn
        have := List.all_eq_true.1 hsz n (DataW.weights_mem_each (j := 0) (t := 53) rfl rfl n (by
          simp only [DataW.weights, Try.underlying53, List.mem_cons, List.mem_append]
          exact .inr (.inl (weights_all hn _ (List.mem_map.2 ⟨i, List.mem_range.2 hil, rfl⟩)))))
        simpa using this
      have each : ∀ i, i < len0 → ∃ p, OnePart W x i p := by
        intro i hil
        obtain ⟨cs', hc, ht⟩ := hi i (by omega)
        rw [cellsE] at hc
        obtain ⟨_, hcl, hat⟩ := World.cells?_some hc
        obtain ⟨ys, n', _, hy, _, hyl, hg⟩ := DataW.trod_struct Try.underlying55 ht
        simp only [Prod.mk.injEq] at hy
        match ys, hyl, cs', hcl with
        | [y0, y1, y2], _, [v0, v1, v2], _ =>
          have g0 := hg 0 _ rfl
          have g1 := hg 1 _ rfl
          have g2 := hg 2 _ rfl
          simp [cellsI, cellsJ, cellsS] at g0 g1 g2
          have e0 := hat 0 (by omega)
          have e1 := hat 1 (by omega)
          have e2 := hat 2 (by omega)
          rw [Deep.add_add] at e0 e1 e2
          obtain ⟨a, f0, _, _⟩ := DataW.trod_int Try.underlying3 g0
          obtain ⟨b, f1, _, hb⟩ := DataW.trod_int Try.underlying2 g1
          simp only [List.cons.injEq, and_true] at f0 f1
          subst f0 f1
          have hwi := hw i hil
          rw [hy.1] at hwi
          simp only [DataW.weights, Try.underlying55] at hwi
          rcases open_ints Try.underlying23 Try.underlying5 (by kernel_rfl) g2 with ⟨f2, _⟩ | ⟨z, tl, tcp, zs, f2, _, tl1, tl2, tz, hx2, tcell, twf⟩
          · simp only [List.cons.injEq, and_true] at f2
            subst f2
            exact ⟨(a, b, none, 0, 0, []), by simpa using e0, by simpa using e1, by simpa using e2, bounds_i64 hb, rdb_none W, (fun n hn => by cases hn), (fun _ => ⟨rfl, rfl⟩), Nat.zero_le _⟩
          · simp only [List.cons.injEq, and_true] at f2
            subst f2
            obtain ⟨r, y, n0, _, _⟩ := rdb_in (w := W) (a := some z) (len := tl) (cap := tcp) (zs := zs) (.inr ⟨z, rfl, tl1, tl2, by simpa using tz, tcell, twf⟩)
            refine ⟨(a, b, some z, tl, tcp, zs.take tl), by simpa using e0, by simpa using e1, by simpa using e2, bounds_i64 hb, r, y, n0, ?_⟩
            subst hx2
            have h5 := hwi _ (DataW.weights_mem_each (j := 2) (t := 23) rfl rfl _ (by
              simp only [DataW.weights, Try.underlying23, List.mem_cons]
              exact .inl rfl))
            rw [bytesU] at h5
            simp only [lits, List.length_map, List.length_take, List.length_drop, reachBytes] at h5
            simp only [if_true] at tz
            show tl ≤ 140737488351232
            omega
      refine ⟨fun i => if h : i < len0 then (each i h).choose.1 else 0, fun i => if h : i < len0 then (each i h).choose.2.1 else 0, fun i => if h : i < len0 then (each i h).choose.2.2.1 else none, fun i => if h : i < len0 then (each i h).choose.2.2.2.1 else 0, fun i => if h : i < len0 then (each i h).choose.2.2.2.2.1 else 0, fun i => if h : i < len0 then (each i h).choose.2.2.2.2.2 else [], ⟨fun j hj => ?_, fun j hj => ?_, fun hp => ?_⟩, by omega⟩
      · simp only [hj, dif_pos]
        exact (each j hj).choose_spec.2.2.2.1
      · simp only [hj, dif_pos]
        exact (each j hj).choose_spec.2.2.2.2
      · obtain ⟨b, off, spot⟩ := x
        have hspot : spot = none := by simpa [Addr.add] using World.cell?_spot (each 0 hp).choose_spec.1
        subst hspot
        refine ⟨b, off, rfl, fun j hj => ?_⟩
        simp only [hj, dif_pos]
        have h2 := (each j hj).choose_spec
        have e1 : (⟨b, off, none⟩ : Addr).add (j * 3) = ⟨b, off + j * 3, none⟩ := Go.WideShapes.add_plain _ _ _
        have e2 : (⟨b, off, none⟩ : Addr).add (j * 3 + 1) = ⟨b, off + j * 3 + 1, none⟩ := Go.WideShapes.add_plain _ _ _
        have e3 : (⟨b, off, none⟩ : Addr).add (j * 3 + 2) = ⟨b, off + j * 3 + 2, none⟩ := Go.WideShapes.add_plain _ _ _
        exact ⟨(congrArg W.cell? e1).symm.trans h2.1, (congrArg W.cell? e2).symm.trans h2.2.1, (congrArg W.cell? e3).symm.trans h2.2.2.1⟩
  clear hA0 hval0
  refine (walk a0 len0 cap0 kf nf ta tn tc tf W w0 hl0).mono fun e W' ⟨he, bel⟩ => ?_
  subst he
  exact ⟨_, rfl, _, _, _, [], _, [], hW', trodAll_mk1 (shut_bool Try.underlying4 _), (trodAll_cons_mk (Below.trod laidOut (by kernel_rfl) (of_decide_eq_true (by kernel_rfl)) k0 bel lt0) trodAll_mk0), rfl, bel.frame _, fun h => by cases h⟩

theorem over : Rows.wireBackRow.holds Try.pinned (OpenSpec.ofChange Rows.wireBackSpec) :=
  OpenClaim.holds_of_wide 5 Try.f5 rfl rfl rfl rfl rfl rfl rfl ⟨rfl, rfl, rfl, rfl, rfl⟩ rfl rfl rfl rfl rfl (by kernel_rfl) Try.func5 (by kernel_rfl)
    (of_decide_eq_true (by kernel_rfl)) (by unfold Func.isWrapper; first | (rw [if_pos (by decide +kernel)]; kernel_rfl) | (rw [if_neg (by decide +kernel)]; exact ⟨rfl, rfl⟩))
    (fun os started H enc _ => lifted os started H enc)

/-- The statement. -/
theorem proved : Rows.WireBackSaid := over
#print axioms proved
end Go.Proofs.Ytehmheohojnpmaa.wireBack
