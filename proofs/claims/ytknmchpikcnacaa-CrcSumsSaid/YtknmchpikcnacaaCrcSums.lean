/- CrcSums answers true for every list of parts: the sum of any parts is the document's, and the parts stay. No conditions. -/
import Derived.Test.YtknmchpikcnacaaRows
import Derived.Test.YtknmchpikcnacaaCj
import Derived.Test.YtknmchpikcnacaaCv
import Derived.WalkKit
import Derived.ProofKit
import Derived.OpenShut
import Derived.ShutString
import Derived.ChangeOld
import Derived.Below
import Derived.SizedLaws
import Derived.Deep.Slices
namespace Go.Proofs.Ytknmchpikcnacaa.crcSums
open Go.ChangeShapes Go.WideShapes Go.ChangeAt Go.RowKit
set_option linter.unusedVariables false

theorem own : ownKnob Try.prog.godebug = none := by kernel_rfl
theorem laidOut : laidOutB Try.prog = true := by kernel_rfl
theorem cellsS : Try.prog.cellsOf 23 = 1 := by kernel_rfl
theorem bytesU : Try.prog.bytesOf 5 = 1 := by kernel_rfl
theorem bytesS : Try.prog.bytesOf 23 = 24 := by kernel_rfl

theorem weights_all {H : Type} {P : Program} {e : TypeId} {n : Nat} {d : DataW H} (hn : n ∈ d.weights P e) : ∀ ds : List (DataW H), d ∈ ds → n ∈ DataW.weightsAll P e ds
  | [], h => by simp at h
  | x :: ds, h => by
    simp only [DataW.weightsAll, List.mem_append]
    rcases List.mem_cons.1 h with rfl | h
    · exact .inl hn
    · exact .inr (weights_all hn ds h)
theorem by_cat : ∀ ps : List Pt, (∀ p, p ∈ ps → By p.bs) → By (cat ps)
  | [], _ => by intro x hx; simp [cat] at hx
  | q :: l, h => by
    intro x hx
    simp only [cat, List.mem_append] at hx
    rcases hx with hx | hx
    · exact h q (by simp) x hx
    · exact by_cat l (fun p hp => h p (by simp [hp])) x hx
/-- One part, as it lies in memory. -/
def OnePart (W : World) (x : Addr) (i : Nat) (p : Pt) : Prop :=
  W.cell? (x.add i) = some p.v ∧ p.ok W ∧ By p.bs ∧ p.n ≤ 140737488351232

set_option maxRecDepth 100000 in
theorem lifted (os : Os) (started : os.Started) (H : Type) (enc : TypeId × Value → H) :
    ReturnsInHanded {} Try.checked os 3 .any (Rows.crcSumsSpec.pre6 enc Try.prog Try.f3 Rows.crcSumsRow.domain false) (Rows.crcSumsSpec.post enc Try.prog Try.f3 false true false false) := by
  refine returnsInHanded_of_change_sized (C := Try.checked) own started (by kernel_rfl) Try.func3
    (ChangeSpec.witness6 (enc := enc) (C := Try.checked) false ⟨#[], #[.slice none 0 0], []⟩ 8 (by kernel_rfl) (by kernel_rfl) (by kernel_rfl) (by kernel_rfl)) ?_
  intro W base args ds gs before hval0 hW hcnd hsz0 _
  have hsz : (DataW.weightsEach Try.prog (Try.f3.params.toList ++ Rows.crcSumsSpec.plain.varTypes Try.prog) (ds ++ gs)).all (· ≤ reachBytes) = true := hsz0
  clear hsz0
  have hval : ∀ (j : Nat) t v, Try.f3.params[j]? = some t → args[j]? = some v → Value.okWide Try.prog W .any base t v := hval0
  have hW' := hW
  obtain ⟨p, q, hA0, hV, rfl, hfz, hnd⟩ := hW
  have hA : DataW.TrodAll enc Try.prog W 0 (fun _ => true) true Try.f3.params.toList args.toList ds p := hA0
  rw [Try.params3] at hA hval hsz
  obtain ⟨v0, vs0, d0, ds0, p0, q0, hargs, rfl, rfl, h0, r0⟩ := trodAll_cons hA
  obtain ⟨rfl, rfl, rfl⟩ := trodAll_nil r0
  obtain rfl : args = #[v0] := by cases args; simp_all
  obtain ⟨rfl, rfl⟩ := trodVars_none hV
  obtain ⟨a0, len0, cap0, rfl⟩ := okWide_slice Try.underlying22 (hval 0 22 v0 rfl rfl)
  have k0 := h0
  have lt0 : ∀ x ∈ p0, x.block < W.heap.size := by obtain ⟨m, hm⟩ := k0; exact DataW.trod_lt m _ _ _ hm
  obtain ⟨ps, w0, hy, hn, hl0⟩ : ∃ ps : List Pt, PtsAt W a0 len0 ps ∧ By (cat ps) ∧ (∀ p, p ∈ ps → p.n ≤ 140737488351232) ∧ len0 ≤ 140737488351232 := by
    obtain ⟨fuel, hf⟩ := h0
    rcases Deep.open_slice1 Try.underlying22 cellsS hf with ⟨hcs, _⟩ | ⟨x, l, c, m, k, V, D, Pl, hcs, _, hl, hm, hmm, hx, hi⟩
    · simp [Value.cells] at hcs
      obtain ⟨rfl, rfl, rfl⟩ := hcs
      exact ⟨[], ⟨rfl, fun p hp => (by simp at hp), fun h => absurd h (Nat.lt_irrefl 0)⟩, (fun x hx => by simp [cat] at hx), (fun p hp => by simp at hp), Nat.zero_le _⟩
    · simp [Value.cells] at hcs
      obtain ⟨rfl, rfl, rfl⟩ := hcs
      have hlm : len0 ≤ m := by rw [hmm]; split <;> omega
      simp only [Prod.mk.injEq] at hx
      obtain ⟨rfl, -⟩ := hx
      have hw : ∀ i, i < len0 → ∀ n, n ∈ (D i).weights Try.prog 23 → n ≤ reachBytes := by
        intro i hil n hn
        have := List.all_eq_true.1 hsz n (DataW.weights_mem_each (j := 0) (t := 22) rfl rfl n (by
          simp only [DataW.weights, Try.underlying22, List.mem_cons, List.mem_append]
          exact .inr (.inl (weights_all hn _ (List.mem_map.2 ⟨i, List.mem_range.2 hil, rfl⟩)))))
        simpa using this
      have hlen : len0 ≤ 140737488351232 := by
        have := List.all_eq_true.1 hsz _ (DataW.weights_mem_each (j := 0) (t := 22) rfl rfl _ (by
          simp only [DataW.weights, Try.underlying22, List.mem_cons]
          exact .inl rfl))
        rw [bytesS] at this
        simp only [List.length_map, List.length_range, reachBytes, decide_eq_true_eq] at this
        omega
      have each : ∀ i, i < len0 → ∃ p, OnePart W x i p := by
        intro i hil
        obtain ⟨hc, g2⟩ := hi i (by omega)
        have hwi := hw i hil
        rcases open_ints Try.underlying23 Try.underlying5 (by kernel_rfl) g2 with ⟨f2, _⟩ | ⟨z, tl, tcp, zs, f2, _, tl1, tl2, tz, hx2, tcell, twf⟩
        · simp only [List.cons.injEq, and_true] at f2
          rw [f2] at hc
          exact ⟨⟨none, 0, 0, []⟩, hc, ⟨rdb_none W, fun _ => ⟨rfl, rfl⟩⟩, (fun n hn => by cases hn), Nat.zero_le _⟩
        · simp only [List.cons.injEq, and_true] at f2
          rw [f2] at hc
          obtain ⟨r, y, n0, _, _⟩ := rdb_in (w := W) (a := some z) (len := tl) (cap := tcp) (zs := zs) (.inr ⟨z, rfl, tl1, tl2, by simpa using tz, tcell, twf⟩)
          refine ⟨⟨some z, tl, tcp, zs.take tl⟩, hc, ⟨r, n0⟩, y, ?_⟩
          simp only [Prod.mk.injEq] at hx2
          rw [hx2.1] at hwi
          have h5 := hwi _ (by
            simp only [DataW.weights, Try.underlying23, List.mem_cons]
            exact .inl rfl)
          rw [bytesU] at h5
          simp only [lits, List.length_map, List.length_take, List.length_drop, reachBytes] at h5
          simp only [if_true] at tz
          show tl ≤ 140737488351232
          omega
      obtain ⟨f, hf2⟩ : ∃ f : Nat → Pt, ∀ i, i < len0 → OnePart W x i (f i) := ⟨fun i => if h : i < len0 then (each i h).choose else ⟨none, 0, 0, []⟩, fun i h => by
        simp only [h, dif_pos]
        exact (each i h).choose_spec⟩
      have hmem : ∀ p, p ∈ (List.range len0).map f → ∃ i, i < len0 ∧ f i = p := fun p hp => by
        obtain ⟨i, h1, h2⟩ := List.mem_map.1 hp
        exact ⟨i, List.mem_range.1 h1, h2⟩
      refine ⟨(List.range len0).map f, ⟨by simp, fun p hp => ?_, fun hp => ?_⟩, by_cat _ (fun p hp => ?_), fun p hp => ?_, hlen⟩
      · obtain ⟨i, h1, rfl⟩ := hmem p hp
        exact (hf2 i h1).2.1
      · obtain ⟨b, off, spot⟩ := x
        have hspot : spot = none := by simpa [Addr.add] using World.cell?_spot (hf2 0 hp).1
        subst hspot
        refine ⟨b, off, rfl, fun j p hj => ?_⟩
        obtain ⟨hjl, e⟩ := List.getElem?_eq_some_iff.1 hj
        have hjl' : j < len0 := by simpa using hjl
        have ep : f j = p := by rw [← e]; simp
        rw [← ep]
        have e1 : (⟨b, off, none⟩ : Addr).add j = ⟨b, off + j, none⟩ := Go.WideShapes.add_plain _ _ _
        exact (congrArg W.cell? e1).symm.trans (hf2 j hjl').1
      · obtain ⟨i, h1, rfl⟩ := hmem p hp
        exact (hf2 i h1).2.2.1
      · obtain ⟨i, h1, rfl⟩ := hmem p hp
        exact (hf2 i h1).2.2.2
  clear hA0 hval0
  refine (walk_sums crc a0 len0 cap0 ps W w0 hy hn hl0).mono fun e W' ⟨he, bel⟩ => ?_
  subst he
  exact ⟨_, rfl, _, _, _, [], _, [], hW', trodAll_mk1 (shut_bool Try.underlying4 _), (trodAll_cons_mk (Below.trod laidOut (by kernel_rfl) (of_decide_eq_true (by kernel_rfl)) k0 bel lt0) trodAll_mk0), rfl, bel.frame _, fun h => by cases h⟩

theorem over : Rows.crcSumsRow.holds Try.pinned (OpenSpec.ofChange Rows.crcSumsSpec) :=
  OpenClaim.holds_of_wide 3 Try.f3 rfl rfl rfl rfl rfl rfl rfl ⟨rfl, rfl, rfl, rfl, rfl⟩ rfl rfl rfl rfl rfl (by kernel_rfl) Try.func3 (by kernel_rfl)
    (of_decide_eq_true (by kernel_rfl)) (by unfold Func.isWrapper; first | (rw [if_pos (by decide +kernel)]; kernel_rfl) | (rw [if_neg (by decide +kernel)]; exact ⟨rfl, rfl⟩))
    (fun os started H enc _ => lifted os started H enc)

/-- The statement. -/
theorem proved : Rows.CrcSumsSaid := over
#print axioms proved
end Go.Proofs.Ytknmchpikcnacaa.crcSums
