/- The program's ledger: Funds. -/
import Derived.Test.YthnmpnepgagmmaaMc
namespace Go.Proofs.Ythnmpnepgagmmaa
open Go.RowKit Go.Shelf
set_option linter.unusedVariables false
set_option linter.unusedSimpArgs false
set_option linter.unusedSectionVars false

theorem wplA_next {w : World} {ops : Array Oper} {rest : List Oper} {o : Oper} {a : Act} {Q : Exit → Act → World → Prop} {b r : Nat} {l todo : List Ac} (hg : o.guard = none) (it : Operand) (hop : o.op = Op.next it false) (hit : a.eval it = .pointer (some ⟨r, 0, none⟩)) (h : MA.Rg w r b l todo)
    (hDone : todo = [] → Hid (wpList Try.prog ops Q rest (a.put o.dst (.tuple #[.bool false])) w))
    (hMore : ∀ x todo' W, todo.Perm (x :: todo') → MA.Rg W r b l todo' → Fr (fun k => k = r) w W → W.heap.size = w.heap.size → (Instr.entry (.pointer (some ⟨r, 0, none⟩))).run Try.prog W = .ok (.tuple #[.int .u32 x.nu, .agg (EA.cells x).toArray]) W →
      Hid (wpList Try.prog ops Q rest (a.put o.dst (.tuple #[.bool true, .int .u32 x.nu, .agg (EA.cells x).toArray])) W)) : wpList Try.prog ops Q (o :: rest) a w :=
  wpl9_next w hg it hop hit h (fun ht => (hDone ht).out) (fun x t W p q f s e => (hMore x t W p q f s e).out)
set_option maxRecDepth 100000 in
set_option maxHeartbeats 4000000 in
theorem lfunds9 {g ba bp : Nat} {L : Lg} (w : World) (h : Dl w g ba bp L) :
    Calls Try.prog 27 #[.pointer (some ⟨g, 0, none⟩)] w fun e w' => e = .returned (.int .i64 (fundsL L)) ∧ Below w.heap.size w w' := by
  have hz := zero_ac
  have MS := Lib.hid (lmiss9 h)
  have c0 := h.c0
  have c1 := h.c1
  have M := Lib.hid h.ma
  have FB := Lib.hid (funds_bound h.inv)
  have CB : Hid (∀ l : List Ac, (∀ a, a ∈ l → a ∈ L.al) → 0 ≤ cashL l) := Lib.hid fun l hl => (cash_bound fun a ha => (h.inv.aok a (hl a ha)).2).1
  have FU := Lib.hid h.inv.fund
  have NW := Lib.hid newA9
  have BL := Lib.hid (h.ma.lt)
  have E : Hid (fundsL L = L.fund + cashL L.al) := Lib.hid rfl
  rw [E.out] at FB
  rw [E.out]
  clear E h
  obtain ⟨al, hal⟩ : ∃ al, L.al = al := ⟨_, rfl⟩
  obtain ⟨fu, hfu⟩ : ∃ fu, L.fund = fu := ⟨_, rfl⟩
  rw [hal] at M FB CB ⊢
  rw [hfu] at c0 FB FU ⊢
  clear hal hfu
  go_enter Try.func27, Try.ntmps27
  go_wp2_with fail
  refine MS.out.mono ?_; rintro e w2 ⟨rfl, rfl⟩
  go_wp2_with (at_range; refine wpl9_range _ rfl _ _ rfl Try.underlying57 rfl M.out ?_; intro W1 rg q1 s1)
  go_frame
  have RG := Lib.hid rg
  have Q1 := Lib.hid q1
  have HB := Lib.hid s1
  clear rg q1 s1
  go_loopw [3] (fun s wr => ∃ (done todo : List Ac), s = .int .i64 (fu + cashL done) ∧ al.Perm (done ++ todo) ∧ MA.Rg wr w.heap.size ba al todo ∧ Below w.heap.size w wr) (fun _ wr => wr.rangeLeft ba w.heap.size)
  case atStart => exact ⟨[], al, by simp [cashL], List.Perm.refl _, RG.out, Q1.out⟩
  case round =>
    obtain ⟨done, todo, rfl, hp, hr, hq⟩ := hrel
    have HP := Lib.hid hp
    have HR := Lib.hid hr
    have HQ := Lib.hid hq
    have hlf := hr.left
    have HLF := Lib.hid hlf
    clear hp hr hq hlf
    go_wp2_with (at_next; refine wplA_next rfl _ rfl rfl HR.out (fun ht => ?_) (fun x todo' W hpt hr2 f2 hs2 hen => ?_))
    · refine Lib.hid ?_
      go_wp2_with fail
      go_ret
      refine ⟨?_, HQ.out⟩
      have := HP.out
      rw [ht, List.append_nil] at this
      rw [cash_perm this]
      rfl
    · refine Lib.hid ?_
      obtain ⟨W2, hW2, b2, x2⟩ := NW.out W
      have HW2 := Lib.hid hW2
      have X2 := Lib.hid x2
      have X3 := Lib.hid (gbx_set (x := x) x2)
      have k1 : (W2.setRow W.heap.size (EA.cells x).toArray).cell? ⟨W.heap.size, 1, none⟩ = some (.int .i64 x.ca) := gbx_cell X3.out 1
      have R2 := Lib.hid hr2
      have F2 := Lib.hid f2
      have B2 := Lib.hid b2
      have S2 := Lib.hid hs2
      have PT := Lib.hid hpt
      have HA : al.Perm ((done ++ [x]) ++ todo') := by
        have := HP.out.trans (hpt.append_left done)
        simpa using this
      have HAL := Lib.hid HA
      have c1 : cashL (done ++ [x]) = cashL done + x.ca := by simp [cashL]
      have hb1 : 0 ≤ cashL (done ++ [x]) := CB.out _ fun a ha => HA.mem_iff.2 (List.mem_append_left _ ha)
      have hb2 : 0 ≤ cashL todo' := CB.out _ fun a ha => HA.mem_iff.2 (List.mem_append_right _ ha)
      have hb3 : cashL al = cashL (done ++ [x]) + cashL todo' := by rw [cash_perm HA]; simp [cashL]; omega
      have hw : wrap64 (fu + cashL done + x.ca) = fu + cashL (done ++ [x]) := by
        have h1 := FB.out
        have h2 := FU.out
        unfold wrap64
        rw [c1] at *
        simp only [mF] at h1 h2
        omega
      have HC := Lib.hid hw
      clear hpt hr2 f2 hs2 hW2 b2 x2 HA c1 hb1 hb2 hb3
      go_wp2_with (first | (rw [HW2.out]; refine gwl_store TA x W.heap.size X2.out rfl rfl ?_) | (refine gwl_store TA x W.heap.size X2.out rfl rfl ?_))
      have q3 : Below W.heap.size W (W2.setRow W.heap.size (EA.cells x).toArray) := below_row0 B2.out (Nat.le_refl _)
      have R3 := Lib.hid (R2.out.below q3)
      have Q3 : Hid (Below w.heap.size w (W2.setRow W.heap.size (EA.cells x).toArray)) := Lib.hid (by
        have h1 : Below w.heap.size w W := ⟨HQ.out.os.symm ▸ F2.out.b0.os, F2.out.b0.tape.trans HQ.out.tape, F2.out.b0.output.trans HQ.out.output, Nat.le_trans HQ.out.size F2.out.size, fun k hk => (F2.out.at' k (Nat.lt_of_lt_of_le hk HQ.out.size) (by omega)).trans (HQ.out.block k hk)⟩
        exact h1.trans (q3.mono h1.size))
      go_roundw
      case rel => exact ⟨done ++ [x], todo', by rw [HC.out], HAL.out, R3.out, Q3.out⟩
      case measure =>
        show (W2.setRow W.heap.size (EA.cells x).toArray).rangeLeft ba w.heap.size < wr.rangeLeft ba w.heap.size
        rw [R3.out.left, HLF.out, PT.out.length_eq]
        simp
end Go.Proofs.Ythnmpnepgagmmaa
