/- Contracts of the document's plain sum of a list, and of the comparison of two lists, and the walk of the statement FixnumAll: it returns true for every list of int64 numbers. -/
import Derived.Test.YtlbekdpmfjhjhaaRefF
namespace Go.Proofs.Ytlbekdpmfjhjhaa
open Go.RowKit

theorem of_zero (w : World) : Calls Try.prog 17 #[.int .i64 0] w fun e w' => e = .returned (.agg (nm false (dgs 0))) ∧ Quiet w w' := of_any 0 (by unfold I64; decide) w
theorem yields_nm {ops : Array Oper} {S : World → Prop} {op : Oper} {a : Act} (hw : Region.wanted op (yielded ops a.tmps) = true) (x : Operand) (ho : op.op = .load 47 x)
    (g : Nat) (hx : a.eval x = .pointer (some ⟨g, 0, none⟩)) (s : Bool) (f : Nat → Int) (hS : ∀ w, S w → w.rangeAt g 0 (nm s f).toList) : YieldsIf Try.prog ops S op (.agg (nm s f)) a := by
  have := yieldsIf_load_mid (P := Try.prog) hw 47 x ho g 0 hx (nm s f).toList _ hS Try.underlying47 rfl (by kernel_rfl)
  rwa [Array.toArray_toList] at this

/-- What every world of a round of the sum has: the number that is read, and nothing old has turned. -/
def SW (w : World) (b o : Nat) (x : Int) (W : World) : Prop := W.cell? ⟨b, o, none⟩ = some (.int .i64 x) ∧ Quiet w W
theorem SW.quiet {w : World} {b o : Nat} {x : Int} {W W' : World} (h : SW w b o x W) (k : Quiet W W') : SW w b o x W' :=
  ⟨(k.2.cell (p := ⟨b, o, none⟩) (World.block_lt_of_cell? W _ h.1)).trans h.1, h.2.trans k⟩
theorem SW.setRow {w : World} {b o : Nat} {x : Int} {W : World} {g : Nat} {t : TypeId} {cs : Array Value} (h : SW w b o x W) (hb : b < w.heap.size) (r : Row W g t cs) (hg : w.heap.size ≤ g) (cs' : Array Value) : SW w b o x (W.setRow g cs') := by
  refine ⟨?_, h.2.setRow r hg cs'⟩
  rw [cell_setRow_other W g cs' ⟨b, o, none⟩ (by show b ≠ g; omega)]
  exact h.1

theorem sm_size {N x : Int} {k : Nat} (h1 : N ≤ 9223372036854775808 * (k : Int)) (hk : k ≤ 1152921504606846976) (hx : 0 ≤ mag x ∧ mag x ≤ 9223372036854775808) :
    N + mag x ≤ 9223372036854775808 * ((k + 1 : Nat) : Int) ∧ 9223372036854775808 * ((k + 1 : Nat) : Int) < Rf.T 12 := by
  have : (10633823966279326992483775380034977792 : Int) < Rf.T 12 := by decide
  omega

set_option maxHeartbeats 2000000 in
theorem sum_num (b off len cap : Nat) (zs : List Int) (w : World) (hz : zs.length = len) (hbig : len ≤ 1152921504606846975) (hr : ∀ n, n ∈ zs → I64 n)
    (hc : ∀ j, j < len → w.cell? ⟨b, off + j, none⟩ = some (.int .i64 (zs.getD j 0))) :
    Calls Try.prog 31 #[.slice (some ⟨b, off, none⟩) len cap] w fun e w' => IsNum (sm zs) (9223372036854775808 * (len : Int)) e ∧ Quiet w w' := by
  have HR := Lib.hid hr
  have HZ := Lib.hid hz
  have HC := Lib.hid hc
  clear hr hz hc
  go_enter Try.func31, Try.ntmps31
  go_wp2_with fail
  refine (of_zero _).mono ?_; rintro e w1 ⟨rfl, hq1⟩
  have hlt1 : w.heap.size < w1.heap.size := by have := hq1.2.size; simp at this; omega
  have r0 : Row w1 w.heap.size 47 (nm false fun _ => 0) := (Row.new w 47 (nm false fun _ => 0)).below hq1.2 (by simp)
  have HQ1 := Lib.hid (((Quiet.refl w).alloc (nm false fun _ => 0) 47).trans hq1)
  have R0 := Lib.hid r0
  clear hq1 r0
  go_wp2_with (refine wl_store_nm w1.heap.size false false (dgs 0) (fun _ => 0) ?_ ?_ ?_ ?_; rfl; rfl; exact Row.new w1 47 (nm false fun _ => 0))
  go_loopw [4] (fun i wr => ∃ (k : Nat) (u : Bool) (N : Int), k ≤ len ∧ i = .int .i64 k ∧ Row wr w1.heap.size 47 (nm u (dgs N)) ∧ 0 ≤ N ∧ N ≤ 9223372036854775808 * (k : Int) ∧ sgn u N = sm (zs.take k) ∧
      Row wr w.heap.size 47 (nm false fun _ => 0) ∧ Quiet w wr) (fun i _ => len - (intOf i).toNat)
  case atStart =>
    have rn := Row.new w1 47 (nm false fun _ => 0)
    exact ⟨0, false, 0, Nat.zero_le _, rfl, rn.whole _, Int.le_refl 0, by decide, rfl, ((R0.out.alloc _).apart (by omega) _), (HQ1.out.alloc _ _).setRow rn (by omega) _⟩
  case round =>
    obtain ⟨k, u, M, hk, rfl, r1, m0, m1, ms, r2, hq⟩ := hrel
    by_cases hlt : k < len
    · have hx : zs.getD k 0 ∈ zs := by
        have h3 : k < zs.length := by have := HZ.out; omega
        rw [show zs.getD k 0 = zs[k] from by simp [List.getD, h3]]
        exact List.getElem_mem _
      have hI := HR.out _ hx
      have hcell := HC.out k hlt
      have HS := Lib.hid (sm_take zs k (by have := HZ.out; omega))
      obtain ⟨x, hxe⟩ : ∃ x, x = zs.getD k 0 := ⟨_, rfl⟩
      rw [← hxe] at hcell hI HS
      have hb := World.block_lt_of_cell? w _ hcell
      have s0 : SW w b (off + k) x wr := ⟨(hq.2.cell (p := ⟨b, off + k, none⟩) hb).trans hcell, hq⟩
      have hm := mag_bd x hI
      have bd := sm_size (x := x) m1 (by omega) hm
      have O := Lib.hid (fun W => of_any x hI W)
      have P := Lib.hid (fun W => plus_num u (decide (x < 0)) M (mag x) (9223372036854775808 * ((k + 1 : Nat) : Int)) m0 hm.1 bd.1 bd.2 W)
      have e1 := sgn_mag x
      rw [ms, e1, ← HS.out] at P
      have R1 := Lib.hid r1
      have R2 := Lib.hid r2
      have S0 := Lib.hid s0
      clear hx hxe hI hm bd e1 r1 r2 hq ms m0 m1 HS s0 hcell
      go_wp2_with fail
      refine wp_region_held_drew (S := SW w b (off + k) x) (by kernel_rfl) ⟨S0.out.1, S0.out.2.drew⟩ (fun hH => ?_)
      refine wpAnyH_take (i := 1) (v := .slice (some ⟨b, off, none⟩) len cap) rfl (by kernel_rfl) (by kernel_rfl) (by kernel_rfl) (fun _ _ _ h => h) (.inl ⟨by rfl, ?_⟩) (by assumption) ?_
      · intro W hW; go_simp
      simp only [List.getElem_toArray, List.getElem_cons_zero, List.getElem_cons_succ, Act.put, List.setIfInBounds_toArray, List.set_cons_zero, List.set_cons_succ]
      refine wpAnyH_take (i := 2) (v := .int .i64 k) rfl (by kernel_rfl) (by kernel_rfl) (by kernel_rfl) (fun _ _ _ h => h) (.inl ⟨by rfl, ?_⟩) (by assumption) ?_
      · intro W hW; go_simp
      simp only [List.getElem_toArray, List.getElem_cons_zero, List.getElem_cons_succ, Act.put, List.setIfInBounds_toArray, List.set_cons_zero, List.set_cons_succ]
      refine wpAnyH_take (i := 3) (v := .pointer (some ⟨b, off + k, none⟩)) rfl (by kernel_rfl) (by kernel_rfl) (by kernel_rfl) (fun _ _ _ h => h) (.inl ⟨by rfl, ?_⟩) (by assumption) ?_
      · intro W hW; go_simp
      simp only [List.getElem_toArray, List.getElem_cons_zero, List.getElem_cons_succ, Act.put, List.setIfInBounds_toArray, List.set_cons_zero, List.set_cons_succ]
      refine wpAnyH_take (i := 4) (v := .int .i64 x) rfl (by kernel_rfl) (by kernel_rfl) (by kernel_rfl) (fun _ _ _ h => h) (.inl ⟨by rfl, ?_⟩) (by assumption) ?_
      · intro W hW; have := hW.1; go_simp
      simp only [List.getElem_toArray, List.getElem_cons_zero, List.getElem_cons_succ, Act.put, List.setIfInBounds_toArray, List.set_cons_zero, List.set_cons_succ]
      refine wpAnyH_ready (rs := [0, 5]) (by kernel_rfl) (by simp) (AllReadyH.cons rfl (fun K hK => ?_) (AllReadyH.cons rfl (fun K hK => ?_) AllReadyH.nil))
      · rw [if_pos (by rfl)]
        refine wp_load_row 47 (.tmp 3) rfl w1.heap.size rfl 47 (nm u (dgs M)) (0, 0) _ R1.out Try.underlying47 rfl (by kernel_rfl) ?_
        refine hK.out _ _ hH (fun _ => ?_)
        clear hK
        try simp only [List.getElem_toArray, List.getElem_cons_zero, Act.put, List.setIfInBounds_toArray, List.set_cons_zero, List.set_cons_succ]
        refine wpAnyH_ready (rs := [5]) (by kernel_rfl) (by simp) (AllReadyH.cons rfl (fun K hK => ?_) AllReadyH.nil)
        go_simp
        refine (O.out _).mono ?_; rintro e w2 ⟨rfl, q2⟩
        have s2 := hH.quiet q2
        have ra := Lib.hid ((show Row wr.drew w1.heap.size 47 _ from R1.out).below q2.2 (show w1.heap.size < wr.drew.heap.size from R1.out.lt))
        refine hK.out _ _ s2 (fun _ => ?_)
        clear hK
        try simp only [List.getElem_toArray, List.getElem_cons_zero, List.getElem_cons_succ, Act.put, List.setIfInBounds_toArray, List.set_cons_zero, List.set_cons_succ]
        refine wpAnyH_ready (rs := [6]) (by kernel_rfl) (by simp) (AllReadyH.cons rfl (fun K hK => ?_) AllReadyH.nil)
        go_simp
        refine (P.out _).mono ?_; rintro e w3 ⟨⟨u', N', rfl, n0, n1, hx'⟩, q3⟩
        have s3 := s2.quiet q3
        have HN := Lib.hid (show 0 ≤ N' ∧ N' ≤ 9223372036854775808 * ((k + 1 : Nat) : Int) ∧ sgn u' N' = sm (zs.take (k + 1)) from ⟨n0, n1, hx'⟩)
        clear n0 n1 hx'
        have rb := ra.out.below q3.2 ra.out.lt
        refine hK.out _ _ s3 (fun _ => ?_)
        clear hK
        try simp only [List.getElem_toArray, List.getElem_cons_zero, List.getElem_cons_succ, Act.put, List.setIfInBounds_toArray, List.set_cons_zero, List.set_cons_succ]
        refine wpAnyH_ready (rs := [7]) (by kernel_rfl) (by simp) (AllReadyH.cons rfl (fun K hK => ?_) AllReadyH.nil)
        rw [if_pos (by rfl)]
        refine wp_store_row 47 (.tmp 3) (.tmp 18) rfl w1.heap.size (nm u' (dgs N')) rfl rfl 47 _ rb (by kernel_rfl) rfl (nm_one _ _) ?_
        have s4 := s3.setRow hb rb (by omega) (nm u' (dgs N'))
        refine hK.out _ _ s4 (fun _ => ?_)
        clear hK
        refine wpAnyH_done (by kernel_rfl) ?_ _
        simp only [List.getElem_toArray, List.getElem_cons_zero, List.getElem_cons_succ, Act.put]
        have rz := ((show Row wr.drew w.heap.size 47 (nm false fun _ => 0) from R2.out).below (w' := w3) ((q2.2.trans (q3.2.mono q2.2.size))) (show w.heap.size < wr.drew.heap.size from R2.out.lt)).apart (g' := w1.heap.size) (by omega) (nm u' (dgs N'))
        have RZ := Lib.hid (And.intro (rb.whole (nm u' (dgs N'))) (And.intro rz s4.2))
        clear s4 s3 rb rz
        go_wp2
        go_roundw
        case rel => exact ⟨k + 1, u', N', by omega, by go_num, RZ.out.1, HN.out.1, HN.out.2.1, HN.out.2.2, RZ.out.2.1, RZ.out.2.2⟩
        case measure => simp [intOf]; omega
      · go_simp
        refine (O.out _).mono ?_; rintro e w2 ⟨rfl, q2⟩
        have s2 := hH.quiet q2
        have ra := Lib.hid ((show Row wr.drew w1.heap.size 47 _ from R1.out).below q2.2 (show w1.heap.size < wr.drew.heap.size from R1.out.lt))
        refine hK.out _ _ s2 (fun _ => ?_)
        clear hK
        try simp only [List.getElem_toArray, List.getElem_cons_zero, List.getElem_cons_succ, Act.put, List.setIfInBounds_toArray, List.set_cons_zero, List.set_cons_succ]
        refine wpAnyH_ready (rs := [0]) (by kernel_rfl) (by simp) (AllReadyH.cons rfl (fun K hK => ?_) AllReadyH.nil)
        rw [if_pos (by rfl)]
        refine wp_load_row 47 (.tmp 3) rfl w1.heap.size rfl 47 (nm u (dgs M)) (0, 0) _ ra.out Try.underlying47 rfl (by kernel_rfl) ?_
        refine hK.out _ _ s2 (fun _ => ?_)
        clear hK
        try simp only [List.getElem_toArray, List.getElem_cons_zero, Act.put, List.setIfInBounds_toArray, List.set_cons_zero, List.set_cons_succ]
        refine wpAnyH_ready (rs := [6]) (by kernel_rfl) (by simp) (AllReadyH.cons rfl (fun K hK => ?_) AllReadyH.nil)
        go_simp
        refine (P.out _).mono ?_; rintro e w3 ⟨⟨u', N', rfl, n0, n1, hx'⟩, q3⟩
        have s3 := s2.quiet q3
        have HN := Lib.hid (show 0 ≤ N' ∧ N' ≤ 9223372036854775808 * ((k + 1 : Nat) : Int) ∧ sgn u' N' = sm (zs.take (k + 1)) from ⟨n0, n1, hx'⟩)
        clear n0 n1 hx'
        have rb := ra.out.below q3.2 ra.out.lt
        refine hK.out _ _ s3 (fun _ => ?_)
        clear hK
        try simp only [List.getElem_toArray, List.getElem_cons_zero, List.getElem_cons_succ, Act.put, List.setIfInBounds_toArray, List.set_cons_zero, List.set_cons_succ]
        refine wpAnyH_ready (rs := [7]) (by kernel_rfl) (by simp) (AllReadyH.cons rfl (fun K hK => ?_) AllReadyH.nil)
        rw [if_pos (by rfl)]
        refine wp_store_row 47 (.tmp 3) (.tmp 18) rfl w1.heap.size (nm u' (dgs N')) rfl rfl 47 _ rb (by kernel_rfl) rfl (nm_one _ _) ?_
        have s4 := s3.setRow hb rb (by omega) (nm u' (dgs N'))
        refine hK.out _ _ s4 (fun _ => ?_)
        clear hK
        refine wpAnyH_done (by kernel_rfl) ?_ _
        simp only [List.getElem_toArray, List.getElem_cons_zero, List.getElem_cons_succ, Act.put]
        have rz := ((show Row wr.drew w.heap.size 47 (nm false fun _ => 0) from R2.out).below (w' := w3) ((q2.2.trans (q3.2.mono q2.2.size))) (show w.heap.size < wr.drew.heap.size from R2.out.lt)).apart (g' := w1.heap.size) (by omega) (nm u' (dgs N'))
        have RZ := Lib.hid (And.intro (rb.whole (nm u' (dgs N'))) (And.intro rz s4.2))
        clear s4 s3 rb rz
        go_wp2
        go_roundw
        case rel => exact ⟨k + 1, u', N', by omega, by go_num, RZ.out.1, HN.out.1, HN.out.2.1, HN.out.2.2, RZ.out.2.1, RZ.out.2.2⟩
        case measure => simp [intOf]; omega
    · obtain rfl : k = len := by omega
      have hT : zs.take k = zs := by rw [← HZ.out]; exact List.take_length
      rw [hT] at ms
      have HP := Lib.hid (And.intro m0 (And.intro m1 ms))
      have HQ := Lib.hid hq
      have R2 := Lib.hid r2
      have R1 := Lib.hid r1
      clear m0 m1 ms hT hq r1 r2
      go_wp2_with (first
        | (refine wl_load_nm w1.heap.size u (dgs M) ?_ ?_ ?_; rfl; exact R1.out)
        | (refine wl_store_nm w.heap.size u false (dgs M) (fun _ => 0) ?_ ?_ ?_ ?_; rfl; rfl; exact R2.out))
      exact bodyPost_ret (v := .agg (nm u (dgs M))) (results_cell_row rfl _ _ w.heap.size 47 _ (0, 0) _ rfl (R2.out.whole _) Try.underlying47 rfl (by kernel_rfl)) rfl
        ⟨⟨u, M, rfl, HP.out.1, HP.out.2.1, HP.out.2.2⟩, HQ.out.setRow R2.out (Nat.le_refl _) _⟩
end Go.Proofs.Ytlbekdpmfjhjhaa
