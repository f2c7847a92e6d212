/- Contracts of the document's plain book: SamePlaced, of two that are alike. -/
import Derived.Test.YtdcjgcjnfcahkaaG21
import Derived.Test.YtdcjgcjnfcahkaaG08
namespace Go.Proofs.Ytdcjgcjnfcahkaa
open Go.RowKit
set_option linter.unusedVariables false
set_option linter.unusedSimpArgs false

theorem yields_neq_td0 {ops : Array Oper} {S : World → Prop} {o : Oper} {a : Act} (hw : Region.wanted o (yielded ops a.tmps) = true) (x y : Operand) {t2 : TypeId} (ho : o.op = .binOp .neq 63 x y t2) {u : Td} (hu : u.ok) (hx : a.eval x = .agg (ET.cells u).toArray) (hy : a.eval y = .agg (ET.cells u).toArray) :
    YieldsIf Try.prog ops S o (.bool false) a := by
  have h := yields_neq_td (S := S) hw x y ho hu hu hx hy
  rw [eqT_yes] at h
  exact h
theorem pq_bx (w : World) (p q : Px) : ∃ W2, (w.alloc (.cells (EPx.cells p).toArray 49)).alloc (.cells (EPx.cells q).toArray 49) = W2 ∧ Below w.heap.size w W2 ∧ EPx.Bx 49 W2 w.heap.size p ∧ EPx.Bx 49 W2 (w.heap.size + 1) q :=
  ⟨_, rfl, ((Below.refl _ w).alloc (Nat.le_refl _) _).alloc (by simp) _, heap_alloc2_old w _ _, heap_alloc2_new w _ _⟩
set_option maxRecDepth 100000 in
set_option maxHeartbeats 4000000 in
theorem bsp_same (p q : Px) (td : List Td) (gn : List Int) (w : World) (h1 : ET.Rd w p.ta p.tn td) (h2 : ET.Rd w q.ta q.tn td) (h3 : ENu.Rd w p.na p.nn gn) (h4 : ENu.Rd w q.na q.nn gn) (hf : p.fi = q.fi) (hl : p.lf = q.lf) (ok : ∀ x, x ∈ td → x.ok) (hn1 : p.tn ≤ 1000) (hn2 : p.nn ≤ 1000) :
    Calls Try.prog 24 #[.agg (EPx.cells p).toArray, .agg (EPx.cells q).toArray] w fun e w' => e = .returned (.bool true) ∧ Below w.heap.size w w' := by
  obtain ⟨ta, tn, tc, na, nn, nc, fi, lf⟩ := p
  obtain ⟨ta2, tn2, tc2, na2, nn2, nc2, fi2, lf2⟩ := q
  have hf : fi = fi2 := hf
  have hl : lf = lf2 := hl
  have ht : tn = tn2 := h1.1.symm.trans h2.1
  have hg : nn = nn2 := h3.1.symm.trans h4.1
  subst hf hl ht hg
  obtain ⟨W2, hW2, b2, x1, x2⟩ := pq_bx w ⟨ta, tn, tc, na, nn, nc, fi, lf⟩ ⟨ta2, tn, tc2, na2, nn, nc2, fi, lf⟩
  have HW := Lib.hid hW2
  have B2 := Lib.hid b2
  have H1 : Hid (ET.Rd w ta tn td) := Lib.hid h1
  have H2 : Hid (ET.Rd w ta2 tn td) := Lib.hid h2
  have H3 : Hid (ENu.Rd w na nn gn) := Lib.hid h3
  have H4 : Hid (ENu.Rd w na2 nn gn) := Lib.hid h4
  have OK := Lib.hid ok
  have FA : Hid (∀ U, Below W2.heap.size W2 U → U.cell? ⟨w.heap.size, 0, none⟩ = some (.slice ta tn tc) ∧ U.cell? ⟨w.heap.size, 1, none⟩ = some (.slice na nn nc) ∧ U.cell? ⟨w.heap.size, 2, none⟩ = some (.int .i64 fi) ∧ U.cell? ⟨w.heap.size, 3, none⟩ = some (.int .i64 lf)) := Lib.hid fun U hU => ⟨gbx_cell (gbx_below x1 hU) 0, gbx_cell (gbx_below x1 hU) 1, gbx_cell (gbx_below x1 hU) 2, gbx_cell (gbx_below x1 hU) 3⟩
  have FB : Hid (∀ U, Below W2.heap.size W2 U → U.cell? ⟨w.heap.size + 1, 0, none⟩ = some (.slice ta2 tn tc2) ∧ U.cell? ⟨w.heap.size + 1, 1, none⟩ = some (.slice na2 nn nc2) ∧ U.cell? ⟨w.heap.size + 1, 2, none⟩ = some (.int .i64 fi) ∧ U.cell? ⟨w.heap.size + 1, 3, none⟩ = some (.int .i64 lf)) := Lib.hid fun U hU => ⟨gbx_cell (gbx_below x2 hU) 0, gbx_cell (gbx_below x2 hU) 1, gbx_cell (gbx_below x2 hU) 2, gbx_cell (gbx_below x2 hU) 3⟩
  obtain ⟨a0, a1, a2, a3⟩ := FA.out W2 (Below.refl _ _)
  obtain ⟨c0, c1, c2, c3⟩ := FB.out W2 (Below.refl _ _)
  rw [← hW2] at a0 a1 a2 a3 c0 c1 c2 c3
  have hn1 : tn ≤ 1000 := hn1
  have hn2 : nn ≤ 1000 := hn2
  have B0 : Hid (Below W2.heap.size W2 W2) := Lib.hid (Below.refl _ _)
  clear hW2 b2 x1 x2 h1 h2 h3 h4 ok
  go_enter Try.func24, Try.ntmps24
  go_wp2_with fail
  rw [HW.out]
  clear a0 a1 a2 a3 c0 c1 c2 c3
  go_loopw [5] (fun i wr => ∃ k : Nat, k ≤ tn ∧ i = .int .i64 k ∧ Below W2.heap.size W2 wr) (fun i _ => tn - (intOf i).toNat)
  case atStart => exact ⟨0, Nat.zero_le _, rfl, B0.out⟩
  case round =>
    obtain ⟨k, hk, rfl, hb⟩ := hrel
    have BW := Lib.hid hb
    obtain ⟨a0, a1, a2, a3⟩ := FA.out wr hb
    obtain ⟨c0, c1, c2, c3⟩ := FB.out wr hb
    clear hb a2 a3 c2 c3
    by_cases hlt : k < tn
    case neg =>
      obtain rfl : k = tn := by omega
      have hd : decide ((k : Int) < k) = false := decide_eq_false (by omega)
      clear a1 c0 c1
      go_wp2_with fail
      clear a0
      go_loopw [6] (fun i wr2 => ∃ j : Nat, j ≤ nn ∧ i = .int .i64 j ∧ Below W2.heap.size W2 wr2) (fun i _ => nn - (intOf i).toNat)
      case atStart => exact ⟨0, Nat.zero_le _, rfl, BW.out⟩
      case round =>
        obtain ⟨j, hj, rfl, hb⟩ := hrel
        have BW := Lib.hid hb
        obtain ⟨a0, a1, a2, a3⟩ := FA.out wr hb
        obtain ⟨c0, c1, c2, c3⟩ := FB.out wr hb
        clear hb a2 a3 c2 c3
        by_cases hlt : j < nn
        case neg =>
          obtain rfl : j = nn := by omega
          have hd2 : decide ((j : Int) < j) = false := decide_eq_false (by omega)
          go_wp2_with fail
          go_ret
          exact ⟨rfl, B2.out.trans (BW.out.mono B2.out.size)⟩
        case pos =>
          have hd2 : decide ((j : Int) < nn) = true := decide_eq_true (by omega)
          have hki : (j : Int) < (nn : Int) := by omega
          obtain ⟨x, hx⟩ : ∃ x, gn[j]? = some x := ⟨gn[j]'(by rw [H3.out.1]; exact hlt), List.getElem?_eq_getElem _⟩
          obtain ⟨b1, o1, e1, r1⟩ := grd_rng H3.out hx
          obtain ⟨b2, o2, e2, r2⟩ := grd_rng H4.out hx
          subst e1 e2
          have G1 : Hid (∀ U, Below W2.heap.size W2 U → U.cell? ⟨b1, o1 + j, none⟩ = some (.int .u64 x)) := Lib.hid fun U hU => by
            have := rng_below (rng_below r1 B2.out (Nat.le_refl _)) hU (Nat.le_refl _) 0 (.int .u64 x) rfl
            rwa [show o1 + j * ENu.N + 0 = o1 + j by show o1 + j * 1 + 0 = _; omega] at this
          have G2 : Hid (∀ U, Below W2.heap.size W2 U → U.cell? ⟨b2, o2 + j, none⟩ = some (.int .u64 x)) := Lib.hid fun U hU => by
            have := rng_below (rng_below r2 B2.out (Nat.le_refl _)) hU (Nat.le_refl _) 0 (.int .u64 x) rfl
            rwa [show o2 + j * ENu.N + 0 = o2 + j by show o2 + j * 1 + 0 = _; omega] at this
          clear r1 r2 hx
          go_wp2_with fail
          refine wp_region_held_drew (S := fun U => Below W2.heap.size W2 U) (by kernel_rfl) BW.out.drew (fun hH => ?_)
          refine wpAnyH_take (i := 0) (v := .pointer (some ⟨w.heap.size, 1, none⟩)) rfl (by kernel_rfl) (by kernel_rfl) (by kernel_rfl) (fun _ _ _ h => h) (.inl ⟨by rfl, ?_⟩) (by assumption) ?_
          · intro W hW; go_simp
          try simp only [List.getElem_toArray, List.getElem_cons_zero, Act.put, List.setIfInBounds_toArray, List.set_cons_zero, List.set_cons_succ]
          refine wpAnyH_take (i := 1) (v := .slice (some ⟨b1, o1, none⟩) nn nc) rfl (by kernel_rfl) (by kernel_rfl) (by kernel_rfl) (fun _ _ _ h => h) (.inl ⟨by rfl, ?_⟩) (by assumption) ?_
          · intro W hW; obtain ⟨a0, a1, _, _⟩ := FA.out W hW; go_simp
          try simp only [List.getElem_toArray, List.getElem_cons_zero, List.getElem_cons_succ, Act.put, List.setIfInBounds_toArray, List.set_cons_zero, List.set_cons_succ]
          refine wpAnyH_take (i := 2) (v := .int .i64 j) rfl (by kernel_rfl) (by kernel_rfl) (by kernel_rfl) (fun _ _ _ h => h) (.inl ⟨by rfl, ?_⟩) (by assumption) ?_
          · intro W hW; go_simp
          try simp only [List.getElem_toArray, List.getElem_cons_zero, List.getElem_cons_succ, Act.put, List.setIfInBounds_toArray, List.set_cons_zero, List.set_cons_succ]
          refine wpAnyH_take (i := 3) (v := .pointer (some ⟨b1, o1 + j, none⟩)) rfl (by kernel_rfl) (by kernel_rfl) (by kernel_rfl) (fun _ _ _ h => h) (.inl ⟨by rfl, ?_⟩) (by assumption) ?_
          · intro W hW; go_simp
          try simp only [List.getElem_toArray, List.getElem_cons_zero, List.getElem_cons_succ, Act.put, List.setIfInBounds_toArray, List.set_cons_zero, List.set_cons_succ]
          refine wpAnyH_take (i := 4) (v := .int .u64 x) rfl (by kernel_rfl) (by kernel_rfl) (by kernel_rfl) (fun _ _ _ h => h) (.inl ⟨by rfl, ?_⟩) (by assumption) ?_
          · intro W hW; have k := G1.out W hW; go_simp
          try simp only [List.getElem_toArray, List.getElem_cons_zero, List.getElem_cons_succ, Act.put, List.setIfInBounds_toArray, List.set_cons_zero, List.set_cons_succ]
          refine wpAnyH_take (i := 5) (v := .pointer (some ⟨w.heap.size + 1, 1, none⟩)) rfl (by kernel_rfl) (by kernel_rfl) (by kernel_rfl) (fun _ _ _ h => h) (.inl ⟨by rfl, ?_⟩) (by assumption) ?_
          · intro W hW; go_simp
          try simp only [List.getElem_toArray, List.getElem_cons_zero, List.getElem_cons_succ, Act.put, List.setIfInBounds_toArray, List.set_cons_zero, List.set_cons_succ]
          refine wpAnyH_take (i := 6) (v := .slice (some ⟨b2, o2, none⟩) nn nc2) rfl (by kernel_rfl) (by kernel_rfl) (by kernel_rfl) (fun _ _ _ h => h) (.inl ⟨by rfl, ?_⟩) (by assumption) ?_
          · intro W hW; obtain ⟨c0, c1, _, _⟩ := FB.out W hW; go_simp
          try simp only [List.getElem_toArray, List.getElem_cons_zero, List.getElem_cons_succ, Act.put, List.setIfInBounds_toArray, List.set_cons_zero, List.set_cons_succ]
          refine wpAnyH_take (i := 7) (v := .int .i64 j) rfl (by kernel_rfl) (by kernel_rfl) (by kernel_rfl) (fun _ _ _ h => h) (.inl ⟨by rfl, ?_⟩) (by assumption) ?_
          · intro W hW; go_simp
          try simp only [List.getElem_toArray, List.getElem_cons_zero, List.getElem_cons_succ, Act.put, List.setIfInBounds_toArray, List.set_cons_zero, List.set_cons_succ]
          refine wpAnyH_take (i := 8) (v := .pointer (some ⟨b2, o2 + j, none⟩)) rfl (by kernel_rfl) (by kernel_rfl) (by kernel_rfl) (fun _ _ _ h => h) (.inl ⟨by rfl, ?_⟩) (by assumption) ?_
          · intro W hW; go_simp
          try simp only [List.getElem_toArray, List.getElem_cons_zero, List.getElem_cons_succ, Act.put, List.setIfInBounds_toArray, List.set_cons_zero, List.set_cons_succ]
          refine wpAnyH_take (i := 9) (v := .int .u64 x) rfl (by kernel_rfl) (by kernel_rfl) (by kernel_rfl) (fun _ _ _ h => h) (.inl ⟨by rfl, ?_⟩) (by assumption) ?_
          · intro W hW; have k := G2.out W hW; go_simp
          try simp only [List.getElem_toArray, List.getElem_cons_zero, List.getElem_cons_succ, Act.put, List.setIfInBounds_toArray, List.set_cons_zero, List.set_cons_succ]
          refine wpAnyH_take (i := 10) (v := .bool false) rfl (by kernel_rfl) (by kernel_rfl) (by kernel_rfl) (fun _ _ _ h => h) (.inl ⟨by rfl, ?_⟩) (by assumption) ?_
          · intro W hW; go_simp
          try simp only [List.getElem_toArray, List.getElem_cons_zero, List.getElem_cons_succ, Act.put, List.setIfInBounds_toArray, List.set_cons_zero, List.set_cons_succ]
          refine wpAnyH_done (by decide +kernel) ?_ _
          have BD := Lib.hid hH
          clear hH
          go_wp2_with fail
          go_roundw
          case rel => exact ⟨j + 1, hlt, by go_num, BD.out⟩
          case measure => simp [intOf]; omega
    case pos =>
      have hd : decide ((k : Int) < tn) = true := decide_eq_true (by omega)
      have hki : (k : Int) < (tn : Int) := by omega
      obtain ⟨x, hx⟩ : ∃ x, td[k]? = some x := ⟨td[k]'(by rw [H1.out.1]; exact hlt), List.getElem?_eq_getElem _⟩
      obtain ⟨b1, o1, e1, r1⟩ := grd_rng H1.out hx
      obtain ⟨b2, o2, e2, r2⟩ := grd_rng H2.out hx
      subst e1 e2
      have R1 : Hid (∀ U, Below W2.heap.size W2 U → U.rangeAt b1 (o1 + k * 4) (ET.cells x)) := Lib.hid fun U hU => rng_below (rng_below r1 B2.out (Nat.le_refl _)) hU (Nat.le_refl _)
      have R2 : Hid (∀ U, Below W2.heap.size W2 U → U.rangeAt b2 (o2 + k * 4) (ET.cells x)) := Lib.hid fun U hU => rng_below (rng_below r2 B2.out (Nat.le_refl _)) hU (Nat.le_refl _)
      have XOK := Lib.hid (OK.out x (List.mem_of_getElem? hx))
      clear r1 r2 hx
      go_wp2_with fail
      refine wp_region_held_drew (S := fun U => Below W2.heap.size W2 U) (by kernel_rfl) BW.out.drew (fun hH => ?_)
      refine wpAnyH_take (i := 0) (v := .pointer (some ⟨w.heap.size, 0, none⟩)) rfl (by kernel_rfl) (by kernel_rfl) (by kernel_rfl) (fun _ _ _ h => h) (.inl ⟨by rfl, ?_⟩) (by assumption) ?_
      · intro W hW; go_simp
      try simp only [List.getElem_toArray, List.getElem_cons_zero, Act.put, List.setIfInBounds_toArray, List.set_cons_zero, List.set_cons_succ]
      refine wpAnyH_take (i := 1) (v := .slice (some ⟨b1, o1, none⟩) tn tc) rfl (by kernel_rfl) (by kernel_rfl) (by kernel_rfl) (fun _ _ _ h => h) (.inl ⟨by rfl, ?_⟩) (by assumption) ?_
      · intro W hW; obtain ⟨a0, a1, _, _⟩ := FA.out W hW; go_simp
      try simp only [List.getElem_toArray, List.getElem_cons_zero, List.getElem_cons_succ, Act.put, List.setIfInBounds_toArray, List.set_cons_zero, List.set_cons_succ]
      refine wpAnyH_take (i := 2) (v := .int .i64 k) rfl (by kernel_rfl) (by kernel_rfl) (by kernel_rfl) (fun _ _ _ h => h) (.inl ⟨by rfl, ?_⟩) (by assumption) ?_
      · intro W hW; go_simp
      try simp only [List.getElem_toArray, List.getElem_cons_zero, List.getElem_cons_succ, Act.put, List.setIfInBounds_toArray, List.set_cons_zero, List.set_cons_succ]
      refine wpAnyH_take (i := 3) (v := .pointer (some ⟨b1, o1 + k * 4, none⟩)) rfl (by kernel_rfl) (by kernel_rfl) (by kernel_rfl) (fun _ _ _ h => h) (.inl ⟨by rfl, ?_⟩) (by assumption) ?_
      · intro W hW; go_simp
      try simp only [List.getElem_toArray, List.getElem_cons_zero, List.getElem_cons_succ, Act.put, List.setIfInBounds_toArray, List.set_cons_zero, List.set_cons_succ]
      refine wpAnyH_take (i := 4) (v := .agg (ET.cells x).toArray) rfl (by kernel_rfl) (by kernel_rfl) (by kernel_rfl) (fun _ _ _ h => h) (gyields_load TT (by rfl) (.tmp 47) rfl b1 (o1 + k * 4) rfl R1.out) (by assumption) ?_
      try simp only [List.getElem_toArray, List.getElem_cons_zero, List.getElem_cons_succ, Act.put, List.setIfInBounds_toArray, List.set_cons_zero, List.set_cons_succ]
      refine wpAnyH_take (i := 5) (v := .pointer (some ⟨w.heap.size + 1, 0, none⟩)) rfl (by kernel_rfl) (by kernel_rfl) (by kernel_rfl) (fun _ _ _ h => h) (.inl ⟨by rfl, ?_⟩) (by assumption) ?_
      · intro W hW; go_simp
      try simp only [List.getElem_toArray, List.getElem_cons_zero, List.getElem_cons_succ, Act.put, List.setIfInBounds_toArray, List.set_cons_zero, List.set_cons_succ]
      refine wpAnyH_take (i := 6) (v := .slice (some ⟨b2, o2, none⟩) tn tc2) rfl (by kernel_rfl) (by kernel_rfl) (by kernel_rfl) (fun _ _ _ h => h) (.inl ⟨by rfl, ?_⟩) (by assumption) ?_
      · intro W hW; obtain ⟨c0, c1, _, _⟩ := FB.out W hW; go_simp
      try simp only [List.getElem_toArray, List.getElem_cons_zero, List.getElem_cons_succ, Act.put, List.setIfInBounds_toArray, List.set_cons_zero, List.set_cons_succ]
      refine wpAnyH_take (i := 7) (v := .int .i64 k) rfl (by kernel_rfl) (by kernel_rfl) (by kernel_rfl) (fun _ _ _ h => h) (.inl ⟨by rfl, ?_⟩) (by assumption) ?_
      · intro W hW; go_simp
      try simp only [List.getElem_toArray, List.getElem_cons_zero, List.getElem_cons_succ, Act.put, List.setIfInBounds_toArray, List.set_cons_zero, List.set_cons_succ]
      refine wpAnyH_take (i := 8) (v := .pointer (some ⟨b2, o2 + k * 4, none⟩)) rfl (by kernel_rfl) (by kernel_rfl) (by kernel_rfl) (fun _ _ _ h => h) (.inl ⟨by rfl, ?_⟩) (by assumption) ?_
      · intro W hW; go_simp
      try simp only [List.getElem_toArray, List.getElem_cons_zero, List.getElem_cons_succ, Act.put, List.setIfInBounds_toArray, List.set_cons_zero, List.set_cons_succ]
      refine wpAnyH_take (i := 9) (v := .agg (ET.cells x).toArray) rfl (by kernel_rfl) (by kernel_rfl) (by kernel_rfl) (fun _ _ _ h => h) (gyields_load TT (by rfl) (.tmp 52) rfl b2 (o2 + k * 4) rfl R2.out) (by assumption) ?_
      try simp only [List.getElem_toArray, List.getElem_cons_zero, List.getElem_cons_succ, Act.put, List.setIfInBounds_toArray, List.set_cons_zero, List.set_cons_succ]
      refine wpAnyH_take (i := 10) (v := .bool false) rfl (by kernel_rfl) (by kernel_rfl) (by kernel_rfl) (fun _ _ _ h => h) (yields_neq_td0 (by rfl) (.tmp 48) (.tmp 53) rfl XOK.out rfl rfl) (by assumption) ?_
      try simp only [List.getElem_toArray, List.getElem_cons_zero, List.getElem_cons_succ, Act.put, List.setIfInBounds_toArray, List.set_cons_zero, List.set_cons_succ]
      refine wpAnyH_done (by decide +kernel) ?_ _
      have BD := Lib.hid hH
      clear hH
      go_wp2_with fail
      go_roundw
      case rel => exact ⟨k + 1, hlt, by go_num, BD.out⟩
      case measure => simp [intOf]; omega
end Go.Proofs.Ytdcjgcjnfcahkaa
