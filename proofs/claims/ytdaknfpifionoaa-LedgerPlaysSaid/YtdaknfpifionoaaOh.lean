/- LedgerPlays, walked (by genOh.py). -/
import Derived.Test.YtdaknfpifionoaaOg
import Derived.Deep.LoopGhost
namespace Go.Proofs.Ytdaknfpifionoaa
open Go.RowKit Go.Shelf
set_option linter.unusedVariables false
set_option linter.unusedSimpArgs false
set_option linter.unusedSectionVars false

set_option maxRecDepth 100000 in
set_option maxHeartbeats 4000000 in
theorem plays9_out (A : Option Addr) (n c : Nat) (w : World) (hn : 250 < n) (hm : n ≤ 9223372036854775807) :
    Calls Try.prog 3 #[.slice A n c] w fun e w' => e = .returned (.bool true) ∧ Below w.heap.size w w' := by
  have KN := Lib.hid (fun W => known9_any W)
  have NW := Lib.hid (fun W => lnew9 W)
  have hd : decide (250 < (n : Int)) = true := decide_eq_true (by omega)
  go_enter Try.func3, Try.ntmps3
  go_wp2_with fail
  refine (NW.out w).mono ?_; rintro e w1 ⟨g, ba, bp, rfl, h1, q1, n1⟩
  have Q1 := Lib.hid q1
  clear h1 q1 n1
  go_wp2_with fail
  refine (KN.out _).mono ?_; rintro e w2 ⟨rfl, q2⟩
  have Q2 : Hid (Below w.heap.size w w2) := Lib.hid ((Q1.out.trans ((below_new w1 _).mono Q1.out.size)).trans (q2.mono (by have := Q1.out.size; simp; omega)))
  clear q2
  go_wp2_with fail
  go_ret
  exact ⟨rfl, Q2.out⟩
set_option maxRecDepth 100000 in
set_option maxHeartbeats 64000000 in
theorem plays9_in (A : Option Addr) (n c : Nat) (l : List OpL) (w : World) (hr : EOp9.Rd w A n l) (hok : ∀ x, x ∈ l → x.ok) (hn : n ≤ 250) :
    Calls Try.prog 3 #[.slice A n c] w fun e w' => e = .returned (.bool true) ∧ Below w.heap.size w w' := by
  have KN := Lib.hid (fun W => known9_any W)
  have NW := Lib.hid (fun W => lnew9 W)
  have HR := Lib.hid hr
  have HOK := Lib.hid hok
  have hd250 : decide (250 < (n : Int)) = false := decide_eq_false (by omega)
  have ZO := zero_op9
  have ZA := zero_ac
  clear hr hok
  go_enter Try.func3, Try.ntmps3
  go_wp2_with fail
  refine (NW.out w).mono ?_; rintro e w1 ⟨g0, ba0, bp0, rfl, h1, q1, n1⟩
  obtain ⟨w2, hw2⟩ : ∃ w2, w1.alloc (.cells #[.int .i64 0, .slice none 0 0, .slice none 0 0] 29) = w2 := ⟨_, rfl⟩
  have k2 : w2.heap[w1.heap.size]? = some (.cells #[.int .i64 0, .slice none 0 0, .slice none 0 0] 29 (0, 0)) := hw2 ▸ heap_alloc_new w1 _
  have b2 : Below w1.heap.size w1 w2 := hw2 ▸ below_new w1 _
  have P0 : Hid (Pj w w2 g0 ba0 bp0 w1.heap.size (.slice none 0 0) (.slice none 0 0) ⟨0, [], []⟩) := Lib.hid
    ⟨h1.below b2, ⟨k2, gown_nil _ _, gown_nil _ _, q1.size⟩, q1.trans (b2.mono q1.size), n1, fun k hk c => by
      have h := h1.lt c
      rcases hk with rfl | hk | hk
      · omega
      · cases hk
      · cases hk⟩
  have HW2 := Lib.hid hw2
  clear h1 q1 n1 NW k2 b2 hw2
  go_wp2_with fail
  try rw [HW2.out]
  obtain ⟨gr, hgr⟩ : ∃ gr, w1.heap.size = gr := ⟨_, rfl⟩
  rw [hgr] at P0 ⊢
  clear HW2 hgr
  refine wp_loop_ghost_k (fun m a' wr => ∃ (k : Nat) (g ba bp : Nat) (va vh : Value) (L : Lg), m = n - k ∧ k ≤ n ∧ Pj w wr g ba bp gr va vh L ∧ Cap k L ∧ ∃ u : Nat → Value, a' = { tmps := #[.slice A n c, u 1, u 2, .pointer (some ⟨g, 0, none⟩), .pointer (some ⟨gr, 0, none⟩), u 5, u 6, u 7, u 8, u 9, u 10, u 11, u 12, u 13, u 14, u 15, u 16, u 17, u 18, u 19, u 20, u 21, u 22, u 23, u 24, u 25, u 26, u 27, u 28, u 29, u 30, u 31, u 32, .int .i64 n, .int .i64 k, u 35, u 36, u 37, u 38, u 39, u 40, u 41, u 42, u 43, u 44, u 45, u 46, u 47, u 48, u 49, u 50, u 51, u 52, u 53, u 54, u 55, u 56, u 57, u 58, u 59, u 60, u 61, u 62, u 63, u 64, u 65, u 66, u 67, u 68, u 69, u 70, u 71, u 72, u 73, u 74, u 75, u 76, u 77, u 78, u 79, u 80, u 81, u 82, u 83, u 84, u 85, u 86, u 87, u 88, u 89, u 90, u 91, u 92, u 93, u 94, u 95, u 96, u 97, u 98, u 99, u 100, u 101, u 102, u 103, u 104, u 105, u 106, u 107, u 108, u 109, u 110, u 111, u 112, u 113, u 114, u 115, u 116, u 117, u 118, u 119, u 120, u 121, u 122, u 123, u 124, u 125, u 126, u 127, u 128, u 129, u 130, u 131, u 132, u 133, u 134, u 135, u 136, u 137, u 138, u 139, u 140, u 141, u 142, u 143, u 144, u 145, u 146, u 147, u 148, u 149, u 150, u 151, u 152, u 153, u 154, u 155, u 156, u 157, u 158, u 159, u 160, u 161, u 162, u 163, u 164, u 165, u 166, u 167, u 168, u 169, u 170, u 171, u 172, u 173, u 174, u 175, u 176, u 177, u 178, u 179, u 180, u 181, u 182, u 183, u 184, u 185, u 186, u 187, u 188, u 189, u 190, u 191, u 192, u 193, u 194, u 195, u 196, u 197, u 198, u 199, u 200, u 201, u 202, u 203, u 204, u 205, u 206, u 207, u 208, u 209, u 210, u 211, u 212], defers := [] }) n ?atStart ?round
  case atStart => exact ⟨0, g0, ba0, bp0, _, _, ⟨0, [], []⟩, rfl, Nat.zero_le _, P0.out, Cap.new, intro_uE rfl⟩
  case round =>
    rintro m a0 wo ⟨k, g, ba, bp, va, vh, L, hm, hk, hpj, hcap, u, rfl⟩ J KK hJ hKK
    have PJ0 := Lib.hid hpj
    have CAP := Lib.hid hcap
    have HJ := Lib.hid hJ
    have HM := Lib.hid hm
    have HKK := Lib.hid hKK
    clear hpj hcap hJ hm hKK P0
    by_cases hlt : k < n
    case neg =>
      obtain rfl : k = n := by omega
      have hd : decide ((k : Int) < k) = false := decide_eq_false (by omega)
      go_wp2_with fail
      refine (KN.out _).mono ?_; rintro e w3 ⟨rfl, q⟩
      have Z2 := Lib.hid (PJ0.out.below q)
      clear q
      go_wp2_with fail
      go_ret
      exact ⟨rfl, Z2.out.b⟩
    case pos =>
      have hd : decide ((k : Int) < n) = true := decide_eq_true (by omega)
      have hki : (k : Int) < (n : Int) := by omega
      obtain ⟨x, hx⟩ : ∃ x, l[k]? = some x := ⟨l[k]'(by have := HR.out.1; omega), List.getElem?_eq_getElem _⟩
      obtain ⟨b, o, rfl, hrg⟩ := grd_rng HR.out hx
      have XO := Lib.hid (HOK.out x (List.mem_of_getElem? hx))
      have RG : Hid (wo.rangeAt b (o + k * 10) (EOp9.cells x)) := Lib.hid (rng_below hrg PJ0.out.b (Nat.le_refl _))
      obtain ⟨V, hV, bV, yV, zV, sV⟩ := put_opE wo x
      have HV := Lib.hid hV
      have ZV := Lib.hid zV
      have YV := Lib.hid yV
      have PV := Lib.hid (PJ0.out.below bV)
      have LTW : Hid (∀ k, LdS g ba bp k → k < wo.heap.size) := Lib.hid fun k hk => PJ0.out.d.lt hk
      have GRL : Hid (gr < wo.heap.size) := Lib.hid PJ0.out.r.gl
      have HLN : Hid (L.hl.length ≤ 500) := Lib.hid (by have := CAP.out.len PJ0.out.d.inv; omega)
      have MLEN : Hid ((marX L x.c x.n).length ≤ 500) := Lib.hid (by
        unfold marX
        split
        · rw [List.length_map]; exact Nat.le_trans (List.length_filter_le _ _) HLN.out
        · exact Nat.zero_le _)
      have d0 : V.cell? ⟨wo.heap.size, 0, none⟩ = some (.int .i64 x.kd) := gbx_cell yV 0
      clear hx hrg hV bV yV zV sV PJ0
      apply wp_seq_k; intro K1 h1; have H1 := Lib.hid h1; clear h1
      go_wp2_with fail
      refine H1.out _ _ ?_
      clear H1
      apply wp_seq_k; intro K2 h2; have H2 := Lib.hid h2; clear h2
      go_wp2_with fail
      refine H2.out _ _ ?_
      clear H2
      apply wp_seq_k; intro K3 h3; have H3 := Lib.hid h3; clear h3
      refine wp_block ?_
      apply wp_seq_k; intro K4 h4; have H4 := Lib.hid h4; clear h4
      go_wp2_with fail
      refine H4.out _ _ ?_
      clear H4
      apply wp_seq_k; intro K5 h5; have H5 := Lib.hid h5; clear h5
      go_wp2_with (first | ((with_reducible refine gwl_load TOp9 b (o + k * 10) RG.out ?_ ?_ ?_); rfl; rfl) | (refine gwl_store TOp9 x wo.heap.size ZV.out rfl rfl ?_; rw [HV.out]))
      refine H5.out _ _ ?_
      clear H5
      apply wp_seq_k; intro K6 h6; have H6 := Lib.hid h6; clear h6
      go_wp2_with fail
      refine H6.out _ _ ?_
      clear H6
      refine wp_midE (fun a' wr' => ∃ g' ba' bp' va' vh' L', Pj w wr' g' ba' bp' gr va' vh' L' ∧ Cap (k + 1) L' ∧ EOp9.Bx 35 wr' wo.heap.size x ∧ ∃ u : Nat → Value, a' = { tmps := #[.slice (some ⟨b, o, none⟩) n c, u 1, u 2, .pointer (some ⟨g', 0, none⟩), .pointer (some ⟨gr, 0, none⟩), u 5, .pointer (some ⟨wo.heap.size, 0, none⟩), .bool true, u 8, u 9, u 10, u 11, u 12, u 13, u 14, u 15, u 16, u 17, u 18, u 19, u 20, u 21, u 22, u 23, u 24, u 25, u 26, u 27, u 28, u 29, u 30, u 31, u 32, .int .i64 n, .int .i64 k, u 35, u 36, u 37, u 38, u 39, u 40, u 41, u 42, u 43, u 44, u 45, u 46, u 47, u 48, u 49, u 50, u 51, u 52, u 53, u 54, u 55, u 56, u 57, u 58, u 59, u 60, u 61, u 62, u 63, u 64, u 65, u 66, u 67, u 68, u 69, u 70, u 71, u 72, u 73, u 74, u 75, u 76, u 77, u 78, u 79, u 80, u 81, u 82, u 83, u 84, u 85, u 86, u 87, u 88, u 89, u 90, u 91, u 92, u 93, u 94, u 95, u 96, u 97, u 98, u 99, u 100, u 101, u 102, u 103, u 104, u 105, u 106, u 107, u 108, u 109, u 110, u 111, u 112, u 113, u 114, u 115, u 116, u 117, u 118, u 119, u 120, u 121, u 122, u 123, u 124, u 125, u 126, u 127, u 128, u 129, u 130, u 131, u 132, u 133, u 134, u 135, u 136, u 137, u 138, u 139, u 140, u 141, u 142, u 143, u 144, u 145, u 146, u 147, u 148, u 149, u 150, u 151, u 152, u 153, u 154, u 155, u 156, u 157, u 158, u 159, u 160, u 161, u 162, u 163, u 164, u 165, u 166, u 167, u 168, u 169, u 170, u 171, u 172, u 173, u 174, u 175, u 176, u 177, u 178, u 179, u 180, u 181, u 182, u 183, u 184, u 185, u 186, u 187, u 188, u 189, u 190, u 191, u 192, u 193, u 194, u 195, u 196, u 197, u 198, u 199, u 200, u 201, u 202, u 203, u 204, u 205, u 206, u 207, u 208, u 209, u 210, u 211, u 212], defers := [] }) ?swX ?tlX
      case swX =>
        intro KM hKM; have HKM := Lib.hid hKM; clear hKM
        cases e1 : (x.kd == 1)
        case true =>
          go_wp2_with fail
          refine wp_region_held_drew (S := fun U => EOp9.Bx 35 U wo.heap.size x) (by kernel_rfl) YV.out (fun hH => ?_)
          refine wpAnyH_take (i := 0) (v := .pointer (some ⟨g, 0, none⟩)) rfl (by kernel_rfl) (by kernel_rfl) (by kernel_rfl) (fun _ _ _ h => h) (.inl ⟨by rfl, ?_⟩) (by assumption) ?_
          · intro W hW; go_simp
          try simp only [List.getElem_toArray, List.getElem_cons_zero, List.getElem_cons_succ, Act.put, List.setIfInBounds_toArray, List.set_cons_zero, List.set_cons_succ]
          refine wpAnyH_take (i := 1) (v := .pointer (some ⟨wo.heap.size, 1, none⟩)) rfl (by kernel_rfl) (by kernel_rfl) (by kernel_rfl) (fun _ _ _ h => h) (.inl ⟨by rfl, ?_⟩) (by assumption) ?_
          · intro W hW; go_simp
          try simp only [List.getElem_toArray, List.getElem_cons_zero, List.getElem_cons_succ, Act.put, List.setIfInBounds_toArray, List.set_cons_zero, List.set_cons_succ]
          refine wpAnyH_take (i := 2) (v := .int .u32 x.a) rfl (by kernel_rfl) (by kernel_rfl) (by kernel_rfl) (fun _ _ _ h => h) (.inl ⟨by rfl, ?_⟩) (by assumption) ?_
          · intro W hW; have kc : W.cell? ⟨wo.heap.size, 1, none⟩ = some (.int .u32 x.a) := gbx_cell hW 1; go_simp
          try simp only [List.getElem_toArray, List.getElem_cons_zero, List.getElem_cons_succ, Act.put, List.setIfInBounds_toArray, List.set_cons_zero, List.set_cons_succ]
          refine wpAnyH_take (i := 3) (v := .pointer (some ⟨wo.heap.size, 4, none⟩)) rfl (by kernel_rfl) (by kernel_rfl) (by kernel_rfl) (fun _ _ _ h => h) (.inl ⟨by rfl, ?_⟩) (by assumption) ?_
          · intro W hW; go_simp
          try simp only [List.getElem_toArray, List.getElem_cons_zero, List.getElem_cons_succ, Act.put, List.setIfInBounds_toArray, List.set_cons_zero, List.set_cons_succ]
          refine wpAnyH_take (i := 4) (v := .int .i64 x.n) rfl (by kernel_rfl) (by kernel_rfl) (by kernel_rfl) (fun _ _ _ h => h) (.inl ⟨by rfl, ?_⟩) (by assumption) ?_
          · intro W hW; have kc : W.cell? ⟨wo.heap.size, 4, none⟩ = some (.int .i64 x.n) := gbx_cell hW 4; go_simp
          try simp only [List.getElem_toArray, List.getElem_cons_zero, List.getElem_cons_succ, Act.put, List.setIfInBounds_toArray, List.set_cons_zero, List.set_cons_succ]
          refine wpAnyH_take (i := 6) (v := .pointer (some ⟨gr, 0, none⟩)) rfl (by kernel_rfl) (by kernel_rfl) (by kernel_rfl) (fun _ _ _ h => h) (.inl ⟨by rfl, ?_⟩) (by assumption) ?_
          · intro W hW; go_simp
          try simp only [List.getElem_toArray, List.getElem_cons_zero, List.getElem_cons_succ, Act.put, List.setIfInBounds_toArray, List.set_cons_zero, List.set_cons_succ]
          refine wpAnyH_take (i := 7) (v := .pointer (some ⟨wo.heap.size, 1, none⟩)) rfl (by kernel_rfl) (by kernel_rfl) (by kernel_rfl) (fun _ _ _ h => h) (.inl ⟨by rfl, ?_⟩) (by assumption) ?_
          · intro W hW; go_simp
          try simp only [List.getElem_toArray, List.getElem_cons_zero, List.getElem_cons_succ, Act.put, List.setIfInBounds_toArray, List.set_cons_zero, List.set_cons_succ]
          refine wpAnyH_take (i := 8) (v := .int .u32 x.a) rfl (by kernel_rfl) (by kernel_rfl) (by kernel_rfl) (fun _ _ _ h => h) (.inl ⟨by rfl, ?_⟩) (by assumption) ?_
          · intro W hW; have kc : W.cell? ⟨wo.heap.size, 1, none⟩ = some (.int .u32 x.a) := gbx_cell hW 1; go_simp
          try simp only [List.getElem_toArray, List.getElem_cons_zero, List.getElem_cons_succ, Act.put, List.setIfInBounds_toArray, List.set_cons_zero, List.set_cons_succ]
          refine wpAnyH_take (i := 9) (v := .pointer (some ⟨wo.heap.size, 4, none⟩)) rfl (by kernel_rfl) (by kernel_rfl) (by kernel_rfl) (fun _ _ _ h => h) (.inl ⟨by rfl, ?_⟩) (by assumption) ?_
          · intro W hW; go_simp
          try simp only [List.getElem_toArray, List.getElem_cons_zero, List.getElem_cons_succ, Act.put, List.setIfInBounds_toArray, List.set_cons_zero, List.set_cons_succ]
          refine wpAnyH_take (i := 10) (v := .int .i64 x.n) rfl (by kernel_rfl) (by kernel_rfl) (by kernel_rfl) (fun _ _ _ h => h) (.inl ⟨by rfl, ?_⟩) (by assumption) ?_
          · intro W hW; have kc : W.cell? ⟨wo.heap.size, 4, none⟩ = some (.int .i64 x.n) := gbx_cell hW 4; go_simp
          try simp only [List.getElem_toArray, List.getElem_cons_zero, List.getElem_cons_succ, Act.put, List.setIfInBounds_toArray, List.set_cons_zero, List.set_cons_succ]
          refine wpAnyH_ready (rs := [5]) (by decide +kernel) (by simp) (AllReadyH.cons rfl (fun KQ hK => ?_) AllReadyH.nil)
          go_simp
          refine (ldep9 x.a x.n _ PV.out.drew.d XO.out.a).mono ?_; rintro e0 W1 ⟨rfl, a1⟩
          have r1 := PV.out.drew.mid a1
          have hH1 : EOp9.Bx 35 W1 wo.heap.size x := (a1.2.at' _ (Array.getElem?_eq_some_iff.1 YV.out).1 (fun c => Nat.lt_irrefl _ (LTW.out _ c))).trans YV.out
          refine hK.out _ _ hH1 (fun _ => ?_)
          clear hK hH
          try simp only [List.setIfInBounds_toArray, List.set_cons_zero, List.set_cons_succ]
          refine wpAnyH_ready (rs := [11]) (by decide +kernel) (by simp) (AllReadyH.cons rfl (fun KQ hK => ?_) AllReadyH.nil)
          go_simp
          refine (rdep9 x.a x.n _ r1 PV.out.d.inv XO.out.a).mono ?_; rintro e0 W2 ⟨rfl, a2⟩
          have hH2 : EOp9.Bx 35 W2 wo.heap.size x := by
            obtain ⟨va2, vh2, r2, f2, s2⟩ := a2
            exact (f2.at' _ (Array.getElem?_eq_some_iff.1 hH1).1 (fun c => by have := GRL.out; omega)).trans hH1
          obtain ⟨va2, vh2, pj⟩ := PV.out.drew.both a1 a2
          have PJ := Lib.hid pj
          have HB := Lib.hid hH2
          refine hK.out _ _ hH2 (fun _ => ?_)
          clear hK hH1 a1 a2 r1 pj hH2
          try simp only [List.setIfInBounds_toArray, List.set_cons_zero, List.set_cons_succ]
          generalize depE L x.a x.n = er
          refine wpAnyH_take (i := 12) (v := .bool true) rfl (by kernel_rfl) (by kernel_rfl) (by kernel_rfl) (fun _ _ _ h => h) (.inl ⟨by rfl, ?_⟩) (by assumption) ?_
          · intro W hW; go_simp
          try simp only [List.getElem_toArray, List.getElem_cons_zero, List.getElem_cons_succ, Act.put, List.setIfInBounds_toArray, List.set_cons_zero, List.set_cons_succ]
          refine wpAnyH_take (i := 13) (v := .bool true) rfl (by kernel_rfl) (by kernel_rfl) (by kernel_rfl) (fun _ _ _ h => h) (.inl ⟨by rfl, ?_⟩) (by assumption) ?_
          · intro W hW; go_simp
          try simp only [List.getElem_toArray, List.getElem_cons_zero, List.getElem_cons_succ, Act.put, List.setIfInBounds_toArray, List.set_cons_zero, List.set_cons_succ]
          refine wpAnyH_done (by decide +kernel) ?_ _
          try go_wp2_with fail
          refine HKM.out _ _ ?_
          exact ⟨g, ba, bp, va2, vh2, depL L x.a x.n, PJ.out, (CAP.out.same (dep_hl _ _)), HB.out, intro_uE rfl⟩
        cases e2 : (x.kd == 2)
        case true =>
          go_wp2_with fail
          refine wp_region_held_drew (S := fun U => EOp9.Bx 35 U wo.heap.size x) (by kernel_rfl) YV.out (fun hH => ?_)
          refine wpAnyH_take (i := 0) (v := .pointer (some ⟨g, 0, none⟩)) rfl (by kernel_rfl) (by kernel_rfl) (by kernel_rfl) (fun _ _ _ h => h) (.inl ⟨by rfl, ?_⟩) (by assumption) ?_
          · intro W hW; go_simp
          try simp only [List.getElem_toArray, List.getElem_cons_zero, List.getElem_cons_succ, Act.put, List.setIfInBounds_toArray, List.set_cons_zero, List.set_cons_succ]
          refine wpAnyH_take (i := 1) (v := .pointer (some ⟨wo.heap.size, 1, none⟩)) rfl (by kernel_rfl) (by kernel_rfl) (by kernel_rfl) (fun _ _ _ h => h) (.inl ⟨by rfl, ?_⟩) (by assumption) ?_
          · intro W hW; go_simp
          try simp only [List.getElem_toArray, List.getElem_cons_zero, List.getElem_cons_succ, Act.put, List.setIfInBounds_toArray, List.set_cons_zero, List.set_cons_succ]
          refine wpAnyH_take (i := 2) (v := .int .u32 x.a) rfl (by kernel_rfl) (by kernel_rfl) (by kernel_rfl) (fun _ _ _ h => h) (.inl ⟨by rfl, ?_⟩) (by assumption) ?_
          · intro W hW; have kc : W.cell? ⟨wo.heap.size, 1, none⟩ = some (.int .u32 x.a) := gbx_cell hW 1; go_simp
          try simp only [List.getElem_toArray, List.getElem_cons_zero, List.getElem_cons_succ, Act.put, List.setIfInBounds_toArray, List.set_cons_zero, List.set_cons_succ]
          refine wpAnyH_take (i := 3) (v := .pointer (some ⟨wo.heap.size, 4, none⟩)) rfl (by kernel_rfl) (by kernel_rfl) (by kernel_rfl) (fun _ _ _ h => h) (.inl ⟨by rfl, ?_⟩) (by assumption) ?_
          · intro W hW; go_simp
          try simp only [List.getElem_toArray, List.getElem_cons_zero, List.getElem_cons_succ, Act.put, List.setIfInBounds_toArray, List.set_cons_zero, List.set_cons_succ]
          refine wpAnyH_take (i := 4) (v := .int .i64 x.n) rfl (by kernel_rfl) (by kernel_rfl) (by kernel_rfl) (fun _ _ _ h => h) (.inl ⟨by rfl, ?_⟩) (by assumption) ?_
          · intro W hW; have kc : W.cell? ⟨wo.heap.size, 4, none⟩ = some (.int .i64 x.n) := gbx_cell hW 4; go_simp
          try simp only [List.getElem_toArray, List.getElem_cons_zero, List.getElem_cons_succ, Act.put, List.setIfInBounds_toArray, List.set_cons_zero, List.set_cons_succ]
          refine wpAnyH_take (i := 6) (v := .pointer (some ⟨gr, 0, none⟩)) rfl (by kernel_rfl) (by kernel_rfl) (by kernel_rfl) (fun _ _ _ h => h) (.inl ⟨by rfl, ?_⟩) (by assumption) ?_
          · intro W hW; go_simp
          try simp only [List.getElem_toArray, List.getElem_cons_zero, List.getElem_cons_succ, Act.put, List.setIfInBounds_toArray, List.set_cons_zero, List.set_cons_succ]
          refine wpAnyH_take (i := 7) (v := .pointer (some ⟨wo.heap.size, 1, none⟩)) rfl (by kernel_rfl) (by kernel_rfl) (by kernel_rfl) (fun _ _ _ h => h) (.inl ⟨by rfl, ?_⟩) (by assumption) ?_
          · intro W hW; go_simp
          try simp only [List.getElem_toArray, List.getElem_cons_zero, List.getElem_cons_succ, Act.put, List.setIfInBounds_toArray, List.set_cons_zero, List.set_cons_succ]
          refine wpAnyH_take (i := 8) (v := .int .u32 x.a) rfl (by kernel_rfl) (by kernel_rfl) (by kernel_rfl) (fun _ _ _ h => h) (.inl ⟨by rfl, ?_⟩) (by assumption) ?_
          · intro W hW; have kc : W.cell? ⟨wo.heap.size, 1, none⟩ = some (.int .u32 x.a) := gbx_cell hW 1; go_simp
          try simp only [List.getElem_toArray, List.getElem_cons_zero, List.getElem_cons_succ, Act.put, List.setIfInBounds_toArray, List.set_cons_zero, List.set_cons_succ]
          refine wpAnyH_take (i := 9) (v := .pointer (some ⟨wo.heap.size, 4, none⟩)) rfl (by kernel_rfl) (by kernel_rfl) (by kernel_rfl) (fun _ _ _ h => h) (.inl ⟨by rfl, ?_⟩) (by assumption) ?_
          · intro W hW; go_simp
          try simp only [List.getElem_toArray, List.getElem_cons_zero, List.getElem_cons_succ, Act.put, List.setIfInBounds_toArray, List.set_cons_zero, List.set_cons_succ]
          refine wpAnyH_take (i := 10) (v := .int .i64 x.n) rfl (by kernel_rfl) (by kernel_rfl) (by kernel_rfl) (fun _ _ _ h => h) (.inl ⟨by rfl, ?_⟩) (by assumption) ?_
          · intro W hW; have kc : W.cell? ⟨wo.heap.size, 4, none⟩ = some (.int .i64 x.n) := gbx_cell hW 4; go_simp
          try simp only [List.getElem_toArray, List.getElem_cons_zero, List.getElem_cons_succ, Act.put, List.setIfInBounds_toArray, List.set_cons_zero, List.set_cons_succ]
          refine wpAnyH_ready (rs := [5]) (by decide +kernel) (by simp) (AllReadyH.cons rfl (fun KQ hK => ?_) AllReadyH.nil)
          go_simp
          refine (lwit9 x.a x.n _ PV.out.drew.d XO.out.a).mono ?_; rintro e0 W1 ⟨rfl, a1⟩
          have r1 := PV.out.drew.mid a1
          have hH1 : EOp9.Bx 35 W1 wo.heap.size x := (a1.2.at' _ (Array.getElem?_eq_some_iff.1 YV.out).1 (fun c => Nat.lt_irrefl _ (LTW.out _ c))).trans YV.out
          refine hK.out _ _ hH1 (fun _ => ?_)
          clear hK hH
          try simp only [List.setIfInBounds_toArray, List.set_cons_zero, List.set_cons_succ]
          refine wpAnyH_ready (rs := [11]) (by decide +kernel) (by simp) (AllReadyH.cons rfl (fun KQ hK => ?_) AllReadyH.nil)
          go_simp
          refine (rwit9 x.a x.n _ r1 PV.out.d.inv XO.out.a).mono ?_; rintro e0 W2 ⟨rfl, a2⟩
          have hH2 : EOp9.Bx 35 W2 wo.heap.size x := by
            obtain ⟨va2, vh2, r2, f2, s2⟩ := a2
            exact (f2.at' _ (Array.getElem?_eq_some_iff.1 hH1).1 (fun c => by have := GRL.out; omega)).trans hH1
          obtain ⟨va2, vh2, pj⟩ := PV.out.drew.both a1 a2
          have PJ := Lib.hid pj
          have HB := Lib.hid hH2
          refine hK.out _ _ hH2 (fun _ => ?_)
          clear hK hH1 a1 a2 r1 pj hH2
          try simp only [List.setIfInBounds_toArray, List.set_cons_zero, List.set_cons_succ]
          generalize witE L x.a x.n = er
          refine wpAnyH_take (i := 12) (v := .bool true) rfl (by kernel_rfl) (by kernel_rfl) (by kernel_rfl) (fun _ _ _ h => h) (.inl ⟨by rfl, ?_⟩) (by assumption) ?_
          · intro W hW; go_simp
          try simp only [List.getElem_toArray, List.getElem_cons_zero, List.getElem_cons_succ, Act.put, List.setIfInBounds_toArray, List.set_cons_zero, List.set_cons_succ]
          refine wpAnyH_take (i := 13) (v := .bool true) rfl (by kernel_rfl) (by kernel_rfl) (by kernel_rfl) (fun _ _ _ h => h) (.inl ⟨by rfl, ?_⟩) (by assumption) ?_
          · intro W hW; go_simp
          try simp only [List.getElem_toArray, List.getElem_cons_zero, List.getElem_cons_succ, Act.put, List.setIfInBounds_toArray, List.set_cons_zero, List.set_cons_succ]
          refine wpAnyH_done (by decide +kernel) ?_ _
          try go_wp2_with fail
          refine HKM.out _ _ ?_
          exact ⟨g, ba, bp, va2, vh2, witL L x.a x.n, PJ.out, (CAP.out.same (wit_hl _ _)), HB.out, intro_uE rfl⟩
        cases e3 : (x.kd == 3)
        case true =>
          have G1 := Lib.hid (lget9 x.a V PV.out.d XO.out.a)
          have GO := Lib.hid (get_ok9 PV.out.d.inv x.a)
          have k1 : V.cell? ⟨wo.heap.size, 1, none⟩ = some (.int .u32 x.a) := gbx_cell YV.out 1
          obtain ⟨r, hr⟩ : ∃ r, getL L x.a = r := ⟨_, rfl⟩
          rw [hr] at G1 GO
          have HR := Lib.hid hr
          obtain ⟨ac, er⟩ := r
          dsimp only at G1 GO
          clear hr
          go_wp2_with fail
          refine G1.out.mono ?_; rintro e W1 ⟨rfl, q1⟩
          obtain ⟨W2, hW2, b2, z2⟩ := newA9 W1
          obtain ⟨W3, hW3⟩ : ∃ W3, W2.setRow W1.heap.size (EA.cells ac).toArray = W3 := ⟨_, rfl⟩
          have Z2 := Lib.hid z2
          have HW2 := Lib.hid hW2
          have HW3 := Lib.hid hW3
          have x3 : EA.Bx 33 W3 W1.heap.size ac := hW3 ▸ gbx_set z2
          have X3 := Lib.hid x3
          have q3 : Below V.heap.size V W3 := by rw [← hW3]; exact below_row0 (q1.trans (b2.mono q1.size)) q1.size
          have Q3 := Lib.hid q3
          have k1 : W3.cell? ⟨wo.heap.size, 1, none⟩ = some (.int .u32 x.a) := cell_below k1 q3 (Nat.le_refl _)
          have G2 := Lib.hid (rget9 x.a W3 (PV.out.r.below q3) PV.out.d.inv XO.out.a)
          rw [HR.out] at G2
          clear q1 hW2 hW3 b2 z2 x3 q3 G1
          go_wp2_with (rw [HW2.out]; refine gwl_store TA ac W1.heap.size Z2.out rfl rfl ?_; rw [HW3.out])
          refine G2.out.mono ?_; rintro e W4 ⟨rfl, q4⟩
          obtain ⟨W5, hW5, b5, z5⟩ := newA9 W4
          obtain ⟨W6, hW6⟩ : ∃ W6, W5.setRow W4.heap.size (EA.cells ac).toArray = W6 := ⟨_, rfl⟩
          have Z5 := Lib.hid z5
          have HW5 := Lib.hid hW5
          have HW6 := Lib.hid hW6
          have X6 : Hid (EA.Bx 33 W6 W4.heap.size ac) := Lib.hid (hW6 ▸ gbx_set z5)
          have q6 : Below W3.heap.size W3 W6 := by rw [← hW6]; exact below_row0 (q4.trans (b5.mono q4.size)) q4.size
          have RG3 := Lib.hid (gbx_rng (show EA.Bx 33 W6 W1.heap.size ac from (q6.block _ (Array.getElem?_eq_some_iff.1 X3.out).1).trans X3.out))
          have RG6 := Lib.hid (gbx_rng X6.out)
          have QV : Hid (Below V.heap.size V W6) := Lib.hid (Q3.out.trans (q6.mono Q3.out.size))
          clear q4 hW5 b5 z5 hW6 q6 G2 k1
          go_wp2_with (first | (rw [HW5.out]; refine gwl_store TA ac W4.heap.size Z5.out rfl rfl ?_; rw [HW6.out]) | ((with_reducible refine gwl_load TA W1.heap.size 0 RG3.out ?_ ?_ ?_); rfl; rfl) | ((with_reducible refine gwl_load TA W4.heap.size 0 RG6.out ?_ ?_ ?_); rfl; rfl) | (refine wl_eql_ac90 GO.out rfl rfl rfl ?_))
          try go_wp2_with fail
          refine HKM.out _ _ ?_
          have PJ := Lib.hid (PV.out.below QV.out)
          have HB : Hid (EOp9.Bx 35 W6 wo.heap.size x) := Lib.hid ((QV.out.block _ (Array.getElem?_eq_some_iff.1 YV.out).1).trans YV.out)
          exact ⟨g, ba, bp, va, vh, L, PJ.out, (CAP.out.same rfl), HB.out, intro_uE rfl⟩
        cases e4 : (x.kd == 4)
        case true =>
          go_wp2_with fail
          refine wp_region_held_drew (S := fun U => EOp9.Bx 35 U wo.heap.size x) (by kernel_rfl) YV.out (fun hH => ?_)
          refine wpAnyH_take (i := 0) (v := .pointer (some ⟨g, 0, none⟩)) rfl (by kernel_rfl) (by kernel_rfl) (by kernel_rfl) (fun _ _ _ h => h) (.inl ⟨by rfl, ?_⟩) (by assumption) ?_
          · intro W hW; go_simp
          try simp only [List.getElem_toArray, List.getElem_cons_zero, List.getElem_cons_succ, Act.put, List.setIfInBounds_toArray, List.set_cons_zero, List.set_cons_succ]
          refine wpAnyH_take (i := 1) (v := .pointer (some ⟨wo.heap.size, 6, none⟩)) rfl (by kernel_rfl) (by kernel_rfl) (by kernel_rfl) (fun _ _ _ h => h) (.inl ⟨by rfl, ?_⟩) (by assumption) ?_
          · intro W hW; go_simp
          try simp only [List.getElem_toArray, List.getElem_cons_zero, List.getElem_cons_succ, Act.put, List.setIfInBounds_toArray, List.set_cons_zero, List.set_cons_succ]
          refine wpAnyH_take (i := 2) (v := .agg (EA.cells x.x).toArray) rfl (by kernel_rfl) (by kernel_rfl) (by kernel_rfl) (fun _ _ _ h => h) (gyields_load TA (by rfl) (.tmp 113) rfl wo.heap.size 6 rfl (fun U hU => rng_ac9 hU)) (by assumption) ?_
          try simp only [List.getElem_toArray, List.getElem_cons_zero, List.getElem_cons_succ, Act.put, List.setIfInBounds_toArray, List.set_cons_zero, List.set_cons_succ]
          refine wpAnyH_take (i := 4) (v := .pointer (some ⟨gr, 0, none⟩)) rfl (by kernel_rfl) (by kernel_rfl) (by kernel_rfl) (fun _ _ _ h => h) (.inl ⟨by rfl, ?_⟩) (by assumption) ?_
          · intro W hW; go_simp
          try simp only [List.getElem_toArray, List.getElem_cons_zero, List.getElem_cons_succ, Act.put, List.setIfInBounds_toArray, List.set_cons_zero, List.set_cons_succ]
          refine wpAnyH_take (i := 5) (v := .pointer (some ⟨wo.heap.size, 6, none⟩)) rfl (by kernel_rfl) (by kernel_rfl) (by kernel_rfl) (fun _ _ _ h => h) (.inl ⟨by rfl, ?_⟩) (by assumption) ?_
          · intro W hW; go_simp
          try simp only [List.getElem_toArray, List.getElem_cons_zero, List.getElem_cons_succ, Act.put, List.setIfInBounds_toArray, List.set_cons_zero, List.set_cons_succ]
          refine wpAnyH_take (i := 6) (v := .agg (EA.cells x.x).toArray) rfl (by kernel_rfl) (by kernel_rfl) (by kernel_rfl) (fun _ _ _ h => h) (gyields_load TA (by rfl) (.tmp 117) rfl wo.heap.size 6 rfl (fun U hU => rng_ac9 hU)) (by assumption) ?_
          try simp only [List.getElem_toArray, List.getElem_cons_zero, List.getElem_cons_succ, Act.put, List.setIfInBounds_toArray, List.set_cons_zero, List.set_cons_succ]
          refine wpAnyH_ready (rs := [3]) (by decide +kernel) (by simp) (AllReadyH.cons rfl (fun KQ hK => ?_) AllReadyH.nil)
          go_simp
          refine (lset9 x.x _ PV.out.drew.d XO.out.x.nu).mono ?_; rintro e0 W1 ⟨rfl, a1⟩
          have r1 := PV.out.drew.mid a1
          have hH1 : EOp9.Bx 35 W1 wo.heap.size x := (a1.2.at' _ (Array.getElem?_eq_some_iff.1 YV.out).1 (fun c => Nat.lt_irrefl _ (LTW.out _ c))).trans YV.out
          refine hK.out _ _ hH1 (fun _ => ?_)
          clear hK hH
          try simp only [List.setIfInBounds_toArray, List.set_cons_zero, List.set_cons_succ]
          refine wpAnyH_ready (rs := [7]) (by decide +kernel) (by simp) (AllReadyH.cons rfl (fun KQ hK => ?_) AllReadyH.nil)
          go_simp
          refine (rset9 x.x _ r1 PV.out.d.inv XO.out.x).mono ?_; rintro e0 W2 ⟨rfl, a2⟩
          have hH2 : EOp9.Bx 35 W2 wo.heap.size x := by
            obtain ⟨va2, vh2, r2, f2, s2⟩ := a2
            exact (f2.at' _ (Array.getElem?_eq_some_iff.1 hH1).1 (fun c => by have := GRL.out; omega)).trans hH1
          obtain ⟨va2, vh2, pj⟩ := PV.out.drew.both a1 a2
          have PJ := Lib.hid pj
          have HB := Lib.hid hH2
          refine hK.out _ _ hH2 (fun _ => ?_)
          clear hK hH1 a1 a2 r1 pj hH2
          try simp only [List.setIfInBounds_toArray, List.set_cons_zero, List.set_cons_succ]
          generalize setE L x.x = er
          refine wpAnyH_take (i := 8) (v := .bool true) rfl (by kernel_rfl) (by kernel_rfl) (by kernel_rfl) (fun _ _ _ h => h) (.inl ⟨by rfl, ?_⟩) (by assumption) ?_
          · intro W hW; go_simp
          try simp only [List.getElem_toArray, List.getElem_cons_zero, List.getElem_cons_succ, Act.put, List.setIfInBounds_toArray, List.set_cons_zero, List.set_cons_succ]
          refine wpAnyH_take (i := 9) (v := .bool true) rfl (by kernel_rfl) (by kernel_rfl) (by kernel_rfl) (fun _ _ _ h => h) (.inl ⟨by rfl, ?_⟩) (by assumption) ?_
          · intro W hW; go_simp
          try simp only [List.getElem_toArray, List.getElem_cons_zero, List.getElem_cons_succ, Act.put, List.setIfInBounds_toArray, List.set_cons_zero, List.set_cons_succ]
          refine wpAnyH_done (by decide +kernel) ?_ _
          try go_wp2_with fail
          refine HKM.out _ _ ?_
          exact ⟨g, ba, bp, va2, vh2, setL L x.x, PJ.out, (CAP.out.same (set_hl _)), HB.out, intro_uE rfl⟩
        cases e5 : (x.kd == 5)
        case true =>
          go_wp2_with fail
          refine wp_region_held_drew (S := fun U => EOp9.Bx 35 U wo.heap.size x) (by kernel_rfl) YV.out (fun hH => ?_)
          refine wpAnyH_take (i := 0) (v := .pointer (some ⟨g, 0, none⟩)) rfl (by kernel_rfl) (by kernel_rfl) (by kernel_rfl) (fun _ _ _ h => h) (.inl ⟨by rfl, ?_⟩) (by assumption) ?_
          · intro W hW; go_simp
          try simp only [List.getElem_toArray, List.getElem_cons_zero, List.getElem_cons_succ, Act.put, List.setIfInBounds_toArray, List.set_cons_zero, List.set_cons_succ]
          refine wpAnyH_take (i := 1) (v := .pointer (some ⟨wo.heap.size, 3, none⟩)) rfl (by kernel_rfl) (by kernel_rfl) (by kernel_rfl) (fun _ _ _ h => h) (.inl ⟨by rfl, ?_⟩) (by assumption) ?_
          · intro W hW; go_simp
          try simp only [List.getElem_toArray, List.getElem_cons_zero, List.getElem_cons_succ, Act.put, List.setIfInBounds_toArray, List.set_cons_zero, List.set_cons_succ]
          refine wpAnyH_take (i := 2) (v := .int .u32 x.c) rfl (by kernel_rfl) (by kernel_rfl) (by kernel_rfl) (fun _ _ _ h => h) (.inl ⟨by rfl, ?_⟩) (by assumption) ?_
          · intro W hW; have kc : W.cell? ⟨wo.heap.size, 3, none⟩ = some (.int .u32 x.c) := gbx_cell hW 3; go_simp
          try simp only [List.getElem_toArray, List.getElem_cons_zero, List.getElem_cons_succ, Act.put, List.setIfInBounds_toArray, List.set_cons_zero, List.set_cons_succ]
          refine wpAnyH_take (i := 3) (v := .pointer (some ⟨wo.heap.size, 1, none⟩)) rfl (by kernel_rfl) (by kernel_rfl) (by kernel_rfl) (fun _ _ _ h => h) (.inl ⟨by rfl, ?_⟩) (by assumption) ?_
          · intro W hW; go_simp
          try simp only [List.getElem_toArray, List.getElem_cons_zero, List.getElem_cons_succ, Act.put, List.setIfInBounds_toArray, List.set_cons_zero, List.set_cons_succ]
          refine wpAnyH_take (i := 4) (v := .int .u32 x.a) rfl (by kernel_rfl) (by kernel_rfl) (by kernel_rfl) (fun _ _ _ h => h) (.inl ⟨by rfl, ?_⟩) (by assumption) ?_
          · intro W hW; have kc : W.cell? ⟨wo.heap.size, 1, none⟩ = some (.int .u32 x.a) := gbx_cell hW 1; go_simp
          try simp only [List.getElem_toArray, List.getElem_cons_zero, List.getElem_cons_succ, Act.put, List.setIfInBounds_toArray, List.set_cons_zero, List.set_cons_succ]
          refine wpAnyH_take (i := 5) (v := .pointer (some ⟨wo.heap.size, 2, none⟩)) rfl (by kernel_rfl) (by kernel_rfl) (by kernel_rfl) (fun _ _ _ h => h) (.inl ⟨by rfl, ?_⟩) (by assumption) ?_
          · intro W hW; go_simp
          try simp only [List.getElem_toArray, List.getElem_cons_zero, List.getElem_cons_succ, Act.put, List.setIfInBounds_toArray, List.set_cons_zero, List.set_cons_succ]
          refine wpAnyH_take (i := 6) (v := .int .u32 x.b) rfl (by kernel_rfl) (by kernel_rfl) (by kernel_rfl) (fun _ _ _ h => h) (.inl ⟨by rfl, ?_⟩) (by assumption) ?_
          · intro W hW; have kc : W.cell? ⟨wo.heap.size, 2, none⟩ = some (.int .u32 x.b) := gbx_cell hW 2; go_simp
          try simp only [List.getElem_toArray, List.getElem_cons_zero, List.getElem_cons_succ, Act.put, List.setIfInBounds_toArray, List.set_cons_zero, List.set_cons_succ]
          refine wpAnyH_take (i := 7) (v := .pointer (some ⟨wo.heap.size, 4, none⟩)) rfl (by kernel_rfl) (by kernel_rfl) (by kernel_rfl) (fun _ _ _ h => h) (.inl ⟨by rfl, ?_⟩) (by assumption) ?_
          · intro W hW; go_simp
          try simp only [List.getElem_toArray, List.getElem_cons_zero, List.getElem_cons_succ, Act.put, List.setIfInBounds_toArray, List.set_cons_zero, List.set_cons_succ]
          refine wpAnyH_take (i := 8) (v := .int .i64 x.n) rfl (by kernel_rfl) (by kernel_rfl) (by kernel_rfl) (fun _ _ _ h => h) (.inl ⟨by rfl, ?_⟩) (by assumption) ?_
          · intro W hW; have kc : W.cell? ⟨wo.heap.size, 4, none⟩ = some (.int .i64 x.n) := gbx_cell hW 4; go_simp
          try simp only [List.getElem_toArray, List.getElem_cons_zero, List.getElem_cons_succ, Act.put, List.setIfInBounds_toArray, List.set_cons_zero, List.set_cons_succ]
          refine wpAnyH_take (i := 9) (v := .pointer (some ⟨wo.heap.size, 5, none⟩)) rfl (by kernel_rfl) (by kernel_rfl) (by kernel_rfl) (fun _ _ _ h => h) (.inl ⟨by rfl, ?_⟩) (by assumption) ?_
          · intro W hW; go_simp
          try simp only [List.getElem_toArray, List.getElem_cons_zero, List.getElem_cons_succ, Act.put, List.setIfInBounds_toArray, List.set_cons_zero, List.set_cons_succ]
          refine wpAnyH_take (i := 10) (v := .int .i64 x.m) rfl (by kernel_rfl) (by kernel_rfl) (by kernel_rfl) (fun _ _ _ h => h) (.inl ⟨by rfl, ?_⟩) (by assumption) ?_
          · intro W hW; have kc : W.cell? ⟨wo.heap.size, 5, none⟩ = some (.int .i64 x.m) := gbx_cell hW 5; go_simp
          try simp only [List.getElem_toArray, List.getElem_cons_zero, List.getElem_cons_succ, Act.put, List.setIfInBounds_toArray, List.set_cons_zero, List.set_cons_succ]
          refine wpAnyH_take (i := 12) (v := .pointer (some ⟨gr, 0, none⟩)) rfl (by kernel_rfl) (by kernel_rfl) (by kernel_rfl) (fun _ _ _ h => h) (.inl ⟨by rfl, ?_⟩) (by assumption) ?_
          · intro W hW; go_simp
          try simp only [List.getElem_toArray, List.getElem_cons_zero, List.getElem_cons_succ, Act.put, List.setIfInBounds_toArray, List.set_cons_zero, List.set_cons_succ]
          refine wpAnyH_take (i := 13) (v := .pointer (some ⟨wo.heap.size, 3, none⟩)) rfl (by kernel_rfl) (by kernel_rfl) (by kernel_rfl) (fun _ _ _ h => h) (.inl ⟨by rfl, ?_⟩) (by assumption) ?_
          · intro W hW; go_simp
          try simp only [List.getElem_toArray, List.getElem_cons_zero, List.getElem_cons_succ, Act.put, List.setIfInBounds_toArray, List.set_cons_zero, List.set_cons_succ]
          refine wpAnyH_take (i := 14) (v := .int .u32 x.c) rfl (by kernel_rfl) (by kernel_rfl) (by kernel_rfl) (fun _ _ _ h => h) (.inl ⟨by rfl, ?_⟩) (by assumption) ?_
          · intro W hW; have kc : W.cell? ⟨wo.heap.size, 3, none⟩ = some (.int .u32 x.c) := gbx_cell hW 3; go_simp
          try simp only [List.getElem_toArray, List.getElem_cons_zero, List.getElem_cons_succ, Act.put, List.setIfInBounds_toArray, List.set_cons_zero, List.set_cons_succ]
          refine wpAnyH_take (i := 15) (v := .pointer (some ⟨wo.heap.size, 1, none⟩)) rfl (by kernel_rfl) (by kernel_rfl) (by kernel_rfl) (fun _ _ _ h => h) (.inl ⟨by rfl, ?_⟩) (by assumption) ?_
          · intro W hW; go_simp
          try simp only [List.getElem_toArray, List.getElem_cons_zero, List.getElem_cons_succ, Act.put, List.setIfInBounds_toArray, List.set_cons_zero, List.set_cons_succ]
          refine wpAnyH_take (i := 16) (v := .int .u32 x.a) rfl (by kernel_rfl) (by kernel_rfl) (by kernel_rfl) (fun _ _ _ h => h) (.inl ⟨by rfl, ?_⟩) (by assumption) ?_
          · intro W hW; have kc : W.cell? ⟨wo.heap.size, 1, none⟩ = some (.int .u32 x.a) := gbx_cell hW 1; go_simp
          try simp only [List.getElem_toArray, List.getElem_cons_zero, List.getElem_cons_succ, Act.put, List.setIfInBounds_toArray, List.set_cons_zero, List.set_cons_succ]
          refine wpAnyH_take (i := 17) (v := .pointer (some ⟨wo.heap.size, 2, none⟩)) rfl (by kernel_rfl) (by kernel_rfl) (by kernel_rfl) (fun _ _ _ h => h) (.inl ⟨by rfl, ?_⟩) (by assumption) ?_
          · intro W hW; go_simp
          try simp only [List.getElem_toArray, List.getElem_cons_zero, List.getElem_cons_succ, Act.put, List.setIfInBounds_toArray, List.set_cons_zero, List.set_cons_succ]
          refine wpAnyH_take (i := 18) (v := .int .u32 x.b) rfl (by kernel_rfl) (by kernel_rfl) (by kernel_rfl) (fun _ _ _ h => h) (.inl ⟨by rfl, ?_⟩) (by assumption) ?_
          · intro W hW; have kc : W.cell? ⟨wo.heap.size, 2, none⟩ = some (.int .u32 x.b) := gbx_cell hW 2; go_simp
          try simp only [List.getElem_toArray, List.getElem_cons_zero, List.getElem_cons_succ, Act.put, List.setIfInBounds_toArray, List.set_cons_zero, List.set_cons_succ]
          refine wpAnyH_take (i := 19) (v := .pointer (some ⟨wo.heap.size, 4, none⟩)) rfl (by kernel_rfl) (by kernel_rfl) (by kernel_rfl) (fun _ _ _ h => h) (.inl ⟨by rfl, ?_⟩) (by assumption) ?_
          · intro W hW; go_simp
          try simp only [List.getElem_toArray, List.getElem_cons_zero, List.getElem_cons_succ, Act.put, List.setIfInBounds_toArray, List.set_cons_zero, List.set_cons_succ]
          refine wpAnyH_take (i := 20) (v := .int .i64 x.n) rfl (by kernel_rfl) (by kernel_rfl) (by kernel_rfl) (fun _ _ _ h => h) (.inl ⟨by rfl, ?_⟩) (by assumption) ?_
          · intro W hW; have kc : W.cell? ⟨wo.heap.size, 4, none⟩ = some (.int .i64 x.n) := gbx_cell hW 4; go_simp
          try simp only [List.getElem_toArray, List.getElem_cons_zero, List.getElem_cons_succ, Act.put, List.setIfInBounds_toArray, List.set_cons_zero, List.set_cons_succ]
          refine wpAnyH_take (i := 21) (v := .pointer (some ⟨wo.heap.size, 5, none⟩)) rfl (by kernel_rfl) (by kernel_rfl) (by kernel_rfl) (fun _ _ _ h => h) (.inl ⟨by rfl, ?_⟩) (by assumption) ?_
          · intro W hW; go_simp
          try simp only [List.getElem_toArray, List.getElem_cons_zero, List.getElem_cons_succ, Act.put, List.setIfInBounds_toArray, List.set_cons_zero, List.set_cons_succ]
          refine wpAnyH_take (i := 22) (v := .int .i64 x.m) rfl (by kernel_rfl) (by kernel_rfl) (by kernel_rfl) (fun _ _ _ h => h) (.inl ⟨by rfl, ?_⟩) (by assumption) ?_
          · intro W hW; have kc : W.cell? ⟨wo.heap.size, 5, none⟩ = some (.int .i64 x.m) := gbx_cell hW 5; go_simp
          try simp only [List.getElem_toArray, List.getElem_cons_zero, List.getElem_cons_succ, Act.put, List.setIfInBounds_toArray, List.set_cons_zero, List.set_cons_succ]
          refine wpAnyH_ready (rs := [11]) (by decide +kernel) (by simp) (AllReadyH.cons rfl (fun KQ hK => ?_) AllReadyH.nil)
          go_simp
          refine (ltra9 x.c x.a x.b x.n x.m _ PV.out.drew.d XO.out.c XO.out.a XO.out.b).mono ?_; rintro e0 W1 ⟨rfl, a1⟩
          have r1 := PV.out.drew.mid a1
          have hH1 : EOp9.Bx 35 W1 wo.heap.size x := (a1.2.at' _ (Array.getElem?_eq_some_iff.1 YV.out).1 (fun c => Nat.lt_irrefl _ (LTW.out _ c))).trans YV.out
          refine hK.out _ _ hH1 (fun _ => ?_)
          clear hK hH
          try simp only [List.setIfInBounds_toArray, List.set_cons_zero, List.set_cons_succ]
          refine wpAnyH_ready (rs := [23]) (by decide +kernel) (by simp) (AllReadyH.cons rfl (fun KQ hK => ?_) AllReadyH.nil)
          go_simp
          refine (rtra9 x.c x.a x.b x.n x.m _ r1 PV.out.d.inv (by have := HLN.out; omega) XO.out.c XO.out.a XO.out.b).mono ?_; rintro e0 W2 ⟨rfl, a2⟩
          have hH2 : EOp9.Bx 35 W2 wo.heap.size x := by
            obtain ⟨va2, vh2, r2, f2, s2⟩ := a2
            exact (f2.at' _ (Array.getElem?_eq_some_iff.1 hH1).1 (fun c => by have := GRL.out; omega)).trans hH1
          obtain ⟨va2, vh2, pj⟩ := PV.out.drew.both a1 a2
          have PJ := Lib.hid pj
          have HB := Lib.hid hH2
          refine hK.out _ _ hH2 (fun _ => ?_)
          clear hK hH1 a1 a2 r1 pj hH2
          try simp only [List.setIfInBounds_toArray, List.set_cons_zero, List.set_cons_succ]
          generalize traE L x.c x.a x.b x.n x.m = er
          refine wpAnyH_take (i := 24) (v := .bool true) rfl (by kernel_rfl) (by kernel_rfl) (by kernel_rfl) (fun _ _ _ h => h) (.inl ⟨by rfl, ?_⟩) (by assumption) ?_
          · intro W hW; go_simp
          try simp only [List.getElem_toArray, List.getElem_cons_zero, List.getElem_cons_succ, Act.put, List.setIfInBounds_toArray, List.set_cons_zero, List.set_cons_succ]
          refine wpAnyH_take (i := 25) (v := .bool true) rfl (by kernel_rfl) (by kernel_rfl) (by kernel_rfl) (fun _ _ _ h => h) (.inl ⟨by rfl, ?_⟩) (by assumption) ?_
          · intro W hW; go_simp
          try simp only [List.getElem_toArray, List.getElem_cons_zero, List.getElem_cons_succ, Act.put, List.setIfInBounds_toArray, List.set_cons_zero, List.set_cons_succ]
          refine wpAnyH_done (by decide +kernel) ?_ _
          try go_wp2_with fail
          refine HKM.out _ _ ?_
          exact ⟨g, ba, bp, va2, vh2, traL L x.c x.a x.b x.n x.m, PJ.out, (CAP.out.tra _ _ _ _ _), HB.out, intro_uE rfl⟩
        cases e6 : (x.kd == 6)
        case true =>
          have M1 := Lib.hid (lmark9 x.c x.n x.x.ki V PV.out.d XO.out.c)
          have k3 : V.cell? ⟨wo.heap.size, 3, none⟩ = some (.int .u32 x.c) := gbx_cell YV.out 3
          have k4 : V.cell? ⟨wo.heap.size, 4, none⟩ = some (.int .i64 x.n) := gbx_cell YV.out 4
          have k8 : V.cell? ⟨wo.heap.size, 8, none⟩ = some (.bool x.x.ki) := gbx_cell YV.out 8
          have MOK := Lib.hid (marx_ok9 PV.out.d.inv x.c x.n)
          obtain ⟨vs, hvs⟩ : ∃ vs, marX L x.c x.n = vs := ⟨_, rfl⟩
          obtain ⟨er, her⟩ : ∃ er, marE x.c x.n = er := ⟨_, rfl⟩
          rw [hvs, her] at M1
          rw [hvs] at MOK
          have HVS := Lib.hid (And.intro hvs her)
          clear hvs her
          go_wp2_with fail
          refine M1.out.mono ?_; rintro e W1 ⟨v1, rfl, o1, a1⟩
          have r1 := PV.out.mid a1
          have hH1 : EOp9.Bx 35 W1 wo.heap.size x := (a1.2.at' _ (Array.getElem?_eq_some_iff.1 YV.out).1 (fun c => Nat.lt_irrefl _ (LTW.out _ c))).trans YV.out
          have k3 : W1.cell? ⟨wo.heap.size, 3, none⟩ = some (.int .u32 x.c) := gbx_cell hH1 3
          have k4 : W1.cell? ⟨wo.heap.size, 4, none⟩ = some (.int .i64 x.n) := gbx_cell hH1 4
          have k8 : W1.cell? ⟨wo.heap.size, 8, none⟩ = some (.bool x.x.ki) := gbx_cell hH1 8
          have M2 := Lib.hid (rmar9 x.c x.n x.x.ki W1 r1 PV.out.d.inv (by have := HLN.out; omega) XO.out.c)
          rw [HVS.out.1, HVS.out.2] at M2
          obtain ⟨A1, c1, rfl, _⟩ := gown_form o1
          have A1H := Lib.hid a1
          have O1 := Lib.hid o1
          have HB1 := Lib.hid hH1
          obtain ⟨nv, hnv⟩ : ∃ nv, vs.length = nv := ⟨_, rfl⟩
          rw [hnv] at O1 ⊢
          have HNV := Lib.hid hnv
          clear a1 r1 hH1 o1 M1 hnv
          go_wp2_with fail
          refine M2.out.mono ?_; rintro e W2 ⟨v2, rfl, o2, a2⟩
          have hgr : gr < V.heap.size := PV.out.r.gl
          have o1' : EV.Own 62 W2 V.heap.size (.slice A1 nv c1) vs := by
            obtain ⟨va2, vh2, r2, f2, s2⟩ := a2
            exact gown_fr O1.out f2 (fun j hj e => by have := (gown_lt O1.out hj).1; omega)
          have hH2 : EOp9.Bx 35 W2 wo.heap.size x := by
            obtain ⟨va2, vh2, r2, f2, s2⟩ := a2
            exact (f2.at' _ (Array.getElem?_eq_some_iff.1 HB1.out).1 (fun c => by have := GRL.out; omega)).trans HB1.out
          obtain ⟨va2, vh2, pj⟩ := PV.out.both A1H.out a2
          obtain ⟨A2, c2, rfl, _⟩ := gown_form o2
          rw [HNV.out] at o2 ⊢
          have nb : nv ≤ maxLen := by have := o1'; have h1 := MLEN.out; rw [HVS.out.1, HNV.out] at h1; unfold maxLen; omega
          have SM := Lib.hid (rsame9 A1 A2 nv c1 c2 vs W2 (gown_rd o1') (gown_rd o2) MOK.out nb)
          have PJ2 := Lib.hid pj
          have HB2 := Lib.hid hH2
          clear o1' o2 a2 pj hH2 nb M2 k3 k4 k8
          go_wp2_with fail
          refine SM.out.mono ?_; rintro e W3 ⟨rfl, f3⟩
          have q3 : Below W2.heap.size W2 W3 := ⟨f3.b0.os, f3.b0.tape, f3.b0.output, f3.size, fun k hk => f3.at' k hk (fun c => c)⟩
          have PJ := Lib.hid (PJ2.out.below q3)
          have HB : Hid (EOp9.Bx 35 W3 wo.heap.size x) := Lib.hid ((q3.block _ (Array.getElem?_eq_some_iff.1 HB2.out).1).trans HB2.out)
          clear f3 q3
          go_wp2_with fail
          try go_wp2_with fail
          refine HKM.out _ _ ?_
          exact ⟨g, ba, bp, va2, vh2, marL L x.c x.n x.x.ki, PJ.out, (CAP.out.mar _ _ _), HB.out, intro_uE rfl⟩
        cases e7 : (x.kd == 7)
        case true =>
          have C1 := Lib.hid (lcopy9 PV.out.d)
          have k3 : V.cell? ⟨wo.heap.size, 3, none⟩ = some (.int .u32 x.c) := gbx_cell YV.out 3
          go_wp2_with fail
          refine C1.out.mono ?_; rintro e W1 ⟨g2, a2, p2, rfl, d2, q1, n2⟩
          have DP := Lib.hid (ldep9 9 9 W1 (PV.out.d.below q1) ⟨by decide, by decide⟩)
          have D2 := Lib.hid d2
          have Q1 := Lib.hid q1
          have N2 := Lib.hid n2
          have H1 : Hid (EOp9.Bx 35 W1 wo.heap.size x) := Lib.hid ((q1.block _ (Array.getElem?_eq_some_iff.1 YV.out).1).trans YV.out)
          clear d2 q1 n2 C1 k3
          go_wp2_with fail
          refine DP.out.mono ?_; rintro e W2 ⟨rfl, f2⟩
          have MK := Lib.hid (lmark9 x.c 1 true W2 f2.1 XO.out.c)
          have F2 := Lib.hid f2.2
          have h2 : EOp9.Bx 35 W2 wo.heap.size x := (f2.2.at' _ (Array.getElem?_eq_some_iff.1 H1.out).1 (fun c => Nat.lt_irrefl _ (LTW.out _ c))).trans H1.out
          have H2 := Lib.hid h2
          have k3 : W2.cell? ⟨wo.heap.size, 3, none⟩ = some (.int .u32 x.c) := gbx_cell h2 3
          clear f2 h2 DP
          go_wp2_with fail
          refine MK.out.mono ?_; rintro e W3 ⟨v3, rfl, o3, f3⟩
          have HB : Hid (EOp9.Bx 35 W3 wo.heap.size x) := Lib.hid ((f3.2.at' _ (Array.getElem?_eq_some_iff.1 H2.out).1 (fun c => Nat.lt_irrefl _ (LTW.out _ c))).trans H2.out)
          have PJ := Lib.hid (PV.out.copy D2.out Q1.out N2.out (F2.out.same f3.2))
          clear o3 f3 k3 MK
          go_wp2_with fail
          try go_wp2_with fail
          refine HKM.out _ _ ?_
          exact ⟨g2, a2, p2, va, vh, L, PJ.out, (CAP.out.same rfl), HB.out, intro_uE rfl⟩
        go_wp2_with fail
        refine wp_region_held_drew (S := fun U => EOp9.Bx 35 U wo.heap.size x) (by kernel_rfl) YV.out (fun hH => ?_)
        refine wpAnyH_take (i := 0) (v := .pointer (some ⟨g, 0, none⟩)) rfl (by kernel_rfl) (by kernel_rfl) (by kernel_rfl) (fun _ _ _ h => h) (.inl ⟨by rfl, ?_⟩) (by assumption) ?_
        · intro W hW; go_simp
        try simp only [List.getElem_toArray, List.getElem_cons_zero, List.getElem_cons_succ, Act.put, List.setIfInBounds_toArray, List.set_cons_zero, List.set_cons_succ]
        refine wpAnyH_take (i := 1) (v := .pointer (some ⟨wo.heap.size, 3, none⟩)) rfl (by kernel_rfl) (by kernel_rfl) (by kernel_rfl) (fun _ _ _ h => h) (.inl ⟨by rfl, ?_⟩) (by assumption) ?_
        · intro W hW; go_simp
        try simp only [List.getElem_toArray, List.getElem_cons_zero, List.getElem_cons_succ, Act.put, List.setIfInBounds_toArray, List.set_cons_zero, List.set_cons_succ]
        refine wpAnyH_take (i := 2) (v := .int .u32 x.c) rfl (by kernel_rfl) (by kernel_rfl) (by kernel_rfl) (fun _ _ _ h => h) (.inl ⟨by rfl, ?_⟩) (by assumption) ?_
        · intro W hW; have kc : W.cell? ⟨wo.heap.size, 3, none⟩ = some (.int .u32 x.c) := gbx_cell hW 3; go_simp
        try simp only [List.getElem_toArray, List.getElem_cons_zero, List.getElem_cons_succ, Act.put, List.setIfInBounds_toArray, List.set_cons_zero, List.set_cons_succ]
        refine wpAnyH_take (i := 3) (v := .pointer (some ⟨wo.heap.size, 1, none⟩)) rfl (by kernel_rfl) (by kernel_rfl) (by kernel_rfl) (fun _ _ _ h => h) (.inl ⟨by rfl, ?_⟩) (by assumption) ?_
        · intro W hW; go_simp
        try simp only [List.getElem_toArray, List.getElem_cons_zero, List.getElem_cons_succ, Act.put, List.setIfInBounds_toArray, List.set_cons_zero, List.set_cons_succ]
        refine wpAnyH_take (i := 4) (v := .int .u32 x.a) rfl (by kernel_rfl) (by kernel_rfl) (by kernel_rfl) (fun _ _ _ h => h) (.inl ⟨by rfl, ?_⟩) (by assumption) ?_
        · intro W hW; have kc : W.cell? ⟨wo.heap.size, 1, none⟩ = some (.int .u32 x.a) := gbx_cell hW 1; go_simp
        try simp only [List.getElem_toArray, List.getElem_cons_zero, List.getElem_cons_succ, Act.put, List.setIfInBounds_toArray, List.set_cons_zero, List.set_cons_succ]
        refine wpAnyH_take (i := 6) (v := .pointer (some ⟨gr, 0, none⟩)) rfl (by kernel_rfl) (by kernel_rfl) (by kernel_rfl) (fun _ _ _ h => h) (.inl ⟨by rfl, ?_⟩) (by assumption) ?_
        · intro W hW; go_simp
        try simp only [List.getElem_toArray, List.getElem_cons_zero, List.getElem_cons_succ, Act.put, List.setIfInBounds_toArray, List.set_cons_zero, List.set_cons_succ]
        refine wpAnyH_take (i := 7) (v := .pointer (some ⟨wo.heap.size, 3, none⟩)) rfl (by kernel_rfl) (by kernel_rfl) (by kernel_rfl) (fun _ _ _ h => h) (.inl ⟨by rfl, ?_⟩) (by assumption) ?_
        · intro W hW; go_simp
        try simp only [List.getElem_toArray, List.getElem_cons_zero, List.getElem_cons_succ, Act.put, List.setIfInBounds_toArray, List.set_cons_zero, List.set_cons_succ]
        refine wpAnyH_take (i := 8) (v := .int .u32 x.c) rfl (by kernel_rfl) (by kernel_rfl) (by kernel_rfl) (fun _ _ _ h => h) (.inl ⟨by rfl, ?_⟩) (by assumption) ?_
        · intro W hW; have kc : W.cell? ⟨wo.heap.size, 3, none⟩ = some (.int .u32 x.c) := gbx_cell hW 3; go_simp
        try simp only [List.getElem_toArray, List.getElem_cons_zero, List.getElem_cons_succ, Act.put, List.setIfInBounds_toArray, List.set_cons_zero, List.set_cons_succ]
        refine wpAnyH_take (i := 9) (v := .pointer (some ⟨wo.heap.size, 1, none⟩)) rfl (by kernel_rfl) (by kernel_rfl) (by kernel_rfl) (fun _ _ _ h => h) (.inl ⟨by rfl, ?_⟩) (by assumption) ?_
        · intro W hW; go_simp
        try simp only [List.getElem_toArray, List.getElem_cons_zero, List.getElem_cons_succ, Act.put, List.setIfInBounds_toArray, List.set_cons_zero, List.set_cons_succ]
        refine wpAnyH_take (i := 10) (v := .int .u32 x.a) rfl (by kernel_rfl) (by kernel_rfl) (by kernel_rfl) (fun _ _ _ h => h) (.inl ⟨by rfl, ?_⟩) (by assumption) ?_
        · intro W hW; have kc : W.cell? ⟨wo.heap.size, 1, none⟩ = some (.int .u32 x.a) := gbx_cell hW 1; go_simp
        try simp only [List.getElem_toArray, List.getElem_cons_zero, List.getElem_cons_succ, Act.put, List.setIfInBounds_toArray, List.set_cons_zero, List.set_cons_succ]
        refine wpAnyH_ready (rs := [5]) (by decide +kernel) (by simp) (AllReadyH.cons rfl (fun KQ hK => ?_) AllReadyH.nil)
        go_simp
        refine (lpos9 x.c x.a _ PV.out.drew.d XO.out.c XO.out.a).mono ?_; rintro e0 W1 ⟨rfl, q1⟩
        have pv1 := PV.out.drew.below q1
        have hH1 : EOp9.Bx 35 W1 wo.heap.size x := (q1.block _ (Array.getElem?_eq_some_iff.1 YV.out).1).trans YV.out
        refine hK.out _ _ hH1 (fun _ => ?_)
        clear hK hH
        try simp only [List.setIfInBounds_toArray, List.set_cons_zero, List.set_cons_succ]
        refine wpAnyH_ready (rs := [11]) (by decide +kernel) (by simp) (AllReadyH.cons rfl (fun KQ hK => ?_) AllReadyH.nil)
        go_simp
        refine (rpos9 x.c x.a _ pv1.r pv1.d.inv XO.out.c XO.out.a).mono ?_; rintro e0 W2 ⟨rfl, q2⟩
        have hH2 : EOp9.Bx 35 W2 wo.heap.size x := (q2.block _ (Array.getElem?_eq_some_iff.1 hH1).1).trans hH1
        have PJ := Lib.hid (pv1.below q2)
        have HB := Lib.hid hH2
        have OKP := Lib.hid (pos_ok9 pv1.d.inv XO.out.c XO.out.a)
        refine hK.out _ _ hH2 (fun _ => ?_)
        clear hK hH1 q1 q2 pv1 hH2
        try simp only [List.setIfInBounds_toArray, List.set_cons_zero, List.set_cons_succ]
        obtain ⟨po, hpo⟩ : ∃ po, posH L.hl x.c x.a = po := ⟨_, rfl⟩
        rw [hpo] at OKP ⊢
        obtain ⟨b2, hb2⟩ : ∃ b, eqPo9 po po = b := ⟨_, rfl⟩
        refine wpAnyH_take (i := 12) (v := .bool b2) rfl (by kernel_rfl) (by kernel_rfl) (by kernel_rfl) (fun _ _ _ h => h) (by rw [← hb2]; exact yields_eql_po9 (by rfl) (.tmp 48) (.tmp 54) rfl OKP.out OKP.out rfl rfl) (by assumption) ?_
        try simp only [List.getElem_toArray, List.getElem_cons_zero, List.getElem_cons_succ, Act.put, List.setIfInBounds_toArray, List.set_cons_zero, List.set_cons_succ]
        refine wpAnyH_take (i := 13) (v := .bool b2) rfl (by kernel_rfl) (by kernel_rfl) (by kernel_rfl) (fun _ _ _ h => h) (.inl ⟨by rfl, ?_⟩) (by assumption) ?_
        · intro W hW; go_simp
        try simp only [List.getElem_toArray, List.getElem_cons_zero, List.getElem_cons_succ, Act.put, List.setIfInBounds_toArray, List.set_cons_zero, List.set_cons_succ]
        obtain rfl : b2 = true := hb2.symm.trans (eqPo9_yes po)
        refine wpAnyH_done (by decide +kernel) ?_ _
        try go_wp2_with fail
        refine HKM.out _ _ ?_
        exact ⟨g, ba, bp, va, vh, L, PJ.out, (CAP.out.same rfl), HB.out, intro_uE rfl⟩
      case tlX =>
        rintro a1 wr1 ⟨g1, ba1, bp1, va1, vh1, L1, pj, cap, hb, u', rfl⟩
        have P1 := Lib.hid pj
        have C1 := Lib.hid cap
        have LN1 : Hid (L1.hl.length ≤ 4000) := Lib.hid (by have := cap.len pj.d.inv; omega)
        have SM := Lib.hid (same9 pj.d pj.r LN1.out)
        have k3 : wr1.cell? ⟨wo.heap.size, 3, none⟩ = some (.int .u32 x.c) := gbx_cell hb 3
        have hbl := (Array.getElem?_eq_some_iff.1 hb).1
        clear pj cap PV YV HV ZV RG d0 hb
        go_wp2_with fail
        refine SM.out.mono ?_; rintro e w4 ⟨rfl, q4⟩
        have P4 := Lib.hid (P1.out.below q4)
        have k3 : w4.cell? ⟨wo.heap.size, 3, none⟩ = some (.int .u32 x.c) := cell_below k3 q4 (Nat.le_refl _)
        have HH := Lib.hid (holds9 P4.out.d P4.out.r XO.out.c LN1.out)
        clear q4 SM
        go_wp2_with fail
        refine HH.out.mono ?_; rintro e w5 ⟨rfl, q5⟩
        have P5 := Lib.hid (P4.out.below q5)
        clear q5 HH k3
        go_wp2_with fail
        try refine H3.out _ _ ?_
        try go_wp2_with fail
        have wk : wrap64 ((k : Int) + 1) = (k : Int) + 1 := by unfold wrap64; omega
        try rw [wk]
        refine HKK.out _ _ (Handed.intro (m - 1) (by have := HM.out; omega) (HJ.out _ _ _ ?_))
        exact ⟨k + 1, g1, ba1, bp1, va1, vh1, L1, by have := HM.out; omega, by omega, P5.out, C1.out, intro_uE rfl⟩
theorem plays9_all (A : Option Addr) (n c : Nat) (l : List OpL) (w : World) (hr : EOp9.Rd w A n l) (hok : ∀ x, x ∈ l → x.ok) (hm : n ≤ maxLen) :
    Calls Try.prog 3 #[.slice A n c] w fun e w' => e = .returned (.bool true) ∧ Below w.heap.size w w' := by
  unfold maxLen at hm
  rcases Nat.lt_or_ge 250 n with h | h
  · exact plays9_out A n c w h (by omega)
  · exact plays9_in A n c l w hr hok h
end Go.Proofs.Ytdaknfpifionoaa
