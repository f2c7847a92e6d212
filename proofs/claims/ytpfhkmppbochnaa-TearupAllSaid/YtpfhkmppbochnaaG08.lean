/- Contract of the document's own split where something is divided: the parts are those of the sorted rests. -/
import Derived.Deep.Cut
import Derived.Deep.CutRange
import Derived.Deep.LoopGhost
import Derived.Deep.Light
import Derived.Deep.RegionHeld3
import Derived.Test.YtpfhkmppbochnaaG07
namespace Go.Proofs.Ytpfhkmppbochnaa
open Go.RowKit Go.Sort

set_option maxRecDepth 100000 in
set_option maxHeartbeats 4000000 in
theorem refsplit_main (A : Option Addr) (n c : Nat) (ws : List Int) (T : Int) (g : Nat → Int) (w : World) (h : Rd w A n ws) (hn : n ≤ 1000) (al : Al2 T ws g) :
    Calls Try.prog 15 #[.int .i64 T, .slice A n c] w fun e w' => Gave n (pt T ws g) w w' e := by
  have hl := h.1
  have hT1 : 0 < T := al.1.1
  have hT2 : T ≤ 9223372036854775807 := al.1.2.1
  have hS1 : 0 < sm ws := al.1.2.2.1
  have hS2 : sm ws ≤ 9223372036854775807 := al.1.2.2.2.1
  have hw := fun t => al.1.one t
  have hr : ∀ n, n ∈ ws → I64 n := fun z hz => by
    obtain ⟨t, t1, rfl⟩ := List.getElem_of_mem hz
    have := hw t
    rw [show ws.getD t 0 = ws[t] by simp [List.getD, t1]] at this
    unfold I64; omega
  have S := Lib.hid (rsum_num A n c ws w h (by omega) hr)
  have hn0 : 0 < n := by
    rcases Nat.eq_zero_or_pos n with e | e
    · have : ws = [] := List.eq_nil_of_length_eq_zero (by omega)
      rw [this] at hS1; exact absurd hS1 (by simp [sm])
    · exact e
  obtain ⟨b, o, rfl, hc⟩ := h.2 hn0
  have HC := Lib.hid hc
  have HW := Lib.hid hw
  have HR := Lib.hid hr
  have HL := Lib.hid hl
  have HS := Lib.hid (And.intro hS1 hS2)
  have AL := Lib.hid al
  have hTn : decide (T < 0) = false := decide_eq_false (by omega)
  have HD := Lib.hid h
  clear hc hw hr hl hS1 hS2 al h
  go_enter Try.func15, Try.ntmps15
  go_wp2_with fail
  go_loop [6] (fun i => ∃ k : Nat, k ≤ n ∧ i = .int .i64 k) (fun i => n - (intOf i).toNat)
  case atStart => exact ⟨0, Nat.zero_le _, rfl⟩
  case round =>
    obtain ⟨k, hk, rfl⟩ := hrel
    by_cases hlt : k < n
    · have hcell := HC.out k hlt
      have hw0 := (HW.out k).1
      obtain ⟨x, hx⟩ : ∃ x, ws.getD k 0 = x := ⟨_, rfl⟩
      rw [hx] at hcell hw0
      have hx0 : decide (x < 0) = false := decide_eq_false (by omega)
      clear hx
      go_wp2
      go_round
      case rel => exact ⟨k + 1, hlt, by go_num⟩
      case measure => simp [intOf]; omega
    obtain rfl : k = n := by omega
    go_wp2_with fail
    refine S.out.mono ?_; rintro e w1 ⟨⟨u, N, rfl, n0, n1, hN⟩, q1⟩
    have hbig : N < Rf.T 12 := by have := big12 k (by omega); omega
    have hu : u = false ∧ N = sm ws := by
      have := HS.out.1
      unfold sgn at hN
      cases u
      · exact ⟨rfl, hN⟩
      · simp at hN; omega
    obtain ⟨rfl, rfl⟩ := hu
    obtain ⟨N, hNe⟩ : ∃ N, sm ws = N := ⟨_, rfl⟩
    rw [hNe] at n0 n1 hN hbig HS
    have II := Lib.hid (fun W => int_any false N n0 hbig W)
    have ZZ := Lib.hid (fun W => zero_any false N n0 hbig W)
    rw [show sgn false N = N from rfl, tN_in (by have := HS.out; unfold I64; omega), tO_in (by have := HS.out; unfold I64; omega)] at II
    have hz : decide (N = 0) = false := decide_eq_false (by have := HS.out; omega)
    rw [hz] at ZZ
    have R7 := Lib.hid ((Row.new w1 48 (nm false fun _ => 0)).whole (nm false (dgs N)))
    have Q7 := Lib.hid ((q1.alloc (nm false fun _ => 0) 48).setRow (Row.new w1 48 (nm false fun _ => 0)) q1.2.size (nm false (dgs N)))
    clear n0 n1 hN hbig hz
    go_wp2_with (first
      | ((with_reducible refine wl_store_nm w1.heap.size false false (dgs N) (fun _ => 0) ?_ ?_ ?_ ?_); rfl; rfl; exact Row.new w1 48 (nm false fun _ => 0))
      | ((with_reducible refine wl_load_nm w1.heap.size false (dgs N) ?_ ?_ ?_); rfl; exact R7.out)
      | (go_at_call 21; refine (II.out _).mono ?_; rintro e w2 ⟨rfl, q2⟩))
    have L0 : L2 w w2.heap.size w1.heap.size false N (Sp.sh T (sm ws) ws) (Sp.rs T (sm ws) ws) 0 (.slice none 0 0) (.slice none 0 0) w2 :=
      ⟨World.ownsRow_nil _ _ _ _, World.ownsRow_nil _ _ _ _, R7.out.below q2.2 R7.out.lt, Nat.lt_of_lt_of_le R7.out.lt q2.2.size, Nat.le_trans Q7.out.2.size q2.2.size, Nat.le_refl _, Q7.out.2.trans (q2.2.mono Q7.out.2.size)⟩
    have HN := Lib.hid hNe
    have hT0 : decide (T = 0) = false := decide_eq_false (by omega)
    have hT0' : (T == 0) = false := by simp; omega
    clear q1 q2 R7 Q7 hNe S II
    obtain ⟨g7, hg7⟩ : ∃ g7, w1.heap.size = g7 := ⟨_, rfl⟩
    obtain ⟨B, hB⟩ : ∃ B, w2.heap.size = B := ⟨_, rfl⟩
    rw [hg7, hB] at L0
    rw [hg7]
    clear hg7 hB
    have K0 := Lib.hid L0
    clear L0
    go_loopw [10, 11, 12, 13] (fun x y l i wr => ∃ j : Nat, j ≤ k ∧ i = .int .i64 j ∧ l = .int .i64 (T - Sp.su (Sp.sh T (sm ws) ws) j) ∧ L2 w B g7 false N (Sp.sh T (sm ws) ws) (Sp.rs T (sm ws) ws) j x y wr) (fun _ _ _ i _ => k - (intOf i).toNat)
    case atStart => exact ⟨0, Nat.zero_le _, rfl, by simp [Sp.su], K0.out⟩
    case round =>
      obtain ⟨j, hj, rfl, rfl, L⟩ := hrel
      have KL := Lib.hid L
      clear L
      by_cases hlt : j < k
      · have e7 := (show Row wr g7 48 (nm false (dgs N)) from KL.out.r7)
        have R7 := Lib.hid e7
        clear e7
        go_upto_region 24 with (first
          | ((with_reducible refine wl_load_nm g7 false (dgs N) ?_ ?_ ?_); rfl; exact R7.out)
          | (go_at_call 22; refine (ZZ.out _).mono ?_; rintro e w3 ⟨rfl, q3⟩))
        have hcell := HC.out j hlt
        have hw0 := HW.out j
        have hxe : T * ws.getD j 0 / N = Sp.sh T (sm ws) ws j ∧ T * ws.getD j 0 % N = Sp.rs T (sm ws) ws j := by unfold Sp.sh Sp.rs; rw [HN.out]; exact ⟨rfl, rfl⟩
        obtain ⟨x, hx⟩ : ∃ x, ws.getD j 0 = x := ⟨_, rfl⟩
        rw [hx] at hcell hw0 hxe
        rw [HN.out] at hw0
        have hTx : 0 ≤ T * x ∧ T * x ≤ 9223372036854775807 * 9223372036854775807 := ⟨Int.mul_nonneg (by omega) hw0.1, Int.mul_le_mul hT2 (by have := HS.out; omega) hw0.1 (by omega)⟩
        have OF := Lib.hid (fun W => of_any T (by unfold I64; omega) W)
        have OX := Lib.hid (fun W => of_any x (by have := HS.out; unfold I64; omega) W)
        rw [hTn, show mag T = T from if_neg (by omega)] at OF
        rw [show decide (x < 0) = false from decide_eq_false (by omega), show mag x = x from if_neg (by omega)] at OX
        have TI := Lib.hid (fun W => times_any false false T x (by omega) (mag12 (show T ≤ 9223372036854775808 by omega)).1 W)
        have hp12 := prod12 (show T * x ≤ 85070591730234615865843651857942052864 by omega)
        have OV : Hid (∀ W, Calls Try.prog 25 #[.agg (nm false (dgs (T * x))), .agg (nm false (dgs N))] W fun e w' => (∃ u M, e = .returned (.tuple #[.agg (nm u (dgs M)), .agg (nm false (dgs (Sp.rs T (sm ws) ws j)))]) ∧ 0 ≤ M ∧ M < Rf.T 12 ∧ sgn u M = Sp.sh T (sm ws) ws j) ∧ Quiet W w') :=
          Lib.hid (fun W => (over_any false false (T * x) N hTx.1 hp12 HS.out.1 (mag12 (show N ≤ 9223372036854775808 by have := HS.out; omega)).2 W).mono fun e w' ⟨⟨u, M, R, e1, e2, e3, e4, e5⟩, e6⟩ => ⟨⟨u, M, by rw [e1, e5, hxe.2], e2, by omega, by rw [e4, ← hxe.1]; rfl⟩, e6⟩)
        have hb := World.block_lt_of_cell? w _ hcell
        have CE : Hid (∀ W, L2 w B g7 false N (Sp.sh T (sm ws) ws) (Sp.rs T (sm ws) ws) j u10 u11 W → W.cell? ⟨b, o + j, none⟩ = some (.int .i64 x)) := Lib.hid (fun W hW => (hW.q.cell (p := ⟨b, o + j, none⟩) hb).trans hcell)
        clear hx hw0 hxe hTx hcell hb hp12
        go_cut [14, 15] from 46 to 87 (fun y z wx => ∃ (g14 g15 : Nat) (u' : Bool) (M : Int), y = .pointer (some ⟨g14, 0, none⟩) ∧ z = .pointer (some ⟨g15, 0, none⟩) ∧ Row wx g14 48 (nm u' (dgs M)) ∧ 0 ≤ M ∧ M < Rf.T 12 ∧ sgn u' M = Sp.sh T (sm ws) ws j ∧
          Row wx g15 48 (nm false (dgs (Sp.rs T (sm ws) ws j))) ∧ L2 w B g7 false N (Sp.sh T (sm ws) ws) (Sp.rs T (sm ws) ws) j u10 u11 wx)
        case first =>
          as_aux_lemma =>
            refine wp_region_held_drew (S := L2 w B g7 false N (Sp.sh T (sm ws) ws) (Sp.rs T (sm ws) ws) j u10 u11) (by kernel_rfl) (KL.out.below q3.2.drew) (fun hH => ?_)
            refine wpAnyH_take (i := 0) (v := .int .i64 T) rfl (by kernel_rfl) (by kernel_rfl) (by kernel_rfl) (fun _ _ _ h => h) (.inl ⟨by rfl, ?_⟩) (by assumption) ?_
            · intro W hW; go_simp
            simp only [List.getElem_toArray, List.getElem_cons_zero, Act.put, List.setIfInBounds_toArray, List.set_cons_zero, List.set_cons_succ]
            refine wpAnyH_take (i := 2) (v := .slice (some ⟨b, o, none⟩) k c) rfl (by kernel_rfl) (by kernel_rfl) (by kernel_rfl) (fun _ _ _ h => h) (.inl ⟨by rfl, ?_⟩) (by assumption) ?_
            · intro W hW; go_simp
            simp only [List.getElem_toArray, List.getElem_cons_zero, List.getElem_cons_succ, Act.put, List.setIfInBounds_toArray, List.set_cons_zero, List.set_cons_succ]
            refine wpAnyH_take (i := 3) (v := .int .i64 j) rfl (by kernel_rfl) (by kernel_rfl) (by kernel_rfl) (fun _ _ _ h => h) (.inl ⟨by rfl, ?_⟩) (by assumption) ?_
            · intro W hW; go_simp
            simp only [List.getElem_toArray, List.getElem_cons_zero, List.getElem_cons_succ, Act.put, List.setIfInBounds_toArray, List.set_cons_zero, List.set_cons_succ]
            refine wpAnyH_take (i := 4) (v := .pointer (some ⟨b, o + j, none⟩)) rfl (by kernel_rfl) (by kernel_rfl) (by kernel_rfl) (fun _ _ _ h => h) (.inl ⟨by rfl, ?_⟩) (by assumption) ?_
            · intro W hW; go_simp
            simp only [List.getElem_toArray, List.getElem_cons_zero, List.getElem_cons_succ, Act.put, List.setIfInBounds_toArray, List.set_cons_zero, List.set_cons_succ]
            refine wpAnyH_take (i := 5) (v := .int .i64 x) rfl (by kernel_rfl) (by kernel_rfl) (by kernel_rfl) (fun _ _ _ h => h) (.inl ⟨by rfl, ?_⟩) (by assumption) ?_
            · intro W hW; have := CE.out W hW; go_simp
            simp only [List.getElem_toArray, List.getElem_cons_zero, List.getElem_cons_succ, Act.put, List.setIfInBounds_toArray, List.set_cons_zero, List.set_cons_succ]
            refine wpAnyH_take (i := 8) (v := .agg (nm false (dgs N))) rfl (by kernel_rfl) (by kernel_rfl) (by kernel_rfl) (fun _ _ _ h => h) (yields_nm (by rfl) (.tmp 7) rfl g7 rfl false (dgs N) (fun W hW => hW.r7.range00)) (by assumption) ?_
            simp only [List.getElem_toArray, List.getElem_cons_zero, List.getElem_cons_succ, Act.put, List.setIfInBounds_toArray, List.set_cons_zero, List.set_cons_succ]
            have hH : RA w B g7 false N (Sp.sh T (sm ws) ws) (Sp.rs T (sm ws) ws) j u10 u11 none none w3.drew := ⟨hH, (fun _ e => by cases e), (fun _ e => by cases e), (fun _ _ e => by cases e)⟩
            generalize w3.drew = W0 at hH ⊢
            all_goals first
              | (refine wpAnyH_ready (rs := [1, 13, 14]) (by decide +kernel) (by simp) (AllReadyH.cons rfl (fun K hK => ?_) (AllReadyH.cons rfl (fun K hK => ?_) (AllReadyH.cons rfl (fun K hK => ?_) AllReadyH.nil)))
                 go_simp
                 refine (OF.out _).mono ?_; rintro e W0 ⟨rfl, q5⟩
                 have hH := hH.quiet q5
                 refine hK.out _ _ hH.base (fun _ => ?_)
                 clear hK q5
                 try simp only [List.getElem_toArray, List.getElem_cons_zero, List.getElem_cons_succ, Act.put, List.setIfInBounds_toArray, List.set_cons_zero, List.set_cons_succ]
                 rotate_left
                 go_simp
                 change K _ (W0.alloc (.cells (nm false fun _ => 0) 48))
                 have hH := hH.alloc14
                 generalize W0.heap.size = g14 at hH ⊢
                 generalize W0.alloc (.cells (nm false fun _ => 0) 48) = W0 at hH ⊢
                 refine hK.out _ _ hH.base (fun _ => ?_)
                 clear hK
                 try simp only [List.getElem_toArray, List.getElem_cons_zero, List.getElem_cons_succ, Act.put, List.setIfInBounds_toArray, List.set_cons_zero, List.set_cons_succ]
                 rotate_left
                 go_simp
                 change K _ (W0.alloc (.cells (nm false fun _ => 0) 48))
                 have hH := hH.alloc15
                 generalize W0.heap.size = g15 at hH ⊢
                 generalize W0.alloc (.cells (nm false fun _ => 0) 48) = W0 at hH ⊢
                 refine hK.out _ _ hH.base (fun _ => ?_)
                 clear hK
                 try simp only [List.getElem_toArray, List.getElem_cons_zero, List.getElem_cons_succ, Act.put, List.setIfInBounds_toArray, List.set_cons_zero, List.set_cons_succ]
                 rotate_left)
            all_goals first
              | (refine wpAnyH_ready (rs := [1, 13]) (by decide +kernel) (by simp) (AllReadyH.cons rfl (fun K hK => ?_) (AllReadyH.cons rfl (fun K hK => ?_) AllReadyH.nil))
                 go_simp
                 refine (OF.out _).mono ?_; rintro e W0 ⟨rfl, q5⟩
                 have hH := hH.quiet q5
                 refine hK.out _ _ hH.base (fun _ => ?_)
                 clear hK q5
                 try simp only [List.getElem_toArray, List.getElem_cons_zero, List.getElem_cons_succ, Act.put, List.setIfInBounds_toArray, List.set_cons_zero, List.set_cons_succ]
                 rotate_left
                 go_simp
                 change K _ (W0.alloc (.cells (nm false fun _ => 0) 48))
                 have hH := hH.alloc14
                 generalize W0.heap.size = g14 at hH ⊢
                 generalize W0.alloc (.cells (nm false fun _ => 0) 48) = W0 at hH ⊢
                 refine hK.out _ _ hH.base (fun _ => ?_)
                 clear hK
                 try simp only [List.getElem_toArray, List.getElem_cons_zero, List.getElem_cons_succ, Act.put, List.setIfInBounds_toArray, List.set_cons_zero, List.set_cons_succ]
                 rotate_left)
              | (refine wpAnyH_ready (rs := [1, 14]) (by decide +kernel) (by simp) (AllReadyH.cons rfl (fun K hK => ?_) (AllReadyH.cons rfl (fun K hK => ?_) AllReadyH.nil))
                 go_simp
                 refine (OF.out _).mono ?_; rintro e W0 ⟨rfl, q5⟩
                 have hH := hH.quiet q5
                 refine hK.out _ _ hH.base (fun _ => ?_)
                 clear hK q5
                 try simp only [List.getElem_toArray, List.getElem_cons_zero, List.getElem_cons_succ, Act.put, List.setIfInBounds_toArray, List.set_cons_zero, List.set_cons_succ]
                 rotate_left
                 go_simp
                 change K _ (W0.alloc (.cells (nm false fun _ => 0) 48))
                 have hH := hH.alloc15
                 generalize W0.heap.size = g15 at hH ⊢
                 generalize W0.alloc (.cells (nm false fun _ => 0) 48) = W0 at hH ⊢
                 refine hK.out _ _ hH.base (fun _ => ?_)
                 clear hK
                 try simp only [List.getElem_toArray, List.getElem_cons_zero, List.getElem_cons_succ, Act.put, List.setIfInBounds_toArray, List.set_cons_zero, List.set_cons_succ]
                 rotate_left)
              | (refine wpAnyH_ready (rs := [6, 13, 14]) (by decide +kernel) (by simp) (AllReadyH.cons rfl (fun K hK => ?_) (AllReadyH.cons rfl (fun K hK => ?_) (AllReadyH.cons rfl (fun K hK => ?_) AllReadyH.nil)))
                 go_simp
                 refine (OX.out _).mono ?_; rintro e W0 ⟨rfl, q5⟩
                 have hH := hH.quiet q5
                 refine hK.out _ _ hH.base (fun _ => ?_)
                 clear hK q5
                 try simp only [List.getElem_toArray, List.getElem_cons_zero, List.getElem_cons_succ, Act.put, List.setIfInBounds_toArray, List.set_cons_zero, List.set_cons_succ]
                 rotate_left
                 go_simp
                 change K _ (W0.alloc (.cells (nm false fun _ => 0) 48))
                 have hH := hH.alloc14
                 generalize W0.heap.size = g14 at hH ⊢
                 generalize W0.alloc (.cells (nm false fun _ => 0) 48) = W0 at hH ⊢
                 refine hK.out _ _ hH.base (fun _ => ?_)
                 clear hK
                 try simp only [List.getElem_toArray, List.getElem_cons_zero, List.getElem_cons_succ, Act.put, List.setIfInBounds_toArray, List.set_cons_zero, List.set_cons_succ]
                 rotate_left
                 go_simp
                 change K _ (W0.alloc (.cells (nm false fun _ => 0) 48))
                 have hH := hH.alloc15
                 generalize W0.heap.size = g15 at hH ⊢
                 generalize W0.alloc (.cells (nm false fun _ => 0) 48) = W0 at hH ⊢
                 refine hK.out _ _ hH.base (fun _ => ?_)
                 clear hK
                 try simp only [List.getElem_toArray, List.getElem_cons_zero, List.getElem_cons_succ, Act.put, List.setIfInBounds_toArray, List.set_cons_zero, List.set_cons_succ]
                 rotate_left)
            all_goals first
              | (refine wpAnyH_ready (rs := [1]) (by decide +kernel) (by simp) (AllReadyH.cons rfl (fun K hK => ?_) AllReadyH.nil)
                 go_simp
                 refine (OF.out _).mono ?_; rintro e W0 ⟨rfl, q5⟩
                 have hH := hH.quiet q5
                 refine hK.out _ _ hH.base (fun _ => ?_)
                 clear hK q5
                 try simp only [List.getElem_toArray, List.getElem_cons_zero, List.getElem_cons_succ, Act.put, List.setIfInBounds_toArray, List.set_cons_zero, List.set_cons_succ])
              | (refine wpAnyH_ready (rs := [6, 13]) (by decide +kernel) (by simp) (AllReadyH.cons rfl (fun K hK => ?_) (AllReadyH.cons rfl (fun K hK => ?_) AllReadyH.nil))
                 go_simp
                 refine (OX.out _).mono ?_; rintro e W0 ⟨rfl, q5⟩
                 have hH := hH.quiet q5
                 refine hK.out _ _ hH.base (fun _ => ?_)
                 clear hK q5
                 try simp only [List.getElem_toArray, List.getElem_cons_zero, List.getElem_cons_succ, Act.put, List.setIfInBounds_toArray, List.set_cons_zero, List.set_cons_succ]
                 rotate_left
                 go_simp
                 change K _ (W0.alloc (.cells (nm false fun _ => 0) 48))
                 have hH := hH.alloc14
                 generalize W0.heap.size = g14 at hH ⊢
                 generalize W0.alloc (.cells (nm false fun _ => 0) 48) = W0 at hH ⊢
                 refine hK.out _ _ hH.base (fun _ => ?_)
                 clear hK
                 try simp only [List.getElem_toArray, List.getElem_cons_zero, List.getElem_cons_succ, Act.put, List.setIfInBounds_toArray, List.set_cons_zero, List.set_cons_succ]
                 rotate_left)
              | (refine wpAnyH_ready (rs := [6, 14]) (by decide +kernel) (by simp) (AllReadyH.cons rfl (fun K hK => ?_) (AllReadyH.cons rfl (fun K hK => ?_) AllReadyH.nil))
                 go_simp
                 refine (OX.out _).mono ?_; rintro e W0 ⟨rfl, q5⟩
                 have hH := hH.quiet q5
                 refine hK.out _ _ hH.base (fun _ => ?_)
                 clear hK q5
                 try simp only [List.getElem_toArray, List.getElem_cons_zero, List.getElem_cons_succ, Act.put, List.setIfInBounds_toArray, List.set_cons_zero, List.set_cons_succ]
                 rotate_left
                 go_simp
                 change K _ (W0.alloc (.cells (nm false fun _ => 0) 48))
                 have hH := hH.alloc15
                 generalize W0.heap.size = g15 at hH ⊢
                 generalize W0.alloc (.cells (nm false fun _ => 0) 48) = W0 at hH ⊢
                 refine hK.out _ _ hH.base (fun _ => ?_)
                 clear hK
                 try simp only [List.getElem_toArray, List.getElem_cons_zero, List.getElem_cons_succ, Act.put, List.setIfInBounds_toArray, List.set_cons_zero, List.set_cons_succ]
                 rotate_left)
              | (refine wpAnyH_ready (rs := [7, 13, 14]) (by decide +kernel) (by simp) (AllReadyH.cons rfl (fun K hK => ?_) (AllReadyH.cons rfl (fun K hK => ?_) (AllReadyH.cons rfl (fun K hK => ?_) AllReadyH.nil)))
                 go_simp
                 refine (TI.out _).mono ?_; rintro e W0 ⟨rfl, q5⟩
                 have hH := hH.quiet q5
                 refine hK.out _ _ hH.base (fun _ => ?_)
                 clear hK q5
                 try simp only [List.getElem_toArray, List.getElem_cons_zero, List.getElem_cons_succ, Act.put, List.setIfInBounds_toArray, List.set_cons_zero, List.set_cons_succ]
                 rotate_left
                 go_simp
                 change K _ (W0.alloc (.cells (nm false fun _ => 0) 48))
                 have hH := hH.alloc14
                 generalize W0.heap.size = g14 at hH ⊢
                 generalize W0.alloc (.cells (nm false fun _ => 0) 48) = W0 at hH ⊢
                 refine hK.out _ _ hH.base (fun _ => ?_)
                 clear hK
                 try simp only [List.getElem_toArray, List.getElem_cons_zero, List.getElem_cons_succ, Act.put, List.setIfInBounds_toArray, List.set_cons_zero, List.set_cons_succ]
                 rotate_left
                 go_simp
                 change K _ (W0.alloc (.cells (nm false fun _ => 0) 48))
                 have hH := hH.alloc15
                 generalize W0.heap.size = g15 at hH ⊢
                 generalize W0.alloc (.cells (nm false fun _ => 0) 48) = W0 at hH ⊢
                 refine hK.out _ _ hH.base (fun _ => ?_)
                 clear hK
                 try simp only [List.getElem_toArray, List.getElem_cons_zero, List.getElem_cons_succ, Act.put, List.setIfInBounds_toArray, List.set_cons_zero, List.set_cons_succ]
                 rotate_left)
            all_goals first
              | (refine wpAnyH_ready (rs := [6]) (by decide +kernel) (by simp) (AllReadyH.cons rfl (fun K hK => ?_) AllReadyH.nil)
                 go_simp
                 refine (OX.out _).mono ?_; rintro e W0 ⟨rfl, q5⟩
                 have hH := hH.quiet q5
                 refine hK.out _ _ hH.base (fun _ => ?_)
                 clear hK q5
                 try simp only [List.getElem_toArray, List.getElem_cons_zero, List.getElem_cons_succ, Act.put, List.setIfInBounds_toArray, List.set_cons_zero, List.set_cons_succ])
              | (refine wpAnyH_ready (rs := [7, 13]) (by decide +kernel) (by simp) (AllReadyH.cons rfl (fun K hK => ?_) (AllReadyH.cons rfl (fun K hK => ?_) AllReadyH.nil))
                 go_simp
                 refine (TI.out _).mono ?_; rintro e W0 ⟨rfl, q5⟩
                 have hH := hH.quiet q5
                 refine hK.out _ _ hH.base (fun _ => ?_)
                 clear hK q5
                 try simp only [List.getElem_toArray, List.getElem_cons_zero, List.getElem_cons_succ, Act.put, List.setIfInBounds_toArray, List.set_cons_zero, List.set_cons_succ]
                 rotate_left
                 go_simp
                 change K _ (W0.alloc (.cells (nm false fun _ => 0) 48))
                 have hH := hH.alloc14
                 generalize W0.heap.size = g14 at hH ⊢
                 generalize W0.alloc (.cells (nm false fun _ => 0) 48) = W0 at hH ⊢
                 refine hK.out _ _ hH.base (fun _ => ?_)
                 clear hK
                 try simp only [List.getElem_toArray, List.getElem_cons_zero, List.getElem_cons_succ, Act.put, List.setIfInBounds_toArray, List.set_cons_zero, List.set_cons_succ]
                 rotate_left)
              | (refine wpAnyH_ready (rs := [7, 14]) (by decide +kernel) (by simp) (AllReadyH.cons rfl (fun K hK => ?_) (AllReadyH.cons rfl (fun K hK => ?_) AllReadyH.nil))
                 go_simp
                 refine (TI.out _).mono ?_; rintro e W0 ⟨rfl, q5⟩
                 have hH := hH.quiet q5
                 refine hK.out _ _ hH.base (fun _ => ?_)
                 clear hK q5
                 try simp only [List.getElem_toArray, List.getElem_cons_zero, List.getElem_cons_succ, Act.put, List.setIfInBounds_toArray, List.set_cons_zero, List.set_cons_succ]
                 rotate_left
                 go_simp
                 change K _ (W0.alloc (.cells (nm false fun _ => 0) 48))
                 have hH := hH.alloc15
                 generalize W0.heap.size = g15 at hH ⊢
                 generalize W0.alloc (.cells (nm false fun _ => 0) 48) = W0 at hH ⊢
                 refine hK.out _ _ hH.base (fun _ => ?_)
                 clear hK
                 try simp only [List.getElem_toArray, List.getElem_cons_zero, List.getElem_cons_succ, Act.put, List.setIfInBounds_toArray, List.set_cons_zero, List.set_cons_succ]
                 rotate_left)
              | (refine wpAnyH_ready (rs := [9, 13, 14]) (by decide +kernel) (by simp) (AllReadyH.cons rfl (fun K hK => ?_) (AllReadyH.cons rfl (fun K hK => ?_) (AllReadyH.cons rfl (fun K hK => ?_) AllReadyH.nil)))
                 go_simp
                 refine (OV.out _).mono ?_; rintro e W0 ⟨⟨u', M, rfl, hM⟩, q5⟩
                 have HF := Lib.hid hM
                 have hH := hH.quiet q5
                 have hB := hH.base
                 refine hK.out _ _ hB (fun _ => ?_)
                 clear hK q5 hM
                 try simp only [List.getElem_toArray, List.getElem_cons_zero, List.getElem_cons_succ, Act.put, List.setIfInBounds_toArray, List.set_cons_zero, List.set_cons_succ]
                 refine wpAnyH_take (i := 10) (v := .tuple #[.agg (nm u' (dgs M)), .agg (nm false (dgs (Sp.rs T (sm ws) ws j)))]) rfl (by kernel_rfl) (by kernel_rfl) (by kernel_rfl) (fun _ _ _ h => h) (.inl ⟨by rfl, ?_⟩) hB ?_
                 · intro W hW; go_simp
                 try simp only [List.getElem_toArray, List.getElem_cons_zero, List.getElem_cons_succ, Act.put, List.setIfInBounds_toArray, List.set_cons_zero, List.set_cons_succ]
                 refine wpAnyH_take (i := 11) (v := .agg (nm u' (dgs M))) rfl (by kernel_rfl) (by kernel_rfl) (by kernel_rfl) (fun _ _ _ h => h) (.inl ⟨by rfl, ?_⟩) hB ?_
                 · intro W hW; go_simp
                 try simp only [List.getElem_toArray, List.getElem_cons_zero, List.getElem_cons_succ, Act.put, List.setIfInBounds_toArray, List.set_cons_zero, List.set_cons_succ]
                 refine wpAnyH_take (i := 12) (v := .agg (nm false (dgs (Sp.rs T (sm ws) ws j)))) rfl (by kernel_rfl) (by kernel_rfl) (by kernel_rfl) (fun _ _ _ h => h) (.inl ⟨by rfl, ?_⟩) hB ?_
                 · intro W hW; go_simp
                 try simp only [List.getElem_toArray, List.getElem_cons_zero, List.getElem_cons_succ, Act.put, List.setIfInBounds_toArray, List.set_cons_zero, List.set_cons_succ]
                 clear hB
                 rotate_left
                 go_simp
                 change K _ (W0.alloc (.cells (nm false fun _ => 0) 48))
                 have hH := hH.alloc14
                 generalize W0.heap.size = g14 at hH ⊢
                 generalize W0.alloc (.cells (nm false fun _ => 0) 48) = W0 at hH ⊢
                 refine hK.out _ _ hH.base (fun _ => ?_)
                 clear hK
                 try simp only [List.getElem_toArray, List.getElem_cons_zero, List.getElem_cons_succ, Act.put, List.setIfInBounds_toArray, List.set_cons_zero, List.set_cons_succ]
                 rotate_left
                 go_simp
                 change K _ (W0.alloc (.cells (nm false fun _ => 0) 48))
                 have hH := hH.alloc15
                 generalize W0.heap.size = g15 at hH ⊢
                 generalize W0.alloc (.cells (nm false fun _ => 0) 48) = W0 at hH ⊢
                 refine hK.out _ _ hH.base (fun _ => ?_)
                 clear hK
                 try simp only [List.getElem_toArray, List.getElem_cons_zero, List.getElem_cons_succ, Act.put, List.setIfInBounds_toArray, List.set_cons_zero, List.set_cons_succ]
                 rotate_left)
            all_goals first
              | (refine wpAnyH_ready (rs := [7]) (by decide +kernel) (by simp) (AllReadyH.cons rfl (fun K hK => ?_) AllReadyH.nil)
                 go_simp
                 refine (TI.out _).mono ?_; rintro e W0 ⟨rfl, q5⟩
                 have hH := hH.quiet q5
                 refine hK.out _ _ hH.base (fun _ => ?_)
                 clear hK q5
                 try simp only [List.getElem_toArray, List.getElem_cons_zero, List.getElem_cons_succ, Act.put, List.setIfInBounds_toArray, List.set_cons_zero, List.set_cons_succ])
              | (refine wpAnyH_ready (rs := [9, 13]) (by decide +kernel) (by simp) (AllReadyH.cons rfl (fun K hK => ?_) (AllReadyH.cons rfl (fun K hK => ?_) AllReadyH.nil))
                 go_simp
                 refine (OV.out _).mono ?_; rintro e W0 ⟨⟨u', M, rfl, hM⟩, q5⟩
                 have HF := Lib.hid hM
                 have hH := hH.quiet q5
                 have hB := hH.base
                 refine hK.out _ _ hB (fun _ => ?_)
                 clear hK q5 hM
                 try simp only [List.getElem_toArray, List.getElem_cons_zero, List.getElem_cons_succ, Act.put, List.setIfInBounds_toArray, List.set_cons_zero, List.set_cons_succ]
                 refine wpAnyH_take (i := 10) (v := .tuple #[.agg (nm u' (dgs M)), .agg (nm false (dgs (Sp.rs T (sm ws) ws j)))]) rfl (by kernel_rfl) (by kernel_rfl) (by kernel_rfl) (fun _ _ _ h => h) (.inl ⟨by rfl, ?_⟩) hB ?_
                 · intro W hW; go_simp
                 try simp only [List.getElem_toArray, List.getElem_cons_zero, List.getElem_cons_succ, Act.put, List.setIfInBounds_toArray, List.set_cons_zero, List.set_cons_succ]
                 refine wpAnyH_take (i := 11) (v := .agg (nm u' (dgs M))) rfl (by kernel_rfl) (by kernel_rfl) (by kernel_rfl) (fun _ _ _ h => h) (.inl ⟨by rfl, ?_⟩) hB ?_
                 · intro W hW; go_simp
                 try simp only [List.getElem_toArray, List.getElem_cons_zero, List.getElem_cons_succ, Act.put, List.setIfInBounds_toArray, List.set_cons_zero, List.set_cons_succ]
                 refine wpAnyH_take (i := 12) (v := .agg (nm false (dgs (Sp.rs T (sm ws) ws j)))) rfl (by kernel_rfl) (by kernel_rfl) (by kernel_rfl) (fun _ _ _ h => h) (.inl ⟨by rfl, ?_⟩) hB ?_
                 · intro W hW; go_simp
                 try simp only [List.getElem_toArray, List.getElem_cons_zero, List.getElem_cons_succ, Act.put, List.setIfInBounds_toArray, List.set_cons_zero, List.set_cons_succ]
                 clear hB
                 rotate_left
                 go_simp
                 change K _ (W0.alloc (.cells (nm false fun _ => 0) 48))
                 have hH := hH.alloc14
                 generalize W0.heap.size = g14 at hH ⊢
                 generalize W0.alloc (.cells (nm false fun _ => 0) 48) = W0 at hH ⊢
                 refine hK.out _ _ hH.base (fun _ => ?_)
                 clear hK
                 try simp only [List.getElem_toArray, List.getElem_cons_zero, List.getElem_cons_succ, Act.put, List.setIfInBounds_toArray, List.set_cons_zero, List.set_cons_succ]
                 rotate_left)
              | (refine wpAnyH_ready (rs := [9, 14]) (by decide +kernel) (by simp) (AllReadyH.cons rfl (fun K hK => ?_) (AllReadyH.cons rfl (fun K hK => ?_) AllReadyH.nil))
                 go_simp
                 refine (OV.out _).mono ?_; rintro e W0 ⟨⟨u', M, rfl, hM⟩, q5⟩
                 have HF := Lib.hid hM
                 have hH := hH.quiet q5
                 have hB := hH.base
                 refine hK.out _ _ hB (fun _ => ?_)
                 clear hK q5 hM
                 try simp only [List.getElem_toArray, List.getElem_cons_zero, List.getElem_cons_succ, Act.put, List.setIfInBounds_toArray, List.set_cons_zero, List.set_cons_succ]
                 refine wpAnyH_take (i := 10) (v := .tuple #[.agg (nm u' (dgs M)), .agg (nm false (dgs (Sp.rs T (sm ws) ws j)))]) rfl (by kernel_rfl) (by kernel_rfl) (by kernel_rfl) (fun _ _ _ h => h) (.inl ⟨by rfl, ?_⟩) hB ?_
                 · intro W hW; go_simp
                 try simp only [List.getElem_toArray, List.getElem_cons_zero, List.getElem_cons_succ, Act.put, List.setIfInBounds_toArray, List.set_cons_zero, List.set_cons_succ]
                 refine wpAnyH_take (i := 11) (v := .agg (nm u' (dgs M))) rfl (by kernel_rfl) (by kernel_rfl) (by kernel_rfl) (fun _ _ _ h => h) (.inl ⟨by rfl, ?_⟩) hB ?_
                 · intro W hW; go_simp
                 try simp only [List.getElem_toArray, List.getElem_cons_zero, List.getElem_cons_succ, Act.put, List.setIfInBounds_toArray, List.set_cons_zero, List.set_cons_succ]
                 refine wpAnyH_take (i := 12) (v := .agg (nm false (dgs (Sp.rs T (sm ws) ws j)))) rfl (by kernel_rfl) (by kernel_rfl) (by kernel_rfl) (fun _ _ _ h => h) (.inl ⟨by rfl, ?_⟩) hB ?_
                 · intro W hW; go_simp
                 try simp only [List.getElem_toArray, List.getElem_cons_zero, List.getElem_cons_succ, Act.put, List.setIfInBounds_toArray, List.set_cons_zero, List.set_cons_succ]
                 clear hB
                 rotate_left
                 go_simp
                 change K _ (W0.alloc (.cells (nm false fun _ => 0) 48))
                 have hH := hH.alloc15
                 generalize W0.heap.size = g15 at hH ⊢
                 generalize W0.alloc (.cells (nm false fun _ => 0) 48) = W0 at hH ⊢
                 refine hK.out _ _ hH.base (fun _ => ?_)
                 clear hK
                 try simp only [List.getElem_toArray, List.getElem_cons_zero, List.getElem_cons_succ, Act.put, List.setIfInBounds_toArray, List.set_cons_zero, List.set_cons_succ]
                 rotate_left)
              | (refine wpAnyH_ready (rs := [13, 14]) (by decide +kernel) (by simp) (AllReadyH.cons rfl (fun K hK => ?_) (AllReadyH.cons rfl (fun K hK => ?_) AllReadyH.nil))
                 go_simp
                 change K _ (W0.alloc (.cells (nm false fun _ => 0) 48))
                 have hH := hH.alloc14
                 generalize W0.heap.size = g14 at hH ⊢
                 generalize W0.alloc (.cells (nm false fun _ => 0) 48) = W0 at hH ⊢
                 refine hK.out _ _ hH.base (fun _ => ?_)
                 clear hK
                 try simp only [List.getElem_toArray, List.getElem_cons_zero, List.getElem_cons_succ, Act.put, List.setIfInBounds_toArray, List.set_cons_zero, List.set_cons_succ]
                 rotate_left
                 go_simp
                 change K _ (W0.alloc (.cells (nm false fun _ => 0) 48))
                 have hH := hH.alloc15
                 generalize W0.heap.size = g15 at hH ⊢
                 generalize W0.alloc (.cells (nm false fun _ => 0) 48) = W0 at hH ⊢
                 refine hK.out _ _ hH.base (fun _ => ?_)
                 clear hK
                 try simp only [List.getElem_toArray, List.getElem_cons_zero, List.getElem_cons_succ, Act.put, List.setIfInBounds_toArray, List.set_cons_zero, List.set_cons_succ]
                 rotate_left)
            all_goals first
              | (refine wpAnyH_ready (rs := [9]) (by decide +kernel) (by simp) (AllReadyH.cons rfl (fun K hK => ?_) AllReadyH.nil)
                 go_simp
                 refine (OV.out _).mono ?_; rintro e W0 ⟨⟨u', M, rfl, hM⟩, q5⟩
                 have HF := Lib.hid hM
                 have hH := hH.quiet q5
                 have hB := hH.base
                 refine hK.out _ _ hB (fun _ => ?_)
                 clear hK q5 hM
                 try simp only [List.getElem_toArray, List.getElem_cons_zero, List.getElem_cons_succ, Act.put, List.setIfInBounds_toArray, List.set_cons_zero, List.set_cons_succ]
                 refine wpAnyH_take (i := 10) (v := .tuple #[.agg (nm u' (dgs M)), .agg (nm false (dgs (Sp.rs T (sm ws) ws j)))]) rfl (by kernel_rfl) (by kernel_rfl) (by kernel_rfl) (fun _ _ _ h => h) (.inl ⟨by rfl, ?_⟩) hB ?_
                 · intro W hW; go_simp
                 try simp only [List.getElem_toArray, List.getElem_cons_zero, List.getElem_cons_succ, Act.put, List.setIfInBounds_toArray, List.set_cons_zero, List.set_cons_succ]
                 refine wpAnyH_take (i := 11) (v := .agg (nm u' (dgs M))) rfl (by kernel_rfl) (by kernel_rfl) (by kernel_rfl) (fun _ _ _ h => h) (.inl ⟨by rfl, ?_⟩) hB ?_
                 · intro W hW; go_simp
                 try simp only [List.getElem_toArray, List.getElem_cons_zero, List.getElem_cons_succ, Act.put, List.setIfInBounds_toArray, List.set_cons_zero, List.set_cons_succ]
                 refine wpAnyH_take (i := 12) (v := .agg (nm false (dgs (Sp.rs T (sm ws) ws j)))) rfl (by kernel_rfl) (by kernel_rfl) (by kernel_rfl) (fun _ _ _ h => h) (.inl ⟨by rfl, ?_⟩) hB ?_
                 · intro W hW; go_simp
                 try simp only [List.getElem_toArray, List.getElem_cons_zero, List.getElem_cons_succ, Act.put, List.setIfInBounds_toArray, List.set_cons_zero, List.set_cons_succ]
                 clear hB)
              | (refine wpAnyH_ready (rs := [13]) (by decide +kernel) (by simp) (AllReadyH.cons rfl (fun K hK => ?_) AllReadyH.nil)
                 go_simp
                 change K _ (W0.alloc (.cells (nm false fun _ => 0) 48))
                 have hH := hH.alloc14
                 generalize W0.heap.size = g14 at hH ⊢
                 generalize W0.alloc (.cells (nm false fun _ => 0) 48) = W0 at hH ⊢
                 refine hK.out _ _ hH.base (fun _ => ?_)
                 clear hK
                 try simp only [List.getElem_toArray, List.getElem_cons_zero, List.getElem_cons_succ, Act.put, List.setIfInBounds_toArray, List.set_cons_zero, List.set_cons_succ])
              | (refine wpAnyH_ready (rs := [14]) (by decide +kernel) (by simp) (AllReadyH.cons rfl (fun K hK => ?_) AllReadyH.nil)
                 go_simp
                 change K _ (W0.alloc (.cells (nm false fun _ => 0) 48))
                 have hH := hH.alloc15
                 generalize W0.heap.size = g15 at hH ⊢
                 generalize W0.alloc (.cells (nm false fun _ => 0) 48) = W0 at hH ⊢
                 refine hK.out _ _ hH.base (fun _ => ?_)
                 clear hK
                 try simp only [List.getElem_toArray, List.getElem_cons_zero, List.getElem_cons_succ, Act.put, List.setIfInBounds_toArray, List.set_cons_zero, List.set_cons_succ])
            all_goals
              refine wpAnyH_ready (rs := [15]) (by kernel_rfl) (by simp) (AllReadyH.cons rfl (fun K hK => ?_) AllReadyH.nil)
              rw [if_pos (by rfl)]
              refine wp_store_row 48 (.tmp 14) (.tmp 70) rfl g14 (nm u' (dgs M)) rfl rfl 48 _ (hH.r14 g14 rfl).1 (by kernel_rfl) rfl (nm_one _ _) ?_
              have hS := hH.stored (nm u' (dgs M)) (nm false (dgs (Sp.rs T (sm ws) ws j)))
              refine hK.out _ _ hS.1 (fun _ => ?_)
              clear hK
              try simp only [List.getElem_toArray, List.getElem_cons_zero, List.getElem_cons_succ, Act.put]
              refine wpAnyH_ready (rs := [16]) (by kernel_rfl) (by simp) (AllReadyH.cons rfl (fun K hK => ?_) AllReadyH.nil)
              rw [if_pos (by rfl)]
              refine wp_store_row 48 (.tmp 15) (.tmp 71) rfl g15 (nm false (dgs (Sp.rs T (sm ws) ws j))) rfl rfl 48 _ hS.2.1 (by kernel_rfl) rfl (nm_one _ _) ?_
              refine hK.out _ _ hS.2.2.1 (fun _ => ?_)
              clear hK
              refine wpAnyH_done (by kernel_rfl) ?_ _
              simp only [List.getElem_toArray, List.getElem_cons_zero, List.getElem_cons_succ, Act.put]
              have HS2 := Lib.hid hS
              clear hS hH
              go_wp2_with fail
              go_meet
              case rel => exact ⟨g14, g15, u', M, rfl, rfl, HS2.out.2.2.2.1, HF.out.1, HF.out.2.1, HF.out.2.2, HS2.out.2.2.2.2, HS2.out.2.2.1⟩
        case rest =>
          obtain ⟨g14, g15, u', M, rfl, rfl, r14, m0, m1, mx, r15, L⟩ := hcut
          have hsj := AL.out.1.sh j
          have hlf := AL.out.1.left (k := j + 1) (by have := HL.out; omega)
          simp only [Sp.su] at hlf
          have hs0 := Sp.su_nonneg (f := Sp.sh T (sm ws) ws) (n := j) fun t _ => (AL.out.1.sh t).1
          have IJ := Lib.hid (fun W => int_any u' M m0 m1 W)
          rw [mx, tN_in (by unfold I64; omega), tO_in (by unfold I64; omega)] at IJ
          obtain ⟨i0, hi0, hz0, hz1, hz2⟩ := info_parts info_int
          obtain ⟨i1, hi1, hy0, hy1, hy2⟩ := info_parts info_num
          have R14 := Lib.hid r14
          have R15 := Lib.hid r15
          have L1 := Lib.hid L
          clear r14 r15 L m0 m1 mx
          go_wp2_with (first
            | ((with_reducible refine wl_load_nm g14 u' (dgs M) ?_ ?_ ?_); rfl; exact R14.out)
            | (go_at_call 21; refine (IJ.out _).mono ?_; rintro e w5 ⟨rfl, q5⟩; have L5 := Lib.hid ((L1.out.below q5.2).below ((Below.refl _ _).alloc (Nat.le_refl _) (.cells #[.int .i64 (Sp.sh T (sm ws) ws j)] 2))); have R5 := Lib.hid ((R15.out.below q5.2 R15.out.lt).alloc (.cells #[.int .i64 (Sp.sh T (sm ws) ws j)] 2)); clear q5)
            | (at_builtin; refine wpList_append_lies _ rfl (.tmp 77) (.tmp 79) 38 rfl B 2 i0 (.int .i64 0) 1 8 Try.underlying38 hi0 hz0 hz1 hz2 rfl (by decide) u10 j (il (Sp.sh T (sm ws) ws) j) rfl L5.out.o1 ⟨w5.heap.size, 0, none⟩ 1 1 [.int .i64 (Sp.sh T (sm ws) ws j)] rfl rfl (World.news_of_block (cs := #[.int .i64 (Sp.sh T (sm ws) ws j)]) (heap_alloc_new w5 _)) (by simp [Value.oneCell']) (by decide) (by unfold maxLen; omega) (by omega) L5.out.h8 _ rfl ?_; intro gp cp w6 hown6 hgrow6 _ _; have P6 := Lib.hid (L5.out.part2 R5.out hown6 hgrow6); clear hown6 hgrow6)
            | ((with_reducible refine wl_load_nm g15 false (dgs (Sp.rs T (sm ws) ws j)) ?_ ?_ ?_); rfl; exact P6.out.2)
            | ((with_reducible refine wl_bs_nm false (dgs (Sp.rs T (sm ws) ws j)) ?_ ?_); rfl)
            | (at_builtin; refine wpList_append_lies _ rfl (.tmp 81) (.tmp 83) 52 rfl B 48 i1 (.agg (nm false fun _ => 0)) 13 104 Try.underlying52 hi1 hy0 hy1 hy2 rfl (by decide) u11 j (nl (Sp.rs T (sm ws) ws) j) rfl (P6.out.1.2.1.alloc _) ⟨w6.heap.size, 0, none⟩ 1 1 (nm false (dgs (Sp.rs T (sm ws) ws j))).toList rfl rfl (World.news_of_block (heap_alloc_new w6 _)) (by simp [nm, Value.oneCell']) (by decide) (by unfold maxLen; omega) (by omega) (Nat.le_trans P6.out.1.2.2.2.1 (by simp)) _ rfl ?_; intro gq cq w7 hown7 hgrow7 _ _; have L7 := Lib.hid (L2.rest (P6.out.1.1.alloc _) (P6.out.1.2.1.alloc _) (P6.out.1.2.2.1.alloc _) KL.out.h7 KL.out.hb (Nat.le_trans P6.out.1.2.2.2.1 (by simp)) (P6.out.1.2.2.2.2.alloc (Nat.le_trans KL.out.hb P6.out.1.2.2.2.1) _) rfl hown7 hgrow7); clear hown7 hgrow7))
          go_roundw
          case rel => exact ⟨j + 1, by omega, by go_num, by simp only [Sp.su]; congr 1; omega, L7.out⟩
          case measure => simp [intOf]; omega
      · obtain rfl : j = k := by omega
        have hle := AL.out.1.left (k := j) (by have := HL.out; omega)
        obtain ⟨gp, cp, gq, cq, rfl, rfl, K⟩ := KL.out.to3 hn0
        have K1 := Lib.hid K
        have R7 := Lib.hid (show Row wr g7 48 (nm false (dgs N)) from KL.out.r7)
        clear K
        go_wp2_with (first
          | ((with_reducible refine wl_load_nm_g g7 false (dgs N) ?_ ?_ ?_ ?_); rfl; rfl; exact R7.out)
          | (go_at_call 22; refine (ZZ.out _).mono ?_; rintro e w3 ⟨rfl, q3⟩; have K3 := Lib.hid (K1.out.below q3.2); clear q3))
        have hS0 := Sp.su_nonneg (f := Sp.sh T (sm ws) ws) (n := j) fun t _ => (AL.out.1.sh t).1
        obtain ⟨S, hS⟩ : ∃ S, Sp.su (Sp.sh T (sm ws) ws) j = S := ⟨_, rfl⟩
        rw [hS] at hle hS0
        rw [hS]
        have HSS := Lib.hid (show Sp.su (Sp.sh T (sm ws) ws) ws.length = S by rw [HL.out]; exact hS)
        clear hS KL K1 R7 ZZ K0
        go_loopw [12] (fun l wr => ∃ i : Nat, (i : Int) ≤ T - S ∧ l = .int .i64 (T - S - i) ∧ L3 w j gp gq (Sp.pj T (sm ws) ws g i) (Sp.rj T (sm ws) ws g i) wr) (fun l _ => (intOf l).toNat)
        case atStart => exact ⟨0, by omega, by simp, K3.out.cast (fun t _ => (pj_zero t).symm) (fun t _ => (rj_zero t).symm)⟩
        case round =>
          obtain ⟨i, hi, rfl, K⟩ := hrel
          have K4 := Lib.hid K
          clear K
          by_cases hli : (i : Int) < T - S
          case neg =>
            have hi2 : (T - S).toNat = i := by omega
            have HI := Lib.hid hi2
            clear hi2
            go_wp2
            go_ret2
            refine ⟨some ⟨gp, 0, none⟩, cp, rfl, ⟨by rw [pt_len]; exact HL.out, fun _ => ⟨gp, 0, rfl, fun t ht => ?_⟩⟩, K4.out.q, fun a e => by cases e; exact K4.out.hp⟩
            rw [Nat.zero_add, K4.out.pc t ht, pt_getD (by rw [HL.out]; exact ht)]
            unfold pv Sp.pj
            rw [HSS.out, HI.out]
          case pos =>
            go_wp2_with fail
            go_loopw [18, 19] (fun a x wr2 => ∃ q t : Nat, a = .int .i64 q ∧ x = .int .i64 t ∧ t ≤ j ∧ Sp.Fg (Sp.rj T (sm ws) ws g i) t q ∧ L3 w j gp gq (Sp.pj T (sm ws) ws g i) (Sp.rj T (sm ws) ws g i) wr2) (fun _ x _ => j - (intOf x).toNat)
            case atStart => exact ⟨0, 1, rfl, rfl, hn0, Sp.Fg.start _, K4.out⟩
            case round =>
              obtain ⟨q, t, rfl, rfl, ht, hF, K⟩ := hrel
              have HF := Lib.hid hF
              have K5 := Lib.hid K
              have hqt := hF.1
              clear hF K
              by_cases htj : t < j
              case neg =>
                obtain rfl : t = j := by omega
                obtain ⟨p, hp, hgp, _, h0, hsh, hmax⟩ := AL.out.next (show (i : Int) < T - Sp.su (Sp.sh T (sm ws) ws) ws.length by rw [HSS.out]; exact hli)
                rw [HL.out] at hp hmax
                obtain rfl : q = p := HF.out.one hp hmax
                have hP : -9223372036854775808 ≤ Sp.pj T (sm ws) ws g i q + 1 ∧ Sp.pj T (sm ws) ws g i q + 1 ≤ 9223372036854775807 := by
                  have := (AL.out.1.sh q).1
                  unfold Sp.pj; rw [h0]; omega
                have hpc := K5.out.pc q hp
                have hpf := K5.out.pf q hp
                have EP := Lib.hid (fun t => pj_succ (T := T) (ws := ws) hgp t)
                have ER := Lib.hid (fun t => rj_succ (T := T) (ws := ws) hgp h0 t)
                obtain ⟨P, hPe⟩ : ∃ P, Sp.pj T (sm ws) ws g i q = P := ⟨_, rfl⟩
                rw [hPe] at hP hpc
                have K6 := Lib.hid (K5.out.raise hp (P + 1))
                rw [hPe] at EP
                clear hgp h0 hsh hmax hPe
                go_wp2_with (first
                  | (go_at_call 23; refine (of_zero _).mono ?_; rintro e w5 ⟨rfl, q5⟩; have K8 := Lib.hid (K6.out.below q5.2); clear q5)
                  | ((with_reducible refine wl_store_nm_mid gq (q * 13) false (dgs 0) ?_ ?_ ?_ ?_); rfl; rfl; exact K8.out.qt q hp))
                go_roundw
                case rel => exact ⟨i + 1, by omega, by go_num, (K8.out.clear hp).cast (fun t _ => (EP.out t).symm) (fun t _ => (ER.out t).symm)⟩
                case measure => simp [intOf]; omega
              case pos =>
              have hqj : q < j := by omega
              have b1 := rj_bd AL.out i q
              have b2 := rj_bd AL.out i t
              have hT12 := T12
              have LS := Lib.hid (fun W => less_any (Sp.rj T (sm ws) ws g i q) (Sp.rj T (sm ws) ws g i t) b1.1 b2.1 (by omega) (by omega) W)
              clear b1 b2 hT12
              cases hl : ltB (Sp.rj T (sm ws) ws g i q) (Sp.rj T (sm ws) ws g i t)
              all_goals
                rw [hl] at LS
                go_wp2_with fail
                refine wp_region_held_drew (S := L3 w j gp gq (Sp.pj T (sm ws) ws g i) (Sp.rj T (sm ws) ws g i)) (by kernel_rfl) (K5.out.below (Below.refl _ _).drew) (fun hH => ?_)
                refine wpAnyH_take (i := 0) (v := .slice (some ⟨gq, 0, none⟩) j cq) rfl (by kernel_rfl) (by kernel_rfl) (by kernel_rfl) (fun _ _ _ h => h) (.inl ⟨by rfl, ?_⟩) (by assumption) ?_
                · intro W hW; go_simp
                try simp only [List.getElem_toArray, List.getElem_cons_zero, Act.put, List.setIfInBounds_toArray, List.set_cons_zero, List.set_cons_succ]
                refine wpAnyH_take (i := 1) (v := .int .i64 q) rfl (by kernel_rfl) (by kernel_rfl) (by kernel_rfl) (fun _ _ _ h => h) (.inl ⟨by rfl, ?_⟩) (by assumption) ?_
                · intro W hW; go_simp
                try simp only [List.getElem_toArray, List.getElem_cons_zero, List.getElem_cons_succ, Act.put, List.setIfInBounds_toArray, List.set_cons_zero, List.set_cons_succ]
                refine wpAnyH_take (i := 2) (v := .pointer (some ⟨gq, q * 13, none⟩)) rfl (by kernel_rfl) (by kernel_rfl) (by kernel_rfl) (fun _ _ _ h => h) (.inl ⟨by rfl, ?_⟩) (by assumption) ?_
                · intro W hW; go_simp
                try simp only [List.getElem_toArray, List.getElem_cons_zero, List.getElem_cons_succ, Act.put, List.setIfInBounds_toArray, List.set_cons_zero, List.set_cons_succ]
                refine wpAnyH_take (i := 3) (v := .pointer (some ⟨gq, q * 13 + 1, none⟩)) rfl (by kernel_rfl) (by kernel_rfl) (by kernel_rfl) (fun _ _ _ h => h) (.inl ⟨by rfl, ?_⟩) (by assumption) ?_
                · intro W hW; go_simp
                try simp only [List.getElem_toArray, List.getElem_cons_zero, List.getElem_cons_succ, Act.put, List.setIfInBounds_toArray, List.set_cons_zero, List.set_cons_succ]
                refine wpAnyH_take (i := 4) (v := .agg (ar (dgs (Sp.rj T (sm ws) ws g i q)))) rfl (by kernel_rfl) (by kernel_rfl) (by kernel_rfl) (fun _ _ _ h => h) (yields_ar (by rfl) (.tmp 105) rfl gq (q * 13 + 1) rfl (dgs (Sp.rj T (sm ws) ws g i q)) (fun W hW => hW.digits (by assumption))) (by assumption) ?_
                try simp only [List.getElem_toArray, List.getElem_cons_zero, List.getElem_cons_succ, Act.put, List.setIfInBounds_toArray, List.set_cons_zero, List.set_cons_succ]
                refine wpAnyH_take (i := 5) (v := .slice (some ⟨gq, 0, none⟩) j cq) rfl (by kernel_rfl) (by kernel_rfl) (by kernel_rfl) (fun _ _ _ h => h) (.inl ⟨by rfl, ?_⟩) (by assumption) ?_
                · intro W hW; go_simp
                try simp only [List.getElem_toArray, List.getElem_cons_zero, List.getElem_cons_succ, Act.put, List.setIfInBounds_toArray, List.set_cons_zero, List.set_cons_succ]
                refine wpAnyH_take (i := 6) (v := .int .i64 t) rfl (by kernel_rfl) (by kernel_rfl) (by kernel_rfl) (fun _ _ _ h => h) (.inl ⟨by rfl, ?_⟩) (by assumption) ?_
                · intro W hW; go_simp
                try simp only [List.getElem_toArray, List.getElem_cons_zero, List.getElem_cons_succ, Act.put, List.setIfInBounds_toArray, List.set_cons_zero, List.set_cons_succ]
                refine wpAnyH_take (i := 7) (v := .pointer (some ⟨gq, t * 13, none⟩)) rfl (by kernel_rfl) (by kernel_rfl) (by kernel_rfl) (fun _ _ _ h => h) (.inl ⟨by rfl, ?_⟩) (by assumption) ?_
                · intro W hW; go_simp
                try simp only [List.getElem_toArray, List.getElem_cons_zero, List.getElem_cons_succ, Act.put, List.setIfInBounds_toArray, List.set_cons_zero, List.set_cons_succ]
                refine wpAnyH_take (i := 8) (v := .pointer (some ⟨gq, t * 13 + 1, none⟩)) rfl (by kernel_rfl) (by kernel_rfl) (by kernel_rfl) (fun _ _ _ h => h) (.inl ⟨by rfl, ?_⟩) (by assumption) ?_
                · intro W hW; go_simp
                try simp only [List.getElem_toArray, List.getElem_cons_zero, List.getElem_cons_succ, Act.put, List.setIfInBounds_toArray, List.set_cons_zero, List.set_cons_succ]
                refine wpAnyH_take (i := 9) (v := .agg (ar (dgs (Sp.rj T (sm ws) ws g i t)))) rfl (by kernel_rfl) (by kernel_rfl) (by kernel_rfl) (fun _ _ _ h => h) (yields_ar (by rfl) (.tmp 110) rfl gq (t * 13 + 1) rfl (dgs (Sp.rj T (sm ws) ws g i t)) (fun W hW => hW.digits (by assumption))) (by assumption) ?_
                try simp only [List.getElem_toArray, List.getElem_cons_zero, List.getElem_cons_succ, Act.put, List.setIfInBounds_toArray, List.set_cons_zero, List.set_cons_succ]
                refine wpAnyH_ready (rs := [10]) (by decide +kernel) (by simp) (AllReadyH.cons rfl (fun K hK => ?_) AllReadyH.nil)
                go_simp
                refine (LS.out _).mono ?_; rintro e w4 ⟨rfl, q4⟩
                have K6 := hH.below q4.2
                refine hK.out _ _ K6 (fun _ => ?_)
                clear hK
                refine wpAnyH_done (by decide +kernel) ?_ _
                have K7 := Lib.hid K6
                clear K6 hH q4
                go_wp2_with fail
              · go_roundw
                case rel => exact ⟨q, t + 1, rfl, by go_num, htj, HF.out.less (of_decide_eq_false hl), K7.out⟩
                case measure => simp [intOf]; omega
              · go_roundw
                case rel => exact ⟨t, t + 1, rfl, by go_num, htj, HF.out.more (of_decide_eq_true hl), K7.out⟩
                case measure => simp [intOf]; omega
end Go.Proofs.Ytpfhkmppbochnaa
