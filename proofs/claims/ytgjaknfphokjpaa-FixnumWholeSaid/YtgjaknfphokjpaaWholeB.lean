/- The walk of the statement FixnumWhole: it returns true for every total and every list of weights, and leaves the memory that was there as it was. -/
import Derived.Test.YtgjaknfphokjpaaWhole
import Derived.Deep.Cut
import Derived.Deep.CutRange
import Derived.Deep.LoopGhost
import Derived.Deep.Light
namespace Go.Proofs.Ytgjaknfphokjpaa
open Go.RowKit Go.Sort

/-- What the statement asks of the parts. -/
def Wf (T : Int) (ws zs : List Int) : Prop := (∀ t, t < ws.length → 0 ≤ zs.getD t 0 ∧ (ws.getD t 0 = 0 → zs.getD t 0 = 0) ∧ (T ≤ sm ws → zs.getD t 0 ≤ ws.getD t 0)) ∧
  ∀ s t, s < t → t < ws.length → (ws.getD s 0 < ws.getD t 0 → zs.getD s 0 ≤ zs.getD t 0) ∧ (ws.getD t 0 < ws.getD s 0 → zs.getD t 0 ≤ zs.getD s 0) ∧ (ws.getD s 0 = ws.getD t 0 → zs.getD t 0 ≤ zs.getD s 0 ∧ zs.getD s 0 ≤ zs.getD t 0 + 1) ∧
    zs.getD s 0 + zs.getD t 0 ≤ T
theorem rep_getD (n t : Nat) : (List.replicate n (0 : Int)).getD t 0 = 0 := by
  by_cases h : t < n
  · simp [List.getD, h]
  · simp [List.getD, h]
theorem sm_rep : ∀ n, sm (List.replicate n 0) = 0
  | 0 => rfl
  | n + 1 => by simp only [List.replicate, sm]; rw [sm_rep n]; rfl
theorem whole_facts {T : Int} {ws : List Int} {b : Bool} {g : Nat → Int} (h0 : se T ws b = 0) (hb : b = true ↔ Ng ws) (h : 0 < T → Sp.Ok T (sm ws) ws ∧ St.Rn (Sp.ky T (sm ws) ws) g 0 ws.length) :
    0 ≤ T ∧ tE (sm ws) = 0 ∧ sm (pt T ws g) = T ∧ Wf T ws (pt T ws g) := by
  unfold se at h0
  have h1 : ¬ 1000 < ws.length := fun c => by rw [if_pos c] at h0; cases h0
  rw [if_neg h1] at h0
  have h2 : ¬ T < 0 := fun c => by rw [if_pos c] at h0; cases h0
  rw [if_neg h2] at h0
  have h3 : b = false := by
    cases b
    · rfl
    · rw [if_pos rfl] at h0; cases h0
  subst h3
  rw [if_neg (by simp)] at h0
  have h4 : tE (sm ws) = 0 := by
    refine Classical.byContradiction fun c => ?_
    rw [if_neg c] at h0; cases h0
  have hpos : ∀ t, t < ws.length → 0 ≤ ws.getD t 0 := fun t ht => by
    refine Classical.byContradiction fun c => ?_
    have := hb.2 ⟨t, ht, by omega⟩
    cases this
  refine ⟨by omega, h4, ?_⟩
  rcases Int.lt_or_eq_of_le (show 0 ≤ T by omega) with hT | hT
  · have a : Al2 T ws g := h hT
    refine ⟨a.sum, fun t ht => ?_, fun s t hst ht => ?_⟩
    · rw [pt_getD ht]
      exact ⟨a.nonneg ht, fun c => a.none ht c, fun c => a.most ht c⟩
    · have hs : s < ws.length := by omega
      rw [pt_getD ht, pt_getD hs]
      refine ⟨fun c => a.mono hs ht c, fun c => a.mono ht hs c, fun c => a.same hst ht c, ?_⟩
      have e := Sp.sm_su (pt T ws g) ws.length (by rw [pt_len]; exact Nat.le_refl _)
      rw [List.take_of_length_le (by rw [pt_len]; exact Nat.le_refl _), a.sum] at e
      have k1 : ∀ s, 0 ≤ (pt T ws g).getD s 0 := fun s => by
        by_cases c : s < ws.length
        · rw [pt_getD c]; exact a.nonneg c
        · have : (pt T ws g).getD s 0 = 0 := by simp [List.getD, pt_len, Nat.le_of_not_lt c]
          omega
      have k2 := Sp.su_mono (f := fun s => (pt T ws g).getD s 0) (n := ws.length) (k := t + 1) (fun s _ => k1 s) ht
      have k3 := Sp.su_ge k1 hst
      simp only [Sp.su] at k2
      rw [pt_getD ht] at k2
      rw [pt_getD hs] at k3
      omega
  · subst hT
    rw [pt_zero]
    refine ⟨sm_rep _, fun t ht => ?_, fun s t hst ht => ?_⟩
    · rw [rep_getD]
      exact ⟨Int.le_refl _, fun _ => rfl, fun _ => hpos t ht⟩
    · rw [rep_getD, rep_getD]
      exact ⟨fun _ => Int.le_refl _, fun _ => Int.le_refl _, fun _ => ⟨Int.le_refl _, by omega⟩, by omega⟩

set_option maxRecDepth 100000 in
set_option maxHeartbeats 4000000 in
theorem whole_walk (A : Option Addr) (n c : Nat) (ws : List Int) (T : Int) (w : World) (h : Rd w A n ws) (hr : ∀ n, n ∈ ws → I64 n) (hT : I64 T) (hn : n ≤ 200) (b : Bool) (hb : b = true ↔ Ng ws) :
    Calls Try.prog 10 #[.int .i64 T, .slice A n c] w fun e w' => e = .returned (.bool true) ∧ Below w.heap.size w w' := by
  have hl := h.1
  have H := Lib.hid h
  have HR := Lib.hid hr
  have HT := Lib.hid hT
  have HBB := Lib.hid hb
  have S1 := Lib.hid (split_any A n c ws T w h hr hT (by omega) b hb)
  have S2 := Lib.hid fun W R => fsum_any A n c ws W R (by omega) hr
  clear h hr hT hb
  go_enter Try.func10, Try.ntmps10
  go_wp2_with fail
  refine S1.out.mono ?_; rintro e w1 ⟨g, k1, ⟨A1, n1, zs, rfl, r1, p1, q1⟩, u1⟩
  have U1 := Lib.hid u1
  by_cases h0 : se T ws b = 0
  case neg =>
    obtain ⟨rfl, rfl⟩ := q1 h0
    obtain rfl : 0 = n1 := r1.1
    obtain ⟨er, her⟩ : ∃ er, se T ws b = er := ⟨_, rfl⟩
    rw [her] at h0
    rw [her]
    clear k1 p1 q1 r1 her u1 S1 S2
    go_wp2_with fail
    refine (known_any _).mono ?_; rintro e w2 ⟨rfl, q5⟩
    go_wp2_with fail
    go_ret
    exact ⟨rfl, U1.out.2.trans (q5.2.mono U1.out.2.size)⟩
  case pos =>
  have hzs := p1 h0
  obtain ⟨f1, f2, f3, f4⟩ := whole_facts h0 HBB.out (k1 h0)
  rw [← hzs] at f3 f4
  have hnn : n1 = n := by rw [← r1.1, hzs, pt_len]; exact hl
  subst hnn
  have hS : I64 (sm ws) := by
    unfold tE at f2
    unfold I64
    split at f2
    · assumption
    · cases f2
  have hi : ∀ n, n ∈ zs → I64 n := fun z hz => by
    obtain ⟨t, t1, rfl⟩ := List.getElem_of_mem hz
    have t2 : t < ws.length := by rw [hl, ← r1.1]; exact t1
    have e1 := (f4.1 t t2).1
    have e : zs.getD t 0 = zs[t] := by simp [List.getD, t1]
    rw [e] at e1
    have e2 := Sp.sm_su zs zs.length (Nat.le_refl _)
    rw [List.take_length, f3] at e2
    have k1 : ∀ s, 0 ≤ zs.getD s 0 := fun s => by
      by_cases c : s < ws.length
      · exact (f4.1 s c).1
      · have : zs.getD s 0 = 0 := by simp [List.getD, show zs.length ≤ s by rw [r1.1, ← hl]; omega]
        omega
    have e3 := Sp.su_ge k1 t1
    rw [e] at e3
    have := HT.out
    unfold I64 at this ⊢
    omega
  have S3 := Lib.hid (fsum_any A1 n1 n1 zs w1 r1 (by omega) hi)
  have S4 := Lib.hid (S2.out w1 (H.out.below U1.out.2))
  rw [f3, tN_in HT.out, tE_in HT.out] at S3
  rw [tN_in hS, f2] at S4
  have WF := Lib.hid f4
  have RW := Lib.hid (H.out.below U1.out.2)
  have RZ := Lib.hid r1
  have HT2 : Hid (T ≤ 9223372036854775807) := Lib.hid (by have := HT.out; unfold I64 at this; omega)
  obtain ⟨S, hSS⟩ : ∃ S, sm ws = S := ⟨_, rfl⟩
  rw [hSS] at S4
  rw [h0]
  have HS := Lib.hid hSS
  clear k1 p1 q1 r1 u1 S1 S2 h0 hzs f2 f3 f4 hS hi hSS HT H
  go_wp2_with fail
  refine S3.out.mono ?_; rintro e w2 ⟨rfl, rfl⟩
  go_wp2_with fail
  refine S4.out.mono ?_; rintro e w2 ⟨rfl, rfl⟩
  go_wp2_with fail
  clear S3 S4 HR HBB
  go_loopg [61] n1 (fun gh i wr => ∃ k m : Nat, k + gh = n1 ∧ i = .int .i64 k ∧ wr = w1.drewN m)
  case atStart => exact ⟨0, 0, by omega, rfl, rfl⟩
  case round =>
    obtain ⟨k, m, hk, rfl, rfl⟩ := hrel
    by_cases hlt : k < n1
    case neg =>
      go_wp2_with fail
      refine (known_any _).mono ?_; rintro e w5 ⟨rfl, q5⟩
      go_wp2_with fail
      go_ret
      exact ⟨rfl, (below_drewN U1.out.2 m).trans (q5.2.mono (below_drewN U1.out.2 m).size)⟩
    case pos =>
    obtain ⟨b1, o1, rfl, d1⟩ := RZ.out.2 (by omega)
    obtain ⟨b2, o2, rfl, d2⟩ := RW.out.2 (by omega)
    have D1 := Lib.hid d1
    have D2 := Lib.hid d2
    have e1 := d1 k hlt
    have e2 := d2 k hlt
    have hf := WF.out.1 k (by rw [hl]; exact hlt)
    rw [HS.out] at hf
    have PF := Lib.hid (fun j (hj : j < k) => WF.out.2 j k hj (by rw [hl]; exact hlt))
    obtain ⟨vi, hvi⟩ : ∃ v, zs.getD k 0 = v := ⟨_, rfl⟩
    obtain ⟨wi, hwi⟩ : ∃ v, ws.getD k 0 = v := ⟨_, rfl⟩
    rw [hvi, hwi] at hf
    rw [hvi] at e1
    rw [hwi] at e2
    rw [hvi, hwi] at PF
    have hv0 : ¬ vi < 0 := by omega
    have HVI := Lib.hid hvi
    have HWI := Lib.hid hwi
    clear d1 d2 hvi hwi
    have HF := Lib.hid hf
    clear hf
    have hvs : ∀ j, j < k → zs.getD j 0 + vi ≤ 9223372036854775807 := fun j hj => by
      have h1 := (PF.out j hj).2.2.2
      have h2 := HT2.out
      omega
    have HVS := Lib.hid hvs
    clear hvs
    have HV : Hid (0 ≤ vi) := Lib.hid (by omega)
    have hv1 : decide (vi < 0) = false := decide_eq_false hv0
    clear hv0
    go_upto_region 13 with fail
    go_cut [61, 98] from 61 to 183 (fun x y wx => x = .int .i64 k ∧ y = .bool false ∧ ∃ m, wx = w1.drewN m)
    case first =>
      by_cases t1 : wi = 0 <;> by_cases t2 : T ≤ S
      · as_aux_lemma =>
          have hq3 := HF.out.2.1 t1
          have hq4 : decide (wi < vi) = false := decide_eq_false (by have := HF.out.2.2 t2; omega)
          go_quiet (fail)
          go_wp2_with fail
          go_meet
          case rel => exact ⟨rfl, rfl, _, World.drewN_drewN _ _ _⟩
      · as_aux_lemma =>
          have hq3 := HF.out.2.1 t1
          have t3 : decide (T ≤ S) = false := decide_eq_false t2
          clear t2
          go_quiet (fail)
          go_wp2_with fail
          go_meet
          case rel => exact ⟨rfl, rfl, _, World.drewN_drewN _ _ _⟩
      · as_aux_lemma =>
          have hq4 : decide (wi < vi) = false := decide_eq_false (by have := HF.out.2.2 t2; omega)
          have hq7 : decide (wi = 0) = false := decide_eq_false t1
          have hq8 : (wi == 0) = false := by simpa using t1
          clear t1
          go_quiet (fail)
          go_wp2_with fail
          go_meet
          case rel => exact ⟨rfl, rfl, _, World.drewN_drewN _ _ _⟩
      · as_aux_lemma =>
          have t3 : decide (T ≤ S) = false := decide_eq_false t2
          have hq7 : decide (wi = 0) = false := decide_eq_false t1
          have hq8 : (wi == 0) = false := by simpa using t1
          clear t1 t2
          go_quiet (fail)
          go_wp2_with fail
          go_meet
          case rel => exact ⟨rfl, rfl, _, World.drewN_drewN _ _ _⟩
    case rest =>
    obtain ⟨rfl, rfl, m3, rfl⟩ := hcut
    clear hv1 e1 e2
    go_wp2
    go_loopw [103] (fun x wr2 => ∃ j m4 : Nat, j ≤ k ∧ x = .int .i64 j ∧ wr2 = w1.drewN m4) (fun x _ => k - (intOf x).toNat)
    case atStart => exact ⟨0, m3, Nat.zero_le _, rfl, rfl⟩
    case round =>
      obtain ⟨j, m4, hj, rfl, rfl⟩ := hrel
      by_cases hjk : j < k
      case neg =>
        obtain rfl : j = k := by omega
        go_wp2
        go_roundg (gk - 1)
        case measure => omega
        case rel => exact ⟨j + 1, _, by omega, by go_num, rfl⟩
      case pos =>
      have e1 := D1.out j (by omega)
      have e2 := D2.out j (by omega)
      have e3 := D1.out k hlt
      have e4 := D2.out k hlt
      have pf := PF.out j hjk
      have hvs := HVS.out j hjk
      obtain ⟨vk, hvk⟩ : ∃ v, zs.getD j 0 = v := ⟨_, rfl⟩
      obtain ⟨wk, hwk⟩ : ∃ v, ws.getD j 0 = v := ⟨_, rfl⟩
      rw [hvk, hwk] at pf
      rw [hvk] at e1 hvs
      rw [hwk] at e2
      rw [HVI.out] at e3
      rw [HWI.out] at e4
      clear hvk hwk
      rcases Int.lt_trichotomy wk wi with t | t | t
      · as_aux_lemma =>
          have g1 : decide (vi < vk) = false := decide_eq_false (by have := pf.1 t; omega)
          have g2 : decide (wi < wk) = false := decide_eq_false (by omega)
          have g3 : decide (wi = wk) = false := decide_eq_false (by omega)
          have g4 : (wi == wk) = false := by simp; omega
          clear pf hvs
          go_wp2
          dsimp only [List.append]
          go_quiet (fail)
          go_wp2
          go_roundw
          case rel => exact ⟨j + 1, _, hjk, by go_num, rfl⟩
          case measure => simp [intOf]; omega
      · as_aux_lemma =>
          have g1 : decide (wk < wi) = false := decide_eq_false (by omega)
          have g2 : decide (wi < wk) = false := decide_eq_false (by omega)
          have g5 := pf.2.2.1 t
          have g6 : decide (vk < vi) = false := decide_eq_false (by omega)
          have g7 : decide (vi + 1 < vk) = false := decide_eq_false (by omega)
          have g8 : wi = wk := t.symm
          have g9 : -9223372036854775808 ≤ vi + 1 ∧ vi + 1 ≤ 9223372036854775807 := by have := HV.out; omega
          clear pf hvs t g5
          go_wp2
          dsimp only [List.append]
          go_quiet (fail)
          go_wp2
          go_roundw
          case rel => exact ⟨j + 1, _, hjk, by go_num, rfl⟩
          case measure => simp [intOf]; omega
      · as_aux_lemma =>
          have g1 : decide (wk < wi) = false := decide_eq_false (by omega)
          have g2 : decide (vk < vi) = false := decide_eq_false (by have := pf.2.1 t; omega)
          have g3 : decide (wi = wk) = false := decide_eq_false (by omega)
          have g4 : (wi == wk) = false := by simp; omega
          clear pf hvs
          go_wp2
          dsimp only [List.append]
          go_quiet (fail)
          go_wp2
          go_roundw
          case rel => exact ⟨j + 1, _, hjk, by go_num, rfl⟩
          case measure => simp [intOf]; omega
end Go.Proofs.Ytgjaknfphokjpaa
