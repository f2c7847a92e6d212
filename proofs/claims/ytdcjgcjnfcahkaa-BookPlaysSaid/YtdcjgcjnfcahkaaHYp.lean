/- The walk of the statement BookPlays, given the program's book. -/
import Derived.Test.YtdcjgcjnfcahkaaHYs
namespace Go.Proofs.Ytdcjgcjnfcahkaa
open Go.RowKit Go.Shelf
set_option linter.unusedVariables false
set_option linter.unusedSimpArgs false

set_option maxRecDepth 100000 in
set_option maxHeartbeats 2000000 in
theorem plays7_out {Pb : PbT} (K : BookK Pb) (A : Option Addr) (n c : Nat) (w : World) (hn : 250 < n) (hm : n ≤ 9223372036854775807) :
    Calls Try.prog 3 #[.slice A n c] w fun e w' => e = .returned (.bool true) ∧ Below w.heap.size w w' := by
  have KN := Lib.hid (fun W => known7_any K W)
  have NW := Lib.hid (fun W => K.new W)
  have hd : decide (250 < (n : Int)) = true := decide_eq_true (by omega)
  clear K
  go_enter Try.func3, Try.ntmps3
  go_wp2_with fail
  refine (NW.out w).mono ?_; rintro e w1 ⟨G, F, rfl, hp, q1, hF⟩
  have Q1 := Lib.hid q1
  clear q1 hp hF
  go_wp2_with fail
  refine (bnew_any w1).mono ?_; rintro e w1' ⟨H, g, v, rfl, hbk, q2⟩
  have Q2 := Lib.hid (Q1.out.trans (q2.mono Q1.out.size))
  clear q2 hbk
  go_wp2_with fail
  refine (KN.out _).mono ?_; rintro e w2 ⟨rfl, q⟩
  have Q := Lib.hid (Q2.out.trans (q.mono Q2.out.size))
  clear q
  go_wp2_with fail
  go_ret
  exact ⟨rfl, Q.out⟩
set_option maxRecDepth 100000 in
set_option maxHeartbeats 8000000 in
theorem plays7_in {Pb : PbT} (K : BookK Pb) (A : Option Addr) (n c : Nat) (l : List Op7) (w : World) (hr : EOp.Rd w A n l) (hok : ∀ x, x ∈ l → x.ok) (hn : n ≤ 250) :
    Calls Try.prog 3 #[.slice A n c] w fun e w' => e = .returned (.bool true) ∧ Below w.heap.size w w' := by
  have KN := Lib.hid (fun W => known7_any K W)
  have NW := Lib.hid (fun W => K.new W)
  have KH := Lib.hid K
  have hd250 : decide (250 < (n : Int)) = false := decide_eq_false (by omega)
  have HR := Lib.hid hr
  have HOK := Lib.hid hok
  clear K hr hok
  go_enter Try.func3, Try.ntmps3
  go_wp2_with fail
  refine (NW.out w).mono ?_; rintro e w1 ⟨G0, F, rfl, hp, q1, hF⟩
  have HP := Lib.hid hp
  have Q1 := Lib.hid q1
  have HF := Lib.hid hF
  clear hp q1 hF NW
  go_wp2_with fail
  refine (bnew_any w1).mono ?_; rintro e w1' ⟨H, g, v, rfl, hbk, q2⟩
  have D0 : Hid (Pw Pb w [] w1' G0 H g (fun _ => []) (fun _ => []) 0) := Lib.hid (pw_new KH.out HP.out Q1.out HF.out hbk q2)
  clear hbk q2 HP Q1 HF
  go_wp2_with fail
  go_loopw [3, 23] (fun b i wr => ∃ (k G : Nat) (S : Sd) (t : Nat), k ≤ n ∧ b = .pointer (some ⟨G, 0, none⟩) ∧ i = .int .i64 k ∧ Pw Pb w [] wr G H g S S t ∧ t ≤ k) (fun _ i _ => n - (intOf i).toNat)
  case atStart => exact ⟨0, G0, _, 0, Nat.zero_le _, rfl, rfl, D0.out, Nat.le_refl _⟩
  case round =>
    obtain ⟨k, G, S, t, hk, rfl, rfl, hc, ht⟩ := hrel
    have CC := Lib.hid hc
    clear hc D0
    by_cases hlt : k < n
    case neg =>
      obtain rfl : k = n := by omega
      have hd : decide ((k : Int) < k) = false := decide_eq_false (by omega)
      have BL := Lib.hid CC.out.bl
      go_wp2_with fail
      refine (KN.out _).mono ?_; rintro e w9 ⟨rfl, qf⟩
      have BF := Lib.hid (BL.out.trans (qf.mono BL.out.size))
      clear qf
      go_wp2_with fail
      go_ret
      exact ⟨rfl, BF.out⟩
    case pos =>
    have hd : decide ((k : Int) < n) = true := decide_eq_true (by omega)
    have hki : (k : Int) < (n : Int) := by omega
    obtain ⟨x, hx⟩ : ∃ x, l[k]? = some x := ⟨l[k]'(by have := HR.out.1; omega), List.getElem?_eq_getElem _⟩
    obtain ⟨b, o', rfl, hrg⟩ := grd_rng HR.out hx
    have OKX := Lib.hid (HOK.out x (List.mem_of_getElem? hx))
    have HRG := Lib.hid hrg
    have k0 : wr.cell? ⟨b, o' + k * 7, none⟩ = some (.int .i64 x.kd) := rng_below hrg CC.out.bl (Nat.le_refl _) 0 _ rfl
    clear hx hrg
    by_cases hk6 : x.kd = 6
    · rw [hk6] at k0
      clear hk6
      go_wp2_with fail
      refine (CC.out.copy KH.out).mono ?_; rintro e w2 ⟨G2, rfl, pc⟩
      have PC := Lib.hid pc
      clear pc CC k0
      go_wp2_with fail
      refine (PC.out.spoil KH.out).mono ?_; rintro e w3 ⟨⟨u3, rfl⟩, c3⟩
      have C3 := Lib.hid c3
      have RG : Hid (w3.rangeAt b (o' + k * 7) (EOp.cells x)) := Lib.hid (rng_below HRG.out C3.out.bl (Nat.le_refl _))
      clear c3 PC
      go_wp2_with ((with_reducible refine gwl_load (d := some 44) TOp b (o' + k * 7) RG.out ?_ ?_ ?_); rfl; rfl)
      refine (do7_any KH.out C3.out OKX.out (by omega)).mono ?_; rintro e w4 ⟨rfl, c4⟩
      have C4 := Lib.hid c4
      have LA := Lib.hid (all_le (c4.inv KH.out).inv)
      have OA := Lib.hid (c4.ora KH.out)
      clear c4 C3
      go_wp2_with fail
      refine OA.out.mono ?_; rintro e w5 ⟨u5, rfl, ho5, q5⟩
      obtain ⟨a5, n5, c5, rfl⟩ := gown_any ho5
      have C5 := Lib.hid (C4.out.below KH.out q5)
      have RD5 := Lib.hid (gown_rd ho5)
      clear OA q5 ho5 C4
      go_wp2_with fail
      refine C5.out.orb.mono ?_; rintro e w6 ⟨u6, rfl, ho6, q6⟩
      obtain ⟨a6, n6, c6, rfl⟩ := gown_any ho6
      have C6 := Lib.hid (C5.out.below KH.out q6)
      have RD6 := gown_rd ho6
      have RD7 := grd_below RD5.out q6 (Nat.le_refl _)
      have SO := Lib.hid (bsame_any a5 a6 n5 n6 c5 c6 _ _ w6 RD7 RD6 (fun y hy => (LA.out.1 y hy).1) (fun y hy => (LA.out.1 y hy).1) (by rw [← RD7.1]; have := LA.out.2; omega) (by rw [← RD6.1]; have := LA.out.2; omega))
      rw [eqL_yes] at SO
      clear q6 ho6 RD6 RD7 C5 RD5
      go_wp2_with fail
      refine SO.out.mono ?_; rintro e w7 ⟨rfl, q7⟩
      have C7 := Lib.hid (C6.out.below KH.out q7)
      clear q7 C6 SO
      go_wp2_with fail
      go_roundw
      case rel => exact ⟨k + 1, G2, _, t + 1, hlt, rfl, by go_num, C7.out, by omega⟩
      case measure => simp [intOf]; omega
    · have e6 : (x.kd == 6) = false := beq_eq_false_iff_ne.2 hk6
      have C3 := CC
      have RG : Hid (wr.rangeAt b (o' + k * 7) (EOp.cells x)) := Lib.hid (rng_below HRG.out C3.out.bl (Nat.le_refl _))
      clear hk6
      go_wp2_with ((with_reducible refine gwl_load (d := some 44) TOp b (o' + k * 7) RG.out ?_ ?_ ?_); rfl; rfl)
      clear k0
      refine (do7_any KH.out C3.out OKX.out (by omega)).mono ?_; rintro e w4 ⟨rfl, c4⟩
      have C4 := Lib.hid c4
      have LA := Lib.hid (all_le (c4.inv KH.out).inv)
      have OA := Lib.hid (c4.ora KH.out)
      clear c4 C3
      go_wp2_with fail
      refine OA.out.mono ?_; rintro e w5 ⟨u5, rfl, ho5, q5⟩
      obtain ⟨a5, n5, c5, rfl⟩ := gown_any ho5
      have C5 := Lib.hid (C4.out.below KH.out q5)
      have RD5 := Lib.hid (gown_rd ho5)
      clear OA q5 ho5 C4
      go_wp2_with fail
      refine C5.out.orb.mono ?_; rintro e w6 ⟨u6, rfl, ho6, q6⟩
      obtain ⟨a6, n6, c6, rfl⟩ := gown_any ho6
      have C6 := Lib.hid (C5.out.below KH.out q6)
      have RD6 := gown_rd ho6
      have RD7 := grd_below RD5.out q6 (Nat.le_refl _)
      have SO := Lib.hid (bsame_any a5 a6 n5 n6 c5 c6 _ _ w6 RD7 RD6 (fun y hy => (LA.out.1 y hy).1) (fun y hy => (LA.out.1 y hy).1) (by rw [← RD7.1]; have := LA.out.2; omega) (by rw [← RD6.1]; have := LA.out.2; omega))
      rw [eqL_yes] at SO
      clear q6 ho6 RD6 RD7 C5 RD5
      go_wp2_with fail
      refine SO.out.mono ?_; rintro e w7 ⟨rfl, q7⟩
      have C7 := Lib.hid (C6.out.below KH.out q7)
      clear q7 C6 SO
      go_wp2_with fail
      go_roundw
      case rel => exact ⟨k + 1, G, _, t + 1, hlt, rfl, by go_num, C7.out, by omega⟩
      case measure => simp [intOf]; omega
theorem plays7_all {Pb : PbT} (K : BookK Pb) (A : Option Addr) (n c : Nat) (l : List Op7) (w : World) (hr : EOp.Rd w A n l) (hok : ∀ x, x ∈ l → x.ok) (hm : n ≤ maxLen) :
    Calls Try.prog 3 #[.slice A n c] w fun e w' => e = .returned (.bool true) ∧ Below w.heap.size w w' := by
  unfold maxLen at hm
  rcases Nat.lt_or_ge 250 n with h | h
  · exact plays7_out K A n c w h (by omega)
  · exact plays7_in K A n c l w hr hok h
end Go.Proofs.Ytdcjgcjnfcahkaa
