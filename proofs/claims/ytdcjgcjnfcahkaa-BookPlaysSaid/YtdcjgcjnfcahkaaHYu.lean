/- The walk of the statement BookUncrossed, given the program's book. -/
import Derived.Test.YtdcjgcjnfcahkaaG24
import Derived.Test.YtdcjgcjnfcahkaaHYd
import Derived.Test.YtdcjgcjnfcahkaaHYf
namespace Go.Proofs.Ytdcjgcjnfcahkaa
open Go.RowKit Go.Shelf
set_option linter.unusedVariables false
set_option linter.unusedSimpArgs false

theorem Cw.play {Pb : PbT} {w W : World} {G : Nat} {S : Sd} {t : Nat} {x : Op7} (K : BookK Pb) (h : Cw Pb w W G S t) (ok : x.ok) (ht : t < 1000000000) :
    Calls Try.prog 25 #[.pointer (some ⟨G, 0, none⟩), .agg (EOp.cells x).toArray] W fun e w' => (∃ v, e = .returned v) ∧ Cw Pb w w' G (playS S x) (t + 1) := by
  obtain ⟨A, h1, h2, h3⟩ := h
  exact (play7_any K h1 ok ht).mono fun e w' ⟨q1, q2⟩ => ⟨q1, cw_aft h2 h3 q2⟩
set_option maxRecDepth 100000 in
set_option maxHeartbeats 2000000 in
theorem uncrossed7_out {Pb : PbT} (K : BookK Pb) (A : Option Addr) (n c : Nat) (w : World) (hn : 150 < n) (hm : n ≤ 9223372036854775807) :
    Calls Try.prog 5 #[.slice A n c] w fun e w' => e = .returned (.bool true) ∧ Below w.heap.size w w' := by
  have KN := Lib.hid (fun W => known7_any K W)
  have NW := Lib.hid (K.new w)
  have hd : decide (150 < (n : Int)) = true := decide_eq_true (by omega)
  clear K
  go_enter Try.func5, Try.ntmps5
  go_wp2_with fail
  refine NW.out.mono ?_; rintro e w1 ⟨G, F, rfl, hp, q1, hF⟩
  have Q1 := Lib.hid q1
  clear q1 hp hF
  go_wp2_with fail
  refine (KN.out _).mono ?_; rintro e w2 ⟨rfl, q⟩
  have Q := Lib.hid (Q1.out.trans (q.mono Q1.out.size))
  clear q
  go_wp2_with fail
  go_ret
  exact ⟨rfl, Q.out⟩
set_option maxRecDepth 100000 in
set_option maxHeartbeats 4000000 in
theorem uncrossed7_in {Pb : PbT} (K : BookK Pb) (A : Option Addr) (n c : Nat) (l : List Op7) (w : World) (hr : EOp.Rd w A n l) (hok : ∀ x, x ∈ l → x.ok) (hn : n ≤ 150) :
    Calls Try.prog 5 #[.slice A n c] w fun e w' => e = .returned (.bool true) ∧ Below w.heap.size w w' := by
  have KN := Lib.hid (fun W => known7_any K W)
  have NW := Lib.hid (K.new w)
  have KH := Lib.hid K
  have hd100 : decide (150 < (n : Int)) = false := decide_eq_false (by omega)
  have HR := Lib.hid hr
  have HOK := Lib.hid hok
  clear K hr hok
  go_enter Try.func5, Try.ntmps5
  go_wp2_with fail
  refine NW.out.mono ?_; rintro e w1 ⟨G, F, rfl, hp, q1, hF⟩
  have C0 : Hid (Cw Pb w w1 G (fun _ => []) 0) := Lib.hid ⟨F, hp, q1, hF⟩
  clear q1 hp hF NW
  go_wp2_with fail
  go_loopw [20] (fun i wr => ∃ (k : Nat) (S : Sd) (t : Nat), k ≤ n ∧ i = .int .i64 k ∧ Cw Pb w wr G S t ∧ t ≤ k) (fun i _ => n - (intOf i).toNat)
  case atStart => exact ⟨0, _, 0, Nat.zero_le _, rfl, C0.out, Nat.le_refl _⟩
  case round =>
    obtain ⟨k, S, t, hk, rfl, hc, ht⟩ := hrel
    have CC := Lib.hid hc
    clear hc C0
    by_cases hlt : k < n
    case neg =>
      obtain rfl : k = n := by omega
      have hd : decide ((k : Int) < k) = false := decide_eq_false (by omega)
      go_wp2_with fail
      refine (KN.out _).mono ?_; rintro e w2 ⟨rfl, q⟩
      have BF := Lib.hid (CC.out.bl.trans (q.mono CC.out.bl.size))
      clear q
      go_wp2_with fail
      go_ret
      exact ⟨rfl, BF.out⟩
    case pos =>
      have hd : decide ((k : Int) < n) = true := decide_eq_true (by omega)
      have hki : (k : Int) < (n : Int) := by omega
      obtain ⟨x, hx⟩ : ∃ x, l[k]? = some x := ⟨l[k]'(by have := HR.out.1; omega), List.getElem?_eq_getElem _⟩
      obtain ⟨b, o, rfl, hrg⟩ := grd_rng HR.out hx
      have OKX := Lib.hid (HOK.out x (List.mem_of_getElem? hx))
      have RG : Hid (wr.rangeAt b (o + k * 7) (EOp.cells x)) := Lib.hid (rng_below hrg CC.out.bl (Nat.le_refl _))
      clear hx hrg
      go_wp2_with ((with_reducible refine gwl_load TOp b (o + k * 7) RG.out ?_ ?_ ?_); rfl; rfl)
      refine (CC.out.play KH.out OKX.out (by omega)).mono ?_; rintro e w2 ⟨⟨v, rfl⟩, c2⟩
      have C2 := Lib.hid c2
      clear c2
      go_wp2_with fail
      have OR : Hid (Calls Try.prog 17 #[.pointer (some ⟨G, 0, none⟩)] w2 fun e w' => ∃ v, e = .returned v ∧ EO.Own 31 w' w2.heap.size v (playS S x).all ∧ Below w2.heap.size w2 w') := Lib.hid (by obtain ⟨A, h1, _⟩ := C2.out; exact orders7_any KH.out h1)
      refine OR.out.mono ?_; rintro e w3 ⟨u, rfl, ho, q⟩
      obtain ⟨A3, n3, c3, rfl⟩ := gown_any ho
      have UC := Lib.hid (uncr7_any ho (uncr_of (C2.out.inv KH.out)) (all_le (C2.out.inv KH.out).inv).2)
      have C3 := Lib.hid (C2.out.below KH.out q)
      clear ho q OR
      go_wp2_with fail
      refine UC.out.mono ?_; rintro e w4 ⟨rfl, q⟩
      have C4 := Lib.hid (C3.out.below KH.out q)
      clear q UC
      go_wp2_with fail
      go_roundw
      case rel => exact ⟨k + 1, _, t + 1, hlt, by go_num, C4.out, by omega⟩
      case measure => simp [intOf]; omega
theorem uncrossed7_all {Pb : PbT} (K : BookK Pb) (A : Option Addr) (n c : Nat) (l : List Op7) (w : World) (hr : EOp.Rd w A n l) (hok : ∀ x, x ∈ l → x.ok) (hm : n ≤ maxLen) :
    Calls Try.prog 5 #[.slice A n c] w fun e w' => e = .returned (.bool true) ∧ Below w.heap.size w w' := by
  unfold maxLen at hm
  rcases Nat.lt_or_ge 150 n with h | h
  · exact uncrossed7_out K A n c w h (by omega)
  · exact uncrossed7_in K A n c l w hr hok h
end Go.Proofs.Ytdcjgcjnfcahkaa
