/- Contract of the document's plain answer whether a contract's data may be. -/
import Derived.Test.YtmelpikncdnloaaQr
namespace Go.Proofs.Ytmelpikncdnloaa
open Go.RowKit

/-- What has been counted among the first k shifts. -/
def Cnt (l : List Int) (k ka kb : Nat) : Prop :=
  ka ≤ k ∧ kb ≤ k ∧ decide (0 < ka) = someUp (l.take k) ∧ decide (0 < kb) = someDown (l.take k) ∧ (l.take k).all (fun x => amB x (-10000000) 10000000) = true
theorem Cnt.start (l : List Int) : Cnt l 0 0 0 := ⟨Nat.le_refl _, Nat.le_refl _, rfl, rfl, rfl⟩
theorem up_snoc (l : List Int) (x : Int) : someUp (l ++ [x]) = (someUp l || decide (0 < x)) := by simp [someUp]
theorem down_snoc (l : List Int) (x : Int) : someDown (l ++ [x]) = (someDown l || decide (x < 0)) := by simp [someDown]
theorem take_more {l : List Int} {k : Nat} (h : k < l.length) : l.take (k + 1) = l.take k ++ [l.getD k 0] := by
  rw [List.take_succ_eq_append_getElem h]
  simp [List.getD, h]
theorem Cnt.next {l : List Int} {k ka kb : Nat} (h : Cnt l k ka kb) (hk : k < l.length) (hx : amB (l.getD k 0) (-10000000) 10000000 = true) :
    (0 < l.getD k 0 → Cnt l (k + 1) (ka + 1) kb) ∧ (l.getD k 0 < 0 → Cnt l (k + 1) ka (kb + 1)) ∧ (l.getD k 0 = 0 → Cnt l (k + 1) ka kb) := by
  obtain ⟨h1, h2, h3, h4, h5⟩ := h
  have e := take_more hk
  obtain ⟨x, hxe⟩ : ∃ x, l.getD k 0 = x := ⟨_, rfl⟩
  rw [hxe] at e hx ⊢
  have ha : (l.take (k + 1)).all (fun x => amB x (-10000000) 10000000) = true := by rw [e, List.all_append, h5]; simp [hx]
  refine ⟨fun c => ⟨by omega, by omega, ?_, ?_, ha⟩, fun c => ⟨by omega, by omega, ?_, ?_, ha⟩, fun c => ⟨by omega, by omega, ?_, ?_, ha⟩⟩
  · rw [e, up_snoc, decide_eq_true c, decide_eq_true (by omega)]; simp
  · rw [e, down_snoc, ← h4, decide_eq_false (by omega : ¬ x < 0)]; simp
  · rw [e, up_snoc, ← h3, decide_eq_false (by omega : ¬ 0 < x)]; simp
  · rw [e, down_snoc, decide_eq_true c, decide_eq_true (by omega)]; simp
  · rw [e, up_snoc, ← h3, decide_eq_false (by omega : ¬ 0 < x)]; simp
  · rw [e, down_snoc, ← h4, decide_eq_false (by omega : ¬ x < 0)]; simp
theorem may_of_cnt {s : Sp} (hh : headB s = true) (hl : s.sh.length = 16) {ka kb : Nat} (h : Cnt s.sh 16 ka kb) : mayB s = (decide (0 < ka) && decide (0 < kb) && prB s.ti s.fi) := by
  obtain ⟨_, _, h3, h4, h5⟩ := h
  have e : s.sh.take 16 = s.sh := List.take_of_length_le (by omega)
  rw [e] at h3 h4 h5
  unfold mayB
  rw [hh, h5, h3, h4]
  simp
theorem may_bad {s : Sp} {k : Nat} (hk : k < s.sh.length) (hx : amB (s.sh.getD k 0) (-10000000) 10000000 = false) : mayB s = false := by
  have : s.sh.all (fun x => amB x (-10000000) 10000000) = false := by
    rw [List.all_eq_false]
    refine ⟨s.sh.getD k 0, ?_, by rw [hx]; exact Bool.false_ne_true⟩
    rw [show s.sh.getD k 0 = s.sh[k] from by simp [List.getD, hk]]
    exact List.getElem_mem _
  unfold mayB
  rw [this]
  simp

set_option maxRecDepth 100000 in
set_option maxHeartbeats 4000000 in
theorem rmay_body (s : Sp) (w : World) (ok : s.ok) (hh : headB s = true) : Calls Try.prog 15 #[.agg s.cells] w fun e w' => e = .returned (.bool (mayB s)) ∧ Below w.heap.size w w' := by
  have AM := Lib.hid (fun n l m W => ramong_any n l m W)
  have PR := Lib.hid (fun n W h => rprice_any s.ti n W h)
  have C0 := s.c0
  have C1 := s.c1
  have C2 := s.c2
  have C3 := s.c3
  have C4 := s.c4
  have C5 := s.c5
  have C6 := Lib.hid (fun i h => Sp.c6 ok.len i h)
  have C22 := Sp.c22 ok.len
  have C24 := Sp.c24 ok.len
  have HL := Lib.hid ok.len
  have HSH := Lib.hid ok.sh
  obtain ⟨o1a, o1b⟩ := ok.nu
  obtain ⟨o2a, o2b⟩ := ok.ro
  have hp := head_parts hh
  have MC := Lib.hid (fun ka kb (h : Cnt s.sh 16 ka kb) => may_of_cnt hh ok.len h)
  have MB := Lib.hid (fun k (hk : k < s.sh.length) hx => may_bad (s := s) (k := k) hk hx)
  have d1 : amB s.ti 1 10000000 = true := amB_iff.2 hp.2.2.1
  have d2 : amB s.lo 1 1000000 = true := amB_iff.2 hp.2.2.2.1
  have d3 : amB s.ba 0 10000000 = true := amB_iff.2 hp.2.2.2.2.1
  have d4 : amB s.li 1 10000000 = true := amB_iff.2 hp.2.2.2.2.2.1
  have d5 : amB s.cr 0 10000000 = true := amB_iff.2 hp.2.2.2.2.2.2
  have TI := Lib.hid hp.2.2.1
  obtain ⟨a, ⟨b, c⟩, _⟩ := hp
  have a0 : (s.nu == 0) = false := beq_eq_false_iff_ne.2 a
  have B := Lib.hid ((Below.refl w.heap.size w).alloc (Nat.le_refl _) (.cells s.cells 25))
  clear hh ok
  obtain ⟨nu, hnu⟩ : ∃ nu, s.nu = nu := ⟨_, rfl⟩
  obtain ⟨ro, hro⟩ : ∃ ro, s.ro = ro := ⟨_, rfl⟩
  rw [hnu] at C0 a0 o1a o1b
  rw [hro] at C1 b c o2a o2b
  clear hnu hro a
  go_enter Try.func15, Try.ntmps15
  go_wp2_with (go_at_call 24; refine (AM.out _ _ _ _).mono ?_; rintro e w' ⟨rfl, rfl⟩)
  go_loop [3, 4, 5] (fun x y i => ∃ k ka kb : Nat, k ≤ 16 ∧ i = .int .i64 k ∧ x = .int .i64 ka ∧ y = .int .i64 kb ∧ Cnt s.sh k ka kb) (fun _ _ i => 16 - (intOf i).toNat)
  case atStart => exact ⟨0, 0, 0, Nat.zero_le _, rfl, rfl, rfl, Cnt.start _⟩
  case round =>
    obtain ⟨k, ka, kb, hk, rfl, rfl, rfl, hc⟩ := hrel
    have HC := Lib.hid hc
    have ha1 := hc.1
    have hb1 := hc.2.1
    clear hc
    by_cases hlt : k < 16
    case neg =>
      obtain rfl : k = 16 := by omega
      have M := Lib.hid (MC.out _ _ HC.out)
      clear C0 C1 C3 C4 C5 C22 d1 d2 d3 d4 d5 a0 o1a o1b o2a o2b b c
      by_cases hka : 0 < ka
      · by_cases hkb : 0 < kb
        · have e1 : decide (0 < (ka : Int)) = true := decide_eq_true (by omega)
          have e2 : decide (0 < (kb : Int)) = true := decide_eq_true (by omega)
          have HM : Hid (mayB s = prB s.ti s.fi) := Lib.hid (by rw [M.out, decide_eq_true hka, decide_eq_true hkb]; simp)
          go_wp2_with fail
          refine (PR.out _ _ TI.out).mono ?_; rintro e w' ⟨rfl, rfl⟩
          go_wp2_with fail
          go_ret
          refine ⟨?_, B.out⟩
          rw [HM.out]
          rfl
        · have e1 : decide (0 < (ka : Int)) = true := decide_eq_true (by omega)
          have e2 : decide (0 < (kb : Int)) = false := decide_eq_false (by omega)
          have HM : Hid (mayB s = false) := Lib.hid (by rw [M.out, decide_eq_false hkb]; simp)
          go_wp2_with fail
          go_ret
          refine ⟨?_, B.out⟩
          rw [HM.out]
          rfl
      · have e1 : decide (0 < (ka : Int)) = false := decide_eq_false (by omega)
        have HM : Hid (mayB s = false) := Lib.hid (by rw [M.out, decide_eq_false hka]; simp)
        go_wp2_with fail
        go_ret
        refine ⟨?_, B.out⟩
        rw [HM.out]
        rfl
    case pos =>
      have hd : decide ((k : Int) < 16) = true := decide_eq_true (by omega)
      have C6k := C6.out k hlt
      have hx := HSH.out (s.sh.getD k 0) (by
        have h3 : k < s.sh.length := by rw [HL.out]; exact hlt
        rw [show s.sh.getD k 0 = s.sh[k] from by simp [List.getD, h3]]
        exact List.getElem_mem _)
      obtain ⟨hx1, hx2⟩ := hx
      have HN := Lib.hid (fun h => HC.out.next (by rw [HL.out]; exact hlt) h)
      have MBk := Lib.hid (MB.out k (by rw [HL.out]; exact hlt))
      obtain ⟨x, hxe⟩ : ∃ x, s.sh.getD k 0 = x := ⟨_, rfl⟩
      rw [hxe] at C6k hx1 hx2 HN MBk
      clear hxe C0 C1 C2 C3 C4 C5 C22 C24 d1 d2 d3 d4 d5 a0 o1a o1b o2a o2b b c
      cases hb : amB x (-10000000) 10000000
      · have HM := Lib.hid (MBk.out hb)
        go_wp2_with (go_at_call 24; refine (AM.out _ _ _ _).mono ?_; rintro e w' ⟨rfl, rfl⟩)
        go_ret
        refine ⟨?_, B.out⟩
        rw [HM.out]
        rfl
      · obtain ⟨n1, n2, n3⟩ := HN.out hb
        rcases Int.lt_trichotomy x 0 with h | h | h
        · have e1 : decide (0 < x) = false := decide_eq_false (by omega)
          have e2 : decide (x < 0) = true := decide_eq_true (by omega)
          have NX := Lib.hid (n2 h)
          clear n1 n2 n3 HN
          go_wp2_with (go_at_call 24; refine (AM.out _ _ _ _).mono ?_; rintro e w' ⟨rfl, rfl⟩)
          go_round
          case rel => exact ⟨k + 1, ka, kb + 1, hlt, by go_num, rfl, by go_num, NX.out⟩
          case measure => simp [intOf]; omega
        · have e1 : decide (0 < x) = false := decide_eq_false (by omega)
          have e2 : decide (x < 0) = false := decide_eq_false (by omega)
          have NX := Lib.hid (n3 h)
          clear n1 n2 n3 HN h
          go_wp2_with (go_at_call 24; refine (AM.out _ _ _ _).mono ?_; rintro e w' ⟨rfl, rfl⟩)
          go_round
          case rel => exact ⟨k + 1, ka, kb, hlt, by go_num, rfl, rfl, NX.out⟩
          case measure => simp [intOf]; omega
        · have e1 : decide (0 < x) = true := decide_eq_true (by omega)
          have e2 : decide (x < 0) = false := decide_eq_false (by omega)
          have NX := Lib.hid (n1 h)
          clear n1 n2 n3 HN
          go_wp2_with (go_at_call 24; refine (AM.out _ _ _ _).mono ?_; rintro e w' ⟨rfl, rfl⟩)
          go_round
          case rel => exact ⟨k + 1, ka + 1, kb, hlt, by go_num, by go_num, rfl, NX.out⟩
          case measure => simp [intOf]; omega
theorem rmay_any (s : Sp) (w : World) (ok : s.ok) : Calls Try.prog 15 #[.agg s.cells] w fun e w' => e = .returned (.bool (mayB s)) ∧ Below w.heap.size w w' := by
  cases h : headB s
  · have e : mayB s = false := by
      cases c : mayB s
      · rfl
      · rw [may_head c] at h
        cases h
    rw [e]
    exact rmay_head s w ok h
  · exact rmay_body s w ok h
end Go.Proofs.Ytmelpikncdnloaa
