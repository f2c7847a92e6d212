/- Contracts of the program's own reader: texts, faults, what is left, and a reader that is made. -/
import Derived.Test.YtehmheohojnpmaaNs
namespace Go.Proofs.Ytehmheohojnpmaa
open Go.RowKit

def TextD (bs : List Int) (e most : Int) (g : Nat) (A : Option Addr) (w : World) (E : Ending) (W : World) : Prop :=
  ∃ v, E = .returned v ∧ W.ownsRow w.heap.size 5 1 v (tR bs e most).1.length ((tR bs e most).1.map (Value.int .u8)) ∧ Dd w g A (tR bs e most).2.1 (tR bs e most).2.2 W

set_option maxRecDepth 100000 in
set_option maxHeartbeats 2000000 in
theorem text_any (g n c : Nat) (A : Option Addr) (bs : List Int) (e most : Int) (w : World) (h : Rq w g A n c bs e) (hy : By bs) (hn : n ≤ 200000) (hm : -9223372036854775808 ≤ most ∧ most ≤ 9223372036854775807) :
    Calls Try.prog 31 #[.pointer (some ⟨g, 0, none⟩), .int .i64 most] w fun E W => TextD bs e most g A w E W := by
  have hnc := h.nc
  have hl := h.r.1
  have d0 := h.c0
  have d1 := h.c1
  have f0 := h.fr 0
  have f1 := h.fr 1
  have NN := Lib.hid (leading_any n c A bs w h.r hy hn)
  have HH := Lib.hid h
  by_cases he : e = 0
  case neg =>
    have S := Lib.hid (stop_yes g n c A bs e w h he)
    have HR := Lib.hid (show tR bs e most = ([], bs, e) from if_pos he)
    clear he hl h NN
    go_enter Try.func31, Try.ntmps31
    go_wp2_with fail
    refine S.out.mono ?_; rintro e0 w1 ⟨rfl, rfl⟩
    go_wp2_with fail
    go_ret
    unfold TextD
    rw [HR.out]
    exact ⟨_, rfl, nil_own _ _, ⟨A, n, c, HH.out, same_block A⟩, World.grownBy.refl _ _⟩
  subst he
  have S := Lib.hid (stop_no g n c A bs w h)
  have hle := rdN_le bs
  have hok := rdN_ok hy
  have hft := rdN_fault bs
  have hkp0 := fun c => rdN_pos (bs := bs) c
  obtain ⟨⟨v, k, f⟩, hr⟩ : ∃ r, rdN bs = r := ⟨_, rfl⟩
  have R0 : tR bs 0 most = if f ≠ 0 then ([], bs, f) else if (most < 0 ∧ 0 < v) ∨ (0 ≤ most ∧ most < v) then ([], bs, 3) else if ((bs.length - k : Nat) : Int) < v then ([], bs, 4) else ((bs.drop k).take v.toNat, bs.drop (k + v.toNat), 0) := by unfold tR; rw [if_neg (by simp), hr]
  unfold NatE at NN
  rw [hr] at hle hok hft NN hkp0
  dsimp only at hle hok hft NN hkp0
  rw [hl] at R0 hle
  clear hr h
  by_cases hf : f = 0
  case neg =>
    have HR := Lib.hid (R0.trans (if_pos hf))
    have hf1 : decide (f = 0) = false := decide_eq_false hf
    have hf2 : (f == 0) = false := by simpa using hf
    have hf3 : (f != 0) = true := by simpa using hf
    clear R0 hf hl hft hkp0
    go_enter Try.func31, Try.ntmps31
    go_wp2_with fail
    refine S.out.mono ?_; rintro e0 w1 ⟨rfl, rfl⟩
    go_wp2_with fail
    refine NN.out.mono ?_; rintro e w1 ⟨rfl, rfl⟩
    go_wp2_with fail
    go_ret
    unfold TextD
    rw [HR.out]
    exact ⟨_, rfl, nil_own _ _, ⟨A, n, c, HH.out.setE f, same_block A⟩, only_set _ _ _ _⟩
  subst hf
  have hkp := hkp0 rfl
  clear hkp0
  rw [if_neg (by simp)] at R0
  by_cases hv : (most < 0 ∧ 0 < v) ∨ (0 ≤ most ∧ most < v)
  case pos =>
    have HR := Lib.hid (R0.trans (if_pos hv))
    clear R0 hl hft
    rcases hv with ⟨v1, v2⟩ | ⟨v1, v2⟩
    all_goals
      go_enter Try.func31, Try.ntmps31
      go_wp2_with fail
      refine S.out.mono ?_; rintro e0 w1 ⟨rfl, rfl⟩
      go_wp2_with fail
      refine NN.out.mono ?_; rintro e w1 ⟨rfl, rfl⟩
      go_wp2_with fail
      go_ret
      unfold TextD
      rw [HR.out]
      exact ⟨_, rfl, nil_own _ _, ⟨A, n, c, HH.out.setE 3, same_block A⟩, only_set _ _ _ _⟩
  rw [if_neg hv] at R0
  have hcase : (most < 0 ∧ v = 0) ∨ (0 ≤ most ∧ v ≤ most) := by omega
  by_cases hs : ((n - k : Nat) : Int) < v
  case pos =>
    have HR := Lib.hid (R0.trans (if_pos hs))
    have hs' : (n : Int) - k < v := by omega
    clear R0 hl hft hv
    rcases hcase with ⟨v1, v2⟩ | ⟨v1, v2⟩
    · omega
    · go_enter Try.func31, Try.ntmps31
      go_wp2_with fail
      refine S.out.mono ?_; rintro e0 w1 ⟨rfl, rfl⟩
      go_wp2_with fail
      refine NN.out.mono ?_; rintro e w1 ⟨rfl, rfl⟩
      go_wp2_with fail
      go_ret
      unfold TextD
      rw [HR.out]
      exact ⟨_, rfl, nil_own _ _, ⟨A, n, c, HH.out.setE 4, same_block A⟩, only_set _ _ _ _⟩
  case neg =>
    have HR := Lib.hid (R0.trans (if_neg hs))
    obtain ⟨V, rfl⟩ : ∃ V : Nat, v = V := Int.eq_ofNat_of_zero_le hok.1
    obtain ⟨b, o, rfl, -⟩ := HH.out.r.2 (by omega)
    rw [Int.toNat_natCast] at HR
    have hkV : k + V ≤ n := by omega
    have P := Lib.hid (pass_any g b o n c k bs 0 w HH.out (by omega) hn)
    have HL : Hid (bs.length = n) := Lib.hid hl
    clear R0 hft hv hl hle hok hkp
    rcases hcase with ⟨v1, v2⟩ | ⟨v1, v2⟩
    · obtain rfl : V = 0 := by omega
      go_enter Try.func31, Try.ntmps31
      go_wp2_with fail
      refine S.out.mono ?_; rintro e0 w1 ⟨rfl, rfl⟩
      go_wp2_with fail
      refine NN.out.mono ?_; rintro e w1 ⟨rfl, rfl⟩
      go_wp2_with fail
      refine P.out.mono ?_; rintro e w1 ⟨rfl, ⟨o', hq⟩, -, hgr⟩
      have HQ := Lib.hid hq
      have HG := Lib.hid hgr
      clear hq hgr
      have P2 := Lib.hid (pass_any g b o' (n - k) (c - k) 0 (bs.drop k) 0 w1 HQ.out (by omega) (by omega))
      go_wp2_with fail
      refine P2.out.mono ?_; rintro e w2 ⟨rfl, ⟨o2, hq2⟩, hr2, hgr2⟩
      have HQ2 := Lib.hid hq2
      have HG2 := Lib.hid (grown_trans HG.out hgr2)
      have C := Lib.hid (clone_any (some ⟨b, o', none⟩) 0 (c - k) _ w2 hr2 (by omega) (fun h => by cases h))
      clear hq2 hgr2 hr2 P2
      go_wp2_with fail
      refine C.out.mono ?_; rintro e w3 ⟨v3, rfl, hN⟩
      have O3 := Lib.hid (own_less hN.o HG2.out.size)
      have Q3 := Lib.hid (HQ2.out.below hN.q)
      have G3 := Lib.hid (grown_trans HG2.out (below_grown hN.q (some g)))
      clear hN C
      go_wp2_with fail
      go_ret
      unfold TextD
      rw [HR.out]
      refine ⟨_, rfl, O3.out, ⟨some ⟨b, o2, none⟩, n - k - 0, c - k - 0, ?_, fun a' ha => ⟨_, rfl, by cases ha; rfl⟩⟩, G3.out⟩
      have := Q3.out
      rw [List.drop_drop] at this
      exact this
    · go_enter Try.func31, Try.ntmps31
      go_wp2_with fail
      refine S.out.mono ?_; rintro e0 w1 ⟨rfl, rfl⟩
      go_wp2_with fail
      refine NN.out.mono ?_; rintro e w1 ⟨rfl, rfl⟩
      go_wp2_with fail
      refine P.out.mono ?_; rintro e w1 ⟨rfl, ⟨o', hq⟩, -, hgr⟩
      have HQ := Lib.hid hq
      have HG := Lib.hid hgr
      clear hq hgr
      have P2 := Lib.hid (pass_any g b o' (n - k) (c - k) V (bs.drop k) 0 w1 HQ.out (by omega) (by omega))
      go_wp2_with fail
      refine P2.out.mono ?_; rintro e w2 ⟨rfl, ⟨o2, hq2⟩, hr2, hgr2⟩
      have HQ2 := Lib.hid hq2
      have HG2 := Lib.hid (grown_trans HG.out hgr2)
      have C := Lib.hid (clone_any (some ⟨b, o', none⟩) V (c - k) _ w2 hr2 (by omega) (fun h => by cases h))
      clear hq2 hgr2 hr2 P2
      go_wp2_with fail
      refine C.out.mono ?_; rintro e w3 ⟨v3, rfl, hN⟩
      have O3 := Lib.hid (own_less hN.o HG2.out.size)
      have Q3 := Lib.hid (HQ2.out.below hN.q)
      have G3 := Lib.hid (grown_trans HG2.out (below_grown hN.q (some g)))
      clear hN C
      go_wp2_with fail
      go_ret
      unfold TextD
      rw [HR.out]
      refine ⟨_, rfl, O3.out, ⟨some ⟨b, o2, none⟩, n - k - V, c - k - V, ?_, fun a' ha => ⟨_, rfl, by cases ha; rfl⟩⟩, G3.out⟩
      have := Q3.out
      rw [List.drop_drop] at this
      exact this

set_option maxRecDepth 100000 in
theorem fail_any (g n c : Nat) (A : Option Addr) (bs : List Int) (e f : Int) (w : World) (h : Rq w g A n c bs e) :
    Calls Try.prog 33 #[.pointer (some ⟨g, 0, none⟩), .int .i64 f] w fun E W => E = .returned (.tuple #[]) ∧ Dd w g A bs (if e = 0 then f else e) W := by
  have d1 := h.c1
  have f1 := h.fr 1
  have HH := Lib.hid h
  by_cases he : e = 0
  · subst he
    have S := Lib.hid (stop_no g n c A bs w h)
    rw [if_pos rfl]
    clear h
    go_enter Try.func33, Try.ntmps33
    go_wp2_with fail
    refine S.out.mono ?_; rintro e0 w1 ⟨rfl, rfl⟩
    go_wp2_with fail
    go_end0
    exact ⟨rfl, ⟨A, n, c, HH.out.setE f, same_block A⟩, only_set _ _ _ _⟩
  · have S := Lib.hid (stop_yes g n c A bs e w h he)
    rw [if_neg he]
    clear he h
    go_enter Try.func33, Try.ntmps33
    go_wp2_with fail
    refine S.out.mono ?_; rintro e0 w1 ⟨rfl, rfl⟩
    go_wp2_with fail
    go_end0
    exact ⟨rfl, ⟨A, n, c, HH.out, same_block A⟩, World.grownBy.refl _ _⟩

set_option maxRecDepth 100000 in
theorem left_any (g n c : Nat) (A : Option Addr) (bs : List Int) (e : Int) (w : World) (h : Rq w g A n c bs e) :
    Calls Try.prog 35 #[.pointer (some ⟨g, 0, none⟩)] w fun E W => E = .returned (.int .i64 bs.length) ∧ w = W := by
  have d0 := h.c0
  rw [h.r.1]
  clear h
  go_enter Try.func35, Try.ntmps35
  go_wp2
  go_ret
  exact ⟨rfl, rfl⟩

set_option maxRecDepth 100000 in
theorem done_any (g n c : Nat) (A : Option Addr) (bs : List Int) (e : Int) (w : World) (h : Rq w g A n c bs e) (hn : n ≤ 200000) :
    Calls Try.prog 36 #[.pointer (some ⟨g, 0, none⟩)] w fun E W => E = .returned (.int .i64 (if e = 0 ∧ 0 < bs.length then 5 else e)) ∧ w = W := by
  have d0 := h.c0
  have d1 := h.c1
  have hl := h.r.1
  rw [hl]
  clear h hl
  by_cases he : e = 0
  · subst he
    rcases Nat.eq_zero_or_pos n with h0 | h0
    · subst h0
      rw [if_neg (by omega)]
      go_enter Try.func36, Try.ntmps36
      go_wp2
      go_ret
      exact ⟨rfl, rfl⟩
    · rw [if_pos ⟨rfl, h0⟩]
      go_enter Try.func36, Try.ntmps36
      go_wp2
      go_ret
      exact ⟨rfl, rfl⟩
  · rw [if_neg fun c => he c.1]
    have he1 : decide (e = 0) = false := decide_eq_false he
    have he2 : (e == 0) = false := by simpa using he
    clear he
    go_enter Try.func36, Try.ntmps36
    go_wp2
    go_ret
    exact ⟨rfl, rfl⟩

/-- A new reader. -/
def Newly (w : World) (bs : List Int) (E : Ending) (W : World) : Prop :=
  ∃ g A n c, E = .returned (.pointer (some ⟨g, 0, none⟩)) ∧ Rq W g A n c bs 0 ∧ (∀ a, A = some a → w.heap.size ≤ a.block ∧ a.block < W.heap.size) ∧ Below w.heap.size w W ∧ w.heap.size ≤ g
set_option maxRecDepth 100000 in
theorem newr_any (A : Option Addr) (n c : Nat) (bs : List Int) (w : World) (h : RdB w A n bs) (hn : n ≤ 200000) (h0 : A = none → n = 0 ∧ c = 0) :
    Calls Try.prog 22 #[.slice A n c] w fun E W => Newly w bs E W := by
  have C := Lib.hid (clone_any A n c bs w h hn h0)
  clear h h0
  go_enter Try.func22, Try.ntmps22
  go_wp2_with fail
  refine C.out.mono ?_; rintro e w1 ⟨v, rfl, hN⟩
  obtain ⟨A1, c1, rfl, hr, h01⟩ := owns_pt hN.o
  have hcap : bs.length ≤ c1 := by
    cases A1 with
    | none => have := h01 rfl; omega
    | some a =>
      rcases hN.o.2 with ⟨e1, _⟩ | ⟨g, cap, cur, e1, _, _, hc, _⟩
      · cases e1
      · cases e1; exact hc
  have HA : Hid (∀ a, A1 = some a → w.heap.size ≤ a.block ∧ a.block < w1.heap.size) := Lib.hid (fun a ha => by subst ha; exact hN.o.lt a.block rfl)
  have HR := Lib.hid hr
  have HB := Lib.hid hN.q
  have hs := hN.q.size
  clear hN hr h01
  go_wp2_with fail
  go_ret
  refine ⟨w1.heap.size, A1, bs.length, c1, rfl, ⟨heap_alloc_new w1 _, HR.out.below ((Below.refl _ w1).alloc (Nat.le_refl _) _), hcap⟩, fun a ha => ⟨(HA.out a ha).1, ?_⟩, HB.out.alloc HB.out.size _, hs⟩
  have := (HA.out a ha).2
  rw [size_alloc]; omega
end Go.Proofs.Ytehmheohojnpmaa
