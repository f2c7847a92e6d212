/- Contracts of the program's own reader: its calls. -/
import Derived.Test.YtehmheohojnpmaaNq
namespace Go.Proofs.Ytehmheohojnpmaa
open Go.RowKit

/-- What a call leaves: a reader at the same block, on the same bytes. -/
def Dd (w : World) (g : Nat) (A : Option Addr) (bs : List Int) (e : Int) (W : World) : Prop :=
  (∃ A' n c, Rq W g A' n c bs e ∧ ∀ a', A' = some a' → ∃ a, A = some a ∧ a'.block = a.block) ∧ w.grownBy W (some g)
theorem same_block (A : Option Addr) : ∀ a', A = some a' → ∃ a, A = some a ∧ a'.block = a.block := fun a' h => ⟨a', h, rfl⟩
theorem grown_trans {w W W' : World} {g : Option Nat} (a : w.grownBy W g) (b : W.grownBy W' g) : w.grownBy W' g :=
  ⟨b.os.trans a.os, b.tape.trans a.tape, b.output.trans a.output, Nat.le_trans a.size b.size, fun k hk hne => (b.block k (Nat.lt_of_lt_of_le hk a.size) hne).trans (a.block k hk hne)⟩

set_option maxRecDepth 100000 in
set_option maxHeartbeats 1000000 in
theorem small_any (g n c : Nat) (A : Option Addr) (bs : List Int) (e most : Int) (w : World) (h : Rq w g A n c bs e) (hy : By bs) (hn : n ≤ 200000) :
    Calls Try.prog 25 #[.pointer (some ⟨g, 0, none⟩), .int .u64 most] w fun E W => E = .returned (.int .u64 (sR bs e most).1) ∧ Dd w g A (sR bs e most).2.1 (sR bs e most).2.2 W := by
  have hnc := h.nc
  have hl := h.r.1
  have d0 := h.c0
  have d1 := h.c1
  have f0 := h.fr 0
  have f1 := h.fr 1
  have NN := Lib.hid (leading_any n c A bs w h.r hy hn)
  have HH := Lib.hid h
  by_cases he : e = 0
  case neg =>
    have S := Lib.hid (stop_yes g n c A bs e w h he)
    have R : sR bs e most = (0, bs, e) := if_pos he
    rw [R]
    clear he hl h NN
    go_enter Try.func25, Try.ntmps25
    go_wp2_with fail
    refine S.out.mono ?_; rintro e0 w1 ⟨rfl, rfl⟩
    go_wp2_with fail
    go_ret
    exact ⟨rfl, ⟨A, n, c, HH.out, same_block A⟩, World.grownBy.refl _ _⟩
  subst he
  have S := Lib.hid (stop_no g n c A bs w h)
  have hle := rdN_le bs
  have hok := rdN_ok hy
  have hft := rdN_fault bs
  have hkp0 := fun c => rdN_pos (bs := bs) c
  obtain ⟨⟨v, k, f⟩, hr⟩ : ∃ r, rdN bs = r := ⟨_, rfl⟩
  have R0 : sR bs 0 most = if f ≠ 0 then (0, bs, f) else if most < v then (0, bs, 5) else (v, bs.drop k, 0) := by unfold sR; rw [if_neg (by simp), hr]
  unfold NatE at NN
  rw [hr] at hle hok hft NN hkp0
  dsimp only at hle hok hft NN hkp0
  clear hr h
  by_cases hf : f = 0
  case neg =>
    rw [R0.trans (if_pos hf)]
    have hf1 : decide (f = 0) = false := decide_eq_false hf
    have hf2 : (f == 0) = false := by simpa using hf
    have hf3 : (f != 0) = true := by simpa using hf
    clear R0 hf hl hle hft hkp0
    go_enter Try.func25, Try.ntmps25
    go_wp2_with fail
    refine S.out.mono ?_; rintro e0 w1 ⟨rfl, rfl⟩
    go_wp2_with fail
    refine NN.out.mono ?_; rintro e w1 ⟨rfl, rfl⟩
    go_wp2_with fail
    go_ret
    exact ⟨rfl, ⟨A, n, c, HH.out.setE f, same_block A⟩, only_set _ _ _ _⟩
  subst hf
  have hkp := hkp0 rfl
  rw [if_neg (by simp)] at R0
  by_cases hv : most < v
  case pos =>
    rw [R0.trans (if_pos hv)]
    clear R0 hl hle hft hkp0
    go_enter Try.func25, Try.ntmps25
    go_wp2_with fail
    refine S.out.mono ?_; rintro e0 w1 ⟨rfl, rfl⟩
    go_wp2_with fail
    refine NN.out.mono ?_; rintro e w1 ⟨rfl, rfl⟩
    go_wp2_with fail
    go_ret
    exact ⟨rfl, ⟨A, n, c, HH.out.setE 5, same_block A⟩, only_set _ _ _ _⟩
  case neg =>
    rw [R0.trans (if_neg hv)]
    have hkn : k ≤ n := by omega
    obtain ⟨b, o, rfl, -⟩ := HH.out.r.2 (by omega)
    have P := Lib.hid (pass_any g b o n c k bs 0 w HH.out hkn hn)
    clear R0 hle hft hkp0 hl
    go_enter Try.func25, Try.ntmps25
    go_wp2_with fail
    refine S.out.mono ?_; rintro e0 w1 ⟨rfl, rfl⟩
    go_wp2_with fail
    refine NN.out.mono ?_; rintro e w1 ⟨rfl, rfl⟩
    go_wp2_with fail
    refine P.out.mono ?_; rintro e w1 ⟨rfl, ⟨o', hq⟩, -, hgr⟩
    have HQ := Lib.hid hq
    have HG := Lib.hid hgr
    clear hq hgr
    go_wp2_with fail
    go_ret
    exact ⟨rfl, ⟨_, _, _, HQ.out, fun a' ha => ⟨_, rfl, by cases ha; rfl⟩⟩, HG.out⟩

set_option maxRecDepth 100000 in
theorem nat_any (g n c : Nat) (A : Option Addr) (bs : List Int) (e : Int) (w : World) (h : Rq w g A n c bs e) (hy : By bs) (hn : n ≤ 200000) :
    Calls Try.prog 23 #[.pointer (some ⟨g, 0, none⟩)] w fun E W => E = .returned (.int .u64 (sR bs e top).1) ∧ Dd w g A (sR bs e top).2.1 (sR bs e top).2.2 W := by
  have S := Lib.hid (small_any g n c A bs e top w h hy hn)
  unfold top at S
  clear h hy
  go_enter Try.func23, Try.ntmps23
  go_wp2_with fail
  refine S.out.mono ?_; rintro e1 w1 ⟨rfl, hd⟩
  have D := Lib.hid hd
  clear hd
  go_wp2_with fail
  go_ret
  exact ⟨rfl, D.out⟩

set_option maxRecDepth 100000 in
theorem int_any (g n c : Nat) (A : Option Addr) (bs : List Int) (e : Int) (w : World) (h : Rq w g A n c bs e) (hy : By bs) (hn : n ≤ 200000) :
    Calls Try.prog 27 #[.pointer (some ⟨g, 0, none⟩)] w fun E W => E = .returned (.int .i64 (zz (sR bs e top).1)) ∧ Dd w g A (sR bs e top).2.1 (sR bs e top).2.2 W := by
  have S := Lib.hid (nat_any g n c A bs e w h hy hn)
  have hb := sR_bd hy e top
  obtain ⟨⟨v, l, f⟩, hr⟩ : ∃ r, sR bs e top = r := ⟨_, rfl⟩
  rw [hr] at S hb
  rw [hr]
  dsimp only at S hb ⊢
  clear h hy hr
  by_cases h2 : v % 2 = 0
  · have Z := Lib.hid (show zz v = v / 2 from if_pos h2)
    rw [Z.out]
    go_enter Try.func27, Try.ntmps27
    go_wp2_with fail
    refine S.out.mono ?_; rintro e1 w1 ⟨rfl, hd⟩
    have D := Lib.hid hd
    clear hd
    go_wp2_with fail
    go_ret
    exact ⟨rfl, D.out⟩
  · have Z := Lib.hid (show zz v = -(v / 2) - 1 from if_neg h2)
    rw [Z.out]
    have h3 : v % 2 = 1 := by omega
    clear h2
    go_enter Try.func27, Try.ntmps27
    go_wp2_with fail
    refine S.out.mono ?_; rintro e1 w1 ⟨rfl, hd⟩
    have D := Lib.hid hd
    clear hd
    go_wp2_with fail
    go_ret
    exact ⟨rfl, D.out⟩

set_option maxRecDepth 100000 in
set_option maxHeartbeats 1000000 in
theorem flag_any (g n c : Nat) (A : Option Addr) (bs : List Int) (e : Int) (w : World) (h : Rq w g A n c bs e) (hy : By bs) (hn : n ≤ 200000) :
    Calls Try.prog 29 #[.pointer (some ⟨g, 0, none⟩)] w fun E W => E = .returned (.bool (fR bs e).1) ∧ Dd w g A (fR bs e).2.1 (fR bs e).2.2 W := by
  have hnc := h.nc
  have hl := h.r.1
  have d0 := h.c0
  have d1 := h.c1
  have f0 := h.fr 0
  have f1 := h.fr 1
  have HH := Lib.hid h
  by_cases he : e = 0
  case neg =>
    have S := Lib.hid (stop_yes g n c A bs e w h he)
    rw [show fR bs e = (false, bs, e) from if_pos he]
    clear he hl h
    go_enter Try.func29, Try.ntmps29
    go_wp2_with fail
    refine S.out.mono ?_; rintro e0 w1 ⟨rfl, rfl⟩
    go_wp2_with fail
    go_ret
    exact ⟨rfl, ⟨A, n, c, HH.out, same_block A⟩, World.grownBy.refl _ _⟩
  subst he
  have S := Lib.hid (stop_no g n c A bs w h)
  have R0 : fR bs 0 = if bs.length = 0 then (false, bs, 4) else if 1 < bs.getD 0 0 then (false, bs, 5) else (decide (bs.getD 0 0 = 1), bs.drop 1, 0) := if_neg (by simp)
  rcases Nat.eq_zero_or_pos n with h0 | h0
  · rw [R0.trans (if_pos (by omega))]
    subst h0
    clear R0 hl h
    go_enter Try.func29, Try.ntmps29
    go_wp2_with fail
    refine S.out.mono ?_; rintro e0 w1 ⟨rfl, rfl⟩
    go_wp2_with fail
    go_ret
    exact ⟨rfl, ⟨A, 0, c, HH.out.setE 4, same_block A⟩, only_set _ _ _ _⟩
  rw [if_neg (by omega)] at R0
  obtain ⟨b, o, rfl, hc⟩ := h.r.2 h0
  have hcell := hc 0 h0
  have hx : 0 ≤ bs.getD 0 0 ∧ bs.getD 0 0 ≤ 255 := hy _ (by
    have h3 : 0 < bs.length := by omega
    rw [show bs.getD 0 0 = bs[0] from by simp [List.getD, h3]]
    exact List.getElem_mem _)
  obtain ⟨x, hxe⟩ : ∃ x, bs.getD 0 0 = x := ⟨_, rfl⟩
  rw [hxe] at R0 hcell hx
  rw [Nat.add_zero] at hcell
  clear hc
  by_cases h1 : 1 < x
  · rw [R0.trans (if_pos h1)]
    clear R0 hl h hxe
    go_enter Try.func29, Try.ntmps29
    go_wp2_with fail
    refine S.out.mono ?_; rintro e0 w1 ⟨rfl, rfl⟩
    go_wp2_with fail
    go_ret
    exact ⟨rfl, ⟨_, n, c, HH.out.setE 5, same_block _⟩, only_set _ _ _ _⟩
  · rw [R0.trans (if_neg h1)]
    have P := Lib.hid (pass_any g b o n c 1 bs 0 w HH.out h0 hn)
    have HX := Lib.hid hxe
    clear R0 hl h hxe
    go_enter Try.func29, Try.ntmps29
    go_wp2_with fail
    refine S.out.mono ?_; rintro e0 w1 ⟨rfl, rfl⟩
    go_wp2_with fail
    refine P.out.mono ?_; rintro e w1 ⟨rfl, ⟨o', hq⟩, hr, hgr⟩
    have HQ := Lib.hid hq
    have HG := Lib.hid hgr
    obtain ⟨b1, o1, e1, hc1⟩ := hr.2 Nat.one_pos
    cases e1
    have hcell1 := hc1 0 Nat.one_pos
    rw [take_getD Nat.one_pos, HX.out, Nat.add_zero] at hcell1
    clear hq hgr hr hc1
    go_wp2_with fail
    go_ret
    refine ⟨?_, ⟨_, _, _, HQ.out, fun a' ha => ⟨_, rfl, by cases ha; rfl⟩⟩, HG.out⟩
    first
      | rfl
      | (by_cases x1 : x = 1
         · subst x1; rfl
         · simp [x1])
      | trace_state
end Go.Proofs.Ytehmheohojnpmaa
