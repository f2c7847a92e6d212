/- Contracts of the document's plain reader, its calls. -/
import Derived.Test.YtehmheohojnpmaaRd
namespace Go.Proofs.Ytehmheohojnpmaa
open Go.RowKit

section
variable {w : World} {g : Nat} {A : Option Addr} {n c : Nat} {bs : List Int} {e : Int}
theorem Rr.far (h : Rr w g A n c bs e) {b o j : Nat} {x : Int} (hc : w.cell? ⟨b, o + j, none⟩ = some (.int .u8 x)) : b ≠ g := by
  intro hb
  subst hb
  rw [cell_of_row _ _ _ _ _ _ h.b] at hc
  match hk : o + j with
  | 0 => rw [hk] at hc; simp at hc
  | 1 => rw [hk] at hc; simp at hc
  | i + 2 => rw [hk] at hc; simp at hc
theorem RdB.keep {A' : Option Addr} {n' : Nat} {bs' : List Int} (h : Rr w g A n c bs e) (r : RdB w A' n' bs') (k : Nat) (v : Value) : RdB (w.setCell ⟨g, k, none⟩ v) A' n' bs' :=
  ⟨r.1, fun hn => by
    obtain ⟨b, o, e1, hc⟩ := r.2 hn
    exact ⟨b, o, e1, fun j hj => by rw [World.cell?_setCell_other (h := fun e2 => h.far (hc j hj) (by cases e2; rfl))]; exact hc j hj⟩⟩
theorem only_set (w : World) (g k : Nat) (v : Value) : w.grownBy (w.setCell ⟨g, k, none⟩ v) (some g) :=
  ⟨rfl, rfl, rfl, by simp, fun i _ hi => heap_setCell_other w ⟨g, k, none⟩ i v fun e => hi (by rw [e])⟩
theorem Rr.below (h : Rr w g A n c bs e) {W : World} (b : Below w.heap.size w W) : Rr W g A n c bs e :=
  ⟨(b.block g (Array.getElem?_eq_some_iff.1 h.b).1).trans h.b, h.r.below b, h.nc⟩
theorem only_from {W W' : World} (b : Below w.heap.size w W) (o : W.grownBy W' (some g)) : w.grownBy W' (some g) :=
  ⟨o.os.trans b.os, o.tape.trans b.tape, o.output.trans b.output, Nat.le_trans b.size o.size, fun i hi hne => (o.block i (Nat.lt_of_lt_of_le hi b.size) hne).trans (b.block i hi)⟩
theorem Rr.lt (h : Rr w g A n c bs e) : g < w.heap.size := (Array.getElem?_eq_some_iff.1 h.b).1
theorem Rr.setE (h : Rr w g A n c bs e) (e' : Int) : Rr (w.setCell ⟨g, 1, none⟩ (.int .i64 e')) g A n c bs e' :=
  ⟨by have := heap_setCell_same w g 1 _ _ (.int .i64 e') h.b; exact this, RdB.keep h h.r 1 _, h.nc⟩
theorem Rr.setB (h : Rr w g A n c bs e) {A' : Option Addr} {n' c' : Nat} {bs' : List Int} (r : RdB w A' n' bs') (hc : n' ≤ c') : Rr (w.setCell ⟨g, 0, none⟩ (.slice A' n' c')) g A' n' c' bs' e :=
  ⟨by have := heap_setCell_same w g 0 _ _ (.slice A' n' c') h.b; exact this, RdB.keep h r 0 _, hc⟩
theorem RdB.cut (r : RdB w A n bs) (k : Nat) : RdB w (A.map fun x => x.add k) (n - k) (bs.drop k) :=
  ⟨by rw [List.length_drop, r.1], fun hn => by
    obtain ⟨b, o, e1, hc⟩ := r.2 (by omega)
    subst e1
    refine ⟨b, o + k, by simp [Addr.add_mid], fun j hj => ?_⟩
    rw [Nat.add_assoc, hc (k + j) (by omega)]
    simp [List.getD]⟩
theorem RdB.all (r : RdB w A n bs) {k m : Nat} (hk : n ≤ k) (hm : m = 0) (A' : Option Addr) : RdB w A' m (bs.drop k) :=
  ⟨by rw [List.length_drop, r.1]; omega, fun hn => absurd hn (by omega)⟩
end
theorem rdN_le (bs : List Int) : (rdN bs).2.1 ≤ bs.length := by
  unfold rdN
  split
  · exact Nat.zero_le _
  · split
    · exact Nat.zero_le _
    · show ld bs + 1 ≤ bs.length
      omega
theorem rdN_ok {bs : List Int} (hy : By bs) : 0 ≤ (rdN bs).1 ∧ (rdN bs).1 ≤ 18446744073709551615 := by
  unfold rdN
  split
  · exact ⟨Int.le_refl _, show (0 : Int) ≤ 18446744073709551615 by decide⟩
  · split
    · exact ⟨Int.le_refl _, show (0 : Int) ≤ 18446744073709551615 by decide⟩
    · rename_i h1 h2
      refine ⟨dv_nonneg _, dv_word (by omega) (by omega) fun e => ⟨?_, by omega⟩⟩
      refine (hy (bs.getD 9 0) ?_).1
      have h3 : 9 < bs.length := by omega
      rw [show bs.getD 9 0 = bs[9] from by simp [List.getD, h3]]
      exact List.getElem_mem _
theorem rdN_pos {bs : List Int} (h : (rdN bs).2.2 = 0) : 0 < (rdN bs).2.1 := by
  unfold rdN at h ⊢
  split
  · rename_i c
    rw [if_pos c] at h
    dsimp only at h
    split at h <;> cases h
  · rename_i c
    rw [if_neg c] at h
    split
    · rename_i c2
      rw [if_pos c2] at h
      cases h
    · exact Nat.succ_pos _
theorem rdN_fault (bs : List Int) : (rdN bs).2.2 = 0 ∨ ((rdN bs).2.2 = 4 ∧ (rdN bs).1 = 0) ∨ ((rdN bs).2.2 = 5 ∧ (rdN bs).1 = 0) := by
  unfold rdN
  split
  · split
    · exact .inr (.inr ⟨rfl, rfl⟩)
    · exact .inr (.inl ⟨rfl, rfl⟩)
  · split
    · exact .inr (.inr ⟨rfl, rfl⟩)
    · exact .inl rfl

/-- What a reading answers, what is left, and the fault. -/
def sR (bs : List Int) (e most : Int) : Int × List Int × Int :=
  if e ≠ 0 then (0, bs, e) else if (rdN bs).2.2 ≠ 0 then (0, bs, (rdN bs).2.2) else if most < (rdN bs).1 then (0, bs, 5) else ((rdN bs).1, bs.drop (rdN bs).2.1, 0)
theorem like_self (A : Option Addr) : ∀ a', A = some a' → ∃ a, A = some a ∧ a'.block = a.block := fun a' h => ⟨a', h, rfl⟩
theorem like_cut (A : Option Addr) (k : Nat) : ∀ a', (A.map fun x => x.add k) = some a' → ∃ a, A = some a ∧ a'.block = a.block := by
  intro a' h
  cases A with
  | none => cases h
  | some a => cases h; exact ⟨a, rfl, by show (a.add k).block = a.block; unfold Addr.add; split <;> rfl⟩
def Did (w : World) (g : Nat) (A : Option Addr) (bs : List Int) (e : Int) (W : World) : Prop := (∃ A' n c, Rr W g A' n c bs e ∧ ∀ a', A' = some a' → ∃ a, A = some a ∧ a'.block = a.block) ∧ w.grownBy W (some g)
def SmallE (bs : List Int) (e most : Int) (g : Nat) (A : Option Addr) (w : World) (E : Ending) (W : World) : Prop := E = .returned (.int .u64 (sR bs e most).1) ∧ Did w g A (sR bs e most).2.1 (sR bs e most).2.2 W

set_option maxRecDepth 100000 in
set_option maxHeartbeats 1000000 in
theorem rsmall_any (g n c : Nat) (A : Option Addr) (bs : List Int) (e most : Int) (w : World) (h : Rr w g A n c bs e) (hy : By bs) (hn : n ≤ 100000) :
    Calls Try.prog 26 #[.pointer (some ⟨g, 0, none⟩), .int .u64 most] w fun E W => SmallE bs e most g A w E W := by
  have hnc := h.nc
  have hl := h.r.1
  have d0 := h.c0
  have d1 := h.c1
  have f0 := h.fr 0
  have f1 := h.fr 1
  have NN := Lib.hid (rn_any g n c A bs e w h hy hn)
  have HH := Lib.hid h
  by_cases he : e = 0
  case neg =>
    have R : sR bs e most = (0, bs, e) := if_pos he
    have HR := Lib.hid R
    have he1 : decide (e = 0) = false := decide_eq_false he
    have he2 : (e == 0) = false := by simpa using he
    clear R he hl
    go_enter Try.func26, Try.ntmps26
    go_wp2
    go_ret
    unfold SmallE
    rw [HR.out]
    exact ⟨rfl, ⟨A, n, c, HH.out, (by first | exact like_self _ | exact like_cut _ _ | (intro a' ha; cases ha; exact ⟨_, rfl, rfl⟩))⟩, World.grownBy.refl _ _⟩
  subst he
  have hle := rdN_le bs
  have hok := rdN_ok hy
  have hft := rdN_fault bs
  obtain ⟨⟨v, k, f⟩, hr⟩ : ∃ r, rdN bs = r := ⟨_, rfl⟩
  have R0 : sR bs 0 most = if f ≠ 0 then (0, bs, f) else if most < v then (0, bs, 5) else (v, bs.drop k, 0) := by unfold sR; rw [if_neg (by simp), hr]
  unfold NatE at NN
  rw [hr] at hle hok hft NN
  dsimp only at hle hok hft NN
  clear hr
  by_cases hf : f = 0
  case neg =>
    have HR := Lib.hid (R0.trans (if_pos hf))
    have hf1 : decide (f = 0) = false := decide_eq_false hf
    have hf2 : (f == 0) = false := by simpa using hf
    clear R0 hf hl hle hft
    go_enter Try.func26, Try.ntmps26
    go_wp2_with fail
    refine NN.out.mono ?_; rintro e w1 ⟨rfl, rfl⟩
    go_wp2_with fail
    go_ret
    unfold SmallE
    rw [HR.out]
    exact ⟨rfl, ⟨A, n, c, HH.out.setE f, (by first | exact like_self _ | exact like_cut _ _ | (intro a' ha; cases ha; exact ⟨_, rfl, rfl⟩))⟩, only_set _ _ _ _⟩
  subst hf
  rw [if_neg (by simp)] at R0
  by_cases hv : most < v
  case pos =>
    have HR := Lib.hid (R0.trans (if_pos hv))
    clear R0 hl hle hft
    go_enter Try.func26, Try.ntmps26
    go_wp2_with fail
    refine NN.out.mono ?_; rintro e w1 ⟨rfl, rfl⟩
    go_wp2_with fail
    go_ret
    unfold SmallE
    rw [HR.out]
    exact ⟨rfl, ⟨A, n, c, HH.out.setE 5, (by first | exact like_self _ | exact like_cut _ _ | (intro a' ha; cases ha; exact ⟨_, rfl, rfl⟩))⟩, only_set _ _ _ _⟩
  case neg =>
    have HR := Lib.hid (R0.trans (if_neg hv))
    have hkn : k ≤ n := by omega
    clear R0 hle hft
    go_enter Try.func26, Try.ntmps26
    go_wp2_with fail
    refine NN.out.mono ?_; rintro e w1 ⟨rfl, rfl⟩
    go_wp2_with fail
    all_goals
      go_ret
      unfold SmallE
      rw [HR.out]
      first
        | exact ⟨rfl, ⟨_, _, _, HH.out.setB (HH.out.r.cut k) (by omega), (by first | exact like_self _ | exact like_cut _ _ | (intro a' ha; cases ha; exact ⟨_, rfl, rfl⟩))⟩, only_set _ _ _ _⟩
        | exact ⟨rfl, ⟨_, _, _, HH.out.setB (HH.out.r.all (by omega) (by omega) A) (by omega), (by first | exact like_self _ | exact like_cut _ _ | (intro a' ha; cases ha; exact ⟨_, rfl, rfl⟩))⟩, only_set _ _ _ _⟩

def top : Int := 18446744073709551615
set_option maxRecDepth 100000 in
theorem rnatr_any (g n c : Nat) (A : Option Addr) (bs : List Int) (e : Int) (w : World) (h : Rr w g A n c bs e) (hy : By bs) (hn : n ≤ 100000) :
    Calls Try.prog 24 #[.pointer (some ⟨g, 0, none⟩)] w fun E W => SmallE bs e top g A w E W := by
  have S := Lib.hid (rsmall_any g n c A bs e top w h hy hn)
  unfold top at S
  clear h hy
  go_enter Try.func24, Try.ntmps24
  go_wp2_with fail
  refine S.out.mono ?_; rintro e1 w1 ⟨rfl, hd⟩
  have D := Lib.hid hd
  clear hd
  go_wp2_with fail
  go_ret
  exact ⟨rfl, D.out⟩

/-- A whole number out of its form. -/
def zz (n : Int) : Int := if n % 2 = 0 then n / 2 else -(n / 2) - 1
def IntE (bs : List Int) (e : Int) (g : Nat) (A : Option Addr) (w : World) (E : Ending) (W : World) : Prop := E = .returned (.int .i64 (zz (sR bs e top).1)) ∧ Did w g A (sR bs e top).2.1 (sR bs e top).2.2 W
theorem sR_bd {bs : List Int} (hy : By bs) (e most : Int) : 0 ≤ (sR bs e most).1 ∧ (sR bs e most).1 ≤ 18446744073709551615 := by
  have := rdN_ok hy
  unfold sR
  split
  · exact ⟨Int.le_refl _, show (0 : Int) ≤ 18446744073709551615 by decide⟩
  · split
    · exact ⟨Int.le_refl _, show (0 : Int) ≤ 18446744073709551615 by decide⟩
    · split
      · exact ⟨Int.le_refl _, show (0 : Int) ≤ 18446744073709551615 by decide⟩
      · exact this
set_option maxRecDepth 100000 in
theorem rintr_any (g n c : Nat) (A : Option Addr) (bs : List Int) (e : Int) (w : World) (h : Rr w g A n c bs e) (hy : By bs) (hn : n ≤ 100000) :
    Calls Try.prog 28 #[.pointer (some ⟨g, 0, none⟩)] w fun E W => IntE bs e g A w E W := by
  have S := Lib.hid (rnatr_any g n c A bs e w h hy hn)
  have hb := sR_bd hy e top
  unfold SmallE at S
  unfold IntE
  obtain ⟨⟨v, l, f⟩, hr⟩ : ∃ r, sR bs e top = r := ⟨_, rfl⟩
  rw [hr] at S hb
  rw [hr]
  dsimp only at S hb ⊢
  clear h hy hr
  by_cases h2 : v % 2 = 0
  · have Z := Lib.hid (show zz v = v / 2 from if_pos h2)
    rw [Z.out]
    go_enter Try.func28, Try.ntmps28
    go_wp2_with fail
    refine S.out.mono ?_; rintro e1 w1 ⟨rfl, hd⟩
    have D := Lib.hid hd
    clear hd
    go_wp2_with fail
    go_ret
    exact ⟨rfl, D.out⟩
  · have Z := Lib.hid (show zz v = -(v / 2) - 1 from if_neg h2)
    rw [Z.out]
    have h3 : decide (v % 2 = 0) = false := decide_eq_false h2
    have h4 : (v % 2 == 0) = false := by simpa using h2
    clear h2
    go_enter Try.func28, Try.ntmps28
    go_wp2_with fail
    refine S.out.mono ?_; rintro e1 w1 ⟨rfl, hd⟩
    have D := Lib.hid hd
    clear hd
    go_wp2_with fail
    go_ret
    exact ⟨rfl, D.out⟩

/-- What a flag's reading answers. -/
def fR (bs : List Int) (e : Int) : Bool × List Int × Int :=
  if e ≠ 0 then (false, bs, e) else if bs.length = 0 then (false, bs, 4) else if 1 < bs.getD 0 0 then (false, bs, 5) else (decide (bs.getD 0 0 = 1), bs.drop 1, 0)
def FlagE (bs : List Int) (e : Int) (g : Nat) (A : Option Addr) (w : World) (E : Ending) (W : World) : Prop := E = .returned (.bool (fR bs e).1) ∧ Did w g A (fR bs e).2.1 (fR bs e).2.2 W
set_option maxRecDepth 100000 in
set_option maxHeartbeats 1000000 in
theorem rflagr_any (g n c : Nat) (A : Option Addr) (bs : List Int) (e : Int) (w : World) (h : Rr w g A n c bs e) (hy : By bs) (hn : n ≤ 100000) :
    Calls Try.prog 30 #[.pointer (some ⟨g, 0, none⟩)] w fun E W => FlagE bs e g A w E W := by
  have hnc := h.nc
  have hl := h.r.1
  have d0 := h.c0
  have d1 := h.c1
  have f0 := h.fr 0
  have f1 := h.fr 1
  have HH := Lib.hid h
  by_cases he : e = 0
  case neg =>
    have HR := Lib.hid (show fR bs e = (false, bs, e) from if_pos he)
    have he1 : decide (e = 0) = false := decide_eq_false he
    have he2 : (e == 0) = false := by simpa using he
    clear he hl h
    go_enter Try.func30, Try.ntmps30
    go_wp2
    go_ret
    unfold FlagE
    rw [HR.out]
    exact ⟨rfl, ⟨A, n, c, HH.out, (by first | exact like_self _ | exact like_cut _ _ | (intro a' ha; cases ha; exact ⟨_, rfl, rfl⟩))⟩, World.grownBy.refl _ _⟩
  subst he
  have R0 : fR bs 0 = if bs.length = 0 then (false, bs, 4) else if 1 < bs.getD 0 0 then (false, bs, 5) else (decide (bs.getD 0 0 = 1), bs.drop 1, 0) := if_neg (by simp)
  rcases Nat.eq_zero_or_pos n with h0 | h0
  · have HR := Lib.hid (R0.trans (if_pos (by omega)))
    subst h0
    clear R0 hl h
    go_enter Try.func30, Try.ntmps30
    go_wp2
    go_ret
    unfold FlagE
    rw [HR.out]
    exact ⟨rfl, ⟨A, 0, c, HH.out.setE 4, (by first | exact like_self _ | exact like_cut _ _ | (intro a' ha; cases ha; exact ⟨_, rfl, rfl⟩))⟩, only_set _ _ _ _⟩
  rw [if_neg (by omega)] at R0
  obtain ⟨b, o, rfl, hc⟩ := h.r.2 h0
  have hcell := hc 0 h0
  have hx : 0 ≤ bs.getD 0 0 ∧ bs.getD 0 0 ≤ 255 := hy _ (by
    have h3 : 0 < bs.length := by omega
    rw [show bs.getD 0 0 = bs[0] from by simp [List.getD, h3]]
    exact List.getElem_mem _)
  obtain ⟨x, hxe⟩ : ∃ x, bs.getD 0 0 = x := ⟨_, rfl⟩
  rw [hxe] at R0 hcell hx
  rw [Nat.add_zero] at hcell
  clear hc hxe
  by_cases h1 : 1 < x
  · have HR := Lib.hid (R0.trans (if_pos h1))
    clear R0 hl h
    go_enter Try.func30, Try.ntmps30
    go_wp2
    go_ret
    unfold FlagE
    rw [HR.out]
    exact ⟨rfl, ⟨_, n, c, HH.out.setE 5, (by first | exact like_self _ | exact like_cut _ _ | (intro a' ha; cases ha; exact ⟨_, rfl, rfl⟩))⟩, only_set _ _ _ _⟩
  · have HR := Lib.hid (R0.trans (if_neg h1))
    have hfar := HH.out.far (show w.cell? ⟨b, o + 0, none⟩ = some (.int .u8 x) from hcell)
    clear R0 hl h
    go_enter Try.func30, Try.ntmps30
    go_wp2
    all_goals
      go_ret
      unfold FlagE
      rw [HR.out]
      first
        | exact ⟨rfl, ⟨_, _, _, HH.out.setB (HH.out.r.cut 1) (by omega), (by first | exact like_self _ | exact like_cut _ _ | (intro a' ha; cases ha; exact ⟨_, rfl, rfl⟩))⟩, only_set _ _ _ _⟩
        | exact ⟨rfl, ⟨_, _, _, HH.out.setB (HH.out.r.all (by omega) (by omega) _) (by omega), (by first | exact like_self _ | exact like_cut _ _ | (intro a' ha; cases ha; exact ⟨_, rfl, rfl⟩))⟩, only_set _ _ _ _⟩

set_option maxRecDepth 100000 in
theorem rfail_any (g n c : Nat) (A : Option Addr) (bs : List Int) (e f : Int) (w : World) (h : Rr w g A n c bs e) :
    Calls Try.prog 34 #[.pointer (some ⟨g, 0, none⟩), .int .i64 f] w fun E W => E = .returned (.tuple #[]) ∧ Did w g A bs (if e = 0 then f else e) W := by
  have d1 := h.c1
  have f1 := h.fr 1
  have HH := Lib.hid h
  clear h
  by_cases he : e = 0
  · subst he
    rw [if_pos rfl]
    go_enter Try.func34, Try.ntmps34
    go_wp2
    go_end0
    exact ⟨rfl, ⟨A, n, c, HH.out.setE f, (by first | exact like_self _ | exact like_cut _ _ | (intro a' ha; cases ha; exact ⟨_, rfl, rfl⟩))⟩, only_set _ _ _ _⟩
  · rw [if_neg he]
    have he1 : decide (e = 0) = false := decide_eq_false he
    have he2 : (e == 0) = false := by simpa using he
    clear he
    go_enter Try.func34, Try.ntmps34
    go_wp2
    go_end0
    exact ⟨rfl, ⟨A, n, c, HH.out, (by first | exact like_self _ | exact like_cut _ _ | (intro a' ha; cases ha; exact ⟨_, rfl, rfl⟩))⟩, World.grownBy.refl _ _⟩
set_option maxRecDepth 100000 in
theorem rdone_any (g n c : Nat) (A : Option Addr) (bs : List Int) (e : Int) (w : World) (h : Rr w g A n c bs e) (hn : n ≤ 100000) :
    Calls Try.prog 37 #[.pointer (some ⟨g, 0, none⟩)] w fun E W => E = .returned (.int .i64 (if e = 0 ∧ 0 < bs.length then 5 else e)) ∧ w = W := by
  have d0 := h.c0
  have d1 := h.c1
  have hl := h.r.1
  rw [hl]
  clear h hl
  by_cases he : e = 0
  · subst he
    rcases Nat.eq_zero_or_pos n with h0 | h0
    · subst h0
      rw [if_neg (by omega)]
      go_enter Try.func37, Try.ntmps37
      go_wp2
      go_ret
      exact ⟨rfl, rfl⟩
    · rw [if_pos ⟨rfl, h0⟩]
      go_enter Try.func37, Try.ntmps37
      go_wp2
      go_ret
      exact ⟨rfl, rfl⟩
  · rw [if_neg fun c => he c.1]
    have he1 : decide (e = 0) = false := decide_eq_false he
    have he2 : (e == 0) = false := by simpa using he
    clear he
    go_enter Try.func37, Try.ntmps37
    go_wp2
    go_ret
    exact ⟨rfl, rfl⟩

/-- What a text's reading answers. -/
def tR (bs : List Int) (e most : Int) : List Int × List Int × Int :=
  if e ≠ 0 then ([], bs, e) else if (rdN bs).2.2 ≠ 0 then ([], bs, (rdN bs).2.2) else if (most < 0 ∧ 0 < (rdN bs).1) ∨ (0 ≤ most ∧ most < (rdN bs).1) then ([], bs, 3)
  else if ((bs.length - (rdN bs).2.1 : Nat) : Int) < (rdN bs).1 then ([], bs, 4) else ((bs.drop (rdN bs).2.1).take (rdN bs).1.toNat, bs.drop ((rdN bs).2.1 + (rdN bs).1.toNat), 0)
def TextE (bs : List Int) (e most : Int) (g : Nat) (A : Option Addr) (w : World) (E : Ending) (W : World) : Prop :=
  ∃ v, E = .returned v ∧ W.ownsRow w.heap.size 5 1 v (tR bs e most).1.length ((tR bs e most).1.map (Value.int .u8)) ∧ Did w g A (tR bs e most).2.1 (tR bs e most).2.2 W
theorem nil_own (W : World) (base : Nat) : W.ownsRow base 5 1 (.slice none 0 0) ([] : List Int).length (([] : List Int).map (Value.int .u8)) := World.ownsRow_nil _ _ _ _

set_option maxRecDepth 100000 in
set_option maxHeartbeats 2000000 in
theorem rtextr_any (g n c : Nat) (A : Option Addr) (bs : List Int) (e most : Int) (w : World) (h : Rr w g A n c bs e) (hy : By bs) (hn : n ≤ 100000) (hm : -9223372036854775808 ≤ most ∧ most ≤ 9223372036854775807) :
    Calls Try.prog 32 #[.pointer (some ⟨g, 0, none⟩), .int .i64 most] w fun E W => TextE bs e most g A w E W := by
  have hnc := h.nc
  have hl := h.r.1
  have d0 := h.c0
  have d1 := h.c1
  have f0 := h.fr 0
  have f1 := h.fr 1
  have NN := Lib.hid (rn_any g n c A bs e w h hy hn)
  have HH := Lib.hid h
  by_cases he : e = 0
  case neg =>
    have HR := Lib.hid (show tR bs e most = ([], bs, e) from if_pos he)
    have he1 : decide (e = 0) = false := decide_eq_false he
    have he2 : (e == 0) = false := by simpa using he
    clear he hl
    go_enter Try.func32, Try.ntmps32
    go_wp2
    go_ret
    unfold TextE
    rw [HR.out]
    exact ⟨_, rfl, nil_own _ _, ⟨A, n, c, HH.out, (by first | exact like_self _ | exact like_cut _ _ | (intro a' ha; cases ha; exact ⟨_, rfl, rfl⟩))⟩, World.grownBy.refl _ _⟩
  subst he
  have hle := rdN_le bs
  have hok := rdN_ok hy
  have hft := rdN_fault bs
  have hkp0 := fun c => rdN_pos (bs := bs) c
  obtain ⟨⟨v, k, f⟩, hr⟩ : ∃ r, rdN bs = r := ⟨_, rfl⟩
  have R0 : tR bs 0 most = if f ≠ 0 then ([], bs, f) else if (most < 0 ∧ 0 < v) ∨ (0 ≤ most ∧ most < v) then ([], bs, 3) else if ((bs.length - k : Nat) : Int) < v then ([], bs, 4) else ((bs.drop k).take v.toNat, bs.drop (k + v.toNat), 0) := by unfold tR; rw [if_neg (by simp), hr]
  unfold NatE at NN
  rw [hr] at hle hok hft NN hkp0
  dsimp only at hle hok hft NN hkp0
  rw [hl] at R0 hle
  clear hr
  by_cases hf : f = 0
  case neg =>
    have HR := Lib.hid (R0.trans (if_pos hf))
    have hf1 : decide (f = 0) = false := decide_eq_false hf
    have hf2 : (f == 0) = false := by simpa using hf
    clear R0 hf hl hft hkp0
    go_enter Try.func32, Try.ntmps32
    go_wp2_with fail
    refine NN.out.mono ?_; rintro e w1 ⟨rfl, rfl⟩
    go_wp2_with fail
    go_ret
    unfold TextE
    rw [HR.out]
    exact ⟨_, rfl, nil_own _ _, ⟨A, n, c, HH.out.setE f, (by first | exact like_self _ | exact like_cut _ _ | (intro a' ha; cases ha; exact ⟨_, rfl, rfl⟩))⟩, only_set _ _ _ _⟩
  subst hf
  have hkp := hkp0 rfl
  clear hkp0
  rw [if_neg (by simp)] at R0
  by_cases hv : (most < 0 ∧ 0 < v) ∨ (0 ≤ most ∧ most < v)
  case pos =>
    have HR := Lib.hid (R0.trans (if_pos hv))
    clear R0 hl hft
    rcases hv with ⟨v1, v2⟩ | ⟨v1, v2⟩
    all_goals
      go_enter Try.func32, Try.ntmps32
      go_wp2_with fail
      refine NN.out.mono ?_; rintro e w1 ⟨rfl, rfl⟩
      go_wp2_with fail
      go_ret
      unfold TextE
      rw [HR.out]
      exact ⟨_, rfl, nil_own _ _, ⟨A, n, c, HH.out.setE 3, (by first | exact like_self _ | exact like_cut _ _ | (intro a' ha; cases ha; exact ⟨_, rfl, rfl⟩))⟩, only_set _ _ _ _⟩
  rw [if_neg hv] at R0
  have hcase : (most < 0 ∧ v = 0) ∨ (0 ≤ most ∧ v ≤ most) := by omega
  by_cases hs : ((n - k : Nat) : Int) < v
  case pos =>
    have HR := Lib.hid (R0.trans (if_pos hs))
    have hs' : (n : Int) - k < v := by omega
    clear R0 hl hft hv
    rcases hcase with ⟨v1, v2⟩ | ⟨v1, v2⟩
    · omega
    · go_enter Try.func32, Try.ntmps32
      go_wp2_with fail
      refine NN.out.mono ?_; rintro e w1 ⟨rfl, rfl⟩
      go_wp2_with fail
      go_ret
      unfold TextE
      rw [HR.out]
      exact ⟨_, rfl, nil_own _ _, ⟨A, n, c, HH.out.setE 4, (by first | exact like_self _ | exact like_cut _ _ | (intro a' ha; cases ha; exact ⟨_, rfl, rfl⟩))⟩, only_set _ _ _ _⟩
  case neg =>
    have HR := Lib.hid (R0.trans (if_neg hs))
    have hk0 := hkp
    obtain ⟨V, rfl⟩ : ∃ V : Nat, v = V := Int.eq_ofNat_of_zero_le hok.1
    obtain ⟨b, o, rfl, hc⟩ := h.r.2 (by omega)
    rw [Int.toNat_natCast] at HR
    have hkV : k + V ≤ n := by omega
    have HN := Lib.hid h.r
    have O := Lib.hid (own_none w)
    have Q := Lib.hid ((Below.refl _ w).alloc (Nat.le_refl _) (.cells #[] 5))
    have HH1 := Lib.hid (h.below Q.out)
    have d0' := HH1.out.c0
    have f0' := HH1.out.fr 0
    have HL : Hid ((((bs.drop k).take V).map (Value.int .u8)).length = V * 1) := Lib.hid (by simp; omega)
    obtain ⟨i0, hi0, hz0, hz1, hz2⟩ := info_parts info_u8
    clear R0 hft hv hc hl hle hok h hkp
    by_cases hck : c = k
    · obtain rfl : V = 0 := by omega
      obtain rfl : n = k := by omega
      obtain rfl : c = n := by omega
      rcases hcase with ⟨v1, v2⟩ | ⟨v1, v2⟩
      all_goals
        go_enter Try.func32, Try.ntmps32
        go_wp2_with fail
        refine NN.out.mono ?_; rintro e w1 ⟨rfl, rfl⟩
        go_wp2_with fail
        go_ret
        unfold TextE
        rw [HR.out]
        exact ⟨_, rfl, ownsRow_setCell_below O.out HH.out.lt _, ⟨_, _, _, HH1.out.setB (HH1.out.r.all (by omega) rfl _) (Nat.le_refl _), (by first | exact like_self _ | exact like_cut _ _ | (intro a' ha; cases ha; exact ⟨_, rfl, rfl⟩))⟩, only_from Q.out (only_set _ _ _ _)⟩
    · have NW : Hid (∀ j u, (((bs.drop k).take V).map (Value.int .u8))[j]? = some u → (w.alloc (.cells #[] 5)).cell? ((⟨b, o + k, none⟩ : Addr).add j) = some u) := Lib.hid (by
        intro j u hj
        have hjl : j < V := by have := (List.getElem?_eq_some_iff.1 hj).1; rw [HL.out] at this; omega
        obtain ⟨b', o', e1, hc⟩ := HH1.out.r.2 (by omega)
        cases e1
        rw [Addr.add_mid, Nat.add_assoc, hc (k + j) (by omega), ← hj]
        have hb : k + j < bs.length := by rw [HN.out.1]; omega
        simp [List.getD, hb, hjl])
      rcases hcase with ⟨v1, v2⟩ | ⟨v1, v2⟩
      · obtain rfl : V = 0 := by omega
        go_enter Try.func32, Try.ntmps32
        go_wp2_with fail
        refine NN.out.mono ?_; rintro e w1 ⟨rfl, rfl⟩
        go_wp2_with (at_builtin; refine wpList_append_own _ rfl (.tmp 60) (.tmp 70) 23 rfl w.heap.size 5 i0 (.int .u8 0) 1 1 Try.underlying23 hi0 hz0 hz1 hz2 rfl (by decide) (.slice (some ⟨w.heap.size, 0, none⟩) 0 0) 0 [] rfl O.out ⟨b, o + k, none⟩ 0 (c - k) (((bs.drop k).take 0).map (Value.int .u8)) rfl HL.out NW.out (one_u8 _) (by unfold maxLen; omega) (by omega) (one_alloc _ _) ?_; intro v2 w2 hown2 hgrow2 _; rw [Nat.zero_add, List.nil_append] at hown2; have HG := Lib.hid (Q.out.grown hgrow2 (one_alloc _ _) (by intro k hk; simp [Value.ownBlock] at hk; omega)); have H2 := Lib.hid (HH.out.below HG.out); have d2 := H2.out.c0; have f2 := H2.out.fr 0; have HO := Lib.hid hown2; clear hown2 hgrow2)
        all_goals
          go_ret
          unfold TextE
          rw [HR.out]
          refine ⟨_, rfl, ?_, ?_, only_from HG.out (only_set _ _ _ _)⟩
          · have e : ((bs.drop k).take 0).length = 0 := by have := HL.out; rw [List.length_map] at this; omega
            rw [e]
            exact ownsRow_setCell_below HO.out HH.out.lt _
          · have r1 := H2.out.r.cut (k + 0)
            rw [show (some (⟨b, o, none⟩ : Addr)).map (fun x => x.add (k + 0)) = some ⟨b, o + (k + 0), none⟩ from by simp [Addr.add_mid]] at r1
            have r2 := fun (m : Nat) (hm : m = 0) (hk : n ≤ k + 0) => H2.out.r.all (k := k + 0) (m := m) hk hm (some ⟨b, o, none⟩)
            first
              | exact ⟨_, _, _, H2.out.setB r1 (by omega), (by first | exact like_self _ | exact like_cut _ _ | (intro a' ha; cases ha; exact ⟨_, rfl, rfl⟩))⟩
              | exact ⟨_, _, _, H2.out.setB (r2 _ (by omega) (by omega)) (by omega), (by first | exact like_self _ | exact like_cut _ _ | (intro a' ha; cases ha; exact ⟨_, rfl, rfl⟩))⟩
      · skip
        go_enter Try.func32, Try.ntmps32
        go_wp2_with fail
        refine NN.out.mono ?_; rintro e w1 ⟨rfl, rfl⟩
        go_wp2_with (first
          | (at_builtin; refine wpList_append_own _ rfl (.tmp 60) (.tmp 70) 23 rfl w.heap.size 5 i0 (.int .u8 0) 1 1 Try.underlying23 hi0 hz0 hz1 hz2 rfl (by decide) (.slice (some ⟨w.heap.size, 0, none⟩) 0 0) 0 [] rfl O.out ⟨b, o + k, none⟩ (k + V - k) (c - k) (((bs.drop k).take V).map (Value.int .u8)) rfl (HL.out.trans (by omega)) NW.out (one_u8 _) (by unfold maxLen; omega) (by omega) (one_alloc _ _) ?_; intro v2 w2 hown2 hgrow2 _; rw [Nat.zero_add, show k + V - k = V from by omega, List.nil_append] at hown2; have HG := Lib.hid (Q.out.grown hgrow2 (one_alloc _ _) (by intro k hk; simp [Value.ownBlock] at hk; omega)); have H2 := Lib.hid (HH.out.below HG.out); have d2 := H2.out.c0; have f2 := H2.out.fr 0; have HO := Lib.hid hown2; clear hown2 hgrow2)
          | (at_builtin; refine wpList_append_own _ rfl (.tmp 60) (.tmp 70) 23 rfl w.heap.size 5 i0 (.int .u8 0) 1 1 Try.underlying23 hi0 hz0 hz1 hz2 rfl (by decide) (.slice (some ⟨w.heap.size, 0, none⟩) 0 0) 0 [] rfl O.out ⟨b, o + k, none⟩ (((k : Int) + V).toNat - k) (c - k) (((bs.drop k).take V).map (Value.int .u8)) rfl (HL.out.trans (by omega)) NW.out (one_u8 _) (by unfold maxLen; omega) (by omega) (one_alloc _ _) ?_; intro v2 w2 hown2 hgrow2 _; rw [Nat.zero_add, show ((k : Int) + V).toNat - k = V from by omega, List.nil_append] at hown2; have HG := Lib.hid (Q.out.grown hgrow2 (one_alloc _ _) (by intro k hk; simp [Value.ownBlock] at hk; omega)); have H2 := Lib.hid (HH.out.below HG.out); have d2 := H2.out.c0; have f2 := H2.out.fr 0; have HO := Lib.hid hown2; clear hown2 hgrow2))
        all_goals
          go_ret
          unfold TextE
          rw [HR.out]
          refine ⟨_, rfl, ?_, ?_, only_from HG.out (only_set _ _ _ _)⟩
          · have e : ((bs.drop k).take V).length = V := by have := HL.out; rw [List.length_map] at this; omega
            rw [e]
            exact ownsRow_setCell_below HO.out HH.out.lt _
          · have r1 := H2.out.r.cut (k + V)
            rw [show (some (⟨b, o, none⟩ : Addr)).map (fun x => x.add (k + V)) = some ⟨b, o + (k + V), none⟩ from by simp [Addr.add_mid]] at r1
            have r2 := fun (m : Nat) (hm : m = 0) (hk : n ≤ k + V) => H2.out.r.all (k := k + V) (m := m) hk hm (some ⟨b, o, none⟩)
            first
              | exact ⟨_, _, _, H2.out.setB r1 (by omega), (by first | exact like_self _ | exact like_cut _ _ | (intro a' ha; cases ha; exact ⟨_, rfl, rfl⟩))⟩
              | exact ⟨_, _, _, H2.out.setB (r2 _ (by omega) (by omega)) (by omega), (by first | exact like_self _ | exact like_cut _ _ | (intro a' ha; cases ha; exact ⟨_, rfl, rfl⟩))⟩
end Go.Proofs.Ytehmheohojnpmaa
