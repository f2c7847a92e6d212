/- Texts of a proof, laid together: Re, Rf, Wdl, Qa, Vm, Qt. -/
import Derived.Deep.MidRow
import Derived.Test.YtbmlpokkojhhjaaGreatG09
import Derived.Test.YtbmlpokkojhhjaaGreatG07
import Derived.Test.YtbmlpokkojhhjaaGreatG08
import Derived.Test.YtbmlpokkojhhjaaGreatG02
/- Contracts of the document's plain reader, its calls. -/
namespace Go.Proofs.YtbmlpokkojhhjaaGreat
open Go.RowKit

section
variable {w : World} {g : Nat} {A : Option Addr} {n c : Nat} {bs : List Int} {e : Int}
theorem Rr.far (h : Rr w g A n c bs e) {b o j : Nat} {x : Int} (hc : w.cell? ⟨b, o + j, none⟩ = some (.int .u8 x)) : b ≠ g := by
  intro hb
  subst hb
  rw [cell_of_row _ _ _ _ _ _ h.b] at hc
  match hk : o + j with
  | 0 => rw [hk] at hc; simp at hc
  | 1 => rw [hk] at hc; simp at hc
  | i + 2 => rw [hk] at hc; simp at hc
theorem RdB.keep {A' : Option Addr} {n' : Nat} {bs' : List Int} (h : Rr w g A n c bs e) (r : RdB w A' n' bs') (k : Nat) (v : Value) : RdB (w.setCell ⟨g, k, none⟩ v) A' n' bs' :=
  ⟨r.1, fun hn => by
    obtain ⟨b, o, e1, hc⟩ := r.2 hn
    exact ⟨b, o, e1, fun j hj => by rw [World.cell?_setCell_other (h := fun e2 => h.far (hc j hj) (by cases e2; rfl))]; exact hc j hj⟩⟩
theorem only_set (w : World) (g k : Nat) (v : Value) : w.grownBy (w.setCell ⟨g, k, none⟩ v) (some g) :=
  ⟨rfl, rfl, rfl, by simp, fun i _ hi => heap_setCell_other w ⟨g, k, none⟩ i v fun e => hi (by rw [e])⟩
theorem Rr.below (h : Rr w g A n c bs e) {W : World} (b : Below w.heap.size w W) : Rr W g A n c bs e :=
  ⟨(b.block g (Array.getElem?_eq_some_iff.1 h.b).1).trans h.b, h.r.below b, h.nc⟩
theorem only_from {W W' : World} (b : Below w.heap.size w W) (o : W.grownBy W' (some g)) : w.grownBy W' (some g) :=
  ⟨o.os.trans b.os, o.tape.trans b.tape, o.output.trans b.output, Nat.le_trans b.size o.size, fun i hi hne => (o.block i (Nat.lt_of_lt_of_le hi b.size) hne).trans (b.block i hi)⟩
theorem Rr.lt (h : Rr w g A n c bs e) : g < w.heap.size := (Array.getElem?_eq_some_iff.1 h.b).1
theorem Rr.setE (h : Rr w g A n c bs e) (e' : Int) : Rr (w.setCell ⟨g, 1, none⟩ (.int .i64 e')) g A n c bs e' :=
  ⟨by have := heap_setCell_same w g 1 _ _ (.int .i64 e') h.b; exact this, RdB.keep h h.r 1 _, h.nc⟩
theorem Rr.setB (h : Rr w g A n c bs e) {A' : Option Addr} {n' c' : Nat} {bs' : List Int} (r : RdB w A' n' bs') (hc : n' ≤ c') : Rr (w.setCell ⟨g, 0, none⟩ (.slice A' n' c')) g A' n' c' bs' e :=
  ⟨by have := heap_setCell_same w g 0 _ _ (.slice A' n' c') h.b; exact this, RdB.keep h r 0 _, hc⟩
theorem RdB.cut (r : RdB w A n bs) (k : Nat) : RdB w (A.map fun x => x.add k) (n - k) (bs.drop k) :=
  ⟨by rw [List.length_drop, r.1], fun hn => by
    obtain ⟨b, o, e1, hc⟩ := r.2 (by omega)
    subst e1
    refine ⟨b, o + k, by simp [Addr.add_mid], fun j hj => ?_⟩
    rw [Nat.add_assoc, hc (k + j) (by omega)]
    simp [List.getD]⟩
theorem RdB.all (r : RdB w A n bs) {k m : Nat} (hk : n ≤ k) (hm : m = 0) (A' : Option Addr) : RdB w A' m (bs.drop k) :=
  ⟨by rw [List.length_drop, r.1]; omega, fun hn => absurd hn (by omega)⟩
end
theorem rdN_le (bs : List Int) : (rdN bs).2.1 ≤ bs.length := by
  unfold rdN
  split
  · exact Nat.zero_le _
  · split
    · exact Nat.zero_le _
    · show ld bs + 1 ≤ bs.length
      omega
theorem rdN_ok {bs : List Int} (hy : By bs) : 0 ≤ (rdN bs).1 ∧ (rdN bs).1 ≤ 18446744073709551615 := by
  unfold rdN
  split
  · exact ⟨Int.le_refl _, show (0 : Int) ≤ 18446744073709551615 by decide⟩
  · split
    · exact ⟨Int.le_refl _, show (0 : Int) ≤ 18446744073709551615 by decide⟩
    · rename_i h1 h2
      refine ⟨dv_nonneg _, dv_word (by omega) (by omega) fun e => ⟨?_, by omega⟩⟩
      refine (hy (bs.getD 9 0) ?_).1
      have h3 : 9 < bs.length := by omega
      rw [show bs.getD 9 0 = bs[9] from by simp [List.getD, h3]]
      exact List.getElem_mem _
theorem rdN_pos {bs : List Int} (h : (rdN bs).2.2 = 0) : 0 < (rdN bs).2.1 := by
  unfold rdN at h ⊢
  split
  · rename_i c
    rw [if_pos c] at h
    dsimp only at h
    split at h <;> cases h
  · rename_i c
    rw [if_neg c] at h
    split
    · rename_i c2
      rw [if_pos c2] at h
      cases h
    · exact Nat.succ_pos _
theorem rdN_fault (bs : List Int) : (rdN bs).2.2 = 0 ∨ ((rdN bs).2.2 = 4 ∧ (rdN bs).1 = 0) ∨ ((rdN bs).2.2 = 5 ∧ (rdN bs).1 = 0) := by
  unfold rdN
  split
  · split
    · exact .inr (.inr ⟨rfl, rfl⟩)
    · exact .inr (.inl ⟨rfl, rfl⟩)
  · split
    · exact .inr (.inr ⟨rfl, rfl⟩)
    · exact .inl rfl

/-- What a reading answers, what is left, and the fault. -/
def sR (bs : List Int) (e most : Int) : Int × List Int × Int :=
  if e ≠ 0 then (0, bs, e) else if (rdN bs).2.2 ≠ 0 then (0, bs, (rdN bs).2.2) else if most < (rdN bs).1 then (0, bs, 5) else ((rdN bs).1, bs.drop (rdN bs).2.1, 0)
theorem like_self (A : Option Addr) : ∀ a', A = some a' → ∃ a, A = some a ∧ a'.block = a.block := fun a' h => ⟨a', h, rfl⟩
theorem like_cut (A : Option Addr) (k : Nat) : ∀ a', (A.map fun x => x.add k) = some a' → ∃ a, A = some a ∧ a'.block = a.block := by
  intro a' h
  cases A with
  | none => cases h
  | some a => cases h; exact ⟨a, rfl, by show (a.add k).block = a.block; unfold Addr.add; split <;> rfl⟩
def Did (w : World) (g : Nat) (A : Option Addr) (bs : List Int) (e : Int) (W : World) : Prop := (∃ A' n c, Rr W g A' n c bs e ∧ ∀ a', A' = some a' → ∃ a, A = some a ∧ a'.block = a.block) ∧ w.grownBy W (some g)
def SmallE (bs : List Int) (e most : Int) (g : Nat) (A : Option Addr) (w : World) (E : Ending) (W : World) : Prop := E = .returned (.int .u64 (sR bs e most).1) ∧ Did w g A (sR bs e most).2.1 (sR bs e most).2.2 W

set_option maxRecDepth 100000 in
set_option maxHeartbeats 1000000 in
theorem rsmall_any (g n c : Nat) (A : Option Addr) (bs : List Int) (e most : Int) (w : World) (h : Rr w g A n c bs e) (hy : By bs) (hn : n ≤ 100000) :
    Calls Tryz.prog 17 #[.pointer (some ⟨g, 0, none⟩), .int .u64 most] w fun E W => SmallE bs e most g A w E W := by
  have hnc := h.nc
  have hl := h.r.1
  have d0 := h.c0
  have d1 := h.c1
  have f0 := h.fr 0
  have f1 := h.fr 1
  have NN := Lib.hid (rn_any g n c A bs e w h hy hn)
  have HH := Lib.hid h
  by_cases he : e = 0
  case neg =>
    have R : sR bs e most = (0, bs, e) := if_pos he
    have HR := Lib.hid R
    have he1 : decide (e = 0) = false := decide_eq_false he
    have he2 : (e == 0) = false := by simpa using he
    clear R he hl
    go_enter Tryz.func17, Tryz.ntmps17
    go_wp2
    go_ret
    unfold SmallE
    rw [HR.out]
    exact ⟨rfl, ⟨A, n, c, HH.out, (by first | exact like_self _ | exact like_cut _ _ | (intro a' ha; cases ha; exact ⟨_, rfl, rfl⟩))⟩, World.grownBy.refl _ _⟩
  subst he
  have hle := rdN_le bs
  have hok := rdN_ok hy
  have hft := rdN_fault bs
  obtain ⟨⟨v, k, f⟩, hr⟩ : ∃ r, rdN bs = r := ⟨_, rfl⟩
  have R0 : sR bs 0 most = if f ≠ 0 then (0, bs, f) else if most < v then (0, bs, 5) else (v, bs.drop k, 0) := by unfold sR; rw [if_neg (by simp), hr]
  unfold NatE at NN
  rw [hr] at hle hok hft NN
  dsimp only at hle hok hft NN
  clear hr
  by_cases hf : f = 0
  case neg =>
    have HR := Lib.hid (R0.trans (if_pos hf))
    have hf1 : decide (f = 0) = false := decide_eq_false hf
    have hf2 : (f == 0) = false := by simpa using hf
    clear R0 hf hl hle hft
    go_enter Tryz.func17, Tryz.ntmps17
    go_wp2_with fail
    refine NN.out.mono ?_; rintro e w1 ⟨rfl, rfl⟩
    go_wp2_with fail
    go_ret
    unfold SmallE
    rw [HR.out]
    exact ⟨rfl, ⟨A, n, c, HH.out.setE f, (by first | exact like_self _ | exact like_cut _ _ | (intro a' ha; cases ha; exact ⟨_, rfl, rfl⟩))⟩, only_set _ _ _ _⟩
  subst hf
  rw [if_neg (by simp)] at R0
  by_cases hv : most < v
  case pos =>
    have HR := Lib.hid (R0.trans (if_pos hv))
    clear R0 hl hle hft
    go_enter Tryz.func17, Tryz.ntmps17
    go_wp2_with fail
    refine NN.out.mono ?_; rintro e w1 ⟨rfl, rfl⟩
    go_wp2_with fail
    go_ret
    unfold SmallE
    rw [HR.out]
    exact ⟨rfl, ⟨A, n, c, HH.out.setE 5, (by first | exact like_self _ | exact like_cut _ _ | (intro a' ha; cases ha; exact ⟨_, rfl, rfl⟩))⟩, only_set _ _ _ _⟩
  case neg =>
    have HR := Lib.hid (R0.trans (if_neg hv))
    have hkn : k ≤ n := by omega
    clear R0 hle hft
    go_enter Tryz.func17, Tryz.ntmps17
    go_wp2_with fail
    refine NN.out.mono ?_; rintro e w1 ⟨rfl, rfl⟩
    go_wp2_with fail
    all_goals
      go_ret
      unfold SmallE
      rw [HR.out]
      first
        | exact ⟨rfl, ⟨_, _, _, HH.out.setB (HH.out.r.cut k) (by omega), (by first | exact like_self _ | exact like_cut _ _ | (intro a' ha; cases ha; exact ⟨_, rfl, rfl⟩))⟩, only_set _ _ _ _⟩
        | exact ⟨rfl, ⟨_, _, _, HH.out.setB (HH.out.r.all (by omega) (by omega) A) (by omega), (by first | exact like_self _ | exact like_cut _ _ | (intro a' ha; cases ha; exact ⟨_, rfl, rfl⟩))⟩, only_set _ _ _ _⟩

def top : Int := 18446744073709551615
set_option maxRecDepth 100000 in
theorem rnatr_any (g n c : Nat) (A : Option Addr) (bs : List Int) (e : Int) (w : World) (h : Rr w g A n c bs e) (hy : By bs) (hn : n ≤ 100000) :
    Calls Tryz.prog 19 #[.pointer (some ⟨g, 0, none⟩)] w fun E W => SmallE bs e top g A w E W := by
  have S := Lib.hid (rsmall_any g n c A bs e top w h hy hn)
  unfold top at S
  clear h hy
  go_enter Tryz.func19, Tryz.ntmps19
  go_wp2_with fail
  refine S.out.mono ?_; rintro e1 w1 ⟨rfl, hd⟩
  have D := Lib.hid hd
  clear hd
  go_wp2_with fail
  go_ret
  exact ⟨rfl, D.out⟩

/-- A whole number out of its form. -/
def zz (n : Int) : Int := if n % 2 = 0 then n / 2 else -(n / 2) - 1
def IntE (bs : List Int) (e : Int) (g : Nat) (A : Option Addr) (w : World) (E : Ending) (W : World) : Prop := E = .returned (.int .i64 (zz (sR bs e top).1)) ∧ Did w g A (sR bs e top).2.1 (sR bs e top).2.2 W
theorem sR_bd {bs : List Int} (hy : By bs) (e most : Int) : 0 ≤ (sR bs e most).1 ∧ (sR bs e most).1 ≤ 18446744073709551615 := by
  have := rdN_ok hy
  unfold sR
  split
  · exact ⟨Int.le_refl _, show (0 : Int) ≤ 18446744073709551615 by decide⟩
  · split
    · exact ⟨Int.le_refl _, show (0 : Int) ≤ 18446744073709551615 by decide⟩
    · split
      · exact ⟨Int.le_refl _, show (0 : Int) ≤ 18446744073709551615 by decide⟩
      · exact this
set_option maxRecDepth 100000 in
theorem rintr_any (g n c : Nat) (A : Option Addr) (bs : List Int) (e : Int) (w : World) (h : Rr w g A n c bs e) (hy : By bs) (hn : n ≤ 100000) :
    Calls Tryz.prog 20 #[.pointer (some ⟨g, 0, none⟩)] w fun E W => IntE bs e g A w E W := by
  have S := Lib.hid (rnatr_any g n c A bs e w h hy hn)
  have hb := sR_bd hy e top
  unfold SmallE at S
  unfold IntE
  obtain ⟨⟨v, l, f⟩, hr⟩ : ∃ r, sR bs e top = r := ⟨_, rfl⟩
  rw [hr] at S hb
  rw [hr]
  dsimp only at S hb ⊢
  clear h hy hr
  by_cases h2 : v % 2 = 0
  · have Z := Lib.hid (show zz v = v / 2 from if_pos h2)
    rw [Z.out]
    go_enter Tryz.func20, Tryz.ntmps20
    go_wp2_with fail
    refine S.out.mono ?_; rintro e1 w1 ⟨rfl, hd⟩
    have D := Lib.hid hd
    clear hd
    go_wp2_with fail
    go_ret
    exact ⟨rfl, D.out⟩
  · have Z := Lib.hid (show zz v = -(v / 2) - 1 from if_neg h2)
    rw [Z.out]
    have h3 : decide (v % 2 = 0) = false := decide_eq_false h2
    have h4 : (v % 2 == 0) = false := by simpa using h2
    clear h2
    go_enter Tryz.func20, Tryz.ntmps20
    go_wp2_with fail
    refine S.out.mono ?_; rintro e1 w1 ⟨rfl, hd⟩
    have D := Lib.hid hd
    clear hd
    go_wp2_with fail
    go_ret
    exact ⟨rfl, D.out⟩

/-- What a flag's reading answers. -/
def fR (bs : List Int) (e : Int) : Bool × List Int × Int :=
  if e ≠ 0 then (false, bs, e) else if bs.length = 0 then (false, bs, 4) else if 1 < bs.getD 0 0 then (false, bs, 5) else (decide (bs.getD 0 0 = 1), bs.drop 1, 0)
def FlagE (bs : List Int) (e : Int) (g : Nat) (A : Option Addr) (w : World) (E : Ending) (W : World) : Prop := E = .returned (.bool (fR bs e).1) ∧ Did w g A (fR bs e).2.1 (fR bs e).2.2 W
set_option maxRecDepth 100000 in
set_option maxHeartbeats 1000000 in
theorem rflagr_any (g n c : Nat) (A : Option Addr) (bs : List Int) (e : Int) (w : World) (h : Rr w g A n c bs e) (hy : By bs) (hn : n ≤ 100000) :
    Calls Tryz.prog 22 #[.pointer (some ⟨g, 0, none⟩)] w fun E W => FlagE bs e g A w E W := by
  have hnc := h.nc
  have hl := h.r.1
  have d0 := h.c0
  have d1 := h.c1
  have f0 := h.fr 0
  have f1 := h.fr 1
  have HH := Lib.hid h
  by_cases he : e = 0
  case neg =>
    have HR := Lib.hid (show fR bs e = (false, bs, e) from if_pos he)
    have he1 : decide (e = 0) = false := decide_eq_false he
    have he2 : (e == 0) = false := by simpa using he
    clear he hl h
    go_enter Tryz.func22, Tryz.ntmps22
    go_wp2
    go_ret
    unfold FlagE
    rw [HR.out]
    exact ⟨rfl, ⟨A, n, c, HH.out, (by first | exact like_self _ | exact like_cut _ _ | (intro a' ha; cases ha; exact ⟨_, rfl, rfl⟩))⟩, World.grownBy.refl _ _⟩
  subst he
  have R0 : fR bs 0 = if bs.length = 0 then (false, bs, 4) else if 1 < bs.getD 0 0 then (false, bs, 5) else (decide (bs.getD 0 0 = 1), bs.drop 1, 0) := if_neg (by simp)
  rcases Nat.eq_zero_or_pos n with h0 | h0
  · have HR := Lib.hid (R0.trans (if_pos (by omega)))
    subst h0
    clear R0 hl h
    go_enter Tryz.func22, Tryz.ntmps22
    go_wp2
    go_ret
    unfold FlagE
    rw [HR.out]
    exact ⟨rfl, ⟨A, 0, c, HH.out.setE 4, (by first | exact like_self _ | exact like_cut _ _ | (intro a' ha; cases ha; exact ⟨_, rfl, rfl⟩))⟩, only_set _ _ _ _⟩
  rw [if_neg (by omega)] at R0
  obtain ⟨b, o, rfl, hc⟩ := h.r.2 h0
  have hcell := hc 0 h0
  have hx : 0 ≤ bs.getD 0 0 ∧ bs.getD 0 0 ≤ 255 := hy _ (by
    have h3 : 0 < bs.length := by omega
    rw [show bs.getD 0 0 = bs[0] from by simp [List.getD, h3]]
    exact List.getElem_mem _)
  obtain ⟨x, hxe⟩ : ∃ x, bs.getD 0 0 = x := ⟨_, rfl⟩
  rw [hxe] at R0 hcell hx
  rw [Nat.add_zero] at hcell
  clear hc hxe
  by_cases h1 : 1 < x
  · have HR := Lib.hid (R0.trans (if_pos h1))
    clear R0 hl h
    go_enter Tryz.func22, Tryz.ntmps22
    go_wp2
    go_ret
    unfold FlagE
    rw [HR.out]
    exact ⟨rfl, ⟨_, n, c, HH.out.setE 5, (by first | exact like_self _ | exact like_cut _ _ | (intro a' ha; cases ha; exact ⟨_, rfl, rfl⟩))⟩, only_set _ _ _ _⟩
  · have HR := Lib.hid (R0.trans (if_neg h1))
    have hfar := HH.out.far (show w.cell? ⟨b, o + 0, none⟩ = some (.int .u8 x) from hcell)
    clear R0 hl h
    go_enter Tryz.func22, Tryz.ntmps22
    go_wp2
    all_goals
      go_ret
      unfold FlagE
      rw [HR.out]
      first
        | exact ⟨rfl, ⟨_, _, _, HH.out.setB (HH.out.r.cut 1) (by omega), (by first | exact like_self _ | exact like_cut _ _ | (intro a' ha; cases ha; exact ⟨_, rfl, rfl⟩))⟩, only_set _ _ _ _⟩
        | exact ⟨rfl, ⟨_, _, _, HH.out.setB (HH.out.r.all (by omega) (by omega) _) (by omega), (by first | exact like_self _ | exact like_cut _ _ | (intro a' ha; cases ha; exact ⟨_, rfl, rfl⟩))⟩, only_set _ _ _ _⟩

set_option maxRecDepth 100000 in
theorem rfail_any (g n c : Nat) (A : Option Addr) (bs : List Int) (e f : Int) (w : World) (h : Rr w g A n c bs e) :
    Calls Tryz.prog 72 #[.pointer (some ⟨g, 0, none⟩), .int .i64 f] w fun E W => E = .returned (.tuple #[]) ∧ Did w g A bs (if e = 0 then f else e) W := by
  have d1 := h.c1
  have f1 := h.fr 1
  have HH := Lib.hid h
  clear h
  by_cases he : e = 0
  · subst he
    rw [if_pos rfl]
    go_enter Tryz.func72, Tryz.ntmps72
    go_wp2
    go_end0
    exact ⟨rfl, ⟨A, n, c, HH.out.setE f, (by first | exact like_self _ | exact like_cut _ _ | (intro a' ha; cases ha; exact ⟨_, rfl, rfl⟩))⟩, only_set _ _ _ _⟩
  · rw [if_neg he]
    have he1 : decide (e = 0) = false := decide_eq_false he
    have he2 : (e == 0) = false := by simpa using he
    clear he
    go_enter Tryz.func72, Tryz.ntmps72
    go_wp2
    go_end0
    exact ⟨rfl, ⟨A, n, c, HH.out, (by first | exact like_self _ | exact like_cut _ _ | (intro a' ha; cases ha; exact ⟨_, rfl, rfl⟩))⟩, World.grownBy.refl _ _⟩
set_option maxRecDepth 100000 in
theorem rdone_any (g n c : Nat) (A : Option Addr) (bs : List Int) (e : Int) (w : World) (h : Rr w g A n c bs e) (hn : n ≤ 100000) :
    Calls Tryz.prog 23 #[.pointer (some ⟨g, 0, none⟩)] w fun E W => E = .returned (.int .i64 (if e = 0 ∧ 0 < bs.length then 5 else e)) ∧ w = W := by
  have d0 := h.c0
  have d1 := h.c1
  have hl := h.r.1
  rw [hl]
  clear h hl
  by_cases he : e = 0
  · subst he
    rcases Nat.eq_zero_or_pos n with h0 | h0
    · subst h0
      rw [if_neg (by omega)]
      go_enter Tryz.func23, Tryz.ntmps23
      go_wp2
      go_ret
      exact ⟨rfl, rfl⟩
    · rw [if_pos ⟨rfl, h0⟩]
      go_enter Tryz.func23, Tryz.ntmps23
      go_wp2
      go_ret
      exact ⟨rfl, rfl⟩
  · rw [if_neg fun c => he c.1]
    have he1 : decide (e = 0) = false := decide_eq_false he
    have he2 : (e == 0) = false := by simpa using he
    clear he
    go_enter Tryz.func23, Tryz.ntmps23
    go_wp2
    go_ret
    exact ⟨rfl, rfl⟩

/-- What a text's reading answers. -/
def tR (bs : List Int) (e most : Int) : List Int × List Int × Int :=
  if e ≠ 0 then ([], bs, e) else if (rdN bs).2.2 ≠ 0 then ([], bs, (rdN bs).2.2) else if (most < 0 ∧ 0 < (rdN bs).1) ∨ (0 ≤ most ∧ most < (rdN bs).1) then ([], bs, 3)
  else if ((bs.length - (rdN bs).2.1 : Nat) : Int) < (rdN bs).1 then ([], bs, 4) else ((bs.drop (rdN bs).2.1).take (rdN bs).1.toNat, bs.drop ((rdN bs).2.1 + (rdN bs).1.toNat), 0)
def TextE (bs : List Int) (e most : Int) (g : Nat) (A : Option Addr) (w : World) (E : Ending) (W : World) : Prop :=
  ∃ v, E = .returned v ∧ W.ownsRow w.heap.size 5 1 v (tR bs e most).1.length ((tR bs e most).1.map (Value.int .u8)) ∧ Did w g A (tR bs e most).2.1 (tR bs e most).2.2 W
theorem nil_own (W : World) (base : Nat) : W.ownsRow base 5 1 (.slice none 0 0) ([] : List Int).length (([] : List Int).map (Value.int .u8)) := World.ownsRow_nil _ _ _ _





































































































































































end Go.Proofs.YtbmlpokkojhhjaaGreat
/- Plain facts on what is read back: what was written is read, and what is read is, written again, the bytes that were read. -/
namespace Go.Proofs.YtbmlpokkojhhjaaGreat

theorem s_nb {n : Nat} (hn : n < 18446744073709551616) (l : List Int) : sR (nb n ++ l) 0 top = ((n : Int), l, 0) := by
  unfold sR
  rw [if_neg (by simp), rd_nb hn l]
  dsimp only
  rw [if_neg (by simp), if_neg (by unfold top; omega), List.drop_left]
theorem zz_num (i : Int) (h : -9223372036854775808 ≤ i ∧ i ≤ 9223372036854775807) : ∃ N : Nat, N < 18446744073709551616 ∧ ib i = nb N ∧ zz N = i := by
  by_cases h0 : 0 ≤ i
  · refine ⟨(2 * i).toNat, by omega, if_pos h0, ?_⟩
    unfold zz
    rw [if_pos (by omega)]; omega
  · refine ⟨(2 * (-(i + 1)) + 1).toNat, by omega, if_neg h0, ?_⟩
    unfold zz
    rw [if_neg (by omega)]; omega
theorem s_ib {i : Int} (h : -9223372036854775808 ≤ i ∧ i ≤ 9223372036854775807) (l : List Int) : zz (sR (ib i ++ l) 0 top).1 = i ∧ (sR (ib i ++ l) 0 top).2 = (l, 0) := by
  obtain ⟨N, h1, h2, h3⟩ := zz_num i h
  rw [h2, s_nb h1 l]
  exact ⟨h3, rfl⟩
theorem f_fb (f : Bool) (l : List Int) : fR (fb f ++ l) 0 = (f, l, 0) := by
  cases f
  · simp [fR, fb]
  · simp [fR, fb]
theorem t_tb {ts : List Int} (h : ts.length ≤ 100000) (l : List Int) {most : Int} (hm : (ts.length : Int) ≤ most) : tR (tb ts ++ l) 0 most = (ts, l, 0) := by
  unfold tR tb
  rw [if_neg (by simp), List.append_assoc, rd_nb (by omega) (ts ++ l)]
  dsimp only
  rw [if_neg (by simp), if_neg (by omega), if_neg (by rw [List.length_append, List.length_append]; omega), Int.toNat_natCast, List.drop_left, List.take_left, ← List.drop_drop, List.drop_left, List.drop_left]

theorem ld_ge : ∀ (bs : List Int) (t : Nat), t < ld bs → 128 ≤ bs.getD t 0
  | [], t, h => by simp [ld] at h
  | x :: l, 0, h => by
    simp only [ld] at h
    split at h
    · simpa using (by assumption : 128 ≤ x)
    · omega
  | x :: l, t + 1, h => by
    simp only [ld] at h
    split at h
    · have := ld_ge l t (by omega)
      simpa [List.getD] using this
    · omega
theorem ld_at : ∀ (bs : List Int), ld bs < bs.length → bs.getD (ld bs) 0 < 128
  | [], h => by simp at h
  | x :: l, h => by
    simp only [ld] at h ⊢
    split
    · rename_i c
      rw [if_pos c] at h
      have := ld_at l (by simp at h; omega)
      simpa [List.getD] using this
    · simp; omega
/-- One form: a number. -/
theorem rd_form {bs : List Int} (hy : By bs) (h : (rdN bs).2.2 = 0) : bs.take (rdN bs).2.1 = nb (rdN bs).1.toNat ∧ (rdN bs).2.1 ≤ bs.length ∧ 0 < (rdN bs).2.1 := by
  refine ⟨?_, rdN_le bs, rdN_pos h⟩
  have e : ¬ bs.length ≤ ld bs := fun c => by
    unfold rdN at h
    rw [if_pos c] at h
    dsimp only at h
    split at h <;> cases h
  have e2 : ¬ (9 < ld bs ∨ (ld bs = 9 ∧ 1 < bs.getD 9 0) ∨ (0 < ld bs ∧ bs.getD (ld bs) 0 = 0)) := fun c => by
    unfold rdN at h
    rw [if_neg e, if_pos c] at h
    cases h
  have r : rdN bs = (dv (bs.take (ld bs + 1)), ld bs + 1, 0) := by unfold rdN; rw [if_neg e, if_neg e2]
  rw [r]
  have hl : (bs.take (ld bs + 1)).length = ld bs + 1 := by rw [List.length_take]; omega
  refine (nb_dv (bs.take (ld bs + 1)) (fun x hx => hy x (List.mem_of_mem_take hx)) (fun t ht => ?_) (by omega) ?_ (fun h1 => ?_)).symm
  · rw [hl] at ht
    rw [take_getD (by omega)]
    exact ld_ge bs t (by omega)
  · rw [hl, take_getD (by omega)]
    exact ld_at bs (by omega)
  · rw [hl] at h1 ⊢
    rw [take_getD (by omega)]
    intro c
    exact e2 (.inr (.inr ⟨by omega, c⟩))
/-- One form: a whole number. -/
theorem ib_zz {n : Nat} (hn : n < 18446744073709551616) : ib (zz n) = nb n := by
  unfold zz
  split
  · rw [ib, if_pos (by omega)]
    congr 1; omega
  · rw [ib, if_neg (by omega)]
    congr 1; omega
end Go.Proofs.YtbmlpokkojhhjaaGreat
/- The document's Command (by genWdl.py). -/
namespace Go.Proofs.YtbmlpokkojhhjaaGreat
open Go.RowKit
set_option linter.unusedVariables false
set_option linter.unusedSimpArgs false

theorem rnatI15 (x : Int) (w : World) (h : 0 ≤ x ∧ x ≤ 18446744073709551615) : Calls Tryz.prog 74 #[.int .u64 x] w fun e W => Made w (nb x.toNat) e W := by
  obtain ⟨n, rfl⟩ := Int.eq_ofNat_of_zero_le h.1
  exact rnat_any n (by omega) w
theorem fF_len {c : Cm} (ok : c.ok) : ∀ i, i < 10 → (fF c i).length ≤ 250
  | 0, _ => Nat.le_trans (nb_ten (by have := ok.ac; omega)) (by omega)
  | 1, _ => Nat.le_trans (nb_ten (by have := ok.ct; omega)) (by omega)
  | 2, _ => Nat.le_trans (nb_ten (by have := ok.nu; omega)) (by omega)
  | 3, _ => Nat.le_trans (ib_len ok.am) (by omega)
  | 4, _ => form_len ok.sp
  | 5, _ => by show (fb c.on).length ≤ 250; cases c.on <;> simp [fb]
  | 6, _ => by show (fb c.bu).length ≤ 250; cases c.bu <;> simp [fb]
  | 7, _ => Nat.le_trans (nb_ten (by have := ok.as'; omega)) (by omega)
  | 8, _ => Nat.le_trans (ib_len ok.px) (by omega)
  | 9, _ => Nat.le_trans (ib_len ok.qt) (by omega)
theorem tx_at15 {L : List Nat} {s : ByteArray} (hs : txB (L.map ltr) = s) {k i : Nat} (hi : L[k]? = some i) : ∀ h : k < s.size, (s[k]'h).toNat = ltr i := fun h => by
  have e1 : s.data[k]? = some (UInt8.ofNat (ltr i)) := by
    rw [← hs]
    unfold txB
    simp [hi]
  have e2 : s.data[k]? = some (s[k]'h) := Array.getElem?_eq_getElem (xs := s.data) h
  rw [e1] at e2
  rw [← Option.some.inj e2]
  have : ltr i < 256 := by unfold ltr; split <;> omega
  simp
  omega
theorem tx_size15 (L : List Nat) : (txB (L.map ltr)).size = L.length := by simp [txB, ByteArray.size]
set_option maxRecDepth 100000 in
set_option maxHeartbeats 16000000 in
theorem rcmd15 (c : Cm) (w : World) (ok : c.ok) (hm : 4 ∈ flds c.kd → mayB c.sp = true) : Calls Tryz.prog 25 #[.agg (ECm.cells c).toArray] w fun e W => Made w (formC c) e W := by
  obtain ⟨W1, hW1⟩ : ∃ W1, w.alloc (.cells (ECm.cells c).toArray 32) = W1 := ⟨_, rfl⟩
  have x1 : ECm.Bx 32 W1 w.heap.size c := by rw [← hW1]; exact gbx_new w c
  have B1 : Hid (Below w.heap.size w W1) := Lib.hid (by rw [← hW1]; exact below_new w _)
  have HX := Lib.hid fun (W : World) (q : Below W1.heap.size W1 W) => (show ECm.Bx 32 W w.heap.size c from gbx_below x1 q)
  have k0 : W1.cell? ⟨w.heap.size, 0, none⟩ = some (.int .u8 c.kd) := cm_cell15 x1 ((cm_hd c (i := 0) (by omega)).trans rfl)
  have K0 := Lib.hid fun (W : World) (q : Below W1.heap.size W1 W) => (show W.cell? ⟨w.heap.size, 0, none⟩ = some (.int .u8 c.kd) from cm_cell15 (HX.out W q) ((cm_hd c (i := 0) (by omega)).trans rfl))
  have SL := Lib.hid ok.sp.len
  have NK := Lib.hid fun w => rnatI15 c.kd w (by have := ok.kd; omega)
  have FI := Lib.hid fun w => rfields15 c.kd ok.kd w
  have kd0 := ok.kd
  obtain ⟨kd1, kd2⟩ := kd0
  have FL := Lib.hid (fF_len ok)
  have C0 := Lib.hid fun (h : 0 ∈ flds c.kd) w => (show Calls Tryz.prog 74 #[.int .u64 c.ac] w fun e W => Made w (fF c 0) e W from rnatI15 c.ac w (by have := ok.ac; omega))
  have bd0 := ok.ac
  have C1 := Lib.hid fun (h : 1 ∈ flds c.kd) w => (show Calls Tryz.prog 74 #[.int .u64 c.ct] w fun e W => Made w (fF c 1) e W from rnatI15 c.ct w (by have := ok.ct; omega))
  have bd1 := ok.ct
  have C2 := Lib.hid fun (h : 2 ∈ flds c.kd) w => (show Calls Tryz.prog 74 #[.int .u64 c.nu] w fun e W => Made w (fF c 2) e W from rnatI15 c.nu w ok.nu)
  have bd2 := ok.nu
  have C3 := Lib.hid fun (h : 3 ∈ flds c.kd) w => (show Calls Tryz.prog 75 #[.int .i64 c.am] w fun e W => Made w (fF c 3) e W from rint_any c.am ok.am w)
  have C4 := Lib.hid fun (h : 4 ∈ flds c.kd) w => (show Calls Tryz.prog 76 #[.agg c.sp.cells] w fun e W => Made w (fF c 4) e W from rform_any c.sp w ok.sp (hm h))
  have C5 := Lib.hid fun (h : 5 ∈ flds c.kd) w => (show Calls Tryz.prog 77 #[.bool c.on] w fun e W => Made w (fF c 5) e W from rflag_any c.on w)
  have C6 := Lib.hid fun (h : 6 ∈ flds c.kd) w => (show Calls Tryz.prog 77 #[.bool c.bu] w fun e W => Made w (fF c 6) e W from rflag_any c.bu w)
  have C7 := Lib.hid fun (h : 7 ∈ flds c.kd) w => (show Calls Tryz.prog 74 #[.int .u64 c.as'] w fun e W => Made w (fF c 7) e W from rnatI15 c.as' w (by have := ok.as'; omega))
  have bd7 := ok.as'
  have C8 := Lib.hid fun (h : 8 ∈ flds c.kd) w => (show Calls Tryz.prog 75 #[.int .i64 c.px] w fun e W => Made w (fF c 8) e W from rint_any c.px ok.px w)
  have C9 := Lib.hid fun (h : 9 ∈ flds c.kd) w => (show Calls Tryz.prog 75 #[.int .i64 c.qt] w fun e W => Made w (fF c 9) e W from rint_any c.qt ok.qt w)
  have FC : Hid (formC c = nb c.kd.toNat ++ (flds c.kd).flatMap (fF c)) := Lib.hid rfl
  rw [fsB_tx] at FI
  have HLT := Lib.hid (flds_lt c.kd)
  have LL := flds_len c.kd
  obtain ⟨L, hL⟩ : ∃ L, flds c.kd = L := ⟨_, rfl⟩
  rw [hL] at FI FC HLT LL C0 C1 C2 C3 C4 C5 C6 C7 C8 C9
  have sz := tx_size15 L
  obtain ⟨s, hs⟩ : ∃ s, txB (L.map ltr) = s := ⟨_, rfl⟩
  have HS := Lib.hid hs
  rw [hs] at FI sz
  have HW1 := Lib.hid hW1
  clear x1 hW1 ok hm hL hs
  go_enter Tryz.func25, Tryz.ntmps25
  go_wp2_with (rw [HW1.out])
  refine (NK.out _).mono ?_; rintro e w2 ⟨v2, rfl, hN⟩
  have NV := Lib.hid hN
  have k0' := K0.out w2 hN.q
  have XL := Lib.hid (show (nb c.kd.toNat).length ≤ 10 from nb_ten (by omega))
  clear hN k0
  go_wp2_with fail
  refine (FI.out _).mono ?_; rintro e w3 ⟨rfl, rfl⟩
  clear k0'
  go_wp2_with fail
  go_loopw [3, 5] (fun v i wr => ∃ (k : Nat) (X : List Int), k ≤ L.length ∧ i = .int .i64 k ∧ New W1 wr v X ∧ X = nb c.kd.toNat ++ (L.take k).flatMap (fF c) ∧ X.length ≤ 10 + 250 * k) (fun _ i _ => L.length - (intOf i).toNat)
  case atStart => exact ⟨0, _, Nat.zero_le _, rfl, NV.out, by simp, by have := XL.out; omega⟩
  case round =>
    obtain ⟨k, X, hk, rfl, hv, hX, hl⟩ := hrel
    have NVr := Lib.hid hv
    have HXX := Lib.hid hX
    obtain ⟨A1, c1, rfl, -, -⟩ := owns_pt hv.o
    clear hv hX NV
    by_cases hlt : k < L.length
    case neg =>
      obtain rfl : k = L.length := by omega
      have E : Hid (X = formC c) := Lib.hid (by rw [HXX.out, FC.out, List.take_length])
      clear HXX
      go_wp2_with fail
      go_ret
      exact ⟨_, rfl, by rw [← E.out]; exact ⟨own_less NVr.out.o B1.out.size, B1.out.trans (NVr.out.q.mono B1.out.size)⟩⟩
    case pos =>
      obtain ⟨i, hi⟩ : ∃ i, L[k]? = some i := ⟨L[k], List.getElem?_eq_getElem hlt⟩
      have i0 := HLT.out i (List.mem_of_getElem? hi)
      have hmem := List.mem_of_getElem? hi
      have hki : (k : Int) < (L.length : Int) := by omega
      have hdk : decide ((k : Int) < (L.length : Int)) = true := decide_eq_true hki
      have gx := tx_at15 HS.out hi
      have hks : (k : Int) < (s.size : Int) := by omega
      have hks2 : k < s.size := by omega
      have TK : Hid (L.take (k + 1) = L.take k ++ [i]) := Lib.hid (by rw [List.take_add_one, hi]; rfl)
      have XB := HX.out wr NVr.out.q
      have fl0 := FL.out i i0
      clear hi
      match i, i0 with
      | 0, _ =>
        replace gx : ∀ h : k < s.size, (s[k]'h).toNat = 97 := gx
        have hc : wr.cell? ⟨w.heap.size, 1, none⟩ = some (.int .u32 c.ac) := cm_cell15 XB ((cm_hd c (i := 1) (by omega)).trans rfl)
        have CI := Lib.hid (C0.out hmem)
        clear XB hmem
        go_wp2_with fail
        refine (CI.out _).mono ?_; rintro e wd ⟨v2, rfl, hN⟩
        obtain ⟨A2, c2, rfl, r2, n2⟩ := owns_pt hN.o
        have R2 := Lib.hid r2; have N2 := Lib.hid n2
        have OV := Lib.hid (NVr.out.below hN.q)
        obtain ⟨FS, hFS⟩ : ∃ FS, fF c 0 = FS := ⟨_, rfl⟩
        rw [hFS] at R2 N2 fl0 ⊢
        obtain ⟨fl, hfl⟩ : ∃ fl, FS.length = fl := ⟨_, rfl⟩
        rw [hfl] at R2 N2 fl0 ⊢
        have HFS := Lib.hid hFS; have HFL := Lib.hid hfl
        clear hN r2 n2 hFS hfl hc
        go_wp2_with (at_builtin; refine wpl_append rfl (.tmp 24) (.tmp 28) rfl W1.heap.size _ X.length (X.map (Value.int .u8)) rfl OV.out.o A2 fl c2 FS rfl R2.out N2.out (by omega) OV.out.q.size ?_; intro v9 w9 o2 g2; have NN := Lib.hid (grew OV.out (by rw [HFL.out]; exact o2) g2); clear o2 g2)
        go_roundw
        case rel => exact ⟨k + 1, X ++ FS, hlt, by go_num, NN.out, by rw [TK.out, HXX.out, List.flatMap_append, List.flatMap_cons, List.flatMap_nil, List.append_nil, HFS.out, List.append_assoc], by rw [List.length_append, HFL.out]; omega⟩
        case measure => simp [intOf]; omega
      | 1, _ =>
        replace gx : ∀ h : k < s.size, (s[k]'h).toNat = 99 := gx
        have hc : wr.cell? ⟨w.heap.size, 2, none⟩ = some (.int .u32 c.ct) := cm_cell15 XB ((cm_hd c (i := 2) (by omega)).trans rfl)
        have CI := Lib.hid (C1.out hmem)
        clear XB hmem
        go_wp2_with fail
        refine (CI.out _).mono ?_; rintro e wd ⟨v2, rfl, hN⟩
        obtain ⟨A2, c2, rfl, r2, n2⟩ := owns_pt hN.o
        have R2 := Lib.hid r2; have N2 := Lib.hid n2
        have OV := Lib.hid (NVr.out.below hN.q)
        obtain ⟨FS, hFS⟩ : ∃ FS, fF c 1 = FS := ⟨_, rfl⟩
        rw [hFS] at R2 N2 fl0 ⊢
        obtain ⟨fl, hfl⟩ : ∃ fl, FS.length = fl := ⟨_, rfl⟩
        rw [hfl] at R2 N2 fl0 ⊢
        have HFS := Lib.hid hFS; have HFL := Lib.hid hfl
        clear hN r2 n2 hFS hfl hc
        go_wp2_with (at_builtin; refine wpl_append rfl (.tmp 32) (.tmp 36) rfl W1.heap.size _ X.length (X.map (Value.int .u8)) rfl OV.out.o A2 fl c2 FS rfl R2.out N2.out (by omega) OV.out.q.size ?_; intro v9 w9 o2 g2; have NN := Lib.hid (grew OV.out (by rw [HFL.out]; exact o2) g2); clear o2 g2)
        go_roundw
        case rel => exact ⟨k + 1, X ++ FS, hlt, by go_num, NN.out, by rw [TK.out, HXX.out, List.flatMap_append, List.flatMap_cons, List.flatMap_nil, List.append_nil, HFS.out, List.append_assoc], by rw [List.length_append, HFL.out]; omega⟩
        case measure => simp [intOf]; omega
      | 2, _ =>
        replace gx : ∀ h : k < s.size, (s[k]'h).toNat = 110 := gx
        have hc : wr.cell? ⟨w.heap.size, 3, none⟩ = some (.int .u64 c.nu) := cm_cell15 XB ((cm_hd c (i := 3) (by omega)).trans rfl)
        have CI := Lib.hid (C2.out hmem)
        clear XB hmem
        go_wp2_with fail
        refine (CI.out _).mono ?_; rintro e wd ⟨v2, rfl, hN⟩
        obtain ⟨A2, c2, rfl, r2, n2⟩ := owns_pt hN.o
        have R2 := Lib.hid r2; have N2 := Lib.hid n2
        have OV := Lib.hid (NVr.out.below hN.q)
        obtain ⟨FS, hFS⟩ : ∃ FS, fF c 2 = FS := ⟨_, rfl⟩
        rw [hFS] at R2 N2 fl0 ⊢
        obtain ⟨fl, hfl⟩ : ∃ fl, FS.length = fl := ⟨_, rfl⟩
        rw [hfl] at R2 N2 fl0 ⊢
        have HFS := Lib.hid hFS; have HFL := Lib.hid hfl
        clear hN r2 n2 hFS hfl hc
        go_wp2_with (at_builtin; refine wpl_append rfl (.tmp 40) (.tmp 43) rfl W1.heap.size _ X.length (X.map (Value.int .u8)) rfl OV.out.o A2 fl c2 FS rfl R2.out N2.out (by omega) OV.out.q.size ?_; intro v9 w9 o2 g2; have NN := Lib.hid (grew OV.out (by rw [HFL.out]; exact o2) g2); clear o2 g2)
        go_roundw
        case rel => exact ⟨k + 1, X ++ FS, hlt, by go_num, NN.out, by rw [TK.out, HXX.out, List.flatMap_append, List.flatMap_cons, List.flatMap_nil, List.append_nil, HFS.out, List.append_assoc], by rw [List.length_append, HFL.out]; omega⟩
        case measure => simp [intOf]; omega
      | 3, _ =>
        replace gx : ∀ h : k < s.size, (s[k]'h).toNat = 109 := gx
        have hc : wr.cell? ⟨w.heap.size, 4, none⟩ = some (.int .i64 c.am) := cm_cell15 XB ((cm_hd c (i := 4) (by omega)).trans rfl)
        have CI := Lib.hid (C3.out hmem)
        clear XB hmem
        go_wp2_with fail
        refine (CI.out _).mono ?_; rintro e wd ⟨v2, rfl, hN⟩
        obtain ⟨A2, c2, rfl, r2, n2⟩ := owns_pt hN.o
        have R2 := Lib.hid r2; have N2 := Lib.hid n2
        have OV := Lib.hid (NVr.out.below hN.q)
        obtain ⟨FS, hFS⟩ : ∃ FS, fF c 3 = FS := ⟨_, rfl⟩
        rw [hFS] at R2 N2 fl0 ⊢
        obtain ⟨fl, hfl⟩ : ∃ fl, FS.length = fl := ⟨_, rfl⟩
        rw [hfl] at R2 N2 fl0 ⊢
        have HFS := Lib.hid hFS; have HFL := Lib.hid hfl
        clear hN r2 n2 hFS hfl hc
        go_wp2_with (at_builtin; refine wpl_append rfl (.tmp 47) (.tmp 50) rfl W1.heap.size _ X.length (X.map (Value.int .u8)) rfl OV.out.o A2 fl c2 FS rfl R2.out N2.out (by omega) OV.out.q.size ?_; intro v9 w9 o2 g2; have NN := Lib.hid (grew OV.out (by rw [HFL.out]; exact o2) g2); clear o2 g2)
        go_roundw
        case rel => exact ⟨k + 1, X ++ FS, hlt, by go_num, NN.out, by rw [TK.out, HXX.out, List.flatMap_append, List.flatMap_cons, List.flatMap_nil, List.append_nil, HFS.out, List.append_assoc], by rw [List.length_append, HFL.out]; omega⟩
        case measure => simp [intOf]; omega
      | 4, _ =>
        replace gx : ∀ h : k < s.size, (s[k]'h).toNat = 115 := gx
        have SPR := Lib.hid (cm_rng15 XB)
        have CI := Lib.hid (C4.out hmem)
        clear XB hmem
        go_wp2_with ((with_reducible refine wl_sp15 SL.out w.heap.size 5 SPR.out ?_ ?_ ?_); rfl; rfl)
        refine (CI.out _).mono ?_; rintro e wd ⟨v2, rfl, hN⟩
        obtain ⟨A2, c2, rfl, r2, n2⟩ := owns_pt hN.o
        have R2 := Lib.hid r2; have N2 := Lib.hid n2
        have OV := Lib.hid (NVr.out.below hN.q)
        obtain ⟨FS, hFS⟩ : ∃ FS, fF c 4 = FS := ⟨_, rfl⟩
        rw [hFS] at R2 N2 fl0 ⊢
        obtain ⟨fl, hfl⟩ : ∃ fl, FS.length = fl := ⟨_, rfl⟩
        rw [hfl] at R2 N2 fl0 ⊢
        have HFS := Lib.hid hFS; have HFL := Lib.hid hfl
        clear hN r2 n2 hFS hfl
        go_wp2_with (at_builtin; refine wpl_append rfl (.tmp 54) (.tmp 57) rfl W1.heap.size _ X.length (X.map (Value.int .u8)) rfl OV.out.o A2 fl c2 FS rfl R2.out N2.out (by omega) OV.out.q.size ?_; intro v9 w9 o2 g2; have NN := Lib.hid (grew OV.out (by rw [HFL.out]; exact o2) g2); clear o2 g2)
        go_roundw
        case rel => exact ⟨k + 1, X ++ FS, hlt, by go_num, NN.out, by rw [TK.out, HXX.out, List.flatMap_append, List.flatMap_cons, List.flatMap_nil, List.append_nil, HFS.out, List.append_assoc], by rw [List.length_append, HFL.out]; omega⟩
        case measure => simp [intOf]; omega
      | 5, _ =>
        replace gx : ∀ h : k < s.size, (s[k]'h).toNat = 111 := gx
        have hc : wr.cell? ⟨w.heap.size, 30, none⟩ = some (.bool c.on) := cm_cell15 XB ((cm_tl c 0).trans rfl)
        have CI := Lib.hid (C5.out hmem)
        clear XB hmem
        go_wp2_with fail
        refine (CI.out _).mono ?_; rintro e wd ⟨v2, rfl, hN⟩
        obtain ⟨A2, c2, rfl, r2, n2⟩ := owns_pt hN.o
        have R2 := Lib.hid r2; have N2 := Lib.hid n2
        have OV := Lib.hid (NVr.out.below hN.q)
        obtain ⟨FS, hFS⟩ : ∃ FS, fF c 5 = FS := ⟨_, rfl⟩
        rw [hFS] at R2 N2 fl0 ⊢
        obtain ⟨fl, hfl⟩ : ∃ fl, FS.length = fl := ⟨_, rfl⟩
        rw [hfl] at R2 N2 fl0 ⊢
        have HFS := Lib.hid hFS; have HFL := Lib.hid hfl
        clear hN r2 n2 hFS hfl hc
        go_wp2_with (at_builtin; refine wpl_append rfl (.tmp 61) (.tmp 64) rfl W1.heap.size _ X.length (X.map (Value.int .u8)) rfl OV.out.o A2 fl c2 FS rfl R2.out N2.out (by omega) OV.out.q.size ?_; intro v9 w9 o2 g2; have NN := Lib.hid (grew OV.out (by rw [HFL.out]; exact o2) g2); clear o2 g2)
        go_roundw
        case rel => exact ⟨k + 1, X ++ FS, hlt, by go_num, NN.out, by rw [TK.out, HXX.out, List.flatMap_append, List.flatMap_cons, List.flatMap_nil, List.append_nil, HFS.out, List.append_assoc], by rw [List.length_append, HFL.out]; omega⟩
        case measure => simp [intOf]; omega
      | 6, _ =>
        replace gx : ∀ h : k < s.size, (s[k]'h).toNat = 98 := gx
        have hc : wr.cell? ⟨w.heap.size, 31, none⟩ = some (.bool c.bu) := cm_cell15 XB ((cm_tl c 1).trans rfl)
        have CI := Lib.hid (C6.out hmem)
        clear XB hmem
        go_wp2_with fail
        refine (CI.out _).mono ?_; rintro e wd ⟨v2, rfl, hN⟩
        obtain ⟨A2, c2, rfl, r2, n2⟩ := owns_pt hN.o
        have R2 := Lib.hid r2; have N2 := Lib.hid n2
        have OV := Lib.hid (NVr.out.below hN.q)
        obtain ⟨FS, hFS⟩ : ∃ FS, fF c 6 = FS := ⟨_, rfl⟩
        rw [hFS] at R2 N2 fl0 ⊢
        obtain ⟨fl, hfl⟩ : ∃ fl, FS.length = fl := ⟨_, rfl⟩
        rw [hfl] at R2 N2 fl0 ⊢
        have HFS := Lib.hid hFS; have HFL := Lib.hid hfl
        clear hN r2 n2 hFS hfl hc
        go_wp2_with (at_builtin; refine wpl_append rfl (.tmp 68) (.tmp 71) rfl W1.heap.size _ X.length (X.map (Value.int .u8)) rfl OV.out.o A2 fl c2 FS rfl R2.out N2.out (by omega) OV.out.q.size ?_; intro v9 w9 o2 g2; have NN := Lib.hid (grew OV.out (by rw [HFL.out]; exact o2) g2); clear o2 g2)
        go_roundw
        case rel => exact ⟨k + 1, X ++ FS, hlt, by go_num, NN.out, by rw [TK.out, HXX.out, List.flatMap_append, List.flatMap_cons, List.flatMap_nil, List.append_nil, HFS.out, List.append_assoc], by rw [List.length_append, HFL.out]; omega⟩
        case measure => simp [intOf]; omega
      | 7, _ =>
        replace gx : ∀ h : k < s.size, (s[k]'h).toNat = 107 := gx
        have hc : wr.cell? ⟨w.heap.size, 32, none⟩ = some (.int .u8 c.as') := cm_cell15 XB ((cm_tl c 2).trans rfl)
        have CI := Lib.hid (C7.out hmem)
        clear XB hmem
        go_wp2_with fail
        refine (CI.out _).mono ?_; rintro e wd ⟨v2, rfl, hN⟩
        obtain ⟨A2, c2, rfl, r2, n2⟩ := owns_pt hN.o
        have R2 := Lib.hid r2; have N2 := Lib.hid n2
        have OV := Lib.hid (NVr.out.below hN.q)
        obtain ⟨FS, hFS⟩ : ∃ FS, fF c 7 = FS := ⟨_, rfl⟩
        rw [hFS] at R2 N2 fl0 ⊢
        obtain ⟨fl, hfl⟩ : ∃ fl, FS.length = fl := ⟨_, rfl⟩
        rw [hfl] at R2 N2 fl0 ⊢
        have HFS := Lib.hid hFS; have HFL := Lib.hid hfl
        clear hN r2 n2 hFS hfl hc
        go_wp2_with (at_builtin; refine wpl_append rfl (.tmp 75) (.tmp 79) rfl W1.heap.size _ X.length (X.map (Value.int .u8)) rfl OV.out.o A2 fl c2 FS rfl R2.out N2.out (by omega) OV.out.q.size ?_; intro v9 w9 o2 g2; have NN := Lib.hid (grew OV.out (by rw [HFL.out]; exact o2) g2); clear o2 g2)
        go_roundw
        case rel => exact ⟨k + 1, X ++ FS, hlt, by go_num, NN.out, by rw [TK.out, HXX.out, List.flatMap_append, List.flatMap_cons, List.flatMap_nil, List.append_nil, HFS.out, List.append_assoc], by rw [List.length_append, HFL.out]; omega⟩
        case measure => simp [intOf]; omega
      | 8, _ =>
        replace gx : ∀ h : k < s.size, (s[k]'h).toNat = 112 := gx
        have hc : wr.cell? ⟨w.heap.size, 33, none⟩ = some (.int .i64 c.px) := cm_cell15 XB ((cm_tl c 3).trans rfl)
        have CI := Lib.hid (C8.out hmem)
        clear XB hmem
        go_wp2_with fail
        refine (CI.out _).mono ?_; rintro e wd ⟨v2, rfl, hN⟩
        obtain ⟨A2, c2, rfl, r2, n2⟩ := owns_pt hN.o
        have R2 := Lib.hid r2; have N2 := Lib.hid n2
        have OV := Lib.hid (NVr.out.below hN.q)
        obtain ⟨FS, hFS⟩ : ∃ FS, fF c 8 = FS := ⟨_, rfl⟩
        rw [hFS] at R2 N2 fl0 ⊢
        obtain ⟨fl, hfl⟩ : ∃ fl, FS.length = fl := ⟨_, rfl⟩
        rw [hfl] at R2 N2 fl0 ⊢
        have HFS := Lib.hid hFS; have HFL := Lib.hid hfl
        clear hN r2 n2 hFS hfl hc
        go_wp2_with (at_builtin; refine wpl_append rfl (.tmp 83) (.tmp 86) rfl W1.heap.size _ X.length (X.map (Value.int .u8)) rfl OV.out.o A2 fl c2 FS rfl R2.out N2.out (by omega) OV.out.q.size ?_; intro v9 w9 o2 g2; have NN := Lib.hid (grew OV.out (by rw [HFL.out]; exact o2) g2); clear o2 g2)
        go_roundw
        case rel => exact ⟨k + 1, X ++ FS, hlt, by go_num, NN.out, by rw [TK.out, HXX.out, List.flatMap_append, List.flatMap_cons, List.flatMap_nil, List.append_nil, HFS.out, List.append_assoc], by rw [List.length_append, HFL.out]; omega⟩
        case measure => simp [intOf]; omega
      | 9, _ =>
        replace gx : ∀ h : k < s.size, (s[k]'h).toNat = 113 := gx
        have hc : wr.cell? ⟨w.heap.size, 34, none⟩ = some (.int .i64 c.qt) := cm_cell15 XB ((cm_tl c 4).trans rfl)
        have CI := Lib.hid (C9.out hmem)
        clear XB hmem
        go_wp2_with fail
        refine (CI.out _).mono ?_; rintro e wd ⟨v2, rfl, hN⟩
        obtain ⟨A2, c2, rfl, r2, n2⟩ := owns_pt hN.o
        have R2 := Lib.hid r2; have N2 := Lib.hid n2
        have OV := Lib.hid (NVr.out.below hN.q)
        obtain ⟨FS, hFS⟩ : ∃ FS, fF c 9 = FS := ⟨_, rfl⟩
        rw [hFS] at R2 N2 fl0 ⊢
        obtain ⟨fl, hfl⟩ : ∃ fl, FS.length = fl := ⟨_, rfl⟩
        rw [hfl] at R2 N2 fl0 ⊢
        have HFS := Lib.hid hFS; have HFL := Lib.hid hfl
        clear hN r2 n2 hFS hfl hc
        go_wp2_with (at_builtin; refine wpl_append rfl (.tmp 90) (.tmp 93) rfl W1.heap.size _ X.length (X.map (Value.int .u8)) rfl OV.out.o A2 fl c2 FS rfl R2.out N2.out (by omega) OV.out.q.size ?_; intro v9 w9 o2 g2; have NN := Lib.hid (grew OV.out (by rw [HFL.out]; exact o2) g2); clear o2 g2)
        go_roundw
        case rel => exact ⟨k + 1, X ++ FS, hlt, by go_num, NN.out, by rw [TK.out, HXX.out, List.flatMap_append, List.flatMap_cons, List.flatMap_nil, List.append_nil, HFS.out, List.append_assoc], by rw [List.length_append, HFL.out]; omega⟩
        case measure => simp [intOf]; omega
end Go.Proofs.YtbmlpokkojhhjaaGreat
/- The shifts of a contract's data as an array: read out of the data, and gone over; fields written one by one; no program's function. -/
namespace Go.Proofs.YtbmlpokkojhhjaaGreat
open Go.RowKit

/-- The shifts as a value. -/
def Sp.arr (s : Sp) : Array Value := (s.sh.map (Value.int .i64)).toArray
theorem info_arr : (Tryz.prog.info? 27).map (fun i => i.size) = some 16 := by kernel_rfl
theorem info_int : (Tryz.prog.info? 2).map (fun i => i.size) = some 1 := by kernel_rfl
theorem Box.range {w : World} {g : Nat} {s : Sp} (h : Box w g s) : w.rangeAt g 6 (s.sh.map (Value.int .i64)) := fun j v hj => by
  have hjl : j < s.sh.length := by have := (List.getElem?_eq_some_iff.1 hj).1; simpa using this
  rw [h.cell (6 + j), Sp.c6 h.2 j (by rw [← h.2]; exact hjl), ← hj]
  simp [List.getD, hjl]
theorem wl_load_arr {ops : Array Oper} {rest : List Oper} {a : Act} {w : World} {Q : Exit → Act → World → Prop} {d : Option Nat} {x : Operand} {ty : TypeId} {ps : String} {af : Array Edge} {s : Sp} (g : Nat) (hb : Box w g s)
    (hx : a.eval x = .pointer (some ⟨g, 6, none⟩)) (h : wpList Tryz.prog ops Q rest (a.put d (.agg s.arr)) w) : wpList Tryz.prog ops Q (⟨d, .load 27 x, ty, ps, af, none⟩ :: rest) a w :=
  wpList_load_mid rfl 27 x rfl g 6 hx (s.sh.map (Value.int .i64)) _ hb.range Tryz.underlying27 rfl (by rw [info_arr, List.length_map, hb.2]) h
theorem exec_index {o : Oper} {a : Act} {x i : Operand} (ho : o.op = .index 27 x i) {s : Sp} (hl : s.sh.length = 16) {k : Nat} (hk : k < 16) (hx : a.eval x = .agg s.arr) (hi : a.eval i = .int .i64 (k : Int)) (w : World) :
    (execOp a.eval o).run Tryz.prog w = .ok (.value (.int .i64 (s.sh.getD k 0))) w := by
  have hkl : k < s.sh.length := by omega
  obtain ⟨i0, h0, h1⟩ : ∃ i0, Tryz.prog.info? 2 = some i0 ∧ i0.size = 1 := by
    have := info_int
    cases h : Tryz.prog.info? 2 with
    | none => rw [h] at this; cases this
    | some i0 => rw [h] at this; exact ⟨i0, rfl, by simpa using this⟩
  have hc : s.arr[k]? = some (.int .i64 (s.sh.getD k 0)) := by simp [Sp.arr, List.getD, hkl]
  unfold execOp
  simp [ho, hx, hi, Instr.index, asIntOf, run_underlying Tryz.underlying27, sizeOf, typeInfo, h0, h1, part, isAgg, run_underlying Tryz.underlying2, hc, Result.andThen, hk]
theorem wl_index_arr {ops : Array Oper} {rest : List Oper} {a : Act} {w : World} {Q : Exit → Act → World → Prop} {d : Option Nat} {x i : Operand} {ty : TypeId} {ps : String} {af : Array Edge} {s : Sp} {k : Nat} (hl : s.sh.length = 16) (hk : k < 16)
    (hx : a.eval x = .agg s.arr) (hi : a.eval i = .int .i64 (k : Int)) (h : wpList Tryz.prog ops Q rest (a.put d (.int .i64 (s.sh.getD k 0))) w) : wpList Tryz.prog ops Q (⟨d, .index 27 x i, ty, ps, af, none⟩ :: rest) a w :=
  wpList_plain rfl fun K hK => by
    unfold Oper.wp
    rw [exec_index rfl hl hk hx hi w]
    exact hK _ _ h
end Go.Proofs.YtbmlpokkojhhjaaGreat
/- Stands in for XVm where the document's reader (XRf) is in the law, too. -/
namespace Go.Proofs.YtbmlpokkojhhjaaGreat
theorem sR_by {bs : List Int} (hy : By bs) (e m : Int) : By (sR bs e m).2.1 ∧ (sR bs e m).2.1.length ≤ bs.length := by
  unfold sR
  split
  · exact ⟨hy, Nat.le_refl _⟩
  · split
    · exact ⟨hy, Nat.le_refl _⟩
    · split
      · exact ⟨hy, Nat.le_refl _⟩
      · exact ⟨fun x hx => hy x (List.mem_of_mem_drop hx), by dsimp only; rw [List.length_drop]; omega⟩
end Go.Proofs.YtbmlpokkojhhjaaGreat
/- Plain facts on reading a contract's data number by number; no program. -/
namespace Go.Proofs.YtbmlpokkojhhjaaGreat

theorem sR_form {n : Nat} (hn : n < 18446744073709551616) {most : Int} (hm : (n : Int) ≤ most) (l : List Int) : sR (nb n ++ l) 0 most = ((n : Int), l, 0) := by
  unfold sR
  rw [if_neg (by simp), rd_nb hn l]
  dsimp only
  rw [if_neg (by simp), if_neg (by omega), List.drop_left]
theorem sR_stuck {bs : List Int} {e most : Int} (he : e ≠ 0) : sR bs e most = (0, bs, e) := if_pos he
theorem sR_start {bs : List Int} {e most : Int} (h : (sR bs e most).2.2 = 0) : e = 0 := by
  refine Classical.byContradiction fun c => ?_
  rw [sR_stuck c] at h
  exact c h
theorem sR_back {bs : List Int} (hy : By bs) {most : Int} (h : (sR bs 0 most).2.2 = 0) :
    bs = nb (sR bs 0 most).1.toNat ++ (sR bs 0 most).2.1 ∧ (0 ≤ (sR bs 0 most).1 ∧ (sR bs 0 most).1 ≤ most ∧ (sR bs 0 most).1 ≤ 18446744073709551615) ∧ By (sR bs 0 most).2.1 := by
  have hk := rdN_ok hy
  unfold sR at h ⊢
  rw [if_neg (by simp)] at h ⊢
  by_cases h1 : (rdN bs).2.2 = 0
  · have hf := rd_form hy h1
    rw [if_neg (by simpa using h1)] at h ⊢
    by_cases h2 : most < (rdN bs).1
    · rw [if_pos h2] at h
      cases h
    · rw [if_neg h2]
      dsimp only
      refine ⟨?_, ⟨hk.1, by omega, hk.2⟩, fun x hx => hy x (List.mem_of_mem_drop hx)⟩
      rw [← hf.1, List.take_append_drop]
  · rw [if_pos h1] at h
    exact absurd h h1
/-- A whole number. -/
def iR (bs : List Int) (e : Int) : Int × List Int × Int := (zz (sR bs e top).1, (sR bs e top).2)
theorem iR_form {i : Int} (h : I64 i) (l : List Int) : iR (ib i ++ l) 0 = (i, l, 0) := by
  have := s_ib h l
  unfold iR
  rw [this.1, this.2]
theorem iR_start {bs : List Int} {e : Int} (h : (iR bs e).2.2 = 0) : e = 0 := sR_start h
theorem iR_back {bs : List Int} (hy : By bs) (h : (iR bs 0).2.2 = 0) : bs = ib (iR bs 0).1 ++ (iR bs 0).2.1 ∧ I64 (iR bs 0).1 ∧ By (iR bs 0).2.1 := by
  have hb := sR_back hy h
  have e := ib_zz (n := (sR bs 0 top).1.toNat) (by have := hb.2.1.2.2; omega)
  rw [show (((sR bs 0 top).1.toNat : Nat) : Int) = (sR bs 0 top).1 by have := hb.2.1.1; omega] at e
  refine ⟨?_, ?_, hb.2.2⟩
  · show bs = ib (zz (sR bs 0 top).1) ++ _
    rw [e]
    exact hb.1
  · show I64 (zz (sR bs 0 top).1)
    have h1 := hb.2.1.1
    have h2 := hb.2.1.2.2
    unfold zz I64
    split <;> omega
/-- So many whole numbers. -/
def iRs (bs : List Int) (e : Int) : Nat → List Int × List Int × Int
  | 0 => ([], bs, e)
  | k + 1 => ((iRs bs e k).1 ++ [(iR (iRs bs e k).2.1 (iRs bs e k).2.2).1], (iR (iRs bs e k).2.1 (iRs bs e k).2.2).2)
theorem iRs_len (bs : List Int) (e : Int) : ∀ k, (iRs bs e k).1.length = k
  | 0 => rfl
  | k + 1 => by simp [iRs, iRs_len bs e k]
theorem iRs_start {bs : List Int} {e : Int} : ∀ {k : Nat}, (iRs bs e k).2.2 = 0 → e = 0
  | 0, h => h
  | k + 1, h => iRs_start (k := k) (iR_start h)
theorem iRs_form : ∀ (k : Nat) (xs : List Int) (r : List Int), xs.length = k → (∀ x, x ∈ xs → I64 x) → iRs (shF xs ++ r) 0 k = (xs, r, 0)
  | 0, xs, r, hl, _ => by
    obtain rfl : xs = [] := List.eq_nil_of_length_eq_zero hl
    simp [iRs, shF]
  | k + 1, xs, r, hl, h => by
    obtain ⟨ys, x, rfl⟩ : ∃ ys x, xs = ys ++ [x] := ⟨xs.dropLast, xs.getLast (by intro c; rw [c] at hl; simp at hl), (List.dropLast_concat_getLast _).symm⟩
    have e : shF (ys ++ [x]) ++ r = shF ys ++ (ib x ++ r) := by rw [shF_snoc, List.append_assoc]
    have ih := iRs_form k ys (ib x ++ r) (by simpa using hl) (fun z hz => h z (by simp [hz]))
    rw [e]
    simp only [iRs]
    rw [ih]
    dsimp only
    rw [iR_form (h x (by simp)) r]
theorem iRs_back {bs : List Int} (hy : By bs) : ∀ {k : Nat}, (iRs bs 0 k).2.2 = 0 → bs = shF (iRs bs 0 k).1 ++ (iRs bs 0 k).2.1 ∧ (∀ x, x ∈ (iRs bs 0 k).1 → I64 x) ∧ By (iRs bs 0 k).2.1
  | 0, _ => ⟨by simp [iRs, shF], fun x hx => by simp [iRs] at hx, hy⟩
  | k + 1, h => by
    have h0 : (iRs bs 0 k).2.2 = 0 := iR_start h
    obtain ⟨i1, i2, i3⟩ := iRs_back hy h0
    have h' : (iR (iRs bs 0 k).2.1 0).2.2 = 0 := by
      have h2 : (iR (iRs bs 0 k).2.1 (iRs bs 0 k).2.2).2.2 = 0 := h
      rwa [h0] at h2
    obtain ⟨j1, j2, j3⟩ := iR_back i3 h'
    simp only [iRs]
    rw [h0]
    refine ⟨?_, fun x hx => ?_, j3⟩
    · rw [shF_snoc, List.append_assoc, ← j1]
      exact i1
    · rcases List.mem_append.1 hx with k | k
      · exact i2 x k
      · simp only [List.mem_cons, List.not_mem_nil, or_false] at k
        rw [k]; exact j2
/-- The data, number by number, each not above its bound. -/
def tS (m : Nat → Int) (bs : List Int) (e : Int) : Sp × List Int × Int :=
  let r0 := sR bs e (m 0)
  let r1 := sR r0.2.1 r0.2.2 (m 1)
  let r2 := sR r1.2.1 r1.2.2 (m 2)
  let r3 := sR r2.2.1 r2.2.2 (m 3)
  let r4 := sR r3.2.1 r3.2.2 (m 4)
  let r5 := sR r4.2.1 r4.2.2 (m 5)
  let q := iRs r5.2.1 r5.2.2 16
  let r6 := sR q.2.1 q.2.2 (m 6)
  let r7 := sR r6.2.1 r6.2.2 (m 7)
  let r8 := sR r7.2.1 r7.2.2 (m 8)
  (⟨r0.1, r1.1, r2.1, r3.1, r4.1, r5.1, q.1, r6.1, r7.1, r8.1⟩, r8.2)
theorem tS_form (m : Nat → Int) {s : Sp} (ok : s.ok) (hm : mayB s = true) (b0 : s.nu ≤ m 0) (b1 : s.ro ≤ m 1) (b2 : s.ti ≤ m 2) (b3 : s.lo ≤ m 3) (b4 : s.ba ≤ m 4) (b5 : s.li ≤ m 5) (b6 : s.cr ≤ m 6) (b7 : s.la ≤ m 7) (b8 : s.fi ≤ m 8) (l : List Int) :
    tS m (form s ++ l) 0 = (s, l, 0) := by
  have hp := head_parts (may_head hm)
  have hf := may_fi hm
  have a1 := ok.nu
  have a3 := ok.ro
  have a5 := ok.la
  have f : ∀ (x : Int) (most : Int) (r : List Int), 0 ≤ x → x ≤ 9223372036854775807 → x ≤ most → sR (nb x.toNat ++ r) 0 most = (x, r, 0) := fun x most r h1 h2 h3 => by
    rw [sR_form (by omega) (by omega) r]
    congr 1
    omega
  unfold form six
  simp only [List.append_assoc]
  unfold tS
  simp only [f s.nu (m 0) _ (by omega) (by omega) b0, f s.ro (m 1) _ (by omega) (by omega) b1, f s.ti (m 2) _ (by omega) (by omega) b2, f s.lo (m 3) _ (by omega) (by omega) b3, f s.ba (m 4) _ (by omega) (by omega) b4, f s.li (m 5) _ (by omega) (by omega) b5,
    iRs_form 16 s.sh _ ok.len ok.sh, f s.cr (m 6) _ (by omega) (by omega) b6, f s.la (m 7) _ (by omega) (by omega) b7, f s.fi (m 8) _ (by omega) (by omega) b8]
theorem tS_back (m : Nat → Int) {bs : List Int} (hy : By bs) (m0 : m 0 ≤ 4294967295) (m1 : m 1 ≤ 255) (m7 : m 7 ≤ 4294967295) (hm : ∀ i, m i ≤ 9223372036854775807) {s : Sp} {r : List Int} (h : tS m bs 0 = (s, r, 0)) : s.ok ∧ bs = form s ++ r ∧ By r := by
  unfold tS at h
  simp only [Prod.mk.injEq] at h
  obtain ⟨hs, hr⟩ := h
  generalize g0 : sR bs 0 (m 0) = r0 at *
  generalize g1 : sR r0.2.1 r0.2.2 (m 1) = r1 at *
  generalize g2 : sR r1.2.1 r1.2.2 (m 2) = r2 at *
  generalize g3 : sR r2.2.1 r2.2.2 (m 3) = r3 at *
  generalize g4 : sR r3.2.1 r3.2.2 (m 4) = r4 at *
  generalize g5 : sR r4.2.1 r4.2.2 (m 5) = r5 at *
  generalize gq : iRs r5.2.1 r5.2.2 16 = q at *
  generalize g6 : sR q.2.1 q.2.2 (m 6) = r6 at *
  generalize g7 : sR r6.2.1 r6.2.2 (m 7) = r7 at *
  generalize g8 : sR r7.2.1 r7.2.2 (m 8) = r8 at *
  have z8 : r8.2.2 = 0 := by rw [hr]
  have z7 : r7.2.2 = 0 := sR_start (by rw [g8]; exact z8)
  have z6 : r6.2.2 = 0 := sR_start (by rw [g7]; exact z7)
  have zq : q.2.2 = 0 := sR_start (by rw [g6]; exact z6)
  have z5 : r5.2.2 = 0 := iRs_start (k := 16) (by rw [gq]; exact zq)
  have z4 : r4.2.2 = 0 := sR_start (by rw [g5]; exact z5)
  have z3 : r3.2.2 = 0 := sR_start (by rw [g4]; exact z4)
  have z2 : r2.2.2 = 0 := sR_start (by rw [g3]; exact z3)
  have z1 : r1.2.2 = 0 := sR_start (by rw [g2]; exact z2)
  have z0 : r0.2.2 = 0 := sR_start (by rw [g1]; exact z1)
  rw [z0] at g1
  rw [z1] at g2
  rw [z2] at g3
  rw [z3] at g4
  rw [z4] at g5
  rw [z5] at gq
  rw [zq] at g6
  rw [z6] at g7
  rw [z7] at g8
  have step : ∀ {b : List Int} {most : Int} {x : Int × List Int × Int}, By b → sR b 0 most = x → x.2.2 = 0 → b = nb x.1.toNat ++ x.2.1 ∧ (0 ≤ x.1 ∧ x.1 ≤ most ∧ x.1 ≤ 18446744073709551615) ∧ By x.2.1 := fun hb e hz => by
    subst e
    exact sR_back hb hz
  obtain ⟨e0, c0, y0⟩ := step hy g0 z0
  obtain ⟨e1, c1, y1⟩ := step y0 g1 z1
  obtain ⟨e2, c2, y2⟩ := step y1 g2 z2
  obtain ⟨e3, c3, y3⟩ := step y2 g3 z3
  obtain ⟨e4, c4, y4⟩ := step y3 g4 z4
  obtain ⟨e5, c5, y5⟩ := step y4 g5 z5
  have hq := iRs_back y5 (k := 16) (by rw [gq]; exact zq)
  have hql := iRs_len r5.2.1 0 16
  rw [gq] at hq hql
  obtain ⟨eq, cq, yq⟩ := hq
  obtain ⟨e6, c6, y6⟩ := step yq g6 z6
  obtain ⟨e7, c7, y7⟩ := step y6 g7 z7
  obtain ⟨e8, c8, y8⟩ := step y7 g8 z8
  have n0 := hm 2
  have n3 := hm 3
  have n4 := hm 4
  have n5 := hm 5
  have n6 := hm 6
  have n8 := hm 8
  subst hs
  have hr1 : r8.2.1 = r := by rw [hr]
  refine ⟨⟨?_, ?_, ?_, ?_, ?_, ?_, hql, cq, ?_, ?_, ?_⟩, ?_, by rw [← hr1]; exact y8⟩
  · dsimp only; omega
  · dsimp only; omega
  · dsimp only; unfold I64; omega
  · dsimp only; unfold I64; omega
  · dsimp only; unfold I64; omega
  · dsimp only; unfold I64; omega
  · dsimp only; unfold I64; omega
  · dsimp only; omega
  · dsimp only; unfold I64; omega
  · unfold form six
    dsimp only
    simp only [List.append_assoc]
    rw [← hr1, ← e8, ← e7, ← e6, ← eq, ← e5, ← e4, ← e3, ← e2, ← e1]
    exact e0
end Go.Proofs.YtbmlpokkojhhjaaGreat
