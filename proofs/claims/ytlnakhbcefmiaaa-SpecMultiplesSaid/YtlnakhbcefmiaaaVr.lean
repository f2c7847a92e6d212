/- The program's own reader: NewReader, Small, Nat, Int, Fail, Done, Left. -/
import Derived.Test.YtlnakhbcefmiaaaBy
import Derived.Test.YtlnakhbcefmiaaaPt
import Derived.Test.YtlnakhbcefmiaaaRdMath
import Derived.Lib.AppendZerosOnto
import Derived.Lib.SliceRun
import Derived.Lib.Walk
namespace Go.Proofs.Ytlnakhbcefmiaaa
open Go.RowKit

/-- What a number's reading tells. -/
def NatE (bs : List Int) (w : World) (e : Ending) (w' : World) : Prop := e = .returned (.tuple #[.int .u64 (rdN bs).1, .int .i64 ((rdN bs).2.1 : Nat), .int .i64 (rdN bs).2.2]) ∧ w = w'
section
variable {w : World} {g : Nat} {A : Option Addr} {n c : Nat} {bs : List Int} {e : Int}
theorem only_set (w : World) (g k : Nat) (v : Value) : w.grownBy (w.setCell ⟨g, k, none⟩ v) (some g) :=
  ⟨rfl, rfl, rfl, by simp, fun i _ hi => heap_setCell_other w ⟨g, k, none⟩ i v fun e => hi (by rw [e])⟩
end
section
variable {w : World} {g : Nat} {A : Option Addr} {n c : Nat} {bs : List Int} {e : Int}
theorem RdB.cut (r : RdB w A n bs) (k : Nat) : RdB w (A.map fun x => x.add k) (n - k) (bs.drop k) :=
  ⟨by rw [List.length_drop, r.1], fun hn => by
    obtain ⟨b, o, e1, hc⟩ := r.2 (by omega)
    subst e1
    refine ⟨b, o + k, by simp [Addr.add_mid], fun j hj => ?_⟩
    rw [Nat.add_assoc, hc (k + j) (by omega)]
    simp [List.getD]⟩
end
section
variable {w : World} {g : Nat} {A : Option Addr} {n c : Nat} {bs : List Int} {e : Int}
theorem RdB.all (r : RdB w A n bs) {k m : Nat} (hk : n ≤ k) (hm : m = 0) (A' : Option Addr) : RdB w A' m (bs.drop k) :=
  ⟨by rw [List.length_drop, r.1]; omega, fun hn => absurd hn (by omega)⟩
end
theorem rdN_le (bs : List Int) : (rdN bs).2.1 ≤ bs.length := by
  unfold rdN
  split
  · exact Nat.zero_le _
  · split
    · exact Nat.zero_le _
    · show ld bs + 1 ≤ bs.length
      omega
theorem rdN_ok {bs : List Int} (hy : By bs) : 0 ≤ (rdN bs).1 ∧ (rdN bs).1 ≤ 18446744073709551615 := by
  unfold rdN
  split
  · exact ⟨Int.le_refl _, show (0 : Int) ≤ 18446744073709551615 by decide⟩
  · split
    · exact ⟨Int.le_refl _, show (0 : Int) ≤ 18446744073709551615 by decide⟩
    · rename_i h1 h2
      refine ⟨dv_nonneg _, dv_word (by omega) (by omega) fun e => ⟨?_, by omega⟩⟩
      refine (hy (bs.getD 9 0) ?_).1
      have h3 : 9 < bs.length := by omega
      rw [show bs.getD 9 0 = bs[9] from by simp [List.getD, h3]]
      exact List.getElem_mem _
theorem rdN_pos {bs : List Int} (h : (rdN bs).2.2 = 0) : 0 < (rdN bs).2.1 := by
  unfold rdN at h ⊢
  split
  · rename_i c
    rw [if_pos c] at h
    dsimp only at h
    split at h <;> cases h
  · rename_i c
    rw [if_neg c] at h
    split
    · rename_i c2
      rw [if_pos c2] at h
      cases h
    · exact Nat.succ_pos _
theorem rdN_fault (bs : List Int) : (rdN bs).2.2 = 0 ∨ ((rdN bs).2.2 = 4 ∧ (rdN bs).1 = 0) ∨ ((rdN bs).2.2 = 5 ∧ (rdN bs).1 = 0) := by
  unfold rdN
  split
  · split
    · exact .inr (.inr ⟨rfl, rfl⟩)
    · exact .inr (.inl ⟨rfl, rfl⟩)
  · split
    · exact .inr (.inr ⟨rfl, rfl⟩)
    · exact .inl rfl
/-- What a reading answers, what is left, and the fault. -/
def sR (bs : List Int) (e most : Int) : Int × List Int × Int :=
  if e ≠ 0 then (0, bs, e) else if (rdN bs).2.2 ≠ 0 then (0, bs, (rdN bs).2.2) else if most < (rdN bs).1 then (0, bs, 5) else ((rdN bs).1, bs.drop (rdN bs).2.1, 0)
def top : Int := 18446744073709551615
/-- A whole number out of its form. -/
def zz (n : Int) : Int := if n % 2 = 0 then n / 2 else -(n / 2) - 1
theorem sR_bd {bs : List Int} (hy : By bs) (e most : Int) : 0 ≤ (sR bs e most).1 ∧ (sR bs e most).1 ≤ 18446744073709551615 := by
  have := rdN_ok hy
  unfold sR
  split
  · exact ⟨Int.le_refl _, show (0 : Int) ≤ 18446744073709551615 by decide⟩
  · split
    · exact ⟨Int.le_refl _, show (0 : Int) ≤ 18446744073709551615 by decide⟩
    · split
      · exact ⟨Int.le_refl _, show (0 : Int) ≤ 18446744073709551615 by decide⟩
      · exact this
set_option maxRecDepth 100000 in
theorem clone_any (A : Option Addr) (n c : Nat) (bs : List Int) (w : World) (h : RdB w A n bs) (hn : n ≤ 200000) (h0 : A = none → n = 0 ∧ c = 0) :
    Calls Try.prog 30 #[.slice A n c] w fun e W => Made w bs e W := by
  have hl := h.1
  have q := fun (w : World) (a : Option Addr) (n c n' c' : Nat) => Lib.run_eql_slice_nil (P := Try.prog) w 30 5 a n c n' c' Try.underlying30
  obtain ⟨i0, hi0, hz0, hz1, hz2⟩ := info_parts info_u8
  have O := Lib.hid (own_none w)
  have Q := Lib.hid ((Below.refl _ w).alloc (Nat.le_refl _) (.cells #[] 5))
  have R0 := Lib.hid (h.below Q.out)
  cases A with
  | none =>
    obtain ⟨rfl, rfl⟩ := h0 rfl
    have : bs = [] := List.eq_nil_of_length_eq_zero hl
    subst this
    clear hl h
    go_enter Try.func30, Try.ntmps30
    go_wp2
    go_ret
    exact ⟨_, rfl, World.ownsRow_nil _ _ _ _, Below.refl _ _⟩
  | some ad =>
    have NW := Lib.hid (news_rd R0.out)
    have HL : Hid ((bs.map (Value.int .u8)).length = n * 1) := Lib.hid (by simp [hl])
    have HLL := Lib.hid hl
    clear hl h
    go_enter Try.func30, Try.ntmps30
    go_wp2_with (at_builtin; refine wpList_append_own _ rfl _ _ 30 rfl w.heap.size 5 i0 (.int .u8 0) 1 1 Try.underlying30 hi0 hz0 hz1 hz2 rfl (by decide) (.slice (some ⟨w.heap.size, 0, none⟩) 0 0) 0 [] rfl O.out ad n c (bs.map (Value.int .u8)) rfl HL.out NW.out (one_u8 _) (by unfold maxLen; omega) (by omega) (one_alloc _ _) ?_; intro v2 w2 hown2 hgrow2 _; rw [Nat.zero_add, List.nil_append] at hown2; have HO := Lib.hid hown2; have HG := Lib.hid (Q.out.grown hgrow2 (one_alloc _ _) (by intro k hk; simp [Value.ownBlock] at hk; omega)); clear hown2 hgrow2)
    go_ret
    refine ⟨_, rfl, ?_, HG.out⟩
    rw [HLL.out]
    exact HO.out

theorem ld_least : ∀ (bs : List Int) (k : Nat), k ≤ bs.length → (∀ t, t < k → 128 ≤ bs.getD t 0) → k ≤ ld bs
  | _, 0, _, _ => Nat.zero_le _
  | [], k + 1, h, _ => by simp at h
  | x :: l, k + 1, h, hp => by
    have h0 := hp 0 (by omega)
    simp at h0
    simp only [ld]
    rw [if_pos h0]
    have := ld_least l k (by simp at h; omega) (fun t ht => by have := hp (t + 1) (by omega); simpa [List.getD] using this)
    omega
theorem acc_eq {bs : List Int} {k : Nat} (h : k < bs.length) : dv (bs.take (k + 1)) = dv (bs.take k) + bs.getD k 0 % 128 * 2 ^ (7 * k) := by
  have e : bs.getD k 0 = bs[k] := by simp [List.getD, h]
  have p : (2 : Int) ^ (7 * k) = 128 ^ k := by rw [Int.pow_mul]; rfl
  rw [List.take_succ_eq_append_getElem h, dv_snoc, e, p, List.length_take, Nat.min_eq_left (by omega), Int.mul_comm]
theorem acc_step {bs : List Int} {k : Nat} {x v : Int} (h : k < bs.length) (h9 : k ≤ 9) (hx : bs.getD k 0 = x) (hv : dv (bs.take k) = v) (h0 : 0 ≤ x) (h1 : k = 9 → x ≤ 1) :
    IntKind.u64.wrap (v + IntKind.u64.wrap (x % 128 * 2 ^ (7 * k))) = dv (bs.take (k + 1)) := by
  have e := acc_eq h
  have b := dv_word h h9 (fun c => by subst c; rw [hx]; exact ⟨h0, h1 rfl⟩)
  have p := dv_nonneg (bs.take k)
  have q : (0 : Int) ≤ x % 128 * 2 ^ (7 * k) := Int.mul_nonneg (by omega) (Int.le_of_lt (Int.pow_pos (by decide)))
  rw [hx, hv] at e
  rw [hv] at p
  rw [e] at b ⊢
  generalize x % 128 * 2 ^ (7 * k) = y at *
  rw [IntKind.wrap_u64, IntKind.wrap_u64]
  omega
/-- The loop's end, in the plain reading's words. -/
theorem rd_end {bs : List Int} {k : Nat} {x : Int} (h : k < bs.length) (h9 : k ≤ 9) (hp : ∀ t, t < k → 128 ≤ bs.getD t 0) (hx : bs.getD k 0 = x) (h128 : x < 128) (h1 : k = 9 → x ≤ 1) (h0 : 0 < k → x ≠ 0) : rdN bs = (dv (bs.take (k + 1)), k + 1, 0) := by
  have E := ld_eq (bs := bs) (k := k) hp (by omega) (fun _ => by rw [hx]; exact h128)
  unfold rdN
  rw [if_neg (by omega), if_neg, E]
  rw [E, hx]
  rintro (c | ⟨c1, c2⟩ | ⟨c1, c2⟩)
  · omega
  · rw [← c1, hx] at c2
    have := h1 c1
    omega
  · exact h0 c1 c2
theorem rd_zero {bs : List Int} {k : Nat} (h : k < bs.length) (hp : ∀ t, t < k → 128 ≤ bs.getD t 0) (hx : bs.getD k 0 = 0) (h0 : 0 < k) : rdN bs = (0, 0, 5) := by
  have E := ld_eq (bs := bs) (k := k) hp (by omega) (fun _ => by rw [hx]; decide)
  unfold rdN
  rw [if_neg (by omega), if_pos]
  rw [E, hx]
  exact .inr (.inr ⟨h0, rfl⟩)
theorem rd_nine {bs : List Int} {x : Int} (h : 9 < bs.length) (hp : ∀ t, t < 9 → 128 ≤ bs.getD t 0) (hx : bs.getD 9 0 = x) (h1 : 1 < x) : rdN bs = (0, 0, 5) := by
  by_cases c : x < 128
  · have E := ld_eq (bs := bs) (k := 9) hp (by omega) (fun _ => by rw [hx]; exact c)
    unfold rdN
    rw [if_neg (by omega), if_pos]
    rw [E, hx]
    exact .inr (.inl ⟨rfl, h1⟩)
  · have g : 10 ≤ ld bs := ld_least bs 10 (by omega) (fun t ht => by
      rcases Nat.lt_succ_iff_lt_or_eq.1 ht with h2 | rfl
      · exact hp t h2
      · rw [hx]; omega)
    unfold rdN
    split
    · rfl
    · rw [if_pos (.inl (by omega))]
set_option maxRecDepth 100000 in
set_option maxHeartbeats 2000000 in
theorem leading_any (n c : Nat) (A : Option Addr) (bs : List Int) (w : World) (h : RdB w A n bs) (hy : By bs) (hn : n ≤ 200000) :
    Calls Try.prog 48 #[.slice A n c] w fun e w' => NatE bs w e w' := by
  have hl := h.1
  have HH := Lib.hid h
  have HY := Lib.hid hy
  have HL := Lib.hid hl
  clear h hy hl
  go_enter Try.func48, Try.ntmps48
  go_wp2_with fail
  go_loop [5, 6, 7, 10] (fun a _ _ i => ∃ k : Nat, k ≤ n ∧ k ≤ 9 ∧ i = .int .i64 k ∧ a = .int .u64 (dv (bs.take k)) ∧ ∀ t, t < k → 128 ≤ bs.getD t 0) (fun _ _ _ i => n - (intOf i).toNat)
  case atStart => exact ⟨0, Nat.zero_le _, Nat.zero_le _, rfl, rfl, fun t ht => absurd ht (Nat.not_lt_zero t)⟩
  case round =>
    obtain ⟨k, hk, h9, rfl, rfl, hp⟩ := hrel
    have HP := Lib.hid hp
    clear hp
    by_cases hlt : k < n
    case neg =>
      obtain rfl : k = n := by omega
      have E := ld_eq (bs := bs) (k := k) HP.out (by rw [HL.out]; exact Nat.le_refl _) (fun c => by rw [HL.out] at c; omega)
      have R : rdN bs = (0, 0, 4) := by unfold rdN; rw [E, if_pos (by rw [HL.out]; exact Nat.le_refl _), if_neg (by omega)]
      have HRD := Lib.hid R
      clear R E
      go_wp2
      go_ret3
      unfold NatE
      rw [HRD.out]
      exact ⟨rfl, rfl⟩
    case pos =>
      obtain ⟨b, o, rfl, hc⟩ := HH.out.2 (by omega)
      have hcell := hc k hlt
      have hyk : 0 ≤ bs.getD k 0 ∧ bs.getD k 0 ≤ 255 := HY.out _ (by
        have h3 : k < bs.length := by rw [HL.out]; exact hlt
        rw [show bs.getD k 0 = bs[k] from by simp [List.getD, h3]]
        exact List.getElem_mem _)
      obtain ⟨x, hx⟩ : ∃ x, bs.getD k 0 = x := ⟨_, rfl⟩
      rw [hx] at hcell hyk
      have HX := Lib.hid hx
      obtain ⟨v, hv⟩ : ∃ v, dv (bs.take k) = v := ⟨_, rfl⟩
      rw [hv]
      clear hc hx
      have hkl : k < bs.length := by rw [HL.out]; exact hlt
      by_cases k9 : k = 9
      · subst k9
        have hcell9 : w.cell? ⟨b, o + 9, none⟩ = some (.int .u8 x) := hcell
        by_cases x1 : 1 < x
        · have HRD := Lib.hid (rd_nine hkl HP.out HX.out x1)
          clear hkl hv
          go_wp2
          go_ret3
          unfold NatE
          rw [HRD.out]
          exact ⟨rfl, rfl⟩
        · by_cases x0 : x = 0
          · subst x0
            have HRD := Lib.hid (rd_zero hkl HP.out HX.out (by omega))
            clear hkl hv
            go_wp2
            go_ret3
            unfold NatE
            rw [HRD.out]
            exact ⟨rfl, rfl⟩
          · obtain rfl : x = 1 := by omega
            have HRD := Lib.hid (rd_end hkl h9 HP.out HX.out (by decide) (fun _ => by decide) (fun _ => by decide))
            have HA := Lib.hid (acc_step hkl h9 HX.out hv (by decide) (fun _ => by decide))
            have hb := dv_lt (bs.take 9)
            have hb0 := dv_nonneg (bs.take 9)
            rw [hv, show (bs.take 9).length = 9 by rw [List.length_take]; omega, show (128 : Int) ^ 9 = 9223372036854775808 by decide] at hb
            rw [hv] at hb0
            clear hkl hv x0 x1
            go_wp2
            go_ret3
            unfold NatE
            rw [HRD.out, ← HA.out]
            refine ⟨?_, rfl⟩
            rw [show IntKind.u64.wrap (v + IntKind.u64.wrap (1 % 128 * 2 ^ (7 * 9))) = v + 9223372036854775808 by rw [IntKind.wrap_u64, IntKind.wrap_u64]; omega]
            go_num
      · have hk9 : decide ((k : Int) = 9) = false := decide_eq_false (by omega)
        have hk9' : ((k : Int) == 9) = false := by simp; omega
        have HA := Lib.hid (acc_step hkl h9 HX.out hv hyk.1 (fun c => absurd c k9))
        by_cases h128 : 128 ≤ x
        · clear hkl hv
          go_wp2
          go_round
          case rel => exact ⟨k + 1, hlt, by omega, by go_num, by rw [HA.out], fun t ht => by
            rcases Nat.lt_succ_iff_lt_or_eq.1 ht with h1 | rfl
            · exact HP.out t h1
            · rw [HX.out]; exact h128⟩
          case measure => simp [intOf]; omega
        · by_cases x0 : x = 0
          · subst x0
            by_cases k0 : k = 0
            · subst k0
              have hcell0 : w.cell? ⟨b, o, none⟩ = some (.int .u8 0) := hcell
              have HRD := Lib.hid (rd_end hkl h9 HP.out HX.out (by decide) (fun _ => by decide) (fun c => absurd c (Nat.lt_irrefl 0)))
              obtain rfl : v = 0 := hv.symm
              clear hkl hv
              go_wp2
              go_ret3
              unfold NatE
              rw [HRD.out, ← HA.out]
              exact ⟨rfl, rfl⟩
            · have HRD := Lib.hid (rd_zero hkl HP.out HX.out (by omega))
              have hk0 : 0 < k := by omega
              clear hkl hv
              go_wp2
              go_ret3
              unfold NatE
              rw [HRD.out]
              exact ⟨rfl, rfl⟩
          · have hx0 : decide (x = 0) = false := decide_eq_false x0
            have hx0' : (x == 0) = false := by simpa using x0
            have HRD := Lib.hid (rd_end hkl h9 HP.out HX.out (by omega) (fun c => absurd c k9) (fun _ => x0))
            clear hkl hv
            go_wp2
            go_ret3
            unfold NatE
            rw [HRD.out, ← HA.out]
            exact ⟨rfl, rfl⟩

/-- A reader of the program that stands in memory: what is left, and the fault. -/
structure Rq (W : World) (g : Nat) (A : Option Addr) (n c : Nat) (bs : List Int) (e : Int) : Prop where
  b : W.heap[g]? = some (.cells #[.slice A n c, .int .i64 e] 61 (0, 0))
  r : RdB W A n bs
  nc : n ≤ c
section
variable {w W : World} {g : Nat} {A : Option Addr} {n c : Nat} {bs : List Int} {e : Int}
theorem Rq.c0 (h : Rq W g A n c bs e) : W.cell? ⟨g, 0, none⟩ = some (.slice A n c) := by rw [cell_of_row _ _ _ _ _ _ h.b]; rfl
end
section
variable {w W : World} {g : Nat} {A : Option Addr} {n c : Nat} {bs : List Int} {e : Int}
theorem Rq.c1 (h : Rq W g A n c bs e) : W.cell? ⟨g, 1, none⟩ = some (.int .i64 e) := by rw [cell_of_row _ _ _ _ _ _ h.b]; rfl
end
section
variable {w W : World} {g : Nat} {A : Option Addr} {n c : Nat} {bs : List Int} {e : Int}
theorem Rq.fr (h : Rq W g A n c bs e) (k : Nat) : W.frozen? ⟨g, k, none⟩ = false := frozen_of_row W g k _ _ h.b
end
section
variable {w W : World} {g : Nat} {A : Option Addr} {n c : Nat} {bs : List Int} {e : Int}
theorem Rq.far (h : Rq w g A n c bs e) {b o j : Nat} {x : Int} (hc : w.cell? ⟨b, o + j, none⟩ = some (.int .u8 x)) : b ≠ g := by
  intro hb
  subst hb
  rw [cell_of_row _ _ _ _ _ _ h.b] at hc
  match hk : o + j with
  | 0 => rw [hk] at hc; simp at hc
  | 1 => rw [hk] at hc; simp at hc
  | i + 2 => rw [hk] at hc; simp at hc
end
section
variable {w W : World} {g : Nat} {A : Option Addr} {n c : Nat} {bs : List Int} {e : Int}
theorem RdB.stay {A' : Option Addr} {n' : Nat} {bs' : List Int} (h : Rq w g A n c bs e) (r : RdB w A' n' bs') (k : Nat) (v : Value) : RdB (w.setCell ⟨g, k, none⟩ v) A' n' bs' :=
  ⟨r.1, fun hn => by
    obtain ⟨b, o, e1, hc⟩ := r.2 hn
    exact ⟨b, o, e1, fun j hj => by rw [World.cell?_setCell_other (h := fun e2 => h.far (hc j hj) (by cases e2; rfl))]; exact hc j hj⟩⟩
end
section
variable {w W : World} {g : Nat} {A : Option Addr} {n c : Nat} {bs : List Int} {e : Int}
theorem Rq.below (h : Rq w g A n c bs e) {W : World} (b : Below w.heap.size w W) : Rq W g A n c bs e :=
  ⟨(b.block g (Array.getElem?_eq_some_iff.1 h.b).1).trans h.b, h.r.below b, h.nc⟩
end
section
variable {w W : World} {g : Nat} {A : Option Addr} {n c : Nat} {bs : List Int} {e : Int}
theorem Rq.lt (h : Rq w g A n c bs e) : g < w.heap.size := (Array.getElem?_eq_some_iff.1 h.b).1
end
section
variable {w W : World} {g : Nat} {A : Option Addr} {n c : Nat} {bs : List Int} {e : Int}
theorem Rq.setE (h : Rq w g A n c bs e) (e' : Int) : Rq (w.setCell ⟨g, 1, none⟩ (.int .i64 e')) g A n c bs e' :=
  ⟨by have := heap_setCell_same w g 1 _ _ (.int .i64 e') h.b; exact this, RdB.stay h h.r 1 _, h.nc⟩
end
section
variable {w W : World} {g : Nat} {A : Option Addr} {n c : Nat} {bs : List Int} {e : Int}
theorem Rq.setB (h : Rq w g A n c bs e) {A' : Option Addr} {n' c' : Nat} {bs' : List Int} (r : RdB w A' n' bs') (hc : n' ≤ c') : Rq (w.setCell ⟨g, 0, none⟩ (.slice A' n' c')) g A' n' c' bs' e :=
  ⟨by have := heap_setCell_same w g 0 _ _ (.slice A' n' c') h.b; exact this, RdB.stay h r 0 _, hc⟩
end
section
variable {w W : World} {g : Nat} {A : Option Addr} {n c : Nat} {bs : List Int} {e : Int}
theorem RdB.fore (r : RdB w A n bs) {k : Nat} (hk : k ≤ n) : RdB w A k (bs.take k) :=
  ⟨by rw [List.length_take, r.1]; omega, fun hn => by
    obtain ⟨b, o, e1, hc⟩ := r.2 (by omega)
    exact ⟨b, o, e1, fun j hj => by rw [hc j (by omega), take_getD hj]⟩⟩
end

set_option maxRecDepth 100000 in
theorem stop_no (g n c : Nat) (A : Option Addr) (bs : List Int) (w : World) (h : Rq w g A n c bs 0) :
    Calls Try.prog 47 #[.pointer (some ⟨g, 0, none⟩)] w fun E W => E = .returned (.bool false) ∧ w = W := by
  have d1 := h.c1
  clear h
  go_enter Try.func47, Try.ntmps47
  go_wp2
  go_ret
  exact ⟨rfl, rfl⟩
set_option maxRecDepth 100000 in
theorem stop_yes (g n c : Nat) (A : Option Addr) (bs : List Int) (e : Int) (w : World) (h : Rq w g A n c bs e) (he : e ≠ 0) :
    Calls Try.prog 47 #[.pointer (some ⟨g, 0, none⟩)] w fun E W => E = .returned (.bool true) ∧ w = W := by
  have d1 := h.c1
  have he1 : decide (e = 0) = false := decide_eq_false he
  have he2 : (e == 0) = false := by simpa using he
  have he3 : (e != 0) = true := by simpa using he
  clear h
  go_enter Try.func47, Try.ntmps47
  go_wp2
  go_ret
  exact ⟨rfl, rfl⟩
/-- So many bytes were passed. -/
def Passed (w : World) (g b o n c k : Nat) (bs : List Int) (e : Int) (E : Ending) (W : World) : Prop :=
  E = .returned (.slice (some ⟨b, o, none⟩) k c) ∧ (∃ o' , Rq W g (some ⟨b, o', none⟩) (n - k) (c - k) (bs.drop k) e) ∧ RdB W (some ⟨b, o, none⟩) k (bs.take k) ∧ w.grownBy W (some g)
set_option maxRecDepth 100000 in
theorem pass_any (g b o n c k : Nat) (bs : List Int) (e : Int) (w : World) (h : Rq w g (some ⟨b, o, none⟩) n c bs e) (hk : k ≤ n) (hn : n ≤ 200000) :
    Calls Try.prog 49 #[.pointer (some ⟨g, 0, none⟩), .int .i64 k] w fun E W => Passed w g b o n c k bs e E W := by
  have hnc := h.nc
  have d0 := h.c0
  have f0 := h.fr 0
  have HH := Lib.hid h
  clear h
  by_cases hck : c = k
  · obtain rfl : n = k := by omega
    obtain rfl : c = n := by omega
    go_enter Try.func49, Try.ntmps49
    go_wp2
    go_ret
    refine ⟨rfl, ⟨o, ?_⟩, RdB.stay HH.out (HH.out.r.fore hk) 0 _, only_set _ _ _ _⟩
    have r := HH.out.setB (HH.out.r.all (k := c) (m := c - c) (Nat.le_refl _) (Nat.sub_self _) (some ⟨b, o, none⟩)) (c' := c - c) (Nat.le_refl _)
    simpa using r
  · go_enter Try.func49, Try.ntmps49
    go_wp2
    go_ret
    refine ⟨rfl, ⟨o + k, ?_⟩, RdB.stay HH.out (HH.out.r.fore hk) 0 _, only_set _ _ _ _⟩
    refine HH.out.setB ?_ (by omega)
    have := HH.out.r.cut k
    rwa [show (some (⟨b, o, none⟩ : Addr)).map (fun x => x.add k) = some ⟨b, o + k, none⟩ from by simp [Addr.add_mid]] at this

/-- What a call leaves: a reader at the same block, on the same bytes. -/
def Dd (w : World) (g : Nat) (A : Option Addr) (bs : List Int) (e : Int) (W : World) : Prop :=
  (∃ A' n c, Rq W g A' n c bs e ∧ ∀ a', A' = some a' → ∃ a, A = some a ∧ a'.block = a.block) ∧ w.grownBy W (some g)
theorem same_block (A : Option Addr) : ∀ a', A = some a' → ∃ a, A = some a ∧ a'.block = a.block := fun a' h => ⟨a', h, rfl⟩
set_option maxRecDepth 100000 in
set_option maxHeartbeats 1000000 in
theorem small_any (g n c : Nat) (A : Option Addr) (bs : List Int) (e most : Int) (w : World) (h : Rq w g A n c bs e) (hy : By bs) (hn : n ≤ 200000) :
    Calls Try.prog 42 #[.pointer (some ⟨g, 0, none⟩), .int .u64 most] w fun E W => E = .returned (.int .u64 (sR bs e most).1) ∧ Dd w g A (sR bs e most).2.1 (sR bs e most).2.2 W := by
  have hnc := h.nc
  have hl := h.r.1
  have d0 := h.c0
  have d1 := h.c1
  have f0 := h.fr 0
  have f1 := h.fr 1
  have NN := Lib.hid (leading_any n c A bs w h.r hy hn)
  have HH := Lib.hid h
  by_cases he : e = 0
  case neg =>
    have S := Lib.hid (stop_yes g n c A bs e w h he)
    have R : sR bs e most = (0, bs, e) := if_pos he
    rw [R]
    clear he hl h NN
    go_enter Try.func42, Try.ntmps42
    go_wp2_with fail
    refine S.out.mono ?_; rintro e0 w1 ⟨rfl, rfl⟩
    go_wp2_with fail
    go_ret
    exact ⟨rfl, ⟨A, n, c, HH.out, same_block A⟩, World.grownBy.refl _ _⟩
  subst he
  have S := Lib.hid (stop_no g n c A bs w h)
  have hle := rdN_le bs
  have hok := rdN_ok hy
  have hft := rdN_fault bs
  have hkp0 := fun c => rdN_pos (bs := bs) c
  obtain ⟨⟨v, k, f⟩, hr⟩ : ∃ r, rdN bs = r := ⟨_, rfl⟩
  have R0 : sR bs 0 most = if f ≠ 0 then (0, bs, f) else if most < v then (0, bs, 5) else (v, bs.drop k, 0) := by unfold sR; rw [if_neg (by simp), hr]
  unfold NatE at NN
  rw [hr] at hle hok hft NN hkp0
  dsimp only at hle hok hft NN hkp0
  clear hr h
  by_cases hf : f = 0
  case neg =>
    rw [R0.trans (if_pos hf)]
    have hf1 : decide (f = 0) = false := decide_eq_false hf
    have hf2 : (f == 0) = false := by simpa using hf
    have hf3 : (f != 0) = true := by simpa using hf
    clear R0 hf hl hle hft hkp0
    go_enter Try.func42, Try.ntmps42
    go_wp2_with fail
    refine S.out.mono ?_; rintro e0 w1 ⟨rfl, rfl⟩
    go_wp2_with fail
    refine NN.out.mono ?_; rintro e w1 ⟨rfl, rfl⟩
    go_wp2_with fail
    go_ret
    exact ⟨rfl, ⟨A, n, c, HH.out.setE f, same_block A⟩, only_set _ _ _ _⟩
  subst hf
  have hkp := hkp0 rfl
  rw [if_neg (by simp)] at R0
  by_cases hv : most < v
  case pos =>
    rw [R0.trans (if_pos hv)]
    clear R0 hl hle hft hkp0
    go_enter Try.func42, Try.ntmps42
    go_wp2_with fail
    refine S.out.mono ?_; rintro e0 w1 ⟨rfl, rfl⟩
    go_wp2_with fail
    refine NN.out.mono ?_; rintro e w1 ⟨rfl, rfl⟩
    go_wp2_with fail
    go_ret
    exact ⟨rfl, ⟨A, n, c, HH.out.setE 5, same_block A⟩, only_set _ _ _ _⟩
  case neg =>
    rw [R0.trans (if_neg hv)]
    have hkn : k ≤ n := by omega
    obtain ⟨b, o, rfl, -⟩ := HH.out.r.2 (by omega)
    have P := Lib.hid (pass_any g b o n c k bs 0 w HH.out hkn hn)
    clear R0 hle hft hkp0 hl
    go_enter Try.func42, Try.ntmps42
    go_wp2_with fail
    refine S.out.mono ?_; rintro e0 w1 ⟨rfl, rfl⟩
    go_wp2_with fail
    refine NN.out.mono ?_; rintro e w1 ⟨rfl, rfl⟩
    go_wp2_with fail
    refine P.out.mono ?_; rintro e w1 ⟨rfl, ⟨o', hq⟩, -, hgr⟩
    have HQ := Lib.hid hq
    have HG := Lib.hid hgr
    clear hq hgr
    go_wp2_with fail
    go_ret
    exact ⟨rfl, ⟨_, _, _, HQ.out, fun a' ha => ⟨_, rfl, by cases ha; rfl⟩⟩, HG.out⟩
set_option maxRecDepth 100000 in
theorem nat_any (g n c : Nat) (A : Option Addr) (bs : List Int) (e : Int) (w : World) (h : Rq w g A n c bs e) (hy : By bs) (hn : n ≤ 200000) :
    Calls Try.prog 50 #[.pointer (some ⟨g, 0, none⟩)] w fun E W => E = .returned (.int .u64 (sR bs e top).1) ∧ Dd w g A (sR bs e top).2.1 (sR bs e top).2.2 W := by
  have S := Lib.hid (small_any g n c A bs e top w h hy hn)
  unfold top at S
  clear h hy
  go_enter Try.func50, Try.ntmps50
  go_wp2_with fail
  refine S.out.mono ?_; rintro e1 w1 ⟨rfl, hd⟩
  have D := Lib.hid hd
  clear hd
  go_wp2_with fail
  go_ret
  exact ⟨rfl, D.out⟩
set_option maxRecDepth 100000 in
theorem int_any (g n c : Nat) (A : Option Addr) (bs : List Int) (e : Int) (w : World) (h : Rq w g A n c bs e) (hy : By bs) (hn : n ≤ 200000) :
    Calls Try.prog 44 #[.pointer (some ⟨g, 0, none⟩)] w fun E W => E = .returned (.int .i64 (zz (sR bs e top).1)) ∧ Dd w g A (sR bs e top).2.1 (sR bs e top).2.2 W := by
  have S := Lib.hid (nat_any g n c A bs e w h hy hn)
  have hb := sR_bd hy e top
  obtain ⟨⟨v, l, f⟩, hr⟩ : ∃ r, sR bs e top = r := ⟨_, rfl⟩
  rw [hr] at S hb
  rw [hr]
  dsimp only at S hb ⊢
  clear h hy hr
  by_cases h2 : v % 2 = 0
  · have Z := Lib.hid (show zz v = v / 2 from if_pos h2)
    rw [Z.out]
    go_enter Try.func44, Try.ntmps44
    go_wp2_with fail
    refine S.out.mono ?_; rintro e1 w1 ⟨rfl, hd⟩
    have D := Lib.hid hd
    clear hd
    go_wp2_with fail
    go_ret
    exact ⟨rfl, D.out⟩
  · have Z := Lib.hid (show zz v = -(v / 2) - 1 from if_neg h2)
    rw [Z.out]
    have h3 : v % 2 = 1 := by omega
    clear h2
    go_enter Try.func44, Try.ntmps44
    go_wp2_with fail
    refine S.out.mono ?_; rintro e1 w1 ⟨rfl, hd⟩
    have D := Lib.hid hd
    clear hd
    go_wp2_with fail
    go_ret
    exact ⟨rfl, D.out⟩
set_option maxRecDepth 100000 in
theorem fail_any (g n c : Nat) (A : Option Addr) (bs : List Int) (e f : Int) (w : World) (h : Rq w g A n c bs e) :
    Calls Try.prog 45 #[.pointer (some ⟨g, 0, none⟩), .int .i64 f] w fun E W => E = .returned (.tuple #[]) ∧ Dd w g A bs (if e = 0 then f else e) W := by
  have d1 := h.c1
  have f1 := h.fr 1
  have HH := Lib.hid h
  by_cases he : e = 0
  · subst he
    have S := Lib.hid (stop_no g n c A bs w h)
    rw [if_pos rfl]
    clear h
    go_enter Try.func45, Try.ntmps45
    go_wp2_with fail
    refine S.out.mono ?_; rintro e0 w1 ⟨rfl, rfl⟩
    go_wp2_with fail
    go_end0
    exact ⟨rfl, ⟨A, n, c, HH.out.setE f, same_block A⟩, only_set _ _ _ _⟩
  · have S := Lib.hid (stop_yes g n c A bs e w h he)
    rw [if_neg he]
    clear he h
    go_enter Try.func45, Try.ntmps45
    go_wp2_with fail
    refine S.out.mono ?_; rintro e0 w1 ⟨rfl, rfl⟩
    go_wp2_with fail
    go_end0
    exact ⟨rfl, ⟨A, n, c, HH.out, same_block A⟩, World.grownBy.refl _ _⟩
set_option maxRecDepth 100000 in
theorem done_any (g n c : Nat) (A : Option Addr) (bs : List Int) (e : Int) (w : World) (h : Rq w g A n c bs e) (hn : n ≤ 200000) :
    Calls Try.prog 36 #[.pointer (some ⟨g, 0, none⟩)] w fun E W => E = .returned (.int .i64 (if e = 0 ∧ 0 < bs.length then 5 else e)) ∧ w = W := by
  have d0 := h.c0
  have d1 := h.c1
  have hl := h.r.1
  rw [hl]
  clear h hl
  by_cases he : e = 0
  · subst he
    rcases Nat.eq_zero_or_pos n with h0 | h0
    · subst h0
      rw [if_neg (by omega)]
      go_enter Try.func36, Try.ntmps36
      go_wp2
      go_ret
      exact ⟨rfl, rfl⟩
    · rw [if_pos ⟨rfl, h0⟩]
      go_enter Try.func36, Try.ntmps36
      go_wp2
      go_ret
      exact ⟨rfl, rfl⟩
  · rw [if_neg fun c => he c.1]
    have he1 : decide (e = 0) = false := decide_eq_false he
    have he2 : (e == 0) = false := by simpa using he
    clear he
    go_enter Try.func36, Try.ntmps36
    go_wp2
    go_ret
    exact ⟨rfl, rfl⟩
/-- A new reader. -/
def Newly (w : World) (bs : List Int) (E : Ending) (W : World) : Prop :=
  ∃ g A n c, E = .returned (.pointer (some ⟨g, 0, none⟩)) ∧ Rq W g A n c bs 0 ∧ (∀ a, A = some a → w.heap.size ≤ a.block ∧ a.block < W.heap.size) ∧ Below w.heap.size w W ∧ w.heap.size ≤ g
set_option maxRecDepth 100000 in
theorem newr_any (A : Option Addr) (n c : Nat) (bs : List Int) (w : World) (h : RdB w A n bs) (hn : n ≤ 200000) (h0 : A = none → n = 0 ∧ c = 0) :
    Calls Try.prog 34 #[.slice A n c] w fun E W => Newly w bs E W := by
  have C := Lib.hid (clone_any A n c bs w h hn h0)
  clear h h0
  go_enter Try.func34, Try.ntmps34
  go_wp2_with fail
  refine C.out.mono ?_; rintro e w1 ⟨v, rfl, hN⟩
  obtain ⟨A1, c1, rfl, hr, h01⟩ := owns_pt hN.o
  have hcap : bs.length ≤ c1 := by
    cases A1 with
    | none => have := h01 rfl; omega
    | some a =>
      rcases hN.o.2 with ⟨e1, _⟩ | ⟨g, cap, cur, e1, _, _, hc, _⟩
      · cases e1
      · cases e1; exact hc
  have HA : Hid (∀ a, A1 = some a → w.heap.size ≤ a.block ∧ a.block < w1.heap.size) := Lib.hid (fun a ha => by subst ha; exact hN.o.lt a.block rfl)
  have HR := Lib.hid hr
  have HB := Lib.hid hN.q
  have hs := hN.q.size
  clear hN hr h01
  go_wp2_with fail
  go_ret
  refine ⟨w1.heap.size, A1, bs.length, c1, rfl, ⟨heap_alloc_new w1 _, HR.out.below ((Below.refl _ w1).alloc (Nat.le_refl _) _), hcap⟩, fun a ha => ⟨(HA.out a ha).1, ?_⟩, HB.out.alloc HB.out.size _, hs⟩
  have := (HA.out a ha).2
  rw [size_alloc]; omega
end Go.Proofs.Ytlnakhbcefmiaaa
