/- Texts of a proof, laid together: Vr, Qh, Ge, Ga, Gb, Qc. -/
import Derived.Lib.AppendZerosOnto
import Derived.Lib.SliceRun
import Derived.Lib.Walk
import Derived.Lib.MinMax
import Derived.Deep.RegionHeld3
import Derived.Test.YtbmlpokkojhhjaaGreatG01
import Derived.Test.YtbmlpokkojhhjaaGreatG06
import Derived.Test.YtbmlpokkojhhjaaGreatG02
import Derived.Test.YtbmlpokkojhhjaaGreatG10
/- Stands in for XVr where the document's reader (XRd, XRe) is in the law, too. -/
namespace Go.Proofs.YtbmlpokkojhhjaaGreat
open Go.RowKit

section
variable {w : World} {g : Nat} {A : Option Addr} {n c : Nat} {bs : List Int} {e : Int}
end
section
variable {w : World} {g : Nat} {A : Option Addr} {n c : Nat} {bs : List Int} {e : Int}
end
section
variable {w : World} {g : Nat} {A : Option Addr} {n c : Nat} {bs : List Int} {e : Int}
end
set_option maxRecDepth 100000 in
theorem clone_any (A : Option Addr) (n c : Nat) (bs : List Int) (w : World) (h : RdB w A n bs) (hn : n ≤ 200000) (h0 : A = none → n = 0 ∧ c = 0) :
    Calls Tryz.prog 45 #[.slice A n c] w fun e W => Made w bs e W := by
  have hl := h.1
  have q := fun (w : World) (a : Option Addr) (n c n' c' : Nat) => Lib.run_eql_slice_nil (P := Tryz.prog) w 22 5 a n c n' c' Tryz.underlying22
  obtain ⟨i0, hi0, hz0, hz1, hz2⟩ := info_parts info_u8
  have O := Lib.hid (own_none w)
  have Q := Lib.hid ((Below.refl _ w).alloc (Nat.le_refl _) (.cells #[] 5))
  have R0 := Lib.hid (h.below Q.out)
  cases A with
  | none =>
    obtain ⟨rfl, rfl⟩ := h0 rfl
    have : bs = [] := List.eq_nil_of_length_eq_zero hl
    subst this
    clear hl h
    go_enter Tryz.func45, Tryz.ntmps45
    go_wp2
    go_ret
    exact ⟨_, rfl, World.ownsRow_nil _ _ _ _, Below.refl _ _⟩
  | some ad =>
    have NW := Lib.hid (news_rd R0.out)
    have HL : Hid ((bs.map (Value.int .u8)).length = n * 1) := Lib.hid (by simp [hl])
    have HLL := Lib.hid hl
    clear hl h
    go_enter Tryz.func45, Tryz.ntmps45
    go_wp2_with (at_builtin; refine wpList_append_own _ rfl _ _ 22 rfl w.heap.size 5 i0 (.int .u8 0) 1 1 Tryz.underlying22 hi0 hz0 hz1 hz2 rfl (by decide) (.slice (some ⟨w.heap.size, 0, none⟩) 0 0) 0 [] rfl O.out ad n c (bs.map (Value.int .u8)) rfl HL.out NW.out (one_u8 _) (by unfold maxLen; omega) (by omega) (one_alloc _ _) ?_; intro v2 w2 hown2 hgrow2 _; rw [Nat.zero_add, List.nil_append] at hown2; have HO := Lib.hid hown2; have HG := Lib.hid (Q.out.grown hgrow2 (one_alloc _ _) (by intro k hk; simp [Value.ownBlock] at hk; omega)); clear hown2 hgrow2)
    go_ret
    refine ⟨_, rfl, ?_, HG.out⟩
    rw [HLL.out]
    exact HO.out

theorem ld_least : ∀ (bs : List Int) (k : Nat), k ≤ bs.length → (∀ t, t < k → 128 ≤ bs.getD t 0) → k ≤ ld bs
  | _, 0, _, _ => Nat.zero_le _
  | [], k + 1, h, _ => by simp at h
  | x :: l, k + 1, h, hp => by
    have h0 := hp 0 (by omega)
    simp at h0
    simp only [ld]
    rw [if_pos h0]
    have := ld_least l k (by simp at h; omega) (fun t ht => by have := hp (t + 1) (by omega); simpa [List.getD] using this)
    omega
theorem acc_eq {bs : List Int} {k : Nat} (h : k < bs.length) : dv (bs.take (k + 1)) = dv (bs.take k) + bs.getD k 0 % 128 * 2 ^ (7 * k) := by
  have e : bs.getD k 0 = bs[k] := by simp [List.getD, h]
  have p : (2 : Int) ^ (7 * k) = 128 ^ k := by rw [Int.pow_mul]; rfl
  rw [List.take_succ_eq_append_getElem h, dv_snoc, e, p, List.length_take, Nat.min_eq_left (by omega), Int.mul_comm]
theorem acc_step {bs : List Int} {k : Nat} {x v : Int} (h : k < bs.length) (h9 : k ≤ 9) (hx : bs.getD k 0 = x) (hv : dv (bs.take k) = v) (h0 : 0 ≤ x) (h1 : k = 9 → x ≤ 1) :
    IntKind.u64.wrap (v + IntKind.u64.wrap (x % 128 * 2 ^ (7 * k))) = dv (bs.take (k + 1)) := by
  have e := acc_eq h
  have b := dv_word h h9 (fun c => by subst c; rw [hx]; exact ⟨h0, h1 rfl⟩)
  have p := dv_nonneg (bs.take k)
  have q : (0 : Int) ≤ x % 128 * 2 ^ (7 * k) := Int.mul_nonneg (by omega) (Int.le_of_lt (Int.pow_pos (by decide)))
  rw [hx, hv] at e
  rw [hv] at p
  rw [e] at b ⊢
  generalize x % 128 * 2 ^ (7 * k) = y at *
  rw [IntKind.wrap_u64, IntKind.wrap_u64]
  omega
/-- The loop's end, in the plain reading's words. -/
theorem rd_end {bs : List Int} {k : Nat} {x : Int} (h : k < bs.length) (h9 : k ≤ 9) (hp : ∀ t, t < k → 128 ≤ bs.getD t 0) (hx : bs.getD k 0 = x) (h128 : x < 128) (h1 : k = 9 → x ≤ 1) (h0 : 0 < k → x ≠ 0) : rdN bs = (dv (bs.take (k + 1)), k + 1, 0) := by
  have E := ld_eq (bs := bs) (k := k) hp (by omega) (fun _ => by rw [hx]; exact h128)
  unfold rdN
  rw [if_neg (by omega), if_neg, E]
  rw [E, hx]
  rintro (c | ⟨c1, c2⟩ | ⟨c1, c2⟩)
  · omega
  · rw [← c1, hx] at c2
    have := h1 c1
    omega
  · exact h0 c1 c2
theorem rd_zero {bs : List Int} {k : Nat} (h : k < bs.length) (hp : ∀ t, t < k → 128 ≤ bs.getD t 0) (hx : bs.getD k 0 = 0) (h0 : 0 < k) : rdN bs = (0, 0, 5) := by
  have E := ld_eq (bs := bs) (k := k) hp (by omega) (fun _ => by rw [hx]; decide)
  unfold rdN
  rw [if_neg (by omega), if_pos]
  rw [E, hx]
  exact .inr (.inr ⟨h0, rfl⟩)
theorem rd_nine {bs : List Int} {x : Int} (h : 9 < bs.length) (hp : ∀ t, t < 9 → 128 ≤ bs.getD t 0) (hx : bs.getD 9 0 = x) (h1 : 1 < x) : rdN bs = (0, 0, 5) := by
  by_cases c : x < 128
  · have E := ld_eq (bs := bs) (k := 9) hp (by omega) (fun _ => by rw [hx]; exact c)
    unfold rdN
    rw [if_neg (by omega), if_pos]
    rw [E, hx]
    exact .inr (.inl ⟨rfl, h1⟩)
  · have g : 10 ≤ ld bs := ld_least bs 10 (by omega) (fun t ht => by
      rcases Nat.lt_succ_iff_lt_or_eq.1 ht with h2 | rfl
      · exact hp t h2
      · rw [hx]; omega)
    unfold rdN
    split
    · rfl
    · rw [if_pos (.inl (by omega))]
set_option maxRecDepth 100000 in
set_option maxHeartbeats 2000000 in
theorem leading_any (n c : Nat) (A : Option Addr) (bs : List Int) (w : World) (h : RdB w A n bs) (hy : By bs) (hn : n ≤ 200000) :
    Calls Tryz.prog 79 #[.slice A n c] w fun e w' => NatE bs w e w' := by
  have hl := h.1
  have HH := Lib.hid h
  have HY := Lib.hid hy
  have HL := Lib.hid hl
  clear h hy hl
  go_enter Tryz.func79, Tryz.ntmps79
  go_wp2_with fail
  go_loop [5, 6, 7, 10] (fun a _ _ i => ∃ k : Nat, k ≤ n ∧ k ≤ 9 ∧ i = .int .i64 k ∧ a = .int .u64 (dv (bs.take k)) ∧ ∀ t, t < k → 128 ≤ bs.getD t 0) (fun _ _ _ i => n - (intOf i).toNat)
  case atStart => exact ⟨0, Nat.zero_le _, Nat.zero_le _, rfl, rfl, fun t ht => absurd ht (Nat.not_lt_zero t)⟩
  case round =>
    obtain ⟨k, hk, h9, rfl, rfl, hp⟩ := hrel
    have HP := Lib.hid hp
    clear hp
    by_cases hlt : k < n
    case neg =>
      obtain rfl : k = n := by omega
      have E := ld_eq (bs := bs) (k := k) HP.out (by rw [HL.out]; exact Nat.le_refl _) (fun c => by rw [HL.out] at c; omega)
      have R : rdN bs = (0, 0, 4) := by unfold rdN; rw [E, if_pos (by rw [HL.out]; exact Nat.le_refl _), if_neg (by omega)]
      have HRD := Lib.hid R
      clear R E
      go_wp2
      go_ret3
      unfold NatE
      rw [HRD.out]
      exact ⟨rfl, rfl⟩
    case pos =>
      obtain ⟨b, o, rfl, hc⟩ := HH.out.2 (by omega)
      have hcell := hc k hlt
      have hyk : 0 ≤ bs.getD k 0 ∧ bs.getD k 0 ≤ 255 := HY.out _ (by
        have h3 : k < bs.length := by rw [HL.out]; exact hlt
        rw [show bs.getD k 0 = bs[k] from by simp [List.getD, h3]]
        exact List.getElem_mem _)
      obtain ⟨x, hx⟩ : ∃ x, bs.getD k 0 = x := ⟨_, rfl⟩
      rw [hx] at hcell hyk
      have HX := Lib.hid hx
      obtain ⟨v, hv⟩ : ∃ v, dv (bs.take k) = v := ⟨_, rfl⟩
      rw [hv]
      clear hc hx
      have hkl : k < bs.length := by rw [HL.out]; exact hlt
      by_cases k9 : k = 9
      · subst k9
        have hcell9 : w.cell? ⟨b, o + 9, none⟩ = some (.int .u8 x) := hcell
        by_cases x1 : 1 < x
        · have HRD := Lib.hid (rd_nine hkl HP.out HX.out x1)
          clear hkl hv
          go_wp2
          go_ret3
          unfold NatE
          rw [HRD.out]
          exact ⟨rfl, rfl⟩
        · by_cases x0 : x = 0
          · subst x0
            have HRD := Lib.hid (rd_zero hkl HP.out HX.out (by omega))
            clear hkl hv
            go_wp2
            go_ret3
            unfold NatE
            rw [HRD.out]
            exact ⟨rfl, rfl⟩
          · obtain rfl : x = 1 := by omega
            have HRD := Lib.hid (rd_end hkl h9 HP.out HX.out (by decide) (fun _ => by decide) (fun _ => by decide))
            have HA := Lib.hid (acc_step hkl h9 HX.out hv (by decide) (fun _ => by decide))
            have hb := dv_lt (bs.take 9)
            have hb0 := dv_nonneg (bs.take 9)
            rw [hv, show (bs.take 9).length = 9 by rw [List.length_take]; omega, show (128 : Int) ^ 9 = 9223372036854775808 by decide] at hb
            rw [hv] at hb0
            clear hkl hv x0 x1
            go_wp2
            go_ret3
            unfold NatE
            rw [HRD.out, ← HA.out]
            refine ⟨?_, rfl⟩
            rw [show IntKind.u64.wrap (v + IntKind.u64.wrap (1 % 128 * 2 ^ (7 * 9))) = v + 9223372036854775808 by rw [IntKind.wrap_u64, IntKind.wrap_u64]; omega]
            go_num
      · have hk9 : decide ((k : Int) = 9) = false := decide_eq_false (by omega)
        have hk9' : ((k : Int) == 9) = false := by simp; omega
        have HA := Lib.hid (acc_step hkl h9 HX.out hv hyk.1 (fun c => absurd c k9))
        by_cases h128 : 128 ≤ x
        · clear hkl hv
          go_wp2
          go_round
          case rel => exact ⟨k + 1, hlt, by omega, by go_num, by rw [HA.out], fun t ht => by
            rcases Nat.lt_succ_iff_lt_or_eq.1 ht with h1 | rfl
            · exact HP.out t h1
            · rw [HX.out]; exact h128⟩
          case measure => simp [intOf]; omega
        · by_cases x0 : x = 0
          · subst x0
            by_cases k0 : k = 0
            · subst k0
              have hcell0 : w.cell? ⟨b, o, none⟩ = some (.int .u8 0) := hcell
              have HRD := Lib.hid (rd_end hkl h9 HP.out HX.out (by decide) (fun _ => by decide) (fun c => absurd c (Nat.lt_irrefl 0)))
              obtain rfl : v = 0 := hv.symm
              clear hkl hv
              go_wp2
              go_ret3
              unfold NatE
              rw [HRD.out, ← HA.out]
              exact ⟨rfl, rfl⟩
            · have HRD := Lib.hid (rd_zero hkl HP.out HX.out (by omega))
              have hk0 : 0 < k := by omega
              clear hkl hv
              go_wp2
              go_ret3
              unfold NatE
              rw [HRD.out]
              exact ⟨rfl, rfl⟩
          · have hx0 : decide (x = 0) = false := decide_eq_false x0
            have hx0' : (x == 0) = false := by simpa using x0
            have HRD := Lib.hid (rd_end hkl h9 HP.out HX.out (by omega) (fun c => absurd c k9) (fun _ => x0))
            clear hkl hv
            go_wp2
            go_ret3
            unfold NatE
            rw [HRD.out, ← HA.out]
            exact ⟨rfl, rfl⟩

/-- A reader of the program that stands in memory: what is left, and the fault. -/
structure Rq (W : World) (g : Nat) (A : Option Addr) (n c : Nat) (bs : List Int) (e : Int) : Prop where
  b : W.heap[g]? = some (.cells #[.slice A n c, .int .i64 e] 90 (0, 0))
  r : RdB W A n bs
  nc : n ≤ c
section
variable {w W : World} {g : Nat} {A : Option Addr} {n c : Nat} {bs : List Int} {e : Int}
theorem Rq.c0 (h : Rq W g A n c bs e) : W.cell? ⟨g, 0, none⟩ = some (.slice A n c) := by rw [cell_of_row _ _ _ _ _ _ h.b]; rfl
end
section
variable {w W : World} {g : Nat} {A : Option Addr} {n c : Nat} {bs : List Int} {e : Int}
theorem Rq.c1 (h : Rq W g A n c bs e) : W.cell? ⟨g, 1, none⟩ = some (.int .i64 e) := by rw [cell_of_row _ _ _ _ _ _ h.b]; rfl
end
section
variable {w W : World} {g : Nat} {A : Option Addr} {n c : Nat} {bs : List Int} {e : Int}
theorem Rq.fr (h : Rq W g A n c bs e) (k : Nat) : W.frozen? ⟨g, k, none⟩ = false := frozen_of_row W g k _ _ h.b
end
section
variable {w W : World} {g : Nat} {A : Option Addr} {n c : Nat} {bs : List Int} {e : Int}
theorem Rq.far (h : Rq w g A n c bs e) {b o j : Nat} {x : Int} (hc : w.cell? ⟨b, o + j, none⟩ = some (.int .u8 x)) : b ≠ g := by
  intro hb
  subst hb
  rw [cell_of_row _ _ _ _ _ _ h.b] at hc
  match hk : o + j with
  | 0 => rw [hk] at hc; simp at hc
  | 1 => rw [hk] at hc; simp at hc
  | i + 2 => rw [hk] at hc; simp at hc
end
section
variable {w W : World} {g : Nat} {A : Option Addr} {n c : Nat} {bs : List Int} {e : Int}
theorem RdB.stay {A' : Option Addr} {n' : Nat} {bs' : List Int} (h : Rq w g A n c bs e) (r : RdB w A' n' bs') (k : Nat) (v : Value) : RdB (w.setCell ⟨g, k, none⟩ v) A' n' bs' :=
  ⟨r.1, fun hn => by
    obtain ⟨b, o, e1, hc⟩ := r.2 hn
    exact ⟨b, o, e1, fun j hj => by rw [World.cell?_setCell_other (h := fun e2 => h.far (hc j hj) (by cases e2; rfl))]; exact hc j hj⟩⟩
end
section
variable {w W : World} {g : Nat} {A : Option Addr} {n c : Nat} {bs : List Int} {e : Int}
theorem Rq.below (h : Rq w g A n c bs e) {W : World} (b : Below w.heap.size w W) : Rq W g A n c bs e :=
  ⟨(b.block g (Array.getElem?_eq_some_iff.1 h.b).1).trans h.b, h.r.below b, h.nc⟩
end
section
variable {w W : World} {g : Nat} {A : Option Addr} {n c : Nat} {bs : List Int} {e : Int}
theorem Rq.lt (h : Rq w g A n c bs e) : g < w.heap.size := (Array.getElem?_eq_some_iff.1 h.b).1
end
section
variable {w W : World} {g : Nat} {A : Option Addr} {n c : Nat} {bs : List Int} {e : Int}
theorem Rq.setE (h : Rq w g A n c bs e) (e' : Int) : Rq (w.setCell ⟨g, 1, none⟩ (.int .i64 e')) g A n c bs e' :=
  ⟨by have := heap_setCell_same w g 1 _ _ (.int .i64 e') h.b; exact this, RdB.stay h h.r 1 _, h.nc⟩
end
section
variable {w W : World} {g : Nat} {A : Option Addr} {n c : Nat} {bs : List Int} {e : Int}
theorem Rq.setB (h : Rq w g A n c bs e) {A' : Option Addr} {n' c' : Nat} {bs' : List Int} (r : RdB w A' n' bs') (hc : n' ≤ c') : Rq (w.setCell ⟨g, 0, none⟩ (.slice A' n' c')) g A' n' c' bs' e :=
  ⟨by have := heap_setCell_same w g 0 _ _ (.slice A' n' c') h.b; exact this, RdB.stay h r 0 _, hc⟩
end
section
variable {w W : World} {g : Nat} {A : Option Addr} {n c : Nat} {bs : List Int} {e : Int}
theorem RdB.fore (r : RdB w A n bs) {k : Nat} (hk : k ≤ n) : RdB w A k (bs.take k) :=
  ⟨by rw [List.length_take, r.1]; omega, fun hn => by
    obtain ⟨b, o, e1, hc⟩ := r.2 (by omega)
    exact ⟨b, o, e1, fun j hj => by rw [hc j (by omega), take_getD hj]⟩⟩
end

set_option maxRecDepth 100000 in
theorem stop_no (g n c : Nat) (A : Option Addr) (bs : List Int) (w : World) (h : Rq w g A n c bs 0) :
    Calls Tryz.prog 78 #[.pointer (some ⟨g, 0, none⟩)] w fun E W => E = .returned (.bool false) ∧ w = W := by
  have d1 := h.c1
  clear h
  go_enter Tryz.func78, Tryz.ntmps78
  go_wp2
  go_ret
  exact ⟨rfl, rfl⟩
set_option maxRecDepth 100000 in
theorem stop_yes (g n c : Nat) (A : Option Addr) (bs : List Int) (e : Int) (w : World) (h : Rq w g A n c bs e) (he : e ≠ 0) :
    Calls Tryz.prog 78 #[.pointer (some ⟨g, 0, none⟩)] w fun E W => E = .returned (.bool true) ∧ w = W := by
  have d1 := h.c1
  have he1 : decide (e = 0) = false := decide_eq_false he
  have he2 : (e == 0) = false := by simpa using he
  have he3 : (e != 0) = true := by simpa using he
  clear h
  go_enter Tryz.func78, Tryz.ntmps78
  go_wp2
  go_ret
  exact ⟨rfl, rfl⟩
/-- So many bytes were passed. -/
def Passed (w : World) (g b o n c k : Nat) (bs : List Int) (e : Int) (E : Ending) (W : World) : Prop :=
  E = .returned (.slice (some ⟨b, o, none⟩) k c) ∧ (∃ o' , Rq W g (some ⟨b, o', none⟩) (n - k) (c - k) (bs.drop k) e) ∧ RdB W (some ⟨b, o, none⟩) k (bs.take k) ∧ w.grownBy W (some g)
set_option maxRecDepth 100000 in
theorem pass_any (g b o n c k : Nat) (bs : List Int) (e : Int) (w : World) (h : Rq w g (some ⟨b, o, none⟩) n c bs e) (hk : k ≤ n) (hn : n ≤ 200000) :
    Calls Tryz.prog 80 #[.pointer (some ⟨g, 0, none⟩), .int .i64 k] w fun E W => Passed w g b o n c k bs e E W := by
  have hnc := h.nc
  have d0 := h.c0
  have f0 := h.fr 0
  have HH := Lib.hid h
  clear h
  by_cases hck : c = k
  · obtain rfl : n = k := by omega
    obtain rfl : c = n := by omega
    go_enter Tryz.func80, Tryz.ntmps80
    go_wp2
    go_ret
    refine ⟨rfl, ⟨o, ?_⟩, RdB.stay HH.out (HH.out.r.fore hk) 0 _, only_set _ _ _ _⟩
    have r := HH.out.setB (HH.out.r.all (k := c) (m := c - c) (Nat.le_refl _) (Nat.sub_self _) (some ⟨b, o, none⟩)) (c' := c - c) (Nat.le_refl _)
    simpa using r
  · go_enter Tryz.func80, Tryz.ntmps80
    go_wp2
    go_ret
    refine ⟨rfl, ⟨o + k, ?_⟩, RdB.stay HH.out (HH.out.r.fore hk) 0 _, only_set _ _ _ _⟩
    refine HH.out.setB ?_ (by omega)
    have := HH.out.r.cut k
    rwa [show (some (⟨b, o, none⟩ : Addr)).map (fun x => x.add k) = some ⟨b, o + k, none⟩ from by simp [Addr.add_mid]] at this

/-- What a call leaves: a reader at the same block, on the same bytes. -/
def Dd (w : World) (g : Nat) (A : Option Addr) (bs : List Int) (e : Int) (W : World) : Prop :=
  (∃ A' n c, Rq W g A' n c bs e ∧ ∀ a', A' = some a' → ∃ a, A = some a ∧ a'.block = a.block) ∧ w.grownBy W (some g)
theorem same_block (A : Option Addr) : ∀ a', A = some a' → ∃ a, A = some a ∧ a'.block = a.block := fun a' h => ⟨a', h, rfl⟩
set_option maxRecDepth 100000 in
set_option maxHeartbeats 1000000 in
theorem small_any (g n c : Nat) (A : Option Addr) (bs : List Int) (e most : Int) (w : World) (h : Rq w g A n c bs e) (hy : By bs) (hn : n ≤ 200000) :
    Calls Tryz.prog 26 #[.pointer (some ⟨g, 0, none⟩), .int .u64 most] w fun E W => E = .returned (.int .u64 (sR bs e most).1) ∧ Dd w g A (sR bs e most).2.1 (sR bs e most).2.2 W := by
  have hnc := h.nc
  have hl := h.r.1
  have d0 := h.c0
  have d1 := h.c1
  have f0 := h.fr 0
  have f1 := h.fr 1
  have NN := Lib.hid (leading_any n c A bs w h.r hy hn)
  have HH := Lib.hid h
  by_cases he : e = 0
  case neg =>
    have S := Lib.hid (stop_yes g n c A bs e w h he)
    have R : sR bs e most = (0, bs, e) := if_pos he
    rw [R]
    clear he hl h NN
    go_enter Tryz.func26, Tryz.ntmps26
    go_wp2_with fail
    refine S.out.mono ?_; rintro e0 w1 ⟨rfl, rfl⟩
    go_wp2_with fail
    go_ret
    exact ⟨rfl, ⟨A, n, c, HH.out, same_block A⟩, World.grownBy.refl _ _⟩
  subst he
  have S := Lib.hid (stop_no g n c A bs w h)
  have hle := rdN_le bs
  have hok := rdN_ok hy
  have hft := rdN_fault bs
  have hkp0 := fun c => rdN_pos (bs := bs) c
  obtain ⟨⟨v, k, f⟩, hr⟩ : ∃ r, rdN bs = r := ⟨_, rfl⟩
  have R0 : sR bs 0 most = if f ≠ 0 then (0, bs, f) else if most < v then (0, bs, 5) else (v, bs.drop k, 0) := by unfold sR; rw [if_neg (by simp), hr]
  unfold NatE at NN
  rw [hr] at hle hok hft NN hkp0
  dsimp only at hle hok hft NN hkp0
  clear hr h
  by_cases hf : f = 0
  case neg =>
    rw [R0.trans (if_pos hf)]
    have hf1 : decide (f = 0) = false := decide_eq_false hf
    have hf2 : (f == 0) = false := by simpa using hf
    have hf3 : (f != 0) = true := by simpa using hf
    clear R0 hf hl hle hft hkp0
    go_enter Tryz.func26, Tryz.ntmps26
    go_wp2_with fail
    refine S.out.mono ?_; rintro e0 w1 ⟨rfl, rfl⟩
    go_wp2_with fail
    refine NN.out.mono ?_; rintro e w1 ⟨rfl, rfl⟩
    go_wp2_with fail
    go_ret
    exact ⟨rfl, ⟨A, n, c, HH.out.setE f, same_block A⟩, only_set _ _ _ _⟩
  subst hf
  have hkp := hkp0 rfl
  rw [if_neg (by simp)] at R0
  by_cases hv : most < v
  case pos =>
    rw [R0.trans (if_pos hv)]
    clear R0 hl hle hft hkp0
    go_enter Tryz.func26, Tryz.ntmps26
    go_wp2_with fail
    refine S.out.mono ?_; rintro e0 w1 ⟨rfl, rfl⟩
    go_wp2_with fail
    refine NN.out.mono ?_; rintro e w1 ⟨rfl, rfl⟩
    go_wp2_with fail
    go_ret
    exact ⟨rfl, ⟨A, n, c, HH.out.setE 5, same_block A⟩, only_set _ _ _ _⟩
  case neg =>
    rw [R0.trans (if_neg hv)]
    have hkn : k ≤ n := by omega
    obtain ⟨b, o, rfl, -⟩ := HH.out.r.2 (by omega)
    have P := Lib.hid (pass_any g b o n c k bs 0 w HH.out hkn hn)
    clear R0 hle hft hkp0 hl
    go_enter Tryz.func26, Tryz.ntmps26
    go_wp2_with fail
    refine S.out.mono ?_; rintro e0 w1 ⟨rfl, rfl⟩
    go_wp2_with fail
    refine NN.out.mono ?_; rintro e w1 ⟨rfl, rfl⟩
    go_wp2_with fail
    refine P.out.mono ?_; rintro e w1 ⟨rfl, ⟨o', hq⟩, -, hgr⟩
    have HQ := Lib.hid hq
    have HG := Lib.hid hgr
    clear hq hgr
    go_wp2_with fail
    go_ret
    exact ⟨rfl, ⟨_, _, _, HQ.out, fun a' ha => ⟨_, rfl, by cases ha; rfl⟩⟩, HG.out⟩
set_option maxRecDepth 100000 in
theorem nat_any (g n c : Nat) (A : Option Addr) (bs : List Int) (e : Int) (w : World) (h : Rq w g A n c bs e) (hy : By bs) (hn : n ≤ 200000) :
    Calls Tryz.prog 27 #[.pointer (some ⟨g, 0, none⟩)] w fun E W => E = .returned (.int .u64 (sR bs e top).1) ∧ Dd w g A (sR bs e top).2.1 (sR bs e top).2.2 W := by
  have S := Lib.hid (small_any g n c A bs e top w h hy hn)
  unfold top at S
  clear h hy
  go_enter Tryz.func27, Tryz.ntmps27
  go_wp2_with fail
  refine S.out.mono ?_; rintro e1 w1 ⟨rfl, hd⟩
  have D := Lib.hid hd
  clear hd
  go_wp2_with fail
  go_ret
  exact ⟨rfl, D.out⟩
set_option maxRecDepth 100000 in
theorem int_any (g n c : Nat) (A : Option Addr) (bs : List Int) (e : Int) (w : World) (h : Rq w g A n c bs e) (hy : By bs) (hn : n ≤ 200000) :
    Calls Tryz.prog 28 #[.pointer (some ⟨g, 0, none⟩)] w fun E W => E = .returned (.int .i64 (zz (sR bs e top).1)) ∧ Dd w g A (sR bs e top).2.1 (sR bs e top).2.2 W := by
  have S := Lib.hid (nat_any g n c A bs e w h hy hn)
  have hb := sR_bd hy e top
  obtain ⟨⟨v, l, f⟩, hr⟩ : ∃ r, sR bs e top = r := ⟨_, rfl⟩
  rw [hr] at S hb
  rw [hr]
  dsimp only at S hb ⊢
  clear h hy hr
  by_cases h2 : v % 2 = 0
  · have Z := Lib.hid (show zz v = v / 2 from if_pos h2)
    rw [Z.out]
    go_enter Tryz.func28, Tryz.ntmps28
    go_wp2_with fail
    refine S.out.mono ?_; rintro e1 w1 ⟨rfl, hd⟩
    have D := Lib.hid hd
    clear hd
    go_wp2_with fail
    go_ret
    exact ⟨rfl, D.out⟩
  · have Z := Lib.hid (show zz v = -(v / 2) - 1 from if_neg h2)
    rw [Z.out]
    have h3 : v % 2 = 1 := by omega
    clear h2
    go_enter Tryz.func28, Tryz.ntmps28
    go_wp2_with fail
    refine S.out.mono ?_; rintro e1 w1 ⟨rfl, hd⟩
    have D := Lib.hid hd
    clear hd
    go_wp2_with fail
    go_ret
    exact ⟨rfl, D.out⟩
set_option maxRecDepth 100000 in
theorem fail_any (g n c : Nat) (A : Option Addr) (bs : List Int) (e f : Int) (w : World) (h : Rq w g A n c bs e) :
    Calls Tryz.prog 98 #[.pointer (some ⟨g, 0, none⟩), .int .i64 f] w fun E W => E = .returned (.tuple #[]) ∧ Dd w g A bs (if e = 0 then f else e) W := by
  have d1 := h.c1
  have f1 := h.fr 1
  have HH := Lib.hid h
  by_cases he : e = 0
  · subst he
    have S := Lib.hid (stop_no g n c A bs w h)
    rw [if_pos rfl]
    clear h
    go_enter Tryz.func98, Tryz.ntmps98
    go_wp2_with fail
    refine S.out.mono ?_; rintro e0 w1 ⟨rfl, rfl⟩
    go_wp2_with fail
    go_end0
    exact ⟨rfl, ⟨A, n, c, HH.out.setE f, same_block A⟩, only_set _ _ _ _⟩
  · have S := Lib.hid (stop_yes g n c A bs e w h he)
    rw [if_neg he]
    clear he h
    go_enter Tryz.func98, Tryz.ntmps98
    go_wp2_with fail
    refine S.out.mono ?_; rintro e0 w1 ⟨rfl, rfl⟩
    go_wp2_with fail
    go_end0
    exact ⟨rfl, ⟨A, n, c, HH.out, same_block A⟩, World.grownBy.refl _ _⟩
set_option maxRecDepth 100000 in
theorem done_any (g n c : Nat) (A : Option Addr) (bs : List Int) (e : Int) (w : World) (h : Rq w g A n c bs e) (hn : n ≤ 200000) :
    Calls Tryz.prog 15 #[.pointer (some ⟨g, 0, none⟩)] w fun E W => E = .returned (.int .i64 (if e = 0 ∧ 0 < bs.length then 5 else e)) ∧ w = W := by
  have d0 := h.c0
  have d1 := h.c1
  have hl := h.r.1
  rw [hl]
  clear h hl
  by_cases he : e = 0
  · subst he
    rcases Nat.eq_zero_or_pos n with h0 | h0
    · subst h0
      rw [if_neg (by omega)]
      go_enter Tryz.func15, Tryz.ntmps15
      go_wp2
      go_ret
      exact ⟨rfl, rfl⟩
    · rw [if_pos ⟨rfl, h0⟩]
      go_enter Tryz.func15, Tryz.ntmps15
      go_wp2
      go_ret
      exact ⟨rfl, rfl⟩
  · rw [if_neg fun c => he c.1]
    have he1 : decide (e = 0) = false := decide_eq_false he
    have he2 : (e == 0) = false := by simpa using he
    clear he
    go_enter Tryz.func15, Tryz.ntmps15
    go_wp2
    go_ret
    exact ⟨rfl, rfl⟩
/-- A new reader. -/
def Newly (w : World) (bs : List Int) (E : Ending) (W : World) : Prop :=
  ∃ g A n c, E = .returned (.pointer (some ⟨g, 0, none⟩)) ∧ Rq W g A n c bs 0 ∧ (∀ a, A = some a → w.heap.size ≤ a.block ∧ a.block < W.heap.size) ∧ Below w.heap.size w W ∧ w.heap.size ≤ g
set_option maxRecDepth 100000 in
theorem newr_any (A : Option Addr) (n c : Nat) (bs : List Int) (w : World) (h : RdB w A n bs) (hn : n ≤ 200000) (h0 : A = none → n = 0 ∧ c = 0) :
    Calls Tryz.prog 12 #[.slice A n c] w fun E W => Newly w bs E W := by
  have C := Lib.hid (clone_any A n c bs w h hn h0)
  clear h h0
  go_enter Tryz.func12, Tryz.ntmps12
  go_wp2_with fail
  refine C.out.mono ?_; rintro e w1 ⟨v, rfl, hN⟩
  obtain ⟨A1, c1, rfl, hr, h01⟩ := owns_pt hN.o
  have hcap : bs.length ≤ c1 := by
    cases A1 with
    | none => have := h01 rfl; omega
    | some a =>
      rcases hN.o.2 with ⟨e1, _⟩ | ⟨g, cap, cur, e1, _, _, hc, _⟩
      · cases e1
      · cases e1; exact hc
  have HA : Hid (∀ a, A1 = some a → w.heap.size ≤ a.block ∧ a.block < w1.heap.size) := Lib.hid (fun a ha => by subst ha; exact hN.o.lt a.block rfl)
  have HR := Lib.hid hr
  have HB := Lib.hid hN.q
  have hs := hN.q.size
  clear hN hr h01
  go_wp2_with fail
  go_ret
  refine ⟨w1.heap.size, A1, bs.length, c1, rfl, ⟨heap_alloc_new w1 _, HR.out.below ((Below.refl _ w1).alloc (Nat.le_refl _) _), hcap⟩, fun a ha => ⟨(HA.out a ha).1, ?_⟩, HB.out.alloc HB.out.size _, hs⟩
  have := (HA.out a ha).2
  rw [size_alloc]; omega
end Go.Proofs.YtbmlpokkojhhjaaGreat
/- A contract's data read field by field into a variable, out of the program's reader: what stands in memory meanwhile. -/
namespace Go.Proofs.YtbmlpokkojhhjaaGreat
open Go.RowKit

section
variable {s : Sp}
theorem set0 (x : Int) : s.cells.setIfInBounds 0 (.int .u32 x) = ({ s with nu := x } : Sp).cells := by simp [Sp.cells, Sp.cellL]
theorem set1 (x : Int) : s.cells.setIfInBounds 1 (.int .u8 x) = ({ s with ro := x } : Sp).cells := by simp [Sp.cells, Sp.cellL]
theorem set2 (x : Int) : s.cells.setIfInBounds 2 (.int .i64 x) = ({ s with ti := x } : Sp).cells := by simp [Sp.cells, Sp.cellL]
theorem set3 (x : Int) : s.cells.setIfInBounds 3 (.int .i64 x) = ({ s with lo := x } : Sp).cells := by simp [Sp.cells, Sp.cellL]
theorem set4 (x : Int) : s.cells.setIfInBounds 4 (.int .i64 x) = ({ s with ba := x } : Sp).cells := by simp [Sp.cells, Sp.cellL]
theorem set5 (x : Int) : s.cells.setIfInBounds 5 (.int .i64 x) = ({ s with li := x } : Sp).cells := by simp [Sp.cells, Sp.cellL]
theorem set6 (h : s.sh.length = 16) (i : Nat) (hi : i < 16) (x : Int) : s.cells.setIfInBounds (6 + i) (.int .i64 x) = ({ s with sh := s.sh.set i x } : Sp).cells := by
  have hl : i < s.sh.length := by omega
  rw [show 6 + i = i + 1 + 1 + 1 + 1 + 1 + 1 by omega]
  simp [Sp.cells, Sp.cellL, hl, List.map_set]
theorem set22 (h : s.sh.length = 16) (x : Int) : s.cells.setIfInBounds 22 (.int .i64 x) = ({ s with cr := x } : Sp).cells := by simp [Sp.cells, Sp.cellL, h]
theorem set23 (h : s.sh.length = 16) (x : Int) : s.cells.setIfInBounds 23 (.int .u32 x) = ({ s with la := x } : Sp).cells := by simp [Sp.cells, Sp.cellL, h]
theorem set24 (h : s.sh.length = 16) (x : Int) : s.cells.setIfInBounds 24 (.int .i64 x) = ({ s with fi := x } : Sp).cells := by simp [Sp.cells, Sp.cellL, h]
end
theorem sR_most {bs : List Int} (hy : By bs) (e : Int) {m : Int} (hm : 0 ≤ m) : 0 ≤ (sR bs e m).1 ∧ (sR bs e m).1 ≤ m := by
  have hb := sR_bd hy e m
  refine ⟨hb.1, ?_⟩
  unfold sR
  split
  · exact hm
  · split
    · exact hm
    · split
      · exact hm
      · dsimp only; omega
theorem iR_by {bs : List Int} (hy : By bs) (e : Int) : By (iR bs e).2.1 ∧ (iR bs e).2.1.length ≤ bs.length := sR_by hy e top
theorem iR_fits {bs : List Int} (hy : By bs) (e : Int) : I64 (iR bs e).1 := by
  have hb := sR_bd hy e top
  show I64 (zz (sR bs e top).1)
  unfold zz I64
  split <;> omega
/-- A reader that lay there, and the data read so far in a block that is new. -/
structure Tk (w : World) (g g3 n0 : Nat) (A0 : Option Addr) (W : World) (s : Sp) (bs : List Int) (e : Int) : Prop where
  rq : ∃ A n c, Rq W g A n c bs e ∧ ∀ a, A = some a → ∃ a0, A0 = some a0 ∧ a.block = a0.block
  old : g < w.heap.size ∧ ∀ a0, A0 = some a0 → 0 < n0 → a0.block < w.heap.size
  len : bs.length ≤ n0
  new : w.heap.size ≤ g3
  box : Box W g3 s
  gr : w.grownBy W (some g)
section
variable {w W W' : World} {g g3 n0 : Nat} {A0 : Option Addr} {s s' : Sp} {bs bs' : List Int} {e e' : Int}
theorem Tk.call (h : Tk w g g3 n0 A0 W s bs e) {A : Option Addr} (hA : ∀ a, A = some a → ∃ a0, A0 = some a0 ∧ a.block = a0.block) (d : Dd W g A bs' e' W') (hl : bs'.length ≤ bs.length) : Tk w g g3 n0 A0 W' s bs' e' := by
  obtain ⟨⟨A', n, c, rq, hA'⟩, gr⟩ := d
  refine ⟨⟨A', n, c, rq, fun a ha => ?_⟩, h.old, Nat.le_trans hl h.len, h.new, ⟨(gr.block g3 (Array.getElem?_eq_some_iff.1 h.box.1).1 (by have := h.old.1; have := h.new; simp; omega)).trans h.box.1, h.box.2⟩, ?_⟩
  · obtain ⟨a1, h1, h2⟩ := hA' a ha
    obtain ⟨a0, h3, h4⟩ := hA a1 h1
    exact ⟨a0, h3, h2.trans h4⟩
  · exact ⟨gr.os.trans h.gr.os, gr.tape.trans h.gr.tape, gr.output.trans h.gr.output, Nat.le_trans h.gr.size gr.size, fun k hk hne => (gr.block k (Nat.lt_of_lt_of_le hk h.gr.size) hne).trans (h.gr.block k hk hne)⟩
theorem Tk.put (h : Tk w g g3 n0 A0 W s bs e) {j : Nat} {v : Value} (hl : s'.sh.length = 16) (eq : s.cells.setIfInBounds j v = s'.cells) : Tk w g g3 n0 A0 (W.setCell ⟨g3, j, none⟩ v) s' bs e := by
  obtain ⟨⟨A, n, c, rq, hA⟩, old, len, new, box, gr⟩ := h
  have hg : g ≠ g3 := by omega
  refine ⟨⟨A, n, c, ⟨(heap_setCell_other _ _ _ _ hg).trans rq.b, ⟨rq.r.1, fun hn => ?_⟩, rq.nc⟩, hA⟩, old, len, new, box_cell box hl eq, ?_⟩
  · obtain ⟨b, o, e1, hc⟩ := rq.r.2 hn
    refine ⟨b, o, e1, fun i hi => ?_⟩
    obtain ⟨a0, h1, h2⟩ := hA _ e1
    have hb : b < w.heap.size := by
      have := old.2 a0 h1 (by have := rq.r.1; omega)
      have h3 : b = a0.block := h2
      omega
    rw [World.cell?_setCell_other (h := fun e2 => by cases e2; omega)]
    exact hc i hi
  · refine ⟨gr.os, gr.tape, gr.output, by have := gr.size; simpa using this, fun k hk hne => ?_⟩
    rw [heap_setCell_other _ _ _ _ (by show k ≠ g3; omega)]
    exact gr.block k hk hne
end
end Go.Proofs.YtbmlpokkojhhjaaGreat
/- A contract's data read field by field: what stands in memory meanwhile, and what has been read; the program's calls on its reader, in these words. -/
namespace Go.Proofs.YtbmlpokkojhhjaaGreat
open Go.RowKit

def fmax (i : Nat) : Int := if i = 0 then 4294967295 else if i = 1 then 255 else if i = 7 then 4294967295 else 9223372036854775807
def i63 : Int := 9223372036854775807
/-- The field that the k-th of four numbers goes to. -/
def setK (s : Sp) (x : Int) : Nat → Sp
  | 0 => { s with ti := x }
  | 1 => { s with lo := x }
  | 2 => { s with ba := x }
  | _ => { s with li := x }
def getK (s : Sp) : Nat → Int
  | 0 => s.ti
  | 1 => s.lo
  | 2 => s.ba
  | _ => s.li
theorem getK_at (s : Sp) (k : Nat) (h : k < 4) : s.cells[2 + k]? = some (.int .i64 (getK s k)) := by
  match k, h with
  | 0, _ => exact s.c2
  | 1, _ => exact s.c3
  | 2, _ => exact s.c4
  | 3, _ => exact s.c5
theorem setK_at (s : Sp) (k : Nat) (h : k < 4) (x : Int) : s.cells.setIfInBounds (2 + k) (.int .i64 x) = (setK s x k).cells := by
  match k, h with
  | 0, _ => exact set2 x
  | 1, _ => exact set3 x
  | 2, _ => exact set4 x
  | 3, _ => exact set5 x
theorem setK_sh (s : Sp) (k : Nat) (x : Int) : (setK s x k).sh = s.sh := by
  match k with
  | 0 => rfl
  | 1 => rfl
  | 2 => rfl
  | _ + 3 => rfl
theorem setK_ok {s : Sp} (h : s.ok) {x : Int} (hx : I64 x) (k : Nat) : (setK s x k).ok := by
  match k with
  | 0 => exact ⟨h.nu, h.ro, hx, h.lo, h.ba, h.li, h.len, h.sh, h.cr, h.la, h.fi⟩
  | 1 => exact ⟨h.nu, h.ro, h.ti, hx, h.ba, h.li, h.len, h.sh, h.cr, h.la, h.fi⟩
  | 2 => exact ⟨h.nu, h.ro, h.ti, h.lo, hx, h.li, h.len, h.sh, h.cr, h.la, h.fi⟩
  | _ + 3 => exact ⟨h.nu, h.ro, h.ti, h.lo, h.ba, hx, h.len, h.sh, h.cr, h.la, h.fi⟩
theorem setS_ok {s : Sp} (h : s.ok) {x : Int} (hx : I64 x) (k : Nat) : ({ s with sh := s.sh.set k x } : Sp).ok :=
  ⟨h.nu, h.ro, h.ti, h.lo, h.ba, h.li, (List.length_set).trans h.len, fun y hy => (List.mem_or_eq_of_mem_set hy).elim (h.sh y) (fun e => e ▸ hx), h.cr, h.la, h.fi⟩
/-- So many of the four numbers are read; so many of the shifts. -/
def stF (s : Sp) (b : List Int) (e : Int) : Nat → Sp × List Int × Int
  | 0 => (s, b, e)
  | k + 1 => (setK (stF s b e k).1 (sR (stF s b e k).2.1 (stF s b e k).2.2 i63).1 k, (sR (stF s b e k).2.1 (stF s b e k).2.2 i63).2)
def shS (s : Sp) (b : List Int) (e : Int) : Nat → Sp × List Int × Int
  | 0 => (s, b, e)
  | k + 1 => ({ (shS s b e k).1 with sh := (shS s b e k).1.sh.set k (iR (shS s b e k).2.1 (shS s b e k).2.2).1 }, (iR (shS s b e k).2.1 (shS s b e k).2.2).2)
theorem shS_eq (s : Sp) (b : List Int) (e : Int) (h : s.sh.length = 16) : ∀ k, k ≤ 16 → shS s b e k = ({ s with sh := (iRs b e k).1 ++ s.sh.drop k }, (iRs b e k).2)
  | 0, _ => by simp [shS, iRs]
  | k + 1, hk => by
    have ih := shS_eq s b e h k (by omega)
    have hl := iRs_len b e k
    simp only [shS, ih, iRs]
    congr 2
    rw [List.set_append, if_neg (by omega), hl, Nat.sub_self]
    have hd : s.sh.drop k = s.sh[k]'(by omega) :: s.sh.drop (k + 1) := List.drop_eq_getElem_cons (by omega)
    rw [hd, List.set_cons_zero, List.append_assoc, List.singleton_append]
theorem tS_steps {bs b1 b2 b3 b4 b6 b7 b8 : List Int} {e e1 e2 e3 e4 e6 e7 e8 v0 v1 v6 v7 v8 : Int} {s3 s4 : Sp}
    (h0 : sR bs e 4294967295 = (v0, b1, e1)) (h1 : sR b1 e1 255 = (v1, b2, e2)) (h2 : stF { zeroSp with nu := v0, ro := v1 } b2 e2 4 = (s3, b3, e3)) (h3 : shS s3 b3 e3 16 = (s4, b4, e4))
    (h6 : sR b4 e4 i63 = (v6, b6, e6)) (h7 : sR b6 e6 4294967295 = (v7, b7, e7)) (h8 : sR b7 e7 i63 = (v8, b8, e8)) :
    tS fmax bs e = ({ s4 with cr := v6, la := v7, fi := v8 }, b8, e8) := by
  have hs : s3.sh.length = 16 := by
    have : s3 = (stF { zeroSp with nu := v0, ro := v1 } b2 e2 4).1 := by rw [h2]
    rw [this]
    simp only [stF, setK_sh]
    rfl
  rw [shS_eq s3 b3 e3 hs 16 (Nat.le_refl _)] at h3
  rw [List.drop_of_length_le (by omega), List.append_nil] at h3
  obtain ⟨h3a, h3b⟩ := Prod.mk.inj h3
  unfold tS
  simp only [show fmax 0 = 4294967295 from rfl, show fmax 1 = 255 from rfl, show fmax 2 = i63 from rfl, show fmax 3 = i63 from rfl, show fmax 4 = i63 from rfl, show fmax 5 = i63 from rfl, show fmax 6 = i63 from rfl, show fmax 7 = 4294967295 from rfl, show fmax 8 = i63 from rfl, h0, h1]
  simp only [stF, setK] at h2
  obtain ⟨h2a, h2b⟩ := Prod.mk.inj h2
  subst h2a
  simp only [h2b, h3b, h6, h7, h8]
  subst h3a
  simp
theorem i64_of {x : Int} (h : 0 ≤ x) (k : x ≤ i63) : I64 x := ⟨by omega, k⟩
theorem cell_heap {W W' : World} {b : Nat} (h : W'.heap[b]? = W.heap[b]?) (j : Nat) : W'.cell? ⟨b, j, none⟩ = W.cell? ⟨b, j, none⟩ := by
  unfold World.cell?
  rw [h]
theorem Tk.done {w W : World} {g g3 n0 : Nat} {A0 : Option Addr} {s : Sp} {bs : List Int} {e : Int} (h : Tk w g g3 n0 A0 W s bs e) {r : Nat} (hr : w.heap.size ≤ r) (cs : Array Value) : Dd w g A0 bs e (W.setRow r cs) := by
  obtain ⟨⟨A, n, c, rq, hA⟩, old, len, new, box, gr⟩ := h
  refine ⟨⟨A, n, c, ⟨(setRow_other W r g cs (by omega)).trans rq.b, ⟨rq.r.1, fun hn => ?_⟩, rq.nc⟩, hA⟩, ?_⟩
  · obtain ⟨b, o, e1, hc⟩ := rq.r.2 hn
    refine ⟨b, o, e1, fun i hi => ?_⟩
    obtain ⟨a0, h1, h2⟩ := hA _ e1
    have hb : b < w.heap.size := by
      have := old.2 a0 h1 (by have := rq.r.1; omega)
      have h3 : b = a0.block := h2
      omega
    rw [cell_heap (setRow_other W r b cs (by omega))]
    exact hc i hi
  · exact ⟨gr.os, gr.tape, gr.output, by rw [size_setRow]; exact gr.size, fun k hk hne => (setRow_other W r k cs (by omega)).trans (gr.block k hk hne)⟩
/-- Blocks that were there stay, but for two. -/
structure Stay (g g3 : Nat) (W0 W : World) : Prop where
  size : W0.heap.size ≤ W.heap.size
  block : ∀ k, k < W0.heap.size → k ≠ g → k ≠ g3 → W.heap[k]? = W0.heap[k]?
theorem Stay.refl (g g3 : Nat) (W : World) : Stay g g3 W W := ⟨Nat.le_refl _, fun _ _ _ _ => rfl⟩
theorem Stay.trans {g g3 : Nat} {W0 W1 W2 : World} (h : Stay g g3 W0 W1) (k : Stay g g3 W1 W2) : Stay g g3 W0 W2 :=
  ⟨Nat.le_trans h.size k.size, fun i hi a b => (k.block i (Nat.lt_of_lt_of_le hi h.size) a b).trans (h.block i hi a b)⟩
theorem Stay.grown {g g3 : Nat} {W0 W1 W2 : World} (h : Stay g g3 W0 W1) (k : W1.grownBy W2 (some g)) : Stay g g3 W0 W2 :=
  h.trans ⟨k.size, fun i hi a _ => k.block i hi (by intro c; cases c; exact a rfl)⟩
theorem Stay.put {g g3 : Nat} {W0 W1 : World} (h : Stay g g3 W0 W1) (j : Nat) (v : Value) : Stay g g3 W0 (W1.setCell ⟨g3, j, none⟩ v) :=
  h.trans ⟨by simp, fun i _ _ b => heap_setCell_other _ _ _ _ b⟩
theorem Stay.below {g g3 : Nat} {W0 W1 W2 : World} (h : Stay g g3 W0 W1) (b : Below W1.heap.size W1 W2) : Stay g g3 W0 W2 :=
  h.trans ⟨b.size, fun i hi _ _ => b.block i hi⟩
structure St (w W0 : World) (g g3 n0 : Nat) (A0 : Option Addr) (W : World) (s : Sp) (bs : List Int) (e : Int) : Prop where
  tk : Tk w g g3 n0 A0 W s bs e
  st : Stay g g3 W0 W
  by_ : By bs
  small : n0 ≤ 200000
section
variable {w W0 W W' : World} {g g3 n0 : Nat} {A0 : Option Addr} {s s' : Sp} {bs bs' : List Int} {e e' : Int}
theorem St.call (h : St w W0 g g3 n0 A0 W s bs e) {A : Option Addr} (hA : ∀ a, A = some a → ∃ a0, A0 = some a0 ∧ a.block = a0.block) (d : Dd W g A bs' e' W') (hy : By bs') (hl : bs'.length ≤ bs.length) : St w W0 g g3 n0 A0 W' s bs' e' :=
  ⟨h.tk.call hA d hl, h.st.grown d.2, hy, h.small⟩
theorem St.put (h : St w W0 g g3 n0 A0 W s bs e) {j : Nat} {v : Value} (hl : s'.sh.length = 16) (eq : s.cells.setIfInBounds j v = s'.cells) : St w W0 g g3 n0 A0 (W.setCell ⟨g3, j, none⟩ v) s' bs e :=
  ⟨h.tk.put hl eq, h.st.put j v, h.by_, h.small⟩
theorem St.below (h : St w W0 g g3 n0 A0 W s bs e) (b : Below W.heap.size W W') : St w W0 g g3 n0 A0 W' s bs e := by
  obtain ⟨⟨⟨A, n, c, rq, hA⟩, old, len, new, box, gr⟩, st, hy, hs⟩ := h
  refine ⟨⟨⟨A, n, c, rq.below b, hA⟩, old, len, new, box.below b, ?_⟩, st.below b, hy, hs⟩
  exact ⟨b.os.trans gr.os, b.tape.trans gr.tape, b.output.trans gr.output, Nat.le_trans gr.size b.size, fun k hk hne => (b.block k (Nat.lt_of_lt_of_le hk gr.size)).trans (gr.block k hk hne)⟩
theorem St.base (h : St w W0 g g3 n0 A0 W s bs e) : St w W g g3 n0 A0 W s bs e := ⟨h.tk, Stay.refl _ _ _, h.by_, h.small⟩
theorem St.smallC (T : St w W0 g g3 n0 A0 W s bs e) (most : Int) : Calls Tryz.prog 26 #[.pointer (some ⟨g, 0, none⟩), .int .u64 most] W fun E W' => E = .returned (.int .u64 (sR bs e most).1) ∧ St w W0 g g3 n0 A0 W' s (sR bs e most).2.1 (sR bs e most).2.2 := by
  obtain ⟨A, n, c, rq, hA⟩ := T.tk.rq
  have hn : n ≤ 200000 := by have h1 := rq.r.1; have h2 := T.tk.len; have h3 := T.small; omega
  have NB := sR_by T.by_ e most
  refine (small_any g n c A bs e most _ rq T.by_ hn).mono ?_
  rintro E W' ⟨rfl, d⟩
  exact ⟨rfl, T.call hA d NB.1 NB.2⟩
theorem St.intC (T : St w W0 g g3 n0 A0 W s bs e) : Calls Tryz.prog 28 #[.pointer (some ⟨g, 0, none⟩)] W fun E W' => E = .returned (.int .i64 (iR bs e).1) ∧ St w W0 g g3 n0 A0 W' s (iR bs e).2.1 (iR bs e).2.2 := by
  obtain ⟨A, n, c, rq, hA⟩ := T.tk.rq
  have hn : n ≤ 200000 := by have h1 := rq.r.1; have h2 := T.tk.len; have h3 := T.small; omega
  have NB := iR_by T.by_ e
  refine (int_any g n c A bs e _ rq T.by_ hn).mono ?_
  rintro E W' ⟨rfl, d⟩
  exact ⟨rfl, T.call hA d NB.1 NB.2⟩
set_option maxRecDepth 100000 in
theorem St.natC (T : St w W0 g g3 n0 A0 W s bs e) : Calls Tryz.prog 97 #[.pointer (some ⟨g, 0, none⟩)] W fun E W' => E = .returned (.int .i64 (sR bs e i63).1) ∧ St w W0 g g3 n0 A0 W' s (sR bs e i63).2.1 (sR bs e i63).2.2 := by
  have MB := sR_most T.by_ e (m := i63) (by decide)
  have C := Lib.hid (T.smallC i63)
  obtain ⟨⟨v, b', e'⟩, hr⟩ : ∃ r, sR bs e i63 = r := ⟨_, rfl⟩
  rw [hr] at MB C ⊢
  dsimp only at MB C ⊢
  obtain ⟨m1, m2⟩ := MB
  unfold i63 at m2 C
  clear T hr
  go_enter Tryz.func97, Tryz.ntmps97
  go_wp2_with fail
  refine C.out.mono ?_; rintro e0 W1 ⟨rfl, t⟩
  have T := Lib.hid t
  clear t C
  go_wp2_with fail
  go_ret
  exact ⟨rfl, T.out⟩
end
end Go.Proofs.YtbmlpokkojhhjaaGreat
/- Contracts of the program's own calls on a contract's data: numbers between bounds, multiples, differences; the greatest and the least shift; whether the shifts may be. -/
namespace Go.Proofs.YtbmlpokkojhhjaaGreat
open Go.RowKit

set_option maxRecDepth 100000 in
theorem pamong_any (n l m : Int) (w : World) : Calls Tryz.prog 105 #[.int .i64 n, .int .i64 l, .int .i64 m] w fun e w' => e = .returned (.bool (amB n l m)) ∧ w = w' := by
  unfold amB
  by_cases h1 : l ≤ n
  · by_cases h2 : n ≤ m
    · rw [decide_eq_true (show l ≤ n ∧ n ≤ m from ⟨h1, h2⟩)]
      have d1 : decide (l ≤ n) = true := decide_eq_true h1
      have d2 : decide (n ≤ m) = true := decide_eq_true h2
      go_enter Tryz.func105, Tryz.ntmps105
      go_wp2
      go_ret
      exact ⟨rfl, rfl⟩
    · rw [decide_eq_false (show ¬ (l ≤ n ∧ n ≤ m) from fun h => h2 h.2)]
      have d1 : decide (l ≤ n) = true := decide_eq_true h1
      have d2 : decide (n ≤ m) = false := decide_eq_false h2
      go_enter Tryz.func105, Tryz.ntmps105
      go_wp2
      go_ret
      exact ⟨rfl, rfl⟩
  · rw [decide_eq_false (show ¬ (l ≤ n ∧ n ≤ m) from fun h => h1 h.1)]
    have d1 : decide (l ≤ n) = false := decide_eq_false h1
    go_enter Tryz.func105, Tryz.ntmps105
    go_wp2
    go_ret
    exact ⟨rfl, rfl⟩
/-- A multiple of a step, up to a bound. -/
def stB (n t m : Int) : Bool := decide ((1 ≤ n ∧ n ≤ m) ∧ n % t = 0)
theorem stB_no {n t m : Int} (h : amB n 1 m = false) : stB n t m = false := by
  refine decide_eq_false fun c => ?_
  rw [amB_iff.2 c.1] at h
  cases h
set_option maxRecDepth 100000 in
theorem psteps_any (n t m : Int) (w : World) (ht : 1 ≤ t ∧ t ≤ 10000000) : Calls Tryz.prog 107 #[.int .i64 n, .int .i64 t, .int .i64 m] w fun e w' => e = .returned (.bool (stB n t m)) ∧ w = w' := by
  have AM := Lib.hid (fun W => pamong_any n 1 m W)
  obtain ⟨t1, t2⟩ := ht
  cases ha : amB n 1 m
  · rw [stB_no ha]
    rw [ha] at AM
    clear ha
    go_enter Tryz.func107, Tryz.ntmps107
    go_wp2_with fail
    refine (AM.out _).mono ?_; rintro e w' ⟨rfl, rfl⟩
    go_wp2_with fail
    go_ret
    exact ⟨rfl, rfl⟩
  · obtain ⟨n1, n2⟩ := amB_iff.1 ha
    have H : Hid (stB n t m = (n % t == 0)) := Lib.hid (by
      unfold stB
      by_cases c : n % t = 0
      · rw [decide_eq_true ⟨⟨n1, n2⟩, c⟩, beq_iff_eq.2 c]
      · rw [decide_eq_false (fun h => c h.2)]
        exact (beq_eq_false_iff_ne.2 c).symm)
    rw [H.out]
    rw [ha] at AM
    clear ha H
    go_enter Tryz.func107, Tryz.ntmps107
    go_wp2_with fail
    refine (AM.out _).mono ?_; rintro e w' ⟨rfl, rfl⟩
    go_wp2_with fail
    go_ret
    exact ⟨rfl, rfl⟩

/-- What Within answers; what Sub tells. -/
def withinB (a m : Int) : Bool := decide (0 ≤ m ∧ -m ≤ a ∧ a ≤ m)
theorem within_pos {a m : Int} (h : 0 ≤ m ∧ -m ≤ a ∧ a ≤ m) : withinB a m = true := decide_eq_true h
theorem within_neg {a m : Int} (h : ¬ (0 ≤ m ∧ -m ≤ a ∧ a ≤ m)) : withinB a m = false := decide_eq_false h
theorem ansB {x x' : Bool} (h : x = x') : Ending.returned (.bool x) = Ending.returned (.bool x') := by rw [h]
set_option maxHeartbeats 400000 in
theorem pwithin_any (a m : Int) (ha : I64 a) (hm : I64 m) (w : World) :
    Calls Tryz.prog 114 #[.int .i64 a, .int .i64 m] w fun e w' => e = .returned (.bool (withinB a m)) ∧ w = w' := by
  unfold I64 at ha hm
  obtain ⟨ha1, ha2⟩ := ha
  obtain ⟨hm1, hm2⟩ := hm
  by_cases h0 : 0 ≤ m
  · by_cases h1 : -m ≤ a
    · by_cases h2 : a ≤ m
      · have H := Lib.hid (within_pos ⟨h0, h1, h2⟩)
        go_enter Tryz.func114, Tryz.ntmps114
        go_wp2
        go_ret
        exact ⟨ansB H.out.symm, rfl⟩
      · have H := Lib.hid (within_neg (a := a) (m := m) (by omega))
        go_enter Tryz.func114, Tryz.ntmps114
        go_wp2
        go_ret
        exact ⟨ansB H.out.symm, rfl⟩
    · have H := Lib.hid (within_neg (a := a) (m := m) (by omega))
      go_enter Tryz.func114, Tryz.ntmps114
      go_wp2
      go_ret
      exact ⟨ansB H.out.symm, rfl⟩
  · have H := Lib.hid (within_neg (a := a) (m := m) (by omega))
    go_enter Tryz.func114, Tryz.ntmps114
    go_wp2
    go_ret
    exact ⟨ansB H.out.symm, rfl⟩
/-- The number that a call tells: it, or 0 where it does not fit; the error. -/
def ftN (x : Int) : Int := if -9223372036854775808 ≤ x ∧ x ≤ 9223372036854775807 then x else 0
def ftE (x : Int) : Int := if -9223372036854775808 ≤ x ∧ x ≤ 9223372036854775807 then 0 else 6
theorem ans2 {x y x' y' : Int} (h : x = x') (k : y = y') : Ending.returned (.tuple #[.int .i64 x, .int .i64 y]) = Ending.returned (.tuple #[.int .i64 x', .int .i64 y']) := by rw [h, k]
theorem psub_bad (a b : Int) (ha : I64 a) (hb : I64 b) (h : (!decide (wrap64 (a - b) < a) == decide (0 < b)) = true) : 0 = ftN (a - b) ∧ 6 = ftE (a - b) := by
  unfold I64 at ha hb; unfold ftN ftE; unfold wrap64 at h
  by_cases h1 : (a - b + 9223372036854775808) % 18446744073709551616 - 9223372036854775808 < a <;> by_cases h2 : 0 < b <;> simp [h1, h2] at h
  all_goals (rw [if_neg (by omega), if_neg (by omega)]; exact ⟨rfl, rfl⟩)
theorem psub_good (a b : Int) (ha : I64 a) (hb : I64 b) (h : (!decide (wrap64 (a - b) < a) == decide (0 < b)) = false) : wrap64 (a - b) = ftN (a - b) ∧ 0 = ftE (a - b) := by
  unfold I64 at ha hb; unfold ftN ftE; unfold wrap64 at h ⊢
  by_cases h1 : (a - b + 9223372036854775808) % 18446744073709551616 - 9223372036854775808 < a <;> by_cases h2 : 0 < b <;> simp [h1, h2] at h
  all_goals (rw [if_pos (by omega), if_pos (by omega)]; exact ⟨by omega, rfl⟩)












theorem up_max (x y : Int) : decide (0 < max x y) = (decide (0 < x) || decide (0 < y)) := by
  rw [Int.max_def]
  split <;> by_cases hx : 0 < x <;> by_cases hy : 0 < y <;> simp [hx, hy] <;> omega
theorem down_min (x y : Int) : decide (min x y < 0) = (decide (x < 0) || decide (y < 0)) := by
  rw [Int.min_def]
  split <;> by_cases hx : x < 0 <;> by_cases hy : y < 0 <;> simp [hx, hy] <;> omega
set_option maxRecDepth 100000 in
theorem pmax_any (g : Nat) (l : List Int) (w : World) (hl : l.length = 16) (hc : ∀ j, j < 16 → w.cell? ⟨g, j, none⟩ = some (.int .i64 (l.getD j 0))) :
    Calls Tryz.prog 115 #[.slice (some ⟨g, 0, none⟩) 16 16] w fun e w' => (∃ m, e = .returned (.int .i64 m) ∧ decide (0 < m) = someUp l) ∧ w = w' := by
  have c0 := hc 0 (by decide)
  have HC := Lib.hid hc
  have HL := Lib.hid hl
  clear hc hl
  go_enter Tryz.func115, Tryz.ntmps115
  go_wp2_with fail
  go_loop [3, 4] (fun m i => ∃ (k : Nat) (x : Int), 1 ≤ k ∧ k ≤ 16 ∧ i = .int .i64 k ∧ m = .int .i64 x ∧ decide (0 < x) = someUp (l.take k)) (fun _ i => 16 - (intOf i).toNat)
  case atStart =>
    refine ⟨1, _, Nat.le_refl _, by decide, rfl, rfl, ?_⟩
    rw [take_more (by rw [HL.out]; decide), up_snoc]
    rfl
  case round =>
    obtain ⟨k, x, hk1, hk, rfl, rfl, hx⟩ := hrel
    have HX := Lib.hid hx
    clear hx
    by_cases hlt : k < 16
    case pos =>
      have ck := HC.out k hlt
      have hd : decide ((k : Int) < 16) = true := decide_eq_true (by omega)
      clear c0
      go_wp2_with fail
      go_round
      case rel =>
        refine ⟨k + 1, _, by omega, hlt, by go_num, rfl, ?_⟩
        rw [up_max, HX.out, take_more (by rw [HL.out]; exact hlt), up_snoc]
        rfl
      case measure => simp [intOf]; omega
    case neg =>
      obtain rfl : k = 16 := by omega
      clear c0
      go_wp2_with fail
      go_ret
      refine ⟨⟨x, rfl, ?_⟩, rfl⟩
      rw [HX.out, List.take_of_length_le (by rw [HL.out]; exact Nat.le_refl _)]
set_option maxRecDepth 100000 in
theorem pmin_any (g : Nat) (l : List Int) (w : World) (hl : l.length = 16) (hc : ∀ j, j < 16 → w.cell? ⟨g, j, none⟩ = some (.int .i64 (l.getD j 0))) :
    Calls Tryz.prog 116 #[.slice (some ⟨g, 0, none⟩) 16 16] w fun e w' => (∃ m, e = .returned (.int .i64 m) ∧ decide (m < 0) = someDown l) ∧ w = w' := by
  have c0 := hc 0 (by decide)
  have HC := Lib.hid hc
  have HL := Lib.hid hl
  clear hc hl
  go_enter Tryz.func116, Tryz.ntmps116
  go_wp2_with fail
  go_loop [3, 4] (fun m i => ∃ (k : Nat) (x : Int), 1 ≤ k ∧ k ≤ 16 ∧ i = .int .i64 k ∧ m = .int .i64 x ∧ decide (x < 0) = someDown (l.take k)) (fun _ i => 16 - (intOf i).toNat)
  case atStart =>
    refine ⟨1, _, Nat.le_refl _, by decide, rfl, rfl, ?_⟩
    rw [take_more (by rw [HL.out]; decide), down_snoc]
    rfl
  case round =>
    obtain ⟨k, x, hk1, hk, rfl, rfl, hx⟩ := hrel
    have HX := Lib.hid hx
    clear hx
    by_cases hlt : k < 16
    case pos =>
      have ck := HC.out k hlt
      have hd : decide ((k : Int) < 16) = true := decide_eq_true (by omega)
      clear c0
      go_wp2_with fail
      go_round
      case rel =>
        refine ⟨k + 1, _, by omega, hlt, by go_num, rfl, ?_⟩
        rw [down_min, HX.out, take_more (by rw [HL.out]; exact hlt), down_snoc]
        rfl
      case measure => simp [intOf]; omega
    case neg =>
      obtain rfl : k = 16 := by omega
      clear c0
      go_wp2_with fail
      go_ret
      refine ⟨⟨x, rfl, ?_⟩, rfl⟩
      rw [HX.out, List.take_of_length_le (by rw [HL.out]; exact Nat.le_refl _)]
end Go.Proofs.YtbmlpokkojhhjaaGreat
/- Contract of the program's own call whether a contract's shifts may be. -/
namespace Go.Proofs.YtbmlpokkojhhjaaGreat
open Go.RowKit

def shB (l : List Int) : Bool := l.all (fun x => amB x (-10000000) 10000000) && someUp l && someDown l
theorem within_am (x : Int) : withinB x 10000000 = amB x (-10000000) 10000000 := by
  unfold withinB amB
  by_cases h : -10000000 ≤ x ∧ x ≤ 10000000
  · rw [decide_eq_true h, decide_eq_true ⟨by decide, h⟩]
  · rw [decide_eq_false h, decide_eq_false (fun c => h c.2)]
theorem all_snoc {l : List Int} {k : Nat} (h : k < l.length) (p : Int → Bool) : (l.take (k + 1)).all p = ((l.take k).all p && p (l.getD k 0)) := by
  rw [take_more h]
  simp
theorem shB_bad {l : List Int} {k : Nat} (hk : k < l.length) (hx : amB (l.getD k 0) (-10000000) 10000000 = false) : shB l = false := by
  have : l.all (fun x => amB x (-10000000) 10000000) = false := by
    rw [List.all_eq_false]
    refine ⟨l.getD k 0, ?_, by rw [hx]; exact Bool.false_ne_true⟩
    rw [show l.getD k 0 = l[k] from by simp [List.getD, hk]]
    exact List.getElem_mem _
  unfold shB
  rw [this]
  simp
theorem arr_size {s : Sp} (h : s.sh.length = 16) : s.arr.size = 16 := by simp [Sp.arr, h]
theorem arr_at {s : Sp} (h : s.sh.length = 16) (j : Nat) (hj : j < 16) : s.arr[j]? = some (.int .i64 (s.sh.getD j 0)) := by
  have : j < s.sh.length := by omega
  simp [Sp.arr, List.getD, this]
set_option maxRecDepth 100000 in
set_option maxHeartbeats 2000000 in
theorem pshift_any (s : Sp) (w : World) (hl : s.sh.length = 16) (hi : ∀ x, x ∈ s.sh → I64 x) : Calls Tryz.prog 106 #[.agg s.arr] w fun e w' => e = .returned (.bool (shB s.sh)) ∧ Below w.heap.size w w' := by
  have HG := heap_alloc_new w (.cells s.arr 27)
  have HI : Option.map (fun x => x.size) (Tryz.prog.info? 27) = some s.arr.size := by rw [info_arr, arr_size hl]
  have B := Lib.hid ((Below.refl w.heap.size w).alloc (Nat.le_refl _) (.cells s.arr 27))
  have CC : ∀ j, j < 16 → (w.alloc (.cells s.arr 27)).cell? ⟨w.heap.size, j, none⟩ = some (.int .i64 (s.sh.getD j 0)) := fun j hj => by
    rw [cell_of_row _ _ _ _ _ _ HG, arr_at hl j hj]
  have MX := Lib.hid (pmax_any w.heap.size s.sh (w.alloc (.cells s.arr 27)) hl CC)
  have MN := Lib.hid (pmin_any w.heap.size s.sh (w.alloc (.cells s.arr 27)) hl CC)
  have HL := Lib.hid hl
  have HS := Lib.hid hi
  have WI := Lib.hid (fun (x : Int) (h : I64 x) W => pwithin_any x 10000000 h (by unfold I64; omega) W)
  clear CC hi hl
  go_enter Tryz.func106, Tryz.ntmps106
  go_wp2_with ((with_reducible refine wpList_load_row rfl 27 (.tmp 1) rfl w.heap.size rfl 27 s.arr (0, 0) _ HG Tryz.underlying27 rfl HI ?_))
  go_loop [6] (fun i => ∃ (k : Nat), k ≤ 16 ∧ i = .int .i64 k ∧ (s.sh.take k).all (fun x => amB x (-10000000) 10000000) = true) (fun i => 16 - (intOf i).toNat)
  case atStart => exact ⟨0, Nat.zero_le _, rfl, rfl⟩
  case round =>
    obtain ⟨k, hk, rfl, ha⟩ := hrel
    have HA := Lib.hid ha
    clear ha
    by_cases hlt : k < 16
    case pos =>
      have hd : decide ((k : Int) < 16) = true := decide_eq_true (by omega)
      have hx := HS.out (s.sh.getD k 0) (by
        have h3 : k < s.sh.length := by rw [HL.out]; exact hlt
        rw [show s.sh.getD k 0 = s.sh[k] from by simp [List.getD, h3]]
        exact List.getElem_mem _)
      have WX := Lib.hid (WI.out _ hx)
      rw [within_am] at WX
      cases hb : amB (s.sh.getD k 0) (-10000000) 10000000
      · have SB := Lib.hid (shB_bad (by rw [HL.out]; exact hlt) hb)
        rw [hb] at WX
        clear hb hx
        go_wp2_with ((with_reducible refine wl_index_arr (k := k) HL.out hlt ?_ ?_ ?_); rfl; rfl)
        refine (WX.out _).mono ?_; rintro e w' ⟨rfl, rfl⟩
        go_wp2_with fail
        go_ret
        rw [SB.out]
        exact ⟨rfl, B.out⟩
      · rw [hb] at WX
        have AL : Hid ((s.sh.take (k + 1)).all (fun x => amB x (-10000000) 10000000) = true) := Lib.hid (by rw [all_snoc (by rw [HL.out]; exact hlt), HA.out, hb]; rfl)
        clear hb hx
        go_wp2_with ((with_reducible refine wl_index_arr (k := k) HL.out hlt ?_ ?_ ?_); rfl; rfl)
        refine (WX.out _).mono ?_; rintro e w' ⟨rfl, rfl⟩
        go_wp2_with fail
        go_round
        case rel => exact ⟨k + 1, hlt, by go_num, AL.out⟩
        case measure => simp [intOf]; omega
    case neg =>
      obtain rfl : k = 16 := by omega
      have AL : Hid (s.sh.all (fun x => amB x (-10000000) 10000000) = true) := Lib.hid (by
        have := HA.out
        rwa [List.take_of_length_le (by rw [HL.out]; exact Nat.le_refl _)] at this)
      go_wp2_with fail
      refine MX.out.mono ?_; rintro e w' ⟨⟨m, rfl, hm⟩, rfl⟩
      cases hu : someUp s.sh
      · have HE : Hid (shB s.sh = false) := Lib.hid (by unfold shB; rw [hu]; simp)
        rw [hu] at hm
        clear hu
        go_wp2_with fail
        go_ret
        rw [HE.out]
        exact ⟨rfl, B.out⟩
      · have HE : Hid (shB s.sh = someDown s.sh) := Lib.hid (by unfold shB; rw [hu, AL.out]; simp)
        rw [hu] at hm
        clear hu
        go_wp2_with fail
        refine MN.out.mono ?_; rintro e w' ⟨⟨m2, rfl, hm2⟩, rfl⟩
        go_wp2_with fail
        go_ret
        rw [HE.out, ← hm2]
        exact ⟨rfl, B.out⟩
end Go.Proofs.YtbmlpokkojhhjaaGreat
/- A contract of the document's plain answer: a price. -/
namespace Go.Proofs.YtbmlpokkojhhjaaGreat
open Go.RowKit

theorem may_price {s : Sp} (h : mayB s = true) (n : Int) : priceB s n = prB s.ti n := by unfold priceB; rw [h]; rfl
theorem not_price {s : Sp} (h : mayB s = false) (n : Int) : priceB s n = false := by unfold priceB; rw [h]; rfl







































end Go.Proofs.YtbmlpokkojhhjaaGreat
