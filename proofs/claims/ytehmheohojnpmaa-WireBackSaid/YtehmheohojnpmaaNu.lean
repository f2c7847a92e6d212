/- The program's own calls, as the walks ask of them. -/
import Derived.Test.YtehmheohojnpmaaNt
import Derived.Test.YtehmheohojnpmaaWd
namespace Go.Proofs.Ytehmheohojnpmaa
open Go.RowKit

set_option maxRecDepth 100000 in
theorem nil_fail (w : World) (f : Int) : Calls Try.prog 33 #[.pointer none, .int .i64 f] w fun E W => E = .returned (.tuple #[]) ∧ Below w.heap.size w W := by
  go_enter Try.func33, Try.ntmps33
  go_wp2_with fail
  refine (stop_nil _).mono ?_; rintro e0 w1 ⟨rfl, rfl⟩
  go_wp2_with fail
  go_end0
  exact ⟨rfl, Below.refl _ _⟩
set_option maxRecDepth 100000 in
theorem nil_small (w : World) (m : Int) : Calls Try.prog 25 #[.pointer none, .int .u64 m] w fun E W => E = .returned (.int .u64 0) ∧ Below w.heap.size w W := by
  go_enter Try.func25, Try.ntmps25
  go_wp2_with fail
  refine (stop_nil _).mono ?_; rintro e0 w1 ⟨rfl, rfl⟩
  go_wp2_with fail
  go_ret
  exact ⟨rfl, Below.refl _ _⟩
set_option maxRecDepth 100000 in
theorem nil_nat (w : World) : Calls Try.prog 23 #[.pointer none] w fun E W => E = .returned (.int .u64 0) ∧ Below w.heap.size w W := by
  go_enter Try.func23, Try.ntmps23
  go_wp2_with fail
  refine (nil_small _ _).mono ?_; rintro e0 w1 ⟨rfl, q⟩
  go_wp2_with fail
  go_ret
  exact ⟨rfl, q⟩
set_option maxRecDepth 100000 in
theorem nil_int (w : World) : Calls Try.prog 27 #[.pointer none] w fun E W => E = .returned (.int .i64 0) ∧ Below w.heap.size w W := by
  go_enter Try.func27, Try.ntmps27
  go_wp2_with fail
  refine (nil_nat _).mono ?_; rintro e0 w1 ⟨rfl, q⟩
  go_wp2_with fail
  go_ret
  exact ⟨rfl, q⟩
set_option maxRecDepth 100000 in
theorem nil_flag (w : World) : Calls Try.prog 29 #[.pointer none] w fun E W => E = .returned (.bool false) ∧ Below w.heap.size w W := by
  go_enter Try.func29, Try.ntmps29
  go_wp2_with fail
  refine (stop_nil _).mono ?_; rintro e0 w1 ⟨rfl, rfl⟩
  go_wp2_with fail
  go_ret
  exact ⟨rfl, Below.refl _ _⟩
set_option maxRecDepth 100000 in
theorem nil_text (w : World) (m : Int) : Calls Try.prog 31 #[.pointer none, .int .i64 m] w fun E W => ∃ A c, E = .returned (.slice A 0 c) ∧ Below w.heap.size w W := by
  go_enter Try.func31, Try.ntmps31
  go_wp2_with fail
  refine (stop_nil _).mono ?_; rintro e0 w1 ⟨rfl, rfl⟩
  go_wp2_with fail
  go_ret
  exact ⟨none, 0, rfl, Below.refl _ _⟩
set_option maxRecDepth 100000 in
theorem nil_left (w : World) : Calls Try.prog 35 #[.pointer none] w fun E W => E = .returned (.int .i64 0) ∧ Below w.heap.size w W := by
  go_enter Try.func35, Try.ntmps35
  go_wp2
  go_ret
  exact ⟨rfl, Below.refl _ _⟩
set_option maxRecDepth 100000 in
theorem nil_done (w : World) : Calls Try.prog 36 #[.pointer none] w fun E W => E = .returned (.int .i64 1) ∧ Below w.heap.size w W := by
  go_enter Try.func36, Try.ntmps36
  go_wp2
  go_ret
  exact ⟨rfl, Below.refl _ _⟩

theorem nb_300 : nb 300 = [172, 2] := by
  rw [nb_big (by omega), nb_small (by omega)]
  rfl
theorem rd_bad : sR [128, 0] 0 top = (0, [128, 0], 5) := by
  have e : rdN [128, 0] = (0, 0, 5) := by
    have E : ld [128, 0] = 1 := by simp [ld]
    unfold rdN
    rw [E]
    rw [if_neg (by simp), if_pos (by simp [List.getD])]
  unfold sR
  rw [if_neg (by simp), e]
  rfl

set_option maxRecDepth 100000 in
theorem known_own (w : World) : Calls Try.prog 10 #[] w fun E W => E = .returned (.bool true) ∧ Below w.heap.size w W := by
  have N := Lib.hid (wnat_any w.heap.size (.slice none 0 0) [] 300 w ⟨World.ownsRow_nil _ _ _ _, Nat.le_refl _, by simp⟩ (by omega))
  rw [nb_300] at N
  go_enter Try.func10, Try.ntmps10
  go_wp2_with fail
  refine N.out.mono ?_; rintro e w1 ⟨v1, rfl, ho, hg⟩
  obtain ⟨A1, c1, rfl, hr⟩ := owns_rd ho
  have B1 := Lib.hid ((Below.refl w.heap.size w).grown hg (Nat.le_refl _) (fun k hk => by cases hk))
  obtain ⟨b, o, rfl, hc⟩ := hr.2 (by decide)
  have k0 := hc 0 (by decide)
  have k1 := hc 1 (by decide)
  have HR := Lib.hid hr
  simp only [List.nil_append, List.getD_cons_zero, List.getD_cons_succ, Nat.add_zero] at k0 k1
  clear ho hg hc hr N
  have QA := Lib.hid (B1.out.alloc B1.out.size (.cells #[.int .u8 128, .int .u8 0] 5))
  have R2 : RdB (w1.alloc (.cells #[.int .u8 128, .int .u8 0] 5)) (some ⟨w1.heap.size, 0, none⟩) 2 [128, 0] := ⟨rfl, fun _ => ⟨_, _, rfl, fun j hj => by
    match j, hj with
    | 0, _ => simp
    | 1, _ => simp⟩⟩
  have M := Lib.hid (newr_any (some ⟨w1.heap.size, 0, none⟩) 2 2 [128, 0] _ R2 (by decide) (fun h => by cases h))
  clear R2
  go_wp2_with fail
  refine M.out.mono ?_; rintro e w2 ⟨g, A, n, c, rfl, hq, -, hb, hgs⟩
  have hn : n = 2 := hq.r.1.symm
  subst hn
  have j0 := (hb.cell (p := ⟨b, o, none⟩) (by rw [size_alloc]; exact Nat.lt_succ_of_lt (World.block_lt_of_cell? w1 _ k0))).trans ((World.cell?_alloc_lt _ _ _ (World.block_lt_of_cell? w1 _ k0)).trans k0)
  have j1 := (hb.cell (p := ⟨b, o + 1, none⟩) (by rw [size_alloc]; exact Nat.lt_succ_of_lt (World.block_lt_of_cell? w1 _ k1))).trans ((World.cell?_alloc_lt _ _ _ (World.block_lt_of_cell? w1 _ k1)).trans k1)
  have B2 := Lib.hid (QA.out.trans (hb.mono QA.out.size))
  have HG := Lib.hid (Nat.le_trans QA.out.size hgs)
  have S := Lib.hid (nat_any g 2 c A [128, 0] 0 w2 hq (by intro x hx; simp at hx; omega) (by decide))
  rw [rd_bad] at S
  clear hb hgs M hq k0 k1
  go_wp2_with fail
  refine S.out.mono ?_; rintro e w3 ⟨rfl, ⟨A', n', c', hq, -⟩, hgr⟩
  have hn : n' = 2 := hq.r.1.symm
  subst hn
  have D := Lib.hid (done_any g 2 c' A' _ _ w3 hq (by decide))
  rw [if_neg (by decide)] at D
  have B3 := Lib.hid (B2.out.grown hgr B2.out.size (fun k hk => by cases hk; exact HG.out))
  clear hq hgr S
  go_wp2_with fail
  refine D.out.mono ?_; rintro e w4 ⟨rfl, rfl⟩
  go_wp2_with fail
  go_ret
  exact ⟨rfl, B3.out⟩

theorem writes : Writes where
  nat := fun base v bs k W h hk => wnat_any base v bs k W h hk
  int := fun base v bs k W h hk => wint_any base v bs k W h hk
  flag := fun base v bs k W h => wflag_any base v bs k W h
  text := fun base v bs A n c ts W h hr hn h0 _ => wtext_any base v bs A n c ts W h hr hn h0
  known := known_own

/-- A reader that stands on the blocks F. -/
def Wrd (W : World) (g : Nat) (F : Nat → Prop) (bs : List Int) (e : Int) : Prop :=
  ∃ A n c, Rq W g A n c bs e ∧ (∀ a, A = some a → F a.block) ∧ F g ∧ ∀ k, F k → k < W.heap.size
theorem wrd_did {w W : World} {g : Nat} {F : Nat → Prop} {A : Option Addr} {bs : List Int} {e : Int} (hA : ∀ a, A = some a → F a.block) (hg : F g) (hF : ∀ k, F k → k < w.heap.size) (h : Dd w g A bs e W) : Wrd W g F bs e ∧ w.grownBy W (some g) := by
  obtain ⟨⟨A', n, c, hq, hb⟩, hgr⟩ := h
  exact ⟨⟨A', n, c, hq, fun a' ha => by obtain ⟨a, h1, h2⟩ := hb a' ha; rw [h2]; exact hA a h1, hg, fun k hk => Nat.lt_of_lt_of_le (hF k hk) hgr.size⟩, hgr⟩
theorem below_of {W W' : World} (h : W = W') : Below W.heap.size W W' := by subst h; exact Below.refl _ _
def reads : Reads where
  Wr := Wrd
  keep := by
    rintro W W' g F bs e ⟨A, n, c, hq, hA, hg, hF⟩ hk
    have hs : ∀ k, F k → k < W'.heap.size := fun k h => by
      have e := hk k h
      rw [Array.getElem?_eq_getElem (hF k h)] at e
      exact (Array.getElem?_eq_some_iff.1 e).1
    refine ⟨A, n, c, ⟨(hk g hg).trans hq.b, ⟨hq.r.1, fun hn => ?_⟩, hq.nc⟩, hA, hg, hs⟩
    obtain ⟨b, o, e1, hc⟩ := hq.r.2 hn
    exact ⟨b, o, e1, fun j hj => (World.cell?_of_block (hk b (hA _ e1))).trans (hc j hj)⟩
  lt := by
    rintro W g F bs e ⟨A, n, c, hq, hA, hg, hF⟩
    exact ⟨hg, hF⟩
  make := fun A n c bs W hr hy hn h0 => (newr_any A n c bs W hr (by omega) h0).mono (by
    rintro E W' ⟨g, A', n', c', rfl, hq, hA, hb, hg⟩
    refine ⟨g, fun k => W.heap.size ≤ k ∧ k < W'.heap.size, rfl, ⟨A', n', c', hq, hA, ⟨hg, hq.lt⟩, fun k hk => hk.2⟩, hb, hg, fun k hk => .inl hk.1⟩)
  nat := by
    rintro W g F bs e ⟨A, n, c, hq, hA, hg, hF⟩ hy hl
    exact (nat_any g n c A bs e W hq hy (by have := hq.r.1; omega)).mono fun E W' h => ⟨h.1, wrd_did hA hg hF h.2⟩
  small := by
    rintro W g F bs e most ⟨A, n, c, hq, hA, hg, hF⟩ hy hl hm
    exact (small_any g n c A bs e most W hq hy (by have := hq.r.1; omega)).mono fun E W' h => ⟨h.1, wrd_did hA hg hF h.2⟩
  int := by
    rintro W g F bs e ⟨A, n, c, hq, hA, hg, hF⟩ hy hl
    exact (int_any g n c A bs e W hq hy (by have := hq.r.1; omega)).mono fun E W' h => ⟨h.1, wrd_did hA hg hF h.2⟩
  flag := by
    rintro W g F bs e ⟨A, n, c, hq, hA, hg, hF⟩ hy hl
    exact (flag_any g n c A bs e W hq hy (by have := hq.r.1; omega)).mono fun E W' h => ⟨h.1, wrd_did hA hg hF h.2⟩
  text := by
    rintro W g F bs e most ⟨A, n, c, hq, hA, hg, hF⟩ hy hl hm
    exact (text_any g n c A bs e most W hq hy (by have := hq.r.1; omega) hm).mono fun E W' h => by
      obtain ⟨v, h1, h2, h3⟩ := h
      exact ⟨v, h1, h2, wrd_did hA hg hF h3⟩
  fail := by
    rintro W g F bs e f ⟨A, n, c, hq, hA, hg, hF⟩
    exact (fail_any g n c A bs e f W hq).mono fun E W' h => ⟨h.1, wrd_did hA hg hF h.2⟩
  left := by
    rintro W g F bs e ⟨A, n, c, hq, hA, hg, hF⟩ hl
    exact (left_any g n c A bs e W hq).mono fun E W' h => ⟨h.1, below_of h.2⟩
  done := by
    rintro W g F bs e ⟨A, n, c, hq, hA, hg, hF⟩ hl
    exact (done_any g n c A bs e W hq (by have := hq.r.1; omega)).mono fun E W' h => ⟨h.1, below_of h.2⟩
  noFail := nil_fail
  noNat := nil_nat
  noSmall := fun W => nil_small W 9
  noInt := nil_int
  noFlag := nil_flag
  noText := fun W most _ => nil_text W most
  noLeft := nil_left
  noDone := nil_done
  known := known_own
end Go.Proofs.Ytehmheohojnpmaa
