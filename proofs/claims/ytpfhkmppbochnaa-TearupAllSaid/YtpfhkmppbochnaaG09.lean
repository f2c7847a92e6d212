/- Texts of a proof, laid together: PlainE, PlainF, Stm, Stn, Sti. -/
import Derived.Lib.Hide
import Derived.Test.YtpfhkmppbochnaaG07
import Derived.Test.YtpfhkmppbochnaaG05
import Derived.Test.YtpfhkmppbochnaaG08
import Derived.Test.YtpfhkmppbochnaaG01
/- Contract of the document's own split where nothing is divided: an error, or a total of 0. -/
namespace Go.Proofs.Ytpfhkmppbochnaa
open Go.RowKit Go.Sort

/-- What the split hands back with an error. -/
def Told (er : Int) (w W : World) (e : Ending) : Prop := e = .returned (.tuple #[.slice none 0 0, .int .i64 er]) ∧ Below w.heap.size w W

theorem refsplit_long (A : Option Addr) (n c : Nat) (T : Int) (w : World) (hn : 1000 < n) (hbig : n ≤ 9223372036854775807) :
    Calls Try.prog 15 #[.int .i64 T, .slice A n c] w fun e w' => Told 3 w w' e := by
  go_enter Try.func15, Try.ntmps15
  go_wp2_with fail
  go_ret2
  exact ⟨rfl, Below.refl _ _⟩

set_option maxHeartbeats 1000000 in
theorem refsplit_neg (A : Option Addr) (n c : Nat) (ws : List Int) (T : Int) (w : World) (h : Rd w A n ws) (hn : n ≤ 1000) (hg : Ng ws) :
    Calls Try.prog 15 #[.int .i64 T, .slice A n c] w fun e w' => Told 2 w w' e := by
  have H := Lib.hid h
  have HG := Lib.hid hg
  clear h hg
  go_enter Try.func15, Try.ntmps15
  go_wp2_with fail
  go_loop [6] (fun i => ∃ k : Nat, k ≤ n ∧ i = .int .i64 k ∧ ∀ t, t < k → 0 ≤ ws.getD t 0) (fun i => n - (intOf i).toNat)
  case atStart => exact ⟨0, Nat.zero_le _, rfl, fun t ht => absurd ht (Nat.not_lt_zero t)⟩
  case round =>
    obtain ⟨k, hk, rfl, hp⟩ := hrel
    have HP := Lib.hid hp
    clear hp
    by_cases hlt : k < n
    · obtain ⟨b, o, rfl, hc⟩ := H.out.2 (by omega)
      have hcell := hc k hlt
      clear hc
      obtain ⟨x, hx⟩ : ∃ x, ws.getD k 0 = x := ⟨_, rfl⟩
      rw [hx] at hcell
      have HX := Lib.hid hx
      clear hx
      by_cases hneg : x < 0
      · go_wp2
        go_ret2
        exact ⟨rfl, Below.refl _ _⟩
      · go_wp2
        go_round
        case rel => exact ⟨k + 1, hlt, by go_num, fun t ht => by
          rcases Nat.lt_succ_iff_lt_or_eq.1 ht with h1 | rfl
          · exact HP.out t h1
          · rw [HX.out]; omega⟩
        case measure => simp [intOf]; omega
    · exfalso
      obtain ⟨t, t1, t2⟩ := HG.out
      have := HP.out t (by rw [H.out.1] at t1; omega)
      omega

set_option maxHeartbeats 1000000 in
theorem refsplit_below (A : Option Addr) (n c : Nat) (ws : List Int) (T : Int) (w : World) (h : Rd w A n ws) (hn : n ≤ 1000) (hw : ∀ t, 0 ≤ ws.getD t 0) (hT : T < 0) :
    Calls Try.prog 15 #[.int .i64 T, .slice A n c] w fun e w' => Told 2 w w' e := by
  have H := Lib.hid h
  have HW := Lib.hid hw
  clear h hw
  go_enter Try.func15, Try.ntmps15
  go_wp2_with fail
  go_loop [6] (fun i => ∃ k : Nat, k ≤ n ∧ i = .int .i64 k) (fun i => n - (intOf i).toNat)
  case atStart => exact ⟨0, Nat.zero_le _, rfl⟩
  case round =>
    obtain ⟨k, hk, rfl⟩ := hrel
    by_cases hlt : k < n
    · obtain ⟨b, o, rfl, hc⟩ := H.out.2 (by omega)
      have hcell := hc k hlt
      clear hc
      have hw0 := HW.out k
      obtain ⟨x, hx⟩ : ∃ x, ws.getD k 0 = x := ⟨_, rfl⟩
      rw [hx] at hcell hw0
      have hx0 : decide (x < 0) = false := decide_eq_false (by omega)
      clear hx
      go_wp2
      go_round
      case rel => exact ⟨k + 1, hlt, by go_num⟩
      case measure => simp [intOf]; omega
    · obtain rfl : k = n := by omega
      go_wp2
      go_ret2
      exact ⟨rfl, Below.refl _ _⟩

set_option maxHeartbeats 1000000 in
theorem refsplit_over (A : Option Addr) (n c : Nat) (ws : List Int) (T : Int) (w : World) (h : Rd w A n ws) (hn : n ≤ 1000) (hr : ∀ n, n ∈ ws → I64 n) (hw : ∀ t, 0 ≤ ws.getD t 0) (hT : 0 ≤ T) (hs : ¬ I64 (sm ws)) :
    Calls Try.prog 15 #[.int .i64 T, .slice A n c] w fun e w' => Told 6 w w' e := by
  have H := Lib.hid h
  have HW := Lib.hid hw
  have S := Lib.hid (rsum_num A n c ws w h (by omega) hr)
  have HS := Lib.hid hs
  have hTn : decide (T < 0) = false := decide_eq_false (by omega)
  clear h hw hr hs
  go_enter Try.func15, Try.ntmps15
  go_wp2_with fail
  go_loop [6] (fun i => ∃ k : Nat, k ≤ n ∧ i = .int .i64 k) (fun i => n - (intOf i).toNat)
  case atStart => exact ⟨0, Nat.zero_le _, rfl⟩
  case round =>
    obtain ⟨k, hk, rfl⟩ := hrel
    by_cases hlt : k < n
    · obtain ⟨b, o, rfl, hc⟩ := H.out.2 (by omega)
      have hcell := hc k hlt
      clear hc
      have hw0 := HW.out k
      obtain ⟨x, hx⟩ : ∃ x, ws.getD k 0 = x := ⟨_, rfl⟩
      rw [hx] at hcell hw0
      have hx0 : decide (x < 0) = false := decide_eq_false (by omega)
      clear hx
      go_wp2
      go_round
      case rel => exact ⟨k + 1, hlt, by go_num⟩
      case measure => simp [intOf]; omega
    · obtain rfl : k = n := by omega
      go_wp2_with fail
      refine S.out.mono ?_; rintro e w1 ⟨⟨u, N, rfl, n0, n1, hN⟩, q1⟩
      have hbig : N < Rf.T 12 := by have := big12 k (by omega); omega
      have II := Lib.hid (fun W => int_any u N n0 hbig W)
      rw [hN, tN_out HS.out, tO_out HS.out] at II
      have R7 := Lib.hid ((Row.new w1 48 (nm false fun _ => 0)).whole (nm u (dgs N)))
      have Q7 := Lib.hid ((q1.alloc (nm false fun _ => 0) 48).setRow (Row.new w1 48 (nm false fun _ => 0)) q1.2.size (nm u (dgs N)))
      clear n0 n1 hN hbig
      go_wp2_with (first
        | ((with_reducible refine wl_store_nm w1.heap.size u false (dgs N) (fun _ => 0) ?_ ?_ ?_ ?_); rfl; rfl; exact Row.new w1 48 (nm false fun _ => 0))
        | ((with_reducible refine wl_load_nm w1.heap.size u (dgs N) ?_ ?_ ?_); rfl; exact R7.out)
        | (go_at_call 21; refine (II.out _).mono ?_; rintro e w2 ⟨rfl, q2⟩; have B2 := Lib.hid (Q7.out.2.trans (q2.2.mono Q7.out.2.size)); clear q2))
      go_ret2
      exact ⟨rfl, B2.out⟩

set_option maxHeartbeats 2000000 in
theorem refsplit_none (A : Option Addr) (n c : Nat) (ws : List Int) (T : Int) (w : World) (h : Rd w A n ws) (hn : n ≤ 1000) (hr : ∀ n, n ∈ ws → I64 n) (hw : ∀ t, 0 ≤ ws.getD t 0) (hT : 0 < T) (hT2 : T ≤ 9223372036854775807) (hs : sm ws = 0) :
    Calls Try.prog 15 #[.int .i64 T, .slice A n c] w fun e w' => Told 10 w w' e := by
  have H := Lib.hid h
  have HW := Lib.hid hw
  have S := Lib.hid (rsum_num A n c ws w h (by omega) hr)
  have hTn : decide (T < 0) = false := decide_eq_false (by omega)
  have hT0 : decide (T = 0) = false := decide_eq_false (by omega)
  have hT0' : (T == 0) = false := by simp; omega
  rw [hs] at S
  clear h hw hr hs
  go_enter Try.func15, Try.ntmps15
  go_wp2_with fail
  go_loop [6] (fun i => ∃ k : Nat, k ≤ n ∧ i = .int .i64 k) (fun i => n - (intOf i).toNat)
  case atStart => exact ⟨0, Nat.zero_le _, rfl⟩
  case round =>
    obtain ⟨k, hk, rfl⟩ := hrel
    by_cases hlt : k < n
    · obtain ⟨b, o, rfl, hc⟩ := H.out.2 (by omega)
      have hcell := hc k hlt
      clear hc
      have hw0 := HW.out k
      obtain ⟨x, hx⟩ : ∃ x, ws.getD k 0 = x := ⟨_, rfl⟩
      rw [hx] at hcell hw0
      have hx0 : decide (x < 0) = false := decide_eq_false (by omega)
      clear hx
      go_wp2
      go_round
      case rel => exact ⟨k + 1, hlt, by go_num⟩
      case measure => simp [intOf]; omega
    · obtain rfl : k = n := by omega
      go_wp2_with fail
      refine S.out.mono ?_; rintro e w1 ⟨⟨u, N, rfl, n0, n1, hN⟩, q1⟩
      obtain rfl : N = 0 := by unfold sgn at hN; cases u <;> simp at hN <;> omega
      have II := Lib.hid (fun W => int_any u 0 (Int.le_refl 0) (by have := T12; omega) W)
      have ZZ := Lib.hid (fun W => zero_any u 0 (Int.le_refl 0) (by have := T12; omega) W)
      rw [hN, tN_in (by unfold I64; omega), tO_in (by unfold I64; omega)] at II
      rw [show decide ((0 : Int) = 0) = true from rfl] at ZZ
      have R7 := Lib.hid ((Row.new w1 48 (nm false fun _ => 0)).whole (nm u (dgs 0)))
      have Q7 := Lib.hid ((q1.alloc (nm false fun _ => 0) 48).setRow (Row.new w1 48 (nm false fun _ => 0)) q1.2.size (nm u (dgs 0)))
      clear n0 n1 hN
      go_wp2_with (first
        | ((with_reducible refine wl_store_nm w1.heap.size u false (dgs 0) (fun _ => 0) ?_ ?_ ?_ ?_); rfl; rfl; exact Row.new w1 48 (nm false fun _ => 0))
        | ((with_reducible refine wl_load_nm w1.heap.size u (dgs 0) ?_ ?_ ?_); rfl; exact R7.out)
        | (go_at_call 21; refine (II.out _).mono ?_; rintro e w2 ⟨rfl, q2⟩; have B2 := Lib.hid (Q7.out.2.trans (q2.2.mono Q7.out.2.size)); have R2 := Lib.hid (R7.out.below q2.2 R7.out.lt); clear q2))
      go_loopw [10, 11, 12, 13] (fun _ _ _ i wr => i = .int .i64 0 ∧ wr = w2) (fun _ _ _ _ _ => 0)
      case atStart => exact ⟨rfl, rfl⟩
      case round =>
        obtain ⟨rfl, rfl⟩ := hrel
        by_cases h0 : 0 < k
        · have h0' : (0 : Int) < k := by omega
          go_wp2_with (first
            | ((with_reducible refine wl_load_nm w1.heap.size u (dgs 0) ?_ ?_ ?_); rfl; exact R2.out)
            | (go_at_call 22; refine (ZZ.out _).mono ?_; rintro e w3 ⟨rfl, q3⟩; have B3 := Lib.hid (B2.out.trans (q3.2.mono B2.out.size)); clear q3))
          go_ret2
          exact ⟨rfl, B3.out⟩
        · obtain rfl : k = 0 := by omega
          go_wp2_with (first
            | ((with_reducible refine wl_load_nm_g w1.heap.size u (dgs 0) ?_ ?_ ?_ ?_); rfl; rfl; exact R2.out)
            | (go_at_call 22; refine (ZZ.out _).mono ?_; rintro e w3 ⟨rfl, q3⟩; have B3 := Lib.hid (B2.out.trans (q3.2.mono B2.out.size)); clear q3))
          go_ret2
          exact ⟨rfl, B3.out⟩
/-- What stands in memory while parts of 0 are gathered. -/
structure L1 (w : World) (B k : Nat) (vp : Value) (W : World) : Prop where
  o1 : W.ownsRow B 2 1 vp k ((List.replicate k (0 : Int)).map (Value.int .i64))
  hb : w.heap.size ≤ B
  h8 : B ≤ W.heap.size
  q : Below w.heap.size w W
theorem L1.more {w : World} {B k : Nat} {vp vp' : Value} {W W' : World} (h : L1 w B k vp W) (o : W'.ownsRow B 2 1 vp' (k + 1) ((List.replicate k (0 : Int)).map (Value.int .i64) ++ [.int .i64 0])) (hg : W.grownBy W' vp.ownBlock) : L1 w B (k + 1) vp' W' := by
  have h2 := h.h8
  have h3 := h.hb
  refine ⟨?_, h.hb, Nat.le_trans h2 hg.size, h.q.grown hg (by omega) fun i hi => by have := (h.o1.lt i hi).1; omega⟩
  rw [List.replicate_succ', List.map_append]
  exact o
theorem L1.alloc {w : World} {B k : Nat} {vp : Value} {W : World} (h : L1 w B k vp W) (o : Obj) : L1 w B k vp (W.alloc o) := ⟨h.o1.alloc o, h.hb, by have := h.h8; simp; omega, h.q.alloc (Nat.le_trans h.hb h.h8) o⟩

set_option maxHeartbeats 2000000 in
theorem refsplit_zero (A : Option Addr) (n c : Nat) (ws : List Int) (w : World) (h : Rd w A n ws) (hn : n ≤ 1000) (hr : ∀ n, n ∈ ws → I64 n) (hw : ∀ t, 0 ≤ ws.getD t 0) (hs : I64 (sm ws)) :
    Calls Try.prog 15 #[.int .i64 0, .slice A n c] w fun e w' => Gave n (List.replicate n 0) w w' e := by
  have H := Lib.hid h
  have HW := Lib.hid hw
  have S := Lib.hid (rsum_num A n c ws w h (by omega) hr)
  have HS := Lib.hid hs
  obtain ⟨i0, hi0, hz0, hz1, hz2⟩ := info_parts info_int
  clear h hw hr hs
  go_enter Try.func15, Try.ntmps15
  go_wp2_with fail
  go_loop [6] (fun i => ∃ k : Nat, k ≤ n ∧ i = .int .i64 k) (fun i => n - (intOf i).toNat)
  case atStart => exact ⟨0, Nat.zero_le _, rfl⟩
  case round =>
    obtain ⟨k, hk, rfl⟩ := hrel
    by_cases hlt : k < n
    · obtain ⟨b, o, rfl, hc⟩ := H.out.2 (by omega)
      have hcell := hc k hlt
      clear hc
      have hw0 := HW.out k
      obtain ⟨x, hx⟩ : ∃ x, ws.getD k 0 = x := ⟨_, rfl⟩
      rw [hx] at hcell hw0
      have hx0 : decide (x < 0) = false := decide_eq_false (by omega)
      clear hx
      go_wp2
      go_round
      case rel => exact ⟨k + 1, hlt, by go_num⟩
      case measure => simp [intOf]; omega
    · obtain rfl : k = n := by omega
      go_wp2_with fail
      refine S.out.mono ?_; rintro e w1 ⟨⟨u, N, rfl, n0, n1, hN⟩, q1⟩
      have hbig : N < Rf.T 12 := by have := big12 k (by omega); omega
      have II := Lib.hid (fun W => int_any u N n0 hbig W)
      rw [hN, tN_in HS.out, tO_in HS.out] at II
      have R7 := Lib.hid ((Row.new w1 48 (nm false fun _ => 0)).whole (nm u (dgs N)))
      have Q7 := Lib.hid ((q1.alloc (nm false fun _ => 0) 48).setRow (Row.new w1 48 (nm false fun _ => 0)) q1.2.size (nm u (dgs N)))
      clear n0 n1 hN hbig
      go_wp2_with (first
        | ((with_reducible refine wl_store_nm w1.heap.size u false (dgs N) (fun _ => 0) ?_ ?_ ?_ ?_); rfl; rfl; exact Row.new w1 48 (nm false fun _ => 0))
        | ((with_reducible refine wl_load_nm w1.heap.size u (dgs N) ?_ ?_ ?_); rfl; exact R7.out)
        | (go_at_call 21; refine (II.out _).mono ?_; rintro e w2 ⟨rfl, q2⟩; have B2 := Lib.hid (Q7.out.2.trans (q2.2.mono Q7.out.2.size)); clear q2))
      go_loopw [10, 12, 13] (fun x l i wr => ∃ j : Nat, j ≤ k ∧ i = .int .i64 j ∧ l = .int .i64 0 ∧ L1 w w2.heap.size j x wr) (fun _ _ i _ => k - (intOf i).toNat)
      case atStart => exact ⟨0, Nat.zero_le _, rfl, rfl, ⟨World.ownsRow_nil _ _ _ _, B2.out.size, Nat.le_refl _, B2.out⟩⟩
      case round =>
        obtain ⟨j, hj, rfl, rfl, L⟩ := hrel
        have KL := Lib.hid L
        have K1 := Lib.hid (L.alloc (.cells #[.int .i64 0] 2))
        clear L
        by_cases hlt : j < k
        · go_wp2_with (at_builtin; refine wpList_append_lies _ rfl (.tmp 54) (.tmp 55) 38 rfl w2.heap.size 2 i0 (.int .i64 0) 1 8 Try.underlying38 hi0 hz0 hz1 hz2 rfl (by decide) u10 j ((List.replicate j (0 : Int)).map (Value.int .i64)) rfl K1.out.o1 ⟨wr.heap.size, 0, none⟩ 1 1 [.int .i64 0] rfl rfl (World.news_of_block (cs := #[.int .i64 0]) (heap_alloc_new wr _)) (by simp [Value.oneCell']) (by decide) (by unfold maxLen; omega) (by omega) K1.out.h8 _ rfl ?_; intro gp cp w6 hown6 hgrow6 _ _; have K6 := Lib.hid (K1.out.more hown6 hgrow6); clear hown6 hgrow6)
          go_roundw
          case rel => exact ⟨j + 1, hlt, by go_num, rfl, K6.out⟩
          case measure => simp [intOf]; omega
        · obtain rfl : j = k := by omega
          obtain ⟨A', c', rfl, hrd⟩ := rd_own KL.out.o1 (List.length_replicate ..)
          have HR := Lib.hid hrd
          have FR : Hid (∀ a, A' = some a → w.heap.size ≤ a.block) := Lib.hid fun a e => by
            have h1 := (KL.out.o1.lt a.block (by rw [e]; rfl)).1
            have h2 := KL.out.hb
            omega
          clear hrd K1 hi0 hz0 hz1 hz2
          go_wp2_with fail
          go_loopw [12] (fun l wx => l = .int .i64 0 ∧ Rd wx A' j (List.replicate j 0) ∧ Below w.heap.size w wx) (fun _ _ => 0)
          case atStart => exact ⟨rfl, HR.out, KL.out.q⟩
          case round =>
            obtain ⟨rfl, k1, k2⟩ := hrel
            have HX := Lib.hid (And.intro k1 k2)
            clear k1 k2
            go_wp2
            go_ret2
            exact ⟨A', c', rfl, HX.out.1, HX.out.2, FR.out⟩

/-- What the document's split hands back. -/
def PartedR (T : Int) (ws : List Int) (b : Bool) (g : Nat → Int) (w W : World) (e : Ending) : Prop :=
  ∃ A n c zs, e = .returned (.tuple #[.slice A n c, .int .i64 (se T ws b)]) ∧ Rd W A n zs ∧ (se T ws b = 0 → zs = pt T ws g) ∧ (se T ws b ≠ 0 → A = none ∧ zs = []) ∧ Below w.heap.size w W ∧ ∀ a, A = some a → w.heap.size ≤ a.block
theorem Told.parted {T : Int} {ws : List Int} {b : Bool} {g : Nat → Int} {w W : World} {e : Ending} {er : Int} (h : Told er w W e) (he : se T ws b = er) (h0 : er ≠ 0) : PartedR T ws b g w W e :=
  ⟨none, 0, 0, [], by rw [he]; exact h.1, none_rd W, fun c => absurd (he.symm.trans c) h0, fun _ => ⟨rfl, rfl⟩, h.2, fun a e => by cases e⟩
theorem Gave.parted {T : Int} {ws : List Int} {b : Bool} {g : Nat → Int} {w W : World} {e : Ending} {n : Nat} {zs : List Int} (h : Gave n zs w W e) (he : se T ws b = 0) (hz : zs = pt T ws g) : PartedR T ws b g w W e := by
  obtain ⟨A', c', e1, e2, e3, e4⟩ := h
  exact ⟨A', n, c', zs, by rw [he]; exact e1, e2, fun _ => hz, fun c => absurd he c, e3, e4⟩
end Go.Proofs.Ytpfhkmppbochnaa
/- Contract of the document's own split: the same parts as the program's, or the same error; and the walk of the statement FixnumSplits. -/
namespace Go.Proofs.Ytpfhkmppbochnaa
open Go.RowKit Go.Sort

theorem refsplit_any (A : Option Addr) (n c : Nat) (ws : List Int) (T : Int) (g : Nat → Int) (w : World) (h : Rd w A n ws) (hr : ∀ n, n ∈ ws → I64 n) (hT : I64 T) (hbig : n ≤ 9223372036854775807) (b : Bool) (hb : b = true ↔ Ng ws)
    (hg : se T ws b = 0 → 0 < T → Sp.Ok T (sm ws) ws ∧ St.Rn (Sp.ky T (sm ws) ws) g 0 ws.length) :
    Calls Try.prog 15 #[.int .i64 T, .slice A n c] w fun e w' => PartedR T ws b g w w' e := by
  have hl := h.1
  by_cases c1 : 1000 < n
  · exact (refsplit_long A n c T w c1 hbig).mono fun e w' k => k.parted (by unfold se; rw [if_pos (by omega)]) (by decide)
  have E1 : ∀ x y : Int, (if 1000 < ws.length then x else y) = y := fun x y => if_neg (by omega)
  cases b with
  | true =>
    refine (refsplit_neg A n c ws T w h (by omega) (hb.1 rfl)).mono fun e w' k => k.parted ?_ (by decide)
    unfold se
    rw [E1]
    split
    · rfl
    · rfl
  | false =>
    have hw : ∀ t, 0 ≤ ws.getD t 0 := fun t => by
      by_cases ht : t < ws.length
      · refine Classical.byContradiction fun c => ?_
        have := hb.2 ⟨t, ht, by omega⟩
        cases this
      · have : ws.getD t 0 = 0 := by simp [List.getD, Nat.le_of_not_lt ht]
        omega
    by_cases c2 : T < 0
    · exact (refsplit_below A n c ws T w h (by omega) hw c2).mono fun e w' k => k.parted (by unfold se; rw [E1, if_pos c2]) (by decide)
    have E2 : ∀ x y : Int, (if T < 0 then x else y) = y := fun x y => if_neg c2
    by_cases c3 : I64 (sm ws)
    case neg =>
      exact (refsplit_over A n c ws T w h (by omega) hr hw (by omega) c3).mono fun e w' k => k.parted (by unfold se; rw [E1, E2, tE_out c3]; simp) (by decide)
    case pos =>
    have E3 : se T ws false = if T = 0 then 0 else if sm ws = 0 then 10 else 0 := by unfold se; rw [E1, E2, tE_in c3]; simp
    by_cases c4 : T = 0
    · subst c4
      exact (refsplit_zero A n c ws w h (by omega) hr hw c3).mono fun e w' k => k.parted (by rw [E3, if_pos rfl]) (by rw [pt_zero, hl])
    rw [if_neg c4] at E3
    by_cases c5 : sm ws = 0
    · exact (refsplit_none A n c ws T w h (by omega) hr hw (by omega) (by unfold I64 at hT; omega) c5).mono fun e w' k => k.parted (by rw [E3, if_pos c5]) (by decide)
    · rw [if_neg c5] at E3
      exact (refsplit_main A n c ws T g w h (by omega) (hg E3 (by omega))).mono fun e w' k => k.parted E3 rfl




















































































































































end Go.Proofs.Ytpfhkmppbochnaa
/- Plain arithmetic on cuts, no program: the parts of a total by weights, place by place in a list; weights of 0 are nothing to the others. -/
namespace Go.Proofs.Ytpfhkmppbochnaa
set_option linter.unusedVariables false
namespace Cut
variable {T S E : Int}

/-- How many come ahead of x, which stands behind a and before b: of the greater rest, of two alike the earlier one. -/
def rk (T S : Int) (a : List Int) (x : Int) (b : List Int) : Nat := a.countP (fun y => decide (T * x % S ≤ T * y % S)) + b.countP (fun y => decide (T * x % S < T * y % S))
/-- The part of x. -/
def one (T S E : Int) (a : List Int) (x : Int) (b : List Int) : Int := T * x / S + if (rk T S a x b : Int) < E then 1 else 0
/-- The parts of what stands behind a. -/
def go (T S E : Int) : List Int → List Int → List Int
  | _, [] => []
  | a, x :: b => one T S E a x b :: go T S E (a ++ [x]) b
theorem go_len (a b : List Int) : (go T S E a b).length = b.length := by
  induction b generalizing a with
  | nil => rfl
  | cons x b ih => rw [go, List.length_cons, List.length_cons, ih]
theorem go_at (a b : List Int) (t : Nat) (ht : t < b.length) : (go T S E a b)[t]? = some (one T S E (a ++ b.take t) (b.getD t 0) (b.drop (t + 1))) := by
  induction b generalizing a t with
  | nil => exact absurd ht (Nat.not_lt_zero _)
  | cons x b ih =>
    cases t with
    | zero => simp [go]
    | succ t =>
      have := ih (a ++ [x]) t (by simpa using ht)
      rw [go, List.getElem?_cons_succ, this]
      simp
/-- Not 0. -/
def nz (x : Int) : Bool := decide (x ≠ 0)
theorem cnt_nz (a : List Int) (p : Int → Bool) (h : p 0 = false) : (a.filter nz).countP p = a.countP p := by
  induction a with
  | nil => rfl
  | cons x a ih =>
    by_cases e : x = 0
    · subst e
      rw [List.filter_cons_of_neg (by simp [nz]), List.countP_cons_of_neg (by simp [h]), ih]
    · rw [List.filter_cons_of_pos (by simp [nz, e])]
      by_cases c : p x = true
      · rw [List.countP_cons_of_pos c, List.countP_cons_of_pos c, ih]
      · rw [List.countP_cons_of_neg c, List.countP_cons_of_neg c, ih]
theorem rest0 : T * 0 % S = 0 := by rw [Int.mul_zero, Int.zero_emod]
/-- How many leave a rest. -/
def some' (T S : Int) (l : List Int) : Nat := l.countP (fun y => decide (0 < T * y % S))
theorem one_zero (hS : 0 < S) (a : List Int) (x : Int) (b : List Int) (hx : T * x % S = 0) (hE : E ≤ some' T S (a ++ x :: b)) : one T S E a x b = T * x / S := by
  have hr : (E : Int) ≤ rk T S a x b := by
    have h1 : some' T S (a ++ x :: b) = a.countP (fun y => decide (0 < T * y % S)) + b.countP (fun y => decide (0 < T * y % S)) := by
      unfold some'
      rw [List.countP_append, List.countP_cons_of_neg (by simp [hx])]
    have h2 : a.countP (fun y => decide (0 < T * y % S)) ≤ a.countP (fun y => decide (T * x % S ≤ T * y % S)) := List.countP_mono_left (fun y _ h => by
      rw [hx]
      exact decide_eq_true (Int.le_of_lt (of_decide_eq_true h)))
    have h3 : rk T S a x b = a.countP (fun y => decide (T * x % S ≤ T * y % S)) + b.countP (fun y => decide (0 < T * y % S)) := by unfold rk; rw [hx]
    rw [h1] at hE
    rw [h3]
    omega
  unfold one
  rw [if_neg (by omega), Int.add_zero]
theorem one_filter (hS : 0 < S) (a : List Int) (x : Int) (b : List Int) (hx : 0 < T * x % S) : one T S E (a.filter nz) x (b.filter nz) = one T S E a x b := by
  unfold one rk
  rw [cnt_nz a _ (by rw [rest0]; exact decide_eq_false (by omega)), cnt_nz b _ (by rw [rest0]; exact decide_eq_false (by omega))]
theorem some_filter (l : List Int) : some' T S (l.filter nz) = some' T S l := cnt_nz l _ (by rw [rest0]; rfl)
/-- The parts of all but the weights of 0: with 0 at these. -/
def back : List Int → List Int → List Int
  | [], _ => []
  | x :: l, cs => if nz x then cs.headD 0 :: back l cs.tail else 0 :: back l cs
theorem go_back (hS : 0 < S) (a b : List Int) (hE : E ≤ some' T S (a ++ b)) : go T S E a b = back b (go T S E (a.filter nz) (b.filter nz)) := by
  induction b generalizing a with
  | nil => rfl
  | cons x b ih =>
    have ih' := ih (a ++ [x]) (by rw [List.append_assoc]; exact hE)
    rw [go, ih']
    by_cases e : x = 0
    · subst e
      have hz : nz 0 = false := by simp [nz]
      rw [List.filter_append, List.filter_cons_of_neg (by simp [nz]), List.filter_nil, List.append_nil, List.filter_cons_of_neg (by simp [nz]), back, hz, one_zero hS a 0 b rest0 hE, Int.mul_zero, Int.zero_ediv]
      rfl
    · have hz : nz x = true := by simp [nz, e]
      rw [List.filter_append, List.filter_cons_of_pos hz, List.filter_nil, List.filter_cons_of_pos hz, go, back, if_pos hz, List.headD_cons, List.tail_cons]
      congr 1
      by_cases c : T * x % S = 0
      · rw [one_zero hS a x b c hE, one_zero hS (a.filter nz) x (b.filter nz) c]
        have := some_filter (T := T) (S := S) (a ++ x :: b)
        rw [List.filter_append, List.filter_cons_of_pos hz] at this
        rw [this]
        exact hE
      · have := Int.emod_nonneg (T * x) (show S ≠ 0 by omega)
        exact (one_filter hS a x b (by omega)).symm
end Cut
end Go.Proofs.Ytpfhkmppbochnaa
/- Plain arithmetic on cuts, no program: the parts that Split tells are the parts of a list, place by place. -/
namespace Go.Proofs.Ytpfhkmppbochnaa
open Go.RowKit Go.Sort
set_option linter.unusedVariables false

namespace Cut
instance (key : Int → Int) (x y : Int) : Decidable (St.lt key x y) := by unfold St.lt; infer_instance
variable {T : Int} {ws : List Int} {g : Nat → Int}
theorem cnt_su (l : List Int) (p : Int → Bool) : ∀ k, k ≤ l.length → ((l.take k).countP p : Int) = Sp.su (fun t => if p (l.getD t 0) = true then 1 else 0) k
  | 0, _ => by simp [Sp.su]
  | k + 1, hk => by
    have ih := cnt_su l p k (by omega)
    have e : l.take (k + 1) = l.take k ++ [l.getD k 0] := by
      rw [List.take_succ_eq_append_getElem (show k < l.length by omega)]
      simp [List.getD, List.getElem?_eq_getElem (show k < l.length by omega)]
    rw [e, List.countP_append, Sp.su, ← ih]
    by_cases c : p (l.getD k 0) = true
    · rw [if_pos c, List.countP_cons_of_pos c]; simp
    · rw [if_neg c, List.countP_cons_of_neg c]; simp
theorem cnt_all (l : List Int) (p : Int → Bool) : (l.countP p : Int) = Sp.su (fun t => if p (l.getD t 0) = true then 1 else 0) l.length := by
  have := cnt_su l p l.length (Nat.le_refl _)
  rwa [List.take_length] at this
theorem drop_su (l : List Int) (p : Int → Bool) {k : Nat} (hk : k ≤ l.length) : ((l.drop k).countP p : Int) = Sp.su (fun t => if p (l.getD t 0) = true then 1 else 0) l.length - Sp.su (fun t => if p (l.getD t 0) = true then 1 else 0) k := by
  have h1 := cnt_all l p
  have h2 := cnt_su l p k hk
  have h3 : l.countP p = (l.take k).countP p + (l.drop k).countP p := by rw [← List.countP_append, List.take_append_drop]
  omega
theorem su_tail {f h : Nat → Int} {m : Nat} : ∀ {n : Nat}, m ≤ n → (∀ s, m ≤ s → s < n → f s = h s) → Sp.su f n - Sp.su f m = Sp.su h n - Sp.su h m
  | 0, hm, _ => by obtain rfl : m = 0 := by omega
                   omega
  | n + 1, hm, e => by
    by_cases c : m = n + 1
    · subst c; omega
    · have ih := su_tail (n := n) (f := f) (h := h) (by omega) (fun s h1 h2 => e s h1 (by omega))
      have := e n (by omega) (by omega)
      simp only [Sp.su]
      omega
theorem lt_back (h : Al2 T ws g) {p q : Nat} (hp : p < ws.length) (hq : q < ws.length) : St.lt (Sp.ky T (sm ws) ws) (g q) (g p) ↔ q < p := by
  have so := h.2.1
  constructor
  · intro c
    rcases Nat.lt_trichotomy q p with k | k | k
    · exact k
    · subst k
      unfold St.lt at c
      omega
    · have := so p q (Nat.zero_le _) k hq
      unfold St.lt at c this
      omega
  · intro c
    exact so q p (Nat.zero_le _) c hp
theorem rk_at (h : Al2 T ws g) {p t : Nat} (hp : p < ws.length) (ht : g p = t) (hn : t < ws.length) : (rk T (sm ws) (ws.take t) (ws.getD t 0) (ws.drop (t + 1)) : Int) = p := by
  have hb : ∀ j, j < p → 0 ≤ g j ∧ g j < ws.length := fun j hj => by
    have := (h.2.2 (g j)).1 ⟨j, Nat.zero_le _, by omega, rfl⟩
    omega
  have e0 := Sp.su_hit hb
  have e1 : Sp.su (Sp.hit g p) ws.length = Sp.su (fun s => if St.lt (Sp.ky T (sm ws) ws) s t then 1 else 0) ws.length := Sp.su_eq fun s hs => by
    obtain ⟨q, hq, eq⟩ := h.place hs
    rw [h.hit (by omega) hq eq]
    have := lt_back h hp hq
    rw [eq, ht] at this
    by_cases c : q < p
    · rw [if_pos c, if_pos (this.2 c)]
    · rw [if_neg c, if_neg (fun k => c (this.1 k))]
  have e2 : Sp.su (fun s => if St.lt (Sp.ky T (sm ws) ws) s t then (1 : Int) else 0) t = ((ws.take t).countP (fun y => decide (T * ws.getD t 0 % sm ws ≤ T * y % sm ws)) : Int) := by
    rw [cnt_su ws _ t (by omega)]
    refine Sp.su_eq fun s hs => ?_
    have : St.lt (Sp.ky T (sm ws) ws) s t ↔ T * ws.getD t 0 % sm ws ≤ T * ws.getD s 0 % sm ws := by
      unfold St.lt Sp.ky Sp.rs
      simp only [Int.toNat_natCast]
      omega
    by_cases c : T * ws.getD t 0 % sm ws ≤ T * ws.getD s 0 % sm ws
    · rw [if_pos (this.2 c), if_pos (decide_eq_true c)]
    · rw [if_neg (fun k => c (this.1 k)), if_neg (by simpa using c)]
  have e3 : Sp.su (fun s => if St.lt (Sp.ky T (sm ws) ws) s t then (1 : Int) else 0) ws.length - Sp.su (fun s => if St.lt (Sp.ky T (sm ws) ws) s t then (1 : Int) else 0) (t + 1) = ((ws.drop (t + 1)).countP (fun y => decide (T * ws.getD t 0 % sm ws < T * y % sm ws)) : Int) := by
    rw [drop_su ws _ (by omega)]
    refine su_tail (by omega) fun s h1 h2 => ?_
    have : St.lt (Sp.ky T (sm ws) ws) s t ↔ T * ws.getD t 0 % sm ws < T * ws.getD s 0 % sm ws := by
      unfold St.lt Sp.ky Sp.rs
      simp only [Int.toNat_natCast]
      omega
    by_cases c : T * ws.getD t 0 % sm ws < T * ws.getD s 0 % sm ws
    · rw [if_pos (this.2 c), if_pos (decide_eq_true c)]
    · rw [if_neg (fun k => c (this.1 k)), if_neg (by simpa using c)]
  have e4 : Sp.su (fun s => if St.lt (Sp.ky T (sm ws) ws) s t then (1 : Int) else 0) (t + 1) = Sp.su (fun s => if St.lt (Sp.ky T (sm ws) ws) s t then (1 : Int) else 0) t := by
    rw [Sp.su, if_neg (fun c => by unfold St.lt at c; omega), Int.add_zero]
  unfold rk
  omega
/-- What is left behind the shares. -/
def ex (T : Int) (ws : List Int) : Int := T - Sp.su (Sp.sh T (sm ws) ws) ws.length
theorem pt_go (h : Al2 T ws g) : pt T ws g = go T (sm ws) (ex T ws) [] ws := by
  refine List.ext_getElem? fun t => ?_
  by_cases ht : t < ws.length
  · rw [go_at [] ws t ht, List.nil_append]
    have e : (pt T ws g)[t]? = some (pv T ws g t) := by
      rw [← pt_getD ht]
      rw [List.getD, List.getElem?_eq_getElem (by rw [pt_len]; exact ht)]
      rfl
    obtain ⟨p, hp, ep⟩ := h.place ht
    rw [e, h.pv hp ep]
    unfold one ex Sp.sh
    rw [rk_at h hp ep ht]
  · rw [List.getElem?_eq_none (by rw [pt_len]; omega), List.getElem?_eq_none (by rw [go_len]; omega)]
theorem ex_some (h : Al2 T ws g) : ex T ws ≤ some' T (sm ws) ws := by
  have l := h.left
  have few := h.1.few
  have hb : ∀ j, j < (ex T ws).toNat → 0 ≤ g j ∧ g j < ws.length := fun j hj => by
    have := (h.2.2 (g j)).1 ⟨j, Nat.zero_le _, by unfold ex at hj; omega, rfl⟩
    omega
  have e0 := Sp.su_hit hb
  have e1 : Sp.su (Sp.hit g (ex T ws).toNat) ws.length ≤ Sp.su (fun t => if decide (0 < T * ws.getD t 0 % sm ws) = true then 1 else 0) ws.length := Sp.su_le fun t ht => by
    obtain ⟨p, hp, ep⟩ := h.place ht
    rw [h.hit (by unfold ex; omega) hp ep]
    by_cases c : p < (ex T ws).toNat
    · have : 0 < T * ws.getD t 0 % sm ws := h.rest hp ep (by unfold ex at c; omega)
      rw [if_pos c, if_pos (decide_eq_true this)]
      exact Int.le_refl _
    · rw [if_neg c]
      split <;> omega
  unfold some'
  rw [cnt_all ws (fun y => decide (0 < T * y % sm ws))]
  unfold ex at *
  omega
end Cut
end Go.Proofs.Ytpfhkmppbochnaa
/- Plain arithmetic on rows of numbers, no program: the places below n stand in some order, of whatever key. -/
namespace Go.Proofs.Ytpfhkmppbochnaa
namespace St
variable {key : Int → Int}
theorem spot (f : Nat → Int) (m : Nat) (hd : ∀ j, j < m → lt key (f j) (f m) ∨ lt key (f m) (f j)) : ∀ j, j ≤ m → ∃ i, i ≤ j ∧ (0 < i → lt key (f (i - 1)) (f m)) ∧ (i < j → lt key (f m) (f i))
  | 0, _ => ⟨0, Nat.le_refl _, fun h => absurd h (Nat.lt_irrefl _), fun h => absurd h (Nat.lt_irrefl _)⟩
  | j + 1, hj => by
    obtain ⟨i, h1, h2, h3⟩ := spot f m hd j (by omega)
    by_cases c : i < j
    · exact ⟨i, by omega, h2, fun _ => h3 c⟩
    · obtain rfl : i = j := by omega
      rcases hd i (by omega) with k | k
      · exact ⟨i + 1, Nat.le_refl _, fun _ => by simpa using k, fun h => absurd h (Nat.lt_irrefl _)⟩
      · exact ⟨i, by omega, h2, fun _ => k⟩
theorem rn_some (key : Int → Int) : ∀ n : Nat, ∃ g : Nat → Int, Rn key g 0 n
  | 0 => ⟨fun _ => 0, fun p q _ h1 h2 => absurd h2 (Nat.not_lt_zero _), fun v => ⟨fun ⟨k, _, h, _⟩ => absurd h (Nat.not_lt_zero _), fun h => by omega⟩⟩
  | n + 1 => by
    obtain ⟨g, so, im⟩ := rn_some key n
    let f : Nat → Int := fun k => if k < n then g k else n
    have fl : ∀ k, k < n → f k = g k := fun k hk => if_pos hk
    have fn : f n = n := if_neg (Nat.lt_irrefl _)
    have bd : ∀ j, j < n → 0 ≤ f j ∧ f j < n := fun j hj => by
      have := (im (g j)).1 ⟨j, Nat.zero_le _, hj, rfl⟩
      rw [fl j hj]; omega
    have sf : So key f 0 n := so.like fun k _ hk => fl k hk
    have hd : ∀ j, j < n → lt key (f j) (f n) ∨ lt key (f n) (f j) := fun j hj => by
      have := bd j hj
      rw [fn]
      unfold lt
      omega
    obtain ⟨i, h1, h2, h3⟩ := spot f n hd n (Nat.le_refl _)
    have M := last_in (key := key) (f := f) (a := 0) (i := i) (m := n) (Nat.zero_le _) h1 h2 h3 sf
    have I : ∀ v, Im f 0 (n + 1) v ↔ ((0 : Nat) : Int) ≤ v ∧ v < ((n + 1 : Nat) : Int) := fun v => by
      constructor
      · rintro ⟨k, _, hk, rfl⟩
        by_cases c : k < n
        · have := bd k c; omega
        · obtain rfl : k = n := by omega
          rw [fn]; omega
      · intro hv
        by_cases c : v < n
        · obtain ⟨k, _, hk, e⟩ := (im v).2 ⟨by omega, c⟩
          exact ⟨k, Nat.zero_le _, by omega, by rw [fl k hk]; exact e⟩
        · exact ⟨n, Nat.zero_le _, by omega, by rw [fn]; omega⟩
    exact ⟨_, M.2.2, fun v => (M.2.1 v).trans (I v)⟩
end St
end Go.Proofs.Ytpfhkmppbochnaa
