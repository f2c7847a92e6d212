/- Contract of the document's own split where nothing is divided: an error, or a total of 0. -/
import Derived.Test.YtgjaknfphokjpaaPlainC
import Derived.Test.YtgjaknfphokjpaaAllB
namespace Go.Proofs.Ytgjaknfphokjpaa
open Go.RowKit Go.Sort

/-- What the split hands back with an error. -/
def Told (er : Int) (w W : World) (e : Ending) : Prop := e = .returned (.tuple #[.slice none 0 0, .int .i64 er]) ∧ Below w.heap.size w W

theorem refsplit_long (A : Option Addr) (n c : Nat) (T : Int) (w : World) (hn : 1000 < n) (hbig : n ≤ 9223372036854775807) :
    Calls Try.prog 28 #[.int .i64 T, .slice A n c] w fun e w' => Told 3 w w' e := by
  go_enter Try.func28, Try.ntmps28
  go_wp2_with fail
  go_ret2
  exact ⟨rfl, Below.refl _ _⟩

set_option maxHeartbeats 1000000 in
theorem refsplit_neg (A : Option Addr) (n c : Nat) (ws : List Int) (T : Int) (w : World) (h : Rd w A n ws) (hn : n ≤ 1000) (hg : Ng ws) :
    Calls Try.prog 28 #[.int .i64 T, .slice A n c] w fun e w' => Told 2 w w' e := by
  have H := Lib.hid h
  have HG := Lib.hid hg
  clear h hg
  go_enter Try.func28, Try.ntmps28
  go_wp2_with fail
  go_loop [6] (fun i => ∃ k : Nat, k ≤ n ∧ i = .int .i64 k ∧ ∀ t, t < k → 0 ≤ ws.getD t 0) (fun i => n - (intOf i).toNat)
  case atStart => exact ⟨0, Nat.zero_le _, rfl, fun t ht => absurd ht (Nat.not_lt_zero t)⟩
  case round =>
    obtain ⟨k, hk, rfl, hp⟩ := hrel
    have HP := Lib.hid hp
    clear hp
    by_cases hlt : k < n
    · obtain ⟨b, o, rfl, hc⟩ := H.out.2 (by omega)
      have hcell := hc k hlt
      clear hc
      obtain ⟨x, hx⟩ : ∃ x, ws.getD k 0 = x := ⟨_, rfl⟩
      rw [hx] at hcell
      have HX := Lib.hid hx
      clear hx
      by_cases hneg : x < 0
      · go_wp2
        go_ret2
        exact ⟨rfl, Below.refl _ _⟩
      · go_wp2
        go_round
        case rel => exact ⟨k + 1, hlt, by go_num, fun t ht => by
          rcases Nat.lt_succ_iff_lt_or_eq.1 ht with h1 | rfl
          · exact HP.out t h1
          · rw [HX.out]; omega⟩
        case measure => simp [intOf]; omega
    · exfalso
      obtain ⟨t, t1, t2⟩ := HG.out
      have := HP.out t (by rw [H.out.1] at t1; omega)
      omega

set_option maxHeartbeats 1000000 in
theorem refsplit_below (A : Option Addr) (n c : Nat) (ws : List Int) (T : Int) (w : World) (h : Rd w A n ws) (hn : n ≤ 1000) (hw : ∀ t, 0 ≤ ws.getD t 0) (hT : T < 0) :
    Calls Try.prog 28 #[.int .i64 T, .slice A n c] w fun e w' => Told 2 w w' e := by
  have H := Lib.hid h
  have HW := Lib.hid hw
  clear h hw
  go_enter Try.func28, Try.ntmps28
  go_wp2_with fail
  go_loop [6] (fun i => ∃ k : Nat, k ≤ n ∧ i = .int .i64 k) (fun i => n - (intOf i).toNat)
  case atStart => exact ⟨0, Nat.zero_le _, rfl⟩
  case round =>
    obtain ⟨k, hk, rfl⟩ := hrel
    by_cases hlt : k < n
    · obtain ⟨b, o, rfl, hc⟩ := H.out.2 (by omega)
      have hcell := hc k hlt
      clear hc
      have hw0 := HW.out k
      obtain ⟨x, hx⟩ : ∃ x, ws.getD k 0 = x := ⟨_, rfl⟩
      rw [hx] at hcell hw0
      have hx0 : decide (x < 0) = false := decide_eq_false (by omega)
      clear hx
      go_wp2
      go_round
      case rel => exact ⟨k + 1, hlt, by go_num⟩
      case measure => simp [intOf]; omega
    · obtain rfl : k = n := by omega
      go_wp2
      go_ret2
      exact ⟨rfl, Below.refl _ _⟩

set_option maxHeartbeats 1000000 in
theorem refsplit_over (A : Option Addr) (n c : Nat) (ws : List Int) (T : Int) (w : World) (h : Rd w A n ws) (hn : n ≤ 1000) (hr : ∀ n, n ∈ ws → I64 n) (hw : ∀ t, 0 ≤ ws.getD t 0) (hT : 0 ≤ T) (hs : ¬ I64 (sm ws)) :
    Calls Try.prog 28 #[.int .i64 T, .slice A n c] w fun e w' => Told 6 w w' e := by
  have H := Lib.hid h
  have HW := Lib.hid hw
  have S := Lib.hid (rsum_num A n c ws w h (by omega) hr)
  have HS := Lib.hid hs
  have hTn : decide (T < 0) = false := decide_eq_false (by omega)
  clear h hw hr hs
  go_enter Try.func28, Try.ntmps28
  go_wp2_with fail
  go_loop [6] (fun i => ∃ k : Nat, k ≤ n ∧ i = .int .i64 k) (fun i => n - (intOf i).toNat)
  case atStart => exact ⟨0, Nat.zero_le _, rfl⟩
  case round =>
    obtain ⟨k, hk, rfl⟩ := hrel
    by_cases hlt : k < n
    · obtain ⟨b, o, rfl, hc⟩ := H.out.2 (by omega)
      have hcell := hc k hlt
      clear hc
      have hw0 := HW.out k
      obtain ⟨x, hx⟩ : ∃ x, ws.getD k 0 = x := ⟨_, rfl⟩
      rw [hx] at hcell hw0
      have hx0 : decide (x < 0) = false := decide_eq_false (by omega)
      clear hx
      go_wp2
      go_round
      case rel => exact ⟨k + 1, hlt, by go_num⟩
      case measure => simp [intOf]; omega
    · obtain rfl : k = n := by omega
      go_wp2_with fail
      refine S.out.mono ?_; rintro e w1 ⟨⟨u, N, rfl, n0, n1, hN⟩, q1⟩
      have hbig : N < Rf.T 12 := by have := big12 k (by omega); omega
      have II := Lib.hid (fun W => int_any u N n0 hbig W)
      rw [hN, tN_out HS.out, tO_out HS.out] at II
      have R7 := Lib.hid ((Row.new w1 42 (nm false fun _ => 0)).whole (nm u (dgs N)))
      have Q7 := Lib.hid ((q1.alloc (nm false fun _ => 0) 42).setRow (Row.new w1 42 (nm false fun _ => 0)) q1.2.size (nm u (dgs N)))
      clear n0 n1 hN hbig
      go_wp2_with (first
        | ((with_reducible refine wl_store_nm w1.heap.size u false (dgs N) (fun _ => 0) ?_ ?_ ?_ ?_); rfl; rfl; exact Row.new w1 42 (nm false fun _ => 0))
        | ((with_reducible refine wl_load_nm w1.heap.size u (dgs N) ?_ ?_ ?_); rfl; exact R7.out)
        | (go_at_call 47; refine (II.out _).mono ?_; rintro e w2 ⟨rfl, q2⟩; have B2 := Lib.hid (Q7.out.2.trans (q2.2.mono Q7.out.2.size)); clear q2))
      go_ret2
      exact ⟨rfl, B2.out⟩

set_option maxHeartbeats 2000000 in
theorem refsplit_none (A : Option Addr) (n c : Nat) (ws : List Int) (T : Int) (w : World) (h : Rd w A n ws) (hn : n ≤ 1000) (hr : ∀ n, n ∈ ws → I64 n) (hw : ∀ t, 0 ≤ ws.getD t 0) (hT : 0 < T) (hT2 : T ≤ 9223372036854775807) (hs : sm ws = 0) :
    Calls Try.prog 28 #[.int .i64 T, .slice A n c] w fun e w' => Told 10 w w' e := by
  have H := Lib.hid h
  have HW := Lib.hid hw
  have S := Lib.hid (rsum_num A n c ws w h (by omega) hr)
  have hTn : decide (T < 0) = false := decide_eq_false (by omega)
  have hT0 : decide (T = 0) = false := decide_eq_false (by omega)
  have hT0' : (T == 0) = false := by simp; omega
  rw [hs] at S
  clear h hw hr hs
  go_enter Try.func28, Try.ntmps28
  go_wp2_with fail
  go_loop [6] (fun i => ∃ k : Nat, k ≤ n ∧ i = .int .i64 k) (fun i => n - (intOf i).toNat)
  case atStart => exact ⟨0, Nat.zero_le _, rfl⟩
  case round =>
    obtain ⟨k, hk, rfl⟩ := hrel
    by_cases hlt : k < n
    · obtain ⟨b, o, rfl, hc⟩ := H.out.2 (by omega)
      have hcell := hc k hlt
      clear hc
      have hw0 := HW.out k
      obtain ⟨x, hx⟩ : ∃ x, ws.getD k 0 = x := ⟨_, rfl⟩
      rw [hx] at hcell hw0
      have hx0 : decide (x < 0) = false := decide_eq_false (by omega)
      clear hx
      go_wp2
      go_round
      case rel => exact ⟨k + 1, hlt, by go_num⟩
      case measure => simp [intOf]; omega
    · obtain rfl : k = n := by omega
      go_wp2_with fail
      refine S.out.mono ?_; rintro e w1 ⟨⟨u, N, rfl, n0, n1, hN⟩, q1⟩
      obtain rfl : N = 0 := by unfold sgn at hN; cases u <;> simp at hN <;> omega
      have II := Lib.hid (fun W => int_any u 0 (Int.le_refl 0) (by have := T12; omega) W)
      have ZZ := Lib.hid (fun W => zero_any u 0 (Int.le_refl 0) (by have := T12; omega) W)
      rw [hN, tN_in (by unfold I64; omega), tO_in (by unfold I64; omega)] at II
      rw [show decide ((0 : Int) = 0) = true from rfl] at ZZ
      have R7 := Lib.hid ((Row.new w1 42 (nm false fun _ => 0)).whole (nm u (dgs 0)))
      have Q7 := Lib.hid ((q1.alloc (nm false fun _ => 0) 42).setRow (Row.new w1 42 (nm false fun _ => 0)) q1.2.size (nm u (dgs 0)))
      clear n0 n1 hN
      go_wp2_with (first
        | ((with_reducible refine wl_store_nm w1.heap.size u false (dgs 0) (fun _ => 0) ?_ ?_ ?_ ?_); rfl; rfl; exact Row.new w1 42 (nm false fun _ => 0))
        | ((with_reducible refine wl_load_nm w1.heap.size u (dgs 0) ?_ ?_ ?_); rfl; exact R7.out)
        | (go_at_call 47; refine (II.out _).mono ?_; rintro e w2 ⟨rfl, q2⟩; have B2 := Lib.hid (Q7.out.2.trans (q2.2.mono Q7.out.2.size)); have R2 := Lib.hid (R7.out.below q2.2 R7.out.lt); clear q2))
      go_loopw [10, 11, 12, 13] (fun _ _ _ i wr => i = .int .i64 0 ∧ wr = w2) (fun _ _ _ _ _ => 0)
      case atStart => exact ⟨rfl, rfl⟩
      case round =>
        obtain ⟨rfl, rfl⟩ := hrel
        by_cases h0 : 0 < k
        · have h0' : (0 : Int) < k := by omega
          go_wp2_with (first
            | ((with_reducible refine wl_load_nm w1.heap.size u (dgs 0) ?_ ?_ ?_); rfl; exact R2.out)
            | (go_at_call 48; refine (ZZ.out _).mono ?_; rintro e w3 ⟨rfl, q3⟩; have B3 := Lib.hid (B2.out.trans (q3.2.mono B2.out.size)); clear q3))
          go_ret2
          exact ⟨rfl, B3.out⟩
        · obtain rfl : k = 0 := by omega
          go_wp2_with (first
            | ((with_reducible refine wl_load_nm_g w1.heap.size u (dgs 0) ?_ ?_ ?_ ?_); rfl; rfl; exact R2.out)
            | (go_at_call 48; refine (ZZ.out _).mono ?_; rintro e w3 ⟨rfl, q3⟩; have B3 := Lib.hid (B2.out.trans (q3.2.mono B2.out.size)); clear q3))
          go_ret2
          exact ⟨rfl, B3.out⟩
/-- What stands in memory while parts of 0 are gathered. -/
structure L1 (w : World) (B k : Nat) (vp : Value) (W : World) : Prop where
  o1 : W.ownsRow B 2 1 vp k ((List.replicate k (0 : Int)).map (Value.int .i64))
  hb : w.heap.size ≤ B
  h8 : B ≤ W.heap.size
  q : Below w.heap.size w W
theorem L1.more {w : World} {B k : Nat} {vp vp' : Value} {W W' : World} (h : L1 w B k vp W) (o : W'.ownsRow B 2 1 vp' (k + 1) ((List.replicate k (0 : Int)).map (Value.int .i64) ++ [.int .i64 0])) (hg : W.grownBy W' vp.ownBlock) : L1 w B (k + 1) vp' W' := by
  have h2 := h.h8
  have h3 := h.hb
  refine ⟨?_, h.hb, Nat.le_trans h2 hg.size, h.q.grown hg (by omega) fun i hi => by have := (h.o1.lt i hi).1; omega⟩
  rw [List.replicate_succ', List.map_append]
  exact o
theorem L1.alloc {w : World} {B k : Nat} {vp : Value} {W : World} (h : L1 w B k vp W) (o : Obj) : L1 w B k vp (W.alloc o) := ⟨h.o1.alloc o, h.hb, by have := h.h8; simp; omega, h.q.alloc (Nat.le_trans h.hb h.h8) o⟩

set_option maxHeartbeats 2000000 in
theorem refsplit_zero (A : Option Addr) (n c : Nat) (ws : List Int) (w : World) (h : Rd w A n ws) (hn : n ≤ 1000) (hr : ∀ n, n ∈ ws → I64 n) (hw : ∀ t, 0 ≤ ws.getD t 0) (hs : I64 (sm ws)) :
    Calls Try.prog 28 #[.int .i64 0, .slice A n c] w fun e w' => Gave n (List.replicate n 0) w w' e := by
  have H := Lib.hid h
  have HW := Lib.hid hw
  have S := Lib.hid (rsum_num A n c ws w h (by omega) hr)
  have HS := Lib.hid hs
  obtain ⟨i0, hi0, hz0, hz1, hz2⟩ := info_parts info_int
  clear h hw hr hs
  go_enter Try.func28, Try.ntmps28
  go_wp2_with fail
  go_loop [6] (fun i => ∃ k : Nat, k ≤ n ∧ i = .int .i64 k) (fun i => n - (intOf i).toNat)
  case atStart => exact ⟨0, Nat.zero_le _, rfl⟩
  case round =>
    obtain ⟨k, hk, rfl⟩ := hrel
    by_cases hlt : k < n
    · obtain ⟨b, o, rfl, hc⟩ := H.out.2 (by omega)
      have hcell := hc k hlt
      clear hc
      have hw0 := HW.out k
      obtain ⟨x, hx⟩ : ∃ x, ws.getD k 0 = x := ⟨_, rfl⟩
      rw [hx] at hcell hw0
      have hx0 : decide (x < 0) = false := decide_eq_false (by omega)
      clear hx
      go_wp2
      go_round
      case rel => exact ⟨k + 1, hlt, by go_num⟩
      case measure => simp [intOf]; omega
    · obtain rfl : k = n := by omega
      go_wp2_with fail
      refine S.out.mono ?_; rintro e w1 ⟨⟨u, N, rfl, n0, n1, hN⟩, q1⟩
      have hbig : N < Rf.T 12 := by have := big12 k (by omega); omega
      have II := Lib.hid (fun W => int_any u N n0 hbig W)
      rw [hN, tN_in HS.out, tO_in HS.out] at II
      have R7 := Lib.hid ((Row.new w1 42 (nm false fun _ => 0)).whole (nm u (dgs N)))
      have Q7 := Lib.hid ((q1.alloc (nm false fun _ => 0) 42).setRow (Row.new w1 42 (nm false fun _ => 0)) q1.2.size (nm u (dgs N)))
      clear n0 n1 hN hbig
      go_wp2_with (first
        | ((with_reducible refine wl_store_nm w1.heap.size u false (dgs N) (fun _ => 0) ?_ ?_ ?_ ?_); rfl; rfl; exact Row.new w1 42 (nm false fun _ => 0))
        | ((with_reducible refine wl_load_nm w1.heap.size u (dgs N) ?_ ?_ ?_); rfl; exact R7.out)
        | (go_at_call 47; refine (II.out _).mono ?_; rintro e w2 ⟨rfl, q2⟩; have B2 := Lib.hid (Q7.out.2.trans (q2.2.mono Q7.out.2.size)); clear q2))
      go_loopw [10, 12, 13] (fun x l i wr => ∃ j : Nat, j ≤ k ∧ i = .int .i64 j ∧ l = .int .i64 0 ∧ L1 w w2.heap.size j x wr) (fun _ _ i _ => k - (intOf i).toNat)
      case atStart => exact ⟨0, Nat.zero_le _, rfl, rfl, ⟨World.ownsRow_nil _ _ _ _, B2.out.size, Nat.le_refl _, B2.out⟩⟩
      case round =>
        obtain ⟨j, hj, rfl, rfl, L⟩ := hrel
        have KL := Lib.hid L
        have K1 := Lib.hid (L.alloc (.cells #[.int .i64 0] 2))
        clear L
        by_cases hlt : j < k
        · go_wp2_with (at_builtin; refine wpList_append_lies _ rfl (.tmp 54) (.tmp 55) 28 rfl w2.heap.size 2 i0 (.int .i64 0) 1 8 Try.underlying28 hi0 hz0 hz1 hz2 rfl (by decide) u10 j ((List.replicate j (0 : Int)).map (Value.int .i64)) rfl K1.out.o1 ⟨wr.heap.size, 0, none⟩ 1 1 [.int .i64 0] rfl rfl (World.news_of_block (cs := #[.int .i64 0]) (heap_alloc_new wr _)) (by simp [Value.oneCell']) (by decide) (by unfold maxLen; omega) (by omega) K1.out.h8 _ rfl ?_; intro gp cp w6 hown6 hgrow6 _ _; have K6 := Lib.hid (K1.out.more hown6 hgrow6); clear hown6 hgrow6)
          go_roundw
          case rel => exact ⟨j + 1, hlt, by go_num, rfl, K6.out⟩
          case measure => simp [intOf]; omega
        · obtain rfl : j = k := by omega
          obtain ⟨A', c', rfl, hrd⟩ := rd_own KL.out.o1 (List.length_replicate ..)
          have HR := Lib.hid hrd
          clear hrd K1 hi0 hz0 hz1 hz2
          go_wp2_with fail
          go_loopw [12] (fun l wx => l = .int .i64 0 ∧ Rd wx A' j (List.replicate j 0) ∧ Below w.heap.size w wx) (fun _ _ => 0)
          case atStart => exact ⟨rfl, HR.out, KL.out.q⟩
          case round =>
            obtain ⟨rfl, k1, k2⟩ := hrel
            have HX := Lib.hid (And.intro k1 k2)
            clear k1 k2
            go_wp2
            go_ret2
            exact ⟨A', c', rfl, HX.out.1, HX.out.2⟩

/-- What the document's split hands back. -/
def PartedR (T : Int) (ws : List Int) (b : Bool) (g : Nat → Int) (w W : World) (e : Ending) : Prop :=
  ∃ A n c zs, e = .returned (.tuple #[.slice A n c, .int .i64 (se T ws b)]) ∧ Rd W A n zs ∧ (se T ws b = 0 → zs = pt T ws g) ∧ (se T ws b ≠ 0 → A = none ∧ zs = []) ∧ Below w.heap.size w W
theorem Told.parted {T : Int} {ws : List Int} {b : Bool} {g : Nat → Int} {w W : World} {e : Ending} {er : Int} (h : Told er w W e) (he : se T ws b = er) (h0 : er ≠ 0) : PartedR T ws b g w W e :=
  ⟨none, 0, 0, [], by rw [he]; exact h.1, none_rd W, fun c => absurd (he.symm.trans c) h0, fun _ => ⟨rfl, rfl⟩, h.2⟩
theorem Gave.parted {T : Int} {ws : List Int} {b : Bool} {g : Nat → Int} {w W : World} {e : Ending} {n : Nat} {zs : List Int} (h : Gave n zs w W e) (he : se T ws b = 0) (hz : zs = pt T ws g) : PartedR T ws b g w W e := by
  obtain ⟨A', c', e1, e2, e3⟩ := h
  exact ⟨A', n, c', zs, by rw [he]; exact e1, e2, fun _ => hz, fun c => absurd he c, e3⟩
end Go.Proofs.Ytgjaknfphokjpaa
