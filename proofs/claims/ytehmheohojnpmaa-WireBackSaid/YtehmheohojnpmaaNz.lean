/- The walk of the statement WireBack. -/
import Derived.Test.YtehmheohojnpmaaNy
namespace Go.Proofs.Ytehmheohojnpmaa
open Go.RowKit

/-- The parts as they lie in memory: kind, number, text, by turns. -/
structure Parts (w : World) (A : Option Addr) (m : Nat) (kf nf : Nat → Int) (ta : Nat → Option Addr) (tn tc : Nat → Nat) (tf : Nat → List Int) : Prop where
  nb : ∀ j, j < m → -9223372036854775808 ≤ nf j ∧ nf j ≤ 9223372036854775807
  t : ∀ j, j < m → RdB w (ta j) (tn j) (tf j) ∧ By (tf j) ∧ (ta j = none → tn j = 0 ∧ tc j = 0) ∧ tn j ≤ 140737488351232
  c : 0 < m → ∃ b o, A = some ⟨b, o, none⟩ ∧ ∀ j, j < m → w.cell? ⟨b, o + j * 3, none⟩ = some (.int .i64 (kf j)) ∧ w.cell? ⟨b, o + j * 3 + 1, none⟩ = some (.int .i64 (nf j)) ∧ w.cell? ⟨b, o + j * 3 + 2, none⟩ = some (.slice (ta j) (tn j) (tc j))
theorem and_one (n : Int) : bits .and .i64 n 1 = n % 2 := by
  have h1 : (BitVec.ofInt 64 1).toNat = 2 ^ 1 - 1 := by decide
  have key : (BitVec.ofInt 64 n &&& BitVec.ofInt 64 1).toNat = (n % ((2 ^ 64 : Nat) : Int)).toNat % 2 ^ 1 := by
    rw [BitVec.toNat_and, BitVec.toNat_ofInt, h1, Nat.and_two_pow_sub_one_eq_mod]
  show IntKind.i64.wrap ((BitVec.ofInt 64 n &&& BitVec.ofInt 64 1).toNat : Nat) = n % 2
  rw [key, IntKind.wrap_i64]
  omega
/-- A part's form. -/
def fm (k n : Int) (t : List Int) : List Int :=
  if k = 1 then nb (IntKind.u64.wrap n).toNat else if k = 2 then ib n else if k = 3 then fb (decide (n % 2 = 1)) else tb t
theorem fm_by {k n : Int} {t : List Int} (h : By t) : By (fm k n t) := by
  unfold fm
  split
  · exact nb_by _
  · split
    · exact ib_by _
    · split
      · intro x hx
        unfold fb at hx
        split at hx <;> simp at hx <;> omega
      · exact tb_by h
theorem fm_len {k n : Int} {t : List Int} (hn : -9223372036854775808 ≤ n ∧ n ≤ 9223372036854775807) (h : t.length ≤ 100000) : (fm k n t).length ≤ 10 + t.length := by
  unfold fm
  split
  · have := nb_ten (n := (IntKind.u64.wrap n).toNat) (by have := wrap_u n; omega)
    omega
  · split
    · have := ib_ten hn
      omega
    · split
      · have := fb_ten (decide (n % 2 = 1))
        omega
      · unfold tb
        have := nb_ten (n := t.length) (by omega)
        rw [List.length_append]; omega
/-- The forms written ahead of a place, and those that are left from it. -/
def fw (f : Nat → List Int) : Nat → List Int
  | 0 => []
  | j + 1 => fw f j ++ f j
def fl (f : Nat → List Int) (j : Nat) : Nat → List Int
  | 0 => []
  | k + 1 => f j ++ fl f (j + 1) k
theorem fw_fl (f : Nat → List Int) : ∀ (k j : Nat), fw f (j + k) = fw f j ++ fl f j k
  | 0, j => by simp [fl]
  | k + 1, j => by
    have := fw_fl f k (j + 1)
    rw [show j + (k + 1) = j + 1 + k by omega, this]
    simp [fw, fl]
theorem fl_one (f : Nat → List Int) {j m : Nat} (h : j < m) : fl f j (m - j) = f j ++ fl f (j + 1) (m - (j + 1)) := by
  rw [show m - j = (m - (j + 1)) + 1 by omega]
  rfl
theorem fl_by (f : Nat → List Int) {m : Nat} (h : ∀ j, j < m → By (f j)) : ∀ (k j : Nat), j + k ≤ m → By (fl f j k)
  | 0, j, _ => fun x hx => by cases hx
  | k + 1, j, hk => fun x hx => by
    rcases List.mem_append.1 hx with c | c
    · exact h j (by omega) x c
    · exact fl_by f h k (j + 1) (by omega) x c
theorem fl_le (f : Nat → List Int) {j m : Nat} (h : j ≤ m) : (fl f j (m - j)).length ≤ (fw f m).length := by
  have := congrArg List.length (fw_fl f (m - j) j)
  rw [show j + (m - j) = m by omega, List.length_append] at this
  omega

set_option maxRecDepth 100000 in
set_option maxHeartbeats 16000000 in
theorem back_walk (A : Option Addr) (m d : Nat) (kf nf : Nat → Int) (ta : Nat → Option Addr) (tn tc : Nat → Nat) (tf : Nat → List Int) (w : World) (h : Parts w A m kf nf ta tn tc tf) (hm : m ≤ 300) :
    Calls Try.prog 5 #[.slice A m d] w fun e w' => e = .returned (.bool true) ∧ Below w.heap.size w w' := by
  have H := Lib.hid h
  obtain ⟨F, hFF⟩ : ∃ F : Nat → List Int, ∀ j, F j = fm (kf j) (nf j) (tf j) := ⟨_, fun _ => rfl⟩
  have HFF := Lib.hid hFF
  clear h hFF
  go_enter Try.func5, Try.ntmps5
  go_wp2_with fail
  go_loopw [3, 4, 5, 14] (fun cn v _ i wr => ∃ (j cnt : Nat), j ≤ m ∧ i = .int .i64 j ∧ cn = .int .i64 cnt ∧ cnt ≤ 100000 ∧ (fw F j).length ≤ 10 * j + cnt ∧ (∀ t, t < j → tn t ≤ 100000) ∧ Owns wr w.heap.size v (fw F j) ∧ Below w.heap.size w wr) (fun _ _ _ i _ => m - (intOf i).toNat)
  case atStart => exact ⟨0, 0, Nat.zero_le _, rfl, rfl, Nat.zero_le _, Nat.le_refl _, fun t ht => absurd ht (Nat.not_lt_zero t), ⟨World.ownsRow_nil _ _ _ _, Nat.le_refl _, Nat.zero_le _⟩, Below.refl _ _⟩
  case round =>
    obtain ⟨j, cnt, hj, rfl, rfl, hcnt, hlen, hall, hown, hB⟩ := hrel
    have HALL := Lib.hid hall
    clear hall
    have HB := Lib.hid hB
    have HO := Lib.hid hown
    clear hB hown
    by_cases hlt : j < m
    case pos =>
      obtain ⟨ab, ao, rfl, hcells⟩ := H.out.c (by omega)
      obtain ⟨hk0, hn0, ht0⟩ := hcells j hlt
      obtain ⟨htr, htb, htz, htm⟩ := H.out.t j hlt
      have hk1 := (HB.out.cell (p := ⟨ab, ao + j * 3, none⟩) (World.block_lt_of_cell? w _ hk0)).trans hk0
      have hn1 := (HB.out.cell (p := ⟨ab, ao + j * 3 + 1, none⟩) (World.block_lt_of_cell? w _ hn0)).trans hn0
      have ht1 := (HB.out.cell (p := ⟨ab, ao + j * 3 + 2, none⟩) (World.block_lt_of_cell? w _ ht0)).trans ht0
      have hbn := H.out.nb j hlt
      have htl := htr.1
      have RT := Lib.hid (htr.below HB.out)
      have TZ := Lib.hid htz
      obtain ⟨x, hx⟩ : ∃ x, kf j = x := ⟨_, rfl⟩
      obtain ⟨y, hyy⟩ : ∃ y, nf j = y := ⟨_, rfl⟩
      obtain ⟨N, hN⟩ : ∃ N, tn j = N := ⟨_, rfl⟩
      have HNJ := Lib.hid hN
      obtain ⟨TA, hTA⟩ : ∃ TA, ta j = TA := ⟨_, rfl⟩
      obtain ⟨TC, hTC⟩ : ∃ TC, tc j = TC := ⟨_, rfl⟩
      have hF : fw F (j + 1) = fw F j ++ fm x y (tf j) := by rw [← hx, ← hyy, ← HFF.out]; rfl
      have hfl := fun (c : N ≤ 100000) => fm_len (k := x) (n := y) (t := tf j) (by rw [← hyy]; exact hbn) (by omega)
      rw [hx] at hk1
      rw [hyy] at hn1 hbn
      rw [hN, hTA, hTC] at ht1 TZ
      rw [hN, hTA] at RT
      rw [hN] at htm htl
      clear hk0 hn0 ht0 hcells htr htb htz hx hyy hN hTA hTC
      by_cases hbig : 100000 < cnt + N
      · clear hF hfl hlen
        go_wp2_with fail
        refine (known_own _).mono ?_; rintro e0 w4 ⟨rfl, q⟩
        have QB := Lib.hid (HB.out.trans (q.mono HB.out.size))
        clear q
        go_wp2_with fail
        go_ret
        exact ⟨rfl, QB.out⟩
      have hfl := hfl (by omega)
      by_cases x1 : x = 1
      · subst x1
        obtain ⟨U, hu, hU⟩ : ∃ U : Nat, IntKind.u64.wrap y = U ∧ U < 18446744073709551616 := ⟨(IntKind.u64.wrap y).toNat, by have := wrap_u y; omega, by have := wrap_u y; omega⟩
        have HF := Lib.hid (show fw F (j + 1) = fw F j ++ nb U from hF.trans (by rw [show fm 1 y (tf j) = nb (IntKind.u64.wrap y).toNat from rfl, hu, Int.toNat_natCast]))
        have HLN := Lib.hid (show (fw F (j + 1)).length ≤ 10 * (j + 1) + (cnt + N) by rw [hF, List.length_append]; omega)
        have D := Lib.hid (wnat_any w.heap.size u4 (fw F j) U wr HO.out hU)
        clear hF hfl hlen
        go_wp2_with fail
        refine D.out.mono ?_; rintro e0 w3 ⟨v3, rfl, o3, g3⟩
        have B3 := Lib.hid (HB.out.grown g3 HB.out.size (fun k hk => (HO.out.1.lt k hk).1))
        rw [← HF.out] at o3
        have O3 := Lib.hid o3
        clear o3 g3 D
        go_wp2_with fail
        go_roundw
        case rel => exact ⟨j + 1, cnt + N, hlt, by go_num, by go_num, by omega, HLN.out, (fun t ht => by
          rcases Nat.lt_succ_iff_lt_or_eq.1 ht with h1 | rfl
          · exact HALL.out t h1
          · rw [HNJ.out]; omega), ⟨O3.out, B3.out.size, by have := HLN.out; omega⟩, B3.out⟩
        case measure => simp [intOf]; omega
      by_cases x2 : x = 2
      · subst x2
        clear x1
        have HF := Lib.hid (show fw F (j + 1) = fw F j ++ ib y from hF.trans (by rw [show fm 2 y (tf j) = ib y from rfl]))
        have HLN := Lib.hid (show (fw F (j + 1)).length ≤ 10 * (j + 1) + (cnt + N) by rw [hF, List.length_append]; omega)
        have D := Lib.hid (wint_any w.heap.size u4 (fw F j) y wr HO.out hbn)
        clear hF hfl hlen
        go_wp2_with fail
        refine D.out.mono ?_; rintro e0 w3 ⟨v3, rfl, o3, g3⟩
        have B3 := Lib.hid (HB.out.grown g3 HB.out.size (fun k hk => (HO.out.1.lt k hk).1))
        rw [← HF.out] at o3
        have O3 := Lib.hid o3
        clear o3 g3 D
        go_wp2_with fail
        go_roundw
        case rel => exact ⟨j + 1, cnt + N, hlt, by go_num, by go_num, by omega, HLN.out, (fun t ht => by
          rcases Nat.lt_succ_iff_lt_or_eq.1 ht with h1 | rfl
          · exact HALL.out t h1
          · rw [HNJ.out]; omega), ⟨O3.out, B3.out.size, by have := HLN.out; omega⟩, B3.out⟩
        case measure => simp [intOf]; omega
      by_cases x3 : x = 3
      · subst x3
        clear x1 x2
        obtain ⟨β, hβ⟩ : ∃ β, decide (y % 2 = 1) = β := ⟨_, rfl⟩
        have hβ2 : (bits .and .i64 y 1 == 1) = β := by rw [and_one]; exact hβ
        have hβ3 : decide (bits .and .i64 y 1 = 1) = β := by rw [and_one]; exact hβ
        have HF := Lib.hid (show fw F (j + 1) = fw F j ++ fb β from hF.trans (by rw [show fm 3 y (tf j) = fb (decide (y % 2 = 1)) from rfl, hβ]))
        have HLN := Lib.hid (show (fw F (j + 1)).length ≤ 10 * (j + 1) + (cnt + N) by rw [hF, List.length_append]; omega)
        have D := Lib.hid (wflag_any w.heap.size u4 (fw F j) β wr HO.out)
        clear hF hfl hlen
        go_wp2_with fail
        refine D.out.mono ?_; rintro e0 w3 ⟨v3, rfl, o3, g3⟩
        have B3 := Lib.hid (HB.out.grown g3 HB.out.size (fun k hk => (HO.out.1.lt k hk).1))
        rw [← HF.out] at o3
        have O3 := Lib.hid o3
        clear o3 g3 D
        go_wp2_with fail
        go_roundw
        case rel => exact ⟨j + 1, cnt + N, hlt, by go_num, by go_num, by omega, HLN.out, (fun t ht => by
          rcases Nat.lt_succ_iff_lt_or_eq.1 ht with h1 | rfl
          · exact HALL.out t h1
          · rw [HNJ.out]; omega), ⟨O3.out, B3.out.size, by have := HLN.out; omega⟩, B3.out⟩
        case measure => simp [intOf]; omega
      have z1 : decide (x = 1) = false := decide_eq_false x1
      have z2 : decide (x = 2) = false := decide_eq_false x2
      have z3 : decide (x = 3) = false := decide_eq_false x3
      have y1 : (x == 1) = false := by simpa using x1
      have y2 : (x == 2) = false := by simpa using x2
      have y3 : (x == 3) = false := by simpa using x3
      have HF := Lib.hid (show fw F (j + 1) = fw F j ++ tb (tf j) from hF.trans (by rw [show fm x y (tf j) = tb (tf j) from by unfold fm; rw [if_neg x1, if_neg x2, if_neg x3]]))
      have HLN := Lib.hid (show (fw F (j + 1)).length ≤ 10 * (j + 1) + (cnt + N) by rw [hF, List.length_append]; omega)
      have D := Lib.hid (wtext_any w.heap.size u4 (fw F j) TA N TC (tf j) wr HO.out RT.out (by omega) TZ.out)
      clear hF hfl hlen
      go_wp2_with fail
      refine D.out.mono ?_; rintro e0 w3 ⟨v3, rfl, o3, g3⟩
      have B3 := Lib.hid (HB.out.grown g3 HB.out.size (fun k hk => (HO.out.1.lt k hk).1))
      rw [← HF.out] at o3
      have O3 := Lib.hid o3
      clear o3 g3 D
      go_wp2_with fail
      go_roundw
      case rel => exact ⟨j + 1, cnt + N, hlt, by go_num, by go_num, by omega, HLN.out, (fun t ht => by
        rcases Nat.lt_succ_iff_lt_or_eq.1 ht with h1 | rfl
        · exact HALL.out t h1
        · rw [HNJ.out]; omega), ⟨O3.out, B3.out.size, by have := HLN.out; omega⟩, B3.out⟩
      case measure => simp [intOf]; omega
    case neg =>
      obtain rfl : j = m := by omega
      have hLE : (fw F j).length ≤ 103000 := by omega
      obtain ⟨A1, c1, rfl, hr1, h01⟩ := owns_pt HO.out.1
      have NR := Lib.hid (newr_any A1 _ c1 (fw F j) wr hr1 (by omega) h01)
      have HLE := Lib.hid hLE
      clear hr1 h01 hlen hLE
      go_wp2_with fail
      refine NR.out.mono ?_; rintro e w2 ⟨g, A2, k2, c2, rfl, hq, -, hb, hg⟩
      have BW := Lib.hid (HB.out.trans (hb.mono HB.out.size))
      have HG := Lib.hid (Nat.le_trans HB.out.size hg)
      have HQ := Lib.hid hq
      clear hq hb hg NR HO
      go_wp2_with fail
      go_loopw [7, 77] (fun _ i wq => ∃ (q : Nat), q ≤ j ∧ i = .int .i64 q ∧ (∃ A k c, Rq wq g A k c (fl F q (j - q)) 0) ∧ Below w.heap.size w wq) (fun _ i _ => j - (intOf i).toNat)
      case atStart =>
        refine ⟨0, Nat.zero_le _, rfl, ⟨A2, k2, c2, ?_⟩, BW.out⟩
        have e := fw_fl F j 0
        rw [Nat.zero_add, show fw F 0 = [] from rfl, List.nil_append] at e
        rw [Nat.sub_zero, ← e]
        exact HQ.out
      case round =>
        obtain ⟨q, hq, rfl, ⟨A6, k6, c6, hq6⟩, hB6⟩ := hrel
        have HBQ := Lib.hid hB6
        have HQ6 := Lib.hid hq6
        clear hB6 hq6
        by_cases hlt : q < j
        case neg =>
          obtain rfl : q = j := by omega
          have D1 := done_any g k6 c6 A6 _ 0 wr HQ6.out (by have := HQ6.out.r.1; rw [Nat.sub_self] at this; have e : (fl F q 0).length = 0 := rfl; omega)
          have D2 := left_any g k6 c6 A6 _ 0 wr HQ6.out
          rw [Nat.sub_self, show (fl F q 0) = [] from rfl] at D1 D2
          rw [if_neg (by simp)] at D1
          have E1 := Lib.hid D1
          have E2 := Lib.hid D2
          clear D1 D2
          go_wp2_with fail
          refine E1.out.mono ?_; rintro e0 w3 ⟨rfl, rfl⟩
          go_wp2_with fail
          refine E2.out.mono ?_; rintro e0 w3 ⟨rfl, rfl⟩
          go_wp2_with fail
          refine (known_own _).mono ?_; rintro e0 w4 ⟨rfl, qk⟩
          have QB := Lib.hid (HBQ.out.trans (qk.mono HBQ.out.size))
          clear qk
          go_wp2_with fail
          go_ret
          exact ⟨rfl, QB.out⟩
        case pos =>
          obtain ⟨ab, ao, rfl, hcells⟩ := H.out.c (by omega)
          obtain ⟨hk0, hn0, ht0⟩ := hcells q hlt
          obtain ⟨htr, htb, htz, htm⟩ := H.out.t q hlt
          have hk1 := (HBQ.out.cell (p := ⟨ab, ao + q * 3, none⟩) (World.block_lt_of_cell? w _ hk0)).trans hk0
          have hbn := H.out.nb q hlt
          have htl := htr.1
          have hF : F q = fm (kf q) (nf q) (tf q) := HFF.out q
          have hby : By (fl F q (j - q)) := fl_by F (fun i hi => by rw [HFF.out]; exact fm_by (H.out.t i hi).2.1) (j - q) q (by omega)
          have hle := fl_le F (Nat.le_of_lt hlt)
          have hlq := HQ6.out.r.1
          have hone := fl_one F hlt
          obtain ⟨x, hx⟩ : ∃ x, kf q = x := ⟨_, rfl⟩
          obtain ⟨y, hyy⟩ : ∃ y, nf q = y := ⟨_, rfl⟩
          obtain ⟨N, hN⟩ : ∃ N, tn q = N := ⟨_, rfl⟩
          obtain ⟨TA, hTA⟩ : ∃ TA, ta q = TA := ⟨_, rfl⟩
          obtain ⟨TC, hTC⟩ : ∃ TC, tc q = TC := ⟨_, rfl⟩
          obtain ⟨rest, hrest⟩ : ∃ rest, fl F (q + 1) (j - (q + 1)) = rest := ⟨_, rfl⟩
          have HRE := Lib.hid hrest
          rw [hrest] at hone
          rw [hone] at HQ6 hby hle hlq
          have hk6 : k6 ≤ 200000 := by have := HLE.out; omega
          have hqd := HQ6.out.below (Below.refl _ _).drew
          have C1 := fun (U : Nat) (hU : U < 18446744073709551616) (e : F q = nb U) => show Calls Try.prog 23 #[.pointer (some ⟨g, 0, none⟩)] wr.drew fun E W => E = .returned (.int .u64 (U : Int)) ∧ Dd wr.drew g A6 rest 0 W by
            have := nat_any g k6 c6 A6 (F q ++ rest) 0 wr.drew hqd hby hk6
            rw [e, s_nb hU rest] at this
            exact this
          have C2 := fun (hb : -9223372036854775808 ≤ y ∧ y ≤ 9223372036854775807) (e : F q = ib y) => show Calls Try.prog 27 #[.pointer (some ⟨g, 0, none⟩)] wr.drew fun E W => E = .returned (.int .i64 y) ∧ Dd wr.drew g A6 rest 0 W by
            have := int_any g k6 c6 A6 (F q ++ rest) 0 wr.drew hqd hby hk6
            rw [e, (s_ib hb rest).1, (s_ib hb rest).2] at this
            exact this
          have C3 := fun (β : Bool) (e : F q = fb β) => show Calls Try.prog 29 #[.pointer (some ⟨g, 0, none⟩)] wr.drew fun E W => E = .returned (.bool β) ∧ Dd wr.drew g A6 rest 0 W by
            have := flag_any g k6 c6 A6 (F q ++ rest) 0 wr.drew hqd hby hk6
            rw [e, f_fb β rest] at this
            exact this
          have C4 := fun (ht : (tf q).length ≤ 100000) (e : F q = tb (tf q)) => show Calls Try.prog 31 #[.pointer (some ⟨g, 0, none⟩), .int .i64 100000] wr.drew fun E W => ∃ A c, E = .returned (.slice A (tf q).length c) ∧ RdB W A (tf q).length (tf q) ∧ Dd wr.drew g A6 rest 0 W by
            have := text_any g k6 c6 A6 (F q ++ rest) 0 100000 wr.drew hqd hby hk6 (by decide)
            refine this.mono fun E W hT => ?_
            unfold TextD at hT
            rw [e, t_tb ht rest (by omega)] at hT
            obtain ⟨v, h1, h2, h3⟩ := hT
            obtain ⟨A, c, rfl, r⟩ := owns_rd h2
            exact ⟨A, c, h1, r, h3⟩
          rw [hx] at hk1
          rw [hx, hyy] at hF
          rw [hyy] at hn0 hbn
          rw [hN, hTA, hTC] at ht0
          rw [hN, hTA] at htr
          rw [hN] at htm htl
          have HTQ : Hid (N ≤ 100000) := Lib.hid (by rw [← hN]; exact HALL.out q hlt)
          have HN0 := Lib.hid hn0
          have HT0 := Lib.hid ht0
          have RT := Lib.hid htr
          have D1 := Lib.hid C1
          have D2 := Lib.hid C2
          have D3 := Lib.hid C3
          have D4 := Lib.hid C4
          have HFQ := Lib.hid hF
          clear hk0 hn0 ht0 hcells htr htb htz hx hyy hN hTA hTC hrest hone hby hle hlq hqd C1 C2 C3 C4 hF
          have htq : (tf q).length ≤ 100000 := by rw [htl]; exact HTQ.out
          by_cases x1 : x = 1
          · subst x1
            obtain ⟨U, hu, hU⟩ : ∃ U : Nat, IntKind.u64.wrap y = U ∧ U < 18446744073709551616 := ⟨(IntKind.u64.wrap y).toNat, by have := wrap_u y; omega, by have := wrap_u y; omega⟩
            have D := Lib.hid (D1.out U hU (by rw [HFQ.out, show fm 1 y (tf q) = nb (IntKind.u64.wrap y).toNat from rfl, hu, Int.toNat_natCast]))
            clear D1 D2 D3 D4
            go_wp2_with fail
            refine wp_region_held_drew (S := fun U => Below w.heap.size w U) (by kernel_rfl) HBQ.out.drew (fun hH => ?_)
            refine wpAnyH_take (i := 0) (v := .pointer (some ⟨g, 0, none⟩)) rfl (by kernel_rfl) (by kernel_rfl) (by kernel_rfl) (fun _ _ _ h => h) (.inl ⟨by rfl, ?_⟩) (by assumption) ?_
            · intro W hW; go_simp
            try simp only [List.getElem_toArray, List.getElem_cons_zero, Act.put, List.setIfInBounds_toArray, List.set_cons_zero, List.set_cons_succ]
            refine wpAnyH_take (i := 2) (v := .slice (some ⟨ab, ao, none⟩) j d) rfl (by kernel_rfl) (by kernel_rfl) (by kernel_rfl) (fun _ _ _ h => h) (.inl ⟨by rfl, ?_⟩) (by assumption) ?_
            · intro W hW; go_simp
            try simp only [List.getElem_toArray, List.getElem_cons_zero, List.getElem_cons_succ, Act.put, List.setIfInBounds_toArray, List.set_cons_zero, List.set_cons_succ]
            refine wpAnyH_take (i := 3) (v := .int .i64 q) rfl (by kernel_rfl) (by kernel_rfl) (by kernel_rfl) (fun _ _ _ h => h) (.inl ⟨by rfl, ?_⟩) (by assumption) ?_
            · intro W hW; go_simp
            try simp only [List.getElem_toArray, List.getElem_cons_zero, List.getElem_cons_succ, Act.put, List.setIfInBounds_toArray, List.set_cons_zero, List.set_cons_succ]
            refine wpAnyH_take (i := 4) (v := .pointer (some ⟨ab, ao + q * 3, none⟩)) rfl (by kernel_rfl) (by kernel_rfl) (by kernel_rfl) (fun _ _ _ h => h) (.inl ⟨by rfl, ?_⟩) (by assumption) ?_
            · intro W hW; go_simp
            try simp only [List.getElem_toArray, List.getElem_cons_zero, List.getElem_cons_succ, Act.put, List.setIfInBounds_toArray, List.set_cons_zero, List.set_cons_succ]
            refine wpAnyH_take (i := 5) (v := .pointer (some ⟨ab, ao + q * 3 + 1, none⟩)) rfl (by kernel_rfl) (by kernel_rfl) (by kernel_rfl) (fun _ _ _ h => h) (.inl ⟨by rfl, ?_⟩) (by assumption) ?_
            · intro W hW; go_simp
            try simp only [List.getElem_toArray, List.getElem_cons_zero, List.getElem_cons_succ, Act.put, List.setIfInBounds_toArray, List.set_cons_zero, List.set_cons_succ]
            refine wpAnyH_take (i := 6) (v := .int .i64 y) rfl (by kernel_rfl) (by kernel_rfl) (by kernel_rfl) (fun _ _ _ h => h) (.inl ⟨by rfl, ?_⟩) (by assumption) ?_
            · intro W hW; have k9 := (hW.cell (p := ⟨ab, ao + q * 3 + 1, none⟩) (World.block_lt_of_cell? w _ HN0.out)).trans HN0.out; go_simp
            try simp only [List.getElem_toArray, List.getElem_cons_zero, List.getElem_cons_succ, Act.put, List.setIfInBounds_toArray, List.set_cons_zero, List.set_cons_succ]
            refine wpAnyH_take (i := 7) (v := .int .u64 U) rfl (by kernel_rfl) (by kernel_rfl) (by kernel_rfl) (fun _ _ _ h => h) (.inl ⟨by rfl, ?_⟩) (by assumption) ?_
            · intro W hW; go_simp
            try simp only [List.getElem_toArray, List.getElem_cons_zero, List.getElem_cons_succ, Act.put, List.setIfInBounds_toArray, List.set_cons_zero, List.set_cons_succ]
            refine wpAnyH_ready (rs := [1]) (by decide +kernel) (by simp) (AllReadyH.cons rfl (fun K1 hK => ?_) AllReadyH.nil)
            go_simp
            refine D.out.mono ?_; rintro e0 W1 ⟨rfl, ⟨A7, n7, c7, hq1, -⟩, hgr1⟩
            have BW1 := HBQ.out.drew.grown hgr1 HBQ.out.size (fun k hk => by cases hk; exact HG.out)
            refine hK.out _ _ BW1 (fun _ => ?_)
            clear hK hH
            try simp only [List.getElem_toArray, List.getElem_cons_zero, List.getElem_cons_succ, Act.put, List.setIfInBounds_toArray, List.set_cons_zero, List.set_cons_succ]
            have hH := BW1
            refine wpAnyH_take (i := 8) (v := .bool false) rfl (by kernel_rfl) (by kernel_rfl) (by kernel_rfl) (fun _ _ _ h => h) (.inl ⟨by rfl, ?_⟩) (by assumption) ?_
            · intro W hW; go_simp
            try simp only [List.getElem_toArray, List.getElem_cons_zero, List.getElem_cons_succ, Act.put, List.setIfInBounds_toArray, List.set_cons_zero, List.set_cons_succ]
            refine wpAnyH_done (by decide +kernel) ?_ _
            have HB5 := Lib.hid BW1
            have HQ5 := Lib.hid hq1
            clear hH BW1 hq1 hgr1 D
            go_wp2_with fail
            go_roundw
            case rel => exact ⟨q + 1, hlt, by go_num, by rw [HRE.out]; exact ⟨_, _, _, HQ5.out⟩, HB5.out⟩
            case measure => simp [intOf]; omega
          by_cases x2 : x = 2
          · subst x2
            clear x1
            have D := Lib.hid (D2.out hbn (by rw [HFQ.out]; rfl))
            clear D1 D2 D3 D4
            go_wp2_with fail
            refine wp_region_held_drew (S := fun U => Below w.heap.size w U) (by kernel_rfl) HBQ.out.drew (fun hH => ?_)
            refine wpAnyH_take (i := 0) (v := .pointer (some ⟨g, 0, none⟩)) rfl (by kernel_rfl) (by kernel_rfl) (by kernel_rfl) (fun _ _ _ h => h) (.inl ⟨by rfl, ?_⟩) (by assumption) ?_
            · intro W hW; go_simp
            try simp only [List.getElem_toArray, List.getElem_cons_zero, Act.put, List.setIfInBounds_toArray, List.set_cons_zero, List.set_cons_succ]
            refine wpAnyH_take (i := 2) (v := .slice (some ⟨ab, ao, none⟩) j d) rfl (by kernel_rfl) (by kernel_rfl) (by kernel_rfl) (fun _ _ _ h => h) (.inl ⟨by rfl, ?_⟩) (by assumption) ?_
            · intro W hW; go_simp
            try simp only [List.getElem_toArray, List.getElem_cons_zero, List.getElem_cons_succ, Act.put, List.setIfInBounds_toArray, List.set_cons_zero, List.set_cons_succ]
            refine wpAnyH_take (i := 3) (v := .int .i64 q) rfl (by kernel_rfl) (by kernel_rfl) (by kernel_rfl) (fun _ _ _ h => h) (.inl ⟨by rfl, ?_⟩) (by assumption) ?_
            · intro W hW; go_simp
            try simp only [List.getElem_toArray, List.getElem_cons_zero, List.getElem_cons_succ, Act.put, List.setIfInBounds_toArray, List.set_cons_zero, List.set_cons_succ]
            refine wpAnyH_take (i := 4) (v := .pointer (some ⟨ab, ao + q * 3, none⟩)) rfl (by kernel_rfl) (by kernel_rfl) (by kernel_rfl) (fun _ _ _ h => h) (.inl ⟨by rfl, ?_⟩) (by assumption) ?_
            · intro W hW; go_simp
            try simp only [List.getElem_toArray, List.getElem_cons_zero, List.getElem_cons_succ, Act.put, List.setIfInBounds_toArray, List.set_cons_zero, List.set_cons_succ]
            refine wpAnyH_take (i := 5) (v := .pointer (some ⟨ab, ao + q * 3 + 1, none⟩)) rfl (by kernel_rfl) (by kernel_rfl) (by kernel_rfl) (fun _ _ _ h => h) (.inl ⟨by rfl, ?_⟩) (by assumption) ?_
            · intro W hW; go_simp
            try simp only [List.getElem_toArray, List.getElem_cons_zero, List.getElem_cons_succ, Act.put, List.setIfInBounds_toArray, List.set_cons_zero, List.set_cons_succ]
            refine wpAnyH_take (i := 6) (v := .int .i64 y) rfl (by kernel_rfl) (by kernel_rfl) (by kernel_rfl) (fun _ _ _ h => h) (.inl ⟨by rfl, ?_⟩) (by assumption) ?_
            · intro W hW; have k9 := (hW.cell (p := ⟨ab, ao + q * 3 + 1, none⟩) (World.block_lt_of_cell? w _ HN0.out)).trans HN0.out; go_simp
            try simp only [List.getElem_toArray, List.getElem_cons_zero, List.getElem_cons_succ, Act.put, List.setIfInBounds_toArray, List.set_cons_zero, List.set_cons_succ]
            refine wpAnyH_ready (rs := [1]) (by decide +kernel) (by simp) (AllReadyH.cons rfl (fun K1 hK => ?_) AllReadyH.nil)
            go_simp
            refine D.out.mono ?_; rintro e0 W1 ⟨rfl, ⟨A7, n7, c7, hq1, -⟩, hgr1⟩
            have BW1 := HBQ.out.drew.grown hgr1 HBQ.out.size (fun k hk => by cases hk; exact HG.out)
            refine hK.out _ _ BW1 (fun _ => ?_)
            clear hK hH
            try simp only [List.getElem_toArray, List.getElem_cons_zero, List.getElem_cons_succ, Act.put, List.setIfInBounds_toArray, List.set_cons_zero, List.set_cons_succ]
            have hH := BW1
            refine wpAnyH_take (i := 7) (v := .bool false) rfl (by kernel_rfl) (by kernel_rfl) (by kernel_rfl) (fun _ _ _ h => h) (.inl ⟨by rfl, ?_⟩) (by assumption) ?_
            · intro W hW; go_simp
            try simp only [List.getElem_toArray, List.getElem_cons_zero, List.getElem_cons_succ, Act.put, List.setIfInBounds_toArray, List.set_cons_zero, List.set_cons_succ]
            refine wpAnyH_done (by decide +kernel) ?_ _
            have HB5 := Lib.hid BW1
            have HQ5 := Lib.hid hq1
            clear hH BW1 hq1 hgr1 D
            go_wp2_with fail
            go_roundw
            case rel => exact ⟨q + 1, hlt, by go_num, by rw [HRE.out]; exact ⟨_, _, _, HQ5.out⟩, HB5.out⟩
            case measure => simp [intOf]; omega
          by_cases x3 : x = 3
          · subst x3
            clear x1 x2
            obtain ⟨β, hβ⟩ : ∃ β, decide (y % 2 = 1) = β := ⟨_, rfl⟩
            have hβ2 : (bits .and .i64 y 1 == 1) = β := by rw [and_one]; exact hβ
            have hβ3 : decide (bits .and .i64 y 1 = 1) = β := by rw [and_one]; exact hβ
            have D := Lib.hid (D3.out β (by rw [HFQ.out, show fm 3 y (tf q) = fb (decide (y % 2 = 1)) from rfl, hβ]))
            clear D1 D2 D3 D4
            go_wp2_with fail
            refine wp_region_held_drew (S := fun U => Below w.heap.size w U) (by kernel_rfl) HBQ.out.drew (fun hH => ?_)
            refine wpAnyH_take (i := 0) (v := .pointer (some ⟨g, 0, none⟩)) rfl (by kernel_rfl) (by kernel_rfl) (by kernel_rfl) (fun _ _ _ h => h) (.inl ⟨by rfl, ?_⟩) (by assumption) ?_
            · intro W hW; go_simp
            try simp only [List.getElem_toArray, List.getElem_cons_zero, Act.put, List.setIfInBounds_toArray, List.set_cons_zero, List.set_cons_succ]
            refine wpAnyH_take (i := 2) (v := .slice (some ⟨ab, ao, none⟩) j d) rfl (by kernel_rfl) (by kernel_rfl) (by kernel_rfl) (fun _ _ _ h => h) (.inl ⟨by rfl, ?_⟩) (by assumption) ?_
            · intro W hW; go_simp
            try simp only [List.getElem_toArray, List.getElem_cons_zero, List.getElem_cons_succ, Act.put, List.setIfInBounds_toArray, List.set_cons_zero, List.set_cons_succ]
            refine wpAnyH_take (i := 3) (v := .int .i64 q) rfl (by kernel_rfl) (by kernel_rfl) (by kernel_rfl) (fun _ _ _ h => h) (.inl ⟨by rfl, ?_⟩) (by assumption) ?_
            · intro W hW; go_simp
            try simp only [List.getElem_toArray, List.getElem_cons_zero, List.getElem_cons_succ, Act.put, List.setIfInBounds_toArray, List.set_cons_zero, List.set_cons_succ]
            refine wpAnyH_take (i := 4) (v := .pointer (some ⟨ab, ao + q * 3, none⟩)) rfl (by kernel_rfl) (by kernel_rfl) (by kernel_rfl) (fun _ _ _ h => h) (.inl ⟨by rfl, ?_⟩) (by assumption) ?_
            · intro W hW; go_simp
            try simp only [List.getElem_toArray, List.getElem_cons_zero, List.getElem_cons_succ, Act.put, List.setIfInBounds_toArray, List.set_cons_zero, List.set_cons_succ]
            refine wpAnyH_take (i := 5) (v := .pointer (some ⟨ab, ao + q * 3 + 1, none⟩)) rfl (by kernel_rfl) (by kernel_rfl) (by kernel_rfl) (fun _ _ _ h => h) (.inl ⟨by rfl, ?_⟩) (by assumption) ?_
            · intro W hW; go_simp
            try simp only [List.getElem_toArray, List.getElem_cons_zero, List.getElem_cons_succ, Act.put, List.setIfInBounds_toArray, List.set_cons_zero, List.set_cons_succ]
            refine wpAnyH_take (i := 6) (v := .int .i64 y) rfl (by kernel_rfl) (by kernel_rfl) (by kernel_rfl) (fun _ _ _ h => h) (.inl ⟨by rfl, ?_⟩) (by assumption) ?_
            · intro W hW; have k9 := (hW.cell (p := ⟨ab, ao + q * 3 + 1, none⟩) (World.block_lt_of_cell? w _ HN0.out)).trans HN0.out; go_simp
            try simp only [List.getElem_toArray, List.getElem_cons_zero, List.getElem_cons_succ, Act.put, List.setIfInBounds_toArray, List.set_cons_zero, List.set_cons_succ]
            refine wpAnyH_take (i := 7) (v := .int .i64 (bits .and .i64 y 1)) rfl (by kernel_rfl) (by kernel_rfl) (by kernel_rfl) (fun _ _ _ h => h) (.inl ⟨by rfl, ?_⟩) (by assumption) ?_
            · intro W hW; go_simp
            try simp only [List.getElem_toArray, List.getElem_cons_zero, List.getElem_cons_succ, Act.put, List.setIfInBounds_toArray, List.set_cons_zero, List.set_cons_succ]
            refine wpAnyH_take (i := 8) (v := .bool β) rfl (by kernel_rfl) (by kernel_rfl) (by kernel_rfl) (fun _ _ _ h => h) (.inl ⟨by rfl, ?_⟩) (by assumption) ?_
            · intro W hW; go_simp
            try simp only [List.getElem_toArray, List.getElem_cons_zero, List.getElem_cons_succ, Act.put, List.setIfInBounds_toArray, List.set_cons_zero, List.set_cons_succ]
            refine wpAnyH_ready (rs := [1]) (by decide +kernel) (by simp) (AllReadyH.cons rfl (fun K1 hK => ?_) AllReadyH.nil)
            go_simp
            refine D.out.mono ?_; rintro e0 W1 ⟨rfl, ⟨A7, n7, c7, hq1, -⟩, hgr1⟩
            have BW1 := HBQ.out.drew.grown hgr1 HBQ.out.size (fun k hk => by cases hk; exact HG.out)
            refine hK.out _ _ BW1 (fun _ => ?_)
            clear hK hH
            try simp only [List.getElem_toArray, List.getElem_cons_zero, List.getElem_cons_succ, Act.put, List.setIfInBounds_toArray, List.set_cons_zero, List.set_cons_succ]
            have hH := BW1
            refine wpAnyH_take (i := 9) (v := .bool false) rfl (by kernel_rfl) (by kernel_rfl) (by kernel_rfl) (fun _ _ _ h => h) (.inl ⟨by rfl, ?_⟩) (by assumption) ?_
            · intro W hW; go_simp
            try simp only [List.getElem_toArray, List.getElem_cons_zero, List.getElem_cons_succ, Act.put, List.setIfInBounds_toArray, List.set_cons_zero, List.set_cons_succ]
            refine wpAnyH_done (by decide +kernel) ?_ _
            have HB5 := Lib.hid BW1
            have HQ5 := Lib.hid hq1
            clear hH BW1 hq1 hgr1 D
            go_wp2_with fail
            go_roundw
            case rel => exact ⟨q + 1, hlt, by go_num, by rw [HRE.out]; exact ⟨_, _, _, HQ5.out⟩, HB5.out⟩
            case measure => simp [intOf]; omega
          have z1 : decide (x = 1) = false := decide_eq_false x1
          have z2 : decide (x = 2) = false := decide_eq_false x2
          have z3 : decide (x = 3) = false := decide_eq_false x3
          have y1 : (x == 1) = false := by simpa using x1
          have y2 : (x == 2) = false := by simpa using x2
          have y3 : (x == 3) = false := by simpa using x3
          have D := Lib.hid (D4.out htq (by rw [HFQ.out]; unfold fm; rw [if_neg x1, if_neg x2, if_neg x3]))
          clear D1 D2 D3 D4
          go_wp2_with fail
          refine wp_region_held_drew (S := fun U => Below w.heap.size w U) (by kernel_rfl) HBQ.out.drew (fun hH => ?_)
          refine wpAnyH_take (i := 0) (v := .pointer (some ⟨g, 0, none⟩)) rfl (by kernel_rfl) (by kernel_rfl) (by kernel_rfl) (fun _ _ _ h => h) (.inl ⟨by rfl, ?_⟩) (by assumption) ?_
          · intro W hW; go_simp
          try simp only [List.getElem_toArray, List.getElem_cons_zero, Act.put, List.setIfInBounds_toArray, List.set_cons_zero, List.set_cons_succ]
          refine wpAnyH_take (i := 3) (v := .slice (some ⟨ab, ao, none⟩) j d) rfl (by kernel_rfl) (by kernel_rfl) (by kernel_rfl) (fun _ _ _ h => h) (.inl ⟨by rfl, ?_⟩) (by assumption) ?_
          · intro W hW; go_simp
          try simp only [List.getElem_toArray, List.getElem_cons_zero, List.getElem_cons_succ, Act.put, List.setIfInBounds_toArray, List.set_cons_zero, List.set_cons_succ]
          refine wpAnyH_take (i := 4) (v := .int .i64 q) rfl (by kernel_rfl) (by kernel_rfl) (by kernel_rfl) (fun _ _ _ h => h) (.inl ⟨by rfl, ?_⟩) (by assumption) ?_
          · intro W hW; go_simp
          try simp only [List.getElem_toArray, List.getElem_cons_zero, List.getElem_cons_succ, Act.put, List.setIfInBounds_toArray, List.set_cons_zero, List.set_cons_succ]
          refine wpAnyH_take (i := 5) (v := .pointer (some ⟨ab, ao + q * 3, none⟩)) rfl (by kernel_rfl) (by kernel_rfl) (by kernel_rfl) (fun _ _ _ h => h) (.inl ⟨by rfl, ?_⟩) (by assumption) ?_
          · intro W hW; go_simp
          try simp only [List.getElem_toArray, List.getElem_cons_zero, List.getElem_cons_succ, Act.put, List.setIfInBounds_toArray, List.set_cons_zero, List.set_cons_succ]
          refine wpAnyH_take (i := 6) (v := .pointer (some ⟨ab, ao + q * 3 + 2, none⟩)) rfl (by kernel_rfl) (by kernel_rfl) (by kernel_rfl) (fun _ _ _ h => h) (.inl ⟨by rfl, ?_⟩) (by assumption) ?_
          · intro W hW; go_simp
          try simp only [List.getElem_toArray, List.getElem_cons_zero, List.getElem_cons_succ, Act.put, List.setIfInBounds_toArray, List.set_cons_zero, List.set_cons_succ]
          refine wpAnyH_take (i := 7) (v := .slice TA N TC) rfl (by kernel_rfl) (by kernel_rfl) (by kernel_rfl) (fun _ _ _ h => h) (.inl ⟨by rfl, ?_⟩) (by assumption) ?_
          · intro W hW; have k9 := (hW.cell (p := ⟨ab, ao + q * 3 + 2, none⟩) (World.block_lt_of_cell? w _ HT0.out)).trans HT0.out; go_simp
          try simp only [List.getElem_toArray, List.getElem_cons_zero, List.getElem_cons_succ, Act.put, List.setIfInBounds_toArray, List.set_cons_zero, List.set_cons_succ]
          refine wpAnyH_take (i := 8) (v := .string (strOfNums (tf q))) rfl (by kernel_rfl) (by kernel_rfl) (by kernel_rfl) (fun _ _ _ h => h) (.inl ⟨by rfl, ?_⟩) (by assumption) ?_
          · intro W hW; have k8 := conv_any (c := TC) (RT.out.below hW); go_simp
          try simp only [List.getElem_toArray, List.getElem_cons_zero, List.getElem_cons_succ, Act.put, List.setIfInBounds_toArray, List.set_cons_zero, List.set_cons_succ]
          refine wpAnyH_ready (rs := [1]) (by decide +kernel) (by simp) (AllReadyH.cons rfl (fun K1 hK => ?_) AllReadyH.nil)
          go_simp
          refine D.out.mono ?_; rintro e0 W1 ⟨AT, cT, rfl, rt1, ⟨A7, n7, c7, hq1, -⟩, hgr1⟩
          have BW1 := HBQ.out.drew.grown hgr1 HBQ.out.size (fun k hk => by cases hk; exact HG.out)
          refine hK.out _ _ BW1 (fun _ => ?_)
          clear hK hH
          try simp only [List.getElem_toArray, List.getElem_cons_zero, List.getElem_cons_succ, Act.put, List.setIfInBounds_toArray, List.set_cons_zero, List.set_cons_succ]
          refine wpAnyH_more (S1 := fun U => Below w.heap.size w U ∧ RdB U AT (tf q).length (tf q)) (fun _ h => h.1) _ _ _ _ ?_
          have hH := And.intro BW1 rt1
          refine wpAnyH_take (i := 2) (v := .string (strOfNums (tf q))) rfl (by kernel_rfl) (by kernel_rfl) (by kernel_rfl) (fun _ _ _ h => h) (.inl ⟨by rfl, ?_⟩) (by assumption) ?_
          · intro W hW; have k8 := conv_any (c := cT) hW.2; rw [htl] at k8; go_simp
          try simp only [List.getElem_toArray, List.getElem_cons_zero, List.getElem_cons_succ, Act.put, List.setIfInBounds_toArray, List.set_cons_zero, List.set_cons_succ]
          refine wpAnyH_take (i := 9) (v := .bool false) rfl (by kernel_rfl) (by kernel_rfl) (by kernel_rfl) (fun _ _ _ h => h) (.inl ⟨by rfl, ?_⟩) (by assumption) ?_
          · intro W hW; go_simp
          try simp only [List.getElem_toArray, List.getElem_cons_zero, List.getElem_cons_succ, Act.put, List.setIfInBounds_toArray, List.set_cons_zero, List.set_cons_succ]
          refine wpAnyH_done (by decide +kernel) ?_ _
          have HB5 := Lib.hid BW1
          have HQ5 := Lib.hid hq1
          clear hH BW1 hq1 hgr1 D
          go_wp2_with fail
          go_roundw
          case rel => exact ⟨q + 1, hlt, by go_num, by rw [HRE.out]; exact ⟨_, _, _, HQ5.out⟩, HB5.out⟩
          case measure => simp [intOf]; omega
end Go.Proofs.Ytehmheohojnpmaa
