/- The walk of the statement CrcBursts, given the program's own calls. -/
import Derived.Test.YtknmchpikcnacaaCw
import Derived.BigQuiet
namespace Go.Proofs.Ytknmchpikcnacaa
open Go.RowKit

theorem pow_bit (r j : Nat) : (2 ^ r).testBit j = decide (j = r) := by
  rw [Nat.testBit_two_pow]
  by_cases h : r = j
  · subst h; simp
  · rw [decide_eq_false h, decide_eq_false (fun e => h e.symm)]
/-- One bit is turned. -/
theorem bt_flip {xs : List Int} {p x : Nat} (hp : p / 8 < xs.length) (hx : xs.getD (p / 8) 0 = x) (i : Nat) : Cr.bt (xs.set (p / 8) (((x ^^^ 2 ^ (p % 8) : Nat)) : Int)) i = (Cr.bt xs i ^^ decide (i = p)) := by
  unfold Cr.bt
  by_cases h : i / 8 = p / 8
  · rw [h, hx, show (xs.set (p / 8) (((x ^^^ 2 ^ (p % 8) : Nat)) : Int)).getD (p / 8) 0 = ((x ^^^ 2 ^ (p % 8) : Nat) : Int) by simp [List.getD, hp]]
    rw [Int.toNat_natCast, Int.toNat_natCast, Nat.testBit_xor, pow_bit]
    congr 1
    by_cases c : i = p
    · subst c; simp
    · rw [decide_eq_false c, decide_eq_false (by omega)]
  · rw [show (xs.set (p / 8) (((x ^^^ 2 ^ (p % 8) : Nat)) : Int)).getD (i / 8) 0 = xs.getD (i / 8) 0 by simp [List.getD, Ne.symm h]]
    rw [decide_eq_false (by intro c; subst c; exact h rfl), Bool.xor_false]
theorem xor_u8 (a b : Nat) (ha : a < 256) (hb : b < 256) : bits .xor .u8 (a : Int) (b : Int) = ((a ^^^ b : Nat) : Int) := by
  have := u8_xor (a : Int) (b : Int) (by omega) (by omega) (by omega) (by omega)
  simpa using this
theorem pow8 {r : Nat} (h : r < 8) : ((2 ^ r : Nat) : Int) = 2 ^ r % 256 := by
  have h1 : ((2 ^ r : Nat) : Int) < 256 := by have := Nat.pow_lt_pow_right (a := 2) (by decide) h; omega
  have h2 : (0 : Int) ≤ ((2 ^ r : Nat) : Int) := Int.natCast_nonneg _
  rw [Int.natCast_pow] at h1 h2 ⊢
  exact (Int.emod_eq_of_lt h2 h1).symm
theorem and_u32 (a : Nat) (ha : a < 4294967296) : bits .and .u32 (a : Int) 1 = ((a % 2 : Nat) : Int) := by
  have := u32_and (a : Int) 1 (by omega) (by omega) (by omega) (by omega)
  rw [this]
  congr 1
  simp [Nat.and_one_is_mod]
/-- What the first so many bits have turned. -/
def Turned (bs xs : List Int) (n W k : Nat) : Prop := xs.length = bs.length ∧ By xs ∧ ∀ i, i < 8 * bs.length → Cr.bt xs i = (Cr.bt bs i ^^ (decide (n ≤ i) && (decide (i < n + k) && W.testBit (i - n))))
theorem Turned.zero {bs : List Int} (h : By bs) (n W : Nat) : Turned bs bs n W 0 := ⟨rfl, h, fun i _ => by
  by_cases c : n ≤ i
  · rw [decide_eq_false (show ¬ i < n + 0 by omega)]; simp
  · rw [decide_eq_false c]; simp⟩
theorem Turned.no {bs xs : List Int} {n W k : Nat} (h : Turned bs xs n W k) (hb : W.testBit k = false) : Turned bs xs n W (k + 1) := ⟨h.1, h.2.1, fun i hi => by
  rw [h.2.2 i hi]
  congr 1
  by_cases c : i = n + k
  · subst c
    rw [show n + k - n = k by omega, hb]; simp
  · by_cases c1 : i < n + k
    · rw [decide_eq_true c1, decide_eq_true (show i < n + (k + 1) by omega)]
    · rw [decide_eq_false c1, decide_eq_false (show ¬ i < n + (k + 1) by omega)]⟩
theorem Turned.yes {bs xs : List Int} {n W k x : Nat} (h : Turned bs xs n W k) (hb : W.testBit k = true) (hp : (n + k) / 8 < bs.length) (hx : xs.getD ((n + k) / 8) 0 = x) (hx8 : x < 256) : Turned bs (xs.set ((n + k) / 8) (((x ^^^ 2 ^ ((n + k) % 8) : Nat)) : Int)) n W (k + 1) := by
  refine ⟨by rw [List.length_set]; exact h.1, fun z hz => ?_, fun i hi => ?_⟩
  · rcases List.mem_or_eq_of_mem_set hz with c | c
    · exact h.2.1 z c
    · have : x ^^^ 2 ^ ((n + k) % 8) < 2 ^ 8 := Nat.xor_lt_two_pow (by omega) (Nat.pow_lt_pow_right (by decide) (by omega))
      omega
  · rw [bt_flip (by rw [h.1]; exact hp) hx, h.2.2 i hi]
    by_cases c : i = n + k
    · subst c
      rw [show n + k - n = k by omega, hb, decide_eq_false (show ¬ n + k < n + k by omega), decide_eq_true (show n + k < n + (k + 1) by omega), decide_eq_true (show n ≤ n + k by omega)]
      simp
    · rw [decide_eq_false c, Bool.xor_false]
      congr 1
      by_cases c1 : i < n + k
      · rw [decide_eq_true c1, decide_eq_true (show i < n + (k + 1) by omega)]
      · rw [decide_eq_false c1, decide_eq_false (show ¬ i < n + (k + 1) by omega)]
theorem Turned.unlike {bs xs : List Int} {n W : Nat} (h : Turned bs xs n W 32) (hn : n + 32 ≤ 8 * bs.length) (hW : W < 4294967296) (h0 : W ≠ 0) : Cr.cs bs ≠ Cr.cs xs :=
  Cr.cs_burst h.1.symm hn hW h0 fun i hi => by
    rw [h.2.2 i hi]
    congr 1
    by_cases c : i < n + 32
    · rw [decide_eq_true c, Bool.true_and]
    · rw [decide_eq_false c, Bool.false_and, Nat.testBit_lt_two_pow (Nat.lt_of_lt_of_le hW (Nat.pow_le_pow_right (n := 2) (i := 32) (by decide) (by omega)))]

theorem sum_pt (K : Crc) {U : World} {G : Nat} {p : Pt} (h : PtsAt U (some ⟨G, 0, none⟩) 1 [p]) (hy : By p.bs) (hl : p.n ≤ 1000000) :
    Calls Try.prog 11 #[.slice (some ⟨G, 0, none⟩) 1 1] U fun e w' => e = .returned (.int .u32 (Cr.cs p.bs)) ∧ Below U.heap.size U w' := by
  have e : cat [p] = p.bs := by simp [cat]
  have s := K.sum _ 1 1 [p] _ h (by rw [e]; exact hy) (by rw [e]; have := (h.2.1 p (by simp)).1.1; omega) (by decide)
  rwa [e] at s

set_option maxRecDepth 100000 in
set_option maxHeartbeats 4000000 in
theorem bursts_walk (K : Crc) (A : Option Addr) (n c W : Nat) (at' : Int) (bs : List Int) (w : World) (h : RdB w A n bs) (hy : By bs) (h4 : 4 ≤ n) (hn : n ≤ 20000) (hW : W < 4294967296) (hW0 : W ≠ 0) (_ha : -9223372036854775808 ≤ at' ∧ at' ≤ 9223372036854775807) :
    Calls Try.prog 6 #[.slice A n c, .int .i64 at', .int .u32 W] w fun e w' => e = .returned (.bool true) ∧ Below w.heap.size w w' := by
  have hl := h.1
  obtain ⟨ab, ao, rfl, -⟩ := h.2 (by omega)
  have H0 : Hid (some (⟨ab, ao, none⟩ : Addr) = none → n = 0 ∧ c = 0) := Lib.hid (fun h => by cases h)
  have HA := Lib.hid h
  have HY := Lib.hid hy
  have HL := Lib.hid hl
  have O0 := Lib.hid (own_none w)
  have Q0 := Lib.hid ((Below.refl _ w).alloc (Nat.le_refl _) (.cells #[] 5))
  have R1 := Lib.hid (h.below Q0.out)
  have KN := Lib.hid (fun W => known_crc K W)
  have KS := Lib.hid (fun (W : World) (p : Pt) (h : p.ok W) (hy : By p.bs) (hl : p.n ≤ 1000000) => sum_one K h hy hl)
  have w1 : decide ((W : Int) = 0) = false := decide_eq_false (by omega)
  have w2 : ((W : Int) == 0) = false := by simpa using hW0
  obtain ⟨u, hu, hub⟩ : ∃ u : Nat, IntKind.u64.wrap at' = u ∧ u < 18446744073709551616 := ⟨(IntKind.u64.wrap at').toNat, by rw [IntKind.wrap_u64]; omega, by rw [IntKind.wrap_u64]; omega⟩
  have HW := Lib.hid (And.intro hW hW0)
  obtain ⟨N, hN, hN2⟩ : ∃ N : Nat, wrap64 ((u : Int) % (8 * (n : Int) - 31)) = N ∧ N + 32 ≤ 8 * n := by
    have e1 := Int.emod_nonneg (u : Int) (show (8 * (n : Int) - 31) ≠ 0 by omega)
    have e2 := Int.emod_lt_of_pos (u : Int) (show 0 < (8 * (n : Int) - 31) by omega)
    exact ⟨((u : Int) % (8 * (n : Int) - 31)).toNat, by unfold wrap64; omega, by omega⟩
  have KK := Lib.hid K
  clear h hy hl K
  go_enter Try.func6, Try.ntmps6
  go_wp2_with (at_builtin; refine wpl_append rfl (.tmp 23) (.tmp 24) rfl w.heap.size (.slice (some ⟨w.heap.size, 0, none⟩) 0 0) 0 [] rfl O0.out (some ⟨ab, ao, none⟩) n c bs rfl R1.out H0.out (by omega) (one_alloc _ _) ?_; intro v1 wA o1 g1; have Q1 := Lib.hid (Q0.out.grown g1 (one_alloc _ _) (by intro k hk; simp [Value.ownBlock] at hk; omega)); rw [Nat.zero_add, List.nil_append] at o1; have O1 := Lib.hid o1; obtain ⟨g, cap, rfl, -, -⟩ := o1.form (by omega); clear o1 g1)
  rw [hN]
  go_loopw [9, 35] (fun _ i wr => ∃ (k : Nat) (xs : List Int), k ≤ 32 ∧ i = .int .i64 k ∧ Turned bs xs N W k ∧ wr.ownsRow w.heap.size 5 1 (.slice (some ⟨g, 0, none⟩) n cap) n (xs.map (Value.int .u8)) ∧ Below w.heap.size w wr) (fun _ i _ => 32 - (intOf i).toNat)
  case atStart => exact ⟨0, bs, Nat.zero_le _, rfl, Turned.zero HY.out N W, O1.out, Q1.out⟩
  case round =>
    obtain ⟨k, xs, hk, rfl, ht, ho, hB⟩ := hrel
    have HT := Lib.hid ht
    have HO := Lib.hid ho
    have HB := Lib.hid hB
    clear ht ho hB
    by_cases hlt : k < 32
    case pos =>
      have hsh := and_u32 (W / 2 ^ k) (Nat.lt_of_le_of_lt (Nat.div_le_self _ _) HW.out.1)
      rw [show ((W / 2 ^ k : Nat) : Int) = (W : Int) / 2 ^ k by simp] at hsh
      have hbit := Cr.bit_at W k
      rcases Nat.mod_two_eq_zero_or_one (W / 2 ^ k) with hz | hz
      · rw [hz] at hsh hbit
        go_wp2_with fail
        go_round
        case rel => exact ⟨k + 1, xs, hlt, by go_num, HT.out.no hbit, HO.out, HB.out⟩
        case measure => simp [intOf]; omega
      · rw [hz] at hsh hbit
        have hxl := HT.out.1
        have hj : (N + k) / 8 < n := by omega
        have hcell := HO.out.cellAt ((N + k) / 8) (by omega)
        have hj2 : (N + k) / 8 < xs.length := by rw [hxl, HL.out]; exact hj
        rw [List.getElem?_map, List.getElem?_eq_getElem hj2, Option.map_some] at hcell
        have hyx := HT.out.2.1 _ (List.getElem_mem hj2)
        obtain ⟨x, hx⟩ : ∃ x : Nat, xs[(N + k) / 8] = x := ⟨xs[(N + k) / 8].toNat, by omega⟩
        rw [hx] at hcell hyx
        have hxd : xs.getD ((N + k) / 8) 0 = x := by rw [← hx]; simp [List.getD, hj2]
        have hf := (own_put (k := (N + k) / 8) HO.out 0).2.1
        have hT := Lib.hid (HT.out.yes hbit (by rw [HL.out]; exact hj) hxd (by omega))
        have hp2 : (2 : Nat) ^ ((N + k) % 8) < 256 := Nat.pow_lt_pow_right (n := 8) (by decide) (by omega)
        have hX := xor_u8 x (2 ^ ((N + k) % 8)) (by omega) hp2
        rw [pow8 (show (N + k) % 8 < 8 by omega)] at hX
        clear hx hxd hj2 hxl
        go_wp2_with fail
        go_region
        have HO2 := Lib.hid (own_put (k := (N + k) / 8) HO.out ((x ^^^ 2 ^ ((N + k) % 8) : Nat) : Int)).1
        have HB2 := Lib.hid ((HB.out.setCell (p := ⟨g, (N + k) / 8, none⟩) (HO.out.lt g rfl).1 (.int .u8 ((x ^^^ 2 ^ ((N + k) % 8) : Nat) : Int))).drew)
        clear hX
        go_wp2_with fail
        go_roundw
        case rel => exact ⟨k + 1, _, hlt, by go_num, hT.out, HO2.out, HB2.out⟩
        case measure => simp [intOf]; omega
    case neg =>
      obtain rfl : k = 32 := by omega
      have hne := HT.out.unlike (by rw [HL.out]; exact hN2) HW.out.1 HW.out.2
      have c1 := Cr.cs_lt bs
      have c2 := Cr.cs_lt xs
      have OK1 := Lib.hid (fun U (b : Below wr.heap.size wr U) => show (Pt.mk (some ⟨ab, ao, none⟩) n c bs).ok U from ⟨(HA.out.below HB.out).below b, fun h => by cases h⟩)
      have hxl : xs.length = n := by rw [HT.out.1, HL.out]
      have RX : RdB wr (some ⟨g, 0, none⟩) n xs := ⟨hxl, fun hn0 => ⟨g, 0, rfl, fun j hj => by
        rw [Nat.zero_add, HO.out.cellAt j (by omega)]
        simp [List.getD, show j < xs.length by omega]⟩⟩
      have OK2 := Lib.hid (fun U (b : Below wr.heap.size wr U) => show (Pt.mk (some ⟨g, 0, none⟩) n cap xs).ok U from ⟨RX.below b, fun h => by cases h⟩)
      have YX := Lib.hid HT.out.2.1
      obtain ⟨s1, e1⟩ : ∃ s, Cr.cs bs = s := ⟨_, rfl⟩
      obtain ⟨s2, e2⟩ : ∃ s, Cr.cs xs = s := ⟨_, rfl⟩
      have n1 : ((s1 : Int) != (s2 : Int)) = true := by rw [bne_iff_ne]; rw [e1, e2] at hne; omega
      have n2 : decide ((s1 : Int) = (s2 : Int)) = false := decide_eq_false (by rw [e1, e2] at hne; omega)
      have E1 := Lib.hid e1
      have E2 := Lib.hid e2
      have HXL := Lib.hid hxl
      clear hne c1 c2 e1 e2 RX hxl
      go_wp2_with fail
      have S1 := KS.out wr _ (OK1.out wr (Below.refl _ _)) HY.out (by show n ≤ 1000000; omega)
      dsimp only at S1
      rw [E1.out] at S1
      refine S1.mono ?_; rintro e w3 ⟨rfl, q3⟩
      have B3 := Lib.hid q3
      clear S1 q3
      go_wp2_with fail
      have S2 := KS.out w3 _ (OK2.out w3 B3.out) YX.out (by show n ≤ 1000000; omega)
      dsimp only at S2
      rw [E2.out] at S2
      refine S2.mono ?_; rintro e w4 ⟨rfl, q4⟩
      have B4 := Lib.hid (B3.out.trans (q4.mono B3.out.size))
      clear S2 q4 B3
      go_wp2_with fail
      refine (KN.out _).mono ?_; rintro e w5 ⟨rfl, q5⟩
      have B5 := Lib.hid (HB.out.trans ((B4.out.trans (q5.mono B4.out.size)).mono HB.out.size))
      clear q5
      go_wp2_with fail
      go_ret
      exact ⟨rfl, B5.out⟩
end Go.Proofs.Ytknmchpikcnacaa
