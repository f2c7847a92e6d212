/- The walks of the statements CrcMores and CrcResidue, given the program's own calls. -/
import Derived.Test.YtknmchpikcnacaaCk
namespace Go.Proofs.Ytknmchpikcnacaa
open Go.RowKit

set_option maxRecDepth 100000 in
theorem mores_walk (K : Crc) (a b n : Nat) (A : Option Addr) (m c : Nat) (bs : List Int) (w : World) (ha : a < 4294967296) (hb : b < 4294967296) (h : RdB w A m bs) (hy : By bs) (hm : m ≤ 20000) (hn : n ≤ 3000) :
    Calls Try.prog 4 #[.int .u32 a, .int .u32 b, .slice A m c, .int .i64 n] w fun e w' => e = .returned (.bool true) ∧ Below w.heap.size w w' := by
  have HA := Lib.hid h
  have J1 := Lib.hid (fun W => K.join a b n W ha hb (by omega))
  have J2 := Lib.hid (fun W => rjoin_any a b n W ha hb (by omega))
  have M1 := Lib.hid (fun W (r : RdB W A m bs) => K.more a m c A bs W ha r hy (by omega))
  have M2 := Lib.hid (fun W (r : RdB W A m bs) => rmore_any a m c A bs W ha r hy (by omega))
  obtain ⟨x, hx⟩ : ∃ x, (Cr.run a (fun _ => false) (8 * n) ^^^ b : Nat) = x := ⟨_, rfl⟩
  obtain ⟨y, hyy⟩ : ∃ y, (Cr.M ^^^ Cr.st (Cr.M ^^^ a) bs : Nat) = y := ⟨_, rfl⟩
  rw [hx] at J1 J2
  rw [hyy] at M1 M2
  have KN := Lib.hid (fun W => known_crc K W)
  clear h hy hx hyy ha hb K
  go_enter Try.func4, Try.ntmps4
  go_wp2_with fail
  refine (J1.out _).mono ?_; rintro e w1 ⟨rfl, q1⟩
  have B1 := Lib.hid q1
  clear q1
  go_wp2_with fail
  refine (J2.out _).mono ?_; rintro e w2 ⟨rfl, q2⟩
  have B2 := Lib.hid (B1.out.trans (q2.mono B1.out.size))
  clear q2 B1
  go_wp2_with fail
  refine (M1.out _ (HA.out.below B2.out)).mono ?_; rintro e w3 ⟨rfl, q3⟩
  have B3 := Lib.hid (B2.out.trans (q3.mono B2.out.size))
  clear q3 B2
  go_wp2_with fail
  refine (M2.out _ (HA.out.below B3.out)).mono ?_; rintro e w4 ⟨rfl, rfl⟩
  go_wp2_with fail
  refine (KN.out _).mono ?_; rintro e w5 ⟨rfl, q5⟩
  have B5 := Lib.hid (B3.out.trans (q5.mono B3.out.size))
  clear q5
  go_wp2_with fail
  go_ret
  exact ⟨rfl, B5.out⟩
set_option maxRecDepth 100000 in
theorem mores_neg (K : Crc) (a b : Nat) (n : Int) (A : Option Addr) (m c : Nat) (bs : List Int) (w : World) (ha : a < 4294967296) (h : RdB w A m bs) (hy : By bs) (hm : m ≤ 20000) (hn : n < 0) :
    Calls Try.prog 4 #[.int .u32 a, .int .u32 b, .slice A m c, .int .i64 n] w fun e w' => e = .returned (.bool true) ∧ Below w.heap.size w w' := by
  have HA := Lib.hid h
  have J1 := Lib.hid (fun W => K.joinNeg a b n W hn)
  have J2 := Lib.hid (fun W => rjoin_neg a b n W hn)
  have M1 := Lib.hid (fun W (r : RdB W A m bs) => K.more a m c A bs W ha r hy (by omega))
  have M2 := Lib.hid (fun W (r : RdB W A m bs) => rmore_any a m c A bs W ha r hy (by omega))
  obtain ⟨y, hyy⟩ : ∃ y, (Cr.M ^^^ Cr.st (Cr.M ^^^ a) bs : Nat) = y := ⟨_, rfl⟩
  rw [hyy] at M1 M2
  have KN := Lib.hid (fun W => known_crc K W)
  clear h hy hyy ha K
  go_enter Try.func4, Try.ntmps4
  go_wp2_with fail
  refine (J1.out _).mono ?_; rintro e w1 ⟨rfl, q1⟩
  have B1 := Lib.hid q1
  clear q1
  go_wp2_with fail
  refine (J2.out _).mono ?_; rintro e w2 ⟨rfl, rfl⟩
  go_wp2_with fail
  refine (M1.out _ (HA.out.below B1.out)).mono ?_; rintro e w3 ⟨rfl, q3⟩
  have B3 := Lib.hid (B1.out.trans (q3.mono B1.out.size))
  clear q3 B1
  go_wp2_with fail
  refine (M2.out _ (HA.out.below B3.out)).mono ?_; rintro e w4 ⟨rfl, rfl⟩
  go_wp2_with fail
  refine (KN.out _).mono ?_; rintro e w5 ⟨rfl, q5⟩
  have B5 := Lib.hid (B3.out.trans (q5.mono B3.out.size))
  clear q5
  go_wp2_with fail
  go_ret
  exact ⟨rfl, B5.out⟩

theorem sum_one (K : Crc) {W : World} {p : Pt} (h : p.ok W) (hy : By p.bs) (hl : p.n ≤ 1000000) :
    Calls Try.prog 11 #[.slice (some ⟨W.heap.size, 0, none⟩) 1 1] (W.alloc (.cells #[.slice p.A p.n p.c] 23)) fun e w' => e = .returned (.int .u32 (Cr.cs p.bs)) ∧ Below W.heap.size W w' := by
  have e : cat [p] = p.bs := by simp [cat]
  have s := K.sum _ 1 1 [p] _ (pts_one h) (by rw [e]; exact hy) (by rw [e]; have := h.1.1; omega) (by decide)
  rw [e] at s
  exact s.mono fun E w' q => ⟨q.1, ((Below.refl _ W).alloc (Nat.le_refl _) _).trans (q.2.mono (one_alloc _ _))⟩
theorem sum_two (K : Crc) {W : World} {p q : Pt} (h : p.ok W) (h2 : q.ok W) (hy : By p.bs) (hy2 : By q.bs) (hl : p.n + q.n ≤ 1000000) :
    Calls Try.prog 11 #[.slice (some ⟨W.heap.size, 0, none⟩) 2 2] (W.alloc (.cells #[.slice p.A p.n p.c, .slice q.A q.n q.c] 23)) fun e w' => e = .returned (.int .u32 (Cr.cs (p.bs ++ q.bs))) ∧ Below W.heap.size W w' := by
  have e : cat [p, q] = p.bs ++ q.bs := by simp [cat]
  have s := K.sum _ 2 2 [p, q] _ (pts_two h h2) (by
    rw [e]
    intro x hx
    rcases List.mem_append.1 hx with c | c
    · exact hy x c
    · exact hy2 x c) (by rw [e, List.length_append]; have := h.1.1; have := h2.1.1; omega) (by decide)
  rw [e] at s
  exact s.mono fun E w' q => ⟨q.1, ((Below.refl _ W).alloc (Nat.le_refl _) _).trans (q.2.mono (one_alloc _ _))⟩

theorem le4_by (s : Nat) : By (Cr.le4 s) := by
  intro x hx
  simp only [Cr.le4, List.mem_cons, List.not_mem_nil, or_false] at hx
  rcases hx with rfl | rfl | rfl | rfl <;> omega
set_option maxRecDepth 100000 in
theorem residue_walk (K : Crc) (A : Option Addr) (n c : Nat) (bs : List Int) (w : World) (h : RdB w A n bs) (hy : By bs) (hn : n ≤ 20000) (h0 : A = none → n = 0 ∧ c = 0) :
    Calls Try.prog 8 #[.slice A n c] w fun e w' => e = .returned (.bool true) ∧ Below w.heap.size w w' := by
  have HA := Lib.hid h
  have H0 := Lib.hid h0
  have S1 := Lib.hid (sum_one K (W := w) (p := ⟨A, n, c, bs⟩) ⟨h, h0⟩ hy (by show n ≤ 1000000; omega))
  have hs := Cr.cs_lt bs
  have RR := Lib.hid (Cr.cs_residue bs)
  have S2 := Lib.hid (fun W (p : Pt) (q : Pt) (h1 : p.ok W) (h2 : q.ok W) (hy1 : By p.bs) (hy2 : By q.bs) (hl : p.n + q.n ≤ 1000000) => sum_two K h1 h2 hy1 hy2 hl)
  have KN := Lib.hid (fun W => known_crc K W)
  obtain ⟨s, hse⟩ : ∃ s, Cr.cs bs = s := ⟨_, rfl⟩
  rw [hse] at RR hs
  dsimp only at S1
  rw [hse] at S1
  have HY := Lib.hid hy
  clear h h0 hy hse K
  go_enter Try.func8, Try.ntmps8
  go_wp2_with fail
  refine S1.out.mono ?_; rintro e w1 ⟨rfl, q1⟩
  have B1 := Lib.hid q1
  clear q1 S1
  go_wp2_with fail
  have e4 : Cr.le4 s = [(s : Int) % 256, (s : Int) / 256 % 256, (s : Int) / 65536 % 256, (s : Int) / 16777216] := by
    unfold Cr.le4
    congr 1
    congr 1
    congr 1
    congr 1
    omega
  have R4 := rdb_mark w1 (Cr.le4 s) (0, 0) 4 rfl
  rw [e4] at R4
  have S := S2.out _ ⟨A, n, c, bs⟩ ⟨some ⟨w1.heap.size, 0, none⟩, 4, 4, _⟩ ⟨(HA.out.below B1.out).below ((Below.refl _ w1).alloc (Nat.le_refl _) _), H0.out⟩ ⟨R4, fun h => by cases h⟩ HY.out (by rw [← e4]; exact le4_by s) (by show n + 4 ≤ 1000000; omega)
  rw [size_alloc] at S
  dsimp only at S
  have E := RR.out
  rw [e4] at E
  rw [E] at S
  refine S.mono ?_; rintro e w3 ⟨rfl, q3⟩
  have B3 := Lib.hid (B1.out.trans (((Below.refl _ w1).alloc (Nat.le_refl _) (.cells #[.int .u8 ((s : Int) % 256), .int .u8 ((s : Int) / 256 % 256), .int .u8 ((s : Int) / 65536 % 256), .int .u8 ((s : Int) / 16777216)] 5)).trans (q3.mono (Nat.le_succ _)) |>.mono B1.out.size))
  clear S R4 q3
  go_wp2_with fail
  refine (KN.out _).mono ?_; rintro e w5 ⟨rfl, q5⟩
  have B5 := Lib.hid (B3.out.trans (q5.mono B3.out.size))
  clear q5
  go_wp2_with fail
  go_ret
  exact ⟨rfl, B5.out⟩
end Go.Proofs.Ytknmchpikcnacaa
