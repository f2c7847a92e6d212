/- The walk of the statement CrcParts, given the program's own calls. -/
import Derived.Test.YtknmchpikcnacaaCw
namespace Go.Proofs.Ytknmchpikcnacaa
open Go.RowKit

set_option maxRecDepth 100000 in
set_option maxHeartbeats 2000000 in
theorem parts_walk (K : Crc) (A B : Option Addr) (n c m d : Nat) (xs ys : List Int) (w : World) (h : RdB w A n xs) (h2 : RdB w B m ys) (hx : By xs) (hy : By ys) (hn : n ≤ 20000) (hm : m ≤ 20000) (h0 : A = none → n = 0 ∧ c = 0) (h02 : B = none → m = 0 ∧ d = 0) :
    Calls Try.prog 5 #[.slice A n c, .slice B m d] w fun e w' => e = .returned (.bool true) ∧ Below w.heap.size w w' := by
  have P1 := Lib.hid (fun W (b : Below w.heap.size w W) => show (Pt.mk A n c xs).ok W from ⟨h.below b, h0⟩)
  have P2 := Lib.hid (fun W (b : Below w.heap.size w W) => show (Pt.mk B m d ys).ok W from ⟨h2.below b, h02⟩)
  have O0 := Lib.hid (own_none w)
  have Q0 := Lib.hid ((Below.refl _ w).alloc (Nat.le_refl _) (.cells #[] 5))
  have hl1 := h.1
  have hl2 := h2.1
  have HX := Lib.hid hx
  have HY := Lib.hid hy
  have hxy : By (xs ++ ys) := by
    intro z hz
    rcases List.mem_append.1 hz with k | k
    · exact hx z k
    · exact hy z k
  have HXY := Lib.hid hxy
  have KN := Lib.hid (fun W => known_crc K W)
  have KS1 := Lib.hid (fun (W : World) (p : Pt) (h : p.ok W) (hy : By p.bs) (hl : p.n ≤ 1000000) => sum_one K h hy hl)
  have KS2 := Lib.hid (fun (W : World) (p q : Pt) (h : p.ok W) (h2 : q.ok W) (hy : By p.bs) (hy2 : By q.bs) (hl : p.n + q.n ≤ 1000000) => sum_two K h h2 hy hy2 hl)
  have c1 := Cr.cs_lt xs
  have c2 := Cr.cs_lt ys
  have hj := Cr.cs_join xs ys
  have hmo := Cr.cs_more xs ys
  rw [hl2] at hj
  have KJ := Lib.hid (fun W => K.join (Cr.cs xs) (Cr.cs ys) m W c1 c2 (by omega))
  have KM := Lib.hid (fun W (r : RdB W B m ys) => K.more (Cr.cs xs) m d B ys W c1 r hy (by omega))
  rw [← hj] at KJ
  rw [← hmo] at KM
  obtain ⟨s, hs⟩ : ∃ s, Cr.cs (xs ++ ys) = s := ⟨_, rfl⟩
  obtain ⟨s1, hs1⟩ : ∃ s, Cr.cs xs = s := ⟨_, rfl⟩
  obtain ⟨s2, hs2⟩ : ∃ s, Cr.cs ys = s := ⟨_, rfl⟩
  have HS := Lib.hid hs
  have HS1 := Lib.hid hs1
  have HS2 := Lib.hid hs2
  rw [hs, hs1, hs2] at KJ
  rw [hs, hs1] at KM
  clear hs hs1 hs2 hj hmo c1 c2 K hxy
  go_enter Try.func5, Try.ntmps5
  have R1 := Lib.hid (h.below Q0.out)
  have R2 := Lib.hid h2
  have H0 := Lib.hid h0
  have H02 := Lib.hid h02
  have HLL : Hid ((xs ++ ys).length = n + m) := Lib.hid (by rw [List.length_append, hl1, hl2])
  clear h h2 h0 h02 hl1 hl2 hx hy
  go_wp2_with (first
    | (at_builtin; refine wpl_append rfl (.tmp 17) (.tmp 18) rfl w.heap.size (.slice (some ⟨w.heap.size, 0, none⟩) 0 0) 0 [] rfl O0.out A n c xs rfl R1.out H0.out (by omega) (one_alloc _ _) ?_; intro v1 w1 o1 g1; have Q1 := Lib.hid (Q0.out.grown g1 (one_alloc _ _) (by intro k hk; simp [Value.ownBlock] at hk; omega)); rw [Nat.zero_add, List.nil_append] at o1; have O1 := Lib.hid o1; clear o1 g1)
    | (at_builtin; refine wpl_append rfl (.tmp 19) (.tmp 20) rfl w.heap.size v1 n (xs.map (Value.int .u8)) rfl O1.out B m d ys rfl (R2.out.below Q1.out) H02.out (by omega) Q1.out.size ?_; intro v2 w2 o2 g2; have Q2 := Lib.hid (Q1.out.grown g2 Q1.out.size (fun k hk => (O1.out.lt k hk).1)); rw [← List.map_append, show n + m = (xs ++ ys).length from HLL.out.symm] at o2; obtain ⟨A2, k2, rfl, r2, n2⟩ := owns_pt o2; rw [HLL.out] at r2; have RR2 := Lib.hid r2; have NN2 := Lib.hid n2; clear o2 g2 r2 n2; rw [HLL.out]))
  have S3 := KS1.out w2 ⟨A2, n + m, k2, xs ++ ys⟩ ⟨RR2.out, fun h => by have := NN2.out h; rw [HLL.out] at this; exact this⟩ HXY.out (by show n + m ≤ 1000000; omega)
  dsimp only at S3
  rw [HS.out] at S3
  refine S3.mono ?_; rintro e w3 ⟨rfl, q3⟩
  have B3 := Lib.hid (Q2.out.trans (q3.mono Q2.out.size))
  clear S3 q3 O1 RR2 NN2 Q2 Q1 Q0 O0
  go_wp2_with fail
  have S4 := KS1.out w3 ⟨A, n, c, xs⟩ (P1.out _ B3.out) HX.out (by show n ≤ 1000000; omega)
  dsimp only at S4
  rw [HS1.out] at S4
  refine S4.mono ?_; rintro e w4 ⟨rfl, q4⟩
  have B4 := Lib.hid (B3.out.trans (q4.mono B3.out.size))
  clear S4 q4 B3
  go_wp2_with fail
  have S5 := KS1.out w4 ⟨B, m, d, ys⟩ (P2.out _ B4.out) HY.out (by show m ≤ 1000000; omega)
  dsimp only at S5
  rw [HS2.out] at S5
  refine S5.mono ?_; rintro e w5 ⟨rfl, q5⟩
  have B5 := Lib.hid (B4.out.trans (q5.mono B4.out.size))
  clear S5 q5 B4
  go_wp2_with fail
  refine (KJ.out _).mono ?_; rintro e w6 ⟨rfl, q6⟩
  have B6 := Lib.hid (B5.out.trans (q6.mono B5.out.size))
  clear q6 B5
  go_wp2_with fail
  have S7 := KS2.out w6 ⟨A, n, c, xs⟩ ⟨B, m, d, ys⟩ (P1.out _ B6.out) (P2.out _ B6.out) HX.out HY.out (by show n + m ≤ 1000000; omega)
  dsimp only at S7
  rw [HS.out] at S7
  refine S7.mono ?_; rintro e w7 ⟨rfl, q7⟩
  have B7 := Lib.hid (B6.out.trans (q7.mono B6.out.size))
  clear S7 q7 B6
  go_wp2_with fail
  have S8 := KS1.out w7 ⟨A, n, c, xs⟩ (P1.out _ B7.out) HX.out (by show n ≤ 1000000; omega)
  dsimp only at S8
  rw [HS1.out] at S8
  refine S8.mono ?_; rintro e w8 ⟨rfl, q8⟩
  have B8 := Lib.hid (B7.out.trans (q8.mono B7.out.size))
  clear S8 q8 B7
  go_wp2_with fail
  refine (KM.out _ (R2.out.below B8.out)).mono ?_; rintro e w9 ⟨rfl, q9⟩
  have B9 := Lib.hid (B8.out.trans (q9.mono B8.out.size))
  clear q9 B8
  go_wp2_with fail
  refine (KN.out _).mono ?_; rintro e w10 ⟨rfl, q10⟩
  have B10 := Lib.hid (B9.out.trans (q10.mono B9.out.size))
  clear q10
  go_wp2_with fail
  go_ret
  exact ⟨rfl, B10.out⟩
end Go.Proofs.Ytknmchpikcnacaa
