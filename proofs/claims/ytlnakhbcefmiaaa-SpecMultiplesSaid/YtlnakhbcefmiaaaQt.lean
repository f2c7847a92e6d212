/- Plain facts on reading a contract's data number by number; no program. -/
import Derived.Test.YtlnakhbcefmiaaaQb
import Derived.Test.YtlnakhbcefmiaaaVm
namespace Go.Proofs.Ytlnakhbcefmiaaa

theorem sR_form {n : Nat} (hn : n < 18446744073709551616) {most : Int} (hm : (n : Int) ≤ most) (l : List Int) : sR (nb n ++ l) 0 most = ((n : Int), l, 0) := by
  unfold sR
  rw [if_neg (by simp), rd_nb hn l]
  dsimp only
  rw [if_neg (by simp), if_neg (by omega), List.drop_left]
theorem sR_stuck {bs : List Int} {e most : Int} (he : e ≠ 0) : sR bs e most = (0, bs, e) := if_pos he
theorem sR_start {bs : List Int} {e most : Int} (h : (sR bs e most).2.2 = 0) : e = 0 := by
  refine Classical.byContradiction fun c => ?_
  rw [sR_stuck c] at h
  exact c h
theorem sR_back {bs : List Int} (hy : By bs) {most : Int} (h : (sR bs 0 most).2.2 = 0) :
    bs = nb (sR bs 0 most).1.toNat ++ (sR bs 0 most).2.1 ∧ (0 ≤ (sR bs 0 most).1 ∧ (sR bs 0 most).1 ≤ most ∧ (sR bs 0 most).1 ≤ 18446744073709551615) ∧ By (sR bs 0 most).2.1 := by
  have hk := rdN_ok hy
  unfold sR at h ⊢
  rw [if_neg (by simp)] at h ⊢
  by_cases h1 : (rdN bs).2.2 = 0
  · have hf := rd_form hy h1
    rw [if_neg (by simpa using h1)] at h ⊢
    by_cases h2 : most < (rdN bs).1
    · rw [if_pos h2] at h
      cases h
    · rw [if_neg h2]
      dsimp only
      refine ⟨?_, ⟨hk.1, by omega, hk.2⟩, fun x hx => hy x (List.mem_of_mem_drop hx)⟩
      rw [← hf.1, List.take_append_drop]
  · rw [if_pos h1] at h
    exact absurd h h1
/-- A whole number. -/
def iR (bs : List Int) (e : Int) : Int × List Int × Int := (zz (sR bs e top).1, (sR bs e top).2)
theorem iR_form {i : Int} (h : I64 i) (l : List Int) : iR (ib i ++ l) 0 = (i, l, 0) := by
  have := s_ib h l
  unfold iR
  rw [this.1, this.2]
theorem iR_start {bs : List Int} {e : Int} (h : (iR bs e).2.2 = 0) : e = 0 := sR_start h
theorem iR_back {bs : List Int} (hy : By bs) (h : (iR bs 0).2.2 = 0) : bs = ib (iR bs 0).1 ++ (iR bs 0).2.1 ∧ I64 (iR bs 0).1 ∧ By (iR bs 0).2.1 := by
  have hb := sR_back hy h
  have e := ib_zz (n := (sR bs 0 top).1.toNat) (by have := hb.2.1.2.2; omega)
  rw [show (((sR bs 0 top).1.toNat : Nat) : Int) = (sR bs 0 top).1 by have := hb.2.1.1; omega] at e
  refine ⟨?_, ?_, hb.2.2⟩
  · show bs = ib (zz (sR bs 0 top).1) ++ _
    rw [e]
    exact hb.1
  · show I64 (zz (sR bs 0 top).1)
    have h1 := hb.2.1.1
    have h2 := hb.2.1.2.2
    unfold zz I64
    split <;> omega
/-- So many whole numbers. -/
def iRs (bs : List Int) (e : Int) : Nat → List Int × List Int × Int
  | 0 => ([], bs, e)
  | k + 1 => ((iRs bs e k).1 ++ [(iR (iRs bs e k).2.1 (iRs bs e k).2.2).1], (iR (iRs bs e k).2.1 (iRs bs e k).2.2).2)
theorem iRs_len (bs : List Int) (e : Int) : ∀ k, (iRs bs e k).1.length = k
  | 0 => rfl
  | k + 1 => by simp [iRs, iRs_len bs e k]
theorem iRs_start {bs : List Int} {e : Int} : ∀ {k : Nat}, (iRs bs e k).2.2 = 0 → e = 0
  | 0, h => h
  | k + 1, h => iRs_start (k := k) (iR_start h)
theorem iRs_form : ∀ (k : Nat) (xs : List Int) (r : List Int), xs.length = k → (∀ x, x ∈ xs → I64 x) → iRs (shF xs ++ r) 0 k = (xs, r, 0)
  | 0, xs, r, hl, _ => by
    obtain rfl : xs = [] := List.eq_nil_of_length_eq_zero hl
    simp [iRs, shF]
  | k + 1, xs, r, hl, h => by
    obtain ⟨ys, x, rfl⟩ : ∃ ys x, xs = ys ++ [x] := ⟨xs.dropLast, xs.getLast (by intro c; rw [c] at hl; simp at hl), (List.dropLast_concat_getLast _).symm⟩
    have e : shF (ys ++ [x]) ++ r = shF ys ++ (ib x ++ r) := by rw [shF_snoc, List.append_assoc]
    have ih := iRs_form k ys (ib x ++ r) (by simpa using hl) (fun z hz => h z (by simp [hz]))
    rw [e]
    simp only [iRs]
    rw [ih]
    dsimp only
    rw [iR_form (h x (by simp)) r]
theorem iRs_back {bs : List Int} (hy : By bs) : ∀ {k : Nat}, (iRs bs 0 k).2.2 = 0 → bs = shF (iRs bs 0 k).1 ++ (iRs bs 0 k).2.1 ∧ (∀ x, x ∈ (iRs bs 0 k).1 → I64 x) ∧ By (iRs bs 0 k).2.1
  | 0, _ => ⟨by simp [iRs, shF], fun x hx => by simp [iRs] at hx, hy⟩
  | k + 1, h => by
    have h0 : (iRs bs 0 k).2.2 = 0 := iR_start h
    obtain ⟨i1, i2, i3⟩ := iRs_back hy h0
    have h' : (iR (iRs bs 0 k).2.1 0).2.2 = 0 := by
      have h2 : (iR (iRs bs 0 k).2.1 (iRs bs 0 k).2.2).2.2 = 0 := h
      rwa [h0] at h2
    obtain ⟨j1, j2, j3⟩ := iR_back i3 h'
    simp only [iRs]
    rw [h0]
    refine ⟨?_, fun x hx => ?_, j3⟩
    · rw [shF_snoc, List.append_assoc, ← j1]
      exact i1
    · rcases List.mem_append.1 hx with k | k
      · exact i2 x k
      · simp only [List.mem_cons, List.not_mem_nil, or_false] at k
        rw [k]; exact j2
/-- The data, number by number, each not above its bound. -/
def tS (m : Nat → Int) (bs : List Int) (e : Int) : Sp × List Int × Int :=
  let r0 := sR bs e (m 0)
  let r1 := sR r0.2.1 r0.2.2 (m 1)
  let r2 := sR r1.2.1 r1.2.2 (m 2)
  let r3 := sR r2.2.1 r2.2.2 (m 3)
  let r4 := sR r3.2.1 r3.2.2 (m 4)
  let r5 := sR r4.2.1 r4.2.2 (m 5)
  let q := iRs r5.2.1 r5.2.2 16
  let r6 := sR q.2.1 q.2.2 (m 6)
  let r7 := sR r6.2.1 r6.2.2 (m 7)
  let r8 := sR r7.2.1 r7.2.2 (m 8)
  (⟨r0.1, r1.1, r2.1, r3.1, r4.1, r5.1, q.1, r6.1, r7.1, r8.1⟩, r8.2)
theorem tS_form (m : Nat → Int) {s : Sp} (ok : s.ok) (hm : mayB s = true) (b0 : s.nu ≤ m 0) (b1 : s.ro ≤ m 1) (b2 : s.ti ≤ m 2) (b3 : s.lo ≤ m 3) (b4 : s.ba ≤ m 4) (b5 : s.li ≤ m 5) (b6 : s.cr ≤ m 6) (b7 : s.la ≤ m 7) (b8 : s.fi ≤ m 8) (l : List Int) :
    tS m (form s ++ l) 0 = (s, l, 0) := by
  have hp := head_parts (may_head hm)
  have hf := may_fi hm
  have a1 := ok.nu
  have a3 := ok.ro
  have a5 := ok.la
  have f : ∀ (x : Int) (most : Int) (r : List Int), 0 ≤ x → x ≤ 9223372036854775807 → x ≤ most → sR (nb x.toNat ++ r) 0 most = (x, r, 0) := fun x most r h1 h2 h3 => by
    rw [sR_form (by omega) (by omega) r]
    congr 1
    omega
  unfold form six
  simp only [List.append_assoc]
  unfold tS
  simp only [f s.nu (m 0) _ (by omega) (by omega) b0, f s.ro (m 1) _ (by omega) (by omega) b1, f s.ti (m 2) _ (by omega) (by omega) b2, f s.lo (m 3) _ (by omega) (by omega) b3, f s.ba (m 4) _ (by omega) (by omega) b4, f s.li (m 5) _ (by omega) (by omega) b5,
    iRs_form 16 s.sh _ ok.len ok.sh, f s.cr (m 6) _ (by omega) (by omega) b6, f s.la (m 7) _ (by omega) (by omega) b7, f s.fi (m 8) _ (by omega) (by omega) b8]
theorem tS_back (m : Nat → Int) {bs : List Int} (hy : By bs) (m0 : m 0 ≤ 4294967295) (m1 : m 1 ≤ 255) (m7 : m 7 ≤ 4294967295) (hm : ∀ i, m i ≤ 9223372036854775807) {s : Sp} {r : List Int} (h : tS m bs 0 = (s, r, 0)) : s.ok ∧ bs = form s ++ r ∧ By r := by
  unfold tS at h
  simp only [Prod.mk.injEq] at h
  obtain ⟨hs, hr⟩ := h
  generalize g0 : sR bs 0 (m 0) = r0 at *
  generalize g1 : sR r0.2.1 r0.2.2 (m 1) = r1 at *
  generalize g2 : sR r1.2.1 r1.2.2 (m 2) = r2 at *
  generalize g3 : sR r2.2.1 r2.2.2 (m 3) = r3 at *
  generalize g4 : sR r3.2.1 r3.2.2 (m 4) = r4 at *
  generalize g5 : sR r4.2.1 r4.2.2 (m 5) = r5 at *
  generalize gq : iRs r5.2.1 r5.2.2 16 = q at *
  generalize g6 : sR q.2.1 q.2.2 (m 6) = r6 at *
  generalize g7 : sR r6.2.1 r6.2.2 (m 7) = r7 at *
  generalize g8 : sR r7.2.1 r7.2.2 (m 8) = r8 at *
  have z8 : r8.2.2 = 0 := by rw [hr]
  have z7 : r7.2.2 = 0 := sR_start (by rw [g8]; exact z8)
  have z6 : r6.2.2 = 0 := sR_start (by rw [g7]; exact z7)
  have zq : q.2.2 = 0 := sR_start (by rw [g6]; exact z6)
  have z5 : r5.2.2 = 0 := iRs_start (k := 16) (by rw [gq]; exact zq)
  have z4 : r4.2.2 = 0 := sR_start (by rw [g5]; exact z5)
  have z3 : r3.2.2 = 0 := sR_start (by rw [g4]; exact z4)
  have z2 : r2.2.2 = 0 := sR_start (by rw [g3]; exact z3)
  have z1 : r1.2.2 = 0 := sR_start (by rw [g2]; exact z2)
  have z0 : r0.2.2 = 0 := sR_start (by rw [g1]; exact z1)
  rw [z0] at g1
  rw [z1] at g2
  rw [z2] at g3
  rw [z3] at g4
  rw [z4] at g5
  rw [z5] at gq
  rw [zq] at g6
  rw [z6] at g7
  rw [z7] at g8
  have step : ∀ {b : List Int} {most : Int} {x : Int × List Int × Int}, By b → sR b 0 most = x → x.2.2 = 0 → b = nb x.1.toNat ++ x.2.1 ∧ (0 ≤ x.1 ∧ x.1 ≤ most ∧ x.1 ≤ 18446744073709551615) ∧ By x.2.1 := fun hb e hz => by
    subst e
    exact sR_back hb hz
  obtain ⟨e0, c0, y0⟩ := step hy g0 z0
  obtain ⟨e1, c1, y1⟩ := step y0 g1 z1
  obtain ⟨e2, c2, y2⟩ := step y1 g2 z2
  obtain ⟨e3, c3, y3⟩ := step y2 g3 z3
  obtain ⟨e4, c4, y4⟩ := step y3 g4 z4
  obtain ⟨e5, c5, y5⟩ := step y4 g5 z5
  have hq := iRs_back y5 (k := 16) (by rw [gq]; exact zq)
  have hql := iRs_len r5.2.1 0 16
  rw [gq] at hq hql
  obtain ⟨eq, cq, yq⟩ := hq
  obtain ⟨e6, c6, y6⟩ := step yq g6 z6
  obtain ⟨e7, c7, y7⟩ := step y6 g7 z7
  obtain ⟨e8, c8, y8⟩ := step y7 g8 z8
  have n0 := hm 2
  have n3 := hm 3
  have n4 := hm 4
  have n5 := hm 5
  have n6 := hm 6
  have n8 := hm 8
  subst hs
  have hr1 : r8.2.1 = r := by rw [hr]
  refine ⟨⟨?_, ?_, ?_, ?_, ?_, ?_, hql, cq, ?_, ?_, ?_⟩, ?_, by rw [← hr1]; exact y8⟩
  · dsimp only; omega
  · dsimp only; omega
  · dsimp only; unfold I64; omega
  · dsimp only; unfold I64; omega
  · dsimp only; unfold I64; omega
  · dsimp only; unfold I64; omega
  · dsimp only; unfold I64; omega
  · dsimp only; omega
  · dsimp only; unfold I64; omega
  · unfold form six
    dsimp only
    simp only [List.append_assoc]
    rw [← hr1, ← e8, ← e7, ← e6, ← eq, ← e5, ← e4, ← e3, ← e2, ← e1]
    exact e0
end Go.Proofs.Ytlnakhbcefmiaaa
