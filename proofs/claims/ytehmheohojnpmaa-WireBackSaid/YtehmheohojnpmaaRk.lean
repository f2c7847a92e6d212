/- What the walks of wire's statements ask of the program's own reader, and the walk of the statement WireNone, given that. -/
import Derived.Test.YtehmheohojnpmaaWo
import Derived.Test.YtehmheohojnpmaaRf
namespace Go.Proofs.Ytehmheohojnpmaa
open Go.RowKit

/-- The reading calls: a reader at block g stands on the blocks F; bs is left, e is its fault. -/
structure Reads where
  Wr : World → Nat → (Nat → Prop) → List Int → Int → Prop
  keep : ∀ {W W' : World} {g : Nat} {F : Nat → Prop} {bs : List Int} {e : Int}, Wr W g F bs e → (∀ k, F k → W'.heap[k]? = W.heap[k]?) → Wr W' g F bs e
  lt : ∀ {W : World} {g : Nat} {F : Nat → Prop} {bs : List Int} {e : Int}, Wr W g F bs e → F g ∧ ∀ k, F k → k < W.heap.size
  make : ∀ (A : Option Addr) (n c : Nat) (bs : List Int) (W : World), RdB W A n bs → By bs → n ≤ 100000 → (A = none → n = 0 ∧ c = 0) →
    Calls Try.prog 22 #[.slice A n c] W fun E W' => ∃ g F, E = .returned (.pointer (some ⟨g, 0, none⟩)) ∧ Wr W' g F bs 0 ∧ Below W.heap.size W W' ∧ W.heap.size ≤ g ∧ ∀ k, F k → W.heap.size ≤ k ∨ (0 < n ∧ ∃ b o, A = some ⟨b, o, none⟩ ∧ k = b)
  nat : ∀ (W : World) (g : Nat) (F : Nat → Prop) (bs : List Int) (e : Int), Wr W g F bs e → By bs → bs.length ≤ 100000 →
    Calls Try.prog 23 #[.pointer (some ⟨g, 0, none⟩)] W fun E W' => E = .returned (.int .u64 (sR bs e top).1) ∧ Wr W' g F (sR bs e top).2.1 (sR bs e top).2.2 ∧ W.grownBy W' (some g)
  small : ∀ (W : World) (g : Nat) (F : Nat → Prop) (bs : List Int) (e most : Int), Wr W g F bs e → By bs → bs.length ≤ 100000 → 0 ≤ most ∧ most ≤ 18446744073709551615 →
    Calls Try.prog 25 #[.pointer (some ⟨g, 0, none⟩), .int .u64 most] W fun E W' => E = .returned (.int .u64 (sR bs e most).1) ∧ Wr W' g F (sR bs e most).2.1 (sR bs e most).2.2 ∧ W.grownBy W' (some g)
  int : ∀ (W : World) (g : Nat) (F : Nat → Prop) (bs : List Int) (e : Int), Wr W g F bs e → By bs → bs.length ≤ 100000 →
    Calls Try.prog 27 #[.pointer (some ⟨g, 0, none⟩)] W fun E W' => E = .returned (.int .i64 (zz (sR bs e top).1)) ∧ Wr W' g F (sR bs e top).2.1 (sR bs e top).2.2 ∧ W.grownBy W' (some g)
  flag : ∀ (W : World) (g : Nat) (F : Nat → Prop) (bs : List Int) (e : Int), Wr W g F bs e → By bs → bs.length ≤ 100000 →
    Calls Try.prog 29 #[.pointer (some ⟨g, 0, none⟩)] W fun E W' => E = .returned (.bool (fR bs e).1) ∧ Wr W' g F (fR bs e).2.1 (fR bs e).2.2 ∧ W.grownBy W' (some g)
  text : ∀ (W : World) (g : Nat) (F : Nat → Prop) (bs : List Int) (e most : Int), Wr W g F bs e → By bs → bs.length ≤ 100000 → -9223372036854775808 ≤ most ∧ most ≤ 9223372036854775807 →
    Calls Try.prog 31 #[.pointer (some ⟨g, 0, none⟩), .int .i64 most] W fun E W' => ∃ v, E = .returned v ∧ W'.ownsRow W.heap.size 5 1 v (tR bs e most).1.length ((tR bs e most).1.map (Value.int .u8)) ∧ Wr W' g F (tR bs e most).2.1 (tR bs e most).2.2 ∧ W.grownBy W' (some g)
  fail : ∀ (W : World) (g : Nat) (F : Nat → Prop) (bs : List Int) (e f : Int), Wr W g F bs e →
    Calls Try.prog 33 #[.pointer (some ⟨g, 0, none⟩), .int .i64 f] W fun E W' => E = .returned (.tuple #[]) ∧ Wr W' g F bs (if e = 0 then f else e) ∧ W.grownBy W' (some g)
  left : ∀ (W : World) (g : Nat) (F : Nat → Prop) (bs : List Int) (e : Int), Wr W g F bs e → bs.length ≤ 100000 →
    Calls Try.prog 35 #[.pointer (some ⟨g, 0, none⟩)] W fun E W' => E = .returned (.int .i64 bs.length) ∧ Below W.heap.size W W'
  done : ∀ (W : World) (g : Nat) (F : Nat → Prop) (bs : List Int) (e : Int), Wr W g F bs e → bs.length ≤ 100000 →
    Calls Try.prog 36 #[.pointer (some ⟨g, 0, none⟩)] W fun E W' => E = .returned (.int .i64 (if e = 0 ∧ 0 < bs.length then 5 else e)) ∧ Below W.heap.size W W'
  noFail : ∀ (W : World) (f : Int), Calls Try.prog 33 #[.pointer none, .int .i64 f] W fun E W' => E = .returned (.tuple #[]) ∧ Below W.heap.size W W'
  noNat : ∀ (W : World), Calls Try.prog 23 #[.pointer none] W fun E W' => E = .returned (.int .u64 0) ∧ Below W.heap.size W W'
  noSmall : ∀ (W : World), Calls Try.prog 25 #[.pointer none, .int .u64 9] W fun E W' => E = .returned (.int .u64 0) ∧ Below W.heap.size W W'
  noInt : ∀ (W : World), Calls Try.prog 27 #[.pointer none] W fun E W' => E = .returned (.int .i64 0) ∧ Below W.heap.size W W'
  noFlag : ∀ (W : World), Calls Try.prog 29 #[.pointer none] W fun E W' => E = .returned (.bool false) ∧ Below W.heap.size W W'
  noText : ∀ (W : World) (most : Int), -9223372036854775808 ≤ most ∧ most ≤ 9223372036854775807 → Calls Try.prog 31 #[.pointer none, .int .i64 most] W fun E W' => ∃ A c, E = .returned (.slice A 0 c) ∧ Below W.heap.size W W'
  noLeft : ∀ (W : World), Calls Try.prog 35 #[.pointer none] W fun E W' => E = .returned (.int .i64 0) ∧ Below W.heap.size W W'
  noDone : ∀ (W : World), Calls Try.prog 36 #[.pointer none] W fun E W' => E = .returned (.int .i64 1) ∧ Below W.heap.size W W'
  known : ∀ W, Calls Try.prog 10 #[] W fun E W' => E = .returned (.bool true) ∧ Below W.heap.size W W'

theorem Reads.below (K : Reads) {W W' : World} {g : Nat} {F : Nat → Prop} {bs : List Int} {e : Int} (h : K.Wr W g F bs e) (b : Below W.heap.size W W') : K.Wr W' g F bs e :=
  K.keep h fun k hk => b.block k ((K.lt h).2 k hk)
theorem grown_below {N g : Nat} {W W' : World} (h : W.grownBy W' (some g)) (hN : N ≤ W.heap.size) (hg : N ≤ g) : Below N W W' := (Below.refl N W).grown h hN fun k hk => by cases hk; exact hg

set_option maxRecDepth 100000 in
set_option maxHeartbeats 4000000 in
theorem none_walk (K : Reads) (A : Option Addr) (n c : Nat) (most e : Int) (bs : List Int) (w : World) (h : RdB w A n bs) (hy : By bs) (hn : n ≤ 100000) (h0 : A = none → n = 0 ∧ c = 0) (hm : -9223372036854775808 ≤ most ∧ most ≤ 9223372036854775807) (he : e ≠ 0) :
    Calls Try.prog 7 #[.slice A n c, .int .i64 most, .int .i64 e] w fun E w' => E = .returned (.bool true) ∧ Below w.heap.size w w' := by
  have HA := Lib.hid h
  have HY := Lib.hid hy
  have H0 := Lib.hid h0
  have HM := Lib.hid hm
  have HE := Lib.hid he
  have hl := h.1
  have HL := Lib.hid hl
  have he1 : decide (e = 0) = false := decide_eq_false he
  have he2 : (e == 0) = false := by simpa using he
  have hs : sR bs e top = (0, bs, e) := if_pos he
  have hf : fR bs e = (false, bs, e) := if_pos he
  have ht : tR bs e most = ([], bs, e) := if_pos he
  have HS := Lib.hid (And.intro hs (And.intro hf ht))
  clear h hy h0 hm he hs hf ht hl
  go_enter Try.func7, Try.ntmps7
  go_wp2_with fail
  refine (K.noFail _ _).mono ?_; rintro e0 w1 ⟨rfl, q1⟩
  have B1 := Lib.hid q1
  clear q1
  go_wp2_with fail
  refine (K.noNat _).mono ?_; rintro e0 w2 ⟨rfl, q⟩
  have B2 := Lib.hid (B1.out.trans (q.mono B1.out.size)); clear q B1
  go_wp2_with fail
  refine (K.noSmall _).mono ?_; rintro e0 w3 ⟨rfl, q⟩
  have B3 := Lib.hid (B2.out.trans (q.mono B2.out.size)); clear q B2
  go_wp2_with fail
  refine (K.noInt _).mono ?_; rintro e0 w4 ⟨rfl, q⟩
  have B4 := Lib.hid (B3.out.trans (q.mono B3.out.size)); clear q B3
  go_wp2_with fail
  refine (K.noFlag _).mono ?_; rintro e0 w5 ⟨rfl, q⟩
  have B5 := Lib.hid (B4.out.trans (q.mono B4.out.size)); clear q B4
  go_wp2_with fail
  refine (K.noText _ _ HM.out).mono ?_; rintro e0 w6 ⟨AA, cc, rfl, q⟩
  have B6 := Lib.hid (B5.out.trans (q.mono B5.out.size)); clear q B5
  go_wp2_with fail
  refine (K.noLeft _).mono ?_; rintro e0 w7 ⟨rfl, q⟩
  have B7 := Lib.hid (B6.out.trans (q.mono B6.out.size)); clear q B6
  go_wp2_with fail
  refine (K.noDone _).mono ?_; rintro e0 w8 ⟨rfl, q⟩
  have B8 := Lib.hid (B7.out.trans (q.mono B7.out.size)); clear q B7
  go_wp2_with fail
  refine (K.make A n c bs _ (HA.out.below B8.out) HY.out hn H0.out).mono ?_; rintro e0 w9 ⟨g, F, rfl, r9, q, hg, -⟩
  have B9 := Lib.hid (B8.out.trans (q.mono B8.out.size))
  have HG := Lib.hid (Nat.le_trans B8.out.size hg)
  have R9 := Lib.hid r9
  clear q B8 hg r9
  go_wp2_with fail
  refine (K.fail _ g F bs 0 e R9.out).mono ?_; rintro e0 w10 ⟨rfl, r, q⟩
  rw [if_pos rfl] at r
  have R10 := Lib.hid r
  have B10 := Lib.hid (B9.out.trans (grown_below q B9.out.size HG.out)); clear q r B9 R9
  go_wp2_with fail
  refine (K.nat _ g F bs e R10.out HY.out (by rw [HL.out]; exact hn)).mono ?_; rintro e0 w11 ⟨he0, r, q⟩
  rw [HS.out.1] at he0 r
  subst he0
  have R11 := Lib.hid r
  have B11 := Lib.hid (B10.out.trans (grown_below q B10.out.size HG.out)); clear q r B10 R10
  go_wp2_with fail
  refine (K.int _ g F bs e R11.out HY.out (by rw [HL.out]; exact hn)).mono ?_; rintro e0 w12 ⟨he0, r, q⟩
  rw [HS.out.1] at he0 r
  rw [show zz ((0 : Int), bs, e).1 = 0 from rfl] at he0
  subst he0
  have R12 := Lib.hid r
  have B12 := Lib.hid (B11.out.trans (grown_below q B11.out.size HG.out)); clear q r B11 R11
  go_wp2_with fail
  refine (K.flag _ g F bs e R12.out HY.out (by rw [HL.out]; exact hn)).mono ?_; rintro e0 w13 ⟨he0, r, q⟩
  rw [HS.out.2.1] at he0 r
  subst he0
  have R13 := Lib.hid r
  have B13 := Lib.hid (B12.out.trans (grown_below q B12.out.size HG.out)); clear q r B12 R12
  go_wp2_with fail
  refine (K.text _ g F bs e most R13.out HY.out (by rw [HL.out]; exact hn) HM.out).mono ?_; rintro e0 w14 ⟨v, he0, o, r, q⟩
  rw [HS.out.2.2] at o r
  subst he0
  obtain ⟨A2, c2, rfl, _⟩ := owns_rd (bs := []) o
  have R14 := Lib.hid r
  have B14 := Lib.hid (B13.out.trans (grown_below q B13.out.size HG.out)); clear q r o B13 R13
  go_wp2_with fail
  refine (K.left _ g F bs e R14.out (by rw [HL.out]; exact hn)).mono ?_; rintro e0 w15 ⟨he0, q⟩
  rw [HL.out] at he0
  subst he0
  have R15 := Lib.hid (K.below R14.out q)
  have B15 := Lib.hid (B14.out.trans (q.mono B14.out.size)); clear q B14 R14
  go_wp2_with fail
  refine (K.done _ g F bs e R15.out (by rw [HL.out]; exact hn)).mono ?_; rintro e0 w16 ⟨he0, q⟩
  rw [if_neg (fun c => HE.out c.1)] at he0
  subst he0
  have B16 := Lib.hid (B15.out.trans (q.mono B15.out.size)); clear q B15
  go_wp2_with fail
  refine (K.known _).mono ?_; rintro e0 w17 ⟨rfl, q⟩
  have B17 := Lib.hid (B16.out.trans (q.mono B16.out.size)); clear q B16
  go_wp2_with fail
  go_ret
  exact ⟨rfl, B17.out⟩
end Go.Proofs.Ytehmheohojnpmaa
