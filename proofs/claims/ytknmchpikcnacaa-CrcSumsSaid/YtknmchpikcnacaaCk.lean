/- What the walks of the statements about CRC-32 ask of the program's own calls. -/
import Derived.Test.YtknmchpikcnacaaCs
import Derived.Lib.SmallJoins
import Derived.Lib.SlBytesConst
namespace Go.Proofs.Ytknmchpikcnacaa
open Go.RowKit

/-- Parts in memory: a list of lists of bytes. -/
def PtsAt (w : World) (A : Option Addr) (m : Nat) (ps : List Pt) : Prop :=
  ps.length = m ∧ (∀ p, p ∈ ps → p.ok w) ∧ (0 < m → ∃ g o, A = some ⟨g, o, none⟩ ∧ ∀ j p, ps[j]? = some p → w.cell? ⟨g, o + j, none⟩ = some p.v)
theorem PtsAt.below {w w' : World} {A : Option Addr} {m : Nat} {ps : List Pt} (h : PtsAt w A m ps) (b : Below w.heap.size w w') : PtsAt w' A m ps :=
  ⟨h.1, fun p hp => (h.2.1 p hp).below b, fun hm => by
    obtain ⟨g, o, e, hc⟩ := h.2.2 hm
    exact ⟨g, o, e, fun j p hj => (b.cell (p := ⟨g, o + j, none⟩) (World.block_lt_of_cell? w _ (hc j p hj))).trans (hc j p hj)⟩⟩
structure Crc : Prop where
  sum : ∀ (A : Option Addr) (m c : Nat) (ps : List Pt) (w : World), PtsAt w A m ps → By (cat ps) → (cat ps).length ≤ 1000000 → m ≤ 1000000 →
    Calls Try.prog 11 #[.slice A m c] w fun e w' => e = .returned (.int .u32 (Cr.cs (cat ps))) ∧ Below w.heap.size w w'
  more : ∀ (s n c : Nat) (A : Option Addr) (bs : List Int) (w : World), s < 4294967296 → RdB w A n bs → By bs → n ≤ 1000000 →
    Calls Try.prog 15 #[.int .u32 s, .slice A n c] w fun e w' => e = .returned (.int .u32 (Cr.M ^^^ Cr.st (Cr.M ^^^ s) bs : Nat)) ∧ Below w.heap.size w w'
  join : ∀ (a b n : Nat) (w : World), a < 4294967296 → b < 4294967296 → n ≤ 1000000 →
    Calls Try.prog 13 #[.int .u32 a, .int .u32 b, .int .i64 n] w fun e w' => e = .returned (.tuple #[.int .u32 (Cr.run a (fun _ => false) (8 * n) ^^^ b : Nat), .int .i64 0]) ∧ Below w.heap.size w w'
  joinNeg : ∀ (a b n : Int) (w : World), n < 0 →
    Calls Try.prog 13 #[.int .u32 a, .int .u32 b, .int .i64 n] w fun e w' => e = .returned (.tuple #[.int .u32 0, .int .i64 2]) ∧ Below w.heap.size w w'

theorem one_at (W : World) (p : Pt) : ∀ j r, [p][j]? = some r → (W.alloc (.cells #[p.v] 23)).cell? ⟨W.heap.size, 0 + j, none⟩ = some r.v := by
  intro j r h
  match j, h with
  | 0, h => simp at h; subst h; simp
theorem pts_one {W : World} {p : Pt} (h : p.ok W) : PtsAt (W.alloc (.cells #[p.v] 23)) (some ⟨W.heap.size, 0, none⟩) 1 [p] :=
  ⟨rfl, fun q hq => by
    simp only [List.mem_cons, List.not_mem_nil, or_false] at hq
    subst hq
    exact h.below ((Below.refl _ W).alloc (Nat.le_refl _) _), fun _ => ⟨_, _, rfl, one_at W p⟩⟩
theorem pts_two {W : World} {p q : Pt} (h : p.ok W) (h2 : q.ok W) : PtsAt (W.alloc (.cells #[p.v, q.v] 23)) (some ⟨W.heap.size, 0, none⟩) 2 [p, q] :=
  ⟨rfl, fun r hr => by
    simp only [List.mem_cons, List.not_mem_nil, or_false] at hr
    rcases hr with rfl | rfl
    · exact h.below ((Below.refl _ W).alloc (Nat.le_refl _) _)
    · exact h2.below ((Below.refl _ W).alloc (Nat.le_refl _) _), fun _ => ⟨_, _, rfl, fun j r hj => by rw [Nat.zero_add]; exact two_at W p q j r hj⟩⟩

theorem rdb_mark (w : World) (C : List Int) (fr : Nat × Nat) (n : Nat) (hn : C.length = n) : RdB (w.alloc (.cells (C.map (Value.int .u8)).toArray 5 fr)) (some ⟨w.heap.size, 0, none⟩) n C :=
  ⟨hn, fun _ => ⟨_, _, rfl, fun j hj => by
    rw [World.cell?_alloc_mark]
    simp [List.getD, show j < C.length by omega]⟩⟩

set_option maxRecDepth 100000 in
theorem known_crc (K : Crc) (w : World) : Calls Try.prog 10 #[] w fun e w' => e = .returned (.bool true) ∧ Below w.heap.size w w' := by
  have kc1 := Lib.run_convert_bytes_const (P := Try.prog) w 23 5 #[.int .u8 49, .int .u8 50, .int .u8 51, .int .u8 52] 4 4 Try.underlying23 Try.underlying5
  obtain ⟨w1, hw1⟩ : ∃ w1, w.alloc (.cells #[.int .u8 49, .int .u8 50, .int .u8 51, .int .u8 52] 5 (4, 5)) = w1 := ⟨_, rfl⟩
  rw [show (w.alloc (.cells #[.int .u8 49, .int .u8 50, .int .u8 51, .int .u8 52] 5 ((#[.int .u8 49, .int .u8 50, .int .u8 51, .int .u8 52] : Array Value).size, (#[.int .u8 49, .int .u8 50, .int .u8 51, .int .u8 52] : Array Value).size + 1))) = w1 from hw1] at kc1
  have hs1 : w1.heap.size = w.heap.size + 1 := by rw [← hw1]; simp
  have kc2 := Lib.run_convert_bytes_const (P := Try.prog) w1 23 5 #[.int .u8 53, .int .u8 54, .int .u8 55, .int .u8 56, .int .u8 57] 5 5 Try.underlying23 Try.underlying5
  obtain ⟨w2, hw2⟩ : ∃ w2, w1.alloc (.cells #[.int .u8 53, .int .u8 54, .int .u8 55, .int .u8 56, .int .u8 57] 5 (5, 6)) = w2 := ⟨_, rfl⟩
  rw [show (w1.alloc (.cells #[.int .u8 53, .int .u8 54, .int .u8 55, .int .u8 56, .int .u8 57] 5 ((#[.int .u8 53, .int .u8 54, .int .u8 55, .int .u8 56, .int .u8 57] : Array Value).size, (#[.int .u8 53, .int .u8 54, .int .u8 55, .int .u8 56, .int .u8 57] : Array Value).size + 1))) = w2 from hw2] at kc2
  have hs2 : w2.heap.size = w.heap.size + 1 + 1 := by rw [← hw2, size_alloc, hs1]
  have B1 : Below w.heap.size w w1 := by rw [← hw1]; exact (Below.refl _ w).alloc (Nat.le_refl _) _
  have B2 : Below w1.heap.size w1 w2 := by rw [← hw2]; exact (Below.refl _ w1).alloc (Nat.le_refl _) _
  have R1 : RdB w1 (some ⟨w.heap.size, 0, none⟩) 4 [49, 50, 51, 52] := by rw [← hw1]; exact rdb_mark w [49, 50, 51, 52] (4, 5) 4 rfl
  have R2 : RdB w2 (some ⟨w1.heap.size, 0, none⟩) 5 [53, 54, 55, 56, 57] := by rw [← hw2]; exact rdb_mark w1 [53, 54, 55, 56, 57] (5, 6) 5 rfl
  have PT := pts_two (W := w2) (p := ⟨some ⟨w.heap.size, 0, none⟩, 4, 4, [49, 50, 51, 52]⟩) (q := ⟨some ⟨w1.heap.size, 0, none⟩, 5, 5, [53, 54, 55, 56, 57]⟩) ⟨R1.below B2, fun h => by cases h⟩ ⟨R2, fun h => by cases h⟩
  have S := Lib.hid (K.sum _ 2 2 _ _ PT (by intro x hx; simp [cat] at hx; omega) (by simp [cat]) (by decide))
  rw [show cat [⟨some ⟨w.heap.size, 0, none⟩, 4, 4, [49, 50, 51, 52]⟩, ⟨some ⟨w1.heap.size, 0, none⟩, 5, 5, [53, 54, 55, 56, 57]⟩] = [49, 50, 51, 52, 53, 54, 55, 56, 57] from rfl, Cr.known_sum] at S
  have B := Lib.hid ((B1.trans (B2.mono (by omega))).alloc (by have := B1.size; have := B2.size; omega) (.cells #[Pt.v ⟨some ⟨w.heap.size, 0, none⟩, 4, 4, [49, 50, 51, 52]⟩, Pt.v ⟨some ⟨w1.heap.size, 0, none⟩, 5, 5, [53, 54, 55, 56, 57]⟩] 23))
  clear B1 B2 R1 R2 PT hw1 hw2
  unfold Pt.v at S B
  rw [hs1] at kc2 B
  rw [hs1, hs2] at S
  go_enter Try.func10, Try.ntmps10
  go_wp2_with fail
  refine S.out.mono ?_; rintro e w3 ⟨rfl, q⟩
  have BB := Lib.hid (B.out.trans (q.mono B.out.size))
  clear q
  go_wp2_with fail
  go_ret
  exact ⟨rfl, BB.out⟩
end Go.Proofs.Ytknmchpikcnacaa
