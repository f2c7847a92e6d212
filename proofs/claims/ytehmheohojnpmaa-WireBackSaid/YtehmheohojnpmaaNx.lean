/- Two readers side by side, the program's and the document's, each call taking both on: what stands in memory, step by step. -/
import Derived.Test.YtehmheohojnpmaaNu
namespace Go.Proofs.Ytehmheohojnpmaa
open Go.RowKit

theorem sR_by {bs : List Int} (hy : By bs) (e m : Int) : By (sR bs e m).2.1 ∧ (sR bs e m).2.1.length ≤ bs.length := by
  unfold sR
  split
  · exact ⟨hy, Nat.le_refl _⟩
  · split
    · exact ⟨hy, Nat.le_refl _⟩
    · split
      · exact ⟨hy, Nat.le_refl _⟩
      · exact ⟨fun x hx => hy x (List.mem_of_mem_drop hx), by dsimp only; rw [List.length_drop]; omega⟩
theorem fR_by {bs : List Int} (hy : By bs) (e : Int) : By (fR bs e).2.1 ∧ (fR bs e).2.1.length ≤ bs.length := by
  unfold fR
  split
  · exact ⟨hy, Nat.le_refl _⟩
  · split
    · exact ⟨hy, Nat.le_refl _⟩
    · split
      · exact ⟨hy, Nat.le_refl _⟩
      · exact ⟨fun x hx => hy x (List.mem_of_mem_drop hx), by dsimp only; rw [List.length_drop]; omega⟩
theorem tR_by {bs : List Int} (hy : By bs) (e m : Int) : By (tR bs e m).2.1 ∧ (tR bs e m).2.1.length ≤ bs.length ∧ (tR bs e m).1.length ≤ bs.length := by
  unfold tR
  split
  · exact ⟨hy, Nat.le_refl _, Nat.zero_le _⟩
  · split
    · exact ⟨hy, Nat.le_refl _, Nat.zero_le _⟩
    · split
      · exact ⟨hy, Nat.le_refl _, Nat.zero_le _⟩
      · split
        · exact ⟨hy, Nat.le_refl _, Nat.zero_le _⟩
        · exact ⟨fun x hx => hy x (List.mem_of_mem_drop hx), by dsimp only; rw [List.length_drop]; omega, by dsimp only; rw [List.length_take, List.length_drop]; omega⟩

theorem RdB.under {W W' : World} {A : Option Addr} {n M : Nat} {bs : List Int} (r : RdB W A n bs) (hA : 0 < n → ∀ a, A = some a → a.block < M) (h : ∀ k, k < M → W'.heap[k]? = W.heap[k]?) : RdB W' A n bs :=
  ⟨r.1, fun hn => by
    obtain ⟨b, o, e, hc⟩ := r.2 hn
    exact ⟨b, o, e, fun j hj => (World.cell?_of_block (h b (hA hn _ e))).trans (hc j hj)⟩⟩
/-- Bytes in memory stay when a reader's own block turns. -/
theorem RdB.past {W W' : World} {A A' : Option Addr} {n n' c' g : Nat} {bs bs' : List Int} {e : Int} (r : RdB W A n bs) (q : Rq W g A' n' c' bs' e) (h : W.grownBy W' (some g)) : RdB W' A n bs :=
  ⟨r.1, fun hn => by
    obtain ⟨b, o, e1, hc⟩ := r.2 hn
    exact ⟨b, o, e1, fun j hj => (World.cell?_of_block (h.block b (World.block_lt_of_cell? W _ (hc j hj)) (fun e2 => q.far (hc j hj) (by cases e2; rfl)))).trans (hc j hj)⟩⟩
theorem RdB.past2 {W W' : World} {A A' : Option Addr} {n n' c' g : Nat} {bs bs' : List Int} {e : Int} (r : RdB W A n bs) (q : Rr W g A' n' c' bs' e) (h : W.grownBy W' (some g)) : RdB W' A n bs :=
  ⟨r.1, fun hn => by
    obtain ⟨b, o, e1, hc⟩ := r.2 hn
    exact ⟨b, o, e1, fun j hj => (World.cell?_of_block (h.block b (World.block_lt_of_cell? W _ (hc j hj)) (fun e2 => q.far (hc j hj) (by cases e2; rfl)))).trans (hc j hj)⟩⟩

/-- Both readers, and the list lent to the program's, in the world W. -/
structure RS (w : World) (M g g2 gi cap n : Nat) (bs0 b1 : List Int) (e1 : Int) (b2 : List Int) (e2 : Int) (W : World) : Prop where
  r : ∃ A k c, Rq W g A k c b1 e1 ∧ ∀ a, A = some a → a.block < M
  q : ∃ A k c, Rr W g2 A k c b2 e2 ∧ (0 < k → ∀ a, A = some a → a.block < M)
  o : W.ownsRow w.heap.size 5 1 (.slice (some ⟨gi, 0, none⟩) (n + 1) cap) (n + 1) ((bs0 ++ [77]).map (Value.int .u8))
  b : Below w.heap.size w W
  m : g < M ∧ g2 < M ∧ gi < M ∧ M ≤ W.heap.size
  h : w.heap.size ≤ g ∧ w.heap.size ≤ g2 ∧ w.heap.size ≤ gi
  d : g ≠ g2 ∧ gi ≠ g ∧ gi ≠ g2
section
variable {w W W' : World} {M g g2 gi cap n : Nat} {bs0 b1 b2 : List Int} {e1 e2 : Int}
theorem RS.keep (s : RS w M g g2 gi cap n bs0 b1 e1 b2 e2 W) (k : Below M W W') : RS w M g g2 gi cap n bs0 b1 e1 b2 e2 W' := by
  obtain ⟨⟨A, n1, c1, hq, hA⟩, ⟨A2, n2, c2, hr, hA2⟩, o, b, ⟨m1, m2, m3, m4⟩, h, d⟩ := s
  refine ⟨⟨A, n1, c1, ⟨(k.block g m1).trans hq.b, hq.r.under (fun _ => hA) k.block, hq.nc⟩, hA⟩, ⟨A2, n2, c2, ⟨(k.block g2 m2).trans hr.b, hr.r.under hA2 k.block, hr.nc⟩, hA2⟩, ?_, b.trans (k.mono (by omega)), ⟨m1, m2, m3, Nat.le_trans m4 k.size⟩, h, d⟩
  obtain ⟨g', cap', cur, e, hg, rest⟩ := o.2.resolve_left (fun c => by cases c.1)
  cases e
  exact ⟨o.1, .inr ⟨gi, cap, cur, rfl, hg, (k.block gi m3).trans rest.1, rest.2⟩⟩
theorem RS.both (s : RS w M g g2 gi cap n bs0 b1 e1 b2 e2 W) (k : Below W.heap.size W W') : RS w M g g2 gi cap n bs0 b1 e1 b2 e2 W' := s.keep (k.mono s.m.2.2.2)
theorem RS.stepR (s : RS w M g g2 gi cap n bs0 b1 e1 b2 e2 W) {A : Option Addr} {k c : Nat} (hq : Rq W g A k c b1 e1) (hA : ∀ a, A = some a → a.block < M) {b' : List Int} {e' : Int} (hd : Dd W g A b' e' W') : RS w M g g2 gi cap n bs0 b' e' b2 e2 W' := by
  obtain ⟨⟨A', n', c', hq', hb⟩, hgr⟩ := hd
  obtain ⟨-, ⟨A2, n2, c2, hr, hA2⟩, o, b, ⟨m1, m2, m3, m4⟩, h, d⟩ := s
  refine ⟨⟨A', n', c', hq', fun a' ha => ?_⟩, ⟨A2, n2, c2, ⟨(hgr.block g2 hr.lt (fun e => d.1 (by cases e; rfl))).trans hr.b, hr.r.past hq hgr, hr.nc⟩, hA2⟩, o.kept hgr (.inr (fun e => d.2.1 (by cases e; rfl))), b.grown hgr (by omega) (fun k hk => by cases hk; exact h.1), ⟨m1, m2, m3, Nat.le_trans m4 hgr.size⟩, h, d⟩
  obtain ⟨a, h1, h2⟩ := hb a' ha
  rw [h2]; exact hA a h1
theorem RS.stepQ (s : RS w M g g2 gi cap n bs0 b1 e1 b2 e2 W) {A : Option Addr} {k c : Nat} (hr : Rr W g2 A k c b2 e2) (hA : 0 < k → ∀ a, A = some a → a.block < M) {b' : List Int} {e' : Int} (hlen : b'.length ≤ b2.length) (hd : Did W g2 A b' e' W') : RS w M g g2 gi cap n bs0 b1 e1 b' e' W' := by
  obtain ⟨⟨A', n', c', hr', hb⟩, hgr⟩ := hd
  obtain ⟨⟨A2, n2, c2, hq, hA2⟩, -, o, b, ⟨m1, m2, m3, m4⟩, h, d⟩ := s
  refine ⟨⟨A2, n2, c2, ⟨(hgr.block g hq.lt (fun e => d.1 (by cases e; rfl))).trans hq.b, hq.r.past2 hr hgr, hq.nc⟩, hA2⟩, ⟨A', n', c', hr', fun hn' a' ha => ?_⟩, o.kept hgr (.inr (fun e => d.2.2 (by cases e; rfl))), b.grown hgr (by omega) (fun k hk => by cases hk; exact h.2.1), ⟨m1, m2, m3, Nat.le_trans m4 hgr.size⟩, h, d⟩
  obtain ⟨a, h1, h2⟩ := hb a' ha
  rw [h2]; exact hA (by have h5 := hr'.r.1; have h6 := hr.r.1; omega) a h1

variable (s : RS w M g g2 gi cap n bs0 b1 e1 b2 e2 W)
include s
theorem rs_nat (hy : By b1) (hl : b1.length ≤ 100000) : Calls Try.prog 23 #[.pointer (some ⟨g, 0, none⟩)] W fun E W' => E = .returned (.int .u64 (sR b1 e1 top).1) ∧ RS w M g g2 gi cap n bs0 (sR b1 e1 top).2.1 (sR b1 e1 top).2.2 b2 e2 W' := by
  obtain ⟨A, k, c, hq, hA⟩ := s.r
  exact (nat_any g k c A b1 e1 W hq hy (by have := hq.r.1; omega)).mono fun E W' h => ⟨h.1, s.stepR hq hA h.2⟩
theorem rs_small (most : Int) (hy : By b1) (hl : b1.length ≤ 100000) : Calls Try.prog 25 #[.pointer (some ⟨g, 0, none⟩), .int .u64 most] W fun E W' => E = .returned (.int .u64 (sR b1 e1 most).1) ∧ RS w M g g2 gi cap n bs0 (sR b1 e1 most).2.1 (sR b1 e1 most).2.2 b2 e2 W' := by
  obtain ⟨A, k, c, hq, hA⟩ := s.r
  exact (small_any g k c A b1 e1 most W hq hy (by have := hq.r.1; omega)).mono fun E W' h => ⟨h.1, s.stepR hq hA h.2⟩
theorem rs_int (hy : By b1) (hl : b1.length ≤ 100000) : Calls Try.prog 27 #[.pointer (some ⟨g, 0, none⟩)] W fun E W' => E = .returned (.int .i64 (zz (sR b1 e1 top).1)) ∧ RS w M g g2 gi cap n bs0 (sR b1 e1 top).2.1 (sR b1 e1 top).2.2 b2 e2 W' := by
  obtain ⟨A, k, c, hq, hA⟩ := s.r
  exact (int_any g k c A b1 e1 W hq hy (by have := hq.r.1; omega)).mono fun E W' h => ⟨h.1, s.stepR hq hA h.2⟩
theorem rs_flag (hy : By b1) (hl : b1.length ≤ 100000) : Calls Try.prog 29 #[.pointer (some ⟨g, 0, none⟩)] W fun E W' => E = .returned (.bool (fR b1 e1).1) ∧ RS w M g g2 gi cap n bs0 (fR b1 e1).2.1 (fR b1 e1).2.2 b2 e2 W' := by
  obtain ⟨A, k, c, hq, hA⟩ := s.r
  exact (flag_any g k c A b1 e1 W hq hy (by have := hq.r.1; omega)).mono fun E W' h => ⟨h.1, s.stepR hq hA h.2⟩
theorem rs_text (most : Int) (hy : By b1) (hl : b1.length ≤ 100000) (hm : -9223372036854775808 ≤ most ∧ most ≤ 9223372036854775807) : Calls Try.prog 31 #[.pointer (some ⟨g, 0, none⟩), .int .i64 most] W fun E W' =>
    ∃ v, E = .returned v ∧ W'.ownsRow M 5 1 v (tR b1 e1 most).1.length ((tR b1 e1 most).1.map (Value.int .u8)) ∧ RS w M g g2 gi cap n bs0 (tR b1 e1 most).2.1 (tR b1 e1 most).2.2 b2 e2 W' := by
  obtain ⟨A, k, c, hq, hA⟩ := s.r
  exact (text_any g k c A b1 e1 most W hq hy (by have := hq.r.1; omega) hm).mono fun E W' h => by
    obtain ⟨v, h1, h2, h3⟩ := h
    exact ⟨v, h1, own_less h2 s.m.2.2.2, s.stepR hq hA h3⟩
theorem rs_fail (f : Int) : Calls Try.prog 33 #[.pointer (some ⟨g, 0, none⟩), .int .i64 f] W fun E W' => E = .returned (.tuple #[]) ∧ RS w M g g2 gi cap n bs0 b1 (if e1 = 0 then f else e1) b2 e2 W' := by
  obtain ⟨A, k, c, hq, hA⟩ := s.r
  exact (fail_any g k c A b1 e1 f W hq).mono fun E W' h => ⟨h.1, s.stepR hq hA h.2⟩
theorem rs_left : Calls Try.prog 35 #[.pointer (some ⟨g, 0, none⟩)] W fun E W' => E = .returned (.int .i64 b1.length) ∧ W = W' := by
  obtain ⟨A, k, c, hq, hA⟩ := s.r
  exact left_any g k c A b1 e1 W hq
theorem rs_done (hl : b1.length ≤ 100000) : Calls Try.prog 36 #[.pointer (some ⟨g, 0, none⟩)] W fun E W' => E = .returned (.int .i64 (if e1 = 0 ∧ 0 < b1.length then 5 else e1)) ∧ W = W' := by
  obtain ⟨A, k, c, hq, hA⟩ := s.r
  exact done_any g k c A b1 e1 W hq (by have := hq.r.1; omega)
theorem rq_nat (hy : By b2) (hl : b2.length ≤ 100000) : Calls Try.prog 24 #[.pointer (some ⟨g2, 0, none⟩)] W fun E W' => E = .returned (.int .u64 (sR b2 e2 top).1) ∧ RS w M g g2 gi cap n bs0 b1 e1 (sR b2 e2 top).2.1 (sR b2 e2 top).2.2 W' := by
  obtain ⟨A, k, c, hq, hA⟩ := s.q
  exact (rnatr_any g2 k c A b2 e2 W hq hy (by have := hq.r.1; omega)).mono fun E W' h => ⟨h.1, s.stepQ hq hA (sR_by hy _ _).2 h.2⟩
theorem rq_small (most : Int) (hy : By b2) (hl : b2.length ≤ 100000) : Calls Try.prog 26 #[.pointer (some ⟨g2, 0, none⟩), .int .u64 most] W fun E W' => E = .returned (.int .u64 (sR b2 e2 most).1) ∧ RS w M g g2 gi cap n bs0 b1 e1 (sR b2 e2 most).2.1 (sR b2 e2 most).2.2 W' := by
  obtain ⟨A, k, c, hq, hA⟩ := s.q
  exact (rsmall_any g2 k c A b2 e2 most W hq hy (by have := hq.r.1; omega)).mono fun E W' h => ⟨h.1, s.stepQ hq hA (sR_by hy _ _).2 h.2⟩
theorem rq_int (hy : By b2) (hl : b2.length ≤ 100000) : Calls Try.prog 28 #[.pointer (some ⟨g2, 0, none⟩)] W fun E W' => E = .returned (.int .i64 (zz (sR b2 e2 top).1)) ∧ RS w M g g2 gi cap n bs0 b1 e1 (sR b2 e2 top).2.1 (sR b2 e2 top).2.2 W' := by
  obtain ⟨A, k, c, hq, hA⟩ := s.q
  exact (rintr_any g2 k c A b2 e2 W hq hy (by have := hq.r.1; omega)).mono fun E W' h => ⟨h.1, s.stepQ hq hA (sR_by hy _ _).2 h.2⟩
theorem rq_flag (hy : By b2) (hl : b2.length ≤ 100000) : Calls Try.prog 30 #[.pointer (some ⟨g2, 0, none⟩)] W fun E W' => E = .returned (.bool (fR b2 e2).1) ∧ RS w M g g2 gi cap n bs0 b1 e1 (fR b2 e2).2.1 (fR b2 e2).2.2 W' := by
  obtain ⟨A, k, c, hq, hA⟩ := s.q
  exact (rflagr_any g2 k c A b2 e2 W hq hy (by have := hq.r.1; omega)).mono fun E W' h => ⟨h.1, s.stepQ hq hA (fR_by hy _).2 h.2⟩
theorem rq_text (most : Int) (hy : By b2) (hl : b2.length ≤ 100000) (hm : -9223372036854775808 ≤ most ∧ most ≤ 9223372036854775807) {v : Value} {m : Nat} {xs : List Value} (hv : W.ownsRow M 5 1 v m xs) : Calls Try.prog 32 #[.pointer (some ⟨g2, 0, none⟩), .int .i64 most] W fun E W' =>
    ∃ A c, E = .returned (.slice A (tR b2 e2 most).1.length c) ∧ RdB W' A (tR b2 e2 most).1.length (tR b2 e2 most).1 ∧ W'.ownsRow M 5 1 v m xs ∧ RS w M g g2 gi cap n bs0 b1 e1 (tR b2 e2 most).2.1 (tR b2 e2 most).2.2 W' := by
  obtain ⟨A, k, c, hq, hA⟩ := s.q
  exact (rtextr_any g2 k c A b2 e2 most W hq hy (by have := hq.r.1; omega) hm).mono fun E W' h => by
    obtain ⟨v2, h1, h2, h3⟩ := h
    obtain ⟨A2, c2, rfl, r2⟩ := owns_rd h2
    refine ⟨A2, c2, h1, r2, hv.kept h3.2 ?_, s.stepQ hq hA (tR_by hy _ _).2.1 h3⟩
    cases hb : v.ownBlock with
    | none => exact .inl rfl
    | some k => exact .inr (fun e => by cases e; have := (hv.lt _ hb).1; have := s.m.2.1; omega)
theorem rq_fail (f : Int) : Calls Try.prog 34 #[.pointer (some ⟨g2, 0, none⟩), .int .i64 f] W fun E W' => E = .returned (.tuple #[]) ∧ RS w M g g2 gi cap n bs0 b1 e1 b2 (if e2 = 0 then f else e2) W' := by
  obtain ⟨A, k, c, hq, hA⟩ := s.q
  exact (rfail_any g2 k c A b2 e2 f W hq).mono fun E W' h => ⟨h.1, s.stepQ hq hA (Nat.le_refl _) h.2⟩
theorem rq_done (hl : b2.length ≤ 100000) : Calls Try.prog 37 #[.pointer (some ⟨g2, 0, none⟩)] W fun E W' => E = .returned (.int .i64 (if e2 = 0 ∧ 0 < b2.length then 5 else e2)) ∧ W = W' := by
  obtain ⟨A, k, c, hq, hA⟩ := s.q
  exact rdone_any g2 k c A b2 e2 W hq (by have := hq.r.1; omega)
end
/-- A byte is written in a row of one's own. -/
theorem own_put {W : World} {base gt nt cap k : Nat} {xs : List Int} (o : W.ownsRow base 5 1 (.slice (some ⟨gt, 0, none⟩) nt cap) nt (xs.map (Value.int .u8))) (y : Int) :
    (W.setCell ⟨gt, k, none⟩ (.int .u8 y)).ownsRow base 5 1 (.slice (some ⟨gt, 0, none⟩) nt cap) nt ((xs.set k y).map (Value.int .u8)) ∧ W.frozen? ⟨gt, k, none⟩ = false ∧ base ≤ gt := by
  obtain ⟨g', cap', cur, e, hg, hh, hn, hm, hs, ht⟩ := o.2.resolve_left (fun c => by cases c.1)
  cases e
  refine ⟨⟨?_, .inr ⟨gt, cap, cur.setIfInBounds k (.int .u8 y), rfl, hg, heap_setCell_same W gt k cur _ _ hh, hn, hm, by rw [Array.size_setIfInBounds]; exact hs, ?_⟩⟩, frozen_of_row W gt k _ _ hh, hg⟩
  · have := o.1
    rw [List.length_map] at this
    rw [List.length_map, List.length_set]; exact this
  · rw [Array.toList_setIfInBounds, List.take_set, ht, List.map_set]
end Go.Proofs.Ytehmheohojnpmaa
