/- LedgerPlays: the program's and the document's ledger side by side; how many positions a script can lead to. -/
import Derived.Test.YtdaknfpifionoaaOf
import Derived.Test.YtdaknfpifionoaaLe
import Derived.Test.YtdaknfpifionoaaLd
import Derived.Test.YtdaknfpifionoaaMr
namespace Go.Proofs.Ytdaknfpifionoaa
open Go.RowKit Go.Shelf
set_option linter.unusedVariables false
set_option linter.unusedSimpArgs false

/-- At most two new places a call. -/
def Cap (m : Nat) (L : Lg) : Prop := ∃ Ks : List (Int × Int), Ks.length ≤ 2 * m ∧ ∀ p, p ∈ L.hl → MP.key p ∈ Ks
section
variable {m : Nat} {L L' : Lg}
theorem Cap.same (h : Cap m L) (e : L'.hl = L.hl) : Cap (m + 1) L' := by
  obtain ⟨Ks, h1, h2⟩ := h
  exact ⟨Ks, by omega, by rw [e]; exact h2⟩
theorem setA_hl (a : Ac) : (setA L a).hl = L.hl := by unfold setA; split <;> rfl
theorem dep_hl (n m : Int) : (depL L n m).hl = L.hl := by
  unfold depL
  split
  · exact setA_hl _
  · rfl
theorem wit_hl (n m : Int) : (witL L n m).hl = L.hl := by
  unfold witL
  split
  · exact setA_hl _
  · rfl
theorem set_hl (a : Ac) : (setL L a).hl = L.hl := by
  unfold setL
  split
  · exact setA_hl _
  · rfl
theorem Cap.tra (h : Cap m L) (c b s p n : Int) : Cap (m + 1) (traL L c b s p n) := by
  obtain ⟨Ks, h1, h2⟩ := h
  unfold traL
  split
  · refine ⟨(c, b) :: (c, s) :: Ks, by simp only [List.length_cons]; omega, fun q hq => ?_⟩
    rcases mem_hold hq with ⟨rfl, _⟩ | ⟨hq, _⟩
    · exact List.mem_cons_of_mem _ (List.mem_cons_self ..)
    · rcases mem_hold hq with ⟨rfl, _⟩ | ⟨hq, _⟩
      · exact List.mem_cons_self ..
      · exact List.mem_cons_of_mem _ (List.mem_cons_of_mem _ (h2 q hq))
  · exact ⟨Ks, by omega, h2⟩
theorem marP_keyE (p : Int) (cl : Bool) (x : Po) : MP.key (marP p cl x) = MP.key x := by unfold marP; split <;> rfl
theorem marH_mem (p : Int) (cl : Bool) {Ks : List (Int × Int)} : ∀ (pre hl : List Po), (∀ x, x ∈ pre → MP.key x ∈ Ks) → (∀ x, x ∈ hl → MP.key x ∈ Ks) → ∀ q, q ∈ marH p cl pre hl → MP.key q ∈ Ks
  | [], hl, _, h2 => h2
  | x :: pre, hl, h1, h2 => by
    intro q hq
    have hq' : q ∈ marH p cl pre (holdL hl (marP p cl x)) := hq
    refine marH_mem p cl pre (holdL hl (marP p cl x)) (fun y hy => h1 y (List.mem_cons_of_mem _ hy)) (fun y hy => ?_) q hq'
    rcases mem_hold hy with ⟨rfl, _⟩ | ⟨hy, _⟩
    · rw [marP_keyE]; exact h1 x (List.mem_cons_self ..)
    · exact h2 y hy
theorem Cap.mar (h : Cap m L) (c p : Int) (cl : Bool) : Cap (m + 1) (marL L c p cl) := by
  obtain ⟨Ks, h1, h2⟩ := h
  unfold marL
  split
  · exact ⟨Ks, by omega, marH_mem p cl _ _ (fun x hx => h2 x (List.mem_filter.1 hx).1) h2⟩
  · exact ⟨Ks, by omega, h2⟩
theorem len_keys : ∀ {hl : List Po} (h : SrtP hl) {Ks : List (Int × Int)}, (∀ p, p ∈ hl → MP.key p ∈ Ks) → hl.length ≤ Ks.length
  | [], _, _, _ => Nat.zero_le _
  | p :: t, h, Ks, hk => by
    have hd := h.dis
    rw [List.pairwise_cons] at hd
    have hp : MP.key p ∈ Ks := hk p (List.mem_cons_self ..)
    have e := List.length_erase_of_mem hp
    have : 0 < Ks.length := List.length_pos_of_mem hp
    have r := len_keys (hl := t) (List.pairwise_cons.1 h).2 (Ks := Ks.erase (MP.key p)) (fun q hq => (List.mem_erase_of_ne (fun c => hd.1 q hq c.symm)).2 (hk q (List.mem_cons_of_mem _ hq)))
    rw [e] at r
    rw [List.length_cons]
    omega
theorem Cap.len (h : Cap m L) (hi : LgI L) : L.hl.length ≤ 2 * m := by
  obtain ⟨Ks, h1, h2⟩ := h
  exact Nat.le_trans (len_keys hi.psr h2) h1
theorem Cap.new : Cap 0 ⟨0, [], []⟩ := ⟨[], Nat.le_refl _, fun p h => nomatch h⟩
end
theorem marx_ok9 {L : Lg} (h : LgI L) (c p : Int) : ∀ t, t ∈ marX L c p → t.ok := by
  intro t ht
  unfold marX at ht
  split at ht
  · rename_i e
    obtain ⟨x, hx, rfl⟩ := List.mem_map.1 ht
    have hx' := (List.mem_filter.1 hx).1
    obtain ⟨⟨h1, h2⟩, ⟨h3, h4⟩, -⟩ := h.pok x hx'
    have hp : 1 ≤ p ∧ p ≤ 10000000 := by
      unfold marE at e
      split at e
      · cases e
      · rename_i ne
        have : oneB p mQ = true := by
          cases q : oneB p mQ
          · exact absurd (.inr q) ne
          · rfl
        simpa [oneB, mQ] using this
    simp only [mQ, mF] at h3 h4
    have q1 : x.q * p ≤ 10000000 * p := Int.mul_le_mul_of_nonneg_right h3.2 (by omega)
    have q2 : -10000000 * p ≤ x.q * p := Int.mul_le_mul_of_nonneg_right h3.1 (by omega)
    exact ⟨by show 0 ≤ x.ac ∧ x.ac ≤ 4294967295; omega, by show -9223372036854775808 ≤ x.q * p - x.b ∧ x.q * p - x.b ≤ 9223372036854775807; omega⟩
  · cases ht
theorem pos_ok9 {L : Lg} (h : LgI L) {c a : Int} (hc : U32' c) (ha : U32' a) : (posH L.hl c a).ok := by
  unfold posH
  cases e : MP.at L.hl (c, a) with
  | none => exact ⟨hc, ha, by show (-9223372036854775808 : Int) ≤ 0 ∧ (0 : Int) ≤ 9223372036854775807; omega, by show (-9223372036854775808 : Int) ≤ 0 ∧ (0 : Int) ≤ 9223372036854775807; omega⟩
  | some p => exact hok_po h (at_inv e).1
theorem get_ok9 {L : Lg} (h : LgI L) (n : Int) : (getL L n).1.ok := by
  have hf := h.fund
  simp only [mF] at hf
  rcases getL_cases L n with ⟨_, e⟩ | ⟨_, _, e⟩ | ⟨a, _, _, ha, _, e⟩ <;> rw [e]
  · exact ⟨by show (0 : Int) ≤ 0 ∧ (0 : Int) ≤ 4294967295; omega, by show -9223372036854775808 ≤ L.fund ∧ L.fund ≤ 9223372036854775807; omega⟩
  · exact ⟨by show (0 : Int) ≤ 0 ∧ (0 : Int) ≤ 4294967295; omega, by show (-9223372036854775808 : Int) ≤ 0 ∧ (0 : Int) ≤ 9223372036854775807; omega⟩
  · exact hok_ac h ha
/-- Both ledgers, of the call's own, apart. -/
structure Pj (w W : World) (g ba bp gr : Nat) (va vh : Value) (L : Lg) : Prop where
  d : Dl W g ba bp L
  r : Rl W w.heap.size gr va vh L
  b : Below w.heap.size w W
  n : ∀ k, LdS g ba bp k → w.heap.size ≤ k
  ap : ∀ k, RlS gr va vh k → ¬ LdS g ba bp k
section
variable {w W W' W1 W2 : World} {g ba bp gr g2 a2 p2 : Nat} {va vh : Value} {L L' : Lg}
theorem Pj.below (h : Pj w W g ba bp gr va vh L) (q : Below W.heap.size W W') : Pj w W' g ba bp gr va vh L :=
  ⟨h.d.below q, h.r.below q, h.b.trans (q.mono h.b.size), h.n, h.ap⟩
theorem Pj.drew (h : Pj w W g ba bp gr va vh L) : Pj w W.drew g ba bp gr va vh L := ⟨h.d.drew, h.r.drewN 1, h.b.drew, h.n, h.ap⟩
theorem Pj.mid (h : Pj w W g ba bp gr va vh L) (a : AfL W g ba bp L' W1) : Rl W1 w.heap.size gr va vh L := h.r.keep a.2 h.ap
theorem Pj.both (h : Pj w W g ba bp gr va vh L) (a : AfL W g ba bp L' W1) (b : AfR W1 w.heap.size gr va vh L' W2) : ∃ va' vh', Pj w W2 g ba bp gr va' vh' L' := by
  obtain ⟨va', vh', r, f, s⟩ := b
  have b1 := below_frE h.b a.2 (fun k hk c => by have := h.n k c; omega)
  refine ⟨va', vh', a.1.keep f (fun k hk c => h.ap k (.inl c) hk), r, below_frE b1 f (fun k hk c => by have := h.r.ge; omega), h.n, fun k hk c => ?_⟩
  rcases s k hk with q | q
  · exact h.ap k q c
  · have := a.1.lt c; omega
/-- The copy goes on. -/
theorem Pj.copy (h : Pj w W g ba bp gr va vh L) (d : Dl W1 g2 a2 p2 L) (q : Below W.heap.size W W1) (n : ∀ k, LdS g2 a2 p2 k → W.heap.size ≤ k) (f : Fr (LdS g ba bp) W1 W2) : Pj w W2 g2 a2 p2 gr va vh L := by
  have h1 := h.below q
  have lt : ∀ k, LdS g ba bp k → k < W.heap.size := fun k hk => h.d.lt hk
  refine ⟨d.keep f (fun k hk c => by have := n k hk; have := lt k c; omega), h1.r.keep f h.ap, below_frE h1.b f (fun k hk c => by have := h.n k c; omega), fun k hk => Nat.le_trans h.b.size (n k hk), fun k hk c => ?_⟩
  have := (h.r.lt hk).2
  have := n k c
  omega
end
theorem rng_ac9 {W : World} {t : Nat} {te : TypeId} {x : OpL} (h : EOp9.Bx te W t x) : W.rangeAt t 6 (EA.cells x.x) := fun j u hj => by
  have e : (EOp9.cells x)[6 + j]? = some u := by
    show ([.int .i64 x.kd, .int .u32 x.a, .int .u32 x.b, .int .u32 x.c, .int .i64 x.n, .int .i64 x.m] ++ EA.cells x.x : List Value)[6 + j]? = some u
    rw [List.getElem?_append_right (by simp)]
    simpa using hj
  have := gbx_rng h (6 + j) u e
  rwa [Nat.zero_add] at this
theorem put_opE (w : World) (x : OpL) : ∃ V, (w.alloc (.cells (EOp9.cells zeroOp9).toArray 35)).setRow w.heap.size (EOp9.cells x).toArray = V ∧ Below w.heap.size w V ∧ EOp9.Bx 35 V w.heap.size x ∧ EOp9.Bx 35 (w.alloc (.cells (EOp9.cells zeroOp9).toArray 35)) w.heap.size zeroOp9 ∧ V.heap.size = w.heap.size + 1 :=
  ⟨_, rfl, below_row0 (below_new w _) (Nat.le_refl _), gbx_set (gbx_new w zeroOp9), gbx_new w zeroOp9, by
    show (Array.modify _ _ _).size = _
    rw [Array.size_modify]; simp⟩
theorem wp_midE {P : Program} {Q : Exit → Act → World → Prop} {a : Act} {w : World} {x y : Code} (Mid : Act → World → Prop) (h1 : ∀ K : Act → World → Prop, (∀ a w, Mid a w → K a w) → x.wp P (Exit.then K Q) a w) (h2 : ∀ a w, Mid a w → y.wp P Q a w) : (Code.seq x y).wp P Q a w :=
  wp_seq_k fun K hK => h1 K fun a w h => hK a w (h2 a w h)
end Go.Proofs.Ytdaknfpifionoaa
