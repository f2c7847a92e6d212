/- Plain facts for the document's own split: the first greatest rest is the next place in order; and what stands in memory while the parts are gathered and raised. -/
import Derived.Test.YtgjaknfphokjpaaWhole
import Derived.Test.YtgjaknfphokjpaaProducts
import Derived.Deep.AppendLies
namespace Go.Proofs.Ytgjaknfphokjpaa
open Go.RowKit Go.Sort

namespace Sp
/-- The rests that are left when j places had one more, and the parts then. -/
def rj (T S : Int) (ws : List Int) (g : Nat → Int) (j t : Nat) : Int := if hit g j t = 0 then rs T S ws t else 0
def pj (T S : Int) (ws : List Int) (g : Nat → Int) (j t : Nat) : Int := sh T S ws t + hit g j t
/-- The first of the greatest below i. -/
def Fg (r : Nat → Int) (i a : Nat) : Prop := a < i ∧ ∀ t, t < i → (t < a → r t < r a) ∧ (a < t → r t ≤ r a)
theorem Fg.start (r : Nat → Int) : Fg r 1 0 := ⟨Nat.one_pos, fun t ht => ⟨fun h => by omega, fun h => by omega⟩⟩
theorem Fg.more {r : Nat → Int} {i a : Nat} (h : Fg r i a) (k : r a < r i) : Fg r (i + 1) i := ⟨Nat.lt_succ_self i, fun t ht => ⟨fun h1 => by
  have h2 := h.2 t h1
  rcases Nat.lt_trichotomy t a with c | c | c
  · have := h2.1 c; omega
  · subst c; exact k
  · have := h2.2 c; omega, fun h1 => by omega⟩⟩
theorem Fg.less {r : Nat → Int} {i a : Nat} (h : Fg r i a) (k : ¬ r a < r i) : Fg r (i + 1) a := ⟨Nat.lt_succ_of_lt h.1, fun t ht => by
  rcases Nat.lt_succ_iff_lt_or_eq.1 ht with c | c
  · exact h.2 t c
  · subst c
    have := h.1
    exact ⟨fun h1 => by omega, fun _ => by omega⟩⟩
theorem Fg.one {r : Nat → Int} {n a p : Nat} (h : Fg r n a) (hp : p < n) (k : ∀ t, t < n → t ≠ p → r t < r p ∨ (r t = r p ∧ p < t)) : a = p := by
  refine Classical.byContradiction fun c => ?_
  have h1 := k a h.1 c
  have h2 := h.2 p hp
  rcases Nat.lt_or_gt_of_ne c with l | l
  · have := h2.2 l; omega
  · have := h2.1 l; omega
end Sp
section
variable {T : Int} {ws : List Int} {g : Nat → Int}
/-- The next place. -/
theorem Al2.next (h : Al2 T ws g) {j : Nat} (hl : (j : Int) < T - Sp.su (Sp.sh T (sm ws) ws) ws.length) :
    ∃ p, p < ws.length ∧ g j = p ∧ j < ws.length ∧ Sp.hit g j p = 0 ∧ Sp.sh T (sm ws) ws p < T ∧ (∀ t, t < ws.length → t ≠ p → Sp.rj T (sm ws) ws g j t < Sp.rj T (sm ws) ws g j p ∨ (Sp.rj T (sm ws) ws g j t = Sp.rj T (sm ws) ws g j p ∧ p < t)) := by
  have hf := h.1.few
  have hj : j < ws.length := by omega
  have hb := (h.2.2 (g j)).1 ⟨j, Nat.zero_le _, hj, rfl⟩
  obtain ⟨p, hp⟩ := Int.eq_ofNat_of_zero_le (show 0 ≤ g j by omega)
  have hpn : p < ws.length := by omega
  have h0 : Sp.hit g j p = 0 := by rw [h.hit (by omega) hj hp, if_neg (Nat.lt_irrefl j)]
  have hr := h.rest hj hp hl
  refine ⟨p, hpn, hp, hj, h0, ?_, fun t ht hne => ?_⟩
  · have := Sp.su_ge (fun t => (h.1.sh t).1) hpn
    omega
  · obtain ⟨q, q1, q2⟩ := h.place ht
    have e := h.hit (k := j) (by omega) q1 q2
    unfold Sp.rj
    rw [if_pos h0]
    by_cases c : q < j
    · rw [if_pos c] at e
      rw [if_neg (by omega)]
      exact .inl hr
    · rw [if_neg c] at e
      rw [if_pos e]
      have hqj : q ≠ j := fun e1 => hne (by rw [e1, hp] at q2; omega)
      have := h.2.1 j q (Nat.zero_le _) (by omega) q1
      unfold St.lt Sp.ky at this
      rw [hp, q2, Int.toNat_natCast, Int.toNat_natCast] at this
      omega
theorem rj_zero (t : Nat) : Sp.rj T (sm ws) ws g 0 t = Sp.rs T (sm ws) ws t := if_pos rfl
theorem pj_zero (t : Nat) : Sp.pj T (sm ws) ws g 0 t = Sp.sh T (sm ws) ws t := Int.add_zero _
theorem rj_succ {j p : Nat} (hp : g j = p) (h0 : Sp.hit g j p = 0) (t : Nat) : Sp.rj T (sm ws) ws g (j + 1) t = if t = p then 0 else Sp.rj T (sm ws) ws g j t := by
  unfold Sp.rj
  simp only [Sp.hit, hp]
  by_cases c : t = p
  · subst c
    rw [h0, if_pos rfl, if_pos rfl]; rfl
  · rw [if_neg (show ¬ (p : Int) = t by omega), if_neg c, Int.add_zero]
theorem pj_succ {j p : Nat} (hp : g j = p) (t : Nat) : Sp.pj T (sm ws) ws g (j + 1) t = if t = p then Sp.pj T (sm ws) ws g j p + 1 else Sp.pj T (sm ws) ws g j t := by
  unfold Sp.pj
  simp only [Sp.hit, hp]
  by_cases c : t = p
  · subst c
    rw [if_pos rfl, if_pos rfl, Int.add_assoc]
  · rw [if_neg (show ¬ (p : Int) = t by omega), if_neg c, Int.add_zero]
theorem rj_bd (h : Al2 T ws g) (j t : Nat) : 0 ≤ Sp.rj T (sm ws) ws g j t ∧ Sp.rj T (sm ws) ws g j t ≤ 9223372036854775807 := by
  have h1 := h.1.rs t
  have h2 := h.1.2.2.2.1
  unfold Sp.rj
  split
  · omega
  · omega
end

/-- Numbers as cells, one behind the other. -/
def nl (f : Nat → Int) : Nat → List Value
  | 0 => []
  | k + 1 => nl f k ++ (nm false (dgs (f k))).toList
theorem nm_len (s : Bool) (f : Nat → Int) : (nm s f).toList.length = 13 := rfl
theorem nl_len (f : Nat → Int) : ∀ k, (nl f k).length = k * 13
  | 0 => rfl
  | k + 1 => by simp only [nl]; rw [List.length_append, nl_len f k, nm_len]; omega
theorem nl_get (f : Nat → Int) : ∀ {k t j : Nat}, t < k → j < 13 → (nl f k)[t * 13 + j]? = (nm false (dgs (f t))).toList[j]?
  | k + 1, t, j, ht, hj => by
    simp only [nl]
    by_cases c : t < k
    · rw [List.getElem?_append_left (by rw [nl_len]; omega)]
      exact nl_get f c hj
    · obtain rfl : t = k := by omega
      rw [List.getElem?_append_right (by rw [nl_len]; omega), nl_len, show t * 13 + j - t * 13 = j by omega]
theorem nl_same {f g : Nat → Int} : ∀ {k : Nat}, (∀ t, t < k → f t = g t) → nl f k = nl g k
  | 0, _ => rfl
  | k + 1, h => by simp only [nl]; rw [nl_same fun t ht => h t (by omega), h k (by omega)]
def il (f : Nat → Int) (k : Nat) : List Value := (List.range k).map fun t => .int .i64 (f t)
theorem il_succ (f : Nat → Int) (k : Nat) : il f k ++ [.int .i64 (f k)] = il f (k + 1) := by unfold il; rw [List.range_succ, List.map_append]; simp
theorem il_get {f : Nat → Int} {k t : Nat} (h : t < k) : (il f k)[t]? = some (.int .i64 (f t)) := by unfold il; simp [h]

theorem info_num : (Try.prog.info? 42).map (fun i => (i.zero, i.size, i.bytes)) = some (some (.agg (nm false fun _ => 0)), 13, 104) := by kernel_rfl

/-- What stands in memory while the parts are gathered: both lists so far, and the sum of the weights. -/
structure L2 (w : World) (B g7 : Nat) (u : Bool) (N : Int) (p r : Nat → Int) (k : Nat) (vp vq : Value) (W : World) : Prop where
  o1 : W.ownsRow B 2 1 vp k (il p k)
  o2 : W.ownsRow B 42 13 vq k (nl r k)
  r7 : Row W g7 42 (nm u (dgs N))
  h7 : g7 < B
  hb : w.heap.size ≤ B
  h8 : B ≤ W.heap.size
  q : Below w.heap.size w W
section
variable {w : World} {B g7 : Nat} {u : Bool} {N : Int} {p r : Nat → Int} {k : Nat} {vp vq : Value} {W W' : World}
theorem own_below {base : Nat} {e : TypeId} {size : Nat} {v : Value} {n : Nat} {xs : List Value} (h : W.ownsRow base e size v n xs) (b : Below W.heap.size W W') : W'.ownsRow base e size v n xs :=
  h.kept (row := none) ⟨b.os, b.tape, b.output, b.size, fun i hi _ => b.block i hi⟩ (by cases v.ownBlock <;> simp)
theorem L2.below (h : L2 w B g7 u N p r k vp vq W) (b : Below W.heap.size W W') : L2 w B g7 u N p r k vp vq W' :=
  ⟨own_below h.o1 b, own_below h.o2 b, h.r7.below b h.r7.lt, h.h7, h.hb, Nat.le_trans h.h8 b.size, h.q.trans (b.mono h.q.size)⟩
theorem L2.apart (h : L2 w B g7 u N p r k vp vq W) : vp.ownBlock = none ∨ vp.ownBlock ≠ vq.ownBlock := by
  rcases h.o1.2 with ⟨rfl, _⟩ | ⟨a, c1, x1, rfl, _, e1, _⟩
  · exact .inl rfl
  · right
    rcases h.o2.2 with ⟨rfl, _⟩ | ⟨b, c2, x2, rfl, _, e2, _⟩
    · simp [Value.ownBlock]
    · intro e
      simp only [Value.ownBlock, Option.some.injEq] at e
      rw [e, e2] at e1
      simp at e1
theorem L2.mem (h : L2 w B g7 u N p r k vp vq W) {row : Option Nat} (hg : W.grownBy W' row) (hr : ∀ i, row = some i → B ≤ i) : Row W' g7 42 (nm u (dgs N)) ∧ B ≤ W'.heap.size ∧ Below w.heap.size w W' := by
  have h1 := h.h7
  have h2 := h.h8
  have h3 := h.hb
  refine ⟨(hg.block g7 (by omega) fun e => ?_).trans h.r7, Nat.le_trans h2 hg.size, h.q.grown hg (by omega) fun i hi => by have := hr i hi; omega⟩
  have := hr g7 e.symm
  omega
theorem L2.part (h : L2 w B g7 u N p r k vp vq W) {vp' : Value} {x : Int} (hx : x = p k) (o : W'.ownsRow B 2 1 vp' (k + 1) (il p k ++ [.int .i64 x])) (hg : W.grownBy W' vp.ownBlock) :
    W'.ownsRow B 2 1 vp' (k + 1) (il p (k + 1)) ∧ W'.ownsRow B 42 13 vq k (nl r k) ∧ Row W' g7 42 (nm u (dgs N)) ∧ B ≤ W'.heap.size ∧ Below w.heap.size w W' := by
  have m := h.mem hg fun i hi => (h.o1.lt i hi).1
  subst hx
  rw [il_succ] at o
  refine ⟨o, h.o2.kept hg ?_, m.1, m.2.1, m.2.2⟩
  rcases h.apart with e | e
  · cases hv : vq.ownBlock
    · exact .inl rfl
    · right; rw [e]; simp
  · exact .inr e.symm
theorem L2.setRow (h : L2 w B g7 u N p r k vp vq W) {g : Nat} (hg : B ≤ g) (hp : vp.ownBlock ≠ some g) (hq : vq.ownBlock ≠ some g) (cs' : Array Value) : L2 w B g7 u N p r k vp vq (W.setRow g cs') := by
  have gr : W.grownBy (W.setRow g cs') (some g) := ⟨rfl, rfl, rfl, by rw [size_setRow]; exact Nat.le_refl _, fun i _ hi => setRow_other W g i cs' fun e => hi (by rw [e])⟩
  have m := h.mem gr fun i hi => by cases hi; exact hg
  exact ⟨h.o1.kept gr (.inr hp), h.o2.kept gr (.inr hq), m.1, h.h7, h.hb, m.2.1, m.2.2⟩
/-- The same, and two new places for numbers, if they are there already. -/
structure RA (w : World) (B g7 : Nat) (u : Bool) (N : Int) (p r : Nat → Int) (k : Nat) (vp vq : Value) (a14 a15 : Option Nat) (W : World) : Prop where
  base : L2 w B g7 u N p r k vp vq W
  r14 : ∀ g, a14 = some g → Row W g 42 (nm false fun _ => 0) ∧ B ≤ g ∧ vp.ownBlock ≠ some g ∧ vq.ownBlock ≠ some g
  r15 : ∀ g, a15 = some g → Row W g 42 (nm false fun _ => 0) ∧ B ≤ g ∧ vp.ownBlock ≠ some g ∧ vq.ownBlock ≠ some g
  ne : ∀ g g', a14 = some g → a15 = some g' → g ≠ g'
variable {a14 a15 : Option Nat}
theorem RA.quiet (h : RA w B g7 u N p r k vp vq a14 a15 W) (q : Quiet W W') : RA w B g7 u N p r k vp vq a14 a15 W' :=
  ⟨h.base.below q.2, fun g hg => ⟨(h.r14 g hg).1.below q.2 (h.r14 g hg).1.lt, (h.r14 g hg).2⟩, fun g hg => ⟨(h.r15 g hg).1.below q.2 (h.r15 g hg).1.lt, (h.r15 g hg).2⟩, h.ne⟩
theorem L2.fresh (h : L2 w B g7 u N p r k vp vq W) : vp.ownBlock ≠ some W.heap.size ∧ vq.ownBlock ≠ some W.heap.size :=
  ⟨fun e => absurd (h.o1.lt _ e).2 (Nat.lt_irrefl _), fun e => absurd (h.o2.lt _ e).2 (Nat.lt_irrefl _)⟩
theorem RA.alloc14 (h : RA w B g7 u N p r k vp vq none a15 W) : RA w B g7 u N p r k vp vq (some W.heap.size) a15 (W.alloc (.cells (nm false fun _ => 0) 42)) := by
  have f := h.base.fresh
  refine ⟨h.base.below ((Below.refl _ _).alloc (Nat.le_refl _) _), fun g hg => ?_, fun g hg => ⟨(h.r15 g hg).1.alloc _, (h.r15 g hg).2⟩, fun g g' hg hg' => ?_⟩
  · cases hg
    exact ⟨Row.new W _ _, h.base.h8, f.1, f.2⟩
  · cases hg
    have := (h.r15 g' hg').1.lt
    omega
theorem RA.alloc15 (h : RA w B g7 u N p r k vp vq a14 none W) : RA w B g7 u N p r k vp vq a14 (some W.heap.size) (W.alloc (.cells (nm false fun _ => 0) 42)) := by
  have f := h.base.fresh
  refine ⟨h.base.below ((Below.refl _ _).alloc (Nat.le_refl _) _), fun g hg => ⟨(h.r14 g hg).1.alloc _, (h.r14 g hg).2⟩, fun g hg => ?_, fun g g' hg hg' => ?_⟩
  · cases hg
    exact ⟨Row.new W _ _, h.base.h8, f.1, f.2⟩
  · cases hg'
    have := (h.r14 g hg).1.lt
    omega
theorem RA.stored {g14 g15 : Nat} (h : RA w B g7 u N p r k vp vq (some g14) (some g15) W) (x y : Array Value) :
    L2 w B g7 u N p r k vp vq (W.setRow g14 x) ∧ Row (W.setRow g14 x) g15 42 (nm false fun _ => 0) ∧ L2 w B g7 u N p r k vp vq ((W.setRow g14 x).setRow g15 y) ∧
      Row ((W.setRow g14 x).setRow g15 y) g14 42 x ∧ Row ((W.setRow g14 x).setRow g15 y) g15 42 y := by
  obtain ⟨a1, a2, a3, a4⟩ := h.r14 g14 rfl
  obtain ⟨b1, b2, b3, b4⟩ := h.r15 g15 rfl
  have hne := h.ne g14 g15 rfl rfl
  have l1 := h.base.setRow a2 a3 a4 x
  have c1 := b1.apart (g' := g14) (fun e => hne e.symm) x
  exact ⟨l1, c1, l1.setRow b2 b3 b4 y, (a1.whole x).apart hne y, c1.whole y⟩
end
end Go.Proofs.Ytgjaknfphokjpaa
