/- The program's side and the plain one side by side, with blocks that neither turns. -/
import Derived.Test.YtpnccbcaoifdiaaEa
import Derived.Test.YtpnccbcaoifdiaaEo
import Derived.Test.YtpnccbcaoifdiaaEg
namespace Go.Proofs.Ytpnccbcaoifdiaa
open Go.RowKit Go.Shelf
set_option linter.unusedVariables false

structure Pq (Pd : PdT) (w : World) (X : List (Nat × Obj)) (W : World) (F : Nat → Prop) (g gr : Nat) (v : Value) (buy : Bool) (os ps : List Or) (t : Nat) : Prop where
  pd : Pd W F g buy os t
  pr : Ps W w.heap.size gr v buy ps
  ap : ∀ k, F k → k ≠ gr ∧ v.ownBlock ≠ some k
  fp : ∀ k, F k → w.heap.size ≤ k
  bl : Below w.heap.size w W
  xs : ∀ p, p ∈ X → W.heap[p.1]? = some p.2 ∧ ¬ F p.1 ∧ p.1 ≠ gr ∧ v.ownBlock ≠ some p.1
theorem Ps.gl {W : World} {B g : Nat} {v : Value} {buy : Bool} {os : List Or} (h : Ps W B g v buy os) : B ≤ g ∧ g < W.heap.size := by obtain ⟨l, h, m⟩ := h; exact ⟨h.ge, h.gl⟩
theorem Ps.vl {W : World} {B g : Nat} {v : Value} {buy : Bool} {os : List Or} (h : Ps W B g v buy os) {k : Nat} (hk : v.ownBlock = some k) : B ≤ k ∧ k < W.heap.size := by obtain ⟨l, h, m⟩ := h; exact gown_lt h.own hk
/-- The same, whatever the blocks. -/
def PqE (Pd : PdT) (w : World) (X : List (Nat × Obj)) (W : World) (g gr : Nat) (buy : Bool) (os ps : List Or) (t : Nat) : Prop := ∃ F v, Pq Pd w X W F g gr v buy os ps t
section
variable {Pd : PdT} {zs : Array Value} {w W W' : World} {X : List (Nat × Obj)} {F : Nat → Prop} {g gr : Nat} {v : Value} {buy : Bool} {os ps os' ps' : List Or} {t t' : Nat}
theorem Pq.below (K : SideK Pd zs) (h : Pq Pd w X W F g gr v buy os ps t) (q : Below W.heap.size W W') : Pq Pd w X W' F g gr v buy os ps t :=
  ⟨K.keep (S := fun _ => False) h.pd (Fr.below q) (fun _ _ h => h), h.pr.below q, h.ap, h.fp, h.bl.trans (q.mono h.bl.size), fun p hp => ⟨(q.block _ (Array.getElem?_eq_some_iff.1 (h.xs p hp).1).1).trans (h.xs p hp).1, (h.xs p hp).2⟩⟩
theorem PqE.below (K : SideK Pd zs) (h : PqE Pd w X W g gr buy os ps t) (q : Below W.heap.size W W') : PqE Pd w X W' g gr buy os ps t := by
  obtain ⟨F, v, h⟩ := h
  exact ⟨F, v, h.below K q⟩
theorem PqE.drew (K : SideK Pd zs) (h : PqE Pd w X W g gr buy os ps t) : PqE Pd w X W.drew g gr buy os ps t := h.below K (Below.refl _ _).drew
theorem PqE.bl (h : PqE Pd w X W g gr buy os ps t) : Below w.heap.size w W := by obtain ⟨F, v, h⟩ := h; exact h.bl
theorem PqE.at (h : PqE Pd w X W g gr buy os ps t) {p : Nat × Obj} (hp : p ∈ X) : W.heap[p.1]? = some p.2 := by obtain ⟨F, v, h⟩ := h; exact (h.xs p hp).1
theorem PqE.push (K : SideK Pd zs) (h : PqE Pd w X W g gr buy os ps t) (q : Below W.heap.size W W') {b : Nat} {o : Obj} (hb : W'.heap[b]? = some o) (hge : W.heap.size ≤ b) : PqE Pd w ((b, o) :: X) W' g gr buy os ps t := by
  obtain ⟨F, v, h⟩ := h
  have k := h.below K q
  refine ⟨F, v, k.pd, k.pr, k.ap, k.fp, k.bl, fun p hp => ?_⟩
  rcases List.mem_cons.1 hp with rfl | hp
  · refine ⟨hb, fun c => ?_, fun c => ?_, fun c => ?_⟩
    · have := K.lt h.pd _ c
      show False
      have e : b < W.heap.size := this
      omega
    · have := h.pr.gl.2
      have e : b = gr := c
      omega
    · have := (h.pr.vl c).2
      have e : b < W.heap.size := this
      omega
  · exact k.xs p hp
theorem PqE.less {X' : List (Nat × Obj)} (h : PqE Pd w X W g gr buy os ps t) (hX : ∀ p, p ∈ X' → p ∈ X) : PqE Pd w X' W g gr buy os ps t := by
  obtain ⟨F, v, h⟩ := h
  exact ⟨F, v, h.pd, h.pr, h.ap, h.fp, h.bl, fun p hp => h.xs p (hX p hp)⟩
theorem PqE.more (K : SideK Pd zs) (h : PqE Pd w X W g gr buy os ps t) (ht : t ≤ t') : PqE Pd w X W g gr buy os ps t' := by
  obtain ⟨F, v, h⟩ := h
  exact ⟨F, v, K.more h.pd ht, h.pr, h.ap, h.fp, h.bl, h.xs⟩
theorem PqE.inv (K : SideK Pd zs) (h : PqE Pd w X W g gr buy os ps t) : InvO buy os := by
  obtain ⟨F, v, h⟩ := h
  exact K.inv h.pd
section
variable {P : Program} {f : FuncId} {args : Array Value} {e0 : Ending}
/-- A call on the program's side. -/
theorem PqE.c (K : SideK Pd zs) (h : PqE Pd w X W g gr buy os ps t) (c : ∀ F, Pd W F g buy os t → Calls P f args W fun e w' => e = e0 ∧ AftO Pd W F g buy os' t' w') :
    Calls P f args W fun e w' => e = e0 ∧ PqE Pd w X w' g gr buy os' ps t' := by
  obtain ⟨F, v, h⟩ := h
  refine (c F h.pd).mono ?_; rintro e w' ⟨rfl, F', k1, k2, k3⟩
  have hg := h.pr.gl.2
  refine ⟨rfl, F', v, k1, h.pr.keep k2 (fun c => (h.ap _ c).1 rfl) (fun k hk c => (h.ap k c).2 hk), fun k hk => ?_, fun k hk => (k3 k hk).elim (h.fp k) fun c => Nat.le_trans h.bl.size c, aft_below h.bl h.fp k2, fun p hp => ?_⟩
  · rcases k3 k hk with c | c
    · exact h.ap k c
    · exact ⟨by omega, fun e => by have := (h.pr.vl e).2; omega⟩
  · obtain ⟨d1, d2, d3⟩ := h.xs p hp
    have hl := (Array.getElem?_eq_some_iff.1 d1).1
    refine ⟨(k2.at' _ hl d2).trans d1, fun c => ?_, d3⟩
    rcases k3 _ c with c | c
    · exact d2 c
    · omega
/-- A call on the plain one. -/
theorem PqE.r (K : SideK Pd zs) (h : PqE Pd w X W g gr buy os ps t) (c : ∀ v, Ps W w.heap.size gr v buy ps → Calls P f args W fun e w' => e = e0 ∧ PsN W w.heap.size gr v buy ps' w') :
    Calls P f args W fun e w' => e = e0 ∧ PqE Pd w X w' g gr buy os ps' t := by
  obtain ⟨F, v, h⟩ := h
  refine (c v h.pr).mono ?_; rintro e w' ⟨rfl, v', k1, k2, k3⟩
  have hg := h.pr.gl
  refine ⟨rfl, F, v', K.keep h.pd k2 (fun k hk e => (h.ap k hk).1 e), k1, fun k hk => ⟨(h.ap k hk).1, fun e => ?_⟩, h.fp, ⟨k2.b0.os.trans h.bl.os, k2.b0.tape.trans h.bl.tape, k2.b0.output.trans h.bl.output, Nat.le_trans h.bl.size k2.size, fun k hk => (k2.at' k (Nat.lt_of_lt_of_le hk h.bl.size) (fun e => by omega)).trans (h.bl.block k hk)⟩, fun p hp => ?_⟩
  · rcases k3 k e with c | c
    · exact (h.ap k hk).2 c
    · have := K.lt h.pd k hk; omega
  · obtain ⟨d1, d2, d3, d4⟩ := h.xs p hp
    have hl := (Array.getElem?_eq_some_iff.1 d1).1
    refine ⟨(k2.at' _ hl d3).trans d1, d2, d3, fun e => ?_⟩
    rcases k3 _ e with c | c
    · exact d4 c
    · omega
/-- Calls that leave all as it is. -/
theorem PqE.cb (K : SideK Pd zs) (h : PqE Pd w X W g gr buy os ps t) (c : ∀ F, Pd W F g buy os t → Calls P f args W fun e w' => e = e0 ∧ Below W.heap.size W w') :
    Calls P f args W fun e w' => e = e0 ∧ PqE Pd w X w' g gr buy os ps t := by
  obtain ⟨F, v, h⟩ := h
  refine (c F h.pd).mono ?_; rintro e w' ⟨rfl, q⟩
  exact ⟨rfl, F, v, h.below K q⟩
theorem PqE.rb (K : SideK Pd zs) (h : PqE Pd w X W g gr buy os ps t) (c : ∀ v, Ps W w.heap.size gr v buy ps → Calls P f args W fun e w' => e = e0 ∧ Below W.heap.size W w') :
    Calls P f args W fun e w' => e = e0 ∧ PqE Pd w X w' g gr buy os ps t := by
  obtain ⟨F, v, h⟩ := h
  refine (c v h.pr).mono ?_; rintro e w' ⟨rfl, q⟩
  exact ⟨rfl, F, v, h.below K q⟩
theorem PqE.nb (K : SideK Pd zs) (h : PqE Pd w X W g gr buy os ps t) (c : Calls P f args W fun e w' => e = e0 ∧ Below W.heap.size W w') :
    Calls P f args W fun e w' => e = e0 ∧ PqE Pd w X w' g gr buy os ps t := h.cb K fun _ _ => c
end
theorem PqE.same (K : SideK Pd zs) (h : PqE Pd w X W g gr buy os os t) : Calls Try.prog 27 #[.pointer (some ⟨g, 0, none⟩), .pointer (some ⟨gr, 0, none⟩)] W fun e w' => e = .returned (.bool true) ∧ PqE Pd w X w' g gr buy os os t := by
  obtain ⟨F, v, h⟩ := h
  refine (same6_any K h.pd h.pr).mono ?_; rintro e w' ⟨rfl, q⟩
  exact ⟨rfl, F, v, h.below K q⟩
/-- Another side of the program's beside them: the old one, when a copy goes on. -/
def PqO (Pd : PdT) (w : World) (X : List (Nat × Obj)) (W : World) (g2 g gr : Nat) (buy : Bool) (os ps : List Or) (t : Nat) (q : List Or) (tq : Nat) : Prop :=
  ∃ F v F0, Pq Pd w X W F g gr v buy os ps t ∧ Pd W F0 g2 buy q tq ∧ (∀ k, F0 k → w.heap.size ≤ k ∧ ¬ F k ∧ k ≠ gr ∧ v.ownBlock ≠ some k ∧ ∀ p, p ∈ X → p.1 ≠ k)
theorem PqE.copy (K : SideK Pd zs) (h : PqE Pd w X W g gr buy os ps t) : Calls Try.prog 24 #[.pointer (some ⟨g, 0, none⟩)] W fun e w' => ∃ g', e = .returned (.pointer (some ⟨g', 0, none⟩)) ∧ PqO Pd w X w' g g' gr buy os ps t os t := by
  obtain ⟨F, v, h⟩ := h
  refine (K.copy h.pd).mono ?_; rintro e w' ⟨g', F', rfl, p', q, hF⟩
  have k := h.below K q
  refine ⟨g', rfl, F', v, F, ⟨p', k.pr, fun j hj => ?_, fun j hj => Nat.le_trans h.bl.size (hF j hj), k.bl, fun p hp => ?_⟩, k.pd, fun j hj => ⟨h.fp j hj, fun c => ?_, (h.ap j hj).1, (h.ap j hj).2, fun p hp e => ?_⟩⟩
  · have := hF j hj
    exact ⟨by have := h.pr.gl.2; omega, fun e => by have := (h.pr.vl e).2; omega⟩
  · refine ⟨(k.xs p hp).1, fun c => ?_, (k.xs p hp).2.2⟩
    have := hF _ c
    have := (Array.getElem?_eq_some_iff.1 (h.xs p hp).1).1
    omega
  · have := hF j c
    have := K.lt h.pd j hj
    omega
  · exact (h.xs p hp).2.1 (e ▸ hj)
theorem PqO.fin {g2 tq : Nat} {q : List Or} (h : PqO Pd w X W g2 g gr buy os ps t q tq) : PqE Pd w X W g gr buy os ps t := by
  obtain ⟨F, v, F0, h1, h2, h3⟩ := h
  exact ⟨F, v, h1⟩
theorem PqO.at {g2 tq : Nat} {q : List Or} (h : PqO Pd w X W g2 g gr buy os ps t q tq) {p : Nat × Obj} (hp : p ∈ X) : W.heap[p.1]? = some p.2 := h.fin.at hp
theorem PqO.old {P : Program} {f : FuncId} {args : Array Value} {g2 tq tq' : Nat} {q q' : List Or} {R : Ending → Prop} (K : SideK Pd zs) (h : PqO Pd w X W g2 g gr buy os ps t q tq) (c : ∀ F, Pd W F g2 buy q tq → Calls P f args W fun e w' => R e ∧ AftO Pd W F g2 buy q' tq' w') :
    Calls P f args W fun e w' => R e ∧ PqO Pd w X w' g2 g gr buy os ps t q' tq' := by
  obtain ⟨F, v, F0, h1, h2, h3⟩ := h
  refine (c F0 h2).mono ?_; rintro e w' ⟨hR, F', k1, k2, k3⟩
  refine ⟨hR, F, v, F', ⟨K.keep h1.pd k2 (fun k hk c => (h3 k c).2.1 hk), h1.pr.keep k2 (fun c => (h3 _ c).2.2.1 rfl) (fun k hk c => (h3 k c).2.2.2.1 hk), h1.ap, h1.fp, aft_below h1.bl (fun k hk => (h3 k hk).1) k2, fun p hp => ⟨(k2.at' _ (Array.getElem?_eq_some_iff.1 (h1.xs p hp).1).1 (fun c => (h3 _ c).2.2.2.2 p hp rfl)).trans (h1.xs p hp).1, (h1.xs p hp).2⟩⟩, k1, fun k hk => ?_⟩
  rcases k3 k hk with c | c
  · exact h3 k c
  · refine ⟨Nat.le_trans h1.bl.size c, fun e => ?_, fun e => ?_, fun e => ?_, fun p hp e => ?_⟩
    · have := K.lt h1.pd k e; omega
    · have := h1.pr.gl.2; omega
    · have := (h1.pr.vl e).2; omega
    · have := (Array.getElem?_eq_some_iff.1 (h1.xs p hp).1).1; omega
end
end Go.Proofs.Ytpnccbcaoifdiaa
