/- Plain facts of stage 9's laws: positions behind a trade; deposits. -/
import Derived.Test.YtbmmokgmpgahnaaMg
namespace Go.Proofs.Ytbmmokgmpgahnaa
open Go.RowKit Go.Shelf
set_option linter.unusedVariables false
set_option linter.unusedSimpArgs false

theorem po_ext {x y : Po} (h1 : x.co = y.co) (h2 : x.ac = y.ac) (h3 : x.q = y.q) (h4 : x.b = y.b) : x = y := by
  obtain ⟨a, b, c, d⟩ := x
  obtain ⟨a', b', c', d'⟩ := y
  simp only at h1 h2 h3 h4
  rw [h1, h2, h3, h4]
theorem pos_hold {hl : List Po} (h : SrtP hl) (p : Po) (c a : Int) : posH (holdL hl p) c a = if c = p.co ∧ a = p.ac then p else posH hl c a := by
  unfold posH
  rw [at_hold h p (c, a)]
  by_cases e : c = p.co ∧ a = p.ac
  · rw [if_pos (by rw [e.1, e.2]), if_pos e]
    by_cases g : goneP p = true
    · rw [if_pos g]
      obtain ⟨co, ac, q, b⟩ := p
      simp [goneP] at g
      simp at e
      simp [e, g]
    · rw [if_neg g]
  · rw [if_neg (fun c' => e (by simpa using c')), if_neg e]
section
variable {L : Lg} {c b s p m : Int}
theorem tra_ok (h : traE L c b s p m = 0) : traL L c b s p m = ⟨L.fund, L.al, holdL (holdL L.hl (boughtP L c b p m)) (soldP L c s p m)⟩ := by unfold traL; rw [if_pos h]
theorem pos_tra (hs : SrtP L.hl) (h : traE L c b s p m = 0) (hne : b ≠ s) (k a : Int) :
    (posH (traL L c b s p m).hl k a).q = (posH L.hl k a).q + (if k = c ∧ a = b then m else 0) - (if k = c ∧ a = s then m else 0) ∧
    (posH (traL L c b s p m).hl k a).b = (posH L.hl k a).b + (if k = c ∧ a = b then p * m else 0) - (if k = c ∧ a = s then p * m else 0) := by
  rw [tra_ok h]
  show (posH (holdL (holdL L.hl (boughtP L c b p m)) (soldP L c s p m)) k a).q = _ ∧ (posH (holdL (holdL L.hl (boughtP L c b p m)) (soldP L c s p m)) k a).b = _
  rw [pos_hold (hs.hold _), pos_hold hs]
  have e1 : (soldP L c s p m).co = c := rfl
  have e2 : (soldP L c s p m).ac = s := rfl
  have e3 : (boughtP L c b p m).co = c := rfl
  have e4 : (boughtP L c b p m).ac = b := rfl
  rw [e1, e2, e3, e4]
  by_cases h1 : k = c ∧ a = s
  · rw [if_pos h1, if_pos h1, if_pos h1, if_neg (fun x => hne (x.2.symm.trans h1.2)), if_neg (fun x => hne (x.2.symm.trans h1.2)), h1.1, h1.2]
    refine ⟨?_, ?_⟩
    · show (posH L.hl c s).q - m = _; omega
    · show (posH L.hl c s).b - p * m = _; omega
  · rw [if_neg h1, if_neg h1, if_neg h1]
    by_cases h2 : k = c ∧ a = b
    · rw [if_pos h2, if_pos h2, if_pos h2, h2.1, h2.2]
      refine ⟨?_, ?_⟩
      · show (posH L.hl c b).q + m = _; omega
      · show (posH L.hl c b).b + p * m = _; omega
    · rw [if_neg h2, if_neg h2, if_neg h2]
      exact ⟨by omega, by omega⟩
end
/-! LedgerApart. -/
def KD : Nat → Lg
  | 0 => ⟨0, [], []⟩
  | 1 => ⟨0, [⟨1, 5, false, false⟩], []⟩
  | 2 => ⟨0, [⟨1, 5, false, false⟩, ⟨2, 5, false, false⟩], []⟩
  | 3 => ⟨0, [⟨1, 5, false, false⟩, ⟨2, 5, false, false⟩, ⟨3, 5, false, false⟩], []⟩
  | _ => ⟨0, [⟨1, 5, false, false⟩, ⟨2, 5, false, false⟩, ⟨3, 5, false, false⟩, ⟨4, 5, false, false⟩], []⟩
theorem kd0 : depE (KD 0) 1 5 = 0 ∧ depL (KD 0) 1 5 = KD 1 := ⟨by kernel_rfl, by kernel_rfl⟩
theorem kd1 : depE (KD 1) 2 5 = 0 ∧ depL (KD 1) 2 5 = KD 2 := ⟨by kernel_rfl, by kernel_rfl⟩
theorem kd2 : depE (KD 2) 3 5 = 0 ∧ depL (KD 2) 3 5 = KD 3 := ⟨by kernel_rfl, by kernel_rfl⟩
theorem kd3 : depE (KD 3) 4 5 = 0 ∧ depL (KD 3) 4 5 = KD 4 := ⟨by kernel_rfl, by kernel_rfl⟩
theorem kd_step (j : Nat) (h : j < 4) : depE (KD j) ((j : Int) + 1) 5 = 0 ∧ depL (KD j) ((j : Int) + 1) 5 = KD (j + 1) := by
  match j, h with
  | 0, _ => exact kd0
  | 1, _ => exact kd1
  | 2, _ => exact kd2
  | 3, _ => exact kd3
theorem kg0 : getL (KD 4) 1 = (⟨1, 5, false, false⟩, 0) := by kernel_rfl
theorem kg1 : getL (KD 4) 2 = (⟨2, 5, false, false⟩, 0) := by kernel_rfl
theorem kg2 : getL (KD 4) 3 = (⟨3, 5, false, false⟩, 0) := by kernel_rfl
theorem kg3 : getL (KD 4) 4 = (⟨4, 5, false, false⟩, 0) := by kernel_rfl
theorem kd_get (j : Nat) (h : j < 4) : getL (KD 4) ((j : Int) + 1) = (⟨(j : Int) + 1, 5, false, false⟩, 0) := by
  match j, h with
  | 0, _ => exact kg0
  | 1, _ => exact kg1
  | 2, _ => exact kg2
  | 3, _ => exact kg3
theorem get_al {L M : Lg} (h1 : L.al = M.al) (h2 : L.fund = M.fund) (n : Int) : getL L n = getL M n := by unfold getL; rw [h1, h2]
theorem tra_al {L : Lg} {c b s p m : Int} : (traL L c b s p m).al = L.al ∧ (traL L c b s p m).fund = L.fund := by
  unfold traL
  split <;> exact ⟨rfl, rfl⟩
/-- Two trades in either order. -/
theorem apart9 {c d p q m n : Int} (h1 : traE (KD 4) c 1 2 p m = 0) (h2 : traE (traL (KD 4) c 1 2 p m) d 2 3 q n = 0) (h3 : traE (KD 4) d 2 3 q n = 0) (h4 : traE (traL (KD 4) d 2 3 q n) c 1 2 p m = 0)
    (sA : SrtP (traL (KD 4) c 1 2 p m).hl) (sB : SrtP (traL (KD 4) d 2 3 q n).hl) (k a : Int) :
    posH (traL (traL (KD 4) c 1 2 p m) d 2 3 q n).hl k a = posH (traL (traL (KD 4) d 2 3 q n) c 1 2 p m).hl k a := by
  have s0 : SrtP (KD 4).hl := List.Pairwise.nil
  have a1 := pos_tra s0 h1 (by decide) k a
  have a2 := pos_tra sA h2 (by decide) k a
  have b1 := pos_tra s0 h3 (by decide) k a
  have b2 := pos_tra sB h4 (by decide) k a
  have cA := posH_co (traL (traL (KD 4) c 1 2 p m) d 2 3 q n).hl k a
  have cB := posH_co (traL (traL (KD 4) d 2 3 q n) c 1 2 p m).hl k a
  refine po_ext (cA.1.trans cB.1.symm) (cA.2.trans cB.2.symm) ?_ ?_ <;> omega
theorem apart9_pos {c d p q m n : Int} (h1 : traE (KD 4) c 1 2 p m = 0) (h2 : traE (traL (KD 4) c 1 2 p m) d 2 3 q n = 0)
    (sA : SrtP (traL (KD 4) c 1 2 p m).hl) : posH (traL (traL (KD 4) c 1 2 p m) d 2 3 q n).hl c 4 = ⟨c, 4, 0, 0⟩ ∧ (c ≠ d → posH (traL (traL (KD 4) c 1 2 p m) d 2 3 q n).hl d 1 = ⟨d, 1, 0, 0⟩) := by
  have s0 : SrtP (KD 4).hl := List.Pairwise.nil
  have z : ∀ k a, posH (KD 4).hl k a = ⟨k, a, 0, 0⟩ := fun k a => rfl
  refine ⟨?_, fun hne => ?_⟩
  · have a1 := pos_tra s0 h1 (by decide) c 4
    have a2 := pos_tra sA h2 (by decide) c 4
    rw [z] at a1
    have co := posH_co (traL (traL (KD 4) c 1 2 p m) d 2 3 q n).hl c 4
    refine po_ext co.1 co.2 ?_ ?_ <;> simp at a1 a2 ⊢ <;> omega
  · have a1 := pos_tra s0 h1 (by decide) d 1
    have a2 := pos_tra sA h2 (by decide) d 1
    rw [z] at a1
    have co := posH_co (traL (traL (KD 4) c 1 2 p m) d 2 3 q n).hl d 1
    have hn : ¬ d = c := fun e => hne e.symm
    refine po_ext co.1 co.2 ?_ ?_ <;> simp [hn] at a1 a2 ⊢ <;> omega
end Go.Proofs.Ytbmmokgmpgahnaa
