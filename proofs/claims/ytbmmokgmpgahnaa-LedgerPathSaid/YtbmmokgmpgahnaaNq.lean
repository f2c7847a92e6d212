/- Plain facts of LedgerZero: each contract adds up to nothing; the funds. -/
import Derived.Test.YtbmmokgmpgahnaaNm
import Derived.Test.YtbmmokgmpgahnaaMr
import Derived.Test.YtbmmokgmpgahnaaLp
namespace Go.Proofs.Ytbmmokgmpgahnaa
open Go.RowKit Go.Shelf
set_option linter.unusedVariables false
set_option linter.unusedSimpArgs false
set_option linter.unusedSectionVars false

section
variable {α κ : Type} [DecidableEq κ] {P : Program} {k : TypeId} {M : MapT α κ P k}
/-- A sum, but for one. -/
theorem sum_but (f : α → Int) (c : κ) : ∀ l : List α, (l.Pairwise fun x y => M.key x ≠ M.key y) → (l.map f).sum = ((M.but l c).map f).sum + (M.at l c).elim 0 f
  | [], _ => rfl
  | x :: r, d => by
    obtain ⟨d1, d2⟩ := List.pairwise_cons.1 d
    have ih := sum_but f c r d2
    rw [at_cons]
    by_cases h : c = M.key x
    · subst h
      have e1 : M.but (x :: r) (M.key x) = M.but r (M.key x) := by unfold MapT.but; rw [List.filter_cons, if_neg (by simp)]
      have e2 : M.at r (M.key x) = none := at_none fun y hy => (d1 y hy).symm
      rw [e2] at ih
      rw [if_pos rfl, e1, List.map_cons, List.sum_cons, ih]
      show f x + (_ + 0) = _ + f x
      omega
    · have e1 : M.but (x :: r) c = x :: M.but r c := by unfold MapT.but; rw [List.filter_cons, if_pos (by simp; exact fun e => h e.symm)]
      rw [if_neg h, e1, List.map_cons, List.sum_cons, List.map_cons, List.sum_cons, ih]
      omega
end
def sF (f : Po → Int) (hl : List Po) : Int := (hl.map f).sum
theorem sF_hold {f : Po → Int} (h0 : ∀ c a, f ⟨c, a, 0, 0⟩ = 0) {hl : List Po} (h : SrtP hl) (p : Po) : sF f (holdL hl p) = sF f hl + f p - f (posH hl p.co p.ac) := by
  have e := sum_but (M := MP) f (p.co, p.ac) hl h.dis
  have e2 : (MP.at hl (p.co, p.ac)).elim 0 f = f (posH hl p.co p.ac) := by
    unfold posH
    cases MP.at hl (p.co, p.ac) with
    | none => exact (h0 _ _).symm
    | some x => rfl
  rw [e2] at e
  unfold sF
  by_cases g : goneP p = true
  · rw [hold_gone g]
    have : f p = 0 := by
      obtain ⟨co, ac, q, b⟩ := p
      simp [goneP] at g
      rw [g.1, g.2]
      exact h0 _ _
    show ((MP.but hl (p.co, p.ac)).map f).sum = _
    omega
  · have g' : goneP p = false := by simpa using g
    rw [sum_perm ((hold_perm g').map f), List.map_cons, List.sum_cons]
    show f p + ((MP.but hl (p.co, p.ac)).map f).sum = _
    omega
def fQ (c : Int) (p : Po) : Int := if p.co = c then p.q else 0
def fB (c : Int) (p : Po) : Int := if p.co = c then p.b else 0
theorem fQ0 (c : Int) (x a : Int) : fQ c ⟨x, a, 0, 0⟩ = 0 := by unfold fQ; split <;> rfl
theorem fB0 (c : Int) (x a : Int) : fB c ⟨x, a, 0, 0⟩ = 0 := by unfold fB; split <;> rfl
theorem hold_sums (c : Int) : ∀ hl : List Po, ((holdersH hl c).map Po.q).sum = sF (fQ c) hl ∧ ((holdersH hl c).map Po.b).sum = sF (fB c) hl
  | [] => ⟨rfl, rfl⟩
  | x :: r => by
    obtain ⟨h1, h2⟩ := hold_sums c r
    unfold holdersH sF fQ fB at *
    rw [List.filter_cons]
    by_cases e : x.co = c
    · rw [if_pos (by simpa using e)]
      simp only [List.map_cons, List.sum_cons]
      rw [h1, h2, if_pos e, if_pos e]
      exact ⟨rfl, rfl⟩
    · rw [if_neg (by simpa using e)]
      simp only [List.map_cons, List.sum_cons]
      rw [h1, h2, if_neg e, if_neg e]
      exact ⟨by omega, by omega⟩
/-- Each contract adds up to nothing. -/
def ZerI (hl : List Po) : Prop := ∀ c, sF (fQ c) hl = 0 ∧ sF (fB c) hl = 0
theorem zer_tra {L : Lg} {c b s p m : Int} (hs : SrtP L.hl) (h : traE L c b s p m = 0) (hz : ZerI L.hl) : ZerI (traL L c b s p m).hl := by
  have hne : b ≠ s := by
    unfold traE at h
    split at h
    · cases h
    · rename_i k; exact fun e => k (.inr (.inr (.inr e)))
  rw [tra_ok h]
  intro k
  have co1 := posH_co L.hl c b
  have co2 := posH_co L.hl c s
  have hp : posH (holdL L.hl (boughtP L c b p m)) c s = posH L.hl c s := by
    rw [pos_hold hs, if_neg]
    exact fun e => hne e.2.symm
  have aux : ∀ f : Po → Int, (∀ x a, f ⟨x, a, 0, 0⟩ = 0) → sF f (holdL (holdL L.hl (boughtP L c b p m)) (soldP L c s p m)) = sF f L.hl + f (boughtP L c b p m) - f (posH L.hl c b) + f (soldP L c s p m) - f (posH L.hl c s) := fun f h0 => by
    rw [sF_hold h0 (hs.hold _), sF_hold h0 hs]
    show sF f L.hl + f (boughtP L c b p m) - f (posH L.hl c b) + f (soldP L c s p m) - f (posH (holdL L.hl (boughtP L c b p m)) c s) = _
    rw [hp]
  obtain ⟨z1, z2⟩ := hz k
  refine ⟨?_, ?_⟩
  · show sF (fQ k) (holdL (holdL L.hl (boughtP L c b p m)) (soldP L c s p m)) = 0
    rw [aux _ (fQ0 k), z1]
    unfold fQ boughtP soldP
    simp only
    rw [co1.1, co2.1]
    split <;> omega
  · show sF (fB k) (holdL (holdL L.hl (boughtP L c b p m)) (soldP L c s p m)) = 0
    rw [aux _ (fB0 k), z2]
    unfold fB boughtP soldP
    simp only
    rw [co1.1, co2.1]
    split <;> omega
theorem pos_mem {hl : List Po} (h : SrtP hl) {x : Po} (hx : x ∈ hl) : posH hl x.co x.ac = x := by
  unfold posH
  rw [at_some h.dis hx (c := (x.co, x.ac)) rfl]
section
variable {p : Int} {cl : Bool}
theorem sF_mar {f : Po → Int} (h0 : ∀ c a, f ⟨c, a, 0, 0⟩ = 0) : ∀ (pre hl : List Po), SrtP hl → (pre.Pairwise fun x y => MP.key x ≠ MP.key y) → (∀ x, x ∈ pre → posH hl x.co x.ac = x) →
    sF f (marH p cl pre hl) = sF f hl + (pre.map fun x => f (marP p cl x) - f x).sum
  | [], hl, _, _, _ => by simp [mar_nil]
  | x :: pre, hl, h, d, hx => by
    obtain ⟨d1, d2⟩ := List.pairwise_cons.1 d
    have mk := marP_key (p := p) (cl := cl) x
    rw [mar_cons, sF_mar h0 pre _ (h.hold _) d2 (fun y hy => ?_), sF_hold h0 h, mk.1, mk.2, hx x (List.mem_cons_self ..), List.map_cons, List.sum_cons]
    · omega
    · rw [pos_hold h, if_neg]
      · exact hx y (List.mem_cons_of_mem _ hy)
      · rw [mk.1, mk.2]
        intro e
        refine d1 y hy ?_
        show (x.co, x.ac) = (y.co, y.ac)
        rw [e.1, e.2]
theorem sum_lin (hs : List Po) (p : Int) : (hs.map fun x => x.q * p - x.b).sum = (hs.map Po.q).sum * p - (hs.map Po.b).sum := by
  induction hs with
  | nil => simp
  | cons x r ih =>
    simp only [List.map_cons, List.sum_cons, ih, Int.add_mul]
    omega
theorem sum_neg (hs : List Po) (f : Po → Int) : (hs.map fun x => 0 - f x).sum = 0 - (hs.map f).sum := by
  induction hs with
  | nil => simp
  | cons x r ih =>
    simp only [List.map_cons, List.sum_cons, ih]
    omega
theorem sum_zero (hs : List Po) (f : Po → Int) (h : ∀ x, x ∈ hs → f x = 0) : (hs.map f).sum = 0 := by
  induction hs with
  | nil => simp
  | cons x r ih =>
    simp only [List.map_cons, List.sum_cons]
    rw [h x (List.mem_cons_self ..), ih fun y hy => h y (List.mem_cons_of_mem _ hy)]
    rfl
theorem zer_mar {hl : List Po} (c : Int) (h : SrtP hl) (hz : ZerI hl) : ZerI (marH p cl (holdersH hl c) hl) := by
  intro k
  have hm : ∀ x, x ∈ holdersH hl c → x ∈ hl ∧ x.co = c := fun x hx => ⟨(List.mem_filter.1 hx).1, by have := (List.mem_filter.1 hx).2; simpa using this⟩
  have d : (holdersH hl c).Pairwise fun x y => MP.key x ≠ MP.key y := h.dis.filter _
  have aux : ∀ f : Po → Int, (∀ x a, f ⟨x, a, 0, 0⟩ = 0) → sF f (marH p cl (holdersH hl c) hl) = sF f hl + ((holdersH hl c).map fun x => f (marP p cl x) - f x).sum := fun f h0 => sF_mar h0 _ hl h d fun x hx => pos_mem h (hm x hx).1
  obtain ⟨z1, z2⟩ := hz k
  obtain ⟨y1, y2⟩ := hz c
  obtain ⟨q1, q2⟩ := hold_sums c hl
  rw [y1] at q1
  rw [y2] at q2
  rw [aux _ (fQ0 k), aux _ (fB0 k), z1, z2]
  by_cases hk : k = c
  · subst hk
    cases cl
    · rw [sum_zero _ (fun x => fQ k (marP p false x) - fQ k x) (fun x hx => by unfold fQ marP; simp)]
      have e : ((holdersH hl k).map fun x => fB k (marP p false x) - fB k x) = (holdersH hl k).map fun x => x.q * p - x.b := List.map_congr_left fun x hx => by
        have := (hm x hx).2
        unfold fB marP; simp [this]
      rw [e, sum_lin, q1, q2]
      simp
    · have e : ((holdersH hl k).map fun x => fB k (marP p true x) - fB k x) = (holdersH hl k).map fun x => 0 - x.b := List.map_congr_left fun x hx => by
        have := (hm x hx).2
        unfold fB marP; simp [this]
      have e' : ((holdersH hl k).map fun x => fQ k (marP p true x) - fQ k x) = (holdersH hl k).map fun x => 0 - x.q := List.map_congr_left fun x hx => by
        have := (hm x hx).2
        unfold fQ marP; simp [this]
      rw [e, e', sum_neg _ Po.q, sum_neg _ Po.b, q1, q2]
      simp
  · have ne : ∀ x, x ∈ holdersH hl c → x.co ≠ k := fun x hx e => hk (e.symm.trans (hm x hx).2)
    rw [sum_zero _ (fun x => fQ k (marP p cl x) - fQ k x) (fun x hx => by unfold fQ; rw [(marP_key x).1, if_neg (ne x hx), if_neg (ne x hx)]; rfl), sum_zero _ (fun x => fB k (marP p cl x) - fB k x) (fun x hx => by unfold fB; rw [(marP_key x).1, if_neg (ne x hx), if_neg (ne x hx)]; rfl)]
    exact ⟨rfl, rfl⟩
end
theorem marx_zero {L : Lg} {c p : Int} (hz : ZerI L.hl) : ((marX L c p).map Va.v).sum = 0 := by
  unfold marX
  split
  · have e : (((holdersH L.hl c).map (marV p)).map Va.v) = (holdersH L.hl c).map fun x => x.q * p - x.b := by rw [List.map_map]; rfl
    obtain ⟨q1, q2⟩ := hold_sums c L.hl
    rw [(hz c).1] at q1
    rw [(hz c).2] at q2
    rw [e, sum_lin, q1, q2]
    simp
  · rfl
/-! The funds. -/
theorem cash_put {al : List Ac} (h : SrtA al) (a : Ac) : cashL (putL al a) = cashL al + a.ca - (MA.at al a.nu).elim 0 Ac.ca := by
  have e := sum_but (M := MA) Ac.ca a.nu al h.dis
  rw [cash_perm (put_perm al a), cash_cons]
  have e1 : cashL al = (al.map Ac.ca).sum := rfl
  have e2 : cashL (MA.but al (MA.key a)) = ((MA.but al a.nu).map Ac.ca).sum := rfl
  omega
theorem funds_set {L : Lg} (h : SrtA L.al) (n x : Int) (ki de : Bool) : fundsL (setA L ⟨n, (getL L n).1.ca + x, ki, de⟩) = fundsL L + x := by
  unfold setA fundsL
  by_cases h0 : n = 0
  · rw [if_pos h0, h0, getL_zero]
    simp only
    omega
  · rw [if_neg h0]
    simp only
    rw [cash_put h]
    rcases getL_cases L n with ⟨z, _⟩ | ⟨_, e1, e2⟩ | ⟨a, _, e1, _, _, e2⟩
    · exact absurd z h0
    · rw [e2, e1]
      show L.fund + (cashL L.al + (0 + x) - 0) = _
      omega
    · rw [e2, e1]
      show L.fund + (cashL L.al + (a.ca + x) - a.ca) = _
      omega
theorem getL_self {L : Lg} {n : Int} (h : (getL L n).2 = 0) : (getL L n).1.nu = n := by
  rcases getL_cases L n with ⟨z, e⟩ | ⟨_, _, e⟩ | ⟨a, _, _, _, ea, e⟩
  · rw [e]; exact z.symm
  · rw [e] at h; cases h
  · rw [e]; exact ea
theorem funds_play {L : Lg} {y : OpL} (h : LgI L) : fundsL (playL L y) = fundsL L + playN L y := by
  unfold playL playN
  split
  · unfold depL
    split
    · exact funds_set h.asr _ _ _ _
    · omega
  · split
    · unfold witL
      split
      · rename_i e
        have hz : (getL L y.a).2 = 0 := by
          unfold witE at e
          split at e
          · cases e
          · split at e
            · rename_i c; exact absurd e c
            · rename_i c; simpa using c
        rw [getL_self hz]
        have := funds_set h.asr (L := L) y.a (-y.n) (getL L y.a).1.ki (getL L y.a).1.de
        rw [← Int.sub_eq_add_neg] at this
        rw [this]
      · omega
    · split
      · unfold fundsL; rw [tra_al.1, tra_al.2]; omega
      · split
        · unfold marL; split <;> (first | omega | (show L.fund + cashL L.al = L.fund + cashL L.al + 0; omega))
        · omega
theorem zer_play {L : Lg} {y : OpL} (h : LgI L) (hz : ZerI L.hl) : ZerI (playL L y).hl := by
  have hsA : ∀ a, (setA L a).hl = L.hl := fun a => by unfold setA; split <;> rfl
  unfold playL
  split
  · unfold depL; split
    · rw [hsA]; exact hz
    · exact hz
  · split
    · unfold witL; split
      · rw [hsA]; exact hz
      · exact hz
    · split
      · by_cases e : traE L y.c y.a y.b y.n y.m = 0
        · exact zer_tra h.psr e hz
        · rw [(traL_no rfl e).2]; exact hz
      · split
        · unfold marL; split
          · exact zer_mar y.c h.psr hz
          · exact hz
        · exact hz
end Go.Proofs.Ytbmmokgmpgahnaa
