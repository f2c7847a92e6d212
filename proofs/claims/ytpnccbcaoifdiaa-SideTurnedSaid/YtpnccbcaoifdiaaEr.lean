/- A side turned: prices p become 1001 - p, who buys sells; plain facts. -/
import Derived.Test.YtpnccbcaoifdiaaSx
import Derived.Test.YtpnccbcaoifdiaaEm
namespace Go.Proofs.Ytpnccbcaoifdiaa
open Go.RowKit
set_option linter.unusedVariables false

def trO (o : Or) : Or := ⟨o.nu, o.ac, false, 1001 - o.pr, o.le⟩
theorem btr_tr6 (a b : Int) : btr false (1001 - a) (1001 - b) = btr true a b := by
  simp only [btr, Bool.false_and, Bool.not_false, Bool.true_and, Bool.false_or, Bool.not_true, Bool.or_false]
  by_cases h : b < a
  · rw [decide_eq_true h, decide_eq_true (by omega)]
  · rw [decide_eq_false h, decide_eq_false (by omega)]
/-- Prices that may be turned. -/
def Pr1 (os : List Or) : Prop := ∀ x, x ∈ os → 1 ≤ x.pr ∧ x.pr ≤ 1000
section
variable {os : List Or} {o : Or} {n left : Int}
theorem tr_ok (h : o.ok) (hp : 1 ≤ o.pr ∧ o.pr ≤ 1000) : (trO o).ok := ⟨h.nu, h.ac, by show I64' (1001 - o.pr); constructor <;> omega, h.le⟩
theorem may_tr (hp : 1 ≤ o.pr ∧ o.pr ≤ 1000) : mayO (trO o) = mayO o := by
  unfold mayO trO
  have e1 : decide (0 < 1001 - o.pr) = decide (0 < o.pr) := by rw [decide_eq_true (show 0 < 1001 - o.pr by omega), decide_eq_true (show 0 < o.pr by omega)]
  have e2 : decide (1001 - o.pr ≤ 10000000) = decide (o.pr ≤ 10000000) := by rw [decide_eq_true (show 1001 - o.pr ≤ 10000000 by omega), decide_eq_true (show o.pr ≤ 10000000 by omega)]
  simp only [e1, e2]
theorem find_tr : ∀ (os : List Or) (n : Int), findO (os.map trO) n = (findO os n).map trO
  | [], n => rfl
  | x :: r, n => by
    have ih := find_tr r n
    unfold findO at ih ⊢
    rw [List.map_cons, List.find?_cons, List.find?_cons]
    have e : ((trO x).nu == n) = (x.nu == n) := rfl
    rw [e]
    cases (x.nu == n)
    · exact ih
    · rfl
theorem ins_tr : ∀ (os : List Or) (o : Or), insO false (trO o) (os.map trO) = (insO true o os).map trO
  | [], o => rfl
  | x :: r, o => by
    have ih := ins_tr r o
    rw [List.map_cons]
    unfold insO
    have e : btr false (trO o).pr (trO x).pr = btr true o.pr x.pr := btr_tr6 o.pr x.pr
    rw [e]
    split
    · rfl
    · rw [List.map_cons, ih]
theorem addA_tr (hb : o.bu = true) (hp : 1 ≤ o.pr ∧ o.pr ≤ 1000) : addA false (os.map trO) (trO o) = addA true os o := by
  unfold addA
  have e1 : (mayO (trO o) && (trO o).bu == false) = (mayO o && o.bu == true) := by rw [may_tr hp, hb]; rfl
  have e2 : (findO (os.map trO) (trO o).nu).isSome = (findO os o.nu).isSome := by
    rw [show (trO o).nu = o.nu from rfl, find_tr]
    cases findO os o.nu <;> rfl
  rw [e1, e2, List.length_map]
theorem addO_tr (hb : o.bu = true) (hp : 1 ≤ o.pr ∧ o.pr ≤ 1000) : addO false (os.map trO) (trO o) = (addO true os o).map trO := by
  unfold addO
  rw [addA_tr hb hp, ins_tr]
  split <;> rfl
theorem fillA_tr : fillA (os.map trO) n = fillA os n := by
  cases os <;> rfl
theorem fillO_tr : fillO (os.map trO) n = (fillO os n).map trO := by
  cases os with
  | nil => rfl
  | cons x r =>
    show (if n < 1 ∨ x.le < n then trO x :: r.map trO else if x.le - n = 0 then r.map trO else (trO x).wi (x.le - n) :: r.map trO) = (if n < 1 ∨ x.le < n then x :: r else if x.le - n = 0 then r else x.wi (x.le - n) :: r).map trO
    split
    · rfl
    · split
      · rfl
      · rfl
theorem getA_tr : getA (os.map trO) n = getA os n := by
  unfold getA
  rw [find_tr]
  cases findO os n <;> rfl
theorem dropO_tr : dropO (os.map trO) n = (dropO os n).map trO := by
  unfold dropO
  rw [List.filter_map]
  rfl
theorem lowA_tr : lowA (os.map trO) n left = lowA os n left := by
  unfold lowA
  rw [find_tr]
  cases findO os n <;> rfl
theorem lowO_tr : lowO (os.map trO) n left = (lowO os n left).map trO := by
  unfold lowO
  rw [lowA_tr]
  split
  · rw [List.map_map, List.map_map]
    refine List.map_congr_left fun x _ => ?_
    show (if (trO x).nu = n then (trO x).wi left else trO x) = trO (if x.nu = n then x.wi left else x)
    have e : (trO x).nu = x.nu := rfl
    rw [e]
    split <;> rfl
  · rfl
theorem sum_tr (p nt : Int) : ∀ os : List Or, sumR false (os.map trO) (1001 - p) nt = sumR true os p nt
  | [] => rfl
  | x :: r => by
    have ih := sum_tr p nt r
    have e : ∀ (b : Bool) (y : Or) (l : List Or) (q : Int), sumR b (y :: l) q nt = oneR b q nt y + sumR b l q nt := fun b y l q => by simp [sumR]
    rw [List.map_cons, e, e, ih]
    have h1 : oneR false (1001 - p) nt (trO x) = oneR true p nt x := by
      unfold oneR condR
      have h2 : btr false (trO x).pr (1001 - p) = btr true x.pr p := btr_tr6 x.pr p
      have h3 : ((trO x).pr == 1001 - p) = (x.pr == p) := by
        show ((1001 - x.pr : Int) == 1001 - p) = _
        by_cases c : x.pr = p
        · subst c; simp
        · rw [beq_eq_false_iff_ne.2 c, beq_eq_false_iff_ne.2 (by omega)]
      rw [h2, h3]
      rfl
    rw [h1]
theorem pr_add (h : Pr1 os) (hp : 1 ≤ o.pr ∧ o.pr ≤ 1000) : Pr1 (addO true os o) := by
  unfold addO
  split
  · intro x hx
    rcases ins_mem.1 hx with rfl | hx
    · exact hp
    · exact h x hx
  · exact h
theorem pr_fill (h : Pr1 os) : Pr1 (fillO os n) := by
  cases os with
  | nil => exact h
  | cons x r =>
    show Pr1 (if n < 1 ∨ x.le < n then x :: r else if x.le - n = 0 then r else x.wi (x.le - n) :: r)
    split
    · exact h
    · split
      · exact fun y hy => h y (List.mem_cons_of_mem _ hy)
      · intro y hy
        rcases List.mem_cons.1 hy with rfl | hy
        · exact h x (List.mem_cons_self ..)
        · exact h y (List.mem_cons_of_mem _ hy)
theorem pr_drop (h : Pr1 os) : Pr1 (dropO os n) := fun x hx => h x (List.mem_filter.1 hx).1
theorem pr_low (h : Pr1 os) : Pr1 (lowO os n left) := by
  unfold lowO
  split
  · intro y hy
    obtain ⟨x, hx, rfl⟩ := List.mem_map.1 hy
    show 1 ≤ (if x.nu = n then x.wi left else x).pr ∧ (if x.nu = n then x.wi left else x).pr ≤ 1000
    split <;> exact h x hx
  · exact h
end
/-- Two sides of the program's, with blocks that neither turns. -/
structure Tq (Pd : PdT) (w : World) (X : List (Nat × Obj)) (W : World) (Fa Fb : Nat → Prop) (a b : Nat) (os ps : List Or) (ta tb : Nat) : Prop where
  pa : Pd W Fa a true os ta
  pb : Pd W Fb b false ps tb
  ap : ∀ k, Fa k → ¬ Fb k
  fa : ∀ k, Fa k → w.heap.size ≤ k
  fb : ∀ k, Fb k → w.heap.size ≤ k
  bl : Below w.heap.size w W
  xs : ∀ p, p ∈ X → W.heap[p.1]? = some p.2 ∧ ¬ Fa p.1 ∧ ¬ Fb p.1
def TqE (Pd : PdT) (w : World) (X : List (Nat × Obj)) (W : World) (a b : Nat) (os ps : List Or) (t : Nat) : Prop := ∃ Fa Fb, Tq Pd w X W Fa Fb a b os ps t t
def TqX (Pd : PdT) (w : World) (X : List (Nat × Obj)) (a b : Nat) (W : World) : Prop := ∃ os ps ta tb Fa Fb, Tq Pd w X W Fa Fb a b os ps ta tb
/-- Between a call on one and the like call on the other. -/
def TqH (Pd : PdT) (w : World) (X : List (Nat × Obj)) (W : World) (a b : Nat) (os ps : List Or) (ta tb : Nat) : Prop := ∃ Fa Fb, Tq Pd w X W Fa Fb a b os ps ta tb
theorem aft_below6 {F : Nat → Prop} {w W W' : World} (b : Below w.heap.size w W) (hF : ∀ k, F k → w.heap.size ≤ k) (f : Fr F W W') : Below w.heap.size w W' :=
  ⟨f.b0.os.trans b.os, f.b0.tape.trans b.tape, f.b0.output.trans b.output, Nat.le_trans b.size f.size, fun k hk => (f.at' k (Nat.lt_of_lt_of_le hk b.size) (fun c => by have := hF k c; omega)).trans (b.block k hk)⟩
section
variable {Pd : PdT} {zs : Array Value} {w W W' : World} {X : List (Nat × Obj)} {Fa Fb : Nat → Prop} {a b : Nat} {os ps os' ps' : List Or} {t ta tb t' : Nat}
theorem TqE.h (h : TqE Pd w X W a b os ps t) : TqH Pd w X W a b os ps t t := h
theorem TqH.x (h : TqH Pd w X W a b os ps ta tb) : TqX Pd w X a b W := by obtain ⟨Fa, Fb, h⟩ := h; exact ⟨_, _, _, _, _, _, h⟩
theorem TqX.at (h : TqX Pd w X a b W) {p : Nat × Obj} (hp : p ∈ X) : W.heap[p.1]? = some p.2 := by obtain ⟨_, _, _, _, _, _, h⟩ := h; exact (h.xs p hp).1
theorem TqH.at (h : TqH Pd w X W a b os ps ta tb) {p : Nat × Obj} (hp : p ∈ X) : W.heap[p.1]? = some p.2 := h.x.at hp
theorem TqH.bl (h : TqH Pd w X W a b os ps ta tb) : Below w.heap.size w W := by obtain ⟨Fa, Fb, h⟩ := h; exact h.bl
theorem TqH.below (K : SideK Pd zs) (h : TqH Pd w X W a b os ps ta tb) (q : Below W.heap.size W W') : TqH Pd w X W' a b os ps ta tb := by
  obtain ⟨Fa, Fb, h⟩ := h
  exact ⟨Fa, Fb, K.keep (S := fun _ => False) h.pa (Fr.below q) (fun _ _ h => h), K.keep (S := fun _ => False) h.pb (Fr.below q) (fun _ _ h => h), h.ap, h.fa, h.fb, h.bl.trans (q.mono h.bl.size), fun p hp => ⟨(q.block _ (Array.getElem?_eq_some_iff.1 (h.xs p hp).1).1).trans (h.xs p hp).1, (h.xs p hp).2⟩⟩
theorem TqH.drew (K : SideK Pd zs) (h : TqH Pd w X W a b os ps ta tb) : TqH Pd w X W.drew a b os ps ta tb := h.below K (Below.refl _ _).drew
theorem TqH.push (K : SideK Pd zs) (h : TqH Pd w X W a b os ps ta tb) (q : Below W.heap.size W W') {k : Nat} {o : Obj} (hb : W'.heap[k]? = some o) (hge : W.heap.size ≤ k) : TqH Pd w ((k, o) :: X) W' a b os ps ta tb := by
  have hh := h.below K q
  obtain ⟨Fa, Fb, h⟩ := h
  refine ⟨Fa, Fb, K.keep (S := fun _ => False) h.pa (Fr.below q) (fun _ _ h => h), K.keep (S := fun _ => False) h.pb (Fr.below q) (fun _ _ h => h), h.ap, h.fa, h.fb, h.bl.trans (q.mono h.bl.size), fun p hp => ?_⟩
  rcases List.mem_cons.1 hp with rfl | hp
  · exact ⟨hb, fun c => by have : k < W.heap.size := K.lt h.pa _ c; omega, fun c => by have : k < W.heap.size := K.lt h.pb _ c; omega⟩
  · exact ⟨(q.block _ (Array.getElem?_eq_some_iff.1 (h.xs p hp).1).1).trans (h.xs p hp).1, (h.xs p hp).2⟩
theorem TqH.less {X' : List (Nat × Obj)} (h : TqH Pd w X W a b os ps ta tb) (hX : ∀ p, p ∈ X' → p ∈ X) : TqH Pd w X' W a b os ps ta tb := by
  obtain ⟨Fa, Fb, h⟩ := h
  exact ⟨Fa, Fb, h.pa, h.pb, h.ap, h.fa, h.fb, h.bl, fun p hp => h.xs p (hX p hp)⟩
theorem TqH.inv (K : SideK Pd zs) (h : TqH Pd w X W a b os ps ta tb) : InvO true os := by obtain ⟨Fa, Fb, h⟩ := h; exact K.inv h.pa
section
variable {P : Program} {f : FuncId} {args : Array Value} {e0 : Ending}
theorem TqH.ca (K : SideK Pd zs) (h : TqH Pd w X W a b os ps ta tb) (c : ∀ F, Pd W F a true os ta → Calls P f args W fun e w' => e = e0 ∧ AftO Pd W F a true os' t' w') :
    Calls P f args W fun e w' => e = e0 ∧ TqH Pd w X w' a b os' ps t' tb := by
  obtain ⟨Fa, Fb, h⟩ := h
  refine (c Fa h.pa).mono ?_; rintro e w' ⟨rfl, F', k1, k2, k3⟩
  refine ⟨rfl, F', Fb, k1, K.keep h.pb k2 (fun k hk c => h.ap k c hk), fun k hk c => ?_, fun k hk => (k3 k hk).elim (h.fa k) fun c => Nat.le_trans h.bl.size c, h.fb, aft_below6 h.bl h.fa k2, fun p hp => ?_⟩
  · rcases k3 k hk with d | d
    · exact h.ap k d c
    · have := K.lt h.pb k c; omega
  · obtain ⟨d1, d2, d3⟩ := h.xs p hp
    have hl := (Array.getElem?_eq_some_iff.1 d1).1
    refine ⟨(k2.at' _ hl d2).trans d1, fun c => ?_, d3⟩
    rcases k3 _ c with c | c
    · exact d2 c
    · omega
theorem TqH.cb (K : SideK Pd zs) (h : TqH Pd w X W a b os ps ta tb) (c : ∀ F, Pd W F b false ps tb → Calls P f args W fun e w' => e = e0 ∧ AftO Pd W F b false ps' t' w') :
    Calls P f args W fun e w' => e = e0 ∧ TqH Pd w X w' a b os ps' ta t' := by
  obtain ⟨Fa, Fb, h⟩ := h
  refine (c Fb h.pb).mono ?_; rintro e w' ⟨rfl, F', k1, k2, k3⟩
  refine ⟨rfl, Fa, F', K.keep h.pa k2 (fun k hk c => h.ap k hk c), k1, fun k hk c => ?_, h.fa, fun k hk => (k3 k hk).elim (h.fb k) fun c => Nat.le_trans h.bl.size c, aft_below6 h.bl h.fb k2, fun p hp => ?_⟩
  · rcases k3 k c with d | d
    · exact h.ap k hk d
    · have := K.lt h.pa k hk; omega
  · obtain ⟨d1, d2, d3⟩ := h.xs p hp
    have hl := (Array.getElem?_eq_some_iff.1 d1).1
    refine ⟨(k2.at' _ hl d3).trans d1, d2, fun c => ?_⟩
    rcases k3 _ c with c | c
    · exact d3 c
    · omega
theorem TqH.qa (K : SideK Pd zs) (h : TqH Pd w X W a b os ps ta tb) (c : ∀ F, Pd W F a true os ta → Calls P f args W fun e w' => e = e0 ∧ Below W.heap.size W w') :
    Calls P f args W fun e w' => e = e0 ∧ TqH Pd w X w' a b os ps ta tb := by
  have hh := h
  obtain ⟨Fa, Fb, h⟩ := h
  refine (c Fa h.pa).mono ?_; rintro e w' ⟨rfl, q⟩
  exact ⟨rfl, hh.below K q⟩
theorem TqH.qb (K : SideK Pd zs) (h : TqH Pd w X W a b os ps ta tb) (c : ∀ F, Pd W F b false ps tb → Calls P f args W fun e w' => e = e0 ∧ Below W.heap.size W w') :
    Calls P f args W fun e w' => e = e0 ∧ TqH Pd w X w' a b os ps ta tb := by
  have hh := h
  obtain ⟨Fa, Fb, h⟩ := h
  refine (c Fb h.pb).mono ?_; rintro e w' ⟨rfl, q⟩
  exact ⟨rfl, hh.below K q⟩
end
end
end Go.Proofs.Ytpnccbcaoifdiaa
