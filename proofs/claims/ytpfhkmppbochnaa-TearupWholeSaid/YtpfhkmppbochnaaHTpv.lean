/- Plain: all of it is closed: what each account has given up (by genTpw.py). -/
import Derived.Test.YtpfhkmppbochnaaHTpp
namespace Go.Proofs.Ytpfhkmppbochnaa
open Go.RowKit Go.Shelf
set_option linter.unusedVariables false
set_option linter.unusedSimpArgs false

/-- Sixty-four numbers in a block. -/
def arr14 (v : Nat → Int) : Array Value := ((List.range 64).map fun j => Value.int .i64 (v j)).toArray
theorem arr_at14 (v : Nat → Int) {j : Nat} (h : j < 64) : (arr14 v)[j]? = some (.int .i64 (v j)) := by simp [arr14, h]
theorem arr_set14 (v : Nat → Int) {j : Nat} (h : j < 64) (a : Int) : (arr14 v).setIfInBounds j (.int .i64 a) = arr14 (fun t => if t = j then a else v t) := by
  apply Array.ext_getElem?
  intro t
  rw [Array.getElem?_setIfInBounds]
  rcases Nat.lt_or_ge t 64 with c | c
  · rw [arr_at14 _ c, arr_at14 _ c]
    by_cases e : t = j
    · subst e; simp [arr14, h]
    · simp [e, Ne.symm e]
  · simp [arr14, Nat.not_lt.2 c]
    omega
theorem zero_arr14 (w : World) : (zeroValue 29).run Try.prog w = .ok (.agg (arr14 fun _ => 0)) w := by kernel_rfl
def AB14 (w : World) (g : Nat) (v : Nat → Int) : Prop := w.heap[g]? = some (.cells (arr14 v) 29 (0, 0))
theorem ab_cell14 {w : World} {g : Nat} {v : Nat → Int} (h : AB14 w g v) {j : Nat} (hj : j < 64) : w.cell? ⟨g, j, none⟩ = some (.int .i64 (v j)) := by
  rw [cell_of_row _ _ _ _ _ _ h, arr_at14 v hj]
theorem ab_fz14 {w : World} {g : Nat} {v : Nat → Int} (h : AB14 w g v) (j : Nat) : w.frozen? ⟨g, j, none⟩ = false := by simp [World.frozen?, show w.heap[g]? = _ from h]
theorem ab_set14 {w : World} {g : Nat} {v : Nat → Int} (h : AB14 w g v) {j : Nat} (hj : j < 64) (a : Int) : AB14 (w.setCell ⟨g, j, none⟩ (.int .i64 a)) g (fun t => if t = j then a else v t) := by
  unfold AB14
  rw [heap_setCell_same w g j _ _ _ h, arr_set14 v hj]

theorem RisL.zip : ∀ {hs : List Ho} (ns : List Int), RisL hs → RisL (List.zipWith mkH hs ns)
  | [], ns, _ => by simp [RisL]
  | x :: hs, [], _ => by simp [RisL]
  | x :: hs, n :: ns, h => by
    obtain ⟨h1, h2⟩ := List.pairwise_cons.1 h
    rw [List.zipWith_cons_cons]
    refine List.pairwise_cons.2 ⟨fun y hy => ?_, RisL.zip ns h2⟩
    obtain ⟨t, ht⟩ := List.getElem?_of_mem hy
    rw [List.getElem?_zipWith] at ht
    cases e1 : hs[t]? with
    | none => rw [e1] at ht; simp at ht
    | some z =>
      cases e2 : ns[t]? with
      | none => rw [e1, e2] at ht; simp at ht
      | some k =>
        rw [e1, e2] at ht
        simp only [Option.some.injEq] at ht
        rw [← ht]
        exact h1 z (List.mem_of_getElem? e1)
variable {q : Int} {l : List Ho}
theorem MayP.risO (M : MayP q l) : RisL (oppo q l) := (risH_ris M.ris).filter _
theorem MayP.risP (M : MayP q l) : RisL (outP q l) := (RisL.zip _ M.risO).filter _
theorem RisL.lt {o : List Ho} (h : RisL o) {i : Nat} {x y : Ho} (hx : o[i]? = some x) (hy : o[i + 1]? = some y) : x.ac < y.ac := by
  have h1 := (List.getElem?_eq_some_iff.1 hx).1
  have h2 := (List.getElem?_eq_some_iff.1 hy).1
  have := (List.pairwise_iff_getElem.1 h) i (i + 1) h1 h2 (by omega)
  rw [List.getElem?_eq_getElem h1] at hx
  rw [List.getElem?_eq_getElem h2] at hy
  cases hx
  cases hy
  exact this
theorem RisL.one {o : List Ho} (h : RisL o) {x y : Ho} (hx : x ∈ o) (hy : y ∈ o) (e : x.ac = y.ac) : x = y := by
  obtain ⟨i, hi⟩ := List.getElem?_of_mem hx
  obtain ⟨j, hj⟩ := List.getElem?_of_mem hy
  have h1 := (List.getElem?_eq_some_iff.1 hi).1
  have h2 := (List.getElem?_eq_some_iff.1 hj).1
  rw [List.getElem?_eq_getElem h1] at hi
  rw [List.getElem?_eq_getElem h2] at hj
  cases hi
  cases hj
  rcases Nat.lt_trichotomy i j with c | c | c
  · have := (List.pairwise_iff_getElem.1 h) i j h1 h2 c; omega
  · subst c; rfl
  · have := (List.pairwise_iff_getElem.1 h) j i h2 h1 c; omega
theorem RisL.before {o : List Ho} (h : RisL o) {i : Nat} {x : Ho} (hx : o[i]? = some x) : ∀ y, y ∈ o.take i → y.ac ≠ x.ac := fun y hy => by
  obtain ⟨j, hj⟩ := List.getElem?_of_mem hy
  have hl := (List.getElem?_eq_some_iff.1 hj).1
  rw [List.length_take] at hl
  rw [List.getElem?_take_of_lt (by omega)] at hj
  have h1 := (List.getElem?_eq_some_iff.1 hj).1
  have h2 := (List.getElem?_eq_some_iff.1 hx).1
  rw [List.getElem?_eq_getElem h1] at hj
  rw [List.getElem?_eq_getElem h2] at hx
  cases hj
  cases hx
  have := (List.pairwise_iff_getElem.1 h) j i h1 h2 (by omega)
  omega
theorem MayP.gotYes (M : MayP q l) {h : Ho} (hh : h ∈ l) (c : 0 < opq q h) : ∃ s, s < (wsP q l).length ∧ (wsP q l).getD s 0 = opq q h ∧ gotR (outP q l) h.ac = (prt (mag q) (wsP q l)).getD s 0 := by
  have hm : h ∈ oppo q l := List.mem_filter.2 ⟨hh, decide_eq_true c⟩
  obtain ⟨s, hs⟩ := List.getElem?_of_mem hm
  have hsl := (List.getElem?_eq_some_iff.1 hs).1
  refine ⟨s, by rw [wsP_len]; exact hsl, by unfold wsP; rw [List.getD, List.getElem?_map, hs]; rfl, ?_⟩
  exact gotR_zip _ _ (by rw [prt_len, wsP_len]) M.risO (fun t ht => (M.at' (by rwa [prt_len] at ht)).1) s h hs
theorem MayP.gotNo (M : MayP q l) {h : Ho} (hh : h ∈ l) (c : ¬ 0 < opq q h) : gotR (outP q l) h.ac = 0 := gotR_no _ _ fun y hy e => by
  obtain ⟨⟨t, z, e1, e2, _⟩, _⟩ := outP_mem hy
  obtain ⟨m1, m2⟩ := List.mem_filter.1 (List.mem_of_getElem? e1)
  have m3 : 0 < opq q z := of_decide_eq_true m2
  have : z.ac = h.ac := by rw [← e, e2]; rfl
  have := (risH_ris M.ris).one m1 hh this
  subst this
  exact c m3
theorem MayP.gotBd (M : MayP q l) {h : Ho} (hh : h ∈ l) : 0 ≤ gotR (outP q l) h.ac ∧ gotR (outP q l) h.ac ≤ max (opq q h) 0 := by
  by_cases c : 0 < opq q h
  · obtain ⟨s, h1, h2, h3⟩ := M.gotYes hh c
    have := M.at' h1
    rw [h3]
    omega
  · rw [M.gotNo hh c]; omega
theorem MayP.gotMono (M : MayP q l) {h o : Ho} (hh : h ∈ l) (ho : o ∈ l) (c : opq q o < opq q h) : gotR (outP q l) o.ac ≤ gotR (outP q l) h.ac := by
  by_cases co : 0 < opq q o
  · obtain ⟨s, h1, h2, h3⟩ := M.gotYes ho co
    obtain ⟨t, k1, k2, k3⟩ := M.gotYes hh (by omega)
    rw [h3, k3]
    exact M.mono h1 k1 (by omega)
  · rw [M.gotNo ho co]
    exact (M.gotBd hh).1
/-- Sums of what is given up. -/
def sumH : List Ho → Int
  | [] => 0
  | x :: l => x.q + sumH l
theorem sumH_snoc (l : List Ho) (d : Ho) : sumH (l ++ [d]) = sumH l + d.q := by
  induction l with
  | nil => simp [sumH]
  | cons x l ih => simp only [List.cons_append, sumH, ih]; omega
theorem sumH_part : ∀ (l : List Ho), (∀ x, x ∈ l → 0 < x.q) → ∀ j, 0 ≤ sumH (l.take j) ∧ sumH (l.take j) ≤ sumH l
  | [], _, j => by simp [sumH]
  | x :: l, h, 0 => by
    have := (sumH_part l (fun y hy => h y (by simp [hy])) l.length)
    rw [List.take_length] at this
    have := h x (by simp)
    simp only [List.take_zero, sumH]
    omega
  | x :: l, h, j + 1 => by
    have := sumH_part l (fun y hy => h y (by simp [hy])) j
    have := h x (by simp)
    simp only [List.take_succ_cons, sumH]
    omega
theorem sumH_zip : ∀ (hs : List Ho) (ns : List Int), hs.length = ns.length → (∀ t, t < ns.length → 0 ≤ ns.getD t 0) → sumH ((List.zipWith mkH hs ns).filter posH) = sm ns
  | [], [], _, _ => rfl
  | x :: hs, n :: ns, hl, hn => by
    have n0 := hn 0 (by simp)
    simp only [List.getD_cons_zero] at n0
    have ih := sumH_zip hs ns (by simpa using hl) fun t ht => by have := hn (t + 1) (by simp; omega); simpa using this
    rw [List.zipWith_cons_cons]
    by_cases c : 0 < n
    · rw [List.filter_cons_of_pos (show posH (mkH x n) = true from decide_eq_true c), sumH, ih, sm]; rfl
    · rw [List.filter_cons_of_neg (by simp [posH, mkH, c]), ih, sm]; omega
theorem MayP.tot (M : MayP q l) : sumH (outP q l) = mag q := by
  have := sumH_zip (oppo q l) (prt (mag q) (wsP q l)) (by rw [prt_len, wsP_len]) (fun t ht => (M.at' (by rwa [prt_len] at ht)).1)
  rw [M.sum] at this
  exact this
def fndA (x : Ho) (l : List Ho) : Bool := l.any fun h => decide (h.ac = x.ac)
theorem fndA_snoc (x : Ho) (l : List Ho) (d : Ho) : fndA x (l ++ [d]) = (fndA x l || decide (d.ac = x.ac)) := by
  unfold fndA
  rw [List.any_append]
  simp
theorem MayP.fndA (M : MayP q l) {x : Ho} (hx : x ∈ outP q l) : Go.Proofs.Ytpfhkmppbochnaa.fndA x l = true := by
  obtain ⟨⟨t, h, e1, e2, e3⟩, _⟩ := outP_mem hx
  exact List.any_eq_true.2 ⟨h, (M.part e1 e3).1, decide_eq_true (by rw [e2]; rfl)⟩
/-- The accounts by their places; what the array has. -/
def acs (l : List Ho) (t : Nat) : Int := (l.getD t zeroHo).ac
theorem acs_at {l : List Ho} {t : Nat} {d : Ho} (h : l[t]? = some d) : acs l t = d.ac := by unfold acs; rw [List.getD, h]; rfl
def gF (l o : List Ho) (t : Nat) : Int := if t < l.length then gotR o (acs l t) else 0
def gI (l : List Ho) (V : Nat → Int) (x : Ho) (k t : Nat) : Int := if t < k ∧ acs l t = x.ac then x.q else V t
theorem gI_zero (l : List Ho) (V : Nat → Int) (x : Ho) : gI l V x 0 = V := by funext t; unfold gI; rw [if_neg (by omega)]
theorem gI_yes {l : List Ho} {V : Nat → Int} {x : Ho} {k : Nat} {d : Ho} (hd : l[k]? = some d) (e : d.ac = x.ac) : (fun t => if t = k then x.q else gI l V x k t) = gI l V x (k + 1) := by
  funext t
  unfold gI
  by_cases c : t = k
  · subst c
    rw [if_pos rfl, if_pos ⟨by omega, by rw [acs_at hd]; exact e⟩]
  · rw [if_neg c]
    by_cases a : acs l t = x.ac
    · by_cases b : t < k
      · rw [if_pos ⟨b, a⟩, if_pos ⟨by omega, a⟩]
      · rw [if_neg (fun h => b h.1), if_neg (fun h => by have := h.1; omega)]
    · rw [if_neg (fun h => a h.2), if_neg (fun h => a h.2)]
theorem gI_no {l : List Ho} {V : Nat → Int} {x : Ho} {k : Nat} {d : Ho} (hd : l[k]? = some d) (e : ¬ d.ac = x.ac) : gI l V x k = gI l V x (k + 1) := by
  funext t
  unfold gI
  by_cases c : t = k
  · subst c
    rw [if_neg (fun h => by have := h.1; omega), if_neg (fun h => e (by rw [← acs_at hd]; exact h.2))]
  · by_cases a : acs l t = x.ac
    · by_cases b : t < k
      · rw [if_pos ⟨b, a⟩, if_pos ⟨by omega, a⟩]
      · rw [if_neg (fun h => b h.1), if_neg (fun h => by have := h.1; omega)]
    · rw [if_neg (fun h => a h.2), if_neg (fun h => a h.2)]
theorem gI_all {l o : List Ho} (ho : RisL o) {i : Nat} {x : Ho} (hx : o[i]? = some x) : gI l (gF l (o.take i)) x l.length = gF l (o.take (i + 1)) := by
  funext t
  unfold gI gF
  by_cases c : t < l.length
  · rw [if_pos c, if_pos c, take_s14 hx, gotR_snoc _ _ _ (ho.before hx)]
    by_cases a : acs l t = x.ac
    · rw [if_pos ⟨c, a⟩, if_pos a]
    · rw [if_neg (fun h => a h.2), if_neg a]
  · rw [if_neg c, if_neg c, if_neg (fun h => c h.1)]
theorem gF_zero (l : List Ho) : gF l [] = fun _ => 0 := by funext t; unfold gF; split <;> rfl
theorem gF_at {l o : List Ho} {t : Nat} {d : Ho} (h : l[t]? = some d) : gF l o t = gotR o d.ac := by
  unfold gF
  rw [if_pos (List.getElem?_eq_some_iff.1 h).1, acs_at h]
theorem below_fr14 {w W W' : World} {g : Nat} (b : Below w.heap.size w W) (f : Fr (fun k => k = g) W W') (hg : w.heap.size ≤ g) : Below w.heap.size w W' :=
  ⟨f.b0.os.trans b.os, f.b0.tape.trans b.tape, f.b0.output.trans b.output, Nat.le_trans b.size f.b0.size, fun i hi => (f.at' i (Nat.lt_of_lt_of_le hi b.size) (fun e => by omega)).trans (b.block i hi)⟩
theorem grd_fr14 {α : Type} {E : Elt α} {w W W' : World} {A : Option Addr} {n g : Nat} {l : List α} (h : E.Rd w A n l) (q : Below w.heap.size w W) (f : Fr (fun k => k = g) W W') (hg : w.heap.size ≤ g) : E.Rd W' A n l :=
  grd_below h (W := W') (below_fr14 q f hg) (Nat.le_refl _)
theorem ab_below14 {w W : World} {g : Nat} {v : Nat → Int} (h : AB14 w g v) (b : Below w.heap.size w W) : AB14 W g v := (b.block g (Array.getElem?_eq_some_iff.1 h).1).trans h
end Go.Proofs.Ytpfhkmppbochnaa
