/- Plain: what becomes of dues; no program. -/
import Derived.Test.YtlbekdpmfjhjhaaG09
namespace Go.Proofs.Ytlbekdpmfjhjhaa
open Go.RowKit Go.Sort
set_option linter.unusedVariables false
set_option linter.unusedSimpArgs false

/-- A due. -/
structure Du where
  ac : Int
  ca : Int
  v : Int
/-- What became of one. -/
structure Sd where
  ac : Int
  ca : Int
  de : Bool
  cu : Int
def defD (d : Du) : Int := if d.ca + d.v < 0 then -(d.ca + d.v) else 0
def defs : List Du → Int
  | [] => 0
  | d :: l => defD d + defs l
def wt (d : Du) : Int := if d.v < 0 then 0 else d.v
def sd0 (d : Du) : Sd := ⟨d.ac, if d.ca + d.v < 0 then 0 else d.ca + d.v, decide (d.ca + d.v < 0), 0⟩
def leftS (f : Int) (l : List Du) : Int := if defs l ≤ f then 0 else defs l - f
def fundS (f : Int) (l : List Du) : Int := if defs l ≤ f then f - defs l else 0
/-- The parts of T by the weights, and none of nothing. -/
def cuts (T : Int) (ws : List Int) : List Int := if T = 0 then ws.map (fun _ => 0) else Cut.go T (sm ws) (Cut.ex T ws) [] ws
def less (s : Sd) (c : Int) : Sd := ⟨s.ac, s.ca - c, s.de, c⟩
def outS (f : Int) (l : List Du) : List Sd := List.zipWith less (l.map sd0) (cuts (leftS f l) (l.map wt))
def dueB (a : Int) (d : Du) : Bool := decide (a < d.ac ∧ (0 ≤ d.ca ∧ d.ca ≤ 1000000000000000) ∧ -100000000000000000 ≤ d.v ∧ d.v ≤ 100000000000000000)
def risD : Int → List Du → Bool
  | _, [] => true
  | a, d :: l => dueB a d && risD d.ac l
def sumV : List Du → Int
  | [] => 0
  | d :: l => d.v + sumV l
def errS (f : Int) (l : List Du) : Int := if 64 < l.length then 3 else if ¬ (0 ≤ f ∧ f ≤ 1000000000000000) then 2 else if risD 0 l = false then 2 else if sumV l ≠ 0 then 130 else 0
theorem errS_ok {f : Int} {l : List Du} : errS f l = 0 ↔ l.length ≤ 64 ∧ (0 ≤ f ∧ f ≤ 1000000000000000) ∧ risD 0 l = true ∧ sumV l = 0 := by
  unfold errS
  by_cases h1 : 64 < l.length
  · rw [if_pos h1]; constructor
    · intro h; omega
    · intro h; omega
  rw [if_neg h1]
  by_cases h2 : 0 ≤ f ∧ f ≤ 1000000000000000
  · rw [if_neg (by simpa using h2)]
    cases h3 : risD 0 l
    · simp
    · by_cases h4 : sumV l = 0
      · simp [h4, h2]; omega
      · simp [h4]
  · rw [if_pos h2]; constructor
    · intro h; omega
    · intro h; exact absurd h.2.1 h2
/-- Bounds of each due. -/
def In (d : Du) : Prop := (0 ≤ d.ca ∧ d.ca ≤ 1000000000000000) ∧ -100000000000000000 ≤ d.v ∧ d.v ≤ 100000000000000000
theorem ris_in : ∀ {l : List Du} {a : Int}, risD a l = true → ∀ d, d ∈ l → In d ∧ a < d.ac
  | d :: l, a, h, x, hx => by
    unfold risD at h
    rw [Bool.and_eq_true] at h
    have h1 := of_decide_eq_true h.1
    rcases List.mem_cons.1 hx with rfl | hx
    · exact ⟨h1.2, h1.1⟩
    · have := ris_in h.2 x hx
      exact ⟨this.1, by have := this.2; have := h1.1; omega⟩
theorem ris_low : ∀ {l : List Du} {a b : Int}, b ≤ a → risD a l = true → risD b l = true
  | [], _, _, _, _ => rfl
  | d :: l, a, b, hb, h => by
    unfold risD at h ⊢
    rw [Bool.and_eq_true] at h ⊢
    have h1 := of_decide_eq_true h.1
    exact ⟨decide_eq_true ⟨by have := h1.1; omega, h1.2⟩, h.2⟩
theorem ris_filter (p : Du → Bool) : ∀ {l : List Du} {a : Int}, risD a l = true → risD a (l.filter p) = true
  | [], _, _ => rfl
  | d :: l, a, h => by
    unfold risD at h
    rw [Bool.and_eq_true] at h
    have h1 := of_decide_eq_true h.1
    cases c : p d
    · rw [List.filter_cons_of_neg (by simp [c])]
      exact ris_low (by have := h1.1; omega) (ris_filter p h.2)
    · rw [List.filter_cons_of_pos c, risD, Bool.and_eq_true]
      exact ⟨h.1, ris_filter p h.2⟩
theorem defD_bd {d : Du} (h : In d) : 0 ≤ defD d ∧ defD d ≤ wt d - d.v := by
  unfold In at h
  unfold defD wt
  split <;> split <;> omega
theorem defs_bd : ∀ {l : List Du}, (∀ d, d ∈ l → In d) → 0 ≤ defs l ∧ defs l ≤ sm (l.map wt) - sumV l
  | [], _ => by simp [defs, sm, sumV]
  | d :: l, h => by
    have h1 := defD_bd (h d (by simp))
    have h2 := defs_bd (l := l) fun x hx => h x (by simp [hx])
    simp only [defs, sumV, List.map_cons, sm]
    omega
theorem wt_bd {d : Du} (h : In d) : 0 ≤ wt d ∧ wt d ≤ 100000000000000000 := by
  unfold In at h
  unfold wt
  split <;> omega
theorem wts_bd : ∀ {l : List Du}, (∀ d, d ∈ l → In d) → 0 ≤ sm (l.map wt) ∧ sm (l.map wt) ≤ 100000000000000000 * (l.length : Int)
  | [], _ => by simp [sm]
  | d :: l, h => by
    have h1 := wt_bd (h d (by simp))
    have h2 := wts_bd (l := l) fun x hx => h x (by simp [hx])
    simp only [List.map_cons, sm, List.length_cons]
    omega
/-- Dues that may be settled. -/
structure May (f : Int) (l : List Du) : Prop where
  len : l.length ≤ 64
  fund : 0 ≤ f ∧ f ≤ 1000000000000000
  ris : risD 0 l = true
  sum : sumV l = 0
theorem may_of {f : Int} {l : List Du} (h : errS f l = 0) : May f l := by
  obtain ⟨a, b, c, d⟩ := errS_ok.1 h
  exact ⟨a, b, c, d⟩
variable {f : Int} {l : List Du}
theorem May.ins (h : May f l) : ∀ d, d ∈ l → In d := fun d hd => (ris_in h.ris d hd).1
theorem May.left (h : May f l) : 0 ≤ leftS f l ∧ leftS f l ≤ sm (l.map wt) ∧ sm (l.map wt) ≤ 6400000000000000000 := by
  have h1 := defs_bd h.ins
  have h2 := wts_bd h.ins
  have h3 := h.len
  have h4 := h.sum
  have h5 := h.fund
  unfold leftS
  split <;> omega
theorem getD_wt (h : May f l) (t : Nat) : 0 ≤ (l.map wt).getD t 0 := by
  rw [List.getD]
  cases e : (l.map wt)[t]? with
  | none => simp
  | some x =>
    obtain ⟨d, hd, rfl⟩ := List.mem_map.1 (List.mem_of_getElem? e)
    exact (wt_bd (h.ins d hd)).1
theorem May.al (h : May f l) (h0 : leftS f l ≠ 0) {g : Nat → Int} (hg : St.Rn (Sp.ky (leftS f l) (sm (l.map wt)) (l.map wt)) g 0 (l.map wt).length) : Al2 (leftS f l) (l.map wt) g := by
  have hl := h.left
  exact ⟨⟨by omega, by omega, by omega, by omega, getD_wt h, rfl⟩, hg⟩
theorem May.order (h : May f l) (h0 : leftS f l ≠ 0) : ∃ g, Al2 (leftS f l) (l.map wt) g := by
  obtain ⟨g, hg⟩ := St.rn_some (Sp.ky (leftS f l) (sm (l.map wt)) (l.map wt)) (l.map wt).length
  exact ⟨g, h.al h0 hg⟩
theorem cuts_len (T : Int) (ws : List Int) : (cuts T ws).length = ws.length := by
  unfold cuts
  split
  · simp
  · rw [Cut.go_len]
theorem sm_zero (ws : List Int) : sm (ws.map (fun _ => (0 : Int))) = 0 := by
  induction ws with
  | nil => rfl
  | cons x l ih => simp only [List.map_cons, sm, ih]; rfl
/-- The cuts: together what is left; none below 0, none more than was won. -/
theorem May.cut (h : May f l) : sm (cuts (leftS f l) (l.map wt)) = leftS f l ∧ ∀ t, t < l.length → 0 ≤ (cuts (leftS f l) (l.map wt)).getD t 0 ∧ (cuts (leftS f l) (l.map wt)).getD t 0 ≤ (l.map wt).getD t 0 := by
  by_cases h0 : leftS f l = 0
  · have e : cuts (leftS f l) (l.map wt) = (l.map wt).map (fun _ => 0) := if_pos h0
    rw [e, sm_zero, h0]
    refine ⟨rfl, fun t ht => ?_⟩
    have hz : ((l.map wt).map (fun _ => (0 : Int))).getD t 0 = 0 := by simp [List.getD, List.getElem?_map, List.getElem?_eq_getElem ht]
    rw [hz]
    exact ⟨Int.le_refl _, getD_wt h t⟩
  · obtain ⟨g, al⟩ := h.order h0
    have e : cuts (leftS f l) (l.map wt) = pt (leftS f l) (l.map wt) g := by rw [Cut.pt_go al]; exact if_neg h0
    rw [e]
    refine ⟨al.sum, fun t ht => ?_⟩
    have ht' : t < (l.map wt).length := by simpa using ht
    rw [pt_getD ht']
    exact ⟨al.nonneg ht', al.most ht' h.left.2.1⟩
end Go.Proofs.Ytlbekdpmfjhjhaa
