/- Plain: the weights of those that have won alone; the cuts told back from these. -/
import Derived.Test.YtlbekdpmfjhjhaaHStc
namespace Go.Proofs.Ytlbekdpmfjhjhaa
open Go.RowKit Go.Sort
set_option linter.unusedVariables false
set_option linter.unusedSimpArgs false

/-- What those that have won have won. -/
def won (l : List Du) : List Int := (l.map wt).filter Cut.nz
theorem won_snoc (l : List Du) (d : Du) : won (l ++ [d]) = won l ++ (if 0 < d.v then [d.v] else []) := by
  unfold won
  rw [List.map_append, List.filter_append]
  congr 1
  by_cases c : 0 < d.v
  · rw [if_pos c]
    have e : wt d = d.v := by unfold wt; rw [if_neg (by omega)]
    simp [e, Cut.nz, show d.v ≠ 0 by omega]
  · rw [if_neg c]
    have e : wt d = 0 := by unfold wt; split <;> omega
    simp [e, Cut.nz]
theorem take_x13 {α : Type} {l : List α} {j : Nat} {x : α} (hx : l[j]? = some x) : l.take (j + 1) = l.take j ++ [x] := by
  rw [List.take_add_one, hx]; rfl
theorem won_len (l : List Du) : (won l).length ≤ l.length := by
  unfold won
  exact Nat.le_trans (List.length_filter_le _ _) (by rw [List.length_map]; exact Nat.le_refl _)
theorem won_take {l : List Du} {k : Nat} {d : Du} (hd : l[k]? = some d) : (won (l.take (k + 1))).length = (won (l.take k)).length + (if 0 < d.v then 1 else 0) := by
  rw [take_x13 hd, won_snoc, List.length_append]
  split <;> rfl
theorem won_lt {l : List Du} {k : Nat} {d : Du} (hd : l[k]? = some d) (hv : 0 < d.v) : (won (l.take k)).length < (won l).length := by
  have h1 := won_take hd
  rw [if_pos hv] at h1
  have e : l = l.take (k + 1) ++ l.drop (k + 1) := (List.take_append_drop _ _).symm
  have h2 : (won l).length = (won (l.take (k + 1))).length + (won (l.drop (k + 1))).length := by
    conv => lhs; rw [e]
    unfold won
    rw [List.map_append, List.filter_append, List.length_append]
  omega
theorem back_zero13 : ∀ (ws : List Int) (n : Nat), Cut.back ws (List.replicate n 0) = ws.map (fun _ => (0 : Int))
  | [], _ => rfl
  | x :: l, n => by
    unfold Cut.back
    split
    · cases n with
      | zero => have := back_zero13 l 0; simp only [List.replicate_zero] at this; simp [this]
      | succ n => simp [List.replicate_succ, back_zero13 l n]
    · rw [back_zero13 l n]; rfl
theorem back_at13 : ∀ (ws K : List Int) (k : Nat) (x : Int), ws[k]? = some x → (Cut.back ws K)[k]? = some (if Cut.nz x then K.getD ((ws.take k).filter Cut.nz).length 0 else 0)
  | [], K, k, x, h => by simp at h
  | y :: l, K, 0, x, h => by
    simp only [List.getElem?_cons_zero, Option.some.injEq] at h
    subst h
    unfold Cut.back
    by_cases c : Cut.nz y = true
    · rw [if_pos c, if_pos c]
      cases K <;> simp
    · rw [if_neg c, if_neg c]; rfl
  | y :: l, K, k + 1, x, h => by
    rw [List.getElem?_cons_succ] at h
    have ih := fun K => back_at13 l K k x h
    unfold Cut.back
    by_cases c : Cut.nz y = true
    · rw [if_pos c, List.getElem?_cons_succ, ih, List.take_succ_cons, List.filter_cons_of_pos c, List.length_cons]
      cases K <;> simp
    · rw [if_neg c, List.getElem?_cons_succ, ih, List.take_succ_cons, List.filter_cons_of_neg c]
variable {f : Int} {l : List Du}
theorem sm_won : sm (won l) = sm (l.map wt) := by
  have b := sm_nz (fun x => x) rfl (l.map wt)
  simp only [List.map_id'] at b
  exact b
theorem ex_won (T : Int) : Cut.ex T (won l) = Cut.ex T (l.map wt) := by
  have z : (fun w => T * w / sm (l.map wt)) 0 = 0 := by simp
  rw [ex_sm, ex_sm, sm_won, ← sm_nz _ z (l.map wt)]
  rfl
theorem May.wng (h : May f l) : false = true ↔ Ng (won l) := by
  constructor
  · intro c; cases c
  · rintro ⟨t, ht, hn⟩
    have hm : (won l).getD t 0 ∈ l.map wt := by
      rw [List.getD, List.getElem?_eq_getElem ht]
      exact (List.mem_filter.1 (List.getElem_mem ht)).1
    obtain ⟨d, hd, e⟩ := List.mem_map.1 hm
    have := (wt_bd (h.ins d hd)).1
    omega
theorem May.wi64 (h : May f l) : ∀ n, n ∈ won l → I64 n := fun n hn => by
  obtain ⟨d, hd, rfl⟩ := List.mem_map.1 (List.mem_filter.1 hn).1
  have := wt_bd (h.ins d hd)
  unfold I64
  omega
theorem May.wse (h : May f l) : Go.Proofs.Ytlbekdpmfjhjhaa.se (leftS f l) (won l) false = 0 := by
  have hl := h.left
  have hn := h.len
  have hw := won_len l
  unfold Go.Proofs.Ytlbekdpmfjhjhaa.se
  rw [sm_won, if_neg (by omega), if_neg (by omega)]
  have e : tE (sm (l.map wt)) = 0 := by unfold tE; rw [if_pos (by omega)]
  rw [e]
  by_cases c : leftS f l = 0
  · simp [c]
  · simp only [c, if_false]
    rw [if_neg (show ¬ sm (l.map wt) = 0 by omega)]
    simp
/-- The cuts are what Split tells of those that have won, told back. -/
theorem May.wcuts (h : May f l) {g : Nat → Int} (hg : 0 < leftS f l → Sp.Ok (leftS f l) (sm (won l)) (won l) ∧ St.Rn (Sp.ky (leftS f l) (sm (won l)) (won l)) g 0 (won l).length) :
    cuts (leftS f l) (l.map wt) = Cut.back (l.map wt) (pt (leftS f l) (won l) g) := by
  by_cases c : leftS f l = 0
  · unfold cuts
    rw [if_pos c, c, pt_zero, back_zero13]
  · have hp := h.left
    have al := hg (by omega)
    rw [h.kern, Cut.pt_go al]
    unfold Go.Proofs.Ytlbekdpmfjhjhaa.kern
    rw [if_neg c, sm_won, ex_won]
    rfl
/-- Due by due. -/
theorem May.wout (h : May f l) {K : List Int} (hK : cuts (leftS f l) (l.map wt) = Cut.back (l.map wt) K) {k : Nat} {d : Du} (hd : l[k]? = some d) :
    ∃ c, (outS f l)[k]? = some (less (sd0 d) c) ∧ 0 ≤ c ∧ c ≤ wt d ∧ (0 < d.v → K.getD (won (l.take k)).length 0 = c) ∧ (¬ 0 < d.v → c = 0) := by
  obtain ⟨c, h1, h2⟩ := out_at (f := f) hd
  obtain ⟨c', k1, k2, k3, -⟩ := h.kept hd
  have ec : c = c' := by
    rw [h2] at k1
    exact congrArg Sd.cu (Option.some.inj k1)
  subst ec
  refine ⟨c, h2, k2, k3, fun hv => ?_, fun hv => ?_⟩
  · have hw : (l.map wt)[k]? = some (wt d) := by rw [List.getElem?_map, hd]; rfl
    have e := back_at13 (l.map wt) K k (wt d) hw
    rw [← hK, h1] at e
    have n0 : Cut.nz (wt d) = true := by
      have : wt d = d.v := by unfold wt; rw [if_neg (by omega)]
      simp [this, Cut.nz]; omega
    rw [if_pos n0, ← List.map_take] at e
    exact (Option.some.inj e).symm
  · have : wt d = 0 := by unfold wt; split <;> omega
    omega
theorem defs_x (l : List Du) (x : Du) : defs (l ++ [x]) = defs l + defD x := by
  induction l with
  | nil => simp [defs]
  | cons y l ih => simp only [List.cons_append, defs, ih]; omega
theorem sumV_x (l : List Du) (x : Du) : sumV (l ++ [x]) = sumV l + x.v := by
  induction l with
  | nil => simp [sumV]
  | cons y l ih => simp only [List.cons_append, sumV, ih]; omega
theorem defs_xb : ∀ {l : List Du}, (∀ d, d ∈ l → In d) → 0 ≤ defs l ∧ defs l ≤ 100000000000000000 * (l.length : Int)
  | [], _ => by simp [defs]
  | d :: l, h => by
    have h1 : 0 ≤ defD d ∧ defD d ≤ 100000000000000000 := by
      have := h d (by simp)
      unfold In at this
      unfold defD
      split <;> omega
    have h2 := defs_xb (l := l) fun x hx => h x (by simp [hx])
    simp only [defs, List.length_cons]
    omega
theorem sumV_xb : ∀ {l : List Du}, (∀ d, d ∈ l → In d) → -(100000000000000000 * (l.length : Int)) ≤ sumV l ∧ sumV l ≤ 100000000000000000 * (l.length : Int)
  | [], _ => by simp [sumV]
  | d :: l, h => by
    have h1 := h d (by simp)
    unfold In at h1
    have h2 := sumV_xb (l := l) fun x hx => h x (by simp [hx])
    simp only [sumV, List.length_cons]
    omega
end Go.Proofs.Ytlbekdpmfjhjhaa
