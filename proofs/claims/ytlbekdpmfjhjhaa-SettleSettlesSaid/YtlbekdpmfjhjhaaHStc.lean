/- Plain: what becomes of dues: nothing is lost; more in the fund; who has neither won nor lost; no program. -/
import Derived.Test.YtlbekdpmfjhjhaaHSta
namespace Go.Proofs.Ytlbekdpmfjhjhaa
open Go.RowKit Go.Sort
set_option linter.unusedVariables false
set_option linter.unusedSimpArgs false

variable {f : Int} {l : List Du}
/-- All cash. -/
def cashD : List Du → Int
  | [] => 0
  | d :: l => d.ca + cashD l
def cashS : List Sd → Int
  | [] => 0
  | x :: l => x.ca + cashS l
theorem cash_sd0 : ∀ l : List Du, cashS (l.map sd0) = cashD l + sumV l + defs l
  | [] => rfl
  | d :: l => by
    have := cash_sd0 l
    simp only [List.map_cons, cashS, cashD, sumV, defs, this, sd0, defD]
    split <;> omega
theorem cash_less : ∀ (xs : List Sd) (cs : List Int), xs.length = cs.length → cashS (List.zipWith less xs cs) = cashS xs - sm cs
  | [], [], _ => rfl
  | x :: xs, c :: cs, h => by
    have := cash_less xs cs (by simpa using h)
    simp only [List.zipWith_cons_cons, cashS, sm, this, less]
    omega
theorem out_len : (outS f l).length = l.length := by
  unfold outS
  rw [List.length_zipWith, cuts_len, List.length_map, List.length_map, Nat.min_self]
/-- Nothing is lost. -/
theorem May.whole (h : May f l) : f + cashD l = fundS f l + cashS (outS f l) := by
  have e : cashS (outS f l) = cashS (l.map sd0) - sm (cuts (leftS f l) (l.map wt)) := cash_less _ _ (by rw [cuts_len, List.length_map, List.length_map])
  rw [e, h.cut.1, cash_sd0, h.sum]
  unfold fundS leftS
  split <;> omega
theorem May.fund2 (h : May f l) : 0 ≤ fundS f l ∧ fundS f l ≤ f ∧ (leftS f l ≠ 0 → fundS f l = 0) := by
  have := (defs_bd h.ins).1
  have := h.fund
  unfold fundS leftS
  split <;> refine ⟨by omega, by omega, fun k => ?_⟩ <;> omega
/-- At place t. -/
theorem out_at {t : Nat} {d : Du} (hd : l[t]? = some d) : ∃ c, (cuts (leftS f l) (l.map wt))[t]? = some c ∧ (outS f l)[t]? = some (less (sd0 d) c) := by
  have ht := (List.getElem?_eq_some_iff.1 hd).1
  have hc : t < (cuts (leftS f l) (l.map wt)).length := by rw [cuts_len, List.length_map]; exact ht
  refine ⟨_, List.getElem?_eq_getElem hc, ?_⟩
  unfold outS
  rw [List.getElem?_zipWith, List.getElem?_map, hd, List.getElem?_eq_getElem hc]
  rfl
/-- Each is kept. -/
theorem May.kept (h : May f l) {t : Nat} {d : Du} (hd : l[t]? = some d) : ∃ c, (outS f l)[t]? = some (less (sd0 d) c) ∧ 0 ≤ c ∧ c ≤ wt d ∧ 0 ≤ (less (sd0 d) c).ca ∧ (d.ca + d.v < 0 → (less (sd0 d) c).ca = 0) ∧ (¬ d.ca + d.v < 0 → (less (sd0 d) c).ca = d.ca + d.v - c) ∧ (0 < c → fundS f l = 0) := by
  obtain ⟨c, hc, ho⟩ := out_at (f := f) hd
  have ht := (List.getElem?_eq_some_iff.1 hd).1
  have hi := h.ins d (List.mem_of_getElem? hd)
  have k := h.cut.2 t ht
  rw [List.getD, hc, List.getD, List.getElem?_map, hd] at k
  simp only [Option.getD_some, Option.map_some] at k
  have hz : 0 < c → fundS f l = 0 := fun hp => h.fund2.2.2 fun h0 => by
    have e : cuts (leftS f l) (l.map wt) = (l.map wt).map (fun _ => 0) := if_pos h0
    rw [e, List.getElem?_map, List.getElem?_map, hd] at hc
    simp only [Option.map_some, Option.some.injEq] at hc
    omega
  refine ⟨c, ho, k.1, k.2, ?_, ?_, ?_, hz⟩ <;> unfold In at hi <;> unfold wt at k <;> simp only [less, sd0]
  · split at k <;> split <;> omega
  · intro hn
    rw [if_pos hn]
    split at k <;> omega
  · intro hn
    rw [if_neg hn]
/-- More in the fund. -/
theorem left_more {m : Int} (hm : 0 ≤ m) : leftS (f + m) l = (if leftS f l ≤ m then 0 else leftS f l - m) ∧ fundS f l ≤ fundS (f + m) l ∧ (leftS (f + m) l = 0 ∨ fundS (f + m) l = 0) := by
  unfold leftS fundS
  refine ⟨?_, ?_, ?_⟩ <;> (repeat' split) <;> omega
/-- Who has neither won nor lost. -/
def mv (d : Du) : Bool := decide (d.v ≠ 0)
def backS : List Du → List Sd → List Sd
  | [], _ => []
  | d :: l, bs => if mv d then bs.headD ⟨0, 0, false, 0⟩ :: backS l bs.tail else ⟨d.ac, d.ca, false, 0⟩ :: backS l bs
theorem defs_mv : ∀ {l : List Du}, (∀ d, d ∈ l → In d) → defs (l.filter mv) = defs l
  | [], _ => rfl
  | d :: l, h => by
    have ih := defs_mv (l := l) fun x hx => h x (by simp [hx])
    have hi := h d (by simp)
    by_cases c : d.v = 0
    · rw [List.filter_cons_of_neg (by simp [mv, c]), ih]
      unfold In at hi
      simp only [defs, defD]
      rw [if_neg (by omega)]
      omega
    · rw [List.filter_cons_of_pos (by simp [mv, c])]
      simp only [defs, ih]
theorem sumV_mv : ∀ l : List Du, sumV (l.filter mv) = sumV l
  | [] => rfl
  | d :: l => by
    have ih := sumV_mv l
    by_cases c : d.v = 0
    · rw [List.filter_cons_of_neg (by simp [mv, c]), ih]
      simp only [sumV]
      omega
    · rw [List.filter_cons_of_pos (by simp [mv, c])]
      simp only [sumV, ih]
theorem May.mv (h : May f l) : May f (l.filter mv) :=
  ⟨Nat.le_trans (List.length_filter_le _ _) h.len, h.fund, ris_filter _ h.ris, by rw [sumV_mv]; exact h.sum⟩
theorem May.left_mv (h : May f l) : leftS f (l.filter Go.Proofs.Ytlbekdpmfjhjhaa.mv) = leftS f l ∧ fundS f (l.filter Go.Proofs.Ytlbekdpmfjhjhaa.mv) = fundS f l := by
  unfold leftS fundS
  rw [defs_mv h.ins]
  exact ⟨rfl, rfl⟩
/-- The weights that are not 0 are the same. -/
theorem nz_mv : ∀ l : List Du, ((l.filter mv).map wt).filter Cut.nz = (l.map wt).filter Cut.nz
  | [] => rfl
  | d :: l => by
    have ih := nz_mv l
    by_cases c : d.v = 0
    · rw [List.filter_cons_of_neg (by simp [mv, c]), ih, List.map_cons, List.filter_cons_of_neg (by simp [Cut.nz, wt, c])]
    · rw [List.filter_cons_of_pos (by simp [mv, c]), List.map_cons, List.map_cons]
      by_cases k : wt d = 0
      · rw [List.filter_cons_of_neg (by simp [Cut.nz, k]), List.filter_cons_of_neg (by simp [Cut.nz, k]), ih]
      · rw [List.filter_cons_of_pos (by simp [Cut.nz, k]), List.filter_cons_of_pos (by simp [Cut.nz, k]), ih]
theorem sm_nz (h : Int → Int) (h0 : h 0 = 0) : ∀ ws : List Int, sm ((ws.filter Cut.nz).map h) = sm (ws.map h)
  | [] => rfl
  | x :: l => by
    have ih := sm_nz h h0 l
    by_cases c : x = 0
    · subst c
      rw [List.filter_cons_of_neg (by simp [Cut.nz]), ih, List.map_cons, sm, h0, Int.zero_add]
    · rw [List.filter_cons_of_pos (by simp [Cut.nz, c]), List.map_cons, List.map_cons, sm, sm, ih]
theorem ex_sm (T : Int) (ws : List Int) : Cut.ex T ws = T - sm (ws.map fun w => T * w / sm ws) := by
  have e := Sp.sm_su (ws.map fun w => T * w / sm ws) ws.length (by simp)
  rw [List.take_of_length_le (by simp)] at e
  unfold Cut.ex
  rw [e]
  congr 1
  refine Sp.su_eq fun t ht => ?_
  simp [Sp.sh, List.getD, List.getElem?_map, List.getElem?_eq_getElem ht]
/-- Cuts told back. -/
def kern (T : Int) (ws : List Int) : List Int := if T = 0 then [] else Cut.go T (sm ws) (Cut.ex T ws) [] (ws.filter Cut.nz)
theorem back_nil : ∀ ws : List Int, Cut.back ws [] = ws.map (fun _ => 0)
  | [] => rfl
  | x :: l => by
    have ih := back_nil l
    unfold Cut.back
    split <;> simp [ih]
theorem May.kern (h : May f l) : cuts (leftS f l) (l.map wt) = Cut.back (l.map wt) (Go.Proofs.Ytlbekdpmfjhjhaa.kern (leftS f l) (l.map wt)) := by
  unfold cuts Go.Proofs.Ytlbekdpmfjhjhaa.kern
  by_cases h0 : leftS f l = 0
  · rw [if_pos h0, if_pos h0, back_nil]
  · rw [if_neg h0, if_neg h0]
    obtain ⟨g, al⟩ := h.order h0
    exact Cut.go_back al.1.2.2.1 [] (l.map wt) (Cut.ex_some al)
theorem kern_mv (T : Int) (l : List Du) : kern T ((l.filter mv).map wt) = kern T (l.map wt) := by
  have e1 : sm ((l.filter mv).map wt) = sm (l.map wt) := by
    have a := sm_nz (fun x => x) rfl ((l.filter mv).map wt)
    have b := sm_nz (fun x => x) rfl (l.map wt)
    rw [nz_mv] at a
    simp only [List.map_id'] at a b
    rw [← a, b]
  have e2 : Cut.ex T ((l.filter mv).map wt) = Cut.ex T (l.map wt) := by
    rw [ex_sm, ex_sm, e1]
    have z : (fun w => T * w / sm (l.map wt)) 0 = 0 := by simp
    rw [← sm_nz _ z ((l.filter mv).map wt), ← sm_nz _ z (l.map wt), nz_mv]
  unfold kern
  rw [e1, e2, nz_mv]
theorem zip_mv : ∀ (l : List Du) (K : List Int), (∀ d, d ∈ l → In d) → List.zipWith less (l.map sd0) (Cut.back (l.map wt) K) = backS l (List.zipWith less ((l.filter mv).map sd0) (Cut.back ((l.filter mv).map wt) K))
  | [], _, _ => rfl
  | d :: l, K, h => by
    have hl : ∀ x, x ∈ l → In x := fun x hx => h x (by simp [hx])
    have hi := h d (by simp)
    by_cases c : d.v = 0
    · have m0 : mv d = false := by simp [mv, c]
      have w0 : wt d = 0 := by unfold wt; rw [c]; rfl
      rw [List.filter_cons_of_neg (by simp [m0]), List.map_cons, List.map_cons, Cut.back, w0, if_neg (by simp [Cut.nz]), List.zipWith_cons_cons, backS, if_neg (by simp [m0]), zip_mv l K hl]
      congr 1
      unfold In at hi
      unfold less sd0
      rw [c, Int.add_zero, if_neg (by omega), decide_eq_false (by omega), Int.sub_zero]
    · have m1 : mv d = true := by simp [mv, c]
      rw [List.filter_cons_of_pos m1, List.map_cons, List.map_cons, List.map_cons, List.map_cons, Cut.back, Cut.back, backS, if_pos m1]
      by_cases k : Cut.nz (wt d) = true
      · rw [if_pos k, if_pos k, List.zipWith_cons_cons, List.zipWith_cons_cons, List.headD_cons, List.tail_cons, zip_mv l K.tail hl]
      · rw [if_neg k, if_neg k, List.zipWith_cons_cons, List.zipWith_cons_cons, List.headD_cons, List.tail_cons, zip_mv l K hl]
/-- With them left out the others have the same. -/
theorem May.idle (h : May f l) : outS f l = backS l (outS f (l.filter Go.Proofs.Ytlbekdpmfjhjhaa.mv)) := by
  unfold outS
  rw [h.kern, h.mv.kern, h.left_mv.1, kern_mv]
  exact zip_mv l _ h.ins
end Go.Proofs.Ytlbekdpmfjhjhaa
