/- Plain: what becomes of holders torn up; no program. -/
import Derived.Test.YtpfhkmppbochnaaG09
namespace Go.Proofs.Ytpfhkmppbochnaa
open Go.RowKit Go.Sort
set_option linter.unusedVariables false
set_option linter.unusedSimpArgs false

/-- A holder. -/
structure Ho where
  ac : Int
  q : Int
/-- How much is opposite to q. -/
def opq (q : Int) (h : Ho) : Int := if 0 < q then -h.q else h.q
def oppB (q : Int) (h : Ho) : Bool := decide (0 < opq q h)
def oppo (q : Int) (l : List Ho) : List Ho := l.filter (oppB q)
def wsP (q : Int) (l : List Ho) : List Int := (oppo q l).map (opq q)
def prt (T : Int) (ws : List Int) : List Int := Cut.go T (sm ws) (Cut.ex T ws) [] ws
def mkH (h : Ho) (n : Int) : Ho := ⟨h.ac, n⟩
def posH (h : Ho) : Bool := decide (0 < h.q)
def allP (q : Int) (l : List Ho) : List Ho := List.zipWith mkH (oppo q l) (prt (mag q) (wsP q l))
def outP (q : Int) (l : List Ho) : List Ho := (allP q l).filter posH
def hoB (a : Int) (h : Ho) : Bool := decide (a < h.ac ∧ -10000000 ≤ h.q ∧ h.q ≤ 10000000)
def risH : Int → List Ho → Bool
  | _, [] => true
  | a, h :: l => hoB a h && risH h.ac l
def errP (q : Int) (l : List Ho) : Int := if 64 < l.length then 3 else if q = 0 then 2 else if ¬ (-10000000 ≤ q ∧ q ≤ 10000000) then 2 else if risH 0 l = false then 2 else if sm (wsP q l) < mag q then 7 else 0
structure MayP (q : Int) (l : List Ho) : Prop where
  len : l.length ≤ 64
  nz : q ≠ 0
  bd : -10000000 ≤ q ∧ q ≤ 10000000
  ris : risH 0 l = true
  en : mag q ≤ sm (wsP q l)
theorem errP_ok {q : Int} {l : List Ho} : errP q l = 0 ↔ MayP q l := by
  unfold errP
  constructor
  · intro h
    by_cases h1 : 64 < l.length
    · rw [if_pos h1] at h; omega
    rw [if_neg h1] at h
    by_cases h2 : q = 0
    · rw [if_pos h2] at h; omega
    rw [if_neg h2] at h
    by_cases h3 : -10000000 ≤ q ∧ q ≤ 10000000
    · rw [if_neg (by simpa using h3)] at h
      cases h4 : risH 0 l
      · rw [h4] at h; simp at h
      · rw [h4] at h
        by_cases h5 : sm (wsP q l) < mag q
        · simp [h5] at h
        · exact ⟨by omega, h2, h3, h4, by omega⟩
    · rw [if_pos h3] at h; omega
  · intro h
    rw [if_neg (by have := h.len; omega), if_neg h.nz, if_neg (by simpa using h.bd), if_neg (by rw [h.ris]; decide), if_neg (by have := h.en; omega)]
theorem risH_in : ∀ {l : List Ho} {a : Int}, risH a l = true → ∀ h, h ∈ l → (-10000000 ≤ h.q ∧ h.q ≤ 10000000) ∧ a < h.ac
  | d :: l, a, h, x, hx => by
    unfold risH at h
    rw [Bool.and_eq_true] at h
    have h1 := of_decide_eq_true h.1
    rcases List.mem_cons.1 hx with rfl | hx
    · exact ⟨h1.2, h1.1⟩
    · have := risH_in h.2 x hx
      exact ⟨this.1, by have := this.2; have := h1.1; omega⟩
/-- Accounts rise. -/
def RisL (l : List Ho) : Prop := l.Pairwise fun x y => x.ac < y.ac
theorem risH_ris : ∀ {l : List Ho} {a : Int}, risH a l = true → RisL l
  | [], _, _ => List.Pairwise.nil
  | d :: l, a, h => by
    unfold risH at h
    rw [Bool.and_eq_true] at h
    exact List.Pairwise.cons (fun y hy => (risH_in h.2 y hy).2) (risH_ris h.2)
theorem opq_bd {q : Int} {h : Ho} (hh : -10000000 ≤ h.q ∧ h.q ≤ 10000000) : -10000000 ≤ opq q h ∧ opq q h ≤ 10000000 := by unfold opq; split <;> omega
theorem sm_le {m : Int} : ∀ ws : List Int, (∀ n, n ∈ ws → 0 ≤ n ∧ n ≤ m) → 0 ≤ sm ws ∧ sm ws ≤ m * ws.length
  | [], _ => by simp [sm]
  | x :: l, h => by
    have h1 := h x (by simp)
    have h2 := sm_le (m := m) l fun y hy => h y (by simp [hy])
    have e : m * ((l.length + 1 : Nat) : Int) = m * (l.length : Int) + m := by rw [Int.natCast_add, Int.mul_add]; simp
    simp only [sm, List.length_cons, e]
    omega
theorem oppo_len (q : Int) (l : List Ho) : (oppo q l).length ≤ l.length := List.length_filter_le _ _
theorem wsP_len (q : Int) (l : List Ho) : (wsP q l).length = (oppo q l).length := by unfold wsP; rw [List.length_map]
theorem wsP_mem {q : Int} {l : List Ho} (hl : ∀ h, h ∈ l → -10000000 ≤ h.q ∧ h.q ≤ 10000000) : ∀ n, n ∈ wsP q l → 0 < n ∧ n ≤ 10000000 := fun n hn => by
  obtain ⟨h, hh, rfl⟩ := List.mem_map.1 hn
  obtain ⟨h1, h2⟩ := List.mem_filter.1 hh
  exact ⟨of_decide_eq_true h2, (opq_bd (hl h h1)).2⟩
theorem wsP_sm {q : Int} {l : List Ho} (hl : ∀ h, h ∈ l → -10000000 ≤ h.q ∧ h.q ≤ 10000000) : 0 ≤ sm (wsP q l) ∧ sm (wsP q l) ≤ 10000000 * (l.length : Int) := by
  have h1 := sm_le (m := 10000000) (wsP q l) fun n hn => by have := wsP_mem hl n hn; omega
  have h2 := oppo_len q l
  rw [wsP_len] at h1
  omega
theorem wsP_get {q : Int} {l : List Ho} (hl : ∀ h, h ∈ l → -10000000 ≤ h.q ∧ h.q ≤ 10000000) (t : Nat) : 0 ≤ (wsP q l).getD t 0 := by
  rw [List.getD]
  cases e : (wsP q l)[t]? with
  | none => simp
  | some x => have := wsP_mem hl x (List.mem_of_getElem? e); simp; omega
variable {q : Int} {l : List Ho}
theorem MayP.ins (h : MayP q l) : ∀ x, x ∈ l → -10000000 ≤ x.q ∧ x.q ≤ 10000000 := fun x hx => (risH_in h.ris x hx).1
theorem MayP.T (h : MayP q l) : 0 < mag q ∧ mag q ≤ 10000000 := by
  have := h.nz
  have := h.bd
  unfold mag
  split <;> omega
theorem MayP.okT (h : MayP q l) : Sp.Ok (mag q) (sm (wsP q l)) (wsP q l) := by
  have h1 := h.T
  have h2 := wsP_sm (q := q) h.ins
  have h3 := h.len
  have h4 := h.en
  exact ⟨by omega, by omega, by omega, by omega, wsP_get h.ins, rfl⟩
theorem MayP.al (h : MayP q l) : ∃ g, Al2 (mag q) (wsP q l) g := by
  obtain ⟨g, hg⟩ := St.rn_some (Sp.ky (mag q) (sm (wsP q l)) (wsP q l)) (wsP q l).length
  exact ⟨g, h.okT, hg⟩
theorem MayP.pt {g : Nat → Int} (al : Al2 (mag q) (wsP q l) g) : Go.Proofs.Ytpfhkmppbochnaa.pt (mag q) (wsP q l) g = prt (mag q) (wsP q l) := Cut.pt_go al
theorem prt_len (T : Int) (ws : List Int) : (prt T ws).length = ws.length := Cut.go_len _ _
theorem MayP.sum (h : MayP q l) : sm (prt (mag q) (wsP q l)) = mag q := by
  obtain ⟨g, al⟩ := h.al
  rw [← MayP.pt al]; exact al.sum
theorem MayP.at' (h : MayP q l) {t : Nat} (ht : t < (wsP q l).length) : 0 ≤ (prt (mag q) (wsP q l)).getD t 0 ∧ (prt (mag q) (wsP q l)).getD t 0 ≤ (wsP q l).getD t 0 := by
  obtain ⟨g, al⟩ := h.al
  rw [← MayP.pt al, pt_getD ht]
  exact ⟨al.nonneg ht, al.most ht h.en⟩
theorem MayP.mono (h : MayP q l) {s t : Nat} (hs : s < (wsP q l).length) (ht : t < (wsP q l).length) (hw : (wsP q l).getD s 0 < (wsP q l).getD t 0) : (prt (mag q) (wsP q l)).getD s 0 ≤ (prt (mag q) (wsP q l)).getD t 0 := by
  obtain ⟨g, al⟩ := h.al
  rw [← MayP.pt al, pt_getD hs, pt_getD ht]
  exact al.mono hs ht hw
/-- All that is opposite is wanted: each gives up all. -/
theorem sm_eq : ∀ (a b : List Int), a.length = b.length → (∀ t, t < a.length → a.getD t 0 ≤ b.getD t 0) → sm a = sm b → a = b
  | [], [], _, _, _ => rfl
  | x :: a, y :: b, hl, h, e => by
    have h0 := h 0 (by simp)
    have hs : ∀ t, t < a.length → a.getD t 0 ≤ b.getD t 0 := fun t ht => by have := h (t + 1) (by simp; omega); simpa using this
    have le : ∀ (a b : List Int), a.length = b.length → (∀ t, t < a.length → a.getD t 0 ≤ b.getD t 0) → sm a ≤ sm b := fun a => by
      induction a with
      | nil => intro b hb _; cases b with | nil => simp | cons _ _ => simp at hb
      | cons u a ih =>
        intro b hb hh
        cases b with
        | nil => simp at hb
        | cons v b =>
          have k0 := hh 0 (by simp)
          have := ih b (by simpa using hb) fun t ht => by have := hh (t + 1) (by simp; omega); simpa using this
          simp only [List.getD_cons_zero] at k0
          simp only [sm]
          omega
    have hle := le a b (by simpa using hl) hs
    simp only [sm] at e
    simp only [List.getD_cons_zero] at h0
    have e1 : x = y := by omega
    have e2 := sm_eq a b (by simpa using hl) hs (by omega)
    rw [e1, e2]
theorem MayP.allw (h : MayP q l) (he : mag q = sm (wsP q l)) : prt (mag q) (wsP q l) = wsP q l :=
  sm_eq _ _ (prt_len _ _) (fun t ht => (h.at' (by rwa [prt_len] at ht)).2) (by rw [h.sum, he])
/-- What an account has given up: of a list. -/
def gotR : List Ho → Int → Int
  | [], _ => 0
  | x :: o, a => if a = x.ac then x.q else gotR o a
theorem gotR_snoc : ∀ (o : List Ho) (x : Ho) (a : Int), (∀ y, y ∈ o → y.ac ≠ x.ac) → gotR (o ++ [x]) a = if a = x.ac then x.q else gotR o a
  | [], x, a, _ => rfl
  | y :: o, x, a, h => by
    have ih := gotR_snoc o x a fun z hz => h z (by simp [hz])
    have hy := h y (by simp)
    simp only [List.cons_append, gotR, ih]
    by_cases c : a = y.ac
    · rw [if_pos c, if_pos c, if_neg (by omega)]
    · rw [if_neg c, if_neg c]
theorem gotR_no : ∀ (o : List Ho) (a : Int), (∀ y, y ∈ o → y.ac ≠ a) → gotR o a = 0
  | [], _, _ => rfl
  | y :: o, a, h => by
    rw [gotR, if_neg (fun e => h y (by simp) e.symm)]
    exact gotR_no o a fun z hz => h z (by simp [hz])
theorem gotR_zip : ∀ (hs : List Ho) (ns : List Int), hs.length = ns.length → RisL hs → (∀ t, t < ns.length → 0 ≤ ns.getD t 0) → ∀ (s : Nat) (h : Ho), hs[s]? = some h → gotR ((List.zipWith mkH hs ns).filter posH) h.ac = ns.getD s 0
  | x :: hs, n :: ns, hl, hr, hn, 0, h, e => by
    simp only [List.getElem?_cons_zero, Option.some.injEq] at e
    subst e
    have n0 := hn 0 (by simp)
    simp only [List.getD_cons_zero] at n0 ⊢
    rw [List.zipWith_cons_cons]
    by_cases c : 0 < n
    · rw [List.filter_cons_of_pos (show posH (mkH x n) = true from decide_eq_true c), gotR, if_pos (show x.ac = (mkH x n).ac from rfl)]; rfl
    · rw [List.filter_cons_of_neg (by simp [posH, mkH, c])]
      rw [gotR_no _ _ fun y hy => ?_]
      · omega
      · obtain ⟨hy1, _⟩ := List.mem_filter.1 hy
        obtain ⟨t, ht⟩ := List.getElem?_of_mem hy1
        rw [List.getElem?_zipWith] at ht
        cases e1 : hs[t]? with
        | none => rw [e1] at ht; simp at ht
        | some z =>
          cases e2 : ns[t]? with
          | none => rw [e1, e2] at ht; simp at ht
          | some k =>
            rw [e1, e2] at ht
            simp only [Option.some.injEq] at ht
            rw [← ht]
            have := (List.pairwise_cons.1 hr).1 z (List.mem_of_getElem? e1)
            show z.ac ≠ x.ac
            omega
  | x :: hs, n :: ns, hl, hr, hn, s + 1, h, e => by
    rw [List.getElem?_cons_succ] at e
    obtain ⟨hr1, hr2⟩ := List.pairwise_cons.1 hr
    have ih := gotR_zip hs ns (by simpa using hl) hr2 (fun t ht => by have := hn (t + 1) (by simp; omega); simpa using this) s h e
    have hx := hr1 h (List.mem_of_getElem? e)
    rw [List.zipWith_cons_cons, List.getD_cons_succ]
    by_cases c : 0 < n
    · rw [List.filter_cons_of_pos (show posH (mkH x n) = true from decide_eq_true c), gotR, if_neg (show ¬ h.ac = (mkH x n).ac by show ¬ h.ac = x.ac; omega)]
      exact ih
    · rw [List.filter_cons_of_neg (by simp [posH, mkH, c])]
      exact ih
theorem allP_mem {x : Ho} (hx : x ∈ allP q l) : ∃ (t : Nat) (h : Ho) (n : Int), (oppo q l)[t]? = some h ∧ (prt (mag q) (wsP q l))[t]? = some n ∧ x = mkH h n := by
  obtain ⟨t, ht⟩ := List.getElem?_of_mem hx
  unfold allP at ht
  rw [List.getElem?_zipWith] at ht
  cases e1 : (oppo q l)[t]? with
  | none => rw [e1] at ht; simp at ht
  | some z =>
    cases e2 : (prt (mag q) (wsP q l))[t]? with
    | none => rw [e1, e2] at ht; simp at ht
    | some k =>
      rw [e1, e2] at ht
      simp only [Option.some.injEq] at ht
      exact ⟨t, z, k, (by first | rfl | exact e1), (by first | rfl | exact e2), ht.symm⟩
end Go.Proofs.Ytpfhkmppbochnaa
