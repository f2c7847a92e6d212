/- The order of a side: sorted as they come is the first one, then the first one of those that are left; what is taken out, what has less left; plain facts. -/
import Derived.Test.YtcjianjnedbjkaaSb
namespace Go.Proofs.Ytcjianjnedbjkaa

def prOf (l : List Or) (j : Int) : Int := match l[j.toNat]? with | some y => y.pr | none => 0
/-- The place of the first among the first n: -1, or its place. -/
def fstO (buy : Bool) (l : List Or) : Nat → Int
  | 0 => -1
  | n + 1 => match l[n]? with
    | none => fstO buy l n
    | some x => if fstO buy l n < 0 ∨ btr buy x.pr (prOf l (fstO buy l n)) = true then n else fstO buy l n
theorem fst_range (buy : Bool) (l : List Or) : ∀ n, n ≤ l.length → (n = 0 ∧ fstO buy l n = -1) ∨ ∃ (k : Nat) (x : Or), fstO buy l n = k ∧ k < n ∧ l[k]? = some x
  | 0, _ => .inl ⟨rfl, rfl⟩
  | n + 1, hn => by
    have hx : l[n]? = some l[n] := List.getElem?_eq_getElem (by omega)
    right
    unfold fstO
    simp only [hx]
    split
    · exact ⟨n, _, rfl, by omega, hx⟩
    · rename_i c
      rcases fst_range buy l n (by omega) with ⟨h0, h1⟩ | ⟨k, x, h1, h2, h3⟩
      · exact absurd (.inl (by omega)) c
      · exact ⟨k, x, h1, by omega, h3⟩
theorem fst_app (buy : Bool) (l m : List Or) : ∀ n, n ≤ l.length → fstO buy (l ++ m) n = fstO buy l n
  | 0, _ => rfl
  | n + 1, hn => by
    have ih := fst_app buy l m n (by omega)
    unfold fstO
    rw [ih, List.getElem?_append_left (by omega)]
    have e : prOf (l ++ m) (fstO buy l n) = prOf l (fstO buy l n) ∨ fstO buy l n < 0 := by
      rcases fst_range buy l n (by omega) with ⟨_, h1⟩ | ⟨k, x, h1, h2, h3⟩
      · exact .inr (by omega)
      · left
        rw [h1]
        unfold prOf
        rw [Int.toNat_natCast, List.getElem?_append_left (by omega)]
    rcases e with e | e
    · rw [e]
    · cases l[n]? with
      | none => rfl
      | some x => simp only; rw [if_pos (.inl e), if_pos (.inl e)]
/-- Selected is inserted. -/
theorem sort_sel (buy : Bool) (l : List Or) : l ≠ [] → ∃ (k : Nat) (x : Or), fstO buy l l.length = k ∧ l[k]? = some x ∧ sortO buy l = x :: sortO buy (l.eraseIdx k) := by
  refine snoc_ind (P := fun l => l ≠ [] → ∃ (k : Nat) (x : Or), fstO buy l l.length = k ∧ l[k]? = some x ∧ sortO buy l = x :: sortO buy (l.eraseIdx k)) (fun h => absurd rfl h) (fun l o ih _ => ?_) l
  have hlen : (l ++ [o]).length = l.length + 1 := by simp
  have hlast : (l ++ [o])[l.length]? = some o := by simp
  have hf : fstO buy (l ++ [o]) l.length = fstO buy l l.length := fst_app buy l [o] l.length (Nat.le_refl _)
  rw [hlen]
  unfold fstO
  simp only [hlast, hf]
  by_cases hn : l = []
  · subst hn
    exact ⟨0, o, by simp [fstO], rfl, by simp [sortO, insO]⟩
  · obtain ⟨k, x, h1, h2, h3⟩ := ih hn
    have hk := (List.getElem?_eq_some_iff.1 h2).1
    have hp : prOf (l ++ [o]) (fstO buy l l.length) = x.pr := by
      rw [h1]; unfold prOf
      rw [Int.toNat_natCast, List.getElem?_append_left hk, h2]
    rw [hp]
    rw [sort_snoc, h3]
    cases hb : btr buy o.pr x.pr
    · refine ⟨k, x, ?_, ?_, ?_⟩
      · rw [if_neg (by rw [h1]; exact fun c => c.elim (fun c => by omega) (fun c => by cases c))]; exact h1
      · rw [List.getElem?_append_left hk]; exact h2
      · unfold insO
        rw [hb, if_neg (by decide), List.eraseIdx_append_of_lt_length hk, sort_snoc]
    · refine ⟨l.length, o, by rw [if_pos (.inr rfl)], hlast, ?_⟩
      unfold insO
      rw [hb, if_pos rfl, List.eraseIdx_append_of_length_le (Nat.le_refl _)]
      simp [h3]
/-- Sorted. -/
def Srt (buy : Bool) (l : List Or) : Prop := l.Pairwise fun x y => btr buy y.pr x.pr = false
theorem ins_srt {buy : Bool} {o : Or} : ∀ {l : List Or}, Srt buy l → Srt buy (insO buy o l)
  | [], _ => by unfold insO Srt; simp
  | x :: r, h => by
    obtain ⟨h1, h2⟩ := List.pairwise_cons.1 h
    unfold insO
    cases hb : btr buy o.pr x.pr
    · rw [if_neg (by decide)]
      refine List.pairwise_cons.2 ⟨fun y hy => ?_, ins_srt h2⟩
      rcases ins_mem.1 hy with rfl | hy
      · exact hb
      · exact h1 y hy
    · rw [if_pos rfl]
      refine List.pairwise_cons.2 ⟨fun y hy => ?_, h⟩
      rcases List.mem_cons.1 hy with rfl | hy
      · exact btr_as hb
      · exact btr_as (btr_tr hb (h1 y hy))
theorem sort_srt (buy : Bool) (l : List Or) : Srt buy (sortO buy l) := by
  refine snoc_ind (P := fun l => Srt buy (sortO buy l)) List.Pairwise.nil (fun l o ih => ?_) l
  rw [sort_snoc]
  exact ins_srt ih
/-- An order that is better than all comes first. -/
theorem ins_first {buy : Bool} {o : Or} : ∀ {l : List Or}, (∀ y, y ∈ l → btr buy o.pr y.pr = true) → insO buy o l = o :: l
  | [], _ => rfl
  | x :: r, h => by unfold insO; rw [if_pos (h x (by simp))]
theorem ins_yes {buy : Bool} {o x : Or} {r : List Or} (h : btr buy o.pr x.pr = true) : insO buy o (x :: r) = o :: x :: r := by rw [insO, if_pos h]
theorem ins_no {buy : Bool} {o x : Or} {r : List Or} (h : btr buy o.pr x.pr = false) : insO buy o (x :: r) = x :: insO buy o r := by rw [insO, h, if_neg (by decide)]
theorem ins_filter {buy : Bool} {o : Or} (p : Or → Bool) : ∀ {l : List Or}, Srt buy l → (insO buy o l).filter p = if p o then insO buy o (l.filter p) else l.filter p
  | [], _ => by cases h : p o <;> simp [h, insO]
  | x :: r, h => by
    obtain ⟨h1, h2⟩ := List.pairwise_cons.1 h
    have ih := ins_filter (o := o) p h2
    cases hb : btr buy o.pr x.pr
    · rw [ins_no hb, List.filter_cons, ih, List.filter_cons]
      cases hx : p x <;> cases ho : p o <;> simp [ins_no hb]
    · rw [ins_yes hb, List.filter_cons]
      cases ho : p o
      · simp
      · rw [if_pos rfl, if_pos rfl]
        rw [ins_first fun y hy => ?_]
        have hm := (List.mem_filter.1 hy).1
        rcases List.mem_cons.1 hm with rfl | hm
        · exact hb
        · exact btr_tr hb (h1 y hm)
theorem sort_filter (buy : Bool) (p : Or → Bool) (l : List Or) : sortO buy (l.filter p) = (sortO buy l).filter p := by
  refine snoc_ind (P := fun l => sortO buy (l.filter p) = (sortO buy l).filter p) rfl (fun l o ih => ?_) l
  rw [sort_snoc, ins_filter p (sort_srt buy l), List.filter_append, List.filter_cons, List.filter_nil, ← ih]
  cases ho : p o
  · simp
  · rw [if_pos rfl, if_pos rfl, sort_snoc]
theorem ins_map {buy : Bool} {o : Or} (f : Or → Or) (hf : ∀ x, (f x).pr = x.pr) : ∀ l : List Or, (insO buy o l).map f = insO buy (f o) (l.map f)
  | [] => rfl
  | x :: r => by
    unfold insO
    simp only [hf, List.map_cons]
    split
    · simp
    · rw [List.map_cons, ins_map f hf r]
theorem sort_map (buy : Bool) (f : Or → Or) (hf : ∀ x, (f x).pr = x.pr) (l : List Or) : sortO buy (l.map f) = (sortO buy l).map f := by
  refine snoc_ind (P := fun l => sortO buy (l.map f) = (sortO buy l).map f) rfl (fun l o ih => ?_) l
  rw [List.map_append, List.map_cons, List.map_nil, sort_snoc, sort_snoc, ih, ins_map f hf]
/-- What all of them come to. -/
theorem ins_sum {buy : Bool} {o : Or} (f : Or → Int) : ∀ l : List Or, ((insO buy o l).map f).sum = f o + (l.map f).sum
  | [] => by simp [insO]
  | x :: r => by
    unfold insO
    split
    · simp
    · rw [List.map_cons, List.sum_cons, ins_sum f r, List.map_cons, List.sum_cons]; omega
theorem sort_sum (buy : Bool) (f : Or → Int) (l : List Or) : ((sortO buy l).map f).sum = (l.map f).sum := by
  refine snoc_ind (P := fun l => ((sortO buy l).map f).sum = (l.map f).sum) rfl (fun l o ih => ?_) l
  rw [sort_snoc, ins_sum, ih, List.map_append, List.sum_append]
  simp; omega
/-- Numbers differ. -/
def Dis (l : List Or) : Prop := l.Pairwise fun x y => x.nu ≠ y.nu
theorem dis_erase : ∀ {l : List Or} {k : Nat} {x : Or}, Dis l → l[k]? = some x → l.eraseIdx k = l.filter fun y => y.nu != x.nu
  | [], k, x, _, h => by simp at h
  | y :: r, 0, x, h, hk => by
    obtain rfl : y = x := by simpa using hk
    obtain ⟨h1, _⟩ := List.pairwise_cons.1 h
    rw [List.filter_cons, if_neg (by simp), List.eraseIdx_cons_zero]
    exact (List.filter_eq_self.2 fun z hz => by have := h1 z hz; simp; exact fun e => this e.symm).symm
  | y :: r, k + 1, x, h, hk => by
    obtain ⟨h1, h2⟩ := List.pairwise_cons.1 h
    have hk' : r[k]? = some x := by simpa using hk
    have := h1 x (List.mem_of_getElem? hk')
    rw [List.eraseIdx_cons_succ, dis_erase h2 hk', List.filter_cons, if_pos (by simp; exact this)]
theorem dis_set : ∀ {l : List Or} {k : Nat} {x y : Or}, Dis l → l[k]? = some x → y.nu = x.nu → l.set k y = l.map fun z => if z.nu = x.nu then y else z
  | [], k, x, y, _, h, _ => by simp at h
  | z :: r, 0, x, y, h, hk, e => by
    obtain rfl : z = x := by simpa using hk
    obtain ⟨h1, _⟩ := List.pairwise_cons.1 h
    rw [List.set_cons_zero, List.map_cons, if_pos rfl]
    congr 1
    refine (List.map_congr_left (g := id) fun w hw => ?_).trans (List.map_id r) |>.symm
    rw [if_neg fun e => h1 w hw e.symm]
    rfl
  | z :: r, k + 1, x, y, h, hk, e => by
    obtain ⟨h1, h2⟩ := List.pairwise_cons.1 h
    have hk' : r[k]? = some x := by simpa using hk
    have := h1 x (List.mem_of_getElem? hk')
    rw [List.set_cons_succ, dis_set h2 hk' e, List.map_cons, if_neg this]
theorem dis_snoc {l : List Or} {o : Or} (h : Dis l) (hn : ∀ x, x ∈ l → x.nu ≠ o.nu) : Dis (l ++ [o]) :=
  List.pairwise_append.2 ⟨h, List.pairwise_singleton _ _, fun x hx y hy => by rw [List.mem_singleton.1 hy]; exact hn x hx⟩
theorem dis_filter {l : List Or} (p : Or → Bool) (h : Dis l) : Dis (l.filter p) := h.filter p
theorem dis_map {l : List Or} (f : Or → Or) (hf : ∀ x, (f x).nu = x.nu) (h : Dis l) : Dis (l.map f) := by
  refine List.pairwise_map.2 (h.imp fun {a b} hab => ?_)
  rw [hf, hf]; exact hab
end Go.Proofs.Ytcjianjnedbjkaa
