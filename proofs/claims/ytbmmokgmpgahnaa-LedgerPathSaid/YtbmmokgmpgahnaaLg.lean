/- LedgerPath: plain facts; the statement's own closure. -/
import Derived.Test.YtbmmokgmpgahnaaNq
import Derived.Test.YtbmmokgmpgahnaaLb
namespace Go.Proofs.Ytbmmokgmpgahnaa
open Go.RowKit Go.Shelf
set_option linter.unusedVariables false
set_option linter.unusedSimpArgs false
set_option linter.unusedSectionVars false

section
variable {p : Int}
theorem pos_marH (c : Int) : ∀ (pre hl : List Po), SrtP hl → (pre.Pairwise fun x y => MP.key x ≠ MP.key y) → (∀ x, x ∈ pre → x.co = c ∧ posH hl x.co x.ac = x) → ∀ n : Int,
    posH (marH p false pre hl) c n = if n ∈ pre.map Po.ac then ⟨c, n, (posH hl c n).q, (posH hl c n).q * p⟩ else posH hl c n
  | [], hl, _, _, _, n => by simp [mar_nil]
  | x :: pre, hl, h, d, hx, n => by
    obtain ⟨d1, d2⟩ := List.pairwise_cons.1 d
    have mk := marP_key (p := p) (cl := false) x
    obtain ⟨x1, x2⟩ := hx x (List.mem_cons_self ..)
    have ih := pos_marH c pre (holdL hl (marP p false x)) (h.hold _) d2 (fun y hy => ⟨(hx y (List.mem_cons_of_mem _ hy)).1, by
      rw [pos_hold h, if_neg]
      · exact (hx y (List.mem_cons_of_mem _ hy)).2
      · rw [mk.1, mk.2]
        intro e
        refine d1 y hy ?_
        show (x.co, x.ac) = (y.co, y.ac)
        rw [e.1, e.2]⟩) n
    rw [mar_cons, ih, pos_hold h, mk.1, mk.2, x1]
    by_cases e : n = x.ac
    · subst e
      have hn : ¬ x.ac ∈ pre.map Po.ac := fun hm => by
        obtain ⟨y, hy, e⟩ := List.mem_map.1 hm
        refine d1 y hy ?_
        show (x.co, x.ac) = (y.co, y.ac)
        rw [x1, (hx y (List.mem_cons_of_mem _ hy)).1, e]
      rw [if_neg hn, if_pos ⟨rfl, rfl⟩, if_pos (by simp)]
      rw [x1] at x2
      rw [x2]
      show marP p false x = _
      unfold marP
      rw [if_neg (by decide), x1]
    · rw [if_neg (show ¬(c = c ∧ n = x.ac) from fun k => e k.2)]
      by_cases hm : n ∈ pre.map Po.ac
      · rw [if_pos hm, if_pos (by simp only [List.map_cons, List.mem_cons]; exact .inr hm)]
      · rw [if_neg hm, if_neg (by simp only [List.map_cons, List.mem_cons]; rintro (k | k); exact e k; exact hm k)]
theorem pos_mar {hl : List Po} (h : SrtP hl) (c n : Int) : posH (marH p false (holdersH hl c) hl) c n = ⟨c, n, (posH hl c n).q, (posH hl c n).q * p⟩ := by
  have hm : ∀ x, x ∈ holdersH hl c → x ∈ hl ∧ x.co = c := fun x hx => ⟨(List.mem_filter.1 hx).1, by have := (List.mem_filter.1 hx).2; simpa using this⟩
  rw [pos_marH c (holdersH hl c) hl h (h.dis.filter _) (fun x hx => ⟨(hm x hx).2, pos_mem h (hm x hx).1⟩)]
  by_cases k : n ∈ (holdersH hl c).map Po.ac
  · rw [if_pos k]
  · rw [if_neg k]
    have : posH hl c n = ⟨c, n, 0, 0⟩ := by
      unfold posH
      rw [at_none (M := MP) (c := (c, n)) fun x hx e => k (List.mem_map.2 ⟨x, List.mem_filter.2 ⟨hx, by have h1 : x.co = c := congrArg Prod.fst e; simpa using h1⟩, by have := congrArg Prod.snd e; exact this⟩)]
    rw [this]
    simp
end
/-- What one has won. -/
def wonF (v : List Va) (n : Int) : Int := match v.find? (fun t => t.ac == n) with | some t => t.v | none => 0
theorem won_mar {L : Lg} {c p : Int} (h : marE c p = 0) (n : Int) : wonF (marX L c p) n = (posH L.hl c n).q * p - (posH L.hl c n).b := by
  unfold marX
  rw [if_pos h]
  unfold posH
  generalize L.hl = hl
  induction hl with
  | nil => simp [wonF, holdersH, MapT.at]
  | cons x r ih =>
    rw [at_cons]
    by_cases e : (c, n) = MP.key x
    · rw [if_pos e]
      have e1 : c = x.co := congrArg Prod.fst e
      have e2 : n = x.ac := congrArg Prod.snd e
      unfold wonF holdersH
      rw [List.filter_cons, if_pos (by simp [e1]), List.map_cons, List.find?_cons]
      simp [marV, e2]
    · rw [if_neg e, ← ih]
      unfold wonF holdersH
      rw [List.filter_cons]
      by_cases k : x.co = c
      · rw [if_pos (by simp [k]), List.map_cons, List.find?_cons]
        have k2 : ¬ x.ac = n := fun k2 => e (by show (c, n) = (x.co, x.ac); rw [k, k2])
        have : ((marV p x).ac == n) = false := by simpa [marV] using k2
        rw [this]
      · rw [if_neg (by simpa using k)]
theorem mar_ok {L : Lg} {c p : Int} {cl : Bool} (h : marE c p = 0) : marL L c p cl = ⟨L.fund, L.al, marH p cl (holdersH L.hl c) L.hl⟩ := by unfold marL; rw [if_pos h]
theorem mar_p {c p : Int} (h : marE c p = 0) : 1 ≤ p ∧ p ≤ 10000000 := by
  unfold marE at h
  split at h
  · cases h
  · rename_i k
    have : oneB p mQ ≠ false := fun e => k (.inr e)
    simpa [oneB] using this
/-- Marked at one price and then at another: as at the other at once. -/
theorem path9 {L : Lg} {c p q : Int} (hi : LgI L) (h1 : marE c p = 0) (h2 : marE c q = 0) (n : Int) :
    wrap64 (wonF (marX L c p) n + wonF (marX (marL L c p false) c q) n) = wonF (marX L c q) n ∧ posH (marL (marL L c p false) c q false).hl c n = posH (marL L c q false).hl c n := by
  have s1 : SrtP (marL L c p false).hl := by rw [mar_ok h1]; exact mar_srt _ _ hi.psr
  have e1 : posH (marL L c p false).hl c n = ⟨c, n, (posH L.hl c n).q, (posH L.hl c n).q * p⟩ := by rw [mar_ok h1]; exact pos_mar hi.psr c n
  refine ⟨?_, ?_⟩
  · rw [won_mar h1, won_mar h2, won_mar h2, e1]
    have pb := posH_b hi c n
    have m1 := mul_q (by have := pb.1; simpa only [mQ] using this) (mar_p h1)
    have m2 := mul_q (by have := pb.1; simpa only [mQ] using this) (mar_p h2)
    have m3 := pb.2
    simp only [mF] at m3
    show wrap64 ((posH L.hl c n).q * p - (posH L.hl c n).b + ((posH L.hl c n).q * q - (posH L.hl c n).q * p)) = (posH L.hl c n).q * q - (posH L.hl c n).b
    generalize (posH L.hl c n).q * p = a at *
    generalize (posH L.hl c n).q * q = b at *
    unfold wrap64
    omega
  · rw [mar_ok (L := marL L c p false) h2, mar_ok (L := L) (p := q) h2]
    show posH (marH q false (holdersH (marL L c p false).hl c) (marL L c p false).hl) c n = posH (marH q false (holdersH L.hl c) L.hl) c n
    rw [pos_mar s1, pos_mar hi.psr, e1]
theorem again9 {L : Lg} {c q : Int} (hi : LgI L) (h : marE c q = 0) : ∀ t, t ∈ marX (marL L c q false) c q → t.v = 0 := by
  intro t ht
  have s1 : SrtP (marL L c q false).hl := by rw [mar_ok h]; exact mar_srt _ _ hi.psr
  unfold marX at ht
  rw [if_pos h] at ht
  obtain ⟨y, hy, rfl⟩ := List.mem_map.1 ht
  have hm := List.mem_filter.1 hy
  have hc : y.co = c := by simpa using hm.2
  have e := pos_mem s1 hm.1
  rw [hc] at e
  have e2 : posH (marL L c q false).hl c y.ac = ⟨c, y.ac, (posH L.hl c y.ac).q, (posH L.hl c y.ac).q * q⟩ := by rw [mar_ok h]; exact pos_mar hi.psr c y.ac
  show y.q * q - y.b = 0
  have e5 := e2.symm.trans e
  have e3 := congrArg Po.q e5
  have e4 := congrArg Po.b e5
  change (posH L.hl c y.ac).q = y.q at e3
  change (posH L.hl c y.ac).q * q = y.b at e4
  rw [e3] at e4
  omega
theorem meas9' (nv j : Nat) (h : j < nv) : nv - (intOf (.int .i64 ((j : Int) + 1))).toNat < nv - (intOf (.int .i64 (j : Int))).toNat := by
  simp only [intOf]; omega
theorem won_take {v : List Va} {n : Int} {j : Nat} (h : ∀ t, t ∈ v.take j → t.ac ≠ n) {t : Va} (ht : v[j]? = some t) (e : t.ac = n) : wonF v n = t.v := by
  unfold wonF
  have hv : v = v.take j ++ (t :: v.drop (j + 1)) := by
    have := List.take_append_drop j v
    rw [← this]
    congr 1
    · simp
    · have hl := (List.getElem?_eq_some_iff.1 ht).1
      rw [this, List.drop_eq_getElem_cons hl]
      congr 1
      exact (List.getElem?_eq_some_iff.1 ht).2
  rw [hv, List.find?_append, List.find?_eq_none.2 (fun x hx => by simpa using h x hx)]
  simp [e]
theorem won_none {v : List Va} {n : Int} (h : ∀ t, t ∈ v → t.ac ≠ n) : wonF v n = 0 := by
  unfold wonF
  rw [List.find?_eq_none.2 (fun x hx => by simpa using h x hx)]
set_option maxRecDepth 100000 in
set_option maxHeartbeats 4000000 in
theorem won9 (A : Option Addr) (m c : Nat) (v : List Va) (n : Int) (w : World) (h : EV.Rd w A m v) (hm : m ≤ 64) :
    Calls Try.prog 33 #[.slice A m c, .int .u32 n] w fun e w' => e = .returned (.int .i64 (wonF v n)) ∧ Fr (fun _ : Nat => False) w w' := by
  have HA := Lib.hid h
  have HL := Lib.hid h.1
  clear h
  go_enter Try.func33, Try.ntmps33
  go_wp2_with fail
  go_loopw [8] (fun vi wr => ∃ j : Nat, j ≤ m ∧ vi = .int .i64 j ∧ (∀ t, t ∈ v.take j → t.ac ≠ n) ∧ Fr (fun _ : Nat => False) w wr) (fun vi _ => m - (intOf vi).toNat)
  case atStart => exact ⟨0, Nat.zero_le _, rfl, (fun t ht => by simp at ht), Fr.refl _ _⟩
  case round =>
    obtain ⟨j, hj, rfl, hn, hf⟩ := hrel
    have F1 := Lib.hid hf
    have HN := Lib.hid hn
    clear hf hn
    by_cases hlt : j < m
    case neg =>
      obtain rfl : j = m := by omega
      have et : v.take j = v := List.take_of_length_le (by rw [HL.out]; exact Nat.le_refl _)
      rw [et] at HN
      have E := Lib.hid (won_none HN.out)
      have hdj : decide ((j : Int) < (j : Int)) = false := decide_eq_false (by omega)
      go_wp2_with fail
      go_ret
      exact ⟨by rw [E.out]; rfl, F1.out⟩
    case pos =>
      have hd : decide ((j : Int) < (m : Int)) = true := decide_eq_true (by omega)
      have hjm : (j : Int) < (m : Int) := by omega
      have wj : wrap64 ((j : Int) + 1) = (j : Int) + 1 := by unfold wrap64; omega
      obtain ⟨t, ht⟩ : ∃ t, v[j]? = some t := ⟨v[j]'(by have := HL.out; omega), List.getElem?_eq_getElem _⟩
      obtain ⟨b1, o1, rfl, la⟩ := rng_fr9 HA.out ht
      have r := la _ F1.out
      have k0 : wr.cell? ⟨b1, o1 + j * 2, none⟩ = some (.int .u32 t.ac) := r 0 _ rfl
      have k1 : wr.cell? ⟨b1, o1 + j * 2 + 1, none⟩ = some (.int .i64 t.v) := r 1 _ rfl
      have WT := Lib.hid fun (e : t.ac = n) => won_take HN.out ht e
      have es : v.take (j + 1) = v.take j ++ [t] := by rw [List.take_add_one, ht]; rfl
      have ES := Lib.hid es
      clear ht la r es
      by_cases e : t.ac = n
      · have e1 : (t.ac == n) = true := beq_iff_eq.2 e
        have E := Lib.hid (WT.out e)
        go_wp2_with fail
        go_ret
        exact ⟨by rw [E.out]; rfl, F1.out⟩
      · have e1 : (t.ac == n) = false := beq_eq_false_iff_ne.2 e
        go_wp2_with fail
        go_roundw
        case rel => exact ⟨j + 1, by omega, by go_num, by rw [ES.out]; intro y hy; rcases List.mem_append.1 hy with hy | hy; exact HN.out y hy; rw [List.mem_singleton.1 hy]; exact e, F1.out⟩
        case measure => first | exact meas9' _ _ hlt | (rw [wj]; exact meas9' _ _ hlt)
end Go.Proofs.Ytbmmokgmpgahnaa
