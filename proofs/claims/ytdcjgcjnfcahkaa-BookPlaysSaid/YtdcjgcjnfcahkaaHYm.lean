/- A book turned: prices p become 1001 - p, who buys sells; plain. -/
import Derived.Test.YtdcjgcjnfcahkaaHYk
namespace Go.Proofs.Ytdcjgcjnfcahkaa
open Go.RowKit
set_option linter.unusedVariables false

def tu (o : Or) : Or := ⟨o.nu, o.ac, !o.bu, 1001 - o.pr, o.le⟩
def tut (t : Td) : Td := ⟨1001 - t.pr, t.qt, t.nu, t.ac⟩
def tuS (S : Sd) : Sd := fun b => (S (!b)).map tu
def tuX (x : Op7) : Op7 := ⟨x.kd, tu x.o, x.k⟩
/-- A price that may be turned. -/
def Pr7 (p : Int) : Prop := 1 ≤ p ∧ p ≤ 1000
theorem btr_tu (b : Bool) (x y : Int) : btr (!b) (1001 - x) (1001 - y) = btr b x y := by
  have h1 : decide (1001 - y < 1001 - x) = decide (x < y) := decide_eq_decide.2 (by omega)
  have h2 : decide (1001 - x < 1001 - y) = decide (y < x) := decide_eq_decide.2 (by omega)
  unfold btr
  rw [h1, h2]
  cases b <;> simp
theorem eq_tu (x y : Int) : ((1001 - x : Int) == 1001 - y) = (x == y) := by
  by_cases c : x = y
  · subst c; simp
  · rw [beq_eq_false_iff_ne.2 c, beq_eq_false_iff_ne.2 (by omega)]
section
variable {S : Sd} {o x : Or} {os : List Or} {b : Bool} {n k left : Int}
theorem metO_tu : metO (tu o) (tu x) = metO o x := by
  show ((1001 - x.pr : Int) == 1001 - o.pr || btr (!o.bu) (1001 - o.pr) (1001 - x.pr)) = _
  rw [btr_tu, eq_tu]; rfl
theorem meet_tu (o : Or) : ∀ (os : List Or) (left : Int), meetO (tu o) (os.map tu) left = ⟨(meetO o os left).td.map tut, (meetO o os left).gn, (meetO o os left).fi, (meetO o os left).lf, (meetO o os left).os.map tu⟩
  | [], left => rfl
  | x :: r, left => by
    rw [List.map_cons]
    by_cases h0 : left ≤ 0
    · rw [meet_end h0, meet_end h0]; rfl
    · cases hm : metO o x
      · rw [meet_far hm, meet_far (metO_tu.trans hm)]; rfl
      · have hm' : metO (tu o) (tu x) = true := metO_tu.trans hm
        by_cases ha : x.ac = o.ac
        · rw [meet_own (by omega) hm ha, meet_own (by omega) hm' ha, meet_tu o r left]; rfl
        · rw [meet_other (by omega) hm ha, meet_other (by omega) hm' ha]
          by_cases c : x.le ≤ left
          · have c' : (tu x).le ≤ left := c
            rw [if_pos c, if_pos c']
            rw [show left - (tu x).le = left - x.le from rfl, meet_tu o r (left - x.le)]; rfl
          · have c' : ¬ (tu x).le ≤ left := c
            rw [if_neg c, if_neg c']; rfl
theorem find_tu : ∀ (os : List Or) (n : Int), findO (os.map tu) n = (findO os n).map tu
  | [], n => rfl
  | x :: r, n => by
    have ih := find_tu r n
    unfold findO at ih ⊢
    rw [List.map_cons, List.find?_cons, List.find?_cons]
    have e : ((tu x).nu == n) = (x.nu == n) := rfl
    rw [e]
    cases (x.nu == n)
    · exact ih
    · rfl
theorem ins_tu (b : Bool) : ∀ (os : List Or) (o : Or), insO (!b) (tu o) (os.map tu) = (insO b o os).map tu
  | [], o => rfl
  | x :: r, o => by
    have ih := ins_tu b r o
    rw [List.map_cons]
    unfold insO
    have e : btr (!b) (tu o).pr (tu x).pr = btr b o.pr x.pr := btr_tu b o.pr x.pr
    rw [e]
    split
    · rfl
    · rw [List.map_cons, ih]
theorem may_tu (hp : Pr7 o.pr) : mayO (tu o) = mayO o := by
  obtain ⟨h1, h2⟩ := hp
  unfold mayO tu
  have e1 : decide (0 < 1001 - o.pr) = decide (0 < o.pr) := decide_eq_decide.2 (by omega)
  have e2 : decide (1001 - o.pr ≤ 10000000) = decide (o.pr ≤ 10000000) := decide_eq_decide.2 (by omega)
  simp only [e1, e2]
theorem addO_tu (hp : Pr7 o.pr) : addO (!b) (os.map tu) (tu o) = (addO b os o).map tu := by
  have e1 : (mayO (tu o) && (tu o).bu == !b) = (mayO o && o.bu == b) := by
    rw [may_tu hp, show (tu o).bu = !o.bu from rfl]
    cases o.bu <;> cases b <;> rfl
  have e2 : (findO (os.map tu) (tu o).nu).isSome = (findO os o.nu).isSome := by
    rw [show (tu o).nu = o.nu from rfl, find_tu]
    cases findO os o.nu <;> rfl
  have ea : addA (!b) (os.map tu) (tu o) = addA b os o := by
    unfold addA
    rw [e1, e2, List.length_map]
  unfold addO
  rw [ea, ins_tu]
  split <;> rfl
theorem dropO_tu : dropO (os.map tu) n = (dropO os n).map tu := by
  unfold dropO
  rw [List.filter_map]
  rfl
theorem lowO_tu : lowO (os.map tu) n left = (lowO os n left).map tu := by
  have ea : lowA (os.map tu) n left = lowA os n left := by
    unfold lowA
    rw [find_tu]
    cases findO os n <;> rfl
  unfold lowO
  rw [ea]
  split
  · rw [List.map_map, List.map_map]
    refine List.map_congr_left fun x _ => ?_
    show (if (tu x).nu = n then (tu x).wi left else tu x) = tu (if x.nu = n then x.wi left else x)
    have e : (tu x).nu = x.nu := rfl
    rw [e]
    split <;> rfl
  · rfl
theorem sum_tu (b : Bool) (p nt : Int) : ∀ os : List Or, sumR (!b) (os.map tu) (1001 - p) nt = sumR b os p nt
  | [] => rfl
  | x :: r => by
    have ih := sum_tu b p nt r
    have e : ∀ (b : Bool) (y : Or) (l : List Or) (q : Int), sumR b (y :: l) q nt = oneR b q nt y + sumR b l q nt := fun b y l q => by simp [sumR]
    rw [List.map_cons, e, e, ih]
    have h1 : oneR (!b) (1001 - p) nt (tu x) = oneR b p nt x := by
      unfold oneR condR
      rw [show btr (!b) (tu x).pr (1001 - p) = btr b x.pr p from btr_tu b x.pr p, show ((tu x).pr == 1001 - p) = (x.pr == p) from eq_tu x.pr p]
      rfl
    rw [h1]
theorem sumO_tu : ∀ os : List Or, sumO (os.map tu) = sumO os
  | [] => rfl
  | x :: r => by
    have ih := sumO_tu r
    unfold sumO at ih ⊢
    rw [List.map_cons, List.foldr_cons, List.foldr_cons, ih]; rfl
theorem tuS_at (S : Sd) (b : Bool) : tuS S b = (S (!b)).map tu := rfl
theorem tuS_up (S : Sd) (b : Bool) (os : List Or) : (tuS S).up (!b) (os.map tu) = tuS (S.up b os) := by
  funext c
  unfold Sd.up tuS
  cases b <;> cases c <;> rfl
theorem tuS_nil : tuS (fun _ => []) = fun _ => [] := rfl
theorem find_other (iv : InvB S) {x : Or} (h : findO (S true) n = some x) : findO (S false) n = none := by
  cases h2 : findO (S false) n with
  | none => rfl
  | some y =>
    obtain ⟨m1, e1⟩ := find_mem h
    obtain ⟨m2, e2⟩ := find_mem h2
    exact absurd (e1.trans e2.symm) (iv.cross true x m1 y m2).1
theorem findB_tu (iv : InvB S) : findB (tuS S) n = (findB S n).map tu := by
  unfold findB
  rw [show tuS S true = (S false).map tu from rfl, show tuS S false = (S true).map tu from rfl, find_tu, find_tu]
  cases h : findO (S true) n with
  | none => cases findO (S false) n <;> rfl
  | some x => rw [find_other iv h]; rfl
theorem met_tu (S : Sd) (o : Or) : metB (tuS S) (tu o) = ⟨(metB S o).td.map tut, (metB S o).gn, (metB S o).fi, (metB S o).lf, (metB S o).os.map tu⟩ := by
  unfold metB
  rw [show tuS S (!(tu o).bu) = (S (!o.bu)).map tu by show (S (!(!(!o.bu)))).map tu = _; rw [Bool.not_not]]
  exact meet_tu o _ _
def tuP (p : Pl) : Pl := ⟨p.td.map tut, p.gn, p.fi, p.lf⟩
theorem comeP_tu (S : Sd) (o : Or) (r : Bool) : comeP (tuS S) (tu o) r = tuP (comeP S o r) := by
  unfold comeP
  rw [met_tu]; rfl
theorem comeS_tu (S : Sd) {o : Or} (r : Bool) (hp : Pr7 o.pr) : comeS (tuS S) (tu o) r = tuS (comeS S o r) := by
  have e : (tuS S).up (!(tu o).bu) ((metB S o).os.map tu) = tuS (S.up (!o.bu) (metB S o).os) := tuS_up S (!o.bu) _
  unfold comeS
  rw [met_tu]
  dsimp only
  rw [e]
  split
  · rw [show (tu o).wi (metB S o).lf = tu (o.wi (metB S o).lf) from rfl, show tuS (S.up (!o.bu) (metB S o).os) (tu o).bu = ((S.up (!o.bu) (metB S o).os) o.bu).map tu by show ((S.up (!o.bu) (metB S o).os) (!(!o.bu))).map tu = _; rw [Bool.not_not], show (tu o).bu = !o.bu from rfl, addO_tu (o := o.wi (metB S o).lf) hp, tuS_up]
  · rfl
theorem placeA_tu (iv : InvB S) (hp : Pr7 o.pr) : placeA (tuS S) (tu o) k = placeA S o k := by
  have e1 : (findB (tuS S) (tu o).nu).isSome = (findB S o.nu).isSome := by
    rw [findB_tu iv, show (tu o).nu = o.nu from rfl]
    cases findB S o.nu <;> rfl
  have e2 : sumR (!(tu o).bu) (tuS S (!(tu o).bu)) (tu o).pr (tu o).ac = sumR (!o.bu) (S (!o.bu)) o.pr o.ac := by
    rw [show tuS S (!(tu o).bu) = (S (!o.bu)).map tu by show (S (!(!(!o.bu)))).map tu = _; rw [Bool.not_not]]
    exact sum_tu (!o.bu) o.pr o.ac _
  have e3 : (tuS S (tu o).bu).length = (S o.bu).length := by
    show ((S (!(!o.bu))).map tu).length = _
    rw [Bool.not_not, List.length_map]
  unfold placeA
  rw [may_tu hp, e1]
  dsimp only
  rw [e2, e3]
  rfl
theorem placeP_tu (iv : InvB S) (hp : Pr7 o.pr) : placeP (tuS S) (tu o) k = tuP (placeP S o k) := by
  unfold placeP
  rw [placeA_tu iv hp, comeP_tu]
  split <;> rfl
theorem placeS_tu (iv : InvB S) (hp : Pr7 o.pr) : placeS (tuS S) (tu o) k = tuS (placeS S o k) := by
  unfold placeS
  rw [placeA_tu iv hp, comeS_tu S _ hp]
  split <;> rfl
theorem drop_tu (S : Sd) (o : Or) (n : Int) : (tuS S).up (tu o).bu (dropO (tuS S (tu o).bu) n) = tuS (S.up o.bu (dropO (S o.bu) n)) := by
  rw [show tuS S (tu o).bu = (S o.bu).map tu by show (S (!(!o.bu))).map tu = _; rw [Bool.not_not], dropO_tu]
  exact tuS_up S o.bu _
theorem repl_arg_tu {p l : Int} (hp : Pr7 p) : (1001 - p < 1 ∨ 10000000 < 1001 - p ∨ l < 1 ∨ 1000000 < l) ↔ (p < 1 ∨ 10000000 < p ∨ l < 1 ∨ 1000000 < l) := by
  obtain ⟨h1, h2⟩ := hp
  omega
theorem repl_tu (iv : InvB S) {p l : Int} (hp : Pr7 p) : replA (tuS S) n (1001 - p) l = replA S n p l ∧ replP (tuS S) n (1001 - p) l = tuP (replP S n p l) ∧ replS (tuS S) n (1001 - p) l = tuS (replS S n p l) := by
  unfold replA replP replS
  rw [findB_tu iv]
  cases h : findB S n with
  | none => exact ⟨rfl, rfl, rfl⟩
  | some o =>
    dsimp only [Option.map_some]
    have ha : (1001 - p < 1 ∨ 10000000 < 1001 - p ∨ l < 1 ∨ 1000000 < l) ↔ (p < 1 ∨ 10000000 < p ∨ l < 1 ∨ 1000000 < l) := repl_arg_tu hp
    have hk : (1001 - p = (tu o).pr ∧ l ≤ (tu o).le) ↔ (p = o.pr ∧ l ≤ o.le) := by
      show (1001 - p = 1001 - o.pr ∧ l ≤ o.le) ↔ _
      omega
    by_cases c : p < 1 ∨ 10000000 < p ∨ l < 1 ∨ 1000000 < l
    · rw [if_pos c, if_pos c, if_pos c, if_pos (ha.2 c), if_pos (ha.2 c), if_pos (ha.2 c)]
      exact ⟨rfl, rfl, rfl⟩
    · rw [if_neg c, if_neg c, if_neg c, if_neg (fun d => c (ha.1 d)), if_neg (fun d => c (ha.1 d)), if_neg (fun d => c (ha.1 d))]
      by_cases d : p = o.pr ∧ l ≤ o.le
      · rw [if_pos d, if_pos d, if_pos (hk.2 d), if_pos (hk.2 d)]
        refine ⟨rfl, rfl, ?_⟩
        rw [show tuS S (tu o).bu = (S o.bu).map tu by show (S (!(!o.bu))).map tu = _; rw [Bool.not_not], lowO_tu]
        exact tuS_up S o.bu _
      · rw [if_neg d, if_neg d, if_neg (fun e => d (hk.1 e)), if_neg (fun e => d (hk.1 e)), drop_tu, show (tu o).at (1001 - p) l = tu (o.at p l) from rfl, comeP_tu, comeS_tu (o := o.at p l) _ true hp]
        exact ⟨rfl, rfl, rfl⟩
theorem canc_tu (iv : InvB S) : cancS (tuS S) n = tuS (cancS S n) := by
  unfold cancS
  rw [findB_tu iv]
  cases h : findB S n with
  | none => rfl
  | some o => exact drop_tu S o n
theorem mass_tu {a : Int} : massS (tuS S) a = tuS (massS S a) := by
  funext b
  unfold massS tuS
  rw [List.filter_map]
  rfl
theorem playS_tu {x : Op7} (iv : InvB S) (hp : Pr7 x.o.pr) : playS (tuS S) (tuX x) = tuS (playS S x) := by
  unfold playS
  rw [show (tuX x).kd = x.kd from rfl, show (tuX x).o = tu x.o from rfl, show (tuX x).k = x.k from rfl, placeS_tu iv hp, show (tu x.o).nu = x.o.nu from rfl, show (tu x.o).pr = 1001 - x.o.pr from rfl, show (tu x.o).le = x.o.le from rfl, show (tu x.o).ac = x.o.ac from rfl, (repl_tu iv hp).2.2, canc_tu iv, mass_tu]
  split
  · rfl
  · split
    · rfl
    · split
      · rfl
      · split <;> rfl
theorem tu_ok (h : o.ok) (hp : Pr7 o.pr) : (tu o).ok := by
  obtain ⟨h1, h2⟩ := hp
  exact ⟨h.nu, h.ac, by show I64' (1001 - o.pr); constructor <;> omega, h.le⟩
theorem tuX_ok {x : Op7} (h : x.ok) (hp : Pr7 x.o.pr) : (tuX x).ok := ⟨h.kd, tu_ok h.o hp, h.k⟩
/-- All that buy of the one are all that sell of the other. -/
theorem tot_tu (iv : InvB S) (iw : InvB (tuS S)) (b : Bool) : tot b (tuS S).all = tot (!b) S.all := by
  rw [tot_all iw.inv, tot_all iv.inv]
  exact sumO_tu _
end
end Go.Proofs.Ytdcjgcjnfcahkaa
