/- Plain and memory: what the document's Settle walks over: due by due; lists of numbers in memory. -/
import Derived.Laws.Tables
import Derived.Test.YtlbekdpmfjhjhaaHStk
import Derived.Test.YtlbekdpmfjhjhaaHTwo
import Derived.Test.YtlbekdpmfjhjhaaG09
namespace Go.Proofs.Ytlbekdpmfjhjhaa
open Go.RowKit Go.Sort
set_option linter.unusedVariables false
set_option linter.unusedSimpArgs false

/-- The account ahead of what follows. -/
def lastA : Int → List Du → Int
  | a, [] => a
  | _, d :: l => lastA d.ac l
theorem ris_app : ∀ (l m : List Du) (a : Int), risD a (l ++ m) = (risD a l && risD (lastA a l) m)
  | [], m, a => by simp [risD, lastA]
  | d :: l, m, a => by simp only [List.cons_append, risD, lastA, ris_app l m d.ac, Bool.and_assoc]
theorem last_snoc : ∀ (l : List Du) (d : Du) (a : Int), lastA a (l ++ [d]) = d.ac
  | [], d, a => rfl
  | x :: l, d, a => by simp only [List.cons_append, lastA]; exact last_snoc l d x.ac
theorem take_s13 {α : Type} {l : List α} {j : Nat} {x : α} (hx : l[j]? = some x) : l.take (j + 1) = l.take j ++ [x] := by
  have hj := (List.getElem?_eq_some_iff.1 hx).1
  rw [List.take_succ_eq_append_getElem hj]
  rw [List.getElem?_eq_getElem hj] at hx
  cases hx; rfl
theorem last_take {l : List Du} {j : Nat} {p : Du} (h : l[j]? = some p) : lastA 0 (l.take (j + 1)) = p.ac := by rw [take_s13 h, last_snoc]
theorem ris_step {l : List Du} {j : Nat} {d : Du} (h : l[j]? = some d) (hr : risD 0 (l.take j) = true) : risD 0 (l.take (j + 1)) = dueB (lastA 0 (l.take j)) d := by
  rw [take_s13 h, ris_app, hr]
  simp [risD]
theorem ris_bad {l : List Du} {j : Nat} (h : risD 0 (l.take j) = false) : risD 0 l = false := by
  have := ris_app (l.take j) (l.drop j) 0
  rw [List.take_append_drop] at this
  rw [this, h]; rfl
theorem sumV_snoc (l : List Du) (x : Du) : sumV (l ++ [x]) = sumV l + x.v := by
  induction l with
  | nil => simp [sumV]
  | cons y l ih => simp only [List.cons_append, sumV, ih]; omega
theorem defs_snoc (l : List Du) (x : Du) : defs (l ++ [x]) = defs l + defD x := by
  induction l with
  | nil => simp [defs]
  | cons y l ih => simp only [List.cons_append, defs, ih]; omega
theorem defs_nn (l : List Du) : 0 ≤ defs l := by
  induction l with
  | nil => simp [defs]
  | cons y l ih =>
    have : 0 ≤ defD y := by unfold defD; split <;> omega
    simp only [defs]; omega
/-- Deficit by deficit out of the fund. -/
theorem left_step {f : Int} (hf : 0 ≤ f) (l : List Du) (d : Du) : (¬ d.ca + d.v < 0 → leftS f (l ++ [d]) = leftS f l ∧ fundS f (l ++ [d]) = fundS f l) ∧
    (d.ca + d.v < 0 → fundS f l < -(d.ca + d.v) → leftS f (l ++ [d]) = leftS f l + -(d.ca + d.v) - fundS f l ∧ fundS f (l ++ [d]) = 0) ∧
    (d.ca + d.v < 0 → ¬ fundS f l < -(d.ca + d.v) → leftS f (l ++ [d]) = leftS f l ∧ fundS f (l ++ [d]) = fundS f l - -(d.ca + d.v)) := by
  have hn := defs_nn l
  unfold leftS fundS
  rw [defs_snoc]
  unfold defD
  refine ⟨fun h => ?_, fun h => ?_, fun h => ?_⟩
  · rw [if_neg h, Int.add_zero]; exact ⟨rfl, rfl⟩
  · rw [if_pos h]
    intro k
    split at k <;> (constructor <;> (repeat' split) <;> omega)
  · rw [if_pos h]
    intro k
    split at k <;> (constructor <;> (repeat' split) <;> omega)
theorem map_take_snoc {α β : Type} {l : List α} {j : Nat} {x : α} (g : α → β) (h : l[j]? = some x) : (l.take (j + 1)).map g = (l.take j).map g ++ [g x] := by
  rw [take_s13 h, List.map_append]; rfl
/-- Told bad, told well. -/
theorem toldS_bad {f E : Int} {l : List Du} {B : Nat} {w w' : World} (he : errS f l = E) (h0 : E ≠ 0) (q : Below B w w') : ToldS f l B w w' (.returned (.tuple #[.slice none 0 0, .int .i64 0, .int .i64 E])) := by
  refine ⟨none, 0, ?_, ?_, q⟩
  · rw [he, if_neg h0, if_neg h0]; rfl
  · rw [he, if_neg h0]; exact grd_nil _ _
theorem toldS_ok {f : Int} {l : List Du} {B n c : Nat} {A : Option Addr} {w w' : World} (he : errS f l = 0) (hn : l.length = n) (r : ESd.Rd w' A n (outS f l)) (q : Below B w w') : ToldS f l B w w' (.returned (.tuple #[.slice A n c, .int .i64 (fundS f l), .int .i64 0])) := by
  refine ⟨A, c, ?_, ?_, q⟩
  · rw [he, if_pos rfl, if_pos rfl, out_len, hn]
  · rw [he, if_pos rfl, out_len, hn]; exact r
/-- Numbers in memory. -/
def EI13 : Elt Int := ⟨fun n => [.int .i64 n], 1, by decide, fun _ => rfl, fun x u hu => by
  simp only [List.mem_cons, List.not_mem_nil, or_false] at hu
  rcases hu with rfl
  rfl⟩
theorem info_ni13 : ∃ z by', (Try.prog.info? 2).map (fun i => (i.zero, i.size, i.bytes)) = some (some z, 1, by') ∧ z.cells.size = 1 ∧ by' ≤ 4096 := ⟨.int .i64 0, 8, by kernel_rfl, rfl, by decide⟩
theorem ni_app13 {w : World} {ops : Array Oper} {rest : List Oper} {o : Oper} {a : Act} {Q : Exit → Act → World → Prop} (hgd : o.guard = none) (s x : Operand)
    (ho : o.op = .call { callee := .builtin .append, args := #[s, x], argTypes := #[38, 38] }) (base : Nat) (v : Value) (xs : List Int) (hs : a.eval s = v)
    (hown : EI13.Own 2 w base v xs) (ad : Addr) (m c : Nat) (l : List Int) (hx : a.eval x = .slice (some ad) m c) (hr : EI13.Rd w (some ad) m l) (hlen : xs.length + m ≤ 100000) (hbase : base ≤ w.heap.size)
    (h : ∀ v' w', EI13.Own 2 w' base v' (xs ++ l) → w.grownBy w' v.ownBlock → (v'.ownBlock = v.ownBlock ∨ v'.ownBlock = some w.heap.size) → wpList Try.prog ops Q rest (a.put o.dst v') w') : wpList Try.prog ops Q (o :: rest) a w := by
  obtain ⟨z, by', hi, hzs, hby⟩ := info_ni13
  obtain ⟨i0, hi0, hz0, hz1, hz2⟩ := info_parts hi
  have el : (xs ++ l).length = xs.length + m := by rw [List.length_append, hr.1]
  refine wpList_append_own_at w hgd s x 38 ho base 2 i0 z 1 by' Try.underlying38 hi0 hz0 hz1 hz2 hzs (by decide) v xs.length (EI13.flat xs) hs hown ad m c (EI13.flat l) hx ?_ (grd_news hr) (gflat_cells _) (by unfold maxLen; omega) ?_ hbase fun v' w' h2 h3 _ h5 => h v' w' (by unfold Elt.Own; rw [el, gflat_app]; exact h2) h3 h5
  · rw [gflat_len, hr.1]; rfl
  · have := Nat.mul_le_mul hlen hby
    omega
theorem own_one13 (w : World) (n : Int) : EI13.Own 2 (w.alloc (.cells #[.int .i64 n] 2)) w.heap.size (.slice (some ⟨w.heap.size, 0, none⟩) 1 1) [n] :=
  ⟨rfl, .inr ⟨w.heap.size, 1, #[.int .i64 n], rfl, Nat.le_refl _, heap_alloc_new w _, Nat.le_refl _, by unfold maxLen; omega, rfl, rfl⟩⟩
theorem rd_ei13 {w : World} {A : Option Addr} {n : Nat} {l : List Int} (h : EI13.Rd w A n l) : Rd w A n l := by
  refine ⟨h.1, fun hn => ?_⟩
  have h0 : 0 < l.length := by rw [h.1]; exact hn
  obtain ⟨b, o, rfl, _⟩ := grd_rng h (List.getElem?_eq_getElem h0)
  refine ⟨b, o, rfl, fun j hj => ?_⟩
  have hj' : j < l.length := by rw [h.1]; exact hj
  obtain ⟨b2, o2, e2, r⟩ := grd_rng h (List.getElem?_eq_getElem hj')
  cases e2
  have := r 0 (.int .i64 l[j]) rfl
  rw [show o + j * EI13.N + 0 = o + j by show o + j * 1 + 0 = o + j; omega] at this
  rw [this]
  simp [List.getD, hj']
theorem own_apart13 {W : World} {B B' : Nat} {va vb : Value} {xs : List Sd} {ys : List Int} (ha : ESd.Own 34 W B va xs) (hb : EI13.Own 2 W B' vb ys) {k : Nat} (h1 : va.ownBlock = some k) : vb.ownBlock ≠ some k := fun e => by
  obtain ⟨c1, k1⟩ := gown_cells ha h1
  obtain ⟨c2, k2⟩ := gown_cells hb e
  rw [k1] at k2
  injection k2 with h3
  injection h3 with _ h4 _
  revert h4
  decide
theorem four13 {α : Type} {l : Array α} (h : l.size = 4) : ∃ a b c d, l = #[a, b, c, d] := by
  obtain ⟨l⟩ := l
  match l, h with
  | [a, b, c, d], _ => exact ⟨a, b, c, d, rfl⟩
theorem fill_sd (o : Sd) (z : Value) (h : z.cells.size = ESd.N) : Instr.fill (fun i => some (i * ESd.N, ESd.N)) ((Array.range (1 * ESd.N)).map (z.cells[· % z.cells.size]!)) [(0, .agg (ESd.cells o).toArray)] = some (ESd.cells o).toArray := by
  obtain ⟨a, b, c, d, hz⟩ := four13 (show z.cells.size = 4 from h)
  rw [hz]
  obtain ⟨ac, ca, de, cu⟩ := o
  kernel_rfl
theorem built_sd13u (a c : Int) : Program.built Try.prog 34 [(0, .int .u32 a), (1, .int .i64 c)] = some (ESd.cells ⟨a, c, false, 0⟩).toArray := by kernel_rfl
theorem yields_build_sd13u {ops : Array Oper} {S : World → Prop} {o : Oper} {a : Act} (hw : Region.wanted o (yielded ops a.tmps) = true) (x y : Operand) (ho : o.op = .build 34 #[(0, x), (1, y)]) {u v : Int} (hx : a.eval x = .int .u32 u) (hy : a.eval y = .int .i64 v) :
    YieldsIf Try.prog ops S o (.agg (ESd.cells ⟨u, v, false, 0⟩).toArray) a := .inl ⟨hw, fun w _ => by
  have e : (#[(0, x), (1, y)].map fun (i, x) => (i, a.eval x)).toList = [(0, Value.int .u32 u), (1, .int .i64 v)] := by simp [hx, hy]
  unfold execOp
  simp only [ho, Sem.run_bind, run_build w 34 _ _ (by rw [e]; exact built_sd13u u v), Result.andThen_ok, Sem.run_pure]⟩
/-- The cuts so far. -/
def mixS (l : List Sd) (cs : List Int) (k : Nat) : List Sd := List.zipWith less (l.take k) (cs.take k) ++ l.drop k
theorem mixS_zero (l : List Sd) (cs : List Int) : mixS l cs 0 = l := by simp [mixS]
theorem mixS_all {l : List Sd} {cs : List Int} (h : l.length = cs.length) : mixS l cs l.length = List.zipWith less l cs := by
  unfold mixS
  rw [List.take_length, List.drop_length, List.append_nil, h, List.take_length]
theorem mixS_len {l : List Sd} {cs : List Int} (h : l.length = cs.length) (k : Nat) : (mixS l cs k).length = l.length := by
  unfold mixS
  rw [List.length_append, List.length_zipWith, List.length_take, List.length_take, List.length_drop]
  omega
theorem mixS_at {l : List Sd} {cs : List Int} (h : l.length = cs.length) {k : Nat} {x : Sd} (hx : l[k]? = some x) : (mixS l cs k)[k]? = some x := by
  have hk := (List.getElem?_eq_some_iff.1 hx).1
  have e : (List.zipWith less (l.take k) (cs.take k)).length = k := by rw [List.length_zipWith, List.length_take, List.length_take]; omega
  unfold mixS
  rw [List.getElem?_append_right (by omega), e, List.getElem?_drop]
  rw [show k + (k - k) = k by omega, hx]
theorem mixS_set {l : List Sd} {cs : List Int} (h : l.length = cs.length) {k : Nat} {x : Sd} {c : Int} (hx : l[k]? = some x) (hc : cs[k]? = some c) : (mixS l cs k).set k (less x c) = mixS l cs (k + 1) := by
  have hk := (List.getElem?_eq_some_iff.1 hx).1
  have e : (List.zipWith less (l.take k) (cs.take k)).length = k := by rw [List.length_zipWith, List.length_take, List.length_take]; omega
  have hd : l.drop k = x :: l.drop (k + 1) := by
    rw [List.getElem?_eq_getElem hk] at hx
    cases hx
    rw [List.getElem_cons_drop]
  unfold mixS
  rw [List.set_append, if_neg (by omega), e, Nat.sub_self, hd, List.set_cons_zero, take_s13 hx, take_s13 hc, List.zipWith_append (by rw [List.length_take, List.length_take]; omega), List.append_assoc]
  rfl
theorem sd_setc (x : Sd) (c : Int) : ESd.cells ⟨x.ac, x.ca, x.de, c⟩ = (ESd.cells x).set 3 (.int .i64 c) := rfl
theorem sd_seta (x : Sd) (y : Int) : ESd.cells ⟨x.ac, y, x.de, x.cu⟩ = (ESd.cells x).set 1 (.int .i64 y) := rfl
theorem sd_setd (x : Sd) (y : Bool) : ESd.cells ⟨x.ac, x.ca, y, x.cu⟩ = (ESd.cells x).set 2 (.bool y) := rfl
/-- In a round of the sum: the number read. -/
def SB13 (w : World) (g : Nat) (x : Int) (U : World) : Prop := U.cell? ⟨g, 2, none⟩ = some (.int .i64 x) ∧ Below w.heap.size w U
theorem SB13.quiet {w : World} {g : Nat} {x : Int} {W W' : World} (h : SB13 w g x W) (k : Quiet W W') : SB13 w g x W' :=
  ⟨(k.2.cell (p := ⟨g, 2, none⟩) (World.block_lt_of_cell? W _ h.1)).trans h.1, h.2.trans (k.2.mono h.2.size)⟩
theorem SB13.setRow {w : World} {g : Nat} {x : Int} {W : World} {k : Nat} (h : SB13 w g x W) (hk : w.heap.size ≤ k) (hne : g ≠ k) (cs : Array Value) : SB13 w g x (W.setRow k cs) := by
  refine ⟨?_, below_row0 h.2 hk⟩
  rw [cell_setRow_other W k cs ⟨g, 2, none⟩ hne]
  exact h.1
theorem mag_v13 {v : Int} (h : -100000000000000000 ≤ v ∧ v ≤ 100000000000000000) : 0 ≤ mag v ∧ mag v ≤ 100000000000000000 := by unfold mag; split <;> omega
theorem sum_size13 {N x : Int} {k : Nat} (h1 : N ≤ 100000000000000000 * (k : Int)) (hk : k ≤ 64) (hx : mag x ≤ 100000000000000000) :
    N + mag x ≤ 100000000000000000 * ((k + 1 : Nat) : Int) ∧ 100000000000000000 * ((k + 1 : Nat) : Int) < Rf.T 12 := by
  have : (10633823966279326992483775380034977792 : Int) < Rf.T 12 := by decide
  omega
end Go.Proofs.Ytlbekdpmfjhjhaa
