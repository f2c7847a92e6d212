/- Plain and memory: what the document's Parts walks over: holder by holder; lists of numbers and of accounts in memory. -/
import Derived.Laws.Tables
import Derived.Test.YtpfhkmppbochnaaHTpg
import Derived.Test.YtpfhkmppbochnaaG09
namespace Go.Proofs.Ytpfhkmppbochnaa
open Go.RowKit Go.Sort
set_option linter.unusedVariables false
set_option linter.unusedSimpArgs false

/-- The account ahead of what follows. -/
def lastH : Int → List Ho → Int
  | a, [] => a
  | _, d :: l => lastH d.ac l
theorem risH_app : ∀ (l m : List Ho) (a : Int), risH a (l ++ m) = (risH a l && risH (lastH a l) m)
  | [], m, a => by simp [risH, lastH]
  | d :: l, m, a => by simp only [List.cons_append, risH, lastH, risH_app l m d.ac, Bool.and_assoc]
theorem lastH_snoc : ∀ (l : List Ho) (d : Ho) (a : Int), lastH a (l ++ [d]) = d.ac
  | [], d, a => rfl
  | x :: l, d, a => by simp only [List.cons_append, lastH]; exact lastH_snoc l d x.ac
theorem take_s14 {α : Type} {l : List α} {j : Nat} {x : α} (hx : l[j]? = some x) : l.take (j + 1) = l.take j ++ [x] := by
  have hj := (List.getElem?_eq_some_iff.1 hx).1
  rw [List.take_succ_eq_append_getElem hj]
  rw [List.getElem?_eq_getElem hj] at hx
  cases hx; rfl
theorem lastH_take {l : List Ho} {j : Nat} {p : Ho} (h : l[j]? = some p) : lastH 0 (l.take (j + 1)) = p.ac := by rw [take_s14 h, lastH_snoc]
theorem risH_step {l : List Ho} {j : Nat} {d : Ho} (h : l[j]? = some d) (hr : risH 0 (l.take j) = true) : risH 0 (l.take (j + 1)) = hoB (lastH 0 (l.take j)) d := by
  rw [take_s14 h, risH_app, hr]
  simp [risH]
theorem risH_bad {l : List Ho} {j : Nat} (h : risH 0 (l.take j) = false) : risH 0 l = false := by
  have := risH_app (l.take j) (l.drop j) 0
  rw [List.take_append_drop] at this
  rw [this, h]; rfl
theorem oppo_snoc (q : Int) {l : List Ho} {j : Nat} {d : Ho} (h : l[j]? = some d) : oppo q (l.take (j + 1)) = if 0 < opq q d then oppo q (l.take j) ++ [d] else oppo q (l.take j) := by
  unfold oppo
  rw [take_s14 h, List.filter_append]
  by_cases c : 0 < opq q d
  · rw [if_pos c, List.filter_cons_of_pos (show oppB q d = true from decide_eq_true c)]; rfl
  · rw [if_neg c, List.filter_cons_of_neg (show ¬ oppB q d = true by simp [oppB]; omega)]; simp
theorem sm_snoc14 (ws : List Int) (n : Int) : sm (ws ++ [n]) = sm ws + n := by
  induction ws with
  | nil => simp [sm]
  | cons x l ih => simp only [List.cons_append, sm, ih]; omega
/-- Who is opposite. -/
def whoP (q : Int) (l : List Ho) : List Int := (oppo q l).map Ho.ac
theorem step_yes (q : Int) {l : List Ho} {j : Nat} {d : Ho} (h : l[j]? = some d) (c : 0 < opq q d) : whoP q (l.take (j + 1)) = whoP q (l.take j) ++ [d.ac] ∧ wsP q (l.take (j + 1)) = wsP q (l.take j) ++ [opq q d] ∧ sm (wsP q (l.take (j + 1))) = sm (wsP q (l.take j)) + opq q d := by
  have e := oppo_snoc q h
  rw [if_pos c] at e
  unfold whoP wsP
  rw [e, List.map_append, List.map_append]
  exact ⟨rfl, rfl, sm_snoc14 _ _⟩
theorem step_no (q : Int) {l : List Ho} {j : Nat} {d : Ho} (h : l[j]? = some d) (c : ¬ 0 < opq q d) : whoP q (l.take (j + 1)) = whoP q (l.take j) ∧ wsP q (l.take (j + 1)) = wsP q (l.take j) := by
  have e := oppo_snoc q h
  rw [if_neg c] at e
  unfold whoP wsP
  rw [e]
  exact ⟨rfl, rfl⟩
/-- Told bad, told well. -/
theorem toldP_bad {q E : Int} {l : List Ho} {B : Nat} {w w' : World} (he : errP q l = E) (h0 : E ≠ 0) (b : Below B w w') : ToldP q l B w w' (.returned (.tuple #[.slice none 0 0, .int .i64 E])) := by
  refine ⟨none, 0, ?_, ?_, b⟩
  · rw [he, if_neg h0]; rfl
  · rw [he, if_neg h0]; exact grd_nil _ _
theorem toldP_ok {q : Int} {l : List Ho} {B c : Nat} {A : Option Addr} {w w' : World} (he : errP q l = 0) (r : EH.Rd w' A (outP q l).length (outP q l)) (b : Below B w w') : ToldP q l B w w' (.returned (.tuple #[.slice A (outP q l).length c, .int .i64 0])) := by
  refine ⟨A, c, ?_, ?_, b⟩
  · rw [he, if_pos rfl]
  · rw [he, if_pos rfl]; exact r
/-- Numbers in memory. -/
def EI14 : Elt Int := ⟨fun n => [.int .i64 n], 1, by decide, fun _ => rfl, fun x u hu => by
  simp only [List.mem_cons, List.not_mem_nil, or_false] at hu
  rcases hu with rfl
  rfl⟩
theorem info_ni14 : ∃ z by', (Try.prog.info? 2).map (fun i => (i.zero, i.size, i.bytes)) = some (some z, 1, by') ∧ z.cells.size = 1 ∧ by' ≤ 4096 := ⟨.int .i64 0, 8, by kernel_rfl, rfl, by decide⟩
theorem ni_app14 {w : World} {ops : Array Oper} {rest : List Oper} {o : Oper} {a : Act} {Q : Exit → Act → World → Prop} (hgd : o.guard = none) (s x : Operand)
    (ho : o.op = .call { callee := .builtin .append, args := #[s, x], argTypes := #[38, 38] }) (base : Nat) (v : Value) (xs : List Int) (hs : a.eval s = v)
    (hown : EI14.Own 2 w base v xs) (ad : Addr) (m c : Nat) (l : List Int) (hx : a.eval x = .slice (some ad) m c) (hr : EI14.Rd w (some ad) m l) (hlen : xs.length + m ≤ 100000) (hbase : base ≤ w.heap.size)
    (h : ∀ v' w', EI14.Own 2 w' base v' (xs ++ l) → w.grownBy w' v.ownBlock → (v'.ownBlock = v.ownBlock ∨ v'.ownBlock = some w.heap.size) → wpList Try.prog ops Q rest (a.put o.dst v') w') : wpList Try.prog ops Q (o :: rest) a w := by
  obtain ⟨z, by', hi, hzs, hby⟩ := info_ni14
  obtain ⟨i0, hi0, hz0, hz1, hz2⟩ := info_parts hi
  have el : (xs ++ l).length = xs.length + m := by rw [List.length_append, hr.1]
  refine wpList_append_own_at w hgd s x 38 ho base 2 i0 z 1 by' Try.underlying38 hi0 hz0 hz1 hz2 hzs (by decide) v xs.length (EI14.flat xs) hs hown ad m c (EI14.flat l) hx ?_ (grd_news hr) (gflat_cells _) (by unfold maxLen; omega) ?_ hbase fun v' w' h2 h3 _ h5 => h v' w' (by unfold Elt.Own; rw [el, gflat_app]; exact h2) h3 h5
  · rw [gflat_len, hr.1]; rfl
  · have := Nat.mul_le_mul hlen hby
    omega
theorem own_one14 (w : World) (n : Int) : EI14.Own 2 (w.alloc (.cells #[.int .i64 n] 2)) w.heap.size (.slice (some ⟨w.heap.size, 0, none⟩) 1 1) [n] :=
  ⟨rfl, .inr ⟨w.heap.size, 1, #[.int .i64 n], rfl, Nat.le_refl _, heap_alloc_new w _, Nat.le_refl _, by unfold maxLen; omega, rfl, rfl⟩⟩
theorem rd_ei14 {w : World} {A : Option Addr} {n : Nat} {l : List Int} (h : EI14.Rd w A n l) : Rd w A n l := by
  refine ⟨h.1, fun hn => ?_⟩
  have h0 : 0 < l.length := by rw [h.1]; exact hn
  obtain ⟨b, o, rfl, _⟩ := grd_rng h (List.getElem?_eq_getElem h0)
  refine ⟨b, o, rfl, fun j hj => ?_⟩
  have hj' : j < l.length := by rw [h.1]; exact hj
  obtain ⟨b2, o2, e2, r⟩ := grd_rng h (List.getElem?_eq_getElem hj')
  cases e2
  have := r 0 (.int .i64 l[j]) rfl
  rw [show o + j * EI14.N + 0 = o + j by show o + j * 1 + 0 = o + j; omega] at this
  rw [this]
  simp [List.getD, hj']
/-- Accounts in memory. -/
def EU14 : Elt Int := ⟨fun n => [.int .u32 n], 1, by decide, fun _ => rfl, fun x u hu => by
  simp only [List.mem_cons, List.not_mem_nil, or_false] at hu
  rcases hu with rfl
  rfl⟩
theorem info_nu14 : ∃ z by', (Try.prog.info? 30).map (fun i => (i.zero, i.size, i.bytes)) = some (some z, 1, by') ∧ z.cells.size = 1 ∧ by' ≤ 4096 := ⟨.int .u32 0, 4, by kernel_rfl, rfl, by decide⟩
theorem nu_app14 {w : World} {ops : Array Oper} {rest : List Oper} {o : Oper} {a : Act} {Q : Exit → Act → World → Prop} (hgd : o.guard = none) (s x : Operand)
    (ho : o.op = .call { callee := .builtin .append, args := #[s, x], argTypes := #[37, 37] }) (base : Nat) (v : Value) (xs : List Int) (hs : a.eval s = v)
    (hown : EU14.Own 30 w base v xs) (ad : Addr) (m c : Nat) (l : List Int) (hx : a.eval x = .slice (some ad) m c) (hr : EU14.Rd w (some ad) m l) (hlen : xs.length + m ≤ 100000) (hbase : base ≤ w.heap.size)
    (h : ∀ v' w', EU14.Own 30 w' base v' (xs ++ l) → w.grownBy w' v.ownBlock → (v'.ownBlock = v.ownBlock ∨ v'.ownBlock = some w.heap.size) → wpList Try.prog ops Q rest (a.put o.dst v') w') : wpList Try.prog ops Q (o :: rest) a w := by
  obtain ⟨z, by', hi, hzs, hby⟩ := info_nu14
  obtain ⟨i0, hi0, hz0, hz1, hz2⟩ := info_parts hi
  have el : (xs ++ l).length = xs.length + m := by rw [List.length_append, hr.1]
  refine wpList_append_own_at w hgd s x 37 ho base 30 i0 z 1 by' Try.underlying37 hi0 hz0 hz1 hz2 hzs (by decide) v xs.length (EU14.flat xs) hs hown ad m c (EU14.flat l) hx ?_ (grd_news hr) (gflat_cells _) (by unfold maxLen; omega) ?_ hbase fun v' w' h2 h3 _ h5 => h v' w' (by unfold Elt.Own; rw [el, gflat_app]; exact h2) h3 h5
  · rw [gflat_len, hr.1]; rfl
  · have := Nat.mul_le_mul hlen hby
    omega
theorem own_oneu14 (w : World) (n : Int) : EU14.Own 30 (w.alloc (.cells #[.int .u32 n] 30)) w.heap.size (.slice (some ⟨w.heap.size, 0, none⟩) 1 1) [n] :=
  ⟨rfl, .inr ⟨w.heap.size, 1, #[.int .u32 n], rfl, Nat.le_refl _, heap_alloc_new w _, Nat.le_refl _, by unfold maxLen; omega, rfl, rfl⟩⟩
theorem own_apart14 {W : World} {B B' : Nat} {va vb : Value} {xs : List Int} {ys : List Int} (ha : EU14.Own 30 W B va xs) (hb : EI14.Own 2 W B' vb ys) {k : Nat} (h1 : va.ownBlock = some k) : vb.ownBlock ≠ some k := fun e => by
  obtain ⟨c1, k1⟩ := gown_cells ha h1
  obtain ⟨c2, k2⟩ := gown_cells hb e
  rw [k1] at k2
  injection k2 with h3
  injection h3 with _ h4 _
  revert h4
  decide
theorem two14 {α : Type} {l : Array α} (h : l.size = 2) : ∃ a b, l = #[a, b] := by
  obtain ⟨l⟩ := l
  match l, h with
  | [a, b], _ => exact ⟨a, b, rfl⟩
theorem fill_ho (o : Ho) (z : Value) (h : z.cells.size = EH.N) : Instr.fill (fun i => some (i * EH.N, EH.N)) ((Array.range (1 * EH.N)).map (z.cells[· % z.cells.size]!)) [(0, .agg (EH.cells o).toArray)] = some (EH.cells o).toArray := by
  obtain ⟨a, b, hz⟩ := two14 (show z.cells.size = 2 from h)
  rw [hz]
  obtain ⟨ac, q⟩ := o
  kernel_rfl
theorem built_ho14 (a c : Int) : Program.built Try.prog 32 [(0, .int .u32 a), (1, .int .i64 c)] = some (EH.cells ⟨a, c⟩).toArray := by kernel_rfl
theorem yields_build_ho14 {ops : Array Oper} {S : World → Prop} {o : Oper} {a : Act} (hw : Region.wanted o (yielded ops a.tmps) = true) (x y : Operand) (ho : o.op = .build 32 #[(0, x), (1, y)]) {u v : Int} (hx : a.eval x = .int .u32 u) (hy : a.eval y = .int .i64 v) :
    YieldsIf Try.prog ops S o (.agg (EH.cells ⟨u, v⟩).toArray) a := .inl ⟨hw, fun w _ => by
  have e : (#[(0, x), (1, y)].map fun (i, x) => (i, a.eval x)).toList = [(0, Value.int .u32 u), (1, .int .i64 v)] := by simp [hx, hy]
  unfold execOp
  simp only [ho, Sem.run_bind, run_build w 32 _ _ (by rw [e]; exact built_ho14 u v), Result.andThen_ok, Sem.run_pure]⟩
theorem fr_cell14 {S : Nat → Prop} {a b : World} {k : Nat} (h : Fr S a b) (hk : k < a.heap.size) (hn : ¬ S k) (o : Nat) : b.cell? ⟨k, o, none⟩ = a.cell? ⟨k, o, none⟩ := by
  have e := h.at' k hk hn
  simp only [World.cell?, e]
/-- Two lists that grow, apart: accounts and numbers. -/
structure A2 (w2 V : World) (vo vw : Value) (xs ys : List Int) : Prop where
  oo : EU14.Own 30 V w2.heap.size vo xs
  ow : EI14.Own 2 V w2.heap.size vw ys
  bel : Below w2.heap.size w2 V
section
variable {w2 V W : World} {vo vw v' : Value} {xs xs' ys ys' : List Int}
theorem A2.alloc (h : A2 w2 V vo vw xs ys) (o : Obj) : A2 w2 (V.alloc o) vo vw xs ys :=
  ⟨gown_below h.oo (below_new V o), gown_below h.ow (below_new V o), h.bel.alloc h.bel.size o⟩
theorem A2.appO (h : A2 w2 V vo vw xs ys) (g : V.grownBy W vo.ownBlock) (o : EU14.Own 30 W w2.heap.size v' xs') : A2 w2 W v' vw xs' ys :=
  ⟨o, gown_same h.ow fun j hj => g.block j (gown_lt h.ow hj).2 (fun e => own_apart14 h.oo h.ow e.symm hj), h.bel.grown g h.bel.size fun j e => (gown_lt h.oo e).1⟩
theorem A2.appW (h : A2 w2 V vo vw xs ys) (g : V.grownBy W vw.ownBlock) (o : EI14.Own 2 W w2.heap.size v' ys') : A2 w2 W vo v' xs ys' :=
  ⟨gown_same h.oo fun j hj => g.block j (gown_lt h.oo hj).2 (fun e => own_apart14 h.oo h.ow hj e.symm), o, h.bel.grown g h.bel.size fun j e => (gown_lt h.ow e).1⟩
end
variable {q : Int} {l : List Ho}
theorem ng_wsP (h : ∀ x, x ∈ l → -10000000 ≤ x.q ∧ x.q ≤ 10000000) : false = true ↔ Ng (wsP q l) := by
  constructor
  · intro c; cases c
  · rintro ⟨t, ht, hn⟩
    have := wsP_get (q := q) h t
    omega
theorem MayP.se (h : MayP q l) : Go.Proofs.Ytpfhkmppbochnaa.se (mag q) (wsP q l) false = 0 := by
  have h1 := h.T
  have h2 := wsP_sm (q := q) h.ins
  have h3 := h.len
  have h4 := h.en
  have h5 := wsP_len q l
  have h6 := oppo_len q l
  unfold Go.Proofs.Ytpfhkmppbochnaa.se
  rw [if_neg (by omega), if_neg (by omega), tE_in (by unfold I64; omega)]
  simp only [Bool.false_eq_true, if_false, if_true]
  rw [if_neg (show ¬ mag q = 0 by omega), if_neg (show ¬ sm (wsP q l) = 0 by omega)]
theorem wsP_i64 (h : ∀ x, x ∈ l → -10000000 ≤ x.q ∧ x.q ≤ 10000000) : ∀ n, n ∈ wsP q l → I64 n := fun n hn => by
  have := wsP_mem h n hn
  unfold I64
  omega
theorem allP_len : (allP q l).length = (prt (mag q) (wsP q l)).length := by
  unfold allP
  rw [List.length_zipWith, prt_len, wsP_len, Nat.min_self]
theorem allP_at {j : Nat} {h : Ho} {n : Int} (h1 : (oppo q l)[j]? = some h) (h2 : (prt (mag q) (wsP q l))[j]? = some n) : (allP q l)[j]? = some (mkH h n) := by
  unfold allP
  rw [List.getElem?_zipWith, h1, h2]
theorem pos_snoc {L : List Ho} {j : Nat} {x : Ho} (h : L[j]? = some x) : (L.take (j + 1)).filter posH = if 0 < x.q then (L.take j).filter posH ++ [x] else (L.take j).filter posH := by
  rw [take_s14 h, List.filter_append]
  by_cases c : 0 < x.q
  · rw [if_pos c, List.filter_cons_of_pos (show posH x = true from decide_eq_true c)]; rfl
  · rw [if_neg c, List.filter_cons_of_neg (show ¬ posH x = true by simp [posH]; omega)]; simp
end Go.Proofs.Ytpfhkmppbochnaa
