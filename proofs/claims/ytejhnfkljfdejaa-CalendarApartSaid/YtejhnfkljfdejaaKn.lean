/- The statements' own comparison of the program's calendar with the plain one. -/
import Derived.Test.YtejhnfkljfdejaaKk
import Derived.Test.YtejhnfkljfdejaaRi
import Derived.Test.YtejhnfkljfdejaaKq
import Derived.WalkKit
import Derived.Deep.QuietTactic
import Derived.BigQuiet
import Derived.BigRegion
import Derived.Deep.RegionHeld3
namespace Go.Proofs.Ytejhnfkljfdejaa
open Go.RowKit Go.Shelf

/-- Within 'same': nothing that lay there has turned; the two boxes. -/
structure Sm (w : World) (gr : Nat) (W : World) : Prop where
  fr : Fr (fun _ => False) w W
  bp : W.heap[w.heap.size]? = some (.cells #[.pointer (some ⟨gr, 0, none⟩)] 25 (0, 0))
  br : W.heap[w.heap.size + 1]? = some (.cells #[.bool false] 4 (0, 0))
section
variable {w W W' : World} {gr : Nat} {S : Nat → Prop}
theorem Sm.sz (h : Sm w gr W) : w.heap.size + 1 < W.heap.size := (Array.getElem?_eq_some_iff.1 h.br).1
theorem Sm.step (h : Sm w gr W) (f : Fr S W W') (hS : ∀ k, S k → w.heap.size + 1 < k) : Sm w gr W' :=
  ⟨h.fr.trans f (fun _ h => h) (fun k hk c => by have := hS _ c; omega), (f.at' _ (by have := h.sz; omega) (fun c => by have := hS _ c; omega)).trans h.bp, (f.at' _ h.sz (fun c => by have := hS _ c; omega)).trans h.br⟩
theorem Sm.below (h : Sm w gr W) (q : Below W.heap.size W W') : Sm w gr W' := h.step (S := fun _ => False) (Fr.below q) (fun _ h => h.elim)
theorem sm_new (w : World) (gr : Nat) : Sm w gr ((w.alloc (.cells #[.pointer (some ⟨gr, 0, none⟩)] 25)).alloc (.cells #[.bool false] 4)) :=
  ⟨Fr.below (((Below.refl _ w).alloc (Nat.le_refl _) _).alloc (by simp) _), heap_alloc2_old w _ _, heap_alloc2_new w _ _⟩
theorem Sm.c0 (h : Sm w gr W) : W.cell? ⟨w.heap.size, 0, none⟩ = some (.pointer (some ⟨gr, 0, none⟩)) := by rw [cell_of_row _ _ _ _ _ _ h.bp]; rfl
theorem Sm.c1 (h : Sm w gr W) : W.cell? ⟨w.heap.size + 1, 0, none⟩ = some (.bool false) := by rw [cell_of_row _ _ _ _ _ _ h.br]; rfl
end

theorem yields_load_ct {ops : Array Oper} {S : World → Prop} {o : Oper} {a : Act} (hw : Region.wanted o (yielded ops a.tmps) = true) (x : Operand) (ho : o.op = .load 45 x) (g : Nat) (hx : a.eval x = .pointer (some ⟨g, 0, none⟩)) {s : Ct} (hb : ∀ w, S w → Cb w g s) :
    YieldsIf Try.prog ops S o (.agg s.cells) a :=
  .inl ⟨hw, fun w hw' => by
    unfold execOp
    simp only [ho, hx, Instr.loadAt, Instr.sureAddr, Sem.run_bind, Sem.run_pure, Result.andThen_ok, run_loadVar_row w g 45 45 s.cells (0, 0) _ (hb w hw').1 Try.underlying45 rfl (hb w hw').info]⟩
theorem yields_load_ctm {ops : Array Oper} {S : World → Prop} {o : Oper} {a : Act} (hw : Region.wanted o (yielded ops a.tmps) = true) (x : Operand) (ho : o.op = .load 45 x) (b q : Nat) (hx : a.eval x = .pointer (some ⟨b, q, none⟩)) {s : Ct} (hl : s.sp.sh.length = 16) (hb : ∀ w, S w → w.rangeAt b q s.cellL) :
    YieldsIf Try.prog ops S o (.agg s.cells) a :=
  yieldsIf_load_mid hw 45 x ho b q hx s.cellL _ hb Try.underlying45 rfl (by rw [info_cs, Ct.lenL hl])
theorem yields_neq_ct {ops : Array Oper} {S : World → Prop} {o : Oper} {a : Act} (hw : Region.wanted o (yielded ops a.tmps) = true) (x y : Operand) {t2 : TypeId} (ho : o.op = .binOp .neq 45 x y t2) {u v : Ct} (hu : u.ok) (hv : v.ok) (hx : a.eval x = .agg u.cells) (hy : a.eval y = .agg v.cells) :
    YieldsIf Try.prog ops S o (.bool !(eqB u v)) a := .inl ⟨hw, fun w _ => exec_ct (.inr rfl) ho hu hv hx hy w⟩
theorem ret_cellb {fn : Func} {p : Tmp} (h : fn.results = #[.cell p 4]) (tmps : Array Value) (w : World) (g : Nat) (b : Bool) (hp : tmps.getD p undef = .pointer (some ⟨g, 0, none⟩)) (hb : w.cell? ⟨g, 0, none⟩ = some (.bool b)) :
    (results fn tmps).run Try.prog w = .ok (.bool b) w := by
  have hp' : tmps[p]?.getD undef = .pointer (some ⟨g, 0, none⟩) := by simpa using hp
  simp [results, h, hp', asAddr, go_sem, hb]
theorem eql_seq (gf : Nat) (lb : Array Value) (W : World) : (binOp .eql 55 (.func (.func gf) #[] lb) .nilFunc).run Try.prog W = .ok (.bool false) W := by
  kernel_rfl
set_option maxRecDepth 100000 in
set_option maxHeartbeats 8000000 in
theorem same_any {Pc : PcT} {zc : Array Value} (K : CalK Pc zc) (B g gr : Nat) (F : Nat → Prop) (v : Value) (d : Int) (cs : List Ct) (w : World) (hp : Pc w F g d cs) (hr : Rc w B gr v d cs) :
    Calls Try.prog 26 #[.pointer (some ⟨g, 0, none⟩), .pointer (some ⟨gr, 0, none⟩)] w fun e w' => e = .returned (.bool true) ∧ Below w.heap.size w w' := by
  have HP : Hid (∀ W, Sm w gr W → Pc W F g d cs) := Lib.hid fun W h => K.keep hp h.fr (fun _ _ h => h)
  have HR : Hid (∀ W, Sm w gr W → Rc W B gr v d cs) := Lib.hid fun W h => hr.keep h.fr (fun h => h) (fun _ _ h => h)
  have SM := Lib.hid (sm_new w gr)
  have DAY := Lib.hid (fun W (h : Sm w gr W) => K.day (HP.out W h))
  have ALL := Lib.hid (fun W (h : Sm w gr W) => K.all (HP.out W h))
  have LF : Hid (∀ k, F k → k < w.heap.size) := Lib.hid (K.lt hp)
  have hdd : (d != d) = false := by simp
  have EQ := eql_seq
  clear hp hr
  refine calls_marks Try.func26 rfl ?_
  simp only [Try.ntmps26, List.size_toArray, List.length_cons, List.length_nil, Nat.reduceAdd, Nat.reduceSub, Array.replicate_succ, Array.replicate_zero, List.push_toArray, List.append_toArray, List.nil_append, List.cons_append]
  go_wp2_with fail
  refine wp_region_held_drew (S := Sm w gr) (by kernel_rfl) (show Sm w gr _ from ⟨⟨SM.out.fr.b0.drew, SM.out.fr.at'⟩, SM.out.bp, SM.out.br⟩) (fun hH => ?_)
  refine wpAnyH_take (i := 0) (v := .pointer (some ⟨g, 0, none⟩)) rfl (by kernel_rfl) (by kernel_rfl) (by kernel_rfl) (fun _ _ _ h => h) (.inl ⟨by rfl, ?_⟩) (by assumption) ?_
  · intro W hW; go_simp
  try simp only [List.getElem_toArray, List.getElem_cons_zero, Act.put, List.setIfInBounds_toArray, List.set_cons_zero, List.set_cons_succ]
  refine wpAnyH_take (i := 2) (v := .pointer (some ⟨gr, 0, none⟩)) rfl (by kernel_rfl) (by kernel_rfl) (by kernel_rfl) (fun _ _ _ h => h) (.inl ⟨by rfl, ?_⟩) (by assumption) ?_
  · intro W hW; have k := hW.c0; go_simp
  try simp only [List.getElem_toArray, List.getElem_cons_zero, List.getElem_cons_succ, Act.put, List.setIfInBounds_toArray, List.set_cons_zero, List.set_cons_succ]
  refine wpAnyH_take (i := 3) (v := .pointer (some ⟨gr, 0, none⟩)) rfl (by kernel_rfl) (by kernel_rfl) (by kernel_rfl) (fun _ _ _ h => h) (.inl ⟨by rfl, ?_⟩) (by assumption) ?_
  · intro W hW; go_simp
  try simp only [List.getElem_toArray, List.getElem_cons_zero, List.getElem_cons_succ, Act.put, List.setIfInBounds_toArray, List.set_cons_zero, List.set_cons_succ]
  refine wpAnyH_take (i := 4) (v := .pointer (some ⟨gr, 0, none⟩)) rfl (by kernel_rfl) (by kernel_rfl) (by kernel_rfl) (fun _ _ _ h => h) (.inl ⟨by rfl, ?_⟩) (by assumption) ?_
  · intro W hW; go_simp
  try simp only [List.getElem_toArray, List.getElem_cons_zero, List.getElem_cons_succ, Act.put, List.setIfInBounds_toArray, List.set_cons_zero, List.set_cons_succ]
  refine wpAnyH_take (i := 5) (v := .int .u32 d) rfl (by kernel_rfl) (by kernel_rfl) (by kernel_rfl) (fun _ _ _ h => h) (.inl ⟨by rfl, ?_⟩) (by assumption) ?_
  · intro W hW; have k := (HR.out W hW).c0; go_simp
  try simp only [List.getElem_toArray, List.getElem_cons_zero, List.getElem_cons_succ, Act.put, List.setIfInBounds_toArray, List.set_cons_zero, List.set_cons_succ]
  refine wpAnyH_ready (rs := [1]) (by decide +kernel) (by simp) (AllReadyH.cons rfl (fun KQ hK => ?_) AllReadyH.nil)
  go_simp
  refine (DAY.out _ hH).mono ?_; rintro e0 W1 ⟨rfl, q1⟩
  have hH := hH.below q1
  refine hK.out _ _ hH (fun _ => ?_)
  clear hK q1
  try simp only [List.setIfInBounds_toArray, List.set_cons_zero, List.set_cons_succ]
  refine wpAnyH_take (i := 6) (v := .bool false) rfl (by kernel_rfl) (by kernel_rfl) (by kernel_rfl) (fun _ _ _ h => h) (.inl ⟨by rfl, ?_⟩) (by assumption) ?_
  · intro W hW; go_simp
  try simp only [List.getElem_toArray, List.getElem_cons_zero, List.getElem_cons_succ, Act.put, List.setIfInBounds_toArray, List.set_cons_zero, List.set_cons_succ]
  refine wpAnyH_done (by decide +kernel) ?_ _
  have SM2 := Lib.hid hH
  clear hH SM
  go_wp2_with fail
  have LS : Hid (w.heap.size + 1 < W1.heap.size) := Lib.hid (by have := SM2.out.sz; omega)
  have LW : Hid (w.heap.size ≤ W1.heap.size) := Lib.hid (by have := SM2.out.sz; omega)
  have SM3 := Lib.hid (SM2.out.below ((Below.refl _ W1).alloc (Nat.le_refl _) (.cells #[.int .i64 0] 3)))
  refine (ALL.out _ SM3.out).mono ?_; rintro e0 W2 ⟨gf1, lb1, T1, rfl, q1, -, -, -⟩
  have SM4 := Lib.hid (SM3.out.below q1)
  have NB : Hid (W2.heap[W1.heap.size]? = some (.cells #[.int .i64 0] 3 (0, 0))) := Lib.hid ((q1.block W1.heap.size (by simp)).trans (heap_alloc_new W1 _))
  clear SM2 SM3 q1
  go_wp2_with fail
  refine (ALL.out _ SM4.out).mono ?_; rintro e0 W3 ⟨gf, lb, T, rfl, q1, en, hT, tell⟩
  have SM5 := Lib.hid (SM4.out.below q1)
  have NB3 : Hid (W3.heap[W1.heap.size]? = some (.cells #[.int .i64 0] 3 (0, 0))) := Lib.hid ((q1.block W1.heap.size (Array.getElem?_eq_some_iff.1 NB.out).1).trans NB.out)
  have HTS : Hid (∀ k, T k → ¬ (k = W1.heap.size ∨ W3.heap.size ≤ k)) := Lib.hid (by
    intro k hk c
    obtain ⟨h1, h2⟩ := hT k hk
    have h3 := (Array.getElem?_eq_some_iff.1 NB.out).1
    rcases c with c | c
    · rcases h2 with h2 | h2
      · have := LF.out k h2
        have := LW.out
        omega
      · omega
    · omega)
  have TL := Lib.hid tell
  have EN := Lib.hid en
  clear SM4 NB q1 hT tell en
  go_wp2_with fail
  refine (wpIn_wide (n := 9)).1 ?_
  have hsz := SM5.out.sz
  have SZ3 : Hid (w.heap.size + 1 < W3.heap.size) := Lib.hid hsz
  refine wpIn_rangeFunc_ownH rfl (by decide) (gf := gf) (lb := lb) rfl trivial EN.out (TL.out W3 (fun _ k => k = W1.heap.size) 8 (Fr.refl _ _) (Still.const _ _) (fun k hk => by have := (Array.getElem?_eq_some_iff.1 NB3.out).1; omega) (fun k hk c => HTS.out k hk (.inl c)) (by decide)) (fun h k => h.trans k)
    (fun W l o o' hl ho hc _ => Kc.put (Still.const _ _) hl ho hc) (Below.refl _ _) (fun _ => rfl)
    (fun (pre : List OkCt) W => Sm w gr W ∧ W.heap[W1.heap.size]? = some (.cells #[.int .i64 (pre.length : Int)] 3 (0, 0)) ∧ vals pre <+: cs ∧ W3.heap.size ≤ W.heap.size)
    (fun _ pre _ => ¬ (vals pre <+: cs))
    (fun s A C row hs hg hr => ⟨hs.1.step (Fr.grown (S := fun k => W3.heap.size ≤ k) hg (fun k e => (hr k e).1)) (fun k hk => by omega), (hg.block W1.heap.size (Array.getElem?_eq_some_iff.1 hs.2.1).1 (fun e => by have h1 := (hr _ e.symm).1; have h2 := (Array.getElem?_eq_some_iff.1 NB3.out).1; omega)).trans hs.2.1, hs.2.2.1, Nat.le_trans hs.2.2.2 hg.size⟩)
    (fun _ _ _ _ _ hs _ _ => hs)
    ⟨SM5.out, NB3.out, List.nil_prefix, Nat.le_refl _⟩
    (fun x a' W => ∃ bx, W3.heap.size ≤ bx ∧ Cb W bx x.1 ∧ a' = { tmps := #[.pointer (some ⟨g, 0, none⟩), .pointer (some ⟨gr, 0, none⟩), undef, .pointer (some ⟨w.heap.size, 0, none⟩), .pointer (some ⟨w.heap.size + 1, 0, none⟩), .pointer (some ⟨W1.heap.size, 0, none⟩), .pointer (some ⟨bx, 0, none⟩), .pointer (some ⟨g, 0, none⟩), .int .u32 d, .pointer (some ⟨gr, 0, none⟩), .pointer (some ⟨gr, 0, none⟩), .pointer (some ⟨gr, 0, none⟩), .int .u32 d, .bool false, .pointer (some ⟨g, 0, none⟩), .func (.func gf1) #[] lb1, .bool false, .pointer (some ⟨g, 0, none⟩), .func (.func gf) #[] lb, .agg x.1.cells, undef, undef, undef, undef, undef, undef, undef, undef, undef, undef, undef, undef, undef, undef, undef, undef, undef, undef, undef, undef, undef, undef, undef, undef, undef, undef, undef, undef, undef, undef, undef, undef, undef], defers := [] })
    (fun x a' s A C row hs hg hr => by
      obtain ⟨bx, h1, h2, h3⟩ := hs
      refine ⟨bx, h1, ⟨(hg.block bx (Array.getElem?_eq_some_iff.1 h2.1).1 (fun e => ?_)).trans h2.1, h2.2⟩, h3⟩
      obtain ⟨_, ob, ho, hc⟩ := hr bx e.symm
      rw [h2.1] at ho
      cases ho
      cases hc) ?assign ?body ?done ?stop
  case assign =>
    rintro l pre x W KK ⟨h1, h2, h3, h4⟩ hK
    have Z := zero_ct
    have HC := Lib.hid (cb_new W (x := zeroCt) rfl)
    have HX := Lib.hid x.2
    refine region_in rfl (fun ⟨_, _, h⟩ => h) ?_
    go_wp2_with ((with_reducible refine wl_store_ct x.1 W.heap.size HC.out HX.out.sp.len ?_ ?_ ?_); rfl; rfl)
    have q : Below W.heap.size W ((W.alloc (.cells zeroCt.cells 45)).setRow W.heap.size x.1.cells) := below_row' ((Below.refl _ W).alloc (Nat.le_refl _) _) (Nat.le_refl _)
    have hsW := (Array.getElem?_eq_some_iff.1 h1.br).1
    refine hK _ _ ⟨q.size, fun k o _ hk _ => (q.block k (Array.getElem?_eq_some_iff.1 hk).1).trans hk⟩ (Kc.below (Still.const _ _) h4 q) ⟨h1.below q, (q.block _ (Array.getElem?_eq_some_iff.1 h2).1).trans h2, h3, Nat.le_trans h4 q.size⟩ ⟨W.heap.size, h4, cb_set HC.out HX.out.sp.len, rfl⟩
  case body =>
    rintro l pre x a' W - - ⟨h1, h2, h3, h4⟩ ⟨bx, hb, hbx, rfl⟩ hlen
    obtain ⟨y, hy⟩ : ∃ y, cs[pre.length]? = some y := ⟨cs[pre.length], List.getElem?_eq_getElem hlen⟩
    have HY : Hid (cs[pre.length]? = some y) := Lib.hid hy
    have HRW := Lib.hid (HR.out W h1)
    obtain ⟨bv, cv, rfl⟩ := HRW.out.slot hlen
    have YOK := Lib.hid (HRW.out.ok y (List.mem_of_getElem? hy))
    have HX := Lib.hid x.2
    have HBX := Lib.hid hbx
    have H1 := Lib.hid h1
    have H2 := Lib.hid h2
    have H3 := Lib.hid h3
    have H4 := Lib.hid h4
    have cn : W.cell? ⟨W1.heap.size, 0, none⟩ = some (.int .i64 (pre.length : Int)) := by rw [cell_of_row _ _ _ _ _ _ h2]; rfl
    have cp := h1.c0
    have cr := HRW.out.c1
    have RG := Lib.hid (HRW.out.rng hy)
    have hge : decide ((cs.length : Int) ≤ (pre.length : Int)) = false := decide_eq_false (by omega)
    have hi : (pre.length : Int) < (cs.length : Int) := by omega
    have h16 : pre.length < 16 := Nat.lt_of_lt_of_le hlen HRW.out.le
    clear h1 h2 h3 h4 hbx hy
    obtain ⟨b, hbq⟩ : ∃ b, eqB x.1 y = b := ⟨_, rfl⟩
    refine wpIn_block ?_
    apply wpIn_seq_k; intro KB hKB
    apply wpIn_seq_k; intro KA hKA
    refine region_held_in (S := fun U => U = W.drew) rfl (fun ⟨_, _, h⟩ => h) (by kernel_rfl) rfl (fun hH => ?_)
    refine wpAnyH_take (i := 0) (v := .int .i64 (pre.length : Int)) rfl (by kernel_rfl) (by kernel_rfl) (by kernel_rfl) (fun _ _ _ h => h) (.inl ⟨by rfl, ?_⟩) (by assumption) ?_
    · intro W hW; subst hW; go_simp
    try simp only [List.getElem_toArray, List.getElem_cons_zero, Act.put, List.setIfInBounds_toArray, List.set_cons_zero, List.set_cons_succ]
    refine wpAnyH_take (i := 1) (v := .pointer (some ⟨gr, 0, none⟩)) rfl (by kernel_rfl) (by kernel_rfl) (by kernel_rfl) (fun _ _ _ h => h) (.inl ⟨by rfl, ?_⟩) (by assumption) ?_
    · intro W hW; subst hW; go_simp
    try simp only [List.getElem_toArray, List.getElem_cons_zero, List.getElem_cons_succ, Act.put, List.setIfInBounds_toArray, List.set_cons_zero, List.set_cons_succ]
    refine wpAnyH_take (i := 2) (v := .pointer (some ⟨gr, 0, none⟩)) rfl (by kernel_rfl) (by kernel_rfl) (by kernel_rfl) (fun _ _ _ h => h) (.inl ⟨by rfl, ?_⟩) (by assumption) ?_
    · intro W hW; subst hW; go_simp
    try simp only [List.getElem_toArray, List.getElem_cons_zero, List.getElem_cons_succ, Act.put, List.setIfInBounds_toArray, List.set_cons_zero, List.set_cons_succ]
    refine wpAnyH_take (i := 3) (v := .pointer (some ⟨gr, 1, none⟩)) rfl (by kernel_rfl) (by kernel_rfl) (by kernel_rfl) (fun _ _ _ h => h) (.inl ⟨by rfl, ?_⟩) (by assumption) ?_
    · intro W hW; subst hW; go_simp
    try simp only [List.getElem_toArray, List.getElem_cons_zero, List.getElem_cons_succ, Act.put, List.setIfInBounds_toArray, List.set_cons_zero, List.set_cons_succ]
    refine wpAnyH_take (i := 4) (v := .slice (some ⟨bv, 0, none⟩) cs.length cv) rfl (by kernel_rfl) (by kernel_rfl) (by kernel_rfl) (fun _ _ _ h => h) (.inl ⟨by rfl, ?_⟩) (by assumption) ?_
    · intro W hW; subst hW; go_simp
    try simp only [List.getElem_toArray, List.getElem_cons_zero, List.getElem_cons_succ, Act.put, List.setIfInBounds_toArray, List.set_cons_zero, List.set_cons_succ]
    refine wpAnyH_take (i := 5) (v := .int .i64 (cs.length : Int)) rfl (by kernel_rfl) (by kernel_rfl) (by kernel_rfl) (fun _ _ _ h => h) (.inl ⟨by rfl, ?_⟩) (by assumption) ?_
    · intro W hW; subst hW; go_simp
    try simp only [List.getElem_toArray, List.getElem_cons_zero, List.getElem_cons_succ, Act.put, List.setIfInBounds_toArray, List.set_cons_zero, List.set_cons_succ]
    refine wpAnyH_take (i := 6) (v := .bool false) rfl (by kernel_rfl) (by kernel_rfl) (by kernel_rfl) (fun _ _ _ h => h) (.inl ⟨by rfl, ?_⟩) (by assumption) ?_
    · intro W hW; subst hW; go_simp
    try simp only [List.getElem_toArray, List.getElem_cons_zero, List.getElem_cons_succ, Act.put, List.setIfInBounds_toArray, List.set_cons_zero, List.set_cons_succ]
    refine wpAnyH_take (i := 7) (v := .bool false) rfl (by kernel_rfl) (by kernel_rfl) (by kernel_rfl) (fun _ _ _ h => h) (.inl ⟨by rfl, ?_⟩) (by assumption) ?_
    · intro W hW; subst hW; go_simp
    try simp only [List.getElem_toArray, List.getElem_cons_zero, List.getElem_cons_succ, Act.put, List.setIfInBounds_toArray, List.set_cons_zero, List.set_cons_succ]
    refine wpAnyH_take (i := 8) (v := .agg x.1.cells) rfl (by kernel_rfl) (by kernel_rfl) (by kernel_rfl) (fun _ _ _ h => h) (yields_load_ct (by rfl) (.tmp 6) rfl bx rfl (fun U hU => by subst hU; exact HBX.out)) (by assumption) ?_
    try simp only [List.getElem_toArray, List.getElem_cons_zero, List.getElem_cons_succ, Act.put, List.setIfInBounds_toArray, List.set_cons_zero, List.set_cons_succ]
    refine wpAnyH_take (i := 9) (v := .pointer (some ⟨gr, 0, none⟩)) rfl (by kernel_rfl) (by kernel_rfl) (by kernel_rfl) (fun _ _ _ h => h) (.inl ⟨by rfl, ?_⟩) (by assumption) ?_
    · intro W hW; subst hW; go_simp
    try simp only [List.getElem_toArray, List.getElem_cons_zero, List.getElem_cons_succ, Act.put, List.setIfInBounds_toArray, List.set_cons_zero, List.set_cons_succ]
    refine wpAnyH_take (i := 10) (v := .pointer (some ⟨gr, 0, none⟩)) rfl (by kernel_rfl) (by kernel_rfl) (by kernel_rfl) (fun _ _ _ h => h) (.inl ⟨by rfl, ?_⟩) (by assumption) ?_
    · intro W hW; subst hW; go_simp
    try simp only [List.getElem_toArray, List.getElem_cons_zero, List.getElem_cons_succ, Act.put, List.setIfInBounds_toArray, List.set_cons_zero, List.set_cons_succ]
    refine wpAnyH_take (i := 11) (v := .pointer (some ⟨gr, 1, none⟩)) rfl (by kernel_rfl) (by kernel_rfl) (by kernel_rfl) (fun _ _ _ h => h) (.inl ⟨by rfl, ?_⟩) (by assumption) ?_
    · intro W hW; subst hW; go_simp
    try simp only [List.getElem_toArray, List.getElem_cons_zero, List.getElem_cons_succ, Act.put, List.setIfInBounds_toArray, List.set_cons_zero, List.set_cons_succ]
    refine wpAnyH_take (i := 12) (v := .slice (some ⟨bv, 0, none⟩) cs.length cv) rfl (by kernel_rfl) (by kernel_rfl) (by kernel_rfl) (fun _ _ _ h => h) (.inl ⟨by rfl, ?_⟩) (by assumption) ?_
    · intro W hW; subst hW; go_simp
    try simp only [List.getElem_toArray, List.getElem_cons_zero, List.getElem_cons_succ, Act.put, List.setIfInBounds_toArray, List.set_cons_zero, List.set_cons_succ]
    refine wpAnyH_take (i := 13) (v := .int .i64 (pre.length : Int)) rfl (by kernel_rfl) (by kernel_rfl) (by kernel_rfl) (fun _ _ _ h => h) (.inl ⟨by rfl, ?_⟩) (by assumption) ?_
    · intro W hW; subst hW; go_simp
    try simp only [List.getElem_toArray, List.getElem_cons_zero, List.getElem_cons_succ, Act.put, List.setIfInBounds_toArray, List.set_cons_zero, List.set_cons_succ]
    refine wpAnyH_take (i := 14) (v := .pointer (some ⟨bv, pre.length * 27, none⟩)) rfl (by kernel_rfl) (by kernel_rfl) (by kernel_rfl) (fun _ _ _ h => h) (.inl ⟨by rfl, ?_⟩) (by assumption) ?_
    · intro W hW; subst hW; go_simp
    try simp only [List.getElem_toArray, List.getElem_cons_zero, List.getElem_cons_succ, Act.put, List.setIfInBounds_toArray, List.set_cons_zero, List.set_cons_succ]
    refine wpAnyH_take (i := 15) (v := .agg y.cells) rfl (by kernel_rfl) (by kernel_rfl) (by kernel_rfl) (fun _ _ _ h => h) (yields_load_ctm (by rfl) (.tmp 34) rfl bv (pre.length * 27) rfl YOK.out.sp.len (fun U hU => by subst hU; exact RG.out)) (by assumption) ?_
    try simp only [List.getElem_toArray, List.getElem_cons_zero, List.getElem_cons_succ, Act.put, List.setIfInBounds_toArray, List.set_cons_zero, List.set_cons_succ]
    refine wpAnyH_take (i := 16) (v := .bool !b) rfl (by kernel_rfl) (by kernel_rfl) (by kernel_rfl) (fun _ _ _ h => h) (by rw [← hbq]; exact yields_neq_ct (by rfl) (.tmp 28) (.tmp 35) rfl HX.out YOK.out rfl rfl) (by assumption) ?_
    try simp only [List.getElem_toArray, List.getElem_cons_zero, List.getElem_cons_succ, Act.put, List.setIfInBounds_toArray, List.set_cons_zero, List.set_cons_succ]
    refine wpAnyH_take (i := 17) (v := .bool !b) rfl (by kernel_rfl) (by kernel_rfl) (by kernel_rfl) (fun _ _ _ h => h) (.inl ⟨by rfl, ?_⟩) (by assumption) ?_
    · intro W hW; subst hW; go_simp
    try simp only [List.getElem_toArray, List.getElem_cons_zero, List.getElem_cons_succ, Act.put, List.setIfInBounds_toArray, List.set_cons_zero, List.set_cons_succ]
    refine wpAnyH_done (by decide +kernel) ?_ _
    refine hKA _ _ ?_
    have cn' : W.drew.cell? ⟨W1.heap.size, 0, none⟩ = some (.int .i64 (pre.length : Int)) := cn
    have hfn : W.drew.frozen? ⟨W1.heap.size, 0, none⟩ = false := by have := H2.out; show W.frozen? _ = false; simp [World.frozen?, this]
    have cr' : W.drew.cell? ⟨w.heap.size + 1, 0, none⟩ = some (.bool false) := H1.out.c1
    have hfr : W.drew.frozen? ⟨w.heap.size + 1, 0, none⟩ = false := by have := H1.out.br; show W.frozen? _ = false; simp [World.frozen?, this]
    have FD : Hid (Fr (fun k => k = W1.heap.size ∨ W3.heap.size ≤ k) W W.drew) := Lib.hid ⟨(Below.refl 0 W).drew, fun _ _ _ => rfl⟩
    cases b
    · refine wpIn_cond_true rfl ?_
      apply wpIn_seq_k; intro K9 h9
      refine region_in rfl (fun ⟨_, _, h⟩ => h) ?_
      go_wp2
      apply wpIn_ret
      refine ⟨((KeepsOthers.drew W).trans (KeepsOthers.setCell _ _ _)).from _, fun hpre => ?_⟩
      obtain ⟨rest, hr⟩ := hpre
      have e := HY.out
      rw [← hr, vals_snoc, List.append_assoc, ← vals_len, List.getElem?_append_right (Nat.le_refl _)] at e
      simp at e
      rw [e, eqB_yes] at hbq
      cases hbq
    · refine wpIn_cond_false rfl ?_
      apply wpIn_skip
      refine hKB _ _ ?_
      refine region_in rfl (fun ⟨_, _, h⟩ => h) ?_
      go_wp2
      have exy : x.1 = y := by
        apply Classical.byContradiction
        intro c
        rw [eqB_no c] at hbq
        cases hbq
      have FS : ∀ u, Fr (fun k => k = W1.heap.size ∨ W3.heap.size ≤ k) W (W.setCell ⟨W1.heap.size, 0, none⟩ u).drew := fun u => (Fr.set (S := fun k => k = W1.heap.size ∨ W3.heap.size ≤ k) (p := ⟨W1.heap.size, 0, none⟩) (.inl rfl) u).same ⟨(Below.refl 0 _).drew, fun _ _ _ => rfl⟩
      refine ⟨((KeepsOthers.setCell W ⟨W1.heap.size, 0, none⟩ _).trans (KeepsOthers.drew _)).from _, Kc.fr ((Fr.set (S := fun k => k = W1.heap.size) (p := ⟨W1.heap.size, 0, none⟩) rfl _).same ⟨(Below.refl 0 _).drew, fun _ _ _ => rfl⟩), H1.out.step (FS _) (fun k hk => ?_), ?_, ?_, ?_⟩
      · have := LS.out
        have := H1.out.sz
        have := H4.out
        rcases hk with rfl | hk
        · omega
        · omega
      · have := heap_setCell_same W W1.heap.size 0 _ _ (.int .i64 ((pre.length : Int) + 1)) H2.out
        rw [List.length_append, Int.natCast_add]
        exact this
      · obtain ⟨rest, hr⟩ := H3.out
        have e := HY.out
        rw [← hr, ← vals_len, List.getElem?_append_right (Nat.le_refl _)] at e
        simp at e
        obtain ⟨rest2, hr2⟩ : ∃ r2, rest = y :: r2 := by cases rest with | nil => simp at e | cons a r2 => simp at e; exact ⟨r2, by rw [e]⟩
        exact ⟨rest2, by rw [vals_snoc, ← hr, hr2, ← exy]; simp⟩
      · exact Nat.le_trans H4.out (FS (.int .i64 ((pre.length : Int) + 1))).size
  case done =>
    rintro D ys W hD hS ⟨h1, h2, h3, h4⟩ hK
    have hyl : (ys.length : Int) = (cs.length : Int) := by rw [← hS, vals_len]
    rw [hyl] at h2
    have SM6 := Lib.hid h1
    have NB6 := Lib.hid h2
    have HKD := Lib.hid hK
    have HDG : Hid (W3.heap.size ≤ D) := Lib.hid hD
    clear h1 h2 h3 h4 hK hD hS hyl
    go_wp2_with fail
    refine (ALL.out _ SM6.out).mono ?_; rintro e0 W4 ⟨gf3, lb3, T3, rfl, q1, -, -, -⟩
    have SM7 := Lib.hid (SM6.out.below q1)
    have NB7 : Hid (W4.heap[W1.heap.size]? = some (.cells #[.int .i64 (cs.length : Int)] 3 (0, 0))) := Lib.hid ((q1.block _ (Array.getElem?_eq_some_iff.1 NB6.out).1).trans NB6.out)
    have HK7 : Hid (W4.heap[D]? = some (.deferred (some []))) := Lib.hid ((q1.block _ (Array.getElem?_eq_some_iff.1 HKD.out).1).trans HKD.out)
    clear SM6 NB6 HKD q1
    go_wp2_with fail
    refine (ALL.out _ SM7.out).mono ?_; rintro e0 W5 ⟨gf4, lb4, T4, rfl, q1, en4, hT4, tell4⟩
    have SM8 := Lib.hid (SM7.out.below q1)
    have NB8 : Hid (W5.heap[W1.heap.size]? = some (.cells #[.int .i64 (cs.length : Int)] 3 (0, 0))) := Lib.hid ((q1.block _ (Array.getElem?_eq_some_iff.1 NB7.out).1).trans NB7.out)
    have HK8 : Hid (W5.heap[D]? = some (.deferred (some []))) := Lib.hid ((q1.block _ (Array.getElem?_eq_some_iff.1 HK7.out).1).trans HK7.out)
    have TL4 := Lib.hid tell4
    have EN4 := Lib.hid en4
    have HT4 := Lib.hid hT4
    clear SM7 NB7 HK7 q1 en4 hT4 tell4
    go_wp2_with fail
    refine (wpIn_wide (n := 9)).1 ?_
    have hsz8 := SM8.out.sz
    have hDl : D < W5.heap.size := (Array.getElem?_eq_some_iff.1 HK8.out).1
    have hnl : W1.heap.size < W5.heap.size := (Array.getElem?_eq_some_iff.1 NB8.out).1
    refine wpIn_rangeFunc_ownG rfl (by decide) (gf := gf4) (lb := lb4) rfl trivial EN4.out (TL4.out W5 (fun _ _ => False) 8 (Fr.refl _ _) (Still.const _ _) (fun k hk => hk.elim) (fun k hk c => c) (by decide)) (fun h k => h.trans k)
      (fun W l o o' hl ho hc _ => Kc.put (Still.const _ _) hl ho hc) (Below.refl _ _) (fun _ => rfl)
      (fun (_ : List OkCt) W => Fr (fun k => W5.heap.size ≤ k) W5 W)
      (fun c _ W => c = .exit 2 ∧ Fr (fun k => W5.heap.size ≤ k) W5 W)
      (fun s A C row hs hg hr => hs.same (Fr.grown hg (fun k e => (hr k e).1)))
      (fun _ s A C row hs hg hr => ⟨hs.1, hs.2.same (Fr.grown hg (fun k e => (hr k e).1))⟩)
      (Fr.refl _ _)
      (fun x => { tmps := #[.pointer (some ⟨g, 0, none⟩), .pointer (some ⟨gr, 0, none⟩), undef, .pointer (some ⟨w.heap.size, 0, none⟩), .pointer (some ⟨w.heap.size + 1, 0, none⟩), .pointer (some ⟨W1.heap.size, 0, none⟩), undef, .pointer (some ⟨g, 0, none⟩), .int .u32 d, .pointer (some ⟨gr, 0, none⟩), .pointer (some ⟨gr, 0, none⟩), .pointer (some ⟨gr, 0, none⟩), .int .u32 d, .bool false, .pointer (some ⟨g, 0, none⟩), .func (.func gf1) #[] lb1, .bool false, .pointer (some ⟨g, 0, none⟩), .func (.func gf) #[] lb, undef, undef, undef, undef, undef, undef, undef, undef, undef, undef, undef, undef, undef, undef, undef, undef, undef, undef, undef, undef, undef, .pointer (some ⟨g, 0, none⟩), .func (.func gf3) #[] lb3, .bool false, .pointer (some ⟨g, 0, none⟩), .func (.func gf4) #[] lb4, .agg x.1.cells, undef, undef, undef, undef, undef, undef, undef], defers := [] }) ?assign2 ?body2 ?done2 ?stop2
    case assign2 =>
      intro l x W KK hK
      gi_wp2
      exact hK
    case body2 =>
      intro l pre x W hI _
      refine wpIn_block ?_
      apply wpIn_exit
      exact ⟨KeepsFrom.refl _ _, rfl, hI⟩
    case done2 =>
      intro D2 ys2 W hD2 hS2 hF hK2
      have SM9 := Lib.hid (SM8.out.step hF (fun k hk => by omega))
      have NB9 := Lib.hid ((hF.at' _ hnl (by omega)).trans NB8.out)
      have HK9 := Lib.hid ((hF.at' _ hDl (by omega)).trans HK8.out)
      have HKE := Lib.hid hK2
      have HDE : Hid (W5.heap.size ≤ D2) := Lib.hid hD2
      have FW := Lib.hid hF
      have cn : W.cell? ⟨W1.heap.size, 0, none⟩ = some (.int .i64 (cs.length : Int)) := by rw [cell_of_row _ _ _ _ _ _ NB9.out]; rfl
      have cp := SM9.out.c0
      have HRW := Lib.hid (HR.out W SM9.out)
      obtain ⟨Av, cv, rfl⟩ := HRW.out.one
      have cr := HRW.out.c1
      have cb := SM9.out.c1
      have fb : W.frozen? ⟨w.heap.size + 1, 0, none⟩ = false := by have := SM9.out.br; simp [World.frozen?, this]
      clear hF hK2 hD2
      have heq : ((cs.length : Int) == (cs.length : Int)) = true := by simp
      go_wp2_with fail
      go_region
      all_goals
        go_wp2_with fail
        have hsz9 := SM9.out.sz
        have hDg := HDG.out
        have hDe := HDE.out
        have hsz3 := SZ3.out
        have BR : (W.setCell ⟨w.heap.size + 1, 0, none⟩ (.bool true)).drew.heap[w.heap.size + 1]? = some (.cells #[.bool true] 4 (0, 0)) := heap_setCell_same W (w.heap.size + 1) 0 _ _ (.bool true) SM9.out.br
        refine ret_marks [D2, D] rfl ?_ ?_ (ret_cellb rfl _ _ (w.heap.size + 1) true rfl ?_) ⟨rfl, ?_⟩
        · simp; omega
        · intro E hE
          simp only [List.mem_cons, List.not_mem_nil, or_false] at hE
          rcases hE with rfl | rfl
          · exact (heap_setCell_other W _ _ _ (by show _ ≠ w.heap.size + 1; omega)).trans HKE.out
          · exact (heap_setCell_other W _ _ _ (by show _ ≠ w.heap.size + 1; omega)).trans HK9.out
        · rw [cell_of_row _ _ _ _ _ _ ((unmark_other [D2, D] _ (w.heap.size + 1) (by simp; omega)).trans BR)]; rfl
        · refine unmark_below [D2, D] _ _ _ ?_ (by show w.heap.size ≤ (W.setCell _ _).heap.size; simp; omega) ((SM9.out.fr.out.setCell (by show w.heap.size ≤ w.heap.size + 1; omega) _).drew)
          intro E hE
          simp only [List.mem_cons, List.not_mem_nil, or_false] at hE
          rcases hE with rfl | rfl <;> omega
    case stop2 =>
      rintro D2 c2 pre2 W hD2 hS2 ⟨rfl, hF⟩ hK2
      apply wpIn_exit
      have SM9 := Lib.hid (SM8.out.step hF (fun k hk => by omega))
      have NB9 := Lib.hid ((hF.at' _ hnl (by omega)).trans NB8.out)
      have HK9 := Lib.hid ((hF.at' _ hDl (by omega)).trans HK8.out)
      have HKE := Lib.hid hK2
      have HDE : Hid (W5.heap.size ≤ D2) := Lib.hid hD2
      have FW := Lib.hid hF
      have cn : W.cell? ⟨W1.heap.size, 0, none⟩ = some (.int .i64 (cs.length : Int)) := by rw [cell_of_row _ _ _ _ _ _ NB9.out]; rfl
      have cp := SM9.out.c0
      have HRW := Lib.hid (HR.out W SM9.out)
      obtain ⟨Av, cv, rfl⟩ := HRW.out.one
      have cr := HRW.out.c1
      have cb := SM9.out.c1
      have fb : W.frozen? ⟨w.heap.size + 1, 0, none⟩ = false := by have := SM9.out.br; simp [World.frozen?, this]
      clear hF hK2 hD2
      have heq : ((cs.length : Int) == (cs.length : Int)) = true := by simp
      go_wp2_with fail
      go_region
      all_goals
        go_wp2_with fail
        have hsz9 := SM9.out.sz
        have hDg := HDG.out
        have hDe := HDE.out
        have hsz3 := SZ3.out
        have BR : (W.setCell ⟨w.heap.size + 1, 0, none⟩ (.bool true)).drew.heap[w.heap.size + 1]? = some (.cells #[.bool true] 4 (0, 0)) := heap_setCell_same W (w.heap.size + 1) 0 _ _ (.bool true) SM9.out.br
        refine ret_marks [D2, D] rfl ?_ ?_ (ret_cellb rfl _ _ (w.heap.size + 1) true rfl ?_) ⟨rfl, ?_⟩
        · simp; omega
        · intro E hE
          simp only [List.mem_cons, List.not_mem_nil, or_false] at hE
          rcases hE with rfl | rfl
          · exact (heap_setCell_other W _ _ _ (by show _ ≠ w.heap.size + 1; omega)).trans HKE.out
          · exact (heap_setCell_other W _ _ _ (by show _ ≠ w.heap.size + 1; omega)).trans HK9.out
        · rw [cell_of_row _ _ _ _ _ _ ((unmark_other [D2, D] _ (w.heap.size + 1) (by simp; omega)).trans BR)]; rfl
        · refine unmark_below [D2, D] _ _ _ ?_ (by show w.heap.size ≤ (W.setCell _ _).heap.size; simp; omega) ((SM9.out.fr.out.setCell (by show w.heap.size ≤ w.heap.size + 1; omega) _).drew)
          intro E hE
          simp only [List.mem_cons, List.not_mem_nil, or_false] at hE
          rcases hE with rfl | rfl <;> omega
  case stop =>
    rintro D c pre W hD hS hx hK
    exact absurd hS hx
end Go.Proofs.Ytejhnfkljfdejaa
