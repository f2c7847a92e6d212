/- SettleIdle, walked (by genStr.py). -/
import Derived.Laws.Tables
import Derived.Test.YtlbekdpmfjhjhaaHStk
namespace Go.Proofs.Ytlbekdpmfjhjhaa
open Go.RowKit Go.Shelf
set_option linter.unusedVariables false
set_option linter.unusedSimpArgs false

theorem backS_at : ∀ {l : List Du} {bs : List Sd} {j : Nat} {d : Du}, l[j]? = some d → (mv d = false → (backS l bs)[j]? = some ⟨d.ac, d.ca, false, 0⟩) ∧ (mv d = true → (backS l bs)[j]? = some (bs.getD ((l.take j).filter mv).length ⟨0, 0, false, 0⟩))
  | d0 :: l, bs, 0, d, h => by
    simp only [List.getElem?_cons_zero, Option.some.injEq] at h
    subst h
    refine ⟨fun e => ?_, fun e => ?_⟩
    · rw [backS, if_neg (by rw [e]; decide)]; rfl
    · rw [backS, if_pos e]
      cases bs <;> rfl
  | d0 :: l, bs, j + 1, d, h => by
    rw [List.getElem?_cons_succ] at h
    cases e0 : mv d0
    · have ih := backS_at (bs := bs) h
      rw [backS, if_neg (by rw [e0]; decide), List.getElem?_cons_succ, List.take_succ_cons, List.filter_cons_of_neg (by rw [e0]; decide)]
      exact ih
    · have ih := backS_at (bs := bs.tail) h
      rw [backS, if_pos e0, List.getElem?_cons_succ, List.take_succ_cons, List.filter_cons_of_pos e0, List.length_cons]
      refine ⟨ih.1, fun e => ?_⟩
      rw [ih.2 e]
      cases bs with
      | nil => simp
      | cons b bs => simp
theorem mv_lt {l : List Du} {j : Nat} {d : Du} (h : l[j]? = some d) (e : mv d = true) : ((l.take j).filter mv).length < (l.filter mv).length := by
  have hj := (List.getElem?_eq_some_iff.1 h).1
  have hd : l[j] = d := by rw [List.getElem?_eq_getElem hj] at h; cases h; rfl
  have s : l = l.take j ++ d :: l.drop (j + 1) := by
    rw [← hd, List.getElem_cons_drop, List.take_append_drop]
  have : (l.filter mv).length = ((l.take j).filter mv).length + ((d :: l.drop (j + 1)).filter mv).length := by
    rw [← List.length_append, ← List.filter_append, ← s]
  rw [this, List.filter_cons_of_pos e, List.length_cons]
  omega
theorem take_snoc13r {α : Type} {l : List α} {j : Nat} {x : α} (hx : l[j]? = some x) : l.take (j + 1) = l.take j ++ [x] := by
  have hj := (List.getElem?_eq_some_iff.1 hx).1
  rw [List.take_succ_eq_append_getElem hj]
  rw [List.getElem?_eq_getElem hj] at hx
  cases hx; rfl
theorem mv_snoc {l : List Du} {j : Nat} {d : Du} (h : l[j]? = some d) : (l.take (j + 1)).filter mv = if mv d then (l.take j).filter mv ++ [d] else (l.take j).filter mv := by
  rw [take_snoc13r h, List.filter_append]
  cases e : mv d
  · rw [List.filter_cons_of_neg (by rw [e]; decide)]; simp
  · rw [List.filter_cons_of_pos e]; simp
theorem May.idle0 {f : Int} {l : List Du} (h : May f l) {j : Nat} {d : Du} (hd : l[j]? = some d) (e : Go.Proofs.Ytlbekdpmfjhjhaa.mv d = false) : (outS f l)[j]? = some ⟨d.ac, d.ca, false, 0⟩ := by
  rw [h.idle]
  exact (backS_at hd).1 e
theorem May.idle1 {f : Int} {l : List Du} (h : May f l) {j : Nat} {d : Du} (hd : l[j]? = some d) (e : Go.Proofs.Ytlbekdpmfjhjhaa.mv d = true) : ∃ x, (outS f l)[j]? = some x ∧ (outS f (l.filter Go.Proofs.Ytlbekdpmfjhjhaa.mv))[((l.take j).filter Go.Proofs.Ytlbekdpmfjhjhaa.mv).length]? = some x := by
  have hl : ((l.take j).filter Go.Proofs.Ytlbekdpmfjhjhaa.mv).length < (outS f (l.filter Go.Proofs.Ytlbekdpmfjhjhaa.mv)).length := by rw [out_len]; exact mv_lt hd e
  refine ⟨(outS f (l.filter Go.Proofs.Ytlbekdpmfjhjhaa.mv))[((l.take j).filter Go.Proofs.Ytlbekdpmfjhjhaa.mv).length], ?_, List.getElem?_eq_getElem hl⟩
  rw [h.idle, (backS_at hd).2 e, List.getD, List.getElem?_eq_getElem hl]
  rfl
theorem May.okS {f : Int} {l : List Du} (h : May f l) (hk : ∀ d, d ∈ l → d.ok) {j : Nat} {x : Sd} (hx : (outS f l)[j]? = some x) : x.ok := by
  have hl : j < l.length := by have := (List.getElem?_eq_some_iff.1 hx).1; rwa [out_len] at this
  obtain ⟨c, e, h0, h1, h2, h3, h4, _⟩ := h.kept (List.getElem?_eq_getElem hl)
  rw [hx] at e
  cases e
  have hi := h.ins l[j] (List.getElem_mem hl)
  have ho := hk l[j] (List.getElem_mem hl)
  unfold In at hi
  unfold wt at h1
  refine ⟨ho.ac, ?_, ?_⟩
  · unfold I64
    by_cases n : l[j].ca + l[j].v < 0
    · rw [h3 n]; omega
    · rw [h4 n]; split at h1 <;> omega
  · show I64 c
    unfold I64
    split at h1 <;> omega
theorem three13 {α : Type} {l : Array α} (h : l.size = 3) : ∃ a b c, l = #[a, b, c] := by
  obtain ⟨l⟩ := l
  match l, h with
  | [a, b, c], _ => exact ⟨a, b, c, rfl⟩
theorem fill_du (o : Du) (z : Value) (h : z.cells.size = ED.N) : Instr.fill (fun i => some (i * ED.N, ED.N)) ((Array.range (1 * ED.N)).map (z.cells[· % z.cells.size]!)) [(0, .agg (ED.cells o).toArray)] = some (ED.cells o).toArray := by
  obtain ⟨a, b, c, hz⟩ := three13 (show z.cells.size = 3 from h)
  rw [hz]
  obtain ⟨ac, ca, v⟩ := o
  kernel_rfl
theorem built_sd13 (a c : Int) : Program.built Try.prog 34 [(0, .int .u32 a), (1, .int .i64 c)] = some (ESd.cells ⟨a, c, false, 0⟩).toArray := by kernel_rfl
theorem yields_build_sd13 {ops : Array Oper} {S : World → Prop} {o : Oper} {a : Act} (hw : Region.wanted o (yielded ops a.tmps) = true) (x y : Operand) (ho : o.op = .build 34 #[(0, x), (1, y)]) {u v : Int} (hx : a.eval x = .int .u32 u) (hy : a.eval y = .int .i64 v) :
    YieldsIf Try.prog ops S o (.agg (ESd.cells ⟨u, v, false, 0⟩).toArray) a := .inl ⟨hw, fun w _ => by
  have e : (#[(0, x), (1, y)].map fun (i, x) => (i, a.eval x)).toList = [(0, Value.int .u32 u), (1, .int .i64 v)] := by simp [hx, hy]
  unfold execOp
  simp only [ho, Sem.run_bind, run_build w 34 _ _ (by rw [e]; exact built_sd13 u v), Result.andThen_ok, Sem.run_pure]⟩

set_option maxRecDepth 100000 in
set_option maxHeartbeats 16000000 in
theorem idle13_all (K : SettleK) (f : Int) (A : Option Addr) (len cap : Nat) (l : List Du) (w : World) (hf : I64 f) (hr : ED.Rd w A len l) (hk : ∀ d, d ∈ l → d.ok) (hl : len ≤ maxLen) : Calls Try.prog 6 #[.int .i64 f, .slice A len cap] w fun e w' => e = .returned (.bool true) ∧ Below w.heap.size w w' := by
  have HR := Lib.hid fun (W : World) (q : Below w.heap.size w W) => (show ED.Rd W A len l from grd_below hr q (Nat.le_refl _))
  have KN := Lib.hid fun W => known13 K W
  have NL := Lib.hid hr.1
  have HK := Lib.hid hk
  have SE := Lib.hid (K.settle f A len cap l w hf hr hk hl)
  have SM := Lib.hid fun (A' : Option Addr) (n c : Nat) (W : World) (r : ED.Rd W A' n (l.filter mv)) (hn : n ≤ maxLen) => K.settle f A' n c (l.filter mv) W hf r (fun d hd => hk d (List.mem_filter.1 hd).1) hn
  unfold maxLen at hl
  clear K hr hk
  by_cases he : errS f l = 0
  case neg =>
    obtain ⟨E, hE⟩ : ∃ E, errS f l = E := ⟨_, rfl⟩
    rw [hE] at he
    have d5 : (E != 0) = true := by simp [he]
    go_enter Try.func6, Try.ntmps6
    go_wp2_with fail
    refine SE.out.mono ?_; rintro e w1 t1
    obtain ⟨A1, k1, rfl, q1⟩ := told_bad t1 hE he
    have Q1 := Lib.hid q1
    clear q1 t1 hE he
    go_wp2_with fail
    refine (KN.out _).mono ?_; rintro e w8 ⟨rfl, q8⟩
    have Q8 := Lib.hid (Q1.out.trans (q8.mono Q1.out.size))
    clear q8
    go_wp2_with fail
    go_ret
    exact ⟨rfl, Q8.out⟩
  have M := Lib.hid (may_of he)
  have HE := Lib.hid he
  have HE2 : Hid (errS f (l.filter mv) = 0) := Lib.hid (errS_ok.2 ⟨M.out.mv.len, M.out.mv.fund, M.out.mv.ris, M.out.mv.sum⟩)
  have FM := Lib.hid M.out.left_mv.2
  have LE := Lib.hid M.out.len
  clear he
  go_enter Try.func6, Try.ntmps6
  go_wp2_with fail
  refine SE.out.mono ?_; rintro e w1 t1
  obtain ⟨A1, k1, rfl, r1, q1⟩ := told_ok t1 HE.out NL.out
  have R1 := Lib.hid fun (W : World) (q : Below w1.heap.size w1 W) => (show ESd.Rd W A1 len (outS f l) from grd_below r1 q (Nat.le_refl _))
  have Q1 := Lib.hid q1
  obtain ⟨F, hF⟩ : ∃ x, fundS f l = x := ⟨_, rfl⟩
  rw [hF] at FM ⊢
  clear r1 q1 t1 SE hF
  go_wp2_with fail
  go_loopw [8, 27] (fun va' i wr => ∃ (k : Nat) (va : Value), k ≤ len ∧ i = .int .i64 k ∧ va = va' ∧ ED.Own 30 wr w1.heap.size va ((l.take k).filter mv) ∧ Below w1.heap.size w1 wr) (fun _ i _ => len - (intOf i).toNat)
  case atStart => exact ⟨0, _, Nat.zero_le _, rfl, rfl, gown_nil _ _, Below.refl _ _⟩
  case round =>
    obtain ⟨k, va, hk, rfl, rfl, oa, hb⟩ := hrel
    have OA := Lib.hid oa
    have HB := Lib.hid hb
    have B0 := Lib.hid (Q1.out.trans (hb.mono Q1.out.size))
    clear oa hb
    by_cases hlt : k < len
    case pos =>
      have hdk : decide ((k : Int) < len) = true := decide_eq_true (by omega)
      have hki : (k : Int) < (len : Int) := by omega
      obtain ⟨x, hx⟩ : ∃ x, l[k]? = some x := ⟨l[k]'(by have := NL.out; omega), List.getElem?_eq_getElem _⟩
      obtain ⟨bb, o, rfl, rg⟩ := grd_rng (HR.out wr B0.out) hx
      replace rg : wr.rangeAt bb (o + k * 3) (ED.cells x) := rg
      have RG := Lib.hid rg
      have k2 : wr.cell? ⟨bb, o + k * 3 + 2, none⟩ = some (.int .i64 x.v) := rg 2 _ rfl
      have FA := Lib.hid (mv_snoc hx)
      obtain ⟨WX, hWX⟩ : ∃ W, wr.alloc (.cells (ED.cells x).toArray 30) = W := ⟨_, rfl⟩
      have X1 : Hid (ED.Bx 30 WX wr.heap.size x) := Lib.hid (by rw [← hWX]; exact gbx_new wr x)
      have BX : Hid (Below wr.heap.size wr WX) := Lib.hid (by rw [← hWX]; exact below_new _ _)
      have HWX := Lib.hid hWX
      have OA2 := Lib.hid (gown_below OA.out BX.out)
      have LA : ((l.take k).filter mv).length ≤ 64 := by have := List.length_filter_le mv (l.take k); have := List.length_take_le k l; have := LE.out; have := NL.out; omega
      have BS : Hid (w1.heap.size ≤ WX.heap.size) := Lib.hid (by have := HB.out.size; have := BX.out.size; omega)
      by_cases c : x.v = 0
      · have d0 : (x.v != 0) = false := by simp [c]
        have hu : mv x = false := by simp [mv, c]
        rw [hu] at FA
        have O1 : Hid (ED.Own 30 wr w1.heap.size va ((l.take (k + 1)).filter mv)) := Lib.hid (by rw [FA.out]; exact OA.out)
        clear hx rg hWX hu c M HE HE2 R1 SM KN
        generalize x.v = xv at *
        go_wp2_with fail
        go_roundw
        case rel => exact ⟨k + 1, va, hlt, by go_num, rfl, O1.out, HB.out⟩
        case measure => simp [intOf]; omega
      · have d0 : (x.v != 0) = true := by simp [c]
        have hu : mv x = true := by simp [mv, c]
        rw [hu] at FA
        clear hx rg hWX hu c M HE HE2 R1 SM KN
        go_wp2_with (first | ((with_reducible refine gwl_load TDu bb (o + k * 3) RG.out ?_ ?_ ?_); rfl; rfl) | ((with_reducible refine gwl_bs TDu (s := x) ?_ (fill_du _) ?_ (by decide)); rfl; rw [HWX.out]) | (at_builtin; refine gpl_app TDu rfl _ _ rfl w1.heap.size va _ rfl OA2.out _ 1 1 [x] rfl (gbx_rd X1.out) (fun e => by cases e) (by omega) BS.out ?_; intro v' w' h1 h2 h3))
        have O1 : Hid (ED.Own 30 w' w1.heap.size v' ((l.take (k + 1)).filter mv)) := Lib.hid (by rw [FA.out]; exact h1)
        have B2 : Hid (Below w1.heap.size w1 w') := Lib.hid ((HB.out.trans (BX.out.mono HB.out.size)).grown h2 BS.out (fun j e => (gown_lt OA2.out e).1))
        clear h1 h2 h3
        go_roundw
        case rel => exact ⟨k + 1, v', hlt, by go_num, rfl, O1.out, B2.out⟩
        case measure => simp [intOf]; omega
    case neg =>
      obtain rfl : k = len := by omega
      have et : l.take k = l := List.take_of_length_le (by rw [NL.out]; exact Nat.le_refl _)
      rw [et] at OA
      clear et
      obtain ⟨n2, hn2⟩ : ∃ n, (l.filter mv).length = n := ⟨_, rfl⟩
      have LN : n2 ≤ 64 := by have := List.length_filter_le mv l; have := LE.out; omega
      obtain ⟨Aa, ca, rfl, na⟩ := gown_form OA.out
      have RD := gown_rd OA.out
      rw [hn2] at RD ⊢
      have HN2 := Lib.hid hn2
      have S2 := Lib.hid (SM.out Aa n2 ca wr RD (by unfold maxLen; omega))
      clear hn2 RD OA na
      go_wp2_with fail
      refine S2.out.mono ?_; rintro e w2 t2
      obtain ⟨A2, k2, rfl, r2, q2⟩ := told_ok t2 HE2.out HN2.out
      have B2 := Lib.hid (B0.out.trans (q2.mono B0.out.size))
      have R1' := Lib.hid fun (W : World) (q : Below w2.heap.size w2 W) => R1.out W ((HB.out.trans (q2.mono HB.out.size)).trans (q.mono (HB.out.trans (q2.mono HB.out.size)).size))
      have R2 := Lib.hid fun (W : World) (q : Below w2.heap.size w2 W) => (show ESd.Rd W A2 n2 (outS f (l.filter mv)) from grd_below r2 q (Nat.le_refl _))
      rw [FM.out]
      clear r2 q2 t2 S2 SM
      go_wp2_with fail
      go_loopw [13, 72] (fun s i wr => ∃ j : Nat, j ≤ k ∧ s = .int .i64 (((l.take j).filter mv).length : Int) ∧ i = .int .i64 j ∧ Below w2.heap.size w2 wr) (fun _ i _ => k - (intOf i).toNat)
      case atStart => exact ⟨0, Nat.zero_le _, rfl, rfl, Below.refl _ _⟩
      case round =>
        obtain ⟨j, hj, rfl, rfl, hB⟩ := hrel
        have HB2 := Lib.hid hB
        clear hB
        by_cases hlt2 : j < k
        case neg =>
          obtain rfl : j = k := by omega
          have t1 : l.take j = l := List.take_of_length_le (by rw [NL.out]; exact Nat.le_refl _)
          rw [t1, HN2.out]
          clear t1 R1 R1' R2 M HE HE2 HR
          go_wp2_with fail
          refine (KN.out _).mono ?_; rintro e w8 ⟨rfl, q8⟩
          have Q7 := Lib.hid (B2.out.trans (HB2.out.mono B2.out.size))
          have Q8 := Lib.hid (Q7.out.trans (q8.mono Q7.out.size))
          clear q8
          go_wp2_with fail
          go_ret
          exact ⟨rfl, Q8.out⟩
        case pos =>
          have hj' : (j : Int) < (k : Int) := by omega
          have hd : decide ((j : Int) < (k : Int)) = true := decide_eq_true hj'
          have hll : j < l.length := by rw [NL.out]; exact hlt2
          obtain ⟨d, hld⟩ : ∃ d, l[j]? = some d := ⟨_, List.getElem?_eq_getElem hll⟩
          obtain ⟨b3, o3, rfl, r3⟩ := rng_fr13 (HR.out w2 B2.out) hld
          have L3 := Lib.hid fun (W : World) (q : Below w2.heap.size w2 W) => (show W.rangeAt b3 (o3 + j * 3) (ED.cells d) from r3 W (Fr.below q))
          have kv : wr.cell? ⟨b3, o3 + j * 3 + 2, none⟩ = some (.int .i64 d.v) := L3.out wr HB2.out 2 _ rfl
          have C0 := Lib.hid fun (W : World) (q : Below w2.heap.size w2 W) => (show W.cell? ⟨b3, o3 + j * 3, none⟩ = some (.int .u32 d.ac) from L3.out W q 0 _ rfl)
          have C1 := Lib.hid fun (W : World) (q : Below w2.heap.size w2 W) => (show W.cell? ⟨b3, o3 + j * 3 + 1, none⟩ = some (.int .i64 d.ca) from L3.out W q 1 _ rfl)
          have SN := Lib.hid (congrArg List.length (mv_snoc hld))
          by_cases c : d.v = 0
          · have d0 : (d.v == 0) = true := by simp [c]
            have hu : mv d = false := by simp [mv, c]
            have hx := M.out.idle0 hld hu
            rw [hu, if_neg (by decide)] at SN
            obtain ⟨b1, o1, rfl, r1⟩ := rng_fr13 (R1'.out w2 (Below.refl _ _)) hx
            have L1 := Lib.hid fun (W : World) (q : Below w2.heap.size w2 W) => (show W.rangeAt b1 (o1 + j * 4) (ESd.cells ⟨d.ac, d.ca, false, 0⟩) from r1 W (Fr.below q))
            have OK := Lib.hid (M.out.okS HK.out hx)
            have ey := eqSd13_yes ⟨d.ac, d.ca, false, 0⟩
            clear hld hx hu r1 r3 c R1 R1' R2 M HE HE2 HR KN
            generalize ((l.take j).filter mv).length = kk at *
            go_wp2_with fail
            refine wp_region_held_drew (S := fun U => Below w2.heap.size w2 U) (by kernel_rfl) (HB2.out.drew) (fun hH => ?_)
            refine wpAnyH_take (i := 0) (v := .slice (some ⟨b1, o1, none⟩) k k1) rfl (by kernel_rfl) (by kernel_rfl) (by kernel_rfl) (fun _ _ _ h => h) (.inl ⟨by rfl, ?_⟩) (by assumption) ?_
            · intro W hW; go_simp
            try simp only [List.getElem_toArray, List.getElem_cons_zero, Act.put, List.setIfInBounds_toArray, List.set_cons_zero, List.set_cons_succ]
            refine wpAnyH_take (i := 1) (v := .int .i64 j) rfl (by kernel_rfl) (by kernel_rfl) (by kernel_rfl) (fun _ _ _ h => h) (.inl ⟨by rfl, ?_⟩) (by assumption) ?_
            · intro W hW; go_simp
            try simp only [List.getElem_toArray, List.getElem_cons_zero, List.getElem_cons_succ, Act.put, List.setIfInBounds_toArray, List.set_cons_zero, List.set_cons_succ]
            refine wpAnyH_take (i := 2) (v := .pointer (some ⟨b1, o1 + j * 4, none⟩)) rfl (by kernel_rfl) (by kernel_rfl) (by kernel_rfl) (fun _ _ _ h => h) (.inl ⟨by rfl, ?_⟩) (by assumption) ?_
            · intro W hW; go_simp
            try simp only [List.getElem_toArray, List.getElem_cons_zero, List.getElem_cons_succ, Act.put, List.setIfInBounds_toArray, List.set_cons_zero, List.set_cons_succ]
            refine wpAnyH_take (i := 3) (v := .agg (ESd.cells ⟨d.ac, d.ca, false, 0⟩).toArray) rfl (by kernel_rfl) (by kernel_rfl) (by kernel_rfl) (fun _ _ _ h => h) (gyields_load TSd (by rfl) (.tmp 83) rfl b1 (o1 + j * 4) rfl (fun U hU => L1.out U hU)) (by assumption) ?_
            try simp only [List.getElem_toArray, List.getElem_cons_zero, List.getElem_cons_succ, Act.put, List.setIfInBounds_toArray, List.set_cons_zero, List.set_cons_succ]
            refine wpAnyH_take (i := 4) (v := .slice (some ⟨b3, o3, none⟩) k cap) rfl (by kernel_rfl) (by kernel_rfl) (by kernel_rfl) (fun _ _ _ h => h) (.inl ⟨by rfl, ?_⟩) (by assumption) ?_
            · intro W hW; go_simp
            try simp only [List.getElem_toArray, List.getElem_cons_zero, List.getElem_cons_succ, Act.put, List.setIfInBounds_toArray, List.set_cons_zero, List.set_cons_succ]
            refine wpAnyH_take (i := 5) (v := .int .i64 j) rfl (by kernel_rfl) (by kernel_rfl) (by kernel_rfl) (fun _ _ _ h => h) (.inl ⟨by rfl, ?_⟩) (by assumption) ?_
            · intro W hW; go_simp
            try simp only [List.getElem_toArray, List.getElem_cons_zero, List.getElem_cons_succ, Act.put, List.setIfInBounds_toArray, List.set_cons_zero, List.set_cons_succ]
            refine wpAnyH_take (i := 6) (v := .pointer (some ⟨b3, o3 + j * 3, none⟩)) rfl (by kernel_rfl) (by kernel_rfl) (by kernel_rfl) (fun _ _ _ h => h) (.inl ⟨by rfl, ?_⟩) (by assumption) ?_
            · intro W hW; go_simp
            try simp only [List.getElem_toArray, List.getElem_cons_zero, List.getElem_cons_succ, Act.put, List.setIfInBounds_toArray, List.set_cons_zero, List.set_cons_succ]
            refine wpAnyH_take (i := 7) (v := .pointer (some ⟨b3, o3 + j * 3, none⟩)) rfl (by kernel_rfl) (by kernel_rfl) (by kernel_rfl) (fun _ _ _ h => h) (.inl ⟨by rfl, ?_⟩) (by assumption) ?_
            · intro W hW; go_simp
            try simp only [List.getElem_toArray, List.getElem_cons_zero, List.getElem_cons_succ, Act.put, List.setIfInBounds_toArray, List.set_cons_zero, List.set_cons_succ]
            refine wpAnyH_take (i := 8) (v := .int .u32 d.ac) rfl (by kernel_rfl) (by kernel_rfl) (by kernel_rfl) (fun _ _ _ h => h) (.inl ⟨by rfl, ?_⟩) (by assumption) ?_
            · intro W hW; have cc := C0.out W hW; go_simp
            try simp only [List.getElem_toArray, List.getElem_cons_zero, List.getElem_cons_succ, Act.put, List.setIfInBounds_toArray, List.set_cons_zero, List.set_cons_succ]
            refine wpAnyH_take (i := 9) (v := .slice (some ⟨b3, o3, none⟩) k cap) rfl (by kernel_rfl) (by kernel_rfl) (by kernel_rfl) (fun _ _ _ h => h) (.inl ⟨by rfl, ?_⟩) (by assumption) ?_
            · intro W hW; go_simp
            try simp only [List.getElem_toArray, List.getElem_cons_zero, List.getElem_cons_succ, Act.put, List.setIfInBounds_toArray, List.set_cons_zero, List.set_cons_succ]
            refine wpAnyH_take (i := 10) (v := .int .i64 j) rfl (by kernel_rfl) (by kernel_rfl) (by kernel_rfl) (fun _ _ _ h => h) (.inl ⟨by rfl, ?_⟩) (by assumption) ?_
            · intro W hW; go_simp
            try simp only [List.getElem_toArray, List.getElem_cons_zero, List.getElem_cons_succ, Act.put, List.setIfInBounds_toArray, List.set_cons_zero, List.set_cons_succ]
            refine wpAnyH_take (i := 11) (v := .pointer (some ⟨b3, o3 + j * 3, none⟩)) rfl (by kernel_rfl) (by kernel_rfl) (by kernel_rfl) (fun _ _ _ h => h) (.inl ⟨by rfl, ?_⟩) (by assumption) ?_
            · intro W hW; go_simp
            try simp only [List.getElem_toArray, List.getElem_cons_zero, List.getElem_cons_succ, Act.put, List.setIfInBounds_toArray, List.set_cons_zero, List.set_cons_succ]
            refine wpAnyH_take (i := 12) (v := .pointer (some ⟨b3, o3 + j * 3 + 1, none⟩)) rfl (by kernel_rfl) (by kernel_rfl) (by kernel_rfl) (fun _ _ _ h => h) (.inl ⟨by rfl, ?_⟩) (by assumption) ?_
            · intro W hW; go_simp
            try simp only [List.getElem_toArray, List.getElem_cons_zero, List.getElem_cons_succ, Act.put, List.setIfInBounds_toArray, List.set_cons_zero, List.set_cons_succ]
            refine wpAnyH_take (i := 13) (v := .int .i64 d.ca) rfl (by kernel_rfl) (by kernel_rfl) (by kernel_rfl) (fun _ _ _ h => h) (.inl ⟨by rfl, ?_⟩) (by assumption) ?_
            · intro W hW; have cc := C1.out W hW; go_simp
            try simp only [List.getElem_toArray, List.getElem_cons_zero, List.getElem_cons_succ, Act.put, List.setIfInBounds_toArray, List.set_cons_zero, List.set_cons_succ]
            refine wpAnyH_take (i := 14) (v := .agg (ESd.cells ⟨d.ac, d.ca, false, 0⟩).toArray) rfl (by kernel_rfl) (by kernel_rfl) (by kernel_rfl) (fun _ _ _ h => h) (yields_build_sd13 (by rfl) (.tmp 89) (.tmp 94) rfl rfl rfl) (by assumption) ?_
            try simp only [List.getElem_toArray, List.getElem_cons_zero, List.getElem_cons_succ, Act.put, List.setIfInBounds_toArray, List.set_cons_zero, List.set_cons_succ]
            refine wpAnyH_take (i := 15) (v := .bool !(eqSd13 ⟨d.ac, d.ca, false, 0⟩ ⟨d.ac, d.ca, false, 0⟩)) rfl (by kernel_rfl) (by kernel_rfl) (by kernel_rfl) (fun _ _ _ h => h) (yields_neq_sd13 (by rfl) _ _ rfl OK.out OK.out rfl rfl) (by assumption) ?_
            try simp only [List.getElem_toArray, List.getElem_cons_zero, List.getElem_cons_succ, Act.put, List.setIfInBounds_toArray, List.set_cons_zero, List.set_cons_succ]
            refine wpAnyH_done (by decide +kernel) ?_ _
            rw [ey]
            go_wp2_with fail
            go_roundw
            case rel => exact ⟨j + 1, hlt2, by rw [SN.out], by go_num, hH⟩
            case measure => simp [intOf]; omega
          · have d0 : (d.v == 0) = false := by simp [c]
            have hu : mv d = true := by simp [mv, c]
            obtain ⟨x, hx, hx2⟩ := M.out.idle1 hld hu
            have LT := mv_lt hld hu
            rw [HN2.out] at LT
            rw [hu, if_pos rfl, List.length_append] at SN
            obtain ⟨kk, hkk⟩ : ∃ n, ((l.take j).filter mv).length = n := ⟨_, rfl⟩
            rw [hkk] at hx2 LT SN ⊢
            have dk : decide ((n2 : Int) ≤ (kk : Int)) = false := decide_eq_false (by omega)
            have dk2 : (kk : Int) < (n2 : Int) := by omega
            obtain ⟨b1, o1, rfl, r1⟩ := rng_fr13 (R1'.out w2 (Below.refl _ _)) hx
            obtain ⟨b2, o2, rfl, r2⟩ := rng_fr13 (R2.out w2 (Below.refl _ _)) hx2
            have L1 := Lib.hid fun (W : World) (q : Below w2.heap.size w2 W) => (show W.rangeAt b1 (o1 + j * 4) (ESd.cells x) from r1 W (Fr.below q))
            have L2 := Lib.hid fun (W : World) (q : Below w2.heap.size w2 W) => (show W.rangeAt b2 (o2 + kk * 4) (ESd.cells x) from r2 W (Fr.below q))
            have OK := Lib.hid (M.out.okS HK.out hx)
            have ey := eqSd13_yes x
            clear hld hx hx2 hu hkk r1 r2 r3 c R1 R1' R2 M HE HE2 HR KN
            go_wp2_with fail
            refine wp_region_held_drew (S := fun U => Below w2.heap.size w2 U) (by kernel_rfl) (HB2.out.drew) (fun hH => ?_)
            refine wpAnyH_take (i := 0) (v := .int .i64 kk) rfl (by kernel_rfl) (by kernel_rfl) (by kernel_rfl) (fun _ _ _ h => h) (.inl ⟨by rfl, ?_⟩) (by assumption) ?_
            · intro W hW; go_simp
            try simp only [List.getElem_toArray, List.getElem_cons_zero, Act.put, List.setIfInBounds_toArray, List.set_cons_zero, List.set_cons_succ]
            refine wpAnyH_take (i := 1) (v := .slice (some ⟨b2, o2, none⟩) n2 k2) rfl (by kernel_rfl) (by kernel_rfl) (by kernel_rfl) (fun _ _ _ h => h) (.inl ⟨by rfl, ?_⟩) (by assumption) ?_
            · intro W hW; go_simp
            try simp only [List.getElem_toArray, List.getElem_cons_zero, List.getElem_cons_succ, Act.put, List.setIfInBounds_toArray, List.set_cons_zero, List.set_cons_succ]
            refine wpAnyH_take (i := 2) (v := .int .i64 n2) rfl (by kernel_rfl) (by kernel_rfl) (by kernel_rfl) (fun _ _ _ h => h) (.inl ⟨by rfl, ?_⟩) (by assumption) ?_
            · intro W hW; go_simp
            try simp only [List.getElem_toArray, List.getElem_cons_zero, List.getElem_cons_succ, Act.put, List.setIfInBounds_toArray, List.set_cons_zero, List.set_cons_succ]
            refine wpAnyH_take (i := 3) (v := .bool false) rfl (by kernel_rfl) (by kernel_rfl) (by kernel_rfl) (fun _ _ _ h => h) (.inl ⟨by rfl, ?_⟩) (by assumption) ?_
            · intro W hW; go_simp
            try simp only [List.getElem_toArray, List.getElem_cons_zero, List.getElem_cons_succ, Act.put, List.setIfInBounds_toArray, List.set_cons_zero, List.set_cons_succ]
            refine wpAnyH_take (i := 4) (v := .bool false) rfl (by kernel_rfl) (by kernel_rfl) (by kernel_rfl) (fun _ _ _ h => h) (.inl ⟨by rfl, ?_⟩) (by assumption) ?_
            · intro W hW; go_simp
            try simp only [List.getElem_toArray, List.getElem_cons_zero, List.getElem_cons_succ, Act.put, List.setIfInBounds_toArray, List.set_cons_zero, List.set_cons_succ]
            refine wpAnyH_take (i := 5) (v := .slice (some ⟨b1, o1, none⟩) k k1) rfl (by kernel_rfl) (by kernel_rfl) (by kernel_rfl) (fun _ _ _ h => h) (.inl ⟨by rfl, ?_⟩) (by assumption) ?_
            · intro W hW; go_simp
            try simp only [List.getElem_toArray, List.getElem_cons_zero, List.getElem_cons_succ, Act.put, List.setIfInBounds_toArray, List.set_cons_zero, List.set_cons_succ]
            refine wpAnyH_take (i := 6) (v := .int .i64 j) rfl (by kernel_rfl) (by kernel_rfl) (by kernel_rfl) (fun _ _ _ h => h) (.inl ⟨by rfl, ?_⟩) (by assumption) ?_
            · intro W hW; go_simp
            try simp only [List.getElem_toArray, List.getElem_cons_zero, List.getElem_cons_succ, Act.put, List.setIfInBounds_toArray, List.set_cons_zero, List.set_cons_succ]
            refine wpAnyH_take (i := 7) (v := .pointer (some ⟨b1, o1 + j * 4, none⟩)) rfl (by kernel_rfl) (by kernel_rfl) (by kernel_rfl) (fun _ _ _ h => h) (.inl ⟨by rfl, ?_⟩) (by assumption) ?_
            · intro W hW; go_simp
            try simp only [List.getElem_toArray, List.getElem_cons_zero, List.getElem_cons_succ, Act.put, List.setIfInBounds_toArray, List.set_cons_zero, List.set_cons_succ]
            refine wpAnyH_take (i := 8) (v := .agg (ESd.cells x).toArray) rfl (by kernel_rfl) (by kernel_rfl) (by kernel_rfl) (fun _ _ _ h => h) (gyields_load TSd (by rfl) (.tmp 104) rfl b1 (o1 + j * 4) rfl (fun U hU => L1.out U hU)) (by assumption) ?_
            try simp only [List.getElem_toArray, List.getElem_cons_zero, List.getElem_cons_succ, Act.put, List.setIfInBounds_toArray, List.set_cons_zero, List.set_cons_succ]
            refine wpAnyH_take (i := 9) (v := .slice (some ⟨b2, o2, none⟩) n2 k2) rfl (by kernel_rfl) (by kernel_rfl) (by kernel_rfl) (fun _ _ _ h => h) (.inl ⟨by rfl, ?_⟩) (by assumption) ?_
            · intro W hW; go_simp
            try simp only [List.getElem_toArray, List.getElem_cons_zero, List.getElem_cons_succ, Act.put, List.setIfInBounds_toArray, List.set_cons_zero, List.set_cons_succ]
            refine wpAnyH_take (i := 10) (v := .int .i64 kk) rfl (by kernel_rfl) (by kernel_rfl) (by kernel_rfl) (fun _ _ _ h => h) (.inl ⟨by rfl, ?_⟩) (by assumption) ?_
            · intro W hW; go_simp
            try simp only [List.getElem_toArray, List.getElem_cons_zero, List.getElem_cons_succ, Act.put, List.setIfInBounds_toArray, List.set_cons_zero, List.set_cons_succ]
            refine wpAnyH_take (i := 11) (v := .pointer (some ⟨b2, o2 + kk * 4, none⟩)) rfl (by kernel_rfl) (by kernel_rfl) (by kernel_rfl) (fun _ _ _ h => h) (.inl ⟨by rfl, ?_⟩) (by assumption) ?_
            · intro W hW; go_simp
            try simp only [List.getElem_toArray, List.getElem_cons_zero, List.getElem_cons_succ, Act.put, List.setIfInBounds_toArray, List.set_cons_zero, List.set_cons_succ]
            refine wpAnyH_take (i := 12) (v := .agg (ESd.cells x).toArray) rfl (by kernel_rfl) (by kernel_rfl) (by kernel_rfl) (fun _ _ _ h => h) (gyields_load TSd (by rfl) (.tmp 108) rfl b2 (o2 + kk * 4) rfl (fun U hU => L2.out U hU)) (by assumption) ?_
            try simp only [List.getElem_toArray, List.getElem_cons_zero, List.getElem_cons_succ, Act.put, List.setIfInBounds_toArray, List.set_cons_zero, List.set_cons_succ]
            refine wpAnyH_take (i := 13) (v := .bool !(eqSd13 x x)) rfl (by kernel_rfl) (by kernel_rfl) (by kernel_rfl) (fun _ _ _ h => h) (yields_neq_sd13 (by rfl) _ _ rfl OK.out OK.out rfl rfl) (by assumption) ?_
            try simp only [List.getElem_toArray, List.getElem_cons_zero, List.getElem_cons_succ, Act.put, List.setIfInBounds_toArray, List.set_cons_zero, List.set_cons_succ]
            refine wpAnyH_take (i := 14) (v := .bool !(eqSd13 x x)) rfl (by kernel_rfl) (by kernel_rfl) (by kernel_rfl) (fun _ _ _ h => h) (.inl ⟨by rfl, ?_⟩) (by assumption) ?_
            · intro W hW; go_simp
            try simp only [List.getElem_toArray, List.getElem_cons_zero, List.getElem_cons_succ, Act.put, List.setIfInBounds_toArray, List.set_cons_zero, List.set_cons_succ]
            refine wpAnyH_done (by decide +kernel) ?_ _
            rw [ey]
            go_wp2_with fail
            go_roundw
            case rel => exact ⟨j + 1, hlt2, by rw [SN.out]; simp, by go_num, hH⟩
            case measure => simp [intOf]; omega
end Go.Proofs.Ytlbekdpmfjhjhaa
