/- The program's ledger: inBounds, there, Position, New, put, keep (by genMd.py). -/
import Derived.Test.YthnmpnepgagmmaaMc
import Derived.Deep.RegionHeld
namespace Go.Proofs.Ythnmpnepgagmmaa
open Go.RowKit Go.Shelf
set_option linter.unusedVariables false
set_option linter.unusedSimpArgs false
set_option linter.unusedSectionVars false

theorem gret1 {α : Type} {E : Elt α} {P : Program} {ts te : TypeId} (T : EltT P E ts te) {fn : Func} {p : Tmp} (h : fn.results = #[.cell p te]) (tmps : Array Value) (w : World) (g : Nat) {s : α} (hp : tmps.getD p undef = .pointer (some ⟨g, 0, none⟩)) (hb : E.Bx te w g s) :
    (results fn tmps).run P w = .ok (.agg (E.cells s).toArray) w := by
  obtain ⟨fs, hu⟩ := T.row
  have hp' : (tmps[p]?).getD undef = .pointer (some ⟨g, 0, none⟩) := by rw [← hp]; simp
  simp only [results, h]
  simp [Sem.run_bind, Result.andThen, hp', asAddr, run_loadVar_row w g te te (E.cells s).toArray (0, 0) _ hb hu rfl (by rw [gsize T, List.size_toArray, E.len])]
theorem cell_fr {S : Nat → Prop} {w W : World} {b o : Nat} {v : Value} (hc : w.cell? ⟨b, o, none⟩ = some v) (f : Fr S w W) (hS : ¬ S b) : W.cell? ⟨b, o, none⟩ = some v := by
  have hb : b < w.heap.size := by
    unfold World.cell? at hc
    rcases Nat.lt_or_ge b w.heap.size with c | c
    · exact c
    · rw [Array.getElem?_eq_none c] at hc
      cases hc
  unfold World.cell? at hc ⊢
  rw [f.at' b hb hS]
  exact hc
theorem rng_fr {S : Nat → Prop} {w W : World} {b o : Nat} {l : List Value} (h : w.rangeAt b o l) (f : Fr S w W) (hS : ¬ S b) : W.rangeAt b o l := fun j u hj => cell_fr (h j u hj) f hS
theorem yields_place {ops : Array Oper} {S : World → Prop} {o : Oper} {a : Act} (hw : Region.wanted o (yielded ops a.tmps) = true) (x : Operand) (ho : o.op = .load 79 x) (b : Nat) (hx : a.eval x = .pointer (some ⟨b, 0, none⟩)) {c d : Int} (hS : ∀ w, S w → w.rangeAt b 0 [.int .u32 c, .int .u32 d]) :
    YieldsIf Try.prog ops S o (.agg #[.int .u32 c, .int .u32 d]) a :=
  yieldsIf_load_mid hw _ x ho b 0 hx [.int .u32 c, .int .u32 d] _ hS Try.underlying79 rfl (by kernel_rfl)
theorem zero_place (w : World) : (zeroValue 79).run Try.prog w = .ok (.agg #[.int .u32 0, .int .u32 0]) w := by kernel_rfl
theorem linb9 (p : Po) (w : World) : Calls Try.prog 36 #[.agg (EP.cells p).toArray] w fun e w' => e = .returned (.bool (inB p)) ∧ Below w.heap.size w w' := by
  obtain ⟨W1, hW1⟩ : ∃ W1, w.alloc (.cells (EP.cells p).toArray 47) = W1 := ⟨_, rfl⟩
  have b1 : Below w.heap.size w W1 := by rw [← hW1]; exact below_new w _
  have x1 : EP.Bx 47 W1 w.heap.size p := by rw [← hW1]; exact gbx_new w _
  have k2 : W1.cell? ⟨w.heap.size, 2, none⟩ = some (.int .i64 p.q) := gbx_cell x1 2
  have k3 : W1.cell? ⟨w.heap.size, 3, none⟩ = some (.int .i64 p.b) := gbx_cell x1 3
  have HW := Lib.hid hW1
  have B1 := Lib.hid b1
  have P2 := Lib.hid (lwith9 p.q 10000000 (by decide) W1)
  have P3 := Lib.hid (lwith9 p.b 1000000000000000 (by decide) W1)
  have E : Hid (inB p = (witB p.q 10000000 && witB p.b 1000000000000000)) := Lib.hid rfl
  have R1 := Lib.hid (gbx_rng x1)
  rw [E.out]
  clear hW1 b1 x1 E
  generalize witB p.q 10000000 = r2 at *
  generalize witB p.b 1000000000000000 = r3 at *
  generalize p.q = q at *
  generalize p.b = b at *
  cases r2
  · go_enter Try.func36, Try.ntmps36
    go_wp2_with (rw [HW.out])
    refine P2.out.mono ?_; rintro e w2 ⟨rfl, rfl⟩
    go_wp2_with fail
    go_ret
    exact ⟨rfl, B1.out⟩
  · go_enter Try.func36, Try.ntmps36
    go_wp2_with (rw [HW.out])
    refine P2.out.mono ?_; rintro e w2 ⟨rfl, rfl⟩
    go_wp2_with fail
    refine P3.out.mono ?_; rintro e w2 ⟨rfl, rfl⟩
    go_wp2_with fail
    go_ret
    exact ⟨by simp, B1.out⟩
set_option maxRecDepth 100000 in
set_option maxHeartbeats 1000000 in
theorem lthere9 {g ba bp : Nat} {L : Lg} (n : Int) (w : World) (h : Dl w g ba bp L) (hn : U32' n) :
    Calls Try.prog 35 #[.pointer (some ⟨g, 0, none⟩), .int .u32 n] w fun e w' => e = .returned (.bool (thereB L n)) ∧ Below w.heap.size w w' := by
  have hz := zero_ac
  have G := lget9 n w h hn
  have NEW := Lib.hid newA9
  have E : Hid (thereB L n = ((getL L n).2 == 0)) := Lib.hid rfl
  rw [E.out]
  clear h hn E
  generalize getL L n = r at *
  obtain ⟨a, er⟩ := r
  go_enter Try.func35, Try.ntmps35
  go_wp2_with fail
  refine G.mono ?_; rintro e w2 ⟨rfl, q2⟩
  obtain ⟨W3, hW3, b3, x3⟩ := NEW.out w2
  have HW3 := Lib.hid hW3
  have Q := Lib.hid q2
  have B3 := Lib.hid b3
  have X3 := Lib.hid x3
  clear q2 hW3 b3 x3
  go_wp2_with (first | (rw [HW3.out]; refine gwl_store TA a w2.heap.size X3.out rfl rfl ?_) | (refine gwl_store TA a w2.heap.size X3.out rfl rfl ?_))
  go_ret
  exact ⟨by simp, below_row0 (Q.out.trans (B3.out.mono Q.out.size)) Q.out.size⟩
set_option maxRecDepth 100000 in
set_option maxHeartbeats 4000000 in
theorem lpos9 {g ba bp : Nat} {L : Lg} (c n : Int) (w : World) (h : Dl w g ba bp L) (hc : U32' c) (hn : U32' n) :
    Calls Try.prog 21 #[.pointer (some ⟨g, 0, none⟩), .int .u32 c, .int .u32 n] w fun e w' => e = .returned (.agg (EP.cells (posH L.hl c n)).toArray) ∧ Below w.heap.size w w' := by
  have hz := zero_po
  obtain ⟨W1, hW1, b1, x1⟩ := newP9 w
  obtain ⟨W2, hW2, b2, x2⟩ := newP9 W1
  have s1 : W1.heap.size = w.heap.size + 1 := by rw [← hW1]; simp
  rw [s1] at x2
  obtain ⟨W3, hW3⟩ : ∃ W3, W2.setRow (w.heap.size + 1) (EP.cells ⟨c, n, 0, 0⟩).toArray = W3 := ⟨_, rfl⟩
  have x3 : EP.Bx 47 W3 (w.heap.size + 1) ⟨c, n, 0, 0⟩ := by rw [← hW3]; exact gbx_set x2
  have b3 : Below W1.heap.size W1 W3 := by rw [← hW3]; exact below_row0 b2 (by omega)
  have x13 : EP.Bx 47 W3 w.heap.size zeroPo := gbx_below x1 b3
  have b13 := b1.trans (b3.mono b1.size)
  have h3 := h.below b13
  have c2 := h3.c2
  have MS := Lib.hid (lmiss9 h3)
  have HW1 := Lib.hid hW1
  have HW2 := Lib.hid hW2
  have HW3 := Lib.hid hW3
  have X2 := Lib.hid x2
  have X3 := Lib.hid x3
  have X13 := Lib.hid x13
  have R3 := Lib.hid (gbx_rng x3)
  have B13 := Lib.hid b13
  have M3 := Lib.hid h3.mp
  have HC := Lib.hid hc
  have HN := Lib.hid hn
  obtain ⟨W4, hW4, b4, x4⟩ := newP9 W3
  have HW4 := Lib.hid hW4
  have X4 := Lib.hid x4
  have B4 := Lib.hid b4
  have S1 : Hid (w.heap.size < W3.heap.size ∧ w.heap.size + 1 < W3.heap.size) := Lib.hid ⟨(Array.getElem?_eq_some_iff.1 x13).1, (Array.getElem?_eq_some_iff.1 x3).1⟩
  have E : Hid (posH L.hl c n = match MP.at L.hl (c, n) with | some p => p | none => ⟨c, n, 0, 0⟩) := Lib.hid rfl
  rw [E.out]
  clear E hW1 b1 x1 hW2 b2 x2 hW3 x3 b3 x13 b13 h3 h hW4 b4 x4 hc hn s1
  cases e : MP.at L.hl (c, n) with
  | none =>
    have EE := Lib.hid e
    clear e
    have X5 : Hid (EP.Bx 47 (W4.setRow W3.heap.size (EP.cells zeroPo).toArray) (w.heap.size + 1) ⟨c, n, 0, 0⟩) := Lib.hid (((fr_row (S := fun k => k = W3.heap.size) (W := W4) rfl (EP.cells zeroPo).toArray).at' (w.heap.size + 1) (by have := S1.out; have := B4.out.size; omega) (by have := S1.out; omega)).trans (gbx_below X3.out B4.out))
    have X6 : Hid (EP.Bx 47 (W4.setRow W3.heap.size (EP.cells zeroPo).toArray) w.heap.size zeroPo) := Lib.hid (((fr_row (S := fun k => k = W3.heap.size) (W := W4) rfl (EP.cells zeroPo).toArray).at' w.heap.size (by have := S1.out; have := B4.out.size; omega) (by have := S1.out; omega)).trans (gbx_below X13.out B4.out))
    have R5 := Lib.hid (gbx_rng X5.out)
    go_enter Try.func21, Try.ntmps21
    go_wp2_with (first | (rw [HW1.out, HW2.out]; refine gwl_store TP ⟨c, n, 0, 0⟩ (w.heap.size + 1) X2.out rfl rfl ?_; rw [HW3.out]))
    refine MS.out.mono ?_; rintro e w2 ⟨rfl, rfl⟩
    go_wp2_with (first | (at_lookup; refine wlP_none rfl _ _ rfl rfl M3.out rfl HC.out HN.out EE.out ?_) | (rw [HW4.out]; refine gwl_store TP zeroPo W3.heap.size X4.out rfl rfl ?_) | (refine gwl_store TP zeroPo W3.heap.size X4.out rfl rfl ?_) | ((with_reducible refine gwl_load TP (w.heap.size + 1) 0 R5.out ?_ ?_ ?_); rfl; rfl) | (refine gwl_store TP ⟨c, n, 0, 0⟩ w.heap.size X6.out rfl rfl ?_))
    exact bodyPost_ret (gret1 TP rfl _ _ w.heap.size rfl (gbx_set X6.out)) rfl ⟨rfl, below_row0 (below_row0 (B13.out.trans (B4.out.mono B13.out.size)) B13.out.size) (Nat.le_refl _)⟩
  | some p =>
    have EE := Lib.hid e
    clear e
    have X6 : Hid (EP.Bx 47 (W4.setRow W3.heap.size (EP.cells p).toArray) w.heap.size zeroPo) := Lib.hid (((fr_row (S := fun k => k = W3.heap.size) (W := W4) rfl (EP.cells p).toArray).at' w.heap.size (by have := S1.out; have := B4.out.size; omega) (by have := S1.out; omega)).trans (gbx_below X13.out B4.out))
    have R5 := Lib.hid (gbx_rng (gbx_set (x := p) X4.out))
    go_enter Try.func21, Try.ntmps21
    go_wp2_with (first | (rw [HW1.out, HW2.out]; refine gwl_store TP ⟨c, n, 0, 0⟩ (w.heap.size + 1) X2.out rfl rfl ?_; rw [HW3.out]))
    refine MS.out.mono ?_; rintro e w2 ⟨rfl, rfl⟩
    go_wp2_with (first | (at_lookup; refine wlP_some rfl _ _ rfl rfl M3.out rfl HC.out HN.out EE.out ?_) | (rw [HW4.out]; refine gwl_store TP p W3.heap.size X4.out rfl rfl ?_) | (refine gwl_store TP p W3.heap.size X4.out rfl rfl ?_) | ((with_reducible refine gwl_load TP W3.heap.size 0 R5.out ?_ ?_ ?_); rfl; rfl) | (refine gwl_store TP p w.heap.size X6.out rfl rfl ?_))
    exact bodyPost_ret (gret1 TP rfl _ _ w.heap.size rfl (gbx_set X6.out)) rfl ⟨rfl, below_row0 (below_row0 (B13.out.trans (B4.out.mono B13.out.size)) B13.out.size) (Nat.le_refl _)⟩
theorem lnew9 (w : World) : Calls Try.prog 5 #[] w fun e w' => ∃ g ba bp, e = .returned (.pointer (some ⟨g, 0, none⟩)) ∧ Dl w' g ba bp ⟨0, [], []⟩ ∧ Below w.heap.size w w' ∧ ∀ k, LdS g ba bp k → w.heap.size ≤ k := by
  have hmm := @run_makeMap Try.prog
  go_enter Try.func5, Try.ntmps5
  go_wp2_with fail
  go_ret
  have s1 : (w.alloc (.map #[] 0)).heap.size = w.heap.size + 1 := by simp
  have s2 : ((w.alloc (.map #[] 0)).alloc (.map #[] 0)).heap.size = w.heap.size + 1 + 1 := by simp
  have m1 := MapT.Mp.made (M := MA) w
  have m2 := MapT.Mp.made (M := MP) (w.alloc (.map #[] 0))
  have q1 := below_new w (.map #[] 0)
  have q2 := below_new (w.alloc (.map #[] 0)) (.map #[] 0)
  have q3 := below_new ((w.alloc (.map #[] 0)).alloc (.map #[] 0)) (.cells #[.int .i64 0, .map (some w.heap.size), .map (some (w.heap.size + 1))] 60)
  refine ⟨w.heap.size + 1 + 1, w.heap.size, w.heap.size + 1, rfl, ⟨?_, (m1.below q2).below q3, ?_, by omega, LgI.new⟩, q1.trans ((q2.trans (q3.mono (by rw [s1, s2]; omega))).mono (by rw [s1]; omega)), fun k hk => ?_⟩
  · have := heap_alloc_new ((w.alloc (.map #[] 0)).alloc (.map #[] 0)) (.cells #[.int .i64 0, .map (some w.heap.size), .map (some (w.heap.size + 1))] 60)
    rw [s2] at this
    exact this
  · rw [s1] at m2
    exact m2.below q3
  · rcases hk with rfl | rfl | rfl <;> omega
theorem setA_inv {L : Lg} {a : Ac} (h : LgI L) (ha : U32' a.nu) (hc : 0 ≤ a.ca ∧ a.ca ≤ mF) (hl : a.nu ≠ 0 → L.al.length < 64 ∨ ∃ y, y ∈ L.al ∧ y.nu = a.nu) : LgI (setA L a) := by
  unfold setA
  split
  · exact ⟨hc, h.aok, h.asr, h.len, h.psr, h.pok, h.held⟩
  · rename_i h0
    refine ⟨h.fund, fun x hx => ?_, h.asr.put a, ?_, h.psr, h.pok, fun p hp => ?_⟩
    · rcases mem_put hx with rfl | hx
      · exact ⟨⟨by have := ha.1; omega, ha.2⟩, hc⟩
      · exact h.aok x hx
    · show (putL L.al a).length ≤ 64
      rcases hl h0 with c | ⟨y, hy, e⟩
      · have := put_len L.al a; omega
      · have := put_len_same hy e; have := h.len; omega
    · obtain ⟨y, hy, e⟩ := h.held p hp
      by_cases c : y.nu = a.nu
      · exact ⟨a, (put_perm L.al a).mem_iff.2 (List.mem_cons_self ..), c.symm.trans e⟩
      · exact ⟨y, (put_perm L.al a).mem_iff.2 (List.mem_cons_of_mem _ (mem_but.2 ⟨hy, c⟩)), e⟩
set_option maxRecDepth 100000 in
set_option maxHeartbeats 4000000 in
theorem lput9 {g ba bp : Nat} {L : Lg} (a : Ac) (w : World) (h : Dl w g ba bp L) (hu : U32' a.nu) (hi : LgI (setA L a)) :
    Calls Try.prog 30 #[.pointer (some ⟨g, 0, none⟩), .agg (EA.cells a).toArray] w fun e w' => e = .returned (.tuple #[]) ∧ Dl w' g ba bp (setA L a) ∧ Fr (LdS g ba bp) w w' := by
  obtain ⟨W1, hW1⟩ : ∃ W1, w.alloc (.cells (EA.cells a).toArray 33) = W1 := ⟨_, rfl⟩
  have b1 : Below w.heap.size w W1 := by rw [← hW1]; exact below_new w _
  have x1 : EA.Bx 33 W1 w.heap.size a := by rw [← hW1]; exact gbx_new w _
  have h1 := h.below b1
  have k0 : W1.cell? ⟨w.heap.size, 0, none⟩ = some (.int .u32 a.nu) := gbx_cell x1 0
  have k1 : W1.cell? ⟨w.heap.size, 1, none⟩ = some (.int .i64 a.ca) := gbx_cell x1 1
  have hf := h1.fz 0
  have hc0 := h1.c0
  have HW := Lib.hid hW1
  have B1 := Lib.hid b1
  have HU := Lib.hid hu
  have ng : w.heap.size ≠ ba := by have := h.ma.lt; omega
  by_cases h0 : a.nu = 0
  · have hd : decide (a.nu = 0) = true := decide_eq_true h0
    have hd2 : (a.nu == 0) = true := by simpa using h0
    have FIN : Hid (Dl (W1.setCell ⟨g, 0, none⟩ (.int .i64 a.ca)) g ba bp (setA L a) ∧ Fr (LdS g ba bp) w (W1.setCell ⟨g, 0, none⟩ (.int .i64 a.ca))) := Lib.hid (by
      have e : setA L a = ⟨a.ca, L.al, L.hl⟩ := if_pos h0
      have f := Fr.set (S := fun k => k = g) (W := W1) (p := ⟨g, 0, none⟩) rfl (.int .i64 a.ca)
      rw [e] at hi ⊢
      refine ⟨⟨heap_setCell_same W1 g 0 _ _ _ h1.blk, h1.ma.fr f (Ne.symm h1.na), h1.mp.fr f (Ne.symm h1.np), h1.ne, hi⟩, ?_⟩
      exact (Fr.below b1).same (f.mono fun k hk => .inl hk))
    clear h h1 b1 x1 hW1 hu hi ng
    generalize a.nu = nu at *
    generalize a.ca = ca at *
    subst h0
    go_enter Try.func30, Try.ntmps30
    go_wp2_with (rw [HW.out])
    refine bodyPost_ret (results_none rfl _ _ _) rfl ?_
    exact ⟨rfl, FIN.out⟩
  · have hd : decide (a.nu = 0) = false := decide_eq_false h0
    have hd2 : (a.nu == 0) = false := by simpa using h0
    have e : setA L a = ⟨L.fund, putL L.al a, L.hl⟩ := if_neg h0
    have C1 : Hid (∀ W, Fr (fun k => k = ba) W1 W → W.cell? ⟨g, 1, none⟩ = some (.map (some ba))) := Lib.hid fun W f => cell_fr h1.c1 f h1.na
    have A0 : Hid (∀ W, Fr (fun k => k = ba) W1 W → W.cell? ⟨w.heap.size, 0, none⟩ = some (.int .u32 a.nu)) := Lib.hid fun W f => cell_fr k0 f ng
    have RA : Hid (∀ W, Fr (fun k => k = ba) W1 W → W.rangeAt w.heap.size 0 (EA.cells a)) := Lib.hid fun W f => rng_fr (gbx_rng x1) f ng
    have M1 : Hid (MA.Mp W1.drew ba L.al) := Lib.hid h1.ma
    have FIN : Hid (∀ W, Fr (fun k => k = ba) W1 W → MA.Mp W ba (a :: MA.but L.al a.nu) → Dl W g ba bp (setA L a) ∧ Fr (LdS g ba bp) w W) := Lib.hid fun W f m => by
      rw [e] at hi ⊢
      exact ⟨⟨(f.at' g h1.gl h1.na).trans h1.blk, m.perm (put_perm L.al a).symm, h1.mp.fr f (Ne.symm h1.ne), h1.ne, hi⟩, (Fr.below b1).same (f.mono fun k hk => .inr (.inl hk))⟩
    clear h h1 b1 x1 hW1 hu hi ng e hf hc0
    go_enter Try.func30, Try.ntmps30
    go_wp2_with (rw [HW.out])
    refine wp_region_held_drew (S := fun U => Fr (fun k => k = ba) W1 U) (by kernel_rfl) (Fr.drewN (Fr.refl _ _) 1) (fun hH => ?_)
    refine wpAnyH_take (i := 0) (v := .pointer (some ⟨g, 0, none⟩)) rfl (by kernel_rfl) (by kernel_rfl) (by kernel_rfl) (fun _ _ _ h => h) (.inl ⟨by rfl, ?_⟩) (by assumption) ?_
    · intro W hW; go_simp
    try simp only [List.getElem_toArray, List.getElem_cons_zero, List.getElem_cons_succ, Act.put, List.setIfInBounds_toArray, List.set_cons_zero, List.set_cons_succ]
    refine wpAnyH_take (i := 1) (v := .pointer (some ⟨g, 0, none⟩)) rfl (by kernel_rfl) (by kernel_rfl) (by kernel_rfl) (fun _ _ _ h => h) (.inl ⟨by rfl, ?_⟩) (by assumption) ?_
    · intro W hW; go_simp
    try simp only [List.getElem_toArray, List.getElem_cons_zero, List.getElem_cons_succ, Act.put, List.setIfInBounds_toArray, List.set_cons_zero, List.set_cons_succ]
    refine wpAnyH_take (i := 2) (v := .pointer (some ⟨g, 1, none⟩)) rfl (by kernel_rfl) (by kernel_rfl) (by kernel_rfl) (fun _ _ _ h => h) (.inl ⟨by rfl, ?_⟩) (by assumption) ?_
    · intro W hW; go_simp
    try simp only [List.getElem_toArray, List.getElem_cons_zero, List.getElem_cons_succ, Act.put, List.setIfInBounds_toArray, List.set_cons_zero, List.set_cons_succ]
    refine wpAnyH_take (i := 3) (v := .map (some ba)) rfl (by kernel_rfl) (by kernel_rfl) (by kernel_rfl) (fun _ _ _ h => h) (.inl ⟨by rfl, ?_⟩) (by assumption) ?_
    · intro W hW; have h0 := C1.out W hW; go_simp
    try simp only [List.getElem_toArray, List.getElem_cons_zero, List.getElem_cons_succ, Act.put, List.setIfInBounds_toArray, List.set_cons_zero, List.set_cons_succ]
    refine wpAnyH_take (i := 4) (v := .pointer (some ⟨w.heap.size, 0, none⟩)) rfl (by kernel_rfl) (by kernel_rfl) (by kernel_rfl) (fun _ _ _ h => h) (.inl ⟨by rfl, ?_⟩) (by assumption) ?_
    · intro W hW; go_simp
    try simp only [List.getElem_toArray, List.getElem_cons_zero, List.getElem_cons_succ, Act.put, List.setIfInBounds_toArray, List.set_cons_zero, List.set_cons_succ]
    refine wpAnyH_take (i := 5) (v := .int .u32 a.nu) rfl (by kernel_rfl) (by kernel_rfl) (by kernel_rfl) (fun _ _ _ h => h) (.inl ⟨by rfl, ?_⟩) (by assumption) ?_
    · intro W hW; have h0 := A0.out W hW; go_simp
    try simp only [List.getElem_toArray, List.getElem_cons_zero, List.getElem_cons_succ, Act.put, List.setIfInBounds_toArray, List.set_cons_zero, List.set_cons_succ]
    refine wpAnyH_take (i := 6) (v := .agg (EA.cells a).toArray) rfl (by kernel_rfl) (by kernel_rfl) (by kernel_rfl) (fun _ _ _ h => h) (gyields_load TA (by rfl) (.tmp 3) rfl w.heap.size 0 rfl RA.out) (by assumption) ?_
    try simp only [List.getElem_toArray, List.getElem_cons_zero, List.getElem_cons_succ, Act.put, List.setIfInBounds_toArray, List.set_cons_zero, List.set_cons_succ]
    refine wpAnyH_ready (rs := [7]) (by decide +kernel) (by simp) (AllReadyH.cons rfl (fun KQ hK => ?_) AllReadyH.nil)
    rw [if_pos (by rfl)]
    refine wp9_put (M := MA) (.tmp 15) (.tmp 17) (.tmp 18) _ rfl Try.underlying57 rfl M1.out a rfl rfl HU.out ?_; intro W2 m2 f2
    refine hK.out _ _ (hH.same f2) (fun _ => ?_)
    clear hK
    try simp only [List.getElem_toArray, List.getElem_cons_zero, List.getElem_cons_succ, Act.put, List.setIfInBounds_toArray, List.set_cons_zero, List.set_cons_succ]
    refine wpAnyH_done (by decide +kernel) ?_ _
    have F2 := Lib.hid (hH.same f2)
    have MM := Lib.hid m2
    clear hH f2 m2
    go_wp2_with fail
    refine bodyPost_end (results_none rfl _ _ _) rfl ?_
    exact ⟨rfl, FIN.out W2 F2.out MM.out⟩
theorem hold_inv {L : Lg} {p : Po} (h : LgI L) (hc : 1 ≤ p.co ∧ p.co ≤ 4294967295) (hb : inB p = true) (ht : ∃ a, a ∈ L.al ∧ a.nu = p.ac) : LgI ⟨L.fund, L.al, holdL L.hl p⟩ := by
  refine ⟨h.fund, h.aok, h.asr, h.len, h.psr.hold p, fun x hx => ?_, fun x hx => ?_⟩
  · rcases mem_hold hx with ⟨rfl, e⟩ | ⟨hx, _⟩
    · obtain ⟨a, ha, e2⟩ := ht
      have := (h.aok a ha).1
      unfold inB at hb
      simp only [Bool.and_eq_true, decide_eq_true_eq] at hb
      exact ⟨⟨hc, by omega, by omega⟩, hb, e⟩
    · exact h.pok x hx
  · rcases mem_hold hx with ⟨rfl, e⟩ | ⟨hx, _⟩
    · exact ht
    · exact h.held x hx
set_option maxRecDepth 100000 in
set_option maxHeartbeats 4000000 in
theorem lkeep9 {g ba bp : Nat} {L : Lg} (p : Po) (w : World) (h : Dl w g ba bp L) (hu : U32' p.co ∧ U32' p.ac) (hi : LgI ⟨L.fund, L.al, holdL L.hl p⟩) :
    Calls Try.prog 37 #[.pointer (some ⟨g, 0, none⟩), .agg (EP.cells p).toArray] w fun e w' => e = .returned (.tuple #[]) ∧ Dl w' g ba bp ⟨L.fund, L.al, holdL L.hl p⟩ ∧ Fr (fun k => k = bp) w w' := by
  have hz := zero_place
  obtain ⟨W1, hW1⟩ : ∃ W1, w.alloc (.cells (EP.cells p).toArray 47) = W1 := ⟨_, rfl⟩
  have b1 : Below w.heap.size w W1 := by rw [← hW1]; exact below_new w _
  have x1 : EP.Bx 47 W1 w.heap.size p := by rw [← hW1]; exact gbx_new w _
  obtain ⟨W2, hW2⟩ : ∃ W2, W1.alloc (.cells #[.int .u32 p.co, .int .u32 p.ac] 79) = W2 := ⟨_, rfl⟩
  have b2 : Below W1.heap.size W1 W2 := by rw [← hW2]; exact below_new W1 _
  have y2 : W2.heap[W1.heap.size]? = some (.cells #[.int .u32 p.co, .int .u32 p.ac] 79 (0, 0)) := by rw [← hW2]; exact heap_alloc_new W1 _
  have x2 := gbx_below x1 b2
  have b12 := b1.trans (b2.mono b1.size)
  have h1 := h.below b12
  have k0 : W1.cell? ⟨w.heap.size, 0, none⟩ = some (.int .u32 p.co) := gbx_cell x1 0
  have k1 : W1.cell? ⟨w.heap.size, 1, none⟩ = some (.int .u32 p.ac) := gbx_cell x1 1
  have k2 : (W1.alloc (.cells #[.int .u32 p.co, .int .u32 p.ac] 79)).cell? ⟨w.heap.size, 2, none⟩ = some (.int .i64 p.q) := by rw [hW2]; exact gbx_cell x2 2
  have k3 : (W1.alloc (.cells #[.int .u32 p.co, .int .u32 p.ac] 79)).cell? ⟨w.heap.size, 3, none⟩ = some (.int .i64 p.b) := by rw [hW2]; exact gbx_cell x2 3
  have HW := Lib.hid hW1
  have HW2 := Lib.hid hW2
  have HU : Hid (MP.ok (p.co, p.ac)) := Lib.hid hu
  have s1 : W1.heap.size = w.heap.size + 1 := by rw [← hW1]; simp
  have ng : w.heap.size ≠ bp := by have := h.mp.lt; omega
  have ng1 : W1.heap.size ≠ bp := by have := h.mp.lt; omega
  have C2 : Hid (∀ W, Fr (fun k => k = bp) W2 W → W.cell? ⟨g, 2, none⟩ = some (.map (some bp))) := Lib.hid fun W f => cell_fr h1.c2 f h1.np
  have RK : Hid (∀ W, Fr (fun k => k = bp) W2 W → W.rangeAt W1.heap.size 0 [.int .u32 p.co, .int .u32 p.ac]) := Lib.hid fun W f => rng_fr (fun j u hj => by
    rw [Nat.zero_add, cell_of_row _ _ _ _ _ _ y2]; simpa using hj) f ng1
  have RP : Hid (∀ W, Fr (fun k => k = bp) W2 W → W.rangeAt w.heap.size 0 (EP.cells p)) := Lib.hid fun W f => rng_fr (gbx_rng x2) f ng
  have M1 : Hid (MP.Mp W2.drew bp L.hl) := Lib.hid h1.mp
  have FN : ∀ W, Fr (fun k => k = bp) W2 W → MP.Mp W bp (holdL L.hl p) → Dl W g ba bp ⟨L.fund, L.al, holdL L.hl p⟩ ∧ Fr (fun k => k = bp) w W := fun W f m =>
    ⟨⟨(f.at' g h1.gl h1.np).trans h1.blk, h1.ma.fr f h1.ne, m, h1.ne, hi⟩, (Fr.below b12).same f⟩
  cases hg : goneP p
  · have e := hold_perm (hl := L.hl) hg
    have FIN : Hid (∀ W, Fr (fun k => k = bp) W2 W → MP.Mp W bp (p :: MP.but L.hl (p.co, p.ac)) → Dl W g ba bp ⟨L.fund, L.al, holdL L.hl p⟩ ∧ Fr (fun k => k = bp) w W) := Lib.hid fun W f m => FN W f (m.perm e.symm)
    clear h h1 b1 x1 hW1 hu hi ng ng1 e FN hW2 b2 y2 x2 b12 s1
    have hgq : (p.q == 0) = false ∨ (p.q == 0) = true ∧ (p.b == 0) = false := by
      unfold goneP at hg
      cases c : (p.q == 0)
      · exact .inl rfl
      · rw [c] at hg; exact .inr ⟨rfl, by simpa using hg⟩
    clear hg
    rcases hgq with hq | ⟨hq, hb⟩
    · have hq2 : decide (p.q = 0) = false := by simpa using hq
      go_enter Try.func37, Try.ntmps37
      go_wp2_with (first | (rw [HW.out]))
      rw [HW2.out]
      refine wp_region_held_drew (S := fun U => Fr (fun k => k = bp) W2 U) (by kernel_rfl) (Fr.drewN (Fr.refl _ _) 1) (fun hH => ?_)
      refine wpAnyH_take (i := 0) (v := .pointer (some ⟨g, 0, none⟩)) rfl (by kernel_rfl) (by kernel_rfl) (by kernel_rfl) (fun _ _ _ h => h) (.inl ⟨by rfl, ?_⟩) (by assumption) ?_
      · intro W hW; go_simp
      try simp only [List.getElem_toArray, List.getElem_cons_zero, List.getElem_cons_succ, Act.put, List.setIfInBounds_toArray, List.set_cons_zero, List.set_cons_succ]
      refine wpAnyH_take (i := 1) (v := .pointer (some ⟨g, 0, none⟩)) rfl (by kernel_rfl) (by kernel_rfl) (by kernel_rfl) (fun _ _ _ h => h) (.inl ⟨by rfl, ?_⟩) (by assumption) ?_
      · intro W hW; go_simp
      try simp only [List.getElem_toArray, List.getElem_cons_zero, List.getElem_cons_succ, Act.put, List.setIfInBounds_toArray, List.set_cons_zero, List.set_cons_succ]
      refine wpAnyH_take (i := 2) (v := .pointer (some ⟨g, 2, none⟩)) rfl (by kernel_rfl) (by kernel_rfl) (by kernel_rfl) (fun _ _ _ h => h) (.inl ⟨by rfl, ?_⟩) (by assumption) ?_
      · intro W hW; go_simp
      try simp only [List.getElem_toArray, List.getElem_cons_zero, List.getElem_cons_succ, Act.put, List.setIfInBounds_toArray, List.set_cons_zero, List.set_cons_succ]
      refine wpAnyH_take (i := 3) (v := .map (some bp)) rfl (by kernel_rfl) (by kernel_rfl) (by kernel_rfl) (fun _ _ _ h => h) (.inl ⟨by rfl, ?_⟩) (by assumption) ?_
      · intro W hW; have h0 := C2.out W hW; go_simp
      try simp only [List.getElem_toArray, List.getElem_cons_zero, List.getElem_cons_succ, Act.put, List.setIfInBounds_toArray, List.set_cons_zero, List.set_cons_succ]
      refine wpAnyH_take (i := 4) (v := .agg #[.int .u32 p.co, .int .u32 p.ac]) rfl (by kernel_rfl) (by kernel_rfl) (by kernel_rfl) (fun _ _ _ h => h) (yields_place (by rfl) (.tmp 4) rfl _ rfl RK.out) (by assumption) ?_
      try simp only [List.getElem_toArray, List.getElem_cons_zero, List.getElem_cons_succ, Act.put, List.setIfInBounds_toArray, List.set_cons_zero, List.set_cons_succ]
      refine wpAnyH_take (i := 5) (v := .agg (EP.cells p).toArray) rfl (by kernel_rfl) (by kernel_rfl) (by kernel_rfl) (fun _ _ _ h => h) (gyields_load TP (by rfl) (.tmp 3) rfl w.heap.size 0 rfl RP.out) (by assumption) ?_
      try simp only [List.getElem_toArray, List.getElem_cons_zero, List.getElem_cons_succ, Act.put, List.setIfInBounds_toArray, List.set_cons_zero, List.set_cons_succ]
      refine wpAnyH_ready (rs := [6]) (by decide +kernel) (by simp) (AllReadyH.cons rfl (fun KQ hK => ?_) AllReadyH.nil)
      rw [if_pos (by rfl)]
      refine wp9_put (M := MP) (.tmp 26) (.tmp 27) (.tmp 28) _ rfl Try.underlying58 rfl M1.out p rfl rfl HU.out ?_; intro W2 m2 f2
      refine hK.out _ _ (hH.same f2) (fun _ => ?_)
      clear hK
      try simp only [List.getElem_toArray, List.getElem_cons_zero, List.getElem_cons_succ, Act.put, List.setIfInBounds_toArray, List.set_cons_zero, List.set_cons_succ]
      refine wpAnyH_done (by decide +kernel) ?_ _
      have F2 := Lib.hid (hH.same f2)
      have MM := Lib.hid m2
      clear hH f2 m2
      go_wp2_with fail
      refine bodyPost_end (results_none rfl _ _ _) rfl ?_
      exact ⟨rfl, FIN.out W2 F2.out MM.out⟩
    · have hq2 : decide (p.q = 0) = true := by simpa using hq
      have hb2 : decide (p.b = 0) = false := by simpa using hb
      go_enter Try.func37, Try.ntmps37
      go_wp2_with (first | (rw [HW.out]))
      rw [HW2.out]
      refine wp_region_held_drew (S := fun U => Fr (fun k => k = bp) W2 U) (by kernel_rfl) (Fr.drewN (Fr.refl _ _) 1) (fun hH => ?_)
      refine wpAnyH_take (i := 0) (v := .pointer (some ⟨g, 0, none⟩)) rfl (by kernel_rfl) (by kernel_rfl) (by kernel_rfl) (fun _ _ _ h => h) (.inl ⟨by rfl, ?_⟩) (by assumption) ?_
      · intro W hW; go_simp
      try simp only [List.getElem_toArray, List.getElem_cons_zero, List.getElem_cons_succ, Act.put, List.setIfInBounds_toArray, List.set_cons_zero, List.set_cons_succ]
      refine wpAnyH_take (i := 1) (v := .pointer (some ⟨g, 0, none⟩)) rfl (by kernel_rfl) (by kernel_rfl) (by kernel_rfl) (fun _ _ _ h => h) (.inl ⟨by rfl, ?_⟩) (by assumption) ?_
      · intro W hW; go_simp
      try simp only [List.getElem_toArray, List.getElem_cons_zero, List.getElem_cons_succ, Act.put, List.setIfInBounds_toArray, List.set_cons_zero, List.set_cons_succ]
      refine wpAnyH_take (i := 2) (v := .pointer (some ⟨g, 2, none⟩)) rfl (by kernel_rfl) (by kernel_rfl) (by kernel_rfl) (fun _ _ _ h => h) (.inl ⟨by rfl, ?_⟩) (by assumption) ?_
      · intro W hW; go_simp
      try simp only [List.getElem_toArray, List.getElem_cons_zero, List.getElem_cons_succ, Act.put, List.setIfInBounds_toArray, List.set_cons_zero, List.set_cons_succ]
      refine wpAnyH_take (i := 3) (v := .map (some bp)) rfl (by kernel_rfl) (by kernel_rfl) (by kernel_rfl) (fun _ _ _ h => h) (.inl ⟨by rfl, ?_⟩) (by assumption) ?_
      · intro W hW; have h0 := C2.out W hW; go_simp
      try simp only [List.getElem_toArray, List.getElem_cons_zero, List.getElem_cons_succ, Act.put, List.setIfInBounds_toArray, List.set_cons_zero, List.set_cons_succ]
      refine wpAnyH_take (i := 4) (v := .agg #[.int .u32 p.co, .int .u32 p.ac]) rfl (by kernel_rfl) (by kernel_rfl) (by kernel_rfl) (fun _ _ _ h => h) (yields_place (by rfl) (.tmp 4) rfl _ rfl RK.out) (by assumption) ?_
      try simp only [List.getElem_toArray, List.getElem_cons_zero, List.getElem_cons_succ, Act.put, List.setIfInBounds_toArray, List.set_cons_zero, List.set_cons_succ]
      refine wpAnyH_take (i := 5) (v := .agg (EP.cells p).toArray) rfl (by kernel_rfl) (by kernel_rfl) (by kernel_rfl) (fun _ _ _ h => h) (gyields_load TP (by rfl) (.tmp 3) rfl w.heap.size 0 rfl RP.out) (by assumption) ?_
      try simp only [List.getElem_toArray, List.getElem_cons_zero, List.getElem_cons_succ, Act.put, List.setIfInBounds_toArray, List.set_cons_zero, List.set_cons_succ]
      refine wpAnyH_ready (rs := [6]) (by decide +kernel) (by simp) (AllReadyH.cons rfl (fun KQ hK => ?_) AllReadyH.nil)
      rw [if_pos (by rfl)]
      refine wp9_put (M := MP) (.tmp 26) (.tmp 27) (.tmp 28) _ rfl Try.underlying58 rfl M1.out p rfl rfl HU.out ?_; intro W2 m2 f2
      refine hK.out _ _ (hH.same f2) (fun _ => ?_)
      clear hK
      try simp only [List.getElem_toArray, List.getElem_cons_zero, List.getElem_cons_succ, Act.put, List.setIfInBounds_toArray, List.set_cons_zero, List.set_cons_succ]
      refine wpAnyH_done (by decide +kernel) ?_ _
      have F2 := Lib.hid (hH.same f2)
      have MM := Lib.hid m2
      clear hH f2 m2
      go_wp2_with fail
      refine bodyPost_end (results_none rfl _ _ _) rfl ?_
      exact ⟨rfl, FIN.out W2 F2.out MM.out⟩
  · have e := hold_gone (hl := L.hl) hg
    have FIN : Hid (∀ W, Fr (fun k => k = bp) W2 W → MP.Mp W bp (MP.but L.hl (p.co, p.ac)) → Dl W g ba bp ⟨L.fund, L.al, holdL L.hl p⟩ ∧ Fr (fun k => k = bp) w W) := Lib.hid fun W f m => FN W f (by rw [e]; exact m)
    clear h h1 b1 x1 hW1 hu hi ng ng1 e FN hW2 b2 y2 x2 b12 s1
    have hgq : (p.q == 0) = true ∧ (p.b == 0) = true := by
      unfold goneP at hg
      simpa using hg
    clear hg
    obtain ⟨hq, hb⟩ := hgq
    have hq2 : decide (p.q = 0) = true := by simpa using hq
    have hb2 : decide (p.b = 0) = true := by simpa using hb
    go_enter Try.func37, Try.ntmps37
    go_wp2_with (first | (rw [HW.out]))
    rw [HW2.out]
    refine wp_region_held_drew (S := fun U => Fr (fun k => k = bp) W2 U) (by kernel_rfl) (Fr.drewN (Fr.refl _ _) 1) (fun hH => ?_)
    refine wpAnyH_take (i := 0) (v := .pointer (some ⟨g, 0, none⟩)) rfl (by kernel_rfl) (by kernel_rfl) (by kernel_rfl) (fun _ _ _ h => h) (.inl ⟨by rfl, ?_⟩) (by assumption) ?_
    · intro W hW; go_simp
    try simp only [List.getElem_toArray, List.getElem_cons_zero, List.getElem_cons_succ, Act.put, List.setIfInBounds_toArray, List.set_cons_zero, List.set_cons_succ]
    refine wpAnyH_take (i := 1) (v := .pointer (some ⟨g, 0, none⟩)) rfl (by kernel_rfl) (by kernel_rfl) (by kernel_rfl) (fun _ _ _ h => h) (.inl ⟨by rfl, ?_⟩) (by assumption) ?_
    · intro W hW; go_simp
    try simp only [List.getElem_toArray, List.getElem_cons_zero, List.getElem_cons_succ, Act.put, List.setIfInBounds_toArray, List.set_cons_zero, List.set_cons_succ]
    refine wpAnyH_take (i := 2) (v := .pointer (some ⟨g, 2, none⟩)) rfl (by kernel_rfl) (by kernel_rfl) (by kernel_rfl) (fun _ _ _ h => h) (.inl ⟨by rfl, ?_⟩) (by assumption) ?_
    · intro W hW; go_simp
    try simp only [List.getElem_toArray, List.getElem_cons_zero, List.getElem_cons_succ, Act.put, List.setIfInBounds_toArray, List.set_cons_zero, List.set_cons_succ]
    refine wpAnyH_take (i := 3) (v := .map (some bp)) rfl (by kernel_rfl) (by kernel_rfl) (by kernel_rfl) (fun _ _ _ h => h) (.inl ⟨by rfl, ?_⟩) (by assumption) ?_
    · intro W hW; have h0 := C2.out W hW; go_simp
    try simp only [List.getElem_toArray, List.getElem_cons_zero, List.getElem_cons_succ, Act.put, List.setIfInBounds_toArray, List.set_cons_zero, List.set_cons_succ]
    refine wpAnyH_take (i := 4) (v := .agg #[.int .u32 p.co, .int .u32 p.ac]) rfl (by kernel_rfl) (by kernel_rfl) (by kernel_rfl) (fun _ _ _ h => h) (yields_place (by rfl) (.tmp 4) rfl _ rfl RK.out) (by assumption) ?_
    try simp only [List.getElem_toArray, List.getElem_cons_zero, List.getElem_cons_succ, Act.put, List.setIfInBounds_toArray, List.set_cons_zero, List.set_cons_succ]
    refine wpAnyH_ready (rs := [5]) (by decide +kernel) (by simp) (AllReadyH.cons rfl (fun KQ hK => ?_) AllReadyH.nil)
    rw [if_pos (by rfl)]
    refine wp9_del (M := MP) (.tmp 21) (.tmp 22) _ rfl Try.underlying58 rfl M1.out (c := (p.co, p.ac)) rfl HU.out ?_; intro W2 m2 f2
    refine hK.out _ _ (hH.same f2) (fun _ => ?_)
    clear hK
    try simp only [List.getElem_toArray, List.getElem_cons_zero, List.getElem_cons_succ, Act.put, List.setIfInBounds_toArray, List.set_cons_zero, List.set_cons_succ]
    refine wpAnyH_done (by decide +kernel) ?_ _
    have F2 := Lib.hid (hH.same f2)
    have MM := Lib.hid m2
    clear hH f2 m2
    go_wp2_with fail
    refine bodyPost_ret (results_none rfl _ _ _) rfl ?_
    exact ⟨rfl, FIN.out W2 F2.out MM.out⟩
end Go.Proofs.Ythnmpnepgagmmaa
