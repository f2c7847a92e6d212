/- The program's ledger: Accounts, Held: what they tell. -/
import Derived.Test.YthnmpnepgagmmaaMl
import Derived.Test.YthnmpnepgagmmaaMm
import Derived.Test.YthnmpnepgagmmaaMg
namespace Go.Proofs.Ythnmpnepgagmmaa
open Go.RowKit Go.Shelf
set_option linter.unusedVariables false
set_option linter.unusedSimpArgs false
set_option linter.unusedSectionVars false

/-- A ledger's own block: which maps it has. -/
def Lb (W : World) (g ba bp : Nat) : Prop := ∃ fu : Int, W.heap[g]? = some (.cells #[.int .i64 fu, .map (some ba), .map (some bp)] 60 (0, 0))
section
variable {W W' : World} {g ba bp : Nat} {L : Lg}
theorem Dl.lb (h : Dl W g ba bp L) : Lb W g ba bp := ⟨_, h.blk⟩
theorem Lb.same (h : Lb W g ba bp) (e : W'.heap[g]? = W.heap[g]?) : Lb W' g ba bp := by
  obtain ⟨fu, hb⟩ := h
  exact ⟨fu, e.trans hb⟩
theorem Lb.c1 (h : Lb W g ba bp) : W.cell? ⟨g, 1, none⟩ = some (.map (some ba)) := by
  obtain ⟨fu, hb⟩ := h
  rw [cell_of_row _ _ _ _ _ _ hb]; rfl
theorem Lb.c2 (h : Lb W g ba bp) : W.cell? ⟨g, 2, none⟩ = some (.map (some bp)) := by
  obtain ⟨fu, hb⟩ := h
  rw [cell_of_row _ _ _ _ _ _ hb]; rfl
theorem Lb.gl (h : Lb W g ba bp) : g < W.heap.size := by
  obtain ⟨fu, hb⟩ := h
  exact (Array.getElem?_eq_some_iff.1 hb).1
theorem Lb.cells (h : Lb W g ba bp) : ∃ cs t f, W.heap[g]? = some (.cells cs t f) := by
  obtain ⟨fu, hb⟩ := h
  exact ⟨_, _, _, hb⟩
theorem lmissb9 (h : Lb W g ba bp) : Calls Try.prog 28 #[.pointer (some ⟨g, 0, none⟩)] W fun e w' => e = .returned (.bool false) ∧ W = w' := by
  have c1 := h.c1
  have hq := fun w => eqmap9 (P := Try.prog) Try.underlying57 (some ba) w
  clear h
  go_enter Try.func28, Try.ntmps28
  go_wp2_with fail
  go_ret
  exact ⟨rfl, rfl⟩
theorem lallA9 (h : Lb W g ba bp) : Calls Try.prog 57 #[.pointer (some ⟨g, 0, none⟩)] W fun e w' => e = .returned (.map (some ba)) ∧ W = w' := by
  have c1 := h.c1
  have M := Lib.hid (lmissb9 h)
  clear h
  go_enter Try.func57, Try.ntmps57
  go_wp2_with fail
  refine M.out.mono ?_; rintro e w2 ⟨rfl, rfl⟩
  go_wp2_with fail
  go_ret
  exact ⟨rfl, rfl⟩
theorem lallP9 (h : Lb W g ba bp) : Calls Try.prog 60 #[.pointer (some ⟨g, 0, none⟩)] W fun e w' => e = .returned (.map (some bp)) ∧ W = w' := by
  have c2 := h.c2
  have M := Lib.hid (lmissb9 h)
  clear h
  go_enter Try.func60, Try.ntmps60
  go_wp2_with fail
  refine M.out.mono ?_; rintro e w2 ⟨rfl, rfl⟩
  go_wp2_with fail
  go_ret
  exact ⟨rfl, rfl⟩
end
theorem lnumA9 (x : Ac) (w : World) : Calls Try.prog 55 #[.agg (EA.cells x).toArray] w fun e w' => e = .returned (.int .u32 x.nu) ∧ Below w.heap.size w w' := by
  have k0 : (w.alloc (.cells (EA.cells x).toArray 33)).cell? ⟨w.heap.size, 0, none⟩ = some (.int .u32 x.nu) := gbx_cell (gbx_new (E := EA) (te := 33) w x) 0
  have b := Lib.hid (below_new w (.cells (EA.cells x).toArray 33))
  generalize x.nu = nu at *
  go_enter Try.func55, Try.ntmps55
  go_wp2_with fail
  go_ret
  exact ⟨rfl, b.out⟩
/-- The number of a position among those of one account. -/
def numP (a : Int) (p : Po) : Int := if p.ac = a then p.co else 0
theorem lnumP9 (x : Po) (a : Int) (C : Nat) (w : World) (hC : w.cell? ⟨C, 0, none⟩ = some (.int .u32 a)) : Calls Try.prog 58 #[.agg (EP.cells x).toArray, .pointer (some ⟨C, 0, none⟩)] w fun e w' => e = .returned (.int .u32 (numP a x)) ∧ Below w.heap.size w w' := by
  have hx := gbx_new (E := EP) (te := 47) w x
  have k0 : (w.alloc (.cells (EP.cells x).toArray 47)).cell? ⟨w.heap.size, 0, none⟩ = some (.int .u32 x.co) := gbx_cell hx 0
  have k1 : (w.alloc (.cells (EP.cells x).toArray 47)).cell? ⟨w.heap.size, 1, none⟩ = some (.int .u32 x.ac) := gbx_cell hx 1
  have kC : (w.alloc (.cells (EP.cells x).toArray 47)).cell? ⟨C, 0, none⟩ = some (.int .u32 a) := cell_below hC (below_new w _) (Nat.le_refl _)
  have b := Lib.hid (below_new w (.cells (EP.cells x).toArray 47))
  have E : Hid (numP a x = if x.ac = a then x.co else 0) := Lib.hid rfl
  rw [E.out]
  clear E hx hC
  generalize x.co = co at *
  generalize x.ac = ac at *
  by_cases h : ac = a
  · have d1 : decide (ac = a) = true := decide_eq_true h
    have d2 : (ac == a) = true := by simpa using h
    have d3 : (ac != a) = false := by simpa using h
    rw [if_pos h]
    clear h
    go_enter Try.func58, Try.ntmps58
    go_wp2_with fail
    go_ret
    exact ⟨rfl, b.out⟩
  · have d1 : decide (ac = a) = false := decide_eq_false h
    have d2 : (ac == a) = false := by simpa using h
    have d3 : (ac != a) = true := by simpa using h
    rw [if_neg h]
    clear h
    go_enter Try.func58, Try.ntmps58
    go_wp2_with fail
    go_ret
    exact ⟨rfl, b.out⟩
theorem risA {L : Lg} (h : LgI L) : Ris Ac.nu L.al L.al := ⟨h.asr, fun x => ⟨fun hx => ⟨hx, by have := (h.aok x hx).1; omega⟩, fun hx => hx.1⟩⟩
theorem risP {L : Lg} (h : LgI L) (a : Int) : Ris (numP a) L.hl (ofH L.hl a) := by
  refine ⟨?_, fun x => ?_⟩
  · have h1 : (ofH L.hl a).Pairwise ltP := h.psr.filter _
    refine List.Pairwise.imp_of_mem (fun {x y} hx hy hl => ?_) h1
    have ex : x.ac = a := by simpa using (List.mem_filter.1 hx).2
    have ey : y.ac = a := by simpa using (List.mem_filter.1 hy).2
    unfold numP
    rw [if_pos ex, if_pos ey]
    unfold ltP at hl
    omega
  · unfold ofH
    rw [List.mem_filter]
    unfold numP
    constructor
    · rintro ⟨hx, e⟩
      have e' : x.ac = a := by simpa using e
      rw [if_pos e']
      exact ⟨hx, by have := (h.pok x hx).1.1; omega⟩
    · rintro ⟨hx, e⟩
      refine ⟨hx, ?_⟩
      split at e
      · rename_i c; simpa using c
      · omega
/-- A value that is ranged over tells just these, in their order. -/
def TellsN {α : Type} (enc : α → Array Value) (W : World) (T : Nat → Prop) (gf : Nat) (lb : Array Value) (ls : List α) : Prop :=
  ∀ (W2 : World) (S : World → Nat → Prop) (n N0 : Nat), Fr (fun k => ¬ T k) W W2 → Still S W2.heap.size → (∀ k, T k → k < N0 ∨ ∃ cs t f, W2.heap[k]? = some (.cells cs t f)) → (∀ k, S W2 k → k < W2.heap.size) → (∀ k, T k → ¬ S W2 k) → 1 ≤ n →
    SeqN Fence.wide n Try.prog gf lb enc S (fun xs => xs = ls) (fun pre => pre <+: ls) (fun xs => xs <+: ls) N0 W2
def AllN {α : Type} (enc : α → Array Value) (w : World) (F : Nat → Prop) (ls : List α) (e : Ending) (w' : World) : Prop :=
  ∃ gf lb T, e = .returned (.func (.func gf) #[] lb) ∧ Below w.heap.size w w' ∧ Enters Try.prog gf ∧ (∀ k, T k → k < w'.heap.size ∧ (F k ∨ w.heap.size ≤ k ∧ ∃ cs t f, w'.heap[k]? = some (.cells cs t f))) ∧ TellsN enc w' T gf lb ls
abbrev encA (x : Ac) : Array Value := #[.agg (EA.cells x).toArray]
abbrev encP (x : Po) : Array Value := #[.agg (EP.cells x).toArray]
theorem enters_allA : Enters Try.prog 57 := enters_of Try.func57 (by kernel_rfl) rfl
theorem enters_allP : Enters Try.prog 60 := enters_of Try.func60 (by kernel_rfl) rfl
theorem enters_numA : Enters Try.prog 55 := enters_of Try.func55 (by kernel_rfl) rfl
theorem enters_numP : Enters Try.prog 58 := enters_of Try.func58 (by kernel_rfl) rfl
theorem enters_risA : Enters Try.prog 65 := enters_of Try.func65 (by kernel_rfl) rfl
theorem enters_risP : Enters Try.prog 67 := enters_of Try.func67 (by kernel_rfl) rfl
theorem enters_hold : Enters Try.prog 53 := enters_of Try.func53 (by kernel_rfl) rfl
theorem lrisCA9 (f1 f2 : Nat) (b1 b2 l1 l2 : Array Value) (w : World) : Calls Try.prog 56 #[.func (.func f1) b1 l1, .func (.func f2) b2 l2] w fun e w' => e = .returned (.func (.func 65) #[] #[.pointer (some ⟨w.heap.size, 0, none⟩), .pointer (some ⟨w.heap.size + 1, 0, none⟩)]) ∧
    w' = (w.alloc (.cells #[.func (.func f1) b1 l1] 91)).alloc (.cells #[.func (.func f2) b2 l2] 89) := by
  go_enter Try.func56, Try.ntmps56
  go_wp2_with fail
  go_ret
  exact ⟨by simp, rfl⟩
theorem lrisCP9 (f1 f2 : Nat) (b1 b2 l1 l2 : Array Value) (w : World) : Calls Try.prog 59 #[.func (.func f1) b1 l1, .func (.func f2) b2 l2] w fun e w' => e = .returned (.func (.func 67) #[] #[.pointer (some ⟨w.heap.size, 0, none⟩), .pointer (some ⟨w.heap.size + 1, 0, none⟩)]) ∧
    w' = (w.alloc (.cells #[.func (.func f1) b1 l1] 94)).alloc (.cells #[.func (.func f2) b2 l2] 92) := by
  go_enter Try.func59, Try.ntmps59
  go_wp2_with fail
  go_ret
  exact ⟨by simp, rfl⟩
theorem laccC9 (p : Option Addr) (w : World) : Calls Try.prog 43 #[.pointer p] w fun e w' => e = .returned (.func (.func 65) #[] #[.pointer (some ⟨w.heap.size, 0, none⟩), .pointer (some ⟨w.heap.size + 1, 0, none⟩)]) ∧
    w' = (w.alloc (.cells #[.func (.func 57) #[.pointer p] #[]] 91)).alloc (.cells #[.func (.func 55) #[] #[]] 89) := by
  go_enter Try.func43, Try.ntmps43
  go_wp2_with fail
  refine (lrisCA9 _ _ _ _ _ _ w).mono ?_; rintro e w2 ⟨rfl, rfl⟩
  go_wp2_with fail
  go_ret
  exact ⟨rfl, rfl⟩
theorem lheldC9 (p : Option Addr) (a : Int) (w : World) : Calls Try.prog 45 #[.pointer p, .int .u32 a] w fun e w' => e = .returned (.func (.func 67) #[] #[.pointer (some ⟨w.heap.size + 1, 0, none⟩), .pointer (some ⟨w.heap.size + 1 + 1, 0, none⟩)]) ∧
    w' = ((w.alloc (.cells #[.int .u32 a] 31)).alloc (.cells #[.func (.func 60) #[.pointer p] #[]] 94)).alloc (.cells #[.func (.func 58) #[] #[.pointer (some ⟨w.heap.size, 0, none⟩)]] 92) := by
  go_enter Try.func45, Try.ntmps45
  go_wp2_with fail
  refine (lrisCP9 _ _ _ _ _ _ _).mono ?_; rintro e w2 ⟨rfl, rfl⟩
  go_wp2_with fail
  go_ret
  exact ⟨by simp, rfl⟩
theorem lholdC9 (p : Option Addr) (c : Int) (w : World) : Calls Try.prog 39 #[.pointer p, .int .u32 c] w fun e w' => e = .returned (.func (.func 53) #[] #[.pointer (some ⟨w.heap.size, 0, none⟩), .pointer (some ⟨w.heap.size + 1, 0, none⟩)]) ∧
    w' = (w.alloc (.cells #[.pointer p] 23)).alloc (.cells #[.int .u32 c] 31) := by
  go_enter Try.func39, Try.ntmps39
  go_wp2_with fail
  go_ret
  exact ⟨by simp, rfl⟩
theorem two_bx (w : World) (v1 v2 : Value) (t1 t2 : TypeId) : ∃ W, (w.alloc (.cells #[v1] t1)).alloc (.cells #[v2] t2) = W ∧ Below w.heap.size w W ∧ W.heap[w.heap.size]? = some (.cells #[v1] t1 (0, 0)) ∧ W.heap[w.heap.size + 1]? = some (.cells #[v2] t2 (0, 0)) := by
  generalize h1 : w.alloc (.cells #[v1] t1) = W1
  have e1 : W1.heap[w.heap.size]? = some (.cells #[v1] t1 (0, 0)) := h1 ▸ heap_alloc_new w _
  have s1 : W1.heap.size = w.heap.size + 1 := by rw [← h1]; simp
  have q1 : Below w.heap.size w W1 := h1 ▸ below_new w _
  generalize h2 : W1.alloc (.cells #[v2] t2) = W2
  have e2 : W2.heap[W1.heap.size]? = some (.cells #[v2] t2 (0, 0)) := h2 ▸ heap_alloc_new W1 _
  have q2 : Below W1.heap.size W1 W2 := h2 ▸ below_new W1 _
  rw [s1] at e2
  exact ⟨W2, rfl, q1.trans (q2.mono (by omega)), (q2.block _ (by omega)).trans e1, e2⟩
theorem laccts9 {w : World} {g ba bp : Nat} {L : Lg} (h : Lb w g ba bp) (hm : MA.Mp w ba L.al) (hi : LgI L) : Calls Try.prog 43 #[.pointer (some ⟨g, 0, none⟩)] w (AllN encA w (fun k => k = g ∨ k = ba) L.al) := by
  refine (laccC9 _ w).mono ?_
  rintro e w' ⟨rfl, hw⟩
  obtain ⟨W, hW, b, e1, e2⟩ := two_bx w (.func (.func 57) #[.pointer (some ⟨g, 0, none⟩)] #[]) (.func (.func 55) #[] #[]) 91 89
  rw [hW] at hw
  subst hw
  have l1 := (Array.getElem?_eq_some_iff.1 e1).1
  have l2 := (Array.getElem?_eq_some_iff.1 e2).1
  refine ⟨_, _, fun k => k = w.heap.size ∨ k = w.heap.size + 1 ∨ k = g ∨ k = ba, rfl, b, enters_risA, fun k hk => ?_, ?_⟩
  · rcases hk with rfl | rfl | rfl | rfl
    · exact ⟨l1, .inr ⟨Nat.le_refl _, _, _, _, e1⟩⟩
    · exact ⟨l2, .inr ⟨Nat.le_succ _, _, _, _, e2⟩⟩
    · exact ⟨Nat.lt_of_lt_of_le h.gl b.size, .inl (.inl rfl)⟩
    · exact ⟨Nat.lt_of_lt_of_le hm.lt b.size, .inl (.inr rfl)⟩
  · intro W2 S n N0 fr st kd wf ap hn l0 J Jx W3 hW3 cJ _ hY h0
    have sm : ∀ k, (k = w.heap.size ∨ k = w.heap.size + 1 ∨ k = g ∨ k = ba) → k < w'.heap.size → W3.heap[k]? = w'.heap[k]? := fun k hk hl => (hW3.block k (Nat.lt_of_lt_of_le hl fr.size)).trans (fr.at' k hl (fun c => c hk))
    have lg := Nat.lt_of_lt_of_le h.gl b.size
    have la := Nat.lt_of_lt_of_le hm.lt b.size
    have s := st W2 W3 (Nat.le_refl _) (fun k hk => hW3.block k hk)
    have hb3 : Lb W3 g ba bp := h.same ((sm g (.inr (.inr (.inl rfl))) lg).trans (b.block g h.gl))
    have hm3 : MA.Mp W3 ba L.al := hm.same ((sm ba (.inr (.inr (.inr rfl))) la).trans (b.block ba hm.lt))
    refine lrisA9_in n l0 hn st J Jx W3 hW3.size cJ (fun pre x W1 hj hp => (hY pre x W1 hj hp).mono (fun e w h => h.imp (fun q => ⟨q.1, q.2.1, q.2.2.1⟩) (fun q => ⟨q.1, q.2.1⟩))) (T := fun k => k = w.heap.size ∨ k = w.heap.size + 1 ∨ k = g ∨ k = ba) (lb := #[]) (num := Ac.nu) (l := L.al) (g := g) (b := ba)
      (by rw [cell_of_row _ _ _ _ _ _ ((sm _ (.inl rfl) l1).trans e1)]; rfl) (by rw [cell_of_row _ _ _ _ _ _ ((sm _ (.inr (.inl rfl)) l2).trans e2)]; rfl) (.inl rfl) (.inr (.inl rfl)) (.inr (.inr (.inr rfl))) (fun k hk => ?_)
      (fun k hk => Nat.lt_of_lt_of_le (wf k (s k hk)) hW3.size) (fun k hk c => ap k hk (s k c)) (fun W' sm' => (lallA9 (hb3.same (sm' g (.inr (.inr (.inl rfl)))))).mono (fun e w' q => q)) (fun W' x _ _ => lnumA9 x W') enters_allA enters_numA hm3 (risA hi) (fun x hx => by have := (hi.aok x hx).1; omega) h0
    have hl : k < w'.heap.size := by rcases hk with rfl | rfl | rfl | rfl <;> assumption
    refine ⟨Nat.lt_of_lt_of_le hl (Nat.le_trans fr.size hW3.size), (kd k hk).imp id fun ⟨cs, t, f, e⟩ => ⟨cs, t, f, (hW3.block k (Nat.lt_of_lt_of_le hl fr.size)).trans e⟩⟩
theorem lheld9 {w : World} {g ba bp : Nat} {L : Lg} (a : Int) (h : Lb w g ba bp) (hm : MP.Mp w bp L.hl) (hi : LgI L) : Calls Try.prog 45 #[.pointer (some ⟨g, 0, none⟩), .int .u32 a] w (AllN encP w (fun k => k = g ∨ k = bp) (ofH L.hl a)) := by
  refine (lheldC9 _ a w).mono ?_
  rintro e w' ⟨rfl, hw⟩
  obtain ⟨V, hV⟩ : ∃ V, w.alloc (.cells #[.int .u32 a] 31) = V := ⟨_, rfl⟩
  have bV : Below w.heap.size w V := hV ▸ below_new w _
  have sV : V.heap.size = w.heap.size + 1 := by rw [← hV]; simp
  have e0' : V.heap[w.heap.size]? = some (.cells #[.int .u32 a] 31 (0, 0)) := hV ▸ heap_alloc_new w _
  obtain ⟨W, hW, b', e1, e2⟩ := two_bx V (.func (.func 60) #[.pointer (some ⟨g, 0, none⟩)] #[]) (.func (.func 58) #[] #[.pointer (some ⟨w.heap.size, 0, none⟩)]) 94 92
  rw [hV, hW] at hw
  subst hw
  have b : Below w.heap.size w w' := bV.trans (b'.mono bV.size)
  have e0 : w'.heap[w.heap.size]? = some (.cells #[.int .u32 a] 31 (0, 0)) := (b'.block _ (by omega)).trans e0'
  rw [sV] at e1 e2
  have l0 := (Array.getElem?_eq_some_iff.1 e0).1
  have l1 := (Array.getElem?_eq_some_iff.1 e1).1
  have l2 := (Array.getElem?_eq_some_iff.1 e2).1
  refine ⟨_, _, fun k => k = w.heap.size ∨ k = w.heap.size + 1 ∨ k = w.heap.size + 1 + 1 ∨ k = g ∨ k = bp, rfl, b, enters_risP, fun k hk => ?_, ?_⟩
  · rcases hk with rfl | rfl | rfl | rfl | rfl
    · exact ⟨l0, .inr ⟨Nat.le_refl _, _, _, _, e0⟩⟩
    · exact ⟨l1, .inr ⟨Nat.le_succ _, _, _, _, e1⟩⟩
    · exact ⟨l2, .inr ⟨by omega, _, _, _, e2⟩⟩
    · exact ⟨Nat.lt_of_lt_of_le h.gl b.size, .inl (.inl rfl)⟩
    · exact ⟨Nat.lt_of_lt_of_le hm.lt b.size, .inl (.inr rfl)⟩
  · intro W2 S n N0 fr st kd wf ap hn l0' J Jx W3 hW3 cJ _ hY h0
    have sm : ∀ k, (k = w.heap.size ∨ k = w.heap.size + 1 ∨ k = w.heap.size + 1 + 1 ∨ k = g ∨ k = bp) → k < w'.heap.size → W3.heap[k]? = w'.heap[k]? := fun k hk hl => (hW3.block k (Nat.lt_of_lt_of_le hl fr.size)).trans (fr.at' k hl (fun c => c hk))
    have lg := Nat.lt_of_lt_of_le h.gl b.size
    have la := Nat.lt_of_lt_of_le hm.lt b.size
    have s := st W2 W3 (Nat.le_refl _) (fun k hk => hW3.block k hk)
    have hb3 : Lb W3 g ba bp := h.same ((sm g (.inr (.inr (.inr (.inl rfl)))) lg).trans (b.block g h.gl))
    have hm3 : MP.Mp W3 bp L.hl := hm.same ((sm bp (.inr (.inr (.inr (.inr rfl)))) la).trans (b.block bp hm.lt))
    have c0 : W3.cell? ⟨w.heap.size, 0, none⟩ = some (.int .u32 a) := by rw [cell_of_row _ _ _ _ _ _ ((sm _ (.inl rfl) l0).trans e0)]; rfl
    refine lrisP9_in n l0' hn st J Jx W3 hW3.size cJ (fun pre x W1 hj hp => (hY pre x W1 hj hp).mono (fun e w h => h.imp (fun q => ⟨q.1, q.2.1, q.2.2.1⟩) (fun q => ⟨q.1, q.2.1⟩))) (T := fun k => k = w.heap.size ∨ k = w.heap.size + 1 ∨ k = w.heap.size + 1 + 1 ∨ k = g ∨ k = bp) (lb := #[.pointer (some ⟨w.heap.size, 0, none⟩)]) (num := numP a) (l := L.hl) (g := g) (b := bp)
      (by rw [cell_of_row _ _ _ _ _ _ ((sm _ (.inr (.inl rfl)) l1).trans e1)]; rfl) (by rw [cell_of_row _ _ _ _ _ _ ((sm _ (.inr (.inr (.inl rfl))) l2).trans e2)]; rfl) (.inr (.inl rfl)) (.inr (.inr (.inl rfl))) (.inr (.inr (.inr (.inr rfl)))) (fun k hk => ?_)
      (fun k hk => Nat.lt_of_lt_of_le (wf k (s k hk)) hW3.size) (fun k hk c => ap k hk (s k c)) (fun W' sm' => (lallP9 (hb3.same (sm' g (.inr (.inr (.inr (.inl rfl))))))).mono (fun e w' q => q)) (fun W' x sm' _ => lnumP9 x a w.heap.size W' (same_cell (sm' _ (.inl rfl)) c0)) enters_allP enters_numP hm3 (risP hi a) (fun x hx => by
        unfold numP
        split
        · have := (hi.pok x hx).1.1; omega
        · exact Int.le_refl _) h0
    have hl : k < w'.heap.size := by rcases hk with rfl | rfl | rfl | rfl | rfl <;> assumption
    refine ⟨Nat.lt_of_lt_of_le hl (Nat.le_trans fr.size hW3.size), (kd k hk).imp id fun ⟨cs, t, f, e⟩ => ⟨cs, t, f, (hW3.block k (Nat.lt_of_lt_of_le hl fr.size)).trans e⟩⟩
end Go.Proofs.Ythnmpnepgagmmaa
