/- Contract of the document's plain quotient: bit by bit, rounded down. -/
import Derived.Test.YtgjaknfphokjpaaTimes
import Derived.Test.YtgjaknfphokjpaaOverMath
import Derived.Test.YtgjaknfphokjpaaSum
namespace Go.Proofs.Ytgjaknfphokjpaa
open Go.RowKit

/-- What stands in memory while a number is divided: both numbers, the places of the answers, the quotient and the rest so far. -/
structure OS (w : World) (s t : Bool) (A C q r : Int) (W : World) : Prop where
  r1 : Row W w.heap.size 42 (nm s (dgs A))
  r2 : Row W (w.heap.size + 1) 42 (nm t (dgs C))
  r3 : Row W (w.heap.size + 1 + 1) 42 (nm false fun _ => 0)
  r4 : Row W (w.heap.size + 1 + 1 + 1) 42 (nm false fun _ => 0)
  r5 : Row W (w.heap.size + 1 + 1 + 1 + 1) 40 (ar (dgs q))
  r6 : Row W (w.heap.size + 1 + 1 + 1 + 1 + 1) 40 (ar (dgs r))
  q : Quiet w W
section
variable {w : World} {s t : Bool} {A C q r : Int} {W W' : World}
theorem OS.quiet (h : OS w s t A C q r W) (k : Quiet W W') : OS w s t A C q r W' :=
  ⟨h.r1.below k.2 h.r1.lt, h.r2.below k.2 h.r2.lt, h.r3.below k.2 h.r3.lt, h.r4.below k.2 h.r4.lt, h.r5.below k.2 h.r5.lt, h.r6.below k.2 h.r6.lt, h.q.trans k⟩
theorem OS.drew (h : OS w s t A C q r W) : OS w s t A C q r W.drew := ⟨h.r1, h.r2, h.r3, h.r4, h.r5, h.r6, h.q.drew⟩
theorem OS.setR (h : OS w s t A C q r W) (r' : Int) : OS w s t A C q r' (W.setRow (w.heap.size + 1 + 1 + 1 + 1 + 1) (ar (dgs r'))) :=
  ⟨h.r1.apart (by omega) _, h.r2.apart (by omega) _, h.r3.apart (by omega) _, h.r4.apart (by omega) _, h.r5.apart (by omega) _, h.r6.whole _, h.q.setRow h.r6 (by omega) _⟩
theorem OS.setQ (h : OS w s t A C q r W) (q' : Int) : OS w s t A C q' r (W.setRow (w.heap.size + 1 + 1 + 1 + 1) (ar (dgs q'))) :=
  ⟨h.r1.apart (by omega) _, h.r2.apart (by omega) _, h.r3.apart (by omega) _, h.r4.apart (by omega) _, h.r5.whole _, h.r6.apart (by omega) _, h.q.setRow h.r5 (by omega) _⟩
theorem ar_odd (q : Int) : ar (upd (dgs (2 * q)) 0 (dgs (2 * q) 0 + 1)) = ar (dgs (2 * q + 1)) := ar_ext fun k _ => by
  unfold upd dgs
  rw [Rf.dg_odd]
theorem OS.odd (h : OS w s t A C (2 * q) r W) : OS w s t A C (2 * q + 1) r (W.setCell ⟨w.heap.size + 1 + 1 + 1 + 1, 0, none⟩ (.int .u64 (dgs (2 * q) 0 + 1))) :=
  ⟨h.r1.far (by omega) _, h.r2.far (by omega) _, h.r3.far (by omega) _, h.r4.far (by omega) _, by rw [← ar_odd]; exact h.r5.put 0 _, h.r6.far (by omega) _, h.q.setCell (by show w.heap.size ≤ w.heap.size + 1 + 1 + 1 + 1; omega) _⟩
/-- What every world of a round has. -/
def OX (w : World) (s : Bool) (A : Int) (W : World) : Prop := Row W w.heap.size 42 (nm s (dgs A))
end

/-- A guarded operation that is wanted. -/
theorem wpList_wanted {P : Program} {ops : Array Oper} {Q : Exit → Act → World → Prop} {a : Act} {w : World} {rest : List Oper} {o : Oper} (hw : Region.wanted o (yielded ops a.tmps) = true)
    (h : ∀ K : Act → World → Prop, (∀ a w, wpList P ops Q rest a w → K a w) → o.wp P a w K Q) : wpList P ops Q (o :: rest) a w := wpList_step fun K hK => by simp only [hw, if_true]; exact h K hK
theorem wl_load_nm_g {ops : Array Oper} {rest : List Oper} {a : Act} {w : World} {Q : Exit → Act → World → Prop} {d : Option Tmp} {ty : TypeId} {pos : String} {af : Array Edge} {gd : Nat × Bool} {x : Operand} (g : Nat) (s : Bool) (f : Nat → Int)
    (hw : Region.wanted { dst := d, op := .load 42 x, type := ty, pos := pos, after := af, guard := some gd } (yielded ops a.tmps) = true)
    (hx : a.eval x = .pointer (some ⟨g, 0, none⟩)) (r : Row w g 42 (nm s f)) (h : wpList Try.prog ops Q rest (a.put d (.agg (nm s f))) w) :
    wpList Try.prog ops Q ({ dst := d, op := .load 42 x, type := ty, pos := pos, after := af, guard := some gd } :: rest) a w :=
  wpList_wanted hw fun K hK => wp_load_row 42 x rfl g hx 42 (nm s f) (0, 0) _ r Try.underlying42 rfl (by kernel_rfl) (hK _ _ h)
theorem Row.range00 {w : World} {g : Nat} {t : TypeId} {s : Bool} {f : Nat → Int} (h : Row w g t (nm s f)) : w.rangeAt g 0 (nm s f).toList := by
  intro j v hj
  rw [Nat.zero_add, cell_of_row _ _ _ _ _ _ h]
  simpa using hj
theorem results_two {fn : Func} {p p' : Tmp} (h : fn.results = #[.cell p 42, .cell p' 42]) (tmps : Array Value) (w : World) (g g' : Nat) (s s' : Bool) (f f' : Nat → Int)
    (hp : tmps.getD p undef = .pointer (some ⟨g, 0, none⟩)) (hp' : tmps.getD p' undef = .pointer (some ⟨g', 0, none⟩)) (r : Row w g 42 (nm s f)) (r' : Row w g' 42 (nm s' f')) :
    (results fn tmps).run Try.prog w = .ok (.tuple #[.agg (nm s f), .agg (nm s' f')]) w := by
  have e : tmps[p]?.getD undef = .pointer (some ⟨g, 0, none⟩) := by simpa using hp
  have e' : tmps[p']?.getD undef = .pointer (some ⟨g', 0, none⟩) := by simpa using hp'
  have l := run_loadVar_row (P := Try.prog) w g 42 42 (nm s f) (0, 0) _ r Try.underlying42 rfl (by kernel_rfl)
  have l' := run_loadVar_row (P := Try.prog) w g' 42 42 (nm s' f') (0, 0) _ r' Try.underlying42 rfl (by kernel_rfl)
  simp [results, h, e, e', asAddr, l, l']
theorem OS.setOther {w : World} {s t : Bool} {A C q r : Int} {W : World} (h : OS w s t A C q r W) {g : Nat} {cs : Array Value} (k : Row W g 42 cs) (hg : w.heap.size + 1 + 1 + 1 + 1 + 1 < g) (cs' : Array Value) : OS w s t A C q r (W.setRow g cs') :=
  ⟨h.r1.apart (by omega) _, h.r2.apart (by omega) _, h.r3.apart (by omega) _, h.r4.apart (by omega) _, h.r5.apart (by omega) _, h.r6.apart (by omega) _, h.q.setRow k (by omega) _⟩
theorem minus_one (w : World) : Calls Try.prog 32 #[.int .i64 (-1)] w fun e w' => e = .returned (.agg (nm true (dgs 1))) ∧ Quiet w w' := of_any (-1) (by unfold I64; decide) w

set_option maxHeartbeats 4000000 in
theorem over_any (s t : Bool) (A C : Int) (hA : 0 ≤ A) (hA1 : A + 1 < Rf.T 12) (hC : 0 < C) (hC1 : 2 * C < Rf.T 12) (w : World) :
    Calls Try.prog 43 #[.agg (nm s (dgs A)), .agg (nm t (dgs C))] w fun e w' => (∃ u M R, e = .returned (.tuple #[.agg (nm u (dgs M)), .agg (nm false (dgs R))]) ∧ 0 ≤ M ∧ M ≤ A + 1 ∧ sgn u M = sgn (!s == t) A / C ∧ R = A % C) ∧ Quiet w w' := by
  have HA := Lib.hid (And.intro hA hA1)
  have HC := Lib.hid (And.intro hC hC1)
  clear hA hA1 hC hC1
  go_enter Try.func43, Try.ntmps43
  go_wp2_with fail
  go_loopw [8] (fun i wr => ∃ k : Nat, k ≤ 192 ∧ i = .int .i64 ((k : Int) - 1) ∧ OS w s t A C (A / Rf.P2 k / C) (A / Rf.P2 k % C) wr) (fun i _ => (intOf i + 1).toNat)
  case atStart =>
    refine ⟨192, by omega, rfl, ?_⟩
    rw [Rf.top_zero A HA.out.1 (by have := HA.out.2; omega), Int.zero_ediv, Int.zero_emod]
    exact ⟨(((((Row.new w _ _).alloc _).alloc _).alloc _).alloc _).alloc _, ((((Row.at_ (w.alloc _) _ _ (by simp)).alloc _).alloc _).alloc _).alloc _, (((Row.at_ ((w.alloc _).alloc _) _ _ (by simp)).alloc _).alloc _).alloc _,
      ((Row.at_ (((w.alloc _).alloc _).alloc _) _ _ (by simp)).alloc _).alloc _, (Row.at_ ((((w.alloc _).alloc _).alloc _).alloc _) _ _ (by simp)).alloc _, Row.at_ (((((w.alloc _).alloc _).alloc _).alloc _).alloc _) _ _ (by simp),
      ((((((Quiet.refl w).alloc _ _).alloc _ _).alloc _ _).alloc _ _).alloc _ _).alloc _ _⟩
  case round =>
    obtain ⟨k, hk, rfl, S⟩ := hrel
    match k, hk, S with
    | 0, _, S =>
      rw [show ((0 : Nat) : Int) - 1 = -1 from rfl]
      rw [Rf.low_all] at S
      have hC' := HC.out.1
      have m0 := Int.emod_nonneg A (show C ≠ 0 by omega)
      have m1 := Int.emod_lt_of_pos A hC'
      have hR := Lib.hid (And.intro m0 (show A % C < Rf.T 12 by have := HC.out.2; omega))
      have hQ0 := Lib.hid (And.intro (Int.ediv_nonneg HA.out.1 (Int.le_of_lt hC')) (Int.ediv_le_self C HA.out.1))
      have HN0 := Lib.hid (fun h => neg_div0 A C hC' h)
      have HN1 := Lib.hid (fun h => neg_div1 A C hC' h)
      clear m0 m1 hC'
      obtain ⟨Q, hQ⟩ : ∃ Q, Q = A / C := ⟨_, rfl⟩
      obtain ⟨R, hRe⟩ : ∃ R, R = A % C := ⟨_, rfl⟩
      rw [← hQ, ← hRe] at S
      rw [← hRe] at hR HN0 HN1
      rw [← hQ] at hQ0 HN0 HN1
      have ZR := Lib.hid (fun W => zero_any false R hR.out.1 hR.out.2 W)
      have HQ := Lib.hid hQ
      have HRE := Lib.hid hRe
      have KS := Lib.hid S
      clear S hQ hRe
      have bw := KS.out.r6.lt
      have c1 : ∀ zs cs, ((wr.alloc (.cells zs 42)).setRow wr.heap.size cs).cell? ⟨w.heap.size, 0, none⟩ = some (.bool s) := fun zs cs =>
        (show Row ((wr.alloc (.cells zs 42)).setRow wr.heap.size cs) w.heap.size 42 (nm s (dgs A)) from (KS.out.r1.alloc _).apart (by omega) _).sign
      have c2 : ∀ zs cs, ((wr.alloc (.cells zs 42)).setRow wr.heap.size cs).cell? ⟨w.heap.size + 1, 0, none⟩ = some (.bool t) := fun zs cs =>
        (show Row ((wr.alloc (.cells zs 42)).setRow wr.heap.size cs) (w.heap.size + 1) 42 (nm t (dgs C)) from (KS.out.r2.alloc _).apart (by omega) _).sign
      have c10 : ∀ zs zs' u, ((((wr.alloc (.cells zs 42)).setRow wr.heap.size (nm false (dgs R))).alloc (.cells zs' 42)).setRow (wr.heap.size + 1) (nm u (dgs Q))).cell? ⟨wr.heap.size + 1, 0, none⟩ = some (.bool u) := fun zs zs' u =>
        ((Row.at_ (k := wr.heap.size + 1) _ 42 zs' (by simp)).whole (nm u (dgs Q))).sign
      cases hsg : (!s == t)
      · have HF : Hid (0 ≤ Q ∧ Q ≤ A + 1 ∧ sgn false Q = sgn (!s == t) A / C) := Lib.hid ⟨hQ0.out.1, by have := hQ0.out.2; omega, by rw [hsg, HQ.out]; rfl⟩
        go_wp2_with (first
          | ((with_reducible refine wl_load_ar (w.heap.size + 1 + 1 + 1 + 1 + 1) 0 (dgs R) ?_ ?_ ?_); rfl; exact (KS.out.quiet ((Quiet.refl wr).alloc _ _)).r6.range0)
          | ((with_reducible refine wl_load_ar (w.heap.size + 1 + 1 + 1 + 1 + 1) 0 (dgs R) ?_ ?_ ?_); rfl; exact KS.out.r6.range0)
          | ((with_reducible refine wl_build false (dgs R) ?_ ?_ ?_); rfl; rfl)
          | ((with_reducible refine wl_store_nm wr.heap.size false false (dgs R) (fun _ => 0) ?_ ?_ ?_ ?_); rfl; rfl; exact Row.new wr 42 (nm false fun _ => 0); have Q1 := Lib.hid (((Quiet.refl wr).alloc (nm false fun _ => 0) 42).setRow (Row.new wr 42 (nm false fun _ => 0)) (Nat.le_refl _) (nm false (dgs R))); have K1 := Lib.hid (KS.out.quiet Q1.out); have r9 := Lib.hid ((Row.new wr 42 (nm false fun _ => 0)).whole (nm false (dgs R))))
          | ((with_reducible refine wl_load_ar (w.heap.size + 1 + 1 + 1 + 1) 0 (dgs Q) ?_ ?_ ?_); rfl; exact K1.out.r5.range0)
          | ((with_reducible refine wl_build false (dgs Q) ?_ ?_ ?_); rfl; rfl)
          | ((with_reducible refine wl_store_nm (wr.heap.size + 1) false false (dgs Q) (fun _ => 0) ?_ ?_ ?_ ?_); rfl; rfl; exact Row.at_ _ _ _ (by simp); have q2 := Lib.hid (((Quiet.refl ((wr.alloc (.cells (nm false fun _ => 0) 42)).setRow wr.heap.size (nm false (dgs R)))).alloc (nm false fun _ => 0) 42).setRow (Row.at_ (k := wr.heap.size + 1) _ 42 (nm false fun _ => 0) (by simp)) (by simp) (nm false (dgs Q))); have K2 := Lib.hid (K1.out.quiet q2.out); have r9' := Lib.hid (r9.out.below q2.out.2 r9.out.lt); have r10 := Lib.hid ((Row.at_ (k := wr.heap.size + 1) ((wr.alloc (.cells (nm false fun _ => 0) 42)).setRow wr.heap.size (nm false (dgs R))) 42 (nm false fun _ => 0) (by simp)).whole (nm false (dgs Q))))
          | ((with_reducible refine wl_load_nm_g wr.heap.size false (dgs R) ?_ ?_ ?_ ?_); rfl; rfl; exact r9'.out)
          | (go_at_call 48; refine (ZR.out _).mono ?_; rintro e w6 ⟨rfl, q6⟩))
        refine wp_region_held_drew (S := fun W => Row W (wr.heap.size + 1) 42 (nm false (dgs Q)) ∧ Row W wr.heap.size 42 (nm false (dgs R))) (by kernel_rfl) ⟨r10.out, r9'.out⟩ (fun hX => ?_)
        refine wpAnyH_take (i := 0) (v := .agg (nm false (dgs Q))) rfl (by kernel_rfl) (by kernel_rfl) (by kernel_rfl) (fun _ _ _ h => h) (yields_nm (by rfl) (.tmp 10) rfl (wr.heap.size + 1) rfl false (dgs Q) (fun W hW => hW.1.range00)) (by assumption) ?_
        simp only [List.getElem_toArray, List.getElem_cons_zero, Act.put, List.setIfInBounds_toArray, List.set_cons_zero, List.set_cons_succ]
        refine wpAnyH_take (i := 1) (v := .agg (nm false (dgs R))) rfl (by kernel_rfl) (by kernel_rfl) (by kernel_rfl) (fun _ _ _ h => h) (yields_nm (by rfl) (.tmp 9) rfl wr.heap.size rfl false (dgs R) (fun W hW => hW.2.range00)) (by assumption) ?_
        simp only [List.getElem_toArray, List.getElem_cons_zero, List.getElem_cons_succ, Act.put, List.setIfInBounds_toArray, List.set_cons_zero, List.set_cons_succ]
        have SD := K2.out.drew
        refine wpAnyH_ready (rs := [2]) (by kernel_rfl) (by simp) (AllReadyH.cons rfl (fun K hK => ?_) AllReadyH.nil)
        rw [if_pos (by rfl)]
        refine wp_store_row 42 (.tmp 4) (.tmp 60) rfl (w.heap.size + 1 + 1) (nm false (dgs Q)) rfl rfl 42 _ SD.r3 (by kernel_rfl) rfl (nm_one _ _) ?_
        have X1 := hX.1.apart (g' := w.heap.size + 1 + 1) (by omega) (nm false (dgs Q))
        have X2 := hX.2.apart (g' := w.heap.size + 1 + 1) (by omega) (nm false (dgs Q))
        refine hK.out _ _ ⟨X1, X2⟩ (fun _ => ?_)
        clear hK
        try simp only [List.getElem_toArray, List.getElem_cons_zero, List.getElem_cons_succ, Act.put]
        have Y3 := SD.r3.whole (nm false (dgs Q))
        have Y4 := SD.r4.apart (g' := w.heap.size + 1 + 1) (by omega) (nm false (dgs Q))
        have YQ := SD.q.setRow SD.r3 (by omega) (nm false (dgs Q))
        refine wpAnyH_ready (rs := [3]) (by kernel_rfl) (by simp) (AllReadyH.cons rfl (fun K hK => ?_) AllReadyH.nil)
        rw [if_pos (by rfl)]
        refine wp_store_row 42 (.tmp 5) (.tmp 61) rfl (w.heap.size + 1 + 1 + 1) (nm false (dgs R)) rfl rfl 42 _ Y4 (by kernel_rfl) rfl (nm_one _ _) ?_
        refine hK.out _ _ ⟨X1.apart (by omega) _, X2.apart (by omega) _⟩ (fun _ => ?_)
        clear hK
        refine wpAnyH_done (by kernel_rfl) ?_ _
        simp only [List.getElem_toArray, List.getElem_cons_zero, List.getElem_cons_succ, Act.put]
        have Z3 := Lib.hid (Y3.apart (g' := w.heap.size + 1 + 1 + 1) (by omega) (nm false (dgs R)))
        have Z4 := Lib.hid (Y4.whole (nm false (dgs R)))
        have ZQ := Lib.hid (YQ.setRow Y4 (by omega) (nm false (dgs R)))
        clear X1 X2 Y3 Y4 YQ SD hX
        go_wp2
        exact bodyPost_ret (v := .tuple #[.agg (nm false (dgs Q)), .agg (nm false (dgs R))]) (results_two rfl _ _ (w.heap.size + 1 + 1) (w.heap.size + 1 + 1 + 1) _ _ _ _ rfl rfl Z3.out Z4.out) rfl
          ⟨⟨false, Q, R, rfl, HF.out.1, HF.out.2.1, HF.out.2.2, HRE.out⟩, ZQ.out⟩
      · cases hz : decide (R = 0)
        · have HF0 : Hid (-A / C = -(Q + 1)) := Lib.hid (HN1.out (of_decide_eq_false hz))
          have P := Lib.hid (fun W => plus_num true true Q 1 (Q + 1) hQ0.out.1 (by decide) (Int.le_refl _) (by have := hQ0.out.2; have := HA.out.2; omega) W)
          go_wp2_with (first
            | ((with_reducible refine wl_load_ar (w.heap.size + 1 + 1 + 1 + 1 + 1) 0 (dgs R) ?_ ?_ ?_); rfl; exact (KS.out.quiet ((Quiet.refl wr).alloc _ _)).r6.range0)
            | ((with_reducible refine wl_load_ar (w.heap.size + 1 + 1 + 1 + 1 + 1) 0 (dgs R) ?_ ?_ ?_); rfl; exact KS.out.r6.range0)
            | ((with_reducible refine wl_build false (dgs R) ?_ ?_ ?_); rfl; rfl)
            | ((with_reducible refine wl_store_nm wr.heap.size false false (dgs R) (fun _ => 0) ?_ ?_ ?_ ?_); rfl; rfl; exact Row.new wr 42 (nm false fun _ => 0); have Q1 := Lib.hid (((Quiet.refl wr).alloc (nm false fun _ => 0) 42).setRow (Row.new wr 42 (nm false fun _ => 0)) (Nat.le_refl _) (nm false (dgs R))); have K1 := Lib.hid (KS.out.quiet Q1.out); have r9 := Lib.hid ((Row.new wr 42 (nm false fun _ => 0)).whole (nm false (dgs R))))
            | ((with_reducible refine wl_load_ar (w.heap.size + 1 + 1 + 1 + 1) 0 (dgs Q) ?_ ?_ ?_); rfl; exact K1.out.r5.range0)
            | ((with_reducible refine wl_build true (dgs Q) ?_ ?_ ?_); rfl; rfl)
            | ((with_reducible refine wl_store_nm (wr.heap.size + 1) true false (dgs Q) (fun _ => 0) ?_ ?_ ?_ ?_); rfl; rfl; exact Row.at_ _ _ _ (by simp); have q2 := Lib.hid (((Quiet.refl ((wr.alloc (.cells (nm false fun _ => 0) 42)).setRow wr.heap.size (nm false (dgs R)))).alloc (nm false fun _ => 0) 42).setRow (Row.at_ (k := wr.heap.size + 1) _ 42 (nm false fun _ => 0) (by simp)) (by simp) (nm true (dgs Q))); have K2 := Lib.hid (K1.out.quiet q2.out); have r9' := Lib.hid (r9.out.below q2.out.2 r9.out.lt); have r10 := Lib.hid ((Row.at_ (k := wr.heap.size + 1) ((wr.alloc (.cells (nm false fun _ => 0) 42)).setRow wr.heap.size (nm false (dgs R))) 42 (nm false fun _ => 0) (by simp)).whole (nm true (dgs Q))))
            | ((with_reducible refine wl_load_nm_g wr.heap.size false (dgs R) ?_ ?_ ?_ ?_); rfl; rfl; exact r9'.out)
            | (go_at_call 48; refine (ZR.out _).mono ?_; rintro e w6 ⟨rfl, q6⟩))
          have R10 := Lib.hid (r10.out.below q6.2 r10.out.lt)
          have R9 := Lib.hid (r9'.out.below q6.2 r9'.out.lt)
          have KF := Lib.hid (K2.out.quiet q6)
          clear c1 c2 c10 K1 K2 r9 r9' r10 Q1 q2 q6
          go_wp2_with fail
          refine wp_region_held_drew (S := fun _ => True) (by kernel_rfl) trivial (fun _ => ?_)
          refine wpAnyH_ready (rs := [0, 1]) (by kernel_rfl) (by simp) (AllReadyH.cons rfl (fun K hK => ?_) (AllReadyH.cons rfl (fun K hK => ?_) AllReadyH.nil))
          · rw [if_pos (by rfl)]
            refine wp_load_row 42 (.tmp 10) rfl (wr.heap.size + 1) rfl 42 (nm true (dgs Q)) (0, 0) _ R10.out Try.underlying42 rfl (by kernel_rfl) ?_
            refine hK.out _ _ trivial (fun _ => ?_)
            clear hK
            try simp only [List.getElem_toArray, List.getElem_cons_zero, Act.put, List.setIfInBounds_toArray, List.set_cons_zero, List.set_cons_succ]
            refine wpAnyH_ready (rs := [1]) (by kernel_rfl) (by simp) (AllReadyH.cons rfl (fun K hK => ?_) AllReadyH.nil)
            go_simp
            refine (minus_one _).mono ?_; rintro e w7 ⟨rfl, q7⟩
            have RB := Lib.hid ((show Row w6.drew (wr.heap.size + 1) 42 _ from R10.out).below q7.2 (show wr.heap.size + 1 < w6.drew.heap.size from R10.out.lt))
            have RB9 := Lib.hid ((show Row w6.drew wr.heap.size 42 _ from R9.out).below q7.2 (show wr.heap.size < w6.drew.heap.size from R9.out.lt))
            have KB := Lib.hid (KF.out.drew.quiet q7)
            refine hK.out _ _ trivial (fun _ => ?_)
            clear hK q7
            try simp only [List.getElem_toArray, List.getElem_cons_zero, List.getElem_cons_succ, Act.put, List.setIfInBounds_toArray, List.set_cons_zero, List.set_cons_succ]
            refine wpAnyH_ready (rs := [2]) (by kernel_rfl) (by simp) (AllReadyH.cons rfl (fun K hK => ?_) AllReadyH.nil)
            go_simp
            refine (P.out _).mono ?_; rintro e w8 ⟨⟨u, M, rfl, n0, n1, hx⟩, q8⟩
            have HF : Hid (0 ≤ M ∧ M ≤ A + 1 ∧ sgn u M = sgn (!s == t) A / C) := Lib.hid ⟨n0, by have := hQ0.out.2; omega, by rw [hx, hsg]; exact (show -Q + -1 = -(Q + 1) by omega).trans HF0.out.symm⟩
            have rc := RB.out.below q8.2 RB.out.lt
            have rd := RB9.out.below q8.2 RB9.out.lt
            have kd := KB.out.quiet q8
            refine hK.out _ _ trivial (fun _ => ?_)
            clear hK n0 n1 hx q8
            try simp only [List.getElem_toArray, List.getElem_cons_zero, List.getElem_cons_succ, Act.put, List.setIfInBounds_toArray, List.set_cons_zero, List.set_cons_succ]
            refine wpAnyH_ready (rs := [3]) (by kernel_rfl) (by simp) (AllReadyH.cons rfl (fun K hK => ?_) AllReadyH.nil)
            rw [if_pos (by rfl)]
            refine wp_store_row 42 (.tmp 10) (.tmp 59) rfl (wr.heap.size + 1) (nm u (dgs M)) rfl rfl 42 _ rc (by kernel_rfl) rfl (nm_one _ _) ?_
            have RG := Lib.hid (rc.whole (nm u (dgs M)))
            have RH := Lib.hid (rd.apart (g' := wr.heap.size + 1) (by omega) (nm u (dgs M)))
            have KG := Lib.hid (kd.setOther rc (by omega) (nm u (dgs M)))
            refine hK.out _ _ trivial (fun _ => ?_)
            clear hK rc rd kd
            refine wpAnyH_done (by kernel_rfl) ?_ _
            simp only [List.getElem_toArray, List.getElem_cons_zero, List.getElem_cons_succ, Act.put]
            go_wp2_with fail
            refine wp_region_held_drew (S := fun W => Row W (wr.heap.size + 1) 42 (nm u (dgs M)) ∧ Row W wr.heap.size 42 (nm false (dgs R))) (by kernel_rfl) ⟨RG.out, RH.out⟩ (fun hX => ?_)
            refine wpAnyH_take (i := 0) (v := .agg (nm u (dgs M))) rfl (by kernel_rfl) (by kernel_rfl) (by kernel_rfl) (fun _ _ _ h => h) (yields_nm (by rfl) (.tmp 10) rfl (wr.heap.size + 1) rfl u (dgs M) (fun W hW => hW.1.range00)) (by assumption) ?_
            simp only [List.getElem_toArray, List.getElem_cons_zero, Act.put, List.setIfInBounds_toArray, List.set_cons_zero, List.set_cons_succ]
            refine wpAnyH_take (i := 1) (v := .agg (nm false (dgs R))) rfl (by kernel_rfl) (by kernel_rfl) (by kernel_rfl) (fun _ _ _ h => h) (yields_nm (by rfl) (.tmp 9) rfl wr.heap.size rfl false (dgs R) (fun W hW => hW.2.range00)) (by assumption) ?_
            simp only [List.getElem_toArray, List.getElem_cons_zero, List.getElem_cons_succ, Act.put, List.setIfInBounds_toArray, List.set_cons_zero, List.set_cons_succ]
            have SD := KG.out.drew
            refine wpAnyH_ready (rs := [2]) (by kernel_rfl) (by simp) (AllReadyH.cons rfl (fun K hK => ?_) AllReadyH.nil)
            rw [if_pos (by rfl)]
            refine wp_store_row 42 (.tmp 4) (.tmp 60) rfl (w.heap.size + 1 + 1) (nm u (dgs M)) rfl rfl 42 _ SD.r3 (by kernel_rfl) rfl (nm_one _ _) ?_
            have X1 := hX.1.apart (g' := w.heap.size + 1 + 1) (by omega) (nm u (dgs M))
            have X2 := hX.2.apart (g' := w.heap.size + 1 + 1) (by omega) (nm u (dgs M))
            refine hK.out _ _ ⟨X1, X2⟩ (fun _ => ?_)
            clear hK
            try simp only [List.getElem_toArray, List.getElem_cons_zero, List.getElem_cons_succ, Act.put]
            have Y3 := SD.r3.whole (nm u (dgs M))
            have Y4 := SD.r4.apart (g' := w.heap.size + 1 + 1) (by omega) (nm u (dgs M))
            have YQ := SD.q.setRow SD.r3 (by omega) (nm u (dgs M))
            refine wpAnyH_ready (rs := [3]) (by kernel_rfl) (by simp) (AllReadyH.cons rfl (fun K hK => ?_) AllReadyH.nil)
            rw [if_pos (by rfl)]
            refine wp_store_row 42 (.tmp 5) (.tmp 61) rfl (w.heap.size + 1 + 1 + 1) (nm false (dgs R)) rfl rfl 42 _ Y4 (by kernel_rfl) rfl (nm_one _ _) ?_
            refine hK.out _ _ ⟨X1.apart (by omega) _, X2.apart (by omega) _⟩ (fun _ => ?_)
            clear hK
            refine wpAnyH_done (by kernel_rfl) ?_ _
            simp only [List.getElem_toArray, List.getElem_cons_zero, List.getElem_cons_succ, Act.put]
            have Z3 := Lib.hid (Y3.apart (g' := w.heap.size + 1 + 1 + 1) (by omega) (nm false (dgs R)))
            have Z4 := Lib.hid (Y4.whole (nm false (dgs R)))
            have ZQ := Lib.hid (YQ.setRow Y4 (by omega) (nm false (dgs R)))
            clear X1 X2 Y3 Y4 YQ SD hX
            go_wp2
            exact bodyPost_ret (v := .tuple #[.agg (nm u (dgs M)), .agg (nm false (dgs R))]) (results_two rfl _ _ (w.heap.size + 1 + 1) (w.heap.size + 1 + 1 + 1) _ _ _ _ rfl rfl Z3.out Z4.out) rfl
              ⟨⟨u, M, R, rfl, HF.out.1, HF.out.2.1, HF.out.2.2, HRE.out⟩, ZQ.out⟩
          · go_simp
            refine (minus_one _).mono ?_; rintro e w7 ⟨rfl, q7⟩
            have RB := Lib.hid ((show Row w6.drew (wr.heap.size + 1) 42 _ from R10.out).below q7.2 (show wr.heap.size + 1 < w6.drew.heap.size from R10.out.lt))
            have RB9 := Lib.hid ((show Row w6.drew wr.heap.size 42 _ from R9.out).below q7.2 (show wr.heap.size < w6.drew.heap.size from R9.out.lt))
            have KB := Lib.hid (KF.out.drew.quiet q7)
            refine hK.out _ _ trivial (fun _ => ?_)
            clear hK q7
            try simp only [List.getElem_toArray, List.getElem_cons_zero, List.getElem_cons_succ, Act.put, List.setIfInBounds_toArray, List.set_cons_zero, List.set_cons_succ]
            refine wpAnyH_ready (rs := [0]) (by kernel_rfl) (by simp) (AllReadyH.cons rfl (fun K hK => ?_) AllReadyH.nil)
            rw [if_pos (by rfl)]
            refine wp_load_row 42 (.tmp 10) rfl (wr.heap.size + 1) rfl 42 (nm true (dgs Q)) (0, 0) _ RB.out Try.underlying42 rfl (by kernel_rfl) ?_
            refine hK.out _ _ trivial (fun _ => ?_)
            clear hK
            try simp only [List.getElem_toArray, List.getElem_cons_zero, Act.put, List.setIfInBounds_toArray, List.set_cons_zero, List.set_cons_succ]
            refine wpAnyH_ready (rs := [2]) (by kernel_rfl) (by simp) (AllReadyH.cons rfl (fun K hK => ?_) AllReadyH.nil)
            go_simp
            refine (P.out _).mono ?_; rintro e w8 ⟨⟨u, M, rfl, n0, n1, hx⟩, q8⟩
            have HF : Hid (0 ≤ M ∧ M ≤ A + 1 ∧ sgn u M = sgn (!s == t) A / C) := Lib.hid ⟨n0, by have := hQ0.out.2; omega, by rw [hx, hsg]; exact (show -Q + -1 = -(Q + 1) by omega).trans HF0.out.symm⟩
            have rc := RB.out.below q8.2 RB.out.lt
            have rd := RB9.out.below q8.2 RB9.out.lt
            have kd := KB.out.quiet q8
            refine hK.out _ _ trivial (fun _ => ?_)
            clear hK n0 n1 hx q8
            try simp only [List.getElem_toArray, List.getElem_cons_zero, List.getElem_cons_succ, Act.put, List.setIfInBounds_toArray, List.set_cons_zero, List.set_cons_succ]
            refine wpAnyH_ready (rs := [3]) (by kernel_rfl) (by simp) (AllReadyH.cons rfl (fun K hK => ?_) AllReadyH.nil)
            rw [if_pos (by rfl)]
            refine wp_store_row 42 (.tmp 10) (.tmp 59) rfl (wr.heap.size + 1) (nm u (dgs M)) rfl rfl 42 _ rc (by kernel_rfl) rfl (nm_one _ _) ?_
            have RG := Lib.hid (rc.whole (nm u (dgs M)))
            have RH := Lib.hid (rd.apart (g' := wr.heap.size + 1) (by omega) (nm u (dgs M)))
            have KG := Lib.hid (kd.setOther rc (by omega) (nm u (dgs M)))
            refine hK.out _ _ trivial (fun _ => ?_)
            clear hK rc rd kd
            refine wpAnyH_done (by kernel_rfl) ?_ _
            simp only [List.getElem_toArray, List.getElem_cons_zero, List.getElem_cons_succ, Act.put]
            go_wp2_with fail
            refine wp_region_held_drew (S := fun W => Row W (wr.heap.size + 1) 42 (nm u (dgs M)) ∧ Row W wr.heap.size 42 (nm false (dgs R))) (by kernel_rfl) ⟨RG.out, RH.out⟩ (fun hX => ?_)
            refine wpAnyH_take (i := 0) (v := .agg (nm u (dgs M))) rfl (by kernel_rfl) (by kernel_rfl) (by kernel_rfl) (fun _ _ _ h => h) (yields_nm (by rfl) (.tmp 10) rfl (wr.heap.size + 1) rfl u (dgs M) (fun W hW => hW.1.range00)) (by assumption) ?_
            simp only [List.getElem_toArray, List.getElem_cons_zero, Act.put, List.setIfInBounds_toArray, List.set_cons_zero, List.set_cons_succ]
            refine wpAnyH_take (i := 1) (v := .agg (nm false (dgs R))) rfl (by kernel_rfl) (by kernel_rfl) (by kernel_rfl) (fun _ _ _ h => h) (yields_nm (by rfl) (.tmp 9) rfl wr.heap.size rfl false (dgs R) (fun W hW => hW.2.range00)) (by assumption) ?_
            simp only [List.getElem_toArray, List.getElem_cons_zero, List.getElem_cons_succ, Act.put, List.setIfInBounds_toArray, List.set_cons_zero, List.set_cons_succ]
            have SD := KG.out.drew
            refine wpAnyH_ready (rs := [2]) (by kernel_rfl) (by simp) (AllReadyH.cons rfl (fun K hK => ?_) AllReadyH.nil)
            rw [if_pos (by rfl)]
            refine wp_store_row 42 (.tmp 4) (.tmp 60) rfl (w.heap.size + 1 + 1) (nm u (dgs M)) rfl rfl 42 _ SD.r3 (by kernel_rfl) rfl (nm_one _ _) ?_
            have X1 := hX.1.apart (g' := w.heap.size + 1 + 1) (by omega) (nm u (dgs M))
            have X2 := hX.2.apart (g' := w.heap.size + 1 + 1) (by omega) (nm u (dgs M))
            refine hK.out _ _ ⟨X1, X2⟩ (fun _ => ?_)
            clear hK
            try simp only [List.getElem_toArray, List.getElem_cons_zero, List.getElem_cons_succ, Act.put]
            have Y3 := SD.r3.whole (nm u (dgs M))
            have Y4 := SD.r4.apart (g' := w.heap.size + 1 + 1) (by omega) (nm u (dgs M))
            have YQ := SD.q.setRow SD.r3 (by omega) (nm u (dgs M))
            refine wpAnyH_ready (rs := [3]) (by kernel_rfl) (by simp) (AllReadyH.cons rfl (fun K hK => ?_) AllReadyH.nil)
            rw [if_pos (by rfl)]
            refine wp_store_row 42 (.tmp 5) (.tmp 61) rfl (w.heap.size + 1 + 1 + 1) (nm false (dgs R)) rfl rfl 42 _ Y4 (by kernel_rfl) rfl (nm_one _ _) ?_
            refine hK.out _ _ ⟨X1.apart (by omega) _, X2.apart (by omega) _⟩ (fun _ => ?_)
            clear hK
            refine wpAnyH_done (by kernel_rfl) ?_ _
            simp only [List.getElem_toArray, List.getElem_cons_zero, List.getElem_cons_succ, Act.put]
            have Z3 := Lib.hid (Y3.apart (g' := w.heap.size + 1 + 1 + 1) (by omega) (nm false (dgs R)))
            have Z4 := Lib.hid (Y4.whole (nm false (dgs R)))
            have ZQ := Lib.hid (YQ.setRow Y4 (by omega) (nm false (dgs R)))
            clear X1 X2 Y3 Y4 YQ SD hX
            go_wp2
            exact bodyPost_ret (v := .tuple #[.agg (nm u (dgs M)), .agg (nm false (dgs R))]) (results_two rfl _ _ (w.heap.size + 1 + 1) (w.heap.size + 1 + 1 + 1) _ _ _ _ rfl rfl Z3.out Z4.out) rfl
              ⟨⟨u, M, R, rfl, HF.out.1, HF.out.2.1, HF.out.2.2, HRE.out⟩, ZQ.out⟩
        · have hz' : R = 0 := of_decide_eq_true hz
          have HF : Hid (0 ≤ Q ∧ Q ≤ A + 1 ∧ sgn true Q = sgn (!s == t) A / C) := Lib.hid ⟨hQ0.out.1, by have := hQ0.out.2; omega, by rw [hsg]; exact (HN0.out hz').symm⟩
          clear hz'
          go_wp2_with (first
            | ((with_reducible refine wl_load_ar (w.heap.size + 1 + 1 + 1 + 1 + 1) 0 (dgs R) ?_ ?_ ?_); rfl; exact (KS.out.quiet ((Quiet.refl wr).alloc _ _)).r6.range0)
            | ((with_reducible refine wl_load_ar (w.heap.size + 1 + 1 + 1 + 1 + 1) 0 (dgs R) ?_ ?_ ?_); rfl; exact KS.out.r6.range0)
            | ((with_reducible refine wl_build false (dgs R) ?_ ?_ ?_); rfl; rfl)
            | ((with_reducible refine wl_store_nm wr.heap.size false false (dgs R) (fun _ => 0) ?_ ?_ ?_ ?_); rfl; rfl; exact Row.new wr 42 (nm false fun _ => 0); have Q1 := Lib.hid (((Quiet.refl wr).alloc (nm false fun _ => 0) 42).setRow (Row.new wr 42 (nm false fun _ => 0)) (Nat.le_refl _) (nm false (dgs R))); have K1 := Lib.hid (KS.out.quiet Q1.out); have r9 := Lib.hid ((Row.new wr 42 (nm false fun _ => 0)).whole (nm false (dgs R))))
            | ((with_reducible refine wl_load_ar (w.heap.size + 1 + 1 + 1 + 1) 0 (dgs Q) ?_ ?_ ?_); rfl; exact K1.out.r5.range0)
            | ((with_reducible refine wl_build true (dgs Q) ?_ ?_ ?_); rfl; rfl)
            | ((with_reducible refine wl_store_nm (wr.heap.size + 1) true false (dgs Q) (fun _ => 0) ?_ ?_ ?_ ?_); rfl; rfl; exact Row.at_ _ _ _ (by simp); have q2 := Lib.hid (((Quiet.refl ((wr.alloc (.cells (nm false fun _ => 0) 42)).setRow wr.heap.size (nm false (dgs R)))).alloc (nm false fun _ => 0) 42).setRow (Row.at_ (k := wr.heap.size + 1) _ 42 (nm false fun _ => 0) (by simp)) (by simp) (nm true (dgs Q))); have K2 := Lib.hid (K1.out.quiet q2.out); have r9' := Lib.hid (r9.out.below q2.out.2 r9.out.lt); have r10 := Lib.hid ((Row.at_ (k := wr.heap.size + 1) ((wr.alloc (.cells (nm false fun _ => 0) 42)).setRow wr.heap.size (nm false (dgs R))) 42 (nm false fun _ => 0) (by simp)).whole (nm true (dgs Q))))
            | ((with_reducible refine wl_load_nm_g wr.heap.size false (dgs R) ?_ ?_ ?_ ?_); rfl; rfl; exact r9'.out)
            | (go_at_call 48; refine (ZR.out _).mono ?_; rintro e w6 ⟨rfl, q6⟩))
          have R10 := Lib.hid (r10.out.below q6.2 r10.out.lt)
          have R9 := Lib.hid (r9'.out.below q6.2 r9'.out.lt)
          have KF := Lib.hid (K2.out.quiet q6)
          clear c1 c2 c10 K1 K2 r9 r9' r10 Q1 q2 q6
          go_wp2_with fail
          refine wp_region_held_drew (S := fun W => Row W (wr.heap.size + 1) 42 (nm true (dgs Q)) ∧ Row W wr.heap.size 42 (nm false (dgs R))) (by kernel_rfl) ⟨R10.out, R9.out⟩ (fun hX => ?_)
          refine wpAnyH_take (i := 0) (v := .agg (nm true (dgs Q))) rfl (by kernel_rfl) (by kernel_rfl) (by kernel_rfl) (fun _ _ _ h => h) (yields_nm (by rfl) (.tmp 10) rfl (wr.heap.size + 1) rfl true (dgs Q) (fun W hW => hW.1.range00)) (by assumption) ?_
          simp only [List.getElem_toArray, List.getElem_cons_zero, Act.put, List.setIfInBounds_toArray, List.set_cons_zero, List.set_cons_succ]
          refine wpAnyH_take (i := 1) (v := .agg (nm false (dgs R))) rfl (by kernel_rfl) (by kernel_rfl) (by kernel_rfl) (fun _ _ _ h => h) (yields_nm (by rfl) (.tmp 9) rfl wr.heap.size rfl false (dgs R) (fun W hW => hW.2.range00)) (by assumption) ?_
          simp only [List.getElem_toArray, List.getElem_cons_zero, List.getElem_cons_succ, Act.put, List.setIfInBounds_toArray, List.set_cons_zero, List.set_cons_succ]
          have SD := KF.out.drew
          refine wpAnyH_ready (rs := [2]) (by kernel_rfl) (by simp) (AllReadyH.cons rfl (fun K hK => ?_) AllReadyH.nil)
          rw [if_pos (by rfl)]
          refine wp_store_row 42 (.tmp 4) (.tmp 60) rfl (w.heap.size + 1 + 1) (nm true (dgs Q)) rfl rfl 42 _ SD.r3 (by kernel_rfl) rfl (nm_one _ _) ?_
          have X1 := hX.1.apart (g' := w.heap.size + 1 + 1) (by omega) (nm true (dgs Q))
          have X2 := hX.2.apart (g' := w.heap.size + 1 + 1) (by omega) (nm true (dgs Q))
          refine hK.out _ _ ⟨X1, X2⟩ (fun _ => ?_)
          clear hK
          try simp only [List.getElem_toArray, List.getElem_cons_zero, List.getElem_cons_succ, Act.put]
          have Y3 := SD.r3.whole (nm true (dgs Q))
          have Y4 := SD.r4.apart (g' := w.heap.size + 1 + 1) (by omega) (nm true (dgs Q))
          have YQ := SD.q.setRow SD.r3 (by omega) (nm true (dgs Q))
          refine wpAnyH_ready (rs := [3]) (by kernel_rfl) (by simp) (AllReadyH.cons rfl (fun K hK => ?_) AllReadyH.nil)
          rw [if_pos (by rfl)]
          refine wp_store_row 42 (.tmp 5) (.tmp 61) rfl (w.heap.size + 1 + 1 + 1) (nm false (dgs R)) rfl rfl 42 _ Y4 (by kernel_rfl) rfl (nm_one _ _) ?_
          refine hK.out _ _ ⟨X1.apart (by omega) _, X2.apart (by omega) _⟩ (fun _ => ?_)
          clear hK
          refine wpAnyH_done (by kernel_rfl) ?_ _
          simp only [List.getElem_toArray, List.getElem_cons_zero, List.getElem_cons_succ, Act.put]
          have Z3 := Lib.hid (Y3.apart (g' := w.heap.size + 1 + 1 + 1) (by omega) (nm false (dgs R)))
          have Z4 := Lib.hid (Y4.whole (nm false (dgs R)))
          have ZQ := Lib.hid (YQ.setRow Y4 (by omega) (nm false (dgs R)))
          clear X1 X2 Y3 Y4 YQ SD hX
          go_wp2
          exact bodyPost_ret (v := .tuple #[.agg (nm true (dgs Q)), .agg (nm false (dgs R))]) (results_two rfl _ _ (w.heap.size + 1 + 1) (w.heap.size + 1 + 1 + 1) _ _ _ _ rfl rfl Z3.out Z4.out) rfl
            ⟨⟨true, Q, R, rfl, HF.out.1, HF.out.2.1, HF.out.2.2, HRE.out⟩, ZQ.out⟩
    | j + 1, hk, S =>
      rw [show ((j + 1 : Nat) : Int) - 1 = (j : Int) from by omega]
      have hj : j < 192 := by omega
      have hj16 : j / 16 < 12 := by omega
      have hj1 : (0 : Int) ≤ (j : Int) / 16 := by omega
      have hj2 : (j : Int) / 16 < 12 := by omega
      have KS := Lib.hid S
      clear S
      obtain ⟨b, hbe⟩ : ∃ b, b = A / Rf.P2 j % 2 := ⟨_, rfl⟩
      have hb : 0 ≤ b ∧ b ≤ 1 := by omega
      have HB : Hid (dgs A (j / 16) / 2 ^ (j % 16) % 2 = b) := Lib.hid (by rw [hbe]; exact Rf.bit_of A j)
      have bd := dgs_bd A (j / 16)
      obtain ⟨bd1, bd2⟩ := bd
      have HU : Hid (A / Rf.P2 j = 2 * (A / Rf.P2 (j + 1)) + b) := Lib.hid (by rw [hbe]; exact Rf.up_step A j)
      clear hbe
      obtain ⟨H, hH⟩ : ∃ H, H = A / Rf.P2 (j + 1) := ⟨_, rfl⟩
      rw [← hH] at KS HU
      clear hH
      go_wp2_with fail
      refine wp_region_held_drew (S := OX w s A) (by kernel_rfl) KS.out.r1 (fun hX => ?_)
      refine wpAnyH_take (i := 1) (v := .int .i64 j) rfl (by kernel_rfl) (by kernel_rfl) (by kernel_rfl) (fun _ _ _ h => h) (.inl ⟨by rfl, ?_⟩) (by assumption) ?_
      · intro W hW; go_simp
      simp only [List.getElem_toArray, List.getElem_cons_zero, List.getElem_cons_succ, Act.put, List.setIfInBounds_toArray, List.set_cons_zero, List.set_cons_succ]
      refine wpAnyH_take (i := 2) (v := .int .i64 ((j : Int) / 16)) rfl (by kernel_rfl) (by kernel_rfl) (by kernel_rfl) (fun _ _ _ h => h) (.inl ⟨by rfl, ?_⟩) (by assumption) ?_
      · intro W hW; go_simp; simp only [IntKind.wrap_i64]; omega
      simp only [List.getElem_toArray, List.getElem_cons_zero, List.getElem_cons_succ, Act.put, List.setIfInBounds_toArray, List.set_cons_zero, List.set_cons_succ]
      refine wpAnyH_take (i := 3) (v := .pointer (some ⟨w.heap.size, 1, none⟩)) rfl (by kernel_rfl) (by kernel_rfl) (by kernel_rfl) (fun _ _ _ h => h) (.inl ⟨by rfl, ?_⟩) (by assumption) ?_
      · intro W hW; go_simp
      simp only [List.getElem_toArray, List.getElem_cons_zero, List.getElem_cons_succ, Act.put, List.setIfInBounds_toArray, List.set_cons_zero, List.set_cons_succ]
      refine wpAnyH_take (i := 4) (v := .pointer (some ⟨w.heap.size, 1 + j / 16, none⟩)) rfl (by kernel_rfl) (by kernel_rfl) (by kernel_rfl) (fun _ _ _ h => h) (.inl ⟨by rfl, ?_⟩) (by assumption) ?_
      · intro W hW; go_simp
      simp only [List.getElem_toArray, List.getElem_cons_zero, List.getElem_cons_succ, Act.put, List.setIfInBounds_toArray, List.set_cons_zero, List.set_cons_succ]
      refine wpAnyH_take (i := 5) (v := .int .u64 (dgs A (j / 16))) rfl (by kernel_rfl) (by kernel_rfl) (by kernel_rfl) (fun _ _ _ h => h) (.inl ⟨by rfl, ?_⟩) (by assumption) ?_
      · intro W hW; have := (show Row W w.heap.size 42 _ from hW).digit (j / 16) hj16; go_simp
      simp only [List.getElem_toArray, List.getElem_cons_zero, List.getElem_cons_succ, Act.put, List.setIfInBounds_toArray, List.set_cons_zero, List.set_cons_succ]
      refine wpAnyH_take (i := 6) (v := .int .i64 j) rfl (by kernel_rfl) (by kernel_rfl) (by kernel_rfl) (fun _ _ _ h => h) (.inl ⟨by rfl, ?_⟩) (by assumption) ?_
      · intro W hW; go_simp
      simp only [List.getElem_toArray, List.getElem_cons_zero, List.getElem_cons_succ, Act.put, List.setIfInBounds_toArray, List.set_cons_zero, List.set_cons_succ]
      refine wpAnyH_take (i := 7) (v := .int .i64 ((j : Int) % 16)) rfl (by kernel_rfl) (by kernel_rfl) (by kernel_rfl) (fun _ _ _ h => h) (.inl ⟨by rfl, ?_⟩) (by assumption) ?_
      · intro W hW; go_simp; exact Int.tmod_eq_emod_of_nonneg (by omega)
      simp only [List.getElem_toArray, List.getElem_cons_zero, List.getElem_cons_succ, Act.put, List.setIfInBounds_toArray, List.set_cons_zero, List.set_cons_succ]
      refine wpAnyH_take (i := 8) (v := .int .u64 (dgs A (j / 16) / 2 ^ (j % 16))) rfl (by kernel_rfl) (by kernel_rfl) (by kernel_rfl) (fun _ _ _ h => h) (.inl ⟨by rfl, ?_⟩) (by assumption) ?_
      · intro W hW; go_simp; rw [show ((j : Int) % 16).toNat = j % 16 by omega]
      simp only [List.getElem_toArray, List.getElem_cons_zero, List.getElem_cons_succ, Act.put, List.setIfInBounds_toArray, List.set_cons_zero, List.set_cons_succ]
      refine wpAnyH_take (i := 9) (v := .int .u64 b) rfl (by kernel_rfl) (by kernel_rfl) (by kernel_rfl) (fun _ _ _ h => h) (.inl ⟨by rfl, ?_⟩) (by assumption) ?_
      · intro W hW; go_simp; exact (Int.tmod_eq_emod_of_nonneg (Int.ediv_nonneg bd1 (Int.le_of_lt (Rf.P2_pos (j % 16))))).trans HB.out
      simp only [List.getElem_toArray, List.getElem_cons_zero, List.getElem_cons_succ, Act.put, List.setIfInBounds_toArray, List.set_cons_zero, List.set_cons_succ]
      refine wpAnyH_ready (rs := [0]) (by kernel_rfl) (by simp) (AllReadyH.cons rfl (fun K hK => ?_) AllReadyH.nil)
      rw [if_pos (by rfl)]
      refine wp_load_row 40 (.tmp 7) rfl (w.heap.size + 1 + 1 + 1 + 1 + 1) rfl 40 (ar (dgs (H % C))) (0, 0) _ KS.out.r6 Try.underlying40 rfl (by kernel_rfl) ?_
      refine hK.out _ _ hX (fun _ => ?_)
      clear hK
      try simp only [List.getElem_toArray, List.getElem_cons_zero, Act.put, List.setIfInBounds_toArray, List.set_cons_zero, List.set_cons_succ]
      refine wpAnyH_ready (rs := [10]) (by kernel_rfl) (by simp) (AllReadyH.cons rfl (fun K hK => ?_) AllReadyH.nil)
      go_simp
      refine (shifted_any (H % C) b hb _).mono ?_; rintro e w1 ⟨rfl, q1⟩
      have S1 := KS.out.drew.quiet q1
      refine hK.out _ _ S1.r1 (fun _ => ?_)
      clear hK
      try simp only [List.getElem_toArray, List.getElem_cons_zero, List.getElem_cons_succ, Act.put, List.setIfInBounds_toArray, List.set_cons_zero, List.set_cons_succ]
      refine wpAnyH_ready (rs := [11]) (by kernel_rfl) (by simp) (AllReadyH.cons rfl (fun K hK => ?_) AllReadyH.nil)
      rw [if_pos (by rfl)]
      refine wp_store_row 40 (.tmp 7) (.tmp 25) rfl (w.heap.size + 1 + 1 + 1 + 1 + 1) (ar (dgs (2 * (H % C) + b))) rfl rfl 40 _ S1.r6 (by kernel_rfl) rfl (ar_one _) ?_
      have S2 := S1.setR (2 * (H % C) + b)
      refine hK.out _ _ S2.r1 (fun _ => ?_)
      clear hK
      refine wpAnyH_done (by kernel_rfl) ?_ _
      simp only [List.getElem_toArray, List.getElem_cons_zero, List.getElem_cons_succ, Act.put]
      have K2 := Lib.hid S2
      clear S1 S2 KS hX
      obtain ⟨W2, hW2⟩ : ∃ W2, W2 = w1.setRow (w.heap.size + 1 + 1 + 1 + 1 + 1) (ar (dgs (2 * (H % C) + b))) := ⟨_, rfl⟩
      rw [← hW2] at K2 ⊢
      clear hW2 q1
      have SH := Lib.hid (fun W => shifted_any (H / C) 0 (by omega) W)
      rw [Int.add_zero] at SH
      have hm := And.intro (Int.emod_nonneg H (show C ≠ 0 by have := HC.out.1; omega)) (Int.emod_lt_of_pos H HC.out.1)
      have LS := Lib.hid (fun W => less_any (2 * (H % C) + b) C (by omega) (by have := HC.out.1; omega) (by have := HC.out.2; omega) (by have := HC.out; omega) W)
      clear hm
      cases hl : ltB (2 * (H % C) + b) C
      all_goals
        go_wp2_with (first
          | ((with_reducible refine wl_load_ar (w.heap.size + 1 + 1 + 1 + 1) 0 (dgs (H / C)) ?_ ?_ ?_); rfl; exact K2.out.r5.range0)
          | (go_at_call 53; refine (SH.out _).mono ?_; rintro e w3 ⟨rfl, q3⟩)
          | ((with_reducible refine wl_store_ar (w.heap.size + 1 + 1 + 1 + 1) (dgs (2 * (H / C))) (dgs (H / C)) ?_ ?_ ?_ ?_); rfl; rfl; exact (K2.out.quiet q3).r5; have K3 := Lib.hid ((K2.out.quiet q3).setQ (2 * (H / C))))
          | ((with_reducible refine wl_load_ar (w.heap.size + 1 + 1 + 1 + 1 + 1) 0 (dgs (2 * (H % C) + b)) ?_ ?_ ?_); rfl; first | exact K4.out.r6.range0 | exact K3.out.r6.range0)
          | ((with_reducible refine wl_load_ar (w.heap.size + 1) 1 (dgs C) ?_ ?_ ?_); rfl; first | exact K4.out.r2.range | exact K3.out.r2.range)
          | (go_at_call 49; refine (LS.out _).mono ?_; rintro e w4 ⟨rfl, q4⟩; have K4 := Lib.hid (K3.out.quiet q4))
          | (go_at_call 51; refine (minus_any (2 * (H % C) + b) C _).mono ?_; rintro e w5 ⟨rfl, q5⟩)
          | ((with_reducible refine wl_store_ar (w.heap.size + 1 + 1 + 1 + 1 + 1) (dgs (2 * (H % C) + b - C)) (dgs (2 * (H % C) + b)) ?_ ?_ ?_ ?_); rfl; rfl; exact (K4.out.quiet q5).r6; have K5 := Lib.hid ((K4.out.quiet q5).setR (2 * (H % C) + b - C)); have c9 := K5.out.r5.cell 0 (by omega); have f9 := K5.out.r5.free 0; have b9 := dgs_bd (2 * (H / C)) 0))
      · have h := Rf.div_more H C b HC.out.1 hb.2 (by have := of_decide_eq_false hl; omega)
        go_roundw
        case rel => exact ⟨j, by omega, by go_num, by rw [HU.out, h.1, h.2]; exact K5.out.odd⟩
        case measure => simp [intOf]
      · have h := Rf.div_less H C b HC.out.1 hb.1 (of_decide_eq_true hl)
        go_roundw
        case rel => exact ⟨j, by omega, by go_num, by rw [HU.out, h.1, h.2]; exact K4.out⟩
        case measure => simp [intOf]
end Go.Proofs.Ytgjaknfphokjpaa
