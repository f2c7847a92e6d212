/- Contracts of the document's plain side: Get, Lower, Drop. -/
import Derived.Test.YtpnccbcaoifdiaaSg
namespace Go.Proofs.Ytpnccbcaoifdiaa
open Go.RowKit
set_option linter.unusedVariables false

theorem zero_or (w : World) : (zeroValue 33).run Try.prog w = .ok (.agg (EO.cells zeroOr).toArray) w := by kernel_rfl
theorem built_or : Try.prog.built 33 [] = some (EO.cells zeroOr).toArray := by kernel_rfl
theorem row_inO {w W : World} {x : Or} {g : Nat} (h : w.heap.size ≤ g) (q : Below w.heap.size w W) : Below w.heap.size w (W.setRow g (EO.cells x).toArray) := below_row0 q h
/-- What is needed within a call that has an order as its result. -/
theorem res_new (w : World) : ∃ W1, w.alloc (.cells (EO.cells zeroOr).toArray 33) = W1 ∧ Below w.heap.size w W1 ∧ EO.Bx 33 W1 w.heap.size zeroOr ∧ W1.heap.size = w.heap.size + 1 := ⟨_, rfl, below_new w _, gbx_new w _, by simp⟩
set_option maxRecDepth 100000 in
set_option maxHeartbeats 1000000 in
theorem rget_none (B g : Nat) (v : Value) (buy : Bool) (l : List Or) (n : Int) (w : World) (h : Rs w B g v buy l) (hn : 0 ≤ n ∧ n ≤ 18446744073709551615) (hp : plO l n = -1) :
    Calls Try.prog 21 #[.pointer (some ⟨g, 0, none⟩), .int .u64 n] w fun e w' => e = .returned (.tuple #[.agg (EO.cells zeroOr).toArray, .int .i64 7]) ∧ Below w.heap.size w w' := by
  have hz := zero_or
  obtain ⟨W1, hW1, b1, x1, _⟩ := res_new w
  have P := rpl_any B g v buy l n W1 (h.below b1) hn
  rw [hp] at P
  have HW := Lib.hid hW1
  have X1 := Lib.hid x1
  have B1 := Lib.hid b1
  clear h hp x1 b1 hW1
  go_enter Try.func21, Try.ntmps21
  go_wp2_with fail
  rw [HW.out]
  refine P.mono ?_; rintro e w2 ⟨rfl, rfl⟩
  go_wp2_with (first | (refine gwl_build0 built_or ?_) | (refine gwl_store TO zeroOr w.heap.size X1.out rfl rfl ?_))
  exact bodyPost_ret (gret TO rfl _ _ w.heap.size rfl rfl (gbx_set X1.out)) rfl ⟨rfl, row_inO (Nat.le_refl _) B1.out⟩
set_option maxRecDepth 100000 in
set_option maxHeartbeats 1000000 in
theorem rget_some (B g : Nat) (v : Value) (buy : Bool) (l : List Or) (n : Int) (k : Nat) (x : Or) (w : World) (h : Rs w B g v buy l) (hn : 0 ≤ n ∧ n ≤ 18446744073709551615) (hp : plO l n = k) (hx : l[k]? = some x) :
    Calls Try.prog 21 #[.pointer (some ⟨g, 0, none⟩), .int .u64 n] w fun e w' => e = .returned (.tuple #[.agg (EO.cells x).toArray, .int .i64 0]) ∧ Below w.heap.size w w' := by
  have hz := zero_or
  obtain ⟨W1, hW1, b1, x1, _⟩ := res_new w
  have h1 := h.below b1
  have P := rpl_any B g v buy l n W1 h1 hn
  rw [hp] at P
  have hk := (List.getElem?_eq_some_iff.1 hx).1
  obtain ⟨b, c, rfl⟩ := gown_slot h.own (by omega)
  have RG : Hid (W1.rangeAt b (k * 5) (EO.cells x)) := Lib.hid (gown_rng h1.own hx)
  have k1 := h1.c1
  have HW := Lib.hid hW1
  have X1 := Lib.hid x1
  have B1 := Lib.hid b1
  have hki : (k : Int) < (l.length : Int) := by omega
  have hd : decide ((k : Int) < 0) = false := decide_eq_false (by omega)
  have hle := h.le
  clear h h1 hp x1 b1 hW1 hx
  generalize l.length = m at *
  go_enter Try.func21, Try.ntmps21
  go_wp2_with fail
  rw [HW.out]
  refine P.mono ?_; rintro e w2 ⟨rfl, rfl⟩
  go_wp2_with (first | ((with_reducible refine gwl_load TO b (k * 5) RG.out ?_ ?_ ?_); rfl; rfl) | (refine gwl_store TO x w.heap.size X1.out rfl rfl ?_))
  exact bodyPost_ret (gret TO rfl _ _ w.heap.size rfl rfl (gbx_set X1.out)) rfl ⟨rfl, row_inO (Nat.le_refl _) B1.out⟩
set_option maxRecDepth 100000 in
theorem rlow_none (B g : Nat) (v : Value) (buy : Bool) (l : List Or) (n left : Int) (w : World) (h : Rs w B g v buy l) (hn : 0 ≤ n ∧ n ≤ 18446744073709551615) (hp : plO l n = -1) :
    Calls Try.prog 19 #[.pointer (some ⟨g, 0, none⟩), .int .u64 n, .int .i64 left] w fun e w' => e = .returned (.int .i64 7) ∧ w = w' := by
  have P := rpl_any B g v buy l n w h hn
  rw [hp] at P
  clear h hp
  go_enter Try.func19, Try.ntmps19
  go_wp2_with fail
  refine P.mono ?_; rintro e w2 ⟨rfl, rfl⟩
  go_wp2_with fail
  go_ret
  exact ⟨rfl, rfl⟩
def lowE (x : Or) (left : Int) : Int := if left < 1 ∨ x.le < left then 2 else 0
set_option maxRecDepth 100000 in
set_option maxHeartbeats 1000000 in
theorem rlow_some (B g : Nat) (v : Value) (buy : Bool) (l : List Or) (n left : Int) (k : Nat) (x : Or) (w : World) (h : Rs w B g v buy l) (hn : 0 ≤ n ∧ n ≤ 18446744073709551615) (hf : I64' left) (hp : plO l n = k) (hx : l[k]? = some x) :
    Calls Try.prog 19 #[.pointer (some ⟨g, 0, none⟩), .int .u64 n, .int .i64 left] w fun e w' => e = .returned (.int .i64 (lowE x left)) ∧ RsN w B g v buy (if lowE x left = 0 then l.set k (x.wi left) else l) w' := by
  have P := rpl_any B g v buy l n w h hn
  rw [hp] at P
  have ST := Lib.hid (rset_any B g v buy l k x left w h hx hf)
  have HH := Lib.hid h
  have hk := (List.getElem?_eq_some_iff.1 hx).1
  obtain ⟨b, c, rfl⟩ := gown_slot h.own (by omega)
  have k1 := h.c1
  have kl : w.cell? ⟨b, k * 5 + 4, none⟩ = some (.int .i64 x.le) := gown_at h.own hx (i := 4) (by decide)
  obtain ⟨x1, x2⟩ := (h.ok x (List.mem_of_getElem? hx)).le
  obtain ⟨f1, f2⟩ := hf
  have hki : (k : Int) < (l.length : Int) := by omega
  have hd : decide ((k : Int) < 0) = false := decide_eq_false (by omega)
  have hle := h.le
  obtain ⟨l2, hl2⟩ : ∃ l2, (if lowE x left = 0 then l.set k (x.wi left) else l) = l2 := ⟨_, rfl⟩
  rw [hl2]
  obtain ⟨r, hr⟩ : ∃ r, lowE x left = r := ⟨_, rfl⟩
  rw [hr] at hl2 ⊢
  unfold lowE at hr
  have SL : left ≠ 0 → setL l k x left = l.set k (x.wi left) := fun c => if_neg c
  obtain ⟨m, hm⟩ : ∃ m, l.length = m := ⟨_, rfl⟩
  rw [hm] at k1 hki hle hk HH ST ⊢
  clear h hp hx
  cases h1 : decide (left < 1)
  · cases h2 : decide (x.le < left)
    · have hr := (if_neg (fun c => c.elim (of_decide_eq_false h1) (of_decide_eq_false h2))).symm.trans hr
      subst hr
      rw [if_pos rfl] at hl2
      have L2 := Lib.hid hl2
      rw [SL (by have := of_decide_eq_false h1; omega)] at ST
      clear hl2 SL
      go_enter Try.func19, Try.ntmps19
      go_wp2_with fail
      refine P.mono ?_; rintro e w2 ⟨rfl, rfl⟩
      go_wp2_with fail
      refine ST.out.mono ?_; rintro e w3 ⟨⟨vv, rfl⟩, q⟩
      have Q := Lib.hid q
      clear q
      go_wp2_with fail
      go_ret
      rw [← L2.out]
      exact ⟨rfl, Q.out⟩
    · have hr := (if_pos (.inr (of_decide_eq_true h2))).symm.trans hr
      subst hr
      rw [if_neg (by decide)] at hl2
      subst hl2
      clear SL ST
      go_enter Try.func19, Try.ntmps19
      go_wp2_with fail
      refine P.mono ?_; rintro e w2 ⟨rfl, rfl⟩
      go_wp2_with fail
      go_ret
      exact ⟨rfl, rsn_same HH.out (Below.refl _ _)⟩
  · have hr := (if_pos (.inl (of_decide_eq_true h1))).symm.trans hr
    subst hr
    rw [if_neg (by decide)] at hl2
    subst hl2
    clear SL ST
    go_enter Try.func19, Try.ntmps19
    go_wp2_with fail
    refine P.mono ?_; rintro e w2 ⟨rfl, rfl⟩
    go_wp2_with fail
    go_ret
    exact ⟨rfl, rsn_same HH.out (Below.refl _ _)⟩
set_option maxRecDepth 100000 in
set_option maxHeartbeats 1000000 in
theorem rdrop_none (B g : Nat) (v : Value) (buy : Bool) (l : List Or) (n : Int) (w : World) (h : Rs w B g v buy l) (hn : 0 ≤ n ∧ n ≤ 18446744073709551615) (hp : plO l n = -1) :
    Calls Try.prog 17 #[.pointer (some ⟨g, 0, none⟩), .int .u64 n] w fun e w' => e = .returned (.tuple #[.agg (EO.cells zeroOr).toArray, .int .i64 7]) ∧ Below w.heap.size w w' := by
  have hz := zero_or
  obtain ⟨W1, hW1, b1, x1, _⟩ := res_new w
  have P := rpl_any B g v buy l n W1 (h.below b1) hn
  rw [hp] at P
  have HW := Lib.hid hW1
  have X1 := Lib.hid x1
  have B1 := Lib.hid b1
  clear h hp x1 b1 hW1
  go_enter Try.func17, Try.ntmps17
  go_wp2_with fail
  rw [HW.out]
  refine P.mono ?_; rintro e w2 ⟨rfl, rfl⟩
  go_wp2_with (first | (refine gwl_build0 built_or ?_) | (refine gwl_store TO zeroOr w.heap.size X1.out rfl rfl ?_))
  exact bodyPost_ret (gret TO rfl _ _ w.heap.size rfl rfl (gbx_set X1.out)) rfl ⟨rfl, row_inO (Nat.le_refl _) B1.out⟩
set_option maxRecDepth 100000 in
set_option maxHeartbeats 2000000 in
theorem rdrop_some (B g : Nat) (v : Value) (buy : Bool) (l : List Or) (n : Int) (k : Nat) (x : Or) (w : World) (h : Rs w B g v buy l) (hn : 0 ≤ n ∧ n ≤ 18446744073709551615) (hp : plO l n = k) (hx : l[k]? = some x) :
    Calls Try.prog 17 #[.pointer (some ⟨g, 0, none⟩), .int .u64 n] w fun e w' => e = .returned (.tuple #[.agg (EO.cells x).toArray, .int .i64 0]) ∧ RsN w B g v buy (l.eraseIdx k) w' := by
  have hz := zero_or
  obtain ⟨W1, hW1, b1, x1, s1⟩ := res_new w
  have h1 := h.below b1
  have P := rpl_any B g v buy l n W1 h1 hn
  rw [hp] at P
  obtain ⟨W3, hW3⟩ : ∃ W3, (W1.alloc (.cells (EO.cells zeroOr).toArray 33)).setRow W1.heap.size (EO.cells x).toArray = W3 := ⟨_, rfl⟩
  have y0 : EO.Bx 33 (W1.alloc (.cells (EO.cells zeroOr).toArray 33)) W1.heap.size zeroOr := gbx_new W1 _
  have y3 : EO.Bx 33 W3 W1.heap.size x := by rw [← hW3]; exact gbx_set y0
  have b3 : Below W1.heap.size W1 W3 := by rw [← hW3]; exact below_row0 (below_new W1 _) (Nat.le_refl _)
  have h3 := h1.below b3
  have ST := Lib.hid (rset_any B g v buy l k x 0 W3 h3 hx ⟨by omega, by omega⟩)
  have x3 : EO.Bx 33 W3 w.heap.size zeroOr := (b3.block _ (by omega)).trans x1
  have hk := (List.getElem?_eq_some_iff.1 hx).1
  have GLT : Hid (g < w.heap.size) := Lib.hid h.gl
  have VLT : Hid (∀ k, v.ownBlock = some k → k < w.heap.size) := Lib.hid fun k hk => (gown_lt h.own hk).2
  obtain ⟨b, c, rfl⟩ := gown_slot h.own (by omega)
  have RG : Hid (W1.rangeAt b (k * 5) (EO.cells x)) := Lib.hid (gown_rng h1.own hx)
  have k1 := h1.c1
  have HW := Lib.hid hW1
  have HW3 := Lib.hid hW3
  have X3 := Lib.hid x3
  have Y0 := Lib.hid y0
  have Y3 := Lib.hid y3
  have B1 := Lib.hid b1
  have B3 := Lib.hid b3
  have S1 := Lib.hid s1
  have SE : Hid (setL l k x 0 = l.eraseIdx k) := Lib.hid (if_pos rfl)
  rw [SE.out] at ST
  have hki : (k : Int) < (l.length : Int) := by omega
  have hd : decide ((k : Int) < 0) = false := decide_eq_false (by omega)
  have hle := h.le
  clear h h1 h3 hp x1 b1 b3 y0 y3 x3 hW1 hW3 hx s1
  generalize l.length = m at *
  go_enter Try.func17, Try.ntmps17
  go_wp2_with fail
  rw [HW.out]
  refine P.mono ?_; rintro e w2 ⟨rfl, rfl⟩
  go_wp2_with (first | ((with_reducible refine gwl_load TO b (k * 5) RG.out ?_ ?_ ?_); rfl; rfl) | (refine gwl_store TO x W1.heap.size Y0.out rfl rfl ?_))
  rw [HW3.out]
  refine ST.out.mono ?_; rintro e w5 ⟨⟨vv, rfl⟩, q⟩
  have Q := Lib.hid q
  obtain ⟨v5, r5, f5, n5⟩ := q
  have sz3 := B3.out.size
  have X5 : Hid (EO.Bx 33 w5 w.heap.size zeroOr) := Lib.hid ((f5.at' _ (Array.getElem?_eq_some_iff.1 X3.out).1 (fun e => by have := GLT.out; omega)).trans X3.out)
  have Y5 : Hid (EO.Bx 33 w5 W1.heap.size x) := Lib.hid ((f5.at' _ (Array.getElem?_eq_some_iff.1 Y3.out).1 (fun e => by have := GLT.out; have := S1.out; omega)).trans Y3.out)
  have R5 := Lib.hid r5
  have F5 := Lib.hid f5
  have N5 := Lib.hid n5
  clear r5 f5 n5 sz3
  go_wp2_with (first | ((with_reducible refine gwl_load TO W1.heap.size 0 (gbx_rng Y5.out) ?_ ?_ ?_); rfl; rfl) | (refine gwl_store TO x w.heap.size X5.out rfl rfl ?_))
  have f6 : Fr (fun k => k = w.heap.size) w5 (w5.setRow w.heap.size (EO.cells x).toArray) := fr_row (S := fun k => k = w.heap.size) rfl _
  refine bodyPost_ret (gret TO rfl _ _ w.heap.size rfl rfl (gbx_set X5.out)) rfl ⟨rfl, v5, R5.out.keep f6 (fun e => by have := GLT.out; omega) (fun j hj e => ?_), ?_, fun j hj => ?_⟩
  · subst e
    obtain ⟨cur, hh⟩ := gown_cells R5.out.own hj
    rcases N5.out _ hj with c | c
    · have := VLT.out _ c; omega
    · have := B1.out.size; have := S1.out; have := B3.out.size; omega
  · exact ((Fr.below (B1.out.trans (B3.out.mono B1.out.size))).same F5.out).trans f6 (fun _ h => h) (fun j hj e => by omega)
  · exact (N5.out j hj).imp id fun c => Nat.le_trans (Nat.le_trans B1.out.size B3.out.size) c
end Go.Proofs.Ytpnccbcaoifdiaa
