/- Contracts of the document's plain side: set, Get, Lower, Drop. -/
import Derived.Test.YtpnccbcaoifdiaaSf
namespace Go.Proofs.Ytpnccbcaoifdiaa
open Go.RowKit
set_option linter.unusedVariables false

/-- What a call leaves of the plain side. -/
def RsN (w : World) (B g : Nat) (v : Value) (buy : Bool) (l : List Or) (w' : World) : Prop := ∃ v', Rs w' B g v' buy l ∧ Fr (fun k => k = g) w w' ∧ ∀ k, v'.ownBlock = some k → v.ownBlock = some k ∨ w.heap.size ≤ k
theorem rsn_same {w w' : World} {B g : Nat} {v : Value} {buy : Bool} {l : List Or} (h : Rs w B g v buy l) (q : Below w.heap.size w w') : RsN w B g v buy l w' := ⟨v, h.below q, Fr.below q, fun _ h => .inl h⟩
theorem rsn_from {w0 w w' : World} {B g : Nat} {v : Value} {buy : Bool} {l : List Or} (q : Below w0.heap.size w0 w) (h : RsN w B g v buy l w') : RsN w0 B g v buy l w' := by
  obtain ⟨v', h1, h2, h3⟩ := h
  exact ⟨v', h1, (Fr.below q).same h2, fun k hk => (h3 k hk).imp id fun c => Nat.le_trans q.size c⟩
/-- An order with another rest. -/
def Or.wi (o : Or) (n : Int) : Or := ⟨o.nu, o.ac, o.bu, o.pr, n⟩
def setL (l : List Or) (i : Nat) (x : Or) (left : Int) : List Or := if left = 0 then l.eraseIdx i else l.set i (x.wi left)
theorem wi_ok {o : Or} (h : o.ok) {n : Int} (hn : I64' n) : (o.wi n).ok := ⟨h.nu, h.ac, h.pr, hn⟩
theorem set_ok {l : List Or} (h : ∀ x, x ∈ l → x.ok) {i : Nat} {x : Or} (hx : x.ok) {n : Int} (hn : I64' n) : ∀ y, y ∈ setL l i x n → y.ok := by
  intro y hy
  unfold setL at hy
  split at hy
  · exact h y (List.mem_of_mem_eraseIdx hy)
  · rcases List.mem_or_eq_of_mem_set hy with q | rfl
    · exact h y q
    · exact wi_ok hx hn
theorem set_len (l : List Or) (i : Nat) (x : Or) (n : Int) : (setL l i x n).length ≤ l.length := by
  unfold setL
  split
  · rw [List.length_eraseIdx]; split <;> omega
  · rw [List.length_set]; exact Nat.le_refl _
set_option maxRecDepth 100000 in
set_option maxHeartbeats 4000000 in
theorem rset_any (B g : Nat) (v : Value) (buy : Bool) (l : List Or) (i : Nat) (x : Or) (left : Int) (w : World) (h : Rs w B g v buy l) (hx : l[i]? = some x) (hn : I64' left) :
    Calls Try.prog 39 #[.pointer (some ⟨g, 0, none⟩), .int .i64 i, .int .i64 left] w fun e w' => (∃ v, e = .returned v) ∧ RsN w B g v buy (setL l i x left) w' := by
  have hi := (List.getElem?_eq_some_iff.1 hx).1
  obtain ⟨A, c, rfl, hAc⟩ := gown_form h.own
  obtain ⟨b, c', eb⟩ := gown_slot h.own (by omega)
  injection eb with e1 _ e2
  subst e1 e2
  have HH := Lib.hid h
  have LE := Lib.hid h.le
  have hle := h.le
  have hB := Nat.lt_of_le_of_lt h.ge h.gl
  have B0 := Lib.hid (below_new w (.cells #[] 33))
  have O0 : Hid (EO.Own 33 (w.alloc (.cells #[] 33)) w.heap.size (.slice (some ⟨w.heap.size, 0, none⟩) 0 0) []) := Lib.hid (gown_new w)
  have R0 := Lib.hid (gown_rd (h.below B0.out).own)
  have k1 := (h.below B0.out).c1
  obtain ⟨n, hl⟩ : ∃ n, l.length = n := ⟨_, rfl⟩
  have HL := Lib.hid hl
  rw [hl] at R0 k1 HH hle hi ⊢
  have hi' : (i : Int) < (n : Int) := by omega
  have hd : decide ((i : Int) < 0) = false := decide_eq_false (by omega)
  have HX := Lib.hid hx
  have IX := Lib.hid hi
  have hGL := h.gl
  have VG : Hid (b ≠ g ∧ b < w.heap.size) := Lib.hid ⟨h.apart b rfl, (gown_lt h.own rfl).2⟩
  obtain ⟨n1, n2⟩ := hn
  have GL := Lib.hid hGL
  have NI : Hid (I64' left) := Lib.hid ⟨n1, n2⟩
  clear h hx hl hGL
  have key : ∀ (w1 : World) (v1 : Value), EO.Own 33 w1 w.heap.size v1 ([] ++ l) → ∃ b1 k1, v1 = .slice (some ⟨b1, 0, none⟩) n k1 ∧ EO.Own 33 w1 w.heap.size (.slice (some ⟨b1, 0, none⟩) n k1) l ∧ w1.cell? ⟨b1, i * 5 + 4, none⟩ = some (.int .i64 x.le) ∧ w1.frozen? ⟨b1, i * 5 + 4, none⟩ = false := fun w1 v1 o => by
    rw [List.nil_append] at o
    obtain ⟨b1, k1, e⟩ := gown_slot o (by have := HL.out; omega)
    rw [HL.out] at e
    subst e
    exact ⟨b1, k1, rfl, o, gown_at o HX.out (i := 4) (by decide), gown_fz o _⟩
  have KEY := Lib.hid key
  clear key
  by_cases hz : left = 0
  · have EZ : Hid (setL l i x left = l.eraseIdx i) := Lib.hid (if_pos hz)
    have hz1 : (left == 0) = true := beq_iff_eq.2 hz
    clear hz
    go_enter Try.func39, Try.ntmps39
    go_wp2_with (at_builtin; refine gpl_app TO rfl (.tmp 7) (.tmp 11) rfl w.heap.size _ [] rfl O0.out (some ⟨b, 0, none⟩) n c l rfl R0.out (fun e => by cases e) (by simp; omega) (by simp) ?_; intro v1 w1 o1 g1 _; obtain ⟨b1, k1, rfl, o1', hc1, hf1⟩ := KEY.out w1 v1 o1; have O1 := Lib.hid o1'; have G1 := Lib.hid (B0.out.grown g1 (by simp) (fun k e => (by cases e; exact Nat.le_refl _))); clear o1 g1 o1')
    have O2 := Lib.hid (gown_put O1.out HX.out (i := 4) (by decide) (u := .int .i64 left) (show EO.cells (x.wi left) = _ from rfl))
    have F2 : Hid (Below w.heap.size w (w1.setCell ⟨b1, i * 5 + 4, none⟩ (.int .i64 left))) := Lib.hid (G1.out.setCell (p := ⟨b1, i * 5 + 4, none⟩) (gown_lt O1.out rfl).1 _)
    have CP := gown_cap O1.out
    refine (rwo_any (some ⟨b1, 0, none⟩) n k1 i (l.set i (x.wi left)) _ (gown_rd O2.out) (by omega) IX.out CP).mono ?_; rintro e w3 ⟨v3, rfl, o3, q3⟩
    have F3 := Lib.hid (F2.out.trans (q3.mono F2.out.size))
    obtain ⟨A3, n3, c3, rfl⟩ := gown_any o3
    have O3 : Hid (EO.Own 33 w3 w.heap.size (.slice A3 n3 c3) (l.eraseIdx i)) := Lib.hid (by
      rw [List.eraseIdx_set_eq] at o3
      exact gown_low o3 F2.out.size)
    have H3 := Lib.hid (HH.out.below F3.out)
    have k3 := H3.out.c1
    have f3 := H3.out.fz 1
    clear o3 q3 hc1 hf1
    go_wp2_with fail
    go_end0
    rw [EZ.out]
    exact ⟨⟨_, rfl⟩, _, H3.out.put (gown_low O3.out (by omega)) (fun e => by have := (gown_lt O3.out e).1; have := GL.out; omega) (Nat.le_trans (by rw [List.length_eraseIdx]; split <;> omega) LE.out) (fun y hy => HH.out.ok y (List.mem_of_mem_eraseIdx hy)), (Fr.below F3.out).same (Fr.set (S := fun k => k = g) (p := ⟨g, 1, none⟩) rfl _), fun k hk => .inr (gown_lt O3.out hk).1⟩
  · have EZ : Hid (setL l i x left = l.set i (x.wi left)) := Lib.hid (if_neg hz)
    have hz1 : (left == 0) = false := beq_eq_false_iff_ne.2 hz
    clear hz
    go_enter Try.func39, Try.ntmps39
    go_wp2_with (at_builtin; refine gpl_app TO rfl (.tmp 7) (.tmp 11) rfl w.heap.size _ [] rfl O0.out (some ⟨b, 0, none⟩) n c l rfl R0.out (fun e => by cases e) (by simp; omega) (by simp) ?_; intro v1 w1 o1 g1 _; obtain ⟨b1, k1, rfl, o1', hc1, hf1⟩ := KEY.out w1 v1 o1; have O1 := Lib.hid o1'; have G1 := Lib.hid (B0.out.grown g1 (by simp) (fun k e => (by cases e; exact Nat.le_refl _))); have kw := (HH.out.below G1.out).c1; have fw := (HH.out.below G1.out).fz 1; have hgb : ¬ (g = b1) := (fun e => by have := (gown_lt O1.out (k := b1) rfl).1; have := GL.out; omega); clear o1 g1 o1')
    have O2 := Lib.hid (gown_put O1.out HX.out (i := 4) (by decide) (u := .int .i64 left) (show EO.cells (x.wi left) = _ from rfl))
    have F2 : Hid (Below w.heap.size w (w1.setCell ⟨b1, i * 5 + 4, none⟩ (.int .i64 left))) := Lib.hid (G1.out.setCell (p := ⟨b1, i * 5 + 4, none⟩) (gown_lt O1.out rfl).1 _)
    have H2 := Lib.hid (HH.out.below F2.out)
    clear hc1 hf1 kw fw hgb
    go_end0
    rw [EZ.out]
    exact ⟨⟨_, rfl⟩, _, H2.out.put (gown_low O2.out (by omega)) (fun e => by have := (gown_lt O2.out e).1; have := GL.out; omega) (by rw [List.length_set]; exact LE.out) (fun y hy => (List.mem_or_eq_of_mem_set hy).elim (HH.out.ok y) (fun e => e ▸ wi_ok (HH.out.ok x (List.mem_of_getElem? HX.out)) NI.out)), (Fr.below F2.out).same (Fr.set (S := fun k => k = g) (p := ⟨g, 1, none⟩) rfl _), fun k hk => .inr (gown_lt O2.out hk).1⟩
end Go.Proofs.Ytpnccbcaoifdiaa
