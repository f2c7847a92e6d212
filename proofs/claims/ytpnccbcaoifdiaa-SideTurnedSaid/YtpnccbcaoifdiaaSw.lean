/- The document's plain side, said of its orders in their order: the calls. -/
import Derived.Test.YtpnccbcaoifdiaaSv
namespace Go.Proofs.Ytpnccbcaoifdiaa
open Go.RowKit
set_option linter.unusedVariables false

/-- The plain side at block g, its orders in their order. -/
def Ps (W : World) (B g : Nat) (v : Value) (buy : Bool) (os : List Or) : Prop := ∃ l, Rs W B g v buy l ∧ Ms buy l os
def PsN (w : World) (B g : Nat) (v : Value) (buy : Bool) (os : List Or) (w' : World) : Prop := ∃ v', Ps w' B g v' buy os ∧ Fr (fun k => k = g) w w' ∧ ∀ k, v'.ownBlock = some k → v.ownBlock = some k ∨ w.heap.size ≤ k
section
variable {w w' : World} {B g : Nat} {v : Value} {buy : Bool} {l os : List Or} {o : Or} {n : Int}
theorem psn (m : Ms buy l os) (h : RsN w B g v buy l w') : PsN w B g v buy os w' := by
  obtain ⟨v', h1, h2, h3⟩ := h
  exact ⟨v', ⟨l, h1, m⟩, h2, h3⟩
theorem psn_same (h : Ps w B g v buy os) (q : Below w.heap.size w w') : PsN w B g v buy os w' := by
  obtain ⟨l, h, m⟩ := h
  exact psn m (rsn_same h q)
theorem Ps.below (h : Ps w B g v buy os) (q : Below w.heap.size w w') : Ps w' B g v buy os := by
  obtain ⟨l, h, m⟩ := h
  exact ⟨l, h.below q, m⟩
theorem Ps.keep {S : Nat → Prop} (h : Ps w B g v buy os) (f : Fr S w w') (hg : ¬ S g) (hv : ∀ k, v.ownBlock = some k → ¬ S k) : Ps w' B g v buy os := by
  obtain ⟨l, h, m⟩ := h
  exact ⟨l, h.keep f hg hv, m⟩
theorem Ps.facts (h : Ps w B g v buy os) : os.length ≤ 100 ∧ ∀ x, x ∈ os → x.ok ∧ mayO x = true ∧ x.bu = buy := by
  obtain ⟨l, h, m⟩ := h
  exact ⟨by rw [m.len]; exact h.le, fun x hx => ⟨h.ok x (m.mem.1 hx), m.ma x (m.mem.1 hx)⟩⟩
theorem padd (h : Ps w B g v buy os) (ok : o.ok) : Calls Try.prog 13 #[.pointer (some ⟨g, 0, none⟩), .agg (EO.cells o).toArray] w fun e w' => e = .returned (.int .i64 (addA buy os o)) ∧ PsN w B g v buy (addO buy os o) w' := by
  have hp := h
  obtain ⟨l, h, m⟩ := h
  cases hb : (mayO o && o.bu == buy)
  · have e : addA buy os o = 2 := by unfold addA; rw [if_pos hb]
    have e2 : addO buy os o = os := by unfold addO; rw [e]; rfl
    rw [e, e2]
    refine (radd_arg B g v buy l o w h ok hb).mono ?_; rintro e w' ⟨rfl, q⟩
    exact ⟨rfl, psn_same hp q⟩
  · have hb2 := Bool.and_eq_true_iff.1 hb
    have hm := hb2.1
    have hbu : o.bu = buy := beq_iff_eq.1 hb2.2
    rcases plO_cases l o.nu with ⟨hn, hall⟩ | ⟨k, x, hk, hx, hxn⟩
    · have hf := m.none hall
      by_cases hlen : 100 ≤ l.length
      · have e : addA buy os o = 9 := by unfold addA; rw [if_neg (by rw [hb]; decide), if_neg (by rw [hf]; decide), if_pos (by rw [m.len]; exact hlen)]
        have e2 : addO buy os o = os := by unfold addO; rw [e]; rfl
        rw [e, e2]
        refine (radd_full B g v buy l o w h ok hm hbu hn hlen).mono ?_; rintro e w' ⟨rfl, q⟩
        exact ⟨rfl, psn_same hp q⟩
      · have e : addA buy os o = 0 := by unfold addA; rw [if_neg (by rw [hb]; decide), if_neg (by rw [hf]; decide), if_neg (by rw [m.len]; exact hlen)]
        have e2 : addO buy os o = insO buy o os := by unfold addO; rw [e]; rfl
        rw [e, e2]
        refine (radd_ok B g v buy l o w h ok hm hbu hn (by omega)).mono ?_; rintro e w' ⟨rfl, q⟩
        exact ⟨rfl, psn (m.snoc hall hm hbu) q⟩
    · have hf := m.some (List.mem_of_getElem? hx) hxn
      have e : addA buy os o = 8 := by unfold addA; rw [if_neg (by rw [hb]; decide), if_pos (by rw [hf]; rfl)]
      have e2 : addO buy os o = os := by unfold addO; rw [e]; rfl
      rw [e, e2]
      refine (radd_twice B g v buy l o k w h ok hm hbu hk).mono ?_; rintro e w' ⟨rfl, q⟩
      exact ⟨rfl, psn_same hp q⟩
theorem pfill (h : Ps w B g v buy os) (hn : I64' n) : Calls Try.prog 15 #[.pointer (some ⟨g, 0, none⟩), .int .i64 n] w fun e w' => e = .returned (.tuple #[.agg (EO.cells (fillX os n)).toArray, .int .i64 (fillA os n)]) ∧ PsN w B g v buy (fillO os n) w' := by
  have hp := h
  obtain ⟨l, h, m⟩ := h
  by_cases hl : l = []
  · have e := m.isnil hl
    subst e
    refine (rfill_none B g v buy l n w h hl).mono ?_; rintro e w' ⟨rfl, q⟩
    exact ⟨rfl, psn_same hp q⟩
  · obtain ⟨k, x, r, h1, h2, rfl, h4, h5⟩ := m.head hl
    have hx := may_le (m.ma x (List.mem_of_getElem? h2)).1
    by_cases hb : n < 1 ∨ x.le < n
    · have e1 : fillA (x :: r) n = 2 := if_pos hb
      have e2 : fillX (x :: r) n = zeroOr := if_pos hb
      have e3 : fillO (x :: r) n = x :: r := if_pos hb
      rw [e1, e2, e3]
      refine (rfill_bad B g v buy l k x n w h h1 h2 hn hb).mono ?_; rintro e w' ⟨rfl, q⟩
      exact ⟨rfl, psn_same hp q⟩
    · have e1 : fillA (x :: r) n = 0 := if_neg hb
      have e2 : fillX (x :: r) n = x.wi (x.le - n) := if_neg hb
      rw [e1, e2]
      refine (rfill_ok B g v buy l k x n w h h1 h2 hn (by omega) (by omega)).mono ?_; rintro e w' ⟨rfl, q⟩
      refine ⟨rfl, ?_⟩
      unfold setL at q
      by_cases hz : x.le - n = 0
      · have e3 : fillO (x :: r) n = r := (if_neg hb).trans (if_pos hz)
        rw [if_pos hz] at q
        rw [e3]
        exact psn h4 q
      · have e3 : fillO (x :: r) n = x.wi (x.le - n) :: r := (if_neg hb).trans (if_neg hz)
        rw [if_neg hz] at q
        rw [e3]
        exact psn (h5 _ (by omega) (by omega)) q
theorem pdrop (h : Ps w B g v buy os) (hn : 0 ≤ n ∧ n ≤ 18446744073709551615) : Calls Try.prog 17 #[.pointer (some ⟨g, 0, none⟩), .int .u64 n] w fun e w' => e = .returned (.tuple #[.agg (EO.cells (getX os n)).toArray, .int .i64 (getA os n)]) ∧ PsN w B g v buy (dropO os n) w' := by
  have hp := h
  obtain ⟨l, h, m⟩ := h
  unfold getX getA
  rcases plO_cases l n with ⟨h0, hall⟩ | ⟨k, x, hk, hx, hxn⟩
  · have hf := m.none hall
    have e2 : dropO os n = os := List.filter_eq_self.2 fun y hy => by simpa using hall y (m.mem.1 hy)
    rw [hf, e2]
    refine (rdrop_none B g v buy l n w h hn h0).mono ?_; rintro e w' ⟨rfl, q⟩
    exact ⟨rfl, psn_same hp q⟩
  · rw [m.some (List.mem_of_getElem? hx) hxn]
    refine (rdrop_some B g v buy l n k x w h hn hk hx).mono ?_; rintro e w' ⟨rfl, q⟩
    exact ⟨rfl, psn (m.erase hx hxn) q⟩
theorem pget (h : Ps w B g v buy os) (hn : 0 ≤ n ∧ n ≤ 18446744073709551615) : Calls Try.prog 21 #[.pointer (some ⟨g, 0, none⟩), .int .u64 n] w fun e w' => e = .returned (.tuple #[.agg (EO.cells (getX os n)).toArray, .int .i64 (getA os n)]) ∧ Below w.heap.size w w' := by
  obtain ⟨l, h, m⟩ := h
  unfold getX getA
  rcases plO_cases l n with ⟨h0, hall⟩ | ⟨k, x, hk, hx, hxn⟩
  · rw [m.none hall]
    refine (rget_none B g v buy l n w h hn h0).mono ?_; rintro e w' ⟨rfl, q⟩
    exact ⟨rfl, q⟩
  · rw [m.some (List.mem_of_getElem? hx) hxn]
    refine (rget_some B g v buy l n k x w h hn hk hx).mono ?_; rintro e w' ⟨rfl, q⟩
    exact ⟨rfl, q⟩
theorem plow {left : Int} (h : Ps w B g v buy os) (hn : 0 ≤ n ∧ n ≤ 18446744073709551615) (hf : I64' left) : Calls Try.prog 19 #[.pointer (some ⟨g, 0, none⟩), .int .u64 n, .int .i64 left] w fun e w' => e = .returned (.int .i64 (lowA os n left)) ∧ PsN w B g v buy (lowO os n left) w' := by
  have hp := h
  obtain ⟨l, h, m⟩ := h
  rcases plO_cases l n with ⟨h0, hall⟩ | ⟨k, x, hk, hx, hxn⟩
  · have e1 : lowA os n left = 7 := by unfold lowA; rw [m.none hall]
    have e2 : lowO os n left = os := by unfold lowO; rw [e1]; rfl
    rw [e1, e2]
    refine (rlow_none B g v buy l n left w h hn h0).mono ?_; rintro e w' ⟨rfl, rfl⟩
    exact ⟨rfl, psn_same hp (Below.refl _ _)⟩
  · have e1 : lowA os n left = lowE x left := by unfold lowA; rw [m.some (List.mem_of_getElem? hx) hxn]
    rw [e1]
    refine (rlow_some B g v buy l n left k x w h hn hf hk hx).mono ?_; rintro e w' ⟨rfl, q⟩
    refine ⟨rfl, ?_⟩
    unfold lowO
    rw [e1]
    by_cases hb : left < 1 ∨ x.le < left
    · have e2 : lowE x left = 2 := if_pos hb
      rw [e2, if_neg (by decide)] at q ⊢
      exact psn m q
    · have e2 : lowE x left = 0 := if_neg hb
      rw [e2, if_pos rfl] at q ⊢
      exact psn (m.low hx hxn (by omega) (by omega)) q
theorem preach {p nt : Int} (h : Ps w B g v buy os) (hp : I64' p) (hnt : 0 ≤ nt ∧ nt ≤ 4294967295) : Calls Try.prog 23 #[.pointer (some ⟨g, 0, none⟩), .int .i64 p, .int .u32 nt] w fun e w' => e = .returned (.int .i64 (sumR buy os p nt)) ∧ Below w.heap.size w w' := by
  obtain ⟨l, h, m⟩ := h
  have e : sumR buy os p nt = sumR buy l p nt := by rw [← m.so]; exact sort_sum buy _ l
  rw [e]
  exact rreach_any B g v buy l p nt w h (fun x hx => by have := may_le (m.ma x hx).1; omega) hp hnt
theorem pbest (h : Ps w B g v buy os) : Calls Try.prog 26 #[.pointer (some ⟨g, 0, none⟩)] w fun e w' => e = .returned (.tuple #[.agg (EO.cells (os.headD zeroOr)).toArray, .bool (!os.isEmpty)]) ∧ Below w.heap.size w w' := by
  obtain ⟨l, h, m⟩ := h
  by_cases hl : l = []
  · have e := m.isnil hl
    subst e
    exact rbest_none B g v buy l w h hl
  · obtain ⟨k, x, r, h1, h2, rfl, h4, h5⟩ := m.head hl
    exact rbest_some B g v buy l k x w h h1 h2
theorem pall (h : Ps w B g v buy os) : Calls Try.prog 44 #[.pointer (some ⟨g, 0, none⟩)] w fun e w' => ∃ v', e = .returned v' ∧ EO.Own 33 w' w.heap.size v' os ∧ Below w.heap.size w w' := by
  obtain ⟨l, h, m⟩ := h
  have q := rall_any B g v buy l w h
  rw [m.so] at q
  exact q
end
end Go.Proofs.Ytpnccbcaoifdiaa
