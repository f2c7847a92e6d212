/- The program's side is as it is asked. -/
import Derived.Test.YtpnccbcaoifdiaaJn
import Derived.Test.YtpnccbcaoifdiaaJj
import Derived.Test.YtpnccbcaoifdiaaJl
namespace Go.Proofs.Ytpnccbcaoifdiaa
open Go.RowKit Go.Shelf
set_option linter.unusedVariables false

section
variable {w : World} {p : Option Addr}
set_option maxRecDepth 100000 in
theorem sat_nc (n : Int) (M : Calls Try.prog 31 #[.pointer p] w fun e w' => e = .returned (.bool true) ∧ w = w') : Calls Try.prog 40 #[.pointer p, .int .u64 n] w fun e w' => e = .returned (.tuple #[.int .i64 0, .int .i64 1]) ∧ Below w.heap.size w w' := by
  go_enter Try.func40, Try.ntmps40
  go_wp2_with fail
  refine M.mono ?_; rintro e w2 ⟨rfl, rfl⟩
  go_wp2_with fail
  go_ret2
  exact ⟨rfl, Below.refl _ _⟩
set_option maxRecDepth 100000 in
theorem slen_nc (M : Calls Try.prog 31 #[.pointer p] w fun e w' => e = .returned (.bool true) ∧ w = w') : Calls Try.prog 28 #[.pointer p] w fun e w' => e = .returned (.int .i64 0) ∧ Below w.heap.size w w' := by
  go_enter Try.func28, Try.ntmps28
  go_wp2_with fail
  refine M.mono ?_; rintro e w2 ⟨rfl, rfl⟩
  go_wp2_with fail
  go_ret
  exact ⟨rfl, Below.refl _ _⟩
end
/-- The program's side in memory, said of its orders. -/
def PdR : PdT := fun w F g buy os t => ∃ (v : Value) (c : Int) (l : List St), Ds w g v buy c l ∧ F = DsS g v ∧ osOf l = os ∧ c ≤ t
section
variable {w w' : World} {g : Nat} {v : Value} {buy : Bool} {c : Int} {l : List St} {t : Nat} {n left : Int} {o : Or}
theorem aft_n {l2 : List St} {c2 : Int} (h : DsN w g v buy c2 l2 w') (hc : c2 ≤ t) : AftO PdR w (DsS g v) g buy (osOf l2) t w' := by
  obtain ⟨v', h1, h2, h3⟩ := h
  refine ⟨_, ⟨v', c2, l2, h1, rfl, rfl, hc⟩, h2, fun k hk => ?_⟩
  rcases hk with rfl | hk
  · exact .inl (.inl rfl)
  · exact (h3 k hk).imp .inr id
theorem aft_b (h : Ds w g v buy c l) (q : Below w.heap.size w w') (hc : c ≤ t) : AftO PdR w (DsS g v) g buy (osOf l) t w' := aft_n (dsn_same h q) hc
theorem nuIs_eq {x : St} (h : nuIs n x = true) : x.o.nu = n := beq_iff_eq.1 h
theorem sgetA (h : Ds w g v buy c l) : Calls Try.prog 20 #[.pointer (some ⟨g, 0, none⟩), .int .u64 n] w fun e w' => e = .returned (.tuple #[.agg (EO.cells (getX (osOf l) n)).toArray, .int .i64 (getA (osOf l) n)]) ∧ Below w.heap.size w w' := by
  unfold getX getA
  rcases gidx_cases (nuIs n) l with ⟨h0, hall⟩ | ⟨k, x, hk, _, hx, hp, _⟩
  · rw [find_off hall]
    exact sget_err (by decide) fun W q => sat_none n (h.below q) h0
  · rw [find_at h.inv.dis (osOf_at hx) (nuIs_eq hp)]
    exact sget_some h hk hx
theorem sdropA (h : Ds w g v buy c l) (hc : c ≤ t) : Calls Try.prog 16 #[.pointer (some ⟨g, 0, none⟩), .int .u64 n] w fun e w' => e = .returned (.tuple #[.agg (EO.cells (getX (osOf l) n)).toArray, .int .i64 (getA (osOf l) n)]) ∧ AftO PdR w (DsS g v) g buy (dropO (osOf l) n) t w' := by
  unfold getX getA
  rcases gidx_cases (nuIs n) l with ⟨h0, hall⟩ | ⟨k, x, hk, _, hx, hp, _⟩
  · have e2 : dropO (osOf l) n = osOf l := List.filter_eq_self.2 fun y hy => by
      obtain ⟨z, hz, rfl⟩ := List.mem_map.1 hy
      have := hall z hz
      unfold nuIs at this
      simpa using this
    rw [find_off hall, e2]
    refine (sdrop_err (by decide) fun W q => sat_none n (h.below q) h0).mono ?_; rintro e w' ⟨rfl, q⟩
    exact ⟨rfl, aft_b h q hc⟩
  · rw [find_at h.inv.dis (osOf_at hx) (nuIs_eq hp), drop_at h.inv.dis (osOf_at hx) (nuIs_eq hp), ← osOf_erase]
    refine (sdrop_some h hk hx).mono ?_; rintro e w' ⟨rfl, q⟩
    exact ⟨rfl, aft_n q hc⟩
theorem slowA (h : Ds w g v buy c l) (hc : c ≤ t) : Calls Try.prog 18 #[.pointer (some ⟨g, 0, none⟩), .int .u64 n, .int .i64 left] w fun e w' => e = .returned (.int .i64 (lowA (osOf l) n left)) ∧ AftO PdR w (DsS g v) g buy (lowO (osOf l) n left) t w' := by
  rcases gidx_cases (nuIs n) l with ⟨h0, hall⟩ | ⟨k, x, hk, _, hx, hp, _⟩
  · have e1 : lowA (osOf l) n left = 7 := by unfold lowA; rw [find_off hall]
    have e2 : lowO (osOf l) n left = osOf l := by unfold lowO; rw [e1]; rfl
    rw [e1, e2]
    refine (slow_err (by decide) (sat_none n h h0)).mono ?_; rintro e w' ⟨rfl, q⟩
    exact ⟨rfl, aft_b h q hc⟩
  · have hf := find_at h.inv.dis (osOf_at hx) (nuIs_eq hp)
    have e1 : lowA (osOf l) n left = lowE x.o left := by unfold lowA; rw [hf]
    cases hb : witB left x.o.le
    · have e3 : lowE x.o left = 2 := if_pos (wit_false hb)
      have e2 : lowO (osOf l) n left = osOf l := by unfold lowO; rw [e1, e3]; rfl
      rw [e1, e3, e2]
      refine (slow_bad h hk hx hb).mono ?_; rintro e w' ⟨rfl, q⟩
      exact ⟨rfl, aft_b h q hc⟩
    · have hw := wit_true hb
      have e3 : lowE x.o left = 0 := if_neg (by omega)
      have e4 := low_at h.inv.dis (osOf_at hx) (nuIs_eq hp) left
      have e2 : lowO (osOf l) n left = osOf (l.set k ⟨x.o.wi left, x.cm⟩) := by
        unfold lowO
        rw [e1, e3, if_pos rfl, ← e4]
        simp [osOf, List.map_set]
      have hi : InvO buy (lowO (osOf l) n left) := h.inv.low
      rw [e1, e3, e2]
      rw [e2] at hi
      refine (slow_ok h hk hx hb hi).mono ?_; rintro e w' ⟨rfl, q⟩
      exact ⟨rfl, aft_n q hc⟩
theorem sfillA (h : Ds w g v buy c l) (hc : c ≤ t) : Calls Try.prog 14 #[.pointer (some ⟨g, 0, none⟩), .int .i64 n] w fun e w' => e = .returned (.tuple #[.agg (EO.cells (fillX (osOf l) n)).toArray, .int .i64 (fillA (osOf l) n)]) ∧ AftO PdR w (DsS g v) g buy (fillO (osOf l) n) t w' := by
  have hi : InvO buy (fillO (osOf l) n) := h.inv.fill
  cases l with
  | nil =>
    refine (sfill_none h).mono ?_; rintro e w' ⟨rfl, q⟩
    exact ⟨rfl, aft_b h q hc⟩
  | cons x r =>
    have eo : osOf (x :: r) = x.o :: osOf r := rfl
    rw [eo] at hi ⊢
    cases hb : witB n x.o.le
    · have hw := wit_false hb
      have e1 : fillA (x.o :: osOf r) n = 2 := if_pos hw
      have e2 : fillX (x.o :: osOf r) n = zeroOr := if_pos hw
      have e3 : fillO (x.o :: osOf r) n = x.o :: osOf r := if_pos hw
      rw [e1, e2, e3]
      refine (sfill_bad h hb).mono ?_; rintro e w' ⟨rfl, q⟩
      exact ⟨rfl, aft_b h q hc⟩
    · have hw := wit_true hb
      have e1 : fillA (x.o :: osOf r) n = 0 := if_neg (by omega)
      have e2 : fillX (x.o :: osOf r) n = x.o.wi (x.o.le - n) := if_neg (by omega)
      rw [e1, e2]
      by_cases he : x.o.le - n = 0
      · have e3 : fillO (x.o :: osOf r) n = osOf r := (if_neg (by omega)).trans (if_pos he)
        rw [e3]
        refine (sfill_all h hb he).mono ?_; rintro e w' ⟨rfl, q⟩
        exact ⟨rfl, aft_n q hc⟩
      · have e3 : fillO (x.o :: osOf r) n = x.o.wi (x.o.le - n) :: osOf r := (if_neg (by omega)).trans (if_neg he)
        rw [e3] at hi ⊢
        refine (sfill_part h hb he hi).mono ?_; rintro e w' ⟨rfl, q⟩
        exact ⟨rfl, aft_n q hc⟩
theorem saddA (h : Ds w g v buy c l) (hc : c ≤ t) (ht : t < 1000000000) (ok : o.ok) : Calls Try.prog 12 #[.pointer (some ⟨g, 0, none⟩), .agg (EO.cells o).toArray] w fun e w' => e = .returned (.int .i64 (addA buy (osOf l) o)) ∧ AftO PdR w (DsS g v) g buy (addO buy (osOf l) o) (t + 1) w' := by
  have hi : InvO buy (addO buy (osOf l) o) := h.inv.add ok
  have hc' : c ≤ ((t + 1 : Nat) : Int) := by omega
  cases hb : (mayO o && o.bu == buy)
  · have e : addA buy (osOf l) o = 2 := by unfold addA; rw [if_pos hb]
    have e2 : addO buy (osOf l) o = osOf l := by unfold addO; rw [e]; rfl
    rw [e, e2]
    cases hm : mayO o
    · refine (sadd_may h ok hm).mono ?_; rintro e w' ⟨rfl, q⟩
      exact ⟨rfl, aft_b h q hc'⟩
    · have hbu : (o.bu == buy) = false := by rw [hm, Bool.true_and] at hb; exact hb
      refine (sadd_bu h ok hm hbu).mono ?_; rintro e w' ⟨rfl, q⟩
      exact ⟨rfl, aft_b h q hc'⟩
  · have hb2 := Bool.and_eq_true_iff.1 hb
    rcases gidx_cases (nuIs o.nu) l with ⟨h0, hall⟩ | ⟨k, x, hk, _, hx, hp, _⟩
    · have hf := find_off hall
      by_cases hlen : 100 ≤ l.length
      · have e : addA buy (osOf l) o = 9 := by unfold addA; rw [if_neg (by rw [hb]; decide), if_neg (by rw [hf]; decide), if_pos (by rw [osOf_len]; exact hlen)]
        have e2 : addO buy (osOf l) o = osOf l := by unfold addO; rw [e]; rfl
        rw [e, e2]
        refine (sadd_full h ok hb2.1 hb2.2 h0 hlen).mono ?_; rintro e w' ⟨rfl, q⟩
        exact ⟨rfl, aft_b h q hc'⟩
      · have e : addA buy (osOf l) o = 0 := by unfold addA; rw [if_neg (by rw [hb]; decide), if_neg (by rw [hf]; decide), if_neg (by rw [osOf_len]; exact hlen)]
        have e2 : addO buy (osOf l) o = insO buy o (osOf l) := by unfold addO; rw [e]; rfl
        obtain ⟨p1, p2, p3⟩ := plB_spec buy o.pr l
        have e3 : insO buy o (osOf l) = osOf (l.take (plB buy o.pr l) ++ (St.mk o (c + 1)) :: l.drop (plB buy o.pr l)) := by
          rw [osOf_ins]
          refine ins_at (by rw [osOf_len]; exact p1) (fun j y hj hy => ?_) (fun y hy => ?_)
          · rw [osOf, List.getElem?_map] at hy
            obtain ⟨z, hz, rfl⟩ := Option.map_eq_some_iff.1 hy
            exact p2 j z hj hz
          · rw [osOf, List.getElem?_map] at hy
            obtain ⟨z, hz, rfl⟩ := Option.map_eq_some_iff.1 hy
            exact p3 z hz
        rw [e2, e3] at hi
        rw [e, e2, e3]
        refine (sadd_ok h ok hb2.1 hb2.2 h0 (by omega) (by omega) hi).mono ?_; rintro e w' ⟨rfl, q⟩
        exact ⟨rfl, aft_n q (by omega)⟩
    · have hf := find_at h.inv.dis (osOf_at hx) (nuIs_eq hp)
      have e : addA buy (osOf l) o = 8 := by unfold addA; rw [if_neg (by rw [hb]; decide), if_pos (by rw [hf]; rfl)]
      have e2 : addO buy (osOf l) o = osOf l := by unfold addO; rw [e]; rfl
      rw [e, e2]
      refine (sadd_twice h ok hb2.1 hb2.2 hk).mono ?_; rintro e w' ⟨rfl, q⟩
      exact ⟨rfl, aft_b h q hc'⟩
theorem sbestA (h : Ds w g v buy c l) : Calls Try.prog 25 #[.pointer (some ⟨g, 0, none⟩)] w fun e w' => e = .returned (.tuple #[.agg (EO.cells ((osOf l).headD zeroOr)).toArray, .bool (!(osOf l).isEmpty)]) ∧ Below w.heap.size w w' := by
  cases l with
  | nil => exact sbest_of (x := zeroSt) fun W q => sfirst_none (h.below q)
  | cons x r => exact sbest_of fun W q => sfirst_some (h.below q)
theorem sreachA {pr nt : Int} (h : Ds w g v buy c l) (hp : I64' pr) (hnt : 0 ≤ nt ∧ nt ≤ 4294967295) : Calls Try.prog 22 #[.pointer (some ⟨g, 0, none⟩), .int .i64 pr, .int .u32 nt] w fun e w' => e = .returned (.int .i64 (sumR buy (osOf l) pr nt)) ∧ Below w.heap.size w w' :=
  sreach_of hp hnt h.inv.srt h.inv.ok (fun x hx => by have := may_le (h.inv.may x hx).1; omega) h.inv.len (fun W q => sall_any (h.below q)) (fun k hk => h.sl hk)
    (fun W b hW _ => bet_any buy g pr b W (by rw [World.cell?_of_block (hW g h.gl)]; exact h.c1))
end
theorem side : SideK PdR zsd where
  lt := by
    rintro w F g buy os t ⟨v, c, l, h, rfl, rfl, hc⟩ k hk
    exact h.sl hk
  inv := by
    rintro w F g buy os t ⟨v, c, l, h, rfl, rfl, hc⟩
    exact h.inv
  more := by
    rintro w F g buy os t t' ⟨v, c, l, h, rfl, rfl, hc⟩ ht
    exact ⟨v, c, l, h, rfl, rfl, by omega⟩
  keep := by
    rintro w w' F g buy os t S ⟨v, c, l, h, rfl, rfl, hc⟩ f hS
    exact ⟨v, c, l, h.keep f hS, rfl, rfl, hc⟩
  may := fun ok => smay_any _ _ ok
  new := fun w buy => (snew_any w buy).mono fun e w' q => ⟨_, _, q.1, ⟨_, 0, [], q.2.1, rfl, rfl, by decide⟩, q.2.2, fun k hk => by
    rcases hk with rfl | hk
    · exact Nat.le_refl _
    · cases hk⟩
  add := by
    rintro w F g buy os t o ⟨v, c, l, h, rfl, rfl, hc⟩ ok ht
    exact saddA h hc ht ok
  fill := by
    rintro w F g buy os t n ⟨v, c, l, h, rfl, rfl, hc⟩ hn
    exact sfillA h hc
  drop := by
    rintro w F g buy os t n ⟨v, c, l, h, rfl, rfl, hc⟩ hn
    exact sdropA h hc
  low := by
    rintro w F g buy os t n left ⟨v, c, l, h, rfl, rfl, hc⟩ hn hl
    exact slowA h hc
  get := by
    rintro w F g buy os t n ⟨v, c, l, h, rfl, rfl, hc⟩ hn
    exact sgetA h
  reach := by
    rintro w F g buy os t p nt ⟨v, c, l, h, rfl, rfl, hc⟩ hp hnt
    exact sreachA h hp hnt
  best := by
    rintro w F g buy os t ⟨v, c, l, h, rfl, rfl, hc⟩
    exact sbestA h
  len := by
    rintro w F g buy os t ⟨v, c, l, h, rfl, rfl, hc⟩
    rw [osOf_len]
    exact slen_any h
  all := by
    rintro w F g buy os t ⟨v, c, l, h, rfl, rfl, hc⟩
    exact sall_any h
  copy := by
    rintro w F g buy os t ⟨v, c, l, h, rfl, rfl, hc⟩
    refine (scopy_any h).mono ?_
    rintro e w' ⟨g2, v2, rfl, h1, h2, h3⟩
    exact ⟨g2, _, rfl, ⟨v2, c, l, h1, rfl, rfl, hc⟩, h2, h3⟩
  zero := szero
  nAdd := fun ok h => sadd_nc (smiss_nsB h)
  nFill := fun _ h => (sfill_nc (smiss_nsB h)).mono fun e w' q => ⟨⟨_, q.1⟩, q.2⟩
  nDrop := fun _ h => (sdrop_err (by decide) fun W q => sat_nc _ (smiss_nsB h W q)).mono fun e w' q => ⟨⟨_, q.1⟩, q.2⟩
  nLow := fun _ _ h => slow_err (by decide) (sat_nc _ (smiss_ns h))
  nGet := fun _ h => (sget_err (by decide) fun W q => sat_nc _ (smiss_nsB h W q)).mono fun e w' q => ⟨⟨_, q.1⟩, q.2⟩
  nReach := by
    intro w p pr nt hp hnt h
    exact sreach_of (buy := true) (os := []) hp hnt List.Pairwise.nil (fun x hx => by cases hx) (fun x hx => by cases hx) (by decide) (fun W q => snall_any (h.below q)) (fun k hk => by
      rcases h with e | ⟨g, e, hg⟩
      · rw [e] at hk; cases hk
      · rw [e] at hk; cases hk; exact (Array.getElem?_eq_some_iff.1 hg).1) (fun W b _ h0 => absurd h0 (by decide))
  nBest := fun h => sbest_of (x := zeroSt) fun W q => sfirst_nc fun W' q' => smiss_nsB h W' (q.trans (q'.mono q.size))
  nLen := fun h => slen_nc (smiss_ns h)
  nAll := snall_any
  nCopy := fun h => scopy_nc (smiss_ns h)
end Go.Proofs.Ytpnccbcaoifdiaa
