/- IndexFunc, ContainsFunc at positions; the program's mayNotHold (by genPc.py). -/
import Derived.Test.YthnmpnepgagmmaaPb
namespace Go.Proofs.Ythnmpnepgagmmaa
open Go.RowKit Go.Shelf
set_option linter.unusedVariables false
set_option linter.unusedSimpArgs false

def PTests (P : Program) (g : Nat) (bd : Array Value) (p : Po → Bool) (w : World) : Prop :=
  ∀ (W : World) (x : Po), Below w.heap.size w W → x.ok → Calls P g (bd ++ #[.agg (EP.cells x).toArray]) W fun e w' => e = .returned (.bool (p x)) ∧ Below W.heap.size W w'
set_option maxRecDepth 100000 in
set_option maxHeartbeats 2000000 in
theorem index_p9 (g : Nat) (bd : Array Value) (p : Po → Bool) (A : Option Addr) (n c : Nat) (l : List Po) (w : World) (eg : ∀ args w, (callFunc g args).run Try.prog w = .ok (.enter g args) w) (hp : PTests Try.prog g bd p w) (hr : EP.Rd w A n l) (hok : ∀ x, x ∈ l → Po.ok x) (hn : n ≤ 1000) :
    Calls Try.prog 64 #[.slice A n c, .func (.func g) bd #[]] w fun e w' => e = .returned (.int .i64 (gidx p l)) ∧ Below w.heap.size w w' := by
  have HP := Lib.hid hp
  have HR := Lib.hid hr
  have HK := Lib.hid hok
  have HL := Lib.hid hr.1
  have B0 : Hid (Below w.heap.size w w) := Lib.hid (Below.refl _ _)
  obtain ⟨r, hr1⟩ : ∃ r, gidx p l = r := ⟨_, rfl⟩
  rw [hr1]
  have R1 := Lib.hid hr1
  clear hr1 hp hr hok
  go_enter Try.func64, Try.ntmps64
  go_wp2_with fail
  go_loopw [5, 8] (fun _ i wr => ∃ k : Nat, k ≤ n ∧ i = .int .i64 k ∧ Below w.heap.size w wr ∧ ∀ (j : Nat) (y : Po), j < k → l[j]? = some y → p y = false) (fun _ i _ => n - (intOf i).toNat)
  case atStart => exact ⟨0, Nat.zero_le _, rfl, B0.out, fun j y hj => absurd hj (Nat.not_lt_zero j)⟩
  case round =>
    obtain ⟨k, hk, rfl, hb, hno⟩ := hrel
    have BW := Lib.hid hb
    have NO := Lib.hid hno
    clear hb hno
    by_cases hlt : k < n
    case pos =>
      have hd : decide ((k : Int) < n) = true := decide_eq_true (by omega)
      have hki : (k : Int) < (n : Int) := by omega
      obtain ⟨x, hx⟩ : ∃ x, l[k]? = some x := ⟨l[k]'(by have := HL.out; omega), List.getElem?_eq_getElem _⟩
      have OK := Lib.hid (HK.out x (List.mem_of_getElem? hx))
      obtain ⟨b, o, rfl, rg0⟩ := grd_rng HR.out hx
      have rg : wr.rangeAt b (o + k * 4) (EP.cells x) := rng_below rg0 BW.out (Nat.le_refl _)
      have RG := Lib.hid rg
      have C := Lib.hid (HP.out wr x BW.out OK.out)
      have HX := Lib.hid hx
      clear hx rg rg0
      cases hpx : p x
      · rw [hpx] at C
        have PX := Lib.hid hpx
        clear hpx
        go_wp2_with ((with_reducible refine gwl_load TP b (o + k * 4) RG.out ?_ ?_ ?_); rfl; rfl)
        refine C.out.mono ?_; rintro e w2 ⟨rfl, q⟩
        have Q := Lib.hid q
        clear q
        go_wp2_with fail
        go_roundw
        case rel => exact ⟨k + 1, hlt, by go_num, BW.out.trans (Q.out.mono BW.out.size), fun j y hj hy => by
            rcases Nat.lt_or_ge j k with c | c
            · exact NO.out j y c hy
            · obtain rfl : j = k := by omega
              rw [HX.out] at hy; cases hy; exact PX.out⟩
        case measure => simp [intOf]; omega
      · rw [hpx] at C
        have E : Hid (r = (k : Int)) := Lib.hid (by rw [← R1.out, gidx, gidx_hit HX.out hpx NO.out])
        clear hpx
        go_wp2_with ((with_reducible refine gwl_load TP b (o + k * 4) RG.out ?_ ?_ ?_); rfl; rfl)
        refine C.out.mono ?_; rintro e w2 ⟨rfl, q⟩
        have Q := Lib.hid q
        clear q
        go_wp2_with fail
        go_ret
        rw [E.out]
        exact ⟨rfl, BW.out.trans (Q.out.mono BW.out.size)⟩
    case neg =>
      obtain rfl : k = n := by omega
      have E : Hid (r = -1) := Lib.hid (by rw [← R1.out, gidx, gidx_miss fun j y hy => NO.out j y (by have := (List.getElem?_eq_some_iff.1 hy).1; have := HL.out; omega) hy])
      go_wp2_with fail
      go_ret
      rw [E.out]
      exact ⟨rfl, BW.out⟩

set_option maxRecDepth 100000 in
theorem contains_p9 (g : Nat) (bd : Array Value) (p : Po → Bool) (A : Option Addr) (n c : Nat) (cs : List Po) (w : World) (eg : ∀ args w, (callFunc g args).run Try.prog w = .ok (.enter g args) w) (hp : PTests Try.prog g bd p w) (hr : EP.Rd w A n cs) (hok : ∀ x, x ∈ cs → x.ok) (hn : n ≤ 1000) :
    Calls Try.prog 49 #[.slice A n c, .func (.func g) bd #[]] w fun e w' => e = .returned (.bool (cs.any p)) ∧ Below w.heap.size w w' := by
  have C := index_p9 g bd p A n c cs w eg hp hr hok hn
  have E : decide (0 ≤ gidx p cs) = cs.any p := by
    rcases gidx_cases p cs with ⟨e, h⟩ | ⟨k, x, e, hk, hx, hpx, _⟩
    · rw [e, List.any_eq_false.2 fun x hx => by rw [h x hx]; decide]; rfl
    · rw [e, List.any_eq_true.2 ⟨x, List.mem_of_getElem? hx, hpx⟩, decide_eq_true (Int.natCast_nonneg k)]
  rw [← E]
  generalize gidx p cs = r at *
  clear hp hr hok E
  go_enter Try.func49, Try.ntmps49
  go_wp2_with fail
  refine C.mono ?_; rintro e w2 ⟨rfl, q⟩
  have Q := Lib.hid q
  clear q
  go_wp2_with fail
  go_ret
  exact ⟨rfl, Q.out⟩
/-- A position that may not be held. -/
def notP (L : Lg) (p : Po) : Bool := (p.co == 0 || p.ac == 0) || !thereB L p.ac || goneP p || !inB p
theorem notP_eq (L : Lg) (p : Po) : notP L p = ((((p.co == 0 || p.ac == 0) || !thereB L p.ac) || goneP p) || !inB p) := rfl
set_option maxRecDepth 100000 in
set_option maxHeartbeats 4000000 in
theorem not_p9 {w : World} {g ba bp : Nat} {L : Lg} (h : Dl w g ba bp L) : PTests Try.prog 50 #[.pointer (some ⟨g, 0, none⟩)] (notP L) w := by
  intro W x q ok
  show Calls Try.prog 50 #[.pointer (some ⟨g, 0, none⟩), .agg (EP.cells x).toArray] W _
  obtain ⟨W1, hW1⟩ : ∃ W1, W.alloc (.cells (EP.cells x).toArray 47) = W1 := ⟨_, rfl⟩
  have x1 : EP.Bx 47 W1 W.heap.size x := by rw [← hW1]; exact gbx_new W x
  have b1 : Below W.heap.size W W1 := by rw [← hW1]; exact below_new W _
  have k0 : W1.cell? ⟨W.heap.size, 0, none⟩ = some (.int .u32 x.co) := gbx_cell x1 0
  have k1 : W1.cell? ⟨W.heap.size, 1, none⟩ = some (.int .u32 x.ac) := gbx_cell x1 1
  have k2 : W1.cell? ⟨W.heap.size, 2, none⟩ = some (.int .i64 x.q) := gbx_cell x1 2
  have k3 : W1.cell? ⟨W.heap.size, 3, none⟩ = some (.int .i64 x.b) := gbx_cell x1 3
  have X1 := Lib.hid x1
  have B1 := Lib.hid b1
  have HW := Lib.hid hW1
  have TH := Lib.hid (lthere9 x.ac W1 ((h.below q).below b1) ok.ac)
  have IB := Lib.hid (fun U => linb9 x U)
  have RG := Lib.hid fun (U : World) (qq : Below W1.heap.size W1 U) => gbx_rng (gbx_below x1 qq)
  have E := Lib.hid (notP_eq L x)
  rw [E.out]
  have GE : goneP x = (x.q == 0 && x.b == 0) := rfl
  rw [GE]
  clear x1 b1 hW1 E GE h q
  generalize thereB L x.ac = th at *
  generalize inB x = ib at *
  obtain ⟨c0, hc0⟩ : ∃ c0, (x.co == 0) = c0 := ⟨_, rfl⟩
  obtain ⟨c1, hc1⟩ : ∃ c1, (x.ac == 0) = c1 := ⟨_, rfl⟩
  obtain ⟨c2, hc2⟩ : ∃ c2, (x.q == 0) = c2 := ⟨_, rfl⟩
  obtain ⟨c3, hc3⟩ : ∃ c3, (x.b == 0) = c3 := ⟨_, rfl⟩
  rw [hc0, hc1, hc2, hc3]
  go_enter Try.func50, Try.ntmps50
  have FIN : ∀ (t : Bool), t = (c2 && c3) → True := fun _ _ => trivial
  cases c0
  · cases c1
    · obtain ⟨cg, hcg⟩ : ∃ cg, (c2 && c3) = cg := ⟨_, rfl⟩
      cases c2 <;> cases c3
      all_goals
        go_wp2_with (first | (rw [HW.out]))
        refine TH.out.mono ?_; rintro e w2 ⟨rfl, q2⟩
        have Q2 := Lib.hid q2
        have rg := RG.out w2 q2
        clear q2
        cases th
        all_goals
          go_wp2_with (first | ((with_reducible refine gwl_load TP W.heap.size 0 rg ?_ ?_ ?_); rfl; rfl))
          first
            | (go_ret; exact ⟨by simp, B1.out.trans (Q2.out.mono B1.out.size)⟩)
            | (refine (IB.out _).mono ?_; rintro e w3 ⟨rfl, q3⟩
               have Q3 := Lib.hid (Q2.out.trans (q3.mono Q2.out.size))
               clear q3
               go_wp2_with fail
               go_ret
               exact ⟨by cases ib <;> rfl, B1.out.trans (Q3.out.mono B1.out.size)⟩)
    · cases c2 <;> cases c3
      all_goals
        go_wp2_with (first | (rw [HW.out]))
        go_ret
        exact ⟨by simp, B1.out⟩
  · cases c2 <;> cases c3
    all_goals
      go_wp2_with (first | (rw [HW.out]))
      go_ret
      exact ⟨by simp, B1.out⟩
end Go.Proofs.Ythnmpnepgagmmaa
