/- The walk of the statement SideReach, given the program's side. -/
import Derived.Test.YtpnccbcaoifdiaaSy
import Derived.Test.YtpnccbcaoifdiaaEm
import Derived.Test.YtpnccbcaoifdiaaEg
namespace Go.Proofs.Ytpnccbcaoifdiaa
open Go.RowKit Go.Shelf
set_option linter.unusedVariables false
set_option linter.unusedSimpArgs false

set_option maxRecDepth 100000 in
set_option maxHeartbeats 2000000 in
theorem reach6_out {Pd : PdT} {zs : Array Value} (K : SideK Pd zs) (buy : Bool) (A : Option Addr) (n c : Nat) (price : Int) (w : World) (hn : 100 < n) (hm : n ≤ 9223372036854775807) :
    Calls Try.prog 6 #[.bool buy, .slice A n c, .int .i64 price] w fun e w' => e = .returned (.bool true) ∧ Below w.heap.size w w' := by
  have KN := Lib.hid (fun W => known6_any K W)
  have NW := Lib.hid (K.new w buy)
  have hd100 : decide (100 < (n : Int)) = true := decide_eq_true (by omega)
  clear K
  go_enter Try.func6, Try.ntmps6
  go_wp2_with fail
  refine NW.out.mono ?_; rintro e w1 ⟨g, F, rfl, hp, q1, hF⟩
  have Q1 := Lib.hid q1
  clear q1 hp hF
  go_wp2_with fail
  refine (KN.out _).mono ?_; rintro e w2 ⟨rfl, q⟩
  have Q := Lib.hid (Q1.out.trans (q.mono Q1.out.size))
  clear q
  go_wp2_with fail
  go_ret
  exact ⟨rfl, Q.out⟩
theorem sumR_cons (buy : Bool) (x : Or) (r : List Or) (p nt : Int) : sumR buy (x :: r) p nt = oneR buy p nt x + sumR buy r p nt := by simp [sumR]
theorem fill_kept {W W' : World} {Pd : PdT} {F : Nat → Prop} {g : Nat} {buy : Bool} {os : List Or} {t k j : Nat} {u : Value} (h : W.cell? ⟨k, j, none⟩ = some u) (a : AftO Pd W F g buy os t W') (hF : ¬ F k) : W'.cell? ⟨k, j, none⟩ = some u := by
  obtain ⟨F', h1, h2, h3⟩ := a
  have hb : k < W.heap.size := by
    unfold World.cell? at h
    rcases Nat.lt_or_ge k W.heap.size with c | c
    · exact c
    · rw [Array.getElem?_eq_none c] at h
      cases h
  rw [← h]; exact World.cell?_of_block (h2.at' k hb hF)
/-- Within the second loop. -/
structure R6 (Pd : PdT) (w : World) (g : Nat) (buy : Bool) (price want : Int) (j : Nat) (s : Int) (W : World) : Prop where
  hs : ∃ os t, Cs Pd w W g buy os t ∧ s + sumR buy os price 0 = want ∧ os.length ≤ 100 - j ∧ 0 ≤ s
  lw : want ≤ 100000000
set_option maxRecDepth 100000 in
set_option maxHeartbeats 12000000 in
theorem reach6_in {Pd : PdT} {zs : Array Value} (K : SideK Pd zs) (buy : Bool) (A : Option Addr) (n c : Nat) (l : List Or) (price : Int) (w : World) (hr : EO.Rd w A n l) (hok : ∀ x, x ∈ l → x.ok) (hp : I64' price) (hn : n ≤ 100) :
    Calls Try.prog 6 #[.bool buy, .slice A n c, .int .i64 price] w fun e w' => e = .returned (.bool true) ∧ Below w.heap.size w w' := by
  have KN := Lib.hid (fun W => known6_any K W)
  have NW := Lib.hid (K.new w buy)
  have KH := Lib.hid K
  have HR := Lib.hid hr
  have HOK := Lib.hid hok
  have HP := Lib.hid hp
  have hd100 : decide (100 < (n : Int)) = false := decide_eq_false (by omega)
  have Z := zero_or
  clear K hr hok hp
  go_enter Try.func6, Try.ntmps6
  go_wp2_with fail
  refine NW.out.mono ?_; rintro e w1 ⟨g, F, rfl, hp, q1, hF⟩
  have C1 : Hid (Cs Pd w w1 g buy [] 0) := Lib.hid ⟨F, hp, q1, hF⟩
  clear q1 hp hF NW
  go_wp2_with fail
  go_loopw [31] (fun i wr => ∃ (k : Nat) (os : List Or) (t : Nat), k ≤ n ∧ i = .int .i64 k ∧ Cs Pd w wr g buy os t ∧ t ≤ k) (fun i _ => n - (intOf i).toNat)
  case atStart => exact ⟨0, [], 0, Nat.zero_le _, rfl, C1.out, Nat.le_refl _⟩
  case round =>
    obtain ⟨k, os, t, hk, rfl, hcs, ht⟩ := hrel
    have CS := Lib.hid hcs
    clear hcs C1
    by_cases hlt : k < n
    case pos =>
      have hd : decide ((k : Int) < n) = true := decide_eq_true (by omega)
      have hki : (k : Int) < (n : Int) := by omega
      obtain ⟨x, hx⟩ : ∃ x, l[k]? = some x := ⟨l[k]'(by have := HR.out.1; omega), List.getElem?_eq_getElem _⟩
      obtain ⟨b, o, rfl, hrg⟩ := grd_rng HR.out hx
      have XO := Lib.hid (HOK.out x (List.mem_of_getElem? hx))
      obtain ⟨F1, p1, b1, f1⟩ := CS.out
      have RG : Hid (wr.rangeAt b (o + k * 5) (EO.cells x)) := Lib.hid (rng_below hrg b1 (Nat.le_refl _))
      have AD := Lib.hid (KH.out.add p1 XO.out (by omega))
      have B1 := Lib.hid b1
      have F1' := Lib.hid f1
      clear hx hrg p1 b1 f1
      go_wp2_with ((with_reducible refine gwl_load TO b (o + k * 5) RG.out ?_ ?_ ?_); rfl; rfl)
      refine AD.out.mono ?_; rintro e w2 ⟨rfl, q⟩
      have C2 := Lib.hid (cs_aft B1.out F1'.out q)
      clear q
      go_wp2_with fail
      go_roundw
      case rel => exact ⟨k + 1, _, t + 1, hlt, by go_num, C2.out, by omega⟩
      case measure => simp [intOf]; omega
    case neg =>
      obtain rfl : k = n := by omega
      have hd : decide ((k : Int) < k) = false := decide_eq_false (by omega)
      obtain ⟨F1, p1, b1, f1⟩ := CS.out
      have INV := Lib.hid (KH.out.inv p1)
      have RE := Lib.hid (KH.out.reach p1 HP.out (nt := 0) (by decide))
      obtain ⟨want, hwant⟩ : ∃ want, sumR buy os price 0 = want := ⟨_, rfl⟩
      have hsl := sumR_le buy price 0 os (fun x hx => by have := may_le (INV.out.may x hx).1; omega)
      have hlen := INV.out.len
      rw [hwant] at RE hsl
      have WL : Hid (want ≤ 100000000) := Lib.hid (by omega)
      have HW := Lib.hid hwant
      clear p1 b1 f1 hwant hsl
      go_wp2_with fail
      refine RE.out.mono ?_; rintro e w2 ⟨rfl, q⟩
      have C2 := Lib.hid (CS.out.below KH.out q)
      have R0 : Hid (R6 Pd w g buy price want 0 0 w2) := Lib.hid ⟨⟨os, t, C2.out, by rw [HW.out]; omega, by omega, by omega⟩, WL.out⟩
      clear q CS RE C2 HW
      go_wp2_with fail
      go_loopw [10, 44] (fun s i wr => ∃ (j : Nat) (got : Int), j ≤ 100 ∧ i = .int .i64 j ∧ s = .int .i64 got ∧ R6 Pd w g buy price want j got wr) (fun _ i _ => 100 - (intOf i).toNat)
      case atStart => exact ⟨0, 0, by omega, rfl, rfl, R0.out⟩
      case round =>
        obtain ⟨j, got, hj, rfl, rfl, ⟨os1, t1, hcs, hsum, hl1, hg0⟩, hlw⟩ := hrel
        have fin : sumR buy os1 price 0 = 0 → Hid ((got == want) = true ∧ ∀ W, Below wr.heap.size wr W → Calls Try.prog 22 #[.pointer (some ⟨g, 0, none⟩), .int .i64 price, .int .u32 0] W fun e w' => e = .returned (.int .i64 0) ∧ Below W.heap.size W w') := fun h0 => by
          obtain ⟨F1, p1, b1, f1⟩ := hcs
          refine Lib.hid ⟨by rw [beq_iff_eq]; omega, fun W q => ?_⟩
          have := KH.out.reach (KH.out.keep (S := fun _ => False) p1 (Fr.below q) (fun _ _ h => h)) HP.out (nt := 0) (by decide)
          rw [h0] at this
          exact this
        have BW : Hid (Below w.heap.size w wr) := Lib.hid (by obtain ⟨F1, p1, b1, f1⟩ := hcs; exact b1)
        clear R0
        by_cases hlt : j < 100
        case neg =>
          obtain rfl : j = 100 := by omega
          have e0 : os1 = [] := List.eq_nil_of_length_eq_zero (by omega)
          have FIN := fin (by rw [e0]; rfl)
          have RC := Lib.hid FIN.out.2
          have heq := FIN.out.1
          have hd : decide (((100 : Nat) : Int) < 100) = false := rfl
          rw [show ((100 : Nat) : Int) = 100 from rfl]
          have hd' : decide ((100 : Int) < 100) = false := rfl
          clear fin hcs hsum hd FIN
          go_wp2_with fail
          refine (RC.out _ (Below.refl _ _)).mono ?_; rintro e w5 ⟨rfl, q5⟩
          have Q5 := Lib.hid q5
          clear q5
          go_wp2_with fail
          refine (KN.out _).mono ?_; rintro e w6 ⟨rfl, q6⟩
          have Q6 := Lib.hid q6
          clear q6
          go_wp2_with fail
          go_ret
          have BF := BW.out.trans (((Below.refl _ _)).mono BW.out.size)
          have BG := BF.trans (Q5.out.mono BF.size)
          exact ⟨rfl, BG.trans (Q6.out.mono BG.size)⟩
        case pos =>
          have hd : decide ((j : Int) < 100) = true := decide_eq_true (by omega)
          obtain ⟨F1, p1, b1, f1⟩ := hcs
          have BE := KH.out.best p1
          have INV := Lib.hid (KH.out.inv p1)
          cases os1 with
          | nil =>
            have FIN := fin rfl
            have RC := Lib.hid FIN.out.2
            have heq := FIN.out.1
            clear FIN
            rw [show ([] : List Or).headD zeroOr = zeroOr from rfl, show (!([] : List Or).isEmpty) = false from rfl] at BE
            clear fin hsum p1 b1 f1
            go_wp2_with fail
            refine BE.mono ?_; rintro e w2 ⟨rfl, q⟩
            obtain ⟨w3, hV, bV, yV, zV, sV⟩ := put_or zeroOr q
            have HV := Lib.hid hV
            have ZV := Lib.hid zV
            have BV := Lib.hid bV
            clear q hV bV yV zV sV BE
            go_wp2_with (refine gwl_store TO zeroOr w2.heap.size ZV.out rfl rfl ?_; rw [HV.out])
            refine (RC.out w3 BV.out).mono ?_; rintro e w5 ⟨rfl, q5⟩
            have Q5 := Lib.hid q5
            clear q5
            go_wp2_with fail
            refine (KN.out _).mono ?_; rintro e w6 ⟨rfl, q6⟩
            have Q6 := Lib.hid q6
            clear q6
            go_wp2_with fail
            go_ret
            have BF := BW.out.trans ((BV.out).mono BW.out.size)
            have BG := BF.trans (Q5.out.mono BF.size)
            exact ⟨rfl, BG.trans (Q6.out.mono BG.size)⟩
          | cons x r =>
            have hxm := may_le (INV.out.may x (List.mem_cons_self ..)).1
            have hone : oneR buy price 0 x = if btr buy price x.pr then 0 else x.le := by
              cases hb : btr buy price x.pr
              · rw [one_good hb, if_pos (by simp; omega), if_neg (by decide)]
              · rw [one_worse hb, if_pos rfl]
            rw [show (x :: r).headD zeroOr = x from rfl, show (!(x :: r).isEmpty) = true from rfl] at BE
            have FI := KH.out.fill (n := x.le) (KH.out.more p1 (Nat.le_refl _)) ⟨by omega, by omega⟩
            have ef : fillA (x :: r) x.le = 0 := if_neg (by omega)
            have eo : fillO (x :: r) x.le = r := (if_neg (by omega)).trans (if_pos (by omega))
            have FILL : Hid (∀ W, Below wr.heap.size wr W → Calls Try.prog 14 #[.pointer (some ⟨g, 0, none⟩), .int .i64 x.le] W fun e w' => ∃ y : Or, e = .returned (.tuple #[.agg (EO.cells y).toArray, .int .i64 0]) ∧ AftO Pd W F1 g buy r t1 w') := Lib.hid fun W q => by
              have := KH.out.fill (n := x.le) (KH.out.keep (S := fun _ => False) p1 (Fr.below q) (fun _ _ h => h)) ⟨by omega, by omega⟩
              rw [ef, eo] at this
              exact this.mono fun e w' h => ⟨_, h⟩
            have BB := Lib.hid b1
            have FF := Lib.hid f1
            have PF := Lib.hid (KH.out.lt p1)
            have HS := Lib.hid hsum
            have HO := Lib.hid hone
            have HL := Lib.hid hl1
            have STOP : btr buy price x.pr = true → Hid ((got == want) = true ∧ ∀ W, Below wr.heap.size wr W → Calls Try.prog 22 #[.pointer (some ⟨g, 0, none⟩), .int .i64 price, .int .u32 0] W fun e w' => e = .returned (.int .i64 0) ∧ Below W.heap.size W w') := fun hb => fin (by rw [sumR_stop INV.out.srt (k := 0) rfl hb]; rfl)
            have hg1 : got + x.le ≤ 9223372036854775807 := by have := sumR_le buy price 0 (x :: r) (fun y hy => by have := may_le (INV.out.may y hy).1; omega); have := sumR_le buy price 0 r (fun y hy => by have := may_le (INV.out.may y (List.mem_cons_of_mem _ hy)).1; omega); omega
            have hg2 : -9223372036854775808 ≤ got + x.le := by omega
            have hle1 : 1 ≤ x.le := by omega
            clear fin hsum p1 b1 f1 hone FI ef eo hxm hl1
            cases hbu : buy
            · subst hbu
              cases hc : decide (price < x.pr)
              · have hb : btr false price x.pr = false := by simp only [btr, Bool.not_true, Bool.not_false, Bool.true_and, Bool.false_and, Bool.or_false, Bool.false_or]; exact hc
                have HB := Lib.hid hb
                clear STOP hb
                go_wp2_with fail
                refine BE.mono ?_; rintro e w2 ⟨rfl, q⟩
                obtain ⟨w3, hV, bV, yV, zV, sV⟩ := put_or x q
                have HV := Lib.hid hV
                have ZV := Lib.hid zV
                have BV := Lib.hid bV
                have d3 : w3.cell? ⟨w2.heap.size, 3, none⟩ = some (.int .i64 x.pr) := gbx_cell yV 3
                have d4 : w3.cell? ⟨w2.heap.size, 4, none⟩ = some (.int .i64 x.le) := gbx_cell yV 4
                have S2 : Hid (wr.heap.size ≤ w2.heap.size) := Lib.hid q.size
                clear q hV bV yV zV sV BE
                go_wp2_with (refine gwl_store TO x w2.heap.size ZV.out rfl rfl ?_; rw [HV.out])
                refine (FILL.out _ BV.out).mono ?_; rintro e w4 ⟨y, rfl, a4⟩
                have C4 := Lib.hid (cs_aft (BB.out.trans (BV.out.mono BB.out.size)) FF.out a4)
                obtain ⟨w5, hV5, bV5, yV5, zV5, sV5⟩ := put_or y (Below.refl w4.heap.size w4)
                have HV5 := Lib.hid hV5
                have ZV5 := Lib.hid zV5
                have C5 := Lib.hid (C4.out.below KH.out bV5)
                have Y5 : w5.cell? ⟨w2.heap.size, 4, none⟩ = some (.int .i64 x.le) := cell_below (fill_kept d4 a4 (by have := S2.out; intro c; have := PF.out _ c; omega)) bV5 (Nat.le_refl _)
                clear hV5 bV5 yV5 zV5 sV5 a4 d3 d4
                go_wp2_with (refine gwl_store TO y w4.heap.size ZV5.out rfl rfl ?_; rw [HV5.out])
                go_roundw
                case rel => exact ⟨j + 1, got + x.le, by omega, by go_num, rfl, ⟨⟨r, t1, C5.out, by have := HS.out; have e := HO.out; rw [HB.out] at e; rw [sumR_cons] at this; simp at e; omega, by have := HL.out; simp at this; omega, by omega⟩, hlw⟩⟩
                case measure => simp [intOf]; omega
              · have hb : btr false price x.pr = true := by simp only [btr, Bool.not_true, Bool.not_false, Bool.true_and, Bool.false_and, Bool.or_false, Bool.false_or]; exact hc
                have FIN := STOP hb
                have RC := Lib.hid FIN.out.2
                have heq := FIN.out.1
                clear FIN
                have HB := Lib.hid hb
                clear STOP hb
                go_wp2_with fail
                refine BE.mono ?_; rintro e w2 ⟨rfl, q⟩
                obtain ⟨w3, hV, bV, yV, zV, sV⟩ := put_or x q
                have HV := Lib.hid hV
                have ZV := Lib.hid zV
                have BV := Lib.hid bV
                have d3 : w3.cell? ⟨w2.heap.size, 3, none⟩ = some (.int .i64 x.pr) := gbx_cell yV 3
                have d4 : w3.cell? ⟨w2.heap.size, 4, none⟩ = some (.int .i64 x.le) := gbx_cell yV 4
                have S2 : Hid (wr.heap.size ≤ w2.heap.size) := Lib.hid q.size
                clear q hV bV yV zV sV BE
                go_wp2_with (refine gwl_store TO x w2.heap.size ZV.out rfl rfl ?_; rw [HV.out])
                refine (RC.out w3 BV.out).mono ?_; rintro e w5 ⟨rfl, q5⟩
                have Q5 := Lib.hid q5
                clear q5
                go_wp2_with fail
                refine (KN.out _).mono ?_; rintro e w6 ⟨rfl, q6⟩
                have Q6 := Lib.hid q6
                clear q6
                go_wp2_with fail
                go_ret
                have BF := BW.out.trans ((BV.out).mono BW.out.size)
                have BG := BF.trans (Q5.out.mono BF.size)
                exact ⟨rfl, BG.trans (Q6.out.mono BG.size)⟩
            · subst hbu
              cases hc : decide (x.pr < price)
              · have hb : btr true price x.pr = false := by simp only [btr, Bool.not_true, Bool.not_false, Bool.true_and, Bool.false_and, Bool.or_false, Bool.false_or]; exact hc
                have HB := Lib.hid hb
                clear STOP hb
                go_wp2_with fail
                refine BE.mono ?_; rintro e w2 ⟨rfl, q⟩
                obtain ⟨w3, hV, bV, yV, zV, sV⟩ := put_or x q
                have HV := Lib.hid hV
                have ZV := Lib.hid zV
                have BV := Lib.hid bV
                have d3 : w3.cell? ⟨w2.heap.size, 3, none⟩ = some (.int .i64 x.pr) := gbx_cell yV 3
                have d4 : w3.cell? ⟨w2.heap.size, 4, none⟩ = some (.int .i64 x.le) := gbx_cell yV 4
                have S2 : Hid (wr.heap.size ≤ w2.heap.size) := Lib.hid q.size
                clear q hV bV yV zV sV BE
                go_wp2_with (refine gwl_store TO x w2.heap.size ZV.out rfl rfl ?_; rw [HV.out])
                refine (FILL.out _ BV.out).mono ?_; rintro e w4 ⟨y, rfl, a4⟩
                have C4 := Lib.hid (cs_aft (BB.out.trans (BV.out.mono BB.out.size)) FF.out a4)
                obtain ⟨w5, hV5, bV5, yV5, zV5, sV5⟩ := put_or y (Below.refl w4.heap.size w4)
                have HV5 := Lib.hid hV5
                have ZV5 := Lib.hid zV5
                have C5 := Lib.hid (C4.out.below KH.out bV5)
                have Y5 : w5.cell? ⟨w2.heap.size, 4, none⟩ = some (.int .i64 x.le) := cell_below (fill_kept d4 a4 (by have := S2.out; intro c; have := PF.out _ c; omega)) bV5 (Nat.le_refl _)
                clear hV5 bV5 yV5 zV5 sV5 a4 d3 d4
                go_wp2_with (refine gwl_store TO y w4.heap.size ZV5.out rfl rfl ?_; rw [HV5.out])
                go_roundw
                case rel => exact ⟨j + 1, got + x.le, by omega, by go_num, rfl, ⟨⟨r, t1, C5.out, by have := HS.out; have e := HO.out; rw [HB.out] at e; rw [sumR_cons] at this; simp at e; omega, by have := HL.out; simp at this; omega, by omega⟩, hlw⟩⟩
                case measure => simp [intOf]; omega
              · have hb : btr true price x.pr = true := by simp only [btr, Bool.not_true, Bool.not_false, Bool.true_and, Bool.false_and, Bool.or_false, Bool.false_or]; exact hc
                have FIN := STOP hb
                have RC := Lib.hid FIN.out.2
                have heq := FIN.out.1
                clear FIN
                have HB := Lib.hid hb
                clear STOP hb
                go_wp2_with fail
                refine BE.mono ?_; rintro e w2 ⟨rfl, q⟩
                obtain ⟨w3, hV, bV, yV, zV, sV⟩ := put_or x q
                have HV := Lib.hid hV
                have ZV := Lib.hid zV
                have BV := Lib.hid bV
                have d3 : w3.cell? ⟨w2.heap.size, 3, none⟩ = some (.int .i64 x.pr) := gbx_cell yV 3
                have d4 : w3.cell? ⟨w2.heap.size, 4, none⟩ = some (.int .i64 x.le) := gbx_cell yV 4
                have S2 : Hid (wr.heap.size ≤ w2.heap.size) := Lib.hid q.size
                clear q hV bV yV zV sV BE
                go_wp2_with (refine gwl_store TO x w2.heap.size ZV.out rfl rfl ?_; rw [HV.out])
                refine (RC.out w3 BV.out).mono ?_; rintro e w5 ⟨rfl, q5⟩
                have Q5 := Lib.hid q5
                clear q5
                go_wp2_with fail
                refine (KN.out _).mono ?_; rintro e w6 ⟨rfl, q6⟩
                have Q6 := Lib.hid q6
                clear q6
                go_wp2_with fail
                go_ret
                have BF := BW.out.trans ((BV.out).mono BW.out.size)
                have BG := BF.trans (Q5.out.mono BF.size)
                exact ⟨rfl, BG.trans (Q6.out.mono BG.size)⟩
theorem reach6_all {Pd : PdT} {zs : Array Value} (K : SideK Pd zs) (buy : Bool) (A : Option Addr) (n c : Nat) (l : List Or) (price : Int) (w : World) (hr : EO.Rd w A n l) (hok : ∀ x, x ∈ l → x.ok) (hm : n ≤ maxLen) (hp : I64' price) :
    Calls Try.prog 6 #[.bool buy, .slice A n c, .int .i64 price] w fun e w' => e = .returned (.bool true) ∧ Below w.heap.size w w' := by
  unfold maxLen at hm
  rcases Nat.lt_or_ge 100 n with h | h
  · exact reach6_out K buy A n c price w h (by omega)
  · exact reach6_in K buy A n c l price w hr hok hp h
end Go.Proofs.Ytpnccbcaoifdiaa
