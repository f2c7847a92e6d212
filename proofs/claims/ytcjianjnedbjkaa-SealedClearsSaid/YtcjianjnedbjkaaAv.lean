/- The document's auction: how much is filled at a price; the same fills. -/
import Derived.Test.YtcjianjnedbjkaaAt
import Derived.Test.YtcjianjnedbjkaaAu
import Derived.Test.YtcjianjnedbjkaaSc
namespace Go.Proofs.Ytcjianjnedbjkaa
open Go.RowKit Go.Shelf
set_option linter.unusedVariables false
set_option linter.unusedSimpArgs false

theorem rbtr8 (buy : Bool) (a b : Int) (w : World) : Calls Try.prog 19 #[.bool buy, .int .i64 a, .int .i64 b] w fun e w' => e = .returned (.bool (btr buy a b)) ∧ w' = w :=
  (rbtr_any buy a b w).mono fun e w' h => ⟨h.1, h.2.symm⟩
theorem cum_snoc8 {b : Bool} {p : Int} {l : List Or} {k : Nat} {x : Or} (h : l[k]? = some x) : cumC b (l.take (k + 1)) p = cumC b (l.take k) p + oneC b p x := sum_snoc8 (oneC b p) h
set_option maxRecDepth 100000 in
set_option maxHeartbeats 4000000 in
theorem rat8 (b : Bool) (q : Int) (A : Option Addr) (n c : Nat) (l : List Or) (p : Int) (w : World) (h : EO.Rd w A n l) (hpos : ∀ x, x ∈ l → 0 < x.le ∧ x.le ≤ 1000000) (hn : n ≤ 50) :
    Calls Try.prog 18 #[.bool b, .int .i64 q, .slice A n c, .int .i64 p] w fun e w' => e = .returned (.int .i64 (atC b q l p)) ∧ w' = w := by
  have HR := Lib.hid h
  have HK := Lib.hid hpos
  have HL := Lib.hid h.1
  have AT : Hid (atC b q l p = if q < cumC b l p then q else cumC b l p) := Lib.hid rfl
  have BD : Hid (∀ k, 0 ≤ cumC b (l.take k) p ∧ cumC b (l.take k) p ≤ 50000000) := Lib.hid fun k => by
    have h1 := sum_take8 (oneC b p) (l := l) k (fun x hx => (one_le (Int.le_of_lt (hpos x hx).1)).1)
    have h2 := sum_bd8 (oneC b p) 1000000 (l := l) (fun x hx => Int.le_trans (one_le (Int.le_of_lt (hpos x hx).1)).2 (hpos x hx).2)
    have h3 := h.1
    unfold cumC
    omega
  obtain ⟨r, hr⟩ : ∃ r, atC b q l p = r := ⟨_, rfl⟩
  rw [hr] at AT ⊢
  clear h hpos hr
  go_enter Try.func18, Try.ntmps18
  go_wp2_with fail
  go_loop [9, 10] (fun vn vi => ∃ k : Nat, k ≤ n ∧ vi = .int .i64 k ∧ vn = .int .i64 (cumC b (l.take k) p)) (fun _ vi => n - (intOf vi).toNat)
  case atStart => exact ⟨0, Nat.zero_le _, rfl, rfl⟩
  case round =>
    obtain ⟨k, hk, rfl, rfl⟩ := hrel
    by_cases hlt : k < n
    case neg =>
      obtain rfl : k = n := by omega
      rw [List.take_of_length_le (by rw [HL.out]; exact Nat.le_refl _)]
      obtain ⟨C, hC⟩ : ∃ C, cumC b l p = C := ⟨_, rfl⟩
      rw [hC] at AT ⊢
      clear hC
      cases d : decide (q < C)
      · have e : r = C := by rw [AT.out, if_neg (of_decide_eq_false d)]
        subst e
        go_wp2_with fail
        go_ret
        exact ⟨rfl, rfl⟩
      · have e : r = q := by rw [AT.out, if_pos (of_decide_eq_true d)]
        subst e
        go_wp2_with fail
        go_ret
        exact ⟨rfl, rfl⟩
    case pos =>
      have hdk : decide ((k : Int) < n) = true := decide_eq_true (by omega)
      have hki : (k : Int) < (n : Int) := by omega
      obtain ⟨x, hx⟩ : ∃ x, l[k]? = some x := ⟨l[k]'(by have := HL.out; omega), List.getElem?_eq_getElem _⟩
      obtain ⟨bb, o, rfl, rg⟩ := grd_rng HR.out hx
      have h3 : w.cell? ⟨bb, o + k * 5 + 3, none⟩ = some (.int .i64 x.pr) := rg 3 _ rfl
      have h4 : w.cell? ⟨bb, o + k * 5 + 4, none⟩ = some (.int .i64 x.le) := rg 4 _ rfl
      have sn := cum_snoc8 (b := b) (p := p) hx
      have b1 := BD.out k
      have b2 := BD.out (k + 1)
      have x1 := HK.out x (List.mem_of_getElem? hx)
      obtain ⟨C, hC⟩ : ∃ C, cumC b (l.take k) p = C := ⟨_, rfl⟩
      rw [hC] at sn b1 ⊢
      have hone : oneC b p x = if (x.pr == p || btr b x.pr p) = true then x.le else 0 := rfl
      clear hC rg hx
      have CB := Lib.hid (fun w => rbtr8 b x.pr p w)
      cases d1 : (x.pr == p)
      · cases d2 : btr b x.pr p
        · rw [d1, d2] at hone
          have e : cumC b (l.take (k + 1)) p = C := by rw [sn, hone]; simp
          have E := Lib.hid e
          rw [d2] at CB
          clear sn b1 b2 x1 hone e d2
          go_wp2_with fail
          refine (CB.out _).mono ?_; rintro e w1 ⟨rfl, rfl⟩
          go_wp2_with fail
          go_round
          case rel => exact ⟨k + 1, hlt, by go_num, by rw [E.out]⟩
          case measure => simp [intOf]; omega
        · rw [d1, d2] at hone
          have e : cumC b (l.take (k + 1)) p = C + x.le := by rw [sn, hone]; simp
          have E := Lib.hid e
          have wq : IntKind.i64.wrap (C + x.le) = C + x.le := by rw [IntKind.wrap_i64]; omega
          rw [d2] at CB
          clear sn b1 b2 x1 hone e d2
          go_wp2_with fail
          refine (CB.out _).mono ?_; rintro e w1 ⟨rfl, rfl⟩
          go_wp2_with fail
          go_round
          case rel => exact ⟨k + 1, hlt, by go_num, by rw [E.out]⟩
          case measure => simp [intOf]; omega
      · rw [d1] at hone
        have e : cumC b (l.take (k + 1)) p = C + x.le := by rw [sn, hone]; simp
        have E := Lib.hid e
        have wq : IntKind.i64.wrap (C + x.le) = C + x.le := by rw [IntKind.wrap_i64]; omega
        clear sn b1 b2 x1 hone e CB
        go_wp2_with fail
        go_round
        case rel => exact ⟨k + 1, hlt, by go_num, by rw [E.out]⟩
        case measure => simp [intOf]; omega
end Go.Proofs.Ytcjianjnedbjkaa
