/- Contracts of the document's ledger: among, at, Funds, Position. -/
import Derived.Test.YthnmpnepgagmmaaDa
namespace Go.Proofs.Ythnmpnepgagmmaa
open Go.RowKit Go.Shelf
set_option linter.unusedVariables false
set_option linter.unusedSimpArgs false

def amgB (n a b : Int) : Bool := decide (a ≤ n) && decide (n ≤ b)
theorem ramong (n a b : Int) (w : World) : Calls Try.prog 31 #[.int .i64 n, .int .i64 a, .int .i64 b] w fun e w' => e = .returned (.bool (amgB n a b)) ∧ w = w' := by
  unfold amgB
  cases h : decide (a ≤ n)
  · go_enter Try.func31, Try.ntmps31
    go_wp2
    go_ret
    exact ⟨rfl, rfl⟩
  · go_enter Try.func31, Try.ntmps31
    go_wp2
    go_ret
    exact ⟨by simp, rfl⟩
set_option maxRecDepth 100000 in
set_option maxHeartbeats 1000000 in
theorem rat9 {B g : Nat} {va vh : Value} {L : Lg} (n : Int) (w : World) (h : Rl w B g va vh L) (hn : 0 ≤ n ∧ n ≤ 4294967295) :
    Calls Try.prog 34 #[.pointer (some ⟨g, 0, none⟩), .int .u32 n] w fun e w' => e = .returned (.int .i64 (atL L.al n)) ∧ w = w' := by
  have d1 := h.c1
  obtain ⟨A, c, rfl, _⟩ := gown_form h.oa
  have HO := Lib.hid h.oa
  obtain ⟨al, hal⟩ : ∃ al, L.al = al := ⟨_, rfl⟩
  rw [hal] at d1 HO ⊢
  clear h hal
  obtain ⟨m, hm⟩ : ∃ m, al.length = m := ⟨_, rfl⟩
  rw [hm] at d1 HO
  have HL := Lib.hid hm
  clear hm
  go_enter Try.func34, Try.ntmps34
  go_wp2_with fail
  go_loop [5] (fun i => ∃ k : Nat, k ≤ m ∧ i = .int .i64 k ∧ ∀ (j : Nat) (x : Ac), j < k → al[j]? = some x → x.nu ≠ n) (fun i => m - (intOf i).toNat)
  case atStart => exact ⟨0, Nat.zero_le _, rfl, fun j x hj => absurd hj (Nat.not_lt_zero j)⟩
  case round =>
    obtain ⟨k, hk, rfl, hno⟩ := hrel
    have HN := Lib.hid hno
    clear hno
    by_cases hlt : k < m
    case neg =>
      obtain rfl : k = m := by omega
      have E : Hid (atL al n = -1) := Lib.hid (atL_miss fun j x hj => HN.out j x (by rw [← HL.out]; exact (List.getElem?_eq_some_iff.1 hj).1) hj)
      go_wp2_with fail
      go_ret
      refine ⟨?_, rfl⟩
      rw [E.out]
      rfl
    case pos =>
      have hd : decide ((k : Int) < m) = true := decide_eq_true (by omega)
      obtain ⟨x, hx⟩ : ∃ x, al[k]? = some x := ⟨al[k]'(by rw [HL.out]; exact hlt), List.getElem?_eq_getElem _⟩
      obtain ⟨b, c', eb⟩ := gown_slot HO.out (by have := HL.out; omega)
      injection eb with e1 _ e2
      subst e1 e2
      have hcap := gown_cap HO.out
      have hcell := gown_at HO.out hx (i := 0) (by decide)
      have e0 : (EA.cells x)[0]? = some (.int .u32 x.nu) := rfl
      have eN : EA.N = 4 := rfl
      rw [e0, eN, Nat.add_zero] at hcell
      have HX := Lib.hid hx
      clear hx e0 eN
      by_cases he : x.nu = n
      · have E : Hid (atL al n = k) := Lib.hid (atL_hit HX.out he HN.out)
        have he1 : (x.nu == n) = true := beq_iff_eq.2 he
        clear he
        go_wp2_with fail
        go_ret
        refine ⟨?_, rfl⟩
        rw [E.out]
        rfl
      · have he1 : (x.nu == n) = false := beq_eq_false_iff_ne.2 he
        have HE := Lib.hid he
        clear he
        go_wp2_with fail
        go_round
        case rel =>
          refine ⟨k + 1, hlt, by go_num, fun j y hj hy => ?_⟩
          rcases Nat.lt_or_ge j k with c | c
          · exact HN.out j y c hy
          · obtain rfl : j = k := by omega
            rw [HX.out] at hy
            cases hy
            exact HE.out
        case measure => simp [intOf]; omega
theorem cash_snoc {al : List Ac} {k : Nat} {x : Ac} (h : al[k]? = some x) : cashL (al.take (k + 1)) = cashL (al.take k) + x.ca := by
  unfold cashL
  rw [List.take_add_one, h]; simp
theorem cash_bd {al : List Ac} (h : ∀ a, a ∈ al → 0 ≤ a.ca ∧ a.ca ≤ 1000000000000000) : ∀ k : Nat, 0 ≤ cashL (al.take k) ∧ cashL (al.take k) ≤ 1000000000000000 * k
  | 0 => by simp [cashL]
  | k + 1 => by
    have ih := cash_bd h k
    cases hx : al[k]? with
    | none =>
      have e : al.take (k + 1) = al.take k := by
        rw [List.take_add_one, hx]; simp
      rw [e]
      omega
    | some x =>
      rw [cash_snoc hx]
      have := h x (List.mem_of_getElem? hx)
      omega
set_option maxRecDepth 100000 in
set_option maxHeartbeats 1000000 in
theorem rfunds9 {B g : Nat} {va vh : Value} {L : Lg} (w : World) (h : Rl w B g va vh L) (hf : 0 ≤ L.fund ∧ L.fund ≤ 1000000000000000) (hc : ∀ a, a ∈ L.al → 0 ≤ a.ca ∧ a.ca ≤ 1000000000000000) (hl : L.al.length ≤ 200) :
    Calls Try.prog 32 #[.pointer (some ⟨g, 0, none⟩)] w fun e w' => e = .returned (.int .i64 (fundsL L)) ∧ w = w' := by
  have d0 := h.c0
  have d1 := h.c1
  obtain ⟨A, c, rfl, _⟩ := gown_form h.oa
  have HO := Lib.hid h.oa
  unfold fundsL
  obtain ⟨f, hfe⟩ : ∃ f, L.fund = f := ⟨_, rfl⟩
  rw [hfe] at d0 hf ⊢
  obtain ⟨al, hal⟩ : ∃ al, L.al = al := ⟨_, rfl⟩
  rw [hal] at d1 HO hc hl ⊢
  clear h hal hfe
  have BD := Lib.hid (cash_bd hc)
  obtain ⟨m, hm⟩ : ∃ m, al.length = m := ⟨_, rfl⟩
  rw [hm] at d1 HO hl
  have HL := Lib.hid hm
  clear hm hc
  obtain ⟨f0, f1⟩ := hf
  go_enter Try.func32, Try.ntmps32
  go_wp2_with fail
  go_loop [3, 4] (fun v i => ∃ k : Nat, k ≤ m ∧ i = .int .i64 k ∧ v = .int .i64 (f + cashL (al.take k))) (fun _ i => m - (intOf i).toNat)
  case atStart => exact ⟨0, Nat.zero_le _, rfl, by simp [cashL]⟩
  case round =>
    obtain ⟨k, hk, rfl, rfl⟩ := hrel
    by_cases hlt : k < m
    case neg =>
      obtain rfl : k = m := by omega
      rw [List.take_of_length_le (by rw [HL.out]; exact Nat.le_refl _)]
      go_wp2_with fail
      go_ret
      exact ⟨rfl, rfl⟩
    case pos =>
      have hd : decide ((k : Int) < m) = true := decide_eq_true (by omega)
      obtain ⟨x, hx⟩ : ∃ x, al[k]? = some x := ⟨al[k]'(by rw [HL.out]; exact hlt), List.getElem?_eq_getElem _⟩
      obtain ⟨b, c', eb⟩ := gown_slot HO.out (by have := HL.out; omega)
      injection eb with e1 _ e2
      subst e1 e2
      have hcell := gown_at HO.out hx (i := 1) (by decide)
      have e0 : (EA.cells x)[1]? = some (.int .i64 x.ca) := rfl
      have eN : EA.N = 4 := rfl
      rw [e0, eN] at hcell
      have sn := cash_snoc hx
      have b1 := BD.out (k + 1)
      obtain ⟨C, hC⟩ : ∃ C, cashL (al.take k) = C := ⟨_, rfl⟩
      rw [hC] at sn ⊢
      have wq : IntKind.i64.wrap (f + C + x.ca) = f + C + x.ca := by rw [IntKind.wrap_i64]; omega
      have E := Lib.hid sn
      clear hx e0 eN sn b1 hC
      go_wp2_with fail
      go_round
      case rel => exact ⟨k + 1, hlt, by go_num, by rw [E.out, Int.add_assoc]⟩
      case measure => simp [intOf]; omega
end Go.Proofs.Ythnmpnepgagmmaa
