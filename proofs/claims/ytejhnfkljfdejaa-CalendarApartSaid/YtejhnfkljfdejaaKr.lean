/- Contracts of the calls of the document's plain calendar: Place, alive, Next. -/
import Derived.Test.YtejhnfkljfdejaaKm
import Derived.Test.YtejhnfkljfdejaaKf
namespace Go.Proofs.Ytejhnfkljfdejaa
open Go.RowKit

set_option maxRecDepth 100000 in
theorem rplace_any (B g : Nat) (v : Value) (d : Int) (cs : List Ct) (nu : Int) (w : World) (h : Rc w B g v d cs) (hnu : 0 ≤ nu ∧ nu ≤ 4294967295) :
    Calls Try.prog 36 #[.pointer (some ⟨g, 0, none⟩), .int .u32 nu] w fun e w' => e = .returned (.int .i64 (placeI cs nu)) ∧ w = w' := by
  have d1 := h.c1
  obtain ⟨A, c, rfl⟩ := h.one
  have HH := Lib.hid h
  have hn := h.le
  obtain ⟨nu1, nu2⟩ := hnu
  generalize hl : cs.length = n at *
  have HL := Lib.hid hl
  clear h hl
  go_enter Try.func36, Try.ntmps36
  go_wp2_with fail
  go_loop [5] (fun i => ∃ k : Nat, k ≤ n ∧ i = .int .i64 k ∧ ∀ (j : Nat) (x : Ct), j < k → cs[j]? = some x → x.sp.nu ≠ nu) (fun i => n - (intOf i).toNat)
  case atStart => exact ⟨0, Nat.zero_le _, rfl, fun j x hj => absurd hj (Nat.not_lt_zero j)⟩
  case round =>
    obtain ⟨k, hk, rfl, hno⟩ := hrel
    have HN := Lib.hid hno
    clear hno
    by_cases hlt : k < n
    case neg =>
      obtain rfl : k = n := by omega
      have E : Hid (placeI cs nu = -1) := Lib.hid (placeI_none (placeC_none cs nu (fun j x hj => HN.out j x (by rw [← HL.out]; exact (List.getElem?_eq_some_iff.1 hj).1) hj)))
      go_wp2_with fail
      go_ret
      refine ⟨?_, rfl⟩
      rw [E.out]
      rfl
    case pos =>
      have hd : decide ((k : Int) < n) = true := decide_eq_true (by omega)
      obtain ⟨x, hx⟩ : ∃ x, cs[k]? = some x := ⟨cs[k]'(by rw [HL.out]; exact hlt), List.getElem?_eq_getElem _⟩
      obtain ⟨b, c', eb⟩ := HH.out.slot (k := k) (by rw [HL.out]; exact hlt)
      obtain ⟨rfl, -⟩ : A = some ⟨b, 0, none⟩ ∧ c = c' := by injection eb with e1 _ e2; exact ⟨e1, e2⟩
      clear eb
      have hm := List.mem_of_getElem? hx
      have hcell := HH.out.at hx (i := 0) (by omega)
      rw [Nat.add_zero, Ct.spc (HH.out.sh x hm) (by omega), Sp.c0] at hcell
      have hb := (HH.out.ok x hm).sp.nu
      obtain ⟨hb1, hb2⟩ := hb
      have HX := Lib.hid hx
      clear hx hm
      by_cases he : x.sp.nu = nu
      · have E : Hid (placeI cs nu = k) := Lib.hid (placeI_some (placeC_some cs nu k ⟨x, HX.out, he⟩ HN.out))
        have he1 : (x.sp.nu == nu) = true := beq_iff_eq.2 he
        clear he
        go_wp2_with fail
        go_ret
        refine ⟨?_, rfl⟩
        rw [E.out]
        rfl
      · have he1 : (x.sp.nu == nu) = false := beq_eq_false_iff_ne.2 he
        have HE := Lib.hid he
        clear he
        go_wp2_with fail
        go_round
        case rel =>
          refine ⟨k + 1, hlt, by go_num, fun j y hj hy => ?_⟩
          rcases Nat.lt_or_ge j k with c | c
          · exact HN.out j y c hy
          · obtain rfl : j = k := by omega
            rw [HX.out] at hy
            cases hy
            exact HE.out
        case measure => simp [intOf]; omega

set_option maxRecDepth 100000 in
theorem ralive_any (B g : Nat) (v : Value) (d : Int) (cs : List Ct) (nu : Int) (w : World) (h : Rc w B g v d cs) (hnu : 0 ≤ nu ∧ nu ≤ 4294967295) :
    Calls Try.prog 38 #[.pointer (some ⟨g, 0, none⟩), .int .u32 nu] w fun e w' => e = .returned (.tuple #[.int .i64 (alC cs nu).i, .int .i64 (alC cs nu).e]) ∧ w = w' := by
  have P := rplace_any B g v d cs nu w h hnu
  have q := al_cases cs nu
  generalize alC cs nu = al at q ⊢
  cases q with
  | none h0 =>
    rw [placeI_none h0] at P
    go_enter Try.func38, Try.ntmps38
    go_wp2_with fail
    refine P.mono ?_; rintro e w1 ⟨rfl, rfl⟩
    go_wp2_with fail
    go_ret2
    exact ⟨rfl, rfl⟩
  | @gone k x h0 hx hn hs =>
    rw [placeI_some h0] at P
    have hk := (List.getElem?_eq_some_iff.1 hx).1
    obtain ⟨b, c, rfl⟩ := h.slot hk
    have hc := h.at hx (i := 25) (by omega)
    rw [Ct.c25 (h.sh x (List.mem_of_getElem? hx)), hs] at hc
    have d1 := h.c1
    have hl := h.le
    have hd : decide ((k : Int) < 0) = false := decide_eq_false (by omega)
    generalize hl2 : cs.length = n at *
    clear h hx h0 hn
    go_enter Try.func38, Try.ntmps38
    go_wp2_with fail
    refine P.mono ?_; rintro e w1 ⟨rfl, rfl⟩
    go_wp2_with fail
    go_ret2
    exact ⟨rfl, rfl⟩
  | @here k x h0 hx hn hs =>
    rw [placeI_some h0] at P
    have hk := (List.getElem?_eq_some_iff.1 hx).1
    obtain ⟨b, c, rfl⟩ := h.slot hk
    have hc := h.at hx (i := 25) (by omega)
    rw [Ct.c25 (h.sh x (List.mem_of_getElem? hx))] at hc
    have d1 := h.c1
    have hl := h.le
    have ht := (h.ok x (List.mem_of_getElem? hx)).st
    obtain ⟨ht1, ht2⟩ := ht
    have hd : decide ((k : Int) < 0) = false := decide_eq_false (by omega)
    have he : (x.st == 3) = false := beq_eq_false_iff_ne.2 hs
    generalize hl2 : cs.length = n at *
    clear h hx h0 hn hs
    go_enter Try.func38, Try.ntmps38
    go_wp2_with fail
    refine P.mono ?_; rintro e w1 ⟨rfl, rfl⟩
    go_wp2_with fail
    go_ret2
    exact ⟨rfl, rfl⟩

set_option maxRecDepth 100000 in
theorem rnext_any (B g : Nat) (v : Value) (d : Int) (cs : List Ct) (w : World) (h : Rc w B g v d cs) :
    Calls Try.prog 11 #[.pointer (some ⟨g, 0, none⟩)] w fun e w' => e = .returned (.int .i64 (nextA d)) ∧ Rc w' B g v (nextD d) cs ∧ Fr (RcS g v) w w' := by
  have d0 := h.c0
  have hf := h.fz 0
  have HH := Lib.hid h
  obtain ⟨hd1, hd2⟩ := h.dy
  clear h
  by_cases hm : d = 4294967295
  · subst hm
    go_enter Try.func11, Try.ntmps11
    go_wp2_with fail
    go_ret
    exact ⟨rfl, HH.out, Fr.refl _ _⟩
  · have E1 : Hid (nextA d = 0) := Lib.hid (if_neg hm)
    have E2 : Hid (nextD d = d + 1) := Lib.hid (if_neg hm)
    have he : (d == 4294967295) = false := beq_eq_false_iff_ne.2 hm
    have hw : 0 ≤ d + 1 ∧ d + 1 ≤ 4294967295 := by omega
    have HW := Lib.hid hw
    obtain ⟨hw1, hw2⟩ := hw
    clear hm
    go_enter Try.func11, Try.ntmps11
    go_wp2_with fail
    go_ret
    rw [E1.out, E2.out]
    exact ⟨rfl, HH.out.day HH.out.apart _ HW.out, Fr.set (.inl rfl) _⟩
end Go.Proofs.Ytejhnfkljfdejaa
