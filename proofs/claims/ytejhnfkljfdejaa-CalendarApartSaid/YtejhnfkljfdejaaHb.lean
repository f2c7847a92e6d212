/- The program's calendar: where a contract stands (a search by halves), the contract of a number. -/
import Derived.Test.YtejhnfkljfdejaaHa
namespace Go.Proofs.Ytejhnfkljfdejaa
open Go.RowKit
set_option linter.unusedVariables false

theorem cmp_neg {a b : Int} (h : cmpC a b < 0) : a < b := by
  by_cases c : a < b
  · exact c
  · unfold cmpC at h
    rw [if_neg c] at h
    split at h <;> omega
set_option maxRecDepth 100000 in
set_option maxHeartbeats 1000000 in
theorem search_any (g : Nat) (v : Value) (d : Int) (cs : List Ct) (nu : Int) (w : World) (h : Rp w g v d cs) (hnu : 0 ≤ nu ∧ nu ≤ 4294967295) :
    Calls Try.prog 49 #[v, .int .u32 nu, .func (.func 50) #[] #[]] w fun e w' => e = .returned (.tuple #[.int .i64 (spotC cs nu), .bool (placeC cs nu).isSome]) ∧ Below w.heap.size w w' := by
  have FC := Lib.hid (fun x W ok => fclo_any x nu W ok)
  obtain ⟨A, c, rfl⟩ := h.one
  have hn := h.le
  generalize hl : cs.length = n at *
  have HL := Lib.hid hl
  have H0 := Lib.hid h
  have B0 : Hid (Below w.heap.size w w) := Lib.hid (Below.refl _ _)
  obtain ⟨r1, hr1⟩ : ∃ r, spotC cs nu = r := ⟨_, rfl⟩
  obtain ⟨r2, hr2⟩ : ∃ r, (placeC cs nu).isSome = r := ⟨_, rfl⟩
  rw [hr1, hr2]
  have R1 := Lib.hid hr1
  have R2 := Lib.hid hr2
  clear hr1 hr2 h hl
  go_enter Try.func49, Try.ntmps49
  go_wp2_with fail
  go_loopw [9, 10] (fun i j wr => ∃ lo hi : Nat, i = .int .i64 lo ∧ j = .int .i64 hi ∧ lo ≤ hi ∧ hi ≤ n ∧ Below w.heap.size w wr ∧ (∀ (t : Nat) (y : Ct), t < lo → cs[t]? = some y → y.sp.nu < nu) ∧ (∀ (t : Nat) (y : Ct), hi ≤ t → cs[t]? = some y → nu ≤ y.sp.nu)) (fun i j _ => (intOf j).toNat - (intOf i).toNat)
  case atStart => exact ⟨0, n, rfl, rfl, Nat.zero_le _, Nat.le_refl _, B0.out, fun t y ht => absurd ht (Nat.not_lt_zero t), fun t y ht hy => by have := (List.getElem?_eq_some_iff.1 hy).1; have := HL.out; omega⟩
  case round =>
    obtain ⟨lo, hi, rfl, rfl, hlh, hin, hb, hlo, hhi⟩ := hrel
    have BW := Lib.hid hb
    have LO := Lib.hid hlo
    have HI := Lib.hid hhi
    have HW := Lib.hid (H0.out.below hb)
    clear hb hlo hhi
    by_cases hlt : lo < hi
    case pos =>
      have hd : decide ((lo : Int) < hi) = true := decide_eq_true (by omega)
      obtain ⟨mi, hmi⟩ : ∃ mi : Nat, (lo + hi) / 2 = mi := ⟨_, rfl⟩
      have hm1 : lo ≤ mi := by omega
      have hm2 : mi < hi := by omega
      have hmz : ((lo : Int) + hi) / 2 = mi := by omega
      obtain ⟨x, hx⟩ : ∃ x, cs[mi]? = some x := ⟨cs[mi]'(by have := HL.out; omega), List.getElem?_eq_getElem _⟩
      obtain ⟨b, c', eb⟩ := HW.out.slot (k := mi) (by have := HL.out; omega)
      obtain ⟨rfl, -⟩ : A = some ⟨b, 0, none⟩ ∧ c = c' := by injection eb with e1 _ e2; exact ⟨e1, e2⟩
      clear eb
      have hok := Lib.hid (HW.out.ok x (List.mem_of_getElem? hx))
      have RG := Lib.hid (HW.out.rng hx)
      have HX := Lib.hid hx
      clear hx hmi
      by_cases he : cmpC x.sp.nu nu < 0
      · have he1 : decide (cmpC x.sp.nu nu < 0) = true := decide_eq_true he
        have HE := Lib.hid (cmp_neg he)
        clear he
        go_wp2_with (refine wl_load_ctm b (mi * 27) hok.out.sp.len RG.out rfl ?_)
        refine (FC.out x _ hok.out).mono ?_; rintro e w2 ⟨rfl, q⟩
        have Q := Lib.hid q
        clear q
        go_wp2_with fail
        go_roundw
        case rel => exact ⟨mi + 1, hi, by go_num, rfl, by omega, hin, BW.out.trans (Q.out.mono BW.out.size), fun t y ht hy => by
            rcases Nat.lt_or_ge t mi with c | c
            · have := H0.out.up.rise t mi y x c hy HX.out; have := HE.out; omega
            · obtain rfl : t = mi := by omega
              rw [HX.out] at hy; cases hy; exact HE.out, HI.out⟩
        case measure => simp [intOf]; omega
      · have he1 : decide (cmpC x.sp.nu nu < 0) = false := decide_eq_false he
        have HE : Hid (nu ≤ x.sp.nu) := Lib.hid (Int.not_lt.1 fun c => he (by rw [cmp_lt c]; decide))
        clear he
        go_wp2_with (refine wl_load_ctm b (mi * 27) hok.out.sp.len RG.out rfl ?_)
        refine (FC.out x _ hok.out).mono ?_; rintro e w2 ⟨rfl, q⟩
        have Q := Lib.hid q
        clear q
        go_wp2_with fail
        go_roundw
        case rel => exact ⟨lo, mi, rfl, rfl, hm1, by omega, BW.out.trans (Q.out.mono BW.out.size), LO.out, fun t y ht hy => by
            have := rise_le H0.out.up.rise ht HX.out hy; have := HE.out; omega⟩
        case measure => simp [intOf]; omega
    case neg =>
      obtain rfl : hi = lo := by omega
      have hd : decide ((hi : Int) < hi) = false := decide_eq_false (by omega)
      have E1 := Lib.hid (R1.out.symm.trans (spot_of LO.out HI.out (by have := HL.out; omega)))
      by_cases hlt : hi < n
      · have hp1 : decide ((hi : Int) < n) = true := decide_eq_true (by omega)
        obtain ⟨x, hx⟩ : ∃ x, cs[hi]? = some x := ⟨cs[hi]'(by have := HL.out; omega), List.getElem?_eq_getElem _⟩
        obtain ⟨b, c', eb⟩ := HW.out.slot (k := hi) (by have := HL.out; omega)
        obtain ⟨rfl, -⟩ : A = some ⟨b, 0, none⟩ ∧ c = c' := by injection eb with e1 _ e2; exact ⟨e1, e2⟩
        clear eb
        have hok := Lib.hid (HW.out.ok x (List.mem_of_getElem? hx))
        have RG := Lib.hid (HW.out.rng hx)
        have HX := Lib.hid hx
        clear hx
        by_cases he : x.sp.nu = nu
        · have E2 : Hid (r2 = true) := Lib.hid (by rw [← R2.out, place_of LO.out HX.out he]; rfl)
          have he1 : (cmpC x.sp.nu nu == 0) = true := by rw [cmp_eq he]; rfl
          clear he
          go_wp2_with ((with_reducible refine wl_load_ctg b (hi * 27) hok.out.sp.len RG.out ?_ ?_ ?_); rfl; rfl)
          refine (FC.out x _ hok.out).mono ?_; rintro e w2 ⟨rfl, q⟩
          have Q := Lib.hid q
          clear q
          go_wp2_with fail
          go_ret2
          rw [E1.out, E2.out]
          exact ⟨rfl, BW.out.trans (Q.out.mono BW.out.size)⟩
        · have E2 : Hid (r2 = false) := Lib.hid (by
            rw [← R2.out, place_off H0.out.up.rise LO.out fun y hy => by
              rw [HX.out] at hy; cases hy
              have := HI.out hi x (Nat.le_refl _) HX.out; omega]; rfl)
          have he1 : (cmpC x.sp.nu nu == 0) = false := by
            rw [cmp_gt (by have := HI.out hi x (Nat.le_refl _) HX.out; omega)]; rfl
          clear he
          go_wp2_with ((with_reducible refine wl_load_ctg b (hi * 27) hok.out.sp.len RG.out ?_ ?_ ?_); rfl; rfl)
          refine (FC.out x _ hok.out).mono ?_; rintro e w2 ⟨rfl, q⟩
          have Q := Lib.hid q
          clear q
          go_wp2_with fail
          go_ret2
          rw [E1.out, E2.out]
          exact ⟨rfl, BW.out.trans (Q.out.mono BW.out.size)⟩
      · have hp1 : decide ((hi : Int) < n) = false := decide_eq_false (by omega)
        have E2 : Hid (r2 = false) := Lib.hid (by
          rw [← R2.out, place_off H0.out.up.rise LO.out fun y hy => by
            have := (List.getElem?_eq_some_iff.1 hy).1; have := HL.out; omega]; rfl)
        go_wp2_with fail
        go_ret2
        rw [E1.out, E2.out]
        exact ⟨rfl, BW.out⟩

set_option maxRecDepth 100000 in
theorem find_any (g : Nat) (v : Value) (d : Int) (cs : List Ct) (nu : Int) (w : World) (h : Rp w g v d cs) (hnu : 0 ≤ nu ∧ nu ≤ 4294967295) :
    Calls Try.prog 32 #[.pointer (some ⟨g, 0, none⟩), .int .u32 nu] w fun e w' => e = .returned (.tuple #[.int .i64 (spotC cs nu), .bool (placeC cs nu).isSome]) ∧ Below w.heap.size w w' := by
  have P := search_any g v d cs nu w h hnu
  have k2 := h.c2
  generalize (placeC cs nu).isSome = r2 at *
  generalize (spotC cs nu : Int) = r1 at *
  clear h hnu
  go_enter Try.func32, Try.ntmps32
  go_wp2_with fail
  refine P.mono ?_; rintro e w2 ⟨rfl, q⟩
  have Q := Lib.hid q
  clear q
  go_wp2_with fail
  go_ret2
  exact ⟨rfl, Q.out⟩
set_option maxRecDepth 100000 in
theorem missing_no {w : World} {g : Nat} (h : w.cell? ⟨g, 0, none⟩ = some (.bool true)) :
    Calls Try.prog 31 #[.pointer (some ⟨g, 0, none⟩)] w fun e w' => e = .returned (.bool false) ∧ w = w' := by
  go_enter Try.func31, Try.ntmps31
  go_wp2_with fail
  go_ret
  exact ⟨rfl, rfl⟩
set_option maxRecDepth 100000 in
theorem missing_zero {w : World} {g : Nat} (h : w.cell? ⟨g, 0, none⟩ = some (.bool false)) :
    Calls Try.prog 31 #[.pointer (some ⟨g, 0, none⟩)] w fun e w' => e = .returned (.bool true) ∧ w = w' := by
  go_enter Try.func31, Try.ntmps31
  go_wp2_with fail
  go_ret
  exact ⟨rfl, rfl⟩
set_option maxRecDepth 100000 in
theorem missing_nil (w : World) :
    Calls Try.prog 31 #[.pointer none] w fun e w' => e = .returned (.bool true) ∧ w = w' := by
  go_enter Try.func31, Try.ntmps31
  go_wp2_with fail
  go_ret
  exact ⟨rfl, rfl⟩
set_option maxRecDepth 100000 in
theorem at_none (g : Nat) (v : Value) (d : Int) (cs : List Ct) (nu : Int) (w : World) (h : Rp w g v d cs) (hnu : 0 ≤ nu ∧ nu ≤ 4294967295) (hp : placeC cs nu = none) :
    Calls Try.prog 43 #[.pointer (some ⟨g, 0, none⟩), .int .u32 nu] w fun e w' => e = .returned (.tuple #[.pointer none, .int .i64 7]) ∧ Below w.heap.size w w' := by
  have M := missing_no h.c0
  have P := find_any g v d cs nu w h hnu
  rw [hp] at P
  generalize (spotC cs nu : Int) = r1 at *
  simp only [Option.isSome_none] at P
  clear h hnu hp
  go_enter Try.func43, Try.ntmps43
  go_wp2_with fail
  refine M.mono ?_; rintro e w2 ⟨rfl, rfl⟩
  go_wp2_with fail
  refine P.mono ?_; rintro e w2 ⟨rfl, q⟩
  have Q := Lib.hid q
  clear q
  go_wp2_with fail
  go_ret2
  exact ⟨rfl, Q.out⟩
set_option maxRecDepth 100000 in
theorem at_some (g b n c : Nat) (d : Int) (cs : List Ct) (nu : Int) (k : Nat) (w : World) (h : Rp w g (.slice (some ⟨b, 0, none⟩) n c) d cs) (hnu : 0 ≤ nu ∧ nu ≤ 4294967295) (hp : placeC cs nu = some k) :
    Calls Try.prog 43 #[.pointer (some ⟨g, 0, none⟩), .int .u32 nu] w fun e w' => e = .returned (.tuple #[.pointer (some ⟨b, k * 27, none⟩), .int .i64 0]) ∧ Below w.heap.size w w' := by
  have M := missing_no h.c0
  have P := find_any g _ d cs nu w h hnu
  obtain ⟨x, hx, hn⟩ := placeC_at hp
  have hsp : spotC cs nu = k := spot_of (fun t y ht hy => by have := h.up.rise t k y x ht hy hx; omega) (fun t y ht hy => by have := rise_le h.up.rise ht hx hy; omega) (by have := (List.getElem?_eq_some_iff.1 hx).1; omega)
  rw [hp, hsp] at P
  simp only [Option.isSome_some] at P
  have hk := (List.getElem?_eq_some_iff.1 hx).1
  have HH := Lib.hid h
  have hl := h.le
  obtain ⟨A, c', e⟩ := h.one
  cases e
  have hki : (k : Int) < (cs.length : Int) := by omega
  have hd : decide ((k : Int) < 0) = false := decide_eq_false (by omega)
  generalize hl2 : cs.length = n at *
  clear h hnu hp hx hn hsp hl2
  go_enter Try.func43, Try.ntmps43
  go_wp2_with fail
  refine M.mono ?_; rintro e w2 ⟨rfl, rfl⟩
  go_wp2_with fail
  refine P.mono ?_; rintro e w2 ⟨rfl, q⟩
  have Q := Lib.hid q
  have k2 := (HH.out.below q).c2
  clear q
  go_wp2_with fail
  go_ret2
  exact ⟨rfl, Q.out⟩
end Go.Proofs.Ytejhnfkljfdejaa
