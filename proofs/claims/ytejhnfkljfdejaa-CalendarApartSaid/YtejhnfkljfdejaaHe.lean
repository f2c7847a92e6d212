/- The program's calendar: what is alive, what is due; Next, Day, Halt. -/
import Derived.Test.YtejhnfkljfdejaaHd
import Derived.Test.YtejhnfkljfdejaaKt
namespace Go.Proofs.Ytejhnfkljfdejaa
open Go.RowKit
set_option linter.unusedVariables false

theorem ahead_iff {a b : Ct} : aheadB a.sp b.sp = true ↔ Ahead a b := by
  unfold aheadB Ahead
  simp
theorem any_wait {cs : List Ct} (h : Up cs) {k : Nat} {x : Ct} (hx : cs[k]? = some x) (hs : x.st ≠ 3) : cs.any (fun o => waitB o x) = decide (firstC cs cs.length ≠ k) := by
  have hk := (List.getElem?_eq_some_iff.1 hx).1
  rcases first_is h cs.length (Nat.le_refl _) with ⟨h1, h2⟩ | ⟨k', x', e1, hk', hx', hs', ha⟩
  · exact absurd (h2 k x hk hx) hs
  · by_cases c : k' = k
    · subst c
      rw [hx] at hx'; cases hx'
      rw [decide_eq_false (by rw [e1]; exact fun h => h rfl)]
      refine List.any_eq_false.2 fun o ho hw => ?_
      obtain ⟨j, hj⟩ := List.getElem?_of_mem ho
      unfold waitB at hw
      simp only [Bool.and_eq_true, bne_iff_ne, ne_eq] at hw
      obtain ⟨w1, w2⟩ := hw
      have w3 : Ahead o x := ahead_iff.1 w2
      by_cases cj : j = k'
      · subst cj
        rw [hx] at hj; cases hj
        unfold Ahead at w3
        omega
      · have := ha j o (List.getElem?_eq_some_iff.1 hj).1 hj w1 cj
        unfold Ahead at w3 this
        omega
    · rw [decide_eq_true (by rw [e1]; omega)]
      refine List.any_eq_true.2 ⟨x', List.mem_of_getElem? hx', ?_⟩
      unfold waitB
      rw [ahead_iff.2 (ha k x hk hx hs (fun e => c e.symm))]
      simp [hs']
def alP (v : Value) : Al → Value
  | .here k _ => match v with | .slice (some a) _ _ => .pointer (some ⟨a.block, k * 27, none⟩) | _ => .pointer none
  | _ => .pointer none
set_option maxRecDepth 100000 in
theorem living_any (g : Nat) (v : Value) (d : Int) (cs : List Ct) (nu : Int) (w : World) (h : Rp w g v d cs) (hnu : 0 ≤ nu ∧ nu ≤ 4294967295) :
    Calls Try.prog 37 #[.pointer (some ⟨g, 0, none⟩), .int .u32 nu] w fun e w' => e = .returned (.tuple #[alP v (alC cs nu), .int .i64 (alC cs nu).e]) ∧ Below w.heap.size w w' := by
  have q := al_cases cs nu
  generalize alC cs nu = al at q ⊢
  cases q with
  | none h0 =>
    have P := at_none g v d cs nu w h hnu h0
    simp only [alP, Al.e]
    clear h h0
    go_enter Try.func37, Try.ntmps37
    go_wp2_with fail
    refine P.mono ?_; rintro e w1 ⟨rfl, q⟩
    have Q := Lib.hid q
    clear q
    go_wp2_with fail
    go_ret2
    exact ⟨rfl, Q.out⟩
  | @gone k x h0 hx hn hs =>
    have hk := (List.getElem?_eq_some_iff.1 hx).1
    obtain ⟨b, c, rfl⟩ := h.slot hk
    have P := at_some g b _ c d cs nu k w h hnu h0
    have HC := Lib.hid fun W q => (h.below (W' := W) q).at hx (i := 25) (by omega)
    rw [Ct.c25 (h.sh x (List.mem_of_getElem? hx)), hs] at HC
    simp only [alP, Al.e]
    clear h h0 hx hn hs hk
    go_enter Try.func37, Try.ntmps37
    go_wp2_with fail
    refine P.mono ?_; rintro e w1 ⟨rfl, q⟩
    have Q := Lib.hid q
    have hc := HC.out _ q
    clear q
    go_wp2_with fail
    go_ret2
    exact ⟨rfl, Q.out⟩
  | @here k x h0 hx hn hs =>
    have hk := (List.getElem?_eq_some_iff.1 hx).1
    obtain ⟨b, c, rfl⟩ := h.slot hk
    have P := at_some g b _ c d cs nu k w h hnu h0
    have HC := Lib.hid fun W q => (h.below (W' := W) q).at hx (i := 25) (by omega)
    rw [Ct.c25 (h.sh x (List.mem_of_getElem? hx))] at HC
    obtain ⟨ht1, ht2⟩ := (h.ok x (List.mem_of_getElem? hx)).st
    have he : (x.st == 3) = false := beq_eq_false_iff_ne.2 hs
    simp only [alP, Al.e]
    generalize x.st = st at *
    clear h h0 hx hn hs hk
    go_enter Try.func37, Try.ntmps37
    go_wp2_with fail
    refine P.mono ?_; rintro e w1 ⟨rfl, q⟩
    have Q := Lib.hid q
    have hc := HC.out _ q
    clear q
    go_wp2_with fail
    go_ret2
    exact ⟨rfl, Q.out⟩
set_option maxRecDepth 100000 in
theorem next_any (g : Nat) (v : Value) (d : Int) (cs : List Ct) (w : World) (h : Rp w g v d cs) :
    Calls Try.prog 10 #[.pointer (some ⟨g, 0, none⟩)] w fun e w' => e = .returned (.int .i64 (nextA d)) ∧ Rp w' g v (nextD d) cs ∧ Fr (RcS g v) w w' := by
  have M := missing_no h.c0
  have d0 := h.c1
  have hf := h.fz 1
  have HH := Lib.hid h
  obtain ⟨hd1, hd2⟩ := h.dy
  clear h
  by_cases hm : d = 4294967295
  · subst hm
    go_enter Try.func10, Try.ntmps10
    go_wp2_with fail
    refine M.mono ?_; rintro e w2 ⟨rfl, rfl⟩
    go_wp2_with fail
    go_ret
    exact ⟨rfl, HH.out, Fr.refl _ _⟩
  · have E1 : Hid (nextA d = 0) := Lib.hid (if_neg hm)
    have E2 : Hid (nextD d = d + 1) := Lib.hid (if_neg hm)
    have he : (d == 4294967295) = false := beq_eq_false_iff_ne.2 hm
    have hw : 0 ≤ d + 1 ∧ d + 1 ≤ 4294967295 := by omega
    have HW := Lib.hid hw
    obtain ⟨hw1, hw2⟩ := hw
    clear hm
    go_enter Try.func10, Try.ntmps10
    go_wp2_with fail
    refine M.mono ?_; rintro e w2 ⟨rfl, rfl⟩
    go_wp2_with fail
    go_ret
    rw [E1.out, E2.out]
    exact ⟨rfl, HH.out.day _ HW.out, Fr.set (.inl rfl) _⟩
set_option maxRecDepth 100000 in
theorem day_any (g : Nat) (v : Value) (d : Int) (cs : List Ct) (w : World) (h : Rp w g v d cs) :
    Calls Try.prog 27 #[.pointer (some ⟨g, 0, none⟩)] w fun e w' => e = .returned (.int .u32 d) ∧ Below w.heap.size w w' := by
  have M := missing_no h.c0
  have d0 := h.c1
  clear h
  go_enter Try.func27, Try.ntmps27
  go_wp2_with fail
  refine M.mono ?_; rintro e w2 ⟨rfl, rfl⟩
  go_wp2_with fail
  go_ret
  exact ⟨rfl, Below.refl _ _⟩
theorem keep_in {W : World} {S : Nat → Prop} {a b : World} (q : Below a.heap.size a b) : Fr S a b := Fr.below q
theorem st_put {x : Ct} (h : x.ok) {t : Int} (ht : 0 ≤ t ∧ t ≤ 255) : (Ct.mk x.sp t x.pr).ok := ⟨h.sp, ht, h.pr⟩
set_option maxRecDepth 100000 in
theorem halt_any (g : Nat) (v : Value) (d : Int) (cs : List Ct) (nu : Int) (on : Bool) (w : World) (h : Rp w g v d cs) (hnu : 0 ≤ nu ∧ nu ≤ 4294967295) :
    Calls Try.prog 14 #[.pointer (some ⟨g, 0, none⟩), .int .u32 nu, .bool on] w fun e w' => e = .returned (.int .i64 (alC cs nu).e) ∧ Rp w' g v d (haltC cs nu on) ∧ Fr (RcS g v) w w' := by
  have P := living_any g v d cs nu w h hnu
  have q := al_cases cs nu
  unfold haltC
  generalize alC cs nu = al at q P ⊢
  cases q with
  | none h0 =>
    have HH := Lib.hid h
    simp only [alP, Al.e] at P ⊢
    clear h h0
    go_enter Try.func14, Try.ntmps14
    go_wp2_with fail
    refine P.mono ?_; rintro e w1 ⟨rfl, q⟩
    have Q := Lib.hid q
    clear q
    go_wp2_with fail
    go_ret
    exact ⟨rfl, HH.out.below Q.out, Fr.below Q.out⟩
  | @gone k x h0 hx hn hs =>
    have HH := Lib.hid h
    simp only [alP, Al.e] at P ⊢
    clear h h0 hx hn hs
    go_enter Try.func14, Try.ntmps14
    go_wp2_with fail
    refine P.mono ?_; rintro e w1 ⟨rfl, q⟩
    have Q := Lib.hid q
    clear q
    go_wp2_with fail
    go_ret
    exact ⟨rfl, HH.out.below Q.out, Fr.below Q.out⟩
  | @here k x h0 hx hn hs =>
    have hk := (List.getElem?_eq_some_iff.1 hx).1
    obtain ⟨b, c, rfl⟩ := h.slot hk
    have hm := List.mem_of_getElem? hx
    have HX := Lib.hid hx
    have HL := Lib.hid (h.sh x hm)
    have HK := Lib.hid (h.ok x hm)
    have HH := Lib.hid h
    have HC := Lib.hid fun W q => (h.below (W' := W) q).at hx (i := 25) (by omega)
    rw [Ct.c25 (h.sh x hm)] at HC
    have HZ := Lib.hid fun W q => (h.below (W' := W) q).fzr (k * 27 + 25)
    have R := Lib.hid fun W q t (ht : 0 ≤ t ∧ t ≤ 255) => ((h.below (W' := W) q).put hx (by omega) (Ct.set25 (h.sh x hm) t) (st_put (h.ok x hm) ht) rfl)
    simp only [alP, Al.e] at P ⊢
    clear h hx h0 hn hs hm hk
    cases on
    · go_enter Try.func14, Try.ntmps14
      go_wp2_with fail
      refine P.mono ?_; rintro e w1 ⟨rfl, q⟩
      have Q := Lib.hid q
      have hc := HC.out _ q
      have hz := HZ.out _ q
      clear q
      go_wp2_with fail
      go_ret
      exact ⟨rfl, R.out _ Q.out 1 (by decide), (Fr.below Q.out).same (Fr.set (.inr rfl) _)⟩
    · go_enter Try.func14, Try.ntmps14
      go_wp2_with fail
      refine P.mono ?_; rintro e w1 ⟨rfl, q⟩
      have Q := Lib.hid q
      have hc := HC.out _ q
      have hz := HZ.out _ q
      clear q
      go_wp2_with fail
      go_ret
      refine ⟨rfl, ?_, ?_⟩
      · have r1 := R.out _ Q.out 1 (by decide)
        have r2 := r1.put (x := ⟨x.sp, 1, x.pr⟩) (y := ⟨x.sp, 2, x.pr⟩) (by rw [List.getElem?_set, if_pos rfl, if_pos (List.getElem?_eq_some_iff.1 HX.out).1]) (i := 25) (by omega) (Ct.set25 (c := ⟨x.sp, 1, x.pr⟩) HL.out 2) (st_put HK.out (by decide)) rfl
        rw [List.set_set] at r2
        exact r2
      · exact ((Fr.below Q.out).same (Fr.set (.inr rfl) _)).same (Fr.set (.inr rfl) _)
end Go.Proofs.Ytejhnfkljfdejaa
