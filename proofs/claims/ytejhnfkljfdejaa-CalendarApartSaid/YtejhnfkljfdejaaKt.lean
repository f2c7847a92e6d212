/- Contracts of the calls of the document's plain calendar: Due. -/
import Derived.Test.YtejhnfkljfdejaaKr
import Derived.WalkSmall
import Derived.Deep.QuietTactic
import Derived.BigQuiet
namespace Go.Proofs.Ytejhnfkljfdejaa
open Go.RowKit

theorem Rc.drewN {W : World} {B g : Nat} {v : Value} {d : Int} {cs : List Ct} (h : Rc W B g v d cs) (n : Nat) : Rc (W.drewN n) B g v d cs := ⟨h.blk, h.own, h.ge, h.le, h.ok, h.dy, h.one⟩
theorem Fr.drewN {S : Nat → Prop} {a b : World} (h : Fr S a b) (n : Nat) : Fr S a (b.drewN n) := ⟨below_drewN h.b0 n, h.at'⟩
theorem first_cases (cs : List Ct) : ∀ n, firstC cs n = -1 ∨ ∃ (j : Nat) (y : Ct), firstC cs n = j ∧ cs[j]? = some y
  | 0 => .inl rfl
  | n + 1 => by
    have ih := first_cases cs n
    unfold firstC
    cases e : cs[n]? with
    | none => exact ih
    | some x =>
      simp only
      split
      · exact .inr ⟨n, x, rfl, e⟩
      · exact ih
theorem first_gone {cs : List Ct} {k : Nat} {x : Ct} (h : cs[k]? = some x) (hs : x.st = 3) : firstC cs (k + 1) = firstC cs k := by
  rw [firstC, h]; simp [hs]
theorem first_one {cs : List Ct} {k : Nat} {x : Ct} (h : cs[k]? = some x) (hs : x.st ≠ 3) (hf : firstC cs k = -1) : firstC cs (k + 1) = k := by
  rw [firstC, h]; simp [hs, hf]
theorem first_less {cs : List Ct} {k j : Nat} {x y : Ct} (h : cs[k]? = some x) (hs : x.st ≠ 3) (hf : firstC cs k = j) (hy : cs[j]? = some y) (hl : x.sp.la < y.sp.la) : firstC cs (k + 1) = k := by
  have e : laOf cs j = y.sp.la := by unfold laOf; rw [hy]
  rw [firstC, h]; simp only [hf, Int.toNat_natCast, e]; rw [if_pos ⟨hs, .inr hl⟩]
theorem first_not {cs : List Ct} {k j : Nat} {x y : Ct} (h : cs[k]? = some x) (hf : firstC cs k = j) (hy : cs[j]? = some y) (hl : ¬ x.sp.la < y.sp.la) : firstC cs (k + 1) = j := by
  have e : laOf cs j = y.sp.la := by unfold laOf; rw [hy]
  rw [firstC, h]; simp only [hf, Int.toNat_natCast, e]; rw [if_neg (by rintro ⟨_, c | c⟩; exact absurd c (by omega); exact hl c)]

theorem ret_i {a b : Int} (h : a = b) : Ending.returned (.int .i64 b) = .returned (.int .i64 a) := by rw [h]
set_option maxRecDepth 100000 in
set_option maxHeartbeats 1000000 in
theorem rdue_any (B g : Nat) (v : Value) (d : Int) (cs : List Ct) (nu : Int) (w : World) (h : Rc w B g v d cs) (hnu : 0 ≤ nu ∧ nu ≤ 4294967295) :
    Calls Try.prog 19 #[.pointer (some ⟨g, 0, none⟩), .int .u32 nu] w fun e w' => e = .returned (.int .i64 (dueA d cs nu)) ∧ Rc w' B g v d cs ∧ Fr (fun _ => False) w w' := by
  have P := ralive_any B g v d cs nu w h hnu
  have q := al_cases cs nu
  unfold dueA
  generalize alC cs nu = al at q P ⊢
  cases q with
  | none h0 =>
    have HH := Lib.hid h
    clear h h0
    go_enter Try.func19, Try.ntmps19
    go_wp2_with fail
    refine P.mono ?_; rintro e w1 ⟨rfl, rfl⟩
    go_wp2_with fail
    go_ret
    exact ⟨rfl, HH.out, Fr.refl _ _⟩
  | @gone k x h0 hx hn hs =>
    have HH := Lib.hid h
    clear h h0 hx hn hs
    go_enter Try.func19, Try.ntmps19
    go_wp2_with fail
    refine P.mono ?_; rintro e w1 ⟨rfl, rfl⟩
    go_wp2_with fail
    go_ret
    exact ⟨rfl, HH.out, Fr.refl _ _⟩
  | @here p x h0 hx hn hs =>
    have hk := (List.getElem?_eq_some_iff.1 hx).1
    obtain ⟨b, c, rfl⟩ := h.slot hk
    have hm := List.mem_of_getElem? hx
    have hcl := h.at hx (i := 23) (by omega)
    rw [Ct.spc (h.sh x hm) (by omega), Sp.c23 (h.sh x hm)] at hcl
    have d0 := h.c0
    have d1 := h.c1
    have hl := h.le
    have hp1 : (p : Int) < (cs.length : Int) := by omega
    obtain ⟨l1, l2⟩ := (h.ok x hm).sp.la
    obtain ⟨e1, e2⟩ := h.dy
    have HH := Lib.hid h
    simp only [Al.i, Al.e] at P ⊢
    generalize hl2 : cs.length = n at *
    have HL := Lib.hid hl2
    clear h hx h0 hn hs hm hl2
    obtain ⟨r, hr⟩ : ∃ r, (if d < x.sp.la then (51 : Int) else if firstC cs n = p then 0 else 51) = r := ⟨_, rfl⟩
    rw [hr]
    cases hlt : decide (d < x.sp.la)
    · have E0 := Lib.hid (hr.symm.trans (if_neg (of_decide_eq_false hlt)))
      clear hr
      go_enter Try.func19, Try.ntmps19
      go_wp2_with fail
      refine P.mono ?_; rintro e w1 ⟨rfl, rfl⟩
      go_wp2_with fail
      go_quiet (fail)
      go_wp2_with fail
      have HD := Lib.hid (HH.out.drewN nq)
      have HF := Lib.hid ((Fr.refl (fun _ => False) w).drewN nq)
      generalize hwn : w.drewN nq = w1 at *
      clear P d0 d1 hcl hwn HH
      go_loopw [7, 8] (fun f i wr => ∃ k : Nat, k ≤ n ∧ i = .int .i64 k ∧ f = .int .i64 (firstC cs k) ∧ Rc wr B g (.slice (some ⟨b, 0, none⟩) n c) d cs ∧ Fr (fun _ => False) w wr) (fun _ i _ => n - (intOf i).toNat)
      case atStart => exact ⟨0, Nat.zero_le _, rfl, rfl, HD.out, HF.out⟩
      case round =>
        obtain ⟨k, hk, rfl, rfl, hc, hf⟩ := hrel
        have r1 := hc.c1
        have HC := Lib.hid hc
        have HG := Lib.hid hf
        clear hc hf
        by_cases hlt : k < n
        case neg =>
          obtain rfl : k = n := by omega
          by_cases he : firstC cs k = p
          · have E1 := Lib.hid (E0.out.trans (if_pos he))
            have he1 : (firstC cs k != (p : Int)) = false := by rw [he]; exact bne_self_eq_false _
            generalize firstC cs k = f at *
            clear he E0
            go_wp2_with fail
            go_ret
            exact ⟨ret_i E1.out, HC.out, HG.out⟩
          · have E1 := Lib.hid (E0.out.trans (if_neg he))
            have he1 : (firstC cs k != (p : Int)) = true := bne_iff_ne.2 he
            generalize firstC cs k = f at *
            clear he E0
            go_wp2_with fail
            go_ret
            exact ⟨ret_i E1.out, HC.out, HG.out⟩
        case pos =>
          have hd : decide ((k : Int) < n) = true := decide_eq_true (by omega)
          have hki : (k : Int) < (n : Int) := by omega
          obtain ⟨y, hy⟩ : ∃ y, cs[k]? = some y := ⟨cs[k]'(by rw [HL.out]; exact hlt), List.getElem?_eq_getElem _⟩
          have hm := List.mem_of_getElem? hy
          have hst := HC.out.at hy (i := 25) (by omega)
          rw [Ct.c25 (HC.out.sh y hm)] at hst
          obtain ⟨s1, s2⟩ := (HC.out.ok y hm).st
          by_cases hs : y.st = 3
          · have E := Lib.hid (first_gone hy hs)
            rw [hs] at hst
            generalize firstC cs k = f at *
            clear hm hs E0
            go_wp2_with fail
            go_quiet (fail)
            go_wp2_with fail
            go_roundw
            case rel => exact ⟨k + 1, hlt, by go_num, by rw [E.out], HC.out.drewN _, HG.out.drewN _⟩
            case measure => simp [intOf]; omega
          · have hs1 : (y.st != 3) = true := bne_iff_ne.2 hs
            rcases first_cases cs k with hf | ⟨j, z, hf, hz⟩
            · have E := Lib.hid (first_one hy hs hf)
              rw [hf] at *
              clear hm hs E0 hf
              go_wp2_with fail
              go_quiet (fail)
              go_wp2_with fail
              go_roundw
              case rel => exact ⟨k + 1, hlt, by go_num, by rw [E.out], HC.out.drewN _, HG.out.drewN _⟩
              case measure => simp [intOf]; omega
            · have hj := (List.getElem?_eq_some_iff.1 hz).1
              rw [HL.out] at hj
              have hji : (j : Int) < (n : Int) := by omega
              have hj0 : decide ((j : Int) < 0) = false := decide_eq_false (by omega)
              have hmz := List.mem_of_getElem? hz
              have hla := HC.out.at hy (i := 23) (by omega)
              rw [Ct.spc (HC.out.sh y hm) (by omega), Sp.c23 (HC.out.sh y hm)] at hla
              have hlz := HC.out.at hz (i := 23) (by omega)
              rw [Ct.spc (HC.out.sh z hmz) (by omega), Sp.c23 (HC.out.sh z hmz)] at hlz
              obtain ⟨t1, t2⟩ := (HC.out.ok y hm).sp.la
              obtain ⟨u1, u2⟩ := (HC.out.ok z hmz).sp.la
              cases hcm : decide (y.sp.la < z.sp.la)
              · have E := Lib.hid (first_not hy hf hz (of_decide_eq_false hcm))
                rw [hf] at *
                clear hm hs E0 hf hz hmz hy
                go_wp2_with fail
                go_quiet (fail)
                go_wp2_with fail
                go_roundw
                case rel => exact ⟨k + 1, hlt, by go_num, by rw [E.out], HC.out.drewN _, HG.out.drewN _⟩
                case measure => simp [intOf]; omega
              · have E := Lib.hid (first_less hy hs hf hz (of_decide_eq_true hcm))
                rw [hf] at *
                clear hm hs E0 hf hz hmz hy
                go_wp2_with fail
                go_quiet (fail)
                go_wp2_with fail
                go_roundw
                case rel => exact ⟨k + 1, hlt, by go_num, by rw [E.out], HC.out.drewN _, HG.out.drewN _⟩
                case measure => simp [intOf]; omega
    · have E0 := Lib.hid (hr.symm.trans (if_pos (of_decide_eq_true hlt)))
      clear hr
      go_enter Try.func19, Try.ntmps19
      go_wp2_with fail
      refine P.mono ?_; rintro e w1 ⟨rfl, rfl⟩
      go_wp2_with fail
      go_quiet (fail)
      go_wp2_with fail
      go_ret
      exact ⟨ret_i E0.out, HH.out.drewN _, (Fr.refl _ _).drewN _⟩
end Go.Proofs.Ytejhnfkljfdejaa
