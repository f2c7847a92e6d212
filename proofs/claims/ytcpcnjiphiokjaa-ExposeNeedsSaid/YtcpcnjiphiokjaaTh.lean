/- Margin: the document's. -/
import Derived.Test.YtcpcnjiphiokjaaTf
import Derived.Test.YtcpcnjiphiokjaaTg
namespace Go.Proofs.Ytcpcnjiphiokjaa
open Go.RowKit Go.Shelf
set_option linter.unusedVariables false
set_option linter.unusedSimpArgs false

theorem marE_bad {l : List Lq} {k : Nat} {x : Lq} (h : l.length ≤ 16) (hx : l[k]? = some x) (hb : legB x = false) : marE l = 2 := by
  rcases marE_cases l with h1 | h1 | h1 | h1
  · omega
  · exact h1.2.2
  · have := h1.2.1 x (List.mem_of_getElem? hx); rw [hb] at this; cases this
  · have := h1.2.1 x (List.mem_of_getElem? hx); rw [hb] at this; cases this
theorem marE_dup {l : List Lq} {i k : Nat} {x y : Lq} (h : l.length ≤ 16) (ha : ∀ x, x ∈ l → legB x = true) (hx : l[i]? = some x) (hy : l[k]? = some y) (hk : k < i) (e : x.sp.nu = y.sp.nu) : marE l = 8 := by
  have hd : dupQ l = true := by
    unfold dupQ
    refine decide_eq_true fun hp => ?_
    obtain ⟨h1, e1⟩ := List.getElem?_eq_some_iff.1 hx
    obtain ⟨h2, e2⟩ := List.getElem?_eq_some_iff.1 hy
    have := List.pairwise_iff_getElem.1 hp k i h2 h1 hk
    rw [e1, e2] at this
    exact this e.symm
  rcases marE_cases l with h1 | h1 | h1 | h1
  · omega
  · obtain ⟨_, ⟨z, hz, hb⟩, _⟩ := h1
    rw [ha z hz] at hb; cases hb
  · exact h1.2.2.2
  · rw [hd] at h1; exact absurd h1.2.2.1 (by decide)
set_option maxRecDepth 100000 in
set_option maxHeartbeats 8000000 in
theorem rmargin10 (A : Option Addr) (n c : Nat) (l : List Lq) (w : World) (h : EL.Rd w A n l) (hok : ∀ x, x ∈ l → x.ok) (hn : n ≤ maxLen) :
    Calls Try.prog 23 #[.slice A n c] w fun e w' => e = .returned (.tuple #[.int .i64 (marN l), .int .i64 (marE l)]) ∧ Below w.heap.size w w' := by
  have hL := h.1
  unfold maxLen at hn
  by_cases h1 : 16 < n
  · have hd : decide ((16 : Int) < (n : Int)) = true := decide_eq_true (by omega)
    have h2 : marE l = 3 := by unfold marE; rw [if_pos (by omega)]
    have E : Hid (marN l = 0) := Lib.hid (by unfold marN; rw [h2]; rfl)
    have E2 := Lib.hid h2
    clear h hok h1 h2 hL
    go_enter Try.func23, Try.ntmps23
    go_wp2_with fail
    go_ret2
    rw [E.out, E2.out]
    exact ⟨rfl, Below.refl _ _⟩
  have hd : decide ((16 : Int) < (n : Int)) = false := decide_eq_false (by omega)
  have HR := Lib.hid fun (W : World) (q : Below w.heap.size w W) => (show EL.Rd W A n l from grd_below h q (Nat.le_refl _))
  have HK := Lib.hid hok
  have HL := Lib.hid hL
  have H16 := Lib.hid (show l.length ≤ 16 by omega)
  have hn16 : n ≤ 16 := by omega
  have MN : Hid (∀ e, marE l = e → e ≠ 0 → marN l = 0) := Lib.hid fun e h1 h2 => by unfold marN; rw [h1, if_neg h2]
  clear h hok hL h1
  go_enter Try.func23, Try.ntmps23
  go_wp2_with fail
  go_loopw [4] (fun i wr => ∃ k : Nat, k ≤ n ∧ i = .int .i64 k ∧ (∀ x, x ∈ l.take k → legB x = true) ∧ Below w.heap.size w wr) (fun i _ => n - (intOf i).toNat)
  case atStart => exact ⟨0, Nat.zero_le _, rfl, (fun x hx => by simp at hx), Below.refl _ _⟩
  case round =>
    obtain ⟨k, hk, rfl, ha, hb⟩ := hrel
    have HA := Lib.hid ha
    have HB := Lib.hid hb
    clear ha hb
    by_cases hlt : k < n
    case pos =>
      have hdk : decide ((k : Int) < n) = true := decide_eq_true (by omega)
      have hki : (k : Int) < (n : Int) := by omega
      obtain ⟨x, hx⟩ : ∃ x, l[k]? = some x := ⟨l[k]'(by have := HL.out; omega), List.getElem?_eq_getElem _⟩
      have OK := HK.out x (List.mem_of_getElem? hx)
      obtain ⟨bb, o, rfl, rg⟩ := grd_rng (HR.out wr HB.out) hx
      replace rg : wr.rangeAt bb (o + k * 26) (EL.cells x) := rg
      have RS := Lib.hid (rq_sp rg)
      have SL := Lib.hid x.len
      have MAY := Lib.hid (rmay_any x.sp wr OK.sp)
      have KQ := Lib.hid fun (W : World) (q : Below wr.heap.size wr W) => (show W.cell? ⟨bb, o + k * 26 + 25, none⟩ = some (.int .i64 x.q) from cell_below (rq_q rg) q (Nat.le_refl _))
      have HX := Lib.hid hx
      obtain ⟨q1, q2⟩ := OK.q
      have NB : Hid (legB x = false → marE l = 2) := Lib.hid fun hb => marE_bad H16.out HX.out hb
      have NY : Hid (legB x = true → ∀ y, y ∈ l.take (k + 1) → legB y = true) := Lib.hid fun hb y hy => by
        rw [take_l10 HX.out] at hy
        rcases List.mem_append.1 hy with h | h
        · exact HA.out y h
        · rw [List.mem_singleton.1 h]; exact hb
      have LB : Hid (legB x = (mayB x.sp && decide (-10000000 ≤ x.q ∧ x.q ≤ 10000000))) := Lib.hid rfl
      rw [LB.out] at NB NY
      obtain ⟨q, hq⟩ : ∃ q, x.q = q := ⟨_, rfl⟩
      rw [hq] at KQ q1 q2 NB NY
      clear hx rg OK hq LB
      obtain ⟨m, hm⟩ : ∃ m, mayB x.sp = m := ⟨_, rfl⟩
      rw [hm] at MAY NB NY
      clear hm
      cases m
      · have E2 := Lib.hid (NB.out rfl)
        go_wp2_with ((with_reducible refine wl_sp10 SL.out bb (o + k * 26) RS.out ?_ ?_ ?_); rfl; rfl)
        refine MAY.out.mono ?_; rintro e w2 ⟨rfl, qb⟩
        have QB := Lib.hid qb
        clear qb
        go_wp2_with fail
        go_ret2
        rw [MN.out _ E2.out (by decide), E2.out]
        exact ⟨rfl, HB.out.trans (QB.out.mono HB.out.size)⟩
      · by_cases c1 : 10000000 < q
        · have d1 : decide (10000000 < q) = true := decide_eq_true c1
          have E2 := Lib.hid (NB.out (by rw [decide_eq_false (by omega)]; rfl))
          go_wp2_with ((with_reducible refine wl_sp10 SL.out bb (o + k * 26) RS.out ?_ ?_ ?_); rfl; rfl)
          refine MAY.out.mono ?_; rintro e w2 ⟨rfl, qb⟩
          have kq := KQ.out w2 qb
          have QB := Lib.hid qb
          clear qb
          go_wp2_with fail
          go_ret2
          rw [MN.out _ E2.out (by decide), E2.out]
          exact ⟨rfl, HB.out.trans (QB.out.mono HB.out.size)⟩
        have d1 : decide (10000000 < q) = false := decide_eq_false c1
        by_cases c2 : q < -10000000
        · have d2 : decide (q < -10000000) = true := decide_eq_true c2
          have E2 := Lib.hid (NB.out (by rw [decide_eq_false (by omega)]; rfl))
          go_wp2_with ((with_reducible refine wl_sp10 SL.out bb (o + k * 26) RS.out ?_ ?_ ?_); rfl; rfl)
          refine MAY.out.mono ?_; rintro e w2 ⟨rfl, qb⟩
          have kq := KQ.out w2 qb
          have QB := Lib.hid qb
          clear qb
          go_wp2_with fail
          go_ret2
          rw [MN.out _ E2.out (by decide), E2.out]
          exact ⟨rfl, HB.out.trans (QB.out.mono HB.out.size)⟩
        have d2 : decide (q < -10000000) = false := decide_eq_false c2
        have N2 := Lib.hid (NY.out (by rw [decide_eq_true (by omega)]; rfl))
        go_wp2_with ((with_reducible refine wl_sp10 SL.out bb (o + k * 26) RS.out ?_ ?_ ?_); rfl; rfl)
        refine MAY.out.mono ?_; rintro e w2 ⟨rfl, qb⟩
        have kq := KQ.out w2 qb
        have QB := Lib.hid (HB.out.trans (qb.mono HB.out.size))
        clear qb
        go_wp2_with fail
        go_roundw
        case rel => exact ⟨k + 1, hlt, by go_num, N2.out, QB.out⟩
        case measure => simp [intOf]; omega
    case neg =>
      obtain rfl : k = n := by omega
      have ALL : Hid (∀ x, x ∈ l → legB x = true) := Lib.hid (by
        have := HA.out
        rwa [List.take_of_length_le (by rw [HL.out]; exact Nat.le_refl _)] at this)
      clear HA
      go_wp2_with fail
      go_loopw [5, 6] (fun i _ wr => ∃ j : Nat, j ≤ k ∧ i = .int .i64 j ∧ (l.take j).Pairwise (fun a b => a.sp.nu ≠ b.sp.nu) ∧ Below w.heap.size w wr) (fun i _ _ => k - (intOf i).toNat)
      case atStart => exact ⟨0, Nat.zero_le _, rfl, List.Pairwise.nil, HB.out⟩
      case round =>
        obtain ⟨j, hj, rfl, hp, hb⟩ := hrel
        have HP := Lib.hid hp
        have HB1 := Lib.hid hb
        clear hp hb
        by_cases hlt : j < k
        case pos =>
          have hdk : decide ((j : Int) < (k : Int)) = true := decide_eq_true (by omega)
          have hki : (j : Int) < (k : Int) := by omega
          obtain ⟨x, hx⟩ : ∃ x, l[j]? = some x := ⟨l[j]'(by have := HL.out; omega), List.getElem?_eq_getElem _⟩
          have HX := Lib.hid hx
          clear hx
          go_wp2_with fail
          go_loopw [6] (fun i wr => ∃ m : Nat, m ≤ j ∧ i = .int .i64 m ∧ (∀ y, y ∈ l.take m → y.sp.nu ≠ x.sp.nu) ∧ Below w.heap.size w wr) (fun i _ => j - (intOf i).toNat)
          case atStart => exact ⟨0, Nat.zero_le _, rfl, (fun y hy => by simp at hy), HB1.out⟩
          case round =>
            obtain ⟨m, hm, rfl, hq, hb⟩ := hrel
            have HQ := Lib.hid hq
            have HB2 := Lib.hid hb
            clear hq hb
            by_cases hlm : m < j
            case pos =>
              have hdm : decide ((m : Int) < (j : Int)) = true := decide_eq_true (by omega)
              have hmi : (m : Int) < (j : Int) := by omega
              have hmk : (m : Int) < (k : Int) := by omega
              obtain ⟨y, hy⟩ : ∃ y, l[m]? = some y := ⟨l[m]'(by have := HL.out; omega), List.getElem?_eq_getElem _⟩
              have RW := HR.out wr HB2.out
              obtain ⟨bb, o, rfl, rg⟩ := grd_rng RW HX.out
              obtain ⟨b2, o2, e0, rg2⟩ := grd_rng RW hy
              cases e0
              replace rg : wr.rangeAt bb (o + j * 26) (EL.cells x) := rg
              replace rg2 : wr.rangeAt bb (o + m * 26) (EL.cells y) := rg2
              have k1 := rq_nu rg
              have k2 := rq_nu rg2
              have HY := Lib.hid hy
              have DD : Hid (x.sp.nu = y.sp.nu → marE l = 8) := Lib.hid fun e => marE_dup H16.out ALL.out HX.out HY.out hlm e
              have DN : Hid (x.sp.nu ≠ y.sp.nu → ∀ z, z ∈ l.take (m + 1) → z.sp.nu ≠ x.sp.nu) := Lib.hid fun e z hz => by
                rw [take_l10 HY.out] at hz
                rcases List.mem_append.1 hz with h | h
                · exact HQ.out z h
                · rw [List.mem_singleton.1 h]; exact fun c => e c.symm
              obtain ⟨nx, hnx⟩ : ∃ nx, x.sp.nu = nx := ⟨_, rfl⟩
              obtain ⟨ny, hny⟩ : ∃ ny, y.sp.nu = ny := ⟨_, rfl⟩
              rw [hnx] at k1 DD DN
              rw [hny] at k2 DD DN
              have HNX := Lib.hid hnx
              clear RW rg rg2 hy hnx hny
              by_cases e : nx = ny
              · have ed : (nx == ny) = true := beq_iff_eq.2 e
                have E2 := Lib.hid (DD.out e)
                clear e
                go_wp2_with fail
                go_quiet (fail)
                go_wp2_with fail
                go_ret2
                rw [MN.out _ E2.out (by decide), E2.out]
                exact ⟨rfl, below_drewN HB2.out _⟩
              · have ed : (nx == ny) = false := beq_eq_false_iff_ne.2 e
                have N2 := Lib.hid (DN.out e)
                clear e
                go_wp2_with fail
                go_quiet (fail)
                go_wp2_with fail
                go_roundw
                case rel => exact ⟨m + 1, hlm, by go_num, by rw [HNX.out]; exact N2.out, below_drewN HB2.out _⟩
                case measure => simp [intOf]; omega
            case neg =>
              obtain rfl : m = j := by omega
              have PW : Hid ((l.take (m + 1)).Pairwise fun a b => a.sp.nu ≠ b.sp.nu) := Lib.hid (by
                rw [take_l10 HX.out]
                exact pw_snoc.2 ⟨HP.out, HQ.out⟩)
              go_wp2_with fail
              go_roundw
              case rel => exact ⟨m + 1, hlt, by go_num, PW.out, HB2.out⟩
              case measure => simp [intOf]; omega
        case neg =>
          obtain rfl : j = k := by omega
          have LB : Hid (LegsB l) := Lib.hid ⟨H16.out, ALL.out⟩
          have h2 : marE l = 0 := mar_ok' H16.out ALL.out (dup_iff.2 (by
            have := HP.out
            rwa [List.take_of_length_le (by rw [HL.out]; exact Nat.le_refl _)] at this))
          have E : Hid (marN l = marT l) := Lib.hid (by unfold marN; rw [h2]; rfl)
          have E2 := Lib.hid h2
          have AL := Lib.hid fun (W : World) (q : Below w.heap.size w W) (r : Int) (hr : 0 ≤ r ∧ r ≤ 255) => route10 A j c l r W (HR.out W q) LB.out HK.out hr
          clear h2
          go_wp2_with fail
          go_loopw [7, 8] (fun v i wr => ∃ (k : Nat) (m : Int), k ≤ 8 ∧ i = .int .u8 ((k : Int) + 1) ∧ v = .int .i64 m ∧ m = marU l k ∧ Below w.heap.size w wr) (fun _ i _ => 9 - (intOf i).toNat)
          case atStart => exact ⟨0, 0, Nat.zero_le _, rfl, rfl, rfl, HB1.out⟩
          case round =>
            obtain ⟨k, m, hk, rfl, rfl, hm, hb⟩ := hrel
            have HM := Lib.hid hm
            have HB3 := Lib.hid hb
            obtain ⟨m1, m2⟩ := marU_bd LB.out k
            rw [← hm] at m1 m2
            clear hm hb
            by_cases hlt : k < 8
            case neg =>
              obtain rfl : k = 8 := by omega
              go_wp2_with fail
              go_ret2
              rw [E.out, E2.out, HM.out]
              exact ⟨rfl, HB3.out⟩
            case pos =>
              have hdk : decide ((k : Int) + 1 ≤ 8) = true := decide_eq_true (by omega)
              have e8 : IntKind.u8.wrap ((k : Int) + 1 + 1) = (k : Int) + 1 + 1 := by rw [IntKind.wrap_u8]; omega
              have AX := Lib.hid (AL.out _ HB3.out ((k : Int) + 1) (by omega))
              have g0 := marR_bd LB.out ((k : Int) + 1)
              have g1 := scR_bd LB.out ((k : Int) + 1)
              obtain ⟨z, hz⟩ : ∃ z, marR ((k : Int) + 1) l = z := ⟨_, rfl⟩
              rw [hz] at AX g0
              have z1 : 0 ≤ z := by omega
              have z2 : z ≤ 1600000000000000 := by omega
              have M2 : Hid (m + z = marU l (k + 1)) := Lib.hid (by rw [HM.out, ← hz]; rfl)
              clear g0 g1 hz
              go_wp2_with fail
              refine AX.out.mono ?_; rintro e w4 ⟨rfl, q4⟩
              have B4 := Lib.hid (HB3.out.trans (q4.mono HB3.out.size))
              clear q4
              go_wp2_with fail
              go_roundw
              case rel => exact ⟨k + 1, _, hlt, by go_num, rfl, M2.out, B4.out⟩
              case measure => simp [intOf]; omega
end Go.Proofs.Ytcpcnjiphiokjaa
