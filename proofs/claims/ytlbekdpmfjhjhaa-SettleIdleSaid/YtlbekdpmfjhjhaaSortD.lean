/- The contract of the symmetric merge inside slices.SortStableFunc, over a row of places: two runs that are in order become one, and all other memory stays as it was. Conditions: the runs lie within the row, the right one's numbers above the left one's. -/
import Derived.Test.YtlbekdpmfjhjhaaSortC
import Derived.Deep.Cut
namespace Go.Proofs.Ytlbekdpmfjhjhaa
open Go.RowKit Go.Sort

set_option maxRecDepth 100000 in
set_option maxHeartbeats 2000000 in
theorem sym_any (w : World) (blk off N cap K : Nat) (hB : Ba w blk off N) (hN : N < 4611686018427387904) (key : Int → Int) (q : Addr) (C : Cp w blk off N key K q) : ∀ (D a m b : Nat) (f : Nat → Int) (W : World), b - a ≤ D → On w blk off N f W →
    Al N K f → a < m → m < b → b ≤ N → St.So key f a m → St.So key f m b → St.Cr f a m b →
    Calls Try.prog 50 #[.slice (some ⟨blk, off, none⟩) N cap, .int .i64 a, .int .i64 m, .int .i64 b, .func (.func 42) #[] #[.pointer (some q)]] W fun e w' => e = .returned (.tuple #[]) ∧ ∃ g, On w blk off N g w' ∧ St.Mg key f g a b := by
  intro D
  induction D with
  | zero => intro a m b f W hD _ _ h1 h2; omega
  | succ D ih =>
  intro a m b f W hD hO hA h1 h2 h3 hS1 hS2 hC
  by_cases c1 : m = a + 1
  · subst c1
    exact sym_first w blk off N cap K hB hN key q C a b f W hO hA h2 h3 hS2 hC _ (by omega)
  by_cases c2 : b = m + 1
  · subst c2
    exact sym_last w blk off N cap K hB hN key q C a m f W hO hA (by omega) h3 hS1 hC _ (by omega)
  have HS1 := Lib.hid hS1
  have HS2 := Lib.hid hS2
  have HC := Lib.hid hC
  have IH := Lib.hid ih
  clear hS1 hS2 hC ih
  have hne : ¬ ((m : Int) - a = 1) := by omega
  have hne2 : ¬ ((b : Int) - m = 1) := by omega
  obtain ⟨mid, hmid⟩ : ∃ mid : Nat, ((a : Int) + b) / 2 = mid := ⟨(a + b) / 2, by omega⟩
  have m1 : 2 * mid ≤ a + b := by omega
  have m2 : a + b ≤ 2 * mid + 1 := by omega
  obtain ⟨lo, hi, l1, l2, l3, l4, l5, l6, hcase⟩ : ∃ lo hi : Nat, a ≤ lo ∧ lo ≤ hi ∧ hi ≤ m ∧ mid + m ≤ lo + b ∧ m + hi ≤ mid + m ∧ (hi < m → hi = mid) ∧ ((mid < m ∧ (lo : Int) = mid + m - b ∧ hi = mid) ∨ (¬ mid < m ∧ lo = a ∧ hi = m)) := by
    by_cases hm : mid < m
    · exact ⟨mid + m - b, mid, by omega, by omega, by omega, by omega, by omega, fun _ => rfl, .inl ⟨hm, by omega, rfl⟩⟩
    · exact ⟨a, m, by omega, by omega, by omega, by omega, by omega, fun h => by omega, .inr ⟨hm, rfl, rfl⟩⟩
  go_enter Try.func50, Try.ntmps50
  go_upto_if 140 with fail
  go_cut [20, 21] from 141 (fun x y wx => x = .int .i64 lo ∧ y = .int .i64 hi ∧ wx = W)
  case first =>
    rcases hcase with ⟨hm, k1, k2⟩ | ⟨hm, k1, k2⟩
    · go_wp2
      go_meet
      case rel => exact ⟨by rw [k1], by rw [k2], rfl⟩
    · go_wp2
      go_meet
      case rel => exact ⟨by rw [k1], by rw [k2], rfl⟩
  case rest =>
    obtain ⟨rfl, rfl, rfl⟩ := hcut
    obtain ⟨P, hP⟩ : ∃ P : Nat, (mid : Int) + m - 1 = P := ⟨mid + m - 1, by omega⟩
    have HCase := Lib.hid hcase
    clear hcase
    go_wp2
    go_loopw [20, 21] (fun vi vj wr => ∃ i j : Nat, vi = .int .i64 i ∧ vj = .int .i64 j ∧ lo ≤ i ∧ i ≤ j ∧ j ≤ hi ∧ On w blk off N f wr ∧ (lo < i → St.lt key (f (i - 1)) (f (mid + m - i))) ∧ (j < hi → St.lt key (f (mid + m - 1 - j)) (f j))) (fun vi vj _ => (intOf vj).toNat - (intOf vi).toNat)
    case atStart => exact ⟨lo, hi, rfl, rfl, Nat.le_refl _, l2, Nat.le_refl _, hO, fun h => absurd h (Nat.lt_irrefl _), fun h => absurd h (Nat.lt_irrefl _)⟩
    case round =>
      obtain ⟨i, j, rfl, rfl, hai, hij, hjb, hR, hi1, hj1⟩ := hrel
      clear hO
      by_cases hlt : i < j
      · obtain ⟨h, hh⟩ : ∃ h : Nat, ((i : Int) + j) / 2 = h := ⟨(i + j) / 2, by omega⟩
        have g1 : i ≤ h := by omega
        have g2 : h < j := by omega
        obtain ⟨pc, hpc⟩ : ∃ pc : Nat, (P : Int) - h = pc := ⟨P - h, by omega⟩
        have g3 : m ≤ pc := by omega
        have g4 : pc < b := by omega
        have hc := hR.cell hB
        obtain ⟨c, hcm⟩ : ∃ c, cm key (f pc) (f h) = c := ⟨_, rfl⟩
        have hcb := cm_bd key (f pc) (f h)
        have CC := Lib.hid fun n => cp_call C hR hA n (i := pc) (j := h) (by omega) (by omega) hcm
        have LT := Lib.hid (cm_lt (key := key) (x := f pc) (y := f h))
        rw [hcm] at hcb LT
        clear hcm
        have HJ := Lib.hid hj1
        have HI := Lib.hid hi1
        have HR := Lib.hid hR
        clear hi1 hj1 hR
        cases hk : decide (c < 0)
        · have L := Lib.hid (St.lt_no (key := key) (HC.out h pc (by omega) (by omega) (by omega) (by omega)) fun h4 => by
            have := LT.out.2 h4
            simp at hk
            omega)
          rw [show pc = mid + m - (h + 1) by omega] at L
          go_wp2
          go_quiet (first | (go_at_call 42; exact CC.out _))
          go_wp2
          go_roundw
          case rel => exact ⟨h + 1, j, by go_num, rfl, by omega, by omega, by omega, HR.out.drewN _, fun _ => L.out, HJ.out⟩
          case measure => simp [intOf]; omega
        · have L := Lib.hid (St.lt_yes (key := key) (LT.out.1 (of_decide_eq_true hk)))
          rw [show pc = mid + m - 1 - h by omega] at L
          go_wp2
          go_quiet (first | (go_at_call 42; exact CC.out _))
          go_wp2
          go_roundw
          case rel => exact ⟨i, h, rfl, rfl, by omega, by omega, by omega, HR.out.drewN _, HI.out, fun _ => L.out⟩
          case measure => simp [intOf]; omega
      · obtain rfl : i = j := by omega
        obtain ⟨e, he⟩ : ∃ e : Nat, (mid : Int) + m - i = e := ⟨mid + m - i, by omega⟩
        have H1 : Hid (a < i → e < b → St.lt key (f (i - 1)) (f e)) := Lib.hid fun u1 u2 => by
          rw [show e = mid + m - i by omega]
          exact hi1 (by rcases HCase.out with ⟨_, _, _⟩ | ⟨_, _, _⟩ <;> omega)
        have H2 : Hid (m < e → i < m → St.lt key (f (e - 1)) (f i)) := Lib.hid fun u1 u2 => by
          rw [show e - 1 = mid + m - 1 - i by omega]
          exact hj1 (by rcases HCase.out with ⟨_, _, _⟩ | ⟨_, _, _⟩ <;> omega)
        clear hi1 hj1
        have k1 : a ≤ i := by omega
        have k2 : i ≤ m := by omega
        have k3 : m ≤ e := by rcases HCase.out with ⟨_, _, _⟩ | ⟨_, _, _⟩ <;> omega
        have k4 : e ≤ b := by omega
        have hmm : i + (e - m) = mid := by omega
        have hAr := hA.rot (a := i) (m := m) (b := e) k2 k3 (by omega)
        have L1 := Lib.hid (St.so_rot1 (e := e) HS1.out k2)
        have L2 := Lib.hid (St.so_rot2 (HS2.out.part (Nat.le_refl _) k4) k2 k3)
        have L3 := Lib.hid (St.cr_left HC.out k2 k3 k4)
        have R1 := Lib.hid (St.so_rot3 (HS1.out.part k1 (Nat.le_refl _)) k3)
        have R2 := Lib.hid (St.so_rot4 (s := i) HS2.out k3)
        have R3 := Lib.hid (St.cr_right HC.out k1 k3)
        have MM : Hid (∀ g h, St.Mg key (St.rot i m e f) g a (i + (e - m)) → St.Mg key g h (i + (e - m)) b → St.Mg key f h a b) :=
          Lib.hid fun g h x y => St.merged k1 k2 k3 k4 H1.out H2.out HS1.out HS2.out x y
        obtain ⟨F, hF⟩ : ∃ F, St.rot i m e f = F := ⟨_, rfl⟩
        have HF := Lib.hid hF
        rw [hmm, hF] at L2 L3 R1 R3 MM
        rw [hF] at hAr L1 R2
        obtain ⟨t, ht⟩ : ∃ t : Bool, decide (i < m ∧ m < e) = t := ⟨_, rfl⟩
        obtain ⟨t2, ht2⟩ : ∃ t : Bool, decide (a < i ∧ i < mid) = t := ⟨_, rfl⟩
        obtain ⟨t3, ht3⟩ : ∃ t : Bool, decide (mid < e ∧ e < b) = t := ⟨_, rfl⟩
        have T2 := Lib.hid ht2
        have T3 := Lib.hid ht3
        clear ht2 ht3
        go_upto_region 39 with fail
        go_cut [24, 185] from 186 (fun x y wx => x = .int .i64 e ∧ y = .bool t ∧ wx = wr)
        case first =>
          by_cases d1 : i < m
          · by_cases d2 : m < e
            · go_wp2_with fail
              go_meet
              case rel => exact ⟨rfl, by rw [← ht]; simp [d1, d2], rfl⟩
            · go_wp2_with fail
              go_meet
              case rel => exact ⟨rfl, by rw [← ht]; simp [d2], rfl⟩
          · go_wp2_with fail
            go_meet
            case rel => exact ⟨rfl, by rw [← ht]; simp [d1], rfl⟩
        case rest =>
        obtain ⟨rfl, rfl, rfl⟩ := hcut
        go_upto_if 185 with fail
        go_cut [24] from 25 (fun x wx => x = .int .i64 e ∧ On w blk off N F wx)
        case first =>
          cases t
          · have hFf : F = f := by
              rw [← hF]
              have h := of_decide_eq_false ht
              by_cases d1 : i < m
              · rw [show e = m by omega]; exact St.rot_none2 _ _ _
              · rw [show i = m by omega]; exact St.rot_none1 _ _ _ k3
            go_wp2_with fail
            go_meet
            case rel => exact ⟨rfl, by rw [hFf]; exact hR⟩
          · have h := of_decide_eq_true ht
            go_wp2_with fail
            refine (rotate_any w blk off N cap hB hN _ i m e f _ hR h.1 h.2 (by omega)).mono ?_; rintro x w1 ⟨rfl, hR1⟩
            rw [hF] at hR1
            go_wp2_with fail
            go_meet
            case rel => exact ⟨rfl, hR1⟩
        case rest =>
        obtain ⟨rfl, hR1⟩ := hcut
        clear hR hF ht
        have ht2 := T2.out
        clear T2
        go_upto_region 41 with fail
        go_cut [24, 199] from 200 (fun x y wx => x = .int .i64 e ∧ y = .bool t2 ∧ wx = wc)
        case first =>
          by_cases d1 : a < i
          · by_cases d2 : i < mid
            · go_wp2_with fail
              go_meet
              case rel => exact ⟨rfl, by rw [← ht2]; simp [d1, d2], rfl⟩
            · go_wp2_with fail
              go_meet
              case rel => exact ⟨rfl, by rw [← ht2]; simp [d2], rfl⟩
          · go_wp2_with fail
            go_meet
            case rel => exact ⟨rfl, by rw [← ht2]; simp [d1], rfl⟩
        case rest =>
        obtain ⟨rfl, rfl, rfl⟩ := hcut
        go_upto_if 199 with fail
        go_cut [24] from 25 (fun x wx => x = .int .i64 e ∧ ∃ g, On w blk off N g wx ∧ St.Mg key F g a mid)
        case first =>
          cases t2
          · have h := of_decide_eq_false ht2
            have Z := St.Mg.none L1.out L2.out k1 (by omega) h
            go_wp2_with fail
            go_meet
            case rel => exact ⟨rfl, F, hR1, Z⟩
          · have h := of_decide_eq_true ht2
            go_wp2_with fail
            refine (IH.out a i mid F _ (by omega) hR1 hAr h.1 h.2 (by omega) L1.out L2.out L3.out).mono ?_; rintro x w1 ⟨rfl, g, hR2, hM2⟩
            go_wp2_with fail
            go_meet
            case rel => exact ⟨rfl, g, hR2, hM2⟩
        case rest =>
        obtain ⟨rfl, g, hR2, hM2⟩ := hcut
        clear hR1 ht2
        have HM2 := Lib.hid hM2
        clear hM2
        have ht3 := T3.out
        clear T3
        go_upto_region 43 with fail
        go_cut [24, 213] from 214 (fun x y wx => x = .int .i64 e ∧ y = .bool t3 ∧ wx = wc)
        case first =>
          by_cases d1 : mid < e
          · by_cases d2 : e < b
            · go_wp2_with fail
              go_meet
              case rel => exact ⟨rfl, by rw [← ht3]; simp [d1, d2], rfl⟩
            · go_wp2_with fail
              go_meet
              case rel => exact ⟨rfl, by rw [← ht3]; simp [d2], rfl⟩
          · go_wp2_with fail
            go_meet
            case rel => exact ⟨rfl, by rw [← ht3]; simp [d1], rfl⟩
        case rest =>
        obtain ⟨rfl, rfl, rfl⟩ := hcut
        have hk : ∀ k, mid ≤ k → k < b → g k = F k := fun k hk _ => HM2.out.1 k (.inr hk)
        have Q1 := Lib.hid (R1.out.like fun k x y => hk k x (by omega))
        have Q2 := Lib.hid (R2.out.like fun k x y => hk k (by omega) y)
        have Q3 := Lib.hid (R3.out.like hk)
        have hAg := hAr.mg HM2.out (by omega)
        clear hk
        cases t3
        · have h := of_decide_eq_false ht3
          have Z := St.Mg.none Q1.out Q2.out (by omega) k4 h
          go_wp2_with fail
          go_end0
          exact ⟨rfl, g, hR2, MM.out g g HM2.out Z⟩
        · have h := of_decide_eq_true ht3
          go_wp2_with fail
          refine (IH.out mid e b g _ (by omega) hR2 hAg h.1 h.2 h3 Q1.out Q2.out Q3.out).mono ?_; rintro x w1 ⟨rfl, g', hR3, hM3⟩
          go_wp2_with fail
          go_end0
          exact ⟨rfl, g', hR3, MM.out g g' HM2.out hM3⟩
end Go.Proofs.Ytlbekdpmfjhjhaa
