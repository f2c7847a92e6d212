/- The statements' 'uncrossed' of stage 7; no function of the program's. -/
import Derived.BigQuiet
import Derived.Test.YtdcjgcjnfcahkaaHYe
namespace Go.Proofs.Ytdcjgcjnfcahkaa
open Go.RowKit Go.Shelf
set_option linter.unusedVariables false
set_option linter.unusedSimpArgs false

set_option maxRecDepth 100000 in
set_option maxHeartbeats 4000000 in
theorem uncr7_any {w : World} {B : Nat} {A : Option Addr} {n c : Nat} {l : List Or} (h : EO.Own 31 w B (.slice A n c) l) (hu : ∀ x y, x ∈ l → y ∈ l → x.bu = true → y.bu = false → y.pr ≤ x.pr → x.ac = y.ac) (hlen : l.length ≤ 200) :
    Calls Try.prog 26 #[.slice A n c] w fun e w' => e = .returned (.bool true) ∧ Below w.heap.size w w' := by
  have en : n = l.length := by
    obtain ⟨A', c', e, _⟩ := gown_form h
    injection e
  subst en
  have OW := Lib.hid h
  have HU := Lib.hid hu
  obtain ⟨m, hm⟩ : ∃ m, l.length = m := ⟨_, rfl⟩
  have HL := Lib.hid hm
  rw [hm] at hlen OW ⊢
  have B0 : Hid (Below w.heap.size w w) := Lib.hid (Below.refl _ _)
  clear h hu hm
  go_enter Try.func26, Try.ntmps26
  go_wp2_with fail
  go_loopw [7] (fun i wr => ∃ k : Nat, k ≤ m ∧ i = .int .i64 k ∧ Below w.heap.size w wr) (fun i _ => m - (intOf i).toNat)
  case atStart => exact ⟨0, Nat.zero_le _, rfl, B0.out⟩
  case round =>
    obtain ⟨k, hk, rfl, hb⟩ := hrel
    have BW := Lib.hid hb
    clear hb
    by_cases hlt : k < m
    case neg =>
      obtain rfl : k = m := by omega
      have hd : decide ((k : Int) < k) = false := decide_eq_false (by omega)
      go_wp2_with fail
      go_ret
      exact ⟨rfl, BW.out⟩
    case pos =>
      have hd : decide ((k : Int) < m) = true := decide_eq_true (by omega)
      have hki : (k : Int) < (m : Int) := by omega
      obtain ⟨x, hx⟩ : ∃ x, l[k]? = some x := ⟨l[k]'(by rw [HL.out]; exact hlt), List.getElem?_eq_getElem _⟩
      have HX := Lib.hid hx
      clear hx
      go_wp2_with fail
      go_loopw [12] (fun i wr2 => ∃ j : Nat, j ≤ m ∧ i = .int .i64 j ∧ Below w.heap.size w wr2) (fun i _ => m - (intOf i).toNat)
      case atStart => exact ⟨0, Nat.zero_le _, rfl, BW.out⟩
      case round =>
        obtain ⟨j, hj, rfl, hb⟩ := hrel
        have BW2 := Lib.hid hb
        clear hb
        by_cases hlt2 : j < m
        case neg =>
          obtain rfl : j = m := by omega
          have hd2 : decide ((j : Int) < j) = false := decide_eq_false (by omega)
          go_wp2_with fail
          go_roundw
          case rel => exact ⟨k + 1, hlt, by go_num, BW2.out⟩
          case measure => simp [intOf]; omega
        case pos =>
          have hd2 : decide ((j : Int) < m) = true := decide_eq_true (by omega)
          have hji : (j : Int) < (m : Int) := by omega
          obtain ⟨y, hy⟩ : ∃ y, l[j]? = some y := ⟨l[j]'(by rw [HL.out]; exact hlt2), List.getElem?_eq_getElem _⟩
          have own := gown_below OW.out BW2.out
          rw [← HL.out] at own
          obtain ⟨b, c', eb⟩ := gown_slot own (by have := HL.out; omega)
          injection eb with e1 e9 e2
          clear e9
          subst e1 e2
          have x1 : wr.cell? ⟨b, k * 5 + 1, none⟩ = some (.int .u32 x.ac) := gown_at own HX.out (i := 1) (by decide)
          have x2 : wr.cell? ⟨b, k * 5 + 2, none⟩ = some (.bool x.bu) := gown_at own HX.out (i := 2) (by decide)
          have x3 : wr.cell? ⟨b, k * 5 + 3, none⟩ = some (.int .i64 x.pr) := gown_at own HX.out (i := 3) (by decide)
          have y1 : wr.cell? ⟨b, j * 5 + 1, none⟩ = some (.int .u32 y.ac) := gown_at own hy (i := 1) (by decide)
          have y2 : wr.cell? ⟨b, j * 5 + 2, none⟩ = some (.bool y.bu) := gown_at own hy (i := 2) (by decide)
          have y3 : wr.cell? ⟨b, j * 5 + 3, none⟩ = some (.int .i64 y.pr) := gown_at own hy (i := 3) (by decide)
          have KEY := HU.out x y (List.mem_of_getElem? HX.out) (List.mem_of_getElem? hy)
          generalize x.ac = xa at *
          generalize x.bu = xb at *
          generalize x.pr = xp at *
          generalize y.ac = ya at *
          generalize y.bu = yb at *
          generalize y.pr = yp at *
          have KY := Lib.hid KEY
          clear own hy KEY
          have F : xb = false ∨ (xb = true ∧ yb = true) ∨ (xb = true ∧ yb = false ∧ decide (yp ≤ xp) = false) ∨ (xb = true ∧ yb = false ∧ decide (yp ≤ xp) = true ∧ (xa == ya) = true) := by
            cases xb
            · exact .inl rfl
            · cases yb
              · cases c : decide (yp ≤ xp)
                · exact .inr (.inr (.inl ⟨rfl, rfl, rfl⟩))
                · exact .inr (.inr (.inr ⟨rfl, rfl, rfl, beq_iff_eq.2 (KY.out rfl rfl (of_decide_eq_true c))⟩))
              · exact .inr (.inl ⟨rfl, rfl⟩)
          clear KY
          rcases F with rfl | ⟨rfl, rfl⟩ | ⟨rfl, rfl, f3⟩ | ⟨rfl, rfl, f3, f4⟩
          all_goals
            go_wp2_with fail
            go_quiet (fail)
            go_wp2_with fail
            go_roundw
            case rel => exact ⟨j + 1, hlt2, by go_num, below_drewN BW2.out _⟩
            case measure => simp [intOf]; omega
theorem uncr_of {S : Sd} (h : InvB S) : ∀ x y, x ∈ S.all → y ∈ S.all → x.bu = true → y.bu = false → y.pr ≤ x.pr → x.ac = y.ac := by
  intro x y hx hy bx by' hp
  have hx' : x ∈ S true := by
    rcases List.mem_append.1 hx with q | q
    · exact q
    · rw [((h.inv false).may x q).2] at bx; cases bx
  have hy' : y ∈ S false := by
    rcases List.mem_append.1 hy with q | q
    · rw [((h.inv true).may y q).2] at by'; cases by'
    · exact q
  by_cases c : x.ac = y.ac
  · exact c
  · have := (h.cross true x hx' y hy').2 c
    simp [btr] at this
    omega
end Go.Proofs.Ytdcjgcjnfcahkaa
