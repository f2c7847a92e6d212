/- LedgerFrom: what From asks (plain); the program's numbersRise, placesRise. -/
import Derived.Test.YthnmpnepgagmmaaOd
import Derived.Test.YthnmpnepgagmmaaMq
import Derived.Test.YthnmpnepgagmmaaDe
namespace Go.Proofs.Ythnmpnepgagmmaa
open Go.RowKit Go.Shelf
set_option linter.unusedVariables false
set_option linter.unusedSimpArgs false

/-- Numbers rise, all above m. -/
def riseB (m : Int) : List Ac → Bool
  | [] => true
  | x :: t => decide (m < x.nu) && riseB x.nu t
/-- Does the later place follow? -/
def folB (p q : Po) : Bool := decide (p.co < q.co) || (decide (p.co = q.co) && decide (p.ac < q.ac))
def chB : Option Po → List Po → Bool
  | _, [] => true
  | none, x :: t => chB (some x) t
  | some p, x :: t => folB p x && chB (some x) t
theorem rise_lt : ∀ {al : List Ac} {m : Int}, riseB m al = true → ∀ x, x ∈ al → m < x.nu
  | [], _, _, x, hx => nomatch hx
  | y :: t, m, h, x, hx => by
    simp only [riseB, Bool.and_eq_true, decide_eq_true_eq] at h
    rcases List.mem_cons.1 hx with rfl | hx
    · exact h.1
    · have := rise_lt h.2 x hx; omega
theorem rise_srt : ∀ {al : List Ac} {m : Int}, riseB m al = true → SrtA al
  | [], _, _ => List.Pairwise.nil
  | y :: t, m, h => by
    simp only [riseB, Bool.and_eq_true, decide_eq_true_eq] at h
    exact List.Pairwise.cons (fun x hx => rise_lt h.2 x hx) (rise_srt h.2)
theorem fol_lt {p q : Po} : folB p q = true ↔ ltP p q := by
  unfold folB ltP
  simp [Bool.or_eq_true, Bool.and_eq_true]
theorem ch_lt : ∀ {hl : List Po} {p : Po}, chB (some p) hl = true → ∀ x, x ∈ hl → ltP p x
  | [], _, _, x, hx => nomatch hx
  | y :: t, p, h, x, hx => by
    simp only [chB, Bool.and_eq_true] at h
    have h1 := fol_lt.1 h.1
    rcases List.mem_cons.1 hx with rfl | hx
    · exact h1
    · have h2 := ch_lt h.2 x hx
      unfold ltP at *; omega
theorem ch_srt' : ∀ {hl : List Po} {p : Po}, chB (some p) hl = true → SrtP hl
  | [], _, _ => List.Pairwise.nil
  | y :: t, p, h => by
    simp only [chB, Bool.and_eq_true] at h
    exact List.Pairwise.cons (fun x hx => ch_lt h.2 x hx) (ch_srt' h.2)
theorem ch_srt : ∀ {hl : List Po}, chB none hl = true → SrtP hl
  | [], _ => List.Pairwise.nil
  | y :: t, h => List.Pairwise.cons (fun x hx => ch_lt (h : chB (some y) t = true) x hx) (ch_srt' (h : chB (some y) t = true))
theorem drop_at {α : Type} {l : List α} {k : Nat} {x : α} (h : l[k]? = some x) : l.drop k = x :: l.drop (k + 1) := by
  obtain ⟨hk, e⟩ := List.getElem?_eq_some_iff.1 h
  rw [← e]; exact List.drop_eq_getElem_cons hk
set_option maxRecDepth 100000 in
set_option maxHeartbeats 4000000 in
theorem lnr9 (A : Option Addr) (n c : Nat) (al : List Ac) (w : World) (h : EA.Rd w A n al) (hn : n ≤ 100) :
    Calls Try.prog 46 #[.slice A n c] w fun e w' => e = .returned (.bool (riseB 0 al)) ∧ Below w.heap.size w w' := by
  have HR := Lib.hid h
  have hz := zero_ac
  have HN : Hid (al.length = n) := Lib.hid h.1
  obtain ⟨r, hr⟩ : ∃ r, riseB 0 al = r := ⟨_, rfl⟩
  rw [hr]
  have HRR := Lib.hid hr
  clear h hr
  go_enter Try.func46, Try.ntmps46
  go_wp2_with fail
  go_loopw [3, 8] (fun last i wr => ∃ (k : Nat) (m : Int), k ≤ n ∧ i = .int .i64 k ∧ last = .int .u32 m ∧ r = riseB m (al.drop k) ∧ Below w.heap.size w wr) (fun _ i _ => n - (intOf i).toNat)
  case atStart => exact ⟨0, 0, Nat.zero_le _, rfl, rfl, HRR.out.symm, Below.refl _ _⟩
  case round =>
    obtain ⟨k, m, hk, rfl, rfl, hm, hB⟩ := hrel
    have HM := Lib.hid hm
    have HB := Lib.hid hB
    clear hm hB
    by_cases hlt : k < n
    case neg =>
      obtain rfl : k = n := by omega
      have hd : decide ((k : Int) < (k : Int)) = false := by simp
      have E : Hid (r = true) := Lib.hid (by rw [HM.out, List.drop_of_length_le (by rw [HN.out]; exact Nat.le_refl _)]; rfl)
      go_wp2_with fail
      go_ret
      rw [E.out]
      exact ⟨rfl, HB.out⟩
    case pos =>
      have hd : decide ((k : Int) < n) = true := decide_eq_true (by omega)
      have hki : (k : Int) < (n : Int) := by omega
      have wk : wrap64 ((k : Int) + 1) = (k : Int) + 1 := by unfold wrap64; omega
      obtain ⟨x, hx⟩ : ∃ x, al[k]? = some x := ⟨al[k]'(by have := HN.out; omega), List.getElem?_eq_getElem _⟩
      obtain ⟨b, o, rfl, rg⟩ := grd_rng HR.out hx
      have RG : Hid (wr.rangeAt b (o + k * 4) (EA.cells x)) := Lib.hid (rng_below rg HB.out (Nat.le_refl _))
      have HX : Hid (r = (decide (m < x.nu) && riseB x.nu (al.drop (k + 1)))) := Lib.hid (by rw [HM.out, drop_at hx]; rfl)
      obtain ⟨W1, hW1, b1, z1⟩ := newA9 wr
      obtain ⟨W2, hW2⟩ : ∃ W2, W1.setRow wr.heap.size (EA.cells x).toArray = W2 := ⟨_, rfl⟩
      have Z1 := Lib.hid z1
      have HW1 := Lib.hid hW1
      have HW2 := Lib.hid hW2
      have x2 : EA.Bx 33 W2 wr.heap.size x := hW2 ▸ gbx_set z1
      have B2 : Hid (Below wr.heap.size wr W2) := Lib.hid (by rw [← hW2]; exact below_row0 b1 (Nat.le_refl _))
      have k0 : W2.cell? ⟨wr.heap.size, 0, none⟩ = some (.int .u32 x.nu) := gbx_cell x2 0
      obtain ⟨nu, hnu⟩ : ∃ nu, x.nu = nu := ⟨_, rfl⟩
      rw [hnu] at k0 HX
      clear hx rg hW1 hW2 z1 x2 b1 hnu
      by_cases hc : m < nu
      · have hc2 : decide (nu ≤ m) = false := decide_eq_false (by omega)
        have E : Hid (r = riseB nu (al.drop (k + 1))) := Lib.hid (by rw [HX.out, decide_eq_true hc, Bool.true_and])
        go_wp2_with (first | ((with_reducible refine gwl_load TA b (o + k * 4) RG.out ?_ ?_ ?_); rfl; rfl) | (rw [HW1.out]; refine gwl_store TA x wr.heap.size Z1.out rfl rfl ?_; rw [HW2.out]))
        go_roundw
        case rel => exact ⟨k + 1, nu, hlt, by go_num, rfl, E.out, HB.out.trans (B2.out.mono HB.out.size)⟩
        case measure => simp only [intOf]; omega
      · have hc2 : decide (nu ≤ m) = true := decide_eq_true (by omega)
        have E : Hid (r = false) := Lib.hid (by rw [HX.out, decide_eq_false hc, Bool.false_and])
        go_wp2_with (first | ((with_reducible refine gwl_load TA b (o + k * 4) RG.out ?_ ?_ ?_); rfl; rfl) | (rw [HW1.out]; refine gwl_store TA x wr.heap.size Z1.out rfl rfl ?_; rw [HW2.out]))
        go_ret
        rw [E.out]
        exact ⟨rfl, HB.out.trans (B2.out.mono HB.out.size)⟩
end Go.Proofs.Ythnmpnepgagmmaa
