/- The document's has: is a letter among those of a text? -/
import Derived.Test.YtbmlpokkojhhjaaGreatG03
namespace Go.Proofs.YtbmlpokkojhhjaaGreat
open Go.RowKit
set_option linter.unusedVariables false
set_option linter.unusedSimpArgs false

def hasB (l : List Nat) (x : Int) : Bool := l.any fun c => decide ((c : Int) = x)
def txB (l : List Nat) : ByteArray := ⟨(l.map UInt8.ofNat).toArray⟩
set_option maxRecDepth 100000 in
theorem rhas15 (l : List Nat) (hl : ∀ c, c ∈ l → c < 256) (hn : l.length ≤ 100) (x : Int) (w : World) : Calls Tryz.prog 73 #[.string (txB l), .int .u8 x] w fun e w' => e = .returned (.bool (hasB l x)) ∧ w = w' := by
  have sz : (txB l).size = l.length := by simp [txB, ByteArray.size]
  have HL := Lib.hid hl
  obtain ⟨s, hs⟩ : ∃ s, txB l = s := ⟨_, rfl⟩
  have HS := Lib.hid hs
  rw [hs] at sz ⊢
  clear hl hs
  go_enter Tryz.func73, Tryz.ntmps73
  go_wp2_with fail
  go_loopw [5] (fun i wr => ∃ k : Nat, k ≤ l.length ∧ i = .int .i64 k ∧ hasB (l.take k) x = false ∧ w = wr) (fun i _ => l.length - (intOf i).toNat)
  case atStart => exact ⟨0, Nat.zero_le _, rfl, rfl, rfl⟩
  case round =>
    obtain ⟨k, hk, rfl, hb, rfl⟩ := hrel
    have HB := Lib.hid hb
    clear hb
    by_cases hlt : k < l.length
    case neg =>
      obtain rfl : k = l.length := by omega
      have ET : Hid (hasB l x = false) := Lib.hid (by have := HB.out; rwa [List.take_length] at this)
      go_wp2_with fail
      go_ret
      rw [ET.out]
      exact ⟨rfl, rfl⟩
    case pos =>
      obtain ⟨c, hc⟩ : ∃ c, l[k]? = some c := ⟨l[k], List.getElem?_eq_getElem hlt⟩
      have c0 := HL.out c (List.mem_of_getElem? hc)
      have SN : Hid (hasB (l.take (k + 1)) x = decide ((c : Int) = x)) := Lib.hid (by
        have e : l.take (k + 1) = l.take k ++ [c] := by
          rw [List.take_succ_eq_append_getElem hlt]
          rw [List.getElem?_eq_getElem hlt] at hc
          cases hc; rfl
        have hb := HB.out
        unfold hasB at hb ⊢
        rw [e, List.any_append, hb]
        simp)
      have HT : Hid (decide ((c : Int) = x) = true → hasB l x = true) := Lib.hid fun h => List.any_eq_true.2 ⟨c, List.mem_of_getElem? hc, h⟩
      have hki : (k : Int) < (l.length : Int) := by omega
      have hdk : decide ((k : Int) < (l.length : Int)) = true := decide_eq_true hki
      have e1 : s.data[k]? = some (UInt8.ofNat c) := by
        rw [← HS.out]
        unfold txB
        simp [hc]
      have gx : ∀ h : k < s.size, (s[k]'h).toNat = c := fun h => by
        have e2 : s.data[k]? = some (s[k]'h) := Array.getElem?_eq_getElem (xs := s.data) h
        rw [e1] at e2
        rw [← Option.some.inj e2]
        simp
        omega
      have hks : (k : Int) < (s.size : Int) := by omega
      have hks2 : k < s.size := by omega
      clear hc e1
      by_cases t : (c : Int) = x
      · have e_t : ((c : Int) == x) = true := by simp [t]
        have FT := Lib.hid (HT.out (decide_eq_true t))
        clear t
        go_wp2_with fail
        go_ret
        rw [FT.out]
        exact ⟨rfl, rfl⟩
      · have e_t : ((c : Int) == x) = false := by simp [t]
        have FN : Hid (hasB (l.take (k + 1)) x = false) := Lib.hid (SN.out.trans (decide_eq_false t))
        clear t
        go_wp2_with fail
        go_roundw
        case rel => exact ⟨k + 1, hlt, by go_num, FN.out, trivial⟩
        case measure => simp [intOf]; omega
end Go.Proofs.YtbmlpokkojhhjaaGreat
