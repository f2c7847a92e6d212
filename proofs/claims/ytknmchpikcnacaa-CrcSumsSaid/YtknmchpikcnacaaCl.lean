/- The contract of the statements' own joining of parts ('all'), and plain facts for CrcSums. -/
import Derived.Test.YtknmchpikcnacaaCk
namespace Go.Proofs.Ytknmchpikcnacaa
open Go.RowKit

/-- What 'all' tells: the joined bytes and whether there are at most 1000 parts; or none, if there are more than 20000 bytes. -/
def AllE (w : World) (m : Nat) (ps : List Pt) (e : Ending) (W : World) : Prop :=
  (20000 < (cat ps).length ∧ e = .returned (.tuple #[.slice none 0 0, .bool false]) ∧ Below w.heap.size w W) ∨
  ((cat ps).length ≤ 20000 ∧ ∃ v, e = .returned (.tuple #[v, .bool (decide ((m : Int) ≤ 1000))]) ∧ New w W v (cat ps))

set_option maxRecDepth 100000 in
theorem all_parts (A : Option Addr) (m c : Nat) (ps : List Pt) (w : World) (h : PtsAt w A m ps) (hn : ∀ p, p ∈ ps → p.n ≤ 140737488351232) (hm : m ≤ 140737488351232) :
    Calls Try.prog 9 #[.slice A m c] w fun e W => AllE w m ps e W := by
  have HH := Lib.hid h
  have HN := Lib.hid hn
  clear h hn
  go_enter Try.func9, Try.ntmps9
  go_wp2_with fail
  go_loopw [4, 5, 8] (fun v _ i wr => ∃ k : Nat, k ≤ m ∧ i = .int .i64 k ∧ (cat (ps.take k)).length ≤ 20000 ∧ wr.ownsRow w.heap.size 5 1 v (cat (ps.take k)).length ((cat (ps.take k)).map (Value.int .u8)) ∧ Below w.heap.size w wr) (fun _ _ i _ => m - (intOf i).toNat)
  case atStart => exact ⟨0, Nat.zero_le _, rfl, Nat.zero_le _, World.ownsRow_nil _ _ _ _, Below.refl _ _⟩
  case round =>
    obtain ⟨k, hk, rfl, hle, ho, hB⟩ := hrel
    have HO := Lib.hid ho
    have HB := Lib.hid hB
    by_cases hlt : k < m
    case neg =>
      obtain rfl : k = m := by omega
      have e : ps.take k = ps := List.take_of_length_le (by rw [HH.out.1]; exact Nat.le_refl _)
      rw [e] at HO hle
      clear ho hB
      go_wp2_with fail
      go_ret2
      exact .inr ⟨hle, _, rfl, HO.out, HB.out⟩
    case pos =>
      obtain ⟨p, hp⟩ : ∃ p, ps[k]? = some p := ⟨ps[k]'(by rw [HH.out.1]; exact hlt), List.getElem?_eq_getElem _⟩
      obtain ⟨g, o, rfl, hc⟩ := HH.out.2.2 (by omega)
      have hcell := (HB.out.cell (World.block_lt_of_cell? w _ (hc k p hp))).trans (hc k p hp)
      have hok := (HH.out.2.1 p (List.mem_of_getElem? hp)).below HB.out
      have hpn := HN.out p (List.mem_of_getElem? hp)
      have h1 := cat_take ps k p hp
      have h2 := cat_le ps (k + 1)
      have h3 := congrArg List.length h1
      rw [List.length_append, hok.1.1] at h3
      obtain ⟨B, n, d, bs⟩ := p
      unfold Pt.v at hcell
      dsimp only at hcell h3 hpn h1
      have R := Lib.hid hok.1
      have Z := Lib.hid hok.2
      dsimp only at R Z
      obtain ⟨A2, c2, rfl, hr2, h02⟩ := owns_pt ho
      obtain ⟨L, hL⟩ : ∃ L, (cat (ps.take k)).length = L := ⟨_, rfl⟩
      have H1 := Lib.hid h1
      have H3 := Lib.hid h3
      rw [hL] at HO hle H3
      rw [hL]
      clear ho hB hok hr2 h02 hc h1
      by_cases hbig : 20000 < L + n
      · have HX : Hid (20000 < (cat ps).length) := Lib.hid (by omega)
        clear h2 h3
        go_wp2_with fail
        go_ret2
        exact .inl ⟨HX.out, rfl, HB.out⟩
      · have hs := HB.out.size
        clear h2 h3
        go_wp2_with (at_builtin; refine wpl_append rfl (.tmp 20) (.tmp 24) rfl w.heap.size (.slice A2 L c2) L ((cat (ps.take k)).map (Value.int .u8)) rfl HO.out B n d bs rfl R.out Z.out (by omega) hs ?_; intro v2 w2 o2 g2; have HB2 := Lib.hid (HB.out.grown g2 hs (fun k hk => (HO.out.lt k hk).1)); have HO2 := Lib.hid o2; clear o2 g2)
        go_roundw
        case rel => exact ⟨k + 1, hlt, by go_num, by rw [H3.out]; omega, by rw [H3.out, H1.out, List.map_append]; exact HO2.out, HB2.out⟩
        case measure => simp [intOf]; omega
end Go.Proofs.Ytknmchpikcnacaa
