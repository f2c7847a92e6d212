/- Contracts of the program's own sums (CRC-32): the register through all parts, Sum, More. -/
import Derived.Test.YtknmchpikcnacaaCx
import Derived.Test.YtknmchpikcnacaaCk
namespace Go.Proofs.Ytknmchpikcnacaa
open Go.RowKit

theorem xor_u8 (a b : Nat) (ha : a < 256) (hb : b < 256) : bits .xor .u8 (a : Int) (b : Int) = ((a ^^^ b : Nat) : Int) := by
  have := u8_xor (a : Int) (b : Int) (by omega) (by omega) (by omega) (by omega)
  simpa using this
theorem low_xor (s v : Nat) (hv : v < 256) : (s ^^^ v) % 256 = s % 256 ^^^ v := by
  have := Nat.xor_mod_two_pow (a := s) (b := v) (n := 8)
  rw [show (2 : Nat) ^ 8 = 256 from rfl] at this
  rw [this, Nat.mod_eq_of_lt hv]
theorem high_xor (s v : Nat) (hv : v < 256) : (s ^^^ v) / 256 = s / 256 := by
  have := Nat.xor_div_two_pow (a := s) (b := v) (n := 8)
  rw [show (2 : Nat) ^ 8 = 256 from rfl] at this
  rw [this, Nat.div_eq_of_lt hv, Nat.xor_zero]
/-- One byte more, by the table. -/
theorem st_byte {x : Nat} (bs : List Int) {v : Nat} (hv : v < 256) : Cr.st x (bs ++ [(v : Int)]) = Cr.st x bs / 256 ^^^ Cr.run (Cr.st x bs % 256 ^^^ v) Cr.zr 8 := by
  rw [Cr.st_snoc bs (by omega), Int.toNat_natCast, low_xor _ _ hv, high_xor _ _ hv, Nat.xor_comm]
theorem table_at {W : World} {g : Nat} {old : Array Value} {t : TypeId} {fr : Nat × Nat} (h : W.heap[g]? = some (.cells old t fr)) (i : Nat) (hi : i < 256) :
    (W.setRow g (tbl 256)).cell? ⟨g, i, none⟩ = some (.int .u32 ((Cr.run i Cr.zr 8 : Nat) : Int)) := by
  rw [cell_setRow_same W g i old _ t fr h, tbl_at 256 i hi, if_pos hi]
theorem cat_take_drop : ∀ (ps : List Pt) (k : Nat), cat (ps.take k) ++ cat (ps.drop k) = cat ps
  | [], k => by simp [cat]
  | q :: l, 0 => by simp [cat]
  | q :: l, k + 1 => by
    have := cat_take_drop l k
    simp [cat, this]
/-- Parts in memory, of which nothing is asked when they are nil. -/
def PtsR (w : World) (A : Option Addr) (m : Nat) (ps : List Pt) : Prop :=
  ps.length = m ∧ (∀ p, p ∈ ps → RdB w p.A p.n p.bs) ∧ (0 < m → ∃ g o, A = some ⟨g, o, none⟩ ∧ ∀ j p, ps[j]? = some p → w.cell? ⟨g, o + j, none⟩ = some p.v)
theorem PtsAt.bare {w : World} {A : Option Addr} {m : Nat} {ps : List Pt} (h : PtsAt w A m ps) : PtsR w A m ps := ⟨h.1, fun p hp => (h.2.1 p hp).1, h.2.2⟩
theorem PtsR.below {w w' : World} {A : Option Addr} {m : Nat} {ps : List Pt} (h : PtsR w A m ps) (b : Below w.heap.size w w') : PtsR w' A m ps :=
  ⟨h.1, fun p hp => (h.2.1 p hp).below b, fun hm => by
    obtain ⟨g, o, e, hc⟩ := h.2.2 hm
    exact ⟨g, o, e, fun j p hj => (b.cell (p := ⟨g, o + j, none⟩) (World.block_lt_of_cell? w _ (hc j p hj))).trans (hc j p hj)⟩⟩
theorem ptsr_one {W : World} {p : Pt} (h : RdB W p.A p.n p.bs) : PtsR (W.alloc (.cells #[p.v] 23)) (some ⟨W.heap.size, 0, none⟩) 1 [p] :=
  ⟨rfl, fun q hq => by
    simp only [List.mem_cons, List.not_mem_nil, or_false] at hq
    subst hq
    exact h.below ((Below.refl _ W).alloc (Nat.le_refl _) _), fun _ => ⟨_, _, rfl, one_at W p⟩⟩
set_option maxRecDepth 100000 in
theorem after_any (x : Nat) (A : Option Addr) (m c : Nat) (ps : List Pt) (w : World) (hx : x < 4294967296) (h : PtsR w A m ps) (hy : By (cat ps)) (hl : (cat ps).length ≤ 1000000) (hm : m ≤ 1000000) :
    Calls Try.prog 17 #[.int .u32 x, .slice A m c] w fun e w' => e = .returned (.int .u32 (Cr.st x (cat ps))) ∧ Below w.heap.size w w' := by
  have HH := Lib.hid h
  have HY := Lib.hid hy
  have ST := Lib.hid steps_any
  have Z := zero_table
  clear h hy
  go_enter Try.func17, Try.ntmps17
  go_wp2_with fail
  refine (ST.out _).mono ?_; rintro e w1 ⟨rfl, q1⟩
  have HG := heap_alloc_new w1 (.cells (tbl 0) 44)
  have HI : Option.map (fun x => x.size) (Try.prog.info? 44) = some (tbl 256).size := by rw [info_table, tbl_size]
  have HB := Lib.hid (below_row (g := w1.heap.size) (cs := tbl 256) (q1.alloc q1.size (.cells (tbl 0) 44)) q1.size)
  have HT := Lib.hid (table_at HG)
  clear q1
  go_wp2_with (refine wpList_store_row rfl 44 (.tmp 5) (.tmp 10) rfl w1.heap.size (tbl 256) rfl rfl 44 (tbl 0) HG HI (by rw [tbl_size, tbl_size]) (one_table 256) ?_)
  obtain ⟨W, hW⟩ : ∃ W, (w1.alloc (.cells (tbl 0) 44)).setRow w1.heap.size (tbl 256) = W := ⟨_, rfl⟩
  obtain ⟨gt, hgt⟩ : ∃ gt, w1.heap.size = gt := ⟨_, rfl⟩
  have HHW := Lib.hid (HH.out.below HB.out)
  rw [hW] at HB HT HHW ⊢
  rw [hgt] at HT ⊢
  clear HG HI Z hW hgt HH
  go_loop [0, 7, 9, 13] (fun r _ _ i => ∃ k : Nat, k ≤ m ∧ i = .int .i64 k ∧ r = .int .u32 (Cr.st x (cat (ps.take k)))) (fun _ _ _ i => m - (intOf i).toNat)
  case atStart => exact ⟨0, Nat.zero_le _, rfl, rfl⟩
  case round =>
    obtain ⟨k, hk, rfl, rfl⟩ := hrel
    by_cases hlt : k < m
    case neg =>
      obtain rfl : k = m := by omega
      have e : ps.take k = ps := List.take_of_length_le (by rw [HHW.out.1]; exact Nat.le_refl _)
      rw [e]
      clear e
      go_wp2_with fail
      go_ret
      exact ⟨rfl, HB.out⟩
    case pos =>
      obtain ⟨p, hp⟩ : ∃ p, ps[k]? = some p := ⟨ps[k]'(by rw [HHW.out.1]; exact hlt), List.getElem?_eq_getElem _⟩
      obtain ⟨g, o, rfl, hc⟩ := HHW.out.2.2 (by omega)
      have hcell := hc k p hp
      have hok := HHW.out.2.1 p (List.mem_of_getElem? hp)
      have h1 := cat_take ps k p hp
      have hby : By p.bs := fun z hz => HY.out z (by
        have e := cat_take_drop ps (k + 1)
        rw [← e, h1]
        simp [hz])
      have h2 := cat_le ps (k + 1)
      have h3 := congrArg List.length h1
      rw [List.length_append, hok.1] at h3
      obtain ⟨B, n, d, bs⟩ := p
      unfold Pt.v at hcell
      dsimp only at hcell h3 h1 hby
      have R := Lib.hid hok
      have HBY := Lib.hid hby
      dsimp only at R HBY
      have hn : n ≤ 1000000 := by omega
      have hy0 := Cr.st_lt hx (cat (ps.take k))
      have H1 := Lib.hid (congrArg (Cr.st x) h1)
      rw [Cr.st_append] at H1
      obtain ⟨y, hy⟩ : ∃ y, Cr.st x (cat (ps.take k)) = y := ⟨_, rfl⟩
      rw [hy] at H1 hy0 ⊢
      have hd : decide ((k : Int) < m) = true := decide_eq_true (by omega)
      have HP := Lib.hid hp
      clear hc hok h1 h2 h3 hy hby hp
      go_wp2_with fail
      go_loop [0, 9, 19] (fun r _ j => ∃ l : Nat, l ≤ n ∧ j = .int .i64 l ∧ r = .int .u32 (Cr.st y (bs.take l))) (fun _ _ j => n - (intOf j).toNat)
      case atStart => exact ⟨0, Nat.zero_le _, rfl, rfl⟩
      case round =>
        obtain ⟨l, hl, rfl, rfl⟩ := hrel
        by_cases hlt2 : l < n
        case neg =>
          obtain rfl : l = n := by omega
          have e : bs.take l = bs := List.take_of_length_le (by rw [R.out.1]; exact Nat.le_refl _)
          rw [e]
          clear e hcell
          go_wp2_with fail
          go_round
          case rel => exact ⟨k + 1, hlt, by go_num, by rw [H1.out]⟩
          case measure => simp [intOf]; omega
        case pos =>
          obtain ⟨b2, o2, rfl, hc2⟩ := R.out.2 (by omega)
          have hcell2 := hc2 l (by omega)
          have hbv := HBY.out (bs.getD l 0) (by
            have h3 : l < bs.length := by rw [R.out.1]; exact hlt2
            rw [show bs.getD l 0 = bs[l] from by simp [List.getD, h3]]
            exact List.getElem_mem _)
          have hts : bs.take (l + 1) = bs.take l ++ [bs.getD l 0] := by
            have h3 : l < bs.length := by rw [R.out.1]; exact hlt2
            rw [List.take_succ_eq_append_getElem h3]
            simp [List.getD, h3]
          obtain ⟨v, hv⟩ : ∃ v : Nat, bs.getD l 0 = v := ⟨_, (Int.toNat_of_nonneg hbv.1).symm⟩
          rw [hv] at hcell2 hbv hts
          have HS := Lib.hid (congrArg (Cr.st y) hts)
          rw [st_byte _ (by omega : v < 256)] at HS
          have hs0 := Cr.st_lt hy0 (bs.take l)
          obtain ⟨s, hs⟩ : ∃ s, Cr.st y (bs.take l) = s := ⟨_, rfl⟩
          rw [hs] at hs0 HS ⊢
          have hX8 := xor_u8 (s % 256) v (by omega) (by omega)
          rw [show ((s % 256 : Nat) : Int) = (s : Int) % 256 by omega] at hX8
          have hidx : s % 256 ^^^ v < 256 := Nat.xor_lt_two_pow (n := 8) (by omega) (by omega)
          obtain ⟨ix, hix⟩ : ∃ ix, s % 256 ^^^ v = ix := ⟨_, rfl⟩
          rw [hix] at hX8 hidx HS
          have hct := HT.out ix hidx
          have hrl := Cr.run_lt (x := ix) (by omega) Cr.zr 8
          obtain ⟨tv, htv⟩ : ∃ tv, Cr.run ix Cr.zr 8 = tv := ⟨_, rfl⟩
          rw [htv] at hct hrl HS
          have hX := xor_u32 (s / 256) tv (by omega) hrl
          rw [show ((s / 256 : Nat) : Int) = (s : Int) / 256 by omega] at hX
          have hi0 : (0 : Int) ≤ (ix : Int) := by omega
          have hi1 : (ix : Int) < 256 := by omega
          clear hc2 hv hts hs hix htv hcell
          go_wp2_with fail
          go_round
          case rel => exact ⟨l + 1, hlt2, by go_num, by rw [HS.out]⟩
          case measure => simp [intOf]; omega
end Go.Proofs.Ytknmchpikcnacaa
