/- The program's own calls on a contract's data, as the walks ask of them. -/
import Derived.Test.YtlnakhbcefmiaaaGf
import Derived.Test.YtlnakhbcefmiaaaGd
import Derived.Test.YtlnakhbcefmiaaaQk
import Derived.Laws.ResultCell
namespace Go.Proofs.Ytlnakhbcefmiaaa
open Go.RowKit

theorem ret_sp2 {fn : Func} {p u : Tmp} (h : fn.results = #[.cell p 25, .tmp u]) (tmps : Array Value) (w : World) (g : Nat) {x : Sp} {v : Value} (hp : tmps.getD p undef = .pointer (some ⟨g, 0, none⟩)) (hv : tmps.getD u undef = v) (hb : Box w g x) :
    (results fn tmps).run Try.prog w = .ok (.tuple #[.agg x.cells, v]) w := by
  rw [results_cell_tmp h]
  simp [hp, hv, asAddr, run_loadVar_row w g 25 25 x.cells (0, 0) _ hb.1 Try.underlying25 rfl hb.info]
theorem took_len (bs : List Int) (e : Int) : (took bs e).1.sh.length = 16 := by
  unfold took
  split
  · show (tS fmax bs e).1.sh.length = 16
    unfold tS
    dsimp only
    exact iRs_len _ _ 16
  · rfl
theorem iRs_by {bs : List Int} (hy : By bs) (e : Int) : ∀ k, By (iRs bs e k).2.1 ∧ (iRs bs e k).2.1.length ≤ bs.length
  | 0 => ⟨hy, Nat.le_refl _⟩
  | k + 1 => by
    have ih := iRs_by hy e k
    have h := iR_by ih.1 (iRs bs e k).2.2
    exact ⟨h.1, Nat.le_trans h.2 ih.2⟩
theorem tS_less (m : Nat → Int) {bs : List Int} (hy : By bs) (e : Int) : (tS m bs e).2.1.length ≤ bs.length := by
  unfold tS
  dsimp only
  have h0 := sR_by hy e (m 0)
  generalize sR bs e (m 0) = r0 at *
  have h1 := sR_by h0.1 r0.2.2 (m 1)
  generalize sR r0.2.1 r0.2.2 (m 1) = r1 at *
  have h2 := sR_by h1.1 r1.2.2 (m 2)
  generalize sR r1.2.1 r1.2.2 (m 2) = r2 at *
  have h3 := sR_by h2.1 r2.2.2 (m 3)
  generalize sR r2.2.1 r2.2.2 (m 3) = r3 at *
  have h4 := sR_by h3.1 r3.2.2 (m 4)
  generalize sR r3.2.1 r3.2.2 (m 4) = r4 at *
  have h5 := sR_by h4.1 r4.2.2 (m 5)
  generalize sR r4.2.1 r4.2.2 (m 5) = r5 at *
  have hq := iRs_by h5.1 r5.2.2 16
  generalize iRs r5.2.1 r5.2.2 16 = q at *
  have h6 := sR_by hq.1 q.2.2 (m 6)
  generalize sR q.2.1 q.2.2 (m 6) = r6 at *
  have h7 := sR_by h6.1 r6.2.2 (m 7)
  generalize sR r6.2.1 r6.2.2 (m 7) = r7 at *
  have h8 := sR_by h7.1 r7.2.2 (m 8)
  omega
theorem took_less {bs : List Int} (hy : By bs) (e : Int) : (took bs e).2.1.length ≤ bs.length := by
  have h := tS_less fmax hy e
  unfold took
  split
  · exact h
  · exact h
theorem fmax_le (i : Nat) : fmax i ≤ 9223372036854775807 := by
  unfold fmax
  split
  · decide
  · split
    · decide
    · split <;> decide
/-- What Done tells behind it. -/
def doneE (t : Sp × List Int × Int) : Int := if t.2.2 = 0 ∧ 0 < t.2.1.length then 5 else t.2.2
set_option maxRecDepth 100000 in
set_option maxHeartbeats 4000000 in
theorem pread_any (A : Option Addr) (n c : Nat) (bs : List Int) (w : World) (h : RdB w A n bs) (hy : By bs) (h0 : A = none → n = 0 ∧ c = 0) (hn : n ≤ 100000) (S : Sp) (E : Int) (hS : doneE (took bs 0) = 0 → S = (took bs 0).1 ∧ E = 0) (hN : doneE (took bs 0) ≠ 0 → S = zeroSp ∧ E = 5) :
    Calls Try.prog 20 #[.slice A n c] w fun e w' => e = .returned (.tuple #[.agg S.cells, .int .i64 E]) ∧ Below w.heap.size w w' := by
  have Z := zero_sp
  have hbl := h.1
  have HB := Lib.hid (box_new w (s := zeroSp) rfl)
  have B := Lib.hid ((Below.refl w.heap.size w).alloc (Nat.le_refl _) (.cells zeroSp.cells 25))
  have NR := Lib.hid (newr_any A n c bs (w.alloc (.cells zeroSp.cells 25)) (h.below ((Below.refl w.heap.size w).alloc (Nat.le_refl _) _)) (by omega) h0)
  have HY := Lib.hid hy
  have TL := Lib.hid (took_len bs 0)
  have LS := Lib.hid (took_less hy 0)
  have PS := Lib.hid hS
  have PN := Lib.hid hN
  clear h hy h0 hS hN
  go_enter Try.func20, Try.ntmps20
  go_wp2_with fail
  refine NR.out.mono ?_; rintro e w1 ⟨g, A1, n1, c1, rfl, hq, hA1, hb1, hg1⟩
  have hn1 : n1 = n := by have := hq.r.1; omega
  subst hn1
  have GE : Hid (w.heap.size + 1 ≤ g) := Lib.hid (by rw [size_alloc] at hg1; exact hg1)
  have TK := Lib.hid (ptake_any g n1 c1 A1 bs 0 w1 hq HY.out (by omega) (fun a ha _ => (hA1 a ha).2))
  have B1 := Lib.hid (B.out.trans (hb1.mono B.out.size))
  have HB1 := Lib.hid (HB.out.below hb1)
  obtain ⟨⟨s, b', e'⟩, ht⟩ : ∃ t, took bs 0 = t := ⟨_, rfl⟩
  unfold TookOk at TK
  rw [ht] at TK TL PS PN LS
  dsimp only at TK TL PS PN LS
  clear NR hq hA1 hb1 hg1 ht HB B
  go_wp2_with fail
  refine TK.out.mono ?_; rintro e0 w2 ⟨rfl, ⟨A2, n2, c2, rq, hA2⟩, gr⟩
  have hn2 : n2 ≤ 200000 := by have := rq.r.1; have := LS.out; omega
  have B2 := Lib.hid (B1.out.grown gr B1.out.size (fun k hk => by cases hk; have := GE.out; omega))
  have HB2 : Hid (Box w2 w.heap.size zeroSp) := Lib.hid ⟨(gr.block w.heap.size (Array.getElem?_eq_some_iff.1 HB1.out.1).1 (by intro c; cases c; have := GE.out; omega)).trans HB1.out.1, rfl⟩
  have BA := Lib.hid ((Below.refl w2.heap.size w2).alloc (Nat.le_refl _) (.cells zeroSp.cells 25))
  have HA := Lib.hid (box_new w2 (s := zeroSp) rfl)
  have BS := Lib.hid (below_row' (g := w2.heap.size) (cs := s.cells) BA.out (Nat.le_refl _))
  have HS := Lib.hid (box_set HA.out (s := s) TL.out)
  have DN := Lib.hid (done_any g n2 c2 A2 b' e' _ (rq.below BS.out) hn2)
  have HB3 := Lib.hid (HB2.out.below BS.out)
  have B3 := Lib.hid (B2.out.trans (BS.out.mono B2.out.size))
  clear rq hA2 gr TK HB1 B1 HB2 BS BA B2
  obtain ⟨dn, hdn⟩ : ∃ d, doneE (s, b', e') = d := ⟨_, rfl⟩
  rw [show (if e' = 0 ∧ 0 < b'.length then (5 : Int) else e') = dn from hdn] at DN
  rw [hdn] at PS PN
  clear hdn
  by_cases hz : dn = 0
  · obtain ⟨rfl, rfl⟩ := PS.out hz
    subst hz
    have B4 := Lib.hid (below_row' (g := w.heap.size) (cs := S.cells) B3.out (Nat.le_refl _))
    have HR := Lib.hid (box_set HB3.out (s := S) TL.out)
    go_wp2_with ((with_reducible refine wl_store_sp S w2.heap.size HA.out TL.out ?_ ?_ ?_); rfl; rfl)
    refine DN.out.mono ?_; rintro e0 w3 ⟨rfl, rfl⟩
    go_wp2_with (first
      | ((with_reducible refine wl_load_sp w2.heap.size HS.out ?_ ?_ ?_); rfl; rfl)
      | ((with_reducible refine wl_store_sp S w.heap.size HB3.out TL.out ?_ ?_ ?_); rfl; rfl))
    exact bodyPost_ret (ret_sp2 rfl _ _ w.heap.size rfl rfl HR.out) rfl ⟨rfl, B4.out⟩
  · obtain ⟨rfl, rfl⟩ := PN.out hz
    have hz1 : (dn != 0) = true := bne_iff_ne.2 hz
    have B4 := Lib.hid (below_row' (g := w.heap.size) (cs := zeroSp.cells) B3.out (Nat.le_refl _))
    have HR := Lib.hid (box_set HB3.out (s := zeroSp) rfl)
    clear hz
    go_wp2_with ((with_reducible refine wl_store_sp s w2.heap.size HA.out TL.out ?_ ?_ ?_); rfl; rfl)
    refine DN.out.mono ?_; rintro e0 w3 ⟨rfl, rfl⟩
    go_wp2_with ((with_reducible refine wl_store_sp zeroSp w.heap.size HB3.out rfl ?_ ?_ ?_); rfl; rfl)
    exact bodyPost_ret (ret_sp2 rfl _ _ w.heap.size rfl rfl HR.out) rfl ⟨rfl, B4.out⟩
theorem took_form {s : Sp} (ok : s.ok) (hm : mayB s = true) : took (form s) 0 = (s, [], 0) := by
  have hp := head_parts (may_head hm)
  have hf := may_fi hm
  have a1 := ok.nu
  have a3 := ok.ro
  have a5 := ok.la
  have e := tS_form fmax ok hm (by show s.nu ≤ 4294967295; omega) (by show s.ro ≤ 255; omega) (by show s.ti ≤ i63; unfold i63; omega) (by show s.lo ≤ i63; unfold i63; omega) (by show s.ba ≤ i63; unfold i63; omega) (by show s.li ≤ i63; unfold i63; omega) (by show s.cr ≤ i63; unfold i63; omega) (by show s.la ≤ 4294967295; omega) (by show s.fi ≤ i63; unfold i63; omega) []
  rw [List.append_nil] at e
  unfold took
  rw [e]
  exact if_pos hm
theorem took_none {bs : List Int} (hy : By bs) (h : ∀ s : Sp, s.ok → mayB s = true → bs ≠ form s) : doneE (took bs 0) ≠ 0 := by
  intro c
  unfold took at c
  split at c
  case isTrue hm =>
    obtain ⟨⟨s, r, e⟩, ht⟩ : ∃ t, tS fmax bs 0 = t := ⟨_, rfl⟩
    rw [ht] at c hm
    unfold doneE at c
    dsimp only at c hm
    split at c
    · cases c
    · rename_i hc
      subst c
      have hr : r = [] := List.eq_nil_of_length_eq_zero (by
        have : ¬ 0 < r.length := fun h => hc ⟨rfl, h⟩
        omega)
      subst hr
      have hb := tS_back fmax hy (Int.le_refl _) (Int.le_refl _) (Int.le_refl _) fmax_le ht
      refine h s hb.1 hm ?_
      rw [hb.2.1, List.append_nil]
  case isFalse hm =>
    obtain ⟨x, hx⟩ : ∃ x, (tS fmax bs 0).2.2 = x := ⟨_, rfl⟩
    rw [hx] at c
    unfold doneE at c
    dsimp only at c
    by_cases h0 : x = 0
    · rw [if_pos h0] at c
      rw [if_neg (fun h => by cases h.1)] at c
      cases c
    · rw [if_neg h0, if_neg (fun h => h0 h.1)] at c
      exact h0 c
theorem spec : SpecK where
  may := pmay_any
  price := fun s n w ok _ => pisprice_any s n w ok
  qty := fun s n w ok _ => pisqty_any s n w ok
  band := fun s a b w ok ha hb => pband_any s a b w ok ha hb
  bytesT := fun s w ok hm => pbytes_yes s w ok hm
  bytesF := fun s w ok hm => pbytes_no s w ok hm
  put := fun A n c bs s w h _ h0 hn ok => pput_any A n c bs s w h h0 hn ok
  readT := fun A n c bs s w h hy h0 hn ok hm he => by
    subst he
    have e := took_form ok hm
    refine pread_any A n c (form s) w h hy h0 hn s 0 (fun _ => ?_) (fun c => absurd ?_ c)
    · rw [e]; exact ⟨rfl, rfl⟩
    · rw [e]; rfl
  readF := fun A n c bs w h hy h0 hn hf => pread_any A n c bs w h hy h0 hn zeroSp 5 (fun c => absurd c (took_none hy hf)) (fun _ => ⟨rfl, rfl⟩)
end Go.Proofs.Ytlnakhbcefmiaaa
