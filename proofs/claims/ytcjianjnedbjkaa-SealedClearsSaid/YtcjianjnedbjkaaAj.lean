/- The program's sealed: two bids of one number; a bid that may not be. -/
import Derived.Test.YtcjianjnedbjkaaAi
import Derived.Test.YtcjianjnedbjkaaAa
import Derived.Maps.OwnSet
import Derived.WalkKit
namespace Go.Proofs.Ytcjianjnedbjkaa
open Go.RowKit Go.Shelf Go.Maps
set_option linter.unusedVariables false
set_option linter.unusedSimpArgs false

theorem zero_o8 (w : World) : (zeroValue 31).run Try.prog w = .ok (.agg (EO.cells zeroOr).toArray) w := by kernel_rfl
theorem own_same8 {H : Type} {P : Program} {k : TypeId} {R : Value → Option (DataW H × List MemPlace)} {w W : World} {b n : Nat} {D : DataW H} (h : w.ownsMap P k R b n D) (e : W.heap[b]? = w.heap[b]?) : W.ownsMap P k R b n D := by
  obtain ⟨es, clock, hb, r⟩ := h
  exact ⟨es, clock, e.trans hb, r⟩
def litN (x : Or) : Lit := .int .u64 x.nu
theorem any_nu (x : Or) : ∀ l : List Or, (l.map litN).any (fun y => y.sameKey (litN x)) = l.any fun y => y.nu == x.nu
  | [] => rfl
  | a :: r => by
    rw [List.map_cons, List.any_cons, List.any_cons, any_nu x r]
    congr 1
    show decide (IntKind.u64 = IntKind.u64 ∧ a.nu = x.nu) = (a.nu == x.nu)
    by_cases e : a.nu = x.nu <;> simp [e]
def setN (l : List Or) : DataW Unit := setOf (.agg []) (l.map litN)
theorem has_setN (l : List Or) (x : Or) : Maps.has (setN l) (litN x) = l.any fun y => y.nu == x.nu := by
  unfold setN
  rw [has_setOf _ _ _ (fun y hy => by obtain ⟨_, _, rfl⟩ := List.mem_map.1 hy; trivial)]
  exact any_nu x l
theorem setN_snoc (l : List Or) (x : Or) : setN (l ++ [x]) = (setN l).put (litN x) (.agg []) := by
  unfold setN
  rw [List.map_append, List.map_singleton, setOf_snoc]
theorem take_snoc8 {l : List Or} {k : Nat} {x : Or} (h : l[k]? = some x) : l.take (k + 1) = l.take k ++ [x] := by
  rw [List.take_add_one, h]; rfl
theorem dis_hit8 {l : List Or} {k : Nat} {x : Or} (h : l[k]? = some x) (hh : ((l.take k).any fun y => y.nu == x.nu) = true) : ¬ Dis l := fun d => by
  obtain ⟨y, hy, e⟩ := List.any_eq_true.1 hh
  have : Dis (l.take (k + 1)) := d.sublist (List.take_sublist _ _)
  rw [take_snoc8 h] at this
  exact (List.pairwise_append.1 this).2.2 y hy x (List.mem_singleton.2 rfl) (beq_iff_eq.1 e)
theorem dis_miss8 {l : List Or} {k : Nat} {x : Or} (h : l[k]? = some x) (d : Dis (l.take k)) (hh : ((l.take k).any fun y => y.nu == x.nu) = false) : Dis (l.take (k + 1)) := by
  rw [take_snoc8 h]
  refine dis_snoc d fun y hy e => ?_
  have := List.any_eq_false.1 hh y hy
  simp [e] at this
set_option maxRecDepth 100000 in
set_option maxHeartbeats 4000000 in
theorem twice_o8 (A : Option Addr) (n c : Nat) (l : List Or) (w : World) (h : EO.Rd w A n l) (hok : ∀ x, x ∈ l → x.ok) (hn : n ≤ 1000) :
    Calls Try.prog 14 #[.slice A n c] w fun e w' => ∃ t : Bool, e = .returned (.bool t) ∧ (t = true ↔ ¬ Dis l) ∧ Below w.heap.size w w' := by
  have hmm := @run_makeMap Try.prog
  have hz := zero_o8
  have hz2 : ∀ w, (zeroValue 51).run Try.prog w = .ok (.agg #[]) w := fun w => by kernel_rfl
  have HR := Lib.hid h
  have HK := Lib.hid hok
  have HL := Lib.hid h.1
  have M0 : Hid ((w.alloc (.map #[] 0)).ownsMap Try.prog 28 (unitElem (H := Unit)) w.heap.size 0 (setN (l.take 0))) := Lib.hid (World.ownsMap_made _ _ _ _)
  have B0 := Lib.hid (below_new w (.map #[] 0))
  clear h hok
  go_enter Try.func14, Try.ntmps14
  go_wp2_with fail
  go_loopw [11] (fun i wr => ∃ k : Nat, k ≤ n ∧ i = .int .i64 k ∧ wr.ownsMap Try.prog 28 (unitElem (H := Unit)) w.heap.size k (setN (l.take k)) ∧ Below w.heap.size w wr ∧ w.heap.size < wr.heap.size ∧ Dis (l.take k)) (fun i _ => n - (intOf i).toNat)
  case atStart => exact ⟨0, Nat.zero_le _, rfl, M0.out, B0.out, by simp, by simp [Dis]⟩
  case round =>
    obtain ⟨k, hk, rfl, hm, hb, hs, hd⟩ := hrel
    have HM := Lib.hid hm
    have HB := Lib.hid hb
    have HS := Lib.hid hs
    have HD := Lib.hid hd
    clear hm hb hs hd
    by_cases hlt : k < n
    case neg =>
      obtain rfl : k = n := by omega
      go_wp2_with fail
      go_ret
      refine ⟨false, rfl, ⟨fun h => (by cases h), fun hc => absurd ?_ hc⟩, HB.out⟩
      have := HD.out
      rwa [List.take_of_length_le (by rw [HL.out]; exact Nat.le_refl _)] at this
    case pos =>
      have hdk : decide ((k : Int) < n) = true := decide_eq_true (by omega)
      have hki : (k : Int) < (n : Int) := by omega
      obtain ⟨x, hx⟩ : ∃ x, l[k]? = some x := ⟨l[k]'(by have := HL.out; omega), List.getElem?_eq_getElem _⟩
      have OK := Lib.hid (HK.out x (List.mem_of_getElem? hx))
      obtain ⟨b, o, rfl, rg⟩ := rng_o8 HR.out HB.out (Nat.le_refl _) hx
      have RG := Lib.hid rg
      have HX := Lib.hid hx
      have X1 := Lib.hid (gbx_new (E := EO) (te := 31) wr zeroOr)
      obtain ⟨W2, hW2⟩ : ∃ W2, (wr.alloc (.cells (EO.cells zeroOr).toArray 31)).setRow wr.heap.size (EO.cells x).toArray = W2 := ⟨_, rfl⟩
      have x2 : EO.Bx 31 W2 wr.heap.size x := by rw [← hW2]; exact gbx_set X1.out
      have B2 : Hid (Below wr.heap.size wr W2) := Lib.hid (by rw [← hW2]; exact below_row0 (below_new _ _) (Nat.le_refl _))
      have M2 : Hid (W2.ownsMap Try.prog 28 (unitElem (H := Unit)) w.heap.size k (setN (l.take k))) := Lib.hid (own_same8 HM.out (B2.out.block _ HS.out))
      have c0 : W2.cell? ⟨wr.heap.size, 0, none⟩ = some (.int .u64 x.nu) := gbx_cell x2 0
      have c0' : (W2.alloc (.cells #[] 51)).cell? ⟨wr.heap.size, 0, none⟩ = some (.int .u64 x.nu) := cell_below c0 (below_new _ _) (Nat.le_refl _)
      have hkey : keyOf Try.prog 28 (.int .u64 x.nu) = some (litN x) := keyOf_int_mk Try.underlying28 (by have := OK.out.nu; simp [Lit.wf, show IntKind.u64.min = 0 from rfl, show IntKind.u64.max = 18446744073709551615 from rfl]; omega)
      have M3 : Hid ((W2.alloc (.cells #[] 51)).ownsMap Try.prog 28 (unitElem (H := Unit)) w.heap.size k (setN (l.take k))) := Lib.hid (M2.out.alloc _)
      have HW2 := Lib.hid hW2
      obtain ⟨t, ht⟩ : ∃ t, ((l.take k).any fun y => y.nu == x.nu) = t := ⟨_, rfl⟩
      have hh : Maps.has (setN (l.take k)) (litN x) = t := by rw [has_setN, ht]
      have HT := Lib.hid ht
      clear hx rg x2 hW2 ht
      cases t
      · go_wp2_with (first | ((with_reducible refine gwl_load TO b (o + k * 5) RG.out ?_ ?_ ?_); rfl; rfl) | (refine gwl_store TO x wr.heap.size X1.out rfl rfl ?_; rw [HW2.out]) | (at_lookup; refine wpList_lookup_own_unit _ rfl _ _ 50 rfl 28 51 (int_keyed Try.underlying28) Try.underlying50 (hz2 _) w.heap.size k _ rfl M2.out _ _ rfl hkey ?_; rw [hh]) | (at_mapUpdate; refine wpList_mapUpdate_own _ rfl _ _ _ 50 rfl 28 51 (int_keyed Try.underlying28) Try.underlying50 (unitElem (H := Unit)) w.heap.size k _ rfl M3.out (by unfold maxLen; omega) _ _ _ rfl rfl hkey _ [] unitElem_mk ?_; intro w4 own4 gr4))
        have E4 : Hid (w4.ownsMap Try.prog 28 (unitElem (H := Unit)) w.heap.size (k + 1) (setN (l.take (k + 1)))) := Lib.hid (by rw [take_snoc8 HX.out, setN_snoc]; exact own4)
        have B3 := Lib.hid ((B2.out.trans ((below_new W2 (.cells #[] 51)).mono B2.out.size)))
        have B4 : Hid (Below w.heap.size w w4) := Lib.hid ((HB.out.trans (B3.out.mono HB.out.size)).grown gr4 (by have := HS.out; have := B3.out.size; omega) (fun j hj => by cases hj; exact Nat.le_refl _))
        have S4 : Hid (w.heap.size < w4.heap.size) := Lib.hid (by have := gr4.size; have := HS.out; have := B3.out.size; omega)
        clear own4 gr4
        go_roundw
        case rel => exact ⟨k + 1, hlt, by go_num, E4.out, B4.out, S4.out, dis_miss8 HX.out HD.out HT.out⟩
        case measure => simp [intOf]; omega
      · go_wp2_with (first | ((with_reducible refine gwl_load TO b (o + k * 5) RG.out ?_ ?_ ?_); rfl; rfl) | (refine gwl_store TO x wr.heap.size X1.out rfl rfl ?_; rw [HW2.out]) | (at_lookup; refine wpList_lookup_own_unit _ rfl _ _ 50 rfl 28 51 (int_keyed Try.underlying28) Try.underlying50 (hz2 _) w.heap.size k _ rfl M2.out _ _ rfl hkey ?_; rw [hh]))
        go_ret
        exact ⟨true, rfl, ⟨fun _ => dis_hit8 HX.out HT.out, fun _ => rfl⟩, HB.out.trans ((B2.out.trans ((below_new W2 (.cells #[] 51)).mono B2.out.size)).mono HB.out.size)⟩
/-- A bid that may not be. -/
def notC (b : Bool) (x : Or) : Bool := !mayO x || (x.bu != b)
set_option maxRecDepth 100000 in
set_option maxHeartbeats 2000000 in
theorem not_o8 (b : Bool) (g : Nat) (w : World) (hq : w.cell? ⟨g, 0, none⟩ = some (.bool b)) : GTests Try.prog EO Or.ok 11 #[.pointer (some ⟨g, 0, none⟩)] (notC b) w := by
  intro W x q ok
  show Calls Try.prog 11 #[.agg (EO.cells x).toArray, .pointer (some ⟨g, 0, none⟩)] W _
  have hQ := cell_below hq q (Nat.le_refl _)
  clear hq q
  have hg : g < W.heap.size := World.block_lt_of_cell? W _ hQ
  obtain ⟨W1, hW1⟩ : ∃ W1, W.alloc (.cells (EO.cells x).toArray 31) = W1 := ⟨_, rfl⟩
  have x1 : EO.Bx 31 W1 W.heap.size x := by rw [← hW1]; exact gbx_new W x
  have b1 : Below W.heap.size W W1 := by rw [← hW1]; exact below_new W _
  have k2 : (W.alloc (.cells (EO.cells x).toArray 31)).cell? ⟨W.heap.size, 2, none⟩ = some (.bool x.bu) := by rw [hW1]; exact gbx_cell x1 2
  have K2 := Lib.hid fun (w2 : World) (q : Below W1.heap.size W1 w2) => (show w2.cell? ⟨W.heap.size, 2, none⟩ = some (.bool x.bu) from cell_below (gbx_cell x1 2) q (Nat.le_refl _))
  have KQ := Lib.hid fun (w2 : World) (q : Below W1.heap.size W1 w2) => (show w2.cell? ⟨g, 0, none⟩ = some (.bool b) from cell_below (cell_below hQ b1 (Nat.le_refl _)) q (Nat.le_refl _))
  have X1 := Lib.hid (gbx_rng x1)
  have B1 := Lib.hid b1
  have HW := Lib.hid hW1
  have MAY := Lib.hid (smay8_any x W1 ok)
  have E : Hid (notC b x = (!mayO x || (x.bu != b))) := Lib.hid rfl
  rw [E.out]
  clear k2 x1 b1 hW1
  generalize x.bu = xb at *
  generalize mayO x = xm at *
  clear E
  go_enter Try.func11, Try.ntmps11
  cases xm
  · go_wp2_with (first | (rw [HW.out]) | ((with_reducible refine gwl_load TO W.heap.size 0 X1.out ?_ ?_ ?_); rfl; rfl))
    refine MAY.out.mono ?_; rintro e w2 ⟨rfl, q2⟩
    have Q2 := Lib.hid q2
    clear q2
    go_wp2_with fail
    go_ret
    exact ⟨by simp, B1.out.trans (Q2.out.mono B1.out.size)⟩
  · go_wp2_with (first | (rw [HW.out]) | ((with_reducible refine gwl_load TO W.heap.size 0 X1.out ?_ ?_ ?_); rfl; rfl))
    refine MAY.out.mono ?_; rintro e w2 ⟨rfl, q2⟩
    have k2 := K2.out w2 q2
    have kq := KQ.out w2 q2
    have Q2 := Lib.hid q2
    clear q2
    go_wp2_with fail
    go_ret
    exact ⟨by cases xb <;> cases b <;> rfl, B1.out.trans (Q2.out.mono B1.out.size)⟩
set_option maxRecDepth 100000 in
theorem contains_o8 (g : Nat) (lb : Array Value) (p : Or → Bool) (A : Option Addr) (n c : Nat) (cs : List Or) (w : World) (eg : ∀ args w, (callFunc g args).run Try.prog w = .ok (.enter g args) w) (hp : GTests Try.prog EO Or.ok g lb p w) (hr : EO.Rd w A n cs) (hok : ∀ x, x ∈ cs → x.ok) (hn : n ≤ 1000) :
    Calls Try.prog 13 #[.slice A n c, .func (.func g) #[] lb] w fun e w' => e = .returned (.bool (cs.any p)) ∧ Below w.heap.size w w' := by
  have C := index_o8 g lb p A n c cs w eg hp hr hok hn
  have E : decide (0 ≤ gidx p cs) = cs.any p := by
    rcases gidx_cases p cs with ⟨e, h⟩ | ⟨k, x, e, hk, hx, hpx, _⟩
    · rw [e, List.any_eq_false.2 fun x hx => by rw [h x hx]; decide]; rfl
    · rw [e, List.any_eq_true.2 ⟨x, List.mem_of_getElem? hx, hpx⟩, decide_eq_true (Int.natCast_nonneg k)]
  rw [← E]
  generalize gidx p cs = r at *
  clear hp hr hok E
  go_enter Try.func13, Try.ntmps13
  go_wp2_with fail
  refine C.mono ?_; rintro e w2 ⟨rfl, q⟩
  have Q := Lib.hid q
  clear q
  go_wp2_with fail
  go_ret
  exact ⟨rfl, Q.out⟩
end Go.Proofs.Ytcjianjnedbjkaa
