/- Contracts of the document's plain side: May, Better, place, first, without. -/
import Derived.Test.YtpnccbcaoifdiaaSm
import Derived.Deep.RegionHeld3
namespace Go.Proofs.Ytpnccbcaoifdiaa
open Go.RowKit
set_option linter.unusedVariables false

/-- The plain side at block g: whether it buys, and the orders as they came. -/
structure Rs (W : World) (B g : Nat) (v : Value) (buy : Bool) (l : List Or) : Prop where
  blk : W.heap[g]? = some (.cells #[.bool buy, v] 28 (0, 0))
  own : EO.Own 33 W B v l
  ge : B ≤ g
  le : l.length ≤ 100
  ok : ∀ x, x ∈ l → x.ok
def RsS (g : Nat) (v : Value) (k : Nat) : Prop := k = g ∨ v.ownBlock = some k
section
variable {W W' : World} {B g : Nat} {v : Value} {buy : Bool} {l : List Or}
theorem Rs.c0 (h : Rs W B g v buy l) : W.cell? ⟨g, 0, none⟩ = some (.bool buy) := by rw [cell_of_row _ _ _ _ _ _ h.blk]; rfl
theorem Rs.c1 (h : Rs W B g v buy l) : W.cell? ⟨g, 1, none⟩ = some v := by rw [cell_of_row _ _ _ _ _ _ h.blk]; rfl
theorem Rs.fz (h : Rs W B g v buy l) (j : Nat) : W.frozen? ⟨g, j, none⟩ = false := by simp [World.frozen?, h.blk]
theorem Rs.gl (h : Rs W B g v buy l) : g < W.heap.size := (Array.getElem?_eq_some_iff.1 h.blk).1
theorem Rs.apart (h : Rs W B g v buy l) (k : Nat) (hk : v.ownBlock = some k) : k ≠ g := by
  rintro rfl
  obtain ⟨cur, hh⟩ := gown_cells h.own hk
  rw [h.blk] at hh
  injection hh with hh
  injection hh with _ hh
  exact absurd hh (by decide)
theorem Rs.keep {S : Nat → Prop} (h : Rs W B g v buy l) (f : Fr S W W') (hg : ¬ S g) (hv : ∀ k, v.ownBlock = some k → ¬ S k) : Rs W' B g v buy l :=
  ⟨(f.at' g h.gl hg).trans h.blk, gown_fr h.own f hv, h.ge, h.le, h.ok⟩
theorem Rs.below (h : Rs W B g v buy l) (q : Below W.heap.size W W') : Rs W' B g v buy l := h.keep (S := fun _ => False) (Fr.below q) (fun h => h) (fun _ _ h => h)
theorem Rs.drewN (h : Rs W B g v buy l) (n : Nat) : Rs (W.drewN n) B g v buy l := ⟨h.blk, h.own, h.ge, h.le, h.ok⟩
/-- The list is another one. -/
theorem Rs.put {l' : List Or} {v' : Value} (h : Rs W B g v buy l) (o : EO.Own 33 W B v' l') (ho : v'.ownBlock ≠ some g) (le : l'.length ≤ 100) (ok : ∀ x, x ∈ l' → x.ok) : Rs (W.setCell ⟨g, 1, none⟩ v') B g v' buy l' :=
  ⟨heap_setCell_same W g 1 _ _ _ h.blk, gown_same o fun k hk => heap_setCell_other W _ k _ (fun e => ho (by rw [hk, e])), h.ge, le, ok⟩
end
theorem obx (w : World) (o : Or) : EO.Bx 33 (w.alloc (.cells (EO.cells o).toArray 33)) w.heap.size o := gbx_new w o
set_option maxRecDepth 100000 in
set_option maxHeartbeats 1000000 in
theorem rmay_o (o : Or) (w : World) (ok : o.ok) : Calls Try.prog 11 #[.agg (EO.cells o).toArray] w fun e w' => e = .returned (.bool (mayO o)) ∧ Below w.heap.size w w' := by
  have c0 := gbx_cell (obx w o) 0
  have c1 := gbx_cell (obx w o) 1
  have c3 := gbx_cell (obx w o) 3
  have c4 := gbx_cell (obx w o) 4
  have B := Lib.hid (below_new w (.cells (EO.cells o).toArray 33))
  have e0 : (EO.cells o)[0]? = some (.int .u64 o.nu) := rfl
  have e1 : (EO.cells o)[1]? = some (.int .u32 o.ac) := rfl
  have e3 : (EO.cells o)[3]? = some (.int .i64 o.pr) := rfl
  have e4 : (EO.cells o)[4]? = some (.int .i64 o.le) := rfl
  rw [e0] at c0; rw [e1] at c1; rw [e3] at c3; rw [e4] at c4
  clear e0 e1 e3 e4
  unfold mayO
  generalize o.nu = nu at *
  generalize o.ac = ac at *
  generalize o.pr = pr at *
  generalize o.le = le at *
  generalize EO.cells o = cc at *
  clear ok
  cases h1 : decide (0 < nu)
  case' true =>
    cases h2 : decide (0 < ac)
    case' true =>
      cases h3 : decide (0 < pr)
      case' true =>
        cases h4 : decide (pr ≤ 10000000)
        case' true =>
          cases h5 : decide (0 < le)
          case' true => cases h6 : decide (le ≤ 1000000)
  all_goals
    go_enter Try.func11, Try.ntmps11
    go_wp2_with fail
    go_ret
    exact ⟨rfl, B.out⟩
set_option maxRecDepth 100000 in
theorem rbtr_any (buy : Bool) (a b : Int) (w : World) : Calls Try.prog 42 #[.bool buy, .int .i64 a, .int .i64 b] w fun e w' => e = .returned (.bool (btr buy a b)) ∧ w = w' := by
  unfold btr
  cases buy
  · cases h : decide (a < b)
    all_goals
      go_enter Try.func42, Try.ntmps42
      go_wp2_with fail
      go_ret
      exact ⟨rfl, rfl⟩
  · cases h : decide (b < a)
    all_goals
      go_enter Try.func42, Try.ntmps42
      go_wp2_with fail
      go_ret
      exact ⟨rfl, rfl⟩
/-- Where an order stands, by its number: -1, or its place. -/
def plO (l : List Or) (n : Int) : Int := match l.findIdx? (fun x => x.nu == n) with | some k => (k : Int) | none => -1
theorem plO_hit {l : List Or} {n : Int} {k : Nat} {x : Or} (hx : l[k]? = some x) (hp : x.nu = n) (hn : ∀ (j : Nat) (y : Or), j < k → l[j]? = some y → y.nu ≠ n) : plO l n = k := by
  obtain ⟨hk, rfl⟩ := List.getElem?_eq_some_iff.1 hx
  have e : l.findIdx? (fun x => x.nu == n) = some k := List.findIdx?_eq_some_iff_getElem.2 ⟨hk, beq_iff_eq.2 hp, fun j hj c => hn j _ hj (List.getElem?_eq_getElem _) (beq_iff_eq.1 c)⟩
  unfold plO; rw [e]
theorem plO_miss {l : List Or} {n : Int} (hn : ∀ (j : Nat) (y : Or), l[j]? = some y → y.nu ≠ n) : plO l n = -1 := by
  have e : l.findIdx? (fun x => x.nu == n) = none := List.findIdx?_eq_none_iff.2 fun y hy => by
    obtain ⟨j, hj⟩ := List.getElem?_of_mem hy
    exact beq_eq_false_iff_ne.2 (hn j y hj)
  unfold plO; rw [e]
theorem plO_cases (l : List Or) (n : Int) : (plO l n = -1 ∧ ∀ y, y ∈ l → y.nu ≠ n) ∨ ∃ (k : Nat) (x : Or), plO l n = k ∧ l[k]? = some x ∧ x.nu = n := by
  unfold plO
  cases e : l.findIdx? (fun x => x.nu == n) with
  | none => exact .inl ⟨rfl, fun y hy => by have := List.findIdx?_eq_none_iff.1 e y hy; exact beq_eq_false_iff_ne.1 this⟩
  | some k =>
    obtain ⟨hk, hp, _⟩ := List.findIdx?_eq_some_iff_getElem.1 e
    exact .inr ⟨k, _, rfl, List.getElem?_eq_getElem hk, beq_iff_eq.1 hp⟩
set_option maxRecDepth 100000 in
theorem rpl_any (B g : Nat) (v : Value) (buy : Bool) (l : List Or) (n : Int) (w : World) (h : Rs w B g v buy l) (hn : 0 ≤ n ∧ n ≤ 18446744073709551615) :
    Calls Try.prog 35 #[.pointer (some ⟨g, 0, none⟩), .int .u64 n] w fun e w' => e = .returned (.int .i64 (plO l n)) ∧ w = w' := by
  have d1 := h.c1
  obtain ⟨A, c, rfl, _⟩ := gown_form h.own
  have HH := Lib.hid h
  have hle := h.le
  obtain ⟨n1, n2⟩ := hn
  obtain ⟨m, hm⟩ : ∃ m, l.length = m := ⟨_, rfl⟩
  rw [hm] at d1 hle
  have HL := Lib.hid hm
  clear h hm
  go_enter Try.func35, Try.ntmps35
  go_wp2_with fail
  go_loop [5] (fun i => ∃ k : Nat, k ≤ m ∧ i = .int .i64 k ∧ ∀ (j : Nat) (x : Or), j < k → l[j]? = some x → x.nu ≠ n) (fun i => m - (intOf i).toNat)
  case atStart => exact ⟨0, Nat.zero_le _, rfl, fun j x hj => absurd hj (Nat.not_lt_zero j)⟩
  case round =>
    obtain ⟨k, hk, rfl, hno⟩ := hrel
    have HN := Lib.hid hno
    clear hno
    by_cases hlt : k < m
    case neg =>
      obtain rfl : k = m := by omega
      have E : Hid (plO l n = -1) := Lib.hid (plO_miss fun j x hj => HN.out j x (by rw [← HL.out]; exact (List.getElem?_eq_some_iff.1 hj).1) hj)
      go_wp2_with fail
      go_ret
      refine ⟨?_, rfl⟩
      rw [E.out]
      rfl
    case pos =>
      have hd : decide ((k : Int) < m) = true := decide_eq_true (by omega)
      obtain ⟨x, hx⟩ : ∃ x, l[k]? = some x := ⟨l[k]'(by rw [HL.out]; exact hlt), List.getElem?_eq_getElem _⟩
      obtain ⟨b, c', eb⟩ := gown_slot HH.out.own (by have := HL.out; omega)
      injection eb with e1 _ e2
      subst e1 e2
      have hcell := gown_at HH.out.own hx (i := 0) (by decide)
      have e0 : (EO.cells x)[0]? = some (.int .u64 x.nu) := rfl
      have eN : EO.N = 5 := rfl
      rw [e0, eN, Nat.add_zero] at hcell
      obtain ⟨hb1, hb2⟩ := (HH.out.ok x (List.mem_of_getElem? hx)).nu
      have HX := Lib.hid hx
      clear hx e0 eN
      by_cases he : x.nu = n
      · have E : Hid (plO l n = k) := Lib.hid (plO_hit HX.out he HN.out)
        have he1 : (x.nu == n) = true := beq_iff_eq.2 he
        clear he
        go_wp2_with fail
        go_ret
        refine ⟨?_, rfl⟩
        rw [E.out]
        rfl
      · have he1 : (x.nu == n) = false := beq_eq_false_iff_ne.2 he
        have HE := Lib.hid he
        clear he
        go_wp2_with fail
        go_round
        case rel =>
          refine ⟨k + 1, hlt, by go_num, fun j y hj hy => ?_⟩
          rcases Nat.lt_or_ge j k with c | c
          · exact HN.out j y c hy
          · obtain rfl : j = k := by omega
            rw [HX.out] at hy
            cases hy
            exact HE.out
        case measure => simp [intOf]; omega
set_option maxRecDepth 100000 in
set_option maxHeartbeats 2000000 in
theorem rwo_any (A : Option Addr) (n c i : Nat) (l : List Or) (w : World) (h : EO.Rd w A n l) (hn : n ≤ 200) (hi : i < n) (hc : n ≤ c ∧ c ≤ 9223372036854775807) :
    Calls Try.prog 52 #[.slice A n c, .int .i64 i] w fun e w' => ∃ v', e = .returned v' ∧ EO.Own 33 w' w.heap.size v' (l.eraseIdx i) ∧ Below w.heap.size w w' := by
  cases A with
  | none => have := h.2.1 rfl; omega
  | some a =>
    obtain ⟨ea, _⟩ := h.2.2 (by omega) a rfl
    obtain ⟨b, o, sp⟩ := a
    cases ea
    have B0 := Lib.hid (below_new w (.cells #[] 33))
    have O0 : Hid (EO.Own 33 (w.alloc (.cells #[] 33)) w.heap.size (.slice (some ⟨w.heap.size, 0, none⟩) 0 0) []) := Lib.hid (gown_new w)
    have R1 : Hid (EO.Rd (w.alloc (.cells #[] 33)) (some ⟨b, o, none⟩) i (l.take i)) := Lib.hid (by
      have := grd_part (grd_below h B0.out (Nat.le_refl _)) (i := 0) (j := i) (Nat.zero_le _) (by omega)
      rw [Nat.sub_zero, List.drop_zero] at this
      simpa using this)
    have RW := Lib.hid fun (W : World) (q : Below w.heap.size w W) => by
      have := grd_part (grd_below h q (Nat.le_refl _)) (i := i + 1) (j := n) (by omega) (Nat.le_refl _)
      rw [List.take_of_length_le (by rw [h.1]; exact Nat.le_refl _)] at this
      exact this
    have EL : Hid (l.take i ++ l.drop (i + 1) = l.eraseIdx i) := Lib.hid (List.eraseIdx_eq_take_drop_succ l i).symm
    have HL := Lib.hid h.1
    obtain ⟨c1, c2⟩ := hc
    have hin : (i : Int) ≤ (c : Int) := by omega
    have hi1 : (i : Int) + 1 ≤ (n : Int) := by omega
    have hw1 : IntKind.i64.wrap ((i : Int) + 1) = (i : Int) + 1 := by rw [IntKind.wrap_i64]; omega
    have htn : ((i : Int) + 1).toNat = i + 1 := by omega
    have hb1 : (0 : Int) ≤ (i : Int) + 1 := by omega
    clear h
    by_cases hci : c = i + 1
    · obtain rfl : n = i + 1 := by omega
      subst hci
      have ED : Hid (l.drop (i + 1) = []) := Lib.hid (List.drop_of_length_le (by rw [HL.out]; exact Nat.le_refl _))
      go_enter Try.func52, Try.ntmps52
      go_wp2_with (first
        | (at_builtin; refine gpl_app TO rfl (.tmp 6) (.tmp 9) rfl w.heap.size _ [] rfl O0.out (some ⟨b, o, none⟩) i (i + 1) (l.take i) rfl R1.out (fun e => by cases e) (by simp; omega) (by simp) ?_; intro v1 w1 o1 g1 _; obtain ⟨A1, n1, k1, rfl⟩ := gown_any o1; have O1 := Lib.hid o1; have G1 := Lib.hid (B0.out.grown g1 (by simp) (fun k e => (by cases e; exact Nat.le_refl _))); clear o1 g1)
        | (at_builtin; refine gpl_app TO rfl (.tmp 11) (.tmp 15) rfl w.heap.size _ ([] ++ l.take i) rfl O1.out (some ⟨b, o, none⟩) 0 0 [] rfl (grd_nil _ _) (fun e => by cases e) (by simp; omega) G1.out.size ?_; intro v2 w2 o2 g2 _; have O2 := Lib.hid o2; have G2 := Lib.hid (G1.out.grown g2 G1.out.size (fun k e => (gown_lt O1.out e).1)); clear o2 g2))
      go_ret
      refine ⟨_, rfl, ?_, G2.out⟩
      have e := O2.out
      rw [List.append_nil, List.nil_append] at e
      rw [← EL.out, ED.out, List.append_nil]
      exact e
    · go_enter Try.func52, Try.ntmps52
      go_wp2_with (first
        | (at_builtin; refine gpl_app TO rfl (.tmp 6) (.tmp 9) rfl w.heap.size _ [] rfl O0.out (some ⟨b, o, none⟩) i c (l.take i) rfl R1.out (fun e => by cases e) (by simp; omega) (by simp) ?_; intro v1 w1 o1 g1 _; obtain ⟨A1, n1, k1, rfl⟩ := gown_any o1; have O1 := Lib.hid o1; have G1 := Lib.hid (B0.out.grown g1 (by simp) (fun k e => (by cases e; exact Nat.le_refl _))); clear o1 g1)
        | (at_builtin; refine gpl_app TO rfl (.tmp 11) (.tmp 15) rfl w.heap.size _ ([] ++ l.take i) rfl O1.out (some ⟨b, o + (i + 1) * 5, none⟩) (n - (i + 1)) (c - (i + 1)) (l.drop (i + 1)) rfl (RW.out _ G1.out) (fun e => by cases e) (by simp; omega) G1.out.size ?_; intro v2 w2 o2 g2 _; have O2 := Lib.hid o2; have G2 := Lib.hid (G1.out.grown g2 G1.out.size (fun k e => (gown_lt O1.out e).1)); clear o2 g2))
      go_ret
      refine ⟨_, rfl, ?_, G2.out⟩
      have e := O2.out
      rw [List.nil_append] at e
      rw [← EL.out]
      exact e
end Go.Proofs.Ytpnccbcaoifdiaa
