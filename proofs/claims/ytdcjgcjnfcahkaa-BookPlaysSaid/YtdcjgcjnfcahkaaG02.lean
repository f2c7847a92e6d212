/- Texts of a proof, laid together: Sr, Sf, Sg, Sh, Si. -/
import Derived.Deep.RegionHeld3
import Derived.Test.YtdcjgcjnfcahkaaG01
/- Contracts of the document's plain side: May, Better, place, first, without. -/
namespace Go.Proofs.Ytdcjgcjnfcahkaa
open Go.RowKit
set_option linter.unusedVariables false

/-- The plain side at block g: whether it buys, and the orders as they came. -/
structure Rs (W : World) (B g : Nat) (v : Value) (buy : Bool) (l : List Or) : Prop where
  blk : W.heap[g]? = some (.cells #[.bool buy, v] 70 (0, 0))
  own : EO.Own 31 W B v l
  ge : B ≤ g
  le : l.length ≤ 100
  ok : ∀ x, x ∈ l → x.ok
def RsS (g : Nat) (v : Value) (k : Nat) : Prop := k = g ∨ v.ownBlock = some k
section
variable {W W' : World} {B g : Nat} {v : Value} {buy : Bool} {l : List Or}
theorem Rs.c0 (h : Rs W B g v buy l) : W.cell? ⟨g, 0, none⟩ = some (.bool buy) := by rw [cell_of_row _ _ _ _ _ _ h.blk]; rfl
theorem Rs.c1 (h : Rs W B g v buy l) : W.cell? ⟨g, 1, none⟩ = some v := by rw [cell_of_row _ _ _ _ _ _ h.blk]; rfl
theorem Rs.fz (h : Rs W B g v buy l) (j : Nat) : W.frozen? ⟨g, j, none⟩ = false := by simp [World.frozen?, h.blk]
theorem Rs.gl (h : Rs W B g v buy l) : g < W.heap.size := (Array.getElem?_eq_some_iff.1 h.blk).1
theorem Rs.apart (h : Rs W B g v buy l) (k : Nat) (hk : v.ownBlock = some k) : k ≠ g := by
  rintro rfl
  obtain ⟨cur, hh⟩ := gown_cells h.own hk
  rw [h.blk] at hh
  injection hh with hh
  injection hh with _ hh
  exact absurd hh (by decide)
theorem Rs.keep {S : Nat → Prop} (h : Rs W B g v buy l) (f : Fr S W W') (hg : ¬ S g) (hv : ∀ k, v.ownBlock = some k → ¬ S k) : Rs W' B g v buy l :=
  ⟨(f.at' g h.gl hg).trans h.blk, gown_fr h.own f hv, h.ge, h.le, h.ok⟩
theorem Rs.below (h : Rs W B g v buy l) (q : Below W.heap.size W W') : Rs W' B g v buy l := h.keep (S := fun _ => False) (Fr.below q) (fun h => h) (fun _ _ h => h)
theorem Rs.drewN (h : Rs W B g v buy l) (n : Nat) : Rs (W.drewN n) B g v buy l := ⟨h.blk, h.own, h.ge, h.le, h.ok⟩
/-- The list is another one. -/
theorem Rs.put {l' : List Or} {v' : Value} (h : Rs W B g v buy l) (o : EO.Own 31 W B v' l') (ho : v'.ownBlock ≠ some g) (le : l'.length ≤ 100) (ok : ∀ x, x ∈ l' → x.ok) : Rs (W.setCell ⟨g, 1, none⟩ v') B g v' buy l' :=
  ⟨heap_setCell_same W g 1 _ _ _ h.blk, gown_same o fun k hk => heap_setCell_other W _ k _ (fun e => ho (by rw [hk, e])), h.ge, le, ok⟩
end
/-- Where an order stands, by its number: -1, or its place. -/
def plO (l : List Or) (n : Int) : Int := match l.findIdx? (fun x => x.nu == n) with | some k => (k : Int) | none => -1
theorem plO_hit {l : List Or} {n : Int} {k : Nat} {x : Or} (hx : l[k]? = some x) (hp : x.nu = n) (hn : ∀ (j : Nat) (y : Or), j < k → l[j]? = some y → y.nu ≠ n) : plO l n = k := by
  obtain ⟨hk, rfl⟩ := List.getElem?_eq_some_iff.1 hx
  have e : l.findIdx? (fun x => x.nu == n) = some k := List.findIdx?_eq_some_iff_getElem.2 ⟨hk, beq_iff_eq.2 hp, fun j hj c => hn j _ hj (List.getElem?_eq_getElem _) (beq_iff_eq.1 c)⟩
  unfold plO; rw [e]
theorem plO_miss {l : List Or} {n : Int} (hn : ∀ (j : Nat) (y : Or), l[j]? = some y → y.nu ≠ n) : plO l n = -1 := by
  have e : l.findIdx? (fun x => x.nu == n) = none := List.findIdx?_eq_none_iff.2 fun y hy => by
    obtain ⟨j, hj⟩ := List.getElem?_of_mem hy
    exact beq_eq_false_iff_ne.2 (hn j y hj)
  unfold plO; rw [e]
theorem plO_cases (l : List Or) (n : Int) : (plO l n = -1 ∧ ∀ y, y ∈ l → y.nu ≠ n) ∨ ∃ (k : Nat) (x : Or), plO l n = k ∧ l[k]? = some x ∧ x.nu = n := by
  unfold plO
  cases e : l.findIdx? (fun x => x.nu == n) with
  | none => exact .inl ⟨rfl, fun y hy => by have := List.findIdx?_eq_none_iff.1 e y hy; exact beq_eq_false_iff_ne.1 this⟩
  | some k =>
    obtain ⟨hk, hp, _⟩ := List.findIdx?_eq_some_iff_getElem.1 e
    exact .inr ⟨k, _, rfl, List.getElem?_eq_getElem hk, beq_iff_eq.1 hp⟩
set_option maxRecDepth 100000 in
theorem rpl_any (B g : Nat) (v : Value) (buy : Bool) (l : List Or) (n : Int) (w : World) (h : Rs w B g v buy l) (hn : 0 ≤ n ∧ n ≤ 18446744073709551615) :
    Calls Try.prog 80 #[.pointer (some ⟨g, 0, none⟩), .int .u64 n] w fun e w' => e = .returned (.int .i64 (plO l n)) ∧ w = w' := by
  have d1 := h.c1
  obtain ⟨A, c, rfl, _⟩ := gown_form h.own
  have HH := Lib.hid h
  have hle := h.le
  obtain ⟨n1, n2⟩ := hn
  obtain ⟨m, hm⟩ : ∃ m, l.length = m := ⟨_, rfl⟩
  rw [hm] at d1 hle
  have HL := Lib.hid hm
  clear h hm
  go_enter Try.func80, Try.ntmps80
  go_wp2_with fail
  go_loop [5] (fun i => ∃ k : Nat, k ≤ m ∧ i = .int .i64 k ∧ ∀ (j : Nat) (x : Or), j < k → l[j]? = some x → x.nu ≠ n) (fun i => m - (intOf i).toNat)
  case atStart => exact ⟨0, Nat.zero_le _, rfl, fun j x hj => absurd hj (Nat.not_lt_zero j)⟩
  case round =>
    obtain ⟨k, hk, rfl, hno⟩ := hrel
    have HN := Lib.hid hno
    clear hno
    by_cases hlt : k < m
    case neg =>
      obtain rfl : k = m := by omega
      have E : Hid (plO l n = -1) := Lib.hid (plO_miss fun j x hj => HN.out j x (by rw [← HL.out]; exact (List.getElem?_eq_some_iff.1 hj).1) hj)
      go_wp2_with fail
      go_ret
      refine ⟨?_, rfl⟩
      rw [E.out]
      rfl
    case pos =>
      have hd : decide ((k : Int) < m) = true := decide_eq_true (by omega)
      obtain ⟨x, hx⟩ : ∃ x, l[k]? = some x := ⟨l[k]'(by rw [HL.out]; exact hlt), List.getElem?_eq_getElem _⟩
      obtain ⟨b, c', eb⟩ := gown_slot HH.out.own (by have := HL.out; omega)
      injection eb with e1 _ e2
      subst e1 e2
      have hcell := gown_at HH.out.own hx (i := 0) (by decide)
      have e0 : (EO.cells x)[0]? = some (.int .u64 x.nu) := rfl
      have eN : EO.N = 5 := rfl
      rw [e0, eN, Nat.add_zero] at hcell
      obtain ⟨hb1, hb2⟩ := (HH.out.ok x (List.mem_of_getElem? hx)).nu
      have HX := Lib.hid hx
      clear hx e0 eN
      by_cases he : x.nu = n
      · have E : Hid (plO l n = k) := Lib.hid (plO_hit HX.out he HN.out)
        have he1 : (x.nu == n) = true := beq_iff_eq.2 he
        clear he
        go_wp2_with fail
        go_ret
        refine ⟨?_, rfl⟩
        rw [E.out]
        rfl
      · have he1 : (x.nu == n) = false := beq_eq_false_iff_ne.2 he
        have HE := Lib.hid he
        clear he
        go_wp2_with fail
        go_round
        case rel =>
          refine ⟨k + 1, hlt, by go_num, fun j y hj hy => ?_⟩
          rcases Nat.lt_or_ge j k with c | c
          · exact HN.out j y c hy
          · obtain rfl : j = k := by omega
            rw [HX.out] at hy
            cases hy
            exact HE.out
        case measure => simp [intOf]; omega
set_option maxRecDepth 100000 in
set_option maxHeartbeats 2000000 in
theorem rwo_any (A : Option Addr) (n c i : Nat) (l : List Or) (w : World) (h : EO.Rd w A n l) (hn : n ≤ 200) (hi : i < n) (hc : n ≤ c ∧ c ≤ 9223372036854775807) :
    Calls Try.prog 62 #[.slice A n c, .int .i64 i] w fun e w' => ∃ v', e = .returned v' ∧ EO.Own 31 w' w.heap.size v' (l.eraseIdx i) ∧ Below w.heap.size w w' := by
  cases A with
  | none => have := h.2.1 rfl; omega
  | some a =>
    obtain ⟨ea, _⟩ := h.2.2 (by omega) a rfl
    obtain ⟨b, o, sp⟩ := a
    cases ea
    have B0 := Lib.hid (below_new w (.cells #[] 31))
    have O0 : Hid (EO.Own 31 (w.alloc (.cells #[] 31)) w.heap.size (.slice (some ⟨w.heap.size, 0, none⟩) 0 0) []) := Lib.hid (gown_new w)
    have R1 : Hid (EO.Rd (w.alloc (.cells #[] 31)) (some ⟨b, o, none⟩) i (l.take i)) := Lib.hid (by
      have := grd_part (grd_below h B0.out (Nat.le_refl _)) (i := 0) (j := i) (Nat.zero_le _) (by omega)
      rw [Nat.sub_zero, List.drop_zero] at this
      simpa using this)
    have RW := Lib.hid fun (W : World) (q : Below w.heap.size w W) => by
      have := grd_part (grd_below h q (Nat.le_refl _)) (i := i + 1) (j := n) (by omega) (Nat.le_refl _)
      rw [List.take_of_length_le (by rw [h.1]; exact Nat.le_refl _)] at this
      exact this
    have EL : Hid (l.take i ++ l.drop (i + 1) = l.eraseIdx i) := Lib.hid (List.eraseIdx_eq_take_drop_succ l i).symm
    have HL := Lib.hid h.1
    obtain ⟨c1, c2⟩ := hc
    have hin : (i : Int) ≤ (c : Int) := by omega
    have hi1 : (i : Int) + 1 ≤ (n : Int) := by omega
    have hw1 : IntKind.i64.wrap ((i : Int) + 1) = (i : Int) + 1 := by rw [IntKind.wrap_i64]; omega
    have htn : ((i : Int) + 1).toNat = i + 1 := by omega
    have hb1 : (0 : Int) ≤ (i : Int) + 1 := by omega
    clear h
    by_cases hci : c = i + 1
    · obtain rfl : n = i + 1 := by omega
      subst hci
      have ED : Hid (l.drop (i + 1) = []) := Lib.hid (List.drop_of_length_le (by rw [HL.out]; exact Nat.le_refl _))
      go_enter Try.func62, Try.ntmps62
      go_wp2_with (first
        | (at_builtin; refine gpl_app TO rfl (.tmp 6) (.tmp 9) rfl w.heap.size _ [] rfl O0.out (some ⟨b, o, none⟩) i (i + 1) (l.take i) rfl R1.out (fun e => by cases e) (by simp; omega) (by simp) ?_; intro v1 w1 o1 g1 _; obtain ⟨A1, n1, k1, rfl⟩ := gown_any o1; have O1 := Lib.hid o1; have G1 := Lib.hid (B0.out.grown g1 (by simp) (fun k e => (by cases e; exact Nat.le_refl _))); clear o1 g1)
        | (at_builtin; refine gpl_app TO rfl (.tmp 11) (.tmp 15) rfl w.heap.size _ ([] ++ l.take i) rfl O1.out (some ⟨b, o, none⟩) 0 0 [] rfl (grd_nil _ _) (fun e => by cases e) (by simp; omega) G1.out.size ?_; intro v2 w2 o2 g2 _; have O2 := Lib.hid o2; have G2 := Lib.hid (G1.out.grown g2 G1.out.size (fun k e => (gown_lt O1.out e).1)); clear o2 g2))
      go_ret
      refine ⟨_, rfl, ?_, G2.out⟩
      have e := O2.out
      rw [List.append_nil, List.nil_append] at e
      rw [← EL.out, ED.out, List.append_nil]
      exact e
    · go_enter Try.func62, Try.ntmps62
      go_wp2_with (first
        | (at_builtin; refine gpl_app TO rfl (.tmp 6) (.tmp 9) rfl w.heap.size _ [] rfl O0.out (some ⟨b, o, none⟩) i c (l.take i) rfl R1.out (fun e => by cases e) (by simp; omega) (by simp) ?_; intro v1 w1 o1 g1 _; obtain ⟨A1, n1, k1, rfl⟩ := gown_any o1; have O1 := Lib.hid o1; have G1 := Lib.hid (B0.out.grown g1 (by simp) (fun k e => (by cases e; exact Nat.le_refl _))); clear o1 g1)
        | (at_builtin; refine gpl_app TO rfl (.tmp 11) (.tmp 15) rfl w.heap.size _ ([] ++ l.take i) rfl O1.out (some ⟨b, o + (i + 1) * 5, none⟩) (n - (i + 1)) (c - (i + 1)) (l.drop (i + 1)) rfl (RW.out _ G1.out) (fun e => by cases e) (by simp; omega) G1.out.size ?_; intro v2 w2 o2 g2 _; have O2 := Lib.hid o2; have G2 := Lib.hid (G1.out.grown g2 G1.out.size (fun k e => (gown_lt O1.out e).1)); clear o2 g2))
      go_ret
      refine ⟨_, rfl, ?_, G2.out⟩
      have e := O2.out
      rw [List.nil_append] at e
      rw [← EL.out]
      exact e
end Go.Proofs.Ytdcjgcjnfcahkaa
/- Contracts of the document's plain side: first. -/
namespace Go.Proofs.Ytdcjgcjnfcahkaa
open Go.RowKit
set_option linter.unusedVariables false

theorem fst_none {buy : Bool} {l : List Or} {k : Nat} {x : Or} (h : l[k]? = some x) (hf : fstO buy l k < 0) : fstO buy l (k + 1) = k := by
  rw [fstO, h]; simp only; rw [if_pos (.inl hf)]
theorem fst_yes {buy : Bool} {l : List Or} {k j : Nat} {x y : Or} (h : l[k]? = some x) (hf : fstO buy l k = j) (hy : l[j]? = some y) (hb : btr buy x.pr y.pr = true) : fstO buy l (k + 1) = k := by
  have e : prOf l j = y.pr := by unfold prOf; rw [Int.toNat_natCast, hy]
  rw [fstO, h]; simp only [hf, e]; rw [if_pos (.inr hb)]
theorem fst_not {buy : Bool} {l : List Or} {k j : Nat} {x y : Or} (h : l[k]? = some x) (hf : fstO buy l k = j) (hy : l[j]? = some y) (hb : btr buy x.pr y.pr = false) : fstO buy l (k + 1) = j := by
  have e : prOf l j = y.pr := by unfold prOf; rw [Int.toNat_natCast, hy]
  rw [fstO, h]; simp only [hf, e]; rw [if_neg (by rw [hb]; exact fun c => c.elim (fun c => by omega) (fun c => by cases c))]
set_option maxRecDepth 100000 in
set_option maxHeartbeats 2000000 in
theorem rfst_any (buy : Bool) (A : Option Addr) (n c : Nat) (l : List Or) (w : World) (h : EO.Rd w A n l) (hok : ∀ x, x ∈ l → x.ok) (hn : n ≤ 1000) :
    Calls Try.prog 61 #[.bool buy, .slice A n c] w fun e w' => e = .returned (.int .i64 (fstO buy l l.length)) ∧ Below w.heap.size w w' := by
  have HR := Lib.hid h
  have HK := Lib.hid hok
  have HL := Lib.hid h.1
  have BT := Lib.hid fun a b W => rbtr_any buy a b W
  have B0 : Hid (Below w.heap.size w w) := Lib.hid (Below.refl _ _)
  rw [h.1]
  clear h hok
  go_enter Try.func61, Try.ntmps61
  go_wp2_with fail
  go_loopw [5, 6] (fun f i wr => ∃ k : Nat, k ≤ n ∧ i = .int .i64 k ∧ f = .int .i64 (fstO buy l k) ∧ Below w.heap.size w wr) (fun _ i _ => n - (intOf i).toNat)
  case atStart => exact ⟨0, Nat.zero_le _, rfl, rfl, B0.out⟩
  case round =>
    obtain ⟨k, hk, rfl, rfl, hb⟩ := hrel
    have BW := Lib.hid hb
    clear hb
    by_cases hlt : k < n
    case neg =>
      obtain rfl : k = n := by omega
      have hd : decide ((k : Int) < k) = false := decide_eq_false (by omega)
      obtain ⟨f, hf⟩ : ∃ f, fstO buy l k = f := ⟨_, rfl⟩
      have E := Lib.hid hf
      rw [hf]
      clear hf
      go_wp2_with fail
      go_ret
      rw [E.out]
      exact ⟨rfl, BW.out⟩
    case pos =>
      have hd : decide ((k : Int) < n) = true := decide_eq_true (by omega)
      have hki : (k : Int) < (n : Int) := by omega
      obtain ⟨x, hx⟩ : ∃ x, l[k]? = some x := ⟨l[k]'(by rw [HL.out]; exact hlt), List.getElem?_eq_getElem _⟩
      have HX := Lib.hid hx
      rcases fst_range buy l k (by rw [HL.out]; omega) with ⟨hk0, hf⟩ | ⟨j, y, hf, hjk, hy⟩
      · have E := Lib.hid (fst_none hx (show fstO buy l k < 0 by omega))
        rw [hf]
        clear hx hf hk0
        go_wp2_with fail
        refine wp_region_held_drew (S := fun U => U = wr.drew) (by kernel_rfl) rfl (fun hH => ?_)
        refine wpAnyH_take (i := 0) (v := .int .i64 (-1)) rfl (by kernel_rfl) (by kernel_rfl) (by kernel_rfl) (fun _ _ _ h => h) (.inl ⟨by rfl, ?_⟩) (by assumption) ?_
        · intro W hW; subst hW; go_simp
        try simp only [List.getElem_toArray, List.getElem_cons_zero, Act.put, List.setIfInBounds_toArray, List.set_cons_zero, List.set_cons_succ]
        refine wpAnyH_take (i := 1) (v := .bool true) rfl (by kernel_rfl) (by kernel_rfl) (by kernel_rfl) (fun _ _ _ h => h) (.inl ⟨by rfl, ?_⟩) (by assumption) ?_
        · intro W hW; subst hW; go_simp
        try simp only [List.getElem_toArray, List.getElem_cons_zero, List.getElem_cons_succ, Act.put, List.setIfInBounds_toArray, List.set_cons_zero, List.set_cons_succ]
        refine wpAnyH_take (i := 2) (v := .bool true) rfl (by kernel_rfl) (by kernel_rfl) (by kernel_rfl) (fun _ _ _ h => h) (.inl ⟨by rfl, ?_⟩) (by assumption) ?_
        · intro W hW; subst hW; go_simp
        try simp only [List.getElem_toArray, List.getElem_cons_zero, List.getElem_cons_succ, Act.put, List.setIfInBounds_toArray, List.set_cons_zero, List.set_cons_succ]
        refine wpAnyH_take (i := 3) (v := undef) rfl (by kernel_rfl) (by kernel_rfl) (by kernel_rfl) (fun _ _ _ h => h) (.inr ⟨by rfl, rfl⟩) (by assumption) ?_
        try simp only [List.getElem_toArray, List.getElem_cons_zero, List.getElem_cons_succ, Act.put, List.setIfInBounds_toArray, List.set_cons_zero, List.set_cons_succ]
        refine wpAnyH_take (i := 4) (v := undef) rfl (by kernel_rfl) (by kernel_rfl) (by kernel_rfl) (fun _ _ _ h => h) (.inr ⟨by rfl, rfl⟩) (by assumption) ?_
        try simp only [List.getElem_toArray, List.getElem_cons_zero, List.getElem_cons_succ, Act.put, List.setIfInBounds_toArray, List.set_cons_zero, List.set_cons_succ]
        refine wpAnyH_take (i := 5) (v := undef) rfl (by kernel_rfl) (by kernel_rfl) (by kernel_rfl) (fun _ _ _ h => h) (.inr ⟨by rfl, rfl⟩) (by assumption) ?_
        try simp only [List.getElem_toArray, List.getElem_cons_zero, List.getElem_cons_succ, Act.put, List.setIfInBounds_toArray, List.set_cons_zero, List.set_cons_succ]
        refine wpAnyH_take (i := 6) (v := undef) rfl (by kernel_rfl) (by kernel_rfl) (by kernel_rfl) (fun _ _ _ h => h) (.inr ⟨by rfl, rfl⟩) (by assumption) ?_
        try simp only [List.getElem_toArray, List.getElem_cons_zero, List.getElem_cons_succ, Act.put, List.setIfInBounds_toArray, List.set_cons_zero, List.set_cons_succ]
        refine wpAnyH_take (i := 7) (v := undef) rfl (by kernel_rfl) (by kernel_rfl) (by kernel_rfl) (fun _ _ _ h => h) (.inr ⟨by rfl, rfl⟩) (by assumption) ?_
        try simp only [List.getElem_toArray, List.getElem_cons_zero, List.getElem_cons_succ, Act.put, List.setIfInBounds_toArray, List.set_cons_zero, List.set_cons_succ]
        refine wpAnyH_take (i := 8) (v := undef) rfl (by kernel_rfl) (by kernel_rfl) (by kernel_rfl) (fun _ _ _ h => h) (.inr ⟨by rfl, rfl⟩) (by assumption) ?_
        try simp only [List.getElem_toArray, List.getElem_cons_zero, List.getElem_cons_succ, Act.put, List.setIfInBounds_toArray, List.set_cons_zero, List.set_cons_succ]
        refine wpAnyH_take (i := 9) (v := undef) rfl (by kernel_rfl) (by kernel_rfl) (by kernel_rfl) (fun _ _ _ h => h) (.inr ⟨by rfl, rfl⟩) (by assumption) ?_
        try simp only [List.getElem_toArray, List.getElem_cons_zero, List.getElem_cons_succ, Act.put, List.setIfInBounds_toArray, List.set_cons_zero, List.set_cons_succ]
        refine wpAnyH_take (i := 10) (v := undef) rfl (by kernel_rfl) (by kernel_rfl) (by kernel_rfl) (fun _ _ _ h => h) (.inr ⟨by rfl, rfl⟩) (by assumption) ?_
        try simp only [List.getElem_toArray, List.getElem_cons_zero, List.getElem_cons_succ, Act.put, List.setIfInBounds_toArray, List.set_cons_zero, List.set_cons_succ]
        refine wpAnyH_take (i := 11) (v := undef) rfl (by kernel_rfl) (by kernel_rfl) (by kernel_rfl) (fun _ _ _ h => h) (.inr ⟨by rfl, rfl⟩) (by assumption) ?_
        try simp only [List.getElem_toArray, List.getElem_cons_zero, List.getElem_cons_succ, Act.put, List.setIfInBounds_toArray, List.set_cons_zero, List.set_cons_succ]
        refine wpAnyH_take (i := 12) (v := undef) rfl (by kernel_rfl) (by kernel_rfl) (by kernel_rfl) (fun _ _ _ h => h) (.inr ⟨by rfl, rfl⟩) (by assumption) ?_
        try simp only [List.getElem_toArray, List.getElem_cons_zero, List.getElem_cons_succ, Act.put, List.setIfInBounds_toArray, List.set_cons_zero, List.set_cons_succ]
        refine wpAnyH_take (i := 13) (v := undef) rfl (by kernel_rfl) (by kernel_rfl) (by kernel_rfl) (fun _ _ _ h => h) (.inr ⟨by rfl, rfl⟩) (by assumption) ?_
        try simp only [List.getElem_toArray, List.getElem_cons_zero, List.getElem_cons_succ, Act.put, List.setIfInBounds_toArray, List.set_cons_zero, List.set_cons_succ]
        refine wpAnyH_take (i := 14) (v := undef) rfl (by kernel_rfl) (by kernel_rfl) (by kernel_rfl) (fun _ _ _ h => h) (.inr ⟨by rfl, rfl⟩) (by assumption) ?_
        try simp only [List.getElem_toArray, List.getElem_cons_zero, List.getElem_cons_succ, Act.put, List.setIfInBounds_toArray, List.set_cons_zero, List.set_cons_succ]
        refine wpAnyH_take (i := 15) (v := .bool true) rfl (by kernel_rfl) (by kernel_rfl) (by kernel_rfl) (fun _ _ _ h => h) (.inl ⟨by rfl, ?_⟩) (by assumption) ?_
        · intro W hW; subst hW; go_simp
        try simp only [List.getElem_toArray, List.getElem_cons_zero, List.getElem_cons_succ, Act.put, List.setIfInBounds_toArray, List.set_cons_zero, List.set_cons_succ]
        refine wpAnyH_done (by decide +kernel) ?_ _
        clear hH
        go_wp2_with fail
        go_roundw
        case rel => exact ⟨k + 1, hlt, by go_num, by rw [E.out], BW.out.drew⟩
        case measure => simp [intOf]; omega
      · have hj : j < n := by omega
        have hji : (j : Int) < (n : Int) := by omega
        have hj0 : decide ((j : Int) < 0) = false := decide_eq_false (by omega)
        have hk0 : decide ((k : Int) < 0) = false := decide_eq_false (by omega)
        obtain ⟨b, o, rfl, rx⟩ := grd_rng (grd_below HR.out BW.out (Nat.le_refl _)) hx
        obtain ⟨b', o', eb, ry⟩ := grd_rng (grd_below HR.out BW.out (Nat.le_refl _)) hy
        cases eb
        have cx : wr.drew.cell? ⟨b, o + k * 5 + 3, none⟩ = some (.int .i64 x.pr) := rx 3 _ rfl
        have cy : wr.drew.cell? ⟨b, o + j * 5 + 3, none⟩ = some (.int .i64 y.pr) := ry 3 _ rfl
        have hx2 := (HK.out x (List.mem_of_getElem? hx)).pr
        have hy2 := (HK.out y (List.mem_of_getElem? hy)).pr
        cases hb : btr buy x.pr y.pr
        all_goals
          have BTC := Lib.hid fun W => BT.out x.pr y.pr W
          rw [hb] at BTC
        · have E := Lib.hid (fst_not hx hf hy hb)
          rw [hf]
          clear hx hy hf hb rx ry
          go_wp2_with fail
          refine wp_region_held_drew (S := fun U => U = wr.drew) (by kernel_rfl) rfl (fun hH => ?_)
          refine wpAnyH_take (i := 0) (v := .int .i64 j) rfl (by kernel_rfl) (by kernel_rfl) (by kernel_rfl) (fun _ _ _ h => h) (.inl ⟨by rfl, ?_⟩) (by assumption) ?_
          · intro W hW; subst hW; go_simp
          try simp only [List.getElem_toArray, List.getElem_cons_zero, Act.put, List.setIfInBounds_toArray, List.set_cons_zero, List.set_cons_succ]
          refine wpAnyH_take (i := 1) (v := .bool false) rfl (by kernel_rfl) (by kernel_rfl) (by kernel_rfl) (fun _ _ _ h => h) (.inl ⟨by rfl, ?_⟩) (by assumption) ?_
          · intro W hW; subst hW; go_simp
          try simp only [List.getElem_toArray, List.getElem_cons_zero, List.getElem_cons_succ, Act.put, List.setIfInBounds_toArray, List.set_cons_zero, List.set_cons_succ]
          refine wpAnyH_take (i := 2) (v := .bool false) rfl (by kernel_rfl) (by kernel_rfl) (by kernel_rfl) (fun _ _ _ h => h) (.inl ⟨by rfl, ?_⟩) (by assumption) ?_
          · intro W hW; subst hW; go_simp
          try simp only [List.getElem_toArray, List.getElem_cons_zero, List.getElem_cons_succ, Act.put, List.setIfInBounds_toArray, List.set_cons_zero, List.set_cons_succ]
          refine wpAnyH_take (i := 3) (v := .bool buy) rfl (by kernel_rfl) (by kernel_rfl) (by kernel_rfl) (fun _ _ _ h => h) (.inl ⟨by rfl, ?_⟩) (by assumption) ?_
          · intro W hW; subst hW; go_simp
          try simp only [List.getElem_toArray, List.getElem_cons_zero, List.getElem_cons_succ, Act.put, List.setIfInBounds_toArray, List.set_cons_zero, List.set_cons_succ]
          refine wpAnyH_take (i := 4) (v := .slice (some ⟨b, o, none⟩) n c) rfl (by kernel_rfl) (by kernel_rfl) (by kernel_rfl) (fun _ _ _ h => h) (.inl ⟨by rfl, ?_⟩) (by assumption) ?_
          · intro W hW; subst hW; go_simp
          try simp only [List.getElem_toArray, List.getElem_cons_zero, List.getElem_cons_succ, Act.put, List.setIfInBounds_toArray, List.set_cons_zero, List.set_cons_succ]
          refine wpAnyH_take (i := 5) (v := .int .i64 k) rfl (by kernel_rfl) (by kernel_rfl) (by kernel_rfl) (fun _ _ _ h => h) (.inl ⟨by rfl, ?_⟩) (by assumption) ?_
          · intro W hW; subst hW; go_simp
          try simp only [List.getElem_toArray, List.getElem_cons_zero, List.getElem_cons_succ, Act.put, List.setIfInBounds_toArray, List.set_cons_zero, List.set_cons_succ]
          refine wpAnyH_take (i := 6) (v := .pointer (some ⟨b, o + k * 5, none⟩)) rfl (by kernel_rfl) (by kernel_rfl) (by kernel_rfl) (fun _ _ _ h => h) (.inl ⟨by rfl, ?_⟩) (by assumption) ?_
          · intro W hW; subst hW; go_simp
          try simp only [List.getElem_toArray, List.getElem_cons_zero, List.getElem_cons_succ, Act.put, List.setIfInBounds_toArray, List.set_cons_zero, List.set_cons_succ]
          refine wpAnyH_take (i := 7) (v := .pointer (some ⟨b, o + k * 5 + 3, none⟩)) rfl (by kernel_rfl) (by kernel_rfl) (by kernel_rfl) (fun _ _ _ h => h) (.inl ⟨by rfl, ?_⟩) (by assumption) ?_
          · intro W hW; subst hW; go_simp
          try simp only [List.getElem_toArray, List.getElem_cons_zero, List.getElem_cons_succ, Act.put, List.setIfInBounds_toArray, List.set_cons_zero, List.set_cons_succ]
          refine wpAnyH_take (i := 8) (v := .int .i64 x.pr) rfl (by kernel_rfl) (by kernel_rfl) (by kernel_rfl) (fun _ _ _ h => h) (.inl ⟨by rfl, ?_⟩) (by assumption) ?_
          · intro W hW; subst hW; go_simp
          try simp only [List.getElem_toArray, List.getElem_cons_zero, List.getElem_cons_succ, Act.put, List.setIfInBounds_toArray, List.set_cons_zero, List.set_cons_succ]
          refine wpAnyH_take (i := 9) (v := .slice (some ⟨b, o, none⟩) n c) rfl (by kernel_rfl) (by kernel_rfl) (by kernel_rfl) (fun _ _ _ h => h) (.inl ⟨by rfl, ?_⟩) (by assumption) ?_
          · intro W hW; subst hW; go_simp
          try simp only [List.getElem_toArray, List.getElem_cons_zero, List.getElem_cons_succ, Act.put, List.setIfInBounds_toArray, List.set_cons_zero, List.set_cons_succ]
          refine wpAnyH_take (i := 10) (v := .int .i64 j) rfl (by kernel_rfl) (by kernel_rfl) (by kernel_rfl) (fun _ _ _ h => h) (.inl ⟨by rfl, ?_⟩) (by assumption) ?_
          · intro W hW; subst hW; go_simp
          try simp only [List.getElem_toArray, List.getElem_cons_zero, List.getElem_cons_succ, Act.put, List.setIfInBounds_toArray, List.set_cons_zero, List.set_cons_succ]
          refine wpAnyH_take (i := 11) (v := .pointer (some ⟨b, o + j * 5, none⟩)) rfl (by kernel_rfl) (by kernel_rfl) (by kernel_rfl) (fun _ _ _ h => h) (.inl ⟨by rfl, ?_⟩) (by assumption) ?_
          · intro W hW; subst hW; go_simp
          try simp only [List.getElem_toArray, List.getElem_cons_zero, List.getElem_cons_succ, Act.put, List.setIfInBounds_toArray, List.set_cons_zero, List.set_cons_succ]
          refine wpAnyH_take (i := 12) (v := .pointer (some ⟨b, o + j * 5 + 3, none⟩)) rfl (by kernel_rfl) (by kernel_rfl) (by kernel_rfl) (fun _ _ _ h => h) (.inl ⟨by rfl, ?_⟩) (by assumption) ?_
          · intro W hW; subst hW; go_simp
          try simp only [List.getElem_toArray, List.getElem_cons_zero, List.getElem_cons_succ, Act.put, List.setIfInBounds_toArray, List.set_cons_zero, List.set_cons_succ]
          refine wpAnyH_take (i := 13) (v := .int .i64 y.pr) rfl (by kernel_rfl) (by kernel_rfl) (by kernel_rfl) (fun _ _ _ h => h) (.inl ⟨by rfl, ?_⟩) (by assumption) ?_
          · intro W hW; subst hW; go_simp
          try simp only [List.getElem_toArray, List.getElem_cons_zero, List.getElem_cons_succ, Act.put, List.setIfInBounds_toArray, List.set_cons_zero, List.set_cons_succ]
          refine wpAnyH_ready (rs := [14]) (by decide +kernel) (by simp) (AllReadyH.cons rfl (fun KQ hK => ?_) AllReadyH.nil)
          go_simp
          refine (BTC.out _).mono ?_; rintro e0 W1 ⟨rfl, rfl⟩
          have hH := hH
          refine hK.out _ _ hH (fun _ => ?_)
          clear hK 
          try simp only [List.setIfInBounds_toArray, List.set_cons_zero, List.set_cons_succ]
          refine wpAnyH_take (i := 15) (v := .bool false) rfl (by kernel_rfl) (by kernel_rfl) (by kernel_rfl) (fun _ _ _ h => h) (.inl ⟨by rfl, ?_⟩) (by assumption) ?_
          · intro W hW; subst hW; go_simp
          try simp only [List.getElem_toArray, List.getElem_cons_zero, List.getElem_cons_succ, Act.put, List.setIfInBounds_toArray, List.set_cons_zero, List.set_cons_succ]
          refine wpAnyH_done (by decide +kernel) ?_ _
          clear hH
          go_wp2_with fail
          go_roundw
          case rel => exact ⟨k + 1, hlt, by go_num, by rw [E.out], BW.out.drew⟩
          case measure => simp [intOf]; omega
        · have E := Lib.hid (fst_yes hx hf hy hb)
          rw [hf]
          clear hx hy hf hb rx ry
          go_wp2_with fail
          refine wp_region_held_drew (S := fun U => U = wr.drew) (by kernel_rfl) rfl (fun hH => ?_)
          refine wpAnyH_take (i := 0) (v := .int .i64 j) rfl (by kernel_rfl) (by kernel_rfl) (by kernel_rfl) (fun _ _ _ h => h) (.inl ⟨by rfl, ?_⟩) (by assumption) ?_
          · intro W hW; subst hW; go_simp
          try simp only [List.getElem_toArray, List.getElem_cons_zero, Act.put, List.setIfInBounds_toArray, List.set_cons_zero, List.set_cons_succ]
          refine wpAnyH_take (i := 1) (v := .bool false) rfl (by kernel_rfl) (by kernel_rfl) (by kernel_rfl) (fun _ _ _ h => h) (.inl ⟨by rfl, ?_⟩) (by assumption) ?_
          · intro W hW; subst hW; go_simp
          try simp only [List.getElem_toArray, List.getElem_cons_zero, List.getElem_cons_succ, Act.put, List.setIfInBounds_toArray, List.set_cons_zero, List.set_cons_succ]
          refine wpAnyH_take (i := 2) (v := .bool false) rfl (by kernel_rfl) (by kernel_rfl) (by kernel_rfl) (fun _ _ _ h => h) (.inl ⟨by rfl, ?_⟩) (by assumption) ?_
          · intro W hW; subst hW; go_simp
          try simp only [List.getElem_toArray, List.getElem_cons_zero, List.getElem_cons_succ, Act.put, List.setIfInBounds_toArray, List.set_cons_zero, List.set_cons_succ]
          refine wpAnyH_take (i := 3) (v := .bool buy) rfl (by kernel_rfl) (by kernel_rfl) (by kernel_rfl) (fun _ _ _ h => h) (.inl ⟨by rfl, ?_⟩) (by assumption) ?_
          · intro W hW; subst hW; go_simp
          try simp only [List.getElem_toArray, List.getElem_cons_zero, List.getElem_cons_succ, Act.put, List.setIfInBounds_toArray, List.set_cons_zero, List.set_cons_succ]
          refine wpAnyH_take (i := 4) (v := .slice (some ⟨b, o, none⟩) n c) rfl (by kernel_rfl) (by kernel_rfl) (by kernel_rfl) (fun _ _ _ h => h) (.inl ⟨by rfl, ?_⟩) (by assumption) ?_
          · intro W hW; subst hW; go_simp
          try simp only [List.getElem_toArray, List.getElem_cons_zero, List.getElem_cons_succ, Act.put, List.setIfInBounds_toArray, List.set_cons_zero, List.set_cons_succ]
          refine wpAnyH_take (i := 5) (v := .int .i64 k) rfl (by kernel_rfl) (by kernel_rfl) (by kernel_rfl) (fun _ _ _ h => h) (.inl ⟨by rfl, ?_⟩) (by assumption) ?_
          · intro W hW; subst hW; go_simp
          try simp only [List.getElem_toArray, List.getElem_cons_zero, List.getElem_cons_succ, Act.put, List.setIfInBounds_toArray, List.set_cons_zero, List.set_cons_succ]
          refine wpAnyH_take (i := 6) (v := .pointer (some ⟨b, o + k * 5, none⟩)) rfl (by kernel_rfl) (by kernel_rfl) (by kernel_rfl) (fun _ _ _ h => h) (.inl ⟨by rfl, ?_⟩) (by assumption) ?_
          · intro W hW; subst hW; go_simp
          try simp only [List.getElem_toArray, List.getElem_cons_zero, List.getElem_cons_succ, Act.put, List.setIfInBounds_toArray, List.set_cons_zero, List.set_cons_succ]
          refine wpAnyH_take (i := 7) (v := .pointer (some ⟨b, o + k * 5 + 3, none⟩)) rfl (by kernel_rfl) (by kernel_rfl) (by kernel_rfl) (fun _ _ _ h => h) (.inl ⟨by rfl, ?_⟩) (by assumption) ?_
          · intro W hW; subst hW; go_simp
          try simp only [List.getElem_toArray, List.getElem_cons_zero, List.getElem_cons_succ, Act.put, List.setIfInBounds_toArray, List.set_cons_zero, List.set_cons_succ]
          refine wpAnyH_take (i := 8) (v := .int .i64 x.pr) rfl (by kernel_rfl) (by kernel_rfl) (by kernel_rfl) (fun _ _ _ h => h) (.inl ⟨by rfl, ?_⟩) (by assumption) ?_
          · intro W hW; subst hW; go_simp
          try simp only [List.getElem_toArray, List.getElem_cons_zero, List.getElem_cons_succ, Act.put, List.setIfInBounds_toArray, List.set_cons_zero, List.set_cons_succ]
          refine wpAnyH_take (i := 9) (v := .slice (some ⟨b, o, none⟩) n c) rfl (by kernel_rfl) (by kernel_rfl) (by kernel_rfl) (fun _ _ _ h => h) (.inl ⟨by rfl, ?_⟩) (by assumption) ?_
          · intro W hW; subst hW; go_simp
          try simp only [List.getElem_toArray, List.getElem_cons_zero, List.getElem_cons_succ, Act.put, List.setIfInBounds_toArray, List.set_cons_zero, List.set_cons_succ]
          refine wpAnyH_take (i := 10) (v := .int .i64 j) rfl (by kernel_rfl) (by kernel_rfl) (by kernel_rfl) (fun _ _ _ h => h) (.inl ⟨by rfl, ?_⟩) (by assumption) ?_
          · intro W hW; subst hW; go_simp
          try simp only [List.getElem_toArray, List.getElem_cons_zero, List.getElem_cons_succ, Act.put, List.setIfInBounds_toArray, List.set_cons_zero, List.set_cons_succ]
          refine wpAnyH_take (i := 11) (v := .pointer (some ⟨b, o + j * 5, none⟩)) rfl (by kernel_rfl) (by kernel_rfl) (by kernel_rfl) (fun _ _ _ h => h) (.inl ⟨by rfl, ?_⟩) (by assumption) ?_
          · intro W hW; subst hW; go_simp
          try simp only [List.getElem_toArray, List.getElem_cons_zero, List.getElem_cons_succ, Act.put, List.setIfInBounds_toArray, List.set_cons_zero, List.set_cons_succ]
          refine wpAnyH_take (i := 12) (v := .pointer (some ⟨b, o + j * 5 + 3, none⟩)) rfl (by kernel_rfl) (by kernel_rfl) (by kernel_rfl) (fun _ _ _ h => h) (.inl ⟨by rfl, ?_⟩) (by assumption) ?_
          · intro W hW; subst hW; go_simp
          try simp only [List.getElem_toArray, List.getElem_cons_zero, List.getElem_cons_succ, Act.put, List.setIfInBounds_toArray, List.set_cons_zero, List.set_cons_succ]
          refine wpAnyH_take (i := 13) (v := .int .i64 y.pr) rfl (by kernel_rfl) (by kernel_rfl) (by kernel_rfl) (fun _ _ _ h => h) (.inl ⟨by rfl, ?_⟩) (by assumption) ?_
          · intro W hW; subst hW; go_simp
          try simp only [List.getElem_toArray, List.getElem_cons_zero, List.getElem_cons_succ, Act.put, List.setIfInBounds_toArray, List.set_cons_zero, List.set_cons_succ]
          refine wpAnyH_ready (rs := [14]) (by decide +kernel) (by simp) (AllReadyH.cons rfl (fun KQ hK => ?_) AllReadyH.nil)
          go_simp
          refine (BTC.out _).mono ?_; rintro e0 W1 ⟨rfl, rfl⟩
          have hH := hH
          refine hK.out _ _ hH (fun _ => ?_)
          clear hK 
          try simp only [List.setIfInBounds_toArray, List.set_cons_zero, List.set_cons_succ]
          refine wpAnyH_take (i := 15) (v := .bool true) rfl (by kernel_rfl) (by kernel_rfl) (by kernel_rfl) (fun _ _ _ h => h) (.inl ⟨by rfl, ?_⟩) (by assumption) ?_
          · intro W hW; subst hW; go_simp
          try simp only [List.getElem_toArray, List.getElem_cons_zero, List.getElem_cons_succ, Act.put, List.setIfInBounds_toArray, List.set_cons_zero, List.set_cons_succ]
          refine wpAnyH_done (by decide +kernel) ?_ _
          clear hH
          go_wp2_with fail
          go_roundw
          case rel => exact ⟨k + 1, hlt, by go_num, by rw [E.out], BW.out.drew⟩
          case measure => simp [intOf]; omega
end Go.Proofs.Ytdcjgcjnfcahkaa
/- Contracts of the document's plain side: set, Get, Lower, Drop. -/
namespace Go.Proofs.Ytdcjgcjnfcahkaa
open Go.RowKit
set_option linter.unusedVariables false

/-- What a call leaves of the plain side. -/
def RsN (w : World) (B g : Nat) (v : Value) (buy : Bool) (l : List Or) (w' : World) : Prop := ∃ v', Rs w' B g v' buy l ∧ Fr (fun k => k = g) w w' ∧ ∀ k, v'.ownBlock = some k → v.ownBlock = some k ∨ w.heap.size ≤ k
theorem rsn_same {w w' : World} {B g : Nat} {v : Value} {buy : Bool} {l : List Or} (h : Rs w B g v buy l) (q : Below w.heap.size w w') : RsN w B g v buy l w' := ⟨v, h.below q, Fr.below q, fun _ h => .inl h⟩
theorem rsn_from {w0 w w' : World} {B g : Nat} {v : Value} {buy : Bool} {l : List Or} (q : Below w0.heap.size w0 w) (h : RsN w B g v buy l w') : RsN w0 B g v buy l w' := by
  obtain ⟨v', h1, h2, h3⟩ := h
  exact ⟨v', h1, (Fr.below q).same h2, fun k hk => (h3 k hk).imp id fun c => Nat.le_trans q.size c⟩
/-- An order with another rest. -/
def Or.wi (o : Or) (n : Int) : Or := ⟨o.nu, o.ac, o.bu, o.pr, n⟩
def setL (l : List Or) (i : Nat) (x : Or) (left : Int) : List Or := if left = 0 then l.eraseIdx i else l.set i (x.wi left)
theorem wi_ok {o : Or} (h : o.ok) {n : Int} (hn : I64' n) : (o.wi n).ok := ⟨h.nu, h.ac, h.pr, hn⟩
theorem set_ok {l : List Or} (h : ∀ x, x ∈ l → x.ok) {i : Nat} {x : Or} (hx : x.ok) {n : Int} (hn : I64' n) : ∀ y, y ∈ setL l i x n → y.ok := by
  intro y hy
  unfold setL at hy
  split at hy
  · exact h y (List.mem_of_mem_eraseIdx hy)
  · rcases List.mem_or_eq_of_mem_set hy with q | rfl
    · exact h y q
    · exact wi_ok hx hn
theorem set_len (l : List Or) (i : Nat) (x : Or) (n : Int) : (setL l i x n).length ≤ l.length := by
  unfold setL
  split
  · rw [List.length_eraseIdx]; split <;> omega
  · rw [List.length_set]; exact Nat.le_refl _
set_option maxRecDepth 100000 in
set_option maxHeartbeats 4000000 in
theorem rset_any (B g : Nat) (v : Value) (buy : Bool) (l : List Or) (i : Nat) (x : Or) (left : Int) (w : World) (h : Rs w B g v buy l) (hx : l[i]? = some x) (hn : I64' left) :
    Calls Try.prog 81 #[.pointer (some ⟨g, 0, none⟩), .int .i64 i, .int .i64 left] w fun e w' => (∃ v, e = .returned v) ∧ RsN w B g v buy (setL l i x left) w' := by
  have hi := (List.getElem?_eq_some_iff.1 hx).1
  obtain ⟨A, c, rfl, hAc⟩ := gown_form h.own
  obtain ⟨b, c', eb⟩ := gown_slot h.own (by omega)
  injection eb with e1 _ e2
  subst e1 e2
  have HH := Lib.hid h
  have LE := Lib.hid h.le
  have hle := h.le
  have hB := Nat.lt_of_le_of_lt h.ge h.gl
  have B0 := Lib.hid (below_new w (.cells #[] 31))
  have O0 : Hid (EO.Own 31 (w.alloc (.cells #[] 31)) w.heap.size (.slice (some ⟨w.heap.size, 0, none⟩) 0 0) []) := Lib.hid (gown_new w)
  have R0 := Lib.hid (gown_rd (h.below B0.out).own)
  have k1 := (h.below B0.out).c1
  obtain ⟨n, hl⟩ : ∃ n, l.length = n := ⟨_, rfl⟩
  have HL := Lib.hid hl
  rw [hl] at R0 k1 HH hle hi ⊢
  have hi' : (i : Int) < (n : Int) := by omega
  have hd : decide ((i : Int) < 0) = false := decide_eq_false (by omega)
  have HX := Lib.hid hx
  have IX := Lib.hid hi
  have hGL := h.gl
  have VG : Hid (b ≠ g ∧ b < w.heap.size) := Lib.hid ⟨h.apart b rfl, (gown_lt h.own rfl).2⟩
  obtain ⟨n1, n2⟩ := hn
  have GL := Lib.hid hGL
  have NI : Hid (I64' left) := Lib.hid ⟨n1, n2⟩
  clear h hx hl hGL
  have key : ∀ (w1 : World) (v1 : Value), EO.Own 31 w1 w.heap.size v1 ([] ++ l) → ∃ b1 k1, v1 = .slice (some ⟨b1, 0, none⟩) n k1 ∧ EO.Own 31 w1 w.heap.size (.slice (some ⟨b1, 0, none⟩) n k1) l ∧ w1.cell? ⟨b1, i * 5 + 4, none⟩ = some (.int .i64 x.le) ∧ w1.frozen? ⟨b1, i * 5 + 4, none⟩ = false := fun w1 v1 o => by
    rw [List.nil_append] at o
    obtain ⟨b1, k1, e⟩ := gown_slot o (by have := HL.out; omega)
    rw [HL.out] at e
    subst e
    exact ⟨b1, k1, rfl, o, gown_at o HX.out (i := 4) (by decide), gown_fz o _⟩
  have KEY := Lib.hid key
  clear key
  by_cases hz : left = 0
  · have EZ : Hid (setL l i x left = l.eraseIdx i) := Lib.hid (if_pos hz)
    have hz1 : (left == 0) = true := beq_iff_eq.2 hz
    clear hz
    go_enter Try.func81, Try.ntmps81
    go_wp2_with (at_builtin; refine gpl_app TO rfl (.tmp 7) (.tmp 11) rfl w.heap.size _ [] rfl O0.out (some ⟨b, 0, none⟩) n c l rfl R0.out (fun e => by cases e) (by simp; omega) (by simp) ?_; intro v1 w1 o1 g1 _; obtain ⟨b1, k1, rfl, o1', hc1, hf1⟩ := KEY.out w1 v1 o1; have O1 := Lib.hid o1'; have G1 := Lib.hid (B0.out.grown g1 (by simp) (fun k e => (by cases e; exact Nat.le_refl _))); clear o1 g1 o1')
    have O2 := Lib.hid (gown_put O1.out HX.out (i := 4) (by decide) (u := .int .i64 left) (show EO.cells (x.wi left) = _ from rfl))
    have F2 : Hid (Below w.heap.size w (w1.setCell ⟨b1, i * 5 + 4, none⟩ (.int .i64 left))) := Lib.hid (G1.out.setCell (p := ⟨b1, i * 5 + 4, none⟩) (gown_lt O1.out rfl).1 _)
    have CP := gown_cap O1.out
    refine (rwo_any (some ⟨b1, 0, none⟩) n k1 i (l.set i (x.wi left)) _ (gown_rd O2.out) (by omega) IX.out CP).mono ?_; rintro e w3 ⟨v3, rfl, o3, q3⟩
    have F3 := Lib.hid (F2.out.trans (q3.mono F2.out.size))
    obtain ⟨A3, n3, c3, rfl⟩ := gown_any o3
    have O3 : Hid (EO.Own 31 w3 w.heap.size (.slice A3 n3 c3) (l.eraseIdx i)) := Lib.hid (by
      rw [List.eraseIdx_set_eq] at o3
      exact gown_low o3 F2.out.size)
    have H3 := Lib.hid (HH.out.below F3.out)
    have k3 := H3.out.c1
    have f3 := H3.out.fz 1
    clear o3 q3 hc1 hf1
    go_wp2_with fail
    go_end0
    rw [EZ.out]
    exact ⟨⟨_, rfl⟩, _, H3.out.put (gown_low O3.out (by omega)) (fun e => by have := (gown_lt O3.out e).1; have := GL.out; omega) (Nat.le_trans (by rw [List.length_eraseIdx]; split <;> omega) LE.out) (fun y hy => HH.out.ok y (List.mem_of_mem_eraseIdx hy)), (Fr.below F3.out).same (Fr.set (S := fun k => k = g) (p := ⟨g, 1, none⟩) rfl _), fun k hk => .inr (gown_lt O3.out hk).1⟩
  · have EZ : Hid (setL l i x left = l.set i (x.wi left)) := Lib.hid (if_neg hz)
    have hz1 : (left == 0) = false := beq_eq_false_iff_ne.2 hz
    clear hz
    go_enter Try.func81, Try.ntmps81
    go_wp2_with (at_builtin; refine gpl_app TO rfl (.tmp 7) (.tmp 11) rfl w.heap.size _ [] rfl O0.out (some ⟨b, 0, none⟩) n c l rfl R0.out (fun e => by cases e) (by simp; omega) (by simp) ?_; intro v1 w1 o1 g1 _; obtain ⟨b1, k1, rfl, o1', hc1, hf1⟩ := KEY.out w1 v1 o1; have O1 := Lib.hid o1'; have G1 := Lib.hid (B0.out.grown g1 (by simp) (fun k e => (by cases e; exact Nat.le_refl _))); have kw := (HH.out.below G1.out).c1; have fw := (HH.out.below G1.out).fz 1; have hgb : ¬ (g = b1) := (fun e => by have := (gown_lt O1.out (k := b1) rfl).1; have := GL.out; omega); clear o1 g1 o1')
    have O2 := Lib.hid (gown_put O1.out HX.out (i := 4) (by decide) (u := .int .i64 left) (show EO.cells (x.wi left) = _ from rfl))
    have F2 : Hid (Below w.heap.size w (w1.setCell ⟨b1, i * 5 + 4, none⟩ (.int .i64 left))) := Lib.hid (G1.out.setCell (p := ⟨b1, i * 5 + 4, none⟩) (gown_lt O1.out rfl).1 _)
    have H2 := Lib.hid (HH.out.below F2.out)
    clear hc1 hf1 kw fw hgb
    go_end0
    rw [EZ.out]
    exact ⟨⟨_, rfl⟩, _, H2.out.put (gown_low O2.out (by omega)) (fun e => by have := (gown_lt O2.out e).1; have := GL.out; omega) (by rw [List.length_set]; exact LE.out) (fun y hy => (List.mem_or_eq_of_mem_set hy).elim (HH.out.ok y) (fun e => e ▸ wi_ok (HH.out.ok x (List.mem_of_getElem? HX.out)) NI.out)), (Fr.below F2.out).same (Fr.set (S := fun k => k = g) (p := ⟨g, 1, none⟩) rfl _), fun k hk => .inr (gown_lt O2.out hk).1⟩
end Go.Proofs.Ytdcjgcjnfcahkaa
/- Contracts of the document's plain side: Get, Lower, Drop. -/
namespace Go.Proofs.Ytdcjgcjnfcahkaa
open Go.RowKit
set_option linter.unusedVariables false

theorem zero_or (w : World) : (zeroValue 31).run Try.prog w = .ok (.agg (EO.cells zeroOr).toArray) w := by kernel_rfl
theorem built_or : Try.prog.built 31 [] = some (EO.cells zeroOr).toArray := by kernel_rfl
theorem row_inO {w W : World} {x : Or} {g : Nat} (h : w.heap.size ≤ g) (q : Below w.heap.size w W) : Below w.heap.size w (W.setRow g (EO.cells x).toArray) := below_row0 q h
/-- What is needed within a call that has an order as its result. -/
theorem res_new (w : World) : ∃ W1, w.alloc (.cells (EO.cells zeroOr).toArray 31) = W1 ∧ Below w.heap.size w W1 ∧ EO.Bx 31 W1 w.heap.size zeroOr ∧ W1.heap.size = w.heap.size + 1 := ⟨_, rfl, below_new w _, gbx_new w _, by simp⟩
set_option maxRecDepth 100000 in
set_option maxHeartbeats 1000000 in
theorem rget_none (B g : Nat) (v : Value) (buy : Bool) (l : List Or) (n : Int) (w : World) (h : Rs w B g v buy l) (hn : 0 ≤ n ∧ n ≤ 18446744073709551615) (hp : plO l n = -1) :
    Calls Try.prog 76 #[.pointer (some ⟨g, 0, none⟩), .int .u64 n] w fun e w' => e = .returned (.tuple #[.agg (EO.cells zeroOr).toArray, .int .i64 7]) ∧ Below w.heap.size w w' := by
  have hz := zero_or
  obtain ⟨W1, hW1, b1, x1, _⟩ := res_new w
  have P := rpl_any B g v buy l n W1 (h.below b1) hn
  rw [hp] at P
  have HW := Lib.hid hW1
  have X1 := Lib.hid x1
  have B1 := Lib.hid b1
  clear h hp x1 b1 hW1
  go_enter Try.func76, Try.ntmps76
  go_wp2_with fail
  rw [HW.out]
  refine P.mono ?_; rintro e w2 ⟨rfl, rfl⟩
  go_wp2_with (first | (refine gwl_build0 built_or ?_) | (refine gwl_store TO zeroOr w.heap.size X1.out rfl rfl ?_))
  exact bodyPost_ret (gret TO rfl _ _ w.heap.size rfl rfl (gbx_set X1.out)) rfl ⟨rfl, row_inO (Nat.le_refl _) B1.out⟩
set_option maxRecDepth 100000 in
set_option maxHeartbeats 1000000 in
theorem rget_some (B g : Nat) (v : Value) (buy : Bool) (l : List Or) (n : Int) (k : Nat) (x : Or) (w : World) (h : Rs w B g v buy l) (hn : 0 ≤ n ∧ n ≤ 18446744073709551615) (hp : plO l n = k) (hx : l[k]? = some x) :
    Calls Try.prog 76 #[.pointer (some ⟨g, 0, none⟩), .int .u64 n] w fun e w' => e = .returned (.tuple #[.agg (EO.cells x).toArray, .int .i64 0]) ∧ Below w.heap.size w w' := by
  have hz := zero_or
  obtain ⟨W1, hW1, b1, x1, _⟩ := res_new w
  have h1 := h.below b1
  have P := rpl_any B g v buy l n W1 h1 hn
  rw [hp] at P
  have hk := (List.getElem?_eq_some_iff.1 hx).1
  obtain ⟨b, c, rfl⟩ := gown_slot h.own (by omega)
  have RG : Hid (W1.rangeAt b (k * 5) (EO.cells x)) := Lib.hid (gown_rng h1.own hx)
  have k1 := h1.c1
  have HW := Lib.hid hW1
  have X1 := Lib.hid x1
  have B1 := Lib.hid b1
  have hki : (k : Int) < (l.length : Int) := by omega
  have hd : decide ((k : Int) < 0) = false := decide_eq_false (by omega)
  have hle := h.le
  clear h h1 hp x1 b1 hW1 hx
  generalize l.length = m at *
  go_enter Try.func76, Try.ntmps76
  go_wp2_with fail
  rw [HW.out]
  refine P.mono ?_; rintro e w2 ⟨rfl, rfl⟩
  go_wp2_with (first | ((with_reducible refine gwl_load TO b (k * 5) RG.out ?_ ?_ ?_); rfl; rfl) | (refine gwl_store TO x w.heap.size X1.out rfl rfl ?_))
  exact bodyPost_ret (gret TO rfl _ _ w.heap.size rfl rfl (gbx_set X1.out)) rfl ⟨rfl, row_inO (Nat.le_refl _) B1.out⟩
set_option maxRecDepth 100000 in
theorem rlow_none (B g : Nat) (v : Value) (buy : Bool) (l : List Or) (n left : Int) (w : World) (h : Rs w B g v buy l) (hn : 0 ≤ n ∧ n ≤ 18446744073709551615) (hp : plO l n = -1) :
    Calls Try.prog 59 #[.pointer (some ⟨g, 0, none⟩), .int .u64 n, .int .i64 left] w fun e w' => e = .returned (.int .i64 7) ∧ w = w' := by
  have P := rpl_any B g v buy l n w h hn
  rw [hp] at P
  clear h hp
  go_enter Try.func59, Try.ntmps59
  go_wp2_with fail
  refine P.mono ?_; rintro e w2 ⟨rfl, rfl⟩
  go_wp2_with fail
  go_ret
  exact ⟨rfl, rfl⟩
def lowE (x : Or) (left : Int) : Int := if left < 1 ∨ x.le < left then 2 else 0
set_option maxRecDepth 100000 in
set_option maxHeartbeats 1000000 in
theorem rlow_some (B g : Nat) (v : Value) (buy : Bool) (l : List Or) (n left : Int) (k : Nat) (x : Or) (w : World) (h : Rs w B g v buy l) (hn : 0 ≤ n ∧ n ≤ 18446744073709551615) (hf : I64' left) (hp : plO l n = k) (hx : l[k]? = some x) :
    Calls Try.prog 59 #[.pointer (some ⟨g, 0, none⟩), .int .u64 n, .int .i64 left] w fun e w' => e = .returned (.int .i64 (lowE x left)) ∧ RsN w B g v buy (if lowE x left = 0 then l.set k (x.wi left) else l) w' := by
  have P := rpl_any B g v buy l n w h hn
  rw [hp] at P
  have ST := Lib.hid (rset_any B g v buy l k x left w h hx hf)
  have HH := Lib.hid h
  have hk := (List.getElem?_eq_some_iff.1 hx).1
  obtain ⟨b, c, rfl⟩ := gown_slot h.own (by omega)
  have k1 := h.c1
  have kl : w.cell? ⟨b, k * 5 + 4, none⟩ = some (.int .i64 x.le) := gown_at h.own hx (i := 4) (by decide)
  obtain ⟨x1, x2⟩ := (h.ok x (List.mem_of_getElem? hx)).le
  obtain ⟨f1, f2⟩ := hf
  have hki : (k : Int) < (l.length : Int) := by omega
  have hd : decide ((k : Int) < 0) = false := decide_eq_false (by omega)
  have hle := h.le
  obtain ⟨l2, hl2⟩ : ∃ l2, (if lowE x left = 0 then l.set k (x.wi left) else l) = l2 := ⟨_, rfl⟩
  rw [hl2]
  obtain ⟨r, hr⟩ : ∃ r, lowE x left = r := ⟨_, rfl⟩
  rw [hr] at hl2 ⊢
  unfold lowE at hr
  have SL : left ≠ 0 → setL l k x left = l.set k (x.wi left) := fun c => if_neg c
  obtain ⟨m, hm⟩ : ∃ m, l.length = m := ⟨_, rfl⟩
  rw [hm] at k1 hki hle hk HH ST ⊢
  clear h hp hx
  cases h1 : decide (left < 1)
  · cases h2 : decide (x.le < left)
    · have hr := (if_neg (fun c => c.elim (of_decide_eq_false h1) (of_decide_eq_false h2))).symm.trans hr
      subst hr
      rw [if_pos rfl] at hl2
      have L2 := Lib.hid hl2
      rw [SL (by have := of_decide_eq_false h1; omega)] at ST
      clear hl2 SL
      go_enter Try.func59, Try.ntmps59
      go_wp2_with fail
      refine P.mono ?_; rintro e w2 ⟨rfl, rfl⟩
      go_wp2_with fail
      refine ST.out.mono ?_; rintro e w3 ⟨⟨vv, rfl⟩, q⟩
      have Q := Lib.hid q
      clear q
      go_wp2_with fail
      go_ret
      rw [← L2.out]
      exact ⟨rfl, Q.out⟩
    · have hr := (if_pos (.inr (of_decide_eq_true h2))).symm.trans hr
      subst hr
      rw [if_neg (by decide)] at hl2
      subst hl2
      clear SL ST
      go_enter Try.func59, Try.ntmps59
      go_wp2_with fail
      refine P.mono ?_; rintro e w2 ⟨rfl, rfl⟩
      go_wp2_with fail
      go_ret
      exact ⟨rfl, rsn_same HH.out (Below.refl _ _)⟩
  · have hr := (if_pos (.inl (of_decide_eq_true h1))).symm.trans hr
    subst hr
    rw [if_neg (by decide)] at hl2
    subst hl2
    clear SL ST
    go_enter Try.func59, Try.ntmps59
    go_wp2_with fail
    refine P.mono ?_; rintro e w2 ⟨rfl, rfl⟩
    go_wp2_with fail
    go_ret
    exact ⟨rfl, rsn_same HH.out (Below.refl _ _)⟩
set_option maxRecDepth 100000 in
set_option maxHeartbeats 1000000 in
theorem rdrop_none (B g : Nat) (v : Value) (buy : Bool) (l : List Or) (n : Int) (w : World) (h : Rs w B g v buy l) (hn : 0 ≤ n ∧ n ≤ 18446744073709551615) (hp : plO l n = -1) :
    Calls Try.prog 60 #[.pointer (some ⟨g, 0, none⟩), .int .u64 n] w fun e w' => e = .returned (.tuple #[.agg (EO.cells zeroOr).toArray, .int .i64 7]) ∧ Below w.heap.size w w' := by
  have hz := zero_or
  obtain ⟨W1, hW1, b1, x1, _⟩ := res_new w
  have P := rpl_any B g v buy l n W1 (h.below b1) hn
  rw [hp] at P
  have HW := Lib.hid hW1
  have X1 := Lib.hid x1
  have B1 := Lib.hid b1
  clear h hp x1 b1 hW1
  go_enter Try.func60, Try.ntmps60
  go_wp2_with fail
  rw [HW.out]
  refine P.mono ?_; rintro e w2 ⟨rfl, rfl⟩
  go_wp2_with (first | (refine gwl_build0 built_or ?_) | (refine gwl_store TO zeroOr w.heap.size X1.out rfl rfl ?_))
  exact bodyPost_ret (gret TO rfl _ _ w.heap.size rfl rfl (gbx_set X1.out)) rfl ⟨rfl, row_inO (Nat.le_refl _) B1.out⟩
set_option maxRecDepth 100000 in
set_option maxHeartbeats 2000000 in
theorem rdrop_some (B g : Nat) (v : Value) (buy : Bool) (l : List Or) (n : Int) (k : Nat) (x : Or) (w : World) (h : Rs w B g v buy l) (hn : 0 ≤ n ∧ n ≤ 18446744073709551615) (hp : plO l n = k) (hx : l[k]? = some x) :
    Calls Try.prog 60 #[.pointer (some ⟨g, 0, none⟩), .int .u64 n] w fun e w' => e = .returned (.tuple #[.agg (EO.cells x).toArray, .int .i64 0]) ∧ RsN w B g v buy (l.eraseIdx k) w' := by
  have hz := zero_or
  obtain ⟨W1, hW1, b1, x1, s1⟩ := res_new w
  have h1 := h.below b1
  have P := rpl_any B g v buy l n W1 h1 hn
  rw [hp] at P
  obtain ⟨W3, hW3⟩ : ∃ W3, (W1.alloc (.cells (EO.cells zeroOr).toArray 31)).setRow W1.heap.size (EO.cells x).toArray = W3 := ⟨_, rfl⟩
  have y0 : EO.Bx 31 (W1.alloc (.cells (EO.cells zeroOr).toArray 31)) W1.heap.size zeroOr := gbx_new W1 _
  have y3 : EO.Bx 31 W3 W1.heap.size x := by rw [← hW3]; exact gbx_set y0
  have b3 : Below W1.heap.size W1 W3 := by rw [← hW3]; exact below_row0 (below_new W1 _) (Nat.le_refl _)
  have h3 := h1.below b3
  have ST := Lib.hid (rset_any B g v buy l k x 0 W3 h3 hx ⟨by omega, by omega⟩)
  have x3 : EO.Bx 31 W3 w.heap.size zeroOr := (b3.block _ (by omega)).trans x1
  have hk := (List.getElem?_eq_some_iff.1 hx).1
  have GLT : Hid (g < w.heap.size) := Lib.hid h.gl
  have VLT : Hid (∀ k, v.ownBlock = some k → k < w.heap.size) := Lib.hid fun k hk => (gown_lt h.own hk).2
  obtain ⟨b, c, rfl⟩ := gown_slot h.own (by omega)
  have RG : Hid (W1.rangeAt b (k * 5) (EO.cells x)) := Lib.hid (gown_rng h1.own hx)
  have k1 := h1.c1
  have HW := Lib.hid hW1
  have HW3 := Lib.hid hW3
  have X3 := Lib.hid x3
  have Y0 := Lib.hid y0
  have Y3 := Lib.hid y3
  have B1 := Lib.hid b1
  have B3 := Lib.hid b3
  have S1 := Lib.hid s1
  have SE : Hid (setL l k x 0 = l.eraseIdx k) := Lib.hid (if_pos rfl)
  rw [SE.out] at ST
  have hki : (k : Int) < (l.length : Int) := by omega
  have hd : decide ((k : Int) < 0) = false := decide_eq_false (by omega)
  have hle := h.le
  clear h h1 h3 hp x1 b1 b3 y0 y3 x3 hW1 hW3 hx s1
  generalize l.length = m at *
  go_enter Try.func60, Try.ntmps60
  go_wp2_with fail
  rw [HW.out]
  refine P.mono ?_; rintro e w2 ⟨rfl, rfl⟩
  go_wp2_with (first | ((with_reducible refine gwl_load TO b (k * 5) RG.out ?_ ?_ ?_); rfl; rfl) | (refine gwl_store TO x W1.heap.size Y0.out rfl rfl ?_))
  rw [HW3.out]
  refine ST.out.mono ?_; rintro e w5 ⟨⟨vv, rfl⟩, q⟩
  have Q := Lib.hid q
  obtain ⟨v5, r5, f5, n5⟩ := q
  have sz3 := B3.out.size
  have X5 : Hid (EO.Bx 31 w5 w.heap.size zeroOr) := Lib.hid ((f5.at' _ (Array.getElem?_eq_some_iff.1 X3.out).1 (fun e => by have := GLT.out; omega)).trans X3.out)
  have Y5 : Hid (EO.Bx 31 w5 W1.heap.size x) := Lib.hid ((f5.at' _ (Array.getElem?_eq_some_iff.1 Y3.out).1 (fun e => by have := GLT.out; have := S1.out; omega)).trans Y3.out)
  have R5 := Lib.hid r5
  have F5 := Lib.hid f5
  have N5 := Lib.hid n5
  clear r5 f5 n5 sz3
  go_wp2_with (first | ((with_reducible refine gwl_load TO W1.heap.size 0 (gbx_rng Y5.out) ?_ ?_ ?_); rfl; rfl) | (refine gwl_store TO x w.heap.size X5.out rfl rfl ?_))
  have f6 : Fr (fun k => k = w.heap.size) w5 (w5.setRow w.heap.size (EO.cells x).toArray) := fr_row (S := fun k => k = w.heap.size) rfl _
  refine bodyPost_ret (gret TO rfl _ _ w.heap.size rfl rfl (gbx_set X5.out)) rfl ⟨rfl, v5, R5.out.keep f6 (fun e => by have := GLT.out; omega) (fun j hj e => ?_), ?_, fun j hj => ?_⟩
  · subst e
    obtain ⟨cur, hh⟩ := gown_cells R5.out.own hj
    rcases N5.out _ hj with c | c
    · have := VLT.out _ c; omega
    · have := B1.out.size; have := S1.out; have := B3.out.size; omega
  · exact ((Fr.below (B1.out.trans (B3.out.mono B1.out.size))).same F5.out).trans f6 (fun _ h => h) (fun j hj e => by omega)
  · exact (N5.out j hj).imp id fun c => Nat.le_trans (Nat.le_trans B1.out.size B3.out.size) c
end Go.Proofs.Ytdcjgcjnfcahkaa
/- Contracts of the document's plain side: Best, Fill. -/
namespace Go.Proofs.Ytdcjgcjnfcahkaa
open Go.RowKit
set_option linter.unusedVariables false

theorem fst_empty (buy : Bool) : fstO buy [] ([] : List Or).length = -1 := rfl
end Go.Proofs.Ytdcjgcjnfcahkaa
