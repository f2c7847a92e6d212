/- The program's calendar in memory; plain facts on lists that rise; Compare, the closure of find. -/
import Derived.Test.YtejhnfkljfdejaaKk
import Derived.Test.YtejhnfkljfdejaaKb
import Derived.Test.YtejhnfkljfdejaaKi
namespace Go.Proofs.Ytejhnfkljfdejaa
open Go.RowKit
set_option linter.unusedVariables false

def Rise (cs : List Ct) : Prop := ∀ (i j : Nat) (x y : Ct), i < j → cs[i]? = some x → cs[j]? = some y → x.sp.nu < y.sp.nu
/-- The program's calendar at block g: made, a day, a row of contracts that rise. -/
structure Rp (W : World) (g : Nat) (v : Value) (d : Int) (cs : List Ct) : Prop where
  blk : W.heap[g]? = some (.cells #[.bool true, .int .u32 d, v] 51 (0, 0))
  own : W.ownsRow 0 45 27 v cs.length (flat cs)
  le : cs.length ≤ 16
  ok : ∀ x, x ∈ cs → x.ok
  dy : 0 ≤ d ∧ d ≤ 4294967295
  one : ∃ A c, v = .slice A cs.length c
  up : Up cs
  pos : ∀ x, x ∈ cs → 1 ≤ x.sp.nu
section
variable {W : World} {g : Nat} {v : Value} {d : Int} {cs : List Ct}
theorem Rp.c0 (h : Rp W g v d cs) : W.cell? ⟨g, 0, none⟩ = some (.bool true) := by rw [cell_of_row _ _ _ _ _ _ h.blk]; rfl
theorem Rp.c1 (h : Rp W g v d cs) : W.cell? ⟨g, 1, none⟩ = some (.int .u32 d) := by rw [cell_of_row _ _ _ _ _ _ h.blk]; rfl
theorem Rp.c2 (h : Rp W g v d cs) : W.cell? ⟨g, 2, none⟩ = some v := by rw [cell_of_row _ _ _ _ _ _ h.blk]; rfl
theorem Rp.fz (h : Rp W g v d cs) (j : Nat) : W.frozen? ⟨g, j, none⟩ = false := by simp [World.frozen?, h.blk]
theorem Rp.gl (h : Rp W g v d cs) : g < W.heap.size := (Array.getElem?_eq_some_iff.1 h.blk).1
theorem Rp.vl (h : Rp W g v d cs) (k : Nat) (hk : v.ownBlock = some k) : k < W.heap.size := (own_ge h.own hk).2
theorem Rp.sh (h : Rp W g v d cs) (x : Ct) (hx : x ∈ cs) : x.sp.sh.length = 16 := (h.ok x hx).sp.len
theorem Rp.slot (h : Rp W g v d cs) {k : Nat} (hk : k < cs.length) : ∃ b c, v = .slice (some ⟨b, 0, none⟩) cs.length c := own_one_form h.own (by omega)
theorem Rp.keep {S : Nat → Prop} {W' : World} (h : Rp W g v d cs) (f : Fr S W W') (hg : ¬ S g) (hv : ∀ k, v.ownBlock = some k → ¬ S k) : Rp W' g v d cs := by
  refine ⟨(f.at' g h.gl hg).trans h.blk, ?_, h.le, h.ok, h.dy, h.one, h.up, h.pos⟩
  refine ⟨h.own.1, ?_⟩
  rcases h.own.2 with e | ⟨b, c, cur, e, hb, hh, r⟩
  · exact .inl e
  · exact .inr ⟨b, c, cur, e, hb, (f.at' b (Array.getElem?_eq_some_iff.1 hh).1 (hv b (by rw [e]; rfl))).trans hh, r⟩
theorem Rp.below {W' : World} (h : Rp W g v d cs) (q : Below W.heap.size W W') : Rp W' g v d cs := h.keep (S := fun _ => False) (Fr.below q) (fun h => h) (fun _ _ h => h)
theorem Rp.drewN (h : Rp W g v d cs) (n : Nat) : Rp (W.drewN n) g v d cs := ⟨h.blk, h.own, h.le, h.ok, h.dy, h.one, h.up, h.pos⟩
/-- The row is another block than the calendar: their types differ. -/
theorem Rp.apart (h : Rp W g v d cs) (k : Nat) (hk : v.ownBlock = some k) : k ≠ g := by
  rintro rfl
  rcases h.own.2 with ⟨e, _⟩ | ⟨b, c, cur, e, hb, hh, r⟩
  · rw [e] at hk; cases hk
  · rw [e] at hk
    cases hk
    rw [h.blk] at hh
    injection hh with hh
    injection hh with _ hh
    exact absurd hh (by decide)
theorem Rp.day (h : Rp W g v d cs) (d' : Int) (hd : 0 ≤ d' ∧ d' ≤ 4294967295) : Rp (W.setCell ⟨g, 1, none⟩ (.int .u32 d')) g v d' cs := by
  have hgb := h.apart
  refine ⟨heap_setCell_same W g 1 _ _ _ h.blk, ?_, h.le, h.ok, hd, h.one, h.up, h.pos⟩
  refine ⟨h.own.1, ?_⟩
  rcases h.own.2 with e | ⟨b, c, cur, e, hb, hh, r⟩
  · exact .inl e
  · exact .inr ⟨b, c, cur, e, hb, (heap_setCell_other W _ b _ (hgb b (by rw [e]; rfl))).trans hh, r⟩
end
theorem Rp.at {W : World} {g b c n : Nat} {d : Int} {cs : List Ct} (h : Rp W g (.slice (some ⟨b, 0, none⟩) n c) d cs) {k : Nat} {x : Ct} (hk : cs[k]? = some x) {i : Nat} (hi : i < 27) : W.cell? ⟨b, k * 27 + i, none⟩ = x.cellL[i]? := by
  have hkl : k < cs.length := (List.getElem?_eq_some_iff.1 hk).1
  have o := h.own
  obtain ⟨A, c', e⟩ := h.one
  cases e
  rw [o.cellAt (k * 27 + i) (by omega), flat_at cs k x h.sh hk i hi]
theorem Rp.rng {W : World} {g b c n : Nat} {d : Int} {cs : List Ct} (h : Rp W g (.slice (some ⟨b, 0, none⟩) n c) d cs) {k : Nat} {x : Ct} (hk : cs[k]? = some x) : W.rangeAt b (k * 27) x.cellL := fun j u hj => by
  have hl := Ct.lenL (h.sh x (List.mem_of_getElem? hk))
  rw [h.at hk (by have := (List.getElem?_eq_some_iff.1 hj).1; omega), hj]
theorem Rp.fzr {W : World} {g b c n : Nat} {d : Int} {cs : List Ct} (h : Rp W g (.slice (some ⟨b, 0, none⟩) n c) d cs) (j : Nat) : W.frozen? ⟨b, j, none⟩ = false := by
  obtain ⟨b', c1, cur, e2, hb, hh, hn, hm, hs, ht⟩ := h.own.2.resolve_left (fun c => by cases c.1)
  cases e2
  simp [World.frozen?, hh]
theorem Rp.put {W : World} {g b c n : Nat} {d : Int} {cs : List Ct} (h : Rp W g (.slice (some ⟨b, 0, none⟩) n c) d cs) {k : Nat} {x y : Ct} (hk : cs[k]? = some x) {i : Nat} (hi : i < 27) {u : Value} (e : y.cellL = x.cellL.set i u) (ho : y.ok) (en : y.sp = x.sp) :
    Rp (W.setCell ⟨b, k * 27 + i, none⟩ u) g (.slice (some ⟨b, 0, none⟩) n c) d (cs.set k y) := by
  have hgb : g ≠ b := fun e => h.apart b rfl e.symm
  obtain ⟨A, c', e1⟩ := h.one
  obtain ⟨b', c1, cur, e2, hb, hh, hn, hm, hs, ht⟩ := h.own.2.resolve_left (fun c => by cases c.1)
  cases e1
  cases e2
  refine ⟨(heap_setCell_other W _ g u (by simpa using hgb)).trans h.blk, ?_, by rw [List.length_set]; exact h.le, ?_, h.dy, ⟨_, _, by rw [List.length_set]⟩, h.up.set hk en, ?_⟩
  · rw [List.length_set]
    refine ⟨?_, .inr ⟨b, c, cur.setIfInBounds (k * 27 + i) u, rfl, hb, heap_setCell_same W b _ cur _ _ hh, hn, hm, by rw [Array.size_setIfInBounds]; exact hs, ?_⟩⟩
    · rw [flat_len _ (fun z hz => ?_), List.length_set]
      rcases List.mem_or_eq_of_mem_set hz with q | rfl
      · exact h.sh z q
      · exact ho.sp.len
    · rw [Array.toList_setIfInBounds, List.take_set, ht, flat_set cs k x y i u h.sh hk hi e]
  · intro z hz
    rcases List.mem_or_eq_of_mem_set hz with q | rfl
    · exact h.ok z q
    · exact ho
  · intro z hz
    rcases List.mem_or_eq_of_mem_set hz with q | rfl
    · exact h.pos z q
    · rw [en]; exact h.pos x (List.mem_of_getElem? hk)

/-- What stands at a place of a list that rises. -/
theorem rise_le {cs : List Ct} (h : Rise cs) {i j : Nat} {x y : Ct} (hij : i ≤ j) (hx : cs[i]? = some x) (hy : cs[j]? = some y) : x.sp.nu ≤ y.sp.nu := by
  rcases Nat.lt_or_ge i j with c | c
  · have := h i j x y c hx hy; omega
  · obtain rfl : i = j := by omega
    rw [hx] at hy; cases hy; omega
theorem Up.rise {cs : List Ct} (h : Up cs) : Rise cs := fun _ _ _ _ hij hx hy => h.lt hij hx hy
theorem place_rise {cs : List Ct} (h : Rise cs) {k : Nat} {x : Ct} (hk : cs[k]? = some x) : placeC cs x.sp.nu = some k :=
  placeC_some cs _ k ⟨x, hk, rfl⟩ fun j y hj hy => by have := h j k y x hj hy hk; omega
theorem spot_of {cs : List Ct} {nu : Int} {lo : Nat} (h1 : ∀ (t : Nat) (y : Ct), t < lo → cs[t]? = some y → y.sp.nu < nu) (h2 : ∀ (t : Nat) (y : Ct), lo ≤ t → cs[t]? = some y → nu ≤ y.sp.nu) (hl : lo ≤ cs.length) : spotC cs nu = lo :=
  spot_at h1 hl fun x hx => by have := h2 lo x (Nat.le_refl _) hx; omega
theorem place_of {cs : List Ct} {nu : Int} {lo : Nat} (h1 : ∀ (t : Nat) (y : Ct), t < lo → cs[t]? = some y → y.sp.nu < nu) {x : Ct} (hx : cs[lo]? = some x) (e : x.sp.nu = nu) : placeC cs nu = some lo :=
  placeC_some cs _ lo ⟨x, hx, e⟩ fun j y hj hy => by have := h1 j y hj hy; omega
theorem place_off {cs : List Ct} (h : Rise cs) {nu : Int} {lo : Nat} (h1 : ∀ (t : Nat) (y : Ct), t < lo → cs[t]? = some y → y.sp.nu < nu) (h2 : ∀ x, cs[lo]? = some x → nu < x.sp.nu) : placeC cs nu = none :=
  placeC_none cs nu fun j y hy => by
    rcases Nat.lt_or_ge j lo with c | c
    · have := h1 j y c hy; omega
    · obtain ⟨x, hx⟩ : ∃ x, cs[lo]? = some x := ⟨cs[lo]'(by have := (List.getElem?_eq_some_iff.1 hy).1; omega), List.getElem?_eq_getElem _⟩
      have := h2 x hx
      have := rise_le h c hx hy
      omega

def cmpC (a b : Int) : Int := if a < b then -1 else if b < a then 1 else 0
theorem cmp_lt {a b : Int} (h : a < b) : cmpC a b = -1 := if_pos h
theorem cmp_gt {a b : Int} (h : b < a) : cmpC a b = 1 := by unfold cmpC; rw [if_neg (by omega), if_pos h]
theorem cmp_eq {a b : Int} (h : a = b) : cmpC a b = 0 := by unfold cmpC; rw [if_neg (by omega), if_neg (by omega)]
set_option maxRecDepth 100000 in
theorem cisnan_any (a : Int) (w : World) : Calls Try.prog 63 #[.int .u32 a] w fun e w' => e = .returned (.bool false) ∧ w = w' := by
  have e : (a != a) = false := bne_self_eq_false a
  go_enter Try.func63, Try.ntmps63
  go_wp2
  go_ret
  exact ⟨rfl, rfl⟩
set_option maxRecDepth 100000 in
theorem compare_any (a b : Int) (w : World) : Calls Try.prog 51 #[.int .u32 a, .int .u32 b] w fun e w' => e = .returned (.int .i64 (cmpC a b)) ∧ w = w' := by
  have N := Lib.hid (fun x W => cisnan_any x W)
  by_cases h1 : a < b
  · have E := Lib.hid (cmp_lt h1)
    have d1 : decide (a < b) = true := decide_eq_true h1
    go_enter Try.func51, Try.ntmps51
    go_wp2_with (go_at_call 63; refine (N.out _ _).mono ?_; rintro e w' ⟨rfl, rfl⟩)
    go_ret
    exact ⟨by rw [E.out]; rfl, rfl⟩
  · have d1 : decide (a < b) = false := decide_eq_false h1
    by_cases h2 : b < a
    · have E := Lib.hid (cmp_gt h2)
      have d2 : decide (b < a) = true := decide_eq_true h2
      go_enter Try.func51, Try.ntmps51
      go_wp2_with (go_at_call 63; refine (N.out _ _).mono ?_; rintro e w' ⟨rfl, rfl⟩)
      go_ret
      exact ⟨by rw [E.out]; rfl, rfl⟩
    · have E := Lib.hid (cmp_eq (show a = b by omega))
      have d2 : decide (b < a) = false := decide_eq_false h2
      go_enter Try.func51, Try.ntmps51
      go_wp2_with (go_at_call 63; refine (N.out _ _).mono ?_; rintro e w' ⟨rfl, rfl⟩)
      go_ret
      exact ⟨by rw [E.out]; rfl, rfl⟩
theorem cb_cell {w : World} {g : Nat} {x : Ct} (h : Cb w g x) (j : Nat) : w.cell? ⟨g, j, none⟩ = x.cellL[j]? := by rw [cell_of_row _ _ _ _ _ _ h.1]; simp [Ct.cells]
/-- Loads of a contract, or its data, out of a row, guarded or not. -/
theorem wl_load_ctg {ops : Array Oper} {rest : List Oper} {a : Act} {w : World} {Q : Exit → Act → World → Prop} {d : Option Nat} {x : Operand} {ty : TypeId} {ps : String} {af : Array Edge} {gd : Option (Nat × Bool)} {s : Ct} (b o : Nat) (hl : s.sp.sh.length = 16) (hb : w.rangeAt b o s.cellL)
    (hw : Region.wanted ⟨d, .load 45 x, ty, ps, af, gd⟩ (yielded ops a.tmps) = true) (hx : a.eval x = .pointer (some ⟨b, o, none⟩)) (h : wpList Try.prog ops Q rest (a.put d (.agg s.cells)) w) : wpList Try.prog ops Q (⟨d, .load 45 x, ty, ps, af, gd⟩ :: rest) a w :=
  BigFrame.wpList_want hw fun _ hK => wp_load_mid 45 x rfl b o hx s.cellL _ hb Try.underlying45 rfl (by rw [info_cs, Ct.lenL hl]) (hK _ _ h)
theorem wl_load_spg {ops : Array Oper} {rest : List Oper} {a : Act} {w : World} {Q : Exit → Act → World → Prop} {d : Option Nat} {x : Operand} {ty : TypeId} {ps : String} {af : Array Edge} {gd : Option (Nat × Bool)} {s : Sp} (b o : Nat) (hl : s.sh.length = 16) (hb : w.rangeAt b o s.cellL)
    (hw : Region.wanted ⟨d, .load 33 x, ty, ps, af, gd⟩ (yielded ops a.tmps) = true) (hx : a.eval x = .pointer (some ⟨b, o, none⟩)) (h : wpList Try.prog ops Q rest (a.put d (.agg s.cells)) w) : wpList Try.prog ops Q (⟨d, .load 33 x, ty, ps, af, gd⟩ :: rest) a w :=
  BigFrame.wpList_want hw fun _ hK => wp_load_mid 33 x rfl b o hx s.cellL _ hb Try.underlying33 rfl (by rw [info_sp, Sp.lenL hl]) (hK _ _ h)
theorem rng_row {w : World} {g : Nat} {x : Ct} (h : Cb w g x) : w.rangeAt g 0 x.cellL := fun j u hj => by
  rw [Nat.zero_add, cell_of_row _ _ _ _ _ _ h.1]
  simpa [Ct.cells] using hj
set_option maxRecDepth 100000 in
/-- The closure of find. -/
theorem fclo_any (x : Ct) (nu : Int) (w : World) (h : x.ok) : Calls Try.prog 50 #[.agg x.cells, .int .u32 nu] w fun e w' => e = .returned (.int .i64 (cmpC x.sp.nu nu)) ∧ Below w.heap.size w w' := by
  have C := Lib.hid (fun W => compare_any x.sp.nu nu W)
  have HB := cb_cell (cb_new w h.sp.len) 0
  rw [Ct.spc h.sp.len (by omega), Sp.c0] at HB
  have B := Lib.hid ((Below.refl w.heap.size w).alloc (Nat.le_refl _) (.cells x.cells 45))
  clear h
  go_enter Try.func50, Try.ntmps50
  go_wp2_with (go_at_call 51; refine (C.out _).mono ?_; rintro e w' ⟨rfl, rfl⟩)
  go_ret
  exact ⟨rfl, B.out⟩
end Go.Proofs.Ytejhnfkljfdejaa
