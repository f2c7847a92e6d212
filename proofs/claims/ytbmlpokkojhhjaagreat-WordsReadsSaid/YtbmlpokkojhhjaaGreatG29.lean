/- slices.Equal at trades, numbers, accounts (by genWfi.py). -/
import Derived.Deep.RegionHeld
import Derived.Test.YtbmlpokkojhhjaaGreatG28
namespace Go.Proofs.YtbmlpokkojhhjaaGreat.Wz
open Go.RowKit
set_option linter.unusedVariables false
set_option linter.unusedSimpArgs false

open Classical in
noncomputable def eqL15 {α : Type} (l m : List α) : Bool := decide (l = m)
theorem eqL_yes {α : Type} {l m : List α} (h : l = m) : eqL15 l m = true := by simp [eqL15, h]
theorem eqL_no {α : Type} {l m : List α} (h : l ≠ m) : eqL15 l m = false := by simp [eqL15, h]
theorem eqL_iff {α : Type} {l m : List α} : eqL15 l m = true ↔ l = m := by simp [eqL15]
theorem eq_of_at {α : Type} {l m : List α} {n : Nat} (hl : l.length = n) (hm : m.length = n) (h : ∀ j, j < n → l[j]? = m[j]?) : l = m := by
  refine List.ext_getElem? fun j => ?_
  rcases Nat.lt_or_ge j n with c | c
  · exact h j c
  · rw [List.getElem?_eq_none (by omega), List.getElem?_eq_none (by omega)]
set_option maxRecDepth 100000 in
set_option maxHeartbeats 8000000 in
theorem equalT (A1 A2 : Option Addr) (n1 n2 c1 c2 : Nat) (l m : List Tw) (w : World) (h1 : ETw.Rd w A1 n1 l) (h2 : ETw.Rd w A2 n2 m) (hn1 : n1 ≤ maxLen) (hn2 : n2 ≤ maxLen) (ok1 : ∀ x, x ∈ l → x.ok) (ok2 : ∀ x, x ∈ m → x.ok) :
    Calls Tryz.prog 110 #[.slice A1 n1 c1, .slice A2 n2 c2] w fun e w' => e = .returned (.bool (eqL15 l m)) ∧ Below w.heap.size w w' := by
  unfold maxLen at hn1 hn2
  by_cases hn : n1 = n2
  case neg =>
    have ne : l ≠ m := fun e => hn (by rw [← h1.1, ← h2.1, e])
    have hd : decide ((n1 : Int) = (n2 : Int)) = false := decide_eq_false (by omega)
    have hb : ((n1 : Int) != (n2 : Int)) = true := by simp; omega
    rw [eqL_no ne]
    clear h1 h2 ne
    go_enter Tryz.func110, Tryz.ntmps110
    go_wp2_with fail
    go_ret
    exact ⟨rfl, Below.refl _ _⟩
  subst hn
  have HL := Lib.hid h1.1
  have HM := Lib.hid h2.1
  have H1 := Lib.hid h1
  have H2 := Lib.hid h2
  have B0 : Hid (Below w.heap.size w w) := Lib.hid (Below.refl _ _)
  have O1 := Lib.hid ok1
  have O2 := Lib.hid ok2
  obtain ⟨r, hr⟩ : ∃ r, eqL15 l m = r := ⟨_, rfl⟩
  rw [hr]
  have R := Lib.hid hr
  clear h1 h2 hn2 hr ok1 ok2
  go_enter Tryz.func110, Tryz.ntmps110
  go_wp2_with fail
  go_loopw [5, 13] (fun _ i wr => ∃ k : Nat, k ≤ n1 ∧ i = .int .i64 k ∧ Below w.heap.size w wr ∧ ∀ j, j < k → l[j]? = m[j]?) (fun _ i _ => n1 - (intOf i).toNat)
  case atStart => exact ⟨0, Nat.zero_le _, rfl, B0.out, fun j hj => absurd hj (Nat.not_lt_zero j)⟩
  case round =>
    obtain ⟨k, hk, rfl, hb, hno⟩ := hrel
    have BW := Lib.hid hb
    have NO := Lib.hid hno
    clear hb hno
    by_cases hlt : k < n1
    case neg =>
      obtain rfl : k = n1 := by omega
      have er : r = true := by rw [← R.out]; exact eqL_yes (eq_of_at HL.out HM.out NO.out)
      have ER := Lib.hid er
      have hd : decide ((k : Int) < (k : Int)) = false := decide_eq_false (by omega)
      clear hlt er
      go_wp2_with fail
      go_ret
      rw [ER.out]
      exact ⟨rfl, BW.out⟩
    case pos =>
      have hd : decide ((k : Int) < (n1 : Int)) = true := decide_eq_true (by omega)
      have hki : (k : Int) < (n1 : Int) := by omega
      obtain ⟨x, hx⟩ : ∃ x, l[k]? = some x := ⟨l[k]'(by have := HL.out; omega), List.getElem?_eq_getElem _⟩
      obtain ⟨y, hy⟩ : ∃ y, m[k]? = some y := ⟨m[k]'(by have := HM.out; omega), List.getElem?_eq_getElem _⟩
      obtain ⟨b1, o1, rfl, -⟩ := grd_rng H1.out hx
      obtain ⟨b2, o2, rfl, -⟩ := grd_rng H2.out hy
      have G1 := Lib.hid fun (U : World) (q : Below w.heap.size w U) => (by obtain ⟨b, o, e, g⟩ := grd_rng (grd_below H1.out q (Nat.le_refl _)) hx; cases e; exact g : U.rangeAt b1 (o1 + k * ETw.N) (ETw.cells x))
      have G2 := Lib.hid fun (U : World) (q : Below w.heap.size w U) => (by obtain ⟨b, o, e, g⟩ := grd_rng (grd_below H2.out q (Nat.le_refl _)) hy; cases e; exact g : U.rangeAt b2 (o2 + k * ETw.N) (ETw.cells y))
      have HX := Lib.hid hx
      have HY := Lib.hid hy
      have OX := Lib.hid (O1.out x (List.mem_of_getElem? hx))
      have OY := Lib.hid (O2.out y (List.mem_of_getElem? hy))
      clear hx hy
      go_wp2_with fail
      refine wp_region_held_drew (S := fun U => Below w.heap.size w U) (by kernel_rfl) BW.out.drew (fun hH => ?_)
      refine wpAnyH_take (i := 0) (v := .slice (some ⟨b1, o1, none⟩) n1 c1) rfl (by kernel_rfl) (by kernel_rfl) (by kernel_rfl) (fun _ _ _ h => h) (.inl ⟨by rfl, ?_⟩) (by assumption) ?_
      · intro W hW; go_simp
      try simp only [List.getElem_toArray, List.getElem_cons_zero, Act.put, List.setIfInBounds_toArray, List.set_cons_zero, List.set_cons_succ]
      refine wpAnyH_take (i := 1) (v := .int .i64 k) rfl (by kernel_rfl) (by kernel_rfl) (by kernel_rfl) (fun _ _ _ h => h) (.inl ⟨by rfl, ?_⟩) (by assumption) ?_
      · intro W hW; go_simp
      try simp only [List.getElem_toArray, List.getElem_cons_zero, List.getElem_cons_succ, Act.put, List.setIfInBounds_toArray, List.set_cons_zero, List.set_cons_succ]
      refine wpAnyH_take (i := 2) (v := .pointer (some ⟨b1, o1 + k * 4, none⟩)) rfl (by kernel_rfl) (by kernel_rfl) (by kernel_rfl) (fun _ _ _ h => h) (.inl ⟨by rfl, ?_⟩) (by assumption) ?_
      · intro W hW; go_simp
      try simp only [List.getElem_toArray, List.getElem_cons_zero, List.getElem_cons_succ, Act.put, List.setIfInBounds_toArray, List.set_cons_zero, List.set_cons_succ]
      refine wpAnyH_take (i := 3) (v := .agg (ETw.cells x).toArray) rfl (by kernel_rfl) (by kernel_rfl) (by kernel_rfl) (fun _ _ _ h => h) (gyields_load TTw (by rfl) (.tmp 18) rfl b1 (o1 + k * 4) rfl (fun U hU => G1.out U hU)) (by assumption) ?_
      try simp only [List.getElem_toArray, List.getElem_cons_zero, List.getElem_cons_succ, Act.put, List.setIfInBounds_toArray, List.set_cons_zero, List.set_cons_succ]
      refine wpAnyH_take (i := 4) (v := .slice (some ⟨b2, o2, none⟩) n1 c2) rfl (by kernel_rfl) (by kernel_rfl) (by kernel_rfl) (fun _ _ _ h => h) (.inl ⟨by rfl, ?_⟩) (by assumption) ?_
      · intro W hW; go_simp
      try simp only [List.getElem_toArray, List.getElem_cons_zero, List.getElem_cons_succ, Act.put, List.setIfInBounds_toArray, List.set_cons_zero, List.set_cons_succ]
      refine wpAnyH_take (i := 5) (v := .int .i64 k) rfl (by kernel_rfl) (by kernel_rfl) (by kernel_rfl) (fun _ _ _ h => h) (.inl ⟨by rfl, ?_⟩) (by assumption) ?_
      · intro W hW; go_simp
      try simp only [List.getElem_toArray, List.getElem_cons_zero, List.getElem_cons_succ, Act.put, List.setIfInBounds_toArray, List.set_cons_zero, List.set_cons_succ]
      refine wpAnyH_take (i := 6) (v := .pointer (some ⟨b2, o2 + k * 4, none⟩)) rfl (by kernel_rfl) (by kernel_rfl) (by kernel_rfl) (fun _ _ _ h => h) (.inl ⟨by rfl, ?_⟩) (by assumption) ?_
      · intro W hW; go_simp
      try simp only [List.getElem_toArray, List.getElem_cons_zero, List.getElem_cons_succ, Act.put, List.setIfInBounds_toArray, List.set_cons_zero, List.set_cons_succ]
      refine wpAnyH_take (i := 7) (v := .agg (ETw.cells y).toArray) rfl (by kernel_rfl) (by kernel_rfl) (by kernel_rfl) (fun _ _ _ h => h) (gyields_load TTw (by rfl) (.tmp 22) rfl b2 (o2 + k * 4) rfl (fun U hU => G2.out U hU)) (by assumption) ?_
      try simp only [List.getElem_toArray, List.getElem_cons_zero, List.getElem_cons_succ, Act.put, List.setIfInBounds_toArray, List.set_cons_zero, List.set_cons_succ]
      by_cases hxy : x = y
      · subst hxy
        refine wpAnyH_take (i := 8) (v := .bool !(eqTw x x)) rfl (by kernel_rfl) (by kernel_rfl) (by kernel_rfl) (fun _ _ _ h => h) (yields_neq_tw15 (by rfl) (.tmp 19) (.tmp 23) rfl OX.out OX.out rfl rfl) (by assumption) ?_
        try simp only [List.getElem_toArray, List.getElem_cons_zero, List.getElem_cons_succ, Act.put, List.setIfInBounds_toArray, List.set_cons_zero, List.set_cons_succ]
        rw [eqTw_yes]
        refine wpAnyH_done (by decide +kernel) ?_ _
        go_wp2_with fail
        go_roundw
        case rel => exact ⟨k + 1, hlt, by go_num, hH, fun j hj => by
            rcases Nat.lt_or_ge j k with c | c
            · exact NO.out j c
            · obtain rfl : j = k := by omega
              rw [HX.out, HY.out]⟩
        case measure => simp [intOf]; omega
      · have ne : l ≠ m := fun e => hxy (by have h1 := HX.out; have h2 := HY.out; rw [e] at h1; rw [h1] at h2; cases h2; rfl)
        have er : r = false := by rw [← R.out]; exact eqL_no ne
        have ER := Lib.hid er
        clear ne er
        refine wpAnyH_take (i := 8) (v := .bool !(eqTw x y)) rfl (by kernel_rfl) (by kernel_rfl) (by kernel_rfl) (fun _ _ _ h => h) (yields_neq_tw15 (by rfl) (.tmp 19) (.tmp 23) rfl OX.out OY.out rfl rfl) (by assumption) ?_
        try simp only [List.getElem_toArray, List.getElem_cons_zero, List.getElem_cons_succ, Act.put, List.setIfInBounds_toArray, List.set_cons_zero, List.set_cons_succ]
        rw [eqTw_no hxy]
        refine wpAnyH_done (by decide +kernel) ?_ _
        go_wp2_with fail
        go_ret
        rw [ER.out]
        exact ⟨rfl, hH⟩
set_option maxRecDepth 100000 in
set_option maxHeartbeats 8000000 in
theorem equal6 (A1 A2 : Option Addr) (n1 n2 c1 c2 : Nat) (l m : List Int) (w : World) (h1 : E6w.Rd w A1 n1 l) (h2 : E6w.Rd w A2 n2 m) (hn1 : n1 ≤ maxLen) (hn2 : n2 ≤ maxLen) :
    Calls Tryz.prog 111 #[.slice A1 n1 c1, .slice A2 n2 c2] w fun e w' => e = .returned (.bool (eqL15 l m)) ∧ Below w.heap.size w w' := by
  unfold maxLen at hn1 hn2
  by_cases hn : n1 = n2
  case neg =>
    have ne : l ≠ m := fun e => hn (by rw [← h1.1, ← h2.1, e])
    have hd : decide ((n1 : Int) = (n2 : Int)) = false := decide_eq_false (by omega)
    have hb : ((n1 : Int) != (n2 : Int)) = true := by simp; omega
    rw [eqL_no ne]
    clear h1 h2 ne
    go_enter Tryz.func111, Tryz.ntmps111
    go_wp2_with fail
    go_ret
    exact ⟨rfl, Below.refl _ _⟩
  subst hn
  have HL := Lib.hid h1.1
  have HM := Lib.hid h2.1
  have H1 := Lib.hid h1
  have H2 := Lib.hid h2
  have B0 : Hid (Below w.heap.size w w) := Lib.hid (Below.refl _ _)
  obtain ⟨r, hr⟩ : ∃ r, eqL15 l m = r := ⟨_, rfl⟩
  rw [hr]
  have R := Lib.hid hr
  clear h1 h2 hn2 hr
  go_enter Tryz.func111, Tryz.ntmps111
  go_wp2_with fail
  go_loopw [5, 13] (fun _ i wr => ∃ k : Nat, k ≤ n1 ∧ i = .int .i64 k ∧ Below w.heap.size w wr ∧ ∀ j, j < k → l[j]? = m[j]?) (fun _ i _ => n1 - (intOf i).toNat)
  case atStart => exact ⟨0, Nat.zero_le _, rfl, B0.out, fun j hj => absurd hj (Nat.not_lt_zero j)⟩
  case round =>
    obtain ⟨k, hk, rfl, hb, hno⟩ := hrel
    have BW := Lib.hid hb
    have NO := Lib.hid hno
    clear hb hno
    by_cases hlt : k < n1
    case neg =>
      obtain rfl : k = n1 := by omega
      have er : r = true := by rw [← R.out]; exact eqL_yes (eq_of_at HL.out HM.out NO.out)
      have ER := Lib.hid er
      have hd : decide ((k : Int) < (k : Int)) = false := decide_eq_false (by omega)
      clear hlt er
      go_wp2_with fail
      go_ret
      rw [ER.out]
      exact ⟨rfl, BW.out⟩
    case pos =>
      have hd : decide ((k : Int) < (n1 : Int)) = true := decide_eq_true (by omega)
      have hki : (k : Int) < (n1 : Int) := by omega
      obtain ⟨x, hx⟩ : ∃ x, l[k]? = some x := ⟨l[k]'(by have := HL.out; omega), List.getElem?_eq_getElem _⟩
      obtain ⟨y, hy⟩ : ∃ y, m[k]? = some y := ⟨m[k]'(by have := HM.out; omega), List.getElem?_eq_getElem _⟩
      obtain ⟨b1, o1, rfl, -⟩ := grd_rng H1.out hx
      obtain ⟨b2, o2, rfl, -⟩ := grd_rng H2.out hy
      have G1 := Lib.hid fun (U : World) (q : Below w.heap.size w U) => (by obtain ⟨b, o, e, g⟩ := grd_rng (grd_below H1.out q (Nat.le_refl _)) hx; cases e; exact g : U.rangeAt b1 (o1 + k * E6w.N) (E6w.cells x))
      have G2 := Lib.hid fun (U : World) (q : Below w.heap.size w U) => (by obtain ⟨b, o, e, g⟩ := grd_rng (grd_below H2.out q (Nat.le_refl _)) hy; cases e; exact g : U.rangeAt b2 (o2 + k * E6w.N) (E6w.cells y))
      have HX := Lib.hid hx
      have HY := Lib.hid hy
      clear hx hy
      go_wp2_with fail
      refine wp_region_held_drew (S := fun U => Below w.heap.size w U) (by kernel_rfl) BW.out.drew (fun hH => ?_)
      refine wpAnyH_take (i := 0) (v := .slice (some ⟨b1, o1, none⟩) n1 c1) rfl (by kernel_rfl) (by kernel_rfl) (by kernel_rfl) (fun _ _ _ h => h) (.inl ⟨by rfl, ?_⟩) (by assumption) ?_
      · intro W hW; go_simp
      try simp only [List.getElem_toArray, List.getElem_cons_zero, Act.put, List.setIfInBounds_toArray, List.set_cons_zero, List.set_cons_succ]
      refine wpAnyH_take (i := 1) (v := .int .i64 k) rfl (by kernel_rfl) (by kernel_rfl) (by kernel_rfl) (fun _ _ _ h => h) (.inl ⟨by rfl, ?_⟩) (by assumption) ?_
      · intro W hW; go_simp
      try simp only [List.getElem_toArray, List.getElem_cons_zero, List.getElem_cons_succ, Act.put, List.setIfInBounds_toArray, List.set_cons_zero, List.set_cons_succ]
      refine wpAnyH_take (i := 2) (v := .pointer (some ⟨b1, o1 + k, none⟩)) rfl (by kernel_rfl) (by kernel_rfl) (by kernel_rfl) (fun _ _ _ h => h) (.inl ⟨by rfl, ?_⟩) (by assumption) ?_
      · intro W hW; go_simp
      try simp only [List.getElem_toArray, List.getElem_cons_zero, List.getElem_cons_succ, Act.put, List.setIfInBounds_toArray, List.set_cons_zero, List.set_cons_succ]
      refine wpAnyH_take (i := 3) (v := .int .u64 x) rfl (by kernel_rfl) (by kernel_rfl) (by kernel_rfl) (fun _ _ _ h => h) (.inl ⟨by rfl, ?_⟩) (by assumption) ?_
      · intro W hW; have k0 : W.cell? ⟨b1, o1 + k, none⟩ = some (.int .u64 x) := by { have := G1.out W hW 0 _ rfl; rwa [show o1 + k * E6w.N + 0 = o1 + k from by show o1 + k * 1 + 0 = _; omega] at this }; go_simp
      try simp only [List.getElem_toArray, List.getElem_cons_zero, List.getElem_cons_succ, Act.put, List.setIfInBounds_toArray, List.set_cons_zero, List.set_cons_succ]
      refine wpAnyH_take (i := 4) (v := .slice (some ⟨b2, o2, none⟩) n1 c2) rfl (by kernel_rfl) (by kernel_rfl) (by kernel_rfl) (fun _ _ _ h => h) (.inl ⟨by rfl, ?_⟩) (by assumption) ?_
      · intro W hW; go_simp
      try simp only [List.getElem_toArray, List.getElem_cons_zero, List.getElem_cons_succ, Act.put, List.setIfInBounds_toArray, List.set_cons_zero, List.set_cons_succ]
      refine wpAnyH_take (i := 5) (v := .int .i64 k) rfl (by kernel_rfl) (by kernel_rfl) (by kernel_rfl) (fun _ _ _ h => h) (.inl ⟨by rfl, ?_⟩) (by assumption) ?_
      · intro W hW; go_simp
      try simp only [List.getElem_toArray, List.getElem_cons_zero, List.getElem_cons_succ, Act.put, List.setIfInBounds_toArray, List.set_cons_zero, List.set_cons_succ]
      refine wpAnyH_take (i := 6) (v := .pointer (some ⟨b2, o2 + k, none⟩)) rfl (by kernel_rfl) (by kernel_rfl) (by kernel_rfl) (fun _ _ _ h => h) (.inl ⟨by rfl, ?_⟩) (by assumption) ?_
      · intro W hW; go_simp
      try simp only [List.getElem_toArray, List.getElem_cons_zero, List.getElem_cons_succ, Act.put, List.setIfInBounds_toArray, List.set_cons_zero, List.set_cons_succ]
      refine wpAnyH_take (i := 7) (v := .int .u64 y) rfl (by kernel_rfl) (by kernel_rfl) (by kernel_rfl) (fun _ _ _ h => h) (.inl ⟨by rfl, ?_⟩) (by assumption) ?_
      · intro W hW; have k0 : W.cell? ⟨b2, o2 + k, none⟩ = some (.int .u64 y) := by { have := G2.out W hW 0 _ rfl; rwa [show o2 + k * E6w.N + 0 = o2 + k from by show o2 + k * 1 + 0 = _; omega] at this }; go_simp
      try simp only [List.getElem_toArray, List.getElem_cons_zero, List.getElem_cons_succ, Act.put, List.setIfInBounds_toArray, List.set_cons_zero, List.set_cons_succ]
      by_cases hxy : x = y
      · subst hxy
        refine wpAnyH_take (i := 8) (v := .bool false) rfl (by kernel_rfl) (by kernel_rfl) (by kernel_rfl) (fun _ _ _ h => h) (.inl ⟨by rfl, ?_⟩) (by assumption) ?_
        · intro W hW; go_simp
        try simp only [List.getElem_toArray, List.getElem_cons_zero, List.getElem_cons_succ, Act.put, List.setIfInBounds_toArray, List.set_cons_zero, List.set_cons_succ]
        refine wpAnyH_done (by decide +kernel) ?_ _
        go_wp2_with fail
        go_roundw
        case rel => exact ⟨k + 1, hlt, by go_num, hH, fun j hj => by
            rcases Nat.lt_or_ge j k with c | c
            · exact NO.out j c
            · obtain rfl : j = k := by omega
              rw [HX.out, HY.out]⟩
        case measure => simp [intOf]; omega
      · have ne : l ≠ m := fun e => hxy (by have h1 := HX.out; have h2 := HY.out; rw [e] at h1; rw [h1] at h2; cases h2; rfl)
        have er : r = false := by rw [← R.out]; exact eqL_no ne
        have ER := Lib.hid er
        have hd1 : (x == y) = false := by simpa using hxy
        have hd2 : decide (x = y) = false := decide_eq_false hxy
        clear ne er
        refine wpAnyH_take (i := 8) (v := .bool true) rfl (by kernel_rfl) (by kernel_rfl) (by kernel_rfl) (fun _ _ _ h => h) (.inl ⟨by rfl, ?_⟩) (by assumption) ?_
        · intro W hW; go_simp
        try simp only [List.getElem_toArray, List.getElem_cons_zero, List.getElem_cons_succ, Act.put, List.setIfInBounds_toArray, List.set_cons_zero, List.set_cons_succ]
        refine wpAnyH_done (by decide +kernel) ?_ _
        go_wp2_with fail
        go_ret
        rw [ER.out]
        exact ⟨rfl, hH⟩
set_option maxRecDepth 100000 in
set_option maxHeartbeats 8000000 in
theorem equal3 (A1 A2 : Option Addr) (n1 n2 c1 c2 : Nat) (l m : List Int) (w : World) (h1 : E3w.Rd w A1 n1 l) (h2 : E3w.Rd w A2 n2 m) (hn1 : n1 ≤ maxLen) (hn2 : n2 ≤ maxLen) :
    Calls Tryz.prog 112 #[.slice A1 n1 c1, .slice A2 n2 c2] w fun e w' => e = .returned (.bool (eqL15 l m)) ∧ Below w.heap.size w w' := by
  unfold maxLen at hn1 hn2
  by_cases hn : n1 = n2
  case neg =>
    have ne : l ≠ m := fun e => hn (by rw [← h1.1, ← h2.1, e])
    have hd : decide ((n1 : Int) = (n2 : Int)) = false := decide_eq_false (by omega)
    have hb : ((n1 : Int) != (n2 : Int)) = true := by simp; omega
    rw [eqL_no ne]
    clear h1 h2 ne
    go_enter Tryz.func112, Tryz.ntmps112
    go_wp2_with fail
    go_ret
    exact ⟨rfl, Below.refl _ _⟩
  subst hn
  have HL := Lib.hid h1.1
  have HM := Lib.hid h2.1
  have H1 := Lib.hid h1
  have H2 := Lib.hid h2
  have B0 : Hid (Below w.heap.size w w) := Lib.hid (Below.refl _ _)
  obtain ⟨r, hr⟩ : ∃ r, eqL15 l m = r := ⟨_, rfl⟩
  rw [hr]
  have R := Lib.hid hr
  clear h1 h2 hn2 hr
  go_enter Tryz.func112, Tryz.ntmps112
  go_wp2_with fail
  go_loopw [5, 13] (fun _ i wr => ∃ k : Nat, k ≤ n1 ∧ i = .int .i64 k ∧ Below w.heap.size w wr ∧ ∀ j, j < k → l[j]? = m[j]?) (fun _ i _ => n1 - (intOf i).toNat)
  case atStart => exact ⟨0, Nat.zero_le _, rfl, B0.out, fun j hj => absurd hj (Nat.not_lt_zero j)⟩
  case round =>
    obtain ⟨k, hk, rfl, hb, hno⟩ := hrel
    have BW := Lib.hid hb
    have NO := Lib.hid hno
    clear hb hno
    by_cases hlt : k < n1
    case neg =>
      obtain rfl : k = n1 := by omega
      have er : r = true := by rw [← R.out]; exact eqL_yes (eq_of_at HL.out HM.out NO.out)
      have ER := Lib.hid er
      have hd : decide ((k : Int) < (k : Int)) = false := decide_eq_false (by omega)
      clear hlt er
      go_wp2_with fail
      go_ret
      rw [ER.out]
      exact ⟨rfl, BW.out⟩
    case pos =>
      have hd : decide ((k : Int) < (n1 : Int)) = true := decide_eq_true (by omega)
      have hki : (k : Int) < (n1 : Int) := by omega
      obtain ⟨x, hx⟩ : ∃ x, l[k]? = some x := ⟨l[k]'(by have := HL.out; omega), List.getElem?_eq_getElem _⟩
      obtain ⟨y, hy⟩ : ∃ y, m[k]? = some y := ⟨m[k]'(by have := HM.out; omega), List.getElem?_eq_getElem _⟩
      obtain ⟨b1, o1, rfl, -⟩ := grd_rng H1.out hx
      obtain ⟨b2, o2, rfl, -⟩ := grd_rng H2.out hy
      have G1 := Lib.hid fun (U : World) (q : Below w.heap.size w U) => (by obtain ⟨b, o, e, g⟩ := grd_rng (grd_below H1.out q (Nat.le_refl _)) hx; cases e; exact g : U.rangeAt b1 (o1 + k * E3w.N) (E3w.cells x))
      have G2 := Lib.hid fun (U : World) (q : Below w.heap.size w U) => (by obtain ⟨b, o, e, g⟩ := grd_rng (grd_below H2.out q (Nat.le_refl _)) hy; cases e; exact g : U.rangeAt b2 (o2 + k * E3w.N) (E3w.cells y))
      have HX := Lib.hid hx
      have HY := Lib.hid hy
      clear hx hy
      go_wp2_with fail
      refine wp_region_held_drew (S := fun U => Below w.heap.size w U) (by kernel_rfl) BW.out.drew (fun hH => ?_)
      refine wpAnyH_take (i := 0) (v := .slice (some ⟨b1, o1, none⟩) n1 c1) rfl (by kernel_rfl) (by kernel_rfl) (by kernel_rfl) (fun _ _ _ h => h) (.inl ⟨by rfl, ?_⟩) (by assumption) ?_
      · intro W hW; go_simp
      try simp only [List.getElem_toArray, List.getElem_cons_zero, Act.put, List.setIfInBounds_toArray, List.set_cons_zero, List.set_cons_succ]
      refine wpAnyH_take (i := 1) (v := .int .i64 k) rfl (by kernel_rfl) (by kernel_rfl) (by kernel_rfl) (fun _ _ _ h => h) (.inl ⟨by rfl, ?_⟩) (by assumption) ?_
      · intro W hW; go_simp
      try simp only [List.getElem_toArray, List.getElem_cons_zero, List.getElem_cons_succ, Act.put, List.setIfInBounds_toArray, List.set_cons_zero, List.set_cons_succ]
      refine wpAnyH_take (i := 2) (v := .pointer (some ⟨b1, o1 + k, none⟩)) rfl (by kernel_rfl) (by kernel_rfl) (by kernel_rfl) (fun _ _ _ h => h) (.inl ⟨by rfl, ?_⟩) (by assumption) ?_
      · intro W hW; go_simp
      try simp only [List.getElem_toArray, List.getElem_cons_zero, List.getElem_cons_succ, Act.put, List.setIfInBounds_toArray, List.set_cons_zero, List.set_cons_succ]
      refine wpAnyH_take (i := 3) (v := .int .u32 x) rfl (by kernel_rfl) (by kernel_rfl) (by kernel_rfl) (fun _ _ _ h => h) (.inl ⟨by rfl, ?_⟩) (by assumption) ?_
      · intro W hW; have k0 : W.cell? ⟨b1, o1 + k, none⟩ = some (.int .u32 x) := by { have := G1.out W hW 0 _ rfl; rwa [show o1 + k * E3w.N + 0 = o1 + k from by show o1 + k * 1 + 0 = _; omega] at this }; go_simp
      try simp only [List.getElem_toArray, List.getElem_cons_zero, List.getElem_cons_succ, Act.put, List.setIfInBounds_toArray, List.set_cons_zero, List.set_cons_succ]
      refine wpAnyH_take (i := 4) (v := .slice (some ⟨b2, o2, none⟩) n1 c2) rfl (by kernel_rfl) (by kernel_rfl) (by kernel_rfl) (fun _ _ _ h => h) (.inl ⟨by rfl, ?_⟩) (by assumption) ?_
      · intro W hW; go_simp
      try simp only [List.getElem_toArray, List.getElem_cons_zero, List.getElem_cons_succ, Act.put, List.setIfInBounds_toArray, List.set_cons_zero, List.set_cons_succ]
      refine wpAnyH_take (i := 5) (v := .int .i64 k) rfl (by kernel_rfl) (by kernel_rfl) (by kernel_rfl) (fun _ _ _ h => h) (.inl ⟨by rfl, ?_⟩) (by assumption) ?_
      · intro W hW; go_simp
      try simp only [List.getElem_toArray, List.getElem_cons_zero, List.getElem_cons_succ, Act.put, List.setIfInBounds_toArray, List.set_cons_zero, List.set_cons_succ]
      refine wpAnyH_take (i := 6) (v := .pointer (some ⟨b2, o2 + k, none⟩)) rfl (by kernel_rfl) (by kernel_rfl) (by kernel_rfl) (fun _ _ _ h => h) (.inl ⟨by rfl, ?_⟩) (by assumption) ?_
      · intro W hW; go_simp
      try simp only [List.getElem_toArray, List.getElem_cons_zero, List.getElem_cons_succ, Act.put, List.setIfInBounds_toArray, List.set_cons_zero, List.set_cons_succ]
      refine wpAnyH_take (i := 7) (v := .int .u32 y) rfl (by kernel_rfl) (by kernel_rfl) (by kernel_rfl) (fun _ _ _ h => h) (.inl ⟨by rfl, ?_⟩) (by assumption) ?_
      · intro W hW; have k0 : W.cell? ⟨b2, o2 + k, none⟩ = some (.int .u32 y) := by { have := G2.out W hW 0 _ rfl; rwa [show o2 + k * E3w.N + 0 = o2 + k from by show o2 + k * 1 + 0 = _; omega] at this }; go_simp
      try simp only [List.getElem_toArray, List.getElem_cons_zero, List.getElem_cons_succ, Act.put, List.setIfInBounds_toArray, List.set_cons_zero, List.set_cons_succ]
      by_cases hxy : x = y
      · subst hxy
        refine wpAnyH_take (i := 8) (v := .bool false) rfl (by kernel_rfl) (by kernel_rfl) (by kernel_rfl) (fun _ _ _ h => h) (.inl ⟨by rfl, ?_⟩) (by assumption) ?_
        · intro W hW; go_simp
        try simp only [List.getElem_toArray, List.getElem_cons_zero, List.getElem_cons_succ, Act.put, List.setIfInBounds_toArray, List.set_cons_zero, List.set_cons_succ]
        refine wpAnyH_done (by decide +kernel) ?_ _
        go_wp2_with fail
        go_roundw
        case rel => exact ⟨k + 1, hlt, by go_num, hH, fun j hj => by
            rcases Nat.lt_or_ge j k with c | c
            · exact NO.out j c
            · obtain rfl : j = k := by omega
              rw [HX.out, HY.out]⟩
        case measure => simp [intOf]; omega
      · have ne : l ≠ m := fun e => hxy (by have h1 := HX.out; have h2 := HY.out; rw [e] at h1; rw [h1] at h2; cases h2; rfl)
        have er : r = false := by rw [← R.out]; exact eqL_no ne
        have ER := Lib.hid er
        have hd1 : (x == y) = false := by simpa using hxy
        have hd2 : decide (x = y) = false := decide_eq_false hxy
        clear ne er
        refine wpAnyH_take (i := 8) (v := .bool true) rfl (by kernel_rfl) (by kernel_rfl) (by kernel_rfl) (fun _ _ _ h => h) (.inl ⟨by rfl, ?_⟩) (by assumption) ?_
        · intro W hW; go_simp
        try simp only [List.getElem_toArray, List.getElem_cons_zero, List.getElem_cons_succ, Act.put, List.setIfInBounds_toArray, List.set_cons_zero, List.set_cons_succ]
        refine wpAnyH_done (by decide +kernel) ?_ _
        go_wp2_with fail
        go_ret
        rw [ER.out]
        exact ⟨rfl, hH⟩
end Go.Proofs.YtbmlpokkojhhjaaGreat.Wz
