/- The document's Parts: contract (by genTpr.py). -/
import Derived.OwnWalk
import Derived.Test.YtpfhkmppbochnaaHTps
namespace Go.Proofs.Ytpfhkmppbochnaa
open Go.RowKit Go.Sort
set_option linter.unusedVariables false
set_option linter.unusedSimpArgs false

set_option maxRecDepth 100000 in
set_option maxHeartbeats 32000000 in
theorem rparts14 (q : Int) (A : Option Addr) (len cap : Nat) (l : List Ho) (w : World) (hf : I64 q) (hr : EH.Rd w A len l) (hk : ∀ d, d ∈ l → d.ok) (hl : len ≤ maxLen) : Calls Try.prog 9 #[.int .i64 q, .slice A len cap] w (fun e w' => ToldP q l w.heap.size w w' e) := by
  have NL := Lib.hid hr.1
  unfold maxLen at hl
  unfold I64 at hf
  by_cases h64 : 64 < len
  · have d0 : decide (64 < (len : Int)) = true := decide_eq_true (by omega)
    have he : Hid (errP q l = 3) := Lib.hid (by unfold errP; rw [if_pos (by rw [NL.out]; exact h64)])
    clear hr hk h64
    go_enter Try.func9, Try.ntmps9
    go_wp2_with fail
    go_ret2
    exact toldP_bad he.out (by decide) (Below.refl _ _)
  have d0 : decide (64 < (len : Int)) = false := decide_eq_false (by omega)
  have EL : ∀ x y : Int, (if 64 < l.length then x else y) = y := fun x y => if_neg (by rw [NL.out]; exact h64)
  by_cases hq0 : q = 0
  · have d1 : (q == 0) = true := by simp [hq0]
    have he : Hid (errP q l = 2) := Lib.hid (by unfold errP; rw [EL, if_pos hq0])
    clear hr hk h64 EL hq0
    go_enter Try.func9, Try.ntmps9
    go_wp2_with fail
    go_ret2
    exact toldP_bad he.out (by decide) (Below.refl _ _)
  have d1 : (q == 0) = false := by simp [hq0]
  have EZ : ∀ x y : Int, (if q = 0 then x else y) = y := fun x y => if_neg hq0
  by_cases hq1 : 10000000 < q
  · have d2 : decide (10000000 < q) = true := decide_eq_true hq1
    have he : Hid (errP q l = 2) := Lib.hid (by unfold errP; rw [EL, EZ, if_pos (by omega)])
    clear hr hk h64 EL EZ hq0 hq1
    go_enter Try.func9, Try.ntmps9
    go_wp2_with fail
    go_ret2
    exact toldP_bad he.out (by decide) (Below.refl _ _)
  have d2 : decide (10000000 < q) = false := decide_eq_false hq1
  by_cases hq2 : q < -10000000
  · have d3 : decide (q < -10000000) = true := decide_eq_true hq2
    have he : Hid (errP q l = 2) := Lib.hid (by unfold errP; rw [EL, EZ, if_pos (by omega)])
    clear hr hk h64 EL EZ hq0 hq1 hq2
    go_enter Try.func9, Try.ntmps9
    go_wp2_with fail
    go_ret2
    exact toldP_bad he.out (by decide) (Below.refl _ _)
  have d3 : decide (q < -10000000) = false := decide_eq_false hq2
  have bq : -10000000 ≤ q ∧ q ≤ 10000000 := by omega
  have EB : ∀ x y : Int, (if ¬ (-10000000 ≤ q ∧ q ≤ 10000000) then x else y) = y := fun x y => if_neg (by simpa using bq)
  have ER : Hid (risH 0 l = false → errP q l = 2) := Lib.hid fun h => by unfold errP; rw [EL, EZ, EB, if_pos h]
  have ES : Hid (risH 0 l = true → sm (wsP q l) < mag q → errP q l = 7) := Lib.hid fun h h2 => by unfold errP; rw [EL, EZ, EB, if_neg (by rw [h]; decide), if_pos h2]
  have EO : Hid (risH 0 l = true → ¬ sm (wsP q l) < mag q → MayP q l) := Lib.hid fun h h2 => ⟨by rw [NL.out]; omega, hq0, bq, h, by omega⟩
  have HR := Lib.hid fun (W : World) (b : Below w.heap.size w W) => (show EH.Rd W A len l from grd_below hr b (Nat.le_refl _))
  have HK := Lib.hid hk
  have hl64 : len ≤ 64 := by omega
  obtain ⟨bq1, bq2⟩ := bq
  clear hr hk h64 EL EZ EB hq1 hq2
  go_enter Try.func9, Try.ntmps9
  go_wp2_with fail
  go_loopw [6] (fun i wr => ∃ k : Nat, k ≤ len ∧ i = .int .i64 k ∧ risH 0 (l.take k) = true ∧ Below w.heap.size w wr) (fun i _ => len - (intOf i).toNat)
  case atStart => exact ⟨0, Nat.zero_le _, rfl, rfl, Below.refl _ _⟩
  case round =>
    obtain ⟨k, hk, rfl, mr, hb⟩ := hrel
    have HB := Lib.hid hb
    have MR := Lib.hid mr
    clear hb mr
    by_cases hlt : k < len
    case pos =>
      have hki : (k : Int) < (len : Int) := by omega
      have hdk : decide ((k : Int) < (len : Int)) = true := decide_eq_true hki
      obtain ⟨d, hd⟩ : ∃ d, l[k]? = some d := ⟨l[k]'(by have := NL.out; omega), List.getElem?_eq_getElem _⟩
      have OKd := HK.out d (List.mem_of_getElem? hd)
      obtain ⟨ac0, ac1⟩ := OKd.ac
      obtain ⟨b, o, rfl, -⟩ := grd_rng (HR.out wr HB.out) hd
      have LR := Lib.hid fun (m : Nat) (p : Ho) (hm : l[m]? = some p) (W : World) (b' : Below wr.heap.size wr W) => (show W.rangeAt b (o + m * 2) (EH.cells p) by
        obtain ⟨b2, o2, e2, r2⟩ := grd_rng (HR.out W (HB.out.trans (b'.mono HB.out.size))) hm
        cases e2
        exact r2)
      have C0 := Lib.hid fun (W : World) (b' : Below wr.heap.size wr W) => (show W.cell? ⟨b, o + k * 2, none⟩ = some (.int .u32 d.ac) from LR.out k d hd W b' 0 _ rfl)
      have C1 := Lib.hid fun (W : World) (b' : Below wr.heap.size wr W) => (show W.cell? ⟨b, o + k * 2 + 1, none⟩ = some (.int .i64 d.q) from LR.out k d hd W b' 1 _ rfl)
      obtain ⟨pa, hpa⟩ : ∃ a, lastH 0 (l.take k) = a := ⟨_, rfl⟩
      have ST := Lib.hid (risH_step hd MR.out)
      rw [hpa] at ST
      have BAD : Hid (hoB pa d = false → errP q l = 2) := Lib.hid fun h => ER.out (risH_bad (ST.out.trans h))
      have PK : Hid ((k = 0 ∧ pa = 0) ∨ ∃ m p, k = m + 1 ∧ l[m]? = some p ∧ pa = p.ac) := Lib.hid (by
        cases k with
        | zero => left; exact ⟨rfl, hpa.symm⟩
        | succ m =>
          right
          have hm : l[m]? = some (l[m]'(by have := NL.out; omega)) := List.getElem?_eq_getElem _
          exact ⟨m, _, rfl, hm, by rw [← hpa, lastH_take hm]⟩)
      have i3 : -9223372036854775808 ≤ d.q ∧ d.q ≤ 9223372036854775807 := OKd.q
      clear hd hpa OKd
      go_wp2_with fail
      refine wp_region_held_drew (S := fun U => Below wr.heap.size wr U) (by kernel_rfl) (Below.refl _ _).drew (fun hH => ?_)
      refine wpAnyH_take (i := 0) (v := .slice (some ⟨b, o, none⟩) len cap) rfl (by kernel_rfl) (by kernel_rfl) (by kernel_rfl) (fun _ _ _ h => h) (.inl ⟨by rfl, ?_⟩) (by assumption) ?_
      · intro W hW; go_simp
      try simp only [List.getElem_toArray, List.getElem_cons_zero, Act.put, List.setIfInBounds_toArray, List.set_cons_zero, List.set_cons_succ]
      refine wpAnyH_take (i := 1) (v := .int .i64 k) rfl (by kernel_rfl) (by kernel_rfl) (by kernel_rfl) (fun _ _ _ h => h) (.inl ⟨by rfl, ?_⟩) (by assumption) ?_
      · intro W hW; go_simp
      try simp only [List.getElem_toArray, List.getElem_cons_zero, List.getElem_cons_succ, Act.put, List.setIfInBounds_toArray, List.set_cons_zero, List.set_cons_succ]
      refine wpAnyH_take (i := 2) (v := .pointer (some ⟨b, o + k * 2, none⟩)) rfl (by kernel_rfl) (by kernel_rfl) (by kernel_rfl) (fun _ _ _ h => h) (.inl ⟨by rfl, ?_⟩) (by assumption) ?_
      · intro W hW; go_simp
      try simp only [List.getElem_toArray, List.getElem_cons_zero, List.getElem_cons_succ, Act.put, List.setIfInBounds_toArray, List.set_cons_zero, List.set_cons_succ]
      refine wpAnyH_take (i := 3) (v := .pointer (some ⟨b, o + k * 2, none⟩)) rfl (by kernel_rfl) (by kernel_rfl) (by kernel_rfl) (fun _ _ _ h => h) (.inl ⟨by rfl, ?_⟩) (by assumption) ?_
      · intro W hW; go_simp
      try simp only [List.getElem_toArray, List.getElem_cons_zero, List.getElem_cons_succ, Act.put, List.setIfInBounds_toArray, List.set_cons_zero, List.set_cons_succ]
      refine wpAnyH_take (i := 4) (v := .int .u32 d.ac) rfl (by kernel_rfl) (by kernel_rfl) (by kernel_rfl) (fun _ _ _ h => h) (.inl ⟨by rfl, ?_⟩) (by assumption) ?_
      · intro W hW; have cc := C0.out W hW; go_simp
      try simp only [List.getElem_toArray, List.getElem_cons_zero, List.getElem_cons_succ, Act.put, List.setIfInBounds_toArray, List.set_cons_zero, List.set_cons_succ]
      by_cases t0 : d.ac = 0
      · have e_t0 : (d.ac == 0) = true := by simp [t0]
        have EE := Lib.hid (BAD.out (decide_eq_false fun h => by rcases PK.out with ⟨_, e⟩ | ⟨m, p, _, hm, e⟩; omega; have := (HK.out p (List.mem_of_getElem? hm)).ac; omega))
        refine wpAnyH_take (i := 5) (v := .bool true) rfl (by kernel_rfl) (by kernel_rfl) (by kernel_rfl) (fun _ _ _ h => h) (.inl ⟨by rfl, ?_⟩) (by assumption) ?_
        · intro W hW; go_simp
        try simp only [List.getElem_toArray, List.getElem_cons_zero, List.getElem_cons_succ, Act.put, List.setIfInBounds_toArray, List.set_cons_zero, List.set_cons_succ]
        refine wpAnyH_take (i := 6) (v := .bool true) rfl (by kernel_rfl) (by kernel_rfl) (by kernel_rfl) (fun _ _ _ h => h) (.inl ⟨by rfl, ?_⟩) (by assumption) ?_
        · intro W hW; go_simp
        try simp only [List.getElem_toArray, List.getElem_cons_zero, List.getElem_cons_succ, Act.put, List.setIfInBounds_toArray, List.set_cons_zero, List.set_cons_succ]
        refine wpAnyH_take (i := 7) (v := undef) rfl (by kernel_rfl) (by kernel_rfl) (by kernel_rfl) (fun _ _ _ h => h) (.inr ⟨by rfl, rfl⟩) (by assumption) ?_
        try simp only [List.getElem_toArray, List.getElem_cons_zero, List.getElem_cons_succ, Act.put, List.setIfInBounds_toArray, List.set_cons_zero, List.set_cons_succ]
        refine wpAnyH_take (i := 8) (v := undef) rfl (by kernel_rfl) (by kernel_rfl) (by kernel_rfl) (fun _ _ _ h => h) (.inr ⟨by rfl, rfl⟩) (by assumption) ?_
        try simp only [List.getElem_toArray, List.getElem_cons_zero, List.getElem_cons_succ, Act.put, List.setIfInBounds_toArray, List.set_cons_zero, List.set_cons_succ]
        refine wpAnyH_take (i := 9) (v := undef) rfl (by kernel_rfl) (by kernel_rfl) (by kernel_rfl) (fun _ _ _ h => h) (.inr ⟨by rfl, rfl⟩) (by assumption) ?_
        try simp only [List.getElem_toArray, List.getElem_cons_zero, List.getElem_cons_succ, Act.put, List.setIfInBounds_toArray, List.set_cons_zero, List.set_cons_succ]
        refine wpAnyH_take (i := 10) (v := undef) rfl (by kernel_rfl) (by kernel_rfl) (by kernel_rfl) (fun _ _ _ h => h) (.inr ⟨by rfl, rfl⟩) (by assumption) ?_
        try simp only [List.getElem_toArray, List.getElem_cons_zero, List.getElem_cons_succ, Act.put, List.setIfInBounds_toArray, List.set_cons_zero, List.set_cons_succ]
        refine wpAnyH_take (i := 11) (v := undef) rfl (by kernel_rfl) (by kernel_rfl) (by kernel_rfl) (fun _ _ _ h => h) (.inr ⟨by rfl, rfl⟩) (by assumption) ?_
        try simp only [List.getElem_toArray, List.getElem_cons_zero, List.getElem_cons_succ, Act.put, List.setIfInBounds_toArray, List.set_cons_zero, List.set_cons_succ]
        refine wpAnyH_take (i := 12) (v := undef) rfl (by kernel_rfl) (by kernel_rfl) (by kernel_rfl) (fun _ _ _ h => h) (.inr ⟨by rfl, rfl⟩) (by assumption) ?_
        try simp only [List.getElem_toArray, List.getElem_cons_zero, List.getElem_cons_succ, Act.put, List.setIfInBounds_toArray, List.set_cons_zero, List.set_cons_succ]
        refine wpAnyH_take (i := 13) (v := undef) rfl (by kernel_rfl) (by kernel_rfl) (by kernel_rfl) (fun _ _ _ h => h) (.inr ⟨by rfl, rfl⟩) (by assumption) ?_
        try simp only [List.getElem_toArray, List.getElem_cons_zero, List.getElem_cons_succ, Act.put, List.setIfInBounds_toArray, List.set_cons_zero, List.set_cons_succ]
        refine wpAnyH_take (i := 14) (v := undef) rfl (by kernel_rfl) (by kernel_rfl) (by kernel_rfl) (fun _ _ _ h => h) (.inr ⟨by rfl, rfl⟩) (by assumption) ?_
        try simp only [List.getElem_toArray, List.getElem_cons_zero, List.getElem_cons_succ, Act.put, List.setIfInBounds_toArray, List.set_cons_zero, List.set_cons_succ]
        refine wpAnyH_take (i := 15) (v := undef) rfl (by kernel_rfl) (by kernel_rfl) (by kernel_rfl) (fun _ _ _ h => h) (.inr ⟨by rfl, rfl⟩) (by assumption) ?_
        try simp only [List.getElem_toArray, List.getElem_cons_zero, List.getElem_cons_succ, Act.put, List.setIfInBounds_toArray, List.set_cons_zero, List.set_cons_succ]
        refine wpAnyH_take (i := 16) (v := undef) rfl (by kernel_rfl) (by kernel_rfl) (by kernel_rfl) (fun _ _ _ h => h) (.inr ⟨by rfl, rfl⟩) (by assumption) ?_
        try simp only [List.getElem_toArray, List.getElem_cons_zero, List.getElem_cons_succ, Act.put, List.setIfInBounds_toArray, List.set_cons_zero, List.set_cons_succ]
        refine wpAnyH_take (i := 17) (v := undef) rfl (by kernel_rfl) (by kernel_rfl) (by kernel_rfl) (fun _ _ _ h => h) (.inr ⟨by rfl, rfl⟩) (by assumption) ?_
        try simp only [List.getElem_toArray, List.getElem_cons_zero, List.getElem_cons_succ, Act.put, List.setIfInBounds_toArray, List.set_cons_zero, List.set_cons_succ]
        refine wpAnyH_take (i := 18) (v := undef) rfl (by kernel_rfl) (by kernel_rfl) (by kernel_rfl) (fun _ _ _ h => h) (.inr ⟨by rfl, rfl⟩) (by assumption) ?_
        try simp only [List.getElem_toArray, List.getElem_cons_zero, List.getElem_cons_succ, Act.put, List.setIfInBounds_toArray, List.set_cons_zero, List.set_cons_succ]
        refine wpAnyH_take (i := 19) (v := undef) rfl (by kernel_rfl) (by kernel_rfl) (by kernel_rfl) (fun _ _ _ h => h) (.inr ⟨by rfl, rfl⟩) (by assumption) ?_
        try simp only [List.getElem_toArray, List.getElem_cons_zero, List.getElem_cons_succ, Act.put, List.setIfInBounds_toArray, List.set_cons_zero, List.set_cons_succ]
        refine wpAnyH_take (i := 20) (v := undef) rfl (by kernel_rfl) (by kernel_rfl) (by kernel_rfl) (fun _ _ _ h => h) (.inr ⟨by rfl, rfl⟩) (by assumption) ?_
        try simp only [List.getElem_toArray, List.getElem_cons_zero, List.getElem_cons_succ, Act.put, List.setIfInBounds_toArray, List.set_cons_zero, List.set_cons_succ]
        refine wpAnyH_take (i := 21) (v := undef) rfl (by kernel_rfl) (by kernel_rfl) (by kernel_rfl) (fun _ _ _ h => h) (.inr ⟨by rfl, rfl⟩) (by assumption) ?_
        try simp only [List.getElem_toArray, List.getElem_cons_zero, List.getElem_cons_succ, Act.put, List.setIfInBounds_toArray, List.set_cons_zero, List.set_cons_succ]
        refine wpAnyH_take (i := 22) (v := undef) rfl (by kernel_rfl) (by kernel_rfl) (by kernel_rfl) (fun _ _ _ h => h) (.inr ⟨by rfl, rfl⟩) (by assumption) ?_
        try simp only [List.getElem_toArray, List.getElem_cons_zero, List.getElem_cons_succ, Act.put, List.setIfInBounds_toArray, List.set_cons_zero, List.set_cons_succ]
        refine wpAnyH_take (i := 23) (v := .bool true) rfl (by kernel_rfl) (by kernel_rfl) (by kernel_rfl) (fun _ _ _ h => h) (.inl ⟨by rfl, ?_⟩) (by assumption) ?_
        · intro W hW; go_simp
        try simp only [List.getElem_toArray, List.getElem_cons_zero, List.getElem_cons_succ, Act.put, List.setIfInBounds_toArray, List.set_cons_zero, List.set_cons_succ]
        refine wpAnyH_take (i := 24) (v := .bool true) rfl (by kernel_rfl) (by kernel_rfl) (by kernel_rfl) (fun _ _ _ h => h) (.inl ⟨by rfl, ?_⟩) (by assumption) ?_
        · intro W hW; go_simp
        try simp only [List.getElem_toArray, List.getElem_cons_zero, List.getElem_cons_succ, Act.put, List.setIfInBounds_toArray, List.set_cons_zero, List.set_cons_succ]
        refine wpAnyH_take (i := 25) (v := undef) rfl (by kernel_rfl) (by kernel_rfl) (by kernel_rfl) (fun _ _ _ h => h) (.inr ⟨by rfl, rfl⟩) (by assumption) ?_
        try simp only [List.getElem_toArray, List.getElem_cons_zero, List.getElem_cons_succ, Act.put, List.setIfInBounds_toArray, List.set_cons_zero, List.set_cons_succ]
        refine wpAnyH_take (i := 26) (v := undef) rfl (by kernel_rfl) (by kernel_rfl) (by kernel_rfl) (fun _ _ _ h => h) (.inr ⟨by rfl, rfl⟩) (by assumption) ?_
        try simp only [List.getElem_toArray, List.getElem_cons_zero, List.getElem_cons_succ, Act.put, List.setIfInBounds_toArray, List.set_cons_zero, List.set_cons_succ]
        refine wpAnyH_take (i := 27) (v := undef) rfl (by kernel_rfl) (by kernel_rfl) (by kernel_rfl) (fun _ _ _ h => h) (.inr ⟨by rfl, rfl⟩) (by assumption) ?_
        try simp only [List.getElem_toArray, List.getElem_cons_zero, List.getElem_cons_succ, Act.put, List.setIfInBounds_toArray, List.set_cons_zero, List.set_cons_succ]
        refine wpAnyH_take (i := 28) (v := undef) rfl (by kernel_rfl) (by kernel_rfl) (by kernel_rfl) (fun _ _ _ h => h) (.inr ⟨by rfl, rfl⟩) (by assumption) ?_
        try simp only [List.getElem_toArray, List.getElem_cons_zero, List.getElem_cons_succ, Act.put, List.setIfInBounds_toArray, List.set_cons_zero, List.set_cons_succ]
        refine wpAnyH_take (i := 29) (v := undef) rfl (by kernel_rfl) (by kernel_rfl) (by kernel_rfl) (fun _ _ _ h => h) (.inr ⟨by rfl, rfl⟩) (by assumption) ?_
        try simp only [List.getElem_toArray, List.getElem_cons_zero, List.getElem_cons_succ, Act.put, List.setIfInBounds_toArray, List.set_cons_zero, List.set_cons_succ]
        refine wpAnyH_take (i := 30) (v := undef) rfl (by kernel_rfl) (by kernel_rfl) (by kernel_rfl) (fun _ _ _ h => h) (.inr ⟨by rfl, rfl⟩) (by assumption) ?_
        try simp only [List.getElem_toArray, List.getElem_cons_zero, List.getElem_cons_succ, Act.put, List.setIfInBounds_toArray, List.set_cons_zero, List.set_cons_succ]
        refine wpAnyH_take (i := 31) (v := .bool true) rfl (by kernel_rfl) (by kernel_rfl) (by kernel_rfl) (fun _ _ _ h => h) (.inl ⟨by rfl, ?_⟩) (by assumption) ?_
        · intro W hW; go_simp
        try simp only [List.getElem_toArray, List.getElem_cons_zero, List.getElem_cons_succ, Act.put, List.setIfInBounds_toArray, List.set_cons_zero, List.set_cons_succ]
        refine wpAnyH_take (i := 32) (v := .bool true) rfl (by kernel_rfl) (by kernel_rfl) (by kernel_rfl) (fun _ _ _ h => h) (.inl ⟨by rfl, ?_⟩) (by assumption) ?_
        · intro W hW; go_simp
        try simp only [List.getElem_toArray, List.getElem_cons_zero, List.getElem_cons_succ, Act.put, List.setIfInBounds_toArray, List.set_cons_zero, List.set_cons_succ]
        refine wpAnyH_take (i := 33) (v := undef) rfl (by kernel_rfl) (by kernel_rfl) (by kernel_rfl) (fun _ _ _ h => h) (.inr ⟨by rfl, rfl⟩) (by assumption) ?_
        try simp only [List.getElem_toArray, List.getElem_cons_zero, List.getElem_cons_succ, Act.put, List.setIfInBounds_toArray, List.set_cons_zero, List.set_cons_succ]
        refine wpAnyH_take (i := 34) (v := undef) rfl (by kernel_rfl) (by kernel_rfl) (by kernel_rfl) (fun _ _ _ h => h) (.inr ⟨by rfl, rfl⟩) (by assumption) ?_
        try simp only [List.getElem_toArray, List.getElem_cons_zero, List.getElem_cons_succ, Act.put, List.setIfInBounds_toArray, List.set_cons_zero, List.set_cons_succ]
        refine wpAnyH_take (i := 35) (v := undef) rfl (by kernel_rfl) (by kernel_rfl) (by kernel_rfl) (fun _ _ _ h => h) (.inr ⟨by rfl, rfl⟩) (by assumption) ?_
        try simp only [List.getElem_toArray, List.getElem_cons_zero, List.getElem_cons_succ, Act.put, List.setIfInBounds_toArray, List.set_cons_zero, List.set_cons_succ]
        refine wpAnyH_take (i := 36) (v := undef) rfl (by kernel_rfl) (by kernel_rfl) (by kernel_rfl) (fun _ _ _ h => h) (.inr ⟨by rfl, rfl⟩) (by assumption) ?_
        try simp only [List.getElem_toArray, List.getElem_cons_zero, List.getElem_cons_succ, Act.put, List.setIfInBounds_toArray, List.set_cons_zero, List.set_cons_succ]
        refine wpAnyH_take (i := 37) (v := undef) rfl (by kernel_rfl) (by kernel_rfl) (by kernel_rfl) (fun _ _ _ h => h) (.inr ⟨by rfl, rfl⟩) (by assumption) ?_
        try simp only [List.getElem_toArray, List.getElem_cons_zero, List.getElem_cons_succ, Act.put, List.setIfInBounds_toArray, List.set_cons_zero, List.set_cons_succ]
        refine wpAnyH_take (i := 38) (v := undef) rfl (by kernel_rfl) (by kernel_rfl) (by kernel_rfl) (fun _ _ _ h => h) (.inr ⟨by rfl, rfl⟩) (by assumption) ?_
        try simp only [List.getElem_toArray, List.getElem_cons_zero, List.getElem_cons_succ, Act.put, List.setIfInBounds_toArray, List.set_cons_zero, List.set_cons_succ]
        refine wpAnyH_take (i := 39) (v := .bool true) rfl (by kernel_rfl) (by kernel_rfl) (by kernel_rfl) (fun _ _ _ h => h) (.inl ⟨by rfl, ?_⟩) (by assumption) ?_
        · intro W hW; go_simp
        try simp only [List.getElem_toArray, List.getElem_cons_zero, List.getElem_cons_succ, Act.put, List.setIfInBounds_toArray, List.set_cons_zero, List.set_cons_succ]
        refine wpAnyH_done (by decide +kernel) ?_ _
        have HBX := Lib.hid (HB.out.trans (hH.mono HB.out.size))
        clear hH
        go_wp2_with fail
        go_ret2
        exact toldP_bad EE.out (by decide) HBX.out
      have e_t0 : (d.ac == 0) = false := by simp [t0]
      refine wpAnyH_take (i := 5) (v := .bool false) rfl (by kernel_rfl) (by kernel_rfl) (by kernel_rfl) (fun _ _ _ h => h) (.inl ⟨by rfl, ?_⟩) (by assumption) ?_
      · intro W hW; go_simp
      try simp only [List.getElem_toArray, List.getElem_cons_zero, List.getElem_cons_succ, Act.put, List.setIfInBounds_toArray, List.set_cons_zero, List.set_cons_succ]
      refine wpAnyH_take (i := 6) (v := .bool false) rfl (by kernel_rfl) (by kernel_rfl) (by kernel_rfl) (fun _ _ _ h => h) (.inl ⟨by rfl, ?_⟩) (by assumption) ?_
      · intro W hW; go_simp
      try simp only [List.getElem_toArray, List.getElem_cons_zero, List.getElem_cons_succ, Act.put, List.setIfInBounds_toArray, List.set_cons_zero, List.set_cons_succ]
      refine wpAnyH_take (i := 7) (v := .int .i64 k) rfl (by kernel_rfl) (by kernel_rfl) (by kernel_rfl) (fun _ _ _ h => h) (.inl ⟨by rfl, ?_⟩) (by assumption) ?_
      · intro W hW; go_simp
      try simp only [List.getElem_toArray, List.getElem_cons_zero, List.getElem_cons_succ, Act.put, List.setIfInBounds_toArray, List.set_cons_zero, List.set_cons_succ]
      rcases PK.out with ⟨ek, ep⟩ | ⟨m, p, ek, hm, ep⟩
      · have e_k : decide (0 < (k : Int)) = false := decide_eq_false (by omega)
        have e_k2 : decide (0 < k) = false := decide_eq_false (by omega)
        clear PK ek
        refine wpAnyH_take (i := 8) (v := .bool false) rfl (by kernel_rfl) (by kernel_rfl) (by kernel_rfl) (fun _ _ _ h => h) (.inl ⟨by rfl, ?_⟩) (by assumption) ?_
        · intro W hW; go_simp
        try simp only [List.getElem_toArray, List.getElem_cons_zero, List.getElem_cons_succ, Act.put, List.setIfInBounds_toArray, List.set_cons_zero, List.set_cons_succ]
        refine wpAnyH_take (i := 9) (v := .bool false) rfl (by kernel_rfl) (by kernel_rfl) (by kernel_rfl) (fun _ _ _ h => h) (.inl ⟨by rfl, ?_⟩) (by assumption) ?_
        · intro W hW; go_simp
        try simp only [List.getElem_toArray, List.getElem_cons_zero, List.getElem_cons_succ, Act.put, List.setIfInBounds_toArray, List.set_cons_zero, List.set_cons_succ]
        refine wpAnyH_take (i := 10) (v := undef) rfl (by kernel_rfl) (by kernel_rfl) (by kernel_rfl) (fun _ _ _ h => h) (.inr ⟨by rfl, rfl⟩) (by assumption) ?_
        try simp only [List.getElem_toArray, List.getElem_cons_zero, List.getElem_cons_succ, Act.put, List.setIfInBounds_toArray, List.set_cons_zero, List.set_cons_succ]
        refine wpAnyH_take (i := 11) (v := undef) rfl (by kernel_rfl) (by kernel_rfl) (by kernel_rfl) (fun _ _ _ h => h) (.inr ⟨by rfl, rfl⟩) (by assumption) ?_
        try simp only [List.getElem_toArray, List.getElem_cons_zero, List.getElem_cons_succ, Act.put, List.setIfInBounds_toArray, List.set_cons_zero, List.set_cons_succ]
        refine wpAnyH_take (i := 12) (v := undef) rfl (by kernel_rfl) (by kernel_rfl) (by kernel_rfl) (fun _ _ _ h => h) (.inr ⟨by rfl, rfl⟩) (by assumption) ?_
        try simp only [List.getElem_toArray, List.getElem_cons_zero, List.getElem_cons_succ, Act.put, List.setIfInBounds_toArray, List.set_cons_zero, List.set_cons_succ]
        refine wpAnyH_take (i := 13) (v := undef) rfl (by kernel_rfl) (by kernel_rfl) (by kernel_rfl) (fun _ _ _ h => h) (.inr ⟨by rfl, rfl⟩) (by assumption) ?_
        try simp only [List.getElem_toArray, List.getElem_cons_zero, List.getElem_cons_succ, Act.put, List.setIfInBounds_toArray, List.set_cons_zero, List.set_cons_succ]
        refine wpAnyH_take (i := 14) (v := undef) rfl (by kernel_rfl) (by kernel_rfl) (by kernel_rfl) (fun _ _ _ h => h) (.inr ⟨by rfl, rfl⟩) (by assumption) ?_
        try simp only [List.getElem_toArray, List.getElem_cons_zero, List.getElem_cons_succ, Act.put, List.setIfInBounds_toArray, List.set_cons_zero, List.set_cons_succ]
        refine wpAnyH_take (i := 15) (v := undef) rfl (by kernel_rfl) (by kernel_rfl) (by kernel_rfl) (fun _ _ _ h => h) (.inr ⟨by rfl, rfl⟩) (by assumption) ?_
        try simp only [List.getElem_toArray, List.getElem_cons_zero, List.getElem_cons_succ, Act.put, List.setIfInBounds_toArray, List.set_cons_zero, List.set_cons_succ]
        refine wpAnyH_take (i := 16) (v := undef) rfl (by kernel_rfl) (by kernel_rfl) (by kernel_rfl) (fun _ _ _ h => h) (.inr ⟨by rfl, rfl⟩) (by assumption) ?_
        try simp only [List.getElem_toArray, List.getElem_cons_zero, List.getElem_cons_succ, Act.put, List.setIfInBounds_toArray, List.set_cons_zero, List.set_cons_succ]
        refine wpAnyH_take (i := 17) (v := undef) rfl (by kernel_rfl) (by kernel_rfl) (by kernel_rfl) (fun _ _ _ h => h) (.inr ⟨by rfl, rfl⟩) (by assumption) ?_
        try simp only [List.getElem_toArray, List.getElem_cons_zero, List.getElem_cons_succ, Act.put, List.setIfInBounds_toArray, List.set_cons_zero, List.set_cons_succ]
        refine wpAnyH_take (i := 18) (v := undef) rfl (by kernel_rfl) (by kernel_rfl) (by kernel_rfl) (fun _ _ _ h => h) (.inr ⟨by rfl, rfl⟩) (by assumption) ?_
        try simp only [List.getElem_toArray, List.getElem_cons_zero, List.getElem_cons_succ, Act.put, List.setIfInBounds_toArray, List.set_cons_zero, List.set_cons_succ]
        refine wpAnyH_take (i := 19) (v := undef) rfl (by kernel_rfl) (by kernel_rfl) (by kernel_rfl) (fun _ _ _ h => h) (.inr ⟨by rfl, rfl⟩) (by assumption) ?_
        try simp only [List.getElem_toArray, List.getElem_cons_zero, List.getElem_cons_succ, Act.put, List.setIfInBounds_toArray, List.set_cons_zero, List.set_cons_succ]
        refine wpAnyH_take (i := 20) (v := undef) rfl (by kernel_rfl) (by kernel_rfl) (by kernel_rfl) (fun _ _ _ h => h) (.inr ⟨by rfl, rfl⟩) (by assumption) ?_
        try simp only [List.getElem_toArray, List.getElem_cons_zero, List.getElem_cons_succ, Act.put, List.setIfInBounds_toArray, List.set_cons_zero, List.set_cons_succ]
        refine wpAnyH_take (i := 21) (v := undef) rfl (by kernel_rfl) (by kernel_rfl) (by kernel_rfl) (fun _ _ _ h => h) (.inr ⟨by rfl, rfl⟩) (by assumption) ?_
        try simp only [List.getElem_toArray, List.getElem_cons_zero, List.getElem_cons_succ, Act.put, List.setIfInBounds_toArray, List.set_cons_zero, List.set_cons_succ]
        refine wpAnyH_take (i := 22) (v := .bool false) rfl (by kernel_rfl) (by kernel_rfl) (by kernel_rfl) (fun _ _ _ h => h) (.inl ⟨by rfl, ?_⟩) (by assumption) ?_
        · intro W hW; go_simp
        try simp only [List.getElem_toArray, List.getElem_cons_zero, List.getElem_cons_succ, Act.put, List.setIfInBounds_toArray, List.set_cons_zero, List.set_cons_succ]
        refine wpAnyH_take (i := 23) (v := .bool false) rfl (by kernel_rfl) (by kernel_rfl) (by kernel_rfl) (fun _ _ _ h => h) (.inl ⟨by rfl, ?_⟩) (by assumption) ?_
        · intro W hW; go_simp
        try simp only [List.getElem_toArray, List.getElem_cons_zero, List.getElem_cons_succ, Act.put, List.setIfInBounds_toArray, List.set_cons_zero, List.set_cons_succ]
        refine wpAnyH_take (i := 24) (v := .bool false) rfl (by kernel_rfl) (by kernel_rfl) (by kernel_rfl) (fun _ _ _ h => h) (.inl ⟨by rfl, ?_⟩) (by assumption) ?_
        · intro W hW; go_simp
        try simp only [List.getElem_toArray, List.getElem_cons_zero, List.getElem_cons_succ, Act.put, List.setIfInBounds_toArray, List.set_cons_zero, List.set_cons_succ]
        refine wpAnyH_take (i := 25) (v := .slice (some ⟨b, o, none⟩) len cap) rfl (by kernel_rfl) (by kernel_rfl) (by kernel_rfl) (fun _ _ _ h => h) (.inl ⟨by rfl, ?_⟩) (by assumption) ?_
        · intro W hW; go_simp
        try simp only [List.getElem_toArray, List.getElem_cons_zero, List.getElem_cons_succ, Act.put, List.setIfInBounds_toArray, List.set_cons_zero, List.set_cons_succ]
        refine wpAnyH_take (i := 26) (v := .int .i64 k) rfl (by kernel_rfl) (by kernel_rfl) (by kernel_rfl) (fun _ _ _ h => h) (.inl ⟨by rfl, ?_⟩) (by assumption) ?_
        · intro W hW; go_simp
        try simp only [List.getElem_toArray, List.getElem_cons_zero, List.getElem_cons_succ, Act.put, List.setIfInBounds_toArray, List.set_cons_zero, List.set_cons_succ]
        refine wpAnyH_take (i := 27) (v := .pointer (some ⟨b, o + k * 2, none⟩)) rfl (by kernel_rfl) (by kernel_rfl) (by kernel_rfl) (fun _ _ _ h => h) (.inl ⟨by rfl, ?_⟩) (by assumption) ?_
        · intro W hW; go_simp
        try simp only [List.getElem_toArray, List.getElem_cons_zero, List.getElem_cons_succ, Act.put, List.setIfInBounds_toArray, List.set_cons_zero, List.set_cons_succ]
        refine wpAnyH_take (i := 28) (v := .pointer (some ⟨b, o + k * 2 + 1, none⟩)) rfl (by kernel_rfl) (by kernel_rfl) (by kernel_rfl) (fun _ _ _ h => h) (.inl ⟨by rfl, ?_⟩) (by assumption) ?_
        · intro W hW; go_simp
        try simp only [List.getElem_toArray, List.getElem_cons_zero, List.getElem_cons_succ, Act.put, List.setIfInBounds_toArray, List.set_cons_zero, List.set_cons_succ]
        refine wpAnyH_take (i := 29) (v := .int .i64 d.q) rfl (by kernel_rfl) (by kernel_rfl) (by kernel_rfl) (fun _ _ _ h => h) (.inl ⟨by rfl, ?_⟩) (by assumption) ?_
        · intro W hW; have cc := C1.out W hW; go_simp
        try simp only [List.getElem_toArray, List.getElem_cons_zero, List.getElem_cons_succ, Act.put, List.setIfInBounds_toArray, List.set_cons_zero, List.set_cons_succ]
        by_cases t2 : 10000000 < d.q
        · have e_t2 : decide (10000000 < d.q) = true := decide_eq_true t2
          have EE := Lib.hid (BAD.out (decide_eq_false fun h => by omega))
          refine wpAnyH_take (i := 30) (v := .bool true) rfl (by kernel_rfl) (by kernel_rfl) (by kernel_rfl) (fun _ _ _ h => h) (.inl ⟨by rfl, ?_⟩) (by assumption) ?_
          · intro W hW; go_simp
          try simp only [List.getElem_toArray, List.getElem_cons_zero, List.getElem_cons_succ, Act.put, List.setIfInBounds_toArray, List.set_cons_zero, List.set_cons_succ]
          refine wpAnyH_take (i := 31) (v := .bool true) rfl (by kernel_rfl) (by kernel_rfl) (by kernel_rfl) (fun _ _ _ h => h) (.inl ⟨by rfl, ?_⟩) (by assumption) ?_
          · intro W hW; go_simp
          try simp only [List.getElem_toArray, List.getElem_cons_zero, List.getElem_cons_succ, Act.put, List.setIfInBounds_toArray, List.set_cons_zero, List.set_cons_succ]
          refine wpAnyH_take (i := 32) (v := .bool true) rfl (by kernel_rfl) (by kernel_rfl) (by kernel_rfl) (fun _ _ _ h => h) (.inl ⟨by rfl, ?_⟩) (by assumption) ?_
          · intro W hW; go_simp
          try simp only [List.getElem_toArray, List.getElem_cons_zero, List.getElem_cons_succ, Act.put, List.setIfInBounds_toArray, List.set_cons_zero, List.set_cons_succ]
          refine wpAnyH_take (i := 33) (v := undef) rfl (by kernel_rfl) (by kernel_rfl) (by kernel_rfl) (fun _ _ _ h => h) (.inr ⟨by rfl, rfl⟩) (by assumption) ?_
          try simp only [List.getElem_toArray, List.getElem_cons_zero, List.getElem_cons_succ, Act.put, List.setIfInBounds_toArray, List.set_cons_zero, List.set_cons_succ]
          refine wpAnyH_take (i := 34) (v := undef) rfl (by kernel_rfl) (by kernel_rfl) (by kernel_rfl) (fun _ _ _ h => h) (.inr ⟨by rfl, rfl⟩) (by assumption) ?_
          try simp only [List.getElem_toArray, List.getElem_cons_zero, List.getElem_cons_succ, Act.put, List.setIfInBounds_toArray, List.set_cons_zero, List.set_cons_succ]
          refine wpAnyH_take (i := 35) (v := undef) rfl (by kernel_rfl) (by kernel_rfl) (by kernel_rfl) (fun _ _ _ h => h) (.inr ⟨by rfl, rfl⟩) (by assumption) ?_
          try simp only [List.getElem_toArray, List.getElem_cons_zero, List.getElem_cons_succ, Act.put, List.setIfInBounds_toArray, List.set_cons_zero, List.set_cons_succ]
          refine wpAnyH_take (i := 36) (v := undef) rfl (by kernel_rfl) (by kernel_rfl) (by kernel_rfl) (fun _ _ _ h => h) (.inr ⟨by rfl, rfl⟩) (by assumption) ?_
          try simp only [List.getElem_toArray, List.getElem_cons_zero, List.getElem_cons_succ, Act.put, List.setIfInBounds_toArray, List.set_cons_zero, List.set_cons_succ]
          refine wpAnyH_take (i := 37) (v := undef) rfl (by kernel_rfl) (by kernel_rfl) (by kernel_rfl) (fun _ _ _ h => h) (.inr ⟨by rfl, rfl⟩) (by assumption) ?_
          try simp only [List.getElem_toArray, List.getElem_cons_zero, List.getElem_cons_succ, Act.put, List.setIfInBounds_toArray, List.set_cons_zero, List.set_cons_succ]
          refine wpAnyH_take (i := 38) (v := undef) rfl (by kernel_rfl) (by kernel_rfl) (by kernel_rfl) (fun _ _ _ h => h) (.inr ⟨by rfl, rfl⟩) (by assumption) ?_
          try simp only [List.getElem_toArray, List.getElem_cons_zero, List.getElem_cons_succ, Act.put, List.setIfInBounds_toArray, List.set_cons_zero, List.set_cons_succ]
          refine wpAnyH_take (i := 39) (v := .bool true) rfl (by kernel_rfl) (by kernel_rfl) (by kernel_rfl) (fun _ _ _ h => h) (.inl ⟨by rfl, ?_⟩) (by assumption) ?_
          · intro W hW; go_simp
          try simp only [List.getElem_toArray, List.getElem_cons_zero, List.getElem_cons_succ, Act.put, List.setIfInBounds_toArray, List.set_cons_zero, List.set_cons_succ]
          refine wpAnyH_done (by decide +kernel) ?_ _
          have HBX := Lib.hid (HB.out.trans (hH.mono HB.out.size))
          clear hH
          go_wp2_with fail
          go_ret2
          exact toldP_bad EE.out (by decide) HBX.out
        have e_t2 : decide (10000000 < d.q) = false := decide_eq_false t2
        refine wpAnyH_take (i := 30) (v := .bool false) rfl (by kernel_rfl) (by kernel_rfl) (by kernel_rfl) (fun _ _ _ h => h) (.inl ⟨by rfl, ?_⟩) (by assumption) ?_
        · intro W hW; go_simp
        try simp only [List.getElem_toArray, List.getElem_cons_zero, List.getElem_cons_succ, Act.put, List.setIfInBounds_toArray, List.set_cons_zero, List.set_cons_succ]
        refine wpAnyH_take (i := 31) (v := .bool false) rfl (by kernel_rfl) (by kernel_rfl) (by kernel_rfl) (fun _ _ _ h => h) (.inl ⟨by rfl, ?_⟩) (by assumption) ?_
        · intro W hW; go_simp
        try simp only [List.getElem_toArray, List.getElem_cons_zero, List.getElem_cons_succ, Act.put, List.setIfInBounds_toArray, List.set_cons_zero, List.set_cons_succ]
        refine wpAnyH_take (i := 32) (v := .bool false) rfl (by kernel_rfl) (by kernel_rfl) (by kernel_rfl) (fun _ _ _ h => h) (.inl ⟨by rfl, ?_⟩) (by assumption) ?_
        · intro W hW; go_simp
        try simp only [List.getElem_toArray, List.getElem_cons_zero, List.getElem_cons_succ, Act.put, List.setIfInBounds_toArray, List.set_cons_zero, List.set_cons_succ]
        refine wpAnyH_take (i := 33) (v := .slice (some ⟨b, o, none⟩) len cap) rfl (by kernel_rfl) (by kernel_rfl) (by kernel_rfl) (fun _ _ _ h => h) (.inl ⟨by rfl, ?_⟩) (by assumption) ?_
        · intro W hW; go_simp
        try simp only [List.getElem_toArray, List.getElem_cons_zero, List.getElem_cons_succ, Act.put, List.setIfInBounds_toArray, List.set_cons_zero, List.set_cons_succ]
        refine wpAnyH_take (i := 34) (v := .int .i64 k) rfl (by kernel_rfl) (by kernel_rfl) (by kernel_rfl) (fun _ _ _ h => h) (.inl ⟨by rfl, ?_⟩) (by assumption) ?_
        · intro W hW; go_simp
        try simp only [List.getElem_toArray, List.getElem_cons_zero, List.getElem_cons_succ, Act.put, List.setIfInBounds_toArray, List.set_cons_zero, List.set_cons_succ]
        refine wpAnyH_take (i := 35) (v := .pointer (some ⟨b, o + k * 2, none⟩)) rfl (by kernel_rfl) (by kernel_rfl) (by kernel_rfl) (fun _ _ _ h => h) (.inl ⟨by rfl, ?_⟩) (by assumption) ?_
        · intro W hW; go_simp
        try simp only [List.getElem_toArray, List.getElem_cons_zero, List.getElem_cons_succ, Act.put, List.setIfInBounds_toArray, List.set_cons_zero, List.set_cons_succ]
        refine wpAnyH_take (i := 36) (v := .pointer (some ⟨b, o + k * 2 + 1, none⟩)) rfl (by kernel_rfl) (by kernel_rfl) (by kernel_rfl) (fun _ _ _ h => h) (.inl ⟨by rfl, ?_⟩) (by assumption) ?_
        · intro W hW; go_simp
        try simp only [List.getElem_toArray, List.getElem_cons_zero, List.getElem_cons_succ, Act.put, List.setIfInBounds_toArray, List.set_cons_zero, List.set_cons_succ]
        refine wpAnyH_take (i := 37) (v := .int .i64 d.q) rfl (by kernel_rfl) (by kernel_rfl) (by kernel_rfl) (fun _ _ _ h => h) (.inl ⟨by rfl, ?_⟩) (by assumption) ?_
        · intro W hW; have cc := C1.out W hW; go_simp
        try simp only [List.getElem_toArray, List.getElem_cons_zero, List.getElem_cons_succ, Act.put, List.setIfInBounds_toArray, List.set_cons_zero, List.set_cons_succ]
        by_cases t3 : d.q < -10000000
        · have e_t3 : decide (d.q < -10000000) = true := decide_eq_true t3
          have EE := Lib.hid (BAD.out (decide_eq_false fun h => by omega))
          refine wpAnyH_take (i := 38) (v := .bool true) rfl (by kernel_rfl) (by kernel_rfl) (by kernel_rfl) (fun _ _ _ h => h) (.inl ⟨by rfl, ?_⟩) (by assumption) ?_
          · intro W hW; go_simp
          try simp only [List.getElem_toArray, List.getElem_cons_zero, List.getElem_cons_succ, Act.put, List.setIfInBounds_toArray, List.set_cons_zero, List.set_cons_succ]
          refine wpAnyH_take (i := 39) (v := .bool true) rfl (by kernel_rfl) (by kernel_rfl) (by kernel_rfl) (fun _ _ _ h => h) (.inl ⟨by rfl, ?_⟩) (by assumption) ?_
          · intro W hW; go_simp
          try simp only [List.getElem_toArray, List.getElem_cons_zero, List.getElem_cons_succ, Act.put, List.setIfInBounds_toArray, List.set_cons_zero, List.set_cons_succ]
          refine wpAnyH_done (by decide +kernel) ?_ _
          have HBX := Lib.hid (HB.out.trans (hH.mono HB.out.size))
          clear hH
          go_wp2_with fail
          go_ret2
          exact toldP_bad EE.out (by decide) HBX.out
        have e_t3 : decide (d.q < -10000000) = false := decide_eq_false t3
        refine wpAnyH_take (i := 38) (v := .bool false) rfl (by kernel_rfl) (by kernel_rfl) (by kernel_rfl) (fun _ _ _ h => h) (.inl ⟨by rfl, ?_⟩) (by assumption) ?_
        · intro W hW; go_simp
        try simp only [List.getElem_toArray, List.getElem_cons_zero, List.getElem_cons_succ, Act.put, List.setIfInBounds_toArray, List.set_cons_zero, List.set_cons_succ]
        refine wpAnyH_take (i := 39) (v := .bool false) rfl (by kernel_rfl) (by kernel_rfl) (by kernel_rfl) (fun _ _ _ h => h) (.inl ⟨by rfl, ?_⟩) (by assumption) ?_
        · intro W hW; go_simp
        try simp only [List.getElem_toArray, List.getElem_cons_zero, List.getElem_cons_succ, Act.put, List.setIfInBounds_toArray, List.set_cons_zero, List.set_cons_succ]
        refine wpAnyH_done (by decide +kernel) ?_ _
        have RIS : Hid (risH 0 (l.take (k + 1)) = true) := Lib.hid (ST.out.trans (decide_eq_true (by omega)))
        have HBX := Lib.hid (HB.out.trans (hH.mono HB.out.size))
        clear hH
        go_wp2_with fail
        go_roundw
        case rel => exact ⟨k + 1, hlt, by go_num, RIS.out, HBX.out⟩
        case measure => simp [intOf]; omega
      · have e_k : decide (0 < (k : Int)) = true := decide_eq_true (by omega)
        have e_k2 : decide (0 < k) = true := decide_eq_true (by omega)
        have wi : IntKind.i64.wrap ((k : Int) - 1) = (m : Int) := by rw [IntKind.wrap_i64]; omega
        have wi2 : wrap64 ((k : Int) - 1) = (m : Int) := by unfold wrap64; omega
        have wi3 : (k : Int) - 1 = (m : Int) := by omega
        have hml : (m : Int) < (len : Int) := by omega
        have PC := Lib.hid fun (W : World) (b' : Below wr.heap.size wr W) => (show W.cell? ⟨b, o + m * 2, none⟩ = some (.int .u32 p.ac) from LR.out m p hm W b' 0 _ rfl)
        have pb := (HK.out p (List.mem_of_getElem? hm)).ac
        clear PK ek
        refine wpAnyH_take (i := 8) (v := .bool true) rfl (by kernel_rfl) (by kernel_rfl) (by kernel_rfl) (fun _ _ _ h => h) (.inl ⟨by rfl, ?_⟩) (by assumption) ?_
        · intro W hW; go_simp
        try simp only [List.getElem_toArray, List.getElem_cons_zero, List.getElem_cons_succ, Act.put, List.setIfInBounds_toArray, List.set_cons_zero, List.set_cons_succ]
        refine wpAnyH_take (i := 9) (v := .bool true) rfl (by kernel_rfl) (by kernel_rfl) (by kernel_rfl) (fun _ _ _ h => h) (.inl ⟨by rfl, ?_⟩) (by assumption) ?_
        · intro W hW; go_simp
        try simp only [List.getElem_toArray, List.getElem_cons_zero, List.getElem_cons_succ, Act.put, List.setIfInBounds_toArray, List.set_cons_zero, List.set_cons_succ]
        refine wpAnyH_take (i := 10) (v := .slice (some ⟨b, o, none⟩) len cap) rfl (by kernel_rfl) (by kernel_rfl) (by kernel_rfl) (fun _ _ _ h => h) (.inl ⟨by rfl, ?_⟩) (by assumption) ?_
        · intro W hW; go_simp
        try simp only [List.getElem_toArray, List.getElem_cons_zero, List.getElem_cons_succ, Act.put, List.setIfInBounds_toArray, List.set_cons_zero, List.set_cons_succ]
        refine wpAnyH_take (i := 11) (v := .int .i64 k) rfl (by kernel_rfl) (by kernel_rfl) (by kernel_rfl) (fun _ _ _ h => h) (.inl ⟨by rfl, ?_⟩) (by assumption) ?_
        · intro W hW; go_simp
        try simp only [List.getElem_toArray, List.getElem_cons_zero, List.getElem_cons_succ, Act.put, List.setIfInBounds_toArray, List.set_cons_zero, List.set_cons_succ]
        refine wpAnyH_take (i := 12) (v := .pointer (some ⟨b, o + k * 2, none⟩)) rfl (by kernel_rfl) (by kernel_rfl) (by kernel_rfl) (fun _ _ _ h => h) (.inl ⟨by rfl, ?_⟩) (by assumption) ?_
        · intro W hW; go_simp
        try simp only [List.getElem_toArray, List.getElem_cons_zero, List.getElem_cons_succ, Act.put, List.setIfInBounds_toArray, List.set_cons_zero, List.set_cons_succ]
        refine wpAnyH_take (i := 13) (v := .pointer (some ⟨b, o + k * 2, none⟩)) rfl (by kernel_rfl) (by kernel_rfl) (by kernel_rfl) (fun _ _ _ h => h) (.inl ⟨by rfl, ?_⟩) (by assumption) ?_
        · intro W hW; go_simp
        try simp only [List.getElem_toArray, List.getElem_cons_zero, List.getElem_cons_succ, Act.put, List.setIfInBounds_toArray, List.set_cons_zero, List.set_cons_succ]
        refine wpAnyH_take (i := 14) (v := .int .u32 d.ac) rfl (by kernel_rfl) (by kernel_rfl) (by kernel_rfl) (fun _ _ _ h => h) (.inl ⟨by rfl, ?_⟩) (by assumption) ?_
        · intro W hW; have cc := C0.out W hW; go_simp
        try simp only [List.getElem_toArray, List.getElem_cons_zero, List.getElem_cons_succ, Act.put, List.setIfInBounds_toArray, List.set_cons_zero, List.set_cons_succ]
        refine wpAnyH_take (i := 15) (v := .slice (some ⟨b, o, none⟩) len cap) rfl (by kernel_rfl) (by kernel_rfl) (by kernel_rfl) (fun _ _ _ h => h) (.inl ⟨by rfl, ?_⟩) (by assumption) ?_
        · intro W hW; go_simp
        try simp only [List.getElem_toArray, List.getElem_cons_zero, List.getElem_cons_succ, Act.put, List.setIfInBounds_toArray, List.set_cons_zero, List.set_cons_succ]
        refine wpAnyH_take (i := 16) (v := .int .i64 k) rfl (by kernel_rfl) (by kernel_rfl) (by kernel_rfl) (fun _ _ _ h => h) (.inl ⟨by rfl, ?_⟩) (by assumption) ?_
        · intro W hW; go_simp
        try simp only [List.getElem_toArray, List.getElem_cons_zero, List.getElem_cons_succ, Act.put, List.setIfInBounds_toArray, List.set_cons_zero, List.set_cons_succ]
        refine wpAnyH_take (i := 17) (v := .int .i64 m) rfl (by kernel_rfl) (by kernel_rfl) (by kernel_rfl) (fun _ _ _ h => h) (.inl ⟨by rfl, ?_⟩) (by assumption) ?_
        · intro W hW; go_simp; (try (rw [IntKind.wrap_i64]; omega))
        try simp only [List.getElem_toArray, List.getElem_cons_zero, List.getElem_cons_succ, Act.put, List.setIfInBounds_toArray, List.set_cons_zero, List.set_cons_succ]
        refine wpAnyH_take (i := 18) (v := .pointer (some ⟨b, o + m * 2, none⟩)) rfl (by kernel_rfl) (by kernel_rfl) (by kernel_rfl) (fun _ _ _ h => h) (.inl ⟨by rfl, ?_⟩) (by assumption) ?_
        · intro W hW; go_simp
        try simp only [List.getElem_toArray, List.getElem_cons_zero, List.getElem_cons_succ, Act.put, List.setIfInBounds_toArray, List.set_cons_zero, List.set_cons_succ]
        refine wpAnyH_take (i := 19) (v := .pointer (some ⟨b, o + m * 2, none⟩)) rfl (by kernel_rfl) (by kernel_rfl) (by kernel_rfl) (fun _ _ _ h => h) (.inl ⟨by rfl, ?_⟩) (by assumption) ?_
        · intro W hW; go_simp
        try simp only [List.getElem_toArray, List.getElem_cons_zero, List.getElem_cons_succ, Act.put, List.setIfInBounds_toArray, List.set_cons_zero, List.set_cons_succ]
        refine wpAnyH_take (i := 20) (v := .int .u32 p.ac) rfl (by kernel_rfl) (by kernel_rfl) (by kernel_rfl) (fun _ _ _ h => h) (.inl ⟨by rfl, ?_⟩) (by assumption) ?_
        · intro W hW; have cc := PC.out W hW; go_simp
        try simp only [List.getElem_toArray, List.getElem_cons_zero, List.getElem_cons_succ, Act.put, List.setIfInBounds_toArray, List.set_cons_zero, List.set_cons_succ]
        by_cases t1 : d.ac ≤ p.ac
        · have e_t1 : decide (d.ac ≤ p.ac) = true := decide_eq_true t1
          have EE := Lib.hid (BAD.out (decide_eq_false fun h => by omega))
          refine wpAnyH_take (i := 21) (v := .bool true) rfl (by kernel_rfl) (by kernel_rfl) (by kernel_rfl) (fun _ _ _ h => h) (.inl ⟨by rfl, ?_⟩) (by assumption) ?_
          · intro W hW; go_simp
          try simp only [List.getElem_toArray, List.getElem_cons_zero, List.getElem_cons_succ, Act.put, List.setIfInBounds_toArray, List.set_cons_zero, List.set_cons_succ]
          refine wpAnyH_take (i := 22) (v := .bool true) rfl (by kernel_rfl) (by kernel_rfl) (by kernel_rfl) (fun _ _ _ h => h) (.inl ⟨by rfl, ?_⟩) (by assumption) ?_
          · intro W hW; go_simp
          try simp only [List.getElem_toArray, List.getElem_cons_zero, List.getElem_cons_succ, Act.put, List.setIfInBounds_toArray, List.set_cons_zero, List.set_cons_succ]
          refine wpAnyH_take (i := 23) (v := .bool true) rfl (by kernel_rfl) (by kernel_rfl) (by kernel_rfl) (fun _ _ _ h => h) (.inl ⟨by rfl, ?_⟩) (by assumption) ?_
          · intro W hW; go_simp
          try simp only [List.getElem_toArray, List.getElem_cons_zero, List.getElem_cons_succ, Act.put, List.setIfInBounds_toArray, List.set_cons_zero, List.set_cons_succ]
          refine wpAnyH_take (i := 24) (v := .bool true) rfl (by kernel_rfl) (by kernel_rfl) (by kernel_rfl) (fun _ _ _ h => h) (.inl ⟨by rfl, ?_⟩) (by assumption) ?_
          · intro W hW; go_simp
          try simp only [List.getElem_toArray, List.getElem_cons_zero, List.getElem_cons_succ, Act.put, List.setIfInBounds_toArray, List.set_cons_zero, List.set_cons_succ]
          refine wpAnyH_take (i := 25) (v := undef) rfl (by kernel_rfl) (by kernel_rfl) (by kernel_rfl) (fun _ _ _ h => h) (.inr ⟨by rfl, rfl⟩) (by assumption) ?_
          try simp only [List.getElem_toArray, List.getElem_cons_zero, List.getElem_cons_succ, Act.put, List.setIfInBounds_toArray, List.set_cons_zero, List.set_cons_succ]
          refine wpAnyH_take (i := 26) (v := undef) rfl (by kernel_rfl) (by kernel_rfl) (by kernel_rfl) (fun _ _ _ h => h) (.inr ⟨by rfl, rfl⟩) (by assumption) ?_
          try simp only [List.getElem_toArray, List.getElem_cons_zero, List.getElem_cons_succ, Act.put, List.setIfInBounds_toArray, List.set_cons_zero, List.set_cons_succ]
          refine wpAnyH_take (i := 27) (v := undef) rfl (by kernel_rfl) (by kernel_rfl) (by kernel_rfl) (fun _ _ _ h => h) (.inr ⟨by rfl, rfl⟩) (by assumption) ?_
          try simp only [List.getElem_toArray, List.getElem_cons_zero, List.getElem_cons_succ, Act.put, List.setIfInBounds_toArray, List.set_cons_zero, List.set_cons_succ]
          refine wpAnyH_take (i := 28) (v := undef) rfl (by kernel_rfl) (by kernel_rfl) (by kernel_rfl) (fun _ _ _ h => h) (.inr ⟨by rfl, rfl⟩) (by assumption) ?_
          try simp only [List.getElem_toArray, List.getElem_cons_zero, List.getElem_cons_succ, Act.put, List.setIfInBounds_toArray, List.set_cons_zero, List.set_cons_succ]
          refine wpAnyH_take (i := 29) (v := undef) rfl (by kernel_rfl) (by kernel_rfl) (by kernel_rfl) (fun _ _ _ h => h) (.inr ⟨by rfl, rfl⟩) (by assumption) ?_
          try simp only [List.getElem_toArray, List.getElem_cons_zero, List.getElem_cons_succ, Act.put, List.setIfInBounds_toArray, List.set_cons_zero, List.set_cons_succ]
          refine wpAnyH_take (i := 30) (v := undef) rfl (by kernel_rfl) (by kernel_rfl) (by kernel_rfl) (fun _ _ _ h => h) (.inr ⟨by rfl, rfl⟩) (by assumption) ?_
          try simp only [List.getElem_toArray, List.getElem_cons_zero, List.getElem_cons_succ, Act.put, List.setIfInBounds_toArray, List.set_cons_zero, List.set_cons_succ]
          refine wpAnyH_take (i := 31) (v := .bool true) rfl (by kernel_rfl) (by kernel_rfl) (by kernel_rfl) (fun _ _ _ h => h) (.inl ⟨by rfl, ?_⟩) (by assumption) ?_
          · intro W hW; go_simp
          try simp only [List.getElem_toArray, List.getElem_cons_zero, List.getElem_cons_succ, Act.put, List.setIfInBounds_toArray, List.set_cons_zero, List.set_cons_succ]
          refine wpAnyH_take (i := 32) (v := .bool true) rfl (by kernel_rfl) (by kernel_rfl) (by kernel_rfl) (fun _ _ _ h => h) (.inl ⟨by rfl, ?_⟩) (by assumption) ?_
          · intro W hW; go_simp
          try simp only [List.getElem_toArray, List.getElem_cons_zero, List.getElem_cons_succ, Act.put, List.setIfInBounds_toArray, List.set_cons_zero, List.set_cons_succ]
          refine wpAnyH_take (i := 33) (v := undef) rfl (by kernel_rfl) (by kernel_rfl) (by kernel_rfl) (fun _ _ _ h => h) (.inr ⟨by rfl, rfl⟩) (by assumption) ?_
          try simp only [List.getElem_toArray, List.getElem_cons_zero, List.getElem_cons_succ, Act.put, List.setIfInBounds_toArray, List.set_cons_zero, List.set_cons_succ]
          refine wpAnyH_take (i := 34) (v := undef) rfl (by kernel_rfl) (by kernel_rfl) (by kernel_rfl) (fun _ _ _ h => h) (.inr ⟨by rfl, rfl⟩) (by assumption) ?_
          try simp only [List.getElem_toArray, List.getElem_cons_zero, List.getElem_cons_succ, Act.put, List.setIfInBounds_toArray, List.set_cons_zero, List.set_cons_succ]
          refine wpAnyH_take (i := 35) (v := undef) rfl (by kernel_rfl) (by kernel_rfl) (by kernel_rfl) (fun _ _ _ h => h) (.inr ⟨by rfl, rfl⟩) (by assumption) ?_
          try simp only [List.getElem_toArray, List.getElem_cons_zero, List.getElem_cons_succ, Act.put, List.setIfInBounds_toArray, List.set_cons_zero, List.set_cons_succ]
          refine wpAnyH_take (i := 36) (v := undef) rfl (by kernel_rfl) (by kernel_rfl) (by kernel_rfl) (fun _ _ _ h => h) (.inr ⟨by rfl, rfl⟩) (by assumption) ?_
          try simp only [List.getElem_toArray, List.getElem_cons_zero, List.getElem_cons_succ, Act.put, List.setIfInBounds_toArray, List.set_cons_zero, List.set_cons_succ]
          refine wpAnyH_take (i := 37) (v := undef) rfl (by kernel_rfl) (by kernel_rfl) (by kernel_rfl) (fun _ _ _ h => h) (.inr ⟨by rfl, rfl⟩) (by assumption) ?_
          try simp only [List.getElem_toArray, List.getElem_cons_zero, List.getElem_cons_succ, Act.put, List.setIfInBounds_toArray, List.set_cons_zero, List.set_cons_succ]
          refine wpAnyH_take (i := 38) (v := undef) rfl (by kernel_rfl) (by kernel_rfl) (by kernel_rfl) (fun _ _ _ h => h) (.inr ⟨by rfl, rfl⟩) (by assumption) ?_
          try simp only [List.getElem_toArray, List.getElem_cons_zero, List.getElem_cons_succ, Act.put, List.setIfInBounds_toArray, List.set_cons_zero, List.set_cons_succ]
          refine wpAnyH_take (i := 39) (v := .bool true) rfl (by kernel_rfl) (by kernel_rfl) (by kernel_rfl) (fun _ _ _ h => h) (.inl ⟨by rfl, ?_⟩) (by assumption) ?_
          · intro W hW; go_simp
          try simp only [List.getElem_toArray, List.getElem_cons_zero, List.getElem_cons_succ, Act.put, List.setIfInBounds_toArray, List.set_cons_zero, List.set_cons_succ]
          refine wpAnyH_done (by decide +kernel) ?_ _
          have HBX := Lib.hid (HB.out.trans (hH.mono HB.out.size))
          clear hH
          go_wp2_with fail
          go_ret2
          exact toldP_bad EE.out (by decide) HBX.out
        have e_t1 : decide (d.ac ≤ p.ac) = false := decide_eq_false t1
        refine wpAnyH_take (i := 21) (v := .bool false) rfl (by kernel_rfl) (by kernel_rfl) (by kernel_rfl) (fun _ _ _ h => h) (.inl ⟨by rfl, ?_⟩) (by assumption) ?_
        · intro W hW; go_simp
        try simp only [List.getElem_toArray, List.getElem_cons_zero, List.getElem_cons_succ, Act.put, List.setIfInBounds_toArray, List.set_cons_zero, List.set_cons_succ]
        refine wpAnyH_take (i := 22) (v := .bool false) rfl (by kernel_rfl) (by kernel_rfl) (by kernel_rfl) (fun _ _ _ h => h) (.inl ⟨by rfl, ?_⟩) (by assumption) ?_
        · intro W hW; go_simp
        try simp only [List.getElem_toArray, List.getElem_cons_zero, List.getElem_cons_succ, Act.put, List.setIfInBounds_toArray, List.set_cons_zero, List.set_cons_succ]
        refine wpAnyH_take (i := 23) (v := .bool false) rfl (by kernel_rfl) (by kernel_rfl) (by kernel_rfl) (fun _ _ _ h => h) (.inl ⟨by rfl, ?_⟩) (by assumption) ?_
        · intro W hW; go_simp
        try simp only [List.getElem_toArray, List.getElem_cons_zero, List.getElem_cons_succ, Act.put, List.setIfInBounds_toArray, List.set_cons_zero, List.set_cons_succ]
        refine wpAnyH_take (i := 24) (v := .bool false) rfl (by kernel_rfl) (by kernel_rfl) (by kernel_rfl) (fun _ _ _ h => h) (.inl ⟨by rfl, ?_⟩) (by assumption) ?_
        · intro W hW; go_simp
        try simp only [List.getElem_toArray, List.getElem_cons_zero, List.getElem_cons_succ, Act.put, List.setIfInBounds_toArray, List.set_cons_zero, List.set_cons_succ]
        refine wpAnyH_take (i := 25) (v := .slice (some ⟨b, o, none⟩) len cap) rfl (by kernel_rfl) (by kernel_rfl) (by kernel_rfl) (fun _ _ _ h => h) (.inl ⟨by rfl, ?_⟩) (by assumption) ?_
        · intro W hW; go_simp
        try simp only [List.getElem_toArray, List.getElem_cons_zero, List.getElem_cons_succ, Act.put, List.setIfInBounds_toArray, List.set_cons_zero, List.set_cons_succ]
        refine wpAnyH_take (i := 26) (v := .int .i64 k) rfl (by kernel_rfl) (by kernel_rfl) (by kernel_rfl) (fun _ _ _ h => h) (.inl ⟨by rfl, ?_⟩) (by assumption) ?_
        · intro W hW; go_simp
        try simp only [List.getElem_toArray, List.getElem_cons_zero, List.getElem_cons_succ, Act.put, List.setIfInBounds_toArray, List.set_cons_zero, List.set_cons_succ]
        refine wpAnyH_take (i := 27) (v := .pointer (some ⟨b, o + k * 2, none⟩)) rfl (by kernel_rfl) (by kernel_rfl) (by kernel_rfl) (fun _ _ _ h => h) (.inl ⟨by rfl, ?_⟩) (by assumption) ?_
        · intro W hW; go_simp
        try simp only [List.getElem_toArray, List.getElem_cons_zero, List.getElem_cons_succ, Act.put, List.setIfInBounds_toArray, List.set_cons_zero, List.set_cons_succ]
        refine wpAnyH_take (i := 28) (v := .pointer (some ⟨b, o + k * 2 + 1, none⟩)) rfl (by kernel_rfl) (by kernel_rfl) (by kernel_rfl) (fun _ _ _ h => h) (.inl ⟨by rfl, ?_⟩) (by assumption) ?_
        · intro W hW; go_simp
        try simp only [List.getElem_toArray, List.getElem_cons_zero, List.getElem_cons_succ, Act.put, List.setIfInBounds_toArray, List.set_cons_zero, List.set_cons_succ]
        refine wpAnyH_take (i := 29) (v := .int .i64 d.q) rfl (by kernel_rfl) (by kernel_rfl) (by kernel_rfl) (fun _ _ _ h => h) (.inl ⟨by rfl, ?_⟩) (by assumption) ?_
        · intro W hW; have cc := C1.out W hW; go_simp
        try simp only [List.getElem_toArray, List.getElem_cons_zero, List.getElem_cons_succ, Act.put, List.setIfInBounds_toArray, List.set_cons_zero, List.set_cons_succ]
        by_cases t2 : 10000000 < d.q
        · have e_t2 : decide (10000000 < d.q) = true := decide_eq_true t2
          have EE := Lib.hid (BAD.out (decide_eq_false fun h => by omega))
          refine wpAnyH_take (i := 30) (v := .bool true) rfl (by kernel_rfl) (by kernel_rfl) (by kernel_rfl) (fun _ _ _ h => h) (.inl ⟨by rfl, ?_⟩) (by assumption) ?_
          · intro W hW; go_simp
          try simp only [List.getElem_toArray, List.getElem_cons_zero, List.getElem_cons_succ, Act.put, List.setIfInBounds_toArray, List.set_cons_zero, List.set_cons_succ]
          refine wpAnyH_take (i := 31) (v := .bool true) rfl (by kernel_rfl) (by kernel_rfl) (by kernel_rfl) (fun _ _ _ h => h) (.inl ⟨by rfl, ?_⟩) (by assumption) ?_
          · intro W hW; go_simp
          try simp only [List.getElem_toArray, List.getElem_cons_zero, List.getElem_cons_succ, Act.put, List.setIfInBounds_toArray, List.set_cons_zero, List.set_cons_succ]
          refine wpAnyH_take (i := 32) (v := .bool true) rfl (by kernel_rfl) (by kernel_rfl) (by kernel_rfl) (fun _ _ _ h => h) (.inl ⟨by rfl, ?_⟩) (by assumption) ?_
          · intro W hW; go_simp
          try simp only [List.getElem_toArray, List.getElem_cons_zero, List.getElem_cons_succ, Act.put, List.setIfInBounds_toArray, List.set_cons_zero, List.set_cons_succ]
          refine wpAnyH_take (i := 33) (v := undef) rfl (by kernel_rfl) (by kernel_rfl) (by kernel_rfl) (fun _ _ _ h => h) (.inr ⟨by rfl, rfl⟩) (by assumption) ?_
          try simp only [List.getElem_toArray, List.getElem_cons_zero, List.getElem_cons_succ, Act.put, List.setIfInBounds_toArray, List.set_cons_zero, List.set_cons_succ]
          refine wpAnyH_take (i := 34) (v := undef) rfl (by kernel_rfl) (by kernel_rfl) (by kernel_rfl) (fun _ _ _ h => h) (.inr ⟨by rfl, rfl⟩) (by assumption) ?_
          try simp only [List.getElem_toArray, List.getElem_cons_zero, List.getElem_cons_succ, Act.put, List.setIfInBounds_toArray, List.set_cons_zero, List.set_cons_succ]
          refine wpAnyH_take (i := 35) (v := undef) rfl (by kernel_rfl) (by kernel_rfl) (by kernel_rfl) (fun _ _ _ h => h) (.inr ⟨by rfl, rfl⟩) (by assumption) ?_
          try simp only [List.getElem_toArray, List.getElem_cons_zero, List.getElem_cons_succ, Act.put, List.setIfInBounds_toArray, List.set_cons_zero, List.set_cons_succ]
          refine wpAnyH_take (i := 36) (v := undef) rfl (by kernel_rfl) (by kernel_rfl) (by kernel_rfl) (fun _ _ _ h => h) (.inr ⟨by rfl, rfl⟩) (by assumption) ?_
          try simp only [List.getElem_toArray, List.getElem_cons_zero, List.getElem_cons_succ, Act.put, List.setIfInBounds_toArray, List.set_cons_zero, List.set_cons_succ]
          refine wpAnyH_take (i := 37) (v := undef) rfl (by kernel_rfl) (by kernel_rfl) (by kernel_rfl) (fun _ _ _ h => h) (.inr ⟨by rfl, rfl⟩) (by assumption) ?_
          try simp only [List.getElem_toArray, List.getElem_cons_zero, List.getElem_cons_succ, Act.put, List.setIfInBounds_toArray, List.set_cons_zero, List.set_cons_succ]
          refine wpAnyH_take (i := 38) (v := undef) rfl (by kernel_rfl) (by kernel_rfl) (by kernel_rfl) (fun _ _ _ h => h) (.inr ⟨by rfl, rfl⟩) (by assumption) ?_
          try simp only [List.getElem_toArray, List.getElem_cons_zero, List.getElem_cons_succ, Act.put, List.setIfInBounds_toArray, List.set_cons_zero, List.set_cons_succ]
          refine wpAnyH_take (i := 39) (v := .bool true) rfl (by kernel_rfl) (by kernel_rfl) (by kernel_rfl) (fun _ _ _ h => h) (.inl ⟨by rfl, ?_⟩) (by assumption) ?_
          · intro W hW; go_simp
          try simp only [List.getElem_toArray, List.getElem_cons_zero, List.getElem_cons_succ, Act.put, List.setIfInBounds_toArray, List.set_cons_zero, List.set_cons_succ]
          refine wpAnyH_done (by decide +kernel) ?_ _
          have HBX := Lib.hid (HB.out.trans (hH.mono HB.out.size))
          clear hH
          go_wp2_with fail
          go_ret2
          exact toldP_bad EE.out (by decide) HBX.out
        have e_t2 : decide (10000000 < d.q) = false := decide_eq_false t2
        refine wpAnyH_take (i := 30) (v := .bool false) rfl (by kernel_rfl) (by kernel_rfl) (by kernel_rfl) (fun _ _ _ h => h) (.inl ⟨by rfl, ?_⟩) (by assumption) ?_
        · intro W hW; go_simp
        try simp only [List.getElem_toArray, List.getElem_cons_zero, List.getElem_cons_succ, Act.put, List.setIfInBounds_toArray, List.set_cons_zero, List.set_cons_succ]
        refine wpAnyH_take (i := 31) (v := .bool false) rfl (by kernel_rfl) (by kernel_rfl) (by kernel_rfl) (fun _ _ _ h => h) (.inl ⟨by rfl, ?_⟩) (by assumption) ?_
        · intro W hW; go_simp
        try simp only [List.getElem_toArray, List.getElem_cons_zero, List.getElem_cons_succ, Act.put, List.setIfInBounds_toArray, List.set_cons_zero, List.set_cons_succ]
        refine wpAnyH_take (i := 32) (v := .bool false) rfl (by kernel_rfl) (by kernel_rfl) (by kernel_rfl) (fun _ _ _ h => h) (.inl ⟨by rfl, ?_⟩) (by assumption) ?_
        · intro W hW; go_simp
        try simp only [List.getElem_toArray, List.getElem_cons_zero, List.getElem_cons_succ, Act.put, List.setIfInBounds_toArray, List.set_cons_zero, List.set_cons_succ]
        refine wpAnyH_take (i := 33) (v := .slice (some ⟨b, o, none⟩) len cap) rfl (by kernel_rfl) (by kernel_rfl) (by kernel_rfl) (fun _ _ _ h => h) (.inl ⟨by rfl, ?_⟩) (by assumption) ?_
        · intro W hW; go_simp
        try simp only [List.getElem_toArray, List.getElem_cons_zero, List.getElem_cons_succ, Act.put, List.setIfInBounds_toArray, List.set_cons_zero, List.set_cons_succ]
        refine wpAnyH_take (i := 34) (v := .int .i64 k) rfl (by kernel_rfl) (by kernel_rfl) (by kernel_rfl) (fun _ _ _ h => h) (.inl ⟨by rfl, ?_⟩) (by assumption) ?_
        · intro W hW; go_simp
        try simp only [List.getElem_toArray, List.getElem_cons_zero, List.getElem_cons_succ, Act.put, List.setIfInBounds_toArray, List.set_cons_zero, List.set_cons_succ]
        refine wpAnyH_take (i := 35) (v := .pointer (some ⟨b, o + k * 2, none⟩)) rfl (by kernel_rfl) (by kernel_rfl) (by kernel_rfl) (fun _ _ _ h => h) (.inl ⟨by rfl, ?_⟩) (by assumption) ?_
        · intro W hW; go_simp
        try simp only [List.getElem_toArray, List.getElem_cons_zero, List.getElem_cons_succ, Act.put, List.setIfInBounds_toArray, List.set_cons_zero, List.set_cons_succ]
        refine wpAnyH_take (i := 36) (v := .pointer (some ⟨b, o + k * 2 + 1, none⟩)) rfl (by kernel_rfl) (by kernel_rfl) (by kernel_rfl) (fun _ _ _ h => h) (.inl ⟨by rfl, ?_⟩) (by assumption) ?_
        · intro W hW; go_simp
        try simp only [List.getElem_toArray, List.getElem_cons_zero, List.getElem_cons_succ, Act.put, List.setIfInBounds_toArray, List.set_cons_zero, List.set_cons_succ]
        refine wpAnyH_take (i := 37) (v := .int .i64 d.q) rfl (by kernel_rfl) (by kernel_rfl) (by kernel_rfl) (fun _ _ _ h => h) (.inl ⟨by rfl, ?_⟩) (by assumption) ?_
        · intro W hW; have cc := C1.out W hW; go_simp
        try simp only [List.getElem_toArray, List.getElem_cons_zero, List.getElem_cons_succ, Act.put, List.setIfInBounds_toArray, List.set_cons_zero, List.set_cons_succ]
        by_cases t3 : d.q < -10000000
        · have e_t3 : decide (d.q < -10000000) = true := decide_eq_true t3
          have EE := Lib.hid (BAD.out (decide_eq_false fun h => by omega))
          refine wpAnyH_take (i := 38) (v := .bool true) rfl (by kernel_rfl) (by kernel_rfl) (by kernel_rfl) (fun _ _ _ h => h) (.inl ⟨by rfl, ?_⟩) (by assumption) ?_
          · intro W hW; go_simp
          try simp only [List.getElem_toArray, List.getElem_cons_zero, List.getElem_cons_succ, Act.put, List.setIfInBounds_toArray, List.set_cons_zero, List.set_cons_succ]
          refine wpAnyH_take (i := 39) (v := .bool true) rfl (by kernel_rfl) (by kernel_rfl) (by kernel_rfl) (fun _ _ _ h => h) (.inl ⟨by rfl, ?_⟩) (by assumption) ?_
          · intro W hW; go_simp
          try simp only [List.getElem_toArray, List.getElem_cons_zero, List.getElem_cons_succ, Act.put, List.setIfInBounds_toArray, List.set_cons_zero, List.set_cons_succ]
          refine wpAnyH_done (by decide +kernel) ?_ _
          have HBX := Lib.hid (HB.out.trans (hH.mono HB.out.size))
          clear hH
          go_wp2_with fail
          go_ret2
          exact toldP_bad EE.out (by decide) HBX.out
        have e_t3 : decide (d.q < -10000000) = false := decide_eq_false t3
        refine wpAnyH_take (i := 38) (v := .bool false) rfl (by kernel_rfl) (by kernel_rfl) (by kernel_rfl) (fun _ _ _ h => h) (.inl ⟨by rfl, ?_⟩) (by assumption) ?_
        · intro W hW; go_simp
        try simp only [List.getElem_toArray, List.getElem_cons_zero, List.getElem_cons_succ, Act.put, List.setIfInBounds_toArray, List.set_cons_zero, List.set_cons_succ]
        refine wpAnyH_take (i := 39) (v := .bool false) rfl (by kernel_rfl) (by kernel_rfl) (by kernel_rfl) (fun _ _ _ h => h) (.inl ⟨by rfl, ?_⟩) (by assumption) ?_
        · intro W hW; go_simp
        try simp only [List.getElem_toArray, List.getElem_cons_zero, List.getElem_cons_succ, Act.put, List.setIfInBounds_toArray, List.set_cons_zero, List.set_cons_succ]
        refine wpAnyH_done (by decide +kernel) ?_ _
        have RIS : Hid (risH 0 (l.take (k + 1)) = true) := Lib.hid (ST.out.trans (decide_eq_true (by omega)))
        have HBX := Lib.hid (HB.out.trans (hH.mono HB.out.size))
        clear hH
        go_wp2_with fail
        go_roundw
        case rel => exact ⟨k + 1, hlt, by go_num, RIS.out, HBX.out⟩
        case measure => simp [intOf]; omega
    case neg =>
      obtain rfl : len = k := by omega
      have et : l.take len = l := List.take_of_length_le (by rw [NL.out]; exact Nat.le_refl _)
      rw [et] at MR
      rename World => w2
      clear et
      go_wp2_with fail
      go_loopw [7, 8, 9, 10] (fun vo' vw' va i wr => ∃ (k : Nat) (vo vw : Value), k ≤ len ∧ i = .int .i64 k ∧ va = .int .i64 (sm (wsP q (l.take k))) ∧ vo = vo' ∧ vw = vw' ∧ A2 w2 wr vo vw (whoP q (l.take k)) (wsP q (l.take k))) (fun _ _ _ i _ => len - (intOf i).toNat)
      case atStart => exact ⟨0, _, _, Nat.zero_le _, rfl, rfl, rfl, rfl, gown_nil _ _, gown_nil _ _, Below.refl _ _⟩
      case round =>
        obtain ⟨k, vo, vw, hk, rfl, rfl, rfl, rfl, aa⟩ := hrel
        have AA0 := Lib.hid aa
        have B0 := Lib.hid (HB.out.trans (aa.bel.mono HB.out.size))
        have INS := Lib.hid (fun x hx => (risH_in MR.out x hx).1)
        have SMB := Lib.hid (wsP_sm (q := q) (l := l.take k) fun x hx => INS.out x (List.mem_of_mem_take hx))
        clear aa
        by_cases hlt : k < len
        case pos =>
          have hki : (k : Int) < (len : Int) := by omega
          have hdk : decide ((k : Int) < (len : Int)) = true := decide_eq_true hki
          obtain ⟨d, hd⟩ : ∃ d, l[k]? = some d := ⟨l[k]'(by have := NL.out; omega), List.getElem?_eq_getElem _⟩
          obtain ⟨i1, i2⟩ := INS.out d (List.mem_of_getElem? hd)
          obtain ⟨b, o, rfl, rg⟩ := grd_rng (HR.out wr B0.out) hd
          replace rg : wr.rangeAt b (o + k * 2) (EH.cells d) := rg
          have c0 : wr.cell? ⟨b, o + k * 2, none⟩ = some (.int .u32 d.ac) := rg 0 _ rfl
          have c1 : wr.cell? ⟨b, o + k * 2 + 1, none⟩ = some (.int .i64 d.q) := rg 1 _ rfl
          have SY := Lib.hid (step_yes q hd)
          have SN := Lib.hid (step_no q hd)
          have LO : Hid ((whoP q (l.take k)).length + 1 ≤ 100000) := Lib.hid (by unfold whoP; rw [List.length_map]; have := oppo_len q (l.take k); have := List.length_take_le k l; omega)
          have LW : Hid ((wsP q (l.take k)).length + 1 ≤ 100000) := Lib.hid (by rw [wsP_len]; have := oppo_len q (l.take k); have := List.length_take_le k l; omega)
          have smb := SMB.out
          have tl : ((l.take k).length : Int) ≤ 64 := by rw [List.length_take]; omega
          obtain ⟨SV, hSV⟩ : ∃ x, sm (wsP q (l.take k)) = x := ⟨_, rfl⟩
          rw [hSV] at smb SY ⊢
          have HSV := Lib.hid hSV
          obtain ⟨s0, s1⟩ := smb
          have s2 : SV ≤ 640000000 := by omega
          clear hd rg hSV tl s1
          by_cases hq : 0 < q
          · have dq : decide (0 < q) = true := decide_eq_true hq
            have OQ : Hid (opq q d = -d.q) := Lib.hid (if_pos hq)
            by_cases hn : 0 < -d.q
            · have dn : decide (0 < -d.q) = true := decide_eq_true hn
              obtain ⟨e1, e2, e3⟩ := SY.out (by rw [OQ.out]; exact hn)
              rw [OQ.out] at e2 e3
              obtain ⟨WA, hWA⟩ : ∃ W, wr.alloc (.cells #[.int .u32 d.ac] 30) = W := ⟨_, rfl⟩
              have AA : Hid (A2 w2 WA vo vw (whoP q (l.take k)) (wsP q (l.take k))) := Lib.hid (by rw [← hWA]; exact AA0.out.alloc _)
              have RDA : Hid (EU14.Rd WA (some ⟨wr.heap.size, 0, none⟩) 1 [d.ac]) := Lib.hid (by rw [← hWA]; exact gown_rd (own_oneu14 wr d.ac))
              have HWA := Lib.hid hWA
              clear hWA
              go_wp2_with (first | (at_builtin; (try rw [HWA.out]); refine nu_app14 rfl (.tmp 92) (.tmp 98) rfl w2.heap.size vo _ rfl AA.out.oo ⟨wr.heap.size, 0, none⟩ 1 1 [d.ac] rfl RDA.out LO.out AA.out.bel.size ?_; intro v3 w3 o3 g3 n3; have A4 := Lib.hid (AA.out.appO g3 o3); obtain ⟨WB, hWB⟩ : ∃ W, w3.alloc (.cells #[.int .i64 (-d.q)] 2) = W := ⟨_, rfl⟩; have HWB := Lib.hid hWB; have AB : Hid (A2 w2 WB v3 vw _ _) := Lib.hid (by rw [← hWB]; exact A4.out.alloc _); have RDB : Hid (EI14.Rd WB (some ⟨w3.heap.size, 0, none⟩) 1 [-d.q]) := Lib.hid (by rw [← hWB]; exact gown_rd (own_one14 w3 (-d.q))); clear hWB o3 g3 n3) | (at_builtin; (try rw [HWB.out]); refine ni_app14 rfl (.tmp 100) (.tmp 102) rfl w2.heap.size vw _ rfl AB.out.ow ⟨w3.heap.size, 0, none⟩ 1 1 [-d.q] rfl RDB.out LW.out AB.out.bel.size ?_; intro v4 w4 o4 g4 n4; have A5 := Lib.hid (AB.out.appW g4 o4); clear o4 g4 n4))
              go_roundw
              case rel => exact ⟨k + 1, v3, v4, hlt, by go_num, by rw [e3]; try go_num, rfl, rfl, by rw [e1, e2]; exact A5.out⟩
              case measure => simp [intOf]; omega
            · have dn : decide (0 < -d.q) = false := decide_eq_false hn
              obtain ⟨e1, e2⟩ := SN.out (by rw [OQ.out]; exact hn)
              go_wp2_with fail
              go_roundw
              case rel => exact ⟨k + 1, vo, vw, hlt, by go_num, by rw [e2, HSV.out], rfl, rfl, by rw [e1, e2]; exact AA0.out⟩
              case measure => simp [intOf]; omega
          · have dq : decide (0 < q) = false := decide_eq_false hq
            have OQ : Hid (opq q d = d.q) := Lib.hid (if_neg hq)
            by_cases hn : 0 < d.q
            · have dn : decide (0 < d.q) = true := decide_eq_true hn
              obtain ⟨e1, e2, e3⟩ := SY.out (by rw [OQ.out]; exact hn)
              rw [OQ.out] at e2 e3
              obtain ⟨WA, hWA⟩ : ∃ W, wr.alloc (.cells #[.int .u32 d.ac] 30) = W := ⟨_, rfl⟩
              have AA : Hid (A2 w2 WA vo vw (whoP q (l.take k)) (wsP q (l.take k))) := Lib.hid (by rw [← hWA]; exact AA0.out.alloc _)
              have RDA : Hid (EU14.Rd WA (some ⟨wr.heap.size, 0, none⟩) 1 [d.ac]) := Lib.hid (by rw [← hWA]; exact gown_rd (own_oneu14 wr d.ac))
              have HWA := Lib.hid hWA
              clear hWA
              go_wp2_with (first | (at_builtin; (try rw [HWA.out]); refine nu_app14 rfl (.tmp 92) (.tmp 98) rfl w2.heap.size vo _ rfl AA.out.oo ⟨wr.heap.size, 0, none⟩ 1 1 [d.ac] rfl RDA.out LO.out AA.out.bel.size ?_; intro v3 w3 o3 g3 n3; have A4 := Lib.hid (AA.out.appO g3 o3); obtain ⟨WB, hWB⟩ : ∃ W, w3.alloc (.cells #[.int .i64 (d.q)] 2) = W := ⟨_, rfl⟩; have HWB := Lib.hid hWB; have AB : Hid (A2 w2 WB v3 vw _ _) := Lib.hid (by rw [← hWB]; exact A4.out.alloc _); have RDB : Hid (EI14.Rd WB (some ⟨w3.heap.size, 0, none⟩) 1 [d.q]) := Lib.hid (by rw [← hWB]; exact gown_rd (own_one14 w3 (d.q))); clear hWB o3 g3 n3) | (at_builtin; (try rw [HWB.out]); refine ni_app14 rfl (.tmp 100) (.tmp 102) rfl w2.heap.size vw _ rfl AB.out.ow ⟨w3.heap.size, 0, none⟩ 1 1 [d.q] rfl RDB.out LW.out AB.out.bel.size ?_; intro v4 w4 o4 g4 n4; have A5 := Lib.hid (AB.out.appW g4 o4); clear o4 g4 n4))
              go_roundw
              case rel => exact ⟨k + 1, v3, v4, hlt, by go_num, by rw [e3]; try go_num, rfl, rfl, by rw [e1, e2]; exact A5.out⟩
              case measure => simp [intOf]; omega
            · have dn : decide (0 < d.q) = false := decide_eq_false hn
              obtain ⟨e1, e2⟩ := SN.out (by rw [OQ.out]; exact hn)
              go_wp2_with fail
              go_roundw
              case rel => exact ⟨k + 1, vo, vw, hlt, by go_num, by rw [e2, HSV.out], rfl, rfl, by rw [e1, e2]; exact AA0.out⟩
              case measure => simp [intOf]; omega
        case neg =>
          obtain rfl : len = k := by omega
          have et : l.take len = l := List.take_of_length_le (by rw [NL.out]; exact Nat.le_refl _)
          rw [et] at AA0 SMB ⊢
          clear et
          have MG : mag q = if q < 0 then -q else q := rfl
          have NG := Lib.hid (ng_wsP (q := q) INS.out)
          obtain ⟨SV, hSV⟩ : ∃ x, sm (wsP q l) = x := ⟨_, rfl⟩
          have smb := SMB.out
          rw [hSV] at smb ES EO ⊢
          obtain ⟨T, hT⟩ : ∃ x, mag q = x := ⟨_, rfl⟩
          have HT := Lib.hid hT
          rw [hT] at ES EO MG
          have t1 : 0 < T ∧ T ≤ 10000000 := by rw [MG]; split <;> omega
          by_cases hen : SV < T
          · have den : decide (SV < T) = true := decide_eq_true hen
            have EE := Lib.hid (ES.out MR.out (by omega))
            have BB := Lib.hid (HB.out.trans (AA0.out.bel.mono HB.out.size))
            by_cases hn : q < 0
            · have dn : decide (q < 0) = true := decide_eq_true hn
              rw [if_pos hn] at MG
              have den2 : decide (SV < -q) = true := by rw [← MG]; exact den
              clear hSV hT MG hen smb
              go_wp2_with fail
              go_ret2
              exact toldP_bad EE.out (by decide) BB.out
            · have dn : decide (q < 0) = false := decide_eq_false hn
              rw [if_neg hn] at MG
              have den2 : decide (SV < q) = true := by rw [← MG]; exact den
              clear hSV hT MG hen smb
              go_wp2_with fail
              go_ret2
              exact toldP_bad EE.out (by decide) BB.out
          have MP := Lib.hid (EO.out MR.out (by omega))
          have EV := Lib.hid (errP_ok.2 MP.out)
          obtain ⟨g, al⟩ := MP.out.al
          have CP := Lib.hid (MayP.pt al)
          have SE0 := Lib.hid MP.out.se
          obtain ⟨Ao, co, rfl, -⟩ := gown_form AA0.out.oo
          obtain ⟨Aw, cw, rfl, -⟩ := gown_form AA0.out.ow
          obtain ⟨n, hn3⟩ : ∃ n, (oppo q l).length = n := ⟨_, rfl⟩
          have lo : (whoP q l).length = n := by unfold whoP; rw [List.length_map]; exact hn3
          have lw : (wsP q l).length = n := by rw [wsP_len]; exact hn3
          have nl : n ≤ 64 := by rw [← hn3]; have := oppo_len q l; have := NL.out; omega
          have RW2 := rd_ei14 (gown_rd AA0.out.ow)
          have OU := Lib.hid (gown_rd AA0.out.oo)
          rw [lo] at OU ⊢
          rw [lw] at RW2 ⊢
          have SP := Lib.hid (refsplit_any Aw n cw (wsP q l) (mag q) g wr RW2 (wsP_i64 INS.out) (by rw [hT]; unfold I64; omega) (by omega) false NG.out (fun _ _ => al))
          rw [hT] at SP SE0 CP
          have BB := Lib.hid (HB.out.trans (AA0.out.bel.mono HB.out.size))
          have AQ := Lib.hid fun (t : Nat) (h : Ho) (c : Int) (h1 : (oppo q l)[t]? = some h) (h2 : (prt T (wsP q l))[t]? = some c) => (show (allP q l)[t]? = some (mkH h c) from allP_at h1 (by rw [HT.out]; exact h2))
          have AL : Hid ((allP q l).length = n) := Lib.hid (by rw [allP_len, prt_len]; exact lw)
          have PB := Lib.hid fun (t : Nat) (c : Int) (h2 : (prt T (wsP q l))[t]? = some c) => (show 0 ≤ c ∧ c ≤ 10000000 by
            have ht := (List.getElem?_eq_some_iff.1 h2).1
            rw [prt_len] at ht
            have k := MP.out.at' ht
            rw [HT.out, List.getD, h2] at k
            have k2 := wsP_mem (q := q) INS.out ((wsP q l).getD t 0) (by rw [List.getD, List.getElem?_eq_getElem ht]; exact List.getElem_mem ht)
            simp only [Option.getD_some] at k
            omega)
          obtain ⟨ZS, hZS⟩ : ∃ z, prt T (wsP q l) = z := ⟨_, rfl⟩
          rw [hZS] at CP AQ PB
          have lz : ZS.length = n := by rw [← hZS, prt_len]; exact lw
          have WH := Lib.hid fun (t : Nat) (h : Ho) (h1 : (oppo q l)[t]? = some h) => (show (whoP q l)[t]? = some h.ac by unfold whoP; rw [List.getElem?_map, h1]; rfl)
          have HN3 := Lib.hid hn3
          have dT : decide (SV < T) = false := decide_eq_false hen
          clear NG al hSV hT RW2 lo lw hn3 hZS hen MP ES EO ER AA0
          by_cases hn : q < 0
          · have dn : decide (q < 0) = true := decide_eq_true hn
            rw [if_pos hn] at MG
            have dT2 : decide (SV < -q) = false := by rw [← MG]; exact dT
            rw [MG] at SP SE0 CP
            clear dT MG
            go_wp2_with fail
            refine SP.out.mono ?_; rintro e w4 ⟨A3', n3, c3, zs, rfl, rz, hz, -, q3, -⟩
            rw [SE0.out]
            have hz' := (hz SE0.out).trans CP.out
            subst hz'
            have ln3 : n3 = n := by rw [← rz.1, lz]
            subst ln3
            have RZ := Lib.hid rz
            have OU4 := Lib.hid (grd_below OU.out q3 (Nat.le_refl _))
            have B4 := Lib.hid (BB.out.trans (q3.mono BB.out.size))
            clear rz hz q3 SP CP
            go_wp2_with fail
            go_loopw [14, 15] (fun vo' i wx => ∃ (k : Nat) (vo : Value), k ≤ n3 ∧ i = .int .i64 k ∧ vo = vo' ∧ EH.Own 32 wx w4.heap.size vo (((allP q l).take k).filter posH) ∧ Below w4.heap.size w4 wx) (fun _ i _ => n3 - (intOf i).toNat)
            case atStart => exact ⟨0, _, Nat.zero_le _, rfl, rfl, gown_nil _ _, Below.refl _ _⟩
            case round =>
              obtain ⟨k, vo, hk, rfl, rfl, ok, bk⟩ := hrel
              have OK := Lib.hid ok
              have BK := Lib.hid bk
              clear ok bk
              by_cases hlt : k < n3
              case neg =>
                obtain rfl : n3 = k := by omega
                have et : (allP q l).take n3 = allP q l := List.take_of_length_le (by rw [AL.out]; exact Nat.le_refl _)
                rw [et] at OK
                replace OK : Hid (EH.Own 32 wr w4.heap.size vo (outP q l)) := OK
                obtain ⟨Ax, cx, rfl, -⟩ := gown_form OK.out
                have RT := Lib.hid (gown_rd OK.out)
                have BZ := Lib.hid (B4.out.trans (BK.out.mono B4.out.size))
                clear et
                go_wp2_with fail
                go_ret2
                exact toldP_ok EV.out RT.out BZ.out
              case pos =>
                have hki : (k : Int) < (n3 : Int) := by omega
                have hdk : decide ((k : Int) < (n3 : Int)) = true := decide_eq_true hki
                obtain ⟨h, hh⟩ : ∃ h, (oppo q l)[k]? = some h := ⟨(oppo q l)[k]'(by have := HN3.out; omega), List.getElem?_eq_getElem _⟩
                obtain ⟨c, hc⟩ : ∃ c, zs[k]? = some c := ⟨zs[k]'(by omega), List.getElem?_eq_getElem _⟩
                have aq := AQ.out k h c hh hc
                obtain ⟨z0, z1⟩ := PB.out k c hc
                have wk := WH.out k h hh
                have PS := Lib.hid (pos_snoc aq)
                obtain ⟨b3, o3, rfl, hcell⟩ := RZ.out.2 (by omega)
                have hzc : zs.getD k 0 = c := by rw [List.getD, hc]; rfl
                have kc0 := hcell k hlt
                rw [hzc] at kc0
                have KC := Lib.hid fun (W : World) (b' : Below w4.heap.size w4 W) => (show W.cell? ⟨b3, o3 + k, none⟩ = some (.int .i64 c) from (b'.cell (p := ⟨b3, o3 + k, none⟩) (World.block_lt_of_cell? w4 _ kc0)).trans kc0)
                obtain ⟨b1, o1, rfl, r1⟩ := grd_rng OU4.out wk
                have kw0 : w4.cell? ⟨b1, o1 + k, none⟩ = some (.int .u32 h.ac) := by
                  have := r1 0 _ rfl
                  rw [show o1 + k * EU14.N + 0 = o1 + k by show o1 + k * 1 + 0 = o1 + k; omega] at this
                  exact this
                have KW := Lib.hid fun (W : World) (b' : Below w4.heap.size w4 W) => (show W.cell? ⟨b1, o1 + k, none⟩ = some (.int .u32 h.ac) from (b'.cell (p := ⟨b1, o1 + k, none⟩) (World.block_lt_of_cell? w4 _ kw0)).trans kw0)
                have kc := KC.out wr BK.out
                have LO : Hid ((((allP q l).take k).filter posH).length + 1 ≤ 100000) := Lib.hid (by have := List.length_filter_le posH ((allP q l).take k); have := List.length_take_le k (allP q l); omega)
                clear aq hh hc wk hcell hzc kc0 r1 kw0
                by_cases hp : 0 < c
                case neg =>
                  have dp : decide (0 < c) = false := decide_eq_false hp
                  have O9 : Hid (EH.Own 32 wr w4.heap.size vo (((allP q l).take (k + 1)).filter posH)) := Lib.hid (by rw [PS.out, if_neg (show ¬ 0 < (mkH h c).q from hp)]; exact OK.out)
                  go_wp2_with fail
                  go_roundw
                  case rel => exact ⟨k + 1, vo, hlt, by go_num, rfl, O9.out, BK.out⟩
                  case measure => simp [intOf]; omega
                case pos =>
                  have dp : decide (0 < c) = true := decide_eq_true hp
                  have PS2 : Hid (((allP q l).take (k + 1)).filter posH = ((allP q l).take k).filter posH ++ [⟨h.ac, c⟩]) := Lib.hid (by rw [PS.out, if_pos (show 0 < (mkH h c).q from hp)]; rfl)
                  clear PS
                  go_wp2_with fail
                  refine wp_region_held_drew (S := fun U => Below w4.heap.size w4 U) (by kernel_rfl) (BK.out.drew) (fun hH => ?_)
                  refine wpAnyH_take (i := 0) (v := vo) rfl (by kernel_rfl) (by kernel_rfl) (by kernel_rfl) (fun _ _ _ h => h) (.inl ⟨by rfl, ?_⟩) (by assumption) ?_
                  · intro W hW; go_simp
                  try simp only [List.getElem_toArray, List.getElem_cons_zero, Act.put, List.setIfInBounds_toArray, List.set_cons_zero, List.set_cons_succ]
                  refine wpAnyH_take (i := 1) (v := .slice (some ⟨b1, o1, none⟩) n3 co) rfl (by kernel_rfl) (by kernel_rfl) (by kernel_rfl) (fun _ _ _ h => h) (.inl ⟨by rfl, ?_⟩) (by assumption) ?_
                  · intro W hW; go_simp
                  try simp only [List.getElem_toArray, List.getElem_cons_zero, List.getElem_cons_succ, Act.put, List.setIfInBounds_toArray, List.set_cons_zero, List.set_cons_succ]
                  refine wpAnyH_take (i := 2) (v := .int .i64 k) rfl (by kernel_rfl) (by kernel_rfl) (by kernel_rfl) (fun _ _ _ h => h) (.inl ⟨by rfl, ?_⟩) (by assumption) ?_
                  · intro W hW; go_simp
                  try simp only [List.getElem_toArray, List.getElem_cons_zero, List.getElem_cons_succ, Act.put, List.setIfInBounds_toArray, List.set_cons_zero, List.set_cons_succ]
                  refine wpAnyH_take (i := 3) (v := .pointer (some ⟨b1, o1 + k, none⟩)) rfl (by kernel_rfl) (by kernel_rfl) (by kernel_rfl) (fun _ _ _ h => h) (.inl ⟨by rfl, ?_⟩) (by assumption) ?_
                  · intro W hW; go_simp
                  try simp only [List.getElem_toArray, List.getElem_cons_zero, List.getElem_cons_succ, Act.put, List.setIfInBounds_toArray, List.set_cons_zero, List.set_cons_succ]
                  refine wpAnyH_take (i := 4) (v := .int .u32 h.ac) rfl (by kernel_rfl) (by kernel_rfl) (by kernel_rfl) (fun _ _ _ h => h) (.inl ⟨by rfl, ?_⟩) (by assumption) ?_
                  · intro W hW; have cc := KW.out W hW; go_simp
                  try simp only [List.getElem_toArray, List.getElem_cons_zero, List.getElem_cons_succ, Act.put, List.setIfInBounds_toArray, List.set_cons_zero, List.set_cons_succ]
                  refine wpAnyH_take (i := 5) (v := .slice (some ⟨b3, o3, none⟩) n3 c3) rfl (by kernel_rfl) (by kernel_rfl) (by kernel_rfl) (fun _ _ _ h => h) (.inl ⟨by rfl, ?_⟩) (by assumption) ?_
                  · intro W hW; go_simp
                  try simp only [List.getElem_toArray, List.getElem_cons_zero, List.getElem_cons_succ, Act.put, List.setIfInBounds_toArray, List.set_cons_zero, List.set_cons_succ]
                  refine wpAnyH_take (i := 6) (v := .int .i64 k) rfl (by kernel_rfl) (by kernel_rfl) (by kernel_rfl) (fun _ _ _ h => h) (.inl ⟨by rfl, ?_⟩) (by assumption) ?_
                  · intro W hW; go_simp
                  try simp only [List.getElem_toArray, List.getElem_cons_zero, List.getElem_cons_succ, Act.put, List.setIfInBounds_toArray, List.set_cons_zero, List.set_cons_succ]
                  refine wpAnyH_take (i := 7) (v := .pointer (some ⟨b3, o3 + k, none⟩)) rfl (by kernel_rfl) (by kernel_rfl) (by kernel_rfl) (fun _ _ _ h => h) (.inl ⟨by rfl, ?_⟩) (by assumption) ?_
                  · intro W hW; go_simp
                  try simp only [List.getElem_toArray, List.getElem_cons_zero, List.getElem_cons_succ, Act.put, List.setIfInBounds_toArray, List.set_cons_zero, List.set_cons_succ]
                  refine wpAnyH_take (i := 8) (v := .int .i64 c) rfl (by kernel_rfl) (by kernel_rfl) (by kernel_rfl) (fun _ _ _ h => h) (.inl ⟨by rfl, ?_⟩) (by assumption) ?_
                  · intro W hW; have cc := KC.out W hW; go_simp
                  try simp only [List.getElem_toArray, List.getElem_cons_zero, List.getElem_cons_succ, Act.put, List.setIfInBounds_toArray, List.set_cons_zero, List.set_cons_succ]
                  refine wpAnyH_take (i := 9) (v := .agg (EH.cells ⟨h.ac, c⟩).toArray) rfl (by kernel_rfl) (by kernel_rfl) (by kernel_rfl) (fun _ _ _ h => h) (yields_build_ho14 (by rfl) (.tmp 135) (.tmp 139) rfl rfl rfl) (by assumption) ?_
                  try simp only [List.getElem_toArray, List.getElem_cons_zero, List.getElem_cons_succ, Act.put, List.setIfInBounds_toArray, List.set_cons_zero, List.set_cons_succ]
                  refine wpAnyH_ready (rs := [10]) (by decide +kernel) (by simp) (AllReadyH.cons rfl (fun KQ hK => ?_) AllReadyH.nil)
                  rw [if_pos (by rfl)]
                  refine gwp_bs TH rfl (s := ⟨h.ac, c⟩) rfl (fill_ho _) ?_ (by decide)
                  obtain ⟨V1, hV1⟩ : ∃ V, wr.drew.alloc (.cells (EH.cells ⟨h.ac, c⟩).toArray 32) = V := ⟨_, rfl⟩
                  have X1 : Hid (EH.Bx 32 V1 wr.drew.heap.size ⟨h.ac, c⟩) := Lib.hid (by rw [← hV1]; exact gbx_new wr.drew _)
                  have H1 : Hid (Below w4.heap.size w4 V1) := Lib.hid (by rw [← hV1]; exact hH.alloc hH.size _)
                  have O1 : Hid (EH.Own 32 V1 w4.heap.size vo (((allP q l).take k).filter posH)) := Lib.hid (by rw [← hV1]; exact gown_below (gown_same (W := wr.drew) OK.out fun _ _ => rfl) (below_new _ _))
                  rw [hV1]
                  refine hK.out _ _ H1.out (fun _ => ?_)
                  clear hK hV1
                  try simp only [List.getElem_toArray, List.getElem_cons_zero, List.getElem_cons_succ, Act.put, List.setIfInBounds_toArray, List.set_cons_zero, List.set_cons_succ]
                  refine wpAnyH_ready (rs := [11]) (by decide +kernel) (by simp) (AllReadyH.cons rfl (fun KQ hK => ?_) AllReadyH.nil)
                  rw [if_pos (by rfl)]
                  refine gwp_app TH (.tmp 131) (.tmp 141) rfl w4.heap.size vo _ rfl O1.out (some ⟨wr.drew.heap.size, 0, none⟩) 1 1 [⟨h.ac, c⟩] rfl (gbx_rd X1.out) (fun e => by cases e) LO.out H1.out.size ?_
                  intro v9 w9 o9 g9 n9
                  have B9 := Lib.hid (H1.out.grown g9 H1.out.size (fun j e => (gown_lt O1.out e).1))
                  have O9 := Lib.hid o9
                  rw [← PS2.out] at O9
                  clear o9 g9 n9
                  refine hK.out _ _ B9.out (fun _ => ?_)
                  clear hK
                  try simp only [List.getElem_toArray, List.getElem_cons_zero, List.getElem_cons_succ, Act.put, List.setIfInBounds_toArray, List.set_cons_zero, List.set_cons_succ]
                  refine wpAnyH_take (i := 12) (v := v9) rfl (by kernel_rfl) (by kernel_rfl) (by kernel_rfl) (fun _ _ _ h => h) (.inl ⟨by rfl, ?_⟩) (by assumption) ?_
                  · intro W hW; go_simp
                  try simp only [List.getElem_toArray, List.getElem_cons_zero, List.getElem_cons_succ, Act.put, List.setIfInBounds_toArray, List.set_cons_zero, List.set_cons_succ]
                  refine wpAnyH_done (by decide +kernel) ?_ _
                  go_wp2_with fail
                  go_roundw
                  case rel => exact ⟨k + 1, v9, hlt, by go_num, rfl, O9.out, B9.out⟩
                  case measure => simp [intOf]; omega
          · have dn : decide (q < 0) = false := decide_eq_false hn
            rw [if_neg hn] at MG
            have dT2 : decide (SV < q) = false := by rw [← MG]; exact dT
            rw [MG] at SP SE0 CP
            clear dT MG
            go_wp2_with fail
            refine SP.out.mono ?_; rintro e w4 ⟨A3', n3, c3, zs, rfl, rz, hz, -, q3, -⟩
            rw [SE0.out]
            have hz' := (hz SE0.out).trans CP.out
            subst hz'
            have ln3 : n3 = n := by rw [← rz.1, lz]
            subst ln3
            have RZ := Lib.hid rz
            have OU4 := Lib.hid (grd_below OU.out q3 (Nat.le_refl _))
            have B4 := Lib.hid (BB.out.trans (q3.mono BB.out.size))
            clear rz hz q3 SP CP
            go_wp2_with fail
            go_loopw [14, 15] (fun vo' i wx => ∃ (k : Nat) (vo : Value), k ≤ n3 ∧ i = .int .i64 k ∧ vo = vo' ∧ EH.Own 32 wx w4.heap.size vo (((allP q l).take k).filter posH) ∧ Below w4.heap.size w4 wx) (fun _ i _ => n3 - (intOf i).toNat)
            case atStart => exact ⟨0, _, Nat.zero_le _, rfl, rfl, gown_nil _ _, Below.refl _ _⟩
            case round =>
              obtain ⟨k, vo, hk, rfl, rfl, ok, bk⟩ := hrel
              have OK := Lib.hid ok
              have BK := Lib.hid bk
              clear ok bk
              by_cases hlt : k < n3
              case neg =>
                obtain rfl : n3 = k := by omega
                have et : (allP q l).take n3 = allP q l := List.take_of_length_le (by rw [AL.out]; exact Nat.le_refl _)
                rw [et] at OK
                replace OK : Hid (EH.Own 32 wr w4.heap.size vo (outP q l)) := OK
                obtain ⟨Ax, cx, rfl, -⟩ := gown_form OK.out
                have RT := Lib.hid (gown_rd OK.out)
                have BZ := Lib.hid (B4.out.trans (BK.out.mono B4.out.size))
                clear et
                go_wp2_with fail
                go_ret2
                exact toldP_ok EV.out RT.out BZ.out
              case pos =>
                have hki : (k : Int) < (n3 : Int) := by omega
                have hdk : decide ((k : Int) < (n3 : Int)) = true := decide_eq_true hki
                obtain ⟨h, hh⟩ : ∃ h, (oppo q l)[k]? = some h := ⟨(oppo q l)[k]'(by have := HN3.out; omega), List.getElem?_eq_getElem _⟩
                obtain ⟨c, hc⟩ : ∃ c, zs[k]? = some c := ⟨zs[k]'(by omega), List.getElem?_eq_getElem _⟩
                have aq := AQ.out k h c hh hc
                obtain ⟨z0, z1⟩ := PB.out k c hc
                have wk := WH.out k h hh
                have PS := Lib.hid (pos_snoc aq)
                obtain ⟨b3, o3, rfl, hcell⟩ := RZ.out.2 (by omega)
                have hzc : zs.getD k 0 = c := by rw [List.getD, hc]; rfl
                have kc0 := hcell k hlt
                rw [hzc] at kc0
                have KC := Lib.hid fun (W : World) (b' : Below w4.heap.size w4 W) => (show W.cell? ⟨b3, o3 + k, none⟩ = some (.int .i64 c) from (b'.cell (p := ⟨b3, o3 + k, none⟩) (World.block_lt_of_cell? w4 _ kc0)).trans kc0)
                obtain ⟨b1, o1, rfl, r1⟩ := grd_rng OU4.out wk
                have kw0 : w4.cell? ⟨b1, o1 + k, none⟩ = some (.int .u32 h.ac) := by
                  have := r1 0 _ rfl
                  rw [show o1 + k * EU14.N + 0 = o1 + k by show o1 + k * 1 + 0 = o1 + k; omega] at this
                  exact this
                have KW := Lib.hid fun (W : World) (b' : Below w4.heap.size w4 W) => (show W.cell? ⟨b1, o1 + k, none⟩ = some (.int .u32 h.ac) from (b'.cell (p := ⟨b1, o1 + k, none⟩) (World.block_lt_of_cell? w4 _ kw0)).trans kw0)
                have kc := KC.out wr BK.out
                have LO : Hid ((((allP q l).take k).filter posH).length + 1 ≤ 100000) := Lib.hid (by have := List.length_filter_le posH ((allP q l).take k); have := List.length_take_le k (allP q l); omega)
                clear aq hh hc wk hcell hzc kc0 r1 kw0
                by_cases hp : 0 < c
                case neg =>
                  have dp : decide (0 < c) = false := decide_eq_false hp
                  have O9 : Hid (EH.Own 32 wr w4.heap.size vo (((allP q l).take (k + 1)).filter posH)) := Lib.hid (by rw [PS.out, if_neg (show ¬ 0 < (mkH h c).q from hp)]; exact OK.out)
                  go_wp2_with fail
                  go_roundw
                  case rel => exact ⟨k + 1, vo, hlt, by go_num, rfl, O9.out, BK.out⟩
                  case measure => simp [intOf]; omega
                case pos =>
                  have dp : decide (0 < c) = true := decide_eq_true hp
                  have PS2 : Hid (((allP q l).take (k + 1)).filter posH = ((allP q l).take k).filter posH ++ [⟨h.ac, c⟩]) := Lib.hid (by rw [PS.out, if_pos (show 0 < (mkH h c).q from hp)]; rfl)
                  clear PS
                  go_wp2_with fail
                  refine wp_region_held_drew (S := fun U => Below w4.heap.size w4 U) (by kernel_rfl) (BK.out.drew) (fun hH => ?_)
                  refine wpAnyH_take (i := 0) (v := vo) rfl (by kernel_rfl) (by kernel_rfl) (by kernel_rfl) (fun _ _ _ h => h) (.inl ⟨by rfl, ?_⟩) (by assumption) ?_
                  · intro W hW; go_simp
                  try simp only [List.getElem_toArray, List.getElem_cons_zero, Act.put, List.setIfInBounds_toArray, List.set_cons_zero, List.set_cons_succ]
                  refine wpAnyH_take (i := 1) (v := .slice (some ⟨b1, o1, none⟩) n3 co) rfl (by kernel_rfl) (by kernel_rfl) (by kernel_rfl) (fun _ _ _ h => h) (.inl ⟨by rfl, ?_⟩) (by assumption) ?_
                  · intro W hW; go_simp
                  try simp only [List.getElem_toArray, List.getElem_cons_zero, List.getElem_cons_succ, Act.put, List.setIfInBounds_toArray, List.set_cons_zero, List.set_cons_succ]
                  refine wpAnyH_take (i := 2) (v := .int .i64 k) rfl (by kernel_rfl) (by kernel_rfl) (by kernel_rfl) (fun _ _ _ h => h) (.inl ⟨by rfl, ?_⟩) (by assumption) ?_
                  · intro W hW; go_simp
                  try simp only [List.getElem_toArray, List.getElem_cons_zero, List.getElem_cons_succ, Act.put, List.setIfInBounds_toArray, List.set_cons_zero, List.set_cons_succ]
                  refine wpAnyH_take (i := 3) (v := .pointer (some ⟨b1, o1 + k, none⟩)) rfl (by kernel_rfl) (by kernel_rfl) (by kernel_rfl) (fun _ _ _ h => h) (.inl ⟨by rfl, ?_⟩) (by assumption) ?_
                  · intro W hW; go_simp
                  try simp only [List.getElem_toArray, List.getElem_cons_zero, List.getElem_cons_succ, Act.put, List.setIfInBounds_toArray, List.set_cons_zero, List.set_cons_succ]
                  refine wpAnyH_take (i := 4) (v := .int .u32 h.ac) rfl (by kernel_rfl) (by kernel_rfl) (by kernel_rfl) (fun _ _ _ h => h) (.inl ⟨by rfl, ?_⟩) (by assumption) ?_
                  · intro W hW; have cc := KW.out W hW; go_simp
                  try simp only [List.getElem_toArray, List.getElem_cons_zero, List.getElem_cons_succ, Act.put, List.setIfInBounds_toArray, List.set_cons_zero, List.set_cons_succ]
                  refine wpAnyH_take (i := 5) (v := .slice (some ⟨b3, o3, none⟩) n3 c3) rfl (by kernel_rfl) (by kernel_rfl) (by kernel_rfl) (fun _ _ _ h => h) (.inl ⟨by rfl, ?_⟩) (by assumption) ?_
                  · intro W hW; go_simp
                  try simp only [List.getElem_toArray, List.getElem_cons_zero, List.getElem_cons_succ, Act.put, List.setIfInBounds_toArray, List.set_cons_zero, List.set_cons_succ]
                  refine wpAnyH_take (i := 6) (v := .int .i64 k) rfl (by kernel_rfl) (by kernel_rfl) (by kernel_rfl) (fun _ _ _ h => h) (.inl ⟨by rfl, ?_⟩) (by assumption) ?_
                  · intro W hW; go_simp
                  try simp only [List.getElem_toArray, List.getElem_cons_zero, List.getElem_cons_succ, Act.put, List.setIfInBounds_toArray, List.set_cons_zero, List.set_cons_succ]
                  refine wpAnyH_take (i := 7) (v := .pointer (some ⟨b3, o3 + k, none⟩)) rfl (by kernel_rfl) (by kernel_rfl) (by kernel_rfl) (fun _ _ _ h => h) (.inl ⟨by rfl, ?_⟩) (by assumption) ?_
                  · intro W hW; go_simp
                  try simp only [List.getElem_toArray, List.getElem_cons_zero, List.getElem_cons_succ, Act.put, List.setIfInBounds_toArray, List.set_cons_zero, List.set_cons_succ]
                  refine wpAnyH_take (i := 8) (v := .int .i64 c) rfl (by kernel_rfl) (by kernel_rfl) (by kernel_rfl) (fun _ _ _ h => h) (.inl ⟨by rfl, ?_⟩) (by assumption) ?_
                  · intro W hW; have cc := KC.out W hW; go_simp
                  try simp only [List.getElem_toArray, List.getElem_cons_zero, List.getElem_cons_succ, Act.put, List.setIfInBounds_toArray, List.set_cons_zero, List.set_cons_succ]
                  refine wpAnyH_take (i := 9) (v := .agg (EH.cells ⟨h.ac, c⟩).toArray) rfl (by kernel_rfl) (by kernel_rfl) (by kernel_rfl) (fun _ _ _ h => h) (yields_build_ho14 (by rfl) (.tmp 135) (.tmp 139) rfl rfl rfl) (by assumption) ?_
                  try simp only [List.getElem_toArray, List.getElem_cons_zero, List.getElem_cons_succ, Act.put, List.setIfInBounds_toArray, List.set_cons_zero, List.set_cons_succ]
                  refine wpAnyH_ready (rs := [10]) (by decide +kernel) (by simp) (AllReadyH.cons rfl (fun KQ hK => ?_) AllReadyH.nil)
                  rw [if_pos (by rfl)]
                  refine gwp_bs TH rfl (s := ⟨h.ac, c⟩) rfl (fill_ho _) ?_ (by decide)
                  obtain ⟨V1, hV1⟩ : ∃ V, wr.drew.alloc (.cells (EH.cells ⟨h.ac, c⟩).toArray 32) = V := ⟨_, rfl⟩
                  have X1 : Hid (EH.Bx 32 V1 wr.drew.heap.size ⟨h.ac, c⟩) := Lib.hid (by rw [← hV1]; exact gbx_new wr.drew _)
                  have H1 : Hid (Below w4.heap.size w4 V1) := Lib.hid (by rw [← hV1]; exact hH.alloc hH.size _)
                  have O1 : Hid (EH.Own 32 V1 w4.heap.size vo (((allP q l).take k).filter posH)) := Lib.hid (by rw [← hV1]; exact gown_below (gown_same (W := wr.drew) OK.out fun _ _ => rfl) (below_new _ _))
                  rw [hV1]
                  refine hK.out _ _ H1.out (fun _ => ?_)
                  clear hK hV1
                  try simp only [List.getElem_toArray, List.getElem_cons_zero, List.getElem_cons_succ, Act.put, List.setIfInBounds_toArray, List.set_cons_zero, List.set_cons_succ]
                  refine wpAnyH_ready (rs := [11]) (by decide +kernel) (by simp) (AllReadyH.cons rfl (fun KQ hK => ?_) AllReadyH.nil)
                  rw [if_pos (by rfl)]
                  refine gwp_app TH (.tmp 131) (.tmp 141) rfl w4.heap.size vo _ rfl O1.out (some ⟨wr.drew.heap.size, 0, none⟩) 1 1 [⟨h.ac, c⟩] rfl (gbx_rd X1.out) (fun e => by cases e) LO.out H1.out.size ?_
                  intro v9 w9 o9 g9 n9
                  have B9 := Lib.hid (H1.out.grown g9 H1.out.size (fun j e => (gown_lt O1.out e).1))
                  have O9 := Lib.hid o9
                  rw [← PS2.out] at O9
                  clear o9 g9 n9
                  refine hK.out _ _ B9.out (fun _ => ?_)
                  clear hK
                  try simp only [List.getElem_toArray, List.getElem_cons_zero, List.getElem_cons_succ, Act.put, List.setIfInBounds_toArray, List.set_cons_zero, List.set_cons_succ]
                  refine wpAnyH_take (i := 12) (v := v9) rfl (by kernel_rfl) (by kernel_rfl) (by kernel_rfl) (fun _ _ _ h => h) (.inl ⟨by rfl, ?_⟩) (by assumption) ?_
                  · intro W hW; go_simp
                  try simp only [List.getElem_toArray, List.getElem_cons_zero, List.getElem_cons_succ, Act.put, List.setIfInBounds_toArray, List.set_cons_zero, List.set_cons_succ]
                  refine wpAnyH_done (by decide +kernel) ?_ _
                  go_wp2_with fail
                  go_roundw
                  case rel => exact ⟨k + 1, v9, hlt, by go_num, rfl, O9.out, B9.out⟩
                  case measure => simp [intOf]; omega
end Go.Proofs.Ytpfhkmppbochnaa
