/- The document's Settle: contract (by genStu.py). -/
import Derived.OwnWalk
import Derived.Test.YtlbekdpmfjhjhaaHStv
namespace Go.Proofs.Ytlbekdpmfjhjhaa
open Go.RowKit Go.Sort
set_option linter.unusedVariables false
set_option linter.unusedSimpArgs false

set_option maxRecDepth 100000 in
set_option maxHeartbeats 32000000 in
theorem rsettle13 (f : Int) (A : Option Addr) (len cap : Nat) (l : List Du) (w : World) (hf : I64 f) (hr : ED.Rd w A len l) (hk : ∀ d, d ∈ l → d.ok) (hl : len ≤ maxLen) : Calls Try.prog 9 #[.int .i64 f, .slice A len cap] w (fun e w' => ToldS f l w.heap.size w w' e) := by
  have NL := Lib.hid hr.1
  unfold maxLen at hl
  unfold I64 at hf
  by_cases h64 : 64 < len
  · have d0 : decide (64 < (len : Int)) = true := decide_eq_true (by omega)
    have he : Hid (errS f l = 3) := Lib.hid (by unfold errS; rw [if_pos (by rw [NL.out]; exact h64)])
    clear hr hk h64
    go_enter Try.func9, Try.ntmps9
    go_wp2_with fail
    go_ret3
    exact toldS_bad he.out (by decide) (Below.refl _ _)
  have d0 : decide (64 < (len : Int)) = false := decide_eq_false (by omega)
  have EL : ∀ x y : Int, (if 64 < l.length then x else y) = y := fun x y => if_neg (by rw [NL.out]; exact h64)
  by_cases hf0 : f < 0
  · have d1 : decide (f < 0) = true := decide_eq_true hf0
    have he : Hid (errS f l = 2) := Lib.hid (by unfold errS; rw [EL, if_pos (by omega)])
    clear hr hk h64 EL hf0
    go_enter Try.func9, Try.ntmps9
    go_wp2_with fail
    go_ret3
    exact toldS_bad he.out (by decide) (Below.refl _ _)
  have d1 : decide (f < 0) = false := decide_eq_false hf0
  by_cases hf1 : 1000000000000000 < f
  · have d2 : decide (1000000000000000 < f) = true := decide_eq_true hf1
    have he : Hid (errS f l = 2) := Lib.hid (by unfold errS; rw [EL, if_pos (by omega)])
    clear hr hk h64 EL hf0 hf1
    go_enter Try.func9, Try.ntmps9
    go_wp2_with fail
    go_ret3
    exact toldS_bad he.out (by decide) (Below.refl _ _)
  have d2 : decide (1000000000000000 < f) = false := decide_eq_false hf1
  have ER : Hid (risD 0 l = false → errS f l = 2) := Lib.hid fun h => by unfold errS; rw [EL, if_neg (by omega), if_pos h]
  have ES : Hid (risD 0 l = true → sumV l ≠ 0 → errS f l = 130) := Lib.hid fun h h2 => by unfold errS; rw [EL, if_neg (by omega), if_neg (by rw [h]; decide), if_pos h2]
  have EO : Hid (risD 0 l = true → sumV l = 0 → errS f l = 0) := Lib.hid fun h h2 => errS_ok.2 ⟨by rw [NL.out]; omega, by omega, h, h2⟩
  have HR := Lib.hid fun (W : World) (q : Below w.heap.size w W) => (show ED.Rd W A len l from grd_below hr q (Nat.le_refl _))
  have HK := Lib.hid hk
  have hl64 : len ≤ 64 := by omega
  have f0 : 0 ≤ f := by omega
  have f1 : f ≤ 1000000000000000 := by omega
  have hzd : ∀ W, (zeroValue 30).run Try.prog W = .ok (.agg (ED.cells zeroDu).toArray) W := fun W => by kernel_rfl
  have HZS : Hid (∀ W, (zeroValue 34).run Try.prog W = .ok (.agg (ESd.cells zeroSd).toArray) W) := Lib.hid fun W => by kernel_rfl
  clear hr hk h64 EL hf0 hf1
  go_enter Try.func9, Try.ntmps9
  go_wp2_with fail
  refine (of_zero _).mono ?_; rintro e w1 ⟨rfl, hq1⟩
  have Q1 := Lib.hid hq1.2
  clear hq1
  go_wp2_with (refine wl_store_nm w1.heap.size false false (dgs 0) (fun _ => 0) ?_ ?_ ?_ ?_; rfl; rfl; exact Row.new w1 47 (nm false fun _ => 0))
  have LT1 : Hid (w.heap.size ≤ w1.heap.size) := Lib.hid Q1.out.size
  go_loopw [8] (fun i wr => ∃ (k : Nat) (u : Bool) (N : Int), k ≤ len ∧ i = .int .i64 k ∧ Row wr w1.heap.size 47 (nm u (dgs N)) ∧ 0 ≤ N ∧ N ≤ 100000000000000000 * (k : Int) ∧ sgn u N = sumV (l.take k) ∧ risD 0 (l.take k) = true ∧ Below w.heap.size w wr) (fun i _ => len - (intOf i).toNat)
  case atStart =>
    have rn := Row.new w1 47 (nm false fun _ => 0)
    exact ⟨0, false, 0, Nat.zero_le _, rfl, rn.whole _, Int.le_refl 0, by decide, rfl, rfl, below_row0 (Q1.out.alloc LT1.out _) LT1.out⟩
  case round =>
    obtain ⟨k, u, N, hk, rfl, rw0, m0, m1, ms, mr, hb⟩ := hrel
    have RW := Lib.hid rw0
    have HB := Lib.hid hb
    have MS := Lib.hid ms
    have MR := Lib.hid mr
    clear rw0 hb ms mr
    by_cases hlt : k < len
    case pos =>
      have hki : (k : Int) < (len : Int) := by omega
      have hdk : decide ((k : Int) < (len : Int)) = true := decide_eq_true hki
      obtain ⟨d, hd⟩ : ∃ d, l[k]? = some d := ⟨l[k]'(by have := NL.out; omega), List.getElem?_eq_getElem _⟩
      have OKd := HK.out d (List.mem_of_getElem? hd)
      obtain ⟨ac0, ac1⟩ := OKd.ac
      obtain ⟨b, o, rfl, rg⟩ := grd_rng (HR.out wr HB.out) hd
      replace rg : wr.rangeAt b (o + k * 3) (ED.cells d) := rg
      have RG := Lib.hid rg
      have X0 : Hid (ED.Bx 30 (wr.alloc (.cells (ED.cells zeroDu).toArray 30)) wr.heap.size zeroDu) := Lib.hid (gbx_new wr zeroDu)
      obtain ⟨WD, hWD⟩ : ∃ W, (wr.alloc (.cells (ED.cells zeroDu).toArray 30)).setRow wr.heap.size (ED.cells d).toArray = W := ⟨_, rfl⟩
      have XD : Hid (ED.Bx 30 WD wr.heap.size d) := Lib.hid (by rw [← hWD]; exact gbx_set X0.out)
      have BD : Hid (Below wr.heap.size wr WD) := Lib.hid (by rw [← hWD]; exact below_row0 (below_new _ _) (Nat.le_refl _))
      have HWD := Lib.hid hWD
      have HBD := Lib.hid (HB.out.trans (BD.out.mono HB.out.size))
      have RWD := Lib.hid (RW.out.below BD.out RW.out.lt)
      obtain ⟨gd, hgd⟩ : ∃ g, wr.heap.size = g := ⟨_, rfl⟩
      have GL : Hid (w1.heap.size < gd) := Lib.hid (by rw [← hgd]; exact RW.out.lt)
      have KD := Lib.hid fun (W : World) (q : Below WD.heap.size WD W) => (show ED.Bx 30 W gd d from by rw [← hgd]; exact gbx_below XD.out q)
      have C0 := Lib.hid fun (W : World) (q : Below WD.heap.size WD W) => (show W.cell? ⟨gd, 0, none⟩ = some (.int .u32 d.ac) from (gbx_cell (KD.out W q) 0).trans rfl)
      have C1 := Lib.hid fun (W : World) (q : Below WD.heap.size WD W) => (show W.cell? ⟨gd, 1, none⟩ = some (.int .i64 d.ca) from (gbx_cell (KD.out W q) 1).trans rfl)
      have C2 := Lib.hid fun (W : World) (q : Below WD.heap.size WD W) => (show W.cell? ⟨gd, 2, none⟩ = some (.int .i64 d.v) from (gbx_cell (KD.out W q) 2).trans rfl)
      obtain ⟨pa, hpa⟩ : ∃ a, lastA 0 (l.take k) = a := ⟨_, rfl⟩
      have ST := Lib.hid (ris_step hd MR.out)
      rw [hpa] at ST
      have BAD : Hid (dueB pa d = false → errS f l = 2) := Lib.hid fun h => ER.out (ris_bad (ST.out.trans h))
      have SV : Hid (sumV (l.take (k + 1)) = sumV (l.take k) + d.v) := Lib.hid (by rw [take_s13 hd, sumV_snoc])
      have PK : Hid ((k = 0 ∧ pa = 0) ∨ ∃ m p, k = m + 1 ∧ l[m]? = some p ∧ pa = p.ac) := Lib.hid (by
        cases k with
        | zero => left; exact ⟨rfl, hpa.symm⟩
        | succ m =>
          right
          have hm : l[m]? = some (l[m]'(by have := NL.out; omega)) := List.getElem?_eq_getElem _
          exact ⟨m, _, rfl, hm, by rw [← hpa, last_take hm]⟩)
      have LR := Lib.hid fun (m : Nat) (p : Du) (hm : l[m]? = some p) (W : World) (q : Below WD.heap.size WD W) => (show W.cell? ⟨b, o + m * 3, none⟩ = some (.int .u32 p.ac) by
        obtain ⟨b2, o2, e2, r2⟩ := grd_rng (HR.out W (HBD.out.trans (q.mono HBD.out.size))) hm
        cases e2
        exact r2 0 _ rfl)
      have i3 : -9223372036854775808 ≤ d.v ∧ d.v ≤ 9223372036854775807 := OKd.v
      have HGD := Lib.hid hgd
      clear hWD rg hd hpa OKd hgd
      go_wp2_with (first | ((with_reducible refine gwl_load TDu b (o + k * 3) RG.out ?_ ?_ ?_); rfl; rfl) | ((with_reducible refine gwl_store TDu d wr.heap.size X0.out ?_ ?_ ?_); rfl; rfl; rw [HWD.out]))
      rw [HGD.out]
      refine wp_region_held_drew (S := fun U => Below WD.heap.size WD U) (by kernel_rfl) (Below.refl _ _).drew (fun hH => ?_)
      refine wpAnyH_take (i := 0) (v := .pointer (some ⟨gd, 0, none⟩)) rfl (by kernel_rfl) (by kernel_rfl) (by kernel_rfl) (fun _ _ _ h => h) (.inl ⟨by rfl, ?_⟩) (by assumption) ?_
      · intro W hW; go_simp
      try simp only [List.getElem_toArray, List.getElem_cons_zero, Act.put, List.setIfInBounds_toArray, List.set_cons_zero, List.set_cons_succ]
      refine wpAnyH_take (i := 1) (v := .int .u32 d.ac) rfl (by kernel_rfl) (by kernel_rfl) (by kernel_rfl) (fun _ _ _ h => h) (.inl ⟨by rfl, ?_⟩) (by assumption) ?_
      · intro W hW; have cc := C0.out W hW; go_simp
      try simp only [List.getElem_toArray, List.getElem_cons_zero, List.getElem_cons_succ, Act.put, List.setIfInBounds_toArray, List.set_cons_zero, List.set_cons_succ]
      by_cases t0 : d.ac = 0
      · have e_t0 : (d.ac == 0) = true := by simp [t0]
        have EE := Lib.hid (BAD.out (decide_eq_false fun h => by rcases PK.out with ⟨_, e⟩ | ⟨m, p, _, hm, e⟩; omega; have := (HK.out p (List.mem_of_getElem? hm)).ac; omega))
        refine wpAnyH_take (i := 2) (v := .bool true) rfl (by kernel_rfl) (by kernel_rfl) (by kernel_rfl) (fun _ _ _ h => h) (.inl ⟨by rfl, ?_⟩) (by assumption) ?_
        · intro W hW; go_simp
        try simp only [List.getElem_toArray, List.getElem_cons_zero, List.getElem_cons_succ, Act.put, List.setIfInBounds_toArray, List.set_cons_zero, List.set_cons_succ]
        refine wpAnyH_take (i := 3) (v := .bool true) rfl (by kernel_rfl) (by kernel_rfl) (by kernel_rfl) (fun _ _ _ h => h) (.inl ⟨by rfl, ?_⟩) (by assumption) ?_
        · intro W hW; go_simp
        try simp only [List.getElem_toArray, List.getElem_cons_zero, List.getElem_cons_succ, Act.put, List.setIfInBounds_toArray, List.set_cons_zero, List.set_cons_succ]
        refine wpAnyH_take (i := 4) (v := undef) rfl (by kernel_rfl) (by kernel_rfl) (by kernel_rfl) (fun _ _ _ h => h) (.inr ⟨by rfl, rfl⟩) (by assumption) ?_
        try simp only [List.getElem_toArray, List.getElem_cons_zero, List.getElem_cons_succ, Act.put, List.setIfInBounds_toArray, List.set_cons_zero, List.set_cons_succ]
        refine wpAnyH_take (i := 5) (v := undef) rfl (by kernel_rfl) (by kernel_rfl) (by kernel_rfl) (fun _ _ _ h => h) (.inr ⟨by rfl, rfl⟩) (by assumption) ?_
        try simp only [List.getElem_toArray, List.getElem_cons_zero, List.getElem_cons_succ, Act.put, List.setIfInBounds_toArray, List.set_cons_zero, List.set_cons_succ]
        refine wpAnyH_take (i := 6) (v := undef) rfl (by kernel_rfl) (by kernel_rfl) (by kernel_rfl) (fun _ _ _ h => h) (.inr ⟨by rfl, rfl⟩) (by assumption) ?_
        try simp only [List.getElem_toArray, List.getElem_cons_zero, List.getElem_cons_succ, Act.put, List.setIfInBounds_toArray, List.set_cons_zero, List.set_cons_succ]
        refine wpAnyH_take (i := 7) (v := undef) rfl (by kernel_rfl) (by kernel_rfl) (by kernel_rfl) (fun _ _ _ h => h) (.inr ⟨by rfl, rfl⟩) (by assumption) ?_
        try simp only [List.getElem_toArray, List.getElem_cons_zero, List.getElem_cons_succ, Act.put, List.setIfInBounds_toArray, List.set_cons_zero, List.set_cons_succ]
        refine wpAnyH_take (i := 8) (v := undef) rfl (by kernel_rfl) (by kernel_rfl) (by kernel_rfl) (fun _ _ _ h => h) (.inr ⟨by rfl, rfl⟩) (by assumption) ?_
        try simp only [List.getElem_toArray, List.getElem_cons_zero, List.getElem_cons_succ, Act.put, List.setIfInBounds_toArray, List.set_cons_zero, List.set_cons_succ]
        refine wpAnyH_take (i := 9) (v := undef) rfl (by kernel_rfl) (by kernel_rfl) (by kernel_rfl) (fun _ _ _ h => h) (.inr ⟨by rfl, rfl⟩) (by assumption) ?_
        try simp only [List.getElem_toArray, List.getElem_cons_zero, List.getElem_cons_succ, Act.put, List.setIfInBounds_toArray, List.set_cons_zero, List.set_cons_succ]
        refine wpAnyH_take (i := 10) (v := undef) rfl (by kernel_rfl) (by kernel_rfl) (by kernel_rfl) (fun _ _ _ h => h) (.inr ⟨by rfl, rfl⟩) (by assumption) ?_
        try simp only [List.getElem_toArray, List.getElem_cons_zero, List.getElem_cons_succ, Act.put, List.setIfInBounds_toArray, List.set_cons_zero, List.set_cons_succ]
        refine wpAnyH_take (i := 11) (v := undef) rfl (by kernel_rfl) (by kernel_rfl) (by kernel_rfl) (fun _ _ _ h => h) (.inr ⟨by rfl, rfl⟩) (by assumption) ?_
        try simp only [List.getElem_toArray, List.getElem_cons_zero, List.getElem_cons_succ, Act.put, List.setIfInBounds_toArray, List.set_cons_zero, List.set_cons_succ]
        refine wpAnyH_take (i := 12) (v := undef) rfl (by kernel_rfl) (by kernel_rfl) (by kernel_rfl) (fun _ _ _ h => h) (.inr ⟨by rfl, rfl⟩) (by assumption) ?_
        try simp only [List.getElem_toArray, List.getElem_cons_zero, List.getElem_cons_succ, Act.put, List.setIfInBounds_toArray, List.set_cons_zero, List.set_cons_succ]
        refine wpAnyH_take (i := 13) (v := undef) rfl (by kernel_rfl) (by kernel_rfl) (by kernel_rfl) (fun _ _ _ h => h) (.inr ⟨by rfl, rfl⟩) (by assumption) ?_
        try simp only [List.getElem_toArray, List.getElem_cons_zero, List.getElem_cons_succ, Act.put, List.setIfInBounds_toArray, List.set_cons_zero, List.set_cons_succ]
        refine wpAnyH_take (i := 14) (v := undef) rfl (by kernel_rfl) (by kernel_rfl) (by kernel_rfl) (fun _ _ _ h => h) (.inr ⟨by rfl, rfl⟩) (by assumption) ?_
        try simp only [List.getElem_toArray, List.getElem_cons_zero, List.getElem_cons_succ, Act.put, List.setIfInBounds_toArray, List.set_cons_zero, List.set_cons_succ]
        refine wpAnyH_take (i := 15) (v := undef) rfl (by kernel_rfl) (by kernel_rfl) (by kernel_rfl) (fun _ _ _ h => h) (.inr ⟨by rfl, rfl⟩) (by assumption) ?_
        try simp only [List.getElem_toArray, List.getElem_cons_zero, List.getElem_cons_succ, Act.put, List.setIfInBounds_toArray, List.set_cons_zero, List.set_cons_succ]
        refine wpAnyH_take (i := 16) (v := undef) rfl (by kernel_rfl) (by kernel_rfl) (by kernel_rfl) (fun _ _ _ h => h) (.inr ⟨by rfl, rfl⟩) (by assumption) ?_
        try simp only [List.getElem_toArray, List.getElem_cons_zero, List.getElem_cons_succ, Act.put, List.setIfInBounds_toArray, List.set_cons_zero, List.set_cons_succ]
        refine wpAnyH_take (i := 17) (v := .bool true) rfl (by kernel_rfl) (by kernel_rfl) (by kernel_rfl) (fun _ _ _ h => h) (.inl ⟨by rfl, ?_⟩) (by assumption) ?_
        · intro W hW; go_simp
        try simp only [List.getElem_toArray, List.getElem_cons_zero, List.getElem_cons_succ, Act.put, List.setIfInBounds_toArray, List.set_cons_zero, List.set_cons_succ]
        refine wpAnyH_take (i := 18) (v := .bool true) rfl (by kernel_rfl) (by kernel_rfl) (by kernel_rfl) (fun _ _ _ h => h) (.inl ⟨by rfl, ?_⟩) (by assumption) ?_
        · intro W hW; go_simp
        try simp only [List.getElem_toArray, List.getElem_cons_zero, List.getElem_cons_succ, Act.put, List.setIfInBounds_toArray, List.set_cons_zero, List.set_cons_succ]
        refine wpAnyH_take (i := 19) (v := undef) rfl (by kernel_rfl) (by kernel_rfl) (by kernel_rfl) (fun _ _ _ h => h) (.inr ⟨by rfl, rfl⟩) (by assumption) ?_
        try simp only [List.getElem_toArray, List.getElem_cons_zero, List.getElem_cons_succ, Act.put, List.setIfInBounds_toArray, List.set_cons_zero, List.set_cons_succ]
        refine wpAnyH_take (i := 20) (v := undef) rfl (by kernel_rfl) (by kernel_rfl) (by kernel_rfl) (fun _ _ _ h => h) (.inr ⟨by rfl, rfl⟩) (by assumption) ?_
        try simp only [List.getElem_toArray, List.getElem_cons_zero, List.getElem_cons_succ, Act.put, List.setIfInBounds_toArray, List.set_cons_zero, List.set_cons_succ]
        refine wpAnyH_take (i := 21) (v := undef) rfl (by kernel_rfl) (by kernel_rfl) (by kernel_rfl) (fun _ _ _ h => h) (.inr ⟨by rfl, rfl⟩) (by assumption) ?_
        try simp only [List.getElem_toArray, List.getElem_cons_zero, List.getElem_cons_succ, Act.put, List.setIfInBounds_toArray, List.set_cons_zero, List.set_cons_succ]
        refine wpAnyH_take (i := 22) (v := .bool true) rfl (by kernel_rfl) (by kernel_rfl) (by kernel_rfl) (fun _ _ _ h => h) (.inl ⟨by rfl, ?_⟩) (by assumption) ?_
        · intro W hW; go_simp
        try simp only [List.getElem_toArray, List.getElem_cons_zero, List.getElem_cons_succ, Act.put, List.setIfInBounds_toArray, List.set_cons_zero, List.set_cons_succ]
        refine wpAnyH_take (i := 23) (v := .bool true) rfl (by kernel_rfl) (by kernel_rfl) (by kernel_rfl) (fun _ _ _ h => h) (.inl ⟨by rfl, ?_⟩) (by assumption) ?_
        · intro W hW; go_simp
        try simp only [List.getElem_toArray, List.getElem_cons_zero, List.getElem_cons_succ, Act.put, List.setIfInBounds_toArray, List.set_cons_zero, List.set_cons_succ]
        refine wpAnyH_take (i := 24) (v := undef) rfl (by kernel_rfl) (by kernel_rfl) (by kernel_rfl) (fun _ _ _ h => h) (.inr ⟨by rfl, rfl⟩) (by assumption) ?_
        try simp only [List.getElem_toArray, List.getElem_cons_zero, List.getElem_cons_succ, Act.put, List.setIfInBounds_toArray, List.set_cons_zero, List.set_cons_succ]
        refine wpAnyH_take (i := 25) (v := undef) rfl (by kernel_rfl) (by kernel_rfl) (by kernel_rfl) (fun _ _ _ h => h) (.inr ⟨by rfl, rfl⟩) (by assumption) ?_
        try simp only [List.getElem_toArray, List.getElem_cons_zero, List.getElem_cons_succ, Act.put, List.setIfInBounds_toArray, List.set_cons_zero, List.set_cons_succ]
        refine wpAnyH_take (i := 26) (v := undef) rfl (by kernel_rfl) (by kernel_rfl) (by kernel_rfl) (fun _ _ _ h => h) (.inr ⟨by rfl, rfl⟩) (by assumption) ?_
        try simp only [List.getElem_toArray, List.getElem_cons_zero, List.getElem_cons_succ, Act.put, List.setIfInBounds_toArray, List.set_cons_zero, List.set_cons_succ]
        refine wpAnyH_take (i := 27) (v := .bool true) rfl (by kernel_rfl) (by kernel_rfl) (by kernel_rfl) (fun _ _ _ h => h) (.inl ⟨by rfl, ?_⟩) (by assumption) ?_
        · intro W hW; go_simp
        try simp only [List.getElem_toArray, List.getElem_cons_zero, List.getElem_cons_succ, Act.put, List.setIfInBounds_toArray, List.set_cons_zero, List.set_cons_succ]
        refine wpAnyH_take (i := 28) (v := .bool true) rfl (by kernel_rfl) (by kernel_rfl) (by kernel_rfl) (fun _ _ _ h => h) (.inl ⟨by rfl, ?_⟩) (by assumption) ?_
        · intro W hW; go_simp
        try simp only [List.getElem_toArray, List.getElem_cons_zero, List.getElem_cons_succ, Act.put, List.setIfInBounds_toArray, List.set_cons_zero, List.set_cons_succ]
        refine wpAnyH_take (i := 29) (v := undef) rfl (by kernel_rfl) (by kernel_rfl) (by kernel_rfl) (fun _ _ _ h => h) (.inr ⟨by rfl, rfl⟩) (by assumption) ?_
        try simp only [List.getElem_toArray, List.getElem_cons_zero, List.getElem_cons_succ, Act.put, List.setIfInBounds_toArray, List.set_cons_zero, List.set_cons_succ]
        refine wpAnyH_take (i := 30) (v := undef) rfl (by kernel_rfl) (by kernel_rfl) (by kernel_rfl) (fun _ _ _ h => h) (.inr ⟨by rfl, rfl⟩) (by assumption) ?_
        try simp only [List.getElem_toArray, List.getElem_cons_zero, List.getElem_cons_succ, Act.put, List.setIfInBounds_toArray, List.set_cons_zero, List.set_cons_succ]
        refine wpAnyH_take (i := 31) (v := undef) rfl (by kernel_rfl) (by kernel_rfl) (by kernel_rfl) (fun _ _ _ h => h) (.inr ⟨by rfl, rfl⟩) (by assumption) ?_
        try simp only [List.getElem_toArray, List.getElem_cons_zero, List.getElem_cons_succ, Act.put, List.setIfInBounds_toArray, List.set_cons_zero, List.set_cons_succ]
        refine wpAnyH_take (i := 32) (v := .bool true) rfl (by kernel_rfl) (by kernel_rfl) (by kernel_rfl) (fun _ _ _ h => h) (.inl ⟨by rfl, ?_⟩) (by assumption) ?_
        · intro W hW; go_simp
        try simp only [List.getElem_toArray, List.getElem_cons_zero, List.getElem_cons_succ, Act.put, List.setIfInBounds_toArray, List.set_cons_zero, List.set_cons_succ]
        refine wpAnyH_take (i := 33) (v := .bool true) rfl (by kernel_rfl) (by kernel_rfl) (by kernel_rfl) (fun _ _ _ h => h) (.inl ⟨by rfl, ?_⟩) (by assumption) ?_
        · intro W hW; go_simp
        try simp only [List.getElem_toArray, List.getElem_cons_zero, List.getElem_cons_succ, Act.put, List.setIfInBounds_toArray, List.set_cons_zero, List.set_cons_succ]
        refine wpAnyH_take (i := 34) (v := undef) rfl (by kernel_rfl) (by kernel_rfl) (by kernel_rfl) (fun _ _ _ h => h) (.inr ⟨by rfl, rfl⟩) (by assumption) ?_
        try simp only [List.getElem_toArray, List.getElem_cons_zero, List.getElem_cons_succ, Act.put, List.setIfInBounds_toArray, List.set_cons_zero, List.set_cons_succ]
        refine wpAnyH_take (i := 35) (v := undef) rfl (by kernel_rfl) (by kernel_rfl) (by kernel_rfl) (fun _ _ _ h => h) (.inr ⟨by rfl, rfl⟩) (by assumption) ?_
        try simp only [List.getElem_toArray, List.getElem_cons_zero, List.getElem_cons_succ, Act.put, List.setIfInBounds_toArray, List.set_cons_zero, List.set_cons_succ]
        refine wpAnyH_take (i := 36) (v := undef) rfl (by kernel_rfl) (by kernel_rfl) (by kernel_rfl) (fun _ _ _ h => h) (.inr ⟨by rfl, rfl⟩) (by assumption) ?_
        try simp only [List.getElem_toArray, List.getElem_cons_zero, List.getElem_cons_succ, Act.put, List.setIfInBounds_toArray, List.set_cons_zero, List.set_cons_succ]
        refine wpAnyH_take (i := 37) (v := .bool true) rfl (by kernel_rfl) (by kernel_rfl) (by kernel_rfl) (fun _ _ _ h => h) (.inl ⟨by rfl, ?_⟩) (by assumption) ?_
        · intro W hW; go_simp
        try simp only [List.getElem_toArray, List.getElem_cons_zero, List.getElem_cons_succ, Act.put, List.setIfInBounds_toArray, List.set_cons_zero, List.set_cons_succ]
        refine wpAnyH_done (by decide +kernel) ?_ _
        have HBX := Lib.hid (HBD.out.trans (hH.mono HBD.out.size))
        clear hH
        go_wp2_with fail
        go_ret3
        exact toldS_bad EE.out (by decide) HBX.out
      have e_t0 : (d.ac == 0) = false := by simp [t0]
      refine wpAnyH_take (i := 2) (v := .bool false) rfl (by kernel_rfl) (by kernel_rfl) (by kernel_rfl) (fun _ _ _ h => h) (.inl ⟨by rfl, ?_⟩) (by assumption) ?_
      · intro W hW; go_simp
      try simp only [List.getElem_toArray, List.getElem_cons_zero, List.getElem_cons_succ, Act.put, List.setIfInBounds_toArray, List.set_cons_zero, List.set_cons_succ]
      refine wpAnyH_take (i := 3) (v := .bool false) rfl (by kernel_rfl) (by kernel_rfl) (by kernel_rfl) (fun _ _ _ h => h) (.inl ⟨by rfl, ?_⟩) (by assumption) ?_
      · intro W hW; go_simp
      try simp only [List.getElem_toArray, List.getElem_cons_zero, List.getElem_cons_succ, Act.put, List.setIfInBounds_toArray, List.set_cons_zero, List.set_cons_succ]
      refine wpAnyH_take (i := 4) (v := .int .i64 k) rfl (by kernel_rfl) (by kernel_rfl) (by kernel_rfl) (fun _ _ _ h => h) (.inl ⟨by rfl, ?_⟩) (by assumption) ?_
      · intro W hW; go_simp
      try simp only [List.getElem_toArray, List.getElem_cons_zero, List.getElem_cons_succ, Act.put, List.setIfInBounds_toArray, List.set_cons_zero, List.set_cons_succ]
      rcases PK.out with ⟨ek, ep⟩ | ⟨m, p, ek, hm, ep⟩
      · have e_k : decide (0 < (k : Int)) = false := decide_eq_false (by omega)
        have e_k2 : decide (0 < k) = false := decide_eq_false (by omega)
        clear PK
        refine wpAnyH_take (i := 5) (v := .bool false) rfl (by kernel_rfl) (by kernel_rfl) (by kernel_rfl) (fun _ _ _ h => h) (.inl ⟨by rfl, ?_⟩) (by assumption) ?_
        · intro W hW; go_simp
        try simp only [List.getElem_toArray, List.getElem_cons_zero, List.getElem_cons_succ, Act.put, List.setIfInBounds_toArray, List.set_cons_zero, List.set_cons_succ]
        refine wpAnyH_take (i := 6) (v := .bool false) rfl (by kernel_rfl) (by kernel_rfl) (by kernel_rfl) (fun _ _ _ h => h) (.inl ⟨by rfl, ?_⟩) (by assumption) ?_
        · intro W hW; go_simp
        try simp only [List.getElem_toArray, List.getElem_cons_zero, List.getElem_cons_succ, Act.put, List.setIfInBounds_toArray, List.set_cons_zero, List.set_cons_succ]
        refine wpAnyH_take (i := 7) (v := undef) rfl (by kernel_rfl) (by kernel_rfl) (by kernel_rfl) (fun _ _ _ h => h) (.inr ⟨by rfl, rfl⟩) (by assumption) ?_
        try simp only [List.getElem_toArray, List.getElem_cons_zero, List.getElem_cons_succ, Act.put, List.setIfInBounds_toArray, List.set_cons_zero, List.set_cons_succ]
        refine wpAnyH_take (i := 8) (v := undef) rfl (by kernel_rfl) (by kernel_rfl) (by kernel_rfl) (fun _ _ _ h => h) (.inr ⟨by rfl, rfl⟩) (by assumption) ?_
        try simp only [List.getElem_toArray, List.getElem_cons_zero, List.getElem_cons_succ, Act.put, List.setIfInBounds_toArray, List.set_cons_zero, List.set_cons_succ]
        refine wpAnyH_take (i := 9) (v := undef) rfl (by kernel_rfl) (by kernel_rfl) (by kernel_rfl) (fun _ _ _ h => h) (.inr ⟨by rfl, rfl⟩) (by assumption) ?_
        try simp only [List.getElem_toArray, List.getElem_cons_zero, List.getElem_cons_succ, Act.put, List.setIfInBounds_toArray, List.set_cons_zero, List.set_cons_succ]
        refine wpAnyH_take (i := 10) (v := undef) rfl (by kernel_rfl) (by kernel_rfl) (by kernel_rfl) (fun _ _ _ h => h) (.inr ⟨by rfl, rfl⟩) (by assumption) ?_
        try simp only [List.getElem_toArray, List.getElem_cons_zero, List.getElem_cons_succ, Act.put, List.setIfInBounds_toArray, List.set_cons_zero, List.set_cons_succ]
        refine wpAnyH_take (i := 11) (v := undef) rfl (by kernel_rfl) (by kernel_rfl) (by kernel_rfl) (fun _ _ _ h => h) (.inr ⟨by rfl, rfl⟩) (by assumption) ?_
        try simp only [List.getElem_toArray, List.getElem_cons_zero, List.getElem_cons_succ, Act.put, List.setIfInBounds_toArray, List.set_cons_zero, List.set_cons_succ]
        refine wpAnyH_take (i := 12) (v := undef) rfl (by kernel_rfl) (by kernel_rfl) (by kernel_rfl) (fun _ _ _ h => h) (.inr ⟨by rfl, rfl⟩) (by assumption) ?_
        try simp only [List.getElem_toArray, List.getElem_cons_zero, List.getElem_cons_succ, Act.put, List.setIfInBounds_toArray, List.set_cons_zero, List.set_cons_succ]
        refine wpAnyH_take (i := 13) (v := undef) rfl (by kernel_rfl) (by kernel_rfl) (by kernel_rfl) (fun _ _ _ h => h) (.inr ⟨by rfl, rfl⟩) (by assumption) ?_
        try simp only [List.getElem_toArray, List.getElem_cons_zero, List.getElem_cons_succ, Act.put, List.setIfInBounds_toArray, List.set_cons_zero, List.set_cons_succ]
        refine wpAnyH_take (i := 14) (v := undef) rfl (by kernel_rfl) (by kernel_rfl) (by kernel_rfl) (fun _ _ _ h => h) (.inr ⟨by rfl, rfl⟩) (by assumption) ?_
        try simp only [List.getElem_toArray, List.getElem_cons_zero, List.getElem_cons_succ, Act.put, List.setIfInBounds_toArray, List.set_cons_zero, List.set_cons_succ]
        refine wpAnyH_take (i := 15) (v := undef) rfl (by kernel_rfl) (by kernel_rfl) (by kernel_rfl) (fun _ _ _ h => h) (.inr ⟨by rfl, rfl⟩) (by assumption) ?_
        try simp only [List.getElem_toArray, List.getElem_cons_zero, List.getElem_cons_succ, Act.put, List.setIfInBounds_toArray, List.set_cons_zero, List.set_cons_succ]
        refine wpAnyH_take (i := 16) (v := .bool false) rfl (by kernel_rfl) (by kernel_rfl) (by kernel_rfl) (fun _ _ _ h => h) (.inl ⟨by rfl, ?_⟩) (by assumption) ?_
        · intro W hW; go_simp
        try simp only [List.getElem_toArray, List.getElem_cons_zero, List.getElem_cons_succ, Act.put, List.setIfInBounds_toArray, List.set_cons_zero, List.set_cons_succ]
        refine wpAnyH_take (i := 17) (v := .bool false) rfl (by kernel_rfl) (by kernel_rfl) (by kernel_rfl) (fun _ _ _ h => h) (.inl ⟨by rfl, ?_⟩) (by assumption) ?_
        · intro W hW; go_simp
        try simp only [List.getElem_toArray, List.getElem_cons_zero, List.getElem_cons_succ, Act.put, List.setIfInBounds_toArray, List.set_cons_zero, List.set_cons_succ]
        refine wpAnyH_take (i := 18) (v := .bool false) rfl (by kernel_rfl) (by kernel_rfl) (by kernel_rfl) (fun _ _ _ h => h) (.inl ⟨by rfl, ?_⟩) (by assumption) ?_
        · intro W hW; go_simp
        try simp only [List.getElem_toArray, List.getElem_cons_zero, List.getElem_cons_succ, Act.put, List.setIfInBounds_toArray, List.set_cons_zero, List.set_cons_succ]
        refine wpAnyH_take (i := 19) (v := .pointer (some ⟨gd, 1, none⟩)) rfl (by kernel_rfl) (by kernel_rfl) (by kernel_rfl) (fun _ _ _ h => h) (.inl ⟨by rfl, ?_⟩) (by assumption) ?_
        · intro W hW; go_simp
        try simp only [List.getElem_toArray, List.getElem_cons_zero, List.getElem_cons_succ, Act.put, List.setIfInBounds_toArray, List.set_cons_zero, List.set_cons_succ]
        refine wpAnyH_take (i := 20) (v := .int .i64 d.ca) rfl (by kernel_rfl) (by kernel_rfl) (by kernel_rfl) (fun _ _ _ h => h) (.inl ⟨by rfl, ?_⟩) (by assumption) ?_
        · intro W hW; have cc := C1.out W hW; go_simp
        try simp only [List.getElem_toArray, List.getElem_cons_zero, List.getElem_cons_succ, Act.put, List.setIfInBounds_toArray, List.set_cons_zero, List.set_cons_succ]
        by_cases t2 : d.ca < 0
        · have e_t2 : decide (d.ca < 0) = true := decide_eq_true t2
          have EE := Lib.hid (BAD.out (decide_eq_false fun h => by omega))
          refine wpAnyH_take (i := 21) (v := .bool true) rfl (by kernel_rfl) (by kernel_rfl) (by kernel_rfl) (fun _ _ _ h => h) (.inl ⟨by rfl, ?_⟩) (by assumption) ?_
          · intro W hW; go_simp
          try simp only [List.getElem_toArray, List.getElem_cons_zero, List.getElem_cons_succ, Act.put, List.setIfInBounds_toArray, List.set_cons_zero, List.set_cons_succ]
          refine wpAnyH_take (i := 22) (v := .bool true) rfl (by kernel_rfl) (by kernel_rfl) (by kernel_rfl) (fun _ _ _ h => h) (.inl ⟨by rfl, ?_⟩) (by assumption) ?_
          · intro W hW; go_simp
          try simp only [List.getElem_toArray, List.getElem_cons_zero, List.getElem_cons_succ, Act.put, List.setIfInBounds_toArray, List.set_cons_zero, List.set_cons_succ]
          refine wpAnyH_take (i := 23) (v := .bool true) rfl (by kernel_rfl) (by kernel_rfl) (by kernel_rfl) (fun _ _ _ h => h) (.inl ⟨by rfl, ?_⟩) (by assumption) ?_
          · intro W hW; go_simp
          try simp only [List.getElem_toArray, List.getElem_cons_zero, List.getElem_cons_succ, Act.put, List.setIfInBounds_toArray, List.set_cons_zero, List.set_cons_succ]
          refine wpAnyH_take (i := 24) (v := undef) rfl (by kernel_rfl) (by kernel_rfl) (by kernel_rfl) (fun _ _ _ h => h) (.inr ⟨by rfl, rfl⟩) (by assumption) ?_
          try simp only [List.getElem_toArray, List.getElem_cons_zero, List.getElem_cons_succ, Act.put, List.setIfInBounds_toArray, List.set_cons_zero, List.set_cons_succ]
          refine wpAnyH_take (i := 25) (v := undef) rfl (by kernel_rfl) (by kernel_rfl) (by kernel_rfl) (fun _ _ _ h => h) (.inr ⟨by rfl, rfl⟩) (by assumption) ?_
          try simp only [List.getElem_toArray, List.getElem_cons_zero, List.getElem_cons_succ, Act.put, List.setIfInBounds_toArray, List.set_cons_zero, List.set_cons_succ]
          refine wpAnyH_take (i := 26) (v := undef) rfl (by kernel_rfl) (by kernel_rfl) (by kernel_rfl) (fun _ _ _ h => h) (.inr ⟨by rfl, rfl⟩) (by assumption) ?_
          try simp only [List.getElem_toArray, List.getElem_cons_zero, List.getElem_cons_succ, Act.put, List.setIfInBounds_toArray, List.set_cons_zero, List.set_cons_succ]
          refine wpAnyH_take (i := 27) (v := .bool true) rfl (by kernel_rfl) (by kernel_rfl) (by kernel_rfl) (fun _ _ _ h => h) (.inl ⟨by rfl, ?_⟩) (by assumption) ?_
          · intro W hW; go_simp
          try simp only [List.getElem_toArray, List.getElem_cons_zero, List.getElem_cons_succ, Act.put, List.setIfInBounds_toArray, List.set_cons_zero, List.set_cons_succ]
          refine wpAnyH_take (i := 28) (v := .bool true) rfl (by kernel_rfl) (by kernel_rfl) (by kernel_rfl) (fun _ _ _ h => h) (.inl ⟨by rfl, ?_⟩) (by assumption) ?_
          · intro W hW; go_simp
          try simp only [List.getElem_toArray, List.getElem_cons_zero, List.getElem_cons_succ, Act.put, List.setIfInBounds_toArray, List.set_cons_zero, List.set_cons_succ]
          refine wpAnyH_take (i := 29) (v := undef) rfl (by kernel_rfl) (by kernel_rfl) (by kernel_rfl) (fun _ _ _ h => h) (.inr ⟨by rfl, rfl⟩) (by assumption) ?_
          try simp only [List.getElem_toArray, List.getElem_cons_zero, List.getElem_cons_succ, Act.put, List.setIfInBounds_toArray, List.set_cons_zero, List.set_cons_succ]
          refine wpAnyH_take (i := 30) (v := undef) rfl (by kernel_rfl) (by kernel_rfl) (by kernel_rfl) (fun _ _ _ h => h) (.inr ⟨by rfl, rfl⟩) (by assumption) ?_
          try simp only [List.getElem_toArray, List.getElem_cons_zero, List.getElem_cons_succ, Act.put, List.setIfInBounds_toArray, List.set_cons_zero, List.set_cons_succ]
          refine wpAnyH_take (i := 31) (v := undef) rfl (by kernel_rfl) (by kernel_rfl) (by kernel_rfl) (fun _ _ _ h => h) (.inr ⟨by rfl, rfl⟩) (by assumption) ?_
          try simp only [List.getElem_toArray, List.getElem_cons_zero, List.getElem_cons_succ, Act.put, List.setIfInBounds_toArray, List.set_cons_zero, List.set_cons_succ]
          refine wpAnyH_take (i := 32) (v := .bool true) rfl (by kernel_rfl) (by kernel_rfl) (by kernel_rfl) (fun _ _ _ h => h) (.inl ⟨by rfl, ?_⟩) (by assumption) ?_
          · intro W hW; go_simp
          try simp only [List.getElem_toArray, List.getElem_cons_zero, List.getElem_cons_succ, Act.put, List.setIfInBounds_toArray, List.set_cons_zero, List.set_cons_succ]
          refine wpAnyH_take (i := 33) (v := .bool true) rfl (by kernel_rfl) (by kernel_rfl) (by kernel_rfl) (fun _ _ _ h => h) (.inl ⟨by rfl, ?_⟩) (by assumption) ?_
          · intro W hW; go_simp
          try simp only [List.getElem_toArray, List.getElem_cons_zero, List.getElem_cons_succ, Act.put, List.setIfInBounds_toArray, List.set_cons_zero, List.set_cons_succ]
          refine wpAnyH_take (i := 34) (v := undef) rfl (by kernel_rfl) (by kernel_rfl) (by kernel_rfl) (fun _ _ _ h => h) (.inr ⟨by rfl, rfl⟩) (by assumption) ?_
          try simp only [List.getElem_toArray, List.getElem_cons_zero, List.getElem_cons_succ, Act.put, List.setIfInBounds_toArray, List.set_cons_zero, List.set_cons_succ]
          refine wpAnyH_take (i := 35) (v := undef) rfl (by kernel_rfl) (by kernel_rfl) (by kernel_rfl) (fun _ _ _ h => h) (.inr ⟨by rfl, rfl⟩) (by assumption) ?_
          try simp only [List.getElem_toArray, List.getElem_cons_zero, List.getElem_cons_succ, Act.put, List.setIfInBounds_toArray, List.set_cons_zero, List.set_cons_succ]
          refine wpAnyH_take (i := 36) (v := undef) rfl (by kernel_rfl) (by kernel_rfl) (by kernel_rfl) (fun _ _ _ h => h) (.inr ⟨by rfl, rfl⟩) (by assumption) ?_
          try simp only [List.getElem_toArray, List.getElem_cons_zero, List.getElem_cons_succ, Act.put, List.setIfInBounds_toArray, List.set_cons_zero, List.set_cons_succ]
          refine wpAnyH_take (i := 37) (v := .bool true) rfl (by kernel_rfl) (by kernel_rfl) (by kernel_rfl) (fun _ _ _ h => h) (.inl ⟨by rfl, ?_⟩) (by assumption) ?_
          · intro W hW; go_simp
          try simp only [List.getElem_toArray, List.getElem_cons_zero, List.getElem_cons_succ, Act.put, List.setIfInBounds_toArray, List.set_cons_zero, List.set_cons_succ]
          refine wpAnyH_done (by decide +kernel) ?_ _
          have HBX := Lib.hid (HBD.out.trans (hH.mono HBD.out.size))
          clear hH
          go_wp2_with fail
          go_ret3
          exact toldS_bad EE.out (by decide) HBX.out
        have e_t2 : decide (d.ca < 0) = false := decide_eq_false t2
        refine wpAnyH_take (i := 21) (v := .bool false) rfl (by kernel_rfl) (by kernel_rfl) (by kernel_rfl) (fun _ _ _ h => h) (.inl ⟨by rfl, ?_⟩) (by assumption) ?_
        · intro W hW; go_simp
        try simp only [List.getElem_toArray, List.getElem_cons_zero, List.getElem_cons_succ, Act.put, List.setIfInBounds_toArray, List.set_cons_zero, List.set_cons_succ]
        refine wpAnyH_take (i := 22) (v := .bool false) rfl (by kernel_rfl) (by kernel_rfl) (by kernel_rfl) (fun _ _ _ h => h) (.inl ⟨by rfl, ?_⟩) (by assumption) ?_
        · intro W hW; go_simp
        try simp only [List.getElem_toArray, List.getElem_cons_zero, List.getElem_cons_succ, Act.put, List.setIfInBounds_toArray, List.set_cons_zero, List.set_cons_succ]
        refine wpAnyH_take (i := 23) (v := .bool false) rfl (by kernel_rfl) (by kernel_rfl) (by kernel_rfl) (fun _ _ _ h => h) (.inl ⟨by rfl, ?_⟩) (by assumption) ?_
        · intro W hW; go_simp
        try simp only [List.getElem_toArray, List.getElem_cons_zero, List.getElem_cons_succ, Act.put, List.setIfInBounds_toArray, List.set_cons_zero, List.set_cons_succ]
        refine wpAnyH_take (i := 24) (v := .pointer (some ⟨gd, 1, none⟩)) rfl (by kernel_rfl) (by kernel_rfl) (by kernel_rfl) (fun _ _ _ h => h) (.inl ⟨by rfl, ?_⟩) (by assumption) ?_
        · intro W hW; go_simp
        try simp only [List.getElem_toArray, List.getElem_cons_zero, List.getElem_cons_succ, Act.put, List.setIfInBounds_toArray, List.set_cons_zero, List.set_cons_succ]
        refine wpAnyH_take (i := 25) (v := .int .i64 d.ca) rfl (by kernel_rfl) (by kernel_rfl) (by kernel_rfl) (fun _ _ _ h => h) (.inl ⟨by rfl, ?_⟩) (by assumption) ?_
        · intro W hW; have cc := C1.out W hW; go_simp
        try simp only [List.getElem_toArray, List.getElem_cons_zero, List.getElem_cons_succ, Act.put, List.setIfInBounds_toArray, List.set_cons_zero, List.set_cons_succ]
        by_cases t3 : 1000000000000000 < d.ca
        · have e_t3 : decide (1000000000000000 < d.ca) = true := decide_eq_true t3
          have EE := Lib.hid (BAD.out (decide_eq_false fun h => by omega))
          refine wpAnyH_take (i := 26) (v := .bool true) rfl (by kernel_rfl) (by kernel_rfl) (by kernel_rfl) (fun _ _ _ h => h) (.inl ⟨by rfl, ?_⟩) (by assumption) ?_
          · intro W hW; go_simp
          try simp only [List.getElem_toArray, List.getElem_cons_zero, List.getElem_cons_succ, Act.put, List.setIfInBounds_toArray, List.set_cons_zero, List.set_cons_succ]
          refine wpAnyH_take (i := 27) (v := .bool true) rfl (by kernel_rfl) (by kernel_rfl) (by kernel_rfl) (fun _ _ _ h => h) (.inl ⟨by rfl, ?_⟩) (by assumption) ?_
          · intro W hW; go_simp
          try simp only [List.getElem_toArray, List.getElem_cons_zero, List.getElem_cons_succ, Act.put, List.setIfInBounds_toArray, List.set_cons_zero, List.set_cons_succ]
          refine wpAnyH_take (i := 28) (v := .bool true) rfl (by kernel_rfl) (by kernel_rfl) (by kernel_rfl) (fun _ _ _ h => h) (.inl ⟨by rfl, ?_⟩) (by assumption) ?_
          · intro W hW; go_simp
          try simp only [List.getElem_toArray, List.getElem_cons_zero, List.getElem_cons_succ, Act.put, List.setIfInBounds_toArray, List.set_cons_zero, List.set_cons_succ]
          refine wpAnyH_take (i := 29) (v := undef) rfl (by kernel_rfl) (by kernel_rfl) (by kernel_rfl) (fun _ _ _ h => h) (.inr ⟨by rfl, rfl⟩) (by assumption) ?_
          try simp only [List.getElem_toArray, List.getElem_cons_zero, List.getElem_cons_succ, Act.put, List.setIfInBounds_toArray, List.set_cons_zero, List.set_cons_succ]
          refine wpAnyH_take (i := 30) (v := undef) rfl (by kernel_rfl) (by kernel_rfl) (by kernel_rfl) (fun _ _ _ h => h) (.inr ⟨by rfl, rfl⟩) (by assumption) ?_
          try simp only [List.getElem_toArray, List.getElem_cons_zero, List.getElem_cons_succ, Act.put, List.setIfInBounds_toArray, List.set_cons_zero, List.set_cons_succ]
          refine wpAnyH_take (i := 31) (v := undef) rfl (by kernel_rfl) (by kernel_rfl) (by kernel_rfl) (fun _ _ _ h => h) (.inr ⟨by rfl, rfl⟩) (by assumption) ?_
          try simp only [List.getElem_toArray, List.getElem_cons_zero, List.getElem_cons_succ, Act.put, List.setIfInBounds_toArray, List.set_cons_zero, List.set_cons_succ]
          refine wpAnyH_take (i := 32) (v := .bool true) rfl (by kernel_rfl) (by kernel_rfl) (by kernel_rfl) (fun _ _ _ h => h) (.inl ⟨by rfl, ?_⟩) (by assumption) ?_
          · intro W hW; go_simp
          try simp only [List.getElem_toArray, List.getElem_cons_zero, List.getElem_cons_succ, Act.put, List.setIfInBounds_toArray, List.set_cons_zero, List.set_cons_succ]
          refine wpAnyH_take (i := 33) (v := .bool true) rfl (by kernel_rfl) (by kernel_rfl) (by kernel_rfl) (fun _ _ _ h => h) (.inl ⟨by rfl, ?_⟩) (by assumption) ?_
          · intro W hW; go_simp
          try simp only [List.getElem_toArray, List.getElem_cons_zero, List.getElem_cons_succ, Act.put, List.setIfInBounds_toArray, List.set_cons_zero, List.set_cons_succ]
          refine wpAnyH_take (i := 34) (v := undef) rfl (by kernel_rfl) (by kernel_rfl) (by kernel_rfl) (fun _ _ _ h => h) (.inr ⟨by rfl, rfl⟩) (by assumption) ?_
          try simp only [List.getElem_toArray, List.getElem_cons_zero, List.getElem_cons_succ, Act.put, List.setIfInBounds_toArray, List.set_cons_zero, List.set_cons_succ]
          refine wpAnyH_take (i := 35) (v := undef) rfl (by kernel_rfl) (by kernel_rfl) (by kernel_rfl) (fun _ _ _ h => h) (.inr ⟨by rfl, rfl⟩) (by assumption) ?_
          try simp only [List.getElem_toArray, List.getElem_cons_zero, List.getElem_cons_succ, Act.put, List.setIfInBounds_toArray, List.set_cons_zero, List.set_cons_succ]
          refine wpAnyH_take (i := 36) (v := undef) rfl (by kernel_rfl) (by kernel_rfl) (by kernel_rfl) (fun _ _ _ h => h) (.inr ⟨by rfl, rfl⟩) (by assumption) ?_
          try simp only [List.getElem_toArray, List.getElem_cons_zero, List.getElem_cons_succ, Act.put, List.setIfInBounds_toArray, List.set_cons_zero, List.set_cons_succ]
          refine wpAnyH_take (i := 37) (v := .bool true) rfl (by kernel_rfl) (by kernel_rfl) (by kernel_rfl) (fun _ _ _ h => h) (.inl ⟨by rfl, ?_⟩) (by assumption) ?_
          · intro W hW; go_simp
          try simp only [List.getElem_toArray, List.getElem_cons_zero, List.getElem_cons_succ, Act.put, List.setIfInBounds_toArray, List.set_cons_zero, List.set_cons_succ]
          refine wpAnyH_done (by decide +kernel) ?_ _
          have HBX := Lib.hid (HBD.out.trans (hH.mono HBD.out.size))
          clear hH
          go_wp2_with fail
          go_ret3
          exact toldS_bad EE.out (by decide) HBX.out
        have e_t3 : decide (1000000000000000 < d.ca) = false := decide_eq_false t3
        refine wpAnyH_take (i := 26) (v := .bool false) rfl (by kernel_rfl) (by kernel_rfl) (by kernel_rfl) (fun _ _ _ h => h) (.inl ⟨by rfl, ?_⟩) (by assumption) ?_
        · intro W hW; go_simp
        try simp only [List.getElem_toArray, List.getElem_cons_zero, List.getElem_cons_succ, Act.put, List.setIfInBounds_toArray, List.set_cons_zero, List.set_cons_succ]
        refine wpAnyH_take (i := 27) (v := .bool false) rfl (by kernel_rfl) (by kernel_rfl) (by kernel_rfl) (fun _ _ _ h => h) (.inl ⟨by rfl, ?_⟩) (by assumption) ?_
        · intro W hW; go_simp
        try simp only [List.getElem_toArray, List.getElem_cons_zero, List.getElem_cons_succ, Act.put, List.setIfInBounds_toArray, List.set_cons_zero, List.set_cons_succ]
        refine wpAnyH_take (i := 28) (v := .bool false) rfl (by kernel_rfl) (by kernel_rfl) (by kernel_rfl) (fun _ _ _ h => h) (.inl ⟨by rfl, ?_⟩) (by assumption) ?_
        · intro W hW; go_simp
        try simp only [List.getElem_toArray, List.getElem_cons_zero, List.getElem_cons_succ, Act.put, List.setIfInBounds_toArray, List.set_cons_zero, List.set_cons_succ]
        refine wpAnyH_take (i := 29) (v := .pointer (some ⟨gd, 2, none⟩)) rfl (by kernel_rfl) (by kernel_rfl) (by kernel_rfl) (fun _ _ _ h => h) (.inl ⟨by rfl, ?_⟩) (by assumption) ?_
        · intro W hW; go_simp
        try simp only [List.getElem_toArray, List.getElem_cons_zero, List.getElem_cons_succ, Act.put, List.setIfInBounds_toArray, List.set_cons_zero, List.set_cons_succ]
        refine wpAnyH_take (i := 30) (v := .int .i64 d.v) rfl (by kernel_rfl) (by kernel_rfl) (by kernel_rfl) (fun _ _ _ h => h) (.inl ⟨by rfl, ?_⟩) (by assumption) ?_
        · intro W hW; have cc := C2.out W hW; go_simp
        try simp only [List.getElem_toArray, List.getElem_cons_zero, List.getElem_cons_succ, Act.put, List.setIfInBounds_toArray, List.set_cons_zero, List.set_cons_succ]
        by_cases t4 : 100000000000000000 < d.v
        · have e_t4 : decide (100000000000000000 < d.v) = true := decide_eq_true t4
          have EE := Lib.hid (BAD.out (decide_eq_false fun h => by omega))
          refine wpAnyH_take (i := 31) (v := .bool true) rfl (by kernel_rfl) (by kernel_rfl) (by kernel_rfl) (fun _ _ _ h => h) (.inl ⟨by rfl, ?_⟩) (by assumption) ?_
          · intro W hW; go_simp
          try simp only [List.getElem_toArray, List.getElem_cons_zero, List.getElem_cons_succ, Act.put, List.setIfInBounds_toArray, List.set_cons_zero, List.set_cons_succ]
          refine wpAnyH_take (i := 32) (v := .bool true) rfl (by kernel_rfl) (by kernel_rfl) (by kernel_rfl) (fun _ _ _ h => h) (.inl ⟨by rfl, ?_⟩) (by assumption) ?_
          · intro W hW; go_simp
          try simp only [List.getElem_toArray, List.getElem_cons_zero, List.getElem_cons_succ, Act.put, List.setIfInBounds_toArray, List.set_cons_zero, List.set_cons_succ]
          refine wpAnyH_take (i := 33) (v := .bool true) rfl (by kernel_rfl) (by kernel_rfl) (by kernel_rfl) (fun _ _ _ h => h) (.inl ⟨by rfl, ?_⟩) (by assumption) ?_
          · intro W hW; go_simp
          try simp only [List.getElem_toArray, List.getElem_cons_zero, List.getElem_cons_succ, Act.put, List.setIfInBounds_toArray, List.set_cons_zero, List.set_cons_succ]
          refine wpAnyH_take (i := 34) (v := undef) rfl (by kernel_rfl) (by kernel_rfl) (by kernel_rfl) (fun _ _ _ h => h) (.inr ⟨by rfl, rfl⟩) (by assumption) ?_
          try simp only [List.getElem_toArray, List.getElem_cons_zero, List.getElem_cons_succ, Act.put, List.setIfInBounds_toArray, List.set_cons_zero, List.set_cons_succ]
          refine wpAnyH_take (i := 35) (v := undef) rfl (by kernel_rfl) (by kernel_rfl) (by kernel_rfl) (fun _ _ _ h => h) (.inr ⟨by rfl, rfl⟩) (by assumption) ?_
          try simp only [List.getElem_toArray, List.getElem_cons_zero, List.getElem_cons_succ, Act.put, List.setIfInBounds_toArray, List.set_cons_zero, List.set_cons_succ]
          refine wpAnyH_take (i := 36) (v := undef) rfl (by kernel_rfl) (by kernel_rfl) (by kernel_rfl) (fun _ _ _ h => h) (.inr ⟨by rfl, rfl⟩) (by assumption) ?_
          try simp only [List.getElem_toArray, List.getElem_cons_zero, List.getElem_cons_succ, Act.put, List.setIfInBounds_toArray, List.set_cons_zero, List.set_cons_succ]
          refine wpAnyH_take (i := 37) (v := .bool true) rfl (by kernel_rfl) (by kernel_rfl) (by kernel_rfl) (fun _ _ _ h => h) (.inl ⟨by rfl, ?_⟩) (by assumption) ?_
          · intro W hW; go_simp
          try simp only [List.getElem_toArray, List.getElem_cons_zero, List.getElem_cons_succ, Act.put, List.setIfInBounds_toArray, List.set_cons_zero, List.set_cons_succ]
          refine wpAnyH_done (by decide +kernel) ?_ _
          have HBX := Lib.hid (HBD.out.trans (hH.mono HBD.out.size))
          clear hH
          go_wp2_with fail
          go_ret3
          exact toldS_bad EE.out (by decide) HBX.out
        have e_t4 : decide (100000000000000000 < d.v) = false := decide_eq_false t4
        refine wpAnyH_take (i := 31) (v := .bool false) rfl (by kernel_rfl) (by kernel_rfl) (by kernel_rfl) (fun _ _ _ h => h) (.inl ⟨by rfl, ?_⟩) (by assumption) ?_
        · intro W hW; go_simp
        try simp only [List.getElem_toArray, List.getElem_cons_zero, List.getElem_cons_succ, Act.put, List.setIfInBounds_toArray, List.set_cons_zero, List.set_cons_succ]
        refine wpAnyH_take (i := 32) (v := .bool false) rfl (by kernel_rfl) (by kernel_rfl) (by kernel_rfl) (fun _ _ _ h => h) (.inl ⟨by rfl, ?_⟩) (by assumption) ?_
        · intro W hW; go_simp
        try simp only [List.getElem_toArray, List.getElem_cons_zero, List.getElem_cons_succ, Act.put, List.setIfInBounds_toArray, List.set_cons_zero, List.set_cons_succ]
        refine wpAnyH_take (i := 33) (v := .bool false) rfl (by kernel_rfl) (by kernel_rfl) (by kernel_rfl) (fun _ _ _ h => h) (.inl ⟨by rfl, ?_⟩) (by assumption) ?_
        · intro W hW; go_simp
        try simp only [List.getElem_toArray, List.getElem_cons_zero, List.getElem_cons_succ, Act.put, List.setIfInBounds_toArray, List.set_cons_zero, List.set_cons_succ]
        refine wpAnyH_take (i := 34) (v := .pointer (some ⟨gd, 2, none⟩)) rfl (by kernel_rfl) (by kernel_rfl) (by kernel_rfl) (fun _ _ _ h => h) (.inl ⟨by rfl, ?_⟩) (by assumption) ?_
        · intro W hW; go_simp
        try simp only [List.getElem_toArray, List.getElem_cons_zero, List.getElem_cons_succ, Act.put, List.setIfInBounds_toArray, List.set_cons_zero, List.set_cons_succ]
        refine wpAnyH_take (i := 35) (v := .int .i64 d.v) rfl (by kernel_rfl) (by kernel_rfl) (by kernel_rfl) (fun _ _ _ h => h) (.inl ⟨by rfl, ?_⟩) (by assumption) ?_
        · intro W hW; have cc := C2.out W hW; go_simp
        try simp only [List.getElem_toArray, List.getElem_cons_zero, List.getElem_cons_succ, Act.put, List.setIfInBounds_toArray, List.set_cons_zero, List.set_cons_succ]
        by_cases t5 : d.v < -100000000000000000
        · have e_t5 : decide (d.v < -100000000000000000) = true := decide_eq_true t5
          have EE := Lib.hid (BAD.out (decide_eq_false fun h => by omega))
          refine wpAnyH_take (i := 36) (v := .bool true) rfl (by kernel_rfl) (by kernel_rfl) (by kernel_rfl) (fun _ _ _ h => h) (.inl ⟨by rfl, ?_⟩) (by assumption) ?_
          · intro W hW; go_simp
          try simp only [List.getElem_toArray, List.getElem_cons_zero, List.getElem_cons_succ, Act.put, List.setIfInBounds_toArray, List.set_cons_zero, List.set_cons_succ]
          refine wpAnyH_take (i := 37) (v := .bool true) rfl (by kernel_rfl) (by kernel_rfl) (by kernel_rfl) (fun _ _ _ h => h) (.inl ⟨by rfl, ?_⟩) (by assumption) ?_
          · intro W hW; go_simp
          try simp only [List.getElem_toArray, List.getElem_cons_zero, List.getElem_cons_succ, Act.put, List.setIfInBounds_toArray, List.set_cons_zero, List.set_cons_succ]
          refine wpAnyH_done (by decide +kernel) ?_ _
          have HBX := Lib.hid (HBD.out.trans (hH.mono HBD.out.size))
          clear hH
          go_wp2_with fail
          go_ret3
          exact toldS_bad EE.out (by decide) HBX.out
        have e_t5 : decide (d.v < -100000000000000000) = false := decide_eq_false t5
        refine wpAnyH_take (i := 36) (v := .bool false) rfl (by kernel_rfl) (by kernel_rfl) (by kernel_rfl) (fun _ _ _ h => h) (.inl ⟨by rfl, ?_⟩) (by assumption) ?_
        · intro W hW; go_simp
        try simp only [List.getElem_toArray, List.getElem_cons_zero, List.getElem_cons_succ, Act.put, List.setIfInBounds_toArray, List.set_cons_zero, List.set_cons_succ]
        refine wpAnyH_take (i := 37) (v := .bool false) rfl (by kernel_rfl) (by kernel_rfl) (by kernel_rfl) (fun _ _ _ h => h) (.inl ⟨by rfl, ?_⟩) (by assumption) ?_
        · intro W hW; go_simp
        try simp only [List.getElem_toArray, List.getElem_cons_zero, List.getElem_cons_succ, Act.put, List.setIfInBounds_toArray, List.set_cons_zero, List.set_cons_succ]
        refine wpAnyH_done (by decide +kernel) ?_ _
        have DB : Hid (dueB pa d = true) := Lib.hid (decide_eq_true (by omega))
        have HBX := Lib.hid (HBD.out.trans (hH.mono HBD.out.size))
        have RX : Hid (Row WD.drew w1.heap.size 47 (nm u (dgs N))) := Lib.hid RWD.out
        have hvb : -100000000000000000 ≤ d.v ∧ d.v ≤ 100000000000000000 := by omega
        have hm := mag_v13 hvb
        have bd := sum_size13 (x := d.v) (k := k) m1 (by omega) hm.2
        have O := Lib.hid (fun W => of_any d.v i3 W)
        have P := Lib.hid (fun W => plus_num u (decide (d.v < 0)) N (mag d.v) (100000000000000000 * ((k + 1 : Nat) : Int)) m0 hm.1 bd.1 bd.2 W)
        have e1 := sgn_mag d.v
        rw [MS.out, e1, ← SV.out] at P
        have s0 : SB13 w gd d.v WD.drew := ⟨C2.out _ (Below.refl _ _).drew, HBX.out⟩
        have S0 := Lib.hid s0
        have RIS := Lib.hid (ST.out.trans DB.out)
        clear hvb hm bd e1 s0 hH
        generalize d.v = dv at *
        go_wp2_with fail
        refine wp_region_held_drew (S := SB13 w gd dv) (by kernel_rfl) ⟨S0.out.1, S0.out.2.drew⟩ (fun hH => ?_)
        refine wpAnyH_take (i := 1) (v := .pointer (some ⟨gd, 2, none⟩)) rfl (by kernel_rfl) (by kernel_rfl) (by kernel_rfl) (fun _ _ _ h => h) (.inl ⟨by rfl, ?_⟩) (by assumption) ?_
        · intro W hW; go_simp
        try simp only [List.getElem_toArray, List.getElem_cons_zero, List.getElem_cons_succ, Act.put, List.setIfInBounds_toArray, List.set_cons_zero, List.set_cons_succ]
        refine wpAnyH_take (i := 2) (v := .int .i64 dv) rfl (by kernel_rfl) (by kernel_rfl) (by kernel_rfl) (fun _ _ _ h => h) (.inl ⟨by rfl, ?_⟩) (by assumption) ?_
        · intro W hW; have cc := hW.1; go_simp
        try simp only [List.getElem_toArray, List.getElem_cons_zero, List.getElem_cons_succ, Act.put, List.setIfInBounds_toArray, List.set_cons_zero, List.set_cons_succ]
        refine wpAnyH_ready (rs := [0, 3]) (by decide +kernel) (by simp) (AllReadyH.cons rfl (fun KQ hK => ?_) (AllReadyH.cons rfl (fun KQ hK => ?_) AllReadyH.nil))
        · rw [if_pos (by rfl)]
          refine wp_load_row 47 (.tmp 7) rfl w1.heap.size rfl 47 (nm u (dgs N)) (0, 0) _ RX.out Try.underlying47 rfl (by kernel_rfl) ?_
          refine hK.out _ _ hH (fun _ => ?_)
          clear hK
          try simp only [List.getElem_toArray, List.getElem_cons_zero, List.getElem_cons_succ, Act.put, List.setIfInBounds_toArray, List.set_cons_zero, List.set_cons_succ]
          refine wpAnyH_ready (rs := [3]) (by decide +kernel) (by simp) (AllReadyH.cons rfl (fun KQ hK => ?_) AllReadyH.nil)
          go_simp
          refine (O.out _).mono ?_; rintro e w2 ⟨rfl, q2⟩
          have s2 := hH.quiet q2
          have ra := Lib.hid ((show Row WD.drew.drew w1.heap.size 47 _ from RX.out).below q2.2 (show w1.heap.size < WD.drew.drew.heap.size from RX.out.lt))
          refine hK.out _ _ s2 (fun _ => ?_)
          clear hK
          try simp only [List.getElem_toArray, List.getElem_cons_zero, List.getElem_cons_succ, Act.put, List.setIfInBounds_toArray, List.set_cons_zero, List.set_cons_succ]
          refine wpAnyH_ready (rs := [4]) (by decide +kernel) (by simp) (AllReadyH.cons rfl (fun KQ hK => ?_) AllReadyH.nil)
          go_simp
          refine (P.out _).mono ?_; rintro e w3 ⟨⟨u', N', rfl, n0, n1, hx'⟩, q3⟩
          have s3 := s2.quiet q3
          have HN := Lib.hid (show 0 ≤ N' ∧ N' ≤ 100000000000000000 * ((k + 1 : Nat) : Int) ∧ sgn u' N' = sumV (l.take (k + 1)) from ⟨n0, n1, hx'⟩)
          clear n0 n1 hx'
          have rb := ra.out.below q3.2 ra.out.lt
          refine hK.out _ _ s3 (fun _ => ?_)
          clear hK
          try simp only [List.getElem_toArray, List.getElem_cons_zero, List.getElem_cons_succ, Act.put, List.setIfInBounds_toArray, List.set_cons_zero, List.set_cons_succ]
          refine wpAnyH_ready (rs := [5]) (by decide +kernel) (by simp) (AllReadyH.cons rfl (fun KQ hK => ?_) AllReadyH.nil)
          rw [if_pos (by rfl)]
          refine wp_store_row 47 (.tmp 7) (.tmp 82) rfl w1.heap.size (nm u' (dgs N')) rfl rfl 47 _ rb (by kernel_rfl) rfl (nm_one _ _) ?_
          have s4 := s3.setRow LT1.out (by have := GL.out; omega) (nm u' (dgs N'))
          refine hK.out _ _ s4 (fun _ => ?_)
          clear hK
          refine wpAnyH_done (by decide +kernel) ?_ _
          have RZ := Lib.hid (And.intro (rb.whole (nm u' (dgs N'))) s4.2)
          clear s4 s3 rb
          go_wp2_with fail
          go_roundw
          case rel => exact ⟨k + 1, u', N', by omega, by go_num, RZ.out.1, HN.out.1, HN.out.2.1, HN.out.2.2, RIS.out, RZ.out.2⟩
          case measure => simp [intOf]; omega
        · go_simp
          refine (O.out _).mono ?_; rintro e w2 ⟨rfl, q2⟩
          have s2 := hH.quiet q2
          have ra := Lib.hid ((show Row WD.drew.drew w1.heap.size 47 _ from RX.out).below q2.2 (show w1.heap.size < WD.drew.drew.heap.size from RX.out.lt))
          refine hK.out _ _ s2 (fun _ => ?_)
          clear hK
          try simp only [List.getElem_toArray, List.getElem_cons_zero, List.getElem_cons_succ, Act.put, List.setIfInBounds_toArray, List.set_cons_zero, List.set_cons_succ]
          refine wpAnyH_ready (rs := [0]) (by decide +kernel) (by simp) (AllReadyH.cons rfl (fun KQ hK => ?_) AllReadyH.nil)
          rw [if_pos (by rfl)]
          refine wp_load_row 47 (.tmp 7) rfl w1.heap.size rfl 47 (nm u (dgs N)) (0, 0) _ ra.out Try.underlying47 rfl (by kernel_rfl) ?_
          refine hK.out _ _ s2 (fun _ => ?_)
          clear hK
          try simp only [List.getElem_toArray, List.getElem_cons_zero, List.getElem_cons_succ, Act.put, List.setIfInBounds_toArray, List.set_cons_zero, List.set_cons_succ]
          refine wpAnyH_ready (rs := [4]) (by decide +kernel) (by simp) (AllReadyH.cons rfl (fun KQ hK => ?_) AllReadyH.nil)
          go_simp
          refine (P.out _).mono ?_; rintro e w3 ⟨⟨u', N', rfl, n0, n1, hx'⟩, q3⟩
          have s3 := s2.quiet q3
          have HN := Lib.hid (show 0 ≤ N' ∧ N' ≤ 100000000000000000 * ((k + 1 : Nat) : Int) ∧ sgn u' N' = sumV (l.take (k + 1)) from ⟨n0, n1, hx'⟩)
          clear n0 n1 hx'
          have rb := ra.out.below q3.2 ra.out.lt
          refine hK.out _ _ s3 (fun _ => ?_)
          clear hK
          try simp only [List.getElem_toArray, List.getElem_cons_zero, List.getElem_cons_succ, Act.put, List.setIfInBounds_toArray, List.set_cons_zero, List.set_cons_succ]
          refine wpAnyH_ready (rs := [5]) (by decide +kernel) (by simp) (AllReadyH.cons rfl (fun KQ hK => ?_) AllReadyH.nil)
          rw [if_pos (by rfl)]
          refine wp_store_row 47 (.tmp 7) (.tmp 82) rfl w1.heap.size (nm u' (dgs N')) rfl rfl 47 _ rb (by kernel_rfl) rfl (nm_one _ _) ?_
          have s4 := s3.setRow LT1.out (by have := GL.out; omega) (nm u' (dgs N'))
          refine hK.out _ _ s4 (fun _ => ?_)
          clear hK
          refine wpAnyH_done (by decide +kernel) ?_ _
          have RZ := Lib.hid (And.intro (rb.whole (nm u' (dgs N'))) s4.2)
          clear s4 s3 rb
          go_wp2_with fail
          go_roundw
          case rel => exact ⟨k + 1, u', N', by omega, by go_num, RZ.out.1, HN.out.1, HN.out.2.1, HN.out.2.2, RIS.out, RZ.out.2⟩
          case measure => simp [intOf]; omega
      · have e_k : decide (0 < (k : Int)) = true := decide_eq_true (by omega)
        have e_k2 : decide (0 < k) = true := decide_eq_true (by omega)
        have wi : IntKind.i64.wrap ((k : Int) - 1) = (m : Int) := by rw [IntKind.wrap_i64]; omega
        have wi2 : wrap64 ((k : Int) - 1) = (m : Int) := by unfold wrap64; omega
        have wi3 : (k : Int) - 1 = (m : Int) := by omega
        have hml : (m : Int) < (len : Int) := by omega
        have PC := Lib.hid (LR.out m p hm)
        have pb := (HK.out p (List.mem_of_getElem? hm)).ac
        clear PK
        refine wpAnyH_take (i := 5) (v := .bool true) rfl (by kernel_rfl) (by kernel_rfl) (by kernel_rfl) (fun _ _ _ h => h) (.inl ⟨by rfl, ?_⟩) (by assumption) ?_
        · intro W hW; go_simp
        try simp only [List.getElem_toArray, List.getElem_cons_zero, List.getElem_cons_succ, Act.put, List.setIfInBounds_toArray, List.set_cons_zero, List.set_cons_succ]
        refine wpAnyH_take (i := 6) (v := .bool true) rfl (by kernel_rfl) (by kernel_rfl) (by kernel_rfl) (fun _ _ _ h => h) (.inl ⟨by rfl, ?_⟩) (by assumption) ?_
        · intro W hW; go_simp
        try simp only [List.getElem_toArray, List.getElem_cons_zero, List.getElem_cons_succ, Act.put, List.setIfInBounds_toArray, List.set_cons_zero, List.set_cons_succ]
        refine wpAnyH_take (i := 7) (v := .slice (some ⟨b, o, none⟩) len cap) rfl (by kernel_rfl) (by kernel_rfl) (by kernel_rfl) (fun _ _ _ h => h) (.inl ⟨by rfl, ?_⟩) (by assumption) ?_
        · intro W hW; go_simp
        try simp only [List.getElem_toArray, List.getElem_cons_zero, List.getElem_cons_succ, Act.put, List.setIfInBounds_toArray, List.set_cons_zero, List.set_cons_succ]
        refine wpAnyH_take (i := 8) (v := .int .i64 k) rfl (by kernel_rfl) (by kernel_rfl) (by kernel_rfl) (fun _ _ _ h => h) (.inl ⟨by rfl, ?_⟩) (by assumption) ?_
        · intro W hW; go_simp
        try simp only [List.getElem_toArray, List.getElem_cons_zero, List.getElem_cons_succ, Act.put, List.setIfInBounds_toArray, List.set_cons_zero, List.set_cons_succ]
        refine wpAnyH_take (i := 9) (v := .int .i64 m) rfl (by kernel_rfl) (by kernel_rfl) (by kernel_rfl) (fun _ _ _ h => h) (.inl ⟨by rfl, ?_⟩) (by assumption) ?_
        · intro W hW; go_simp; rw [IntKind.wrap_i64]; omega
        try simp only [List.getElem_toArray, List.getElem_cons_zero, List.getElem_cons_succ, Act.put, List.setIfInBounds_toArray, List.set_cons_zero, List.set_cons_succ]
        refine wpAnyH_take (i := 10) (v := .pointer (some ⟨b, o + m * 3, none⟩)) rfl (by kernel_rfl) (by kernel_rfl) (by kernel_rfl) (fun _ _ _ h => h) (.inl ⟨by rfl, ?_⟩) (by assumption) ?_
        · intro W hW; go_simp
        try simp only [List.getElem_toArray, List.getElem_cons_zero, List.getElem_cons_succ, Act.put, List.setIfInBounds_toArray, List.set_cons_zero, List.set_cons_succ]
        refine wpAnyH_take (i := 11) (v := .pointer (some ⟨b, o + m * 3, none⟩)) rfl (by kernel_rfl) (by kernel_rfl) (by kernel_rfl) (fun _ _ _ h => h) (.inl ⟨by rfl, ?_⟩) (by assumption) ?_
        · intro W hW; go_simp
        try simp only [List.getElem_toArray, List.getElem_cons_zero, List.getElem_cons_succ, Act.put, List.setIfInBounds_toArray, List.set_cons_zero, List.set_cons_succ]
        refine wpAnyH_take (i := 12) (v := .int .u32 p.ac) rfl (by kernel_rfl) (by kernel_rfl) (by kernel_rfl) (fun _ _ _ h => h) (.inl ⟨by rfl, ?_⟩) (by assumption) ?_
        · intro W hW; have cc := PC.out W hW; go_simp
        try simp only [List.getElem_toArray, List.getElem_cons_zero, List.getElem_cons_succ, Act.put, List.setIfInBounds_toArray, List.set_cons_zero, List.set_cons_succ]
        refine wpAnyH_take (i := 13) (v := .pointer (some ⟨gd, 0, none⟩)) rfl (by kernel_rfl) (by kernel_rfl) (by kernel_rfl) (fun _ _ _ h => h) (.inl ⟨by rfl, ?_⟩) (by assumption) ?_
        · intro W hW; go_simp
        try simp only [List.getElem_toArray, List.getElem_cons_zero, List.getElem_cons_succ, Act.put, List.setIfInBounds_toArray, List.set_cons_zero, List.set_cons_succ]
        refine wpAnyH_take (i := 14) (v := .int .u32 d.ac) rfl (by kernel_rfl) (by kernel_rfl) (by kernel_rfl) (fun _ _ _ h => h) (.inl ⟨by rfl, ?_⟩) (by assumption) ?_
        · intro W hW; have cc := C0.out W hW; go_simp
        try simp only [List.getElem_toArray, List.getElem_cons_zero, List.getElem_cons_succ, Act.put, List.setIfInBounds_toArray, List.set_cons_zero, List.set_cons_succ]
        by_cases t1 : d.ac ≤ p.ac
        · have e_t1 : decide (d.ac ≤ p.ac) = true := decide_eq_true t1
          have EE := Lib.hid (BAD.out (decide_eq_false fun h => by omega))
          refine wpAnyH_take (i := 15) (v := .bool true) rfl (by kernel_rfl) (by kernel_rfl) (by kernel_rfl) (fun _ _ _ h => h) (.inl ⟨by rfl, ?_⟩) (by assumption) ?_
          · intro W hW; go_simp
          try simp only [List.getElem_toArray, List.getElem_cons_zero, List.getElem_cons_succ, Act.put, List.setIfInBounds_toArray, List.set_cons_zero, List.set_cons_succ]
          refine wpAnyH_take (i := 16) (v := .bool true) rfl (by kernel_rfl) (by kernel_rfl) (by kernel_rfl) (fun _ _ _ h => h) (.inl ⟨by rfl, ?_⟩) (by assumption) ?_
          · intro W hW; go_simp
          try simp only [List.getElem_toArray, List.getElem_cons_zero, List.getElem_cons_succ, Act.put, List.setIfInBounds_toArray, List.set_cons_zero, List.set_cons_succ]
          refine wpAnyH_take (i := 17) (v := .bool true) rfl (by kernel_rfl) (by kernel_rfl) (by kernel_rfl) (fun _ _ _ h => h) (.inl ⟨by rfl, ?_⟩) (by assumption) ?_
          · intro W hW; go_simp
          try simp only [List.getElem_toArray, List.getElem_cons_zero, List.getElem_cons_succ, Act.put, List.setIfInBounds_toArray, List.set_cons_zero, List.set_cons_succ]
          refine wpAnyH_take (i := 18) (v := .bool true) rfl (by kernel_rfl) (by kernel_rfl) (by kernel_rfl) (fun _ _ _ h => h) (.inl ⟨by rfl, ?_⟩) (by assumption) ?_
          · intro W hW; go_simp
          try simp only [List.getElem_toArray, List.getElem_cons_zero, List.getElem_cons_succ, Act.put, List.setIfInBounds_toArray, List.set_cons_zero, List.set_cons_succ]
          refine wpAnyH_take (i := 19) (v := undef) rfl (by kernel_rfl) (by kernel_rfl) (by kernel_rfl) (fun _ _ _ h => h) (.inr ⟨by rfl, rfl⟩) (by assumption) ?_
          try simp only [List.getElem_toArray, List.getElem_cons_zero, List.getElem_cons_succ, Act.put, List.setIfInBounds_toArray, List.set_cons_zero, List.set_cons_succ]
          refine wpAnyH_take (i := 20) (v := undef) rfl (by kernel_rfl) (by kernel_rfl) (by kernel_rfl) (fun _ _ _ h => h) (.inr ⟨by rfl, rfl⟩) (by assumption) ?_
          try simp only [List.getElem_toArray, List.getElem_cons_zero, List.getElem_cons_succ, Act.put, List.setIfInBounds_toArray, List.set_cons_zero, List.set_cons_succ]
          refine wpAnyH_take (i := 21) (v := undef) rfl (by kernel_rfl) (by kernel_rfl) (by kernel_rfl) (fun _ _ _ h => h) (.inr ⟨by rfl, rfl⟩) (by assumption) ?_
          try simp only [List.getElem_toArray, List.getElem_cons_zero, List.getElem_cons_succ, Act.put, List.setIfInBounds_toArray, List.set_cons_zero, List.set_cons_succ]
          refine wpAnyH_take (i := 22) (v := .bool true) rfl (by kernel_rfl) (by kernel_rfl) (by kernel_rfl) (fun _ _ _ h => h) (.inl ⟨by rfl, ?_⟩) (by assumption) ?_
          · intro W hW; go_simp
          try simp only [List.getElem_toArray, List.getElem_cons_zero, List.getElem_cons_succ, Act.put, List.setIfInBounds_toArray, List.set_cons_zero, List.set_cons_succ]
          refine wpAnyH_take (i := 23) (v := .bool true) rfl (by kernel_rfl) (by kernel_rfl) (by kernel_rfl) (fun _ _ _ h => h) (.inl ⟨by rfl, ?_⟩) (by assumption) ?_
          · intro W hW; go_simp
          try simp only [List.getElem_toArray, List.getElem_cons_zero, List.getElem_cons_succ, Act.put, List.setIfInBounds_toArray, List.set_cons_zero, List.set_cons_succ]
          refine wpAnyH_take (i := 24) (v := undef) rfl (by kernel_rfl) (by kernel_rfl) (by kernel_rfl) (fun _ _ _ h => h) (.inr ⟨by rfl, rfl⟩) (by assumption) ?_
          try simp only [List.getElem_toArray, List.getElem_cons_zero, List.getElem_cons_succ, Act.put, List.setIfInBounds_toArray, List.set_cons_zero, List.set_cons_succ]
          refine wpAnyH_take (i := 25) (v := undef) rfl (by kernel_rfl) (by kernel_rfl) (by kernel_rfl) (fun _ _ _ h => h) (.inr ⟨by rfl, rfl⟩) (by assumption) ?_
          try simp only [List.getElem_toArray, List.getElem_cons_zero, List.getElem_cons_succ, Act.put, List.setIfInBounds_toArray, List.set_cons_zero, List.set_cons_succ]
          refine wpAnyH_take (i := 26) (v := undef) rfl (by kernel_rfl) (by kernel_rfl) (by kernel_rfl) (fun _ _ _ h => h) (.inr ⟨by rfl, rfl⟩) (by assumption) ?_
          try simp only [List.getElem_toArray, List.getElem_cons_zero, List.getElem_cons_succ, Act.put, List.setIfInBounds_toArray, List.set_cons_zero, List.set_cons_succ]
          refine wpAnyH_take (i := 27) (v := .bool true) rfl (by kernel_rfl) (by kernel_rfl) (by kernel_rfl) (fun _ _ _ h => h) (.inl ⟨by rfl, ?_⟩) (by assumption) ?_
          · intro W hW; go_simp
          try simp only [List.getElem_toArray, List.getElem_cons_zero, List.getElem_cons_succ, Act.put, List.setIfInBounds_toArray, List.set_cons_zero, List.set_cons_succ]
          refine wpAnyH_take (i := 28) (v := .bool true) rfl (by kernel_rfl) (by kernel_rfl) (by kernel_rfl) (fun _ _ _ h => h) (.inl ⟨by rfl, ?_⟩) (by assumption) ?_
          · intro W hW; go_simp
          try simp only [List.getElem_toArray, List.getElem_cons_zero, List.getElem_cons_succ, Act.put, List.setIfInBounds_toArray, List.set_cons_zero, List.set_cons_succ]
          refine wpAnyH_take (i := 29) (v := undef) rfl (by kernel_rfl) (by kernel_rfl) (by kernel_rfl) (fun _ _ _ h => h) (.inr ⟨by rfl, rfl⟩) (by assumption) ?_
          try simp only [List.getElem_toArray, List.getElem_cons_zero, List.getElem_cons_succ, Act.put, List.setIfInBounds_toArray, List.set_cons_zero, List.set_cons_succ]
          refine wpAnyH_take (i := 30) (v := undef) rfl (by kernel_rfl) (by kernel_rfl) (by kernel_rfl) (fun _ _ _ h => h) (.inr ⟨by rfl, rfl⟩) (by assumption) ?_
          try simp only [List.getElem_toArray, List.getElem_cons_zero, List.getElem_cons_succ, Act.put, List.setIfInBounds_toArray, List.set_cons_zero, List.set_cons_succ]
          refine wpAnyH_take (i := 31) (v := undef) rfl (by kernel_rfl) (by kernel_rfl) (by kernel_rfl) (fun _ _ _ h => h) (.inr ⟨by rfl, rfl⟩) (by assumption) ?_
          try simp only [List.getElem_toArray, List.getElem_cons_zero, List.getElem_cons_succ, Act.put, List.setIfInBounds_toArray, List.set_cons_zero, List.set_cons_succ]
          refine wpAnyH_take (i := 32) (v := .bool true) rfl (by kernel_rfl) (by kernel_rfl) (by kernel_rfl) (fun _ _ _ h => h) (.inl ⟨by rfl, ?_⟩) (by assumption) ?_
          · intro W hW; go_simp
          try simp only [List.getElem_toArray, List.getElem_cons_zero, List.getElem_cons_succ, Act.put, List.setIfInBounds_toArray, List.set_cons_zero, List.set_cons_succ]
          refine wpAnyH_take (i := 33) (v := .bool true) rfl (by kernel_rfl) (by kernel_rfl) (by kernel_rfl) (fun _ _ _ h => h) (.inl ⟨by rfl, ?_⟩) (by assumption) ?_
          · intro W hW; go_simp
          try simp only [List.getElem_toArray, List.getElem_cons_zero, List.getElem_cons_succ, Act.put, List.setIfInBounds_toArray, List.set_cons_zero, List.set_cons_succ]
          refine wpAnyH_take (i := 34) (v := undef) rfl (by kernel_rfl) (by kernel_rfl) (by kernel_rfl) (fun _ _ _ h => h) (.inr ⟨by rfl, rfl⟩) (by assumption) ?_
          try simp only [List.getElem_toArray, List.getElem_cons_zero, List.getElem_cons_succ, Act.put, List.setIfInBounds_toArray, List.set_cons_zero, List.set_cons_succ]
          refine wpAnyH_take (i := 35) (v := undef) rfl (by kernel_rfl) (by kernel_rfl) (by kernel_rfl) (fun _ _ _ h => h) (.inr ⟨by rfl, rfl⟩) (by assumption) ?_
          try simp only [List.getElem_toArray, List.getElem_cons_zero, List.getElem_cons_succ, Act.put, List.setIfInBounds_toArray, List.set_cons_zero, List.set_cons_succ]
          refine wpAnyH_take (i := 36) (v := undef) rfl (by kernel_rfl) (by kernel_rfl) (by kernel_rfl) (fun _ _ _ h => h) (.inr ⟨by rfl, rfl⟩) (by assumption) ?_
          try simp only [List.getElem_toArray, List.getElem_cons_zero, List.getElem_cons_succ, Act.put, List.setIfInBounds_toArray, List.set_cons_zero, List.set_cons_succ]
          refine wpAnyH_take (i := 37) (v := .bool true) rfl (by kernel_rfl) (by kernel_rfl) (by kernel_rfl) (fun _ _ _ h => h) (.inl ⟨by rfl, ?_⟩) (by assumption) ?_
          · intro W hW; go_simp
          try simp only [List.getElem_toArray, List.getElem_cons_zero, List.getElem_cons_succ, Act.put, List.setIfInBounds_toArray, List.set_cons_zero, List.set_cons_succ]
          refine wpAnyH_done (by decide +kernel) ?_ _
          have HBX := Lib.hid (HBD.out.trans (hH.mono HBD.out.size))
          clear hH
          go_wp2_with fail
          go_ret3
          exact toldS_bad EE.out (by decide) HBX.out
        have e_t1 : decide (d.ac ≤ p.ac) = false := decide_eq_false t1
        refine wpAnyH_take (i := 15) (v := .bool false) rfl (by kernel_rfl) (by kernel_rfl) (by kernel_rfl) (fun _ _ _ h => h) (.inl ⟨by rfl, ?_⟩) (by assumption) ?_
        · intro W hW; go_simp
        try simp only [List.getElem_toArray, List.getElem_cons_zero, List.getElem_cons_succ, Act.put, List.setIfInBounds_toArray, List.set_cons_zero, List.set_cons_succ]
        refine wpAnyH_take (i := 16) (v := .bool false) rfl (by kernel_rfl) (by kernel_rfl) (by kernel_rfl) (fun _ _ _ h => h) (.inl ⟨by rfl, ?_⟩) (by assumption) ?_
        · intro W hW; go_simp
        try simp only [List.getElem_toArray, List.getElem_cons_zero, List.getElem_cons_succ, Act.put, List.setIfInBounds_toArray, List.set_cons_zero, List.set_cons_succ]
        refine wpAnyH_take (i := 17) (v := .bool false) rfl (by kernel_rfl) (by kernel_rfl) (by kernel_rfl) (fun _ _ _ h => h) (.inl ⟨by rfl, ?_⟩) (by assumption) ?_
        · intro W hW; go_simp
        try simp only [List.getElem_toArray, List.getElem_cons_zero, List.getElem_cons_succ, Act.put, List.setIfInBounds_toArray, List.set_cons_zero, List.set_cons_succ]
        refine wpAnyH_take (i := 18) (v := .bool false) rfl (by kernel_rfl) (by kernel_rfl) (by kernel_rfl) (fun _ _ _ h => h) (.inl ⟨by rfl, ?_⟩) (by assumption) ?_
        · intro W hW; go_simp
        try simp only [List.getElem_toArray, List.getElem_cons_zero, List.getElem_cons_succ, Act.put, List.setIfInBounds_toArray, List.set_cons_zero, List.set_cons_succ]
        refine wpAnyH_take (i := 19) (v := .pointer (some ⟨gd, 1, none⟩)) rfl (by kernel_rfl) (by kernel_rfl) (by kernel_rfl) (fun _ _ _ h => h) (.inl ⟨by rfl, ?_⟩) (by assumption) ?_
        · intro W hW; go_simp
        try simp only [List.getElem_toArray, List.getElem_cons_zero, List.getElem_cons_succ, Act.put, List.setIfInBounds_toArray, List.set_cons_zero, List.set_cons_succ]
        refine wpAnyH_take (i := 20) (v := .int .i64 d.ca) rfl (by kernel_rfl) (by kernel_rfl) (by kernel_rfl) (fun _ _ _ h => h) (.inl ⟨by rfl, ?_⟩) (by assumption) ?_
        · intro W hW; have cc := C1.out W hW; go_simp
        try simp only [List.getElem_toArray, List.getElem_cons_zero, List.getElem_cons_succ, Act.put, List.setIfInBounds_toArray, List.set_cons_zero, List.set_cons_succ]
        by_cases t2 : d.ca < 0
        · have e_t2 : decide (d.ca < 0) = true := decide_eq_true t2
          have EE := Lib.hid (BAD.out (decide_eq_false fun h => by omega))
          refine wpAnyH_take (i := 21) (v := .bool true) rfl (by kernel_rfl) (by kernel_rfl) (by kernel_rfl) (fun _ _ _ h => h) (.inl ⟨by rfl, ?_⟩) (by assumption) ?_
          · intro W hW; go_simp
          try simp only [List.getElem_toArray, List.getElem_cons_zero, List.getElem_cons_succ, Act.put, List.setIfInBounds_toArray, List.set_cons_zero, List.set_cons_succ]
          refine wpAnyH_take (i := 22) (v := .bool true) rfl (by kernel_rfl) (by kernel_rfl) (by kernel_rfl) (fun _ _ _ h => h) (.inl ⟨by rfl, ?_⟩) (by assumption) ?_
          · intro W hW; go_simp
          try simp only [List.getElem_toArray, List.getElem_cons_zero, List.getElem_cons_succ, Act.put, List.setIfInBounds_toArray, List.set_cons_zero, List.set_cons_succ]
          refine wpAnyH_take (i := 23) (v := .bool true) rfl (by kernel_rfl) (by kernel_rfl) (by kernel_rfl) (fun _ _ _ h => h) (.inl ⟨by rfl, ?_⟩) (by assumption) ?_
          · intro W hW; go_simp
          try simp only [List.getElem_toArray, List.getElem_cons_zero, List.getElem_cons_succ, Act.put, List.setIfInBounds_toArray, List.set_cons_zero, List.set_cons_succ]
          refine wpAnyH_take (i := 24) (v := undef) rfl (by kernel_rfl) (by kernel_rfl) (by kernel_rfl) (fun _ _ _ h => h) (.inr ⟨by rfl, rfl⟩) (by assumption) ?_
          try simp only [List.getElem_toArray, List.getElem_cons_zero, List.getElem_cons_succ, Act.put, List.setIfInBounds_toArray, List.set_cons_zero, List.set_cons_succ]
          refine wpAnyH_take (i := 25) (v := undef) rfl (by kernel_rfl) (by kernel_rfl) (by kernel_rfl) (fun _ _ _ h => h) (.inr ⟨by rfl, rfl⟩) (by assumption) ?_
          try simp only [List.getElem_toArray, List.getElem_cons_zero, List.getElem_cons_succ, Act.put, List.setIfInBounds_toArray, List.set_cons_zero, List.set_cons_succ]
          refine wpAnyH_take (i := 26) (v := undef) rfl (by kernel_rfl) (by kernel_rfl) (by kernel_rfl) (fun _ _ _ h => h) (.inr ⟨by rfl, rfl⟩) (by assumption) ?_
          try simp only [List.getElem_toArray, List.getElem_cons_zero, List.getElem_cons_succ, Act.put, List.setIfInBounds_toArray, List.set_cons_zero, List.set_cons_succ]
          refine wpAnyH_take (i := 27) (v := .bool true) rfl (by kernel_rfl) (by kernel_rfl) (by kernel_rfl) (fun _ _ _ h => h) (.inl ⟨by rfl, ?_⟩) (by assumption) ?_
          · intro W hW; go_simp
          try simp only [List.getElem_toArray, List.getElem_cons_zero, List.getElem_cons_succ, Act.put, List.setIfInBounds_toArray, List.set_cons_zero, List.set_cons_succ]
          refine wpAnyH_take (i := 28) (v := .bool true) rfl (by kernel_rfl) (by kernel_rfl) (by kernel_rfl) (fun _ _ _ h => h) (.inl ⟨by rfl, ?_⟩) (by assumption) ?_
          · intro W hW; go_simp
          try simp only [List.getElem_toArray, List.getElem_cons_zero, List.getElem_cons_succ, Act.put, List.setIfInBounds_toArray, List.set_cons_zero, List.set_cons_succ]
          refine wpAnyH_take (i := 29) (v := undef) rfl (by kernel_rfl) (by kernel_rfl) (by kernel_rfl) (fun _ _ _ h => h) (.inr ⟨by rfl, rfl⟩) (by assumption) ?_
          try simp only [List.getElem_toArray, List.getElem_cons_zero, List.getElem_cons_succ, Act.put, List.setIfInBounds_toArray, List.set_cons_zero, List.set_cons_succ]
          refine wpAnyH_take (i := 30) (v := undef) rfl (by kernel_rfl) (by kernel_rfl) (by kernel_rfl) (fun _ _ _ h => h) (.inr ⟨by rfl, rfl⟩) (by assumption) ?_
          try simp only [List.getElem_toArray, List.getElem_cons_zero, List.getElem_cons_succ, Act.put, List.setIfInBounds_toArray, List.set_cons_zero, List.set_cons_succ]
          refine wpAnyH_take (i := 31) (v := undef) rfl (by kernel_rfl) (by kernel_rfl) (by kernel_rfl) (fun _ _ _ h => h) (.inr ⟨by rfl, rfl⟩) (by assumption) ?_
          try simp only [List.getElem_toArray, List.getElem_cons_zero, List.getElem_cons_succ, Act.put, List.setIfInBounds_toArray, List.set_cons_zero, List.set_cons_succ]
          refine wpAnyH_take (i := 32) (v := .bool true) rfl (by kernel_rfl) (by kernel_rfl) (by kernel_rfl) (fun _ _ _ h => h) (.inl ⟨by rfl, ?_⟩) (by assumption) ?_
          · intro W hW; go_simp
          try simp only [List.getElem_toArray, List.getElem_cons_zero, List.getElem_cons_succ, Act.put, List.setIfInBounds_toArray, List.set_cons_zero, List.set_cons_succ]
          refine wpAnyH_take (i := 33) (v := .bool true) rfl (by kernel_rfl) (by kernel_rfl) (by kernel_rfl) (fun _ _ _ h => h) (.inl ⟨by rfl, ?_⟩) (by assumption) ?_
          · intro W hW; go_simp
          try simp only [List.getElem_toArray, List.getElem_cons_zero, List.getElem_cons_succ, Act.put, List.setIfInBounds_toArray, List.set_cons_zero, List.set_cons_succ]
          refine wpAnyH_take (i := 34) (v := undef) rfl (by kernel_rfl) (by kernel_rfl) (by kernel_rfl) (fun _ _ _ h => h) (.inr ⟨by rfl, rfl⟩) (by assumption) ?_
          try simp only [List.getElem_toArray, List.getElem_cons_zero, List.getElem_cons_succ, Act.put, List.setIfInBounds_toArray, List.set_cons_zero, List.set_cons_succ]
          refine wpAnyH_take (i := 35) (v := undef) rfl (by kernel_rfl) (by kernel_rfl) (by kernel_rfl) (fun _ _ _ h => h) (.inr ⟨by rfl, rfl⟩) (by assumption) ?_
          try simp only [List.getElem_toArray, List.getElem_cons_zero, List.getElem_cons_succ, Act.put, List.setIfInBounds_toArray, List.set_cons_zero, List.set_cons_succ]
          refine wpAnyH_take (i := 36) (v := undef) rfl (by kernel_rfl) (by kernel_rfl) (by kernel_rfl) (fun _ _ _ h => h) (.inr ⟨by rfl, rfl⟩) (by assumption) ?_
          try simp only [List.getElem_toArray, List.getElem_cons_zero, List.getElem_cons_succ, Act.put, List.setIfInBounds_toArray, List.set_cons_zero, List.set_cons_succ]
          refine wpAnyH_take (i := 37) (v := .bool true) rfl (by kernel_rfl) (by kernel_rfl) (by kernel_rfl) (fun _ _ _ h => h) (.inl ⟨by rfl, ?_⟩) (by assumption) ?_
          · intro W hW; go_simp
          try simp only [List.getElem_toArray, List.getElem_cons_zero, List.getElem_cons_succ, Act.put, List.setIfInBounds_toArray, List.set_cons_zero, List.set_cons_succ]
          refine wpAnyH_done (by decide +kernel) ?_ _
          have HBX := Lib.hid (HBD.out.trans (hH.mono HBD.out.size))
          clear hH
          go_wp2_with fail
          go_ret3
          exact toldS_bad EE.out (by decide) HBX.out
        have e_t2 : decide (d.ca < 0) = false := decide_eq_false t2
        refine wpAnyH_take (i := 21) (v := .bool false) rfl (by kernel_rfl) (by kernel_rfl) (by kernel_rfl) (fun _ _ _ h => h) (.inl ⟨by rfl, ?_⟩) (by assumption) ?_
        · intro W hW; go_simp
        try simp only [List.getElem_toArray, List.getElem_cons_zero, List.getElem_cons_succ, Act.put, List.setIfInBounds_toArray, List.set_cons_zero, List.set_cons_succ]
        refine wpAnyH_take (i := 22) (v := .bool false) rfl (by kernel_rfl) (by kernel_rfl) (by kernel_rfl) (fun _ _ _ h => h) (.inl ⟨by rfl, ?_⟩) (by assumption) ?_
        · intro W hW; go_simp
        try simp only [List.getElem_toArray, List.getElem_cons_zero, List.getElem_cons_succ, Act.put, List.setIfInBounds_toArray, List.set_cons_zero, List.set_cons_succ]
        refine wpAnyH_take (i := 23) (v := .bool false) rfl (by kernel_rfl) (by kernel_rfl) (by kernel_rfl) (fun _ _ _ h => h) (.inl ⟨by rfl, ?_⟩) (by assumption) ?_
        · intro W hW; go_simp
        try simp only [List.getElem_toArray, List.getElem_cons_zero, List.getElem_cons_succ, Act.put, List.setIfInBounds_toArray, List.set_cons_zero, List.set_cons_succ]
        refine wpAnyH_take (i := 24) (v := .pointer (some ⟨gd, 1, none⟩)) rfl (by kernel_rfl) (by kernel_rfl) (by kernel_rfl) (fun _ _ _ h => h) (.inl ⟨by rfl, ?_⟩) (by assumption) ?_
        · intro W hW; go_simp
        try simp only [List.getElem_toArray, List.getElem_cons_zero, List.getElem_cons_succ, Act.put, List.setIfInBounds_toArray, List.set_cons_zero, List.set_cons_succ]
        refine wpAnyH_take (i := 25) (v := .int .i64 d.ca) rfl (by kernel_rfl) (by kernel_rfl) (by kernel_rfl) (fun _ _ _ h => h) (.inl ⟨by rfl, ?_⟩) (by assumption) ?_
        · intro W hW; have cc := C1.out W hW; go_simp
        try simp only [List.getElem_toArray, List.getElem_cons_zero, List.getElem_cons_succ, Act.put, List.setIfInBounds_toArray, List.set_cons_zero, List.set_cons_succ]
        by_cases t3 : 1000000000000000 < d.ca
        · have e_t3 : decide (1000000000000000 < d.ca) = true := decide_eq_true t3
          have EE := Lib.hid (BAD.out (decide_eq_false fun h => by omega))
          refine wpAnyH_take (i := 26) (v := .bool true) rfl (by kernel_rfl) (by kernel_rfl) (by kernel_rfl) (fun _ _ _ h => h) (.inl ⟨by rfl, ?_⟩) (by assumption) ?_
          · intro W hW; go_simp
          try simp only [List.getElem_toArray, List.getElem_cons_zero, List.getElem_cons_succ, Act.put, List.setIfInBounds_toArray, List.set_cons_zero, List.set_cons_succ]
          refine wpAnyH_take (i := 27) (v := .bool true) rfl (by kernel_rfl) (by kernel_rfl) (by kernel_rfl) (fun _ _ _ h => h) (.inl ⟨by rfl, ?_⟩) (by assumption) ?_
          · intro W hW; go_simp
          try simp only [List.getElem_toArray, List.getElem_cons_zero, List.getElem_cons_succ, Act.put, List.setIfInBounds_toArray, List.set_cons_zero, List.set_cons_succ]
          refine wpAnyH_take (i := 28) (v := .bool true) rfl (by kernel_rfl) (by kernel_rfl) (by kernel_rfl) (fun _ _ _ h => h) (.inl ⟨by rfl, ?_⟩) (by assumption) ?_
          · intro W hW; go_simp
          try simp only [List.getElem_toArray, List.getElem_cons_zero, List.getElem_cons_succ, Act.put, List.setIfInBounds_toArray, List.set_cons_zero, List.set_cons_succ]
          refine wpAnyH_take (i := 29) (v := undef) rfl (by kernel_rfl) (by kernel_rfl) (by kernel_rfl) (fun _ _ _ h => h) (.inr ⟨by rfl, rfl⟩) (by assumption) ?_
          try simp only [List.getElem_toArray, List.getElem_cons_zero, List.getElem_cons_succ, Act.put, List.setIfInBounds_toArray, List.set_cons_zero, List.set_cons_succ]
          refine wpAnyH_take (i := 30) (v := undef) rfl (by kernel_rfl) (by kernel_rfl) (by kernel_rfl) (fun _ _ _ h => h) (.inr ⟨by rfl, rfl⟩) (by assumption) ?_
          try simp only [List.getElem_toArray, List.getElem_cons_zero, List.getElem_cons_succ, Act.put, List.setIfInBounds_toArray, List.set_cons_zero, List.set_cons_succ]
          refine wpAnyH_take (i := 31) (v := undef) rfl (by kernel_rfl) (by kernel_rfl) (by kernel_rfl) (fun _ _ _ h => h) (.inr ⟨by rfl, rfl⟩) (by assumption) ?_
          try simp only [List.getElem_toArray, List.getElem_cons_zero, List.getElem_cons_succ, Act.put, List.setIfInBounds_toArray, List.set_cons_zero, List.set_cons_succ]
          refine wpAnyH_take (i := 32) (v := .bool true) rfl (by kernel_rfl) (by kernel_rfl) (by kernel_rfl) (fun _ _ _ h => h) (.inl ⟨by rfl, ?_⟩) (by assumption) ?_
          · intro W hW; go_simp
          try simp only [List.getElem_toArray, List.getElem_cons_zero, List.getElem_cons_succ, Act.put, List.setIfInBounds_toArray, List.set_cons_zero, List.set_cons_succ]
          refine wpAnyH_take (i := 33) (v := .bool true) rfl (by kernel_rfl) (by kernel_rfl) (by kernel_rfl) (fun _ _ _ h => h) (.inl ⟨by rfl, ?_⟩) (by assumption) ?_
          · intro W hW; go_simp
          try simp only [List.getElem_toArray, List.getElem_cons_zero, List.getElem_cons_succ, Act.put, List.setIfInBounds_toArray, List.set_cons_zero, List.set_cons_succ]
          refine wpAnyH_take (i := 34) (v := undef) rfl (by kernel_rfl) (by kernel_rfl) (by kernel_rfl) (fun _ _ _ h => h) (.inr ⟨by rfl, rfl⟩) (by assumption) ?_
          try simp only [List.getElem_toArray, List.getElem_cons_zero, List.getElem_cons_succ, Act.put, List.setIfInBounds_toArray, List.set_cons_zero, List.set_cons_succ]
          refine wpAnyH_take (i := 35) (v := undef) rfl (by kernel_rfl) (by kernel_rfl) (by kernel_rfl) (fun _ _ _ h => h) (.inr ⟨by rfl, rfl⟩) (by assumption) ?_
          try simp only [List.getElem_toArray, List.getElem_cons_zero, List.getElem_cons_succ, Act.put, List.setIfInBounds_toArray, List.set_cons_zero, List.set_cons_succ]
          refine wpAnyH_take (i := 36) (v := undef) rfl (by kernel_rfl) (by kernel_rfl) (by kernel_rfl) (fun _ _ _ h => h) (.inr ⟨by rfl, rfl⟩) (by assumption) ?_
          try simp only [List.getElem_toArray, List.getElem_cons_zero, List.getElem_cons_succ, Act.put, List.setIfInBounds_toArray, List.set_cons_zero, List.set_cons_succ]
          refine wpAnyH_take (i := 37) (v := .bool true) rfl (by kernel_rfl) (by kernel_rfl) (by kernel_rfl) (fun _ _ _ h => h) (.inl ⟨by rfl, ?_⟩) (by assumption) ?_
          · intro W hW; go_simp
          try simp only [List.getElem_toArray, List.getElem_cons_zero, List.getElem_cons_succ, Act.put, List.setIfInBounds_toArray, List.set_cons_zero, List.set_cons_succ]
          refine wpAnyH_done (by decide +kernel) ?_ _
          have HBX := Lib.hid (HBD.out.trans (hH.mono HBD.out.size))
          clear hH
          go_wp2_with fail
          go_ret3
          exact toldS_bad EE.out (by decide) HBX.out
        have e_t3 : decide (1000000000000000 < d.ca) = false := decide_eq_false t3
        refine wpAnyH_take (i := 26) (v := .bool false) rfl (by kernel_rfl) (by kernel_rfl) (by kernel_rfl) (fun _ _ _ h => h) (.inl ⟨by rfl, ?_⟩) (by assumption) ?_
        · intro W hW; go_simp
        try simp only [List.getElem_toArray, List.getElem_cons_zero, List.getElem_cons_succ, Act.put, List.setIfInBounds_toArray, List.set_cons_zero, List.set_cons_succ]
        refine wpAnyH_take (i := 27) (v := .bool false) rfl (by kernel_rfl) (by kernel_rfl) (by kernel_rfl) (fun _ _ _ h => h) (.inl ⟨by rfl, ?_⟩) (by assumption) ?_
        · intro W hW; go_simp
        try simp only [List.getElem_toArray, List.getElem_cons_zero, List.getElem_cons_succ, Act.put, List.setIfInBounds_toArray, List.set_cons_zero, List.set_cons_succ]
        refine wpAnyH_take (i := 28) (v := .bool false) rfl (by kernel_rfl) (by kernel_rfl) (by kernel_rfl) (fun _ _ _ h => h) (.inl ⟨by rfl, ?_⟩) (by assumption) ?_
        · intro W hW; go_simp
        try simp only [List.getElem_toArray, List.getElem_cons_zero, List.getElem_cons_succ, Act.put, List.setIfInBounds_toArray, List.set_cons_zero, List.set_cons_succ]
        refine wpAnyH_take (i := 29) (v := .pointer (some ⟨gd, 2, none⟩)) rfl (by kernel_rfl) (by kernel_rfl) (by kernel_rfl) (fun _ _ _ h => h) (.inl ⟨by rfl, ?_⟩) (by assumption) ?_
        · intro W hW; go_simp
        try simp only [List.getElem_toArray, List.getElem_cons_zero, List.getElem_cons_succ, Act.put, List.setIfInBounds_toArray, List.set_cons_zero, List.set_cons_succ]
        refine wpAnyH_take (i := 30) (v := .int .i64 d.v) rfl (by kernel_rfl) (by kernel_rfl) (by kernel_rfl) (fun _ _ _ h => h) (.inl ⟨by rfl, ?_⟩) (by assumption) ?_
        · intro W hW; have cc := C2.out W hW; go_simp
        try simp only [List.getElem_toArray, List.getElem_cons_zero, List.getElem_cons_succ, Act.put, List.setIfInBounds_toArray, List.set_cons_zero, List.set_cons_succ]
        by_cases t4 : 100000000000000000 < d.v
        · have e_t4 : decide (100000000000000000 < d.v) = true := decide_eq_true t4
          have EE := Lib.hid (BAD.out (decide_eq_false fun h => by omega))
          refine wpAnyH_take (i := 31) (v := .bool true) rfl (by kernel_rfl) (by kernel_rfl) (by kernel_rfl) (fun _ _ _ h => h) (.inl ⟨by rfl, ?_⟩) (by assumption) ?_
          · intro W hW; go_simp
          try simp only [List.getElem_toArray, List.getElem_cons_zero, List.getElem_cons_succ, Act.put, List.setIfInBounds_toArray, List.set_cons_zero, List.set_cons_succ]
          refine wpAnyH_take (i := 32) (v := .bool true) rfl (by kernel_rfl) (by kernel_rfl) (by kernel_rfl) (fun _ _ _ h => h) (.inl ⟨by rfl, ?_⟩) (by assumption) ?_
          · intro W hW; go_simp
          try simp only [List.getElem_toArray, List.getElem_cons_zero, List.getElem_cons_succ, Act.put, List.setIfInBounds_toArray, List.set_cons_zero, List.set_cons_succ]
          refine wpAnyH_take (i := 33) (v := .bool true) rfl (by kernel_rfl) (by kernel_rfl) (by kernel_rfl) (fun _ _ _ h => h) (.inl ⟨by rfl, ?_⟩) (by assumption) ?_
          · intro W hW; go_simp
          try simp only [List.getElem_toArray, List.getElem_cons_zero, List.getElem_cons_succ, Act.put, List.setIfInBounds_toArray, List.set_cons_zero, List.set_cons_succ]
          refine wpAnyH_take (i := 34) (v := undef) rfl (by kernel_rfl) (by kernel_rfl) (by kernel_rfl) (fun _ _ _ h => h) (.inr ⟨by rfl, rfl⟩) (by assumption) ?_
          try simp only [List.getElem_toArray, List.getElem_cons_zero, List.getElem_cons_succ, Act.put, List.setIfInBounds_toArray, List.set_cons_zero, List.set_cons_succ]
          refine wpAnyH_take (i := 35) (v := undef) rfl (by kernel_rfl) (by kernel_rfl) (by kernel_rfl) (fun _ _ _ h => h) (.inr ⟨by rfl, rfl⟩) (by assumption) ?_
          try simp only [List.getElem_toArray, List.getElem_cons_zero, List.getElem_cons_succ, Act.put, List.setIfInBounds_toArray, List.set_cons_zero, List.set_cons_succ]
          refine wpAnyH_take (i := 36) (v := undef) rfl (by kernel_rfl) (by kernel_rfl) (by kernel_rfl) (fun _ _ _ h => h) (.inr ⟨by rfl, rfl⟩) (by assumption) ?_
          try simp only [List.getElem_toArray, List.getElem_cons_zero, List.getElem_cons_succ, Act.put, List.setIfInBounds_toArray, List.set_cons_zero, List.set_cons_succ]
          refine wpAnyH_take (i := 37) (v := .bool true) rfl (by kernel_rfl) (by kernel_rfl) (by kernel_rfl) (fun _ _ _ h => h) (.inl ⟨by rfl, ?_⟩) (by assumption) ?_
          · intro W hW; go_simp
          try simp only [List.getElem_toArray, List.getElem_cons_zero, List.getElem_cons_succ, Act.put, List.setIfInBounds_toArray, List.set_cons_zero, List.set_cons_succ]
          refine wpAnyH_done (by decide +kernel) ?_ _
          have HBX := Lib.hid (HBD.out.trans (hH.mono HBD.out.size))
          clear hH
          go_wp2_with fail
          go_ret3
          exact toldS_bad EE.out (by decide) HBX.out
        have e_t4 : decide (100000000000000000 < d.v) = false := decide_eq_false t4
        refine wpAnyH_take (i := 31) (v := .bool false) rfl (by kernel_rfl) (by kernel_rfl) (by kernel_rfl) (fun _ _ _ h => h) (.inl ⟨by rfl, ?_⟩) (by assumption) ?_
        · intro W hW; go_simp
        try simp only [List.getElem_toArray, List.getElem_cons_zero, List.getElem_cons_succ, Act.put, List.setIfInBounds_toArray, List.set_cons_zero, List.set_cons_succ]
        refine wpAnyH_take (i := 32) (v := .bool false) rfl (by kernel_rfl) (by kernel_rfl) (by kernel_rfl) (fun _ _ _ h => h) (.inl ⟨by rfl, ?_⟩) (by assumption) ?_
        · intro W hW; go_simp
        try simp only [List.getElem_toArray, List.getElem_cons_zero, List.getElem_cons_succ, Act.put, List.setIfInBounds_toArray, List.set_cons_zero, List.set_cons_succ]
        refine wpAnyH_take (i := 33) (v := .bool false) rfl (by kernel_rfl) (by kernel_rfl) (by kernel_rfl) (fun _ _ _ h => h) (.inl ⟨by rfl, ?_⟩) (by assumption) ?_
        · intro W hW; go_simp
        try simp only [List.getElem_toArray, List.getElem_cons_zero, List.getElem_cons_succ, Act.put, List.setIfInBounds_toArray, List.set_cons_zero, List.set_cons_succ]
        refine wpAnyH_take (i := 34) (v := .pointer (some ⟨gd, 2, none⟩)) rfl (by kernel_rfl) (by kernel_rfl) (by kernel_rfl) (fun _ _ _ h => h) (.inl ⟨by rfl, ?_⟩) (by assumption) ?_
        · intro W hW; go_simp
        try simp only [List.getElem_toArray, List.getElem_cons_zero, List.getElem_cons_succ, Act.put, List.setIfInBounds_toArray, List.set_cons_zero, List.set_cons_succ]
        refine wpAnyH_take (i := 35) (v := .int .i64 d.v) rfl (by kernel_rfl) (by kernel_rfl) (by kernel_rfl) (fun _ _ _ h => h) (.inl ⟨by rfl, ?_⟩) (by assumption) ?_
        · intro W hW; have cc := C2.out W hW; go_simp
        try simp only [List.getElem_toArray, List.getElem_cons_zero, List.getElem_cons_succ, Act.put, List.setIfInBounds_toArray, List.set_cons_zero, List.set_cons_succ]
        by_cases t5 : d.v < -100000000000000000
        · have e_t5 : decide (d.v < -100000000000000000) = true := decide_eq_true t5
          have EE := Lib.hid (BAD.out (decide_eq_false fun h => by omega))
          refine wpAnyH_take (i := 36) (v := .bool true) rfl (by kernel_rfl) (by kernel_rfl) (by kernel_rfl) (fun _ _ _ h => h) (.inl ⟨by rfl, ?_⟩) (by assumption) ?_
          · intro W hW; go_simp
          try simp only [List.getElem_toArray, List.getElem_cons_zero, List.getElem_cons_succ, Act.put, List.setIfInBounds_toArray, List.set_cons_zero, List.set_cons_succ]
          refine wpAnyH_take (i := 37) (v := .bool true) rfl (by kernel_rfl) (by kernel_rfl) (by kernel_rfl) (fun _ _ _ h => h) (.inl ⟨by rfl, ?_⟩) (by assumption) ?_
          · intro W hW; go_simp
          try simp only [List.getElem_toArray, List.getElem_cons_zero, List.getElem_cons_succ, Act.put, List.setIfInBounds_toArray, List.set_cons_zero, List.set_cons_succ]
          refine wpAnyH_done (by decide +kernel) ?_ _
          have HBX := Lib.hid (HBD.out.trans (hH.mono HBD.out.size))
          clear hH
          go_wp2_with fail
          go_ret3
          exact toldS_bad EE.out (by decide) HBX.out
        have e_t5 : decide (d.v < -100000000000000000) = false := decide_eq_false t5
        refine wpAnyH_take (i := 36) (v := .bool false) rfl (by kernel_rfl) (by kernel_rfl) (by kernel_rfl) (fun _ _ _ h => h) (.inl ⟨by rfl, ?_⟩) (by assumption) ?_
        · intro W hW; go_simp
        try simp only [List.getElem_toArray, List.getElem_cons_zero, List.getElem_cons_succ, Act.put, List.setIfInBounds_toArray, List.set_cons_zero, List.set_cons_succ]
        refine wpAnyH_take (i := 37) (v := .bool false) rfl (by kernel_rfl) (by kernel_rfl) (by kernel_rfl) (fun _ _ _ h => h) (.inl ⟨by rfl, ?_⟩) (by assumption) ?_
        · intro W hW; go_simp
        try simp only [List.getElem_toArray, List.getElem_cons_zero, List.getElem_cons_succ, Act.put, List.setIfInBounds_toArray, List.set_cons_zero, List.set_cons_succ]
        refine wpAnyH_done (by decide +kernel) ?_ _
        have DB : Hid (dueB pa d = true) := Lib.hid (decide_eq_true (by omega))
        have HBX := Lib.hid (HBD.out.trans (hH.mono HBD.out.size))
        have RX : Hid (Row WD.drew w1.heap.size 47 (nm u (dgs N))) := Lib.hid RWD.out
        have hvb : -100000000000000000 ≤ d.v ∧ d.v ≤ 100000000000000000 := by omega
        have hm := mag_v13 hvb
        have bd := sum_size13 (x := d.v) (k := k) m1 (by omega) hm.2
        have O := Lib.hid (fun W => of_any d.v i3 W)
        have P := Lib.hid (fun W => plus_num u (decide (d.v < 0)) N (mag d.v) (100000000000000000 * ((k + 1 : Nat) : Int)) m0 hm.1 bd.1 bd.2 W)
        have e1 := sgn_mag d.v
        rw [MS.out, e1, ← SV.out] at P
        have s0 : SB13 w gd d.v WD.drew := ⟨C2.out _ (Below.refl _ _).drew, HBX.out⟩
        have S0 := Lib.hid s0
        have RIS := Lib.hid (ST.out.trans DB.out)
        clear hvb hm bd e1 s0 hH
        generalize d.v = dv at *
        go_wp2_with fail
        refine wp_region_held_drew (S := SB13 w gd dv) (by kernel_rfl) ⟨S0.out.1, S0.out.2.drew⟩ (fun hH => ?_)
        refine wpAnyH_take (i := 1) (v := .pointer (some ⟨gd, 2, none⟩)) rfl (by kernel_rfl) (by kernel_rfl) (by kernel_rfl) (fun _ _ _ h => h) (.inl ⟨by rfl, ?_⟩) (by assumption) ?_
        · intro W hW; go_simp
        try simp only [List.getElem_toArray, List.getElem_cons_zero, List.getElem_cons_succ, Act.put, List.setIfInBounds_toArray, List.set_cons_zero, List.set_cons_succ]
        refine wpAnyH_take (i := 2) (v := .int .i64 dv) rfl (by kernel_rfl) (by kernel_rfl) (by kernel_rfl) (fun _ _ _ h => h) (.inl ⟨by rfl, ?_⟩) (by assumption) ?_
        · intro W hW; have cc := hW.1; go_simp
        try simp only [List.getElem_toArray, List.getElem_cons_zero, List.getElem_cons_succ, Act.put, List.setIfInBounds_toArray, List.set_cons_zero, List.set_cons_succ]
        refine wpAnyH_ready (rs := [0, 3]) (by decide +kernel) (by simp) (AllReadyH.cons rfl (fun KQ hK => ?_) (AllReadyH.cons rfl (fun KQ hK => ?_) AllReadyH.nil))
        · rw [if_pos (by rfl)]
          refine wp_load_row 47 (.tmp 7) rfl w1.heap.size rfl 47 (nm u (dgs N)) (0, 0) _ RX.out Try.underlying47 rfl (by kernel_rfl) ?_
          refine hK.out _ _ hH (fun _ => ?_)
          clear hK
          try simp only [List.getElem_toArray, List.getElem_cons_zero, List.getElem_cons_succ, Act.put, List.setIfInBounds_toArray, List.set_cons_zero, List.set_cons_succ]
          refine wpAnyH_ready (rs := [3]) (by decide +kernel) (by simp) (AllReadyH.cons rfl (fun KQ hK => ?_) AllReadyH.nil)
          go_simp
          refine (O.out _).mono ?_; rintro e w2 ⟨rfl, q2⟩
          have s2 := hH.quiet q2
          have ra := Lib.hid ((show Row WD.drew.drew w1.heap.size 47 _ from RX.out).below q2.2 (show w1.heap.size < WD.drew.drew.heap.size from RX.out.lt))
          refine hK.out _ _ s2 (fun _ => ?_)
          clear hK
          try simp only [List.getElem_toArray, List.getElem_cons_zero, List.getElem_cons_succ, Act.put, List.setIfInBounds_toArray, List.set_cons_zero, List.set_cons_succ]
          refine wpAnyH_ready (rs := [4]) (by decide +kernel) (by simp) (AllReadyH.cons rfl (fun KQ hK => ?_) AllReadyH.nil)
          go_simp
          refine (P.out _).mono ?_; rintro e w3 ⟨⟨u', N', rfl, n0, n1, hx'⟩, q3⟩
          have s3 := s2.quiet q3
          have HN := Lib.hid (show 0 ≤ N' ∧ N' ≤ 100000000000000000 * ((k + 1 : Nat) : Int) ∧ sgn u' N' = sumV (l.take (k + 1)) from ⟨n0, n1, hx'⟩)
          clear n0 n1 hx'
          have rb := ra.out.below q3.2 ra.out.lt
          refine hK.out _ _ s3 (fun _ => ?_)
          clear hK
          try simp only [List.getElem_toArray, List.getElem_cons_zero, List.getElem_cons_succ, Act.put, List.setIfInBounds_toArray, List.set_cons_zero, List.set_cons_succ]
          refine wpAnyH_ready (rs := [5]) (by decide +kernel) (by simp) (AllReadyH.cons rfl (fun KQ hK => ?_) AllReadyH.nil)
          rw [if_pos (by rfl)]
          refine wp_store_row 47 (.tmp 7) (.tmp 82) rfl w1.heap.size (nm u' (dgs N')) rfl rfl 47 _ rb (by kernel_rfl) rfl (nm_one _ _) ?_
          have s4 := s3.setRow LT1.out (by have := GL.out; omega) (nm u' (dgs N'))
          refine hK.out _ _ s4 (fun _ => ?_)
          clear hK
          refine wpAnyH_done (by decide +kernel) ?_ _
          have RZ := Lib.hid (And.intro (rb.whole (nm u' (dgs N'))) s4.2)
          clear s4 s3 rb
          go_wp2_with fail
          go_roundw
          case rel => exact ⟨k + 1, u', N', by omega, by go_num, RZ.out.1, HN.out.1, HN.out.2.1, HN.out.2.2, RIS.out, RZ.out.2⟩
          case measure => simp [intOf]; omega
        · go_simp
          refine (O.out _).mono ?_; rintro e w2 ⟨rfl, q2⟩
          have s2 := hH.quiet q2
          have ra := Lib.hid ((show Row WD.drew.drew w1.heap.size 47 _ from RX.out).below q2.2 (show w1.heap.size < WD.drew.drew.heap.size from RX.out.lt))
          refine hK.out _ _ s2 (fun _ => ?_)
          clear hK
          try simp only [List.getElem_toArray, List.getElem_cons_zero, List.getElem_cons_succ, Act.put, List.setIfInBounds_toArray, List.set_cons_zero, List.set_cons_succ]
          refine wpAnyH_ready (rs := [0]) (by decide +kernel) (by simp) (AllReadyH.cons rfl (fun KQ hK => ?_) AllReadyH.nil)
          rw [if_pos (by rfl)]
          refine wp_load_row 47 (.tmp 7) rfl w1.heap.size rfl 47 (nm u (dgs N)) (0, 0) _ ra.out Try.underlying47 rfl (by kernel_rfl) ?_
          refine hK.out _ _ s2 (fun _ => ?_)
          clear hK
          try simp only [List.getElem_toArray, List.getElem_cons_zero, List.getElem_cons_succ, Act.put, List.setIfInBounds_toArray, List.set_cons_zero, List.set_cons_succ]
          refine wpAnyH_ready (rs := [4]) (by decide +kernel) (by simp) (AllReadyH.cons rfl (fun KQ hK => ?_) AllReadyH.nil)
          go_simp
          refine (P.out _).mono ?_; rintro e w3 ⟨⟨u', N', rfl, n0, n1, hx'⟩, q3⟩
          have s3 := s2.quiet q3
          have HN := Lib.hid (show 0 ≤ N' ∧ N' ≤ 100000000000000000 * ((k + 1 : Nat) : Int) ∧ sgn u' N' = sumV (l.take (k + 1)) from ⟨n0, n1, hx'⟩)
          clear n0 n1 hx'
          have rb := ra.out.below q3.2 ra.out.lt
          refine hK.out _ _ s3 (fun _ => ?_)
          clear hK
          try simp only [List.getElem_toArray, List.getElem_cons_zero, List.getElem_cons_succ, Act.put, List.setIfInBounds_toArray, List.set_cons_zero, List.set_cons_succ]
          refine wpAnyH_ready (rs := [5]) (by decide +kernel) (by simp) (AllReadyH.cons rfl (fun KQ hK => ?_) AllReadyH.nil)
          rw [if_pos (by rfl)]
          refine wp_store_row 47 (.tmp 7) (.tmp 82) rfl w1.heap.size (nm u' (dgs N')) rfl rfl 47 _ rb (by kernel_rfl) rfl (nm_one _ _) ?_
          have s4 := s3.setRow LT1.out (by have := GL.out; omega) (nm u' (dgs N'))
          refine hK.out _ _ s4 (fun _ => ?_)
          clear hK
          refine wpAnyH_done (by decide +kernel) ?_ _
          have RZ := Lib.hid (And.intro (rb.whole (nm u' (dgs N'))) s4.2)
          clear s4 s3 rb
          go_wp2_with fail
          go_roundw
          case rel => exact ⟨k + 1, u', N', by omega, by go_num, RZ.out.1, HN.out.1, HN.out.2.1, HN.out.2.2, RIS.out, RZ.out.2⟩
          case measure => simp [intOf]; omega
    case neg =>
      obtain rfl : len = k := by omega
      have et : l.take len = l := List.take_of_length_le (by rw [NL.out]; exact Nat.le_refl _)
      rw [et] at MS MR
      have ZA := Lib.hid fun W => zero_any u N m0 (by have : (10633823966279326992483775380034977792 : Int) < Rf.T 12 := by decide
                                                      omega) W
      have ZN : Hid (sumV l = 0 ↔ N = 0) := Lib.hid (by rw [← MS.out]; unfold sgn; split <;> constructor <;> intro h <;> omega)
      clear et MS m0 m1
      go_wp2_with (refine wpList_load_row rfl 47 _ rfl w1.heap.size rfl 47 _ (0, 0) _ RW.out Try.underlying47 rfl (by kernel_rfl) ?_)
      refine (ZA.out _).mono ?_; rintro e w2 ⟨rfl, q2⟩
      have B2 := Lib.hid (HB.out.trans (q2.2.mono HB.out.size))
      clear q2
      by_cases hN : ¬ N = 0
      · have dN : decide (N = 0) = false := decide_eq_false hN
        have EE := Lib.hid (ES.out MR.out (fun h => hN (ZN.out.1 h)))
        clear hN ZN
        go_wp2_with fail
        go_ret3
        exact toldS_bad EE.out (by decide) B2.out
      have hN' : N = 0 := Decidable.not_not.1 hN
      have dN : decide (N = 0) = true := decide_eq_true hN'
      have EV := Lib.hid (EO.out MR.out (ZN.out.2 hN'))
      have M := Lib.hid (may_of EV.out)
      have FS0 : Hid (fundS f ([] : List Du) = f) := Lib.hid (by unfold fundS; simp [defs]; omega)
      have LS0 : Hid (leftS f ([] : List Du) = 0) := Lib.hid (by unfold leftS; simp [defs]; omega)
      clear hN hN' ER ES EO ZA ZN MR RW
      go_wp2_with fail
      go_loopw [0, 10, 11, 12, 13] (fun vf vl vo' vw' i wr => ∃ (k : Nat) (vo vw : Value), k ≤ len ∧ i = .int .i64 k ∧ vf = .int .i64 (fundS f (l.take k)) ∧ vl = .int .i64 (leftS f (l.take k)) ∧ vo = vo' ∧ vw = vw' ∧ ESd.Own 34 wr w2.heap.size vo ((l.take k).map sd0) ∧ EI13.Own 2 wr w2.heap.size vw ((l.take k).map wt) ∧ Below w2.heap.size w2 wr) (fun _ _ _ _ i _ => len - (intOf i).toNat)
      case atStart => exact ⟨0, _, _, Nat.zero_le _, rfl, by rw [List.take_zero, FS0.out], by rw [List.take_zero, LS0.out], rfl, rfl, gown_nil _ _, gown_nil _ _, Below.refl _ _⟩
      case round =>
        obtain ⟨k, vo, vw, hk, rfl, rfl, rfl, rfl, rfl, oo, ow, hb⟩ := hrel
        have OO := Lib.hid oo
        have OW := Lib.hid ow
        have HB2 := Lib.hid hb
        have B0 := Lib.hid (B2.out.trans (hb.mono B2.out.size))
        have SB := M.out.step_bd k
        clear oo ow hb
        by_cases hlt : k < len
        case pos =>
          have hki : (k : Int) < (len : Int) := by omega
          have hdk : decide ((k : Int) < (len : Int)) = true := decide_eq_true hki
          obtain ⟨d, hd⟩ : ∃ d, l[k]? = some d := ⟨l[k]'(by have := NL.out; omega), List.getElem?_eq_getElem _⟩
          have IN := M.out.ins d (List.mem_of_getElem? hd)
          unfold In at IN
          obtain ⟨⟨i1, i2⟩, i3, i4⟩ := IN
          obtain ⟨b, o, rfl, -⟩ := grd_rng (HR.out wr B0.out) hd
          have RG := Lib.hid fun (W : World) (q : Below wr.heap.size wr W) => (show W.rangeAt b (o + k * 3) (ED.cells d) by
            obtain ⟨b2, o2, e2, r2⟩ := grd_rng (HR.out W (B0.out.trans (q.mono B0.out.size))) hd
            cases e2
            exact r2)
          have C0 := Lib.hid fun (W : World) (q : Below wr.heap.size wr W) => (show W.cell? ⟨b, o + k * 3, none⟩ = some (.int .u32 d.ac) from RG.out W q 0 _ rfl)
          have C1 := Lib.hid fun (W : World) (q : Below wr.heap.size wr W) => (show W.cell? ⟨b, o + k * 3 + 1, none⟩ = some (.int .i64 d.ca) from RG.out W q 1 _ rfl)
          have C2 := Lib.hid fun (W : World) (q : Below wr.heap.size wr W) => (show W.cell? ⟨b, o + k * 3 + 2, none⟩ = some (.int .i64 d.v) from RG.out W q 2 _ rfl)
          have LS := left_step f0 (l.take k) d
          rw [← take_s13 hd] at LS
          have SM := Lib.hid (map_take_snoc sd0 hd)
          have WM := Lib.hid (map_take_snoc wt hd)
          have LO : Hid (((l.take k).map sd0).length + 1 ≤ 100000) := Lib.hid (by rw [List.length_map, List.length_take]; omega)
          have LW : Hid (((l.take k).map wt).length + 1 ≤ 100000) := Lib.hid (by rw [List.length_map, List.length_take]; omega)
          obtain ⟨PL, hPL⟩ : ∃ x, leftS f (l.take k) = x := ⟨_, rfl⟩
          obtain ⟨PF, hPF⟩ : ∃ x, fundS f (l.take k) = x := ⟨_, rfl⟩
          rw [hPL, hPF] at LS SB
          rw [hPL, hPF]
          obtain ⟨⟨l0, l1⟩, g0, g1⟩ := SB
          have LSH := Lib.hid LS
          have NEW : Hid (∀ j, vw.ownBlock = some j → j < wr.heap.size) := Lib.hid fun j hj => (gown_lt OW.out hj).2
          clear hd hPL hPF LS
          go_wp2_with fail
          refine wp_region_held_drew (S := fun U => Below wr.heap.size wr U) (by kernel_rfl) (Below.refl _ _).drew (fun hH => ?_)
          refine wpAnyH_take (i := 0) (v := .slice (some ⟨b, o, none⟩) len cap) rfl (by kernel_rfl) (by kernel_rfl) (by kernel_rfl) (fun _ _ _ h => h) (.inl ⟨by rfl, ?_⟩) (by assumption) ?_
          · intro W hW; go_simp
          try simp only [List.getElem_toArray, List.getElem_cons_zero, Act.put, List.setIfInBounds_toArray, List.set_cons_zero, List.set_cons_succ]
          refine wpAnyH_take (i := 1) (v := .int .i64 k) rfl (by kernel_rfl) (by kernel_rfl) (by kernel_rfl) (fun _ _ _ h => h) (.inl ⟨by rfl, ?_⟩) (by assumption) ?_
          · intro W hW; go_simp
          try simp only [List.getElem_toArray, List.getElem_cons_zero, List.getElem_cons_succ, Act.put, List.setIfInBounds_toArray, List.set_cons_zero, List.set_cons_succ]
          refine wpAnyH_take (i := 2) (v := .pointer (some ⟨b, o + k * 3, none⟩)) rfl (by kernel_rfl) (by kernel_rfl) (by kernel_rfl) (fun _ _ _ h => h) (.inl ⟨by rfl, ?_⟩) (by assumption) ?_
          · intro W hW; go_simp
          try simp only [List.getElem_toArray, List.getElem_cons_zero, List.getElem_cons_succ, Act.put, List.setIfInBounds_toArray, List.set_cons_zero, List.set_cons_succ]
          refine wpAnyH_take (i := 3) (v := .pointer (some ⟨b, o + k * 3, none⟩)) rfl (by kernel_rfl) (by kernel_rfl) (by kernel_rfl) (fun _ _ _ h => h) (.inl ⟨by rfl, ?_⟩) (by assumption) ?_
          · intro W hW; go_simp
          try simp only [List.getElem_toArray, List.getElem_cons_zero, List.getElem_cons_succ, Act.put, List.setIfInBounds_toArray, List.set_cons_zero, List.set_cons_succ]
          refine wpAnyH_take (i := 4) (v := .int .u32 d.ac) rfl (by kernel_rfl) (by kernel_rfl) (by kernel_rfl) (fun _ _ _ h => h) (.inl ⟨by rfl, ?_⟩) (by assumption) ?_
          · intro W hW; have cc := C0.out W hW; go_simp
          try simp only [List.getElem_toArray, List.getElem_cons_zero, List.getElem_cons_succ, Act.put, List.setIfInBounds_toArray, List.set_cons_zero, List.set_cons_succ]
          refine wpAnyH_take (i := 5) (v := .slice (some ⟨b, o, none⟩) len cap) rfl (by kernel_rfl) (by kernel_rfl) (by kernel_rfl) (fun _ _ _ h => h) (.inl ⟨by rfl, ?_⟩) (by assumption) ?_
          · intro W hW; go_simp
          try simp only [List.getElem_toArray, List.getElem_cons_zero, List.getElem_cons_succ, Act.put, List.setIfInBounds_toArray, List.set_cons_zero, List.set_cons_succ]
          refine wpAnyH_take (i := 6) (v := .int .i64 k) rfl (by kernel_rfl) (by kernel_rfl) (by kernel_rfl) (fun _ _ _ h => h) (.inl ⟨by rfl, ?_⟩) (by assumption) ?_
          · intro W hW; go_simp
          try simp only [List.getElem_toArray, List.getElem_cons_zero, List.getElem_cons_succ, Act.put, List.setIfInBounds_toArray, List.set_cons_zero, List.set_cons_succ]
          refine wpAnyH_take (i := 7) (v := .pointer (some ⟨b, o + k * 3, none⟩)) rfl (by kernel_rfl) (by kernel_rfl) (by kernel_rfl) (fun _ _ _ h => h) (.inl ⟨by rfl, ?_⟩) (by assumption) ?_
          · intro W hW; go_simp
          try simp only [List.getElem_toArray, List.getElem_cons_zero, List.getElem_cons_succ, Act.put, List.setIfInBounds_toArray, List.set_cons_zero, List.set_cons_succ]
          refine wpAnyH_take (i := 8) (v := .pointer (some ⟨b, o + k * 3 + 1, none⟩)) rfl (by kernel_rfl) (by kernel_rfl) (by kernel_rfl) (fun _ _ _ h => h) (.inl ⟨by rfl, ?_⟩) (by assumption) ?_
          · intro W hW; go_simp
          try simp only [List.getElem_toArray, List.getElem_cons_zero, List.getElem_cons_succ, Act.put, List.setIfInBounds_toArray, List.set_cons_zero, List.set_cons_succ]
          refine wpAnyH_take (i := 9) (v := .int .i64 d.ca) rfl (by kernel_rfl) (by kernel_rfl) (by kernel_rfl) (fun _ _ _ h => h) (.inl ⟨by rfl, ?_⟩) (by assumption) ?_
          · intro W hW; have cc := C1.out W hW; go_simp
          try simp only [List.getElem_toArray, List.getElem_cons_zero, List.getElem_cons_succ, Act.put, List.setIfInBounds_toArray, List.set_cons_zero, List.set_cons_succ]
          refine wpAnyH_take (i := 10) (v := .slice (some ⟨b, o, none⟩) len cap) rfl (by kernel_rfl) (by kernel_rfl) (by kernel_rfl) (fun _ _ _ h => h) (.inl ⟨by rfl, ?_⟩) (by assumption) ?_
          · intro W hW; go_simp
          try simp only [List.getElem_toArray, List.getElem_cons_zero, List.getElem_cons_succ, Act.put, List.setIfInBounds_toArray, List.set_cons_zero, List.set_cons_succ]
          refine wpAnyH_take (i := 11) (v := .int .i64 k) rfl (by kernel_rfl) (by kernel_rfl) (by kernel_rfl) (fun _ _ _ h => h) (.inl ⟨by rfl, ?_⟩) (by assumption) ?_
          · intro W hW; go_simp
          try simp only [List.getElem_toArray, List.getElem_cons_zero, List.getElem_cons_succ, Act.put, List.setIfInBounds_toArray, List.set_cons_zero, List.set_cons_succ]
          refine wpAnyH_take (i := 12) (v := .pointer (some ⟨b, o + k * 3, none⟩)) rfl (by kernel_rfl) (by kernel_rfl) (by kernel_rfl) (fun _ _ _ h => h) (.inl ⟨by rfl, ?_⟩) (by assumption) ?_
          · intro W hW; go_simp
          try simp only [List.getElem_toArray, List.getElem_cons_zero, List.getElem_cons_succ, Act.put, List.setIfInBounds_toArray, List.set_cons_zero, List.set_cons_succ]
          refine wpAnyH_take (i := 13) (v := .pointer (some ⟨b, o + k * 3 + 2, none⟩)) rfl (by kernel_rfl) (by kernel_rfl) (by kernel_rfl) (fun _ _ _ h => h) (.inl ⟨by rfl, ?_⟩) (by assumption) ?_
          · intro W hW; go_simp
          try simp only [List.getElem_toArray, List.getElem_cons_zero, List.getElem_cons_succ, Act.put, List.setIfInBounds_toArray, List.set_cons_zero, List.set_cons_succ]
          refine wpAnyH_take (i := 14) (v := .int .i64 d.v) rfl (by kernel_rfl) (by kernel_rfl) (by kernel_rfl) (fun _ _ _ h => h) (.inl ⟨by rfl, ?_⟩) (by assumption) ?_
          · intro W hW; have cc := C2.out W hW; go_simp
          try simp only [List.getElem_toArray, List.getElem_cons_zero, List.getElem_cons_succ, Act.put, List.setIfInBounds_toArray, List.set_cons_zero, List.set_cons_succ]
          refine wpAnyH_take (i := 15) (v := .int .i64 (d.ca + d.v)) rfl (by kernel_rfl) (by kernel_rfl) (by kernel_rfl) (fun _ _ _ h => h) (.inl ⟨by rfl, ?_⟩) (by assumption) ?_
          · intro W hW; go_simp; rw [IntKind.wrap_i64]; omega
          try simp only [List.getElem_toArray, List.getElem_cons_zero, List.getElem_cons_succ, Act.put, List.setIfInBounds_toArray, List.set_cons_zero, List.set_cons_succ]
          refine wpAnyH_take (i := 16) (v := .agg (ESd.cells ⟨d.ac, d.ca + d.v, false, 0⟩).toArray) rfl (by kernel_rfl) (by kernel_rfl) (by kernel_rfl) (fun _ _ _ h => h) (yields_build_sd13u (by rfl) (.tmp 96) (.tmp 107) rfl rfl rfl) (by assumption) ?_
          try simp only [List.getElem_toArray, List.getElem_cons_zero, List.getElem_cons_succ, Act.put, List.setIfInBounds_toArray, List.set_cons_zero, List.set_cons_succ]
          refine wpAnyH_ready (rs := [17]) (by decide +kernel) (by simp) (AllReadyH.cons rfl (fun KQ hK => ?_) AllReadyH.nil)
          rw [if_pos (by rfl)]
          refine twp_alloc 34 rfl HZS.out ?_
          obtain ⟨V1, hV1⟩ : ∃ V, wr.drew.alloc (.cells (ESd.cells zeroSd).toArray 34) = V := ⟨_, rfl⟩
          obtain ⟨ga, hga⟩ : ∃ g, wr.drew.heap.size = g := ⟨_, rfl⟩
          have HS1 : Hid (One ESd 34 wr.heap.size wr V1 ga zeroSd) := Lib.hid (by rw [← hV1, ← hga]; exact One.new hH zeroSd (Nat.le_refl _))
          rw [hV1, hga]
          refine hK.out _ _ HS1.out.bel (fun _ => ?_)
          clear hK hV1 hga
          try simp only [List.getElem_toArray, List.getElem_cons_zero, List.getElem_cons_succ, Act.put, List.setIfInBounds_toArray, List.set_cons_zero, List.set_cons_succ]
          refine wpAnyH_ready (rs := [18]) (by decide +kernel) (by simp) (AllReadyH.cons rfl (fun KQ hK => ?_) AllReadyH.nil)
          rw [if_pos (by rfl)]
          refine twp_store TSd (.tmp 14) (.tmp 108) rfl ⟨d.ac, d.ca + d.v, false, 0⟩ ga HS1.out.at' rfl rfl ?_
          obtain ⟨V2, hV2⟩ : ∃ V, V1.setRow ga (ESd.cells ⟨d.ac, d.ca + d.v, false, 0⟩).toArray = V := ⟨_, rfl⟩
          have HS2 := Lib.hid (HS1.out.set ⟨d.ac, d.ca + d.v, false, 0⟩)
          rw [hV2] at HS2 ⊢
          refine hK.out _ _ HS2.out.bel (fun _ => ?_)
          clear hK hV2 hH
          try simp only [List.getElem_toArray, List.getElem_cons_zero, List.getElem_cons_succ, Act.put, List.setIfInBounds_toArray, List.set_cons_zero, List.set_cons_succ]
          refine wpAnyH_done (by decide +kernel) ?_ _
          have c1 : V2.cell? ⟨ga, 1, none⟩ = some (.int .i64 (d.ca + d.v)) := (gbx_cell HS2.out.at' 1).trans rfl
          have NEA : Hid (∀ j, vw.ownBlock = some j → j ≠ ga) := Lib.hid fun j hj => by have h1 := NEW.out j hj; have h2 := HS2.out.ge; omega
          have AV2 : Hid (A3 w2 V2 vo vw ((l.take k).map sd0) ((l.take k).map wt) ga ⟨d.ac, d.ca + d.v, false, 0⟩) := Lib.hid ⟨gown_below OO.out HS2.out.bel, gown_below OW.out HS2.out.bel, HS2.out.at', HB2.out.trans (HS2.out.bel.mono HB2.out.size)⟩
          have BV2 := Lib.hid HS2.out.bel
          have OGA : Hid (∀ j, vo.ownBlock = some j → j ≠ ga) := Lib.hid fun j hj => by have h1 := (gown_lt OO.out hj).2; have h2 := HS2.out.ge; omega
          clear HS1 OO OW
          by_cases hn : d.ca + d.v < 0
          · have dn : decide (d.ca + d.v < 0) = true := decide_eq_true hn
            have vn : decide (d.v < 0) = true := decide_eq_true (by omega)
            have SDX : Hid (sd0 d = ⟨d.ac, 0, true, 0⟩) := Lib.hid (by unfold sd0; rw [if_pos hn, decide_eq_true hn])
            have WTX : Hid (wt d = 0) := Lib.hid (by unfold wt; rw [if_pos (by omega)])
            have f1' : V2.frozen? ⟨ga, 1, none⟩ = false := gbx_fz HS2.out.at' 1
            obtain ⟨V3, hV3⟩ : ∃ V, V2.setCell ⟨ga, 1, none⟩ (.int .i64 0) = V := ⟨_, rfl⟩
            have X3 : Hid (ESd.Bx 34 V3 ga ⟨d.ac, 0, false, 0⟩) := Lib.hid (by rw [← hV3]; exact gbx_put HS2.out.at' rfl)
            have B3 : Hid (Below wr.heap.size wr V3) := Lib.hid (by rw [← hV3]; exact BV2.out.setCell HS2.out.ge _)
            have f2' : V3.frozen? ⟨ga, 2, none⟩ = false := gbx_fz X3.out 2
            have c2' : V3.cell? ⟨ga, 2, none⟩ = some (.bool false) := (gbx_cell X3.out 2).trans rfl
            obtain ⟨V4, hV4⟩ : ∃ V, V3.setCell ⟨ga, 2, none⟩ (.bool true) = V := ⟨_, rfl⟩
            have X4 : Hid (ESd.Bx 34 V4 ga ⟨d.ac, 0, true, 0⟩) := Lib.hid (by rw [← hV4]; exact gbx_put X3.out rfl)
            have B4 : Hid (Below wr.heap.size wr V4) := Lib.hid (by rw [← hV4]; exact B3.out.setCell HS2.out.ge _)
            have AV4 : Hid (A3 w2 V4 vo vw ((l.take k).map sd0) ((l.take k).map wt) ga ⟨d.ac, 0, true, 0⟩) := Lib.hid ⟨(by rw [← hV4, ← hV3]; exact gown_same AV2.out.oo fun j hj => (heap_setCell_other _ _ j _ (fun e => OGA.out j hj e)).trans (heap_setCell_other _ _ j _ (fun e => OGA.out j hj e))), (by rw [← hV4, ← hV3]; exact gown_same AV2.out.ow fun j hj => (heap_setCell_other _ _ j _ (fun e => NEA.out j hj e)).trans (heap_setCell_other _ _ j _ (fun e => NEA.out j hj e))), X4.out, HB2.out.trans (B4.out.mono HB2.out.size)⟩
            have HV3 := Lib.hid hV3
            have HV4 := Lib.hid hV4
            clear hV3 hV4 X3 B3
            by_cases hq : PF < -(d.ca + d.v)
            · have dq : decide (PF < -(d.ca + d.v)) = true := decide_eq_true hq
              obtain ⟨e1, e2⟩ := LSH.out.2.1 (by omega) (by omega)
              have kv := C2.out V4 B4.out
              obtain ⟨WA, hWA⟩ : ∃ W, V4.alloc (.cells #[.int .i64 (0)] 2) = W := ⟨_, rfl⟩
              have AA : Hid (A3 w2 WA vo vw ((l.take k).map sd0) ((l.take k).map wt) ga ⟨d.ac, 0, true, 0⟩) := Lib.hid (by rw [← hWA]; exact AV4.out.alloc _)
              have RDA : Hid (EI13.Rd WA (some ⟨V4.heap.size, 0, none⟩) 1 [0]) := Lib.hid (by rw [← hWA]; exact gown_rd (own_one13 V4 (0)))
              have HWA := Lib.hid hWA
              clear hWA
              go_wp2_with (first | (rw [HV3.out]) | (rw [HV4.out]) | (at_builtin; (try rw [HWA.out]); refine ni_app13 rfl (.tmp 135) (.tmp 137) rfl w2.heap.size vw _ rfl AA.out.ow ⟨V4.heap.size, 0, none⟩ 1 1 [0] rfl RDA.out LW.out AA.out.bel.size ?_; intro v3 w3 o3 g3 n3; have A4 := Lib.hid (AA.out.appW g3 o3 NEA.out); obtain ⟨WB, hWB⟩ : ∃ W, w3.alloc (.cells (ESd.cells ⟨d.ac, 0, true, 0⟩).toArray 34) = W := ⟨_, rfl⟩; have HWB := Lib.hid hWB; have AB : Hid (A3 w2 WB vo v3 _ _ ga ⟨d.ac, 0, true, 0⟩) := Lib.hid (by rw [← hWB]; exact A4.out.alloc _); have XB : Hid (ESd.Bx 34 WB w3.heap.size ⟨d.ac, 0, true, 0⟩) := Lib.hid (by rw [← hWB]; exact gbx_new w3 _); clear hWB o3 g3 n3) | ((with_reducible refine gwl_load TSd ga 0 (gbx_rng A4.out.bx) ?_ ?_ ?_); rfl; rfl) | ((with_reducible refine gwl_bs TSd (s := ⟨d.ac, 0, true, 0⟩) ?_ (fill_sd _) ?_ (by decide)); rfl; rw [HWB.out]) | (at_builtin; refine gpl_app TSd rfl (.tmp 139) (.tmp 141) rfl w2.heap.size vo _ rfl AB.out.oo _ 1 1 [⟨d.ac, 0, true, 0⟩] rfl (gbx_rd XB.out) (fun e => by cases e) LO.out AB.out.bel.size ?_; intro v4 w4 o4 g4 n4))
              have FI := Lib.hid (AB.out.appO g4)
              have O4 := Lib.hid o4
              clear o4 g4 n4
              go_roundw
              case rel => exact ⟨k + 1, v4, v3, hlt, by go_num, by rw [e2]; try (congr 1; omega), by rw [e1]; try (congr 1; omega), rfl, rfl, by rw [SM.out, SDX.out]; exact O4.out, by rw [WM.out, WTX.out]; exact FI.out.1, FI.out.2⟩
              case measure => simp [intOf]; omega
            · have dq : decide (PF < -(d.ca + d.v)) = false := decide_eq_false hq
              obtain ⟨e1, e2⟩ := LSH.out.2.2 (by omega) (by omega)
              have kv := C2.out V4 B4.out
              obtain ⟨WA, hWA⟩ : ∃ W, V4.alloc (.cells #[.int .i64 (0)] 2) = W := ⟨_, rfl⟩
              have AA : Hid (A3 w2 WA vo vw ((l.take k).map sd0) ((l.take k).map wt) ga ⟨d.ac, 0, true, 0⟩) := Lib.hid (by rw [← hWA]; exact AV4.out.alloc _)
              have RDA : Hid (EI13.Rd WA (some ⟨V4.heap.size, 0, none⟩) 1 [0]) := Lib.hid (by rw [← hWA]; exact gown_rd (own_one13 V4 (0)))
              have HWA := Lib.hid hWA
              clear hWA
              go_wp2_with (first | (rw [HV3.out]) | (rw [HV4.out]) | (at_builtin; (try rw [HWA.out]); refine ni_app13 rfl (.tmp 135) (.tmp 137) rfl w2.heap.size vw _ rfl AA.out.ow ⟨V4.heap.size, 0, none⟩ 1 1 [0] rfl RDA.out LW.out AA.out.bel.size ?_; intro v3 w3 o3 g3 n3; have A4 := Lib.hid (AA.out.appW g3 o3 NEA.out); obtain ⟨WB, hWB⟩ : ∃ W, w3.alloc (.cells (ESd.cells ⟨d.ac, 0, true, 0⟩).toArray 34) = W := ⟨_, rfl⟩; have HWB := Lib.hid hWB; have AB : Hid (A3 w2 WB vo v3 _ _ ga ⟨d.ac, 0, true, 0⟩) := Lib.hid (by rw [← hWB]; exact A4.out.alloc _); have XB : Hid (ESd.Bx 34 WB w3.heap.size ⟨d.ac, 0, true, 0⟩) := Lib.hid (by rw [← hWB]; exact gbx_new w3 _); clear hWB o3 g3 n3) | ((with_reducible refine gwl_load TSd ga 0 (gbx_rng A4.out.bx) ?_ ?_ ?_); rfl; rfl) | ((with_reducible refine gwl_bs TSd (s := ⟨d.ac, 0, true, 0⟩) ?_ (fill_sd _) ?_ (by decide)); rfl; rw [HWB.out]) | (at_builtin; refine gpl_app TSd rfl (.tmp 139) (.tmp 141) rfl w2.heap.size vo _ rfl AB.out.oo _ 1 1 [⟨d.ac, 0, true, 0⟩] rfl (gbx_rd XB.out) (fun e => by cases e) LO.out AB.out.bel.size ?_; intro v4 w4 o4 g4 n4))
              have FI := Lib.hid (AB.out.appO g4)
              have O4 := Lib.hid o4
              clear o4 g4 n4
              go_roundw
              case rel => exact ⟨k + 1, v4, v3, hlt, by go_num, by rw [e2]; try (congr 1; omega), by rw [e1]; try (congr 1; omega), rfl, rfl, by rw [SM.out, SDX.out]; exact O4.out, by rw [WM.out, WTX.out]; exact FI.out.1, FI.out.2⟩
              case measure => simp [intOf]; omega
          · have dn : decide (d.ca + d.v < 0) = false := decide_eq_false hn
            have SDX : Hid (sd0 d = ⟨d.ac, d.ca + d.v, false, 0⟩) := Lib.hid (by unfold sd0; rw [if_neg hn, decide_eq_false hn])
            obtain ⟨e1, e2⟩ := LSH.out.1 (by omega)
            by_cases hv : d.v < 0
            · have vn : decide (d.v < 0) = true := decide_eq_true hv
              have WTX : Hid (wt d = 0) := Lib.hid (by unfold wt; rw [if_pos hv])
              have kv := C2.out V2 BV2.out
              obtain ⟨WA, hWA⟩ : ∃ W, V2.alloc (.cells #[.int .i64 (0)] 2) = W := ⟨_, rfl⟩
              have AA : Hid (A3 w2 WA vo vw ((l.take k).map sd0) ((l.take k).map wt) ga ⟨d.ac, d.ca + d.v, false, 0⟩) := Lib.hid (by rw [← hWA]; exact AV2.out.alloc _)
              have RDA : Hid (EI13.Rd WA (some ⟨V2.heap.size, 0, none⟩) 1 [0]) := Lib.hid (by rw [← hWA]; exact gown_rd (own_one13 V2 (0)))
              have HWA := Lib.hid hWA
              clear hWA
              go_wp2_with (first | (rw [HV3.out]) | (rw [HV4.out]) | (at_builtin; (try rw [HWA.out]); refine ni_app13 rfl (.tmp 135) (.tmp 137) rfl w2.heap.size vw _ rfl AA.out.ow ⟨V2.heap.size, 0, none⟩ 1 1 [0] rfl RDA.out LW.out AA.out.bel.size ?_; intro v3 w3 o3 g3 n3; have A4 := Lib.hid (AA.out.appW g3 o3 NEA.out); obtain ⟨WB, hWB⟩ : ∃ W, w3.alloc (.cells (ESd.cells ⟨d.ac, d.ca + d.v, false, 0⟩).toArray 34) = W := ⟨_, rfl⟩; have HWB := Lib.hid hWB; have AB : Hid (A3 w2 WB vo v3 _ _ ga ⟨d.ac, d.ca + d.v, false, 0⟩) := Lib.hid (by rw [← hWB]; exact A4.out.alloc _); have XB : Hid (ESd.Bx 34 WB w3.heap.size ⟨d.ac, d.ca + d.v, false, 0⟩) := Lib.hid (by rw [← hWB]; exact gbx_new w3 _); clear hWB o3 g3 n3) | ((with_reducible refine gwl_load TSd ga 0 (gbx_rng A4.out.bx) ?_ ?_ ?_); rfl; rfl) | ((with_reducible refine gwl_bs TSd (s := ⟨d.ac, d.ca + d.v, false, 0⟩) ?_ (fill_sd _) ?_ (by decide)); rfl; rw [HWB.out]) | (at_builtin; refine gpl_app TSd rfl (.tmp 139) (.tmp 141) rfl w2.heap.size vo _ rfl AB.out.oo _ 1 1 [⟨d.ac, d.ca + d.v, false, 0⟩] rfl (gbx_rd XB.out) (fun e => by cases e) LO.out AB.out.bel.size ?_; intro v4 w4 o4 g4 n4))
              have FI := Lib.hid (AB.out.appO g4)
              have O4 := Lib.hid o4
              clear o4 g4 n4
              go_roundw
              case rel => exact ⟨k + 1, v4, v3, hlt, by go_num, by rw [e2]; try (congr 1; omega), by rw [e1]; try (congr 1; omega), rfl, rfl, by rw [SM.out, SDX.out]; exact O4.out, by rw [WM.out, WTX.out]; exact FI.out.1, FI.out.2⟩
              case measure => simp [intOf]; omega
            · have vn : decide (d.v < 0) = false := decide_eq_false hv
              have WTX : Hid (wt d = d.v) := Lib.hid (by unfold wt; rw [if_neg hv])
              have kv := C2.out V2 BV2.out
              obtain ⟨WA, hWA⟩ : ∃ W, V2.alloc (.cells #[.int .i64 (d.v)] 2) = W := ⟨_, rfl⟩
              have AA : Hid (A3 w2 WA vo vw ((l.take k).map sd0) ((l.take k).map wt) ga ⟨d.ac, d.ca + d.v, false, 0⟩) := Lib.hid (by rw [← hWA]; exact AV2.out.alloc _)
              have RDA : Hid (EI13.Rd WA (some ⟨V2.heap.size, 0, none⟩) 1 [d.v]) := Lib.hid (by rw [← hWA]; exact gown_rd (own_one13 V2 (d.v)))
              have HWA := Lib.hid hWA
              clear hWA
              go_wp2_with (first | (rw [HV3.out]) | (rw [HV4.out]) | (at_builtin; (try rw [HWA.out]); refine ni_app13 rfl (.tmp 135) (.tmp 137) rfl w2.heap.size vw _ rfl AA.out.ow ⟨V2.heap.size, 0, none⟩ 1 1 [d.v] rfl RDA.out LW.out AA.out.bel.size ?_; intro v3 w3 o3 g3 n3; have A4 := Lib.hid (AA.out.appW g3 o3 NEA.out); obtain ⟨WB, hWB⟩ : ∃ W, w3.alloc (.cells (ESd.cells ⟨d.ac, d.ca + d.v, false, 0⟩).toArray 34) = W := ⟨_, rfl⟩; have HWB := Lib.hid hWB; have AB : Hid (A3 w2 WB vo v3 _ _ ga ⟨d.ac, d.ca + d.v, false, 0⟩) := Lib.hid (by rw [← hWB]; exact A4.out.alloc _); have XB : Hid (ESd.Bx 34 WB w3.heap.size ⟨d.ac, d.ca + d.v, false, 0⟩) := Lib.hid (by rw [← hWB]; exact gbx_new w3 _); clear hWB o3 g3 n3) | ((with_reducible refine gwl_load TSd ga 0 (gbx_rng A4.out.bx) ?_ ?_ ?_); rfl; rfl) | ((with_reducible refine gwl_bs TSd (s := ⟨d.ac, d.ca + d.v, false, 0⟩) ?_ (fill_sd _) ?_ (by decide)); rfl; rw [HWB.out]) | (at_builtin; refine gpl_app TSd rfl (.tmp 139) (.tmp 141) rfl w2.heap.size vo _ rfl AB.out.oo _ 1 1 [⟨d.ac, d.ca + d.v, false, 0⟩] rfl (gbx_rd XB.out) (fun e => by cases e) LO.out AB.out.bel.size ?_; intro v4 w4 o4 g4 n4))
              have FI := Lib.hid (AB.out.appO g4)
              have O4 := Lib.hid o4
              clear o4 g4 n4
              go_roundw
              case rel => exact ⟨k + 1, v4, v3, hlt, by go_num, by rw [e2]; try (congr 1; omega), by rw [e1]; try (congr 1; omega), rfl, rfl, by rw [SM.out, SDX.out]; exact O4.out, by rw [WM.out, WTX.out]; exact FI.out.1, FI.out.2⟩
              case measure => simp [intOf]; omega
        case neg =>
          obtain rfl : len = k := by omega
          have et : l.take len = l := List.take_of_length_le (by rw [NL.out]; exact Nat.le_refl _)
          rw [et] at OO OW SB ⊢
          clear et
          obtain ⟨g, hg⟩ := M.out.ord
          have CP := Lib.hid (M.out.pt hg)
          have SE0 := Lib.hid M.out.se
          have OUTE : Hid (outS f l = List.zipWith less (l.map sd0) (cuts (leftS f l) (l.map wt))) := Lib.hid rfl
          have KEP := Lib.hid fun (t : Nat) (x : Du) (hx : l[t]? = some x) => M.out.kept hx
          have CLEN : Hid ((l.map sd0).length = (cuts (leftS f l) (l.map wt)).length) := Lib.hid (by rw [cuts_len, List.length_map, List.length_map])
          obtain ⟨Ao, co, rfl, -⟩ := gown_form OO.out
          obtain ⟨Aw, cw, rfl, -⟩ := gown_form OW.out
          have lo : (l.map sd0).length = len := by rw [List.length_map]; exact NL.out
          have lw : (l.map wt).length = len := by rw [List.length_map]; exact NL.out
          have RW2 := rd_ei13 (gown_rd OW.out)
          rw [lo] at OO ⊢
          rw [lw] at RW2 ⊢
          have SP := Lib.hid (refsplit_any Aw len cw (l.map wt) (leftS f l) g wr RW2 M.out.wi (by unfold I64; omega) (by omega) false M.out.ng (fun _ hT => hg hT))
          obtain ⟨CS, hCS⟩ : ∃ c, cuts (leftS f l) (l.map wt) = c := ⟨_, rfl⟩
          rw [hCS] at CP OUTE CLEN
          obtain ⟨SL, hSL⟩ : ∃ c, l.map sd0 = c := ⟨_, rfl⟩
          rw [hSL] at OO OUTE CLEN lo
          have SL0 := Lib.hid fun (t : Nat) (x : Du) (hx : l[t]? = some x) => (show SL[t]? = some (sd0 x) by rw [← hSL, List.getElem?_map, hx]; rfl)
          have CS0 := Lib.hid fun (t : Nat) (x : Du) (hx : l[t]? = some x) => (show ∃ c, CS[t]? = some c ∧ 0 ≤ c ∧ c ≤ wt x by
            obtain ⟨c, h1, h2⟩ := out_at (f := f) hx
            rw [hCS] at h1
            refine ⟨c, h1, ?_⟩
            obtain ⟨c', k1, k2, k3, -⟩ := KEP.out t x hx
            rw [h2] at k1
            have := congrArg Sd.cu (Option.some.inj k1)
            have e : c = c' := this
            rw [e]
            exact ⟨k2, k3⟩)
          have INS := Lib.hid M.out.ins
          obtain ⟨PL, hPL⟩ : ∃ x, leftS f l = x := ⟨_, rfl⟩
          rw [hPL] at SP CP SE0
          rw [hPL]
          clear OW RW2 hg hCS hSL hPL M KEP HR
          go_wp2_with fail
          refine SP.out.mono ?_; rintro e w3 ⟨A3', n3, c3, zs, rfl, rz, hz, -, q3, fr3⟩
          rw [SE0.out]
          have hz' := (hz SE0.out).trans CP.out
          subst hz'
          have ln3 : n3 = len := by rw [← rz.1, ← CLEN.out, lo]
          subst ln3
          have RZ := Lib.hid rz
          have O3 := Lib.hid (gown_below OO.out q3)
          have B3 := Lib.hid (B0.out.trans (q3.mono B0.out.size))
          have FRS := Lib.hid fr3
          have OLT : Hid (∀ b c, Ao = some ⟨b, c, none⟩ → b < wr.heap.size) := Lib.hid fun b c e => (gown_lt OO.out (by rw [e]; rfl)).2
          have N2 : Hid (w.heap.size ≤ w2.heap.size) := Lib.hid B2.out.size
          clear rz hz q3 fr3 OO SP CP
          go_wp2_with fail
          go_loopw [19] (fun i wx => ∃ k : Nat, k ≤ n3 ∧ i = .int .i64 k ∧ ESd.Own 34 wx w2.heap.size (.slice Ao n3 co) (mixS SL zs k) ∧ Rd wx A3' n3 zs ∧ Below w.heap.size w wx) (fun i _ => n3 - (intOf i).toNat)
          case atStart => exact ⟨0, Nat.zero_le _, rfl, by rw [mixS_zero]; exact O3.out, RZ.out, B3.out⟩
          case round =>
            obtain ⟨k, hk, rfl, ok, rk, bk⟩ := hrel
            have OK := Lib.hid ok
            have RK := Lib.hid rk
            have BK := Lib.hid bk
            clear ok rk bk
            by_cases hlt : k < n3
            case neg =>
              obtain rfl : n3 = k := by omega
              have RT := Lib.hid (gown_rd OK.out)
              have em : mixS SL zs n3 = outS f l := by rw [OUTE.out, ← lo]; exact mixS_all CLEN.out
              rw [em] at RT
              clear em
              go_wp2_with fail
              go_ret3
              exact toldS_ok EV.out NL.out RT.out BK.out
            case pos =>
              have hki : (k : Int) < (n3 : Int) := by omega
              have hdk : decide ((k : Int) < (n3 : Int)) = true := decide_eq_true hki
              obtain ⟨d, hd⟩ : ∃ d, l[k]? = some d := ⟨l[k]'(by have := NL.out; omega), List.getElem?_eq_getElem _⟩
              have IN := INS.out d (List.mem_of_getElem? hd)
              obtain ⟨c, hc, z0, z1⟩ := CS0.out k d hd
              have hs := SL0.out k d hd
              have MA := mixS_at CLEN.out hs
              have MS := Lib.hid (mixS_set CLEN.out hs hc)
              obtain ⟨x, hx⟩ : ∃ x, sd0 d = x := ⟨_, rfl⟩
              have XB : (x.ca = 0 ∨ x.ca = d.ca + d.v) := by rw [← hx]; unfold sd0; dsimp only; split <;> simp
              have XC : x.cu = 0 := by rw [← hx]; rfl
              rw [hx] at MA MS
              have ML : (mixS SL zs k).length = n3 := by rw [mixS_len CLEN.out, lo]
              obtain ⟨bo, c', hv⟩ := gown_slot OK.out (by omega)
              rw [ML] at hv
              injection hv with hA _ hcc
              subst hA hcc
              obtain ⟨b3, o3, rfl, hcell⟩ := RK.out.2 (by omega)
              have NE : b3 ≠ bo := by
                have h1 := FRS.out _ rfl
                have h2 := OLT.out bo 0 rfl
                dsimp only at h1
                omega
              have kc := hcell k hlt
              have hzc : zs.getD k 0 = c := by rw [List.getD, hc]; rfl
              rw [hzc] at kc
              have cw' : 0 ≤ c ∧ c ≤ 100000000000000000 := by have := wt_bd IN; omega
              unfold In at IN
              have xb : -100000000000000000 ≤ x.ca ∧ x.ca ≤ 101000000000000000 := by omega
              have q3' : wr.cell? ⟨bo, k * 4 + 3, none⟩ = some (.int .i64 x.cu) := (gown_at OK.out MA (i := 3) (by decide)).trans rfl
              have z3' : wr.frozen? ⟨bo, k * 4 + 3, none⟩ = false := gown_fz OK.out _
              obtain ⟨W5, hW5⟩ : ∃ W, wr.setCell ⟨bo, k * 4 + 3, none⟩ (.int .i64 c) = W := ⟨_, rfl⟩
              have O5 : Hid (ESd.Own 34 W5 w2.heap.size (.slice (some ⟨bo, 0, none⟩) n3 co) ((mixS SL zs k).set k ⟨x.ac, x.ca, x.de, c⟩)) := Lib.hid (by rw [← hW5]; exact gown_put OK.out MA (i := 3) (by decide) (sd_setc x c))
              have GE : Hid (w2.heap.size ≤ bo) := Lib.hid (gown_lt OK.out (k := bo) rfl).1
              have M5 : ((mixS SL zs k).set k ⟨x.ac, x.ca, x.de, c⟩)[k]? = some ⟨x.ac, x.ca, x.de, c⟩ := by rw [List.getElem?_set_self (by omega)]
              have B5 : Hid (Below w.heap.size w W5) := Lib.hid (by rw [← hW5]; exact BK.out.setCell (show w.heap.size ≤ bo by have := N2.out; have := GE.out; omega) _)
              have R5 : Hid (∀ U, Fr (fun k => k = bo) wr U → Rd U (some ⟨b3, o3, none⟩) n3 zs) := Lib.hid fun U hU => ⟨RK.out.1, fun hn => ⟨b3, o3, rfl, fun j hj => (fr_cell13 hU (World.block_lt_of_cell? wr _ (hcell j hj)) NE (o3 + j)).trans (hcell j hj)⟩⟩
              have F5 : Hid (Fr (fun k => k = bo) wr W5) := Lib.hid (by rw [← hW5]; exact Fr.set (S := fun k => k = bo) (p := ⟨bo, k * 4 + 3, none⟩) rfl _)
              have KC : Hid (∀ U, Fr (fun k => k = bo) W5 U → U.cell? ⟨b3, o3 + k, none⟩ = some (.int .i64 c)) := Lib.hid fun U hU => by
                obtain ⟨b', o', e', h'⟩ := (R5.out U (F5.out.same hU)).2 (by omega)
                cases e'
                rw [h' k hlt, hzc]
              have HW5 := Lib.hid hW5
              have MS5 : Hid ((((mixS SL zs k).set k ⟨x.ac, x.ca, x.de, c⟩).set k ⟨x.ac, x.ca - c, x.de, c⟩) = mixS SL zs (k + 1)) := Lib.hid (by rw [List.set_set]; exact MS.out)
              clear hd hs hc MA MS hx hcell hW5 IN hzc z0 z1 XB
              go_wp2_with (rw [HW5.out])
              refine wp_region_held_drew (S := fun U => Fr (fun k => k = bo) W5 U) (by kernel_rfl) ((Fr.refl _ _).drewN 1) (fun hH => ?_)
              have HH := Lib.hid hH
              refine wpAnyH_take (i := 0) (v := .slice (some ⟨bo, 0, none⟩) n3 co) rfl (by kernel_rfl) (by kernel_rfl) (by kernel_rfl) (fun _ _ _ h => h) (.inl ⟨by rfl, ?_⟩) (by assumption) ?_
              · intro W hW; go_simp
              try simp only [List.getElem_toArray, List.getElem_cons_zero, Act.put, List.setIfInBounds_toArray, List.set_cons_zero, List.set_cons_succ]
              refine wpAnyH_take (i := 1) (v := .int .i64 k) rfl (by kernel_rfl) (by kernel_rfl) (by kernel_rfl) (fun _ _ _ h => h) (.inl ⟨by rfl, ?_⟩) (by assumption) ?_
              · intro W hW; go_simp
              try simp only [List.getElem_toArray, List.getElem_cons_zero, List.getElem_cons_succ, Act.put, List.setIfInBounds_toArray, List.set_cons_zero, List.set_cons_succ]
              refine wpAnyH_take (i := 2) (v := .slice (some ⟨bo, 0, none⟩) n3 co) rfl (by kernel_rfl) (by kernel_rfl) (by kernel_rfl) (fun _ _ _ h => h) (.inl ⟨by rfl, ?_⟩) (by assumption) ?_
              · intro W hW; go_simp
              try simp only [List.getElem_toArray, List.getElem_cons_zero, List.getElem_cons_succ, Act.put, List.setIfInBounds_toArray, List.set_cons_zero, List.set_cons_succ]
              refine wpAnyH_take (i := 3) (v := .int .i64 k) rfl (by kernel_rfl) (by kernel_rfl) (by kernel_rfl) (fun _ _ _ h => h) (.inl ⟨by rfl, ?_⟩) (by assumption) ?_
              · intro W hW; go_simp
              try simp only [List.getElem_toArray, List.getElem_cons_zero, List.getElem_cons_succ, Act.put, List.setIfInBounds_toArray, List.set_cons_zero, List.set_cons_succ]
              refine wpAnyH_take (i := 4) (v := .pointer (some ⟨bo, k * 4, none⟩)) rfl (by kernel_rfl) (by kernel_rfl) (by kernel_rfl) (fun _ _ _ h => h) (.inl ⟨by rfl, ?_⟩) (by assumption) ?_
              · intro W hW; go_simp
              try simp only [List.getElem_toArray, List.getElem_cons_zero, List.getElem_cons_succ, Act.put, List.setIfInBounds_toArray, List.set_cons_zero, List.set_cons_succ]
              refine wpAnyH_take (i := 5) (v := .pointer (some ⟨bo, k * 4 + 1, none⟩)) rfl (by kernel_rfl) (by kernel_rfl) (by kernel_rfl) (fun _ _ _ h => h) (.inl ⟨by rfl, ?_⟩) (by assumption) ?_
              · intro W hW; go_simp
              try simp only [List.getElem_toArray, List.getElem_cons_zero, List.getElem_cons_succ, Act.put, List.setIfInBounds_toArray, List.set_cons_zero, List.set_cons_succ]
              refine wpAnyH_take (i := 7) (v := .slice (some ⟨b3, o3, none⟩) n3 c3) rfl (by kernel_rfl) (by kernel_rfl) (by kernel_rfl) (fun _ _ _ h => h) (.inl ⟨by rfl, ?_⟩) (by assumption) ?_
              · intro W hW; go_simp
              try simp only [List.getElem_toArray, List.getElem_cons_zero, List.getElem_cons_succ, Act.put, List.setIfInBounds_toArray, List.set_cons_zero, List.set_cons_succ]
              refine wpAnyH_take (i := 8) (v := .int .i64 k) rfl (by kernel_rfl) (by kernel_rfl) (by kernel_rfl) (fun _ _ _ h => h) (.inl ⟨by rfl, ?_⟩) (by assumption) ?_
              · intro W hW; go_simp
              try simp only [List.getElem_toArray, List.getElem_cons_zero, List.getElem_cons_succ, Act.put, List.setIfInBounds_toArray, List.set_cons_zero, List.set_cons_succ]
              refine wpAnyH_take (i := 9) (v := .pointer (some ⟨b3, o3 + k, none⟩)) rfl (by kernel_rfl) (by kernel_rfl) (by kernel_rfl) (fun _ _ _ h => h) (.inl ⟨by rfl, ?_⟩) (by assumption) ?_
              · intro W hW; go_simp
              try simp only [List.getElem_toArray, List.getElem_cons_zero, List.getElem_cons_succ, Act.put, List.setIfInBounds_toArray, List.set_cons_zero, List.set_cons_succ]
              refine wpAnyH_take (i := 10) (v := .int .i64 c) rfl (by kernel_rfl) (by kernel_rfl) (by kernel_rfl) (fun _ _ _ h => h) (.inl ⟨by rfl, ?_⟩) (by assumption) ?_
              · intro W hW; have cc := KC.out W hW; go_simp
              try simp only [List.getElem_toArray, List.getElem_cons_zero, List.getElem_cons_succ, Act.put, List.setIfInBounds_toArray, List.set_cons_zero, List.set_cons_succ]
              have k1 : W5.cell? ⟨bo, k * 4 + 1, none⟩ = some (.int .i64 x.ca) := (gown_at O5.out M5 (i := 1) (by decide)).trans rfl
              refine wpAnyH_ready (rs := [6]) (by decide +kernel) (by simp) (AllReadyH.cons rfl (fun KQ hK => ?_) AllReadyH.nil)
              go_simp
              refine hK.out _ _ HH.out (fun _ => ?_)
              clear hK
              try simp only [List.setIfInBounds_toArray, List.set_cons_zero, List.set_cons_succ]
              refine wpAnyH_take (i := 11) (v := .int .i64 (x.ca - c)) rfl (by kernel_rfl) (by kernel_rfl) (by kernel_rfl) (fun _ _ _ h => h) (.inl ⟨by rfl, ?_⟩) (by assumption) ?_
              · intro W hW; go_simp; rw [IntKind.wrap_i64]; omega
              try simp only [List.getElem_toArray, List.getElem_cons_zero, List.getElem_cons_succ, Act.put, List.setIfInBounds_toArray, List.set_cons_zero, List.set_cons_succ]
              refine wpAnyH_take (i := 12) (v := .pointer (some ⟨bo, k * 4, none⟩)) rfl (by kernel_rfl) (by kernel_rfl) (by kernel_rfl) (fun _ _ _ h => h) (.inl ⟨by rfl, ?_⟩) (by assumption) ?_
              · intro W hW; go_simp
              try simp only [List.getElem_toArray, List.getElem_cons_zero, List.getElem_cons_succ, Act.put, List.setIfInBounds_toArray, List.set_cons_zero, List.set_cons_succ]
              refine wpAnyH_take (i := 13) (v := .pointer (some ⟨bo, k * 4 + 1, none⟩)) rfl (by kernel_rfl) (by kernel_rfl) (by kernel_rfl) (fun _ _ _ h => h) (.inl ⟨by rfl, ?_⟩) (by assumption) ?_
              · intro W hW; go_simp
              try simp only [List.getElem_toArray, List.getElem_cons_zero, List.getElem_cons_succ, Act.put, List.setIfInBounds_toArray, List.set_cons_zero, List.set_cons_succ]
              have z1' : W5.frozen? ⟨bo, k * 4 + 1, none⟩ = false := gown_fz O5.out _
              refine wpAnyH_ready (rs := [14]) (by decide +kernel) (by simp) (AllReadyH.cons rfl (fun KQ hK => ?_) AllReadyH.nil)
              go_simp
              have O6 : Hid (ESd.Own 34 (W5.drew.setCell ⟨bo, k * 4 + 1, none⟩ (.int .i64 (x.ca - c))) w2.heap.size (.slice (some ⟨bo, 0, none⟩) n3 co) (((mixS SL zs k).set k ⟨x.ac, x.ca, x.de, c⟩).set k ⟨x.ac, x.ca - c, x.de, c⟩)) := Lib.hid (gown_put (w := W5.drew) (gown_same O5.out fun _ _ => rfl) M5 (i := 1) (by decide) (sd_seta ⟨x.ac, x.ca, x.de, c⟩ (x.ca - c)))
              have F6 := Lib.hid (HH.out.same (Fr.set (S := fun k => k = bo) (p := ⟨bo, k * 4 + 1, none⟩) rfl (.int .i64 (x.ca - c))))
              have B6 : Hid (Below w.heap.size w (W5.drew.setCell ⟨bo, k * 4 + 1, none⟩ (.int .i64 (x.ca - c)))) := Lib.hid (B5.out.drew.setCell (show w.heap.size ≤ bo by have := N2.out; have := GE.out; omega) _)
              obtain ⟨W6, hW6⟩ : ∃ W, W5.drew.setCell ⟨bo, k * 4 + 1, none⟩ (.int .i64 (x.ca - c)) = W := ⟨_, rfl⟩
              rw [hW6] at O6 F6 B6
              rw [show (W5.setCell ⟨bo, k * 4 + 1, none⟩ (.int .i64 (x.ca - c))).drew = W6 from hW6]
              refine hK.out _ _ F6.out (fun _ => ?_)
              clear hK k1 z1' hW6
              try simp only [List.setIfInBounds_toArray, List.set_cons_zero, List.set_cons_succ]
              refine wpAnyH_done (by decide +kernel) ?_ _
              have R6 := Lib.hid (R5.out W6 (F5.out.same F6.out))
              go_wp2_with fail
              go_roundw
              case rel => exact ⟨k + 1, hlt, by go_num, by rw [← MS5.out]; exact O6.out, R6.out, B6.out⟩
              case measure => simp [intOf]; omega
end Go.Proofs.Ytlbekdpmfjhjhaa
