/- The program's ledger: Deposit, Withdraw, Set (by genMf.py). -/
import Derived.Test.YthnmpnepgagmmaaMd
import Derived.Test.YthnmpnepgagmmaaMe
namespace Go.Proofs.Ythnmpnepgagmmaa
open Go.RowKit Go.Shelf
set_option linter.unusedVariables false
set_option linter.unusedSimpArgs false
set_option linter.unusedSectionVars false

/-- Behind a call on it. -/
def AfL (w : World) (g ba bp : Nat) (L : Lg) (w' : World) : Prop := Dl w' g ba bp L ∧ Fr (LdS g ba bp) w w'
theorem AfL.below {w w' : World} {g ba bp : Nat} {L : Lg} (h : Dl w g ba bp L) (q : Below w.heap.size w w') : AfL w g ba bp L w' := ⟨h.below q, Fr.below q⟩
theorem AfL.then {w w1 w' : World} {g ba bp : Nat} {L : Lg} (q : Below w.heap.size w w1) (h : AfL w1 g ba bp L w') : AfL w g ba bp L w' := ⟨h.1, (Fr.below q).same h.2⟩
section
variable {L : Lg} {n m : Int}
theorem getL_er (L : Lg) (n : Int) : (getL L n).2 = 0 ∨ (getL L n).2 = 7 := by
  rcases getL_cases L n with ⟨_, e⟩ | ⟨_, _, e⟩ | ⟨a, _, _, _, _, e⟩ <;> rw [e] <;> simp
theorem dep_inv (h : LgI L) (hn : U32' n) (e : depE L n m = 0) : LgI (setA L ⟨n, (getL L n).1.ca + m, (getL L n).1.ki, (getL L n).1.de⟩) := by
  unfold depE at e
  split at e
  · cases e
  · rename_i c1
    split at e
    · cases e
    · rename_i c2
      split at e
      · cases e
      · rename_i c3
        have hm : 1 ≤ m ∧ m ≤ mF := by simpa [oneB] using c1
        have hc := getL_ca h n
        refine setA_inv h hn ⟨by show 0 ≤ _ + m; omega, ?_⟩ (fun h0 => ?_)
        · show (getL L n).1.ca + m ≤ mF
          have hcb := cash_bound fun a ha => (h.aok a ha).2
          have hf := h.fund
          unfold fundsL at c3
          rcases getL_cases L n with ⟨_, E⟩ | ⟨_, _, E⟩ | ⟨a, _, ea, ha, _, E⟩
          · rw [E]; show L.fund + m ≤ mF; omega
          · rw [E]; show 0 + m ≤ mF; omega
          · rw [E]; show a.ca + m ≤ mF
            obtain ⟨A, C, hA⟩ := List.append_of_mem ha
            have h1 : cashL L.al = a.ca + (cashL A + cashL C) := by rw [hA]; simp [cashL]; omega
            have h2 := cash_bound (l := A) fun x hx => (h.aok x (by rw [hA]; exact List.mem_append_left _ hx)).2
            have h3 := cash_bound (l := C) fun x hx => (h.aok x (by rw [hA]; exact List.mem_append_right _ (List.mem_cons_of_mem _ hx))).2
            omega
        · have h0' : n ≠ 0 := h0
          rcases getL_cases L n with ⟨z, E⟩ | ⟨_, _, E⟩ | ⟨a, _, ea, ha, ea2, E⟩
          · exact absurd z h0'
          · rw [E] at c2
            left
            show L.al.length < 64
            simp at c2
            omega
          · exact .inr ⟨a, ha, ea2⟩
theorem wit_inv (h : LgI L) (hn : U32' n) (e : witE L n m = 0) : LgI (setA L ⟨(getL L n).1.nu, (getL L n).1.ca - m, (getL L n).1.ki, (getL L n).1.de⟩) := by
  unfold witE at e
  split at e
  · cases e
  · rename_i c1
    split at e
    · rename_i c2; exact absurd e c2
    · split at e
      · cases e
      · rename_i c3
        have hm : 1 ≤ m ∧ m ≤ mF := by
          have : ¬ oneB m mF = false := fun c => c1 (.inr c)
          simpa [oneB] using this
        have hc := getL_ca h n
        refine setA_inv h (getL_nu h hn) ⟨by show 0 ≤ _ - m; omega, by show _ - m ≤ mF; omega⟩ (fun h0 => ?_)
        rcases getL_cases L n with ⟨z, E⟩ | ⟨_, _, E⟩ | ⟨a, _, ea, ha, ea2, E⟩
        · exact absurd (.inl z) c1
        · rename_i c2 _ _; rw [E] at c2; simp at c2
        · rw [E]; exact .inr ⟨a, ha, rfl⟩
theorem set_inv {a : Ac} (h : LgI L) (ha : U32' a.nu) (e : setE L a = 0) : LgI (setA L a) := by
  unfold setE at e
  split at e
  · cases e
  · rename_i c1
    refine setA_inv h ha ⟨by
      have : ¬ a.ca < 0 := fun c => c1 (.inl (.inl c))
      omega, by
      have : ¬ mF < a.ca := fun c => c1 (.inl (.inr c))
      omega⟩ (fun h0 => ?_)
    rcases getL_cases L a.nu with ⟨z, E⟩ | ⟨_, _, E⟩ | ⟨y, _, ea, hy, ea2, E⟩
    · exact absurd z h0
    · rw [E] at e; cases e
    · exact .inr ⟨y, hy, ea2⟩
end
theorem cut9 {P : Prop} (h : Hid P) : P := h.out
set_option maxRecDepth 100000 in
set_option maxHeartbeats 4000000 in
theorem ldep9 {g ba bp : Nat} {L : Lg} (n m : Int) (w : World) (h : Dl w g ba bp L) (hn : U32' n) :
    Calls Try.prog 7 #[.pointer (some ⟨g, 0, none⟩), .int .u32 n, .int .i64 m] w fun e w' => e = .returned (.int .i64 (depE L n m)) ∧ AfL w g ba bp (depL L n m) w' := by
  have hz := zero_ac
  have G := Lib.hid (lget9 n w h hn)
  have MS := Lib.hid (lmiss9 h)
  have HD := Lib.hid h
  have HN := Lib.hid hn
  have ON := Lib.hid (lone9 m 1000000000000000)
  have NEW := Lib.hid newA9
  have HO : Hid (oneB m 1000000000000000 = true → 1 ≤ m ∧ m ≤ 1000000000000000) := Lib.hid (fun c => by simpa [oneB] using c)
  have FZ : Hid (∀ W, Dl W g ba bp L → ∀ ty, (Builtin.len_ #[57] ty #[.map (some ba)]).run Try.prog W = .ok (.int .i64 L.al.length) W) := Lib.hid fun W hd ty => hd.ma.len Try.underlying57 ty
  have er7 := getL_er L n
  have FB := Lib.hid (funds_bound h.inv)
  have CA := Lib.hid (getL_ca h.inv n)
  have DI : Hid (depE L n m = 0 → LgI (setA L ⟨n, (getL L n).1.ca + m, (getL L n).1.ki, (getL L n).1.de⟩)) := Lib.hid (dep_inv h.inv hn)
  clear h hn
  obtain ⟨r, hr⟩ : ∃ r, getL L n = r := ⟨_, rfl⟩
  rw [hr] at G er7 CA DI
  obtain ⟨a, er⟩ := r
  have HR := Lib.hid hr
  dsimp only at G er7 CA DI
  clear hr
  go_enter Try.func7, Try.ntmps7
  go_wp2_with fail
  refine MS.out.mono ?_; rintro e w2 ⟨rfl, rfl⟩
  go_wp2_with fail
  refine G.out.mono ?_; rintro e w2 ⟨rfl, q2⟩
  obtain ⟨W1, hW1, b1, x1⟩ := NEW.out w2
  have HW1 := Lib.hid hW1
  have X1 := Lib.hid x1
  obtain ⟨W3, hW3⟩ : ∃ W3, W1.setRow w2.heap.size (EA.cells a).toArray = W3 := ⟨_, rfl⟩
  have HW3 := Lib.hid hW3
  have x3 : EA.Bx 33 W3 w2.heap.size a := by rw [← hW3]; exact gbx_set x1
  have X3 := Lib.hid x3
  have B3 : Hid (Below w.heap.size w W3) := Lib.hid (by rw [← hW3]; exact below_row0 (q2.trans (b1.mono q2.size)) q2.size)
  have GE : Hid (w.heap.size ≤ w2.heap.size) := Lib.hid q2.size
  have D3 := Lib.hid (HD.out.below B3.out)
  clear q2 hW1 b1 x1 hW3 x3
  go_wp2_with ((rw [HW1.out]; refine gwl_store TA a w2.heap.size X1.out rfl rfl ?_; rw [HW3.out]))
  refine (ON.out W3).mono ?_; rintro e w4 ⟨rfl, rfl⟩
  cases ho : oneB m 1000000000000000
  · have E : Hid (depE L n m = 2 ∧ depL L n m = L) := Lib.hid (by
      have e : depE L n m = 2 := by unfold depE; exact if_pos ho
      refine ⟨e, ?_⟩
      unfold depL
      rw [e]
      exact if_neg (by decide))
    clear er7
    go_wp2_with fail
    go_ret
    rw [E.out.1, E.out.2]
    exact ⟨rfl, (HD.out.below B3.out), Fr.below B3.out⟩
  · have hm := HO.out ho
    have H1 : Hid (¬ oneB m mF = false) := Lib.hid (by rw [show oneB m mF = true from ho]; decide)
    have hlen := FZ.out W3 D3.out
    have l1 := D3.out.c1
    have HFU := Lib.hid (lfunds9 W3 D3.out)
    have er0 := er7
    clear ho er7
    rcases er0 with rfl | rfl
    · have H2 : Hid (¬ ((getL L n).2 ≠ 0 ∧ 64 ≤ L.al.length)) := Lib.hid (by rw [HR.out]; simp)
      clear hlen l1
      go_wp2_with fail
      refine HFU.out.mono ?_; rintro e w5 ⟨rfl, q5⟩
      have B5 : Hid (Below w.heap.size w w5) := Lib.hid (B3.out.trans (q5.mono B3.out.size))
      have X5 := Lib.hid (gbx_below X3.out q5)
      clear q5
      have hfb := FB.out
      simp only [mF] at hfb
      have hw1 : wrap64 (fundsL L + m) = fundsL L + m := by unfold wrap64; omega
      by_cases hg : 1000000000000000 < fundsL L + m
      · have hg1 : decide (1000000000000000 < fundsL L + m) = true := decide_eq_true hg
        have E : Hid (depE L n m = 6 ∧ depL L n m = L) := Lib.hid (by
          have e : depE L n m = 6 := by unfold depE; rw [if_neg H1.out, if_neg H2.out, if_pos (show mF < fundsL L + m from hg)]
          refine ⟨e, ?_⟩
          unfold depL
          rw [e]
          exact if_neg (by decide))
        generalize fundsL L = fu at *
        go_wp2_with fail
        go_ret
        rw [E.out.1, E.out.2]
        exact ⟨rfl, (HD.out.below B5.out), Fr.below B5.out⟩
      · have hg1 : decide (1000000000000000 < fundsL L + m) = false := decide_eq_false hg
        have e0 : depE L n m = 0 := by unfold depE; rw [if_neg H1.out, if_neg H2.out, if_neg (show ¬ mF < fundsL L + m from hg)]
        have E : Hid (depE L n m = 0 ∧ depL L n m = setA L ⟨n, a.ca + m, a.ki, a.de⟩) := Lib.hid ⟨e0, by unfold depL; rw [if_pos e0, HR.out]⟩
        have hi := DI.out e0
        have hca := CA.out
        simp only [mF] at hca
        have hw2 : wrap64 (a.ca + m) = a.ca + m := by unfold wrap64; omega
        obtain ⟨W7, hW7⟩ : ∃ W7, (w5.setCell ⟨w2.heap.size, 0, none⟩ (.int .u32 n)).setCell ⟨w2.heap.size, 1, none⟩ (.int .i64 (a.ca + m)) = W7 := ⟨_, rfl⟩
        have HW7 := Lib.hid hW7
        have x6 : EA.Bx 33 (w5.setCell ⟨w2.heap.size, 0, none⟩ (.int .u32 n)) w2.heap.size ⟨n, a.ca, a.ki, a.de⟩ := gbx_put (i := 0) X5.out rfl
        have x7 : EA.Bx 33 W7 w2.heap.size ⟨n, a.ca + m, a.ki, a.de⟩ := by rw [← hW7]; exact gbx_put (i := 1) x6 rfl
        have R7 := Lib.hid (gbx_rng x7)
        have k1 : (w5.setCell ⟨w2.heap.size, 0, none⟩ (.int .u32 n)).cell? ⟨w2.heap.size, 1, none⟩ = some (.int .i64 a.ca) := gbx_cell x6 1
        have k0 : w5.cell? ⟨w2.heap.size, 0, none⟩ = some (.int .u32 a.nu) := gbx_cell X5.out 0
        have f0 := gbx_fz X5.out 0
        have f1 := gbx_fz x6 1
        have B7 : Hid (Below w.heap.size w W7) := Lib.hid (by rw [← hW7]; exact (B5.out.setCell GE.out _).setCell GE.out _)
        have PU := Lib.hid (lput9 ⟨n, a.ca + m, a.ki, a.de⟩ W7 (HD.out.below B7.out) HN.out hi)
        clear hW7 x6 x7 hi hfb e0 hg hca hm
        generalize fundsL L = fu at *
        go_wp2_with (first | (rw [HW7.out]; (with_reducible refine gwl_load TA w2.heap.size 0 R7.out ?_ ?_ ?_); rfl; rfl))
        refine PU.out.mono ?_; rintro e w8 ⟨rfl, d8, f8⟩
        have D8 := Lib.hid d8
        have F8 := Lib.hid f8
        clear d8 f8
        go_wp2_with fail
        go_ret
        rw [E.out.1, E.out.2]
        exact ⟨rfl, D8.out, (Fr.below B7.out).same F8.out⟩
    · by_cases hf : 64 ≤ L.al.length
      · have hf1 : decide (64 ≤ (L.al.length : Int)) = true := decide_eq_true (by omega)
        have hf2 : (64 : Int) ≤ (L.al.length : Int) := by omega
        have E : Hid (depE L n m = 9 ∧ depL L n m = L) := Lib.hid (by
          have e : depE L n m = 9 := by unfold depE; rw [if_neg H1.out, if_pos (show (getL L n).2 ≠ 0 ∧ 64 ≤ L.al.length from ⟨by rw [HR.out]; show (7 : Int) ≠ 0; decide, hf⟩)]
          refine ⟨e, ?_⟩
          unfold depL
          rw [e]
          exact if_neg (by decide))
        clear hf
        obtain ⟨len, hl⟩ : ∃ len : Int, (L.al.length : Int) = len := ⟨_, rfl⟩
        rw [hl] at hlen hf1 hf2
        clear hl
        go_wp2_with fail
        go_ret
        rw [E.out.1, E.out.2]
        exact ⟨rfl, (HD.out.below B3.out), Fr.below B3.out⟩
      · have H2 : Hid (¬ ((getL L n).2 ≠ 0 ∧ 64 ≤ L.al.length)) := Lib.hid (fun c => hf c.2)
        have hf1 : decide (64 ≤ (L.al.length : Int)) = false := decide_eq_false (by omega)
        have hf2 : ¬ (64 : Int) ≤ (L.al.length : Int) := by omega
        clear hf
        obtain ⟨len, hl⟩ : ∃ len : Int, (L.al.length : Int) = len := ⟨_, rfl⟩
        rw [hl] at hlen hf1 hf2
        clear hl
        go_wp2_with fail
        refine HFU.out.mono ?_; rintro e w5 ⟨rfl, q5⟩
        have B5 : Hid (Below w.heap.size w w5) := Lib.hid (B3.out.trans (q5.mono B3.out.size))
        have X5 := Lib.hid (gbx_below X3.out q5)
        clear q5
        have hfb := FB.out
        simp only [mF] at hfb
        have hw1 : wrap64 (fundsL L + m) = fundsL L + m := by unfold wrap64; omega
        by_cases hg : 1000000000000000 < fundsL L + m
        · have hg1 : decide (1000000000000000 < fundsL L + m) = true := decide_eq_true hg
          have E : Hid (depE L n m = 6 ∧ depL L n m = L) := Lib.hid (by
            have e : depE L n m = 6 := by unfold depE; rw [if_neg H1.out, if_neg H2.out, if_pos (show mF < fundsL L + m from hg)]
            refine ⟨e, ?_⟩
            unfold depL
            rw [e]
            exact if_neg (by decide))
          generalize fundsL L = fu at *
          go_wp2_with fail
          go_ret
          rw [E.out.1, E.out.2]
          exact ⟨rfl, (HD.out.below B5.out), Fr.below B5.out⟩
        · have hg1 : decide (1000000000000000 < fundsL L + m) = false := decide_eq_false hg
          have e0 : depE L n m = 0 := by unfold depE; rw [if_neg H1.out, if_neg H2.out, if_neg (show ¬ mF < fundsL L + m from hg)]
          have E : Hid (depE L n m = 0 ∧ depL L n m = setA L ⟨n, a.ca + m, a.ki, a.de⟩) := Lib.hid ⟨e0, by unfold depL; rw [if_pos e0, HR.out]⟩
          have hi := DI.out e0
          have hca := CA.out
          simp only [mF] at hca
          have hw2 : wrap64 (a.ca + m) = a.ca + m := by unfold wrap64; omega
          obtain ⟨W7, hW7⟩ : ∃ W7, (w5.setCell ⟨w2.heap.size, 0, none⟩ (.int .u32 n)).setCell ⟨w2.heap.size, 1, none⟩ (.int .i64 (a.ca + m)) = W7 := ⟨_, rfl⟩
          have HW7 := Lib.hid hW7
          have x6 : EA.Bx 33 (w5.setCell ⟨w2.heap.size, 0, none⟩ (.int .u32 n)) w2.heap.size ⟨n, a.ca, a.ki, a.de⟩ := gbx_put (i := 0) X5.out rfl
          have x7 : EA.Bx 33 W7 w2.heap.size ⟨n, a.ca + m, a.ki, a.de⟩ := by rw [← hW7]; exact gbx_put (i := 1) x6 rfl
          have R7 := Lib.hid (gbx_rng x7)
          have k1 : (w5.setCell ⟨w2.heap.size, 0, none⟩ (.int .u32 n)).cell? ⟨w2.heap.size, 1, none⟩ = some (.int .i64 a.ca) := gbx_cell x6 1
          have k0 : w5.cell? ⟨w2.heap.size, 0, none⟩ = some (.int .u32 a.nu) := gbx_cell X5.out 0
          have f0 := gbx_fz X5.out 0
          have f1 := gbx_fz x6 1
          have B7 : Hid (Below w.heap.size w W7) := Lib.hid (by rw [← hW7]; exact (B5.out.setCell GE.out _).setCell GE.out _)
          have PU := Lib.hid (lput9 ⟨n, a.ca + m, a.ki, a.de⟩ W7 (HD.out.below B7.out) HN.out hi)
          clear hW7 x6 x7 hi hfb e0 hg hca hm
          generalize fundsL L = fu at *
          go_wp2_with (first | (rw [HW7.out]; (with_reducible refine gwl_load TA w2.heap.size 0 R7.out ?_ ?_ ?_); rfl; rfl))
          refine PU.out.mono ?_; rintro e w8 ⟨rfl, d8, f8⟩
          have D8 := Lib.hid d8
          have F8 := Lib.hid f8
          clear d8 f8
          go_wp2_with fail
          go_ret
          rw [E.out.1, E.out.2]
          exact ⟨rfl, D8.out, (Fr.below B7.out).same F8.out⟩
set_option maxRecDepth 100000 in
set_option maxHeartbeats 4000000 in
theorem lwit9 {g ba bp : Nat} {L : Lg} (n m : Int) (w : World) (h : Dl w g ba bp L) (hn : U32' n) :
    Calls Try.prog 9 #[.pointer (some ⟨g, 0, none⟩), .int .u32 n, .int .i64 m] w fun e w' => e = .returned (.int .i64 (witE L n m)) ∧ AfL w g ba bp (witL L n m) w' := by
  have hz := zero_ac
  have G := Lib.hid (lget9 n w h hn)
  have MS := Lib.hid (lmiss9 h)
  have HD := Lib.hid h
  have HN := Lib.hid hn
  have ON := Lib.hid (lone9 m 1000000000000000)
  have NEW := Lib.hid newA9
  have HO : Hid (oneB m 1000000000000000 = true → 1 ≤ m ∧ m ≤ 1000000000000000) := Lib.hid (fun c => by simpa [oneB] using c)
  have er7 := getL_er L n
  have CA := Lib.hid (getL_ca h.inv n)
  have NU := Lib.hid (getL_nu h.inv hn)
  have WI : Hid (witE L n m = 0 → LgI (setA L ⟨(getL L n).1.nu, (getL L n).1.ca - m, (getL L n).1.ki, (getL L n).1.de⟩)) := Lib.hid (wit_inv h.inv hn)
  clear h hn
  obtain ⟨r, hr⟩ : ∃ r, getL L n = r := ⟨_, rfl⟩
  rw [hr] at G er7 CA WI NU
  obtain ⟨a, er⟩ := r
  have HR := Lib.hid hr
  dsimp only at G er7 CA WI NU
  clear hr
  go_enter Try.func9, Try.ntmps9
  go_wp2_with fail
  refine MS.out.mono ?_; rintro e w2 ⟨rfl, rfl⟩
  go_wp2_with fail
  refine G.out.mono ?_; rintro e w2 ⟨rfl, q2⟩
  obtain ⟨W1, hW1, b1, x1⟩ := NEW.out w2
  have HW1 := Lib.hid hW1
  have X1 := Lib.hid x1
  obtain ⟨W3, hW3⟩ : ∃ W3, W1.setRow w2.heap.size (EA.cells a).toArray = W3 := ⟨_, rfl⟩
  have HW3 := Lib.hid hW3
  have x3 : EA.Bx 33 W3 w2.heap.size a := by rw [← hW3]; exact gbx_set x1
  have X3 := Lib.hid x3
  have B3 : Hid (Below w.heap.size w W3) := Lib.hid (by rw [← hW3]; exact below_row0 (q2.trans (b1.mono q2.size)) q2.size)
  have GE : Hid (w.heap.size ≤ w2.heap.size) := Lib.hid q2.size
  have D3 := Lib.hid (HD.out.below B3.out)
  clear q2 hW1 b1 x1 hW3 x3
  by_cases h0 : n = 0
  · have hd : decide (n = 0) = true := decide_eq_true h0
    have hd2 : (n == 0) = true := by simpa using h0
    have E : Hid (witE L n m = 2 ∧ witL L n m = L) := Lib.hid (by
      have e : witE L n m = 2 := by unfold witE; exact if_pos (.inl h0)
      refine ⟨e, ?_⟩
      unfold witL
      rw [e]
      exact if_neg (by decide))
    clear er7 h0
    go_wp2_with ((rw [HW1.out]; refine gwl_store TA a w2.heap.size X1.out rfl rfl ?_; rw [HW3.out]))
    go_ret
    rw [E.out.1, E.out.2]
    exact ⟨rfl, HD.out.below B3.out, Fr.below B3.out⟩
  have H0 := Lib.hid h0
  have hd : decide (n = 0) = false := decide_eq_false h0
  have hd2 : (n == 0) = false := by simpa using h0
  clear h0
  go_wp2_with ((rw [HW1.out]; refine gwl_store TA a w2.heap.size X1.out rfl rfl ?_; rw [HW3.out]))
  refine (ON.out W3).mono ?_; rintro e w4 ⟨rfl, rfl⟩
  cases ho : oneB m 1000000000000000
  · have E : Hid (witE L n m = 2 ∧ witL L n m = L) := Lib.hid (by
      have e : witE L n m = 2 := by unfold witE; exact if_pos (.inr ho)
      refine ⟨e, ?_⟩
      unfold witL
      rw [e]
      exact if_neg (by decide))
    clear er7
    go_wp2_with fail
    go_ret
    rw [E.out.1, E.out.2]
    exact ⟨rfl, (HD.out.below B3.out), Fr.below B3.out⟩
  have hm := HO.out ho
  have H1 : Hid (¬ (n = 0 ∨ oneB m mF = false)) := Lib.hid (by
    rintro (c | c)
    · exact H0.out c
    · rw [show oneB m mF = true from ho] at c; cases c)
  have er0 := er7
  clear ho er7
  rcases er0 with rfl | rfl
  · have H2 : Hid (¬ (getL L n).2 ≠ 0) := Lib.hid (by rw [HR.out]; simp)
    have k1 : W3.cell? ⟨w2.heap.size, 1, none⟩ = some (.int .i64 a.ca) := gbx_cell X3.out 1
    by_cases hlt : a.ca < m
    · have hl1 : decide (a.ca < m) = true := decide_eq_true hlt
      have E : Hid (witE L n m = 90 ∧ witL L n m = L) := Lib.hid (by
        have e : witE L n m = 90 := by unfold witE; rw [if_neg H1.out, if_neg H2.out]; exact if_pos (by rw [HR.out]; exact hlt)
        refine ⟨e, ?_⟩
        unfold witL
        rw [e]
        exact if_neg (by decide))
      generalize a.ca = ca at *
      go_wp2_with fail
      go_ret
      rw [E.out.1, E.out.2]
      exact ⟨rfl, (HD.out.below B3.out), Fr.below B3.out⟩
    · have hl1 : decide (a.ca < m) = false := decide_eq_false hlt
      have e0 : witE L n m = 0 := by unfold witE; rw [if_neg H1.out, if_neg H2.out]; exact if_neg (by rw [HR.out]; exact hlt)
      have E : Hid (witE L n m = 0 ∧ witL L n m = setA L ⟨a.nu, a.ca - m, a.ki, a.de⟩) := Lib.hid ⟨e0, by unfold witL; rw [if_pos e0, HR.out]⟩
      have hi := WI.out e0
      have hca := CA.out
      simp only [mF] at hca
      have hw2 : wrap64 (a.ca - m) = a.ca - m := by unfold wrap64; omega
      obtain ⟨W7, hW7⟩ : ∃ W7, W3.setCell ⟨w2.heap.size, 1, none⟩ (.int .i64 (a.ca - m)) = W7 := ⟨_, rfl⟩
      have HW7 := Lib.hid hW7
      have x7 : EA.Bx 33 W7 w2.heap.size ⟨a.nu, a.ca - m, a.ki, a.de⟩ := by rw [← hW7]; exact gbx_put (i := 1) X3.out rfl
      have R7 := Lib.hid (gbx_rng x7)
      have f1 := gbx_fz X3.out 1
      have B7 : Hid (Below w.heap.size w W7) := Lib.hid (by rw [← hW7]; exact B3.out.setCell GE.out _)
      have PU := Lib.hid (lput9 ⟨a.nu, a.ca - m, a.ki, a.de⟩ W7 (HD.out.below B7.out) NU.out hi)
      clear hW7 x7 hi e0 hlt hca hm
      go_wp2_with (first | (rw [HW7.out]; (with_reducible refine gwl_load TA w2.heap.size 0 R7.out ?_ ?_ ?_); rfl; rfl))
      refine PU.out.mono ?_; rintro e w8 ⟨rfl, d8, f8⟩
      have D8 := Lib.hid d8
      have F8 := Lib.hid f8
      clear d8 f8
      go_wp2_with fail
      go_ret
      rw [E.out.1, E.out.2]
      exact ⟨rfl, D8.out, (Fr.below B7.out).same F8.out⟩
  · have E : Hid (witE L n m = 7 ∧ witL L n m = L) := Lib.hid (by
      have e : witE L n m = 7 := by unfold witE; rw [if_neg H1.out]; rw [if_pos (by rw [HR.out]; show (7 : Int) ≠ 0; decide), HR.out]
      refine ⟨e, ?_⟩
      unfold witL
      rw [e]
      exact if_neg (by decide))
    go_wp2_with fail
    go_ret
    rw [E.out.1, E.out.2]
    exact ⟨rfl, (HD.out.below B3.out), Fr.below B3.out⟩
set_option maxRecDepth 100000 in
set_option maxHeartbeats 4000000 in
theorem lset9 {g ba bp : Nat} {L : Lg} (x : Ac) (w : World) (h : Dl w g ba bp L) (hx : U32' x.nu) :
    Calls Try.prog 13 #[.pointer (some ⟨g, 0, none⟩), .agg (EA.cells x).toArray] w fun e w' => e = .returned (.int .i64 (setE L x)) ∧ AfL w g ba bp (setL L x) w' := by
  have hz := zero_ac
  obtain ⟨V, hV⟩ : ∃ V, w.alloc (.cells (EA.cells x).toArray 33) = V := ⟨_, rfl⟩
  have bV : Below w.heap.size w V := by rw [← hV]; exact below_new w _
  have xV : EA.Bx 33 V w.heap.size x := by rw [← hV]; exact gbx_new w _
  have v0 : V.cell? ⟨w.heap.size, 0, none⟩ = some (.int .u32 x.nu) := gbx_cell xV 0
  have v1 : V.cell? ⟨w.heap.size, 1, none⟩ = some (.int .i64 x.ca) := gbx_cell xV 1
  have v2 : V.cell? ⟨w.heap.size, 2, none⟩ = some (.bool x.ki) := gbx_cell xV 2
  have v3 : V.cell? ⟨w.heap.size, 3, none⟩ = some (.bool x.de) := gbx_cell xV 3
  have HV := Lib.hid hV
  have BV := Lib.hid bV
  have XV := Lib.hid xV
  have HD := Lib.hid h
  have DV := Lib.hid (h.below bV)
  have HX := Lib.hid hx
  have G := Lib.hid (lget9 x.nu V DV.out hx)
  have MS := Lib.hid (lmiss9 DV.out)
  have NEW := Lib.hid newA9
  have er7 := getL_er L x.nu
  have PUF := Lib.hid fun (W : World) (hd : Dl W g ba bp L) (hi : LgI (setA L x)) => lput9 x W hd hx hi
  have SI : Hid (setE L x = 0 → LgI (setA L x)) := Lib.hid (set_inv h.inv hx)
  have E0 : Hid (setE L x = if (x.ca < 0 ∨ 1000000000000000 < x.ca) ∨ x.nu = 0 ∧ (x.ki || x.de) = true then 2 else (getL L x.nu).2) := Lib.hid rfl
  have EL : Hid (setL L x = if setE L x = 0 then setA L x else L) := Lib.hid rfl
  clear h hx hV bV xV
  obtain ⟨r, hr⟩ : ∃ r, getL L x.nu = r := ⟨_, rfl⟩
  rw [hr] at G er7 E0
  obtain ⟨a, er⟩ := r
  dsimp only at G er7 E0
  clear hr
  generalize hnu : x.nu = nu at *
  generalize hca : x.ca = ca at *
  generalize hki : x.ki = ki at *
  generalize hde : x.de = de at *
  clear hnu hca hki hde
  obtain ⟨fl, hfl⟩ : ∃ fl, (ki || de) = fl := ⟨_, rfl⟩
  rw [hfl] at E0
  go_enter Try.func13, Try.ntmps13
  go_wp2_with (rw [HV.out])
  refine MS.out.mono ?_; rintro e w2 ⟨rfl, rfl⟩
  have bad : Hid ((ca < 0 ∨ 1000000000000000 < ca) ∨ nu = 0 ∧ fl = true → setE L x = 2 ∧ setL L x = L) := Lib.hid fun c => by
    have e : setE L x = 2 := by rw [E0.out]; exact if_pos c
    exact ⟨e, by rw [EL.out, e]; exact if_neg (by decide)⟩
  by_cases h1 : ca < 0
  · have d1 : decide (ca < 0) = true := decide_eq_true h1
    have E := Lib.hid (bad.out (.inl (.inl h1)))
    clear er7
    cases ki <;> cases de <;> cases hfl
    all_goals
      go_wp2_with fail
      go_ret
      rw [E.out.1, E.out.2]
      exact ⟨rfl, HD.out.below BV.out, Fr.below BV.out⟩
  have d1 : decide (ca < 0) = false := decide_eq_false h1
  by_cases h2 : 1000000000000000 < ca
  · have d2 : decide (1000000000000000 < ca) = true := decide_eq_true h2
    have E := Lib.hid (bad.out (.inl (.inr h2)))
    clear er7
    cases ki <;> cases de <;> cases hfl
    all_goals
      go_wp2_with fail
      go_ret
      rw [E.out.1, E.out.2]
      exact ⟨rfl, HD.out.below BV.out, Fr.below BV.out⟩
  have d2 : decide (1000000000000000 < ca) = false := decide_eq_false h2
  have good : Hid (¬ (nu = 0 ∧ fl = true) → setE L x = er ∧ (er = 0 → setL L x = setA L x) ∧ (er = 7 → setL L x = L)) := Lib.hid fun c => by
    have e : setE L x = er := by rw [E0.out]; exact if_neg (fun cc => cc.elim (fun c1 => c1.elim h1 h2) c)
    exact ⟨e, fun e0 => by rw [EL.out, e, e0]; exact if_pos rfl, fun e0 => by rw [EL.out, e, e0]; exact if_neg (by decide)⟩
  by_cases h3 : nu = 0
  · have d3 : decide (nu = 0) = true := decide_eq_true h3
    have d4 : (nu == 0) = true := by simpa using h3
    cases hf2 : fl
    · have E := Lib.hid (good.out (fun c => by rw [hf2] at c; cases c.2))
      subst hf2
      have hki : ki = false ∧ de = false := by cases ki <;> cases de <;> simp_all
      obtain ⟨rfl, rfl⟩ := hki
      clear good bad h1 h2 hfl h3
      go_wp2_with fail
      refine G.out.mono ?_; rintro e w2 ⟨rfl, q2⟩
      obtain ⟨W1, hW1, b1, x1⟩ := NEW.out w2
      have HW1 := Lib.hid hW1
      have X1 := Lib.hid x1
      obtain ⟨W3, hW3⟩ : ∃ W3, W1.setRow w2.heap.size (EA.cells a).toArray = W3 := ⟨_, rfl⟩
      have HW3 := Lib.hid hW3
      have b3 : Below V.heap.size V W3 := by rw [← hW3]; exact below_row0 (q2.trans (b1.mono q2.size)) q2.size
      have B3 : Hid (Below w.heap.size w W3) := Lib.hid (BV.out.trans (b3.mono BV.out.size))
      have RX := Lib.hid (gbx_rng (gbx_below XV.out b3))
      clear q2 hW1 b1 x1 hW3 b3
      rcases er7 with rfl | rfl
      · have PU := Lib.hid (PUF.out W3 (HD.out.below B3.out) (SI.out E.out.1))
        go_wp2_with (first | (rw [HW1.out]; refine gwl_store TA a w2.heap.size X1.out rfl rfl ?_; rw [HW3.out]) | ((with_reducible refine gwl_load TA w.heap.size 0 RX.out ?_ ?_ ?_); rfl; rfl))
        refine PU.out.mono ?_; rintro e w8 ⟨rfl, d8, f8⟩
        have D8 := Lib.hid d8
        have F8 := Lib.hid f8
        clear d8 f8
        go_wp2_with fail
        go_ret
        rw [E.out.1, E.out.2.1 (by simp)]
        exact ⟨rfl, D8.out, (Fr.below B3.out).same F8.out⟩
      · go_wp2_with (first | (rw [HW1.out]; refine gwl_store TA a w2.heap.size X1.out rfl rfl ?_; rw [HW3.out]))
        go_ret
        rw [E.out.1, E.out.2.2 (by simp)]
        exact ⟨rfl, HD.out.below B3.out, Fr.below B3.out⟩
    · subst hf2
      have E := Lib.hid (bad.out (.inr ⟨h3, rfl⟩))
      clear er7
      cases ki <;> cases de <;> cases hfl
      all_goals
        go_wp2_with fail
        go_ret
        rw [E.out.1, E.out.2]
        exact ⟨rfl, HD.out.below BV.out, Fr.below BV.out⟩
  · have d3 : decide (nu = 0) = false := decide_eq_false h3
    have d4 : (nu == 0) = false := by simpa using h3
    have E := Lib.hid (good.out (fun c => h3 c.1))
    clear good bad h1 h2 h3
    cases ki <;> cases de <;> cases hfl
    all_goals
      go_wp2_with fail
      refine G.out.mono ?_; rintro e w2 ⟨rfl, q2⟩
      obtain ⟨W1, hW1, b1, x1⟩ := NEW.out w2
      have HW1 := Lib.hid hW1
      have X1 := Lib.hid x1
      obtain ⟨W3, hW3⟩ : ∃ W3, W1.setRow w2.heap.size (EA.cells a).toArray = W3 := ⟨_, rfl⟩
      have HW3 := Lib.hid hW3
      have b3 : Below V.heap.size V W3 := by rw [← hW3]; exact below_row0 (q2.trans (b1.mono q2.size)) q2.size
      have B3 : Hid (Below w.heap.size w W3) := Lib.hid (BV.out.trans (b3.mono BV.out.size))
      have RX := Lib.hid (gbx_rng (gbx_below XV.out b3))
      clear q2 hW1 b1 x1 hW3 b3
      rcases er7 with rfl | rfl
      · have PU := Lib.hid (PUF.out W3 (HD.out.below B3.out) (SI.out E.out.1))
        go_wp2_with (first | (rw [HW1.out]; refine gwl_store TA a w2.heap.size X1.out rfl rfl ?_; rw [HW3.out]) | ((with_reducible refine gwl_load TA w.heap.size 0 RX.out ?_ ?_ ?_); rfl; rfl))
        refine PU.out.mono ?_; rintro e w8 ⟨rfl, d8, f8⟩
        have D8 := Lib.hid d8
        have F8 := Lib.hid f8
        clear d8 f8
        go_wp2_with fail
        go_ret
        rw [E.out.1, E.out.2.1 (by simp)]
        exact ⟨rfl, D8.out, (Fr.below B3.out).same F8.out⟩
      · go_wp2_with (first | (rw [HW1.out]; refine gwl_store TA a w2.heap.size X1.out rfl rfl ?_; rw [HW3.out]))
        go_ret
        rw [E.out.1, E.out.2.2 (by simp)]
        exact ⟨rfl, HD.out.below B3.out, Fr.below B3.out⟩
end Go.Proofs.Ythnmpnepgagmmaa
