/- Contracts of the document's ledger: Deposit, Withdraw, Set (by genOb.py). -/
import Derived.Test.YthnmpnepgagmmaaOa
import Derived.Test.YthnmpnepgagmmaaDc
import Derived.Test.YthnmpnepgagmmaaMf
namespace Go.Proofs.Ythnmpnepgagmmaa
open Go.RowKit Go.Shelf
set_option linter.unusedVariables false
set_option linter.unusedSimpArgs false

/-- What a call leaves of the document's ledger: it alone has turned, its rows are as they were, or new. -/
def AfR (w : World) (B g : Nat) (va vh : Value) (L : Lg) (w' : World) : Prop := ∃ va' vh', Rl w' B g va' vh' L ∧ Fr (fun k => k = g) w w' ∧ ∀ k, RlS g va' vh' k → RlS g va vh k ∨ w.heap.size ≤ k
section
variable {w w1 w' : World} {B g : Nat} {va vh : Value} {L L' : Lg}
theorem AfR.below (h : Rl w B g va vh L) (q : Below w.heap.size w w') : AfR w B g va vh L w' := ⟨va, vh, h.below q, Fr.below q, fun k hk => .inl hk⟩
theorem AfR.then (q : Below w.heap.size w w1) (h : AfR w1 B g va vh L w') : AfR w B g va vh L w' := by
  obtain ⟨va', vh', r, f, s⟩ := h
  exact ⟨va', vh', r, (Fr.below q).same f, fun k hk => (s k hk).imp id fun c => Nat.le_trans q.size c⟩
theorem AfR.more (h : AfR w B g va vh L w1) (q : Below w1.heap.size w1 w') : AfR w B g va vh L w' := by
  obtain ⟨va', vh', r, f, s⟩ := h
  exact ⟨va', vh', r.below q, f.same (Fr.below q), s⟩
theorem AfR.put (h : ∃ v', Rl w' B g v' vh L ∧ Fr (fun k => k = g) w w' ∧ ∀ k, v'.ownBlock = some k → w.heap.size ≤ k) : AfR w B g va vh L w' := by
  obtain ⟨v', r, f, s⟩ := h
  refine ⟨v', vh, r, f, fun k hk => ?_⟩
  rcases hk with rfl | hk | hk
  · exact .inl (.inl rfl)
  · exact .inr (s k hk)
  · exact .inl (.inr (.inr hk))
theorem AfR.hold (h : ∃ v', Rl w' B g va v' L ∧ Fr (fun k => k = g) w w' ∧ ∀ k, v'.ownBlock = some k → w.heap.size ≤ k) : AfR w B g va vh L w' := by
  obtain ⟨v', r, f, s⟩ := h
  refine ⟨va, v', r, f, fun k hk => ?_⟩
  rcases hk with rfl | hk | hk
  · exact .inl (.inl rfl)
  · exact .inl (.inr (.inl hk))
  · exact .inr (s k hk)
/-- The fund written. -/
theorem Rl.fund9 (h : Rl w B g va vh L) (f : Int) : Rl (w.setCell ⟨g, 0, none⟩ (.int .i64 f)) B g va vh ⟨f, L.al, L.hl⟩ :=
  ⟨heap_setCell_same w g 0 _ _ _ h.blk, gown_same h.oa (fun k hk => heap_setCell_other w _ k _ (fun e => h.apartA k hk e)), gown_same h.oh (fun k hk => heap_setCell_other w _ k _ (fun e => h.apartH k hk e)), h.ge⟩
theorem AfR.fund (h : Rl w B g va vh L) (f : Int) : AfR w B g va vh ⟨f, L.al, L.hl⟩ (w.setCell ⟨g, 0, none⟩ (.int .i64 f)) := ⟨va, vh, h.fund9 f, Fr.set (S := fun k => k = g) rfl _, fun k hk => .inl hk⟩
theorem setA_z {a : Ac} (h : a.nu = 0) : setA L a = ⟨a.ca, L.al, L.hl⟩ := if_pos h
theorem setA_nz {a : Ac} (h : a.nu ≠ 0) : setA L a = ⟨L.fund, putL L.al a, L.hl⟩ := if_neg h
end
theorem amg_one (m M : Int) : amgB m 1 M = oneB m M := rfl
set_option maxRecDepth 100000 in
set_option maxHeartbeats 8000000 in
theorem rdep9 {B g : Nat} {va vh : Value} {L : Lg} (n m : Int) (w : World) (h : Rl w B g va vh L) (hi : LgI L) (hn : U32' n) :
    Calls Try.prog 8 #[.pointer (some ⟨g, 0, none⟩), .int .u32 n, .int .i64 m] w fun e w' => e = .returned (.int .i64 (depE L n m)) ∧ AfR w B g va vh (depL L n m) w' := by
  have hz := zero_ac
  have G := Lib.hid (rget9 n w h hi hn)
  have HD := Lib.hid h
  have HI := Lib.hid hi
  have ON := Lib.hid (ramong m 1 1000000000000000)
  rw [amg_one] at ON
  have NEW := Lib.hid newA9
  have HO : Hid (oneB m 1000000000000000 = true → 1 ≤ m ∧ m ≤ 1000000000000000) := Lib.hid (fun c => by simpa [oneB] using c)
  have er7 := getL_er L n
  have FB := Lib.hid (funds_bound hi)
  have CA := Lib.hid (getL_ca hi n)
  have LN5 : Hid (L.al.length ≤ 5000) := Lib.hid (by have := hi.len; omega)
  clear h hn hi
  obtain ⟨r, hr⟩ : ∃ r, getL L n = r := ⟨_, rfl⟩
  rw [hr] at G er7 CA
  obtain ⟨a, er⟩ := r
  have HR := Lib.hid hr
  dsimp only at G er7 CA
  clear hr
  go_enter Try.func8, Try.ntmps8
  go_wp2_with fail
  refine G.out.mono ?_; rintro e w2 ⟨rfl, q2⟩
  obtain ⟨W1, hW1, b1, x1⟩ := NEW.out w2
  have HW1 := Lib.hid hW1
  have X1 := Lib.hid x1
  obtain ⟨W3, hW3⟩ : ∃ W3, W1.setRow w2.heap.size (EA.cells a).toArray = W3 := ⟨_, rfl⟩
  have HW3 := Lib.hid hW3
  have x3 : EA.Bx 33 W3 w2.heap.size a := by rw [← hW3]; exact gbx_set x1
  have X3 := Lib.hid x3
  have B3 : Hid (Below w.heap.size w W3) := Lib.hid (by rw [← hW3]; exact below_row0 (q2.trans (b1.mono q2.size)) q2.size)
  have GE : Hid (w.heap.size ≤ w2.heap.size) := Lib.hid q2.size
  have D3 := Lib.hid (HD.out.below B3.out)
  clear q2 hW1 b1 x1 hW3 x3
  go_wp2_with ((rw [HW1.out]; refine gwl_store TA a w2.heap.size X1.out rfl rfl ?_; rw [HW3.out]))
  refine (ON.out W3).mono ?_; rintro e w4 ⟨rfl, rfl⟩
  cases ho : oneB m 1000000000000000
  · have E : Hid (depE L n m = 2 ∧ depL L n m = L) := Lib.hid (by
      have e : depE L n m = 2 := by unfold depE; exact if_pos ho
      refine ⟨e, ?_⟩
      unfold depL
      rw [e]
      exact if_neg (by decide))
    clear er7
    go_wp2_with fail
    go_ret
    rw [E.out.1, E.out.2]
    exact ⟨rfl, AfR.below HD.out B3.out⟩
  have hm := HO.out ho
  have H1 : Hid (¬ oneB m mF = false) := Lib.hid (by rw [show oneB m mF = true from ho]; decide)
  have HFU := Lib.hid (rfunds9 W3 D3.out (by have := HI.out.fund; exact this) (fun a ha => (HI.out.aok a ha).2) (by have := HI.out.len; omega))
  have er0 := er7
  clear ho er7
  obtain ⟨Aa, ca, ev, _⟩ := gown_form D3.out.oa
  rcases er0 with rfl | rfl
  · have H2 : Hid (¬ ((getL L n).2 ≠ 0 ∧ 64 ≤ L.al.length)) := Lib.hid (by rw [HR.out]; simp)
    clear ev
    go_wp2_with fail
    refine HFU.out.mono ?_; rintro e w5 ⟨rfl, rfl⟩
    have hfb := FB.out
    simp only [mF] at hfb
    have hw1 : wrap64 (fundsL L + m) = fundsL L + m := by unfold wrap64; omega
    by_cases hg : 1000000000000000 < fundsL L + m
    · have hg1 : decide (1000000000000000 < fundsL L + m) = true := decide_eq_true hg
      have E : Hid (depE L n m = 6 ∧ depL L n m = L) := Lib.hid (by
        have e : depE L n m = 6 := by unfold depE; rw [if_neg H1.out, if_neg H2.out, if_pos (show mF < fundsL L + m from hg)]
        refine ⟨e, ?_⟩
        unfold depL
        rw [e]
        exact if_neg (by decide))
      generalize fundsL L = fu at *
      go_wp2_with fail
      go_ret
      rw [E.out.1, E.out.2]
      exact ⟨rfl, AfR.below HD.out B3.out⟩
    have hg1 : decide (1000000000000000 < fundsL L + m) = false := decide_eq_false hg
    have e0 : depE L n m = 0 := by unfold depE; rw [if_neg H1.out, if_neg H2.out, if_neg (show ¬ mF < fundsL L + m from hg)]
    have E : Hid (depE L n m = 0 ∧ depL L n m = setA L ⟨n, a.ca + m, a.ki, a.de⟩) := Lib.hid ⟨e0, by unfold depL; rw [if_pos e0, HR.out]⟩
    have hca := CA.out
    simp only [mF] at hca
    have hw2 : wrap64 (a.ca + m) = a.ca + m := by unfold wrap64; omega
    generalize fundsL L = fu at *
    clear e0 hg hfb
    by_cases hn0 : n = 0
    · have hd0 : (n == 0) = true := by simpa using hn0
      have hf : L.fund = a.ca := by
        have := HR.out
        rw [hn0, getL_zero] at this
        exact congrArg (fun x => x.1.ca) this
      have c0 := D3.out.c0
      have fz := D3.out.fz 0
      rw [hf] at c0
      have PU := Lib.hid (AfR.then B3.out (AfR.fund D3.out (a.ca + m)))
      have SA : Hid (setA L ⟨n, a.ca + m, a.ki, a.de⟩ = ⟨a.ca + m, L.al, L.hl⟩) := Lib.hid (setA_z hn0)
      clear hf hca hm hn0
      go_wp2_with fail
      go_ret
      rw [E.out.1, E.out.2, SA.out]
      exact ⟨rfl, PU.out⟩
    have hd0 : (n == 0) = false := by simpa using hn0
    have SA : Hid (setA L ⟨n, a.ca + m, a.ki, a.de⟩ = ⟨L.fund, putL L.al ⟨n, a.ca + m, a.ki, a.de⟩, L.hl⟩) := Lib.hid (setA_nz hn0)
    obtain ⟨W7, hW7⟩ : ∃ W7, (W3.setCell ⟨w2.heap.size, 0, none⟩ (.int .u32 n)).setCell ⟨w2.heap.size, 1, none⟩ (.int .i64 (a.ca + m)) = W7 := ⟨_, rfl⟩
    have HW7 := Lib.hid hW7
    have x6 : EA.Bx 33 (W3.setCell ⟨w2.heap.size, 0, none⟩ (.int .u32 n)) w2.heap.size ⟨n, a.ca, a.ki, a.de⟩ := gbx_put (i := 0) X3.out rfl
    have x7 : EA.Bx 33 W7 w2.heap.size ⟨n, a.ca + m, a.ki, a.de⟩ := by rw [← hW7]; exact gbx_put (i := 1) x6 rfl
    have R7 := Lib.hid (gbx_rng x7)
    have k1 : (W3.setCell ⟨w2.heap.size, 0, none⟩ (.int .u32 n)).cell? ⟨w2.heap.size, 1, none⟩ = some (.int .i64 a.ca) := gbx_cell x6 1
    have k0 : W3.cell? ⟨w2.heap.size, 0, none⟩ = some (.int .u32 a.nu) := gbx_cell X3.out 0
    have f0 := gbx_fz X3.out 0
    have f1 := gbx_fz x6 1
    have B7 : Hid (Below w.heap.size w W7) := Lib.hid (by rw [← hW7]; exact (B3.out.setCell GE.out _).setCell GE.out _)
    have PU := Lib.hid (rput9 ⟨n, a.ca + m, a.ki, a.de⟩ W7 (HD.out.below B7.out) LN5.out)
    clear hW7 x6 x7 hca hm hn0
    go_wp2_with (first | (rw [HW7.out]; (with_reducible refine gwl_load TA w2.heap.size 0 R7.out ?_ ?_ ?_); rfl; rfl))
    refine PU.out.mono ?_; rintro e w8 ⟨rfl, h8⟩
    have H8 := Lib.hid h8
    clear h8
    go_wp2_with fail
    go_ret
    rw [E.out.1, E.out.2, SA.out]
    exact ⟨rfl, AfR.then B7.out (AfR.put H8.out)⟩
  have l1 := D3.out.c1
  rw [ev] at l1
  have hlt64 := HI.out.len
  by_cases hf : 64 ≤ L.al.length
  · have hf1 : decide (64 ≤ (L.al.length : Int)) = true := decide_eq_true (by omega)
    have E : Hid (depE L n m = 9 ∧ depL L n m = L) := Lib.hid (by
      have e : depE L n m = 9 := by unfold depE; rw [if_neg H1.out, if_pos (show (getL L n).2 ≠ 0 ∧ 64 ≤ L.al.length from ⟨by rw [HR.out]; show (7 : Int) ≠ 0; decide, hf⟩)]
      refine ⟨e, ?_⟩
      unfold depL
      rw [e]
      exact if_neg (by decide))
    obtain ⟨len, hl⟩ : ∃ len, L.al.length = len := ⟨_, rfl⟩
    rw [hl] at l1 hf1
    clear hl hf ev hlt64
    go_wp2_with fail
    go_ret
    rw [E.out.1, E.out.2]
    exact ⟨rfl, AfR.below HD.out B3.out⟩
  have H2 : Hid (¬ ((getL L n).2 ≠ 0 ∧ 64 ≤ L.al.length)) := Lib.hid (fun c => hf c.2)
  have hf1 : decide (64 ≤ (L.al.length : Int)) = false := decide_eq_false (by omega)
  obtain ⟨len, hl⟩ : ∃ len, L.al.length = len := ⟨_, rfl⟩
  rw [hl] at l1 hf1
  clear hl hf ev hlt64
  go_wp2_with fail
  refine HFU.out.mono ?_; rintro e w5 ⟨rfl, rfl⟩
  clear l1
  have hfb := FB.out
  simp only [mF] at hfb
  have hw1 : wrap64 (fundsL L + m) = fundsL L + m := by unfold wrap64; omega
  by_cases hg : 1000000000000000 < fundsL L + m
  · have hg1 : decide (1000000000000000 < fundsL L + m) = true := decide_eq_true hg
    have E : Hid (depE L n m = 6 ∧ depL L n m = L) := Lib.hid (by
      have e : depE L n m = 6 := by unfold depE; rw [if_neg H1.out, if_neg H2.out, if_pos (show mF < fundsL L + m from hg)]
      refine ⟨e, ?_⟩
      unfold depL
      rw [e]
      exact if_neg (by decide))
    generalize fundsL L = fu at *
    go_wp2_with fail
    go_ret
    rw [E.out.1, E.out.2]
    exact ⟨rfl, AfR.below HD.out B3.out⟩
  have hg1 : decide (1000000000000000 < fundsL L + m) = false := decide_eq_false hg
  have e0 : depE L n m = 0 := by unfold depE; rw [if_neg H1.out, if_neg H2.out, if_neg (show ¬ mF < fundsL L + m from hg)]
  have E : Hid (depE L n m = 0 ∧ depL L n m = setA L ⟨n, a.ca + m, a.ki, a.de⟩) := Lib.hid ⟨e0, by unfold depL; rw [if_pos e0, HR.out]⟩
  have hca := CA.out
  simp only [mF] at hca
  have hw2 : wrap64 (a.ca + m) = a.ca + m := by unfold wrap64; omega
  generalize fundsL L = fu at *
  clear e0 hg hfb
  by_cases hn0 : n = 0
  · have hd0 : (n == 0) = true := by simpa using hn0
    have hf : L.fund = a.ca := by
      have := HR.out
      rw [hn0, getL_zero] at this
      exact congrArg (fun x => x.1.ca) this
    have c0 := D3.out.c0
    have fz := D3.out.fz 0
    rw [hf] at c0
    have PU := Lib.hid (AfR.then B3.out (AfR.fund D3.out (a.ca + m)))
    have SA : Hid (setA L ⟨n, a.ca + m, a.ki, a.de⟩ = ⟨a.ca + m, L.al, L.hl⟩) := Lib.hid (setA_z hn0)
    clear hf hca hm hn0
    go_wp2_with fail
    go_ret
    rw [E.out.1, E.out.2, SA.out]
    exact ⟨rfl, PU.out⟩
  have hd0 : (n == 0) = false := by simpa using hn0
  have SA : Hid (setA L ⟨n, a.ca + m, a.ki, a.de⟩ = ⟨L.fund, putL L.al ⟨n, a.ca + m, a.ki, a.de⟩, L.hl⟩) := Lib.hid (setA_nz hn0)
  obtain ⟨W7, hW7⟩ : ∃ W7, (W3.setCell ⟨w2.heap.size, 0, none⟩ (.int .u32 n)).setCell ⟨w2.heap.size, 1, none⟩ (.int .i64 (a.ca + m)) = W7 := ⟨_, rfl⟩
  have HW7 := Lib.hid hW7
  have x6 : EA.Bx 33 (W3.setCell ⟨w2.heap.size, 0, none⟩ (.int .u32 n)) w2.heap.size ⟨n, a.ca, a.ki, a.de⟩ := gbx_put (i := 0) X3.out rfl
  have x7 : EA.Bx 33 W7 w2.heap.size ⟨n, a.ca + m, a.ki, a.de⟩ := by rw [← hW7]; exact gbx_put (i := 1) x6 rfl
  have R7 := Lib.hid (gbx_rng x7)
  have k1 : (W3.setCell ⟨w2.heap.size, 0, none⟩ (.int .u32 n)).cell? ⟨w2.heap.size, 1, none⟩ = some (.int .i64 a.ca) := gbx_cell x6 1
  have k0 : W3.cell? ⟨w2.heap.size, 0, none⟩ = some (.int .u32 a.nu) := gbx_cell X3.out 0
  have f0 := gbx_fz X3.out 0
  have f1 := gbx_fz x6 1
  have B7 : Hid (Below w.heap.size w W7) := Lib.hid (by rw [← hW7]; exact (B3.out.setCell GE.out _).setCell GE.out _)
  have PU := Lib.hid (rput9 ⟨n, a.ca + m, a.ki, a.de⟩ W7 (HD.out.below B7.out) LN5.out)
  clear hW7 x6 x7 hca hm hn0
  go_wp2_with (first | (rw [HW7.out]; (with_reducible refine gwl_load TA w2.heap.size 0 R7.out ?_ ?_ ?_); rfl; rfl))
  refine PU.out.mono ?_; rintro e w8 ⟨rfl, h8⟩
  have H8 := Lib.hid h8
  clear h8
  go_wp2_with fail
  go_ret
  rw [E.out.1, E.out.2, SA.out]
  exact ⟨rfl, AfR.then B7.out (AfR.put H8.out)⟩
set_option maxRecDepth 100000 in
set_option maxHeartbeats 8000000 in
theorem rwit9 {B g : Nat} {va vh : Value} {L : Lg} (n m : Int) (w : World) (h : Rl w B g va vh L) (hi : LgI L) (hn : U32' n) :
    Calls Try.prog 10 #[.pointer (some ⟨g, 0, none⟩), .int .u32 n, .int .i64 m] w fun e w' => e = .returned (.int .i64 (witE L n m)) ∧ AfR w B g va vh (witL L n m) w' := by
  have hz := zero_ac
  have HD := Lib.hid h
  have NO : Hid (∀ r, witE L n m = r → r ≠ 0 → witL L n m = L) := Lib.hid fun r h1 h2 => by unfold witL; rw [h1]; exact if_neg h2
  by_cases hn0 : n = 0
  · have E : Hid (witE L n m = 2) := Lib.hid (by unfold witE; exact if_pos (.inl hn0))
    have hd0 : (n == 0) = true := by simpa using hn0
    clear h hi hn hn0
    go_enter Try.func10, Try.ntmps10
    go_wp2_with fail
    go_ret
    rw [NO.out _ E.out (by decide), E.out]
    exact ⟨rfl, AfR.below HD.out (Below.refl _ _)⟩
  have hd0 : (n == 0) = false := by simpa using hn0
  have N0 := Lib.hid hn0
  have G := Lib.hid (rget9 n w h hi hn)
  have ON := Lib.hid (ramong m 1 1000000000000000)
  rw [amg_one] at ON
  have NEW := Lib.hid newA9
  have HO : Hid (oneB m 1000000000000000 = true → 1 ≤ m ∧ m ≤ 1000000000000000) := Lib.hid (fun c => by simpa [oneB] using c)
  have CA := Lib.hid (getL_ca hi n)
  have LN5 : Hid (L.al.length ≤ 5000) := Lib.hid (by have := hi.len; omega)
  have AN : Hid ((getL L n).2 = 0 → (getL L n).1.nu = n) := Lib.hid fun e => by
    rcases getL_cases L n with ⟨c, _⟩ | ⟨_, _, c⟩ | ⟨x, _, _, _, c, d⟩
    · exact absurd c hn0
    · rw [c] at e; cases e
    · rw [d]; exact c
  clear h hn hi hn0
  obtain ⟨r, hr⟩ : ∃ r, getL L n = r := ⟨_, rfl⟩
  rw [hr] at G CA AN
  obtain ⟨a, er⟩ := r
  have HR := Lib.hid hr
  dsimp only at G CA AN
  clear hr
  cases ho : oneB m 1000000000000000
  · have E : Hid (witE L n m = 2) := Lib.hid (by unfold witE; exact if_pos (.inr ho))
    rw [ho] at ON
    clear ho
    go_enter Try.func10, Try.ntmps10
    go_wp2_with fail
    refine (ON.out _).mono ?_; rintro e w4 ⟨rfl, rfl⟩
    go_wp2_with fail
    go_ret
    rw [NO.out _ E.out (by decide), E.out]
    exact ⟨rfl, AfR.below HD.out (Below.refl _ _)⟩
  have hm := HO.out ho
  have H1 : Hid (¬ (n = 0 ∨ oneB m mF = false)) := Lib.hid (fun c => by
    rcases c with c | c
    · exact N0.out c
    · rw [show oneB m mF = true from ho] at c; cases c)
  rw [ho] at ON
  clear ho
  go_enter Try.func10, Try.ntmps10
  go_wp2_with fail
  refine (ON.out _).mono ?_; rintro e w4 ⟨rfl, rfl⟩
  go_wp2_with fail
  refine G.out.mono ?_; rintro e w2 ⟨rfl, q2⟩
  obtain ⟨W1, hW1, b1, x1⟩ := NEW.out w2
  have HW1 := Lib.hid hW1
  have X1 := Lib.hid x1
  obtain ⟨W3, hW3⟩ : ∃ W3, W1.setRow w2.heap.size (EA.cells a).toArray = W3 := ⟨_, rfl⟩
  have HW3 := Lib.hid hW3
  have x3 : EA.Bx 33 W3 w2.heap.size a := by rw [← hW3]; exact gbx_set x1
  have X3 := Lib.hid x3
  have B3 : Hid (Below w.heap.size w W3) := Lib.hid (by rw [← hW3]; exact below_row0 (q2.trans (b1.mono q2.size)) q2.size)
  have GE : Hid (w.heap.size ≤ w2.heap.size) := Lib.hid q2.size
  have k1 : W3.cell? ⟨w2.heap.size, 1, none⟩ = some (.int .i64 a.ca) := gbx_cell x3 1
  clear q2 hW1 b1 x1 hW3
  by_cases he : er = 0
  case neg =>
    have E : Hid (witE L n m = er) := Lib.hid (by unfold witE; rw [if_neg H1.out, HR.out]; exact if_pos he)
    have NE := Lib.hid he
    have he1 : (er != 0) = true := bne_iff_ne.2 he
    clear he x3
    go_wp2_with ((rw [HW1.out]; refine gwl_store TA a w2.heap.size X1.out rfl rfl ?_; rw [HW3.out]))
    go_ret
    rw [NO.out _ E.out NE.out, E.out]
    exact ⟨rfl, AfR.below HD.out B3.out⟩
  case pos =>
    subst he
    by_cases hc : a.ca < m
    · have hc1 : decide (a.ca < m) = true := decide_eq_true hc
      have E : Hid (witE L n m = 90) := Lib.hid (by unfold witE; rw [if_neg H1.out, HR.out, if_neg (by simp)]; exact if_pos hc)
      clear x3
      go_wp2_with ((rw [HW1.out]; refine gwl_store TA a w2.heap.size X1.out rfl rfl ?_; rw [HW3.out]))
      go_ret
      rw [NO.out _ E.out (by decide), E.out]
      exact ⟨rfl, AfR.below HD.out B3.out⟩
    have hc1 : decide (a.ca < m) = false := decide_eq_false hc
    have e0 : witE L n m = 0 := by unfold witE; rw [if_neg H1.out, HR.out, if_neg (by simp)]; exact if_neg hc
    have SA : Hid (setA L ⟨a.nu, a.ca - m, a.ki, a.de⟩ = ⟨L.fund, putL L.al ⟨a.nu, a.ca - m, a.ki, a.de⟩, L.hl⟩) := Lib.hid (setA_nz (by show a.nu ≠ 0; rw [AN.out rfl]; exact N0.out))
    have E : Hid (witE L n m = 0 ∧ witL L n m = setA L ⟨a.nu, a.ca - m, a.ki, a.de⟩) := Lib.hid ⟨e0, by unfold witL; rw [if_pos e0, HR.out]⟩
    have hca := CA.out
    simp only [mF] at hca
    have hw2 : wrap64 (a.ca - m) = a.ca - m := by unfold wrap64; omega
    obtain ⟨W7, hW7⟩ : ∃ W7, W3.setCell ⟨w2.heap.size, 1, none⟩ (.int .i64 (a.ca - m)) = W7 := ⟨_, rfl⟩
    have HW7 := Lib.hid hW7
    have x7 : EA.Bx 33 W7 w2.heap.size ⟨a.nu, a.ca - m, a.ki, a.de⟩ := by rw [← hW7]; exact gbx_put (i := 1) x3 rfl
    have R7 := Lib.hid (gbx_rng x7)
    have f1 := gbx_fz x3 1
    have B7 : Hid (Below w.heap.size w W7) := Lib.hid (by rw [← hW7]; exact B3.out.setCell GE.out _)
    have PU := Lib.hid (rput9 ⟨a.nu, a.ca - m, a.ki, a.de⟩ W7 (HD.out.below B7.out) LN5.out)
    clear hW7 x7 hca hm x3 e0 hc
    go_wp2_with (first | (rw [HW1.out]; refine gwl_store TA a w2.heap.size X1.out rfl rfl ?_; rw [HW3.out]) | (rw [HW7.out]) | ((with_reducible refine gwl_load TA w2.heap.size 0 R7.out ?_ ?_ ?_); rfl; rfl))
    refine PU.out.mono ?_; rintro e w8 ⟨rfl, h8⟩
    have H8 := Lib.hid h8
    clear h8
    go_wp2_with fail
    go_ret
    rw [E.out.1, E.out.2, SA.out]
    exact ⟨rfl, AfR.then B7.out (AfR.put H8.out)⟩
set_option maxRecDepth 100000 in
set_option maxHeartbeats 8000000 in
theorem rset9 {B g : Nat} {va vh : Value} {L : Lg} (x : Ac) (w : World) (h : Rl w B g va vh L) (hi : LgI L) (hx : x.ok) :
    Calls Try.prog 14 #[.pointer (some ⟨g, 0, none⟩), .agg (EA.cells x).toArray] w fun e w' => e = .returned (.int .i64 (setE L x)) ∧ AfR w B g va vh (setL L x) w' := by
  have hz := zero_ac
  have HD := Lib.hid h
  have NO : Hid (∀ r, setE L x = r → r ≠ 0 → setL L x = L) := Lib.hid fun r h1 h2 => by unfold setL; rw [h1]; exact if_neg h2
  obtain ⟨W1, hW1⟩ : ∃ W1, w.alloc (.cells (EA.cells x).toArray 33) = W1 := ⟨_, rfl⟩
  have x1 : EA.Bx 33 W1 w.heap.size x := by rw [← hW1]; exact gbx_new w x
  have b1 : Below w.heap.size w W1 := by rw [← hW1]; exact below_new w _
  have k0 : W1.cell? ⟨w.heap.size, 0, none⟩ = some (.int .u32 x.nu) := gbx_cell x1 0
  have k1 : W1.cell? ⟨w.heap.size, 1, none⟩ = some (.int .i64 x.ca) := gbx_cell x1 1
  have k2 : W1.cell? ⟨w.heap.size, 2, none⟩ = some (.bool x.ki) := gbx_cell x1 2
  have k3 : W1.cell? ⟨w.heap.size, 3, none⟩ = some (.bool x.de) := gbx_cell x1 3
  have B1 := Lib.hid b1
  have HW1 := Lib.hid hW1
  have XX := Lib.hid fun (U : World) (q : Below W1.heap.size W1 U) => gbx_below x1 q
  have AM := Lib.hid (ramong x.ca 0 1000000000000000 W1)
  have G := Lib.hid (rget9 x.nu W1 (h.below b1) hi hx.nu)
  have LN5 : Hid (L.al.length ≤ 5000) := Lib.hid (by have := hi.len; omega)
  have NEW := Lib.hid newA9
  have E0 : setE L x = if amgB x.ca 0 mF = false ∨ (x.nu = 0 ∧ (x.ki || x.de) = true) then 2 else (getL L x.nu).2 := by
    unfold setE amgB
    congr 1
    refine propext (or_congr ?_ Iff.rfl)
    by_cases c1 : 0 ≤ x.ca <;> by_cases c2 : x.ca ≤ mF <;> simp [c1, c2] <;> omega
  obtain ⟨am, ham⟩ : ∃ t, amgB x.ca 0 mF = t := ⟨_, rfl⟩
  obtain ⟨z, hz0⟩ : ∃ t, (x.nu == 0) = t := ⟨_, rfl⟩
  obtain ⟨ki, hki⟩ : ∃ t, x.ki = t := ⟨_, rfl⟩
  obtain ⟨de, hde⟩ : ∃ t, x.de = t := ⟨_, rfl⟩
  rw [ham, hki, hde] at E0
  rw [show amgB x.ca 0 1000000000000000 = am from ham] at AM
  rw [hki] at k2
  rw [hde] at k3
  have HZ : Hid (z = true ↔ x.nu = 0) := Lib.hid (by rw [← hz0]; exact beq_iff_eq)
  have EE := Lib.hid E0
  obtain ⟨r, hr⟩ : ∃ r, getL L x.nu = r := ⟨_, rfl⟩
  rw [hr] at G EE
  obtain ⟨a, er⟩ := r
  have HR := Lib.hid hr
  dsimp only at G EE
  clear h hi hx hW1 b1 x1 E0 ham hki hde hr
  have BADP : Hid (∀ P : Prop, (∀ (_ : setE L x = 2), P) → (am = false ∨ (z = true ∧ (ki || de) = true)) → P) := Lib.hid fun P hP hc => hP (by
    rw [EE.out, if_pos]
    exact hc.imp id fun c => ⟨HZ.out.1 c.1, c.2⟩)
  have OKP : Hid (¬ (am = false ∨ (z = true ∧ (ki || de) = true)) → setE L x = er) := Lib.hid fun hc => by
    rw [EE.out, if_neg]
    exact fun c => hc (c.imp id fun c => ⟨HZ.out.2 c.1, c.2⟩)
  go_enter Try.func14, Try.ntmps14
  go_wp2_with (rw [HW1.out])
  refine AM.out.mono ?_; rintro e w4 ⟨rfl, rfl⟩
  by_cases hbad : am = false ∨ (z = true ∧ (ki || de) = true)
  · have E := Lib.hid (BADP.out (setE L x = 2) id hbad)
    cases am
    · clear hbad
      go_wp2_with fail
      go_ret
      rw [NO.out _ E.out (by decide), E.out]
      exact ⟨rfl, AfR.below HD.out B1.out⟩
    · cases z
      · exact absurd hbad (by simp)
      · cases ki
        · cases de
          · exact absurd hbad (by simp)
          · clear hbad
            go_wp2_with fail
            go_ret
            rw [NO.out _ E.out (by decide), E.out]
            exact ⟨rfl, AfR.below HD.out B1.out⟩
        · clear hbad
          go_wp2_with fail
          go_ret
          rw [NO.out _ E.out (by decide), E.out]
          exact ⟨rfl, AfR.below HD.out B1.out⟩
  have E := Lib.hid (OKP.out hbad)
  cases am
  · exact absurd (.inl rfl) hbad
  clear BADP OKP EE
  cases z
  · have hnz : x.nu ≠ 0 := fun c => by have := HZ.out.2 c; cases this
    have SA : Hid (setA L x = ⟨L.fund, putL L.al x, L.hl⟩) := Lib.hid (setA_nz hnz)
    clear hbad HZ hnz
    go_wp2_with fail
    refine G.out.mono ?_; rintro e w2 ⟨rfl, q2⟩
    obtain ⟨W2, hW2, b2, x2⟩ := NEW.out w2
    have HW2 := Lib.hid hW2
    have X2 := Lib.hid x2
    obtain ⟨W3, hW3⟩ : ∃ W3, W2.setRow w2.heap.size (EA.cells a).toArray = W3 := ⟨_, rfl⟩
    have HW3 := Lib.hid hW3
    have B13 : Hid (Below W1.heap.size W1 W3) := Lib.hid (by rw [← hW3]; exact below_row0 (q2.trans (b2.mono q2.size)) q2.size)
    have B3 := Lib.hid (B1.out.trans (B13.out.mono B1.out.size))
    have D3 := Lib.hid (HD.out.below B3.out)
    have X3 := Lib.hid (XX.out W3 B13.out)
    have R3 := Lib.hid (gbx_rng X3.out)
    have k0 : W3.cell? ⟨w.heap.size, 0, none⟩ = some (.int .u32 x.nu) := gbx_cell X3.out 0
    have k1 : W3.cell? ⟨w.heap.size, 1, none⟩ = some (.int .i64 x.ca) := gbx_cell X3.out 1
    clear q2 hW2 b2 x2 hW3
    by_cases he : er = 0
    · subst he
      have S : Hid (setL L x = ⟨L.fund, putL L.al x, L.hl⟩) := Lib.hid (by unfold setL; rw [if_pos E.out, SA.out])
      have PU := Lib.hid (rput9 x W3 D3.out LN5.out)
      go_wp2_with (first | (rw [HW2.out]; refine gwl_store TA a w2.heap.size X2.out rfl rfl ?_; rw [HW3.out]) | ((with_reducible refine gwl_load TA w.heap.size 0 R3.out ?_ ?_ ?_); rfl; rfl))
      refine PU.out.mono ?_; rintro e w8 ⟨rfl, h8⟩
      have H8 := Lib.hid h8
      clear h8
      go_wp2_with fail
      go_ret
      rw [E.out, S.out]
      exact ⟨rfl, AfR.then B3.out (AfR.put H8.out)⟩
    · have he1 : (er != 0) = true := bne_iff_ne.2 he
      have NE := Lib.hid he
      clear he
      go_wp2_with (first | (rw [HW2.out]; refine gwl_store TA a w2.heap.size X2.out rfl rfl ?_; rw [HW3.out]))
      go_ret
      rw [NO.out _ E.out NE.out, E.out]
      exact ⟨rfl, AfR.below HD.out B3.out⟩
  · have hnu : x.nu = 0 := HZ.out.1 rfl
    have SA : Hid (setA L x = ⟨x.ca, L.al, L.hl⟩) := Lib.hid (setA_z hnu)
    have her : er = 0 := by
      have := HR.out
      rw [hnu, getL_zero] at this
      exact (congrArg Prod.snd this).symm
    cases ki
    rotate_left
    · exact absurd (.inr ⟨rfl, rfl⟩) hbad
    cases de
    rotate_left
    · exact absurd (.inr ⟨rfl, rfl⟩) hbad
    subst her
    have S : Hid (setL L x = ⟨x.ca, L.al, L.hl⟩) := Lib.hid (by unfold setL; rw [if_pos E.out, SA.out])
    clear hbad HZ hnu
    go_wp2_with fail
    refine G.out.mono ?_; rintro e w2 ⟨rfl, q2⟩
    obtain ⟨W2, hW2, b2, x2⟩ := NEW.out w2
    have HW2 := Lib.hid hW2
    have X2 := Lib.hid x2
    obtain ⟨W3, hW3⟩ : ∃ W3, W2.setRow w2.heap.size (EA.cells a).toArray = W3 := ⟨_, rfl⟩
    have HW3 := Lib.hid hW3
    have B13 : Hid (Below W1.heap.size W1 W3) := Lib.hid (by rw [← hW3]; exact below_row0 (q2.trans (b2.mono q2.size)) q2.size)
    have B3 := Lib.hid (B1.out.trans (B13.out.mono B1.out.size))
    have D3 := Lib.hid (HD.out.below B3.out)
    have X3 := Lib.hid (XX.out W3 B13.out)
    have R3 := Lib.hid (gbx_rng X3.out)
    have k0 : W3.cell? ⟨w.heap.size, 0, none⟩ = some (.int .u32 x.nu) := gbx_cell X3.out 0
    have k1 : W3.cell? ⟨w.heap.size, 1, none⟩ = some (.int .i64 x.ca) := gbx_cell X3.out 1
    clear q2 hW2 b2 x2 hW3
    have PU := Lib.hid (AfR.then B3.out (AfR.fund D3.out x.ca))
    have c0 := D3.out.c0
    have fz := D3.out.fz 0
    go_wp2_with (first | (rw [HW2.out]; refine gwl_store TA a w2.heap.size X2.out rfl rfl ?_; rw [HW3.out]))
    go_ret
    rw [E.out, S.out]
    exact ⟨rfl, PU.out⟩
end Go.Proofs.Ythnmpnepgagmmaa
