/- Scan, the program's and the document's. -/
import Derived.Test.YtcpcnjiphiokjaaTb
namespace Go.Proofs.Ytcpcnjiphiokjaa
open Go.RowKit Go.Shelf
set_option linter.unusedVariables false
set_option linter.unusedSimpArgs false

theorem within_m {m : Int} (hm : 0 ≤ m) (x : Int) : withinB x m = amB x (-m) m := by
  unfold withinB amB
  by_cases h : -m ≤ x ∧ x ≤ m
  · rw [decide_eq_true h, decide_eq_true ⟨hm, h⟩]
  · rw [decide_eq_false h, decide_eq_false (fun c => h c.2)]
/-- A shift that may not be. -/
def notS (x : Int) : Bool := !amB x (-10000000) 10000000
theorem tests10 (x : Int) (hx : I64 x) (w : World) : Calls Try.prog 28 #[.int .i64 x] w fun e w' => e = .returned (.bool (notS x)) ∧ w = w' := by
  have W := Lib.hid (pwithin_any x 10000000 hx (by unfold I64; omega) w)
  rw [within_m (by omega)] at W
  unfold notS
  generalize amB x (-10000000) 10000000 = t at *
  clear hx
  go_enter Try.func28, Try.ntmps28
  go_wp2_with fail
  refine W.out.mono ?_; rintro e w2 ⟨rfl, rfl⟩
  go_wp2_with fail
  go_ret
  exact ⟨rfl, rfl⟩
set_option maxRecDepth 100000 in
theorem index10 (g : Nat) (l : List Int) (w : World) (hl : l.length = 16) (hi : ∀ x, x ∈ l → I64 x) (hc : ∀ j, j < 16 → w.cell? ⟨g, j, none⟩ = some (.int .i64 (l.getD j 0))) :
    Calls Try.prog 55 #[.slice (some ⟨g, 0, none⟩) 16 16, .func (.func 28) #[] #[]] w fun e w' => e = .returned (.int .i64 (gidx notS l)) ∧ w = w' := by
  have eg : ∀ args w, (callFunc 28 args).run Try.prog w = .ok (.enter 28 args) w := fun args w => by go_simp
  have HC := Lib.hid hc
  have HL := Lib.hid hl
  have HI := Lib.hid hi
  obtain ⟨r, hr1⟩ : ∃ r, gidx notS l = r := ⟨_, rfl⟩
  rw [hr1]
  have R1 := Lib.hid hr1
  clear hr1 hc hl hi
  go_enter Try.func55, Try.ntmps55
  go_wp2_with fail
  go_loop [5, 8] (fun _ i => ∃ k : Nat, k ≤ 16 ∧ i = .int .i64 k ∧ ∀ (j : Nat) (y : Int), j < k → l[j]? = some y → notS y = false) (fun _ i => 16 - (intOf i).toNat)
  case atStart => exact ⟨0, Nat.zero_le _, rfl, fun j y hj => absurd hj (Nat.not_lt_zero j)⟩
  case round =>
    obtain ⟨k, hk, rfl, hno⟩ := hrel
    have NO := Lib.hid hno
    clear hno
    by_cases hlt : k < 16
    case pos =>
      have hd : decide ((k : Int) < 16) = true := decide_eq_true (by omega)
      have hkl : k < l.length := by rw [HL.out]; exact hlt
      have HX : Hid (l[k]? = some (l.getD k 0)) := Lib.hid (by simp [List.getD, hkl])
      have ck := HC.out k hlt
      have I := HI.out _ (getD_mem hkl)
      obtain ⟨x, hv⟩ : ∃ x, l.getD k 0 = x := ⟨_, rfl⟩
      rw [hv] at HX ck I
      have C := Lib.hid (tests10 x I w)
      clear hv hkl I
      cases hpx : notS x
      · rw [hpx] at C
        have PX := Lib.hid hpx
        clear hpx
        go_wp2_with fail
        refine C.out.mono ?_; rintro e w2 ⟨rfl, rfl⟩
        go_wp2_with fail
        go_round
        case rel => exact ⟨k + 1, hlt, by go_num, fun j y hj hy => by
            rcases Nat.lt_or_ge j k with c | c
            · exact NO.out j y c hy
            · obtain rfl : j = k := by omega
              rw [HX.out] at hy; cases hy; exact PX.out⟩
        case measure => simp [intOf]; omega
      · rw [hpx] at C
        have E : Hid (r = (k : Int)) := Lib.hid (by rw [← R1.out, gidx, gidx_hit HX.out hpx NO.out])
        clear hpx
        go_wp2_with fail
        refine C.out.mono ?_; rintro e w2 ⟨rfl, rfl⟩
        go_wp2_with fail
        go_ret
        rw [E.out]
        exact ⟨rfl, rfl⟩
    case neg =>
      obtain rfl : k = 16 := by omega
      have E : Hid (r = -1) := Lib.hid (by rw [← R1.out, gidx, gidx_miss fun j y hy => NO.out j y (by have := (List.getElem?_eq_some_iff.1 hy).1; have := HL.out; omega) hy])
      go_wp2_with fail
      go_ret
      rw [E.out]
      exact ⟨rfl, rfl⟩
set_option maxRecDepth 100000 in
theorem contains10 (g : Nat) (l : List Int) (w : World) (hl : l.length = 16) (hi : ∀ x, x ∈ l → I64 x) (hc : ∀ j, j < 16 → w.cell? ⟨g, j, none⟩ = some (.int .i64 (l.getD j 0))) :
    Calls Try.prog 30 #[.slice (some ⟨g, 0, none⟩) 16 16, .func (.func 28) #[] #[]] w fun e w' => e = .returned (.bool (l.any notS)) ∧ w = w' := by
  have C := Lib.hid (index10 g l w hl hi hc)
  have E : decide (0 ≤ gidx notS l) = l.any notS := by
    rcases gidx_cases notS l with ⟨e, h⟩ | ⟨k, x, e, hk, hx, hpx, _⟩
    · rw [e, List.any_eq_false.2 fun x hx => by rw [h x hx]; decide]; rfl
    · rw [e, List.any_eq_true.2 ⟨x, List.mem_of_getElem? hx, hpx⟩, decide_eq_true (Int.natCast_nonneg k)]
  rw [← E]
  generalize gidx notS l = r at *
  clear hl hi hc E
  go_enter Try.func30, Try.ntmps30
  go_wp2_with fail
  refine C.out.mono ?_; rintro e w2 ⟨rfl, rfl⟩
  go_wp2_with fail
  go_ret
  exact ⟨rfl, rfl⟩
theorem any_notS (l : List Int) : l.any notS = !l.all (fun x => amB x (-10000000) 10000000) := by
  induction l with
  | nil => rfl
  | cons x r ih => rw [List.any_cons, List.all_cons, ih, notS]; cases amB x (-10000000) 10000000 <;> rfl
theorem scanB_no {l : List Int} {q : Int} (h : (l.any notS || !amB q (-1000000000) 1000000000) = true) : scanB l q = false := by
  rw [any_notS] at h
  unfold scanB
  revert h
  cases l.all (fun x => amB x (-10000000) 10000000) <;> cases amB q (-1000000000) 1000000000 <;> simp
theorem scanB_yes {l : List Int} {q : Int} (h : (l.any notS || !amB q (-1000000000) 1000000000) = false) : scanB l q = true := by
  rw [any_notS] at h
  unfold scanB
  revert h
  cases l.all (fun x => amB x (-10000000) 10000000) <;> cases amB q (-1000000000) 1000000000 <;> simp
set_option maxRecDepth 100000 in
set_option maxHeartbeats 2000000 in
theorem scan10 (l : List Int) (q : Int) (w : World) (hl : l.length = 16) (hi : ∀ x, x ∈ l → I64 x) (hq : I64 q) :
    Calls Try.prog 14 #[.agg (arr10 l), .int .i64 q] w fun e w' => e = .returned (.tuple #[.int .i64 (scanN l q), .int .i64 (scanE l q)]) ∧ Below w.heap.size w w' := by
  have HG := heap_alloc_new w (.cells (arr10 l) 26)
  have HI := info10 hl
  have B := Lib.hid (below_new w (.cells (arr10 l) 26))
  have CC : ∀ j, j < 16 → (w.alloc (.cells (arr10 l) 26)).cell? ⟨w.heap.size, j, none⟩ = some (.int .i64 (l.getD j 0)) := fun j hj => by
    rw [cell_of_row _ _ _ _ _ _ HG, arr10_at hl j hj]
  have C := Lib.hid (contains10 w.heap.size l (w.alloc (.cells (arr10 l) 26)) hl hi CC)
  have WI := Lib.hid (fun W => pwithin_any q 1000000000 hq (by unfold I64; omega) W)
  rw [within_m (by omega)] at WI
  have WO := Lib.hid (fun W h1 h2 => worst10 l q W hl h1 h2)
  cases h : (l.any notS || !amB q (-1000000000) 1000000000)
  · have hs := scanB_yes h
    obtain ⟨s1, s2⟩ := scanB_iff.1 hs
    have WX := Lib.hid (fun W => WO.out W s1 s2)
    have E1 : Hid (scanN l q = wst l q) := Lib.hid (by unfold scanN; rw [hs]; rfl)
    have E2 : Hid (scanE l q = 0) := Lib.hid (by unfold scanE; rw [hs]; rfl)
    obtain ⟨h1, h2⟩ := Bool.or_eq_false_iff.1 h
    have h3 : amB q (-1000000000) 1000000000 = true := by simpa using h2
    rw [h1] at C
    rw [h3] at WI
    clear h hs s1 s2 WO h1 h2 h3 CC hl hi hq
    go_enter Try.func14, Try.ntmps14
    go_wp2_with fail
    refine C.out.mono ?_; rintro e w2 ⟨rfl, rfl⟩
    go_wp2_with fail
    refine (WI.out _).mono ?_; rintro e w2 ⟨rfl, rfl⟩
    go_wp2_with ((with_reducible refine wpList_load_row rfl 26 (.tmp 2) rfl w.heap.size rfl 26 (arr10 l) (0, 0) _ HG Try.underlying26 rfl HI ?_))
    refine (WX.out _).mono ?_; rintro e w2 ⟨rfl, q2⟩
    have Q2 := Lib.hid q2
    clear q2
    go_wp2_with fail
    go_ret2
    rw [E1.out, E2.out]
    exact ⟨rfl, B.out.trans (Q2.out.mono B.out.size)⟩
  · have hs := scanB_no h
    have E1 : Hid (scanN l q = 0) := Lib.hid (by unfold scanN; rw [hs]; rfl)
    have E2 : Hid (scanE l q = 2) := Lib.hid (by unfold scanE; rw [hs]; rfl)
    have H := Lib.hid h
    clear h hs WO CC hl hi hq HI
    cases h1 : l.any notS
    · have h3 : amB q (-1000000000) 1000000000 = false := by have := H.out; rw [h1] at this; simpa using this
      rw [h1] at C
      rw [h3] at WI
      clear h1 h3 H
      go_enter Try.func14, Try.ntmps14
      go_wp2_with fail
      refine C.out.mono ?_; rintro e w2 ⟨rfl, rfl⟩
      go_wp2_with fail
      refine (WI.out _).mono ?_; rintro e w2 ⟨rfl, rfl⟩
      go_wp2_with fail
      go_ret2
      rw [E1.out, E2.out]
      exact ⟨rfl, B.out⟩
    · rw [h1] at C
      clear h1 H
      go_enter Try.func14, Try.ntmps14
      go_wp2_with fail
      refine C.out.mono ?_; rintro e w2 ⟨rfl, rfl⟩
      go_wp2_with fail
      go_ret2
      rw [E1.out, E2.out]
      exact ⟨rfl, B.out⟩
theorem rscanB_no {l : List Int} {k : Nat} {x q : Int} (hx : l[k]? = some x) (h : amB x (-10000000) 10000000 = false) : scanB l q = false := by
  unfold scanB
  rw [List.all_eq_false.2 ⟨x, List.mem_of_getElem? hx, by rw [h]; exact Bool.false_ne_true⟩]; rfl
end Go.Proofs.Ytcpcnjiphiokjaa
