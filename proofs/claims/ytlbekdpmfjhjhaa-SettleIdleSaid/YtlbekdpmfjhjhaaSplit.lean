/- The contract of fixnum.Split: the parts of a total by weights, or the error that the document names. Conditions: the total and the weights are int64 numbers. -/
import Derived.Test.YtlbekdpmfjhjhaaParts
namespace Go.Proofs.Ytlbekdpmfjhjhaa
open Go.RowKit Go.Sort

/-- A weight is below 0. -/
def Ng (ws : List Int) : Prop := ∃ t, t < ws.length ∧ ws.getD t 0 < 0
theorem below_any (x : Int) (w : World) : Calls Try.prog 24 #[.int .i64 x] w fun e w' => e = .returned (.bool (decide (x < 0))) ∧ w = w' := by
  go_enter Try.func24, Try.ntmps24
  go_wp2
  go_ret
  exact ⟨rfl, rfl⟩
set_option maxHeartbeats 400000 in
theorem index_any (A : Option Addr) (n c : Nat) (ws : List Int) (w : World) (h : Rd w A n ws) (hn : n ≤ 1000) :
    Calls Try.prog 36 #[.slice A n c, .func (.func 24) #[] #[]] w fun e w' => ∃ r : Int, e = .returned (.int .i64 r) ∧ (0 ≤ r ↔ Ng ws) ∧ -1 ≤ r ∧ r ≤ 1000 ∧ w = w' := by
  have H := Lib.hid h
  clear h
  go_enter Try.func36, Try.ntmps36
  go_wp2
  go_loop [5, 8] (fun _ i => ∃ k : Nat, k ≤ n ∧ i = .int .i64 k ∧ ∀ t, t < k → 0 ≤ ws.getD t 0) (fun _ i => n - (intOf i).toNat)
  case atStart => exact ⟨0, Nat.zero_le _, rfl, fun t ht => absurd ht (Nat.not_lt_zero t)⟩
  case round =>
    obtain ⟨k, hk, rfl, hp⟩ := hrel
    have HP := Lib.hid hp
    clear hp
    by_cases hlt : k < n
    · obtain ⟨b, o, rfl, hc⟩ := H.out.2 (by omega)
      have hcell := hc k hlt
      clear hc
      obtain ⟨x, hx⟩ : ∃ x, ws.getD k 0 = x := ⟨_, rfl⟩
      rw [hx] at hcell
      have HX := Lib.hid hx
      clear hx
      by_cases hneg : x < 0
      · go_wp2_with (first | (go_at_call 24; refine (below_any _ _).mono ?_; rintro e w1 ⟨rfl, rfl⟩))
        go_ret
        exact ⟨k, rfl, ⟨fun _ => ⟨k, by rw [H.out.1]; exact hlt, by rw [HX.out]; exact hneg⟩, fun _ => by omega⟩, by omega, by omega, rfl⟩
      · go_wp2_with (first | (go_at_call 24; refine (below_any _ _).mono ?_; rintro e w1 ⟨rfl, rfl⟩))
        go_round
        case rel => exact ⟨k + 1, hlt, by go_num, fun t ht => by
          rcases Nat.lt_succ_iff_lt_or_eq.1 ht with h1 | rfl
          · exact HP.out t h1
          · rw [HX.out]; omega⟩
        case measure => simp [intOf]; omega
    · obtain rfl : k = n := by omega
      go_wp2
      go_ret
      exact ⟨-1, rfl, ⟨fun h => by omega, fun ⟨t, t1, t2⟩ => by
        have := HP.out t (by rw [← H.out.1]; exact t1)
        omega⟩, by omega, by omega, rfl⟩
theorem contains_any (A : Option Addr) (n c : Nat) (ws : List Int) (w : World) (h : Rd w A n ws) (hn : n ≤ 1000) (b : Bool) (hb : b = true ↔ Ng ws) :
    Calls Try.prog 25 #[.slice A n c, .func (.func 24) #[] #[]] w fun e w' => e = .returned (.bool b) ∧ w = w' := by
  have I := Lib.hid (index_any A n c ws w h hn)
  clear h
  go_enter Try.func25, Try.ntmps25
  go_wp2_with fail
  refine I.out.mono ?_; rintro e w1 ⟨r, rfl, hr, r1, r2, rfl⟩
  rw [← hb] at hr
  have e : decide (r ≥ 0) = b := by
    cases b
    · simpa using hr
    · simpa using hr
  go_wp2
  go_ret
  refine ⟨?_, rfl⟩
  rw [← e]
  rfl

/-- What Split tells: an error, or none. -/
def se (T : Int) (ws : List Int) (b : Bool) : Int := if 1000 < ws.length then 3 else if T < 0 then 2 else if b then 2 else if tE (sm ws) = 0 then (if T = 0 then 0 else if sm ws = 0 then 10 else 0) else 6
/-- The parts. -/
def pt (T : Int) (ws : List Int) (g : Nat → Int) : List Int := (List.range ws.length).map fun t => Sp.sh T (sm ws) ws t + Sp.hit g (T - Sp.su (Sp.sh T (sm ws) ws) ws.length).toNat t
/-- What Split returns. -/
def Parted (T : Int) (ws : List Int) (b : Bool) (g : Nat → Int) (W : World) (e : Ending) : Prop :=
  ∃ A n zs, e = .returned (.tuple #[.slice A n n, .int .i64 (se T ws b)]) ∧ Rd W A n zs ∧ (se T ws b = 0 → zs = pt T ws g) ∧ (se T ws b ≠ 0 → A = none ∧ zs = [])
theorem none_rd (W : World) : Rd W none 0 [] := ⟨rfl, fun h => absurd h (Nat.lt_irrefl 0)⟩

set_option maxHeartbeats 1000000 in
theorem split_any (A : Option Addr) (n c : Nat) (ws : List Int) (T : Int) (w : World) (h : Rd w A n ws) (hr : ∀ n, n ∈ ws → I64 n) (hT : I64 T) (hbig : n ≤ 1152921504606846975) (b : Bool) (hb : b = true ↔ Ng ws) :
    Calls Try.prog 15 #[.int .i64 T, .slice A n c] w fun e w' => ∃ g, (se T ws b = 0 → 0 < T → Sp.Ok T (sm ws) ws ∧ St.Rn (Sp.ky T (sm ws) ws) g 0 ws.length) ∧ Parted T ws b g w' e ∧ Quiet w w' := by
  have hl := h.1
  have H := Lib.hid h
  have HT := Lib.hid hT
  have S := Lib.hid (fsum_any A n c ws w h hbig hr)
  unfold I64 at hT
  clear h hr
  by_cases c1 : 1000 < n
  · have E : se T ws b = 3 := by unfold se; rw [if_pos (by omega)]
    unfold Parted
    rw [E]
    go_enter Try.func15, Try.ntmps15
    go_wp2_with fail
    go_ret2
    exact ⟨fun _ => 0, fun h => by omega, ⟨none, 0, [], rfl, none_rd _, fun h => by omega, fun _ => ⟨rfl, rfl⟩⟩, Quiet.refl _⟩
  by_cases c2 : T < 0
  · have E : se T ws b = 2 := by unfold se; rw [if_neg (by omega), if_pos c2]
    unfold Parted
    rw [E]
    go_enter Try.func15, Try.ntmps15
    go_wp2_with fail
    go_ret2
    exact ⟨fun _ => 0, fun h => by omega, ⟨none, 0, [], rfl, none_rd _, fun h => by omega, fun _ => ⟨rfl, rfl⟩⟩, Quiet.refl _⟩
  have CF := Lib.hid (contains_any A n c ws w H.out (by omega) b hb)
  cases b
  case true =>
    have E : se T ws true = 2 := by unfold se; rw [if_neg (by omega), if_neg c2, if_pos rfl]
    unfold Parted
    rw [E]
    clear hb
    go_enter Try.func15, Try.ntmps15
    go_wp2_with fail
    refine CF.out.mono ?_; rintro e w1 ⟨rfl, rfl⟩
    go_wp2_with fail
    go_ret2
    exact ⟨fun _ => 0, fun h => by omega, ⟨none, 0, [], rfl, none_rd _, fun h => by omega, fun _ => ⟨rfl, rfl⟩⟩, Quiet.refl _⟩
  case false =>
  have hpos : ∀ t, 0 ≤ ws.getD t 0 := fun t => by
    by_cases ht : t < ws.length
    · have h1 : ¬ ws.getD t 0 < 0 := fun h => by
        have := hb.2 ⟨t, ht, h⟩
        cases this
      omega
    · have : ws.getD t 0 = 0 := by simp [List.getD, Nat.le_of_not_lt ht]
      omega
  have HPos := Lib.hid hpos
  clear hb hpos
  by_cases c3 : tE (sm ws) = 0
  case neg =>
    have E6 : tE (sm ws) = 6 := by unfold tE at c3 ⊢; split at c3 <;> simp_all
    have E : se T ws false = 6 := by unfold se; rw [if_neg (by omega), if_neg c2, if_neg (by simp), if_neg c3]
    unfold Parted
    rw [E]
    rw [E6] at S c3
    go_enter Try.func15, Try.ntmps15
    go_wp2_with fail
    refine CF.out.mono ?_; rintro e w1 ⟨rfl, rfl⟩
    go_wp2_with fail
    refine S.out.mono ?_; rintro e w1 ⟨rfl, rfl⟩
    go_wp2_with fail
    go_ret2
    exact ⟨fun _ => 0, fun h => by omega, ⟨none, 0, [], rfl, none_rd _, fun h => by omega, fun _ => ⟨rfl, rfl⟩⟩, Quiet.refl _⟩
  case pos =>
  have c4 : I64 (sm ws) := by
    unfold tE at c3
    unfold I64
    split at c3
    · assumption
    · cases c3
  rw [tN_in c4, c3] at S
  obtain ⟨z, hz⟩ : ∃ z, sm ws = z := ⟨_, rfl⟩
  rw [hz] at S c4
  have C4 := Lib.hid c4
  unfold I64 at c4
  by_cases c5 : T = 0
  · subst c5
    have hm1 := run_make_row' (P := Try.prog) 38 2 (.int .i64 0) 8 Try.underlying38 info_int rfl .i64 .i64 n (by omega) (by omega)
    have E : se 0 ws false = 0 := by unfold se; rw [if_neg (by omega), if_neg c2, if_neg (by simp), if_pos c3, if_pos rfl]
    have EP : Hid (∀ g, pt 0 ws g = List.replicate n 0) := Lib.hid (fun g => by
      have h0 : ∀ t, Sp.sh 0 (sm ws) ws t = 0 := fun t => by unfold Sp.sh; rw [Int.zero_mul, Int.zero_ediv]
      have h1 : Sp.su (Sp.sh 0 (sm ws) ws) ws.length = 0 := by
        rw [Sp.su_eq (g := fun _ => 0) fun t _ => h0 t, Sp.su_const, Int.zero_mul]
      unfold pt
      rw [h1, ← hl]
      apply List.ext_getElem
      · simp
      · intro i h2 h3
        simp [h0, Sp.hit])
    have RN := Lib.hid (Rv.new (enc := Value.int .i64) w n _ rfl 2)
    unfold Parted
    rw [E]
    clear hz c3
    go_enter Try.func15, Try.ntmps15
    go_wp2_with fail
    refine CF.out.mono ?_; rintro e w1 ⟨rfl, rfl⟩
    go_wp2_with fail
    refine S.out.mono ?_; rintro e w1 ⟨rfl, rfl⟩
    go_wp2_with fail
    go_ret2
    refine ⟨fun _ => 0, fun _ h => by omega, ⟨_, n, _, rfl, ⟨?_, fun h0 => ⟨_, 0, rfl, fun j hj => ?_⟩⟩, fun _ => (EP.out _).symm, fun h => by omega⟩, (Quiet.refl _).alloc _ _⟩
    · simp
    · rw [Nat.zero_add, (RN.out j hj).1]
      simp [List.getD, hj]
  by_cases c6 : z = 0
  · subst c6
    have E : se T ws false = 10 := by unfold se; rw [if_neg (by omega), if_neg c2, if_neg (by simp), if_pos c3, if_neg c5, if_pos hz]
    unfold Parted
    rw [E]
    clear hz c3
    go_enter Try.func15, Try.ntmps15
    go_wp2_with fail
    refine CF.out.mono ?_; rintro e w1 ⟨rfl, rfl⟩
    go_wp2_with fail
    refine S.out.mono ?_; rintro e w1 ⟨rfl, rfl⟩
    go_wp2_with fail
    go_ret2
    exact ⟨fun _ => 0, fun h => by omega, ⟨none, 0, [], rfl, none_rd _, fun h => by omega, fun _ => ⟨rfl, rfl⟩⟩, Quiet.refl _⟩
  · have E : se T ws false = 0 := by unfold se; rw [if_neg (by omega), if_neg c2, if_neg (by simp), if_pos c3, if_neg c5, if_neg (by rw [hz]; exact c6)]
    have hz0 : 0 ≤ z := by
      rw [← hz, ← List.take_length (l := ws), Sp.sm_su ws ws.length (Nat.le_refl _)]
      exact Sp.su_nonneg fun t _ => HPos.out t
    have hok : Sp.Ok T z ws := ⟨by omega, by omega, by omega, by omega, HPos.out, hz⟩
    have P := Lib.hid (parts_any A n c ws T z w H.out (by omega) hok)
    have HOK := Lib.hid hok
    have HZ := Lib.hid hz
    unfold Parted pt
    rw [E, hz]
    clear hz c3 hok
    go_enter Try.func15, Try.ntmps15
    go_wp2_with fail
    refine CF.out.mono ?_; rintro e w1 ⟨rfl, rfl⟩
    go_wp2_with fail
    refine S.out.mono ?_; rintro e w1 ⟨rfl, rfl⟩
    go_wp2_with fail
    refine P.out.mono ?_; rintro e w1 ⟨g, hg, rfl, q, r⟩
    have HG := Lib.hid hg
    have HR := Lib.hid r
    have HQ := Lib.hid q
    clear hg r q
    go_wp2_with fail
    go_ret2
    refine ⟨g, fun _ _ => ⟨HOK.out, by rw [hl]; exact HG.out⟩, ⟨_, n, _, rfl, ⟨?_, fun h0 => ⟨_, 0, rfl, fun j hj => ?_⟩⟩, fun _ => rfl, fun h => by omega⟩, HQ.out⟩
    · simp [hl]
    · rw [Nat.zero_add, (HR.out j hj).1, hl]
      simp [List.getD, hj]
end Go.Proofs.Ytlbekdpmfjhjhaa
