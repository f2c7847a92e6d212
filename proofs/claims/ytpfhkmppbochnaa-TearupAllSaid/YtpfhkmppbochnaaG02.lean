/- Texts of a proof, laid together: SortE, Cmp, SplitMath, RefMath, DivMath, Shelf. -/
import Derived.WalkArith
import Derived.Laws.BitsAllLaws
import Derived.Lib.ItoaNum
import Derived.Shelf.Small.Bits
import Derived.Shelf.Strconv.Itoa0
import Derived.Shelf.Bits.Mul64
import Derived.Test.YtpfhkmppbochnaaProg
import Derived.Test.YtpfhkmppbochnaaG01
/- The contract of slices.SortStableFunc over a row of places, each place its own number: it puts them in order, the greater keys first, the smaller place first where keys are alike, and leaves all other memory as it was. Conditions: fewer than 2^60 places; the comparison tells the keys' order and only reads. -/
namespace Go.Proofs.Ytpfhkmppbochnaa
open Go.RowKit Go.Sort

namespace St
variable {key : Int → Int}
theorem Rp.step {f g : Nat → Int} {bs k a : Nat} (h : Rp key f bs k) (ha : a = k * bs) (e : ∀ t, t < a → g t = f t) (r : Rn key g a (a + bs)) : Rp key g bs (k + 1) ∧ a + bs = (k + 1) * bs := by
  subst ha
  exact ⟨(h.like e).snoc r, by rw [Nat.add_mul, Nat.one_mul]⟩
theorem Rp.done {g : Nat → Int} {bs k a n : Nat} (h : Rp key g bs k) (ha : a = k * bs) (hn : a ≤ n) (hb : n ≤ a + bs) (r : a < n → Rn key g a n) : ∃ c, Rs key g bs n c 0 := by
  subst ha
  refine ⟨_, Rp.all (d := 1) h ?_ hn⟩
  by_cases hl : k * bs < n
  · exact .inr ⟨by rw [Nat.min_eq_right hb]; exact r hl, hb⟩
  · exact .inl (by omega)
theorem Rs.take {f : Nat → Int} {bs n c s : Nat} (h : Rs key f bs n c s) (hn : s < n) (hb : s + bs ≤ n) : ∃ c', Rn key f s (s + bs) ∧ Rs key f bs n c' (s + bs) := by
  match c, h with
  | 0, h => exact absurd h (by show ¬ n ≤ s; omega)
  | c + 1, h =>
    rcases h with h | ⟨h1, h2⟩
    · omega
    · exact ⟨c, by rw [Nat.min_eq_left hb] at h1; exact h1, h2⟩
theorem Rs.last {f : Nat → Int} {bs n c s : Nat} (h : Rs key f bs n c s) (hb : n ≤ s + bs) (hn : s < n) : Rn key f s n := by
  match c, h with
  | 0, h => exact absurd h (by show ¬ n ≤ s; omega)
  | c + 1, h =>
    rcases h with h | ⟨h1, h2⟩
    · omega
    · rw [Nat.min_eq_right hb] at h1; exact h1
theorem Rn.none (f : Nat → Int) : Rn key f 0 0 := ⟨So.one f (by omega), fun v => ⟨fun ⟨k, _, h, _⟩ => by omega, fun h => by omega⟩⟩
theorem Rs.whole {f : Nat → Int} {bs n c : Nat} (h : Rs key f bs n c 0) (hb : n ≤ bs) : Rn key f 0 n := by
  rcases Nat.eq_zero_or_pos n with rfl | hn
  · exact Rn.none f
  · exact h.last (by omega) hn
end St

theorem insert_at (w : World) (blk off N cap K : Nat) (hB : Ba w blk off N) (hN : N < 4611686018427387904) (key : Int → Int) (q : Addr) (C : Cp w blk off N key K q) (a b : Nat) (vb : Int) (eb : vb = b) (f : Nat → Int) (W : World) (hO : On w blk off N f W)
    (hA : Al N K f) (h1 : a ≤ b) (h2 : b ≤ N) (hI : ∀ t : Nat, a ≤ t → t < N → f t = t) :
    Calls Try.prog 47 #[.slice (some ⟨blk, off, none⟩) N cap, .int .i64 a, .int .i64 vb, .func (.func 40) #[] #[.pointer (some q)]] W fun e w' => e = .returned (.tuple #[]) ∧ ∃ g, On w blk off N g w' ∧ Al N K g ∧ (∀ t, t < a ∨ b ≤ t → g t = f t) ∧ St.Rn key g a b := by
  subst eb
  refine (insert_any w blk off N cap K hB hN key q C a b f W hO hA h1 h2 (fun s t k1 k2 k3 => by rw [hI s k1 (by omega), hI t (by omega) (by omega)]; omega)).mono ?_
  rintro e w' ⟨he, g, hg, hM⟩
  exact ⟨he, g, hg, hA.mg hM h2, hM.1, St.Rn.ins (fun t t1 t2 => hI t t1 (by omega)) hM⟩
theorem sym_at (w : World) (blk off N cap K : Nat) (hB : Ba w blk off N) (hN : N < 4611686018427387904) (key : Int → Int) (q : Addr) (C : Cp w blk off N key K q) (a m b : Nat) (vm vb : Int) (em : vm = m) (eb : vb = b) (f : Nat → Int) (W : World) (hO : On w blk off N f W)
    (hA : Al N K f) (h1 : a < m) (h2 : m < b) (h3 : b ≤ N) (r1 : St.Rn key f a m) (r2 : St.Rn key f m b) :
    Calls Try.prog 48 #[.slice (some ⟨blk, off, none⟩) N cap, .int .i64 a, .int .i64 vm, .int .i64 vb, .func (.func 40) #[] #[.pointer (some q)]] W fun e w' => e = .returned (.tuple #[]) ∧ ∃ g, On w blk off N g w' ∧ Al N K g ∧ (∀ t, t < a ∨ b ≤ t → g t = f t) ∧ St.Rn key g a b := by
  subst em eb
  refine (sym_any w blk off N cap K hB hN key q C (b - a) a m b f W (Nat.le_refl _) hO hA h1 h2 h3 r1.1 r2.1 (r1.cr r2)).mono ?_
  rintro e w' ⟨he, g, hg, hM⟩
  exact ⟨he, g, hg, hA.mg hM h3, hM.1, r1.merged r2 (by omega) (by omega) hM⟩

set_option maxHeartbeats 2000000 in
theorem stable_any (w : World) (blk off N cap K : Nat) (hB : Ba w blk off N) (hN : N < 1152921504606846976) (key : Int → Int) (q : Addr) (C : Cp w blk off N key K q) (f : Nat → Int) (W : World) (hO : On w blk off N f W) (hK : N ≤ K) (hid : ∀ t : Nat, t < N → f t = t) :
    Calls Try.prog 44 #[.slice (some ⟨blk, off, none⟩) N cap, .int .i64 N, .func (.func 40) #[] #[.pointer (some q)]] W fun e w' => e = .returned (.tuple #[]) ∧ ∃ g, On w blk off N g w' ∧ St.Rn key g 0 N := by
  have hA : Al N K f := fun t ht => by rw [hid t ht]; omega
  have HD := Lib.hid hid
  clear hid
  go_enter Try.func44, Try.ntmps44
  go_wp2
  go_loopw [7, 8] (fun va vb wr => ∃ (a k : Nat) (g : Nat → Int), va = .int .i64 a ∧ vb = .int .i64 ((a : Int) + 20) ∧ a = k * 20 ∧ a ≤ N ∧ On w blk off N g wr ∧ Al N K g ∧ St.Rp key g 20 k ∧ (∀ t : Nat, a ≤ t → t < N → g t = t)) (fun va _ _ => N - (intOf va).toNat)
  case atStart => exact ⟨0, 0, f, rfl, rfl, rfl, Nat.zero_le _, hO, hA, fun i hi => absurd hi (Nat.not_lt_zero i), fun t _ ht => HD.out t ht⟩
  case round =>
    obtain ⟨a, k, g, rfl, rfl, hak, haN, hR, hAg, hP, hI⟩ := hrel
    clear hO hA
    have HP := Lib.hid hP
    have HI := Lib.hid hI
    have HK := Lib.hid hak
    clear hP hI hak
    by_cases hlt : a + 20 ≤ N
    · go_wp2_with fail
      refine (insert_at w blk off N cap K hB (by omega) key q C a (a + 20) _ (by omega) g _ hR hAg (by omega) hlt HI.out).mono ?_; rintro e w1 ⟨rfl, g', hR1, hA1, hE1, hn1⟩
      have X := Lib.hid (St.Rp.step HP.out HK.out (fun t ht => hE1 t (.inl ht)) hn1)
      have Y : Hid (∀ t : Nat, a + 20 ≤ t → t < N → g' t = t) := Lib.hid fun t t1 t2 => by rw [hE1 t (.inr t1)]; exact HI.out t (by omega) t2
      clear hE1 hn1 hR
      go_wp2_with fail
      go_roundw
      case rel => exact ⟨a + 20, k + 1, g', by go_num, by congr 1, X.out.2, hlt, hR1, hA1, X.out.1, Y.out⟩
      case measure => simp [intOf]; omega
    · go_wp2_with fail
      refine (insert_at w blk off N cap K hB (by omega) key q C a N _ rfl g _ hR hAg haN (Nat.le_refl _) HI.out).mono ?_; rintro e w1 ⟨rfl, g', hR1, hA1, hE1, hn1⟩
      have X := Lib.hid (St.Rp.done (HP.out.like fun t ht => hE1 t (.inl (by rw [HK.out]; exact ht))) HK.out haN (by omega) fun _ => hn1)
      clear hE1 hn1 hR HP HI HK
      go_wp2_with fail
      go_loopw [6, 7, 8, 9] (fun vs va vb vm wr => ∃ (bs c : Nat) (g : Nat → Int), vs = .int .i64 bs ∧ 20 ≤ bs ∧ (bs ≤ 20 ∨ bs ≤ 2 * N) ∧ On w blk off N g wr ∧ Al N K g ∧ St.Rs key g bs N c 0) (fun vs _ _ _ _ => N - (intOf vs).toNat)
      case atStart =>
        obtain ⟨c, hc⟩ := X.out
        exact ⟨20, c, g', rfl, by omega, by omega, hR1, hA1, hc⟩
      case round =>
        obtain ⟨bs, c, g2, rfl, hb1, hb2, hR2, hA2, hS2⟩ := hrel
        have HS2 := Lib.hid hS2
        clear hS2 hR1 hA1 X
        by_cases hlt2 : bs < N
        · go_wp2_with fail
          go_loopw [7, 8] (fun va vb wr => ∃ (a k c : Nat) (g : Nat → Int), va = .int .i64 a ∧ vb = .int .i64 ((a : Int) + 2 * bs) ∧ a = k * (2 * bs) ∧ a ≤ N ∧ On w blk off N g wr ∧ Al N K g ∧ St.Rp key g (2 * bs) k ∧ St.Rs key g bs N c a) (fun va _ _ => N - (intOf va).toNat)
          case atStart => exact ⟨0, 0, c, g2, rfl, by congr 1; omega, by omega, Nat.zero_le _, hR2, hA2, fun i hi => absurd hi (Nat.not_lt_zero i), HS2.out⟩
          case round =>
            obtain ⟨a3, k3, c3, g3, rfl, rfl, hak3, haN3, hR3, hA3, hP3, hS3⟩ := hrel
            have HP3 := Lib.hid hP3
            have HS3 := Lib.hid hS3
            have HK3 := Lib.hid hak3
            clear hP3 hS3 hak3 hR2 hA2 HS2
            by_cases hlt3 : a3 + 2 * bs ≤ N
            · obtain ⟨c4, n1, s1⟩ := HS3.out.take (by omega) (by omega)
              obtain ⟨c5, n2, s2⟩ := s1.take (by omega) (by omega)
              rw [show a3 + bs + bs = a3 + 2 * bs by omega] at n2 s2
              have N1 := Lib.hid n1
              have N2 := Lib.hid n2
              have S2 := Lib.hid s2
              clear n1 n2 s1 s2
              go_wp2_with fail
              refine (sym_at w blk off N cap K hB (by omega) key q C a3 (a3 + bs) (a3 + 2 * bs) _ _ (by omega) (by omega) g3 _ hR3 hA3 (by omega) (by omega) hlt3 N1.out N2.out).mono ?_; rintro e w1 ⟨rfl, g4, hR4, hA4, hE4, hn4⟩
              have X4 := Lib.hid (St.Rp.step HP3.out HK3.out (fun t ht => hE4 t (.inl ht)) hn4)
              have Y4 := Lib.hid (S2.out.like fun t ht => hE4 t (.inr ht))
              clear hE4 hn4 hR3
              go_wp2_with fail
              go_roundw
              case rel => exact ⟨a3 + 2 * bs, k3 + 1, c5, g4, by congr 1, by congr 1, X4.out.2, hlt3, hR4, hA4, X4.out.1, Y4.out⟩
              case measure => simp [intOf]; omega
            · by_cases hlt4 : a3 + bs < N
              · obtain ⟨c4, n1, s1⟩ := HS3.out.take (by omega) (by omega)
                have n2 := s1.last (by omega) (by omega)
                have N1 := Lib.hid n1
                have N2 := Lib.hid n2
                clear n1 n2 s1
                go_wp2_with fail
                refine (sym_at w blk off N cap K hB (by omega) key q C a3 (a3 + bs) N _ _ (by omega) rfl g3 _ hR3 hA3 (by omega) hlt4 (Nat.le_refl _) N1.out N2.out).mono ?_; rintro e w1 ⟨rfl, g4, hR4, hA4, hE4, hn4⟩
                have X4 := Lib.hid (St.Rp.done (HP3.out.like fun t ht => hE4 t (.inl (by rw [HK3.out]; exact ht))) HK3.out haN3 (by omega) fun _ => hn4)
                clear hE4 hn4 hR3
                go_wp2_with fail
                go_roundw
                case rel =>
                  obtain ⟨c6, hc6⟩ := X4.out
                  exact ⟨2 * bs, c6, g4, by congr 1; omega, by omega, by omega, hR4, hA4, hc6⟩
                case measure => simp [intOf]; omega
              · have X4 := Lib.hid (St.Rp.done HP3.out HK3.out haN3 (by omega) fun h => HS3.out.last (by omega) h)
                go_wp2_with fail
                go_roundw
                case rel =>
                  obtain ⟨c6, hc6⟩ := X4.out
                  exact ⟨2 * bs, c6, g3, by congr 1; omega, by omega, by omega, hR3, hA3, hc6⟩
                case measure => simp [intOf]; omega
        · go_wp2_with fail
          go_end0
          exact ⟨rfl, g2, hR2, HS2.out.whole (by omega)⟩

theorem sort_any (w : World) (blk off N cap K : Nat) (hB : Ba w blk off N) (hN : N < 1152921504606846976) (key : Int → Int) (q : Addr) (C : Cp w blk off N key K q) (f : Nat → Int) (W : World) (hO : On w blk off N f W) (hK : N ≤ K) (hid : ∀ t : Nat, t < N → f t = t) :
    Calls Try.prog 39 #[.slice (some ⟨blk, off, none⟩) N cap, .func (.func 40) #[] #[.pointer (some q)]] W fun e w' => e = .returned (.tuple #[]) ∧ ∃ g, On w blk off N g w' ∧ St.Rn key g 0 N := by
  have H := Lib.hid (stable_any w blk off N cap K hB hN key q C f W hO hK hid)
  clear hid
  go_enter Try.func39, Try.ntmps39
  go_wp2_with fail
  refine H.out.mono ?_; rintro e w1 ⟨rfl, hg⟩
  go_wp2_with fail
  go_end0
  exact ⟨rfl, hg⟩
end Go.Proofs.Ytpfhkmppbochnaa
/- The contract of the comparison that fixnum's parts hands to slices.SortStableFunc: it tells the order of two places' rests, the greater ones first, and only reads. Conditions: both are places of the rests, which lie apart from the row that is sorted. -/
namespace Go.Proofs.Ytpfhkmppbochnaa
open Go.RowKit Go.Sort

theorem nan_any (x : Int) (w : World) : Calls Try.prog 45 #[.int .u64 x] w fun e w' => e = .returned (.bool false) ∧ w' = w := by
  go_enter Try.func45, Try.ntmps45
  go_wp2
  go_ret
  exact ⟨rfl, rfl⟩
theorem cmp_any (x y : Int) (w : World) : Calls Try.prog 41 #[.int .u64 x, .int .u64 y] w fun e w' => e = .returned (.int .i64 (if x < y then -1 else if y < x then 1 else 0)) ∧ w' = w := by
  go_enter Try.func41, Try.ntmps41
  by_cases h1 : x < y
  · rw [if_pos h1]
    go_wp2_with (go_at_call 45; refine (nan_any _ _).mono ?_; rintro e w1 ⟨rfl, rfl⟩)
    go_ret
    exact ⟨rfl, rfl⟩
  · rw [if_neg h1]
    by_cases h2 : y < x
    · rw [if_pos h2]
      go_wp2_with (go_at_call 45; refine (nan_any _ _).mono ?_; rintro e w1 ⟨rfl, rfl⟩)
      go_ret
      exact ⟨rfl, rfl⟩
    · rw [if_neg h2]
      go_wp2_with (go_at_call 45; refine (nan_any _ _).mono ?_; rintro e w1 ⟨rfl, rfl⟩)
      go_ret
      exact ⟨rfl, rfl⟩

theorem less_at (key : Int → Int) (K b2 cap2 : Nat) (g : Nat) (W : World) (hq : W.cell? ⟨g, 0, none⟩ = some (.slice (some ⟨b2, 0, none⟩) K cap2)) (hc : ∀ j, j < K → W.cell? ⟨b2, 0 + j, none⟩ = some (.int .u64 (key j))) (x y : Nat) (hx : x < K) (hy : y < K) :
    Calls Try.prog 40 #[.int .i64 x, .int .i64 y, .pointer (some ⟨g, 0, none⟩)] W fun e w' => e = .returned (.int .i64 (cm key x y)) ∧ ∃ m, w' = W.drewN m := by
  have hcx := hc x hx
  have hcy := hc y hy
  rw [Nat.zero_add] at hcx hcy
  clear hc
  obtain ⟨kx, ex⟩ : ∃ z, key x = z := ⟨_, rfl⟩
  obtain ⟨ky, ey⟩ : ∃ z, key y = z := ⟨_, rfl⟩
  unfold cm
  rw [ex, ey]
  rw [ex] at hcx
  rw [ey] at hcy
  obtain ⟨c, hcc⟩ : ∃ c : Int, (if ky < kx then -1 else if kx < ky then 1 else 0) = c := ⟨_, rfl⟩
  rw [hcc]
  have CC : ∀ w, Calls Try.prog 41 #[.int .u64 ky, .int .u64 kx] w fun e w' => e = .returned (.int .i64 c) ∧ w' = w := fun w => by
    rw [← hcc]; exact cmp_any ky kx w
  have HC := Lib.hid CC
  clear CC hcc ex ey
  go_enter Try.func40, Try.ntmps40
  go_wp2
  go_quiet (first | (go_at_call 41; refine Calls.quiet_of_same (HC.out _)))
  go_wp2
  go_ret
  exact ⟨rfl, _, rfl⟩

/-- The comparison, wherever the row is. -/
theorem cp_any (w : World) (blk off N K b2 cap2 g : Nat) (key : Int → Int) (h1 : g ≠ blk) (h2 : b2 ≠ blk) (hq : w.cell? ⟨g, 0, none⟩ = some (.slice (some ⟨b2, 0, none⟩) K cap2)) (hc : ∀ j, j < K → w.cell? ⟨b2, 0 + j, none⟩ = some (.int .u64 (key j))) :
    Cp w blk off N key K ⟨g, 0, none⟩ := by
  intro f W hO x y hx hxK hy hyK
  obtain ⟨n, d, hd, hf, rfl⟩ := hO
  obtain ⟨x, rfl⟩ := Int.eq_ofNat_of_zero_le hx
  obtain ⟨y, rfl⟩ := Int.eq_ofNat_of_zero_le hy
  refine less_at key K b2 cap2 g _ ?_ (fun j hj => ?_) x y (by omega) (by omega)
  · rw [cell?_putRow_other _ _ _ _ _ _ (.inl h1), cell?_ahead]; exact hq
  · rw [cell?_putRow_other _ _ _ _ _ _ (.inl h2), cell?_ahead]; exact hc j hj
end Go.Proofs.Ytpfhkmppbochnaa
/- Plain arithmetic on the parts of a total by weights, no program: the shares rounded down, the rests, and what is left over, which is given to the greatest rests. -/
namespace Go.Proofs.Ytpfhkmppbochnaa
namespace Sp

/-- The sum of f below n. -/
def su (f : Nat → Int) : Nat → Int
  | 0 => 0
  | n + 1 => su f n + f n
theorem su_add (f g : Nat → Int) : ∀ n, su (fun t => f t + g t) n = su f n + su g n
  | 0 => rfl
  | n + 1 => by simp only [su]; rw [su_add f g n]; omega
theorem su_mul (c : Int) (f : Nat → Int) : ∀ n, su (fun t => c * f t) n = c * su f n
  | 0 => by simp [su]
  | n + 1 => by simp only [su]; rw [su_mul c f n, Int.mul_add]
theorem su_le {f g : Nat → Int} : ∀ {n : Nat}, (∀ t, t < n → f t ≤ g t) → su f n ≤ su g n
  | 0, _ => Int.le_refl _
  | n + 1, h => Int.add_le_add (su_le fun t ht => h t (by omega)) (h n (by omega))
theorem su_eq {f g : Nat → Int} {n : Nat} (h : ∀ t, t < n → f t = g t) : su f n = su g n :=
  Int.le_antisymm (su_le fun t ht => Int.le_of_eq (h t ht)) (su_le fun t ht => Int.le_of_eq (h t ht).symm)
theorem su_nonneg {f : Nat → Int} : ∀ {n : Nat}, (∀ t, t < n → 0 ≤ f t) → 0 ≤ su f n
  | 0, _ => Int.le_refl _
  | n + 1, h => Int.add_nonneg (su_nonneg fun t ht => h t (by omega)) (h n (by omega))
theorem su_mono {f : Nat → Int} {n k : Nat} (h : ∀ t, t < n → 0 ≤ f t) (hk : k ≤ n) : su f k ≤ su f n := by
  induction n with
  | zero => rw [show k = 0 by omega]; exact Int.le_refl _
  | succ n ih =>
    rcases Nat.eq_or_lt_of_le hk with rfl | h1
    · exact Int.le_refl _
    · have h2 := ih (fun t ht => h t (by omega)) (by omega)
      have h3 := h n (by omega)
      simp only [su]; omega
theorem su_ge {f : Nat → Int} (h : ∀ t, 0 ≤ f t) {p n : Nat} (hp : p < n) : f p ≤ su f n := by
  have h1 := su_mono (f := f) (n := n) (k := p + 1) (fun t _ => h t) hp
  have h2 : 0 ≤ su f p := su_nonneg fun t _ => h t
  simp only [su] at h1
  omega
theorem su_const (c : Int) : ∀ n : Nat, su (fun _ => c) n = c * n
  | 0 => by simp [su]
  | n + 1 => by simp only [su]; rw [su_const c n, Int.natCast_add, Int.mul_add]; simp
theorem sm_su (ws : List Int) : ∀ k, k ≤ ws.length → sm (ws.take k) = su (fun t => ws.getD t 0) k
  | 0, _ => by simp [su, sm]
  | k + 1, h => by rw [sm_take ws k (by omega), sm_su ws k (by omega)]; rfl

/-- A weight's share, rounded down, and its rest; the rests as keys of places. -/
def sh (T S : Int) (ws : List Int) (t : Nat) : Int := T * ws.getD t 0 / S
def rs (T S : Int) (ws : List Int) (t : Nat) : Int := T * ws.getD t 0 % S
def ky (T S : Int) (ws : List Int) (x : Int) : Int := rs T S ws x.toNat
/-- How often a place is among the first k of g. -/
def hit (g : Nat → Int) : Nat → Nat → Int
  | 0, _ => 0
  | k + 1, t => hit g k t + if g k = t then 1 else 0

/-- A total and weights that are divided. -/
def Ok (T S : Int) (ws : List Int) : Prop := 0 < T ∧ T ≤ 9223372036854775807 ∧ 0 < S ∧ S ≤ 9223372036854775807 ∧ (∀ t, 0 ≤ ws.getD t 0) ∧ sm ws = S
variable {T S : Int} {ws : List Int}
theorem Ok.all (h : Ok T S ws) : su (fun t => ws.getD t 0) ws.length = S := by
  rw [← sm_su ws ws.length (Nat.le_refl _), List.take_length]; exact h.2.2.2.2.2
theorem Ok.part (h : Ok T S ws) {k : Nat} (hk : k ≤ ws.length) : su (fun t => ws.getD t 0) k ≤ S := by
  rw [← h.all]; exact su_mono (fun t _ => h.2.2.2.2.1 t) hk
theorem Ok.one (h : Ok T S ws) (t : Nat) : 0 ≤ ws.getD t 0 ∧ ws.getD t 0 ≤ S := by
  refine ⟨h.2.2.2.2.1 t, ?_⟩
  by_cases ht : t < ws.length
  · have h1 := h.part (k := t + 1) ht
    have h2 : 0 ≤ su (fun t => ws.getD t 0) t := su_nonneg fun t _ => h.2.2.2.2.1 t
    simp only [su] at h1
    omega
  · have : ws.getD t 0 = 0 := by simp [List.getD, Nat.le_of_not_lt ht]
    rw [this]
    have := h.2.2.1
    omega
theorem Ok.prod (h : Ok T S ws) (t : Nat) : 0 ≤ T * ws.getD t 0 ∧ T * ws.getD t 0 ≤ T * S :=
  ⟨Int.mul_nonneg (by have := h.1; omega) (h.one t).1, Int.mul_le_mul_of_nonneg_left (h.one t).2 (by have := h.1; omega)⟩
theorem Ok.sh (h : Ok T S ws) (t : Nat) : 0 ≤ sh T S ws t ∧ sh T S ws t ≤ T := by
  have hS := h.2.2.1
  refine ⟨Int.le_ediv_of_mul_le hS ?_, Int.ediv_le_of_le_mul hS ?_⟩
  · rw [Int.zero_mul]; exact (h.prod t).1
  · exact (h.prod t).2
theorem Ok.rs (h : Ok T S ws) (t : Nat) : 0 ≤ rs T S ws t ∧ rs T S ws t < S :=
  ⟨Int.emod_nonneg _ (by have := h.2.2.1; omega), Int.emod_lt_of_pos _ h.2.2.1⟩
theorem sh_rs (t : Nat) : S * sh T S ws t + rs T S ws t = T * ws.getD t 0 := Int.mul_ediv_add_emod _ _
theorem Ok.high (h : Ok T S ws) (t : Nat) : T * ws.getD t 0 / 18446744073709551616 < S := by
  refine Int.ediv_lt_of_lt_mul (by omega) ?_
  have h1 := (h.prod t).2
  have h2 : T * S ≤ 9223372036854775807 * S := Int.mul_le_mul_of_nonneg_right h.2.1 (by have := h.2.2.1; omega)
  have := h.2.2.1
  omega
/-- All shares and rests together. -/
theorem su_all (k : Nat) : S * su (Sp.sh T S ws) k + su (Sp.rs T S ws) k = T * su (fun t => ws.getD t 0) k := by
  rw [← su_mul, ← su_mul, ← su_add]
  exact su_eq fun t _ => sh_rs t
theorem Ok.left (h : Ok T S ws) {k : Nat} (hk : k ≤ ws.length) : su (Sp.sh T S ws) k ≤ T := by
  have h1 := su_all (T := T) (S := S) (ws := ws) k
  have h2 : 0 ≤ su (Sp.rs T S ws) k := su_nonneg fun t _ => (h.rs t).1
  have h3 : T * su (fun t => ws.getD t 0) k ≤ T * S := Int.mul_le_mul_of_nonneg_left (h.part hk) (by have := h.1; omega)
  have h4 : S * su (Sp.sh T S ws) k ≤ S * T := by rw [Int.mul_comm S T]; omega
  exact Int.le_of_mul_le_mul_left h4 h.2.2.1
theorem Ok.rest (h : Ok T S ws) : S * (T - su (Sp.sh T S ws) ws.length) = su (Sp.rs T S ws) ws.length := by
  have h1 := su_all (T := T) (S := S) (ws := ws) ws.length
  rw [h.all] at h1
  rw [Int.mul_sub, Int.mul_comm S T]
  omega
theorem Ok.few (h : Ok T S ws) : T - su (Sp.sh T S ws) ws.length ≤ ws.length := by
  have h1 := h.rest
  have h2 : su (Sp.rs T S ws) ws.length ≤ su (fun _ => S) ws.length := su_le fun t _ => Int.le_of_lt (h.rs t).2
  rw [su_const] at h2
  exact Int.le_of_mul_le_mul_left (by omega) h.2.2.1
end Sp
end Go.Proofs.Ytpfhkmppbochnaa
/- Plain arithmetic on numbers written in digits of 16 bits, no program: sums, differences, comparisons, products and quotients digit by digit. -/
namespace Go.Proofs.Ytpfhkmppbochnaa
namespace Rf

/-- 65536 to the k. -/
def T (k : Nat) : Int := 65536 ^ k
theorem T_pos (k : Nat) : 0 < T k := Int.pow_pos (by decide)
theorem T_ne (k : Nat) : T k ≠ 0 := by have := T_pos k; omega
theorem T_succ (k : Nat) : T (k + 1) = T k * 65536 := Int.pow_succ _ _
theorem T_zero : T 0 = 1 := rfl
theorem T_add (i k : Nat) : T (i + k) = T i * T k := Int.pow_add _ _ _
/-- The k-th digit; what lies below it. -/
def dg (N : Int) (k : Nat) : Int := N / T k % 65536
def md (N : Int) (k : Nat) : Int := N % T k
theorem dg_bd (N : Int) (k : Nat) : 0 ≤ dg N k ∧ dg N k ≤ 65535 := by unfold dg; omega
theorem md_bd (N : Int) (k : Nat) : 0 ≤ md N k ∧ md N k < T k := ⟨Int.emod_nonneg _ (T_ne k), Int.emod_lt_of_pos _ (T_pos k)⟩
theorem md_zero (N : Int) : md N 0 = 0 := by unfold md; rw [T_zero]; exact Int.emod_one N
theorem split (N : Int) (k : Nat) : T k * (N / T k) + md N k = N := Int.mul_ediv_add_emod N (T k)
theorem div_succ (N : Int) (k : Nat) : N / T (k + 1) = N / T k / 65536 := by rw [T_succ, Int.ediv_ediv_of_nonneg (Int.le_of_lt (T_pos k))]
theorem div_dg (N : Int) (k : Nat) : N / T k = N / T (k + 1) * 65536 + dg N k := by rw [div_succ]; unfold dg; omega
theorem md_succ (N : Int) (k : Nat) : md N (k + 1) = md N k + T k * dg N k := by
  have h1 := split N k
  have h2 : T k * (65536 * (N / T (k + 1))) + md N (k + 1) = N := by rw [← Int.mul_assoc, ← T_succ]; exact split N (k + 1)
  have h3 := div_dg N k
  rw [h3, Int.mul_add] at h1
  rw [Int.mul_comm (N / T (k + 1)) 65536] at h1
  omega
theorem step (x y : Int) (k : Nat) : (x + T k * y) / T (k + 1) = (x / T k + y) / 65536 := by
  rw [T_succ, Int.ediv_ediv_of_nonneg (Int.le_of_lt (T_pos k)) |>.symm, Int.add_mul_ediv_left _ _ (T_ne k)]
theorem quo (x y : Int) (k : Nat) : (x + T k * y) / T k = x / T k + y := Int.add_mul_ediv_left _ _ (T_ne k)

/-! ### Sums -/
/-- The carry into digit k of a sum; the borrow out of it of a difference. -/
def pc (A B : Int) (k : Nat) : Int := (md A k + md B k) / T k
def bc (A B : Int) (k : Nat) : Int := -((md A k - md B k) / T k)
theorem pc_zero (A B : Int) : pc A B 0 = 0 := by unfold pc; rw [md_zero, md_zero]; rfl
theorem bc_zero (A B : Int) : bc A B 0 = 0 := by unfold bc; rw [md_zero, md_zero]; rfl
theorem pc_bd (A B : Int) (k : Nat) : 0 ≤ pc A B k ∧ pc A B k ≤ 1 := by
  have a := md_bd A k
  have b := md_bd B k
  have h : pc A B k < 2 := Int.ediv_lt_of_lt_mul (T_pos k) (by omega)
  exact ⟨Int.ediv_nonneg (by omega) (by omega), by omega⟩
theorem bc_bd (A B : Int) (k : Nat) : 0 ≤ bc A B k ∧ bc A B k ≤ 1 := by
  have a := md_bd A k
  have b := md_bd B k
  have h : (md A k - md B k) / T k < 1 := Int.ediv_lt_of_lt_mul (T_pos k) (by omega)
  have h' : -1 ≤ (md A k - md B k) / T k := Int.le_ediv_of_mul_le (T_pos k) (by omega)
  unfold bc
  omega
theorem pc_succ (A B : Int) (k : Nat) : pc A B (k + 1) = (pc A B k + dg A k + dg B k) / 65536 := by
  unfold pc
  rw [md_succ, md_succ, show md A k + T k * dg A k + (md B k + T k * dg B k) = (md A k + md B k) + T k * (dg A k + dg B k) by rw [Int.mul_add]; omega, step]
  congr 1; omega
theorem bc_succ (A B : Int) (k : Nat) : bc A B (k + 1) = -((dg A k - dg B k - bc A B k) / 65536) := by
  unfold bc
  rw [md_succ, md_succ, show md A k + T k * dg A k - (md B k + T k * dg B k) = (md A k - md B k) + T k * (dg A k - dg B k) by rw [Int.mul_sub]; omega, step]
  congr 2; omega
theorem dg_add (A B : Int) (k : Nat) : dg (A + B) k = (pc A B k + dg A k + dg B k) % 65536 := by
  have a := split A k
  have b := split B k
  have e : A + B = (md A k + md B k) + T k * (A / T k + B / T k) := by rw [Int.mul_add]; omega
  have h : (A + B) / T k = pc A B k + (A / T k + B / T k) := by unfold pc; rw [← quo, ← e]
  unfold dg
  rw [h]; omega
theorem dg_sub (A B : Int) (k : Nat) : dg (A - B) k = (dg A k - dg B k - bc A B k) % 65536 := by
  have a := split A k
  have b := split B k
  have e : A - B = (md A k - md B k) + T k * (A / T k - B / T k) := by rw [Int.mul_sub]; omega
  have h : (A - B) / T k = -bc A B k + (A / T k - B / T k) := by unfold bc; rw [Int.neg_neg, ← quo, ← e]
  unfold dg
  rw [h]; omega
/-- As the texts reckon a borrow. -/
theorem borrow (x : Int) : (65536 + x) % 65536 = x % 65536 ∧ 1 - (65536 + x) / 65536 = -(x / 65536) := by omega
/-- Digits hang on what is left below 65536 to the 12 alone. -/
theorem dg_mod (N : Int) (k n : Nat) (h : k < n) : dg (N % T n) k = dg N k := by
  obtain ⟨m, rfl⟩ : ∃ m, n = k + 1 + m := ⟨n - (k + 1), by omega⟩
  have e : T (k + 1 + m) = T k * (65536 * T m) := by rw [T_add, T_succ, Int.mul_assoc]
  have h1 := Int.mul_ediv_add_emod N (T (k + 1 + m))
  have h2 : N % T (k + 1 + m) / T k = N / T k - 65536 * T m * (N / T (k + 1 + m)) := by
    have h3 : N % T (k + 1 + m) = N + T k * (-(65536 * T m * (N / T (k + 1 + m)))) := by
      rw [Int.mul_neg, ← Int.mul_assoc, ← e]; omega
    rw [h3, quo]; omega
  unfold dg
  rw [h2, Int.mul_assoc]
  omega

/-! ### Comparisons -/
theorem same_up {A B : Int} {k : Nat} (h : A / T (k + 1) = B / T (k + 1)) (d : dg A k = dg B k) : A / T k = B / T k := by rw [div_dg A, div_dg B, h, d]
theorem less_at {A B : Int} {k : Nat} (h : A / T (k + 1) = B / T (k + 1)) (d : dg A k < dg B k) : A < B := by
  have a := div_dg A k
  have b := div_dg B k
  rcases Int.lt_or_le A B with h' | h'
  · exact h'
  · have := Int.ediv_le_ediv (T_pos k) h'
    omega
theorem small {A : Int} {k : Nat} (h0 : 0 ≤ A) (h : A < T k) : A / T k = 0 := Int.ediv_eq_zero_of_lt h0 h
theorem at_zero (A : Int) : A / T 0 = A := by rw [T_zero]; exact Int.ediv_one A
end Rf
end Go.Proofs.Ytpfhkmppbochnaa
/- Plain arithmetic on numbers, no program: why a long division by one word, digit by digit, gives the quotient and the rest. -/
namespace Go.Proofs.Ytpfhkmppbochnaa
open Go.RowKit
namespace Dv

theorem split_mul (q a b : Int) : q * (a * 4294967296 + b) = q * a * 4294967296 + q * b := by rw [Int.mul_add, Int.mul_assoc]

/-- What the digit's loop keeps: a guess that is no less than the digit, and its rest by the divisor's upper half. -/
structure Gs (a b u d q r : Int) : Prop where
  q0 : 0 ≤ q
  q1 : q ≤ 8589934592
  r0 : 0 ≤ r
  r1 : r ≤ 4294967295
  sum : q * a + r = u
  top : (u * 4294967296 + d) / (a * 4294967296 + b) ≤ q

/-- The divisor's halves, and what is divided. -/
structure Ar (a b u d : Int) : Prop where
  a0 : 2147483648 ≤ a
  a1 : a ≤ 4294967295
  b0 : 0 ≤ b
  b1 : b ≤ 4294967295
  u0 : 0 ≤ u
  u1 : u < a * 4294967296 + b
  d0 : 0 ≤ d
  d1 : d ≤ 4294967295

variable {a b u d q r : Int}

theorem mul_bd {x y : Int} (hx : 0 ≤ x) (hx1 : x ≤ 4294967295) (hy : 0 ≤ y) (hy1 : y ≤ 4294967295) : 0 ≤ x * y ∧ x * y ≤ 18446744065119617025 :=
  ⟨Int.mul_nonneg hx hy, Int.mul_le_mul hx1 hy1 hy (by decide)⟩

theorem Ar.pos (h : Ar a b u d) : 0 < a * 4294967296 + b := by have := h.a0; have := h.b0; omega
theorem Ar.qt0 (h : Ar a b u d) : 0 ≤ (u * 4294967296 + d) / (a * 4294967296 + b) := by
  refine Int.ediv_nonneg ?_ (Int.le_of_lt h.pos)
  have := h.u0; have := h.d0; omega
theorem Ar.qt1 (h : Ar a b u d) : (u * 4294967296 + d) / (a * 4294967296 + b) < 4294967296 := by
  refine Int.ediv_lt_of_lt_mul h.pos ?_
  have := h.u1; have := h.d1; omega

theorem start (h : Ar a b u d) : Gs a b u d (u / a) (u - u / a * a) := by
  have ha : 0 < a := by have := h.a0; omega
  have e := Int.mul_ediv_add_emod u a
  have m0 := Int.emod_nonneg u (show a ≠ 0 by omega)
  have m1 := Int.emod_lt_of_pos u ha
  rw [Int.mul_comm] at e
  have hr : u - u / a * a = u % a := by omega
  have hq : (u * 4294967296 + d) / (a * 4294967296 + b) ≤ u / a := by
    refine Int.le_ediv_of_mul_le ha ?_
    have h1 := Int.ediv_mul_le (u * 4294967296 + d) (show a * 4294967296 + b ≠ 0 by have := h.pos; omega)
    rw [split_mul] at h1
    have h2 := Int.mul_nonneg h.qt0 h.b0
    have := h.d1
    omega
  have hu : u / a < 8589934593 := by
    refine Int.ediv_lt_of_lt_mul ha ?_
    have := h.u1; have := h.a0; have := h.b1
    omega
  refine ⟨Int.ediv_nonneg h.u0 (by omega), by omega, by omega, by have := h.a1; omega, by omega, hq⟩

/-- The guess is too great. -/
theorem over (h : Ar a b u d) (g : Gs a b u d q r) (hc : 4294967296 ≤ q ∨ 4294967296 * r + d < q * b) : (u * 4294967296 + d) / (a * 4294967296 + b) ≤ q - 1 := by
  rcases hc with hc | hc
  · have := h.qt1; omega
  · have : (u * 4294967296 + d) / (a * 4294967296 + b) < q := by
      refine Int.ediv_lt_of_lt_mul h.pos ?_
      rw [split_mul]
      have := g.sum
      omega
    omega
theorem next (h : Ar a b u d) (g : Gs a b u d q r) (hc : 4294967296 ≤ q ∨ 4294967296 * r + d < q * b) (hr : r + a ≤ 4294967295) : Gs a b u d (q - 1) (r + a) := by
  have h1 := over h g hc
  have h2 := h.qt0
  have h3 := g.sum
  have h4 : (q - 1) * a = q * a - a := by rw [Int.sub_mul, Int.one_mul]
  refine ⟨by omega, by have := g.q1; omega, by have := g.r0; have := h.a0; omega, hr, by omega, h1⟩
/-- The guess is the digit. -/
theorem done (h : Ar a b u d) (g : Gs a b u d q r) (hc : q * b ≤ 4294967296 * r + d) : q = (u * 4294967296 + d) / (a * 4294967296 + b) := by
  have h1 : q ≤ (u * 4294967296 + d) / (a * 4294967296 + b) := by
    refine Int.le_ediv_of_mul_le h.pos ?_
    rw [split_mul]
    have := g.sum
    omega
  have := g.top
  omega
theorem broke (h : Ar a b u d) (g : Gs a b u d q r) (hc : 4294967296 ≤ q ∨ 4294967296 * r + d < q * b) (hr : 4294967296 ≤ r + a) : q - 1 = (u * 4294967296 + d) / (a * 4294967296 + b) := by
  have h1 := over h g hc
  have h2 := h.qt0
  have h3 := g.sum
  have h4 : (q - 1) * a = q * a - a := by rw [Int.sub_mul, Int.one_mul]
  have h5 : q - 1 < 4294967296 := by
    refine Int.lt_of_mul_lt_mul_right (a := a) ?_ (by have := h.a0; omega)
    have := h.u1; have := h.b1
    omega
  have h6 := (mul_bd (x := q - 1) (y := b) (by omega) (by omega) h.b0 h.b1).2
  have h7 : q - 1 ≤ (u * 4294967296 + d) / (a * 4294967296 + b) := by
    refine Int.le_ediv_of_mul_le h.pos ?_
    rw [split_mul]
    have := h.d0
    omega
  omega

/-- A round of the digit's loop: the guess goes down by one and the round goes on; or it goes down to the digit; or it is the digit. -/
theorem cases (h : Ar a b u d) (g : Gs a b u d q r) :
    (∃ p, q = p + 1 ∧ 0 ≤ p ∧ p ≤ 8589934591 ∧ (4294967296 ≤ p + 1 ∨ p + 1 < 4294967296 ∧ 4294967296 * r + d < (p + 1) * b ∧ 0 ≤ (p + 1) * b ∧ (p + 1) * b ≤ 18446744065119617025) ∧ r + a ≤ 4294967295 ∧ Gs a b u d p (r + a)) ∨
    (∃ p, q = p + 1 ∧ 0 ≤ p ∧ p ≤ 4294967295 ∧ (4294967296 ≤ p + 1 ∨ p + 1 < 4294967296 ∧ 4294967296 * r + d < (p + 1) * b ∧ 0 ≤ (p + 1) * b ∧ (p + 1) * b ≤ 18446744065119617025) ∧ 4294967296 ≤ r + a ∧ p = (u * 4294967296 + d) / (a * 4294967296 + b)) ∨
    (∃ p, q = p ∧ p ≤ 4294967295 ∧ p * b ≤ 4294967296 * r + d ∧ 0 ≤ p * b ∧ p * b ≤ 18446744065119617025 ∧ p = (u * 4294967296 + d) / (a * 4294967296 + b)) := by
  have t0 := h.qt0
  have t1 := h.qt1
  have := g.q1
  by_cases hc : 4294967296 ≤ q ∨ q < 4294967296 ∧ 4294967296 * r + d < q * b
  · have hc' : 4294967296 ≤ q ∨ 4294967296 * r + d < q * b := hc.imp id (·.2)
    have ho := over h g hc'
    have e : q - 1 + 1 = q := by omega
    have hc : 4294967296 ≤ q ∨ q < 4294967296 ∧ 4294967296 * r + d < q * b ∧ 0 ≤ q * b ∧ q * b ≤ 18446744065119617025 :=
      hc.imp id fun k => ⟨k.1, k.2, mul_bd g.q0 (by omega) h.b0 h.b1⟩
    by_cases hr : r + a ≤ 4294967295
    · exact .inl ⟨q - 1, e.symm, by omega, by omega, by rw [e]; exact hc, hr, next h g hc' hr⟩
    · have hb := broke h g hc' (by omega)
      exact .inr (.inl ⟨q - 1, e.symm, by omega, by omega, by rw [e]; exact hc, by omega, hb⟩)
  · have m := mul_bd (x := q) (y := b) g.q0 (by omega) h.b0 h.b1
    exact .inr (.inr ⟨q, rfl, by omega, by omega, m.1, m.2, done h g (by omega)⟩)

/-- The rest behind a digit, as the words give it. -/
theorem rest {Y : Int} (hY : 0 < Y) (hY1 : Y < 18446744073709551616) (N : Int) :
    0 ≤ N - N / Y * Y ∧ N - N / Y * Y = N % Y ∧ N % Y < Y ∧ N % Y < 18446744073709551616 := by
  have e := Int.mul_ediv_add_emod N Y
  have m0 := Int.emod_nonneg N (show Y ≠ 0 by omega)
  have m1 := Int.emod_lt_of_pos N hY
  rw [Int.mul_comm] at e
  exact ⟨by omega, by omega, m1, by omega⟩
theorem restw {Y : Int} (hY : 0 < Y) (hY1 : Y < 18446744073709551616) (u d : Int) :
    IntKind.u64.wrap (IntKind.u64.wrap (IntKind.u64.wrap (u * 4294967296) + d) - IntKind.u64.wrap ((u * 4294967296 + d) / Y * Y)) = (u * 4294967296 + d) % Y := by
  obtain ⟨h1, h2, h3, h4⟩ := rest hY hY1 (u * 4294967296 + d)
  simp only [IntKind.wrap_u64]
  generalize (u * 4294967296 + d) / Y * Y = t at *
  omega

/-- The two digits are the quotient, and the last rest is the rest. -/
theorem both {y P hi lo u z d1 d0 Y : Int} (hP : 0 < P) (hy : 0 < y) (hY : Y = y * P) (hN : u * 18446744073709551616 + z = (hi * 18446744073709551616 + lo) * P) (hz : z = d1 * 4294967296 + d0) :
    (u * 4294967296 + d1) / Y * 4294967296 + ((u * 4294967296 + d1) % Y * 4294967296 + d0) / Y = (hi * 18446744073709551616 + lo) / y ∧
    ((u * 4294967296 + d1) % Y * 4294967296 + d0) % Y / P = (hi * 18446744073709551616 + lo) % y := by
  have hY0 : 0 < Y := by rw [hY]; exact Int.mul_pos hy hP
  have e1 := Int.mul_ediv_add_emod (u * 4294967296 + d1) Y
  have e2 := Int.mul_ediv_add_emod ((u * 4294967296 + d1) % Y * 4294967296 + d0) Y
  have m0 := Int.emod_nonneg ((u * 4294967296 + d1) % Y * 4294967296 + d0) (show Y ≠ 0 by omega)
  have m1 := Int.emod_lt_of_pos ((u * 4294967296 + d1) % Y * 4294967296 + d0) hY0
  generalize (u * 4294967296 + d1) % Y = r1 at *
  generalize (u * 4294967296 + d1) / Y = q1 at *
  generalize (r1 * 4294967296 + d0) % Y = r0 at *
  generalize (r1 * 4294967296 + d0) / Y = q0 at *
  generalize hN' : hi * 18446744073709551616 + lo = N at *
  have e3 : Y * (q1 * 4294967296 + q0) = Y * q1 * 4294967296 + Y * q0 := by rw [Int.mul_add, Int.mul_assoc]
  have e4 : N * P = Y * (q1 * 4294967296 + q0) + r0 := by omega
  generalize q1 * 4294967296 + q0 = Q at *
  have e5 : r0 = (N - y * Q) * P := by
    rw [Int.sub_mul, Int.mul_right_comm, ← hY]; omega
  have h0 : 0 ≤ N - y * Q := by
    rcases Int.lt_or_le (N - y * Q) 0 with h | h
    · have := Int.mul_neg_of_neg_of_pos h hP; omega
    · exact h
  have h1 : N - y * Q < y := by
    refine Int.lt_of_mul_lt_mul_right (a := P) ?_ (by omega)
    rw [← hY, ← e5]; exact m1
  have h2 : r0 / P = N - y * Q := by rw [e5]; exact Int.mul_ediv_cancel _ (by omega)
  have h3 : N / y = Q ∧ N % y = N - y * Q := by
    have := (Int.ediv_emod_unique (a := N) (b := y) (r := N - y * Q) (q := Q) hy).2 ⟨by omega, h0, h1⟩
    exact this
  exact ⟨h3.1.symm, by rw [h2, h3.2]⟩

theorem pow_split (s : Nat) (h : s ≤ 63) : 2 ^ s * 2 ^ (64 - s) = (18446744073709551616 : Nat) := by
  rw [← Nat.pow_add, show s + (64 - s) = 64 by omega]
/-- The shift that brings the divisor's first bit to the top. -/
theorem norm (y : Nat) (hy : 1 ≤ y) (hy1 : y < 18446744073709551616) : ∃ s : Nat, s ≤ 63 ∧ 64 - Lib.bitLen y = s ∧ Lib.bitLen y ≤ 64 ∧ 9223372036854775808 ≤ y * 2 ^ s ∧ y * 2 ^ s < 18446744073709551616 := by
  obtain ⟨h1, h2, h3⟩ := Lib.bitLenAux_bounds 64 y hy1 (by omega)
  have h4 := Lib.bitLen_le y 64 (Nat.le_refl _) hy1
  change 1 ≤ Lib.bitLen y at h1
  change 2 ^ (Lib.bitLen y - 1) ≤ y at h2
  change y < 2 ^ Lib.bitLen y at h3
  generalize Lib.bitLen y = L at *
  refine ⟨64 - L, by omega, rfl, h4, ?_, ?_⟩
  · have : 2 ^ (L - 1) * 2 ^ (64 - L) = (9223372036854775808 : Nat) := by rw [← Nat.pow_add, show L - 1 + (64 - L) = 63 by omega]
    rw [← this]; exact Nat.mul_le_mul_right _ h2
  · have : 2 ^ L * 2 ^ (64 - L) = (18446744073709551616 : Nat) := by rw [← Nat.pow_add, show L + (64 - L) = 64 by omega]
    rw [← this]; exact Nat.mul_lt_mul_of_pos_right h3 (Nat.two_pow_pos _)
/-- The dividend's words, shifted. -/
theorem words (hi lo y s : Nat) (hs : s ≤ 63) (hlo : lo < 18446744073709551616) (hh : hi < y) (hY : y * 2 ^ s < 18446744073709551616) :
    ∃ u z : Nat, bits .or .u64 (IntKind.u64.wrap ((hi : Int) * 2 ^ s)) ((lo : Int) / 2 ^ (64 - s)) = u ∧ IntKind.u64.wrap ((lo : Int) * 2 ^ s) = z ∧ u < y * 2 ^ s ∧ z < 18446744073709551616 ∧
      u * 18446744073709551616 + z = (hi * 18446744073709551616 + lo) * 2 ^ s := by
  have hp := pow_split s hs
  have hP : 0 < 2 ^ s := Nat.two_pow_pos s
  have hR : 0 < 2 ^ (64 - s) := Nat.two_pow_pos _
  have c1 : ((hi : Int) * 2 ^ s) = ((hi * 2 ^ s : Nat) : Int) := by rw [Int.natCast_mul, Int.natCast_pow]; rfl
  have c2 : ((lo : Int) / 2 ^ (64 - s)) = ((lo / 2 ^ (64 - s) : Nat) : Int) := by rw [Int.natCast_ediv, Int.natCast_pow]; rfl
  have c3 : ((lo : Int) * 2 ^ s) = ((lo * 2 ^ s : Nat) : Int) := by rw [Int.natCast_mul, Int.natCast_pow]; rfl
  rw [c1, c2, c3]
  generalize hPe : 2 ^ s = P at *
  generalize hRe : 2 ^ (64 - s) = R at *
  have h1 : hi * P + P ≤ y * P := by
    have := Nat.mul_le_mul_right P (show hi + 1 ≤ y by omega)
    rwa [Nat.add_mul, Nat.one_mul] at this
  have h2 : lo / R < P := Nat.div_lt_of_lt_mul (by rw [Nat.mul_comm]; omega)
  have h3 := Nat.div_add_mod lo R
  have h4 := Nat.mod_lt lo hR
  refine ⟨hi * P + lo / R, lo % R * P, ?_, ?_, by omega, ?_, ?_⟩
  · rw [IntKind.wrap_u64, show ((hi * P : Nat) : Int) % 18446744073709551616 = ((hi * P : Nat) : Int) by omega,
      u64_or_nat _ _ (by omega) (by omega)]
    congr 1
    rw [← hPe]
    exact nat_join s _ _ (Nat.mul_mod_left _ _) (by rw [hPe]; exact h2)
  · rw [IntKind.wrap_u64]
    have h5 : lo * P = lo / R * 18446744073709551616 + lo % R * P := by
      rw [← hp]
      conv => lhs; rw [← h3]
      rw [Nat.add_mul]
      congr 1
      rw [Nat.mul_comm R, Nat.mul_assoc, Nat.mul_comm R]
    have h6 : lo % R * P < R * P := Nat.mul_lt_mul_of_pos_right h4 hP
    rw [Nat.mul_comm R, hp] at h6
    omega
  · have h6 : lo % R * P < R * P := Nat.mul_lt_mul_of_pos_right h4 hP
    rw [Nat.mul_comm R, hp] at h6
    exact h6
  · have h5 : lo * P = lo / R * 18446744073709551616 + lo % R * P := by
      rw [← hp]
      conv => lhs; rw [← h3]
      rw [Nat.add_mul]
      congr 1
      rw [Nat.mul_comm R, Nat.mul_assoc, Nat.mul_comm R]
    rw [Nat.add_mul, Nat.add_mul, h5, Nat.mul_right_comm]
    omega
theorem mask32 (Y : Nat) (h : Y < 18446744073709551616) : bits .and .u64 (Y : Int) 4294967295 = ((Y % 4294967296 : Nat) : Int) := by
  rw [show (4294967295 : Int) = ((4294967295 : Nat) : Int) from rfl, u64_and_nat _ _ h (by decide)]
  congr 1
  exact Nat.and_two_pow_sub_one_eq_mod Y 32
end Dv
end Go.Proofs.Ytpfhkmppbochnaa
/- The contracts of the library functions that the proofs use, taken at this program. -/
namespace Go.Proofs
open Go.Shelf
def Try.lays134_ren : Go.Shelf.Ren := ⟨fun | 134 => 43 | 129 => 46 | n => n, fun | 53 => 45 | 3 => 3 | 4 => 4 | 46 => 67 | 5 => 5 | 9 => 9 | n => n, fun | n => n⟩
theorem Try.lays134 : Go.Proofs.Lays.n134 Try.prog Try.lays134_ren := {
  mixed := by kernel_rfl
  f129 := Try.func46.trans (congrArg some (by kernel_rfl))
  f134 := Try.func43.trans (congrArg some (by kernel_rfl))
  t3 := Try.underlying3
  a3 := Try.isAgg3
  z3 := Try.sizeOf3
  v3 := Try.zeroValue3
  t4 := Try.underlying4
  a4 := Try.isAgg4
  z4 := Try.sizeOf4
  v4 := Try.zeroValue4
  t5 := Try.underlying5
  a5 := Try.isAgg5
  z5 := Try.sizeOf5
  v5 := Try.zeroValue5
  t9 := Try.underlying9
  a9 := Try.isAgg9
  z9 := Try.sizeOf9
  v9 := Try.zeroValue9
  t46 := Try.underlying67
  a46 := Try.isAgg67
  z46 := Try.sizeOf67
  v46 := Try.zeroValue67
  t53 := Try.underlying45
  a53 := Try.isAgg45
  z53 := Try.sizeOf45
  v53 := Try.zeroValue45 }
theorem Try.bits_LeadingZeros64 (x : Int) (w : World) (h0 : 0 ≤ x) (h1 : x ≤ 18446744073709551615) :
    Calls Try.prog 43 #[.int .u64 x] w fun e w' => e = .returned (.int .i64 (64 - (Lib.bitLen x.toNat : Int))) ∧ w' = w := Any.bits_LeadingZeros64 Try.lays134 x w h0 h1
def Try.lays129_ren : Go.Shelf.Ren := ⟨fun | 129 => 46 | n => n, fun | 53 => 45 | 3 => 3 | 4 => 4 | 46 => 67 | 5 => 5 | 9 => 9 | n => n, fun | n => n⟩
theorem Try.lays129 : Go.Proofs.Lays.n129 Try.prog Try.lays129_ren := {
  mixed := by kernel_rfl
  f129 := Try.func46.trans (congrArg some (by kernel_rfl))
  t3 := Try.underlying3
  a3 := Try.isAgg3
  z3 := Try.sizeOf3
  v3 := Try.zeroValue3
  t4 := Try.underlying4
  a4 := Try.isAgg4
  z4 := Try.sizeOf4
  v4 := Try.zeroValue4
  t5 := Try.underlying5
  a5 := Try.isAgg5
  z5 := Try.sizeOf5
  v5 := Try.zeroValue5
  t9 := Try.underlying9
  a9 := Try.isAgg9
  z9 := Try.sizeOf9
  v9 := Try.zeroValue9
  t46 := Try.underlying67
  a46 := Try.isAgg67
  z46 := Try.sizeOf67
  v46 := Try.zeroValue67
  t53 := Try.underlying45
  a53 := Try.isAgg45
  z53 := Try.sizeOf45
  v53 := Try.zeroValue45 }
theorem Try.bits_Len64 (x : Int) (w : World) (h0 : 0 ≤ x) (h1 : x ≤ 18446744073709551615) :
    Calls Try.prog 46 #[.int .u64 x] w fun e w' => e = .returned (.int .i64 (Lib.bitLen x.toNat)) ∧ w' = w := Any.bits_Len64 Try.lays129 x w h0 h1
def Try.lays264_ren : Go.Shelf.Ren := ⟨fun | 264 => 37 | n => n, fun | 53 => 45 | 46 => 67 | n => n, fun | n => n⟩
theorem Try.lays264 : Go.Proofs.Lays.n264 Try.prog Try.lays264_ren := {
  mixed := by kernel_rfl
  f264 := Try.func37.trans (congrArg some (by kernel_rfl))
  t46 := Try.underlying67
  a46 := Try.isAgg67
  z46 := Try.sizeOf67
  v46 := Try.zeroValue67
  t53 := Try.underlying45
  a53 := Try.isAgg45
  z53 := Try.sizeOf45
  v53 := Try.zeroValue45 }
open Go.RowKit Go.Lib in
theorem Try.bits_Mul64 (x y : Nat) (hx : x < 18446744073709551616) (hy : y < 18446744073709551616) (w : World) :
    Calls Try.prog 37 #[.int .u64 x, .int .u64 y] w fun e w' => e = .returned (.tuple #[.int .u64 ((x * y / 18446744073709551616 : Nat) : Int), .int .u64 ((x * y % 18446744073709551616 : Nat) : Int)]) ∧ w' = w := Any.bits_Mul64 Try.lays264 x y hx hy w
end Go.Proofs
