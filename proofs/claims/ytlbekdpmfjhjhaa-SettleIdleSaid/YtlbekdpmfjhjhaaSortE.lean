/- The contract of slices.SortStableFunc over a row of places, each place its own number: it puts them in order, the greater keys first, the smaller place first where keys are alike, and leaves all other memory as it was. Conditions: fewer than 2^60 places; the comparison tells the keys' order and only reads. -/
import Derived.Test.YtlbekdpmfjhjhaaSortD
namespace Go.Proofs.Ytlbekdpmfjhjhaa
open Go.RowKit Go.Sort

namespace St
variable {key : Int → Int}
theorem Rp.step {f g : Nat → Int} {bs k a : Nat} (h : Rp key f bs k) (ha : a = k * bs) (e : ∀ t, t < a → g t = f t) (r : Rn key g a (a + bs)) : Rp key g bs (k + 1) ∧ a + bs = (k + 1) * bs := by
  subst ha
  exact ⟨(h.like e).snoc r, by rw [Nat.add_mul, Nat.one_mul]⟩
theorem Rp.done {g : Nat → Int} {bs k a n : Nat} (h : Rp key g bs k) (ha : a = k * bs) (hn : a ≤ n) (hb : n ≤ a + bs) (r : a < n → Rn key g a n) : ∃ c, Rs key g bs n c 0 := by
  subst ha
  refine ⟨_, Rp.all (d := 1) h ?_ hn⟩
  by_cases hl : k * bs < n
  · exact .inr ⟨by rw [Nat.min_eq_right hb]; exact r hl, hb⟩
  · exact .inl (by omega)
theorem Rs.take {f : Nat → Int} {bs n c s : Nat} (h : Rs key f bs n c s) (hn : s < n) (hb : s + bs ≤ n) : ∃ c', Rn key f s (s + bs) ∧ Rs key f bs n c' (s + bs) := by
  match c, h with
  | 0, h => exact absurd h (by show ¬ n ≤ s; omega)
  | c + 1, h =>
    rcases h with h | ⟨h1, h2⟩
    · omega
    · exact ⟨c, by rw [Nat.min_eq_left hb] at h1; exact h1, h2⟩
theorem Rs.last {f : Nat → Int} {bs n c s : Nat} (h : Rs key f bs n c s) (hb : n ≤ s + bs) (hn : s < n) : Rn key f s n := by
  match c, h with
  | 0, h => exact absurd h (by show ¬ n ≤ s; omega)
  | c + 1, h =>
    rcases h with h | ⟨h1, h2⟩
    · omega
    · rw [Nat.min_eq_right hb] at h1; exact h1
theorem Rn.none (f : Nat → Int) : Rn key f 0 0 := ⟨So.one f (by omega), fun v => ⟨fun ⟨k, _, h, _⟩ => by omega, fun h => by omega⟩⟩
theorem Rs.whole {f : Nat → Int} {bs n c : Nat} (h : Rs key f bs n c 0) (hb : n ≤ bs) : Rn key f 0 n := by
  rcases Nat.eq_zero_or_pos n with rfl | hn
  · exact Rn.none f
  · exact h.last (by omega) hn
end St

theorem insert_at (w : World) (blk off N cap K : Nat) (hB : Ba w blk off N) (hN : N < 4611686018427387904) (key : Int → Int) (q : Addr) (C : Cp w blk off N key K q) (a b : Nat) (vb : Int) (eb : vb = b) (f : Nat → Int) (W : World) (hO : On w blk off N f W)
    (hA : Al N K f) (h1 : a ≤ b) (h2 : b ≤ N) (hI : ∀ t : Nat, a ≤ t → t < N → f t = t) :
    Calls Try.prog 49 #[.slice (some ⟨blk, off, none⟩) N cap, .int .i64 a, .int .i64 vb, .func (.func 42) #[] #[.pointer (some q)]] W fun e w' => e = .returned (.tuple #[]) ∧ ∃ g, On w blk off N g w' ∧ Al N K g ∧ (∀ t, t < a ∨ b ≤ t → g t = f t) ∧ St.Rn key g a b := by
  subst eb
  refine (insert_any w blk off N cap K hB hN key q C a b f W hO hA h1 h2 (fun s t k1 k2 k3 => by rw [hI s k1 (by omega), hI t (by omega) (by omega)]; omega)).mono ?_
  rintro e w' ⟨he, g, hg, hM⟩
  exact ⟨he, g, hg, hA.mg hM h2, hM.1, St.Rn.ins (fun t t1 t2 => hI t t1 (by omega)) hM⟩
theorem sym_at (w : World) (blk off N cap K : Nat) (hB : Ba w blk off N) (hN : N < 4611686018427387904) (key : Int → Int) (q : Addr) (C : Cp w blk off N key K q) (a m b : Nat) (vm vb : Int) (em : vm = m) (eb : vb = b) (f : Nat → Int) (W : World) (hO : On w blk off N f W)
    (hA : Al N K f) (h1 : a < m) (h2 : m < b) (h3 : b ≤ N) (r1 : St.Rn key f a m) (r2 : St.Rn key f m b) :
    Calls Try.prog 50 #[.slice (some ⟨blk, off, none⟩) N cap, .int .i64 a, .int .i64 vm, .int .i64 vb, .func (.func 42) #[] #[.pointer (some q)]] W fun e w' => e = .returned (.tuple #[]) ∧ ∃ g, On w blk off N g w' ∧ Al N K g ∧ (∀ t, t < a ∨ b ≤ t → g t = f t) ∧ St.Rn key g a b := by
  subst em eb
  refine (sym_any w blk off N cap K hB hN key q C (b - a) a m b f W (Nat.le_refl _) hO hA h1 h2 h3 r1.1 r2.1 (r1.cr r2)).mono ?_
  rintro e w' ⟨he, g, hg, hM⟩
  exact ⟨he, g, hg, hA.mg hM h3, hM.1, r1.merged r2 (by omega) (by omega) hM⟩

set_option maxHeartbeats 2000000 in
theorem stable_any (w : World) (blk off N cap K : Nat) (hB : Ba w blk off N) (hN : N < 1152921504606846976) (key : Int → Int) (q : Addr) (C : Cp w blk off N key K q) (f : Nat → Int) (W : World) (hO : On w blk off N f W) (hK : N ≤ K) (hid : ∀ t : Nat, t < N → f t = t) :
    Calls Try.prog 46 #[.slice (some ⟨blk, off, none⟩) N cap, .int .i64 N, .func (.func 42) #[] #[.pointer (some q)]] W fun e w' => e = .returned (.tuple #[]) ∧ ∃ g, On w blk off N g w' ∧ St.Rn key g 0 N := by
  have hA : Al N K f := fun t ht => by rw [hid t ht]; omega
  have HD := Lib.hid hid
  clear hid
  go_enter Try.func46, Try.ntmps46
  go_wp2
  go_loopw [7, 8] (fun va vb wr => ∃ (a k : Nat) (g : Nat → Int), va = .int .i64 a ∧ vb = .int .i64 ((a : Int) + 20) ∧ a = k * 20 ∧ a ≤ N ∧ On w blk off N g wr ∧ Al N K g ∧ St.Rp key g 20 k ∧ (∀ t : Nat, a ≤ t → t < N → g t = t)) (fun va _ _ => N - (intOf va).toNat)
  case atStart => exact ⟨0, 0, f, rfl, rfl, rfl, Nat.zero_le _, hO, hA, fun i hi => absurd hi (Nat.not_lt_zero i), fun t _ ht => HD.out t ht⟩
  case round =>
    obtain ⟨a, k, g, rfl, rfl, hak, haN, hR, hAg, hP, hI⟩ := hrel
    clear hO hA
    have HP := Lib.hid hP
    have HI := Lib.hid hI
    have HK := Lib.hid hak
    clear hP hI hak
    by_cases hlt : a + 20 ≤ N
    · go_wp2_with fail
      refine (insert_at w blk off N cap K hB (by omega) key q C a (a + 20) _ (by omega) g _ hR hAg (by omega) hlt HI.out).mono ?_; rintro e w1 ⟨rfl, g', hR1, hA1, hE1, hn1⟩
      have X := Lib.hid (St.Rp.step HP.out HK.out (fun t ht => hE1 t (.inl ht)) hn1)
      have Y : Hid (∀ t : Nat, a + 20 ≤ t → t < N → g' t = t) := Lib.hid fun t t1 t2 => by rw [hE1 t (.inr t1)]; exact HI.out t (by omega) t2
      clear hE1 hn1 hR
      go_wp2_with fail
      go_roundw
      case rel => exact ⟨a + 20, k + 1, g', by go_num, by congr 1, X.out.2, hlt, hR1, hA1, X.out.1, Y.out⟩
      case measure => simp [intOf]; omega
    · go_wp2_with fail
      refine (insert_at w blk off N cap K hB (by omega) key q C a N _ rfl g _ hR hAg haN (Nat.le_refl _) HI.out).mono ?_; rintro e w1 ⟨rfl, g', hR1, hA1, hE1, hn1⟩
      have X := Lib.hid (St.Rp.done (HP.out.like fun t ht => hE1 t (.inl (by rw [HK.out]; exact ht))) HK.out haN (by omega) fun _ => hn1)
      clear hE1 hn1 hR HP HI HK
      go_wp2_with fail
      go_loopw [6, 7, 8, 9] (fun vs va vb vm wr => ∃ (bs c : Nat) (g : Nat → Int), vs = .int .i64 bs ∧ 20 ≤ bs ∧ (bs ≤ 20 ∨ bs ≤ 2 * N) ∧ On w blk off N g wr ∧ Al N K g ∧ St.Rs key g bs N c 0) (fun vs _ _ _ _ => N - (intOf vs).toNat)
      case atStart =>
        obtain ⟨c, hc⟩ := X.out
        exact ⟨20, c, g', rfl, by omega, by omega, hR1, hA1, hc⟩
      case round =>
        obtain ⟨bs, c, g2, rfl, hb1, hb2, hR2, hA2, hS2⟩ := hrel
        have HS2 := Lib.hid hS2
        clear hS2 hR1 hA1 X
        by_cases hlt2 : bs < N
        · go_wp2_with fail
          go_loopw [7, 8] (fun va vb wr => ∃ (a k c : Nat) (g : Nat → Int), va = .int .i64 a ∧ vb = .int .i64 ((a : Int) + 2 * bs) ∧ a = k * (2 * bs) ∧ a ≤ N ∧ On w blk off N g wr ∧ Al N K g ∧ St.Rp key g (2 * bs) k ∧ St.Rs key g bs N c a) (fun va _ _ => N - (intOf va).toNat)
          case atStart => exact ⟨0, 0, c, g2, rfl, by congr 1; omega, by omega, Nat.zero_le _, hR2, hA2, fun i hi => absurd hi (Nat.not_lt_zero i), HS2.out⟩
          case round =>
            obtain ⟨a3, k3, c3, g3, rfl, rfl, hak3, haN3, hR3, hA3, hP3, hS3⟩ := hrel
            have HP3 := Lib.hid hP3
            have HS3 := Lib.hid hS3
            have HK3 := Lib.hid hak3
            clear hP3 hS3 hak3 hR2 hA2 HS2
            by_cases hlt3 : a3 + 2 * bs ≤ N
            · obtain ⟨c4, n1, s1⟩ := HS3.out.take (by omega) (by omega)
              obtain ⟨c5, n2, s2⟩ := s1.take (by omega) (by omega)
              rw [show a3 + bs + bs = a3 + 2 * bs by omega] at n2 s2
              have N1 := Lib.hid n1
              have N2 := Lib.hid n2
              have S2 := Lib.hid s2
              clear n1 n2 s1 s2
              go_wp2_with fail
              refine (sym_at w blk off N cap K hB (by omega) key q C a3 (a3 + bs) (a3 + 2 * bs) _ _ (by omega) (by omega) g3 _ hR3 hA3 (by omega) (by omega) hlt3 N1.out N2.out).mono ?_; rintro e w1 ⟨rfl, g4, hR4, hA4, hE4, hn4⟩
              have X4 := Lib.hid (St.Rp.step HP3.out HK3.out (fun t ht => hE4 t (.inl ht)) hn4)
              have Y4 := Lib.hid (S2.out.like fun t ht => hE4 t (.inr ht))
              clear hE4 hn4 hR3
              go_wp2_with fail
              go_roundw
              case rel => exact ⟨a3 + 2 * bs, k3 + 1, c5, g4, by congr 1, by congr 1, X4.out.2, hlt3, hR4, hA4, X4.out.1, Y4.out⟩
              case measure => simp [intOf]; omega
            · by_cases hlt4 : a3 + bs < N
              · obtain ⟨c4, n1, s1⟩ := HS3.out.take (by omega) (by omega)
                have n2 := s1.last (by omega) (by omega)
                have N1 := Lib.hid n1
                have N2 := Lib.hid n2
                clear n1 n2 s1
                go_wp2_with fail
                refine (sym_at w blk off N cap K hB (by omega) key q C a3 (a3 + bs) N _ _ (by omega) rfl g3 _ hR3 hA3 (by omega) hlt4 (Nat.le_refl _) N1.out N2.out).mono ?_; rintro e w1 ⟨rfl, g4, hR4, hA4, hE4, hn4⟩
                have X4 := Lib.hid (St.Rp.done (HP3.out.like fun t ht => hE4 t (.inl (by rw [HK3.out]; exact ht))) HK3.out haN3 (by omega) fun _ => hn4)
                clear hE4 hn4 hR3
                go_wp2_with fail
                go_roundw
                case rel =>
                  obtain ⟨c6, hc6⟩ := X4.out
                  exact ⟨2 * bs, c6, g4, by congr 1; omega, by omega, by omega, hR4, hA4, hc6⟩
                case measure => simp [intOf]; omega
              · have X4 := Lib.hid (St.Rp.done HP3.out HK3.out haN3 (by omega) fun h => HS3.out.last (by omega) h)
                go_wp2_with fail
                go_roundw
                case rel =>
                  obtain ⟨c6, hc6⟩ := X4.out
                  exact ⟨2 * bs, c6, g3, by congr 1; omega, by omega, by omega, hR3, hA3, hc6⟩
                case measure => simp [intOf]; omega
        · go_wp2_with fail
          go_end0
          exact ⟨rfl, g2, hR2, HS2.out.whole (by omega)⟩

theorem sort_any (w : World) (blk off N cap K : Nat) (hB : Ba w blk off N) (hN : N < 1152921504606846976) (key : Int → Int) (q : Addr) (C : Cp w blk off N key K q) (f : Nat → Int) (W : World) (hO : On w blk off N f W) (hK : N ≤ K) (hid : ∀ t : Nat, t < N → f t = t) :
    Calls Try.prog 41 #[.slice (some ⟨blk, off, none⟩) N cap, .func (.func 42) #[] #[.pointer (some q)]] W fun e w' => e = .returned (.tuple #[]) ∧ ∃ g, On w blk off N g w' ∧ St.Rn key g 0 N := by
  have H := Lib.hid (stable_any w blk off N cap K hB hN key q C f W hO hK hid)
  clear hid
  go_enter Try.func41, Try.ntmps41
  go_wp2_with fail
  refine H.out.mono ?_; rintro e w1 ⟨rfl, hg⟩
  go_wp2_with fail
  go_end0
  exact ⟨rfl, hg⟩
end Go.Proofs.Ytlbekdpmfjhjhaa
