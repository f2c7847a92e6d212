/- Plain facts on steps that add up (CRC-32): a word stands for so many steps; no program. -/
import Derived.Test.YtknmchpikcnacaaCm
namespace Go.Proofs.Ytknmchpikcnacaa.Cr
open Go.Proofs.Ytknmchpikcnacaa

abbrev zr : Nat → Bool := fun _ => false
/-- What becomes of a by as many steps as b stands for, of the first k bits of b from the highest on. -/
def tm (a b : Nat) : Nat → Nat
  | 0 => 0
  | k + 1 => tm a b k ^^^ (if b.testBit (31 - k) then run a zr k else 0)
theorem step_add (x y : Nat) : step (x ^^^ y) false = step x false ^^^ step y false := step_xor x y false false
theorem run_zr_add (x y : Nat) (k : Nat) : run (x ^^^ y) zr k = run x zr k ^^^ run y zr k := run_xor x y zr zr k
theorem step_nil : step 0 false = 0 := rfl
theorem run_more (x k m : Nat) : run x zr (k + m) = run (run x zr k) zr m := run_add x zr k m
theorem run_first (x k : Nat) : run (step x false) zr k = step (run x zr k) false := by
  have h1 := run_more x 1 k
  have h2 : run x zr (k + 1) = step (run x zr k) false := rfl
  rw [Nat.add_comm] at h1
  rw [← h2, h1]
  rfl
theorem tm_left (x y b : Nat) : ∀ k, tm (x ^^^ y) b k = tm x b k ^^^ tm y b k
  | 0 => by simp [tm]
  | k + 1 => by
    simp only [tm]
    rw [tm_left x y b k, run_zr_add]
    cases b.testBit (31 - k)
    · simp
    · simp only [if_true]
      rw [Nat.xor_assoc, Nat.xor_assoc, xlc (tm y b k)]
theorem tm_right (x b c : Nat) : ∀ k, tm x (b ^^^ c) k = tm x b k ^^^ tm x c k
  | 0 => by simp [tm]
  | k + 1 => by
    simp only [tm]
    rw [tm_right x b c k, Nat.testBit_xor]
    cases b.testBit (31 - k) <;> cases c.testBit (31 - k)
    · simp
    · simp [Nat.xor_assoc]
    · simp only [Bool.xor_false, if_true, Bool.false_eq_true, if_false, Nat.xor_zero]
      rw [Nat.xor_assoc, Nat.xor_assoc, Nat.xor_comm (tm x c k)]
    · simp only [Bool.xor_self, Bool.false_eq_true, if_false, if_true, Nat.xor_zero]
      rw [Nat.xor_assoc, xlc (run x zr k), Nat.xor_self, Nat.xor_zero]
theorem tm_step (a b : Nat) : ∀ k, tm (step a false) b k = step (tm a b k) false
  | 0 => by simp [tm, step]
  | k + 1 => by
    simp only [tm]
    rw [tm_step a b k, step_add, run_first]
    cases b.testBit (31 - k)
    · simp [step_nil]
    · simp
theorem tm_runs (a b n : Nat) : ∀ k, tm (run a zr k) b n = run (tm a b n) zr k
  | 0 => rfl
  | k + 1 => by
    show tm (step (run a zr k) false) b n = step (run (tm a b n) zr k) false
    rw [tm_step, tm_runs a b n k]
theorem tm_lt {a : Nat} (h : a < 4294967296) (b : Nat) : ∀ k, tm a b k < 4294967296
  | 0 => by show 0 < _; decide
  | k + 1 => by
    simp only [tm]
    refine Nat.xor_lt_two_pow (n := 32) (tm_lt h b k) ?_
    split
    · exact run_lt h _ k
    · decide
/-- Two that add, and are one at each power of two, are one. -/
theorem by_powers {f g : Nat → Nat} (hf : ∀ x y, f (x ^^^ y) = f x ^^^ f y) (hg : ∀ x y, g (x ^^^ y) = g x ^^^ g y) (h : ∀ j, j < 32 → f (2 ^ j) = g (2 ^ j)) : ∀ k, k ≤ 32 → ∀ x, x < 2 ^ k → f x = g x
  | 0, _, x, hx => by
    obtain rfl : x = 0 := by omega
    have a := hf 0 0
    have b := hg 0 0
    rw [Nat.xor_self, Nat.xor_self] at a b
    rw [a, b]
  | k + 1, hk, x, hx => by
    by_cases hl : x < 2 ^ k
    · exact by_powers hf hg h k (by omega) x hl
    · have hp : x < 2 ^ k + 2 ^ k := by rw [Nat.pow_succ] at hx; omega
      have hy : x ^^^ 2 ^ k < 2 ^ k := by
        refine Nat.lt_pow_two_of_testBit _ fun i hi => ?_
        rw [Nat.testBit_xor, Nat.testBit_two_pow]
        by_cases e : k = i
        · subst e
          have hq : x / 2 ^ k = 1 := by
            refine Nat.div_eq_of_lt_le (by omega) (by omega)
          rw [bit_at, hq]
          simp
        · rw [Nat.testBit_lt_two_pow (Nat.lt_of_lt_of_le hx (Nat.pow_le_pow_right (by decide) (by omega)))]
          simp [e]
      have e : x = (x ^^^ 2 ^ k) ^^^ 2 ^ k := by rw [Nat.xor_assoc, Nat.xor_self, Nat.xor_zero]
      rw [e, hf, hg, by_powers hf hg h k (by omega) _ hy, h k (by omega)]
def E : Nat := 2147483648
theorem E_lt : E < 4294967296 := by decide
theorem powers : ∀ j, j < 32 → 2 ^ j = run E zr (31 - j) := by decide +kernel
theorem tm_powers : ∀ j, j < 32 → tm E (2 ^ j) 32 = 2 ^ j := by decide +kernel
theorem tm_one {b : Nat} (h : b < 4294967296) : tm E b 32 = b :=
  by_powers (f := fun b => tm E b 32) (g := fun b => b) (fun x y => tm_right E x y 32) (fun _ _ => rfl) tm_powers 32 (Nat.le_refl _) b h
/-- The word to which one is stepped stands for so many steps. -/
theorem tm_run {x : Nat} (h : x < 4294967296) (m : Nat) : tm x (run E zr m) 32 = run x zr m :=
  by_powers (f := fun x => tm x (run E zr m) 32) (g := fun x => run x zr m) (fun x y => tm_left x y _ 32) (fun x y => run_zr_add x y m)
    (fun j hj => by
      show tm (2 ^ j) (run E zr m) 32 = run (2 ^ j) zr m
      rw [powers j hj, tm_runs, tm_one (run_lt E_lt _ m), ← run_more, ← run_more, Nat.add_comm]) 32 (Nat.le_refl _) x h
theorem one_byte : run E zr 8 = 8388608 := by decide +kernel
/-- Twice as many. -/
theorem tm_twice (m : Nat) : tm (run E zr m) (run E zr m) 32 = run E zr (m + m) := by
  rw [tm_run (run_lt E_lt _ m), run_more]
end Go.Proofs.Ytknmchpikcnacaa.Cr
