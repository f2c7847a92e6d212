/- The walk of the statement CrcAdded, for every input, given the program's own calls. -/
import Derived.Test.YtknmchpikcnacaaCa
import Derived.Test.YtknmchpikcnacaaCe
namespace Go.Proofs.Ytknmchpikcnacaa
open Go.RowKit

set_option maxRecDepth 100000 in
theorem added_out (K : Crc) (A B C : Option Addr) (la ca lb cb lc cc : Nat) (w : World) (n : Nat) (hn : 20000 < n)
    (hmin : (if (lc : Int) < (if (lb : Int) < (la : Int) then (lb : Int) else (la : Int)) then (lc : Int) else (if (lb : Int) < (la : Int) then (lb : Int) else (la : Int))) = (n : Int)) :
    Calls Try.prog 7 #[.slice A la ca, .slice B lb cb, .slice C lc cc] w fun e w' => e = .returned (.bool true) ∧ Below w.heap.size w w' := by
  have hmr : ∀ W, (Builtin.min_ #[3, 3, 3] 3 #[.int .i64 la, .int .i64 lb, .int .i64 lc]).run Try.prog W = .ok (.int .i64 n) W := fun W => by rw [run_min_int3, hmin]
  have KN := Lib.hid (fun W => known_crc K W)
  clear K hmin
  go_enter Try.func7, Try.ntmps7
  go_wp2_with fail
  refine (KN.out _).mono ?_; rintro e w1 ⟨rfl, q⟩
  go_wp2_with fail
  go_ret
  exact ⟨rfl, q⟩
theorem row_cap {w : World} {a : Option Addr} {len cap : Nat} {zs : List Int} (h : Row8 w a len cap zs) : len ≤ cap ∧ cap ≤ maxLen := by
  rcases h with ⟨_, rfl, rfl, _⟩ | ⟨_, _, h1, h2, _⟩
  · exact ⟨Nat.le_refl _, Nat.zero_le _⟩
  · exact ⟨h1, h2⟩
theorem walk_added (K : Crc) (a0 a1 a2 : Option Addr) (len0 cap0 len1 cap1 len2 cap2 : Nat) (z0 z1 z2 : List Int) (w : World) (w0 : Row8 w a0 len0 cap0 z0) (w1 : Row8 w a1 len1 cap1 z1) (w2 : Row8 w a2 len2 cap2 z2) :
    Calls Try.prog 7 #[.slice a0 len0 cap0, .slice a1 len1 cap1, .slice a2 len2 cap2] w fun e w' => e = .returned (.bool true) ∧ Below w.heap.size w w' := by
  obtain ⟨r0, y0, n0, _, b0⟩ := rdb_in w0
  obtain ⟨r1, y1, n1, _, b1⟩ := rdb_in w1
  obtain ⟨r2, y2, n2, _, b2⟩ := rdb_in w2
  have k0 := row_cap w0
  have k1 := row_cap w1
  have k2 := row_cap w2
  obtain ⟨n, hn, m0, m1, m2⟩ : ∃ n : Nat, (if (len2 : Int) < (if (len1 : Int) < (len0 : Int) then (len1 : Int) else (len0 : Int)) then (len2 : Int) else (if (len1 : Int) < (len0 : Int) then (len1 : Int) else (len0 : Int))) = (n : Int) ∧ n ≤ len0 ∧ n ≤ len1 ∧ n ≤ len2 := by
    refine ⟨min (min len0 len1) len2, ?_, by omega, by omega, by omega⟩
    split <;> split <;> omega
  by_cases h : 20000 < n
  · exact added_out K a0 a1 a2 len0 cap0 len1 cap1 len2 cap2 w n h hn
  · exact added_walk K a0 a1 a2 len0 cap0 len1 cap1 len2 cap2 _ _ _ w r0 r1 r2 y0 y1 y2 n0 n1 n2 k0.1 k1.1 k2.1 k0.2 k1.2 k2.2 n (by omega) hn m0 m1 m2
end Go.Proofs.Ytknmchpikcnacaa
