/- The walks of four statements about CRC-32, for every input, given the program's own calls. -/
import Derived.Test.YtknmchpikcnacaaCb
import Derived.Test.YtknmchpikcnacaaCp
namespace Go.Proofs.Ytknmchpikcnacaa
open Go.RowKit

theorem wf_u32 {x : Int} (h : (Lit.int .u32 x).wf = true) : ∃ k : Nat, x = k ∧ k < 4294967296 := by
  have := bounds_u32 h
  exact ⟨x.toNat, by omega, by omega⟩

set_option maxRecDepth 100000 in
theorem mores_out (K : Crc) (a b : Int) (A : Option Addr) (m c : Nat) (n : Int) (w : World) (hm : m ≤ 9223372036854775807) (_hn : n ≤ 9223372036854775807) (h : 20000 < m ∨ 3000 < n) :
    Calls Try.prog 4 #[.int .u32 a, .int .u32 b, .slice A m c, .int .i64 n] w fun e w' => e = .returned (.bool true) ∧ Below w.heap.size w w' := by
  have KN := Lib.hid (fun W => known_crc K W)
  clear K
  by_cases c1 : 20000 < m
  · clear h
    go_enter Try.func4, Try.ntmps4
    go_wp2_with fail
    refine (KN.out _).mono ?_; rintro e w1 ⟨rfl, q⟩
    go_wp2_with fail
    go_ret
    exact ⟨rfl, q⟩
  · have c2 : 3000 < n := by omega
    clear h
    go_enter Try.func4, Try.ntmps4
    go_wp2_with fail
    refine (KN.out _).mono ?_; rintro e w1 ⟨rfl, q⟩
    go_wp2_with fail
    go_ret
    exact ⟨rfl, q⟩
theorem walk_mores (K : Crc) (a0 a1 : Int) (a2 : Option Addr) (len2 cap2 : Nat) (z2 : List Int) (a3 : Int) (w : World) (w0 : (Lit.int .u32 a0).wf = true) (w1 : (Lit.int .u32 a1).wf = true) (w2 : Row8 w a2 len2 cap2 z2) (w3 : (Lit.int .i64 a3).wf = true) :
    Calls Try.prog 4 #[.int .u32 a0, .int .u32 a1, .slice a2 len2 cap2, .int .i64 a3] w fun e w' => e = .returned (.bool true) ∧ Below w.heap.size w w' := by
  obtain ⟨r, y, n0, _, hb⟩ := rdb_in w2
  obtain ⟨a, rfl, ha⟩ := wf_u32 w0
  obtain ⟨b, rfl, hb1⟩ := wf_u32 w1
  have h3 := bounds_i64 w3
  by_cases h : 20000 < len2 ∨ 3000 < a3
  · exact mores_out K _ _ a2 len2 cap2 a3 w hb h3.2 h
  · by_cases hneg : a3 < 0
    · exact mores_neg K a b a3 a2 len2 cap2 _ w ha r y (by omega) hneg
    · obtain ⟨n, rfl⟩ : ∃ n : Nat, a3 = n := ⟨a3.toNat, by omega⟩
      exact mores_walk K a b n a2 len2 cap2 _ w ha hb1 r y (by omega) (by omega)

set_option maxRecDepth 100000 in
theorem walk_residue (K : Crc) (a0 : Option Addr) (len0 cap0 : Nat) (z0 : List Int) (w : World) (w0 : Row8 w a0 len0 cap0 z0) :
    Calls Try.prog 8 #[.slice a0 len0 cap0] w fun e w' => e = .returned (.bool true) ∧ Below w.heap.size w w' := by
  obtain ⟨r, y, n0, _, hb⟩ := rdb_in w0
  by_cases h : len0 ≤ 20000
  · exact residue_walk K a0 len0 cap0 _ w r y h n0
  · have h' : 20000 < len0 := by omega
    have KN := Lib.hid (fun W => known_crc K W)
    clear r y n0 w0 h K
    go_enter Try.func8, Try.ntmps8
    go_wp2_with fail
    refine (KN.out _).mono ?_; rintro e w1 ⟨rfl, q⟩
    go_wp2_with fail
    go_ret
    exact ⟨rfl, q⟩

set_option maxRecDepth 100000 in
theorem parts_out (K : Crc) (A B : Option Addr) (n c m d : Nat) (w : World) (hn : n ≤ 9223372036854775807) (hm : m ≤ 9223372036854775807) (h : 20000 < n ∨ 20000 < m) :
    Calls Try.prog 5 #[.slice A n c, .slice B m d] w fun e w' => e = .returned (.bool true) ∧ Below w.heap.size w w' := by
  have KN := Lib.hid (fun W => known_crc K W)
  clear K
  by_cases c1 : 20000 < n
  · clear h
    go_enter Try.func5, Try.ntmps5
    go_wp2_with fail
    refine (KN.out _).mono ?_; rintro e w1 ⟨rfl, q⟩
    go_wp2_with fail
    go_ret
    exact ⟨rfl, q⟩
  · have c2 : 20000 < m := by omega
    clear h
    go_enter Try.func5, Try.ntmps5
    go_wp2_with fail
    refine (KN.out _).mono ?_; rintro e w1 ⟨rfl, q⟩
    go_wp2_with fail
    go_ret
    exact ⟨rfl, q⟩
theorem walk_parts (K : Crc) (a0 a1 : Option Addr) (len0 cap0 len1 cap1 : Nat) (z0 z1 : List Int) (w : World) (w0 : Row8 w a0 len0 cap0 z0) (w1 : Row8 w a1 len1 cap1 z1) :
    Calls Try.prog 5 #[.slice a0 len0 cap0, .slice a1 len1 cap1] w fun e w' => e = .returned (.bool true) ∧ Below w.heap.size w w' := by
  obtain ⟨r0, y0, n0, _, b0⟩ := rdb_in w0
  obtain ⟨r1, y1, n1, _, b1⟩ := rdb_in w1
  by_cases h : 20000 < len0 ∨ 20000 < len1
  · exact parts_out K a0 a1 len0 cap0 len1 cap1 w b0 b1 h
  · exact parts_walk K a0 a1 len0 cap0 len1 cap1 _ _ w r0 r1 y0 y1 (by omega) (by omega) n0 n1

set_option maxRecDepth 100000 in
theorem bursts_out (K : Crc) (A : Option Addr) (n c W : Nat) (x : Int) (w : World) (hn : n ≤ 9223372036854775807) (h : n < 4 ∨ 20000 < n ∨ W = 0) :
    Calls Try.prog 6 #[.slice A n c, .int .i64 x, .int .u32 W] w fun e w' => e = .returned (.bool true) ∧ Below w.heap.size w w' := by
  have KN := Lib.hid (fun W => known_crc K W)
  clear K
  by_cases c1 : n < 4
  · clear h
    go_enter Try.func6, Try.ntmps6
    go_wp2_with fail
    refine (KN.out _).mono ?_; rintro e w1 ⟨rfl, q⟩
    go_wp2_with fail
    go_ret
    exact ⟨rfl, q⟩
  · by_cases c2 : 20000 < n
    · clear h
      go_enter Try.func6, Try.ntmps6
      go_wp2_with fail
      refine (KN.out _).mono ?_; rintro e w1 ⟨rfl, q⟩
      go_wp2_with fail
      go_ret
      exact ⟨rfl, q⟩
    · obtain rfl : W = 0 := by omega
      clear h
      go_enter Try.func6, Try.ntmps6
      go_wp2_with fail
      refine (KN.out _).mono ?_; rintro e w1 ⟨rfl, q⟩
      go_wp2_with fail
      go_ret
      exact ⟨rfl, q⟩
theorem walk_bursts (K : Crc) (a0 : Option Addr) (len0 cap0 : Nat) (z0 : List Int) (a1 a2 : Int) (w : World) (w0 : Row8 w a0 len0 cap0 z0) (w1 : (Lit.int .i64 a1).wf = true) (w2 : (Lit.int .u32 a2).wf = true) :
    Calls Try.prog 6 #[.slice a0 len0 cap0, .int .i64 a1, .int .u32 a2] w fun e w' => e = .returned (.bool true) ∧ Below w.heap.size w w' := by
  obtain ⟨r, y, n0, _, hb⟩ := rdb_in w0
  obtain ⟨W, rfl, hW⟩ := wf_u32 w2
  by_cases h : len0 < 4 ∨ 20000 < len0 ∨ W = 0
  · exact bursts_out K a0 len0 cap0 W a1 w hb h
  · exact bursts_walk K a0 len0 cap0 W a1 _ w r y (by omega) (by omega) hW (by omega) (bounds_i64 w1)
end Go.Proofs.Ytknmchpikcnacaa
