/- The walks of five statements about wire, for every input, given the program's own calls. -/
import Derived.Test.YtehmheohojnpmaaWw
import Derived.Test.YtehmheohojnpmaaWz
import Derived.OpenShut
namespace Go.Proofs.Ytehmheohojnpmaa
open Go.RowKit

theorem rdb_in {w : World} {a : Option Addr} {len cap : Nat} {zs : List Int}
    (h : (a = none ∧ len = 0 ∧ cap = 0 ∧ zs = []) ∨ ∃ x, a = some x ∧ len ≤ cap ∧ cap ≤ maxLen ∧ zs.length = cap ∧ (∀ i, i < zs.length → w.cell? (x.add i) = some (.int .u8 (zs.getD i 0))) ∧ ∀ n ∈ zs, (Lit.int .u8 n).wf = true) :
    RdB w a len (zs.take len) ∧ By (zs.take len) ∧ (a = none → len = 0 ∧ cap = 0) ∧ len ≤ cap ∧ len ≤ 9223372036854775807 := by
  rcases h with ⟨rfl, rfl, rfl, rfl⟩ | ⟨x, rfl, hl, hm, hz, hc, hw⟩
  · exact ⟨⟨rfl, fun h => absurd h (Nat.lt_irrefl 0)⟩, by intro n hn; simp at hn, fun _ => ⟨rfl, rfl⟩, Nat.le_refl _, by omega⟩
  · refine ⟨⟨by rw [List.length_take]; omega, fun hn => ?_⟩, fun n hn => bounds_u8 (hw n (List.mem_of_mem_take hn)), (fun h => by cases h), hl, by unfold maxLen at hm; omega⟩
    obtain ⟨b, off, rfl, hc'⟩ := ints_at hc (by omega)
    refine ⟨b, off, rfl, fun j hj => ?_⟩
    rw [hc' j (by omega)]
    simp [List.getD, hj]
theorem wf_u64 {x : Int} (h : (Lit.int .u64 x).wf = true) : ∃ k : Nat, x = k ∧ k < 18446744073709551616 := by
  have := bounds_u64 h
  exact ⟨x.toNat, by omega, by omega⟩

set_option maxRecDepth 100000 in
theorem writes_out (A B : Option Addr) (n c m d : Nat) (k i : Int) (f : Bool) (K : Writes) (w : World) (hn : n ≤ 9223372036854775807) (hm : m ≤ 9223372036854775807) (h : 100000 < n ∨ 100000 < m) :
    Calls Try.prog 3 #[.int .u64 k, .int .i64 i, .bool f, .slice A n c, .slice B m d] w fun e w' => e = .returned (.bool true) ∧ Below w.heap.size w w' := by
  have Q0 := Lib.hid ((Below.refl _ w).alloc (Nat.le_refl _) (.cells #[.slice A n c] 23))
  by_cases c1 : 100000 < n
  · clear h
    go_enter Try.func3, Try.ntmps3
    go_wp2_with fail
    refine (K.known _).mono ?_; rintro e w1 ⟨rfl, q⟩
    have BF := Lib.hid (Q0.out.trans (q.mono (one_alloc _ _)))
    clear q
    go_wp2_with fail
    go_ret
    exact ⟨rfl, BF.out⟩
  · have c2 : 100000 < m := by omega
    clear h
    go_enter Try.func3, Try.ntmps3
    go_wp2_with fail
    refine (K.known _).mono ?_; rintro e w1 ⟨rfl, q⟩
    have BF := Lib.hid (Q0.out.trans (q.mono (one_alloc _ _)))
    clear q
    go_wp2_with fail
    go_ret
    exact ⟨rfl, BF.out⟩
abbrev Row8 (w : World) (a : Option Addr) (len cap : Nat) (zs : List Int) : Prop :=
  (a = none ∧ len = 0 ∧ cap = 0 ∧ zs = []) ∨ ∃ x, a = some x ∧ len ≤ cap ∧ cap ≤ maxLen ∧ zs.length = cap ∧ (∀ i, i < zs.length → w.cell? (x.add i) = some (.int .u8 (zs.getD i 0))) ∧ ∀ n ∈ zs, (Lit.int .u8 n).wf = true
theorem walk_writes (K : Writes) (a0 a1 : Int) (a2 : Bool) (a3 a4 : Option Addr) (l3 c3 l4 c4 : Nat) (z3 z4 : List Int) (w : World) (w0 : (Lit.int .u64 a0).wf = true) (w1 : (Lit.int .i64 a1).wf = true) (w3 : Row8 w a3 l3 c3 z3) (w4 : Row8 w a4 l4 c4 z4) :
    Calls Try.prog 3 #[.int .u64 a0, .int .i64 a1, .bool a2, .slice a3 l3 c3, .slice a4 l4 c4] w fun e w' => e = .returned (.bool true) ∧ Below w.heap.size w w' := by
  obtain ⟨r3, _, n3, _, b3⟩ := rdb_in w3
  obtain ⟨r4, _, n4, _, b4⟩ := rdb_in w4
  obtain ⟨k, rfl, hk⟩ := wf_u64 w0
  by_cases h : 100000 < l3 ∨ 100000 < l4
  · exact writes_out a3 a4 l3 c3 l4 c4 _ a1 a2 K w b3 b4 h
  · exact writes_walk K k hk a1 (bounds_i64 w1) a2 a3 a4 l3 c3 l4 c4 _ _ w r3 r4 (by omega) (by omega) n3 n4
theorem walk_order (K : Writes) (a0 a1 a2 a3 : Int) (w : World) (w0 : (Lit.int .u64 a0).wf = true) (w1 : (Lit.int .u64 a1).wf = true) (w2 : (Lit.int .i64 a2).wf = true) (w3 : (Lit.int .i64 a3).wf = true) :
    Calls Try.prog 9 #[.int .u64 a0, .int .u64 a1, .int .i64 a2, .int .i64 a3] w fun e w' => e = .returned (.bool true) ∧ Below w.heap.size w w' := by
  obtain ⟨n, rfl, hn⟩ := wf_u64 w0
  obtain ⟨m, rfl, hm⟩ := wf_u64 w1
  exact order_walk K n m hn hm a2 a3 (bounds_i64 w2) (bounds_i64 w3) w

set_option maxRecDepth 100000 in
theorem prefix_out (A B : Option Addr) (n c m d : Nat) (k i : Int) (K : Writes) (w : World) (hn : n ≤ 9223372036854775807) (hm : m ≤ 9223372036854775807) (h : 10000 < n ∨ 10000 < m) :
    Calls Try.prog 8 #[.int .u64 k, .int .u64 i, .slice A n c, .slice B m d] w fun e w' => e = .returned (.bool true) ∧ Below w.heap.size w w' := by
  by_cases c1 : 10000 < n
  · clear h
    go_enter Try.func8, Try.ntmps8
    go_wp2_with fail
    refine (K.known _).mono ?_; rintro e w1 ⟨rfl, q⟩
    go_wp2_with fail
    go_ret
    exact ⟨rfl, q⟩
  · have c2 : 10000 < m := by omega
    clear h
    go_enter Try.func8, Try.ntmps8
    go_wp2_with fail
    refine (K.known _).mono ?_; rintro e w1 ⟨rfl, q⟩
    go_wp2_with fail
    go_ret
    exact ⟨rfl, q⟩
theorem walk_prefix (K : Writes) (a0 a1 : Int) (a3 a4 : Option Addr) (l3 c3 l4 c4 : Nat) (z3 z4 : List Int) (w : World) (w0 : (Lit.int .u64 a0).wf = true) (w1 : (Lit.int .u64 a1).wf = true) (w3 : Row8 w a3 l3 c3 z3) (w4 : Row8 w a4 l4 c4 z4) :
    Calls Try.prog 8 #[.int .u64 a0, .int .u64 a1, .slice a3 l3 c3, .slice a4 l4 c4] w fun e w' => e = .returned (.bool true) ∧ Below w.heap.size w w' := by
  obtain ⟨r3, y3, n3, _, b3⟩ := rdb_in w3
  obtain ⟨r4, y4, n4, _, b4⟩ := rdb_in w4
  obtain ⟨n, rfl, hn⟩ := wf_u64 w0
  obtain ⟨m, rfl, hm⟩ := wf_u64 w1
  by_cases h : 10000 < l3 ∨ 10000 < l4
  · exact prefix_out a3 a4 l3 c3 l4 c4 _ _ K w b3 b4 h
  · exact prefix_walk K n m hn hm a3 a4 l3 l4 c3 c4 _ _ w r3 r4 (by omega) (by omega) n3 n4 y3 y4

set_option maxRecDepth 100000 in
theorem walk_only (K : Reads) (KW : Writes) (a0 : Option Addr) (len cap : Nat) (zs : List Int) (w : World) (w0 : Row8 w a0 len cap zs) :
    Calls Try.prog 6 #[.slice a0 len cap] w fun e w' => e = .returned (.bool true) ∧ Below w.heap.size w w' := by
  obtain ⟨r, y, n0, hc, hb⟩ := rdb_in w0
  by_cases h : len ≤ 100000
  · exact only_walk K KW a0 len cap _ w r y h hc n0
  · have h' : 100000 < len := by omega
    have Q0 := Lib.hid ((Below.refl _ w).alloc (Nat.le_refl _) (.cells #[.slice a0 len cap] 23))
    clear r y n0 hc w0 h
    go_enter Try.func6, Try.ntmps6
    go_wp2_with fail
    refine (K.known _).mono ?_; rintro e w1 ⟨rfl, q⟩
    have BF := Lib.hid (Q0.out.trans (q.mono (one_alloc _ _)))
    clear q
    go_wp2_with fail
    go_ret
    exact ⟨rfl, BF.out⟩

set_option maxRecDepth 100000 in
theorem none_out (K : Reads) (A : Option Addr) (n c : Nat) (most e : Int) (w : World) (hn : n ≤ 9223372036854775807) (h : 100000 < n ∨ e = 0) :
    Calls Try.prog 7 #[.slice A n c, .int .i64 most, .int .i64 e] w fun E w' => E = .returned (.bool true) ∧ Below w.heap.size w w' := by
  by_cases c1 : 100000 < n
  · clear h
    go_enter Try.func7, Try.ntmps7
    go_wp2_with fail
    refine (K.known _).mono ?_; rintro e w1 ⟨rfl, q⟩
    go_wp2_with fail
    go_ret
    exact ⟨rfl, q⟩
  · obtain rfl : e = 0 := by omega
    clear h
    go_enter Try.func7, Try.ntmps7
    go_wp2_with fail
    refine (K.known _).mono ?_; rintro e w1 ⟨rfl, q⟩
    go_wp2_with fail
    go_ret
    exact ⟨rfl, q⟩
theorem walk_none (K : Reads) (a0 : Option Addr) (len cap : Nat) (zs : List Int) (a1 a2 : Int) (w : World) (w0 : Row8 w a0 len cap zs) (w1 : (Lit.int .i64 a1).wf = true) :
    Calls Try.prog 7 #[.slice a0 len cap, .int .i64 a1, .int .i64 a2] w fun e w' => e = .returned (.bool true) ∧ Below w.heap.size w w' := by
  obtain ⟨r, y, n0, _, hb⟩ := rdb_in w0
  by_cases h : 100000 < len ∨ a2 = 0
  · exact none_out K a0 len cap a1 a2 w hb h
  · exact none_walk K a0 len cap a1 a2 _ w r y (by omega) n0 (bounds_i64 w1) (by omega)
end Go.Proofs.Ytehmheohojnpmaa
