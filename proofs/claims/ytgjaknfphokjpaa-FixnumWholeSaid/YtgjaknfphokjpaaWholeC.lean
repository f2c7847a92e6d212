/- The walk of the statement FixnumWhole, for every total and every list of weights. -/
import Derived.Test.YtgjaknfphokjpaaWholeB
import Derived.Test.YtgjaknfphokjpaaAllB
namespace Go.Proofs.Ytgjaknfphokjpaa
open Go.RowKit Go.Sort

set_option maxRecDepth 100000 in
theorem whole_out (A : Option Addr) (n c : Nat) (T : Int) (w : World) (hn : n ≤ 9223372036854775807) (h : 200 < n) :
    Calls Try.prog 10 #[.int .i64 T, .slice A n c] w fun e w' => e = .returned (.bool true) ∧ Below w.heap.size w w' := by
  go_enter Try.func10, Try.ntmps10
  go_wp2_with fail
  refine (known_any _).mono ?_; rintro e w1 ⟨rfl, q5⟩
  go_wp2_with fail
  go_ret
  exact ⟨rfl, q5.2⟩
theorem walk_whole (T : Int) (a : Option Addr) (len cap : Nat) (zs : List Int) (w : World) (hT : (Lit.int .i64 T).wf = true)
    (h : (a = none ∧ len = 0 ∧ cap = 0 ∧ zs = []) ∨ ∃ x, a = some x ∧ len ≤ cap ∧ cap ≤ maxLen ∧ zs.length = cap ∧ (∀ i, i < zs.length → w.cell? (x.add i) = some (.int .i64 (zs.getD i 0))) ∧ ∀ n ∈ zs, (Lit.int .i64 n).wf = true) :
    Calls Try.prog 10 #[.int .i64 T, .slice a len cap] w fun e w' => e = .returned (.bool true) ∧ Below w.heap.size w w' := by
  obtain ⟨h1, h2, h3⟩ := rd_in h
  have hb : len ≤ 9223372036854775807 := by
    rcases h with ⟨_, rfl, _, _⟩ | ⟨x, _, hl, hm, _⟩
    · omega
    · unfold maxLen at hm; omega
  by_cases hn : 200 < len
  · exact whole_out a len cap T w hb hn
  · by_cases hg : Ng (zs.take len)
    · exact whole_walk a len cap _ T w h1 h2 (bounds_i64 hT) (by omega) true ⟨fun _ => hg, fun _ => rfl⟩
    · exact whole_walk a len cap _ T w h1 h2 (bounds_i64 hT) (by omega) false ⟨fun e => (by cases e), fun e => absurd e hg⟩
end Go.Proofs.Ytgjaknfphokjpaa
