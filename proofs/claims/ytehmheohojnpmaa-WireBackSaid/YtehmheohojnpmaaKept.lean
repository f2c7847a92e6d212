/- Contract of the statements' own check that a list was kept. -/
import Derived.Test.YtehmheohojnpmaaLent
namespace Go.Proofs.Ytehmheohojnpmaa
open Go.RowKit

theorem marked_rd {w : World} {base g cap n : Nat} {bs : List Int} (hl : bs.length = n) (o : w.ownsRow base 5 1 (.slice (some ⟨g, 0, none⟩) (n + 1) cap) (n + 1) ((bs ++ [77]).map (Value.int .u8))) :
    RdB w (some ⟨g, 0, none⟩) n bs ∧ w.cell? ⟨g, n, none⟩ = some (.int .u8 77) := by
  refine ⟨⟨hl, fun _ => ⟨g, 0, rfl, fun j hj => ?_⟩⟩, ?_⟩
  · rw [Nat.zero_add, o.cellAt j (by omega)]
    rw [List.map_append, List.getElem?_append_left (by rw [List.length_map]; omega)]
    simp [List.getD, show j < bs.length by omega]
  · rw [o.cellAt n (by omega)]
    simp [hl]

set_option maxRecDepth 100000 in
theorem kept_any (A : Option Addr) (g cap n c base : Nat) (bs : List Int) (w : World) (h : RdB w A n bs) (hn : n ≤ 100000) (o : w.ownsRow base 5 1 (.slice (some ⟨g, 0, none⟩) (n + 1) cap) (n + 1) ((bs ++ [77]).map (Value.int .u8))) :
    Calls Try.prog 21 #[.slice (some ⟨g, 0, none⟩) n cap, .slice A n c] w fun e w' => e = .returned (.bool true) ∧ w = w' := by
  obtain ⟨r1, c1⟩ := marked_rd h.1 o
  have k1 := conv_any (c := cap) r1
  have k2 := conv_any (c := c) h
  have hc := own_cap o
  clear r1 h o
  go_enter Try.func21, Try.ntmps21
  go_wp2
  go_ret
  exact ⟨rfl, rfl⟩
end Go.Proofs.Ytehmheohojnpmaa
