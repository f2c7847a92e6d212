/- CalendarPlays answers true whatever the script is, given the program's calendar. -/
import Derived.Test.YtejhnfkljfdejaaKx
namespace Go.Proofs.Ytejhnfkljfdejaa
open Go.RowKit Go.Shelf

set_option maxRecDepth 100000 in
theorem plays_out {Pc : PcT} {zc : Array Value} (K : CalK Pc zc) (A : Option Addr) (n c : Nat) (w : World) (hn : 300 < n) (hm : n ≤ 9223372036854775807) :
    Calls Try.prog 3 #[.slice A n c] w fun e w' => e = .returned (.bool true) ∧ Below w.heap.size w w' := by
  have KN := Lib.hid (fun W => known5_any K W)
  have NW := Lib.hid (K.new w)
  clear K
  go_enter Try.func3, Try.ntmps3
  go_wp2_with fail
  refine NW.out.mono ?_; rintro e w1 ⟨g, F, rfl, hp, q, hF⟩
  have Q := Lib.hid q
  have hd300 : decide (300 < (n : Int)) = true := decide_eq_true (by omega)
  clear NW hp q hF
  go_wp2_with fail
  refine (KN.out _).mono ?_; rintro e w2 ⟨rfl, q⟩
  have q2 : Below w1.heap.size w1 (w1.alloc (.cells #[.int .u32 0, .slice none 0 0] 29)) := (Below.refl _ w1).alloc (Nat.le_refl _) _
  have BE := Lib.hid (Q.out.trans ((q2.trans (q.mono q2.size)).mono Q.out.size))
  clear q q2
  go_wp2_with fail
  go_ret
  exact ⟨rfl, BE.out⟩
theorem plays_all {Pc : PcT} {zc : Array Value} (K : CalK Pc zc) (A : Option Addr) (n c : Nat) (os : List OpC) (w : World) (hr : RdO w A n os) (hok : ∀ x, x ∈ os → x.ok) (hm : n ≤ maxLen) :
    Calls Try.prog 3 #[.slice A n c] w fun e w' => e = .returned (.bool true) ∧ Below w.heap.size w w' := by
  by_cases hn : n ≤ 300
  · exact plays_in K A n c os w hr hok hn
  · exact plays_out K A n c w (by omega) (by unfold maxLen at hm; omega)
end Go.Proofs.Ytejhnfkljfdejaa
