/- The program's own wire: Nat, Int, behind bytes that are read, one's own or not. -/
import Derived.Test.YtlnakhbcefmiaaaVw
namespace Go.Proofs.Ytlnakhbcefmiaaa
open Go.RowKit

set_option maxRecDepth 100000 in
theorem wnat_rd (A : Option Addr) (L c : Nat) (bs : List Int) (k : Nat) (W : World) (hr : RdB W A L bs) (h0 : A = none → L = 0 ∧ c = 0) (hl : L ≤ 1000000) (hk : k < 18446744073709551616) :
    Calls Try.prog 39 #[.slice A L c, .int .u64 k] W fun E W' => Made W (bs ++ nb k) E W' := by
  have hbl := hr.1
  have ht := nb_ten hk
  have K := Lib.hid (natural_any k hk W)
  have HR := Lib.hid hr
  have H0 := Lib.hid h0
  clear hr h0
  go_enter Try.func39, Try.ntmps39
  go_wp2_with fail
  refine K.out.mono ?_; rintro e w1 ⟨v1, rfl, hN⟩
  obtain ⟨A1, c1, rfl, hr1, h01⟩ := owns_pt hN.o
  have CC := Lib.hid (concat_any w1.heap.size 2 [⟨A, L, c, bs⟩, ⟨A1, (nb k).length, c1, nb k⟩] (w1.alloc (.cells #[.slice A L c, .slice A1 (nb k).length c1] 30)) rfl (by decide) (two_at w1 ⟨A, L, c, bs⟩ ⟨A1, (nb k).length, c1, nb k⟩)
    (by
      intro p hp
      simp only [List.mem_cons, List.not_mem_nil, or_false] at hp
      rcases hp with rfl | rfl
      · exact ⟨(HR.out.below hN.q).below ((Below.refl _ w1).alloc (Nat.le_refl _) _), H0.out⟩
      · exact ⟨hr1.below ((Below.refl _ w1).alloc (Nat.le_refl _) _), h01⟩)
    (by simp [cat]; omega))
  have Q1 := Lib.hid (hN.q.alloc hN.q.size (.cells #[.slice A L c, .slice A1 (nb k).length c1] 30))
  have hs := hN.q.size
  obtain ⟨M, hM⟩ : ∃ M, (nb k).length = M := ⟨_, rfl⟩
  rw [hM] at CC Q1 ⊢
  clear hN hr1 h01 K hM
  go_wp2_with fail
  refine CC.out.mono ?_; rintro e w2 ⟨v2, rfl, hN2⟩
  have Q2 := Lib.hid (Q1.out.trans (hN2.q.mono Q1.out.size))
  have O2 := Lib.hid (own_less hN2.o Q1.out.size)
  clear hN2
  go_wp2_with fail
  go_ret
  refine ⟨_, rfl, ?_, Q2.out⟩
  have := O2.out
  simpa [cat] using this
set_option maxRecDepth 100000 in
theorem wint_rd (A : Option Addr) (L c : Nat) (bs : List Int) (k : Int) (W : World) (hr : RdB W A L bs) (hn : A = none → L = 0 ∧ c = 0) (hl : L ≤ 1000000) (hk : -9223372036854775808 ≤ k ∧ k ≤ 9223372036854775807) :
    Calls Try.prog 40 #[.slice A L c, .int .i64 k] W fun E W' => Made W (bs ++ ib k) E W' := by
  by_cases h0 : 0 ≤ k
  · have C := wnat_rd A L c bs (2 * k).toNat W hr hn hl (by omega)
    rw [← xor_zero h0 hk.2, show nb (2 * k).toNat = ib k from (if_pos h0).symm] at C
    have CC := Lib.hid C
    clear hr hn C
    go_enter Try.func40, Try.ntmps40
    go_wp2_with fail
    refine CC.out.mono ?_; rintro e w1 ⟨v', rfl, r⟩
    have R := Lib.hid r
    clear r
    go_wp2_with fail
    go_ret
    exact ⟨_, rfl, R.out⟩
  · have C := wnat_rd A L c bs (2 * (-(k + 1)) + 1).toNat W hr hn hl (by omega)
    rw [← xor_neg (by omega) hk.1, show nb (2 * (-(k + 1)) + 1).toNat = ib k from (if_neg h0).symm] at C
    have CC := Lib.hid C
    clear hr hn C
    go_enter Try.func40, Try.ntmps40
    go_wp2_with fail
    refine CC.out.mono ?_; rintro e w1 ⟨v', rfl, r⟩
    have R := Lib.hid r
    clear r
    go_wp2_with fail
    go_ret
    exact ⟨_, rfl, R.out⟩
end Go.Proofs.Ytlnakhbcefmiaaa
