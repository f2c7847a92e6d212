/- Contracts of the document's plain forms: of a natural number, a whole one. -/
import Derived.Test.YtlnakhbcefmiaaaPt
namespace Go.Proofs.Ytlnakhbcefmiaaa
open Go.RowKit


set_option maxHeartbeats 400000 in
set_option maxRecDepth 100000 in
theorem rnat_any (n : Nat) : n < 18446744073709551616 → ∀ w, Calls Try.prog 32 #[.int .u64 n] w fun e W => Made w (nb n) e W := by
  induction n using Nat.strongRecOn with
  | _ n ih =>
    intro hn w
    have hi : (n : Int) ≤ 18446744073709551615 := by omega
    by_cases h : n < 128
    · rw [nb_small h]
      clear ih hn
      go_enter Try.func32, Try.ntmps32
      go_wp2
      go_ret
      exact ⟨_, rfl, new_one w n⟩
    · have ih' := ih (n / 128) (by omega) (by omega)
      rw [show ((n / 128 : Nat) : Int) = (n : Int) / 128 from by omega] at ih'
      have IH := Lib.hid ih'
      have HE := Lib.hid (nb_big (n := n) (by omega))
      have hlen := nb_ten (n := n / 128) (by omega)
      obtain ⟨i0, hi0, hz0, hz1, hz2⟩ := info_parts info_u8
      have O := Lib.hid (own_one w ((n : Int) % 128 + 128))
      have Q := Lib.hid ((Below.refl _ w).alloc (Nat.le_refl _) (.cells #[.int .u8 ((n : Int) % 128 + 128)] 5))
      have hp := nb_pos (n / 128)
      clear ih hn ih'
      go_enter Try.func32, Try.ntmps32
      go_wp2_with fail
      refine (IH.out _).mono ?_; rintro e w1 ⟨v, rfl, hN⟩
      obtain ⟨g, cap, rfl, _, _⟩ := hN.o.form (by omega)
      have O1 := Lib.hid (O.out.kept (row := none) ⟨hN.q.os, hN.q.tape, hN.q.output, hN.q.size, fun i hi _ => hN.q.block i hi⟩ (by simp [Value.ownBlock]))
      have B1 := Lib.hid (Q.out.trans (hN.q.mono (by simp)))
      have hb1 : w.heap.size ≤ w1.heap.size := Nat.le_trans (by simp) hN.q.size
      have NW : Hid (∀ j u, ((nb (n / 128)).map (Value.int .u8))[j]? = some u → w1.cell? ((⟨g, 0, none⟩ : Addr).add j) = some u) := Lib.hid (fun j u hj => by
        have hjl : j < (nb (n / 128)).length := by have := (List.getElem?_eq_some_iff.1 hj).1; simpa using this
        rw [Addr.add_mid, Nat.zero_add, hN.o.cellAt j (by omega)]; exact hj)
      have hl : Hid (((nb (n / 128)).map (Value.int .u8)).length = (nb (n / 128)).length * 1) := Lib.hid (by simp)
      clear hN
      obtain ⟨L, hL⟩ : ∃ L, (nb (n / 128)).length = L := ⟨_, rfl⟩
      rw [hL] at hl hlen hp
      rw [hL]
      have HL := Lib.hid hL
      clear hL
      go_wp2_with (at_builtin; refine wpList_append_own _ rfl (.tmp 12) (.tmp 15) 30 rfl w.heap.size 5 i0 (.int .u8 0) 1 1 Try.underlying30 hi0 hz0 hz1 hz2 rfl (by decide) (.slice (some ⟨w.heap.size, 0, none⟩) 1 1) 1 [.int .u8 ((n : Int) % 128 + 128)] rfl O1.out ⟨g, 0, none⟩ L cap ((nb (n / 128)).map (Value.int .u8)) rfl hl.out NW.out (one_u8 _) (by unfold maxLen; omega) (by omega) hb1 ?_; intro v2 w2 hown2 hgrow2 _)
      have R : New w w2 v2 (nb n) := by
        rw [HE.out, show ((n % 128 : Nat) : Int) = (n : Int) % 128 from by omega]
        refine ⟨?_, B1.out.grown hgrow2 hb1 fun k hk => by simp [Value.ownBlock] at hk; omega⟩
        rw [List.length_cons, HL.out, Nat.add_comm L 1]
        exact hown2
      have R := Lib.hid R
      clear hown2 hgrow2
      go_wp2
      go_ret
      exact ⟨_, rfl, R.out⟩

set_option maxRecDepth 100000 in
theorem rint_any (n : Int) (h : -9223372036854775808 ≤ n ∧ n ≤ 9223372036854775807) (w : World) : Calls Try.prog 33 #[.int .i64 n] w fun e W => Made w (ib n) e W := by
  by_cases h0 : 0 ≤ n
  · have c := rnat_any (2 * n).toNat (by omega)
    rw [show (((2 * n).toNat : Nat) : Int) = 2 * n from by omega] at c
    have C := Lib.hid c
    have E : ib n = nb (2 * n).toNat := if_pos h0
    rw [E]
    clear c E
    go_enter Try.func33, Try.ntmps33
    go_wp2_with fail
    refine (C.out _).mono ?_; rintro e w1 ⟨v, rfl, hN⟩
    have R := Lib.hid hN
    clear hN
    go_wp2_with fail
    go_ret
    exact ⟨_, rfl, R.out⟩
  · have c := rnat_any (2 * (-(n + 1)) + 1).toNat (by omega)
    rw [show (((2 * (-(n + 1)) + 1).toNat : Nat) : Int) = 2 * (-(n + 1)) + 1 from by omega] at c
    have C := Lib.hid c
    have E : ib n = nb (2 * (-(n + 1)) + 1).toNat := if_neg h0
    rw [E]
    clear c E
    go_enter Try.func33, Try.ntmps33
    go_wp2_with fail
    refine (C.out _).mono ?_; rintro e w1 ⟨v, rfl, hN⟩
    have R := Lib.hid hN
    clear hN
    go_wp2_with fail
    go_ret
    exact ⟨_, rfl, R.out⟩
end Go.Proofs.Ytlnakhbcefmiaaa
