/- Texts of a proof, laid together: Rw, Rn, Qf, Lent. -/
import Derived.Laws.AppendOwnNone
import Derived.Test.YtbmlpokkojhhjaaGreatG06
import Derived.Test.YtbmlpokkojhhjaaGreatG02
/- Contracts of the document's plain forms: of a natural number, a whole one, a flag, a text. -/
namespace Go.Proofs.YtbmlpokkojhhjaaGreat
open Go.RowKit


set_option maxHeartbeats 400000 in
set_option maxRecDepth 100000 in
theorem rnat_any (n : Nat) : n < 18446744073709551616 → ∀ w, Calls Tryz.prog 74 #[.int .u64 n] w fun e W => Made w (nb n) e W := by
  induction n using Nat.strongRecOn with
  | _ n ih =>
    intro hn w
    have hi : (n : Int) ≤ 18446744073709551615 := by omega
    by_cases h : n < 128
    · rw [nb_small h]
      clear ih hn
      go_enter Tryz.func74, Tryz.ntmps74
      go_wp2
      go_ret
      exact ⟨_, rfl, new_one w n⟩
    · have ih' := ih (n / 128) (by omega) (by omega)
      rw [show ((n / 128 : Nat) : Int) = (n : Int) / 128 from by omega] at ih'
      have IH := Lib.hid ih'
      have HE := Lib.hid (nb_big (n := n) (by omega))
      have hlen := nb_ten (n := n / 128) (by omega)
      obtain ⟨i0, hi0, hz0, hz1, hz2⟩ := info_parts info_u8
      have O := Lib.hid (own_one w ((n : Int) % 128 + 128))
      have Q := Lib.hid ((Below.refl _ w).alloc (Nat.le_refl _) (.cells #[.int .u8 ((n : Int) % 128 + 128)] 5))
      have hp := nb_pos (n / 128)
      clear ih hn ih'
      go_enter Tryz.func74, Tryz.ntmps74
      go_wp2_with fail
      refine (IH.out _).mono ?_; rintro e w1 ⟨v, rfl, hN⟩
      obtain ⟨g, cap, rfl, _, _⟩ := hN.o.form (by omega)
      have O1 := Lib.hid (O.out.kept (row := none) ⟨hN.q.os, hN.q.tape, hN.q.output, hN.q.size, fun i hi _ => hN.q.block i hi⟩ (by simp [Value.ownBlock]))
      have B1 := Lib.hid (Q.out.trans (hN.q.mono (by simp)))
      have hb1 : w.heap.size ≤ w1.heap.size := Nat.le_trans (by simp) hN.q.size
      have NW : Hid (∀ j u, ((nb (n / 128)).map (Value.int .u8))[j]? = some u → w1.cell? ((⟨g, 0, none⟩ : Addr).add j) = some u) := Lib.hid (fun j u hj => by
        have hjl : j < (nb (n / 128)).length := by have := (List.getElem?_eq_some_iff.1 hj).1; simpa using this
        rw [Addr.add_mid, Nat.zero_add, hN.o.cellAt j (by omega)]; exact hj)
      have hl : Hid (((nb (n / 128)).map (Value.int .u8)).length = (nb (n / 128)).length * 1) := Lib.hid (by simp)
      clear hN
      obtain ⟨L, hL⟩ : ∃ L, (nb (n / 128)).length = L := ⟨_, rfl⟩
      rw [hL] at hl hlen hp
      rw [hL]
      have HL := Lib.hid hL
      clear hL
      go_wp2_with (at_builtin; refine wpList_append_own _ rfl (.tmp 12) (.tmp 15) 22 rfl w.heap.size 5 i0 (.int .u8 0) 1 1 Tryz.underlying22 hi0 hz0 hz1 hz2 rfl (by decide) (.slice (some ⟨w.heap.size, 0, none⟩) 1 1) 1 [.int .u8 ((n : Int) % 128 + 128)] rfl O1.out ⟨g, 0, none⟩ L cap ((nb (n / 128)).map (Value.int .u8)) rfl hl.out NW.out (one_u8 _) (by unfold maxLen; omega) (by omega) hb1 ?_; intro v2 w2 hown2 hgrow2 _)
      have R : New w w2 v2 (nb n) := by
        rw [HE.out, show ((n % 128 : Nat) : Int) = (n : Int) % 128 from by omega]
        refine ⟨?_, B1.out.grown hgrow2 hb1 fun k hk => by simp [Value.ownBlock] at hk; omega⟩
        rw [List.length_cons, HL.out, Nat.add_comm L 1]
        exact hown2
      have R := Lib.hid R
      clear hown2 hgrow2
      go_wp2
      go_ret
      exact ⟨_, rfl, R.out⟩

set_option maxRecDepth 100000 in
theorem rint_any (n : Int) (h : -9223372036854775808 ≤ n ∧ n ≤ 9223372036854775807) (w : World) : Calls Tryz.prog 75 #[.int .i64 n] w fun e W => Made w (ib n) e W := by
  by_cases h0 : 0 ≤ n
  · have c := rnat_any (2 * n).toNat (by omega)
    rw [show (((2 * n).toNat : Nat) : Int) = 2 * n from by omega] at c
    have C := Lib.hid c
    have E : ib n = nb (2 * n).toNat := if_pos h0
    rw [E]
    clear c E
    go_enter Tryz.func75, Tryz.ntmps75
    go_wp2_with fail
    refine (C.out _).mono ?_; rintro e w1 ⟨v, rfl, hN⟩
    have R := Lib.hid hN
    clear hN
    go_wp2_with fail
    go_ret
    exact ⟨_, rfl, R.out⟩
  · have c := rnat_any (2 * (-(n + 1)) + 1).toNat (by omega)
    rw [show (((2 * (-(n + 1)) + 1).toNat : Nat) : Int) = 2 * (-(n + 1)) + 1 from by omega] at c
    have C := Lib.hid c
    have E : ib n = nb (2 * (-(n + 1)) + 1).toNat := if_neg h0
    rw [E]
    clear c E
    go_enter Tryz.func75, Tryz.ntmps75
    go_wp2_with fail
    refine (C.out _).mono ?_; rintro e w1 ⟨v, rfl, hN⟩
    have R := Lib.hid hN
    clear hN
    go_wp2_with fail
    go_ret
    exact ⟨_, rfl, R.out⟩

set_option maxRecDepth 100000 in
theorem rflag_any (f : Bool) (w : World) : Calls Tryz.prog 77 #[.bool f] w fun e W => Made w (fb f) e W := by
  cases f
  all_goals
    go_enter Tryz.func77, Tryz.ntmps77
    go_wp2
    go_ret
    exact ⟨_, rfl, new_one w _⟩
end Go.Proofs.YtbmlpokkojhhjaaGreat
/- Stands in for XRn where the document's reader is in the law, too. -/
/- Contract of the document's form of a contract's data. -/
namespace Go.Proofs.YtbmlpokkojhhjaaGreat
open Go.RowKit

theorem grew {w1 W W2 : World} {v v' : Value} {xs fs : List Int} (h : New w1 W v xs) (o : W2.ownsRow w1.heap.size 5 1 v' (xs.length + fs.length) (xs.map (Value.int .u8) ++ fs.map (Value.int .u8))) (g : W.grownBy W2 v.ownBlock) : New w1 W2 v' (xs ++ fs) :=
  ⟨by rw [List.length_append, List.map_append]; exact o, h.q.grown g h.q.size (fun i hi => (h.o.lt i hi).1)⟩
set_option maxRecDepth 100000 in
set_option maxHeartbeats 4000000 in
theorem rform_any (s : Sp) (w : World) (ok : s.ok) (hm : mayB s = true) : Calls Tryz.prog 76 #[.agg s.cells] w fun e W => Made w (form s) e W := by
  have NAT := Lib.hid (fun (n : Nat) (W : World) (h : n < 18446744073709551616) => rnat_any n h W)
  have INT := Lib.hid (fun (n : Int) (W : World) (h : I64 n) => rint_any n h W)
  have HB := Lib.hid (box_new w ok.len)
  have hp := head_parts (may_head hm)
  have hf := may_fi hm
  have hsh := may_sh hm
  have HFM : Hid (form s = form s) := Lib.hid rfl
  unfold form six at HFM
  obtain ⟨nu, hnu⟩ : ∃ k : Nat, s.nu = k := ⟨s.nu.toNat, by have := ok.nu; omega⟩
  obtain ⟨ro, hro⟩ : ∃ k : Nat, s.ro = k := ⟨s.ro.toNat, by have := ok.ro; omega⟩
  obtain ⟨ti, hti⟩ : ∃ k : Nat, s.ti = k := ⟨s.ti.toNat, by omega⟩
  obtain ⟨lo, hlo⟩ : ∃ k : Nat, s.lo = k := ⟨s.lo.toNat, by omega⟩
  obtain ⟨ba, hba⟩ : ∃ k : Nat, s.ba = k := ⟨s.ba.toNat, by omega⟩
  obtain ⟨li, hli⟩ : ∃ k : Nat, s.li = k := ⟨s.li.toNat, by omega⟩
  obtain ⟨cr, hcr⟩ : ∃ k : Nat, s.cr = k := ⟨s.cr.toNat, by omega⟩
  obtain ⟨la, hla⟩ : ∃ k : Nat, s.la = k := ⟨s.la.toNat, by have := ok.la; omega⟩
  obtain ⟨fi, hfi⟩ : ∃ k : Nat, s.fi = k := ⟨s.fi.toNat, by omega⟩
  have C0 := Lib.hid s.c0
  have C1 := Lib.hid s.c1
  have C2 := Lib.hid s.c2
  have C3 := Lib.hid s.c3
  have C4 := Lib.hid s.c4
  have C5 := Lib.hid s.c5
  have C6 := Lib.hid (fun i h => Sp.c6 ok.len i h)
  have C22 := Lib.hid (Sp.c22 ok.len)
  have C23 := Lib.hid (Sp.c23 ok.len)
  have C24 := Lib.hid (Sp.c24 ok.len)
  have HL := Lib.hid ok.len
  have HSH := Lib.hid hsh
  have k0 := ok.nu
  have k1 := ok.ro
  have k2 := ok.la
  rw [hnu] at C0 k0
  rw [hro] at C1 k1
  rw [hti] at C2 hp
  rw [hlo] at C3 hp
  rw [hba] at C4 hp
  rw [hli] at C5 hp
  rw [hcr] at C22 hp
  rw [hla] at C23 k2
  rw [hfi] at C24 hf
  have FM : Hid (form s = nb nu ++ nb ro ++ nb ti ++ nb lo ++ nb ba ++ nb li ++ shF s.sh ++ nb cr ++ nb la ++ nb fi) := Lib.hid (by
    unfold form six
    rw [hnu, hro, hti, hlo, hba, hli, hcr, hla, hfi]
    simp only [Int.toNat_natCast])
  have b0 : nu ≤ 4294967295 := by omega
  have b1 : ro ≤ 255 := by omega
  have b2 : ti ≤ 10000000 := by omega
  have b3 : lo ≤ 1000000 := by omega
  have b4 : ba ≤ 10000000 := by omega
  have b5 : li ≤ 10000000 := by omega
  have b6 : cr ≤ 10000000 := by omega
  have b7 : la ≤ 4294967295 := by omega
  have b8 : fi ≤ 10000000 := by omega
  have NV0 := Lib.hid (show New (w.alloc (.cells s.cells 29)) (w.alloc (.cells s.cells 29)) (.slice none 0 0) [] from ⟨World.ownsRow_nil _ _ _ _, Below.refl _ _⟩)
  have B := Lib.hid ((Below.refl w.heap.size w).alloc (Nat.le_refl _) (.cells s.cells 29))
  clear hm ok hp hf hsh HFM hnu hro hti hlo hba hli hcr hla hfi k0 k1 k2
  go_enter Tryz.func76, Tryz.ntmps76
  have hc := C0.out
  go_wp2_with fail
  refine (NAT.out nu _ (by omega)).mono ?_; rintro e wd ⟨v2, rfl, hN⟩
  obtain ⟨A2, c2, rfl, r2, n2⟩ := owns_pt hN.o
  have R2 := Lib.hid r2
  have N2 := Lib.hid n2
  have OV := Lib.hid (NV0.out.below hN.q)
  have hlen : (nb nu).length ≤ 10 := nb_ten (by omega)
  obtain ⟨FS, hFS⟩ : ∃ FS, nb nu = FS := ⟨_, rfl⟩
  rw [hFS] at R2 N2 hlen ⊢
  obtain ⟨fl, hfl⟩ : ∃ fl, FS.length = fl := ⟨_, rfl⟩
  rw [hfl] at R2 N2 hlen ⊢
  have HFS := Lib.hid hFS
  have HFL := Lib.hid hfl
  clear hN r2 n2 NV0 hFS hfl hc
  go_wp2_with (at_builtin; refine wpl_append rfl (.tmp 5) (.tmp 9) rfl (w.alloc (.cells s.cells 29)).heap.size (.slice none 0 0) ([] : List Int).length (([] : List Int).map (Value.int .u8)) rfl OV.out.o A2 fl c2 FS rfl R2.out N2.out (by first | omega | (rw [List.length_nil]; omega)) OV.out.q.size ?_; intro v1 w1 o2 g2; have NN := Lib.hid (grew OV.out (by rw [HFL.out]; exact o2) g2); clear o2 g2; have hc := (HB.out.below NN.out.q).cell 1; rw [C1.out] at hc; skip)
  obtain ⟨X1, hX⟩ : ∃ X, ([] : List Int) ++ FS = X := ⟨_, rfl⟩
  have hl1 : X1.length ≤ 10 := by rw [← hX, List.length_append, HFL.out]; first | omega | (rw [List.length_nil]; omega)
  rw [hX] at NN
  have NV1 := NN
  rw [← HFS.out] at hX
  have HX1 := Lib.hid hX
  clear hX NN OV R2 N2 HFS HFL hlen
  refine (NAT.out ro w1 (by omega)).mono ?_; rintro e wd ⟨v2, rfl, hN⟩
  obtain ⟨A2, c2, rfl, r2, n2⟩ := owns_pt hN.o
  have R2 := Lib.hid r2
  have N2 := Lib.hid n2
  have OV := Lib.hid (NV1.out.below hN.q)
  have hlen : (nb ro).length ≤ 10 := nb_ten (by omega)
  obtain ⟨FS, hFS⟩ : ∃ FS, nb ro = FS := ⟨_, rfl⟩
  rw [hFS] at R2 N2 hlen ⊢
  obtain ⟨fl, hfl⟩ : ∃ fl, FS.length = fl := ⟨_, rfl⟩
  rw [hfl] at R2 N2 hlen ⊢
  have HFS := Lib.hid hFS
  have HFL := Lib.hid hfl
  clear hN r2 n2 NV1 hFS hfl hc
  go_wp2_with (at_builtin; refine wpl_append rfl (.tmp 11) (.tmp 15) rfl (w.alloc (.cells s.cells 29)).heap.size v1 X1.length (X1.map (Value.int .u8)) rfl OV.out.o A2 fl c2 FS rfl R2.out N2.out (by first | omega | (rw [List.length_nil]; omega)) OV.out.q.size ?_; intro v2 w2 o2 g2; have NN := Lib.hid (grew OV.out (by rw [HFL.out]; exact o2) g2); clear o2 g2; have hc := (HB.out.below NN.out.q).cell 2; rw [C2.out] at hc; skip)
  obtain ⟨X2, hX⟩ : ∃ X, X1 ++ FS = X := ⟨_, rfl⟩
  have hl2 : X2.length ≤ 20 := by rw [← hX, List.length_append, HFL.out]; first | omega | (rw [List.length_nil]; omega)
  rw [hX] at NN
  have NV2 := NN
  rw [← HFS.out] at hX
  have HX2 := Lib.hid hX
  clear hX NN OV R2 N2 HFS HFL hlen hl1
  refine (NAT.out ti w2 (by omega)).mono ?_; rintro e wd ⟨v2, rfl, hN⟩
  obtain ⟨A2, c2, rfl, r2, n2⟩ := owns_pt hN.o
  have R2 := Lib.hid r2
  have N2 := Lib.hid n2
  have OV := Lib.hid (NV2.out.below hN.q)
  have hlen : (nb ti).length ≤ 10 := nb_ten (by omega)
  obtain ⟨FS, hFS⟩ : ∃ FS, nb ti = FS := ⟨_, rfl⟩
  rw [hFS] at R2 N2 hlen ⊢
  obtain ⟨fl, hfl⟩ : ∃ fl, FS.length = fl := ⟨_, rfl⟩
  rw [hfl] at R2 N2 hlen ⊢
  have HFS := Lib.hid hFS
  have HFL := Lib.hid hfl
  clear hN r2 n2 NV2 hFS hfl hc
  go_wp2_with (at_builtin; refine wpl_append rfl (.tmp 17) (.tmp 21) rfl (w.alloc (.cells s.cells 29)).heap.size v2 X2.length (X2.map (Value.int .u8)) rfl OV.out.o A2 fl c2 FS rfl R2.out N2.out (by first | omega | (rw [List.length_nil]; omega)) OV.out.q.size ?_; intro v3 w3 o2 g2; have NN := Lib.hid (grew OV.out (by rw [HFL.out]; exact o2) g2); clear o2 g2; have hc := (HB.out.below NN.out.q).cell 3; rw [C3.out] at hc; skip)
  obtain ⟨X3, hX⟩ : ∃ X, X2 ++ FS = X := ⟨_, rfl⟩
  have hl3 : X3.length ≤ 30 := by rw [← hX, List.length_append, HFL.out]; first | omega | (rw [List.length_nil]; omega)
  rw [hX] at NN
  have NV3 := NN
  rw [← HFS.out] at hX
  have HX3 := Lib.hid hX
  clear hX NN OV R2 N2 HFS HFL hlen hl2
  refine (NAT.out lo w3 (by omega)).mono ?_; rintro e wd ⟨v2, rfl, hN⟩
  obtain ⟨A2, c2, rfl, r2, n2⟩ := owns_pt hN.o
  have R2 := Lib.hid r2
  have N2 := Lib.hid n2
  have OV := Lib.hid (NV3.out.below hN.q)
  have hlen : (nb lo).length ≤ 10 := nb_ten (by omega)
  obtain ⟨FS, hFS⟩ : ∃ FS, nb lo = FS := ⟨_, rfl⟩
  rw [hFS] at R2 N2 hlen ⊢
  obtain ⟨fl, hfl⟩ : ∃ fl, FS.length = fl := ⟨_, rfl⟩
  rw [hfl] at R2 N2 hlen ⊢
  have HFS := Lib.hid hFS
  have HFL := Lib.hid hfl
  clear hN r2 n2 NV3 hFS hfl hc
  go_wp2_with (at_builtin; refine wpl_append rfl (.tmp 23) (.tmp 27) rfl (w.alloc (.cells s.cells 29)).heap.size v3 X3.length (X3.map (Value.int .u8)) rfl OV.out.o A2 fl c2 FS rfl R2.out N2.out (by first | omega | (rw [List.length_nil]; omega)) OV.out.q.size ?_; intro v4 w4 o2 g2; have NN := Lib.hid (grew OV.out (by rw [HFL.out]; exact o2) g2); clear o2 g2; have hc := (HB.out.below NN.out.q).cell 4; rw [C4.out] at hc; skip)
  obtain ⟨X4, hX⟩ : ∃ X, X3 ++ FS = X := ⟨_, rfl⟩
  have hl4 : X4.length ≤ 40 := by rw [← hX, List.length_append, HFL.out]; first | omega | (rw [List.length_nil]; omega)
  rw [hX] at NN
  have NV4 := NN
  rw [← HFS.out] at hX
  have HX4 := Lib.hid hX
  clear hX NN OV R2 N2 HFS HFL hlen hl3
  refine (NAT.out ba w4 (by omega)).mono ?_; rintro e wd ⟨v2, rfl, hN⟩
  obtain ⟨A2, c2, rfl, r2, n2⟩ := owns_pt hN.o
  have R2 := Lib.hid r2
  have N2 := Lib.hid n2
  have OV := Lib.hid (NV4.out.below hN.q)
  have hlen : (nb ba).length ≤ 10 := nb_ten (by omega)
  obtain ⟨FS, hFS⟩ : ∃ FS, nb ba = FS := ⟨_, rfl⟩
  rw [hFS] at R2 N2 hlen ⊢
  obtain ⟨fl, hfl⟩ : ∃ fl, FS.length = fl := ⟨_, rfl⟩
  rw [hfl] at R2 N2 hlen ⊢
  have HFS := Lib.hid hFS
  have HFL := Lib.hid hfl
  clear hN r2 n2 NV4 hFS hfl hc
  go_wp2_with (at_builtin; refine wpl_append rfl (.tmp 29) (.tmp 33) rfl (w.alloc (.cells s.cells 29)).heap.size v4 X4.length (X4.map (Value.int .u8)) rfl OV.out.o A2 fl c2 FS rfl R2.out N2.out (by first | omega | (rw [List.length_nil]; omega)) OV.out.q.size ?_; intro v5 w5 o2 g2; have NN := Lib.hid (grew OV.out (by rw [HFL.out]; exact o2) g2); clear o2 g2; have hc := (HB.out.below NN.out.q).cell 5; rw [C5.out] at hc; skip)
  obtain ⟨X5, hX⟩ : ∃ X, X4 ++ FS = X := ⟨_, rfl⟩
  have hl5 : X5.length ≤ 50 := by rw [← hX, List.length_append, HFL.out]; first | omega | (rw [List.length_nil]; omega)
  rw [hX] at NN
  have NV5 := NN
  rw [← HFS.out] at hX
  have HX5 := Lib.hid hX
  clear hX NN OV R2 N2 HFS HFL hlen hl4
  refine (NAT.out li w5 (by omega)).mono ?_; rintro e wd ⟨v2, rfl, hN⟩
  obtain ⟨A2, c2, rfl, r2, n2⟩ := owns_pt hN.o
  have R2 := Lib.hid r2
  have N2 := Lib.hid n2
  have OV := Lib.hid (NV5.out.below hN.q)
  have hlen : (nb li).length ≤ 10 := nb_ten (by omega)
  obtain ⟨FS, hFS⟩ : ∃ FS, nb li = FS := ⟨_, rfl⟩
  rw [hFS] at R2 N2 hlen ⊢
  obtain ⟨fl, hfl⟩ : ∃ fl, FS.length = fl := ⟨_, rfl⟩
  rw [hfl] at R2 N2 hlen ⊢
  have HFS := Lib.hid hFS
  have HFL := Lib.hid hfl
  clear hN r2 n2 NV5 hFS hfl hc
  go_wp2_with (at_builtin; refine wpl_append rfl (.tmp 35) (.tmp 39) rfl (w.alloc (.cells s.cells 29)).heap.size v5 X5.length (X5.map (Value.int .u8)) rfl OV.out.o A2 fl c2 FS rfl R2.out N2.out (by first | omega | (rw [List.length_nil]; omega)) OV.out.q.size ?_; intro v6 w6 o2 g2; have NN := Lib.hid (grew OV.out (by rw [HFL.out]; exact o2) g2); clear o2 g2; skip)
  obtain ⟨X6, hX⟩ : ∃ X, X5 ++ FS = X := ⟨_, rfl⟩
  have hl6 : X6.length ≤ 60 := by rw [← hX, List.length_append, HFL.out]; first | omega | (rw [List.length_nil]; omega)
  rw [hX] at NN
  have NV6 := NN
  rw [← HFS.out] at hX
  have HX6 := Lib.hid hX
  clear hX NN OV R2 N2 HFS HFL hlen hl5
  go_loopw [3, 4] (fun x i wr => ∃ (j : Nat) (X7 : List Int), j ≤ 16 ∧ i = .int .i64 j ∧ X6 ++ shF (s.sh.take j) = X7 ∧ X7.length ≤ 60 + 10 * j ∧ New (w.alloc (.cells s.cells 29)) wr x X7) (fun _ i _ => 16 - (intOf i).toNat)
  case atStart => exact ⟨0, X6, Nat.zero_le _, rfl, by simp [shF], by omega, NV6.out⟩
  case round =>
    obtain ⟨j, X7, hj, rfl, hx7, hl7, hv⟩ := hrel
    have NV7 := Lib.hid hv
    have HX := Lib.hid hx7
    clear hv hx7 NV6 hl6
    by_cases hlt : j < 16
    case pos =>
      have hd : decide ((j : Int) < 16) = true := decide_eq_true (by omega)
      have C6j := C6.out j hlt
      have hjl : j < s.sh.length := by rw [HL.out]; exact hlt
      have hts : s.sh.take (j + 1) = s.sh.take j ++ [s.sh.getD j 0] := by
        rw [List.take_succ_eq_append_getElem hjl]
        simp [List.getD, hjl]
      have hxb := HSH.out (s.sh.getD j 0) (by
        rw [show s.sh.getD j 0 = s.sh[j] from by simp [List.getD, hjl]]
        exact List.getElem_mem _)
      have HT := Lib.hid (congrArg (fun l => X6 ++ shF l) hts)
      obtain ⟨x, hxe⟩ : ∃ x, s.sh.getD j 0 = x := ⟨_, rfl⟩
      rw [hxe] at C6j hxb HT
      have hc := (HB.out.below NV7.out.q).cell (6 + j)
      rw [C6j] at hc
      clear hts hxe hjl C6j
      go_wp2_with fail
      refine (INT.out x wr (by unfold I64; omega)).mono ?_; rintro e wd ⟨v2, rfl, hN⟩
      obtain ⟨A2, c2, rfl, r2, n2⟩ := owns_pt hN.o
      have R2 := Lib.hid r2
      have N2 := Lib.hid n2
      have OV := Lib.hid (NV7.out.below hN.q)
      have hlen : (ib x).length ≤ 10 := ib_len (by unfold I64; omega)
      obtain ⟨FS, hFS⟩ : ∃ FS, ib x = FS := ⟨_, rfl⟩
      rw [hFS] at R2 N2 hlen ⊢
      obtain ⟨fl, hfl⟩ : ∃ fl, FS.length = fl := ⟨_, rfl⟩
      rw [hfl] at R2 N2 hlen ⊢
      have HFS := Lib.hid hFS
      have HFL := Lib.hid hfl
      clear hN r2 n2 NV7 hFS hfl hc
      go_wp2_with (at_builtin; refine wpl_append rfl (.tmp 45) (.tmp 50) rfl (w.alloc (.cells s.cells 29)).heap.size u3 X7.length (X7.map (Value.int .u8)) rfl OV.out.o A2 fl c2 FS rfl R2.out N2.out (by first | omega | (rw [List.length_nil]; omega)) OV.out.q.size ?_; intro v8 w8 o2 g2; have NN := Lib.hid (grew OV.out (by rw [HFL.out]; exact o2) g2); clear o2 g2; skip)
      obtain ⟨X8, hX⟩ : ∃ X, X7 ++ FS = X := ⟨_, rfl⟩
      have hl8 : X8.length ≤ 60 + 10 * (j + 1) := by rw [← hX, List.length_append, HFL.out]; first | omega | (rw [List.length_nil]; omega)
      rw [hX] at NN
      have NV8 := NN
      rw [← HFS.out] at hX
      have HX8 := Lib.hid hX
      clear hX NN OV R2 N2 HFS HFL hlen hl7
      go_roundw
      case rel => exact ⟨j + 1, X8, hlt, by go_num, by rw [← HX8.out, ← HX.out]; have := HT.out; rw [this, shF_snoc, ← List.append_assoc], by omega, NV8.out⟩
      case measure => simp [intOf]; omega
    case neg =>
      obtain rfl : j = 16 := by omega
      have e : s.sh.take 16 = s.sh := List.take_of_length_le (by rw [HL.out]; exact Nat.le_refl _)
      rw [e] at HX
      obtain ⟨X10, hX10⟩ : ∃ X, X7 = X := ⟨_, rfl⟩
      rw [hX10] at HX NV7 hl7
      have NV10 := NV7
      have hl10 : X10.length ≤ 220 := by omega
      have HX10 := HX
      have hc := (HB.out.below NV10.out.q).cell 22
      rw [C22.out] at hc
      clear e hX10 NV7 HX hl7 hj hlt
      go_wp2_with fail
      refine (NAT.out cr wr (by omega)).mono ?_; rintro e wd ⟨v2, rfl, hN⟩
      obtain ⟨A2, c2, rfl, r2, n2⟩ := owns_pt hN.o
      have R2 := Lib.hid r2
      have N2 := Lib.hid n2
      have OV := Lib.hid (NV10.out.below hN.q)
      have hlen : (nb cr).length ≤ 10 := nb_ten (by omega)
      obtain ⟨FS, hFS⟩ : ∃ FS, nb cr = FS := ⟨_, rfl⟩
      rw [hFS] at R2 N2 hlen ⊢
      obtain ⟨fl, hfl⟩ : ∃ fl, FS.length = fl := ⟨_, rfl⟩
      rw [hfl] at R2 N2 hlen ⊢
      have HFS := Lib.hid hFS
      have HFL := Lib.hid hfl
      clear hN r2 n2 NV10 hFS hfl hc
      go_wp2_with (at_builtin; refine wpl_append rfl (.tmp 52) (.tmp 56) rfl (w.alloc (.cells s.cells 29)).heap.size u3 X10.length (X10.map (Value.int .u8)) rfl OV.out.o A2 fl c2 FS rfl R2.out N2.out (by first | omega | (rw [List.length_nil]; omega)) OV.out.q.size ?_; intro v11 w11 o2 g2; have NN := Lib.hid (grew OV.out (by rw [HFL.out]; exact o2) g2); clear o2 g2; have hc := (HB.out.below NN.out.q).cell 23; rw [C23.out] at hc; skip)
      obtain ⟨X11, hX⟩ : ∃ X, X10 ++ FS = X := ⟨_, rfl⟩
      have hl11 : X11.length ≤ 230 := by rw [← hX, List.length_append, HFL.out]; first | omega | (rw [List.length_nil]; omega)
      rw [hX] at NN
      have NV11 := NN
      rw [← HFS.out] at hX
      have HX11 := Lib.hid hX
      clear hX NN OV R2 N2 HFS HFL hlen hl10
      refine (NAT.out la w11 (by omega)).mono ?_; rintro e wd ⟨v2, rfl, hN⟩
      obtain ⟨A2, c2, rfl, r2, n2⟩ := owns_pt hN.o
      have R2 := Lib.hid r2
      have N2 := Lib.hid n2
      have OV := Lib.hid (NV11.out.below hN.q)
      have hlen : (nb la).length ≤ 10 := nb_ten (by omega)
      obtain ⟨FS, hFS⟩ : ∃ FS, nb la = FS := ⟨_, rfl⟩
      rw [hFS] at R2 N2 hlen ⊢
      obtain ⟨fl, hfl⟩ : ∃ fl, FS.length = fl := ⟨_, rfl⟩
      rw [hfl] at R2 N2 hlen ⊢
      have HFS := Lib.hid hFS
      have HFL := Lib.hid hfl
      clear hN r2 n2 NV11 hFS hfl hc
      go_wp2_with (at_builtin; refine wpl_append rfl (.tmp 58) (.tmp 62) rfl (w.alloc (.cells s.cells 29)).heap.size v11 X11.length (X11.map (Value.int .u8)) rfl OV.out.o A2 fl c2 FS rfl R2.out N2.out (by first | omega | (rw [List.length_nil]; omega)) OV.out.q.size ?_; intro v12 w12 o2 g2; have NN := Lib.hid (grew OV.out (by rw [HFL.out]; exact o2) g2); clear o2 g2; have hc := (HB.out.below NN.out.q).cell 24; rw [C24.out] at hc; skip)
      obtain ⟨X12, hX⟩ : ∃ X, X11 ++ FS = X := ⟨_, rfl⟩
      have hl12 : X12.length ≤ 240 := by rw [← hX, List.length_append, HFL.out]; first | omega | (rw [List.length_nil]; omega)
      rw [hX] at NN
      have NV12 := NN
      rw [← HFS.out] at hX
      have HX12 := Lib.hid hX
      clear hX NN OV R2 N2 HFS HFL hlen hl11
      refine (NAT.out fi w12 (by omega)).mono ?_; rintro e wd ⟨v2, rfl, hN⟩
      obtain ⟨A2, c2, rfl, r2, n2⟩ := owns_pt hN.o
      have R2 := Lib.hid r2
      have N2 := Lib.hid n2
      have OV := Lib.hid (NV12.out.below hN.q)
      have hlen : (nb fi).length ≤ 10 := nb_ten (by omega)
      obtain ⟨FS, hFS⟩ : ∃ FS, nb fi = FS := ⟨_, rfl⟩
      rw [hFS] at R2 N2 hlen ⊢
      obtain ⟨fl, hfl⟩ : ∃ fl, FS.length = fl := ⟨_, rfl⟩
      rw [hfl] at R2 N2 hlen ⊢
      have HFS := Lib.hid hFS
      have HFL := Lib.hid hfl
      clear hN r2 n2 NV12 hFS hfl hc
      go_wp2_with (at_builtin; refine wpl_append rfl (.tmp 64) (.tmp 68) rfl (w.alloc (.cells s.cells 29)).heap.size v12 X12.length (X12.map (Value.int .u8)) rfl OV.out.o A2 fl c2 FS rfl R2.out N2.out (by first | omega | (rw [List.length_nil]; omega)) OV.out.q.size ?_; intro v13 w13 o2 g2; have NN := Lib.hid (grew OV.out (by rw [HFL.out]; exact o2) g2); clear o2 g2; skip)
      obtain ⟨X13, hX⟩ : ∃ X, X12 ++ FS = X := ⟨_, rfl⟩
      have hl13 : X13.length ≤ 250 := by rw [← hX, List.length_append, HFL.out]; first | omega | (rw [List.length_nil]; omega)
      rw [hX] at NN
      have NV13 := NN
      rw [← HFS.out] at hX
      have HX13 := Lib.hid hX
      clear hX NN OV R2 N2 HFS HFL hlen hl12
      go_ret
      have HE : form s = X13 := by
        rw [FM.out, ← HX13.out, ← HX12.out, ← HX11.out, ← HX10.out, ← HX6.out, ← HX5.out, ← HX4.out, ← HX3.out, ← HX2.out, ← HX1.out]
        simp only [List.append_assoc, List.nil_append]
      rw [HE]
      exact ⟨_, rfl, own_less NV13.out.o B.out.size, B.out.trans (NV13.out.q.mono B.out.size)⟩
end Go.Proofs.YtbmlpokkojhhjaaGreat
/- Contracts of the document's plain form of a text, and of the statements' own helpers: a list lent with a mark behind it, and whether it was kept. -/
namespace Go.Proofs.YtbmlpokkojhhjaaGreat
open Go.RowKit



























































/-- A list in new memory, and a mark behind it. -/
def Marked (w : World) (n : Nat) (bs : List Int) (v : Value) (W : World) : Prop :=
  ∃ g cap, v = .slice (some ⟨g, 0, none⟩) n cap ∧ W.ownsRow w.heap.size 5 1 (.slice (some ⟨g, 0, none⟩) (n + 1) cap) (n + 1) ((bs ++ [77]).map (Value.int .u8)) ∧ Below w.heap.size w W
def LentE (w : World) (n : Nat) (bs : List Int) (e : Ending) (W : World) : Prop := ∃ v, e = .returned v ∧ Marked w n bs v W



































end Go.Proofs.YtbmlpokkojhhjaaGreat
