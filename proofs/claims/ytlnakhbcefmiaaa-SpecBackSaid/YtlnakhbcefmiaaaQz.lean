/- The walk of the statement SpecBack, given the program's own calls. -/
import Derived.Test.YtlnakhbcefmiaaaQl
import Derived.Test.YtlnakhbcefmiaaaQb
namespace Go.Proofs.Ytlnakhbcefmiaaa
open Go.RowKit

theorem byte_new (w : World) (x : Int) : RdB (w.alloc (.cells #[.int .u8 x] 5)) (some ⟨w.heap.size, 0, none⟩) 1 [x] := ⟨rfl, fun _ => ⟨_, _, rfl, fun j hj => by
  obtain rfl : j = 0 := by omega
  simp⟩⟩
theorem own_snoc {W : World} {base fl : Nat} {v : Value} {FS : List Int} (hl : FS.length = fl) (o : W.ownsRow base 5 1 v (fl + 1) (FS.map (Value.int .u8) ++ [0].map (Value.int .u8))) :
    W.ownsRow base 5 1 v (FS ++ [0]).length ((FS ++ [0]).map (Value.int .u8)) := by
  rw [List.map_append, List.length_append, hl]
  exact o
set_option maxRecDepth 100000 in
theorem back_out (K : SpecK) (s : Sp) (A : Option Addr) (n c : Nat) (w : World) (hb : n ≤ 9223372036854775807) (hn : 1000 < n) : Calls Try.prog 5 #[.agg s.cells, .slice A n c] w fun e w' => e = .returned (.bool true) ∧ Below w.heap.size w w' := by
  have KN := Lib.hid (fun W => known_spec K W)
  have B := Lib.hid ((Below.refl w.heap.size w).alloc (Nat.le_refl _) (.cells s.cells 25))
  clear K
  go_enter Try.func5, Try.ntmps5
  go_wp2_with fail
  refine (KN.out _).mono ?_; rintro e w1 ⟨rfl, q⟩
  have B2 := Lib.hid (B.out.trans (q.mono B.out.size))
  clear q
  go_wp2_with fail
  go_ret
  exact ⟨rfl, B2.out⟩
set_option maxRecDepth 100000 in
set_option maxHeartbeats 8000000 in
theorem back_in (K : SpecK) (s : Sp) (A : Option Addr) (n c : Nat) (bs : List Int) (w : World) (ok : s.ok) (h : RdB w A n bs) (hy : By bs) (h0 : A = none → n = 0 ∧ c = 0) (hn : n ≤ 1000) : Calls Try.prog 5 #[.agg s.cells, .slice A n c] w fun e w' => e = .returned (.bool true) ∧ Below w.heap.size w w' := by
  have RF := Lib.hid (fun (A : Option Addr) (n c : Nat) (bs : List Int) (W : World) h1 h2 h3 h4 h5 => K.readF A n c bs W h1 h2 h3 h4 h5)
  have KN := Lib.hid (fun W => known_spec K W)
  have KB := Lib.hid K
  have OK := Lib.hid ok
  have HY := Lib.hid hy
  have H0 := Lib.hid h0
  have HLN := Lib.hid ok.len
  have HB := Lib.hid (box_new w ok.len)
  have B := Lib.hid ((Below.refl w.heap.size w).alloc (Nat.le_refl _) (.cells s.cells 25))
  have R := Lib.hid (h.below ((Below.refl w.heap.size w).alloc (Nat.le_refl _) (.cells s.cells 25)))
  have hbl := Lib.hid h.1
  have Z := zero_sp
  clear K ok hy h0 h
  cases hm : mayB s
  · skip
    have BF := Lib.hid (fun W => KB.out.bytesF s W OK.out hm)
    have K1 := Lib.hid (fun W => KB.out.may s W OK.out)
    rw [hm] at K1
    clear hm
    go_enter Try.func5, Try.ntmps5
    go_wp2_with ((with_reducible refine wl_load_sp w.heap.size HB.out ?_ ?_ ?_); rfl; rfl)
    refine (BF.out _).mono ?_; rintro e w1 ⟨A1, c1, rfl, q⟩
    have HB1 := Lib.hid (HB.out.below q)
    have B1 := Lib.hid (B.out.trans (q.mono B.out.size))
    have R1 := Lib.hid (R.out.below q)
    clear q HB B R
    go_wp2_with ((with_reducible refine wl_load_sp w.heap.size HB1.out ?_ ?_ ?_); rfl; rfl)
    refine (K1.out _).mono ?_; rintro e w2 ⟨rfl, q⟩
    have BQ := Lib.hid (B1.out.trans (q.mono B1.out.size))
    have RQ := Lib.hid (R1.out.below q)
    clear q HB1 B1 R1
    go_wp2_with fail
    by_cases nf : ∃ t : Sp, t.ok ∧ mayB t = true ∧ bs = form t
    · obtain ⟨t, tk, tm, te⟩ := nf
      have TK := Lib.hid tk
      have RT2 := Lib.hid (fun W h1 => KB.out.readT A n c bs t W h1 HY.out H0.out (by omega) TK.out tm te)
      have BT2 := Lib.hid (fun W => KB.out.bytesT t W TK.out tm)
      rw [← te] at BT2
      have HLT := Lib.hid TK.out.len
      clear tk tm te
      refine (RT2.out w2 RQ.out).mono ?_; rintro e wa ⟨rfl, q⟩
      have Ba := Lib.hid (BQ.out.trans (q.mono BQ.out.size))
      have Ra := Lib.hid (RQ.out.below q)
      have HZa := Lib.hid (box_new wa (s := zeroSp) rfl)
      have HSa := Lib.hid (box_set HZa.out (s := t) HLT.out)
      have ba := below_row' (g := wa.heap.size) (cs := t.cells) ((Below.refl wa.heap.size wa).alloc (Nat.le_refl _) (.cells zeroSp.cells 25)) (Nat.le_refl _)
      have Bb := Lib.hid (Ba.out.trans (ba.mono Ba.out.size))
      have Rb := Lib.hid (Ra.out.below ba)
      obtain ⟨wb, hwb⟩ : ∃ W, ((wa.alloc (.cells zeroSp.cells 25)).setRow wa.heap.size t.cells) = W := ⟨_, rfl⟩
      obtain ⟨gb, hgb⟩ : ∃ g, wa.heap.size = g := ⟨_, rfl⟩
      have HWb := Lib.hid hwb
      have HGb := Lib.hid hgb
      rw [hwb] at HSa Bb Rb
      rw [hgb] at HSa
      clear q ba hwb hgb Ba Ra
      go_wp2_with (first
        | ((with_reducible refine wl_store_sp t wa.heap.size HZa.out HLT.out ?_ ?_ ?_); rfl; rfl; rw [HWb.out, HGb.out])
        | ((with_reducible refine wl_load_sp gb HSa.out ?_ ?_ ?_); rfl; rfl))
      refine (BT2.out wb).mono ?_; rintro e wc ⟨vd, rfl, hN⟩
      obtain ⟨Ad, cd, rfl, rd⟩ := hN.rd
      have Rc := Lib.hid (Rb.out.below hN.q)
      have Bc := Lib.hid (Bb.out.trans (hN.q.mono Bb.out.size))
      have k1 := conv_any (c := cd) rd
      have k2 := conv_any (c := c) Rc.out
      clear hN rd
      go_wp2_with fail
      refine (KN.out _).mono ?_; rintro e wd ⟨rfl, q⟩
      have Bd := Lib.hid (Bc.out.trans (q.mono Bc.out.size))
      clear q
      go_wp2_with fail
      go_ret
      exact ⟨rfl, Bd.out⟩
    · have NF := Lib.hid (fun t tk tm te => nf ⟨t, tk, tm, te⟩)
      clear nf
      refine (RF.out A n c bs w2 RQ.out HY.out H0.out (by omega) NF.out).mono ?_; rintro e wa ⟨rfl, q⟩
      have Ba := Lib.hid (BQ.out.trans (q.mono BQ.out.size))
      have HZa := Lib.hid (box_new wa (s := zeroSp) rfl)
      have HSa := Lib.hid (box_set HZa.out (s := zeroSp) rfl)
      have Bb := Lib.hid (below_row' (g := wa.heap.size) (cs := zeroSp.cells) (Ba.out.alloc Ba.out.size (.cells zeroSp.cells 25)) Ba.out.size)
      obtain ⟨wb, hwb⟩ : ∃ W, ((wa.alloc (.cells zeroSp.cells 25)).setRow wa.heap.size zeroSp.cells) = W := ⟨_, rfl⟩
      obtain ⟨gb, hgb⟩ : ∃ g, wa.heap.size = g := ⟨_, rfl⟩
      have HWb := Lib.hid hwb
      have HGb := Lib.hid hgb
      rw [hwb] at HSa Bb
      rw [hgb] at HSa
      clear q hwb hgb Ba
      go_wp2_with (first
        | ((with_reducible refine wl_store_sp zeroSp wa.heap.size HZa.out rfl ?_ ?_ ?_); rfl; rfl; rw [HWb.out, HGb.out])
        | ((with_reducible refine wl_load_sp gb HSa.out ?_ ?_ ?_); rfl; rfl)
        | ((with_reducible refine wl_eql_sp zero_ok ?_ ?_ ?_ ?_); rfl; rfl; rfl))
      refine (KN.out _).mono ?_; rintro e wd ⟨rfl, q⟩
      have Bd := Lib.hid (Bb.out.trans (q.mono Bb.out.size))
      clear q
      go_wp2_with fail
      go_ret
      exact ⟨rfl, Bd.out⟩
  · skip
    have BT := Lib.hid (fun W => KB.out.bytesT s W OK.out hm)
    have K1 := Lib.hid (fun W => KB.out.may s W OK.out)
    have RT := Lib.hid (fun (A : Option Addr) (n c : Nat) (bs : List Int) (W : World) h1 h2 h3 h4 h5 => KB.out.readT A n c bs s W h1 h2 h3 h4 OK.out hm h5)
    have HNE := Lib.hid (fun t (tk : t.ok) (tm : mayB t = true) => form_more OK.out hm tk tm)
    have hflen := form_len OK.out
    have HFB := Lib.hid (form_by s)
    rw [hm] at K1
    obtain ⟨FS, hFS⟩ : ∃ FS, form s = FS := ⟨_, rfl⟩
    rw [hFS] at BT HNE hflen HFB
    have HFS := Lib.hid hFS.symm
    clear hm hFS
    go_enter Try.func5, Try.ntmps5
    go_wp2_with ((with_reducible refine wl_load_sp w.heap.size HB.out ?_ ?_ ?_); rfl; rfl)
    refine (BT.out _).mono ?_; rintro e w1 ⟨v, rfl, hN⟩
    obtain ⟨A1, c1, rfl, r1, n1⟩ := owns_pt hN.o
    have HB1 := Lib.hid (HB.out.below hN.q)
    have B1 := Lib.hid (B.out.trans (hN.q.mono B.out.size))
    have R1 := Lib.hid (R.out.below hN.q)
    obtain ⟨fl, hfl⟩ : ∃ fl, FS.length = fl := ⟨_, rfl⟩
    rw [hfl] at r1 n1 hflen ⊢
    have HFL := Lib.hid hfl
    have T1 := Lib.hid r1
    have N1 := Lib.hid n1
    clear hN r1 n1 HB B R BT hfl
    go_wp2_with ((with_reducible refine wl_load_sp w.heap.size HB1.out ?_ ?_ ?_); rfl; rfl)
    refine (K1.out _).mono ?_; rintro e w2 ⟨rfl, q⟩
    have HB2 := Lib.hid (HB1.out.below q)
    have B2 := Lib.hid (B1.out.trans (q.mono B1.out.size))
    have R2 := Lib.hid (R1.out.below q)
    have T2 := Lib.hid (T1.out.below q)
    clear q HB1 B1 R1 T1 K1
    go_wp2_with fail
    refine (RT.out A1 fl c1 FS w2 T2.out HFB.out N1.out (by omega) HFS.out).mono ?_; rintro e w3 ⟨rfl, q⟩
    have HB3 := Lib.hid (HB2.out.below q)
    have B3 := Lib.hid (B2.out.trans (q.mono B2.out.size))
    have R3 := Lib.hid (R2.out.below q)
    have T3 := Lib.hid (T2.out.below q)
    have HZ := Lib.hid (box_new w3 (s := zeroSp) rfl)
    have HS := Lib.hid (box_set HZ.out (s := s) HLN.out)
    have b4 := below_row' (g := w3.heap.size) (cs := s.cells) ((Below.refl w3.heap.size w3).alloc (Nat.le_refl _) (.cells zeroSp.cells 25)) (Nat.le_refl _)
    have HB4 := Lib.hid (HB3.out.below b4)
    have B4 := Lib.hid (B3.out.trans (b4.mono B3.out.size))
    have R4 := Lib.hid (R3.out.below b4)
    have T4 := Lib.hid (T3.out.below b4)
    obtain ⟨w4, hw4⟩ : ∃ W, ((w3.alloc (.cells zeroSp.cells 25)).setRow w3.heap.size s.cells) = W := ⟨_, rfl⟩
    obtain ⟨g7, hg7⟩ : ∃ g, w3.heap.size = g := ⟨_, rfl⟩
    have HW4 := Lib.hid hw4
    have HG7 := Lib.hid hg7
    rw [hw4] at HS HB4 B4 R4 T4
    rw [hg7] at HS
    clear q b4 hw4 hg7 HB2 B2 R2 T2 HB3 B3 R3 T3 RT
    have O0 := Lib.hid (own_none w4)
    have Q0 := Lib.hid ((Below.refl w4.heap.size w4).alloc (Nat.le_refl _) (.cells #[] 5))
    go_wp2_with (first
      | ((with_reducible refine wl_store_sp s w3.heap.size HZ.out HLN.out ?_ ?_ ?_); rfl; rfl; rw [HW4.out, HG7.out])
      | (at_builtin; refine wpl_append rfl (.tmp 37) (.tmp 38) rfl w4.heap.size (.slice (some ⟨w4.heap.size, 0, none⟩) 0 0) 0 [] rfl O0.out A1 fl c1 FS rfl (T4.out.below Q0.out) N1.out (by omega) (one_alloc _ _) ?_; intro v5 w5 o5 g5; have Q5 := Lib.hid (Q0.out.grown g5 (one_alloc _ _) (by intro k hk; simp [Value.ownBlock] at hk; omega)); rw [Nat.zero_add, List.nil_append] at o5; have O5 := Lib.hid o5; have D5 := Lib.hid (Q5.out.alloc Q5.out.size (.cells #[.int .u8 0] 5)); have P5 := Lib.hid (show RdB (w5.alloc (.cells #[.int .u8 0] 5)) (some ⟨w5.heap.size, 0, none⟩) 1 [0] from byte_new w5 0); clear o5 g5)
      | (at_builtin; refine wpl_append rfl (.tmp 39) (.tmp 40) rfl w4.heap.size v5 fl (FS.map (Value.int .u8)) rfl (O5.out.alloc _) (some ⟨w5.heap.size, 0, none⟩) 1 1 [0] rfl P5.out (fun h => by cases h) (by omega) D5.out.size ?_; intro v6 w6 o6 g6; have Q6 := Lib.hid (D5.out.grown g6 D5.out.size (fun k hk => (O5.out.lt k hk).1)); have O6 := Lib.hid (own_snoc HFL.out o6); obtain ⟨A6, c6, rfl, r6, n6⟩ := owns_pt O6.out; have HL6 : Hid ((FS ++ [0]).length = fl + 1) := Lib.hid (by rw [List.length_append, HFL.out]; rfl); rw [HL6.out] at r6 n6; have R6 := Lib.hid r6; have N6 := Lib.hid n6; clear o6 g6 r6 n6; rw [HL6.out]))
    have HFB6 := Lib.hid (show By (FS ++ [0]) from HFB.out.app (by intro x hx; simp at hx; omega))
    refine (RF.out A6 (fl + 1) c6 (FS ++ [0]) w6 R6.out HFB6.out N6.out (by omega) HNE.out).mono ?_; rintro e w7 ⟨rfl, q⟩
    have b7 := Q6.out.trans (q.mono Q6.out.size)
    have HB7 := Lib.hid (HB4.out.below b7)
    have HS7 := Lib.hid (HS.out.below b7)
    have B7 := Lib.hid (B4.out.trans (b7.mono B4.out.size))
    have R7 := Lib.hid (R4.out.below b7)
    have HZ7 := Lib.hid (box_new w7 (s := zeroSp) rfl)
    have b8 := below_row' (g := w7.heap.size) (cs := zeroSp.cells) ((Below.refl w7.heap.size w7).alloc (Nat.le_refl _) (.cells zeroSp.cells 25)) (Nat.le_refl _)
    have HB8 := Lib.hid (HB7.out.below b8)
    have HS8 := Lib.hid (HS7.out.below b8)
    have BQ := Lib.hid (B7.out.trans (b8.mono B7.out.size))
    have RQ := Lib.hid (R7.out.below b8)
    obtain ⟨w8, hw8⟩ : ∃ W, ((w7.alloc (.cells zeroSp.cells 25)).setRow w7.heap.size zeroSp.cells) = W := ⟨_, rfl⟩
    have HW8 := Lib.hid hw8
    rw [hw8] at HB8 HS8 BQ RQ
    clear q b7 b8 hw8 HB4 HS B4 R4 T4 HB7 HS7 B7 R7 Q6 O6 R6 N6 O5 D5 P5 Q5 O0 Q0
    go_wp2_with (first
      | ((with_reducible refine wl_store_sp zeroSp w7.heap.size HZ7.out rfl ?_ ?_ ?_); rfl; rfl; rw [HW8.out])
      | ((with_reducible refine wl_load_sp g7 HS8.out ?_ ?_ ?_); rfl; rfl)
      | ((with_reducible refine wl_load_sp w.heap.size HB8.out ?_ ?_ ?_); rfl; rfl)
      | ((with_reducible refine wl_neq_sp OK.out ?_ ?_ ?_ ?_); rfl; rfl; rfl))
    by_cases nf : ∃ t : Sp, t.ok ∧ mayB t = true ∧ bs = form t
    · obtain ⟨t, tk, tm, te⟩ := nf
      have TK := Lib.hid tk
      have RT2 := Lib.hid (fun W h1 => KB.out.readT A n c bs t W h1 HY.out H0.out (by omega) TK.out tm te)
      have BT2 := Lib.hid (fun W => KB.out.bytesT t W TK.out tm)
      rw [← te] at BT2
      have HLT := Lib.hid TK.out.len
      clear tk tm te
      refine (RT2.out w8 RQ.out).mono ?_; rintro e wa ⟨rfl, q⟩
      have Ba := Lib.hid (BQ.out.trans (q.mono BQ.out.size))
      have Ra := Lib.hid (RQ.out.below q)
      have HZa := Lib.hid (box_new wa (s := zeroSp) rfl)
      have HSa := Lib.hid (box_set HZa.out (s := t) HLT.out)
      have ba := below_row' (g := wa.heap.size) (cs := t.cells) ((Below.refl wa.heap.size wa).alloc (Nat.le_refl _) (.cells zeroSp.cells 25)) (Nat.le_refl _)
      have Bb := Lib.hid (Ba.out.trans (ba.mono Ba.out.size))
      have Rb := Lib.hid (Ra.out.below ba)
      obtain ⟨wb, hwb⟩ : ∃ W, ((wa.alloc (.cells zeroSp.cells 25)).setRow wa.heap.size t.cells) = W := ⟨_, rfl⟩
      obtain ⟨gb, hgb⟩ : ∃ g, wa.heap.size = g := ⟨_, rfl⟩
      have HWb := Lib.hid hwb
      have HGb := Lib.hid hgb
      rw [hwb] at HSa Bb Rb
      rw [hgb] at HSa
      clear q ba hwb hgb Ba Ra
      go_wp2_with (first
        | ((with_reducible refine wl_store_sp t wa.heap.size HZa.out HLT.out ?_ ?_ ?_); rfl; rfl; rw [HWb.out, HGb.out])
        | ((with_reducible refine wl_load_sp gb HSa.out ?_ ?_ ?_); rfl; rfl))
      refine (BT2.out wb).mono ?_; rintro e wc ⟨vd, rfl, hN⟩
      obtain ⟨Ad, cd, rfl, rd⟩ := hN.rd
      have Rc := Lib.hid (Rb.out.below hN.q)
      have Bc := Lib.hid (Bb.out.trans (hN.q.mono Bb.out.size))
      have k1 := conv_any (c := cd) rd
      have k2 := conv_any (c := c) Rc.out
      clear hN rd
      go_wp2_with fail
      refine (KN.out _).mono ?_; rintro e wd ⟨rfl, q⟩
      have Bd := Lib.hid (Bc.out.trans (q.mono Bc.out.size))
      clear q
      go_wp2_with fail
      go_ret
      exact ⟨rfl, Bd.out⟩
    · have NF := Lib.hid (fun t tk tm te => nf ⟨t, tk, tm, te⟩)
      clear nf
      refine (RF.out A n c bs w8 RQ.out HY.out H0.out (by omega) NF.out).mono ?_; rintro e wa ⟨rfl, q⟩
      have Ba := Lib.hid (BQ.out.trans (q.mono BQ.out.size))
      have HZa := Lib.hid (box_new wa (s := zeroSp) rfl)
      have HSa := Lib.hid (box_set HZa.out (s := zeroSp) rfl)
      have Bb := Lib.hid (below_row' (g := wa.heap.size) (cs := zeroSp.cells) (Ba.out.alloc Ba.out.size (.cells zeroSp.cells 25)) Ba.out.size)
      obtain ⟨wb, hwb⟩ : ∃ W, ((wa.alloc (.cells zeroSp.cells 25)).setRow wa.heap.size zeroSp.cells) = W := ⟨_, rfl⟩
      obtain ⟨gb, hgb⟩ : ∃ g, wa.heap.size = g := ⟨_, rfl⟩
      have HWb := Lib.hid hwb
      have HGb := Lib.hid hgb
      rw [hwb] at HSa Bb
      rw [hgb] at HSa
      clear q hwb hgb Ba
      go_wp2_with (first
        | ((with_reducible refine wl_store_sp zeroSp wa.heap.size HZa.out rfl ?_ ?_ ?_); rfl; rfl; rw [HWb.out, HGb.out])
        | ((with_reducible refine wl_load_sp gb HSa.out ?_ ?_ ?_); rfl; rfl)
        | ((with_reducible refine wl_eql_sp zero_ok ?_ ?_ ?_ ?_); rfl; rfl; rfl))
      refine (KN.out _).mono ?_; rintro e wd ⟨rfl, q⟩
      have Bd := Lib.hid (Bb.out.trans (q.mono Bb.out.size))
      clear q
      go_wp2_with fail
      go_ret
      exact ⟨rfl, Bd.out⟩
theorem back_walk (K : SpecK) (s : Sp) (A : Option Addr) (n c : Nat) (bs : List Int) (w : World) (ok : s.ok) (h : RdB w A n bs) (hy : By bs) (h0 : A = none → n = 0 ∧ c = 0) (hb : n ≤ 9223372036854775807) : Calls Try.prog 5 #[.agg s.cells, .slice A n c] w fun e w' => e = .returned (.bool true) ∧ Below w.heap.size w w' := by
  by_cases hn : n ≤ 1000
  · exact back_in K s A n c bs w ok h hy h0 hn
  · exact back_out K s A n c w hb (by omega)
end Go.Proofs.Ytlnakhbcefmiaaa
