/- The walk of the statement CalendarOrder, given the program's calendar. -/
import Derived.Test.YtejhnfkljfdejaaKl
namespace Go.Proofs.Ytejhnfkljfdejaa
open Go.RowKit Go.Shelf

set_option maxRecDepth 100000 in
set_option maxHeartbeats 8000000 in
theorem order_in {Pc : PcT} {zc : Array Value} (K : CalK Pc zc) (A0 : Option Addr) (n c0 : Nat) (os : List Sp) (A1 : Option Addr) (m c1 : Nat) (ts : List Int) (A2 : Option Addr) (q c2 : Nat) (bs : List Bool) (w : World)
    (hr0 : RdS w A0 n os) (hk0 : ∀ x, x ∈ os → x.ok) (hr1 : RdU w A1 m ts) (hk1 : ∀ x, x ∈ ts → 0 ≤ x ∧ x ≤ 4294967295) (hr2 : RdT w A2 q bs) (hn : n ≤ 16) (hm : m ≤ 300) (hq : q ≤ 300) :
    Calls Try.prog 6 #[.slice A0 n c0, .slice A1 m c1, .slice A2 q c2] w fun e w' => e = .returned (.bool true) ∧ Below w.heap.size w w' := by
  have KN := Lib.hid (fun W => known5_any K W)
  have KH := Lib.hid K
  have R0 := Lib.hid hr0
  have R1 := Lib.hid hr1
  have R2 := Lib.hid hr2
  have O0 := Lib.hid hk0
  have O1 := Lib.hid hk1
  have ZC := zero_ct
  have d0 : decide (16 < (n : Int)) = false := decide_eq_false (by omega)
  have d1 : decide (300 < (m : Int)) = false := decide_eq_false (by omega)
  have d2 : decide (300 < (q : Int)) = false := decide_eq_false (by omega)
  clear K hr0 hr1 hr2 hk0 hk1
  go_enter Try.func6, Try.ntmps6
  go_wp2_with fail
  refine (KH.out.new _).mono ?_; rintro e w1 ⟨g, F, rfl, hp, b1, hF⟩
  have CA : Hid (Ca Pc w w1 g 0 []) := Lib.hid ⟨F, hp, b1, hF⟩
  clear hp b1 hF
  go_wp2_with fail
  go_loopw [43] (fun i wr => ∃ (k : Nat) (cs : List Ct), k ≤ n ∧ i = .int .i64 k ∧ Ca Pc w wr g 0 cs ∧ Up cs) (fun i _ => n - (intOf i).toNat)
  case atStart => exact ⟨0, [], Nat.zero_le _, rfl, CA.out, List.Pairwise.nil⟩
  case round =>
    obtain ⟨k, cs, hk, rfl, hc, hu⟩ := hrel
    have HU := Lib.hid hu
    by_cases hlt : k < n
    case pos =>
      obtain ⟨b, o, rfl, hb, hrg⟩ := R0.out.2 (by omega)
      have hlen := R0.out.1
      obtain ⟨x, hx⟩ : ∃ x, os[k]? = some x := ⟨os[k]'(by omega), List.getElem?_eq_getElem _⟩
      have OKX := Lib.hid (O0.out x (List.mem_of_getElem? hx))
      obtain ⟨F, hp, bl, hF⟩ := hc
      have RG : Hid (wr.rangeAt b (o + k * 25) x.cellL) := Lib.hid fun j v hj => by
        have := hrg k x hx j v hj
        unfold World.cell? at this ⊢
        rw [bl.block b hb]
        exact this
      have HB := Lib.hid bl
      have HFF := Lib.hid hF
      have LS := Lib.hid (KH.out.list hp OKX.out)
      have hkl : (k : Int) < (n : Int) := by omega
      clear hp bl hF hrg hx hu
      go_wp2_with (first | ((with_reducible refine wl_load_spm b (o + k * 25) OKX.out.len RG.out ?_ ?_); rfl))
      refine LS.out.mono ?_; rintro e w2 ⟨rfl, a⟩
      have CB := Lib.hid (ca_aft HB.out HFF.out a)
      clear a
      go_wp2_with fail
      go_roundw
      case rel => exact ⟨k + 1, _, hlt, by go_num, CB.out, HU.out.list _ _⟩
      case measure => simp [intOf]; omega
    case neg =>
      obtain rfl : k = n := by omega
      have CB := Lib.hid hc
      clear hc hu CA
      go_wp2_with fail
      have CBO : Oi cs [] := ⟨HU.out, (fun z hz => by cases hz), (fun z hz => by cases hz)⟩
      clear HU R0 O0
      go_loopw [9, 55] (fun v i wr => ∃ (j : Nat) (cs gs : List Ct) (d : Int), j ≤ m ∧ i = .int .i64 j ∧ Od Pc w [] wr g d cs v gs ∧ Oi cs gs ∧ 0 ≤ d ∧ d ≤ j ∧ gs.length ≤ j) (fun _ i _ => m - (intOf i).toNat)
      case atStart => exact ⟨0, cs, [], 0, Nat.zero_le _, rfl, Od.start CB.out, CBO, Int.le_refl _, Int.le_refl _, Nat.le_refl _⟩
      case round =>
        clear CB CBO cs
        obtain ⟨j, cs, gs, d, hj, rfl, ho, hi, hd0, hd1, hg⟩ := hrel
        by_cases hlt : j < m
        case pos =>
          obtain ⟨tb, tof, rfl, htb, htr⟩ := R1.out.2 (by omega)
          have hlen := R1.out.1
          obtain ⟨nu, hx⟩ : ∃ x, ts[j]? = some x := ⟨ts[j]'(by omega), List.getElem?_eq_getElem _⟩
          have NU := Lib.hid (O1.out nu (List.mem_of_getElem? hx))
          have TC : Hid (∀ W, Below w.heap.size w W → W.cell? ⟨tb, tof + j, none⟩ = some (.int .u32 nu)) := Lib.hid fun W b => by
            have := htr j nu hx 0 _ rfl
            unfold World.cell? at this ⊢
            rw [b.block tb htb]
            simpa using this
          have t1 := TC.out _ ho.bl
          have hnx : nextA d = 0 := if_neg (by omega)
          have hnd : nextD d = d + 1 := if_neg (by omega)
          have hjm : (j : Int) < (m : Int) := by omega
          obtain ⟨Ag, cg, rfl⟩ := ho.form
          have OI := Lib.hid hi
          have OO := Lib.hid (ho.oks KH.out)
          have XL : Hid ((getC cs nu).sp.sh.length = 16) := Lib.hid (by
            unfold getC
            cases h : placeC cs nu with
            | none => rfl
            | some k =>
              obtain ⟨x, hx, _⟩ := placeC_at h
              simp only [hx]
              exact (OO.out.1 x (List.mem_of_getElem? hx)).sp.len)
          obtain ⟨x, hxe⟩ : ∃ x, getC cs nu = x := ⟨_, rfl⟩
          rw [hxe] at XL
          have GT := Lib.hid (ho.c_get KH.out NU.out)
          rw [hxe] at GT
          clear ho hi htr hx
          by_cases hf : dueA d cs nu = 0
          · obtain ⟨hga, hmem, hah, hoi⟩ := OI.out.exp d nu hf
            rw [hxe] at hmem hah hoi
            have XOK := Lib.hid (OO.out.1 x hmem)
            have AH := Lib.hid hah
            have OE := Lib.hid hoi
            rw [hga] at GT
            clear hah hoi hmem
            go_wp2_with fail
            refine GT.out.mono ?_; rintro e w2 ⟨rfl, h2⟩
            have LW2 : Hid (w.heap.size ≤ w2.heap.size) := Lib.hid h2.bl.size
            have HB := Lib.hid (cb_new w2 (x := zeroCt) rfl)
            have BX := h2.new KH.out (below_row' (g := w2.heap.size) (cs := x.cells) ((Below.refl _ w2).alloc (Nat.le_refl _) (.cells zeroCt.cells 45)) (Nat.le_refl _)) (cb_set HB.out XL.out).1 (Nat.le_refl _)
            obtain ⟨W3, hW3⟩ : ∃ W, (w2.alloc (.cells zeroCt.cells 45)).setRow w2.heap.size x.cells = W := ⟨_, rfl⟩
            rw [hW3] at BX
            have HW3 := Lib.hid hW3
            have t3 := TC.out _ BX.bl
            have EX := Lib.hid (BX.c_exp KH.out NU.out)
            clear hW3 GT t1
            rw [hf] at EX
            clear h2 BX
            go_wp2_with ((with_reducible refine wl_store_ct x w2.heap.size HB.out XL.out ?_ ?_ ?_); rfl; rfl; rw [HW3.out])
            refine EX.out.mono ?_; rintro e w4 ⟨rfl, h4⟩
            have bh := h4.at' (p := (w2.heap.size, _)) (List.mem_singleton.2 rfl)
            have c25 : w4.cell? ⟨w2.heap.size, 25, none⟩ = some (.int .u8 x.st) := by rw [cell_of_row _ _ _ _ _ _ bh]; simpa [Ct.cells] using Ct.c25 XL.out
            have f25 : w4.frozen? ⟨w2.heap.size, 25, none⟩ = false := by simp [World.frozen?, bh]
            have bs5 : (w4.setCell ⟨w2.heap.size, 25, none⟩ (.int .u8 3)).heap[w2.heap.size]? = some (.cells (Ct.mk x.sp 3 x.pr).cells 45 (0, 0)) := by
              rw [heap_setCell_same w4 w2.heap.size 25 _ _ (.int .u8 3) bh]
              rw [st_set XL.out]
            have H5 := Lib.hid (h4.put KH.out LW2.out bs5)
            have CX : Hid (Cb (w4.setCell ⟨w2.heap.size, 25, none⟩ (.int .u8 3)) w2.heap.size ⟨x.sp, 3, x.pr⟩) := Lib.hid ⟨bs5, XL.out⟩
            have ZS := zero_sp
            clear bh bs5 h4 EX HB
            by_cases hz : gs.length = 0
            · obtain rfl : gs = [] := List.eq_nil_of_length_eq_zero hz
              clear AH hz
              have HA := Lib.hid (H5.out.drop.below KH.out ((Below.refl _ _).alloc (Nat.le_refl _) (.cells (Ct.mk x.sp 3 x.pr).cells 45)))
              have RD := Lib.hid (rd_one (w4.setCell ⟨w2.heap.size, 25, none⟩ (.int .u8 3)) ⟨x.sp, 3, x.pr⟩)
              obtain ⟨FA, hA⟩ := HA.out
              have OWN := Lib.hid hA.own
              have hsz := hA.bl.size
              clear hA
              go_wp2_with (first
                | ((with_reducible refine wl_load_ct w2.heap.size CX.out ?_ ?_ ?_); rfl; rfl)
                | ((with_reducible refine wl_bs_ct ⟨x.sp, 3, x.pr⟩ XL.out ?_ ?_); rfl)
                | (at_builtin; refine wpl_app1 rfl (.tmp 115) (.tmp 117) rfl w.heap.size (.slice Ag 0 cg) 0 [] rfl OWN.out ⟨(w4.setCell ⟨w2.heap.size, 25, none⟩ (.int .u8 3)).heap.size, 0, none⟩ ⟨x.sp, 3, x.pr⟩ rfl RD.out XL.out (by omega) hsz ?_; intro v' w6 ho6 hg6 hat6; have OA := Lib.hid (HA.out.push KH.out (x := ⟨x.sp, 3, x.pr⟩) (ct_gone XOK.out) ho6 hg6 hat6); have tq6 := TC.out _ OA.out.bl; clear ho6 hg6 hat6))
              have PB := Lib.hid (OA.out.c_pub KH.out NU.out (p := 10) ⟨by omega, by omega⟩)
              refine PB.out.mono ?_; rintro e wP ⟨rfl, hP⟩
              have tP := TC.out _ hP.bl
              have HT := Lib.hid (hP.c_halt KH.out NU.out (on := true))
              clear hP PB
              go_wp2_with fail
              refine HT.out.mono ?_; rintro e wH ⟨rfl, hH⟩
              have tH := TC.out _ hH.bl
              have HF := Lib.hid (hH.c_halt KH.out NU.out (on := false))
              clear hH HT tP
              go_wp2_with fail
              refine HF.out.mono ?_; rintro e wG ⟨rfl, hG⟩
              clear HF tH
              have OF := Lib.hid (((OE.out.pub nu 10).halt nu true).halt nu false)
              by_cases hq3 : j < q
              · obtain ⟨db, dq, rfl, hdb, hdr⟩ := R2.out.2 (by omega)
                have hlq := R2.out.1
                obtain ⟨bb, hbx⟩ : ∃ x, bs[j]? = some x := ⟨bs[j]'(by omega), List.getElem?_eq_getElem _⟩
                have dc : wG.cell? ⟨db, dq + j, none⟩ = some (.bool bb) := by
                  have := hdr j bb hbx 0 _ rfl
                  have hb2 := hG.bl.block db hdb
                  unfold World.cell? at this ⊢
                  rw [hb2]
                  simpa using this
                have hjq : (j : Int) < (q : Int) := by omega
                have GG := Lib.hid hG
                clear hdr hbx hG
                cases bb
                · go_wp2_with fail
                  go_roundw
                  case rel => exact ⟨j + 1, _, _, d, hlt, by go_num, GG.out, OF.out, hd0, by omega, by first | omega | (simp; omega) | simp⟩
                  case measure => simp [intOf]; omega
                · have NX := Lib.hid (GG.out.c_next KH.out)
                  rw [hnx] at NX
                  go_wp2_with fail
                  refine NX.out.mono ?_; rintro e wN ⟨rfl, hN⟩
                  have GN := Lib.hid hN
                  clear hN NX GG dc
                  go_wp2_with fail
                  go_roundw
                  case rel => exact ⟨j + 1, _, _, d + 1, hlt, by go_num, by have := GN.out; rw [hnd] at this; exact this, OF.out, by omega, by omega, by first | omega | (simp; omega) | simp⟩
                  case measure => simp [intOf]; omega
              · have hjq : decide ((j : Int) < (q : Int)) = false := decide_eq_false (by omega)
                have GG := Lib.hid hG
                clear hG
                go_wp2_with fail
                go_roundw
                case rel => exact ⟨j + 1, _, _, d, hlt, by go_num, GG.out, OF.out, hd0, by omega, by first | omega | (simp; omega) | simp⟩
                case measure => simp [intOf]; omega
            · obtain ⟨L, hL⟩ : ∃ L, gs.length = L + 1 := ⟨gs.length - 1, by omega⟩
              clear hz
              obtain ⟨z, hz⟩ : ∃ z, gs[L]? = some z := ⟨gs[L]'(by omega), List.getElem?_eq_getElem _⟩
              have hzl : gs.getLast? = some z := by rw [List.getLast?_eq_getElem?, hL]; exact hz
              have AZ := AH.out z hzl
              have ZOK := Lib.hid (OO.out.2 z (List.mem_of_getElem? hz))
              obtain ⟨bg, cgg, eg, hrg⟩ := H5.out.rng hz
              injection eg with e1 e2 e3
              subst e1
              rw [hL] at H5 ⊢
              have RGZ := Lib.hid (rng_sp hrg)
              clear hrg e2 e3 AH hzl hz cgg
              have s5 : (w4.setCell ⟨w2.heap.size, 25, none⟩ (.int .u8 3)).heap.size = w4.heap.size := by simp
              have HBY : Hid (Box ((w4.setCell ⟨w2.heap.size, 25, none⟩ (.int .u8 3)).alloc (.cells zeroSp.cells 33)) w4.heap.size zeroSp) := Lib.hid (by rw [← s5]; exact ⟨heap_alloc_new _ _, rfl⟩)
              have HBZ := box_set HBY.out (s := z.sp) ZOK.out.sp.len
              have H6 := H5.out.below KH.out (below_row' (g := w4.heap.size) (cs := z.sp.cells) ((Below.refl _ (w4.setCell ⟨w2.heap.size, 25, none⟩ (.int .u8 3))).alloc (Nat.le_refl _) (.cells zeroSp.cells 33)) (Nat.le_of_eq s5))
              obtain ⟨W6, hW6⟩ : ∃ W, ((w4.setCell ⟨w2.heap.size, 25, none⟩ (.int .u8 3)).alloc (.cells zeroSp.cells 33)).setRow w4.heap.size z.sp.cells = W := ⟨_, rfl⟩
              rw [hW6] at HBZ H6
              have HW6 := Lib.hid hW6
              have y23 : W6.cell? ⟨w4.heap.size, 23, none⟩ = some (.int .u32 z.sp.la) := by rw [HBZ.cell]; exact Sp.c23 ZOK.out.sp.len
              have y0 : W6.cell? ⟨w4.heap.size, 0, none⟩ = some (.int .u32 z.sp.nu) := by rw [HBZ.cell]; exact Sp.c0 _
              have bx6 := H6.at' (p := (w2.heap.size, _)) (List.mem_singleton.2 rfl)
              have x23 : W6.cell? ⟨w2.heap.size, 23, none⟩ = some (.int .u32 x.sp.la) := by
                rw [cell_of_row _ _ _ _ _ _ bx6]
                have h := Ct.spc (c := ⟨x.sp, 3, x.pr⟩) XL.out (i := 23) (by decide)
                rw [Sp.c23 XL.out] at h
                simpa [Ct.cells] using h
              have x0 : W6.cell? ⟨w2.heap.size, 0, none⟩ = some (.int .u32 x.sp.nu) := by
                rw [cell_of_row _ _ _ _ _ _ bx6]
                have h := Ct.spc (c := ⟨x.sp, 3, x.pr⟩) XL.out (i := 0) (by decide)
                rw [Sp.c0] at h
                simpa [Ct.cells] using h
              have CX6 : Hid (Cb W6 w2.heap.size ⟨x.sp, 3, x.pr⟩) := Lib.hid ⟨bx6, XL.out⟩
              have HA := Lib.hid (H6.drop.below KH.out ((Below.refl _ _).alloc (Nat.le_refl _) (.cells (Ct.mk x.sp 3 x.pr).cells 45)))
              have RD := Lib.hid (rd_one W6 ⟨x.sp, 3, x.pr⟩)
              obtain ⟨FA, hA⟩ := HA.out
              have OWN := hA.own
              rw [hL] at OWN
              have OWN := Lib.hid OWN
              have hsz := hA.bl.size
              clear hA H6 bx6 hW6 HBZ s5 CX H5
              rcases AZ with hla | ⟨hla, hnu⟩
              · have q1 : decide (x.sp.la < z.sp.la) = false := decide_eq_false (by omega)
                have q2 : decide (z.sp.la = x.sp.la) = false := decide_eq_false (by omega)
                have q3 : (z.sp.la == x.sp.la) = false := by simp; omega
                clear hla
                go_wp2_with (first
                  | ((with_reducible refine wl_load_ct w2.heap.size CX6.out ?_ ?_ ?_); rfl; rfl)
                  | ((with_reducible refine wl_load_spm bg (L * 27) ZOK.out.sp.len RGZ.out ?_ ?_); rfl)
                  | ((with_reducible refine wl_store_sp z.sp w4.heap.size HBY.out ZOK.out.sp.len ?_ ?_ ?_); rfl; rfl; rw [HW6.out])
                  | ((with_reducible refine wl_bs_ct ⟨x.sp, 3, x.pr⟩ XL.out ?_ ?_); rfl)
                  | (at_builtin; refine wpl_app1 rfl (.tmp 115) (.tmp 117) rfl w.heap.size (.slice (some ⟨bg, 0, none⟩) (L + 1) cg) (L + 1) gs rfl OWN.out ⟨W6.heap.size, 0, none⟩ ⟨x.sp, 3, x.pr⟩ rfl RD.out XL.out (by omega) hsz ?_; intro v' w6 ho6 hg6 hat6; have OA := Lib.hid (HA.out.push KH.out (x := ⟨x.sp, 3, x.pr⟩) (ct_gone XOK.out) (by rw [hL]; exact ho6) hg6 hat6); have tq6 := TC.out _ OA.out.bl; clear ho6 hg6 hat6))
                have PB := Lib.hid (OA.out.c_pub KH.out NU.out (p := 10) ⟨by omega, by omega⟩)
                refine PB.out.mono ?_; rintro e wP ⟨rfl, hP⟩
                have tP := TC.out _ hP.bl
                have HT := Lib.hid (hP.c_halt KH.out NU.out (on := true))
                clear hP PB
                go_wp2_with fail
                refine HT.out.mono ?_; rintro e wH ⟨rfl, hH⟩
                have tH := TC.out _ hH.bl
                have HF := Lib.hid (hH.c_halt KH.out NU.out (on := false))
                clear hH HT tP
                go_wp2_with fail
                refine HF.out.mono ?_; rintro e wG ⟨rfl, hG⟩
                clear HF tH
                have OF := Lib.hid (((OE.out.pub nu 10).halt nu true).halt nu false)
                by_cases hq3 : j < q
                · obtain ⟨db, dq, rfl, hdb, hdr⟩ := R2.out.2 (by omega)
                  have hlq := R2.out.1
                  obtain ⟨bb, hbx⟩ : ∃ x, bs[j]? = some x := ⟨bs[j]'(by omega), List.getElem?_eq_getElem _⟩
                  have dc : wG.cell? ⟨db, dq + j, none⟩ = some (.bool bb) := by
                    have := hdr j bb hbx 0 _ rfl
                    have hb2 := hG.bl.block db hdb
                    unfold World.cell? at this ⊢
                    rw [hb2]
                    simpa using this
                  have hjq : (j : Int) < (q : Int) := by omega
                  have GG := Lib.hid hG
                  clear hdr hbx hG
                  cases bb
                  · go_wp2_with fail
                    go_roundw
                    case rel => exact ⟨j + 1, _, _, d, hlt, by go_num, GG.out, OF.out, hd0, by omega, by first | omega | (simp; omega) | simp⟩
                    case measure => simp [intOf]; omega
                  · have NX := Lib.hid (GG.out.c_next KH.out)
                    rw [hnx] at NX
                    go_wp2_with fail
                    refine NX.out.mono ?_; rintro e wN ⟨rfl, hN⟩
                    have GN := Lib.hid hN
                    clear hN NX GG dc
                    go_wp2_with fail
                    go_roundw
                    case rel => exact ⟨j + 1, _, _, d + 1, hlt, by go_num, by have := GN.out; rw [hnd] at this; exact this, OF.out, by omega, by omega, by first | omega | (simp; omega) | simp⟩
                    case measure => simp [intOf]; omega
                · have hjq : decide ((j : Int) < (q : Int)) = false := decide_eq_false (by omega)
                  have GG := Lib.hid hG
                  clear hG
                  go_wp2_with fail
                  go_roundw
                  case rel => exact ⟨j + 1, _, _, d, hlt, by go_num, GG.out, OF.out, hd0, by omega, by first | omega | (simp; omega) | simp⟩
                  case measure => simp [intOf]; omega
              · rw [hla] at y23
                have q1 : decide (x.sp.nu ≤ z.sp.nu) = false := decide_eq_false (by omega)
                clear hla hnu
                go_wp2_with (first
                  | ((with_reducible refine wl_load_ct w2.heap.size CX6.out ?_ ?_ ?_); rfl; rfl)
                  | ((with_reducible refine wl_load_spm bg (L * 27) ZOK.out.sp.len RGZ.out ?_ ?_); rfl)
                  | ((with_reducible refine wl_store_sp z.sp w4.heap.size HBY.out ZOK.out.sp.len ?_ ?_ ?_); rfl; rfl; rw [HW6.out])
                  | ((with_reducible refine wl_bs_ct ⟨x.sp, 3, x.pr⟩ XL.out ?_ ?_); rfl)
                  | (at_builtin; refine wpl_app1 rfl (.tmp 115) (.tmp 117) rfl w.heap.size (.slice (some ⟨bg, 0, none⟩) (L + 1) cg) (L + 1) gs rfl OWN.out ⟨W6.heap.size, 0, none⟩ ⟨x.sp, 3, x.pr⟩ rfl RD.out XL.out (by omega) hsz ?_; intro v' w6 ho6 hg6 hat6; have OA := Lib.hid (HA.out.push KH.out (x := ⟨x.sp, 3, x.pr⟩) (ct_gone XOK.out) (by rw [hL]; exact ho6) hg6 hat6); have tq6 := TC.out _ OA.out.bl; clear ho6 hg6 hat6))
                have PB := Lib.hid (OA.out.c_pub KH.out NU.out (p := 10) ⟨by omega, by omega⟩)
                refine PB.out.mono ?_; rintro e wP ⟨rfl, hP⟩
                have tP := TC.out _ hP.bl
                have HT := Lib.hid (hP.c_halt KH.out NU.out (on := true))
                clear hP PB
                go_wp2_with fail
                refine HT.out.mono ?_; rintro e wH ⟨rfl, hH⟩
                have tH := TC.out _ hH.bl
                have HF := Lib.hid (hH.c_halt KH.out NU.out (on := false))
                clear hH HT tP
                go_wp2_with fail
                refine HF.out.mono ?_; rintro e wG ⟨rfl, hG⟩
                clear HF tH
                have OF := Lib.hid (((OE.out.pub nu 10).halt nu true).halt nu false)
                by_cases hq3 : j < q
                · obtain ⟨db, dq, rfl, hdb, hdr⟩ := R2.out.2 (by omega)
                  have hlq := R2.out.1
                  obtain ⟨bb, hbx⟩ : ∃ x, bs[j]? = some x := ⟨bs[j]'(by omega), List.getElem?_eq_getElem _⟩
                  have dc : wG.cell? ⟨db, dq + j, none⟩ = some (.bool bb) := by
                    have := hdr j bb hbx 0 _ rfl
                    have hb2 := hG.bl.block db hdb
                    unfold World.cell? at this ⊢
                    rw [hb2]
                    simpa using this
                  have hjq : (j : Int) < (q : Int) := by omega
                  have GG := Lib.hid hG
                  clear hdr hbx hG
                  cases bb
                  · go_wp2_with fail
                    go_roundw
                    case rel => exact ⟨j + 1, _, _, d, hlt, by go_num, GG.out, OF.out, hd0, by omega, by first | omega | (simp; omega) | simp⟩
                    case measure => simp [intOf]; omega
                  · have NX := Lib.hid (GG.out.c_next KH.out)
                    rw [hnx] at NX
                    go_wp2_with fail
                    refine NX.out.mono ?_; rintro e wN ⟨rfl, hN⟩
                    have GN := Lib.hid hN
                    clear hN NX GG dc
                    go_wp2_with fail
                    go_roundw
                    case rel => exact ⟨j + 1, _, _, d + 1, hlt, by go_num, by have := GN.out; rw [hnd] at this; exact this, OF.out, by omega, by omega, by first | omega | (simp; omega) | simp⟩
                    case measure => simp [intOf]; omega
                · have hjq : decide ((j : Int) < (q : Int)) = false := decide_eq_false (by omega)
                  have GG := Lib.hid hG
                  clear hG
                  go_wp2_with fail
                  go_roundw
                  case rel => exact ⟨j + 1, _, _, d, hlt, by go_num, GG.out, OF.out, hd0, by omega, by first | omega | (simp; omega) | simp⟩
                  case measure => simp [intOf]; omega
          · have hfe := Oi.noexp hf
            rcases get_one cs nu with hga | hga
            · obtain ⟨f, hfv⟩ : ∃ f, dueA d cs nu = f := ⟨_, rfl⟩
              rw [hfv] at hf
              have hf0 : (f == 0) = false := by simpa using hf
              have hf1 : decide (f = 0) = false := decide_eq_false hf
              rw [hga] at GT
              go_wp2_with fail
              refine GT.out.mono ?_; rintro e w2 ⟨rfl, h2⟩
              have LW2 : Hid (w.heap.size ≤ w2.heap.size) := Lib.hid h2.bl.size
              have HB := Lib.hid (cb_new w2 (x := zeroCt) rfl)
              have BX := h2.new KH.out (below_row' (g := w2.heap.size) (cs := x.cells) ((Below.refl _ w2).alloc (Nat.le_refl _) (.cells zeroCt.cells 45)) (Nat.le_refl _)) (cb_set HB.out XL.out).1 (Nat.le_refl _)
              obtain ⟨W3, hW3⟩ : ∃ W, (w2.alloc (.cells zeroCt.cells 45)).setRow w2.heap.size x.cells = W := ⟨_, rfl⟩
              rw [hW3] at BX
              have HW3 := Lib.hid hW3
              have t3 := TC.out _ BX.bl
              have EX := Lib.hid (BX.c_exp KH.out NU.out)
              clear hW3 GT t1
              rw [hfv, hfe] at EX
              clear h2 BX
              go_wp2_with ((with_reducible refine wl_store_ct x w2.heap.size HB.out XL.out ?_ ?_ ?_); rfl; rfl; rw [HW3.out])
              refine EX.out.mono ?_; rintro e w4 ⟨rfl, h4⟩
              have H4 := Lib.hid h4.drop
              clear h4 EX HB
              have tq := TC.out _ H4.out.bl
              have PB := Lib.hid (H4.out.c_pub KH.out NU.out (p := 10) ⟨by omega, by omega⟩)
              go_wp2_with fail
              refine PB.out.mono ?_; rintro e wP ⟨rfl, hP⟩
              have tP := TC.out _ hP.bl
              have HT := Lib.hid (hP.c_halt KH.out NU.out (on := true))
              clear hP PB
              go_wp2_with fail
              refine HT.out.mono ?_; rintro e wH ⟨rfl, hH⟩
              have tH := TC.out _ hH.bl
              have HF := Lib.hid (hH.c_halt KH.out NU.out (on := false))
              clear hH HT tP
              go_wp2_with fail
              refine HF.out.mono ?_; rintro e wG ⟨rfl, hG⟩
              clear HF tH
              have OF := Lib.hid (((OI.out.pub nu 10).halt nu true).halt nu false)
              by_cases hq3 : j < q
              · obtain ⟨db, dq, rfl, hdb, hdr⟩ := R2.out.2 (by omega)
                have hlq := R2.out.1
                obtain ⟨bb, hbx⟩ : ∃ x, bs[j]? = some x := ⟨bs[j]'(by omega), List.getElem?_eq_getElem _⟩
                have dc : wG.cell? ⟨db, dq + j, none⟩ = some (.bool bb) := by
                  have := hdr j bb hbx 0 _ rfl
                  have hb2 := hG.bl.block db hdb
                  unfold World.cell? at this ⊢
                  rw [hb2]
                  simpa using this
                have hjq : (j : Int) < (q : Int) := by omega
                have GG := Lib.hid hG
                clear hdr hbx hG
                cases bb
                · go_wp2_with fail
                  go_roundw
                  case rel => exact ⟨j + 1, _, _, d, hlt, by go_num, GG.out, OF.out, hd0, by omega, by first | omega | (simp; omega) | simp⟩
                  case measure => simp [intOf]; omega
                · have NX := Lib.hid (GG.out.c_next KH.out)
                  rw [hnx] at NX
                  go_wp2_with fail
                  refine NX.out.mono ?_; rintro e wN ⟨rfl, hN⟩
                  have GN := Lib.hid hN
                  clear hN NX GG dc
                  go_wp2_with fail
                  go_roundw
                  case rel => exact ⟨j + 1, _, _, d + 1, hlt, by go_num, by have := GN.out; rw [hnd] at this; exact this, OF.out, by omega, by omega, by first | omega | (simp; omega) | simp⟩
                  case measure => simp [intOf]; omega
              · have hjq : decide ((j : Int) < (q : Int)) = false := decide_eq_false (by omega)
                have GG := Lib.hid hG
                clear hG
                go_wp2_with fail
                go_roundw
                case rel => exact ⟨j + 1, _, _, d, hlt, by go_num, GG.out, OF.out, hd0, by omega, by first | omega | (simp; omega) | simp⟩
                case measure => simp [intOf]; omega
            · have hfe2 := due_get (d := d) (by rw [hga]; decide : getA cs nu ≠ 0)
              rw [hga] at hfe2
              rw [hga] at GT
              go_wp2_with fail
              refine GT.out.mono ?_; rintro e w2 ⟨rfl, h2⟩
              have LW2 : Hid (w.heap.size ≤ w2.heap.size) := Lib.hid h2.bl.size
              have HB := Lib.hid (cb_new w2 (x := zeroCt) rfl)
              have BX := h2.new KH.out (below_row' (g := w2.heap.size) (cs := x.cells) ((Below.refl _ w2).alloc (Nat.le_refl _) (.cells zeroCt.cells 45)) (Nat.le_refl _)) (cb_set HB.out XL.out).1 (Nat.le_refl _)
              obtain ⟨W3, hW3⟩ : ∃ W, (w2.alloc (.cells zeroCt.cells 45)).setRow w2.heap.size x.cells = W := ⟨_, rfl⟩
              rw [hW3] at BX
              have HW3 := Lib.hid hW3
              have t3 := TC.out _ BX.bl
              have EX := Lib.hid (BX.c_exp KH.out NU.out)
              clear hW3 GT t1
              rw [hfe2, hfe] at EX
              clear h2 BX
              go_wp2_with ((with_reducible refine wl_store_ct x w2.heap.size HB.out XL.out ?_ ?_ ?_); rfl; rfl; rw [HW3.out])
              refine EX.out.mono ?_; rintro e w4 ⟨rfl, h4⟩
              have H4 := Lib.hid h4.drop
              clear h4 EX HB
              have tq := TC.out _ H4.out.bl
              have PB := Lib.hid (H4.out.c_pub KH.out NU.out (p := 10) ⟨by omega, by omega⟩)
              go_wp2_with fail
              refine PB.out.mono ?_; rintro e wP ⟨rfl, hP⟩
              have tP := TC.out _ hP.bl
              have HT := Lib.hid (hP.c_halt KH.out NU.out (on := true))
              clear hP PB
              go_wp2_with fail
              refine HT.out.mono ?_; rintro e wH ⟨rfl, hH⟩
              have tH := TC.out _ hH.bl
              have HF := Lib.hid (hH.c_halt KH.out NU.out (on := false))
              clear hH HT tP
              go_wp2_with fail
              refine HF.out.mono ?_; rintro e wG ⟨rfl, hG⟩
              clear HF tH
              have OF := Lib.hid (((OI.out.pub nu 10).halt nu true).halt nu false)
              by_cases hq3 : j < q
              · obtain ⟨db, dq, rfl, hdb, hdr⟩ := R2.out.2 (by omega)
                have hlq := R2.out.1
                obtain ⟨bb, hbx⟩ : ∃ x, bs[j]? = some x := ⟨bs[j]'(by omega), List.getElem?_eq_getElem _⟩
                have dc : wG.cell? ⟨db, dq + j, none⟩ = some (.bool bb) := by
                  have := hdr j bb hbx 0 _ rfl
                  have hb2 := hG.bl.block db hdb
                  unfold World.cell? at this ⊢
                  rw [hb2]
                  simpa using this
                have hjq : (j : Int) < (q : Int) := by omega
                have GG := Lib.hid hG
                clear hdr hbx hG
                cases bb
                · go_wp2_with fail
                  go_roundw
                  case rel => exact ⟨j + 1, _, _, d, hlt, by go_num, GG.out, OF.out, hd0, by omega, by first | omega | (simp; omega) | simp⟩
                  case measure => simp [intOf]; omega
                · have NX := Lib.hid (GG.out.c_next KH.out)
                  rw [hnx] at NX
                  go_wp2_with fail
                  refine NX.out.mono ?_; rintro e wN ⟨rfl, hN⟩
                  have GN := Lib.hid hN
                  clear hN NX GG dc
                  go_wp2_with fail
                  go_roundw
                  case rel => exact ⟨j + 1, _, _, d + 1, hlt, by go_num, by have := GN.out; rw [hnd] at this; exact this, OF.out, by omega, by omega, by first | omega | (simp; omega) | simp⟩
                  case measure => simp [intOf]; omega
              · have hjq : decide ((j : Int) < (q : Int)) = false := decide_eq_false (by omega)
                have GG := Lib.hid hG
                clear hG
                go_wp2_with fail
                go_roundw
                case rel => exact ⟨j + 1, _, _, d, hlt, by go_num, GG.out, OF.out, hd0, by omega, by first | omega | (simp; omega) | simp⟩
                case measure => simp [intOf]; omega
        case neg =>
          obtain rfl : j = m := by omega
          obtain ⟨Ag, cg, rfl⟩ := ho.form
          obtain ⟨L, hL⟩ : ∃ L, gs.length = L := ⟨_, rfl⟩
          rw [hL] at ho ⊢
          have OD := Lib.hid ho
          have OI := Lib.hid hi
          have OO := Lib.hid (ho.oks KH.out)
          clear ho hi
          go_wp2_with fail
          go_loopw [155] (fun i wr => ∃ p : Nat, p ≤ L ∧ i = .int .i64 p ∧ Od Pc w [] wr g d cs (.slice Ag L cg) gs) (fun i _ => L - (intOf i).toNat)
          case atStart => exact ⟨0, Nat.zero_le _, rfl, OD.out⟩
          case round =>
            clear OD
            obtain ⟨p, hp, rfl, ho⟩ := hrel
            by_cases hlt : p < L
            case pos =>
              obtain ⟨x, hz⟩ : ∃ z, gs[p]? = some z := ⟨gs[p]'(by omega), List.getElem?_eq_getElem _⟩
              have ZM := List.mem_of_getElem? hz
              have XOK := Lib.hid (OO.out.2 x ZM)
              have XL := Lib.hid XOK.out.sp.len
              obtain ⟨bg, cgg, eg, hrg⟩ := ho.rng hz
              injection eg with e1 e2 e3
              subst e1
              have hgt := OI.out.get ZM
              have zn : wr.cell? ⟨bg, p * 27, none⟩ = some (.int .u32 x.sp.nu) := by simpa [Ct.cellL, Sp.cellL] using hrg 0 _ rfl
              have hpl : (p : Int) < (L : Int) := by omega
              have GT := Lib.hid (ho.c_get KH.out XOK.out.sp.nu)
              rw [hgt.1, hgt.2] at GT
              clear e2 e3 hgt hrg ho
              go_wp2_with fail
              refine GT.out.mono ?_; rintro e w2 ⟨rfl, h2⟩
              have HB := Lib.hid (cb_new w2 (x := zeroCt) rfl)
              have CB3 := cb_set HB.out XL.out
              have BX := h2.new KH.out (below_row' (g := w2.heap.size) (cs := x.cells) ((Below.refl _ w2).alloc (Nat.le_refl _) (.cells zeroCt.cells 45)) (Nat.le_refl _)) CB3.1 (Nat.le_refl _)
              obtain ⟨W3, hW3⟩ : ∃ W, (w2.alloc (.cells zeroCt.cells 45)).setRow w2.heap.size x.cells = W := ⟨_, rfl⟩
              rw [hW3] at BX CB3
              have HW3 := Lib.hid hW3
              have CB3 := Lib.hid CB3
              have RG3 : Hid (W3.rangeAt bg (p * 27) x.cellL) := Lib.hid (by
                obtain ⟨b2, c3, e4, r4⟩ := BX.rng hz
                injection e4 with e5
                injection e5 with e6
                injection e6 with e7
                subst e7
                exact r4)
              have H3 := Lib.hid BX.drop
              clear BX h2 hW3 GT zn
              go_wp2_with ((with_reducible refine wl_store_ct x w2.heap.size HB.out XL.out ?_ ?_ ?_); rfl; rfl; rw [HW3.out])
              refine wp_region_held_drew (S := fun U => U = W3.drew) (by kernel_rfl) rfl (fun hH => ?_)
              refine wpAnyH_take (i := 0) (v := .int .i64 0) rfl (by kernel_rfl) (by kernel_rfl) (by kernel_rfl) (fun t _ _ h => by first | exact h | (cases t <;> exact h)) (.inl ⟨by rfl, ?_⟩) (by assumption) ?_
              · intro W hW; subst hW; go_simp
              try simp only [List.getElem_toArray, List.getElem_cons_zero, Act.put, List.setIfInBounds_toArray, List.set_cons_zero, List.set_cons_succ]
              refine wpAnyH_take (i := 1) (v := .bool false) rfl (by kernel_rfl) (by kernel_rfl) (by kernel_rfl) (fun t _ _ h => by first | exact h | (cases t <;> exact h)) (.inl ⟨by rfl, ?_⟩) (by assumption) ?_
              · intro W hW; subst hW; go_simp
              try simp only [List.getElem_toArray, List.getElem_cons_zero, List.getElem_cons_succ, Act.put, List.setIfInBounds_toArray, List.set_cons_zero, List.set_cons_succ]
              refine wpAnyH_take (i := 2) (v := .bool false) rfl (by kernel_rfl) (by kernel_rfl) (by kernel_rfl) (fun t _ _ h => by first | exact h | (cases t <;> exact h)) (.inl ⟨by rfl, ?_⟩) (by assumption) ?_
              · intro W hW; subst hW; go_simp
              try simp only [List.getElem_toArray, List.getElem_cons_zero, List.getElem_cons_succ, Act.put, List.setIfInBounds_toArray, List.set_cons_zero, List.set_cons_succ]
              refine wpAnyH_take (i := 3) (v := .agg x.cells) rfl (by kernel_rfl) (by kernel_rfl) (by kernel_rfl) (fun t _ _ h => by first | exact h | (cases t <;> exact h)) (yields_load_ct (by rfl) (.tmp 16) rfl w2.heap.size rfl (fun U hU => by subst hU; exact CB3.out)) (by assumption) ?_
              try simp only [List.getElem_toArray, List.getElem_cons_zero, List.getElem_cons_succ, Act.put, List.setIfInBounds_toArray, List.set_cons_zero, List.set_cons_succ]
              refine wpAnyH_take (i := 4) (v := .slice (some ⟨bg, 0, none⟩) L cg) rfl (by kernel_rfl) (by kernel_rfl) (by kernel_rfl) (fun t _ _ h => by first | exact h | (cases t <;> exact h)) (.inl ⟨by rfl, ?_⟩) (by assumption) ?_
              · intro W hW; subst hW; go_simp
              try simp only [List.getElem_toArray, List.getElem_cons_zero, List.getElem_cons_succ, Act.put, List.setIfInBounds_toArray, List.set_cons_zero, List.set_cons_succ]
              refine wpAnyH_take (i := 5) (v := .int .i64 (p : Int)) rfl (by kernel_rfl) (by kernel_rfl) (by kernel_rfl) (fun t _ _ h => by first | exact h | (cases t <;> exact h)) (.inl ⟨by rfl, ?_⟩) (by assumption) ?_
              · intro W hW; subst hW; go_simp
              try simp only [List.getElem_toArray, List.getElem_cons_zero, List.getElem_cons_succ, Act.put, List.setIfInBounds_toArray, List.set_cons_zero, List.set_cons_succ]
              refine wpAnyH_take (i := 6) (v := .pointer (some ⟨bg, p * 27, none⟩)) rfl (by kernel_rfl) (by kernel_rfl) (by kernel_rfl) (fun t _ _ h => by first | exact h | (cases t <;> exact h)) (.inl ⟨by rfl, ?_⟩) (by assumption) ?_
              · intro W hW; subst hW; go_simp
              try simp only [List.getElem_toArray, List.getElem_cons_zero, List.getElem_cons_succ, Act.put, List.setIfInBounds_toArray, List.set_cons_zero, List.set_cons_succ]
              refine wpAnyH_take (i := 7) (v := .agg x.cells) rfl (by kernel_rfl) (by kernel_rfl) (by kernel_rfl) (fun t _ _ h => by first | exact h | (cases t <;> exact h)) (yields_load_ctm (by rfl) (.tmp 175) rfl bg (p * 27) rfl XL.out (fun U hU => by subst hU; exact RG3.out)) (by assumption) ?_
              try simp only [List.getElem_toArray, List.getElem_cons_zero, List.getElem_cons_succ, Act.put, List.setIfInBounds_toArray, List.set_cons_zero, List.set_cons_succ]
              refine wpAnyH_take (i := 8) (v := .bool false) rfl (by kernel_rfl) (by kernel_rfl) (by kernel_rfl) (fun t _ _ h => by first | exact h | (cases t <;> exact h)) (yields_neq_self (by rfl) (.tmp 172) (.tmp 176) rfl XOK.out rfl rfl) (by assumption) ?_
              try simp only [List.getElem_toArray, List.getElem_cons_zero, List.getElem_cons_succ, Act.put, List.setIfInBounds_toArray, List.set_cons_zero, List.set_cons_succ]
              refine wpAnyH_take (i := 9) (v := .bool false) rfl (by kernel_rfl) (by kernel_rfl) (by kernel_rfl) (fun t _ _ h => by first | exact h | (cases t <;> exact h)) (.inl ⟨by rfl, ?_⟩) (by assumption) ?_
              · intro W hW; subst hW; go_simp
              try simp only [List.getElem_toArray, List.getElem_cons_zero, List.getElem_cons_succ, Act.put, List.setIfInBounds_toArray, List.set_cons_zero, List.set_cons_succ]
              refine wpAnyH_done (by decide +kernel) ?_ _
              have H4 := Lib.hid (H3.out.below KH.out (Below.refl _ W3).drew)
              clear H3
              go_wp2_with fail
              go_roundw
              case rel => exact ⟨p + 1, hlt, by go_num, H4.out⟩
              case measure => simp [intOf]; omega
            case neg =>
              obtain rfl : p = L := by omega
              have BL := Lib.hid ho.bl
              clear ho
              go_wp2_with fail
              refine (KN.out _).mono ?_; rintro e w4 ⟨rfl, q4⟩
              have B4 := Lib.hid (BL.out.trans (q4.mono BL.out.size))
              clear q4
              go_wp2_with fail
              go_ret
              exact ⟨rfl, B4.out⟩
set_option maxRecDepth 100000 in
theorem order_out0 {Pc : PcT} {zc : Array Value} (K : CalK Pc zc) (A0 : Option Addr) (n c0 : Nat) (A1 : Option Addr) (m c1 : Nat) (A2 : Option Addr) (q c2 : Nat) (w : World) (h : 16 < n) :
    Calls Try.prog 6 #[.slice A0 n c0, .slice A1 m c1, .slice A2 q c2] w fun e w' => e = .returned (.bool true) ∧ Below w.heap.size w w' := by
  have KN := Lib.hid (fun W => known5_any K W)
  have NW := Lib.hid (K.new w)
  have d0 : decide (16 < (n : Int)) = true := decide_eq_true (by omega)
  clear K h
  go_enter Try.func6, Try.ntmps6
  go_wp2_with fail
  refine NW.out.mono ?_; rintro e w1 ⟨g, F, rfl, -, b1, -⟩
  have B1 := Lib.hid b1
  clear NW b1
  go_wp2_with fail
  refine (KN.out _).mono ?_; rintro e w4 ⟨rfl, q4⟩
  have B4 := Lib.hid (B1.out.trans (q4.mono B1.out.size))
  clear q4
  go_wp2_with fail
  go_ret
  exact ⟨rfl, B4.out⟩
set_option maxRecDepth 100000 in
theorem order_out1 {Pc : PcT} {zc : Array Value} (K : CalK Pc zc) (A0 : Option Addr) (n c0 : Nat) (A1 : Option Addr) (m c1 : Nat) (A2 : Option Addr) (q c2 : Nat) (w : World) (h : n ≤ 16 ∧ 300 < m) :
    Calls Try.prog 6 #[.slice A0 n c0, .slice A1 m c1, .slice A2 q c2] w fun e w' => e = .returned (.bool true) ∧ Below w.heap.size w w' := by
  have KN := Lib.hid (fun W => known5_any K W)
  have NW := Lib.hid (K.new w)
  have d0 : decide (16 < (n : Int)) = false := decide_eq_false (by omega)
  have d1 : decide (300 < (m : Int)) = true := decide_eq_true (by omega)
  clear K h
  go_enter Try.func6, Try.ntmps6
  go_wp2_with fail
  refine NW.out.mono ?_; rintro e w1 ⟨g, F, rfl, -, b1, -⟩
  have B1 := Lib.hid b1
  clear NW b1
  go_wp2_with fail
  refine (KN.out _).mono ?_; rintro e w4 ⟨rfl, q4⟩
  have B4 := Lib.hid (B1.out.trans (q4.mono B1.out.size))
  clear q4
  go_wp2_with fail
  go_ret
  exact ⟨rfl, B4.out⟩
set_option maxRecDepth 100000 in
theorem order_out2 {Pc : PcT} {zc : Array Value} (K : CalK Pc zc) (A0 : Option Addr) (n c0 : Nat) (A1 : Option Addr) (m c1 : Nat) (A2 : Option Addr) (q c2 : Nat) (w : World) (h : n ≤ 16 ∧ m ≤ 300 ∧ 300 < q) :
    Calls Try.prog 6 #[.slice A0 n c0, .slice A1 m c1, .slice A2 q c2] w fun e w' => e = .returned (.bool true) ∧ Below w.heap.size w w' := by
  have KN := Lib.hid (fun W => known5_any K W)
  have NW := Lib.hid (K.new w)
  have d0 : decide (16 < (n : Int)) = false := decide_eq_false (by omega)
  have d1 : decide (300 < (m : Int)) = false := decide_eq_false (by omega)
  have d2 : decide (300 < (q : Int)) = true := decide_eq_true (by omega)
  clear K h
  go_enter Try.func6, Try.ntmps6
  go_wp2_with fail
  refine NW.out.mono ?_; rintro e w1 ⟨g, F, rfl, -, b1, -⟩
  have B1 := Lib.hid b1
  clear NW b1
  go_wp2_with fail
  refine (KN.out _).mono ?_; rintro e w4 ⟨rfl, q4⟩
  have B4 := Lib.hid (B1.out.trans (q4.mono B1.out.size))
  clear q4
  go_wp2_with fail
  go_ret
  exact ⟨rfl, B4.out⟩
theorem order_all {Pc : PcT} {zc : Array Value} (K : CalK Pc zc) (A0 : Option Addr) (n c0 : Nat) (os : List Sp) (A1 : Option Addr) (m c1 : Nat) (ts : List Int) (A2 : Option Addr) (q c2 : Nat) (bs : List Bool) (w : World)
    (hr0 : RdS w A0 n os) (hk0 : ∀ x, x ∈ os → x.ok) (hr1 : RdU w A1 m ts) (hk1 : ∀ x, x ∈ ts → 0 ≤ x ∧ x ≤ 4294967295) (hr2 : RdT w A2 q bs) :
    Calls Try.prog 6 #[.slice A0 n c0, .slice A1 m c1, .slice A2 q c2] w fun e w' => e = .returned (.bool true) ∧ Below w.heap.size w w' := by
  by_cases h0 : n ≤ 16
  · by_cases h1 : m ≤ 300
    · by_cases h2 : q ≤ 300
      · exact order_in K A0 n c0 os A1 m c1 ts A2 q c2 bs w hr0 hk0 hr1 hk1 hr2 h0 h1 h2
      · exact order_out2 K A0 n c0 A1 m c1 A2 q c2 w ⟨h0, h1, by omega⟩
    · exact order_out1 K A0 n c0 A1 m c1 A2 q c2 w ⟨h0, by omega⟩
  · exact order_out0 K A0 n c0 A1 m c1 A2 q c2 w (by omega)
end Go.Proofs.Ytejhnfkljfdejaa
