/- Contracts of the document's ledger: Mark. -/
import Derived.Test.YthnmpnepgagmmaaOc
import Derived.Test.YthnmpnepgagmmaaMr
namespace Go.Proofs.Ythnmpnepgagmmaa
open Go.RowKit Go.Shelf
set_option linter.unusedVariables false
set_option linter.unusedSimpArgs false

theorem mar_len (p : Int) (cl : Bool) : ∀ (pre hl : List Po), (marH p cl pre hl).length ≤ hl.length + pre.length
  | [], hl => Nat.le_refl _
  | x :: pre, hl => by
    rw [mar_cons]
    have h1 := mar_len p cl pre (holdL hl (marP p cl x))
    have h2 := hold_len hl (marP p cl x)
    rw [List.length_cons]; omega
theorem take_po9 {l : List Po} {k : Nat} {x : Po} (h : l[k]? = some x) : l.take (k + 1) = l.take k ++ [x] := by rw [List.take_add_one, h]; rfl
set_option maxRecDepth 100000 in
set_option maxHeartbeats 16000000 in
theorem rmar9 {B g : Nat} {va vh : Value} {L : Lg} (c p : Int) (cl : Bool) (w : World) (h : Rl w B g va vh L) (hi : LgI L) (hlen : L.hl.length ≤ 2000) (hc : U32' c) :
    Calls Try.prog 18 #[.pointer (some ⟨g, 0, none⟩), .int .u32 c, .int .i64 p, .bool cl] w fun e w' => ∃ v, e = .returned (.tuple #[v, .int .i64 (marE c p)]) ∧ EV.Own 62 w' w.heap.size v (marX L c p) ∧ AfR w B g va vh (marL L c p cl) w' := by
  have hz := zero_po
  have HD := Lib.hid h
  have HI := Lib.hid hi
  have HLN := Lib.hid hlen
  have OP := Lib.hid (ramong p 1 10000000)
  rw [amg_one] at OP
  have NO : Hid (marE c p = 2 → marX L c p = [] ∧ marL L c p cl = L) := Lib.hid fun e => ⟨by unfold marX; rw [e]; rfl, by unfold marL; rw [e]; rfl⟩
  obtain ⟨t1, f1⟩ : ∃ t, (c == 0) = t := ⟨_, rfl⟩
  obtain ⟨t5, f5⟩ : ∃ t, oneB p 10000000 = t := ⟨_, rfl⟩
  rw [f5] at OP
  have HHo := Lib.hid (rholders9 c w h hc (by omega))
  clear h hi hlen hc
  go_enter Try.func18, Try.ntmps18
  cases t1
  rotate_left
  · have E : Hid (marE c p = 2) := Lib.hid (by unfold marE; rw [if_pos (.inl (beq_iff_eq.1 f1))])
    go_wp2_with fail
    go_ret2
    rw [(NO.out E.out).1, (NO.out E.out).2, E.out]
    exact ⟨_, rfl, gown_nil _ _, AfR.below HD.out (Below.refl _ _)⟩
  cases t5
  · have E : Hid (marE c p = 2) := Lib.hid (by unfold marE; rw [if_pos (.inr f5)])
    go_wp2_with fail
    refine (OP.out _).mono ?_; rintro e w2 ⟨rfl, rfl⟩
    go_wp2_with fail
    go_ret2
    rw [(NO.out E.out).1, (NO.out E.out).2, E.out]
    exact ⟨_, rfl, gown_nil _ _, AfR.below HD.out (Below.refl _ _)⟩
  have e0 : marE c p = 0 := by
    unfold marE
    rw [if_neg]
    rintro (h | h)
    · exact beq_eq_false_iff_ne.1 f1 h
    · rw [show oneB p mQ = true from f5] at h; cases h
  have E : Hid (marE c p = 0 ∧ marX L c p = (holdersH L.hl c).map (marV p) ∧ marL L c p cl = ⟨L.fund, L.al, marH p cl (holdersH L.hl c) L.hl⟩) := Lib.hid ⟨e0, by unfold marX; rw [if_pos e0], by unfold marL; rw [if_pos e0]⟩
  have hp : 1 ≤ p ∧ p ≤ 10000000 := by simpa [oneB] using f5
  have HP := Lib.hid hp
  have HML := Lib.hid (holders_len HI.out c)
  have HMem : Hid (∀ x, x ∈ holdersH L.hl c → x ∈ L.hl ∧ x.co = c) := Lib.hid fun x hx => by
    obtain ⟨h1, h2⟩ := List.mem_filter.1 hx
    exact ⟨h1, beq_iff_eq.1 h2⟩
  clear e0 f5 NO hp
  go_wp2_with fail
  refine (OP.out _).mono ?_; rintro e w1 ⟨rfl, rfl⟩
  go_wp2_with fail
  refine HHo.out.mono ?_; rintro e w2 ⟨v1, rfl, o1, q2⟩
  have B2 := Lib.hid q2
  have R2 := Lib.hid (HD.out.below q2)
  have GW : Hid (g < w.heap.size) := Lib.hid HD.out.gl
  change EP.Own 47 w2 w.heap.size v1 (holdersH L.hl c) at o1
  obtain ⟨hs, hhs⟩ : ∃ hs, holdersH L.hl c = hs := ⟨_, rfl⟩
  rw [hhs] at o1 E HML HMem
  obtain ⟨Ah, ch, rfl, _⟩ := gown_form o1
  obtain ⟨m, hm⟩ : ∃ m, hs.length = m := ⟨_, rfl⟩
  rw [hm] at o1 HML ⊢
  have OH := Lib.hid fun (U : World) (f : Fr (fun k => k = g) w2 U) => gown_fr o1 f (fun k hk e => by have := (gown_lt o1 hk).1; have := GW.out; omega)
  have HL := Lib.hid hm
  have VH : Hid (∀ j, vh.ownBlock = some j → j < w2.heap.size) := Lib.hid fun j hj => (gown_lt R2.out.oh hj).2
  have VA : Hid (∀ j, va.ownBlock = some j → j < w2.heap.size) := Lib.hid fun j hj => (gown_lt R2.out.oa hj).2
  clear q2 o1 hhs hm HHo OP f1
  go_wp2_with fail
  go_loopw [10, 12] (fun vo' vi wr => ∃ (k : Nat) (vo vh' : Value), k ≤ m ∧ vi = .int .i64 k ∧ vo = vo' ∧ EV.Own 62 wr w2.heap.size vo ((hs.take k).map (marV p)) ∧ Rl wr B g va vh' ⟨L.fund, L.al, marH p cl (hs.take k) L.hl⟩ ∧ Fr (fun k => k = g) w2 wr ∧ (∀ j, vh'.ownBlock = some j → vh.ownBlock = some j ∨ w2.heap.size ≤ j) ∧ (∀ j, vo.ownBlock = some j → vh'.ownBlock = some j → False)) (fun _ vi _ => m - (intOf vi).toNat)
  case atStart => exact ⟨0, _, vh, Nat.zero_le _, rfl, rfl, gown_nil _ _, R2.out, Fr.refl _ _, fun j hj => .inl hj, fun j h => by cases h⟩
  case round =>
    obtain ⟨k, vo, vh', hk, rfl, rfl, ho, hr, hf, hv, ha⟩ := hrel
    have OW := Lib.hid ho
    have RR := Lib.hid hr
    have FF := Lib.hid hf
    have HV := Lib.hid hv
    have AP := Lib.hid ha
    clear ho hr hf hv ha
    by_cases hlt : k < m
    case neg =>
      obtain rfl : k = m := by omega
      have et : hs.take k = hs := List.take_of_length_le (by rw [HL.out]; exact Nat.le_refl _)
      rw [et] at OW RR
      obtain ⟨Ao, no, co, rfl⟩ := gown_any OW.out
      clear et
      go_wp2_with fail
      go_ret2
      rw [E.out.1, E.out.2.1, E.out.2.2]
      refine ⟨_, rfl, gown_low OW.out B2.out.size, va, vh', RR.out, (Fr.below B2.out).same FF.out, fun j hj => ?_⟩
      rcases hj with rfl | hj | hj
      · exact .inl (.inl rfl)
      · exact .inl (.inr (.inl hj))
      · exact (HV.out j hj).imp (fun c => .inr (.inr c)) fun c => Nat.le_trans B2.out.size c
    case pos =>
      have hdk : decide ((k : Int) < m) = true := decide_eq_true (by omega)
      have hki : (k : Int) < (m : Int) := by omega
      obtain ⟨x, hx⟩ : ∃ x, hs[k]? = some x := ⟨hs[k]'(by have := HL.out; omega), List.getElem?_eq_getElem _⟩
      have HX := Lib.hid hx
      obtain ⟨hxm, hxc⟩ := HMem.out x (List.mem_of_getElem? hx)
      have pk := HI.out.pok x hxm
      have OHr := OH.out wr FF.out
      obtain ⟨bh, cc, eb⟩ := gown_slot OHr (by have := HL.out; omega)
      injection eb with eA en ec
      clear en
      subst eA ec
      have RG : Hid (wr.rangeAt bh (k * 4) (EP.cells x)) := Lib.hid (gown_rng OHr hx)
      have X1 := Lib.hid (gbx_new (E := EP) (te := 47) wr zeroPo)
      obtain ⟨W2, hW2⟩ : ∃ W2, (wr.alloc (.cells (EP.cells zeroPo).toArray 47)).setRow wr.heap.size (EP.cells x).toArray = W2 := ⟨_, rfl⟩
      have y2 : EP.Bx 47 W2 wr.heap.size x := by rw [← hW2]; exact gbx_set X1.out
      have b2 : Below wr.heap.size wr W2 := by rw [← hW2]; exact below_row0 (below_new _ _) (Nat.le_refl _)
      have k1 : W2.cell? ⟨wr.heap.size, 1, none⟩ = some (.int .u32 x.ac) := gbx_cell y2 1
      have k2 : W2.cell? ⟨wr.heap.size, 2, none⟩ = some (.int .i64 x.q) := gbx_cell y2 2
      have k3 : W2.cell? ⟨wr.heap.size, 3, none⟩ = some (.int .i64 x.b) := gbx_cell y2 3
      obtain ⟨W3, hW3⟩ : ∃ W3, W2.alloc (.cells (EV.cells (marV p x)).toArray 62) = W3 := ⟨_, rfl⟩
      have b3 : Below W2.heap.size W2 W3 := by rw [← hW3]; exact below_new _ _
      have Z3 : Hid (EV.Bx 62 W3 W2.heap.size (marV p x)) := Lib.hid (by rw [← hW3]; exact gbx_new _ _)
      have b13 := b2.trans (b3.mono b2.size)
      have Y3 := Lib.hid (gbx_below y2 b3)
      have O3 := Lib.hid (gown_below OW.out b13)
      have R3 := Lib.hid (RR.out.below b13)
      have B13 := Lib.hid b13
      have S3 : Hid (wr.heap.size < W3.heap.size ∧ w2.heap.size ≤ wr.heap.size) := Lib.hid ⟨Nat.lt_of_lt_of_le (Array.getElem?_eq_some_iff.1 y2).1 b3.size, FF.out.size⟩
      have HW2 := Lib.hid hW2
      have HW3 := Lib.hid hW3
      have LO : Hid (((hs.take k).map (marV p)).length + 1 ≤ 100000) := Lib.hid (by rw [List.length_map, List.length_take]; have := HML.out; omega)
      have mq := mul_q (q := x.q) (p := p) (by have := pk.2.1.1; exact this) HP.out
      obtain ⟨⟨_, _⟩, ⟨⟨_, _⟩, pb1, pb2⟩, _⟩ := pk
      simp only [mF] at pb1 pb2
      have VE : Hid (marV p x = ⟨x.ac, x.q * p - x.b⟩) := Lib.hid rfl
      have PE : Hid (marP p cl x = if cl then ⟨c, x.ac, 0, 0⟩ else ⟨c, x.ac, x.q, x.q * p⟩) := Lib.hid (by unfold marP; rw [hxc])
      have xe : x = ⟨c, x.ac, x.q, x.b⟩ := by
        obtain ⟨z1, z2, z3, z4⟩ := x
        dsimp only at hxc
        subst hxc
        rfl
      have XE := Lib.hid xe
      clear xe hxc hxm hx OHr y2 b2 b3 b13 hW2 hW3
      have ACE := Lib.hid (rfl : (x.ac, x.q, x.b) = (x.ac, x.q, x.b))
      obtain ⟨xa, hxa⟩ : ∃ z, x.ac = z := ⟨_, rfl⟩
      obtain ⟨xq, hxq⟩ : ∃ z, x.q = z := ⟨_, rfl⟩
      obtain ⟨xb, hxb⟩ : ∃ z, x.b = z := ⟨_, rfl⟩
      rw [hxa] at k1 VE PE XE
      rw [hxq] at k2 mq VE PE XE
      rw [hxb] at k3 pb1 pb2 VE XE
      clear hxa hxq hxb ACE
      obtain ⟨worth, hwo⟩ : ∃ z, xq * p = z := ⟨_, rfl⟩
      rw [hwo] at mq VE PE
      obtain ⟨mq1, mq2⟩ := mq
      have u1 : wrap64 worth = worth := by unfold wrap64; omega
      have u2 : wrap64 (worth - xb) = worth - xb := by unfold wrap64; omega
      have BF : Hid (∀ z : Value, z.cells.size = EV.N → Instr.fill (fun i => some (i * EV.N, EV.N)) ((Array.range (1 * EV.N)).map (z.cells[· % z.cells.size]!)) [(0, .agg (EV.cells (marV p x)).toArray)] = some (EV.cells (marV p x)).toArray) := Lib.hid (fill_va _)
      cases cl
      · have PE2 : Hid (marP p false x = ⟨c, xa, xq, worth⟩) := Lib.hid (by rw [PE.out]; rfl)
        have m64 : m ≤ 64 := HML.out
        clear PE
        go_wp2_with (first
          | ((with_reducible refine gwl_load TP bh (k * 4) RG.out ?_ ?_ ?_); rfl; rfl)
          | ((with_reducible refine gwl_store TP x wr.heap.size X1.out ?_ ?_ ?_); rfl; rfl; rw [HW2.out])
          | ((with_reducible refine gwl_bs TV (s := marV p x) ?_ BF.out ?_ (by decide)); (rw [VE.out]; rfl); rw [HW3.out])
          | (at_builtin; refine gpl_app TV rfl _ _ rfl w2.heap.size vo _ rfl O3.out _ 1 1 [marV p x] rfl (gbx_rd Z3.out) (fun e => by cases e) LO.out (by have := S3.out; omega) ?_; intro v5 w5 o5 g5 h5; have Y5 := Lib.hid (bx_grown9 Y3.out g5 (fun j hj => (gown_lt OW.out hj).2)); have y5 : w5.cell? ⟨wr.heap.size, 3, none⟩ = some (.int .i64 xb) := (gbx_cell Y5.out 3).trans (by rw [XE.out]; rfl); have f5 := gbx_fz Y5.out 3; obtain ⟨W6, hW6⟩ : ∃ W, w5.setCell ⟨wr.heap.size, 3, none⟩ (.int .i64 worth) = W := ⟨_, rfl⟩; have HW6 := Lib.hid hW6; have Y6 : Hid (EP.Bx 47 W6 wr.heap.size ⟨c, xa, xq, worth⟩) := Lib.hid (by rw [← hW6]; exact gbx_put (i := 3) Y5.out (by rw [XE.out]; rfl)); have RY6 := Lib.hid (gbx_rng Y6.out); have k6 : W6.cell? ⟨wr.heap.size, 1, none⟩ = some (.int .u32 xa) := gbx_cell Y6.out 1; obtain ⟨W7, hW7⟩ : ∃ W, W6.setRow wr.heap.size (EP.cells ⟨c, xa, 0, 0⟩).toArray = W := ⟨_, rfl⟩; have HW7 := Lib.hid hW7; have RY7 : Hid (W7.rangeAt wr.heap.size 0 (EP.cells ⟨c, xa, 0, 0⟩)) := Lib.hid (by rw [← hW7]; exact gbx_rng (gbx_set Y6.out)))
          | (rw [HW6.out])
          | ((with_reducible refine gwl_store TP ⟨c, xa, 0, 0⟩ wr.heap.size Y6.out ?_ ?_ ?_); rfl; rfl; rw [HW7.out])
          | ((with_reducible refine gwl_load TP wr.heap.size 0 RY7.out ?_ ?_ ?_); rfl; rfl)
          | ((with_reducible refine gwl_load TP wr.heap.size 0 RY6.out ?_ ?_ ?_); rfl; rfl))
        have OB : ∀ j, vo.ownBlock = some j → w2.heap.size ≤ j ∧ j < wr.heap.size := fun j hj => gown_lt OW.out hj
        have s3 := S3.out
        have F35 : Fr (fun k => vo.ownBlock = some k) W3 w5 := Fr.grown g5 (fun k e => e)
        have R5 : Rl w5 B g va vh' ⟨L.fund, L.al, marH p false (hs.take k) L.hl⟩ := R3.out.keep F35 (fun j hj e => by
          have := OB j e
          rcases hj with rfl | hj | hj
          · have := GW.out; have := B2.out.size; omega
          · have := VA.out j hj; omega
          · exact AP.out j e hj)
        have NB : ∀ j, RlS g va vh' j → j ≠ wr.heap.size := fun j hj e => by have := (RR.out.lt hj).2; omega
        have F56 : Fr (fun k => k = wr.heap.size) w5 W6 := by rw [← HW6.out]; exact Fr.set (S := fun k => k = wr.heap.size) rfl _
        have R6 := R5.keep F56 (fun j hj e => NB j hj e)
        have F67 : Fr (fun k => k = wr.heap.size) W6 W7 := by rw [← HW7.out]; exact fr_row (S := fun k => k = wr.heap.size) rfl _
        have R7 := R6.keep F67 (fun j hj e => NB j hj e)
        have V5 : ∀ j, v5.ownBlock = some j → w2.heap.size ≤ j ∧ j < w5.heap.size ∧ j ≠ wr.heap.size := fun j hj => by
          have h1 := gown_lt o5 hj
          refine ⟨h1.1, h1.2, fun e => ?_⟩
          rcases h5 with c5 | c5
          · rw [c5] at hj; have := (OB j hj).2; omega
          · rw [c5] at hj; cases hj; omega
        have o6 := gown_fr o5 F56 (fun j hj e => (V5 j hj).2.2 e)
        have o7 := gown_fr o6 F67 (fun j hj e => (V5 j hj).2.2 e)
        have FK : Fr (fun k => k = g) w2 W6 := by
          have h1 : Fr (fun k => k = g) w2 W3 := FF.out.trans (Fr.below B13.out : Fr (fun _ => False) wr W3) (fun _ h => h) (fun _ _ h => h.elim)
          have h2 : Fr (fun k => k = g) w2 w5 := h1.trans F35 (fun _ h => h) (fun j hj e => by have := (OB j e).1; omega)
          have h3 : Fr (fun k => k = g) w2 W6 := h2.trans F56 (fun _ h => h) (fun j hj e => by have := s3.2; omega)
          exact h3
        have PU := Lib.hid (rhold9 ⟨c, xa, xq, worth⟩ W6 R6 (by
          have h1 := mar_len p false (hs.take k) L.hl
          have h2 := HLN.out
          have h3 := HML.out
          have h4 := List.length_take_le k hs
          have h5 := HL.out
          show (marH p false (hs.take k) L.hl).length ≤ 5000
          omega))
        have ZS : Hid (w5.heap.size ≤ W6.heap.size) := Lib.hid (by have := F56.size; have := F67.size; omega)
        have OO := Lib.hid o6
        have FKK := Lib.hid FK
        have V5H := Lib.hid V5
        clear OB F35 R5 NB F56 R6 F67 R7 V5 o5 o6 o7 FK g5 h5
        refine PU.out.mono ?_; rintro e w8 ⟨rfl, v8, r8, f8, s8⟩
        have HO8 : Hid (EV.Own 62 w8 w2.heap.size v5 ((hs.take (k + 1)).map (marV p))) := Lib.hid (by
          rw [take_po9 HX.out, List.map_append]
          exact gown_fr OO.out f8 (fun j hj e => by have := (V5H.out j hj).1; have := GW.out; have := B2.out.size; omega))
        have HR8 : Hid (Rl w8 B g va v8 ⟨L.fund, L.al, marH p false (hs.take (k + 1)) L.hl⟩) := Lib.hid (by
          rw [take_po9 HX.out, mar_snoc, PE2.out]
          exact r8)
        have HF8 := Lib.hid (FKK.out.same f8)
        have HV8 : Hid (∀ j, v8.ownBlock = some j → vh.ownBlock = some j ∨ w2.heap.size ≤ j) := Lib.hid fun j hj => .inr (by have := s8 j hj; have := FKK.out.size; omega)
        have HA8 : Hid (∀ j, v5.ownBlock = some j → v8.ownBlock = some j → False) := Lib.hid fun j h1 h2 => by have := s8 j h2; have := (V5H.out j h1).2.1; have := ZS.out; omega
        clear r8 f8 s8 PU
        go_wp2_with fail
        go_roundw
        case rel => exact ⟨k + 1, v5, v8, hlt, by go_num, rfl, HO8.out, HR8.out, HF8.out, HV8.out, HA8.out⟩
        case measure => simp [intOf]; omega
      · have PE2 : Hid (marP p true x = ⟨c, xa, 0, 0⟩) := Lib.hid (by rw [PE.out]; rfl)
        have m64 : m ≤ 64 := HML.out
        clear PE
        go_wp2_with (first
          | ((with_reducible refine gwl_load TP bh (k * 4) RG.out ?_ ?_ ?_); rfl; rfl)
          | ((with_reducible refine gwl_store TP x wr.heap.size X1.out ?_ ?_ ?_); rfl; rfl; rw [HW2.out])
          | ((with_reducible refine gwl_bs TV (s := marV p x) ?_ BF.out ?_ (by decide)); (rw [VE.out]; rfl); rw [HW3.out])
          | (at_builtin; refine gpl_app TV rfl _ _ rfl w2.heap.size vo _ rfl O3.out _ 1 1 [marV p x] rfl (gbx_rd Z3.out) (fun e => by cases e) LO.out (by have := S3.out; omega) ?_; intro v5 w5 o5 g5 h5; have Y5 := Lib.hid (bx_grown9 Y3.out g5 (fun j hj => (gown_lt OW.out hj).2)); have y5 : w5.cell? ⟨wr.heap.size, 3, none⟩ = some (.int .i64 xb) := (gbx_cell Y5.out 3).trans (by rw [XE.out]; rfl); have f5 := gbx_fz Y5.out 3; obtain ⟨W6, hW6⟩ : ∃ W, w5.setCell ⟨wr.heap.size, 3, none⟩ (.int .i64 worth) = W := ⟨_, rfl⟩; have HW6 := Lib.hid hW6; have Y6 : Hid (EP.Bx 47 W6 wr.heap.size ⟨c, xa, xq, worth⟩) := Lib.hid (by rw [← hW6]; exact gbx_put (i := 3) Y5.out (by rw [XE.out]; rfl)); have RY6 := Lib.hid (gbx_rng Y6.out); have k6 : W6.cell? ⟨wr.heap.size, 1, none⟩ = some (.int .u32 xa) := gbx_cell Y6.out 1; obtain ⟨W7, hW7⟩ : ∃ W, W6.setRow wr.heap.size (EP.cells ⟨c, xa, 0, 0⟩).toArray = W := ⟨_, rfl⟩; have HW7 := Lib.hid hW7; have RY7 : Hid (W7.rangeAt wr.heap.size 0 (EP.cells ⟨c, xa, 0, 0⟩)) := Lib.hid (by rw [← hW7]; exact gbx_rng (gbx_set Y6.out)))
          | (rw [HW6.out])
          | ((with_reducible refine gwl_store TP ⟨c, xa, 0, 0⟩ wr.heap.size Y6.out ?_ ?_ ?_); rfl; rfl; rw [HW7.out])
          | ((with_reducible refine gwl_load TP wr.heap.size 0 RY7.out ?_ ?_ ?_); rfl; rfl)
          | ((with_reducible refine gwl_load TP wr.heap.size 0 RY6.out ?_ ?_ ?_); rfl; rfl))
        have OB : ∀ j, vo.ownBlock = some j → w2.heap.size ≤ j ∧ j < wr.heap.size := fun j hj => gown_lt OW.out hj
        have s3 := S3.out
        have F35 : Fr (fun k => vo.ownBlock = some k) W3 w5 := Fr.grown g5 (fun k e => e)
        have R5 : Rl w5 B g va vh' ⟨L.fund, L.al, marH p true (hs.take k) L.hl⟩ := R3.out.keep F35 (fun j hj e => by
          have := OB j e
          rcases hj with rfl | hj | hj
          · have := GW.out; have := B2.out.size; omega
          · have := VA.out j hj; omega
          · exact AP.out j e hj)
        have NB : ∀ j, RlS g va vh' j → j ≠ wr.heap.size := fun j hj e => by have := (RR.out.lt hj).2; omega
        have F56 : Fr (fun k => k = wr.heap.size) w5 W6 := by rw [← HW6.out]; exact Fr.set (S := fun k => k = wr.heap.size) rfl _
        have R6 := R5.keep F56 (fun j hj e => NB j hj e)
        have F67 : Fr (fun k => k = wr.heap.size) W6 W7 := by rw [← HW7.out]; exact fr_row (S := fun k => k = wr.heap.size) rfl _
        have R7 := R6.keep F67 (fun j hj e => NB j hj e)
        have V5 : ∀ j, v5.ownBlock = some j → w2.heap.size ≤ j ∧ j < w5.heap.size ∧ j ≠ wr.heap.size := fun j hj => by
          have h1 := gown_lt o5 hj
          refine ⟨h1.1, h1.2, fun e => ?_⟩
          rcases h5 with c5 | c5
          · rw [c5] at hj; have := (OB j hj).2; omega
          · rw [c5] at hj; cases hj; omega
        have o6 := gown_fr o5 F56 (fun j hj e => (V5 j hj).2.2 e)
        have o7 := gown_fr o6 F67 (fun j hj e => (V5 j hj).2.2 e)
        have FK : Fr (fun k => k = g) w2 W7 := by
          have h1 : Fr (fun k => k = g) w2 W3 := FF.out.trans (Fr.below B13.out : Fr (fun _ => False) wr W3) (fun _ h => h) (fun _ _ h => h.elim)
          have h2 : Fr (fun k => k = g) w2 w5 := h1.trans F35 (fun _ h => h) (fun j hj e => by have := (OB j e).1; omega)
          have h3 : Fr (fun k => k = g) w2 W6 := h2.trans F56 (fun _ h => h) (fun j hj e => by have := s3.2; omega)
          exact h3.trans F67 (fun _ h => h) (fun j hj e => by have := s3.2; omega)
        have PU := Lib.hid (rhold9 ⟨c, xa, 0, 0⟩ W7 R7 (by
          have h1 := mar_len p true (hs.take k) L.hl
          have h2 := HLN.out
          have h3 := HML.out
          have h4 := List.length_take_le k hs
          have h5 := HL.out
          show (marH p true (hs.take k) L.hl).length ≤ 5000
          omega))
        have ZS : Hid (w5.heap.size ≤ W7.heap.size) := Lib.hid (by have := F56.size; have := F67.size; omega)
        have OO := Lib.hid o7
        have FKK := Lib.hid FK
        have V5H := Lib.hid V5
        clear OB F35 R5 NB F56 R6 F67 R7 V5 o5 o6 o7 FK g5 h5
        refine PU.out.mono ?_; rintro e w8 ⟨rfl, v8, r8, f8, s8⟩
        have HO8 : Hid (EV.Own 62 w8 w2.heap.size v5 ((hs.take (k + 1)).map (marV p))) := Lib.hid (by
          rw [take_po9 HX.out, List.map_append]
          exact gown_fr OO.out f8 (fun j hj e => by have := (V5H.out j hj).1; have := GW.out; have := B2.out.size; omega))
        have HR8 : Hid (Rl w8 B g va v8 ⟨L.fund, L.al, marH p true (hs.take (k + 1)) L.hl⟩) := Lib.hid (by
          rw [take_po9 HX.out, mar_snoc, PE2.out]
          exact r8)
        have HF8 := Lib.hid (FKK.out.same f8)
        have HV8 : Hid (∀ j, v8.ownBlock = some j → vh.ownBlock = some j ∨ w2.heap.size ≤ j) := Lib.hid fun j hj => .inr (by have := s8 j hj; have := FKK.out.size; omega)
        have HA8 : Hid (∀ j, v5.ownBlock = some j → v8.ownBlock = some j → False) := Lib.hid fun j h1 h2 => by have := s8 j h2; have := (V5H.out j h1).2.1; have := ZS.out; omega
        clear r8 f8 s8 PU
        go_wp2_with fail
        go_roundw
        case rel => exact ⟨k + 1, v5, v8, hlt, by go_num, rfl, HO8.out, HR8.out, HF8.out, HV8.out, HA8.out⟩
        case measure => simp [intOf]; omega
end Go.Proofs.Ythnmpnepgagmmaa
