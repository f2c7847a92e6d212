/- Contract of the program's own call that reads a contract's data out of a reader. -/
import Derived.Test.YtlnakhbcefmiaaaGe
import Derived.Test.YtlnakhbcefmiaaaGc
namespace Go.Proofs.Ytlnakhbcefmiaaa
open Go.RowKit

/-- What Take reads, and the fault behind it. -/
def took (bs : List Int) (e : Int) : Sp × List Int × Int :=
  if mayB (tS fmax bs e).1 = true then tS fmax bs e else (zeroSp, (tS fmax bs e).2.1, if (tS fmax bs e).2.2 = 0 then 5 else (tS fmax bs e).2.2)
def TookOk (w : World) (g : Nat) (A : Option Addr) (bs : List Int) (e : Int) (E : Ending) (W : World) : Prop := E = .returned (.agg (took bs e).1.cells) ∧ Dd w g A (took bs e).2.1 (took bs e).2.2 W

set_option maxRecDepth 100000 in
set_option maxHeartbeats 8000000 in
theorem ptake_any (g n c : Nat) (A : Option Addr) (bs : List Int) (e : Int) (w : World) (h : Rq w g A n c bs e) (hy : By bs) (hn : n ≤ 200000) (hA0 : ∀ a, A = some a → 0 < n → a.block < w.heap.size) :
    Calls Try.prog 35 #[.pointer (some ⟨g, 0, none⟩)] w (TookOk w g A bs e) := by
  have Z := zero_sp
  have HLT := Lib.hid h.lt
  have HGW : Hid ((w.alloc (.cells zeroSp.cells 25)).alloc (.cells zeroSp.cells 25) = (w.alloc (.cells zeroSp.cells 25)).alloc (.cells zeroSp.cells 25)) := Lib.hid rfl
  have BX : Hid (Box ((w.alloc (.cells zeroSp.cells 25)).alloc (.cells zeroSp.cells 25)) w.heap.size zeroSp) := Lib.hid ⟨heap_alloc2_old w _ _, rfl⟩
  have T : Hid (St w ((w.alloc (.cells zeroSp.cells 25)).alloc (.cells zeroSp.cells 25)) g (w.heap.size + 1) n A ((w.alloc (.cells zeroSp.cells 25)).alloc (.cells zeroSp.cells 25)) zeroSp bs e) := Lib.hid
    ⟨⟨⟨A, n, c, h.below (((Below.refl _ w).alloc (Nat.le_refl _) _).alloc (by simp) _), fun a ha => ⟨a, ha, rfl⟩⟩, ⟨h.lt, hA0⟩, by rw [h.r.1]; exact Nat.le_refl _, by omega, ⟨heap_alloc2_new w _ _, rfl⟩, below_grown (((Below.refl _ w).alloc (Nat.le_refl _) _).alloc (by simp) _) _⟩, Stay.refl _ _ _, hy, hn⟩
  clear h hy hA0 hn
  obtain ⟨w2, hw2⟩ : ∃ W, ((w.alloc (.cells zeroSp.cells 25)).alloc (.cells zeroSp.cells 25)) = W := ⟨_, rfl⟩
  have hs2 : w2.heap.size = w.heap.size + 2 := by rw [← hw2]; simp
  have HS2 := Lib.hid hs2
  have HW2 := Lib.hid hw2
  rw [hw2] at T BX
  clear hs2 hw2 HGW
  have K0 := Lib.hid (T.out.smallC 4294967295)
  have M0 := sR_most T.out.by_ e (m := 4294967295) (by decide)
  obtain ⟨⟨v0, b1, e1⟩, h0⟩ : ∃ r, sR bs e 4294967295 = r := ⟨_, rfl⟩
  rw [h0] at K0 M0
  dsimp only at K0 M0
  have H0 := Lib.hid h0
  obtain ⟨m1, m2⟩ := M0
  clear h0 T
  go_enter Try.func35, Try.ntmps35
  go_wp2_with fail
  rw [HW2.out]
  refine K0.out.mono ?_; rintro e0 W1 ⟨rfl, t⟩
  have T := Lib.hid t
  clear t K0
  have hcell := T.out.tk.box.cell 0
  rw [Sp.c0] at hcell
  have hfree := T.out.tk.box.free 0
  have T1 := Lib.hid (T.out.put (v := .int .u32 v0) rfl (set0 v0))
  clear T
  have K0 := Lib.hid (T1.out.smallC 255)
  have M0 := sR_most T1.out.by_ e1 (m := 255) (by decide)
  obtain ⟨⟨v1, b2, e2⟩, h0⟩ : ∃ r, sR b1 e1 255 = r := ⟨_, rfl⟩
  rw [h0] at K0 M0
  dsimp only at K0 M0
  have H1 := Lib.hid h0
  obtain ⟨p1, p2⟩ := M0
  clear h0 T1
  go_wp2_with fail
  refine K0.out.mono ?_; rintro e0 W2 ⟨rfl, t⟩
  have T := Lib.hid t
  clear t K0 hcell hfree
  have hcell := T.out.tk.box.cell 1
  rw [Sp.c1] at hcell
  have hfree := T.out.tk.box.free 1
  have T1 := Lib.hid (T.out.put (v := .int .u8 v1) rfl (set1 v1))
  clear T
  have OK : Hid (({ zeroSp with nu := v0, ro := v1 } : Sp).ok) := Lib.hid ⟨⟨m1, m2⟩, ⟨p1, p2⟩, zero_ok.ti, zero_ok.lo, zero_ok.ba, zero_ok.li, zero_ok.len, zero_ok.sh, zero_ok.cr, zero_ok.la, zero_ok.fi⟩
  have PTS : Hid (∀ cs : Array Value, ((W2.setCell ⟨w.heap.size + 1, 1, none⟩ (.int .u8 v1)).alloc (.cells cs 63)).heap[W2.heap.size]? = some (.cells cs 63 (0, 0))) := Lib.hid (fun cs => by
    have := heap_alloc_new (W2.setCell ⟨w.heap.size + 1, 1, none⟩ (.int .u8 v1)) (.cells cs 63)
    rwa [show (W2.setCell ⟨w.heap.size + 1, 1, none⟩ (.int .u8 v1)).heap.size = W2.heap.size by simp] at this)
  have PS : Hid (w2.heap.size ≤ W2.heap.size) := Lib.hid (by have := T1.out.st.size; simpa using this)
  have TA := Lib.hid (fun o => T1.out.below (((Below.refl _ _).alloc (Nat.le_refl _) o)))
  clear T1
  go_wp2_with fail
  obtain ⟨ps, hps⟩ : ∃ cs : Array Value, #[.pointer (some ⟨w.heap.size + 1, 2, none⟩), .pointer (some ⟨w.heap.size + 1, 3, none⟩), .pointer (some ⟨w.heap.size + 1, 4, none⟩), .pointer (some ⟨w.heap.size + 1, 5, none⟩)] = cs := ⟨_, rfl⟩
  have HP : Hid (∀ k, k < 4 → ps[k]? = some (.pointer (some ⟨w.heap.size + 1, 2 + k, none⟩))) := Lib.hid (fun k hk => by
    rw [← hps]
    match k, hk with
    | 0, _ => rfl
    | 1, _ => rfl
    | 2, _ => rfl
    | 3, _ => rfl)
  have T := Lib.hid (TA.out (.cells ps 63))
  have HG := Lib.hid (PTS.out ps)
  rw [hps]
  obtain ⟨w3, hw3⟩ : ∃ W, (W2.setCell ⟨w.heap.size + 1, 1, none⟩ (.int .u8 v1)).alloc (.cells ps 63) = W := ⟨_, rfl⟩
  rw [hw3] at T HG ⊢
  have BX3 : Hid (Box w3 w.heap.size zeroSp) := Lib.hid ⟨(T.out.st.block w.heap.size (by have := HS2.out; omega) (by have := HLT.out; omega) (by omega)).trans BX.out.1, BX.out.2⟩
  have TB := Lib.hid T.out.base
  obtain ⟨pb, hpb⟩ : ∃ b, W2.heap.size = b := ⟨_, rfl⟩
  have PB : Hid (pb ≠ g ∧ pb ≠ w.heap.size + 1 ∧ pb < w3.heap.size ∧ w.heap.size < w3.heap.size) := Lib.hid (by
    have h1 := PS.out
    have h2 := HS2.out
    have h3 := HLT.out
    have h4 : pb < w3.heap.size := by rw [← hpb]; exact (Array.getElem?_eq_some_iff.1 HG.out).1
    rw [hpb] at h1
    exact ⟨by omega, by omega, h4, by omega⟩)
  rw [hpb] at HG ⊢
  clear hps hw3 TA PTS T BX PS hpb HW2 hcell hfree
  obtain ⟨s2, hs2⟩ : ∃ s, ({ zeroSp with nu := v0, ro := v1 } : Sp) = s := ⟨_, rfl⟩
  have HS := Lib.hid hs2
  rw [hs2] at TB OK
  clear hs2
  go_loopw [21] (fun i wr => ∃ (k : Nat) (s' : Sp) (b' : List Int) (e' : Int), k ≤ 4 ∧ i = .int .i64 k ∧ stF s2 b2 e2 k = (s', b', e') ∧ s'.ok ∧ St w w3 g (w.heap.size + 1) n A wr s' b' e') (fun i _ => 4 - (intOf i).toNat)
  case atStart => exact ⟨0, _, _, _, Nat.zero_le _, rfl, rfl, OK.out, TB.out⟩
  case round =>
    obtain ⟨k, s', b', e', hk, rfl, hst, hok, ht⟩ := hrel
    have HST := Lib.hid hst
    have HOK := Lib.hid hok
    have T := Lib.hid ht
    clear hst hok ht TB
    by_cases hlt : k < 4
    case pos =>
      have hd : decide ((k : Int) < 4) = true := decide_eq_true (by omega)
      have ck : wr.cell? ⟨pb, k, none⟩ = some (.pointer (some ⟨w.heap.size + 1, 2 + k, none⟩)) := by
        rw [cell_of_row _ _ _ _ _ _ ((T.out.st.block pb PB.out.2.2.1 PB.out.1 PB.out.2.1).trans HG.out)]
        exact HP.out k hlt
      have K0 := Lib.hid T.out.natC
      have M0 := sR_most T.out.by_ e' (m := i63) (by decide)
      obtain ⟨⟨x, b1', e1'⟩, h0⟩ : ∃ r, sR b' e' i63 = r := ⟨_, rfl⟩
      have HN : Hid (stF s2 b2 e2 (k + 1) = (setK s' x k, b1', e1')) := Lib.hid (by
        show (setK (stF s2 b2 e2 k).1 (sR (stF s2 b2 e2 k).2.1 (stF s2 b2 e2 k).2.2 i63).1 k, (sR (stF s2 b2 e2 k).2.1 (stF s2 b2 e2 k).2.2 i63).2) = _
        rw [HST.out]
        dsimp only
        rw [h0])
      rw [h0] at K0 M0
      dsimp only at K0 M0
      obtain ⟨q1, q2⟩ := M0
      have HX : Hid (I64 x) := Lib.hid ⟨by omega, q2⟩
      clear h0 T q1 q2
      go_wp2_with fail
      refine K0.out.mono ?_; rintro e0 W4 ⟨rfl, t⟩
      have T := Lib.hid t
      clear t K0
      have hcell := T.out.tk.box.cell (2 + k)
      rw [getK_at _ _ hlt] at hcell
      have hfree := T.out.tk.box.free (2 + k)
      have T1 := Lib.hid (T.out.put (v := .int .i64 x) (by rw [setK_sh]; exact HOK.out.len) (setK_at s' k hlt x))
      clear T
      go_wp2_with fail
      go_roundw
      case rel => exact ⟨k + 1, _, _, _, hlt, by go_num, HN.out, setK_ok HOK.out HX.out k, T1.out⟩
      case measure => simp [intOf]; omega
    case neg =>
      obtain rfl : k = 4 := by omega
      rw [show ((4 : Nat) : Int) = 4 from rfl]
      clear hk hlt OK HP HG
      obtain ⟨b3, hb3⟩ : ∃ b, b' = b := ⟨_, rfl⟩
      obtain ⟨e3, he3⟩ : ∃ b, e' = b := ⟨_, rfl⟩
      obtain ⟨s3, hs3⟩ : ∃ b, s' = b := ⟨_, rfl⟩
      rw [hb3, he3, hs3] at T HST
      rw [hs3] at HOK
      have H2 := HST
      clear hb3 he3 hs3 HST
      go_wp2_with fail
      go_loopw [30] (fun i wr => ∃ (k : Nat) (s' : Sp) (b' : List Int) (e' : Int), k ≤ 16 ∧ i = .int .i64 k ∧ shS s3 b3 e3 k = (s', b', e') ∧ s'.ok ∧ St w w3 g (w.heap.size + 1) n A wr s' b' e') (fun i _ => 16 - (intOf i).toNat)
      case atStart => exact ⟨0, _, _, _, Nat.zero_le _, rfl, rfl, HOK.out, T.out⟩
      case round =>
        clear T HOK
        obtain ⟨k, s', b', e', hk, rfl, hst, hok, ht⟩ := hrel
        have HST := Lib.hid hst
        have HOK := Lib.hid hok
        have T := Lib.hid ht
        clear hst hok ht
        by_cases hlt : k < 16
        case pos =>
          have hd : decide ((k : Int) < 16) = true := decide_eq_true (by omega)
          have K0 := Lib.hid T.out.intC
          have HX := Lib.hid (iR_fits T.out.by_ e')
          obtain ⟨⟨x, b1', e1'⟩, h0⟩ : ∃ r, iR b' e' = r := ⟨_, rfl⟩
          have HN : Hid (shS s3 b3 e3 (k + 1) = ({ s' with sh := s'.sh.set k x }, b1', e1')) := Lib.hid (by
            show (({ (shS s3 b3 e3 k).1 with sh := (shS s3 b3 e3 k).1.sh.set k (iR (shS s3 b3 e3 k).2.1 (shS s3 b3 e3 k).2.2).1 } : Sp), (iR (shS s3 b3 e3 k).2.1 (shS s3 b3 e3 k).2.2).2) = _
            rw [HST.out]
            dsimp only
            rw [h0])
          rw [h0] at K0 HX
          dsimp only at K0 HX
          clear h0 T
          go_wp2_with fail
          refine K0.out.mono ?_; rintro e0 W4 ⟨rfl, t⟩
          have T := Lib.hid t
          clear t K0
          have hcell := T.out.tk.box.cell (6 + k)
          rw [Sp.c6 HOK.out.len k hlt] at hcell
          have hfree := T.out.tk.box.free (6 + k)
          have T1 := Lib.hid (T.out.put (v := .int .i64 x) ((List.length_set).trans HOK.out.len) (set6 HOK.out.len k hlt x))
          clear T
          go_wp2_with fail
          go_roundw
          case rel => exact ⟨k + 1, _, _, _, hlt, by go_num, HN.out, setS_ok HOK.out HX.out k, T1.out⟩
          case measure => simp [intOf]; omega
        case neg =>
          obtain rfl : k = 16 := by omega
          rw [show ((16 : Nat) : Int) = 16 from rfl]
          clear hk hlt
          have K0 := Lib.hid T.out.natC
          have M0 := sR_most T.out.by_ e' (m := i63) (by decide)
          obtain ⟨⟨v6, b6, e6⟩, h0⟩ : ∃ r, sR b' e' i63 = r := ⟨_, rfl⟩
          rw [h0] at K0 M0
          dsimp only at K0 M0
          have H6 := Lib.hid h0
          have OK6 : Hid (({ s' with cr := v6 } : Sp).ok) := Lib.hid ⟨HOK.out.nu, HOK.out.ro, HOK.out.ti, HOK.out.lo, HOK.out.ba, HOK.out.li, HOK.out.len, HOK.out.sh, (i64_of M0.1 M0.2), HOK.out.la, HOK.out.fi⟩
          clear h0 T M0
          go_wp2_with fail
          refine K0.out.mono ?_; rintro e0 W4 ⟨rfl, t⟩
          have T := Lib.hid t
          clear t K0
          have hcell := T.out.tk.box.cell 22
          rw [Sp.c22 HOK.out.len] at hcell
          have hfree := T.out.tk.box.free 22
          have T1 := Lib.hid (T.out.put (v := .int .i64 v6) OK6.out.len (set22 HOK.out.len v6))
          clear T
          have K0 := Lib.hid (T1.out.smallC 4294967295)
          have M0 := sR_most T1.out.by_ e6 (m := 4294967295) (by decide)
          obtain ⟨⟨v7, b7, e7⟩, h0⟩ : ∃ r, sR b6 e6 4294967295 = r := ⟨_, rfl⟩
          rw [h0] at K0 M0
          dsimp only at K0 M0
          have H7 := Lib.hid h0
          obtain ⟨q1, q2⟩ := M0
          have OK7 : Hid (({ s' with cr := v6, la := v7 } : Sp).ok) := Lib.hid ⟨HOK.out.nu, HOK.out.ro, HOK.out.ti, HOK.out.lo, HOK.out.ba, HOK.out.li, HOK.out.len, HOK.out.sh, OK6.out.cr, ⟨q1, q2⟩, HOK.out.fi⟩
          clear h0 T1
          go_wp2_with fail
          refine K0.out.mono ?_; rintro e0 W5 ⟨rfl, t⟩
          have T := Lib.hid t
          clear t K0 hcell hfree
          have hcell := T.out.tk.box.cell 23
          rw [Sp.c23 OK6.out.len] at hcell
          have hfree := T.out.tk.box.free 23
          have T1 := Lib.hid (T.out.put (v := .int .u32 v7) OK7.out.len (set23 OK6.out.len v7))
          clear T
          have K0 := Lib.hid T1.out.natC
          have M0 := sR_most T1.out.by_ e7 (m := i63) (by decide)
          obtain ⟨⟨v8, b8, e8⟩, h0⟩ : ∃ r, sR b7 e7 i63 = r := ⟨_, rfl⟩
          rw [h0] at K0 M0
          dsimp only at K0 M0
          have H8 := Lib.hid h0
          have OK8 : Hid (({ s' with cr := v6, la := v7, fi := v8 } : Sp).ok) := Lib.hid ⟨HOK.out.nu, HOK.out.ro, HOK.out.ti, HOK.out.lo, HOK.out.ba, HOK.out.li, HOK.out.len, HOK.out.sh, OK6.out.cr, ⟨q1, q2⟩, (i64_of M0.1 M0.2)⟩
          clear h0 T1 M0
          go_wp2_with fail
          refine K0.out.mono ?_; rintro e0 W6 ⟨rfl, t⟩
          have T := Lib.hid t
          clear t K0 hcell hfree
          have hcell := T.out.tk.box.cell 24
          rw [Sp.c24 OK7.out.len] at hcell
          have hfree := T.out.tk.box.free 24
          have T1 := Lib.hid (T.out.put (v := .int .i64 v8) OK8.out.len (set24 OK7.out.len v8))
          have TE : Hid (tS fmax bs e = ({ s' with cr := v6, la := v7, fi := v8 }, b8, e8)) := Lib.hid (tS_steps H0.out H1.out (by rw [HS.out]; exact H2.out) HST.out H6.out H7.out H8.out)
          obtain ⟨s8, hs8⟩ : ∃ s, ({ s' with cr := v6, la := v7, fi := v8 } : Sp) = s := ⟨_, rfl⟩
          rw [hs8] at TE OK8
          rw [hs8] at T1
          clear T H0 H1 H2 HST H6 H7 H8 OK6 OK7 HOK hs8
          have MY := Lib.hid (fun W => pmay_any s8 W OK8.out)
          cases hm : mayB s8
          · have TK : Hid (took bs e = (zeroSp, b8, if e8 = 0 then 5 else e8)) := Lib.hid (by
              unfold took
              rw [TE.out]
              dsimp only
              rw [if_neg (by rw [hm]; exact Bool.false_ne_true)])
            rw [hm] at MY
            clear hm TE OK8
            go_wp2_with ((with_reducible refine wl_load_sp (w.heap.size + 1) T1.out.tk.box ?_ ?_ ?_); rfl; rfl)
            refine (MY.out _).mono ?_; rintro e0 W7 ⟨rfl, q⟩
            have T2 := Lib.hid (T1.out.below q)
            have FA : Hid (Calls Try.prog 45 #[.pointer (some ⟨g, 0, none⟩), .int .i64 5] W7 fun E W' => E = .returned (.tuple #[]) ∧ St w w3 g (w.heap.size + 1) n A W' s8 b8 (if e8 = 0 then 5 else e8)) := Lib.hid (by
              obtain ⟨A', n', c', rq, hA⟩ := T2.out.tk.rq
              refine (fail_any g n' c' A' b8 e8 5 _ rq).mono ?_
              rintro E W' ⟨rfl, d⟩
              exact ⟨rfl, T2.out.call hA d T2.out.by_ (Nat.le_refl _)⟩)
            clear q T1 MY hcell hfree
            go_wp2_with fail
            refine FA.out.mono ?_; rintro e0 W8 ⟨rfl, t⟩
            have T := Lib.hid t
            have BX : Hid (Box W8 w.heap.size zeroSp) := Lib.hid ⟨(T.out.st.block w.heap.size PB.out.2.2.2 (by have := HLT.out; omega) (by omega)).trans BX3.out.1, rfl⟩
            clear t FA T2
            have HR := Lib.hid (box_set BX.out (s := zeroSp) rfl)
            go_wp2_with ((with_reducible refine wl_store_sp zeroSp w.heap.size BX.out rfl ?_ ?_ ?_); rfl; rfl)
            refine bodyPost_ret (ret_sp rfl _ _ w.heap.size rfl HR.out) rfl ?_
            unfold TookOk
            rw [TK.out]
            exact ⟨rfl, T.out.tk.done (Nat.le_refl _) _⟩
          · have TK : Hid (took bs e = (s8, b8, e8)) := Lib.hid (by
              unfold took
              rw [TE.out]
              dsimp only
              rw [if_pos hm])
            rw [hm] at MY
            have HL8 := Lib.hid OK8.out.len
            clear hm TE OK8
            go_wp2_with ((with_reducible refine wl_load_sp (w.heap.size + 1) T1.out.tk.box ?_ ?_ ?_); rfl; rfl)
            refine (MY.out _).mono ?_; rintro e0 W7 ⟨rfl, q⟩
            have T := Lib.hid (T1.out.below q)
            have BX : Hid (Box W7 w.heap.size zeroSp) := Lib.hid ⟨(T.out.st.block w.heap.size PB.out.2.2.2 (by have := HLT.out; omega) (by omega)).trans BX3.out.1, rfl⟩
            clear q T1 MY hcell hfree
            have HR := Lib.hid (box_set BX.out (s := s8) HL8.out)
            go_wp2_with (first
              | ((with_reducible refine wl_load_sp (w.heap.size + 1) T.out.tk.box ?_ ?_ ?_); rfl; rfl)
              | ((with_reducible refine wl_store_sp s8 w.heap.size BX.out HL8.out ?_ ?_ ?_); rfl; rfl))
            refine bodyPost_ret (ret_sp rfl _ _ w.heap.size rfl HR.out) rfl ?_
            unfold TookOk
            rw [TK.out]
            exact ⟨rfl, T.out.tk.done (Nat.le_refl _) _⟩
end Go.Proofs.Ytlnakhbcefmiaaa
