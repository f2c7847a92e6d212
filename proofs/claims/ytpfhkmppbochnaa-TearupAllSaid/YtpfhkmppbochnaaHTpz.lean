/- The program's tearup: share, sift, Parts (by genTpz.py). -/
import Derived.Test.YtpfhkmppbochnaaHTpy
import Derived.Test.YtpfhkmppbochnaaG05
namespace Go.Proofs.Ytpfhkmppbochnaa.Zt
open Go.RowKit Go.Shelf Go.Sort
set_option linter.unusedVariables false
set_option linter.unusedSimpArgs false

/-- Those opposite, with what they hold, without signs. -/
def sif (q : Int) (l : List Ho) : List Ho := (oppo q l).map fun h => mkH h (opq q h)
theorem sif_len (q : Int) (l : List Ho) : (sif q l).length = (oppo q l).length := by unfold sif; rw [List.length_map]
theorem sif_q (q : Int) (l : List Ho) : (sif q l).map Ho.q = wsP q l := by unfold sif wsP; rw [List.map_map]; rfl
theorem sif_snoc (q : Int) {l : List Ho} {j : Nat} {d : Ho} (h : l[j]? = some d) : sif q (l.take (j + 1)) = if 0 < opq q d then sif q (l.take j) ++ [⟨d.ac, opq q d⟩] else sif q (l.take j) := by
  have e := oppo_snoc q h
  unfold sif
  rw [e]
  split
  · rw [List.map_append]; rfl
  · rfl
theorem sif_at {q : Int} {l : List Ho} {j : Nat} {x : Ho} (h : (sif q l)[j]? = some x) : ∃ d, (oppo q l)[j]? = some d ∧ x = mkH d (opq q d) ∧ (wsP q l)[j]? = some x.q := by
  unfold sif at h
  rw [List.getElem?_map] at h
  cases e : (oppo q l)[j]? with
  | none => rw [e] at h; simp at h
  | some d =>
    rw [e] at h
    simp only [Option.map_some, Option.some.injEq] at h
    refine ⟨d, (by first | rfl | exact e), h.symm, ?_⟩
    unfold wsP
    rw [List.getElem?_map, e, ← h]
    rfl
theorem told_trans {q : Int} {l : List Ho} {w0 w w' : World} {e : Ending} (h : ToldP q l w.heap.size w w' e) (b : Below w0.heap.size w0 w) : ToldP q l w0.heap.size w0 w' e := by
  obtain ⟨A, c, h1, h2, h3⟩ := h
  exact ⟨A, c, h1, h2, b.trans (h3.mono b.size)⟩
set_option maxRecDepth 100000 in
set_option maxHeartbeats 8000000 in
theorem pshare14 (q : Int) (l : List Ho) (A : Option Addr) (n c : Nat) (w : World) (hr : EH.Rd w A n (sif q l)) (ins : ∀ x, x ∈ l → -10000000 ≤ x.q ∧ x.q ≤ 10000000) (hl : l.length ≤ 64) (hT : 0 < mag q ∧ mag q ≤ 10000000)
    (hen : ¬ sm (wsP q l) < mag q → MayP q l) (he7 : sm (wsP q l) < mag q → errP q l = 7) :
    Calls Try.prog 14 #[.int .i64 (mag q), .slice A n c] w fun e w' => ToldP q l w.heap.size w w' e := by
  have hz := zero_ho
  have SB := wsP_sm (q := q) ins
  have WI := Lib.hid (wsP_i64 (q := q) ins)
  have NG := Lib.hid (ng_wsP (q := q) ins)
  have WL := wsP_len q l
  have OL := oppo_len q l
  have NS := hr.1
  rw [sif_len] at NS
  have hn64 : n ≤ 64 := by omega
  have LW := Lib.hid (show (wsP q l).length = n by omega)
  obtain ⟨SV, hSV⟩ : ∃ x, sm (wsP q l) = x := ⟨_, rfl⟩
  obtain ⟨T, hTT⟩ : ∃ x, mag q = x := ⟨_, rfl⟩
  rw [hSV] at SB
  rw [hSV, hTT] at hen he7
  rw [hTT] at hT ⊢
  have FS := Lib.hid fun (W : World) (A3 : Option Addr) (n3 c3 : Nat) (h : Rd W A3 n3 (wsP q l)) => (show Calls Try.prog 18 #[.slice A3 n3 c3] W fun e w' => e = .returned (.tuple #[.int .i64 SV, .int .i64 0]) ∧ W = w' from by
    have f := fsum_any A3 n3 c3 (wsP q l) W h (by have := h.1; have := LW.out; omega) WI.out
    rw [hSV, show tN SV = SV from if_pos (by omega), show tE SV = 0 from if_pos (by omega)] at f
    exact f)
  have SP := Lib.hid fun (W : World) (A3 : Option Addr) (n3 c3 : Nat) (h : Rd W A3 n3 (wsP q l)) => split_any A3 n3 c3 (wsP q l) T W h WI.out (by unfold I64; omega) (by have := h.1; have := LW.out; omega) false NG.out
  have HR := Lib.hid hr
  have HE := Lib.hid hen
  have H7 := Lib.hid he7
  have HTT := Lib.hid hTT
  clear hr ins hl WL OL NS SB hSV hTT hT hen he7
  go_enter Try.func14, Try.ntmps14
  go_wp2_with fail
  go_loopw [6, 18] (fun v i wr => ∃ k : Nat, k ≤ n ∧ i = .int .i64 k ∧ EI14.Own 2 wr w.heap.size v ((wsP q l).take k) ∧ Below w.heap.size w wr) (fun _ i _ => n - (intOf i).toNat)
  case atStart => exact ⟨0, Nat.zero_le _, rfl, gown_nil _ _, Below.refl _ _⟩
  case round =>
    obtain ⟨k, hk, rfl, ho, hb⟩ := hrel
    have HB := Lib.hid hb
    have HO := Lib.hid ho
    obtain ⟨A1, n1, c1, rfl⟩ := gown_any HO.out
    clear hb ho
    by_cases hlt : k < n
    case pos =>
      have hdk : decide ((k : Int) < n) = true := decide_eq_true (by omega)
      have hki : (k : Int) < (n : Int) := by omega
      obtain ⟨x, hx⟩ : ∃ x, (sif q l)[k]? = some x := ⟨(sif q l)[k]'(by have := HR.out.1; omega), List.getElem?_eq_getElem _⟩
      obtain ⟨d, -, -, hw⟩ := sif_at hx
      have TK : Hid ((wsP q l).take (k + 1) = (wsP q l).take k ++ [x.q]) := Lib.hid (take_s14 hw)
      have LT : Hid (((wsP q l).take k).length + 1 ≤ 100000) := Lib.hid (by rw [List.length_take]; omega)
      obtain ⟨b, o, rfl, rg⟩ := rng_h14 HR.out HB.out (Nat.le_refl _) hx
      have RG := Lib.hid rg
      have X1 := Lib.hid (gbx_new (E := EH) (te := 32) wr zeroHo)
      obtain ⟨W2, hW2⟩ : ∃ W2, (wr.alloc (.cells (EH.cells zeroHo).toArray 32)).setRow wr.heap.size (EH.cells x).toArray = W2 := ⟨_, rfl⟩
      have y2 : EH.Bx 32 W2 wr.heap.size x := by rw [← hW2]; exact gbx_set X1.out
      have B2 : Hid (Below wr.heap.size wr W2) := Lib.hid (by rw [← hW2]; exact below_row0 (below_new _ _) (Nat.le_refl _))
      have B3 : Hid (Below w.heap.size w W2) := Lib.hid (HB.out.trans (B2.out.mono HB.out.size))
      have O2 := Lib.hid (gown_below HO.out B2.out)
      have k1 : W2.cell? ⟨wr.heap.size, 1, none⟩ = some (.int .i64 x.q) := gbx_cell y2 1
      have HW2 := Lib.hid hW2
      obtain ⟨W3, hW3⟩ : ∃ W3, W2.alloc (.cells #[.int .i64 x.q] 2) = W3 := ⟨_, rfl⟩
      have RD : Hid (EI14.Rd W3 (some ⟨W2.heap.size, 0, none⟩) 1 [x.q]) := Lib.hid (by rw [← hW3]; exact gown_rd (own_one14 W2 x.q))
      have O3 := Lib.hid (show EI14.Own 2 W3 w.heap.size (.slice A1 n1 c1) ((wsP q l).take k) by rw [← hW3]; exact gown_below O2.out (below_new _ _))
      have B4 := Lib.hid (show Below w.heap.size w W3 by rw [← hW3]; exact B3.out.alloc B3.out.size _)
      have HW3 := Lib.hid hW3
      clear hx hw rg y2 hW2 hW3
      go_wp2_with (first | ((with_reducible refine gwl_load TH b (o + k * 2) RG.out ?_ ?_ ?_); rfl; rfl) | (refine gwl_store TH x wr.heap.size X1.out rfl rfl ?_; rw [HW2.out]) | (rw [HW3.out]) | (at_builtin; refine ni_app14 rfl (.tmp 22) (.tmp 25) rfl w.heap.size (.slice A1 n1 c1) _ rfl O3.out ⟨W2.heap.size, 0, none⟩ 1 1 [x.q] rfl RD.out LT.out B4.out.size ?_; intro v' w' o1 g1 o3))
      have O9 := Lib.hid o1
      have B9 := Lib.hid (B4.out.grown g1 B4.out.size (fun j hj => (gown_lt O3.out hj).1))
      clear o1 g1 o3
      go_roundw
      case rel => exact ⟨k + 1, hlt, by go_num, by rw [TK.out]; exact O9.out, B9.out⟩
      case measure => simp [intOf]; omega
    case neg =>
      obtain rfl : n = k := by omega
      have el : (wsP q l).take n = wsP q l := List.take_of_length_le (by rw [LW.out]; exact Nat.le_refl _)
      rw [el] at HO
      obtain ⟨AF, cF, ef, -⟩ := gown_form HO.out
      cases ef
      have RW := Lib.hid (rd_ei14 (gown_rd HO.out))
      clear el HO hlt
      have C1 := Lib.hid (FS.out wr _ _ c1 RW.out)
      have C2 := Lib.hid (SP.out wr _ _ c1 RW.out)
      go_wp2_with fail
      refine C1.out.mono ?_; rintro e w1 ⟨rfl, rfl⟩
      by_cases cl : SV < T
      · have dl : decide (SV < T) = true := decide_eq_true cl
        have EE := Lib.hid (H7.out cl)
        go_wp2_with fail
        go_ret2
        exact toldP_bad EE.out (by decide) HB.out
      · have dl : decide (SV < T) = false := decide_eq_false cl
        have M := Lib.hid (HE.out (by omega))
        have SE0 : Hid (se T (wsP q l) false = 0) := Lib.hid (by rw [← HTT.out]; exact M.out.se)
        go_wp2_with fail
        refine C2.out.mono ?_; rintro e w4 ⟨g, hg, ⟨A4, n4, zs, rfl, rz, hz', -⟩, q4⟩
        have Q4 := Lib.hid (HB.out.trans (q4.2.mono HB.out.size))
        have EZ : Hid (zs = prt (mag q) (wsP q l)) := Lib.hid (by
          rw [hz' SE0.out, HTT.out]
          exact Cut.pt_go (hg SE0.out (by rw [← HTT.out]; exact M.out.T.1)))
        have RZ := Lib.hid rz
        have NZ : Hid (n4 = n) := Lib.hid (by rw [← rz.1, EZ.out, prt_len, LW.out])
        obtain rfl := NZ.out
        rw [SE0.out]
        clear rz hz' hg q4 C1 C2 FS SP
        go_wp2_with fail
        go_loopw [13, 44] (fun v i wr => ∃ k : Nat, k ≤ n4 ∧ i = .int .i64 k ∧ EH.Own 32 wr w4.heap.size v (((allP q l).take k).filter posH) ∧ Below w4.heap.size w4 wr) (fun _ i _ => n4 - (intOf i).toNat)
        case atStart => exact ⟨0, Nat.zero_le _, rfl, gown_nil _ _, Below.refl _ _⟩
        case round =>
          rename World => wq
          obtain ⟨k, hk, rfl, ho, hb⟩ := hrel
          have HBq := Lib.hid hb
          have HBw := Lib.hid (Q4.out.trans (hb.mono Q4.out.size))
          have HO := Lib.hid ho
          obtain ⟨A5, n5, c5, rfl⟩ := gown_any HO.out
          clear hb ho
          by_cases hlt : k < n4
          case pos =>
            have hdk : decide ((k : Int) < n4) = true := decide_eq_true (by omega)
            have hki : (k : Int) < (n4 : Int) := by omega
            have hk0 : (0 : Int) ≤ k := by omega
            obtain ⟨x, hx⟩ : ∃ x, (sif q l)[k]? = some x := ⟨(sif q l)[k]'(by have := HR.out.1; omega), List.getElem?_eq_getElem _⟩
            obtain ⟨d, hd, ex, -⟩ := sif_at hx
            have eac : x.ac = d.ac := by rw [ex]; rfl
            obtain ⟨z, hzk⟩ : ∃ z, zs[k]? = some z := ⟨zs[k]'(by have := RZ.out.1; omega), List.getElem?_eq_getElem _⟩
            have AL : (allP q l)[k]? = some ⟨x.ac, z⟩ := by
              rw [EZ.out] at hzk
              have := allP_at hd hzk
              rw [this, eac]; rfl
            have PS := Lib.hid (pos_snoc AL)
            obtain ⟨b3, o3, rfl, hcell⟩ := (RZ.out.below HBq.out).2 (by omega)
            have kc := hcell k hlt
            rw [show zs.getD k 0 = z by rw [List.getD, hzk]; rfl] at kc
            obtain ⟨b, o, rfl, rg⟩ := rng_h14 HR.out HBw.out (Nat.le_refl _) hx
            have c0 : wq.cell? ⟨b, o + k * 2, none⟩ = some (.int .u32 x.ac) := rg 0 _ rfl
            have LX : Hid ((((allP q l).take k).filter posH).length + 1 ≤ 100000) := Lib.hid (by have := List.length_filter_le posH ((allP q l).take k); have := List.length_take_le k (allP q l); omega)
            clear hx hd ex hzk AL hcell rg eac
            by_cases cz : 0 < z
            · have dz : decide (0 < z) = true := decide_eq_true cz
              have PT : Hid (((allP q l).take (k + 1)).filter posH = ((allP q l).take k).filter posH ++ [⟨x.ac, z⟩]) := Lib.hid (by rw [PS.out]; exact if_pos cz)
              obtain ⟨W6, hW6⟩ : ∃ W6, wq.alloc (.cells (EH.cells ⟨x.ac, z⟩).toArray 32) = W6 := ⟨_, rfl⟩
              have RD : Hid (EH.Rd W6 (some ⟨wq.heap.size, 0, none⟩) 1 [⟨x.ac, z⟩]) := Lib.hid (by rw [← hW6]; exact gbx_rd (gbx_new (E := EH) wq _))
              have O6 := Lib.hid (show EH.Own 32 W6 w4.heap.size (.slice A5 n5 c5) (((allP q l).take k).filter posH) by rw [← hW6]; exact gown_below HO.out (below_new _ _))
              have B6 := Lib.hid (show Below w4.heap.size w4 W6 by rw [← hW6]; exact HBq.out.alloc HBq.out.size _)
              have HW6 := Lib.hid hW6
              clear hW6 PS
              go_wp2_with (first | ((with_reducible refine gwl_bs TH (s := (⟨x.ac, z⟩ : Ho)) ?_ (fill_ho _) ?_ (by decide)); rfl; rw [HW6.out]) | (at_builtin; refine gpl_app TH rfl (.tmp 51) (.tmp 59) rfl w4.heap.size (.slice A5 n5 c5) (((allP q l).take k).filter posH) rfl O6.out _ 1 1 [⟨x.ac, z⟩] rfl RD.out (fun e => by cases e) LX.out B6.out.size ?_; intro v' w' o1 g1 o9))
              have O9 := Lib.hid o1
              have B9 := Lib.hid (B6.out.grown g1 B6.out.size (fun j hj => (gown_lt O6.out hj).1))
              clear o1 g1 o9
              go_roundw
              case rel => exact ⟨k + 1, hlt, by go_num, by rw [PT.out]; exact O9.out, B9.out⟩
              case measure => simp [intOf]; omega
            · have dz : decide (0 < z) = false := decide_eq_false cz
              have PT : Hid (((allP q l).take (k + 1)).filter posH = ((allP q l).take k).filter posH) := Lib.hid (by rw [PS.out]; exact if_neg cz)
              clear PS
              go_wp2_with fail
              go_roundw
              case rel => exact ⟨k + 1, hlt, by go_num, by rw [PT.out]; exact HO.out, HBq.out⟩
              case measure => simp [intOf]; omega
          case neg =>
            obtain rfl : n4 = k := by omega
            have el : (allP q l).take n4 = allP q l := List.take_of_length_le (by rw [allP_len, prt_len, LW.out]; exact Nat.le_refl _)
            rw [el] at HO
            obtain ⟨A7, c7, ef, -⟩ := gown_form HO.out
            cases ef
            have R7 := Lib.hid (gown_rd HO.out)
            clear el
            go_wp2_with fail
            go_ret2
            exact toldP_ok (errP_ok.2 M.out) R7.out HBw.out
/-- Those on one side, with what they hold there. -/
def Sift (g : Nat) (q s : Int) (l : List Ho) (w : World) : Prop := ∀ (W : World), Below w.heap.size w W → Calls Try.prog 13 #[.int .i64 s, .pointer (some ⟨g, 0, none⟩)] W fun e w' => ∃ v, e = .returned v ∧ EH.Own 32 w' W.heap.size v (sif q l) ∧ Below W.heap.size W w'
set_option maxRecDepth 100000 in
set_option maxHeartbeats 8000000 in
theorem psift14 (g : Nat) (q s : Int) (A : Option Addr) (n c : Nat) (l : List Ho) (W : World) (hr : EH.Rd W A n l) (hc : W.cell? ⟨g, 0, none⟩ = some (.slice A n c)) (ins : ∀ x, x ∈ l → -10000000 ≤ x.q ∧ x.q ≤ 10000000) (hn : n ≤ 64) (hs : ∀ x : Ho, s * x.q = opq q x) :
    Calls Try.prog 13 #[.int .i64 s, .pointer (some ⟨g, 0, none⟩)] W fun e w' => ∃ v, e = .returned v ∧ EH.Own 32 w' W.heap.size v (sif q l) ∧ Below W.heap.size W w' := by
  have hz := zero_ho
  have HR := Lib.hid hr
  have HS := Lib.hid hs
  have HI := Lib.hid ins
  have NL := Lib.hid hr.1
  clear hr hs ins
  go_enter Try.func13, Try.ntmps13
  go_wp2_with fail
  go_loopw [4, 10] (fun v i wr => ∃ k : Nat, k ≤ n ∧ i = .int .i64 k ∧ EH.Own 32 wr W.heap.size v (sif q (l.take k)) ∧ Below W.heap.size W wr) (fun _ i _ => n - (intOf i).toNat)
  case atStart => exact ⟨0, Nat.zero_le _, rfl, gown_nil _ _, Below.refl _ _⟩
  case round =>
    obtain ⟨k, hk, rfl, ho, hb⟩ := hrel
    have HB := Lib.hid hb
    have HO := Lib.hid ho
    obtain ⟨A1, n1, c1, rfl⟩ := gown_any HO.out
    clear hb ho
    by_cases hlt : k < n
    case pos =>
      have hdk : decide ((k : Int) < n) = true := decide_eq_true (by omega)
      have hki : (k : Int) < (n : Int) := by omega
      obtain ⟨x, hx⟩ : ∃ x, l[k]? = some x := ⟨l[k]'(by have := NL.out; omega), List.getElem?_eq_getElem _⟩
      have IN := opq_bd (q := q) (HI.out x (List.mem_of_getElem? hx))
      obtain ⟨i1, i2⟩ := IN
      have SN := Lib.hid (sif_snoc q hx)
      have wm : IntKind.i64.wrap (s * x.q) = opq q x := by rw [HS.out x, IntKind.wrap_i64]; omega
      have LT : Hid ((sif q (l.take k)).length + 1 ≤ 100000) := Lib.hid (by rw [sif_len]; have := oppo_len q (l.take k); have := List.length_take_le k l; omega)
      obtain ⟨p, hp⟩ : ∃ p, opq q x = p := ⟨_, rfl⟩
      rw [hp] at wm SN i1 i2
      obtain ⟨b, o, rfl, rg⟩ := rng_h14 HR.out HB.out (Nat.le_refl _) hx
      have RG := Lib.hid rg
      have X1 := Lib.hid (gbx_new (E := EH) (te := 32) wr zeroHo)
      obtain ⟨W2, hW2⟩ : ∃ W2, (wr.alloc (.cells (EH.cells zeroHo).toArray 32)).setRow wr.heap.size (EH.cells x).toArray = W2 := ⟨_, rfl⟩
      have y2 : EH.Bx 32 W2 wr.heap.size x := by rw [← hW2]; exact gbx_set X1.out
      have B2 : Hid (Below wr.heap.size wr W2) := Lib.hid (by rw [← hW2]; exact below_row0 (below_new _ _) (Nat.le_refl _))
      have B3 : Hid (Below W.heap.size W W2) := Lib.hid (HB.out.trans (B2.out.mono HB.out.size))
      have O2 := Lib.hid (gown_below HO.out B2.out)
      have k0 : W2.cell? ⟨wr.heap.size, 0, none⟩ = some (.int .u32 x.ac) := gbx_cell y2 0
      have k1 : W2.cell? ⟨wr.heap.size, 1, none⟩ = some (.int .i64 x.q) := gbx_cell y2 1
      have HW2 := Lib.hid hW2
      clear hx rg y2 hW2 hp
      by_cases cp : 0 < p
      · have dp : decide (0 < p) = true := decide_eq_true cp
        have SY : Hid (sif q (l.take (k + 1)) = sif q (l.take k) ++ [⟨x.ac, p⟩]) := Lib.hid (by rw [SN.out, if_pos cp])
        obtain ⟨W6, hW6⟩ : ∃ W6, W2.alloc (.cells (EH.cells ⟨x.ac, p⟩).toArray 32) = W6 := ⟨_, rfl⟩
        have RD : Hid (EH.Rd W6 (some ⟨W2.heap.size, 0, none⟩) 1 [⟨x.ac, p⟩]) := Lib.hid (by rw [← hW6]; exact gbx_rd (gbx_new (E := EH) W2 _))
        have O6 := Lib.hid (show EH.Own 32 W6 W.heap.size (.slice A1 n1 c1) (sif q (l.take k)) by rw [← hW6]; exact gown_below O2.out (below_new _ _))
        have B6 := Lib.hid (show Below W.heap.size W W6 by rw [← hW6]; exact B3.out.alloc B3.out.size _)
        have HW6 := Lib.hid hW6
        clear hW6 SN
        go_wp2_with (first | ((with_reducible refine gwl_load TH b (o + k * 2) RG.out ?_ ?_ ?_); rfl; rfl) | (refine gwl_store TH x wr.heap.size X1.out rfl rfl ?_; rw [HW2.out]) | ((with_reducible refine gwl_bs TH (s := (⟨x.ac, p⟩ : Ho)) ?_ (fill_ho _) ?_ (by decide)); rfl; rw [HW6.out]) | (at_builtin; refine gpl_app TH rfl (.tmp 20) (.tmp 25) rfl W.heap.size (.slice A1 n1 c1) (sif q (l.take k)) rfl O6.out _ 1 1 [⟨x.ac, p⟩] rfl RD.out (fun e => by cases e) LT.out B6.out.size ?_; intro v' w' o1 g1 o9))
        have O9 := Lib.hid o1
        have B9 := Lib.hid (B6.out.grown g1 B6.out.size (fun j hj => (gown_lt O6.out hj).1))
        clear o1 g1 o9
        go_roundw
        case rel => exact ⟨k + 1, hlt, by go_num, by rw [SY.out]; exact O9.out, B9.out⟩
        case measure => simp [intOf]; omega
      · have dp : decide (0 < p) = false := decide_eq_false cp
        have SY : Hid (sif q (l.take (k + 1)) = sif q (l.take k)) := Lib.hid (by rw [SN.out, if_neg cp])
        clear SN
        go_wp2_with (first | ((with_reducible refine gwl_load TH b (o + k * 2) RG.out ?_ ?_ ?_); rfl; rfl) | (refine gwl_store TH x wr.heap.size X1.out rfl rfl ?_; rw [HW2.out]))
        go_roundw
        case rel => exact ⟨k + 1, hlt, by go_num, by rw [SY.out]; exact O2.out, B3.out⟩
        case measure => simp [intOf]; omega
    case neg =>
      obtain rfl : n = k := by omega
      have el : l.take n = l := List.take_of_length_le (by rw [NL.out]; exact Nat.le_refl _)
      rw [el] at HO
      clear el
      go_wp2_with fail
      go_ret
      exact ⟨_, rfl, HO.out, HB.out⟩
set_option maxRecDepth 100000 in
set_option maxHeartbeats 8000000 in
theorem pparts14 (q : Int) (A : Option Addr) (len cap : Nat) (l : List Ho) (w : World) (hf : I64 q) (hr : EH.Rd w A len l) (hk : ∀ d, d ∈ l → d.ok) (hl : len ≤ maxLen) : Calls Try.prog 8 #[.int .i64 q, .slice A len cap] w (fun e w' => ToldP q l w.heap.size w w' e) := by
  have eg : ∀ args w, (callFunc 13 args).run Try.prog w = .ok (.enter 13 args) w := fun args w => by go_simp
  have NL := Lib.hid hr.1
  obtain ⟨W1, hW1⟩ : ∃ W1, w.alloc (.cells #[.slice A len cap] 22) = W1 := ⟨_, rfl⟩
  have b1 : Below w.heap.size w W1 := by rw [← hW1]; exact below_new w _
  have hh : W1.heap[w.heap.size]? = some (.cells #[.slice A len cap] 22 (0, 0)) := by rw [← hW1]; exact heap_alloc_new w _
  have k0 : W1.cell? ⟨w.heap.size, 0, none⟩ = some (.slice A len cap) := by rw [cell_of_row _ _ _ _ _ _ hh]; rfl
  have s1 : W1.heap.size = w.heap.size + 1 := by rw [← hW1]; simp
  have B1 := Lib.hid b1
  have HW1 := Lib.hid hW1
  have S1 := Lib.hid s1
  clear hW1 b1 hh s1
  unfold maxLen at hl
  by_cases h64 : 64 < len
  · have d0 : decide (64 < (len : Int)) = true := decide_eq_true (by omega)
    have he : Hid (errP q l = 3) := Lib.hid (by unfold errP; rw [if_pos (by rw [NL.out]; exact h64)])
    clear hr hk h64
    go_enter Try.func8, Try.ntmps8
    go_wp2_with (rw [HW1.out])
    go_ret2
    exact toldP_bad he.out (by decide) B1.out
  have d0 : decide (64 < (len : Int)) = false := decide_eq_false (by omega)
  have EL : ∀ x y : Int, (if 64 < l.length then x else y) = y := fun x y => if_neg (by rw [NL.out]; exact h64)
  by_cases hq0 : q = 0
  · have d1 : (q == 0) = true := by simp [hq0]
    have he : Hid (errP q l = 2) := Lib.hid (by unfold errP; rw [EL, if_pos hq0])
    clear hr hk h64 EL hq0
    go_enter Try.func8, Try.ntmps8
    go_wp2_with (rw [HW1.out])
    go_ret2
    exact toldP_bad he.out (by decide) B1.out
  have d1 : (q == 0) = false := by simp [hq0]
  have EZ : ∀ x y : Int, (if q = 0 then x else y) = y := fun x y => if_neg hq0
  have WI := Lib.hid fun w => within_any q 10000000 hf (by unfold I64; omega) w
  by_cases hq1 : -10000000 ≤ q ∧ q ≤ 10000000
  case neg =>
    have he : Hid (errP q l = 2) := Lib.hid (by unfold errP; rw [EL, EZ, if_pos hq1])
    have ew : within q 10000000 = false := decide_eq_false fun h => hq1 h.2
    rw [ew] at WI
    clear hr hk h64 EL EZ hq0 hq1 ew
    go_enter Try.func8, Try.ntmps8
    go_wp2_with (rw [HW1.out])
    refine (WI.out _).mono ?_; rintro e w4 ⟨rfl, rfl⟩
    go_wp2_with fail
    go_ret2
    exact toldP_bad he.out (by decide) B1.out
  have EB : ∀ x y : Int, (if ¬ (-10000000 ≤ q ∧ q ≤ 10000000) then x else y) = y := fun x y => if_neg (by simpa using hq1)
  have ew : within q 10000000 = true := decide_eq_true ⟨by omega, hq1⟩
  rw [ew] at WI
  have HR := Lib.hid fun (W : World) (b : Below w.heap.size w W) => (show EH.Rd W A len l from grd_below hr b (Nat.le_refl _))
  have MY := Lib.hid (pmay14 A len cap l W1 (HR.out W1 B1.out) hk (by omega))
  cases hris : risH 0 l
  case false =>
    have he : Hid (errP q l = 2) := Lib.hid (by unfold errP; rw [EL, EZ, EB, if_pos hris])
    rw [hris] at MY
    clear hr hk h64 EL EZ EB hq0 hq1 ew hris
    go_enter Try.func8, Try.ntmps8
    go_wp2_with (rw [HW1.out])
    refine (WI.out _).mono ?_; rintro e w4 ⟨rfl, rfl⟩
    go_wp2_with fail
    refine MY.out.mono ?_; rintro e w5 ⟨rfl, q5⟩
    have Q5 := Lib.hid (B1.out.trans (q5.mono B1.out.size))
    clear q5
    go_wp2_with fail
    go_ret2
    exact toldP_bad he.out (by decide) Q5.out
  rw [hris] at MY
  have INS := Lib.hid (fun x hx => (risH_in hris x hx).1)
  have E7 : Hid (sm (wsP q l) < mag q → errP q l = 7) := Lib.hid fun h2 => by unfold errP; rw [EL, EZ, EB, if_neg (by rw [hris]; decide), if_pos h2]
  have EN : Hid (¬ sm (wsP q l) < mag q → MayP q l) := Lib.hid fun h2 => ⟨by rw [NL.out]; omega, hq0, hq1, hris, by omega⟩
  have MG : Hid (0 < mag q ∧ mag q ≤ 10000000) := Lib.hid (by unfold mag; split <;> omega)
  have L64 : Hid (l.length ≤ 64) := Lib.hid (by rw [NL.out]; omega)
  have SH := Lib.hid fun (W : World) (A3 : Option Addr) (n3 c3 : Nat) (h : EH.Rd W A3 n3 (sif q l)) => pshare14 q l A3 n3 c3 W h INS.out L64.out MG.out EN.out E7.out
  have SI := Lib.hid fun (s : Int) (hs : ∀ x : Ho, s * x.q = opq q x) (W : World) (b : Below W1.heap.size W1 W) => psift14 w.heap.size q s A len cap l W (HR.out W (B1.out.trans (b.mono B1.out.size))) (cell_below k0 b (by rw [S1.out]; exact Nat.lt_succ_self _)) INS.out (by have := L64.out; have := NL.out; omega) hs
  obtain ⟨hq2, hq3⟩ := hq1
  clear hr hk h64 EL EZ EB ew hris hl hf
  by_cases hn : q < 0
  · have dn : decide (q < 0) = true := decide_eq_true hn
    have OP : Hid (∀ x : Ho, 1 * x.q = opq q x) := Lib.hid fun x => by unfold opq; rw [if_neg (by omega)]; omega
    have wn : IntKind.i64.wrap (-q) = mag q := by rw [IntKind.wrap_i64]; unfold mag; rw [if_pos hn]; omega
    have SJ := Lib.hid (SI.out 1 OP.out)
    clear hn SI OP
    go_enter Try.func8, Try.ntmps8
    go_wp2_with (rw [HW1.out])
    refine (WI.out _).mono ?_; rintro e w4 ⟨rfl, rfl⟩
    go_wp2_with fail
    refine MY.out.mono ?_; rintro e w5 ⟨rfl, q5⟩
    have Q5 := Lib.hid q5
    clear q5
    go_wp2_with fail
    refine (SJ.out w5 Q5.out).mono ?_; rintro e w6 ⟨v, rfl, o6, q6⟩
    have Q6 := Lib.hid (Q5.out.trans (q6.mono Q5.out.size))
    obtain ⟨A6, c6, rfl, -⟩ := gown_form o6
    have R6 := Lib.hid (gown_rd o6)
    clear o6 q6
    go_wp2_with fail
    refine (SH.out w6 A6 _ c6 R6.out).mono ?_; rintro e w7 ⟨A7, c7, rfl, r7, q7⟩
    have TT := Lib.hid (told_trans (q := q) (l := l) ⟨A7, c7, rfl, r7, q7⟩ (B1.out.trans (Q6.out.mono B1.out.size)))
    clear r7 q7
    obtain ⟨N7, hN7⟩ : ∃ N, (if errP q l = 0 then outP q l else []).length = N := ⟨_, rfl⟩
    rw [hN7] at TT ⊢
    clear hN7
    obtain ⟨E7, hE7⟩ : ∃ E, errP q l = E := ⟨_, rfl⟩
    rw [hE7] at TT ⊢
    clear hE7
    go_wp2_with fail
    go_ret2
    exact TT.out
  · have dn : decide (q < 0) = false := decide_eq_false hn
    have OP : Hid (∀ x : Ho, -1 * x.q = opq q x) := Lib.hid fun x => by unfold opq; rw [if_pos (by omega)]; omega
    have wn : mag q = q := by unfold mag; rw [if_neg hn]
    have SJ := Lib.hid (SI.out (-1) OP.out)
    rw [wn] at SH
    clear hn SI OP
    go_enter Try.func8, Try.ntmps8
    go_wp2_with (rw [HW1.out])
    refine (WI.out _).mono ?_; rintro e w4 ⟨rfl, rfl⟩
    go_wp2_with fail
    refine MY.out.mono ?_; rintro e w5 ⟨rfl, q5⟩
    have Q5 := Lib.hid q5
    clear q5
    go_wp2_with fail
    refine (SJ.out w5 Q5.out).mono ?_; rintro e w6 ⟨v, rfl, o6, q6⟩
    have Q6 := Lib.hid (Q5.out.trans (q6.mono Q5.out.size))
    obtain ⟨A6, c6, rfl, -⟩ := gown_form o6
    have R6 := Lib.hid (gown_rd o6)
    clear o6 q6
    go_wp2_with fail
    refine (SH.out w6 A6 _ c6 R6.out).mono ?_; rintro e w7 ⟨A7, c7, rfl, r7, q7⟩
    have TT := Lib.hid (told_trans (q := q) (l := l) ⟨A7, c7, rfl, r7, q7⟩ (B1.out.trans (Q6.out.mono B1.out.size)))
    clear r7 q7
    obtain ⟨N7, hN7⟩ : ∃ N, (if errP q l = 0 then outP q l else []).length = N := ⟨_, rfl⟩
    rw [hN7] at TT ⊢
    clear hN7
    obtain ⟨E7, hE7⟩ : ∃ E, errP q l = E := ⟨_, rfl⟩
    rw [hE7] at TT ⊢
    clear hE7
    go_wp2_with fail
    go_ret2
    exact TT.out
end Go.Proofs.Ytpfhkmppbochnaa.Zt
namespace Go.Proofs.Ytpfhkmppbochnaa
/-- What is asked of the program. -/
theorem tear : TearK := ⟨fun q A len cap l w hf hr hk hl => Zt.pparts14 q A len cap l w hf hr hk hl⟩
end Go.Proofs.Ytpfhkmppbochnaa
