/- The program's settle: evenOut, reckon, settled, Settle. -/
import Derived.Test.YtlbekdpmfjhjhaaHSty
import Derived.Test.YtlbekdpmfjhjhaaG05
namespace Go.Proofs.Ytlbekdpmfjhjhaa.Zs
open Go.RowKit Go.Shelf
set_option linter.unusedVariables false
set_option linter.unusedSimpArgs false

/-- Numbers in memory. -/
def EI13 : Elt Int := ⟨fun n => [.int .i64 n], 1, by decide, fun _ => rfl, fun x u hu => by
  simp only [List.mem_cons, List.not_mem_nil, or_false] at hu
  rcases hu with rfl
  rfl⟩
theorem info_ni13 : ∃ z by', (Try.prog.info? 2).map (fun i => (i.zero, i.size, i.bytes)) = some (some z, 1, by') ∧ z.cells.size = 1 ∧ by' ≤ 4096 := ⟨.int .i64 0, 8, by kernel_rfl, rfl, by decide⟩
theorem ni_app13 {w : World} {ops : Array Oper} {rest : List Oper} {o : Oper} {a : Act} {Q : Exit → Act → World → Prop} (hgd : o.guard = none) (s x : Operand)
    (ho : o.op = .call { callee := .builtin .append, args := #[s, x], argTypes := #[38, 38] }) (base : Nat) (v : Value) (xs : List Int) (hs : a.eval s = v)
    (hown : EI13.Own 2 w base v xs) (ad : Addr) (m c : Nat) (l : List Int) (hx : a.eval x = .slice (some ad) m c) (hr : EI13.Rd w (some ad) m l) (hlen : xs.length + m ≤ 100000) (hbase : base ≤ w.heap.size)
    (h : ∀ v' w', EI13.Own 2 w' base v' (xs ++ l) → w.grownBy w' v.ownBlock → (v'.ownBlock = v.ownBlock ∨ v'.ownBlock = some w.heap.size) → wpList Try.prog ops Q rest (a.put o.dst v') w') : wpList Try.prog ops Q (o :: rest) a w := by
  obtain ⟨z, by', hi, hzs, hby⟩ := info_ni13
  obtain ⟨i0, hi0, hz0, hz1, hz2⟩ := info_parts hi
  have el : (xs ++ l).length = xs.length + m := by rw [List.length_append, hr.1]
  refine wpList_append_own_at w hgd s x 38 ho base 2 i0 z 1 by' Try.underlying38 hi0 hz0 hz1 hz2 hzs (by decide) v xs.length (EI13.flat xs) hs hown ad m c (EI13.flat l) hx ?_ (grd_news hr) (gflat_cells _) (by unfold maxLen; omega) ?_ hbase fun v' w' h2 h3 _ h5 => h v' w' (by unfold Elt.Own; rw [el, gflat_app]; exact h2) h3 h5
  · rw [gflat_len, hr.1]; rfl
  · have := Nat.mul_le_mul hlen hby
    omega
theorem own_one13 (w : World) (n : Int) : EI13.Own 2 (w.alloc (.cells #[.int .i64 n] 2)) w.heap.size (.slice (some ⟨w.heap.size, 0, none⟩) 1 1) [n] :=
  ⟨rfl, .inr ⟨w.heap.size, 1, #[.int .i64 n], rfl, Nat.le_refl _, heap_alloc_new w _, Nat.le_refl _, by unfold maxLen; omega, rfl, rfl⟩⟩
theorem rd_ei13 {w : World} {A : Option Addr} {n : Nat} {l : List Int} (h : EI13.Rd w A n l) : Rd w A n l := by
  refine ⟨h.1, fun hn => ?_⟩
  have h0 : 0 < l.length := by rw [h.1]; exact hn
  obtain ⟨b, o, rfl, _⟩ := grd_rng h (List.getElem?_eq_getElem h0)
  refine ⟨b, o, rfl, fun j hj => ?_⟩
  have hj' : j < l.length := by rw [h.1]; exact hj
  obtain ⟨b2, o2, e2, r⟩ := grd_rng h (List.getElem?_eq_getElem hj')
  cases e2
  have := r 0 (.int .i64 l[j]) rfl
  rw [show o + j * EI13.N + 0 = o + j by show o + j * 1 + 0 = o + j; omega] at this
  rw [this]
  simp [List.getD, hj']
theorem four13 {α : Type} {l : Array α} (h : l.size = 4) : ∃ a b c d, l = #[a, b, c, d] := by
  obtain ⟨l⟩ := l
  match l, h with
  | [a, b, c, d], _ => exact ⟨a, b, c, d, rfl⟩
theorem fill_sd (o : Sd) (z : Value) (h : z.cells.size = ESd.N) : Instr.fill (fun i => some (i * ESd.N, ESd.N)) ((Array.range (1 * ESd.N)).map (z.cells[· % z.cells.size]!)) [(0, .agg (ESd.cells o).toArray)] = some (ESd.cells o).toArray := by
  obtain ⟨a, b, c, d, hz⟩ := four13 (show z.cells.size = 4 from h)
  rw [hz]
  obtain ⟨ac, ca, de, cu⟩ := o
  kernel_rfl
/-- Told bad, told well. -/
theorem ztoldS_bad {f E : Int} {l : List Du} {B : Nat} {w w' : World} (he : errS f l = E) (h0 : E ≠ 0) (q : Below B w w') : ToldS f l B w w' (.returned (.tuple #[.slice none 0 0, .int .i64 0, .int .i64 E])) := by
  refine ⟨none, 0, ?_, ?_, q⟩
  · rw [he, if_neg h0, if_neg h0]; rfl
  · rw [he, if_neg h0]; exact grd_nil _ _
theorem ztoldS_ok {f : Int} {l : List Du} {B n c : Nat} {A : Option Addr} {w w' : World} (he : errS f l = 0) (hn : l.length = n) (r : ESd.Rd w' A n (outS f l)) (q : Below B w w') : ToldS f l B w w' (.returned (.tuple #[.slice A n c, .int .i64 (fundS f l), .int .i64 0])) := by
  refine ⟨A, c, ?_, ?_, q⟩
  · rw [he, if_pos rfl, if_pos rfl, out_len, hn]
  · rw [he, if_pos rfl, out_len, hn]; exact r

set_option maxRecDepth 100000 in
set_option maxHeartbeats 8000000 in
theorem peven13 (A : Option Addr) (n c : Nat) (l : List Du) (w : World) (hr : ED.Rd w A n l) (hin : ∀ x, x ∈ l → In x) (hn : n ≤ 64) :
    Calls Try.prog 13 #[.slice A n c] w fun e w' => e = .returned (.bool (decide (sumV l = 0))) ∧ Below w.heap.size w w' := by
  have hz := zero_du
  have HR := Lib.hid hr
  have HK := Lib.hid hin
  have HL := Lib.hid hr.1
  clear hr hin
  go_enter Try.func13, Try.ntmps13
  go_wp2_with fail
  go_loopw [3, 8] (fun s i wr => ∃ k : Nat, k ≤ n ∧ i = .int .i64 k ∧ s = .int .i64 (sumV (l.take k)) ∧ Below w.heap.size w wr) (fun _ i _ => n - (intOf i).toNat)
  case atStart => exact ⟨0, Nat.zero_le _, rfl, rfl, Below.refl _ _⟩
  case round =>
    obtain ⟨k, hk, rfl, rfl, hb⟩ := hrel
    have HB := Lib.hid hb
    obtain ⟨sx, hs⟩ : ∃ s, sumV (l.take k) = s := ⟨_, rfl⟩
    rw [hs]
    have sb := sumV_xb (l := l.take k) fun x hx => HK.out x (List.mem_of_mem_take hx)
    have lk : (l.take k).length ≤ 64 := by rw [List.length_take]; have := HL.out; omega
    have sb1 : -6400000000000000000 ≤ sx ∧ sx ≤ 6400000000000000000 := by rw [← hs]; omega
    obtain ⟨sb1, sb2⟩ := sb1
    have HS := Lib.hid hs
    clear hb sb lk hs
    by_cases hlt : k < n
    case neg =>
      obtain rfl : k = n := by omega
      have E : Hid (sx = sumV l) := Lib.hid (by rw [← HS.out, List.take_of_length_le (by rw [HL.out]; exact Nat.le_refl _)])
      go_wp2_with fail
      go_ret
      rw [← E.out]
      exact ⟨by first | rfl | (simp; rfl), HB.out⟩
    case pos =>
      have hdk : decide ((k : Int) < n) = true := decide_eq_true (by omega)
      have hki : (k : Int) < (n : Int) := by omega
      obtain ⟨x, hx⟩ : ∃ x, l[k]? = some x := ⟨l[k]'(by have := HL.out; omega), List.getElem?_eq_getElem _⟩
      have IN := HK.out x (List.mem_of_getElem? hx)
      unfold In at IN
      obtain ⟨_, i1, i2⟩ := IN
      have SV : Hid (sumV (l.take (k + 1)) = sx + x.v) := Lib.hid (by rw [take_x13 hx, sumV_x, HS.out])
      obtain ⟨b, o, rfl, rg⟩ := rng_d13 HR.out HB.out (Nat.le_refl _) hx
      have RG := Lib.hid rg
      have X1 := Lib.hid (gbx_new (E := ED) (te := 30) wr zeroDu)
      obtain ⟨W2, hW2⟩ : ∃ W2, (wr.alloc (.cells (ED.cells zeroDu).toArray 30)).setRow wr.heap.size (ED.cells x).toArray = W2 := ⟨_, rfl⟩
      have y2 : ED.Bx 30 W2 wr.heap.size x := by rw [← hW2]; exact gbx_set X1.out
      have B2 : Hid (Below wr.heap.size wr W2) := Lib.hid (by rw [← hW2]; exact below_row0 (below_new _ _) (Nat.le_refl _))
      have k2 : W2.cell? ⟨wr.heap.size, 2, none⟩ = some (.int .i64 x.v) := gbx_cell y2 2
      have wm : IntKind.i64.wrap (sx + x.v) = sx + x.v := by rw [IntKind.wrap_i64]; omega
      have HW2 := Lib.hid hW2
      clear hx rg y2 hW2
      go_wp2_with (first | ((with_reducible refine gwl_load TDu b (o + k * 3) RG.out ?_ ?_ ?_); rfl; rfl) | (refine gwl_store TDu x wr.heap.size X1.out rfl rfl ?_; rw [HW2.out]))
      go_roundw
      case rel => exact ⟨k + 1, hlt, by go_num, by rw [SV.out], HB.out.trans (B2.out.mono HB.out.size)⟩
      case measure => simp [intOf]; omega
set_option maxRecDepth 100000 in
set_option maxHeartbeats 8000000 in
theorem preckon13 (A : Option Addr) (n c : Nat) (l : List Du) (w : World) (hr : ED.Rd w A n l) (hin : ∀ x, x ∈ l → In x) (hn : n ≤ 64) :
    Calls Try.prog 14 #[.slice A n c] w fun e w' => ∃ v, e = .returned (.tuple #[.int .i64 (defs l), v]) ∧ EI13.Own 2 w' w.heap.size v (won l) ∧ Below w.heap.size w w' := by
  have hz := zero_du
  have HR := Lib.hid hr
  have HK := Lib.hid hin
  have HL := Lib.hid hr.1
  clear hr hin
  go_enter Try.func14, Try.ntmps14
  go_wp2_with fail
  go_loopw [2, 3, 8] (fun s v i wr => ∃ k : Nat, k ≤ n ∧ i = .int .i64 k ∧ s = .int .i64 (defs (l.take k)) ∧ EI13.Own 2 wr w.heap.size v (won (l.take k)) ∧ Below w.heap.size w wr) (fun _ _ i _ => n - (intOf i).toNat)
  case atStart => exact ⟨0, Nat.zero_le _, rfl, rfl, gown_nil _ _, Below.refl _ _⟩
  case round =>
    obtain ⟨k, hk, rfl, rfl, ho, hb⟩ := hrel
    have HB := Lib.hid hb
    have HO := Lib.hid ho
    obtain ⟨sx, hs⟩ : ∃ s, defs (l.take k) = s := ⟨_, rfl⟩
    rw [hs]
    have sb := defs_xb (l := l.take k) fun x hx => HK.out x (List.mem_of_mem_take hx)
    have lk : (l.take k).length ≤ 64 := by rw [List.length_take]; have := HL.out; omega
    have sb1 : 0 ≤ sx ∧ sx ≤ 6400000000000000000 := by rw [← hs]; omega
    obtain ⟨sb1, sb2⟩ := sb1
    have HS := Lib.hid hs
    have LW : Hid ((won (l.take k)).length + 1 ≤ 100000) := Lib.hid (by have := won_len (l.take k); omega)
    obtain ⟨A1, n1, c1, rfl⟩ := gown_any HO.out
    clear hb sb lk hs ho
    by_cases hlt : k < n
    case neg =>
      obtain rfl : k = n := by omega
      have el : l.take k = l := List.take_of_length_le (by rw [HL.out]; exact Nat.le_refl _)
      have E : Hid (sx = defs l) := Lib.hid (by rw [← HS.out, el])
      rw [el] at HO
      clear el LW HS
      go_wp2_with fail
      go_ret2
      exact ⟨_, by rw [E.out]; rfl, HO.out, HB.out⟩
    case pos =>
      have hdk : decide ((k : Int) < n) = true := decide_eq_true (by omega)
      have hki : (k : Int) < (n : Int) := by omega
      obtain ⟨x, hx⟩ : ∃ x, l[k]? = some x := ⟨l[k]'(by have := HL.out; omega), List.getElem?_eq_getElem _⟩
      have IN := HK.out x (List.mem_of_getElem? hx)
      unfold In at IN
      obtain ⟨⟨i3, i4⟩, i1, i2⟩ := IN
      have SV : Hid (defs (l.take (k + 1)) = sx + defD x) := Lib.hid (by rw [take_x13 hx, defs_x, HS.out])
      have WV : Hid (won (l.take (k + 1)) = won (l.take k) ++ if 0 < x.v then [x.v] else []) := Lib.hid (by rw [take_x13 hx, won_snoc])
      obtain ⟨b, o, rfl, rg⟩ := rng_d13 HR.out HB.out (Nat.le_refl _) hx
      have RG := Lib.hid rg
      have X1 := Lib.hid (gbx_new (E := ED) (te := 30) wr zeroDu)
      obtain ⟨W2, hW2⟩ : ∃ W2, (wr.alloc (.cells (ED.cells zeroDu).toArray 30)).setRow wr.heap.size (ED.cells x).toArray = W2 := ⟨_, rfl⟩
      have y2 : ED.Bx 30 W2 wr.heap.size x := by rw [← hW2]; exact gbx_set X1.out
      have B2 : Hid (Below wr.heap.size wr W2) := Lib.hid (by rw [← hW2]; exact below_row0 (below_new _ _) (Nat.le_refl _))
      have B3 : Hid (Below w.heap.size w W2) := Lib.hid (HB.out.trans (B2.out.mono HB.out.size))
      have O2 := Lib.hid (gown_below HO.out B2.out)
      have k1 : W2.cell? ⟨wr.heap.size, 1, none⟩ = some (.int .i64 x.ca) := gbx_cell y2 1
      have k2 : W2.cell? ⟨wr.heap.size, 2, none⟩ = some (.int .i64 x.v) := gbx_cell y2 2
      have wn : IntKind.i64.wrap (-x.ca) = -x.ca := by rw [IntKind.wrap_i64]; omega
      have wn2 : IntKind.i64.wrap (-x.ca - x.v) = -x.ca - x.v := by rw [IntKind.wrap_i64]; omega
      have HW2 := Lib.hid hW2
      clear hx rg y2 hW2 HS HO
      by_cases cv : 0 < x.v
      · have cd : -x.ca - x.v < 0 := by omega
        have wm : IntKind.i64.wrap (sx + 0) = sx := by rw [IntKind.wrap_i64]; omega
        have dv : decide (0 < x.v) = true := decide_eq_true cv
        have ED0 : Hid (defs (l.take (k + 1)) = sx) := Lib.hid (by rw [SV.out]; unfold defD; split <;> omega)
        have W3' : Hid (won (l.take (k + 1)) = won (l.take k) ++ [x.v]) := Lib.hid (by rw [WV.out, if_pos cv])
        obtain ⟨W3, hW3⟩ : ∃ W3, W2.alloc (.cells #[.int .i64 x.v] 2) = W3 := ⟨_, rfl⟩
        have k23 : W3.cell? ⟨wr.heap.size, 2, none⟩ = some (.int .i64 x.v) := by rw [← hW3]; exact cell_below k2 (below_new _ _) (Nat.le_refl _)
        have b23 : Below W2.heap.size W2 W3 := by rw [← hW3]; exact below_new _ _
        have RD : Hid (EI13.Rd W3 (some ⟨W2.heap.size, 0, none⟩) 1 [x.v]) := Lib.hid (by rw [← hW3]; exact gbx_rd (gbx_new (E := EI13) W2 x.v))
        have O3 := Lib.hid (gown_below O2.out b23)
        have B4 := Lib.hid (B3.out.trans (b23.mono B3.out.size))
        have HW3 := Lib.hid hW3
        clear hW3 b23 SV WV
        go_wp2_with (first | ((with_reducible refine gwl_load TDu b (o + k * 3) RG.out ?_ ?_ ?_); rfl; rfl) | (refine gwl_store TDu x wr.heap.size X1.out rfl rfl ?_; rw [HW2.out]) | (rw [HW3.out]) | (at_builtin; refine ni_app13 rfl (.tmp 24) (.tmp 27) rfl w.heap.size (.slice A1 n1 c1) (won (l.take k)) rfl O3.out ⟨W2.heap.size, 0, none⟩ 1 1 [x.v] rfl RD.out LW.out B4.out.size ?_; intro v' w' o1 g1 o3))
        have O9 := Lib.hid o1
        have B9 := Lib.hid (B4.out.grown g1 B4.out.size (fun j hj => (gown_lt O3.out hj).1))
        clear o1 g1 o3
        go_roundw
        case rel => exact ⟨k + 1, hlt, by go_num, by rw [ED0.out]; congr 1; omega, by rw [W3'.out]; exact O9.out, B9.out⟩
        case measure => simp [intOf]; omega
      · have dv : decide (0 < x.v) = false := decide_eq_false cv
        have W3' : Hid (won (l.take (k + 1)) = won (l.take k)) := Lib.hid (by rw [WV.out, if_neg cv, List.append_nil])
        by_cases cd : -x.ca - x.v < 0
        · have wm : IntKind.i64.wrap (sx + 0) = sx := by rw [IntKind.wrap_i64]; omega
          have ED0 : Hid (defs (l.take (k + 1)) = sx) := Lib.hid (by rw [SV.out]; unfold defD; split <;> omega)
          clear SV WV
          go_wp2_with (first | ((with_reducible refine gwl_load TDu b (o + k * 3) RG.out ?_ ?_ ?_); rfl; rfl) | (refine gwl_store TDu x wr.heap.size X1.out rfl rfl ?_; rw [HW2.out]))
          go_roundw
          case rel => exact ⟨k + 1, hlt, by go_num, by rw [ED0.out]; congr 1; omega, by rw [W3'.out]; exact O2.out, B3.out⟩
          case measure => simp [intOf]; omega
        · have wm : IntKind.i64.wrap (sx + (-x.ca - x.v)) = sx + (-x.ca - x.v) := by rw [IntKind.wrap_i64]; omega
          have ED0 : Hid (defs (l.take (k + 1)) = sx + (-x.ca - x.v)) := Lib.hid (by rw [SV.out]; unfold defD; split <;> omega)
          clear SV WV
          go_wp2_with (first | ((with_reducible refine gwl_load TDu b (o + k * 3) RG.out ?_ ?_ ?_); rfl; rfl) | (refine gwl_store TDu x wr.heap.size X1.out rfl rfl ?_; rw [HW2.out]))
          go_roundw
          case rel => exact ⟨k + 1, hlt, by go_num, by rw [ED0.out]; congr 1; omega, by rw [W3'.out]; exact O2.out, B3.out⟩
          case measure => simp [intOf]; omega
theorem zero_sd (w : World) : (zeroValue 34).run Try.prog w = .ok (.agg (ESd.cells zeroSd).toArray) w := by kernel_rfl
theorem sd_c3 (x : Sd) (c : Int) : ESd.cells ⟨x.ac, x.ca, x.de, c⟩ = (ESd.cells x).set 3 (.int .i64 c) := rfl
theorem sd_c1 (x : Sd) (y : Int) : ESd.cells ⟨x.ac, y, x.de, x.cu⟩ = (ESd.cells x).set 1 (.int .i64 y) := rfl
set_option maxRecDepth 100000 in
set_option maxHeartbeats 16000000 in
theorem psettled13 (A : Option Addr) (n c : Nat) (l : List Du) (A2 : Option Addr) (m c2 : Nat) (K : List Int) (X : List Sd) (w : World) (hr : ED.Rd w A n l) (hrK : Rd w A2 m K) (hin : ∀ x, x ∈ l → In x) (hn : n ≤ 64) (hX : X.length = l.length) (hm : (won l).length ≤ m)
    (hs : ∀ (k : Nat) (d : Du), l[k]? = some d → ∃ c, X[k]? = some (less (sd0 d) c) ∧ 0 ≤ c ∧ c ≤ wt d ∧ (0 < d.v → K.getD (won (l.take k)).length 0 = c) ∧ (¬ 0 < d.v → c = 0)) :
    Calls Try.prog 16 #[.slice A n c, .slice A2 m c2] w fun e w' => ∃ v, e = .returned v ∧ ESd.Own 34 w' w.heap.size v X ∧ Below w.heap.size w w' := by
  have hz := zero_du
  have hzs := zero_sd
  have HR := Lib.hid hr
  have HRK := Lib.hid hrK
  have HK := Lib.hid hin
  have HL := Lib.hid hr.1
  have HX := Lib.hid hX
  have HM := Lib.hid hm
  have HS := Lib.hid hs
  clear hr hin hrK hX hm hs
  go_enter Try.func16, Try.ntmps16
  go_wp2_with fail
  go_loopw [5, 6, 13] (fun v j i wr => ∃ k : Nat, k ≤ n ∧ i = .int .i64 k ∧ j = .int .i64 (won (l.take k)).length ∧ ESd.Own 34 wr w.heap.size v (X.take k) ∧ Below w.heap.size w wr) (fun _ _ i _ => n - (intOf i).toNat)
  case atStart => exact ⟨0, Nat.zero_le _, rfl, rfl, gown_nil _ _, Below.refl _ _⟩
  case round =>
    obtain ⟨k, hk, rfl, rfl, ho, hb⟩ := hrel
    have HB := Lib.hid hb
    have HO := Lib.hid ho
    obtain ⟨A1, n1, c1, rfl⟩ := gown_any HO.out
    clear hb ho
    by_cases hlt : k < n
    case neg =>
      obtain rfl : k = n := by omega
      have el : X.take k = X := List.take_of_length_le (by rw [HX.out, HL.out]; exact Nat.le_refl _)
      rw [el] at HO
      clear el
      go_wp2_with fail
      go_ret
      exact ⟨_, rfl, HO.out, HB.out⟩
    case pos =>
      have hdk : decide ((k : Int) < n) = true := decide_eq_true (by omega)
      have hki : (k : Int) < (n : Int) := by omega
      obtain ⟨x, hx⟩ : ∃ x, l[k]? = some x := ⟨l[k]'(by have := HL.out; omega), List.getElem?_eq_getElem _⟩
      have IN := HK.out x (List.mem_of_getElem? hx)
      unfold In at IN
      obtain ⟨⟨i3, i4⟩, i1, i2⟩ := IN
      obtain ⟨c, hc, c0, c9, hc1, hc2⟩ := HS.out k x hx
      have XT : Hid (X.take (k + 1) = X.take k ++ [less (sd0 x) c]) := Lib.hid (take_x13 hc)
      have NX := Lib.hid (won_take hx)
      have NL := won_lt hx
      have LX : Hid ((X.take k).length + 1 ≤ 100000) := Lib.hid (by rw [List.length_take]; omega)
      obtain ⟨j, hj⟩ : ∃ j, (won (l.take k)).length = j := ⟨_, rfl⟩
      rw [hj] at hc1 NX NL ⊢
      obtain ⟨b, o, rfl, rg⟩ := rng_d13 HR.out HB.out (Nat.le_refl _) hx
      have RG := Lib.hid rg
      have X1 := Lib.hid (gbx_new (E := ED) (te := 30) wr zeroDu)
      obtain ⟨W2, hW2⟩ : ∃ W2, (wr.alloc (.cells (ED.cells zeroDu).toArray 30)).setRow wr.heap.size (ED.cells x).toArray = W2 := ⟨_, rfl⟩
      have y2 : ED.Bx 30 W2 wr.heap.size x := by rw [← hW2]; exact gbx_set X1.out
      have B2 : Hid (Below wr.heap.size wr W2) := Lib.hid (by rw [← hW2]; exact below_row0 (below_new _ _) (Nat.le_refl _))
      have B3 : Hid (Below w.heap.size w W2) := Lib.hid (HB.out.trans (B2.out.mono HB.out.size))
      have k0 : W2.cell? ⟨wr.heap.size, 0, none⟩ = some (.int .u32 x.ac) := gbx_cell y2 0
      have k1 : W2.cell? ⟨wr.heap.size, 1, none⟩ = some (.int .i64 x.ca) := gbx_cell y2 1
      have k2 : W2.cell? ⟨wr.heap.size, 2, none⟩ = some (.int .i64 x.v) := gbx_cell y2 2
      have wn : IntKind.i64.wrap (x.ca + x.v) = x.ca + x.v := by rw [IntKind.wrap_i64]; omega
      have X3 := Lib.hid (gbx_new (E := ESd) (te := 34) W2 zeroSd)
      have HW2 := Lib.hid hW2
      have LT2 : Hid (wr.heap.size < W2.heap.size) := Lib.hid (Array.getElem?_eq_some_iff.1 y2).1
      have Y2 := Lib.hid y2
      clear hx rg y2 hW2 hc hj
      by_cases cv : 0 < x.v
      · have dv : decide (0 < x.v) = true := decide_eq_true cv
        have cl : ¬ x.ca + x.v < 0 := by omega
        have dl : decide (x.ca + x.v < 0) = false := decide_eq_false cl
        obtain ⟨W3, hW3⟩ : ∃ W3, (W2.alloc (.cells (ESd.cells zeroSd).toArray 34)).setRow W2.heap.size (ESd.cells ⟨x.ac, (max (x.ca + x.v) 0), false, 0⟩).toArray = W3 := ⟨_, rfl⟩
        have y3 : ESd.Bx 34 W3 W2.heap.size ⟨x.ac, (max (x.ca + x.v) 0), false, 0⟩ := by rw [← hW3]; exact gbx_set X3.out
        have B23 : Hid (Below W2.heap.size W2 W3) := Lib.hid (by rw [← hW3]; exact below_row0 (below_new _ _) (Nat.le_refl _))
        have j2 : W3.cell? ⟨wr.heap.size, 2, none⟩ = some (.int .i64 x.v) := cell_below k2 B23.out (Nat.le_refl _)
        have HW3 := Lib.hid hW3
        have O3 := Lib.hid (HB.out.trans ((B2.out.trans (B23.out.mono B2.out.size)).mono HB.out.size))
        obtain ⟨b3, o3, rfl, hcell⟩ := (HRK.out.below O3.out).2 (by have := HM.out; have := NL cv; omega)
        have kc := hcell j (by have := HM.out; have := NL cv; omega)
        rw [hc1 cv] at kc
        have jm : (j : Int) < (m : Int) := by have := HM.out; have := NL cv; omega
        have jp : (0 : Int) ≤ j := by omega
        have wj : IntKind.i64.wrap ((j : Int) + 1) = (j : Int) + 1 := by rw [IntKind.wrap_i64]; have := HM.out; have := NL cv; have := won_len l; have := HL.out; omega
        obtain ⟨W4, hW4⟩ : ∃ W4, W3.setCell ⟨W2.heap.size, 3, none⟩ (.int .i64 c) = W4 := ⟨_, rfl⟩
        have y4 : ESd.Bx 34 W4 W2.heap.size ⟨x.ac, (max (x.ca + x.v) 0), false, c⟩ := by rw [← hW4]; exact gbx_put y3 (sd_c3 ⟨x.ac, (max (x.ca + x.v) 0), false, 0⟩ c)
        have B24 : Hid (Below W2.heap.size W2 W4) := Lib.hid (by rw [← hW4]; exact B23.out.setCell (Nat.le_refl _) _)
        have m1 : W4.cell? ⟨W2.heap.size, 1, none⟩ = some (.int .i64 (max (x.ca + x.v) 0)) := gbx_cell y4 1
        have m3 : W4.cell? ⟨W2.heap.size, 3, none⟩ = some (.int .i64 c) := gbx_cell y4 3
        have f3 : W3.frozen? ⟨W2.heap.size, 3, none⟩ = false := gbx_fz y3 3
        have e3 : W3.cell? ⟨W2.heap.size, 3, none⟩ = some (.int .i64 0) := gbx_cell y3 3
        have f1 : W4.frozen? ⟨W2.heap.size, 1, none⟩ = false := gbx_fz y4 1
        have wc : IntKind.i64.wrap (max (x.ca + x.v) 0 - c) = max (x.ca + x.v) 0 - c := by rw [IntKind.wrap_i64]; unfold wt at c9; split at c9 <;> omega
        obtain ⟨W5, hW5⟩ : ∃ W5, W4.setCell ⟨W2.heap.size, 1, none⟩ (.int .i64 (max (x.ca + x.v) 0 - c)) = W5 := ⟨_, rfl⟩
        have y5 : ESd.Bx 34 W5 W2.heap.size ⟨x.ac, max (x.ca + x.v) 0 - c, false, c⟩ := by rw [← hW5]; exact gbx_put y4 (sd_c1 ⟨x.ac, (max (x.ca + x.v) 0), false, c⟩ _)
        have B25 : Hid (Below W2.heap.size W2 W5) := Lib.hid (by rw [← hW5]; exact B24.out.setCell (Nat.le_refl _) _)
        have HW4 := Lib.hid hW4
        have HW5 := Lib.hid hW5
        have SE : Hid (less (sd0 x) c = ⟨x.ac, max (x.ca + x.v) 0 - c, false, c⟩) := Lib.hid (by unfold less sd0; rw [if_neg (by omega), decide_eq_false (by omega)]; simp only [Sd.mk.injEq, true_and, and_true]; omega)
        have Y5 := Lib.hid y5
        have B5 := Lib.hid (HB.out.trans ((B2.out.trans (B25.out.mono B2.out.size)).mono HB.out.size))
        have O5 := Lib.hid (gown_below HO.out (B2.out.trans (B25.out.mono B2.out.size)))
        obtain ⟨W6, hW6⟩ : ∃ W6, W5.alloc (.cells (ESd.cells ⟨x.ac, max (x.ca + x.v) 0 - c, false, c⟩).toArray 34) = W6 := ⟨_, rfl⟩
        have RD : Hid (ESd.Rd W6 (some ⟨W5.heap.size, 0, none⟩) 1 [⟨x.ac, max (x.ca + x.v) 0 - c, false, c⟩]) := Lib.hid (by rw [← hW6]; exact gbx_rd (gbx_new (E := ESd) W5 _))
        have O6 := Lib.hid (show ESd.Own 34 W6 w.heap.size (.slice A1 n1 c1) (X.take k) by rw [← hW6]; exact gown_below O5.out (below_new _ _))
        have B6 := Lib.hid (show Below w.heap.size w W6 by rw [← hW6]; exact B5.out.alloc B5.out.size _)
        have HW6 := Lib.hid hW6
        clear hW6 y5 y3 y4 hW4 hW5 hW3
        go_wp2_with (first | ((with_reducible refine gwl_load TDu b (o + k * 3) RG.out ?_ ?_ ?_); rfl; rfl) | (refine gwl_store TDu x wr.heap.size X1.out rfl rfl ?_; rw [HW2.out]) | (refine gwl_store TSd ⟨x.ac, (max (x.ca + x.v) 0), false, 0⟩ W2.heap.size X3.out rfl rfl ?_; rw [HW3.out]) | (rw [HW4.out]) | (rw [HW5.out]) | ((with_reducible refine gwl_load TSd W2.heap.size 0 (gbx_rng Y5.out) ?_ ?_ ?_); rfl; rfl) | ((with_reducible refine gwl_bs TSd (s := ⟨x.ac, max (x.ca + x.v) 0 - c, false, c⟩) ?_ (fill_sd _) ?_ (by decide)); rfl; rw [HW6.out]) | (at_builtin; refine gpl_app TSd rfl (.tmp 45) (.tmp 47) rfl w.heap.size (.slice A1 n1 c1) (X.take k) rfl O6.out _ 1 1 [⟨x.ac, max (x.ca + x.v) 0 - c, false, c⟩] rfl RD.out (fun e => by cases e) LX.out B6.out.size ?_; intro v' w' o1 g1 o9))
        have O9 := Lib.hid o1
        have B9 := Lib.hid (B6.out.grown g1 B6.out.size (fun j hj => (gown_lt O6.out hj).1))
        clear o1 g1 o9
        go_roundw
        case rel => exact ⟨k + 1, hlt, by go_num, by rw [NX.out, if_pos cv]; go_num, by rw [XT.out, SE.out]; exact O9.out, B9.out⟩
        case measure => simp [intOf]; omega
      · have dv : decide (0 < x.v) = false := decide_eq_false cv
        by_cases cl : x.ca + x.v < 0
        · have dl : decide (x.ca + x.v < 0) = true := decide_eq_true cl
          obtain ⟨W3, hW3⟩ : ∃ W3, (W2.alloc (.cells (ESd.cells zeroSd).toArray 34)).setRow W2.heap.size (ESd.cells ⟨x.ac, (max (x.ca + x.v) 0), true, 0⟩).toArray = W3 := ⟨_, rfl⟩
          have y3 : ESd.Bx 34 W3 W2.heap.size ⟨x.ac, (max (x.ca + x.v) 0), true, 0⟩ := by rw [← hW3]; exact gbx_set X3.out
          have B23 : Hid (Below W2.heap.size W2 W3) := Lib.hid (by rw [← hW3]; exact below_row0 (below_new _ _) (Nat.le_refl _))
          have j2 : W3.cell? ⟨wr.heap.size, 2, none⟩ = some (.int .i64 x.v) := cell_below k2 B23.out (Nat.le_refl _)
          have HW3 := Lib.hid hW3
          have SE : Hid (less (sd0 x) c = ⟨x.ac, (max (x.ca + x.v) 0), true, 0⟩) := Lib.hid (by obtain rfl := hc2 (by omega); unfold less sd0; rw [if_pos (by omega), decide_eq_true (by omega)]; simp only [Sd.mk.injEq, true_and, and_true]; omega)
          have Y5 := Lib.hid y3
          have B5 := Lib.hid (HB.out.trans ((B2.out.trans (B23.out.mono B2.out.size)).mono HB.out.size))
          have O5 := Lib.hid (gown_below HO.out (B2.out.trans (B23.out.mono B2.out.size)))
          obtain ⟨W6, hW6⟩ : ∃ W6, W3.alloc (.cells (ESd.cells ⟨x.ac, (max (x.ca + x.v) 0), true, 0⟩).toArray 34) = W6 := ⟨_, rfl⟩
          have RD : Hid (ESd.Rd W6 (some ⟨W3.heap.size, 0, none⟩) 1 [⟨x.ac, (max (x.ca + x.v) 0), true, 0⟩]) := Lib.hid (by rw [← hW6]; exact gbx_rd (gbx_new (E := ESd) W3 _))
          have O6 := Lib.hid (show ESd.Own 34 W6 w.heap.size (.slice A1 n1 c1) (X.take k) by rw [← hW6]; exact gown_below O5.out (below_new _ _))
          have B6 := Lib.hid (show Below w.heap.size w W6 by rw [← hW6]; exact B5.out.alloc B5.out.size _)
          have HW6 := Lib.hid hW6
          clear hW6 y3 hW3
          go_wp2_with (first | ((with_reducible refine gwl_load TDu b (o + k * 3) RG.out ?_ ?_ ?_); rfl; rfl) | (refine gwl_store TDu x wr.heap.size X1.out rfl rfl ?_; rw [HW2.out]) | (refine gwl_store TSd ⟨x.ac, (max (x.ca + x.v) 0), true, 0⟩ W2.heap.size X3.out rfl rfl ?_; rw [HW3.out]) | ((with_reducible refine gwl_load TSd W2.heap.size 0 (gbx_rng Y5.out) ?_ ?_ ?_); rfl; rfl) | ((with_reducible refine gwl_bs TSd (s := ⟨x.ac, (max (x.ca + x.v) 0), true, 0⟩) ?_ (fill_sd _) ?_ (by decide)); rfl; rw [HW6.out]) | (at_builtin; refine gpl_app TSd rfl (.tmp 45) (.tmp 47) rfl w.heap.size (.slice A1 n1 c1) (X.take k) rfl O6.out _ 1 1 [⟨x.ac, (max (x.ca + x.v) 0), true, 0⟩] rfl RD.out (fun e => by cases e) LX.out B6.out.size ?_; intro v' w' o1 g1 o9))
          have O9 := Lib.hid o1
          have B9 := Lib.hid (B6.out.grown g1 B6.out.size (fun j hj => (gown_lt O6.out hj).1))
          clear o1 g1 o9
          go_roundw
          case rel => exact ⟨k + 1, hlt, by go_num, by rw [NX.out, if_neg (by omega)]; go_num, by rw [XT.out, SE.out]; exact O9.out, B9.out⟩
          case measure => simp [intOf]; omega
        · have dl : decide (x.ca + x.v < 0) = false := decide_eq_false cl
          obtain ⟨W3, hW3⟩ : ∃ W3, (W2.alloc (.cells (ESd.cells zeroSd).toArray 34)).setRow W2.heap.size (ESd.cells ⟨x.ac, (max (x.ca + x.v) 0), false, 0⟩).toArray = W3 := ⟨_, rfl⟩
          have y3 : ESd.Bx 34 W3 W2.heap.size ⟨x.ac, (max (x.ca + x.v) 0), false, 0⟩ := by rw [← hW3]; exact gbx_set X3.out
          have B23 : Hid (Below W2.heap.size W2 W3) := Lib.hid (by rw [← hW3]; exact below_row0 (below_new _ _) (Nat.le_refl _))
          have j2 : W3.cell? ⟨wr.heap.size, 2, none⟩ = some (.int .i64 x.v) := cell_below k2 B23.out (Nat.le_refl _)
          have HW3 := Lib.hid hW3
          have SE : Hid (less (sd0 x) c = ⟨x.ac, (max (x.ca + x.v) 0), false, 0⟩) := Lib.hid (by obtain rfl := hc2 (by omega); unfold less sd0; rw [if_neg (by omega), decide_eq_false (by omega)]; simp only [Sd.mk.injEq, true_and, and_true]; omega)
          have Y5 := Lib.hid y3
          have B5 := Lib.hid (HB.out.trans ((B2.out.trans (B23.out.mono B2.out.size)).mono HB.out.size))
          have O5 := Lib.hid (gown_below HO.out (B2.out.trans (B23.out.mono B2.out.size)))
          obtain ⟨W6, hW6⟩ : ∃ W6, W3.alloc (.cells (ESd.cells ⟨x.ac, (max (x.ca + x.v) 0), false, 0⟩).toArray 34) = W6 := ⟨_, rfl⟩
          have RD : Hid (ESd.Rd W6 (some ⟨W3.heap.size, 0, none⟩) 1 [⟨x.ac, (max (x.ca + x.v) 0), false, 0⟩]) := Lib.hid (by rw [← hW6]; exact gbx_rd (gbx_new (E := ESd) W3 _))
          have O6 := Lib.hid (show ESd.Own 34 W6 w.heap.size (.slice A1 n1 c1) (X.take k) by rw [← hW6]; exact gown_below O5.out (below_new _ _))
          have B6 := Lib.hid (show Below w.heap.size w W6 by rw [← hW6]; exact B5.out.alloc B5.out.size _)
          have HW6 := Lib.hid hW6
          clear hW6 y3 hW3
          go_wp2_with (first | ((with_reducible refine gwl_load TDu b (o + k * 3) RG.out ?_ ?_ ?_); rfl; rfl) | (refine gwl_store TDu x wr.heap.size X1.out rfl rfl ?_; rw [HW2.out]) | (refine gwl_store TSd ⟨x.ac, (max (x.ca + x.v) 0), false, 0⟩ W2.heap.size X3.out rfl rfl ?_; rw [HW3.out]) | ((with_reducible refine gwl_load TSd W2.heap.size 0 (gbx_rng Y5.out) ?_ ?_ ?_); rfl; rfl) | ((with_reducible refine gwl_bs TSd (s := ⟨x.ac, (max (x.ca + x.v) 0), false, 0⟩) ?_ (fill_sd _) ?_ (by decide)); rfl; rw [HW6.out]) | (at_builtin; refine gpl_app TSd rfl (.tmp 45) (.tmp 47) rfl w.heap.size (.slice A1 n1 c1) (X.take k) rfl O6.out _ 1 1 [⟨x.ac, (max (x.ca + x.v) 0), false, 0⟩] rfl RD.out (fun e => by cases e) LX.out B6.out.size ?_; intro v' w' o1 g1 o9))
          have O9 := Lib.hid o1
          have B9 := Lib.hid (B6.out.grown g1 B6.out.size (fun j hj => (gown_lt O6.out hj).1))
          clear o1 g1 o9
          go_roundw
          case rel => exact ⟨k + 1, hlt, by go_num, by rw [NX.out, if_neg (by omega)]; go_num, by rw [XT.out, SE.out]; exact O9.out, B9.out⟩
          case measure => simp [intOf]; omega
theorem quiet_below {w W : World} (h : Quiet w W) : Below w.heap.size w W := h.2
set_option maxRecDepth 100000 in
set_option maxHeartbeats 16000000 in
theorem settle_any (f : Int) (A : Option Addr) (len cap : Nat) (l : List Du) (w : World) (hf : I64 f) (hr : ED.Rd w A len l) (hk : ∀ d, d ∈ l → d.ok) (hl : len ≤ maxLen) :
    Calls Try.prog 8 #[.int .i64 f, .slice A len cap] w (fun e w' => ToldS f l w.heap.size w w' e) := by
  have NL := Lib.hid hr.1
  unfold maxLen at hl
  by_cases h64 : 64 < len
  · have d0 : decide (64 < (len : Int)) = true := decide_eq_true (by omega)
    have he : Hid (errS f l = 3) := Lib.hid (by unfold errS; rw [if_pos (by rw [NL.out]; exact h64)])
    clear hr hk h64
    go_enter Try.func8, Try.ntmps8
    go_wp2_with fail
    go_ret3
    exact ztoldS_bad he.out (by decide) (Below.refl _ _)
  have d0 : decide (64 < (len : Int)) = false := decide_eq_false (by omega)
  have EL : ∀ x y : Int, (if 64 < l.length then x else y) = y := fun x y => if_neg (by rw [NL.out]; exact h64)
  have MH := Lib.hid fun w => pmayhave_any f hf w
  unfold I64 at hf
  by_cases c1 : 0 ≤ f ∧ f ≤ 1000000000000000
  case neg =>
    have he : Hid (errS f l = 2) := Lib.hid (by unfold errS; rw [EL, if_pos c1])
    rw [decide_eq_false c1] at MH
    clear hr hk h64 EL c1
    go_enter Try.func8, Try.ntmps8
    go_wp2_with fail
    refine (MH.out _).mono ?_; rintro e w1 ⟨rfl, rfl⟩
    go_wp2_with fail
    go_ret3
    exact ztoldS_bad he.out (by decide) (Below.refl _ _)
  rw [decide_eq_true c1] at MH
  have MY := Lib.hid (pmay13 A len cap l w hr hk (by omega))
  have HR := Lib.hid fun (W : World) (q : Below w.heap.size w W) => (show ED.Rd W A len l from grd_below hr q (Nat.le_refl _))
  cases hris : risD 0 l
  case false =>
    have he : Hid (errS f l = 2) := Lib.hid (by unfold errS; rw [EL, if_neg (by omega), if_pos hris])
    rw [hris] at MY
    clear hr hk h64 EL c1 hris
    go_enter Try.func8, Try.ntmps8
    go_wp2_with fail
    refine (MH.out _).mono ?_; rintro e w1 ⟨rfl, rfl⟩
    go_wp2_with fail
    refine MY.out.mono ?_; rintro e w1 ⟨rfl, q1⟩
    have Q1 := Lib.hid q1
    clear q1
    go_wp2_with fail
    go_ret3
    exact ztoldS_bad he.out (by decide) Q1.out
  rw [hris] at MY
  have hin : ∀ d, d ∈ l → In d := fun d hd => (ris_in hris d hd).1
  have HI := Lib.hid hin
  have EV := Lib.hid fun (W : World) (q : Below w.heap.size w W) => peven13 A len cap l W (HR.out W q) HI.out (by omega)
  by_cases c2 : sumV l = 0
  case neg =>
    have he : Hid (errS f l = 130) := Lib.hid (by unfold errS; rw [EL, if_neg (by omega), if_neg (by rw [hris]; decide), if_pos c2])
    rw [decide_eq_false c2] at EV
    clear hr hk h64 EL c1 hris hin c2
    go_enter Try.func8, Try.ntmps8
    go_wp2_with fail
    refine (MH.out _).mono ?_; rintro e w1 ⟨rfl, rfl⟩
    go_wp2_with fail
    refine MY.out.mono ?_; rintro e w1 ⟨rfl, q1⟩
    have Q1 := Lib.hid q1
    clear q1
    go_wp2_with fail
    refine (EV.out w1 Q1.out).mono ?_; rintro e w2 ⟨rfl, q2⟩
    have Q2 := Lib.hid (Q1.out.trans (q2.mono Q1.out.size))
    clear q2
    go_wp2_with fail
    go_ret3
    exact ztoldS_bad he.out (by decide) Q2.out
  rw [decide_eq_true c2] at EV
  have he : Hid (errS f l = 0) := Lib.hid (by unfold errS; rw [EL, if_neg (by omega), if_neg (by rw [hris]; decide), if_neg (by omega)])
  have M := Lib.hid (may_of he.out)
  have RK := Lib.hid fun (W : World) (q : Below w.heap.size w W) => preckon13 A len cap l W (HR.out W q) HI.out (by omega)
  have db := defs_xb hin
  have lb : (l.length : Int) ≤ 64 := by rw [NL.out]; omega
  obtain ⟨D, hD⟩ : ∃ D, defs l = D := ⟨_, rfl⟩
  obtain ⟨T, hT⟩ : ∃ T, leftS f l = T := ⟨_, rfl⟩
  have eT : T = D - min D f := by rw [← hT, ← hD]; unfold leftS; split <;> omega
  have eF : Hid (fundS f l = f - min D f) := Lib.hid (by rw [← hD]; unfold fundS; split <;> omega)
  rw [hD] at db RK
  obtain ⟨f0, f1⟩ := c1
  obtain ⟨db0, db1⟩ := db
  have db2 : D ≤ 6400000000000000000 := by omega
  have LEN64 : Hid (len ≤ 64) := Lib.hid (by omega)
  have HT := Lib.hid hT
  have w1' : IntKind.i64.wrap (D - min D f) = T := by rw [IntKind.wrap_i64]; omega
  have w2' : IntKind.i64.wrap (f - min D f) = f - min D f := by rw [IntKind.wrap_i64]; omega
  have SP := Lib.hid fun (W : World) (A3 : Option Addr) (n3 c3 : Nat) (h : Rd W A3 n3 (won l)) => split_any A3 n3 c3 (won l) T W h M.out.wi64 (by unfold I64; omega) (by have := h.1; have := won_len l; have := NL.out; have := LEN64.out; omega) false M.out.wng
  clear hr hk h64 EL hris hin c2 hD hT eT db1 lb hf hl
  go_enter Try.func8, Try.ntmps8
  go_wp2_with fail
  refine (MH.out _).mono ?_; rintro e w1 ⟨rfl, rfl⟩
  go_wp2_with fail
  refine MY.out.mono ?_; rintro e w1 ⟨rfl, q1⟩
  have Q1 := Lib.hid q1
  clear q1
  go_wp2_with fail
  refine (EV.out w1 Q1.out).mono ?_; rintro e w2 ⟨rfl, q2⟩
  have Q2 := Lib.hid (Q1.out.trans (q2.mono Q1.out.size))
  clear q2
  go_wp2_with fail
  refine (RK.out w2 Q2.out).mono ?_; rintro e w3 ⟨v, rfl, o3, q3⟩
  have Q3 := Lib.hid (Q2.out.trans (q3.mono Q2.out.size))
  obtain ⟨A3, c3, rfl, -⟩ := gown_form o3
  have RW := Lib.hid (rd_ei13 (gown_rd o3))
  clear q3 o3
  go_wp2_with fail
  refine (SP.out w3 A3 _ c3 RW.out).mono ?_; rintro e w4 ⟨g, hg, ⟨A4, n4, zs, rfl, rz, hz, -⟩, q4⟩
  have SE0 : Hid (se T (won l) false = 0) := Lib.hid (by rw [← HT.out]; exact M.out.wse)
  have Q4 := Lib.hid (Q3.out.trans (q4.2.mono Q3.out.size))
  have EZ := Lib.hid (hz SE0.out)
  have HG := Lib.hid (fun c => hg SE0.out c)
  have RZ := Lib.hid rz
  clear rz hz hg q4
  have CT : Hid (cuts (leftS f l) (l.map wt) = Cut.back (l.map wt) zs) := Lib.hid (by rw [EZ.out, ← HT.out]; exact M.out.wcuts (by rw [HT.out]; exact HG.out))
  have ST := Lib.hid (psettled13 A len cap l A4 n4 n4 zs (outS f l) w4 (HR.out w4 Q4.out) RZ.out HI.out LEN64.out (out_len (f := f) (l := l)) (by rw [← RZ.out.1, EZ.out]; unfold pt; rw [List.length_map, List.length_range]; exact Nat.le_refl _) (fun k d hd => M.out.wout CT.out hd))
  rw [SE0.out]
  go_wp2_with fail
  refine ST.out.mono ?_; rintro e w5 ⟨v, rfl, o5, q5⟩
  have Q5 := Lib.hid (Q4.out.trans (q5.mono Q4.out.size))
  obtain ⟨A5, c5, rfl, -⟩ := gown_form o5
  have R5 := Lib.hid (gown_rd o5)
  have OL : Hid ((outS f l).length = len) := Lib.hid (by rw [out_len]; exact NL.out)
  rw [OL.out] at R5 ⊢
  clear q5 o5
  go_wp2_with fail
  go_ret3
  rw [← eF.out]
  exact ztoldS_ok he.out NL.out R5.out Q5.out
end Go.Proofs.Ytlbekdpmfjhjhaa.Zs
namespace Go.Proofs.Ytlbekdpmfjhjhaa
/-- What is asked of the program. -/
theorem settle : SettleK := ⟨fun f A len cap l w hf hr hk hl => Zs.settle_any f A len cap l w hf hr hk hl⟩
end Go.Proofs.Ytlbekdpmfjhjhaa
