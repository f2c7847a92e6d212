/- The statements' own: small, known, large. -/
import Derived.Test.YtcpcnjiphiokjaaExd
import Derived.Test.YtcpcnjiphiokjaaExt
namespace Go.Proofs.Ytcpcnjiphiokjaa
open Go.RowKit Go.Shelf
set_option linter.unusedVariables false
set_option linter.unusedSimpArgs false

def k011 : Sp := ⟨1, 1, 1, 1, 0, 9, [0, 0, 0, 0, 0, 0, 0, 0, 0, 0, 0, 0, 0, 0, 0, 0], 0, 0, 10⟩
def k111 : Sp := ⟨1, 1, 1, 1, 0, 9, [50, 0, 0, 0, 0, 0, 0, 0, 0, 0, 0, 0, 0, 0, 0, 0], 0, 0, 10⟩
def ks11 : Sp := ⟨1, 1, 1, 1, 0, 9, [50, -40, 0, 0, 0, 0, 0, 0, 0, 0, 0, 0, 0, 0, 0, 0], 0, 0, 10⟩
theorem ks_ok11 : ks11.ok := by
  refine ⟨?_, ?_, ?_, ?_, ?_, ?_, ?_, ?_, ?_, ?_, ?_⟩ <;> simp [ks11, I64]
def ko1 : Or := ⟨1, 1, true, 12, 3⟩
def ko2 : Or := ⟨2, 1, false, 9, 1⟩
def kst (ba : Int) (g : Nat) : Sk := ⟨⟨ks11, 2, rfl⟩, ba, 10, some ⟨g, 0, none⟩, 2, 2, [ko1, ko2]⟩
theorem kst_ok {ba : Int} (h : I64 ba) (g : Nat) : (kst ba g).ok := by
  refine ⟨⟨ks_ok11, by show I64 2; unfold I64; omega⟩, h, by show I64 10; unfold I64; omega, fun o ho => ?_, by show 2 ≤ maxLen; decide, (fun h => by cases h), Nat.le_refl _⟩
  rcases List.mem_cons.1 ho with rfl | ho
  · exact ⟨by decide, by decide, by show I64' 12; unfold I64'; omega, by show I64' 3; unfold I64'; omega⟩
  · rw [List.mem_singleton.1 ho]
    exact ⟨by decide, by decide, by show I64' 9; unfold I64'; omega, by show I64' 1; unfold I64'; omega⟩
theorem kst_e (g : Nat) : neE [kst 33 g] = 0 := by kernel_rfl
theorem kst_n (g : Nat) : neN [kst 33 g] = ⟨80, 127, 13⟩ := by kernel_rfl
section
variable {ops : Array Oper} {rest : List Oper} {a : Act} {w : World} {Q : Exit → Act → World → Prop} {d : Option Nat} {x y z : Operand} {ty : TypeId} {ps : String} {af : Array Edge}
theorem wl_kb11 (h : wpList Try.prog ops Q rest (a.put d (.agg k011.cells)) w) :
    wpList Try.prog ops Q ({ dst := d, op := .build 28 #[(0, .const (.int .u32 1)), (1, .const (.int .u8 1)), (2, .const (.int .i64 1)), (3, .const (.int .i64 1)), (5, .const (.int .i64 9)), (9, .const (.int .i64 10))], type := ty, pos := ps, after := af, guard := none } :: rest) a w := by
  have e : (#[(0, Operand.const (.int .u32 1)), (1, .const (.int .u8 1)), (2, .const (.int .i64 1)), (3, .const (.int .i64 1)), (5, .const (.int .i64 9)), (9, .const (.int .i64 10))].map fun (i, x) => (i, a.eval x)).toList = [(0, Value.int .u32 1), (1, .int .u8 1), (2, .int .i64 1), (3, .int .i64 1), (5, .int .i64 9), (9, .int .i64 10)] := by simp [Act.eval]
  have b : Program.built Try.prog 28 [(0, Value.int .u32 1), (1, .int .u8 1), (2, .int .i64 1), (3, .int .i64 1), (5, .int .i64 9), (9, .int .i64 10)] = some k011.cells := by kernel_rfl
  refine wpList_build rfl 28 _ rfl (by rw [e, b]; rfl) ?_
  rw [e, b]
  exact h
theorem wl_lb11 (hx : a.eval x = .agg ks11.cells) (h : wpList Try.prog ops Q rest (a.put d (.agg (EL.cells ⟨ks11, 2, rfl⟩).toArray)) w) :
    wpList Try.prog ops Q ({ dst := d, op := .build 30 #[(0, x), (1, .const (.int .i64 2))], type := ty, pos := ps, after := af, guard := none } :: rest) a w := by
  have e : (#[(0, x), (1, Operand.const (.int .i64 2))].map fun (i, x) => (i, a.eval x)).toList = [(0, Value.agg ks11.cells), (1, .int .i64 2)] := by
    rw [show (#[(0, x), (1, Operand.const (.int .i64 2))].map fun (i, x) => (i, a.eval x)).toList = [(0, a.eval x), (1, a.eval (.const (.int .i64 2)))] from by simp, hx]; rfl
  have b : Program.built Try.prog 30 [(0, Value.agg ks11.cells), (1, .int .i64 2)] = some (EL.cells ⟨ks11, 2, rfl⟩).toArray := by kernel_rfl
  refine wpList_build rfl 30 _ rfl (by rw [e, b]; rfl) ?_
  rw [e, b]
  exact h
theorem wl_o111 (h : wpList Try.prog ops Q rest (a.put d (.agg (EO.cells ko1).toArray)) w) :
    wpList Try.prog ops Q ({ dst := d, op := .build 41 #[(0, .const (.int .u64 1)), (1, .const (.int .u32 1)), (2, .const (.bool true)), (3, .const (.int .i64 12)), (4, .const (.int .i64 3))], type := ty, pos := ps, after := af, guard := none } :: rest) a w := by
  have e : (#[(0, Operand.const (.int .u64 1)), (1, .const (.int .u32 1)), (2, .const (.bool true)), (3, .const (.int .i64 12)), (4, .const (.int .i64 3))].map fun (i, x) => (i, a.eval x)).toList = [(0, Value.int .u64 1), (1, .int .u32 1), (2, .bool true), (3, .int .i64 12), (4, .int .i64 3)] := by simp [Act.eval]
  have b : Program.built Try.prog 41 [(0, Value.int .u64 1), (1, .int .u32 1), (2, .bool true), (3, .int .i64 12), (4, .int .i64 3)] = some (EO.cells ko1).toArray := by kernel_rfl
  refine wpList_build rfl 41 _ rfl (by rw [e, b]; rfl) ?_
  rw [e, b]
  exact h
theorem wl_o211 (h : wpList Try.prog ops Q rest (a.put d (.agg (EO.cells ko2).toArray)) w) :
    wpList Try.prog ops Q ({ dst := d, op := .build 41 #[(0, .const (.int .u64 2)), (1, .const (.int .u32 1)), (3, .const (.int .i64 9)), (4, .const (.int .i64 1))], type := ty, pos := ps, after := af, guard := none } :: rest) a w := by
  have e : (#[(0, Operand.const (.int .u64 2)), (1, .const (.int .u32 1)), (3, .const (.int .i64 9)), (4, .const (.int .i64 1))].map fun (i, x) => (i, a.eval x)).toList = [(0, Value.int .u64 2), (1, .int .u32 1), (3, .int .i64 9), (4, .int .i64 1)] := by simp [Act.eval]
  have b : Program.built Try.prog 41 [(0, Value.int .u64 2), (1, .int .u32 1), (3, .int .i64 9), (4, .int .i64 1)] = some (EO.cells ko2).toArray := by kernel_rfl
  refine wpList_build rfl 41 _ rfl (by rw [e, b]; rfl) ?_
  rw [e, b]
  exact h
theorem wl_os11 (hx : a.eval x = .agg (EO.cells ko1).toArray) (hy : a.eval y = .agg (EO.cells ko2).toArray)
    (h : wpList Try.prog ops Q rest (a.put d (.slice (some ⟨w.heap.size, 0, none⟩) 2 2)) (w.alloc (.cells (EO.flat [ko1, ko2]).toArray 41))) :
    wpList Try.prog ops Q ({ dst := d, op := .buildSlice 31 2 #[(0, x), (1, y)], type := ty, pos := ps, after := af, guard := none } :: rest) a w := by
  have hi : (Try.prog.info? 41).map (fun i => (i.zero, i.size, i.bytes)) = some (some (.agg (EO.cells zeroOr).toArray), 5, 32) := by kernel_rfl
  obtain ⟨ie, h1, h2, h3, _⟩ := info_parts hi
  refine wpList_buildSlice rfl 31 41 2 #[(0, x), (1, y)] rfl (EO.flat [ko1, ko2]).toArray ie _ TO.und h1 h2 (by rw [h3]; decide) (by rw [h3]; decide) ?_ h
  rw [h3, show ((#[(0, x), (1, y)] : Array (Nat × Operand)).map fun (i, x) => (i, a.eval x)).toList = [(0, a.eval x), (1, a.eval y)] from by simp, hx, hy]
  kernel_rfl
theorem wl_sb11 {ba : Int} {g : Nat} (hx : a.eval x = .agg (EL.cells ⟨ks11, 2, rfl⟩).toArray) (hy : a.eval y = .int .i64 ba) (hz : a.eval z = .slice (some ⟨g, 0, none⟩) 2 2)
    (h : wpList Try.prog ops Q rest (a.put d (.agg (EK.cells (kst ba g)).toArray)) w) :
    wpList Try.prog ops Q ({ dst := d, op := .build 33 #[(0, x), (1, y), (2, .const (.int .i64 10)), (3, z)], type := ty, pos := ps, after := af, guard := none } :: rest) a w := by
  have e : (#[(0, x), (1, y), (2, Operand.const (.int .i64 10)), (3, z)].map fun (i, x) => (i, a.eval x)).toList = [(0, .agg (EL.cells ⟨ks11, 2, rfl⟩).toArray), (1, .int .i64 ba), (2, .int .i64 10), (3, .slice (some ⟨g, 0, none⟩) 2 2)] := by
    rw [show (#[(0, x), (1, y), (2, Operand.const (.int .i64 10)), (3, z)].map fun (i, x) => (i, a.eval x)).toList = [(0, a.eval x), (1, a.eval y), (2, a.eval (.const (.int .i64 10))), (3, a.eval z)] from by simp, hx, hy, hz]; rfl
  have b : Program.built Try.prog 33 [(0, .agg (EL.cells ⟨ks11, 2, rfl⟩).toArray), (1, .int .i64 ba), (2, .int .i64 10), (3, .slice (some ⟨g, 0, none⟩) 2 2)] = some (EK.cells (kst ba g)).toArray := by kernel_rfl
  refine wpList_build rfl 33 _ rfl (by rw [e, b]; rfl) ?_
  rw [e, b]
  exact h
/-- A list of one stake. -/
theorem wl_sk11 {s : Sk} (hx : a.eval x = .agg (EK.cells s).toArray)
    (h : wpList Try.prog ops Q rest (a.put d (.slice (some ⟨w.heap.size, 0, none⟩) 1 1)) (w.alloc (.cells (EK.cells s).toArray 33))) :
    wpList Try.prog ops Q ({ dst := d, op := .buildSlice 22 1 #[(0, x)], type := ty, pos := ps, after := af, guard := none } :: rest) a w := by
  have hi : (Try.prog.info? 33).map (fun i => (i.zero, i.size, i.bytes)) = some (some (.agg (EK.cells zeroSk).toArray), 29, 240) := by kernel_rfl
  obtain ⟨ie, h1, h2, h3, _⟩ := info_parts hi
  refine wpList_buildSlice rfl 22 33 1 #[(0, x)] rfl (EK.cells s).toArray ie _ TK.und h1 h2 (by rw [h3]; decide) (by rw [h3]; decide) ?_ h
  rw [h3, show ((#[(0, x)] : Array (Nat × Operand)).map fun (i, x) => (i, a.eval x)).toList = [(0, a.eval x)] from by simp, hx]
  clear hx h
  obtain ⟨⟨⟨nu, ro, ti, lo, ba, li, sh, cr, la, fi⟩, q, hl⟩, ba2, pr, A, nn, cc, os⟩ := s
  change sh.length = 16 at hl
  obtain ⟨a, b, c, d, e, f, g, i, j, k, m, n, o, p', q', r, rfl⟩ := sixteen11 hl
  kernel_rfl
end
set_option maxRecDepth 100000 in
set_option maxHeartbeats 4000000 in
theorem small11 (ba : Int) (w : World) : Calls Try.prog 15 #[.int .i64 ba] w fun e w' => ∃ g, e = .returned (.agg (EK.cells (kst ba g)).toArray) ∧ (kst ba g).In w' ∧ Below w.heap.size w w' := by
  have hzs := zero_sp
  have hzk := zero_k11
  obtain ⟨W0, hW0⟩ : ∃ W, w.alloc (.cells (EK.cells zeroSk).toArray 33) = W := ⟨_, rfl⟩
  have x0 : EK.Bx 33 W0 w.heap.size zeroSk := by rw [← hW0]; exact gbx_new w _
  have b0 : Below w.heap.size w W0 := by rw [← hW0]; exact below_new w _
  have l0 : w.heap.size < W0.heap.size := (Array.getElem?_eq_some_iff.1 x0).1
  obtain ⟨W1, hW1⟩ : ∃ W, (W0.alloc (.cells zeroSp.cells 28)).setRow W0.heap.size k011.cells = W := ⟨_, rfl⟩
  have HB0 := Lib.hid (box_new W0 (s := zeroSp) rfl)
  have b1 : Box W1 W0.heap.size k011 := by rw [← hW1]; exact box_set HB0.out rfl
  have B1 : Below W0.heap.size W0 W1 := by rw [← hW1]; exact below_row' (below_new _ _) (Nat.le_refl _)
  have f1 := b1.free 6
  have d1 : W1.cell? ⟨W0.heap.size, 6, none⟩ = some (.int .i64 0) := by rw [b1.cell]; rfl
  obtain ⟨W2, hW2⟩ : ∃ W, W1.setCell ⟨W0.heap.size, 6, none⟩ (.int .i64 50) = W := ⟨_, rfl⟩
  have b2 : Box W2 W0.heap.size k111 := by rw [← hW2]; exact box_cell b1 rfl rfl
  have B2 : Below W0.heap.size W0 W2 := by rw [← hW2]; exact B1.setCell (Nat.le_refl _) _
  have f2 := b2.free 7
  have d2 : W2.cell? ⟨W0.heap.size, 7, none⟩ = some (.int .i64 0) := by rw [b2.cell]; rfl
  obtain ⟨W3, hW3⟩ : ∃ W, W2.setCell ⟨W0.heap.size, 7, none⟩ (.int .i64 (-40)) = W := ⟨_, rfl⟩
  have b3 : Box W3 W0.heap.size ks11 := by rw [← hW3]; exact box_cell b2 rfl rfl
  have B3 : Below W0.heap.size W0 W3 := by rw [← hW3]; exact B2.setCell (Nat.le_refl _) _
  have HB3 := Lib.hid b3
  obtain ⟨W4, hW4⟩ : ∃ W, W3.alloc (.cells (EO.flat [ko1, ko2]).toArray 41) = W := ⟨_, rfl⟩
  have B4 : Below W3.heap.size W3 W4 := by rw [← hW4]; exact below_new _ _
  have r4 : EO.Rd W4 (some ⟨W3.heap.size, 0, none⟩) 2 [ko1, ko2] := ⟨rfl, (fun h => by cases h), fun _ a e => by
    cases e
    refine ⟨rfl, fun j u hj => ?_⟩
    rw [Nat.zero_add, ← hW4, cell_of_row _ _ _ _ _ _ (heap_alloc_new W3 _)]
    simpa using hj⟩
  have x4 : EK.Bx 33 W4 w.heap.size zeroSk := gbx_below x0 (B3.trans (B4.mono B3.size))
  have BB := Lib.hid (b0.trans ((B3.trans (B4.mono B3.size)).mono b0.size))
  have X4 := Lib.hid x4
  have R4 := Lib.hid r4
  have LL : Hid (w.heap.size < W3.heap.size) := Lib.hid (by have := B3.size; omega)
  have HW0 := Lib.hid hW0
  have HW1 := Lib.hid hW1
  have HW2 := Lib.hid hW2
  have HW3 := Lib.hid hW3
  have HW4 := Lib.hid hW4
  clear x0 b0 l0 b1 B1 b2 B2 b3 B3 B4 r4 x4 hW0 hW1 hW2 hW3 hW4
  go_enter Try.func15, Try.ntmps15
  go_wp2_with (first
    | (rw [HW0.out])
    | (rw [HW2.out])
    | (rw [HW3.out])
    | (with_reducible refine wl_kb11 ?_)
    | ((with_reducible refine wl_store_sp k011 W0.heap.size HB0.out rfl ?_ ?_ ?_); rfl; rfl; rw [HW1.out])
    | ((with_reducible refine wl_load_sp W0.heap.size HB3.out ?_ ?_ ?_); rfl; rfl)
    | ((with_reducible refine wl_lb11 ?_ ?_); rfl)
    | (with_reducible refine wl_o111 ?_)
    | (with_reducible refine wl_o211 ?_)
    | ((with_reducible refine wl_os11 ?_ ?_ ?_); rfl; rfl; rw [HW4.out])
    | ((with_reducible refine wl_sb11 (ba := ba) (g := W3.heap.size) ?_ ?_ ?_ ?_); rfl; rfl; rfl)
    | (refine gwl_store TK (kst ba W3.heap.size) w.heap.size X4.out rfl rfl ?_))
  refine bodyPost_ret (results_cell_row rfl _ _ w.heap.size 33 (EK.cells (kst ba W3.heap.size)).toArray (0, 0) _ rfl (gbx_set X4.out) Try.underlying33 rfl (by rw [gsize TK, List.size_toArray, EK.len])) rfl ?_
  refine ⟨W3.heap.size, rfl, ?_, below_row0 BB.out (Nat.le_refl _)⟩
  refine ⟨R4.out.1, R4.out.2.1, fun hm a e => ?_⟩
  obtain ⟨e1, r⟩ := R4.out.2.2 hm a e
  refine ⟨e1, fun j u hj => ?_⟩
  have hc := r j u hj
  cases e
  unfold World.cell? at hc ⊢
  rw [show (W4.setRow w.heap.size (EK.cells (kst ba W3.heap.size)).toArray).heap[W3.heap.size]? = W4.heap[W3.heap.size]? from setRow_other W4 w.heap.size _ _ (by have := LL.out; omega)]
  exact hc
/-- More orders than are looked at. -/
def lgB (l : List Sk) : Bool := decide (40 < l.length) || l.any fun x => decide (300 < x.os.length)
set_option maxRecDepth 100000 in
theorem large11 (A : Option Addr) (n c : Nat) (l : List Sk) (w : World) (h : EK.Rd w A n l) (hok : ∀ x, x ∈ l → x.ok ∧ x.In w) (hn : n ≤ maxLen) :
    Calls Try.prog 8 #[.slice A n c] w fun e w' => e = .returned (.bool (lgB l)) ∧ w = w' := by
  unfold maxLen at hn
  have d := h.1
  by_cases c1 : 40 < n
  · have c1' : decide ((40 : Int) < (n : Int)) = true := decide_eq_true (by omega)
    have E : Hid (lgB l = true) := Lib.hid (by unfold lgB; rw [decide_eq_true (by omega)]; rfl)
    clear h hok d
    go_enter Try.func8, Try.ntmps8
    go_wp2_with fail
    go_ret
    rw [E.out]
    exact ⟨rfl, rfl⟩
  have c1' : decide ((40 : Int) < (n : Int)) = false := decide_eq_false (by omega)
  have YES : Hid ((∃ x, x ∈ l ∧ 300 < x.os.length) → lgB l = true) := Lib.hid fun ⟨x, hx, hx2⟩ => by
    unfold lgB
    rw [List.any_eq_true.2 ⟨x, hx, decide_eq_true hx2⟩, Bool.or_true]
  have NO : Hid ((∀ x, x ∈ l → ¬ 300 < x.os.length) → lgB l = false) := Lib.hid fun hh => by
    unfold lgB
    rw [List.any_eq_false.2 (fun x hx => by rw [decide_eq_false (hh x hx)]; decide), decide_eq_false (by omega)]; rfl
  obtain ⟨r, hr⟩ : ∃ r, lgB l = r := ⟨_, rfl⟩
  rw [hr] at YES NO ⊢
  have HR := Lib.hid h
  have HK := Lib.hid hok
  have HL := Lib.hid d
  clear h hok d hr
  go_enter Try.func8, Try.ntmps8
  go_wp2_with fail
  go_loop [9] (fun i => ∃ k : Nat, k ≤ n ∧ i = .int .i64 k ∧ ∀ (j : Nat) (x : Sk), j < k → l[j]? = some x → ¬ 300 < x.os.length) (fun i => n - (intOf i).toNat)
  case atStart => exact ⟨0, Nat.zero_le _, rfl, fun j x hj => absurd hj (Nat.not_lt_zero j)⟩
  case round =>
    obtain ⟨k, hk, rfl, hno⟩ := hrel
    have NN := Lib.hid hno
    clear hno
    by_cases hlt : k < n
    case neg =>
      obtain rfl : k = n := by omega
      have E : Hid (r = false) := Lib.hid (NO.out fun x hx => by
        obtain ⟨j, hj⟩ := List.getElem?_of_mem hx
        exact NN.out j x (by have := (List.getElem?_eq_some_iff.1 hj).1; have := HL.out; omega) hj)
      go_wp2_with fail
      go_ret
      rw [E.out]
      exact ⟨rfl, rfl⟩
    case pos =>
      have hdk : decide ((k : Int) < n) = true := decide_eq_true (by omega)
      have hki : (k : Int) < (n : Int) := by omega
      obtain ⟨x, hx⟩ : ∃ x, l[k]? = some x := ⟨l[k]'(by have := HL.out; omega), List.getElem?_eq_getElem _⟩
      obtain ⟨bb, oo, rfl, rg⟩ := grd_rng HR.out hx
      have c28 : w.cell? ⟨bb, oo + k * 29 + 28, none⟩ = some (.slice x.A x.n x.c) := kq_at rg (sk_os x)
      have XL := Lib.hid (HK.out x (List.mem_of_getElem? hx)).2.1
      have HX := Lib.hid hx
      clear hx rg
      by_cases c2 : 300 < x.n
      · have d2 : decide ((300 : Int) < (x.n : Int)) = true := decide_eq_true (by omega)
        have E : Hid (r = true) := Lib.hid (YES.out ⟨x, List.mem_of_getElem? HX.out, by have := XL.out; omega⟩)
        go_wp2_with fail
        go_ret
        rw [E.out]
        exact ⟨rfl, rfl⟩
      · have d2 : decide ((300 : Int) < (x.n : Int)) = false := decide_eq_false (by omega)
        have C2 := Lib.hid c2
        go_wp2_with fail
        go_round
        case rel => exact ⟨k + 1, hlt, by go_num, fun j y hj hy => by
            rcases Nat.lt_or_ge j k with c | c
            · exact NN.out j y c hy
            · obtain rfl : j = k := by omega
              rw [HX.out] at hy; cases hy
              have := XL.out
              have := C2.out
              omega⟩
        case measure => simp [intOf]; omega
theorem known_n : (EN.cells ⟨80, 127, 13⟩).toArray = #[.int .i64 80, .int .i64 127, .int .i64 13] := rfl
set_option maxRecDepth 100000 in
set_option maxHeartbeats 2000000 in
theorem known11 (w : World) : Calls Try.prog 9 #[] w fun e w' => e = .returned (.bool true) ∧ Below w.heap.size w w' := by
  have SM := Lib.hid (small11 33 w)
  go_enter Try.func9, Try.ntmps9
  go_wp2_with fail
  refine SM.out.mono ?_; rintro e w2 ⟨g, rfl, hin, q2⟩
  have i3 : (kst 33 g).In (w2.alloc (.cells (EK.cells (kst 33 g)).toArray 33)) := grd_below hin (below_new w2 _) (Nat.le_refl _)
  have ND := Lib.hid (need11 (some ⟨w2.heap.size, 0, none⟩) 1 1 [kst 33 g] (w2.alloc (.cells (EK.cells (kst 33 g)).toArray 33)) (gbx_rd (gbx_new w2 _)) (fun x hx => by
    rw [List.mem_singleton.1 hx]
    exact ⟨kst_ok (by unfold I64; omega) g, i3⟩) (by decide))
  rw [kst_e, kst_n, known_n] at ND
  have Q3 := Lib.hid (q2.trans ((below_new w2 (.cells (EK.cells (kst 33 g)).toArray 33)).mono q2.size))
  clear q2 hin i3
  obtain ⟨W3, hW3⟩ : ∃ W, w2.alloc (.cells (EK.cells (kst 33 g)).toArray 33) = W := ⟨_, rfl⟩
  rw [hW3] at ND Q3
  have HW3 := Lib.hid hW3
  clear hW3
  go_wp2_with ((with_reducible refine wl_sk11 (s := kst 33 g) ?_ ?_); rfl; rw [HW3.out])
  refine ND.out.mono ?_; rintro e w4 ⟨rfl, q4⟩
  have Q4 := Lib.hid (Q3.out.trans (q4.mono Q3.out.size))
  clear q4
  have TOT := Lib.hid fun W => total11 ⟨80, 127, 13⟩ W ⟨by show I64 80; unfold I64; omega, by show I64 127; unfold I64; omega, by show I64 13; unfold I64; omega⟩
  rw [known_n, show toN ⟨80, 127, 13⟩ = 220 from by decide] at TOT
  go_wp2_with fail
  refine (TOT.out _).mono ?_; rintro e w5 ⟨rfl, q5⟩
  have b4 := Q4.out.trans ((below_new w4 (.cells #[.int .i64 80, .int .i64 127, .int .i64 13] 35)).mono Q4.out.size)
  have Q5 := Lib.hid (b4.trans (q5.mono b4.size))
  clear b4
  clear q5
  go_wp2_with fail
  go_ret
  exact ⟨rfl, Q5.out⟩
end Go.Proofs.Ytcpcnjiphiokjaa
