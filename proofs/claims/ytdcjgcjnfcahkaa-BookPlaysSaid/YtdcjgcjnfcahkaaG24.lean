/- Texts of a proof, laid together: Bh, Ro, Ya, Yb, Yc. -/
import Derived.OpenShut
import Derived.ProofKit
import Derived.Deep.Slices
import Derived.Deep.MidRow
import Derived.Maps.AppendAt
import Derived.Test.YtdcjgcjnfcahkaaProg
import Derived.Test.YtdcjgcjnfcahkaaG06
import Derived.Test.YtdcjgcjnfcahkaaG01
import Derived.Test.YtdcjgcjnfcahkaaG13
import Derived.Test.YtdcjgcjnfcahkaaG15
import Derived.Test.YtdcjgcjnfcahkaaG21
import Derived.Test.YtdcjgcjnfcahkaaG07
/- Contracts of the document's plain book: New. -/
namespace Go.Proofs.Ytdcjgcjnfcahkaa
open Go.RowKit
set_option linter.unusedVariables false

/-- A side that is built. -/
theorem ps_new (w : World) (N : Nat) (b : Bool) (h : N ≤ w.heap.size) : Ps (w.alloc (.cells #[.bool b, .slice none 0 0] 70)) N w.heap.size (.slice none 0 0) b [] :=
  ⟨[], ⟨heap_alloc_new w _, gown_nil _ _, h, Nat.zero_le _, fun x hx => by simp at hx⟩, Ms.nil⟩
set_option maxRecDepth 100000 in
set_option maxHeartbeats 1000000 in
theorem bnew_any (w : World) : Calls Try.prog 11 #[] w fun e w' => ∃ G g v, e = .returned (.pointer (some ⟨G, 0, none⟩)) ∧ Bk w' w.heap.size G g v (fun _ => []) ∧ Below w.heap.size w w' := by
  go_enter Try.func11, Try.ntmps11
  go_wp2
  go_ret
  refine ⟨_, (fun b => if b then w.heap.size else w.heap.size + 1), fun _ => .slice none 0 0, rfl, ?_, ?_⟩
  · have p1 := ps_new w w.heap.size true (Nat.le_refl _)
    have p2 := ps_new (w.alloc (.cells #[.bool true, .slice none 0 0] 70)) w.heap.size false (by simp)
    have b2 := below_new (w.alloc (.cells #[.bool true, .slice none 0 0] 70)) (.cells #[.bool false, .slice none 0 0] 70)
    have b3 := below_new ((w.alloc (.cells #[.bool true, .slice none 0 0] 70)).alloc (.cells #[.bool false, .slice none 0 0] 70)) (.cells #[.pointer (some ⟨w.heap.size, 0, none⟩), .pointer (some ⟨w.heap.size + 1, 0, none⟩)] 72)
    have e : (w.alloc (.cells #[.bool true, .slice none 0 0] 70)).heap.size = w.heap.size + 1 := by simp
    have e2 : ((w.alloc (.cells #[.bool true, .slice none 0 0] 70)).alloc (.cells #[.bool false, .slice none 0 0] 70)).heap.size = w.heap.size + 1 + 1 := by simp
    have n3 := heap_alloc_new ((w.alloc (.cells #[.bool true, .slice none 0 0] 70)).alloc (.cells #[.bool false, .slice none 0 0] 70)) (.cells #[.pointer (some ⟨w.heap.size, 0, none⟩), .pointer (some ⟨w.heap.size + 1, 0, none⟩)] 72)
    rw [e2] at n3
    rw [e] at p2
    refine ⟨n3, fun b => ?_, by omega, ?_, fun k hk => by cases hk⟩
    · cases b
      · exact p2.below b3
      · exact (p1.below b2).below b3
    · show w.heap.size ≠ w.heap.size + 1
      omega
  · have b1 := below_new w (.cells #[.bool true, .slice none 0 0] 70)
    have b2 := b1.trans ((below_new _ (.cells #[.bool false, .slice none 0 0] 70)).mono b1.size)
    exact b2.trans ((below_new _ _).mono b2.size)
end Go.Proofs.Ytdcjgcjnfcahkaa
/- An argument that is a list of structs, opened; no program's function, no program's type. -/
namespace Go.Proofs.Ytdcjgcjnfcahkaa
open Go.ChangeShapes Go.WideShapes Go.ChangeAt Go.RowKit

section
variable {H : Type} {enc : TypeId × Value → H} {W : World} {base : Nat} {spare : Nat → Bool} {held : Bool}
/-- A list of structs, opened at every place. -/
theorem open_rows {α : Type} (cells : α → List Value) (good : α → Prop) {t e : TypeId} {N : Nat} (hN : Try.prog.cellsOf e = N) (hpos : 0 < N) (hcl : ∀ x, good x → (cells x).length = N) (ht : Try.prog.underlying t = some (.slice e))
    (one : ∀ (fuel : Nat) (l : List Value) (y : DataW H × List MemPlace), l.length = N → DataW.trod enc Try.prog W base spare held fuel e l = some y → ∃ x, l = cells x ∧ good x)
    {fuel : Nat} {cs : List Value} {x : DataW H × List MemPlace} (h : DataW.trod enc Try.prog W base spare held fuel t cs = some x) :
    ∃ (A : Option Addr) (len cap : Nat) (os : List α), cs = [.slice A len cap] ∧ os.length = len ∧ (∀ x, x ∈ os → good x) ∧ (A = none → len = 0 ∧ cap = 0) ∧ len ≤ cap ∧ cap ≤ maxLen ∧
      (0 < len → ∃ b o, A = some ⟨b, o, none⟩ ∧ b < W.heap.size ∧ ∀ (k : Nat) (x : α), os[k]? = some x → W.rangeAt b (o + k * N) (cells x)) := by
  rcases Deep.open_slice ht h with ⟨rfl, _⟩ | ⟨a, len, cap, m, n, D, Pl, rfl, hb, hl, hm, hmm, _, hx⟩
  · exact ⟨none, 0, 0, [], rfl, rfl, (fun x hx => by cases hx), (fun _ => ⟨rfl, rfl⟩), Nat.le_refl _, Nat.zero_le _, fun h => absurd h (Nat.lt_irrefl 0)⟩
  · have hlm : len ≤ m := by rw [hmm]; split <;> omega
    have each : ∀ i : Nat, i < len → ∃ y : α, good y ∧ ∀ j, j < N → W.cell? ((a.add (i * N)).add j) = (cells y)[j]? := fun i hi => by
      obtain ⟨cs', h1, h2⟩ := hx i (by omega)
      rw [hN] at h1
      obtain ⟨_, hlen, hc⟩ := World.cells?_some h1
      obtain ⟨y, rfl, hy⟩ := one _ _ _ hlen h2
      exact ⟨y, hy, hc⟩
    refine ⟨some a, len, cap, List.ofFn fun i : Fin len => (each i.1 i.2).choose, rfl, by simp, fun y hy => ?_, fun h => (by cases h), hl, hm, fun hp => ?_⟩
    · obtain ⟨i, rfl⟩ := List.mem_ofFn.1 hy
      exact (each i.1 i.2).choose_spec.1
    · obtain ⟨b, off, spot⟩ := a
      have h0 := (each 0 hp).choose_spec
      have c0 := h0.2 0 hpos
      have hl0 := hcl _ h0.1
      rw [List.getElem?_eq_getElem (by omega)] at c0
      have hspot : spot = none := by simpa [Addr.add] using World.cell?_spot c0
      subst hspot
      have plain : ∀ i j, ((⟨b, off, none⟩ : Addr).add i).add j = ⟨b, off + i + j, none⟩ := fun i j => (congrArg (fun x : Addr => x.add j) (Go.WideShapes.add_plain b off i)).trans (Go.WideShapes.add_plain b (off + i) j)
      refine ⟨b, off, rfl, World.block_lt_of_cell? W _ ((congrArg W.cell? (plain (0 * N) 0)).symm.trans c0), fun k y hk j v hj => ?_⟩
      obtain ⟨hkl, hke⟩ := List.getElem?_eq_some_iff.1 hk
      have hkl' : k < len := by simpa using hkl
      have hy : y = (each k hkl').choose := by rw [← hke]; simp
      have hjl := (List.getElem?_eq_some_iff.1 hj).1
      have hs := (each k hkl').choose_spec
      rw [hy] at hj hjl
      rw [hcl _ hs.1] at hjl
      exact (congrArg W.cell? (plain (k * N) j)).symm.trans ((hs.2 j hjl).trans hj)
end
end Go.Proofs.Ytdcjgcjnfcahkaa
/- Calls on a book as the statements' scripts have them; arguments opened: orders, lists of orders, of calls; no program's function. -/
namespace Go.Proofs.Ytdcjgcjnfcahkaa
open Go.ChangeShapes Go.WideShapes Go.ChangeAt Go.RowKit
set_option linter.unusedVariables false
set_option maxRecDepth 100000

/-- A call. -/
structure Op7 where
  kd : Int
  o : Or
  k : Int
structure Op7.ok (x : Op7) : Prop where
  kd : I64' x.kd
  o : x.o.ok
  k : 0 ≤ x.k ∧ x.k ≤ 255
def Op7.cells (x : Op7) : List Value := [.int .i64 x.kd, .int .u64 x.o.nu, .int .u32 x.o.ac, .bool x.o.bu, .int .i64 x.o.pr, .int .i64 x.o.le, .int .u8 x.k]
def EOp : Elt Op7 := ⟨Op7.cells, 7, by decide, fun _ => rfl, fun x u hu => by
  simp only [Op7.cells, List.mem_cons, List.not_mem_nil, or_false] at hu
  rcases hu with rfl | rfl | rfl | rfl | rfl | rfl | rfl <;> rfl⟩
def zeroOp : Op7 := ⟨0, zeroOr, 0⟩
theorem TOp : EltT Try.prog EOp 22 34 := ⟨Try.underlying22, ⟨_, Try.underlying34⟩, ⟨.agg (EOp.cells zeroOp).toArray, 48, by kernel_rfl, rfl, by decide⟩⟩
theorem zero_op7 (w : World) : (zeroValue 34).run Try.prog w = .ok (.agg (EOp.cells zeroOp).toArray) w := by kernel_rfl
/-- The order in a call. -/
theorem op_or {w : World} {b o : Nat} {x : Op7} (h : w.rangeAt b o (EOp.cells x)) : w.rangeAt b (o + 1) (EO.cells x.o) := fun j u hj => by
  have hl := (List.getElem?_eq_some_iff.1 hj).1
  rw [EO.len] at hl
  have h5 : j < 5 := hl
  rw [Nat.add_assoc]
  refine h (1 + j) u ?_
  rw [← hj, Nat.add_comm]
  match j, h5 with
  | 0, _ => rfl
  | 1, _ => rfl
  | 2, _ => rfl
  | 3, _ => rfl
  | 4, _ => rfl
/-- A call laid in a new block. -/
theorem put_op (w : World) (x : Op7) : ∃ V, (w.alloc (.cells (EOp.cells zeroOp).toArray 34)).setRow w.heap.size (EOp.cells x).toArray = V ∧ Below w.heap.size w V ∧ EOp.Bx 34 V w.heap.size x ∧ EOp.Bx 34 (w.alloc (.cells (EOp.cells zeroOp).toArray 34)) w.heap.size zeroOp ∧ V.heap.size = w.heap.size + 1 :=
  ⟨_, rfl, below_row0 (below_new w _) (Nat.le_refl _), gbx_set (gbx_new w zeroOp), gbx_new w zeroOp, by
    show (Array.modify _ _ _).size = _
    rw [Array.size_modify]; simp⟩
theorem cells7_or : Try.prog.cellsOf 31 = 5 := by kernel_rfl
theorem cells7_op : Try.prog.cellsOf 34 = 7 := by kernel_rfl
section
variable {H : Type} {enc : TypeId × Value → H} {W : World} {base : Nat} {spare : Nat → Bool} {held : Bool}
theorem open7_i64 {n : Nat} {c : Value} {y : Option (DataW H × List MemPlace)} (hy : y.isSome = true) (h : DataW.trod enc Try.prog W base spare held n 2 [c] = y) : ∃ a : Int, c = .int .i64 a ∧ I64' a := by
  obtain ⟨z, rfl⟩ := Option.isSome_iff_exists.1 hy
  obtain ⟨a, e, _, hw⟩ := DataW.trod_int Try.underlying2 h
  simp only [List.cons.injEq, and_true] at e
  exact ⟨a, e, bounds_i64 hw⟩
theorem open7_int {n : Nat} {c : Value} {y : Option (DataW H × List MemPlace)} (hy : y.isSome = true) (h : DataW.trod enc Try.prog W base spare held n 3 [c] = y) : ∃ a : Int, c = .int .i64 a ∧ I64' a := by
  obtain ⟨z, rfl⟩ := Option.isSome_iff_exists.1 hy
  obtain ⟨a, e, _, hw⟩ := DataW.trod_int Try.underlying3 h
  simp only [List.cons.injEq, and_true] at e
  exact ⟨a, e, bounds_i64 hw⟩
theorem open7_u8 {n : Nat} {c : Value} {y : Option (DataW H × List MemPlace)} (hy : y.isSome = true) (h : DataW.trod enc Try.prog W base spare held n 32 [c] = y) : ∃ a : Int, c = .int .u8 a ∧ 0 ≤ a ∧ a ≤ 255 := by
  obtain ⟨z, rfl⟩ := Option.isSome_iff_exists.1 hy
  obtain ⟨a, e, _, hw⟩ := DataW.trod_int Try.underlying32 h
  simp only [List.cons.injEq, and_true] at e
  exact ⟨a, e, bounds_u8 hw⟩
theorem open7_u32 {n : Nat} {c : Value} {y : Option (DataW H × List MemPlace)} (hy : y.isSome = true) (h : DataW.trod enc Try.prog W base spare held n 29 [c] = y) : ∃ a : Int, c = .int .u32 a ∧ 0 ≤ a ∧ a ≤ 4294967295 := by
  obtain ⟨z, rfl⟩ := Option.isSome_iff_exists.1 hy
  obtain ⟨a, e, _, hw⟩ := DataW.trod_int Try.underlying29 h
  simp only [List.cons.injEq, and_true] at e
  exact ⟨a, e, bounds_u32 hw⟩
theorem open7_u64 {n : Nat} {c : Value} {y : Option (DataW H × List MemPlace)} (hy : y.isSome = true) (h : DataW.trod enc Try.prog W base spare held n 28 [c] = y) : ∃ a : Int, c = .int .u64 a ∧ 0 ≤ a ∧ a ≤ 18446744073709551615 := by
  obtain ⟨z, rfl⟩ := Option.isSome_iff_exists.1 hy
  obtain ⟨a, e, _, hw⟩ := DataW.trod_int Try.underlying28 h
  simp only [List.cons.injEq, and_true] at e
  exact ⟨a, e, bounds_u64 hw⟩
theorem open7_bool {n : Nat} {c : Value} {y : Option (DataW H × List MemPlace)} (hy : y.isSome = true) (h : DataW.trod enc Try.prog W base spare held n 4 [c] = y) : ∃ a : Bool, c = .bool a := by
  obtain ⟨z, rfl⟩ := Option.isSome_iff_exists.1 hy
  obtain ⟨a, e, _⟩ := DataW.trod_bool Try.underlying4 h
  simp only [List.cons.injEq, and_true] at e
  exact ⟨a, e⟩
theorem open_orL {fuel : Nat} {l : List Value} {y : DataW H × List MemPlace} (hl : l.length = 5) (hf : DataW.trod enc Try.prog W base spare held fuel 31 l = some y) : ∃ o : Or, l = EO.cells o ∧ o.ok := by
  match l, hl with
  | [c0, c1, c2, c3, c4], _ =>
    obtain ⟨xs, n, _, hx, _, hlen, hg⟩ := DataW.trod_struct Try.underlying31 hf
    have iss : ∀ i, i < 5 → (xs[i]?).isSome = true := fun i hi => by
      have h5 : xs.length = 5 := hlen
      rw [List.getElem?_eq_getElem (by omega)]; rfl
    obtain ⟨nu, rfl, k0⟩ := open7_u64 (iss 0 (by omega)) (hg 0 _ rfl)
    obtain ⟨ac, rfl, k1⟩ := open7_u32 (iss 1 (by omega)) (hg 1 _ rfl)
    obtain ⟨bu, rfl⟩ := open7_bool (iss 2 (by omega)) (hg 2 _ rfl)
    obtain ⟨pr, rfl, k3⟩ := open7_i64 (iss 3 (by omega)) (hg 3 _ rfl)
    obtain ⟨le, rfl, k4⟩ := open7_i64 (iss 4 (by omega)) (hg 4 _ rfl)
    exact ⟨⟨nu, ac, bu, pr, le⟩, rfl, k0, k1, k3, k4⟩
theorem open_opL7 {fuel : Nat} {l : List Value} {y : DataW H × List MemPlace} (hl : l.length = 7) (hf : DataW.trod enc Try.prog W base spare held fuel 34 l = some y) : ∃ x : Op7, l = EOp.cells x ∧ x.ok := by
  match l, hl with
  | [c0, c1, c2, c3, c4, c5, c6], _ =>
    obtain ⟨xs, n, _, hx, _, hlen, hg⟩ := DataW.trod_struct Try.underlying34 hf
    have h3 : xs.length = 3 := hlen
    have iss : ∀ i, i < 3 → (xs[i]?).isSome = true := fun i hi => by
      rw [List.getElem?_eq_getElem (by omega)]; rfl
    obtain ⟨kd, rfl, k0⟩ := open7_int (iss 0 (by omega)) (hg 0 _ rfl)
    obtain ⟨m, rfl, k2⟩ := open7_u8 (iss 2 (by omega)) (hg 2 _ rfl)
    have g1 : DataW.trod enc Try.prog W base spare held n 31 (([.int .i64 kd, c1, c2, c3, c4, c5, .int .u8 m].drop 1).take (Try.prog.cellsOf 31)) = xs[1]? := hg 1 _ rfl
    rw [cells7_or, List.getElem?_eq_getElem (by omega)] at g1
    obtain ⟨o, e, k1⟩ := open_orL rfl g1
    have e' : [c1, c2, c3, c4, c5] = EO.cells o := e
    simp only [EO, Or.cells, List.cons.injEq, and_true] at e'
    obtain ⟨rfl, rfl, rfl, rfl, rfl⟩ := e'
    exact ⟨⟨kd, o, m⟩, rfl, k0, k1, k2⟩
theorem open_or {r : Reach} {b0 : Nat} {v : Value} {d : DataW H} {p : List MemPlace} (hv : Value.okWide Try.prog W r b0 31 v) (h : DataW.Trod enc Try.prog W base spare held 31 v d p) : ∃ o : Or, v = .agg (EO.cells o).toArray ∧ o.ok := by
  obtain ⟨cs, rfl, hsz⟩ := okWide_struct Try.underlying31 hv
  obtain ⟨l⟩ := cs
  obtain ⟨fuel, hf⟩ := h
  obtain ⟨o, rfl, ok⟩ := open_orL (hsz.trans cells7_or) hf
  exact ⟨o, rfl, ok⟩
theorem rd_of {α : Type} {E : Elt α} {A : Option Addr} {len : Nat} {os : List α} (h1 : os.length = len) (h3 : A = none → len = 0) (h6 : 0 < len → ∃ b o, A = some ⟨b, o, none⟩ ∧ b < W.heap.size ∧ ∀ (k : Nat) (x : α), os[k]? = some x → W.rangeAt b (o + k * E.N) (E.cells x)) : E.Rd W A len os := by
  refine ⟨h1, h3, fun hm a e => ?_⟩
  obtain ⟨b, o, e2, _, hx⟩ := h6 hm
  rw [e] at e2
  cases e2
  refine ⟨rfl, fun j u hj => ?_⟩
  have hl := (List.getElem?_eq_some_iff.1 hj).1
  rw [gflat_len] at hl
  have hN := E.pos
  have hk : j / E.N < os.length := Nat.div_lt_of_lt_mul (by rw [Nat.mul_comm]; exact hl)
  obtain ⟨x, hx'⟩ : ∃ x, os[j / E.N]? = some x := ⟨os[j / E.N], List.getElem?_eq_getElem hk⟩
  have hi := Nat.mod_lt j hN
  have ej : j / E.N * E.N + j % E.N = j := by rw [Nat.mul_comm]; exact Nat.div_add_mod j E.N
  have hf := gflat_at os (j / E.N) x hx' (j % E.N) hi
  rw [ej, hj] at hf
  have := hx (j / E.N) x hx' (j % E.N) u hf.symm
  rw [Nat.add_assoc, ej] at this
  exact this
theorem open_ops7 {fuel : Nat} {cs : List Value} {x : DataW H × List MemPlace} (h : DataW.trod enc Try.prog W base spare held fuel 22 cs = some x) :
    ∃ (A : Option Addr) (len cap : Nat) (os : List Op7), cs = [.slice A len cap] ∧ EOp.Rd W A len os ∧ (∀ x, x ∈ os → x.ok) ∧ len ≤ maxLen := by
  obtain ⟨A, len, cap, os, e, h1, h2, h3, h4, h5, h6⟩ := open_rows EOp.cells Op7.ok cells7_op (by decide) (fun x hx => EOp.len x) Try.underlying22 (fun f l y hl hf => open_opL7 hl hf) h
  exact ⟨A, len, cap, os, e, rd_of h1 (fun e => (h3 e).1) h6, h2, by omega⟩
theorem open_ors {fuel : Nat} {cs : List Value} {x : DataW H × List MemPlace} (h : DataW.trod enc Try.prog W base spare held fuel 35 cs = some x) :
    ∃ (A : Option Addr) (len cap : Nat) (os : List Or), cs = [.slice A len cap] ∧ EO.Rd W A len os ∧ (∀ x, x ∈ os → x.ok) ∧ len ≤ maxLen := by
  obtain ⟨A, len, cap, os, e, h1, h2, h3, h4, h5, h6⟩ := open_rows EO.cells Or.ok cells7_or (by decide) (fun x hx => EO.len x) Try.underlying35 (fun f l y hl hf => open_orL hl hf) h
  exact ⟨A, len, cap, os, e, rd_of h1 (fun e => (h3 e).1) h6, h2, by omega⟩
end
end Go.Proofs.Ytdcjgcjnfcahkaa
/- The statements' 'orders' of stage 7, given the program's book. -/
namespace Go.Proofs.Ytdcjgcjnfcahkaa
open Go.RowKit Go.Shelf
set_option linter.unusedVariables false
set_option linter.unusedSimpArgs false

theorem eql_seq7 (gf : Nat) (lb : Array Value) (W : World) : (binOp .eql 75 (.func (.func gf) #[] lb) .nilFunc).run Try.prog W = .ok (.bool false) W := by
  kernel_rfl
theorem obj_cell7 {W : World} {k : Nat} {u : Value} {t : TypeId} (h : W.heap[k]? = some (.cells #[u] t (0, 0))) : W.cell? ⟨k, 0, none⟩ = some u := by rw [cell_of_row _ _ _ _ _ _ h]; rfl
section
variable {w : World} {p : Option Addr} {F : Nat → Prop} {os : List Or}
set_option maxRecDepth 100000 in
set_option maxHeartbeats 8000000 in
theorem orders7_of (hlen : os.length ≤ 200) (A : ∀ W, Fr (fun k => w.heap.size ≤ k) w W → Calls Try.prog 31 #[.pointer p] W (AllB W F os)) (hF : ∀ k, F k → k < w.heap.size) :
    Calls Try.prog 17 #[.pointer p] w fun e w' => ∃ v, e = .returned v ∧ EO.Own 31 w' w.heap.size v os ∧ Below w.heap.size w w' := by
  have hz := zero_or
  have EQ := eql_seq7
  obtain ⟨W0, hW0⟩ : ∃ W0, w.alloc (.cells #[.slice none 0 0] 35) = W0 := ⟨_, rfl⟩
  have b0 : Below w.heap.size w W0 := hW0 ▸ below_new w _
  have r0 : W0.heap[w.heap.size]? = some (.cells #[.slice none 0 0] 35 (0, 0)) := hW0 ▸ heap_alloc_new w _
  have HA := Lib.hid A
  have HF := Lib.hid hF
  have LN := Lib.hid hlen
  have HW := Lib.hid hW0
  have B0 := Lib.hid b0
  have R0 := Lib.hid r0
  clear A hF hlen hW0 b0 r0
  refine calls_marks Try.func17 rfl ?_
  simp only [Try.ntmps17, List.size_toArray, List.length_cons, List.length_nil, Nat.reduceAdd, Nat.reduceSub, Array.replicate_succ, Array.replicate_zero, List.push_toArray, List.append_toArray, List.nil_append, List.cons_append]
  go_wp2_with fail
  rw [HW.out]
  refine (HA.out W0 (Fr.below B0.out)).mono ?_; rintro e W1 ⟨gf1, lb1, T1, rfl, p1, -, -, -⟩
  have B1 := Lib.hid (B0.out.trans (p1.mono B0.out.size))
  have R1 : Hid (W1.heap[w.heap.size]? = some (.cells #[.slice none 0 0] 35 (0, 0))) := Lib.hid ((p1.block _ (Array.getElem?_eq_some_iff.1 R0.out).1).trans R0.out)
  clear p1 R0 B0
  go_wp2_with fail
  refine (HA.out W1 (Fr.below B1.out)).mono ?_; rintro e V ⟨gf, lb, T, rfl, q1, en, hT, tell⟩
  have TL := Lib.hid tell
  have EN := Lib.hid en
  have HT : Hid (∀ k, T k → k < w.heap.size ∨ W1.heap.size ≤ k) := Lib.hid fun k hk => (hT k hk).2.imp (HF.out k) id
  have BV := Lib.hid (B1.out.trans (q1.mono B1.out.size))
  have V1 : Hid (V.heap[w.heap.size]? = some (.cells #[.slice none 0 0] 35 (0, 0))) := Lib.hid ((q1.block _ (Array.getElem?_eq_some_iff.1 R1.out).1).trans R1.out)
  have SV : Hid (w.heap.size < W1.heap.size ∧ W1.heap.size ≤ V.heap.size) := Lib.hid ⟨(Array.getElem?_eq_some_iff.1 R1.out).1, q1.size⟩
  clear q1 en hT tell R1 B1
  go_wp2_with fail
  rename_i Q0 K0 a0
  have A0 := Lib.hid a0
  clear a0
  refine (wpIn_wide (n := 9)).1 ?_
  have hsv := SV.out
  have L0 : Hid (Lq EO 31 35 V w.heap.size [] (.slice none 0 0) V) := Lib.hid (lq_start V1.out)
  refine range_deep (S := Sv w.heap.size) (by decide) rfl EN.out (Still.var (by omega)) (TL.out V (Sv w.heap.size) 8 (Fr.refl _ _) (Still.var (by omega)) (fun k hk => by
      rcases (sq_of L0.out).1 hk with rfl | e
      · omega
      · cases e) (fun k hk c => by
      rcases (sq_of L0.out).1 c with rfl | e
      · rcases HT.out _ hk with d | d <;> omega
      · cases e) (by decide)) (fun _ => rfl)
    (fun pre U => pre.length ≤ 200 ∧ ∃ v, Lq EO 31 35 V w.heap.size (valsO pre) v U)
    (fun _ _ _ => False)
    (fun s A C ⟨hl, v, hj⟩ b k => ⟨hl, v, hj.calm (by omega) b k⟩)
    (fun _ s A C hj _ _ => hj)
    ⟨Nat.zero_le _, _, L0.out⟩
    (fun x a' U => ∃ bx, V.heap.size ≤ bx ∧ EO.Bx 31 U bx x.1 ∧ a' = { tmps := #[.pointer p, undef, .slice none 0 0, .pointer (some ⟨w.heap.size, 0, none⟩), .pointer (some ⟨bx, 0, none⟩), .pointer p, .func (.func gf1) #[] lb1, .bool false, undef, undef, .pointer p, .func (.func gf) #[] lb, .agg (EO.cells x.1).toArray, undef, undef, undef, undef, undef, undef, undef, undef], defers := [] })
    (fun x a' U l o o' hx hl ho hc => by
      obtain ⟨bx, h1, h2, h3⟩ := hx
      refine ⟨bx, h1, ?_, h3⟩
      show (U.putObj l o').heap[bx]? = _
      rw [World.putObj_heap_other (fun e => ?_)]
      · exact h2
      · subst e
        rw [show U.heap[bx]? = _ from h2] at ho
        cases ho
        cases hc) ?assign ?body ?done ?stop
  case assign =>
    rintro l pre x U KK ⟨hl, v, h2⟩ hK
    have HZ := Lib.hid (gbx_new (E := EO) (te := 31) U zeroOr)
    refine region_in rfl (fun ⟨_, _, h⟩ => h) ?_
    go_wp2_with (refine gwl_store TO x.1 U.heap.size HZ.out rfl rfl ?_)
    have q : Below U.heap.size U ((U.alloc (.cells (EO.cells zeroOr).toArray 31)).setRow U.heap.size (EO.cells x.1).toArray) := row_inO (Nat.le_refl _) (below_new U _)
    refine hK _ _ ⟨q.size, fun k o _ hk _ => (q.block k (Array.getElem?_eq_some_iff.1 hk).1).trans hk⟩ (Kc.below (Still.var (N := V.heap.size) (by omega)) h2.sz q) ⟨hl, v, h2.grow (by omega) q⟩ ⟨U.heap.size, h2.sz, gbx_set HZ.out, rfl⟩
  case body =>
    rintro l pre x a' U - - ⟨hl, v, h2⟩ ⟨bx, hb, hbx, rfl⟩ hlen
    have H2 := Lib.hid h2
    have RGX := Lib.hid (gbx_rng hbx)
    have cv : U.cell? ⟨w.heap.size, 0, none⟩ = some v := obj_cell7 h2.var
    have HP : Hid ((pre ++ [x]).length ≤ 200) := Lib.hid (by have := LN.out; rw [List.length_append, List.length_singleton]; omega)
    obtain ⟨A5, n5, c5, rfl⟩ := gown_any h2.own
    obtain ⟨fl, hfl⟩ : ∃ fl, valsO pre = fl := ⟨_, rfl⟩
    have FL : Hid (fl.length + 1 ≤ 100000) := Lib.hid (by rw [← hfl, valsO_len]; omega)
    have SN : Hid (valsO (pre ++ [x]) = fl ++ [x.1]) := Lib.hid (by rw [valsO_snoc, hfl])
    rw [hfl] at H2 h2
    have QN := Lib.hid (below_new U (.cells (EO.cells x.1).toArray 31))
    have OWN := Lib.hid (gown_below h2.own QN.out)
    have RDN := Lib.hid (gbx_rd (gbx_new (E := EO) (te := 31) U x.1))
    have SZ := Lib.hid h2.sz
    clear h2 hbx hfl hl
    refine wpIn_block ?_
    refine region_in rfl (fun ⟨_, _, h⟩ => h) ?_
    go_wp2_with (first
      | ((with_reducible refine gwl_load TO bx 0 RGX.out ?_ ?_ ?_); rfl; rfl)
      | ((with_reducible refine gwl_bs TO (s := x.1) ?_ (fill_or x.1) ?_ (by decide)); rfl)
      | (at_builtin; refine gpl_app TO rfl (.tmp 13) (.tmp 15) rfl V.heap.size (.slice A5 n5 c5) fl rfl OWN.out (some ⟨U.heap.size, 0, none⟩) 1 1 [x.1] rfl RDN.out (fun e => by cases e) FL.out (by have := SZ.out; simp; omega) ?_; intro v' w' o1 o2 o3; obtain ⟨A6, n6, c6, rfl⟩ := gown_any o1; have PUSH := Lib.hid (H2.out.push (x := x.1) (by omega) QN.out o1 o2 o3); have cv' : w'.cell? ⟨w.heap.size, 0, none⟩ = some (.slice A5 n5 c5) := lq_kept H2.out (by omega) QN.out o2; have fv' : w'.frozen? ⟨w.heap.size, 0, none⟩ = false := lq_fz H2.out (by omega) QN.out o2; clear o1 o2 o3))
    obtain ⟨g1, g2, g3⟩ := PUSH.out
    refine ⟨g3, g2, HP.out, .slice A6 n6 c6, ?_⟩
    rw [SN.out]
    exact g1
  case stop =>
    rintro D c pre U hD hS hx hM
    exact hx.elim
  case done =>
    rintro D xs U hD hS ⟨hl0, v, h2⟩ hM
    rw [hS] at h2
    have L2 := Lib.hid h2
    have HM := Lib.hid hM
    have HD := Lib.hid hD
    have FU : Hid (Fr (fun k => w.heap.size ≤ k) w U) := Lib.hid ((Fr.below BV.out).same (h2.fr.mono (fun k e => by omega)))
    clear h2 hl0 hM hD hS
    go_wp2_with fail
    refine A0.out _ _ ?_
    clear A0
    go_wp2_with fail
    refine (HA.out U FU.out).mono ?_; rintro e V3 ⟨gf3, lb3, T3, rfl, q3, en3, hT3, tell3⟩
    have TL3 := Lib.hid tell3
    have EN3 := Lib.hid en3
    have Q3 := Lib.hid q3
    clear q3 en3 hT3 tell3
    go_wp2_with fail
    rename_i K9 a0
    have A0 := Lib.hid a0
    clear a0
    refine (wpIn_wide (n := 9)).1 ?_
    refine range_deep (S := fun _ _ => False) (by decide) rfl EN3.out (Still.const _ _) (TL3.out V3 (fun _ _ => False) 8 (Fr.refl _ _) (Still.const _ _) (fun k hk => hk.elim) (fun k hk c => c) (by decide)) (fun _ => rfl)
      (fun (_ : List OkOr) X => Below V3.heap.size V3 X)
      (fun c _ X => c = .exit 2 ∧ Below V3.heap.size V3 X)
      (fun s A C hj b _ => hj.trans b)
      (fun c s A C hj b _ => ⟨hj.1, hj.2.trans b⟩)
      (Below.refl _ _)
      (fun x a' X => ∃ t, a' = { tmps := t, defers := [] })
      (fun x a' X l o o' hx hl ho hc => hx) ?assign2 ?body2 ?done2 ?stop2
    case assign2 =>
      rintro l pre x X KK hi hK
      gi_wp2
      exact hK _ _ (KeepsFrom.refl _ _) (Kc.fr (Fr.refl _ _)) hi ⟨_, rfl⟩
    case body2 =>
      rintro l pre x a' X - - hI ⟨t, rfl⟩ hlen
      refine wpIn_block ?_
      apply wpIn_exit
      exact ⟨KeepsFrom.refl _ _, rfl, hI⟩
    all_goals
      first
        | rintro D2 c2 pre2 X hD2 hS2 ⟨rfl, hF⟩ hM2
          apply wpIn_exit
        | rintro D2 ys2 X hD2 hS2 hF hM2
      have hdl := (Array.getElem?_eq_some_iff.1 HM.out).1
      have q3 := Q3.out
      have q := q3.trans (hF.mono q3.size)
      have cv : X.cell? ⟨w.heap.size, 0, none⟩ = some v := obj_cell7 ((q.block _ (Array.getElem?_eq_some_iff.1 L2.out.var).1).trans L2.out.var)
      have OX := Lib.hid (gown_below L2.out.own q)
      have M1 : Hid (X.heap[D]? = some (.deferred (some []))) := Lib.hid ((q.block _ hdl).trans HM.out)
      have M2 := Lib.hid hM2
      have DD : Hid (V.heap.size ≤ D ∧ D < D2 ∧ V.heap.size ≤ D2) := Lib.hid (by have := HD.out; have := q3.size; omega)
      have BX : Hid (Below w.heap.size w X) := Lib.hid (by
        have f := FU.out
        have f2 := f.same (Fr.below q)
        exact ⟨f2.b0.os, f2.b0.tape, f2.b0.output, f2.size, fun k hk => f2.at' k hk (by omega)⟩)
      clear q q3 hF hM2 hD2 hS2 hdl
      go_wp2_with fail
      refine A0.out _ _ ?_
      clear A0
      go_wp2_with fail
      have dd := DD.out
      have hnd : [D2, D].Nodup := by simp; omega
      refine ret_marks [D2, D] rfl hnd ?_ (results_tmp rfl _ _ _) ⟨v, rfl, ?_, ?_⟩
      · intro E hE
        rcases List.mem_cons.1 hE with rfl | hE
        · exact M2.out
        · rw [List.mem_singleton.1 hE]; exact M1.out
      · refine gown_low (gown_fr OX.out (fr_unmark (Ds := [D2, D]) X) (fun k hk c => ?_)) (by omega)
        obtain ⟨cur, e⟩ := gown_cells OX.out hk
        rcases List.mem_cons.1 c with rfl | c
        · rw [M2.out] at e; cases e
        · rw [List.mem_singleton.1 c, M1.out] at e; cases e
      · refine unmark_below [D2, D] _ _ _ (fun E hE => ?_) BX.out.size BX.out
        rcases List.mem_cons.1 hE with rfl | hE
        · omega
        · rw [List.mem_singleton.1 hE]; omega
end
theorem orders7_any {Pb : PbT} (K : BookK Pb) {w : World} {A : Nat → Prop} {G : Nat} {S : Sd} {t : Nat} (h : Pb w A G S t) :
    Calls Try.prog 17 #[.pointer (some ⟨G, 0, none⟩)] w fun e w' => ∃ v, e = .returned v ∧ EO.Own 31 w' w.heap.size v S.all ∧ Below w.heap.size w w' := by
  refine orders7_of (F := A) ?_ (fun W f => K.all (K.keep h f (fun k hk c => by have := K.lt h k hk; omega))) (fun k hk => K.lt h k hk)
  have := ((K.inv h).inv true).len
  have := ((K.inv h).inv false).len
  show (S true ++ S false).length ≤ 200
  rw [List.length_append]; omega
theorem orders7_nil {Pb : PbT} (K : BookK Pb) {w : World} {p : Option Addr} (h : Nb w p) :
    Calls Try.prog 17 #[.pointer p] w fun e w' => ∃ v, e = .returned v ∧ EO.Own 31 w' w.heap.size v [] ∧ Below w.heap.size w w' := by
  have hlt : ∀ g, p = some ⟨g, 0, none⟩ → g < w.heap.size := fun g e => by
    rcases h with e' | ⟨g', e', hg⟩
    · rw [e'] at e; cases e
    · rw [e'] at e; cases e; exact (Array.getElem?_eq_some_iff.1 hg).1
  refine orders7_of (F := fun k => p = some ⟨k, 0, none⟩) (Nat.zero_le _) (fun W f => K.nAll ?_) (fun k hk => hlt k hk)
  rcases h with e | ⟨g, e, hg⟩
  · exact .inl e
  · exact .inr ⟨g, e, (f.at' g (hlt g e) (by have := hlt g e; omega)).trans hg⟩
end Go.Proofs.Ytdcjgcjnfcahkaa
/- A book of the call's own; the statements' own check of stage 7, given the program's book. -/
namespace Go.Proofs.Ytdcjgcjnfcahkaa
open Go.RowKit Go.Shelf
set_option linter.unusedVariables false
set_option linter.unusedSimpArgs false

/-- A book of the call's own. -/
def Cw (Pb : PbT) (w W : World) (G : Nat) (S : Sd) (t : Nat) : Prop := ∃ A, Pb W A G S t ∧ Below w.heap.size w W ∧ ∀ k, A k → w.heap.size ≤ k
theorem fr_below {A : Nat → Prop} {w W W' : World} (b : Below w.heap.size w W) (hA : ∀ k, A k → w.heap.size ≤ k) (f : Fr A W W') : Below w.heap.size w W' :=
  ⟨f.b0.os.trans b.os, f.b0.tape.trans b.tape, f.b0.output.trans b.output, Nat.le_trans b.size f.size, fun k hk => (f.at' k (Nat.lt_of_lt_of_le hk b.size) (fun c => by have := hA k c; omega)).trans (b.block k hk)⟩
section
variable {Pb : PbT} {w W W' : World} {G : Nat} {S T : Sd} {t t' : Nat}
theorem Cw.below (K : BookK Pb) (h : Cw Pb w W G S t) (q : Below W.heap.size W W') : Cw Pb w W' G S t := by
  obtain ⟨A, h1, h2, h3⟩ := h
  exact ⟨A, K.below h1 q, h2.trans (q.mono h2.size), h3⟩
theorem Cw.bl (h : Cw Pb w W G S t) : Below w.heap.size w W := by obtain ⟨A, _, h2, _⟩ := h; exact h2
theorem Cw.more (K : BookK Pb) (h : Cw Pb w W G S t) (ht : t ≤ t') : Cw Pb w W G S t' := by
  obtain ⟨A, h1, h2, h3⟩ := h
  exact ⟨A, K.more h1 ht, h2, h3⟩
theorem Cw.inv (K : BookK Pb) (h : Cw Pb w W G S t) : InvB S := by obtain ⟨A, h1, _⟩ := h; exact K.inv h1
theorem cw_aft {A : Nat → Prop} (b : Below w.heap.size w W) (hA : ∀ k, A k → w.heap.size ≤ k) (a : AftB Pb W A G T t' W') : Cw Pb w W' G T t' := by
  obtain ⟨A', h1, h2, h3⟩ := a
  exact ⟨A', h1, fr_below b hA h2, fun k hk => (h3 k hk).elim (hA k) fun c => Nat.le_trans b.size c⟩
end
theorem wl_eql_td {ops : Array Oper} {rest : List Oper} {a : Act} {w : World} {Q : Exit → Act → World → Prop} {d : Option Nat} {x y : Operand} {t2 ty : TypeId} {ps : String} {af : Array Edge} {gd : Option (Nat × Bool)} {u v : Td} (hu : u.ok) (hv : v.ok) (hw : Region.wanted ⟨d, .binOp .eql 63 x y t2, ty, ps, af, gd⟩ (yielded ops a.tmps) = true) (hx : a.eval x = .agg (ET.cells u).toArray) (hy : a.eval y = .agg (ET.cells v).toArray)
    (h : wpList Try.prog ops Q rest (a.put d (.bool (eqT u v))) w) : wpList Try.prog ops Q (⟨d, .binOp .eql 63 x y t2, ty, ps, af, gd⟩ :: rest) a w :=
  BigFrame.wpList_want hw fun _ hK => by
    unfold Oper.wp
    rw [exec_eql_td rfl hu hv hx hy w]
    exact hK _ _ h
theorem wl_eql_td0 {ops : Array Oper} {rest : List Oper} {a : Act} {w : World} {Q : Exit → Act → World → Prop} {d : Option Nat} {x y : Operand} {t2 ty : TypeId} {ps : String} {af : Array Edge} {gd : Option (Nat × Bool)} {u : Td} (hu : u.ok) (hw : Region.wanted ⟨d, .binOp .eql 63 x y t2, ty, ps, af, gd⟩ (yielded ops a.tmps) = true) (hx : a.eval x = .agg (ET.cells u).toArray) (hy : a.eval y = .agg (ET.cells u).toArray)
    (h : wpList Try.prog ops Q rest (a.put d (.bool true)) w) : wpList Try.prog ops Q (⟨d, .binOp .eql 63 x y t2, ty, ps, af, gd⟩ :: rest) a w :=
  wl_eql_td hu hu hw hx hy (by rw [eqT_yes]; exact h)
def od7 (k : Int) : Or := ⟨k + 1, 7 + k, false, 10, 5⟩
def last7 : Or := ⟨9, 7, true, 10, 7⟩
def kn7 : Nat → Sd
  | 0 => fun _ => []
  | 1 => fun b => if b then [] else [od7 0]
  | _ => fun b => if b then [] else [od7 0, od7 1]
theorem od7_ok {k : Int} (hk : 0 ≤ k ∧ k ≤ 1) : (od7 k).ok := by
  constructor <;> simp only [od7, I64'] <;> omega
theorem last7_ok : last7.ok := by
  constructor <;> simp [last7, I64']
theorem kn7_0 : placeA (kn7 0) (od7 0) 1 = 0 ∧ placeS (kn7 0) (od7 0) 1 = kn7 1 := ⟨by decide, by funext b; cases b <;> rfl⟩
theorem kn7_1 : placeA (kn7 1) (od7 1) 1 = 0 ∧ placeS (kn7 1) (od7 1) 1 = kn7 2 := ⟨by decide, by funext b; cases b <;> rfl⟩
theorem kn7_2 : placeA (kn7 2) last7 1 = 0 ∧ placeP (kn7 2) last7 1 = ⟨[⟨10, 5, 2, 8⟩], [1], 5, 2⟩ := ⟨by decide, rfl⟩
theorem td7_ok : (Td.mk 10 5 2 8).ok := by constructor <;> simp [I64']
set_option maxRecDepth 100000 in
set_option maxHeartbeats 8000000 in
theorem known7_any {Pb : PbT} (K : BookK Pb) (w : World) : Calls Try.prog 12 #[] w fun e w' => e = .returned (.bool true) ∧ Below w.heap.size w w' := by
  have NW := Lib.hid (K.new w)
  have KH := Lib.hid K
  have hpx := zero_px
  clear K
  go_enter Try.func12, Try.ntmps12
  go_wp2_with fail
  refine NW.out.mono ?_; rintro e w1 ⟨G, A, rfl, hp, q, hA⟩
  have C0 : Hid (Cw Pb w w1 G (kn7 0) 0) := Lib.hid ⟨A, hp, q, hA⟩
  clear NW hp q hA
  go_wp2_with fail
  go_loopw [10] (fun i wr => ∃ k : Nat, k ≤ 2 ∧ i = .int .i64 k ∧ Cw Pb w wr G (kn7 k) k) (fun i _ => 2 - (intOf i).toNat)
  case atStart => exact ⟨0, by omega, rfl, C0.out⟩
  case round =>
    clear C0
    obtain ⟨k, hk, rfl, A1, p1, b1, f1⟩ := hrel
    have P1 := Lib.hid p1
    have B1 := Lib.hid b1
    have F1 := Lib.hid f1
    clear p1 b1 f1
    by_cases hlt : k < 2
    case neg =>
      obtain rfl : k = 2 := by omega
      have PL := Lib.hid (KH.out.place (k := 1) P1.out last7_ok (by omega))
      rw [kn7_2.1, kn7_2.2] at PL
      go_wp2_with fail
      refine PL.out.mono ?_; rintro e w2 ⟨p, rfl, ⟨e1, e2⟩, A2, p2, q2, a2, i2, o2⟩
      obtain ⟨V, hV, bV, yV, zV, sV⟩ := put_px p (Below.refl w2.heap.size w2)
      have HV := Lib.hid hV
      have ZV := Lib.hid zV
      have BF := Lib.hid ((fr_below B1.out F1.out q2).trans (bV.mono (fr_below B1.out F1.out q2).size))
      have iV := i2.below bV
      obtain ⟨ta, tn, tc, na, nn, nc, fi, lf⟩ := p
      have e1 : fi = 5 := e1
      have e2 : lf = 2 := e2
      have e3 : tn = 1 := iV.tl
      have e4 : nn = 1 := iV.nl
      subst e1 e2 e3 e4
      obtain ⟨tb, tc', et⟩ := gown_slot iV.to (by decide)
      obtain ⟨nb, nc', en⟩ := gown_slot iV.no (by decide)
      injection et with et1 et9 et2
      clear et9
      injection en with en1 en9 en2
      clear en9
      subst et1 et2 en1 en2
      have RGT : Hid (V.rangeAt tb 0 (ET.cells ⟨10, 5, 2, 8⟩)) := Lib.hid (gown_rng (k := 0) (x := ⟨10, 5, 2, 8⟩) iV.to rfl)
      have n0 : V.cell? ⟨nb, 0, none⟩ = some (.int .u64 1) := gown_at (k := 0) (x := 1) iV.no rfl (i := 0) (by decide)
      have v0 : V.cell? ⟨w2.heap.size, 0, none⟩ = some (.slice (some ⟨tb, 0, none⟩) 1 tc) := gbx_cell yV 0
      have v1 : V.cell? ⟨w2.heap.size, 1, none⟩ = some (.slice (some ⟨nb, 0, none⟩) 1 nc) := gbx_cell yV 1
      have v2 : V.cell? ⟨w2.heap.size, 2, none⟩ = some (.int .i64 5) := gbx_cell yV 2
      have v3 : V.cell? ⟨w2.heap.size, 3, none⟩ = some (.int .i64 2) := gbx_cell yV 3
      clear p2 q2 a2 i2 o2 hV bV yV zV sV iV
      go_wp2_with (first | (refine wl_store_px _ w2.heap.size ZV.out rfl rfl ?_; rw [HV.out]) | ((with_reducible refine gwl_load TT tb 0 RGT.out ?_ ?_ ?_); rfl; rfl) | ((with_reducible refine wl_eql_td0 td7_ok ?_ ?_ ?_ ?_); rfl; rfl; rfl))
      go_ret
      exact ⟨rfl, BF.out⟩
    case pos =>
      have hk4 : k = 0 ∨ k = 1 := by omega
      rcases hk4 with rfl | rfl
      · have PL := Lib.hid (KH.out.place (k := 1) P1.out (od7_ok (k := 0) ⟨by omega, by omega⟩) (by omega))
        rw [kn7_0.1, kn7_0.2] at PL
        go_wp2_with fail
        refine PL.out.mono ?_; rintro e w2 ⟨p, rfl, pl⟩
        obtain ⟨V, hV, bV, yV, zV, sV⟩ := put_px p (Below.refl w2.heap.size w2)
        have HV := Lib.hid hV
        have ZV := Lib.hid zV
        have N := Lib.hid ((cw_aft B1.out F1.out pl.aft).below KH.out bV)
        clear pl hV bV yV zV sV
        go_wp2_with (refine wl_store_px p w2.heap.size ZV.out rfl rfl ?_; rw [HV.out])
        go_roundw
        case rel => exact ⟨1, by omega, rfl, N.out⟩
        case measure => simp [intOf]
      · have PL := Lib.hid (KH.out.place (k := 1) P1.out (od7_ok (k := 1) ⟨by omega, by omega⟩) (by omega))
        rw [kn7_1.1, kn7_1.2] at PL
        go_wp2_with fail
        refine PL.out.mono ?_; rintro e w2 ⟨p, rfl, pl⟩
        obtain ⟨V, hV, bV, yV, zV, sV⟩ := put_px p (Below.refl w2.heap.size w2)
        have HV := Lib.hid hV
        have ZV := Lib.hid zV
        have N := Lib.hid ((cw_aft B1.out F1.out pl.aft).below KH.out bV)
        clear pl hV bV yV zV sV
        go_wp2_with (refine wl_store_px p w2.heap.size ZV.out rfl rfl ?_; rw [HV.out])
        go_roundw
        case rel => exact ⟨2, by omega, rfl, N.out⟩
        case measure => simp [intOf]
end Go.Proofs.Ytdcjgcjnfcahkaa
