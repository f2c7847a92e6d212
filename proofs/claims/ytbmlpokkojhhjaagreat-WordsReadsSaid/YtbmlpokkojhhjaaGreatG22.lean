/- Texts of a proof, laid together: Wff, Wfqf. -/
import Derived.Great.FillDense
import Derived.Test.YtbmlpokkojhhjaaGreatG18
import Derived.Test.YtbmlpokkojhhjaaGreatG19
import Derived.Test.YtbmlpokkojhhjaaGreatG20
import Derived.Test.YtbmlpokkojhhjaaGreatG21
import Derived.Test.YtbmlpokkojhhjaaGreatG06
/- The program's words: the parts of a kind, in their order (by genWff.py). -/
namespace Go.Proofs.YtbmlpokkojhhjaaGreat.Wz
open Go.RowKit
set_option linter.unusedVariables false
set_option linter.unusedSimpArgs false

def pcW : Nat → Nat
  | 0 => 84
  | 1 => 84
  | 2 => 87
  | 3 => 90
  | 4 => 93
  | 5 => 99
  | 6 => 99
  | 7 => 102
  | 8 => 90
  | _ => 90
def pcR : Nat → Nat
  | 0 => 85
  | 1 => 85
  | 2 => 88
  | 3 => 91
  | 4 => 94
  | 5 => 100
  | 6 => 100
  | 7 => 103
  | 8 => 91
  | _ => 91
def pcC : Nat → Nat
  | 0 => 86
  | 1 => 86
  | 2 => 89
  | 3 => 92
  | 4 => 95
  | 5 => 101
  | 6 => 101
  | 7 => 104
  | 8 => 92
  | _ => 92
def plF : Nat → Nat
  | 0 => 47
  | 1 => 48
  | 2 => 50
  | 3 => 52
  | 4 => 54
  | 5 => 58
  | 6 => 61
  | 7 => 63
  | 8 => 66
  | _ => 67
def puF : Nat → Nat
  | 0 => 44
  | 1 => 44
  | 2 => 38
  | 3 => 39
  | 4 => 55
  | 5 => 59
  | 6 => 59
  | 7 => 64
  | 8 => 39
  | _ => 39
def tkF : Nat → Nat
  | 0 => 35
  | 1 => 35
  | 2 => 27
  | 3 => 28
  | 4 => 56
  | 5 => 60
  | 6 => 60
  | 7 => 65
  | 8 => 28
  | _ => 28
def ptI (i n : Nat) : Option (Nat × Nat × Nat × Nat) := some (pcW i, pcR i, pcC i, n)
theorem wrI {i n : Nat} (hi : i < 10) (A : Option Addr) (k : Nat) (bs : List Int) (cm : Cm) (W : World) (hB : Bxs W n (plF i) (puF i) (tkF i)) (hn : n + 2 < W.heap.size) (hr : RdB W A bs.length bs) (h0 : A = none → bs.length = 0 ∧ k = 0) (hl : bs.length ≤ 100000) (ok : cm.ok) (hm : i = 4 → mayB cm.sp = true) :
    Calls Tryz.prog (pcW i) #[.slice A bs.length k, .agg (ECm.cells cm).toArray, bx (n + 1), bx n] W (PutOk W (bs ++ fF cm i)) := by
  match i, hi with
  | 0, _ => exact wr0 A k bs cm W hB hn hr h0 hl ok
  | 1, _ => exact wr1 A k bs cm W hB hn hr h0 hl ok
  | 2, _ => exact wr2 A k bs cm W hB hn hr h0 hl ok
  | 3, _ => exact wr3 A k bs cm W hB hn hr h0 hl ok
  | 4, _ => exact wr4 A k bs cm W hB hn hr h0 hl ok (hm rfl)
  | 5, _ => exact wr5 A k bs cm W hB hn hr h0 hl ok
  | 6, _ => exact wr6 A k bs cm W hB hn hr h0 hl ok
  | 7, _ => exact wr7 A k bs cm W hB hn hr h0 hl ok
  | 8, _ => exact wr8 A k bs cm W hB hn hr h0 hl ok
  | 9, _ => exact wr9 A k bs cm W hB hn hr h0 hl ok
theorem rdI {i n B g gc : Nat} (hi : i < 10) {w W : World} {cm : Cm} {bs : List Int} {e : Int} (h : Tq B w g gc W cm bs e) (hB : Bxs W n (plF i) (puF i) (tkF i)) (hn : gc < n) (hn2 : n + 2 < W.heap.size) :
    Calls Tryz.prog (pcR i) #[bx g, bx gc, bx (n + 2), bx n] W fun E W' => E = .returned (.tuple #[]) ∧ Tq B w g gc W' (rdF cm bs e i).1 (rdF cm bs e i).2.1 (rdF cm bs e i).2.2 ∧ W.heap.size ≤ W'.heap.size ∧ ∀ j, gc < j → j < W.heap.size → W'.heap[j]? = W.heap[j]? := by
  match i, hi with
  | 0, _ => exact rd0 h hB hn hn2
  | 1, _ => exact rd1 h hB hn hn2
  | 2, _ => exact rd2 h hB hn hn2
  | 3, _ => exact rd3 h hB hn hn2
  | 4, _ => exact rd4 h hB hn hn2
  | 5, _ => exact rd5 h hB hn hn2
  | 6, _ => exact rd6 h hB hn hn2
  | 7, _ => exact rd7 h hB hn hn2
  | 8, _ => exact rd8 h hB hn hn2
  | 9, _ => exact rd9 h hB hn hn2
theorem caI {i n gc : Nat} (hi : i < 10) {W : World} (s c : Cm) (hx : ECm.Bx 32 W gc c) (hB : Bxs W n (plF i) (puF i) (tkF i)) (hn : gc < n) (hn2 : n + 2 < W.heap.size) :
    Calls Tryz.prog (pcC i) #[.agg (ECm.cells s).toArray, bx gc, bx n] W fun E W' => E = .returned (.tuple #[]) ∧ ECm.Bx 32 W' gc (cpF s c i) ∧ Below gc W W' ∧ ∀ j, gc < j → j < W.heap.size → W'.heap[j]? = W.heap[j]? := by
  match i, hi with
  | 0, _ => exact ca0 s c hx hB hn hn2
  | 1, _ => exact ca1 s c hx hB hn hn2
  | 2, _ => exact ca2 s c hx hB hn hn2
  | 3, _ => exact ca3 s c hx hB hn hn2
  | 4, _ => exact ca4 s c hx hB hn hn2
  | 5, _ => exact ca5 s c hx hB hn hn2
  | 6, _ => exact ca6 s c hx hB hn hn2
  | 7, _ => exact ca7 s c hx hB hn hn2
  | 8, _ => exact ca8 s c hx hB hn hn2
  | 9, _ => exact ca9 s c hx hB hn hn2
/-- So many parts are made. -/
structure Mk (w : World) (N m : Nat) (W : World) : Prop where
  size : W.heap.size = N + 5 * m
  bel : Below N w W
  bxs : ∀ j, j < m → Bxs W (N + 5 * j) (plF j) (puF j) (tkF j)
  box : ∀ j, j < m → EPa.Bx 57 W (N + 5 * j + 4) (ptI j (N + 5 * j))
theorem Mk.step {w W Wa : World} {N m : Nat} (h : Mk w N m W) (q : Below W.heap.size W Wa) (hs : Wa.heap.size = W.heap.size + 4) (b : Bxs Wa W.heap.size (plF m) (puF m) (tkF m)) :
    EPa.Bx 57 (Wa.alloc (.cells #[.nilFunc, .nilFunc, .nilFunc] 57)) Wa.heap.size none ∧ Mk w N (m + 1) ((Wa.alloc (.cells #[.nilFunc, .nilFunc, .nilFunc] 57)).setRow Wa.heap.size (EPa.cells (ptI m W.heap.size)).toArray) := by
  have x : EPa.Bx 57 (Wa.alloc (.cells #[.nilFunc, .nilFunc, .nilFunc] 57)) Wa.heap.size none := gbx_new Wa none
  have q2 : Below Wa.heap.size Wa ((Wa.alloc (.cells #[.nilFunc, .nilFunc, .nilFunc] 57)).setRow Wa.heap.size (EPa.cells (ptI m W.heap.size)).toArray) := below_row0 (below_new _ _) (Nat.le_refl _)
  have e := h.size
  refine ⟨x, by simp; omega, h.bel.trans ((q.trans (q2.mono (by omega))).mono (by omega)), fun j hj => ?_, fun j hj => ?_⟩
  · rcases Nat.lt_or_ge j m with c | c
    · exact ((h.bxs j c).below q (by omega)).below q2 (by omega)
    · obtain rfl : j = m := by omega
      rw [← e]
      exact b.below q2 (by omega)
  · rcases Nat.lt_or_ge j m with c | c
    · exact gbx_below (gbx_below (h.box j c) q) q2
    · obtain rfl : j = m := by omega
      rw [← e, ← hs]
      exact gbx_set x
def zc15 : Array Value := #[.nilFunc, .nilFunc, .nilFunc]
theorem info_pa : (Tryz.prog.info? 57).map (fun i => (i.zero, i.size, i.bytes)) = some (some (.agg zc15), 3, 24) := by kernel_rfl
section
variable {ops : Array Oper} {rest : List Oper} {a : Act} {w : World} {Q : Exit → Act → World → Prop} {d : Option Nat} {ty : TypeId} {ps : String} {af : Array Edge}
theorem wl_bs15 {k : Nat} {parts : Array (Nat × Operand)} (l : List (Option (Nat × Nat × Nat × Nat))) (h1k : 0 < k) (hk : k ≤ 6)
    (hf : Instr.fill (fun i => some (i * 3, 3)) ((Array.range (k * 3)).map (zc15[· % zc15.size]!)) (parts.map fun (i, x) => (i, a.eval x)).toList = some (EPa.flat l).toArray)
    (h : wpList Tryz.prog ops Q rest (a.put d (.slice (some ⟨w.heap.size, 0, none⟩) k k)) (w.alloc (.cells (EPa.flat l).toArray 57))) :
    wpList Tryz.prog ops Q ({ dst := d, op := .buildSlice 51 k parts, type := ty, pos := ps, after := af, guard := none } :: rest) a w := by
  obtain ⟨ie, h1, h2, h3, _⟩ := info_parts info_pa
  exact wpList_buildSlice rfl 51 57 k parts rfl (EPa.flat l).toArray ie (.agg zc15) TPa.und h1 h2 (by rw [h3]; have e : 2 ^ 24 = 16777216 := rfl; rw [e]; omega) (by rw [h3]; omega) (by rw [h3]; exact hf) h
end
theorem rd_new15 (w : World) (l : List (Option (Nat × Nat × Nat × Nat))) : EPa.Rd (w.alloc (.cells (EPa.flat l).toArray 57)) (some ⟨w.heap.size, 0, none⟩) l.length l :=
  ⟨rfl, (fun h => by cases h), fun _ a e => by
    cases e
    refine ⟨rfl, fun j u hj => ?_⟩
    rw [cell_of_row _ _ _ _ _ _ (heap_alloc_new w _), Nat.zero_add]
    rw [← hj]
    simp⟩
/-- The parts of a kind, told. -/
def PartsOk (v : Int) (w : World) (e : Ending) (w' : World) : Prop := ∃ A c, e = .returned (.slice A (flds v).length c) ∧ EPa.Rd w' A (flds v).length ((flds v).map fun i => ptI i (w.heap.size + 5 * i)) ∧ (∀ i, i < 10 → Bxs w' (w.heap.size + 5 * i) (plF i) (puF i) (tkF i)) ∧ (∀ a, A = some a → w.heap.size ≤ a.block) ∧ Below w.heap.size w w' ∧ w.heap.size + 50 ≤ w'.heap.size
end Go.Proofs.YtbmlpokkojhhjaaGreat.Wz
/- A slice of parts built: the cells side by side. -/
namespace Go.Proofs.YtbmlpokkojhhjaaGreat.Wz
open Go.RowKit
set_option linter.unusedVariables false
set_option linter.unusedSimpArgs false

def paA (p : Option (Nat × Nat × Nat × Nat)) : Value := .agg (EPa.cells p).toArray
theorem fill_pa (l : List (Option (Nat × Nat × Nat × Nat))) : Instr.fill (fun i => some (i * 3, 3)) ((Array.range (l.length * 3)).map (zc15[· % zc15.size]!)) (((l.map paA).zipIdx 0).map fun x => (x.2, x.1)) = some (EPa.flat l).toArray := by
  have h := Go.Great.fill_whole (s := 3) (by decide) (l.map paA) ((Array.range (l.length * 3)).map (zc15[· % zc15.size]!)) (fun v hv => by
    obtain ⟨p, _, rfl⟩ := List.mem_map.1 hv
    show (EPa.cells p).toArray.size = 3
    rw [List.size_toArray, EPa.len]; rfl) (by simp)
  rw [h]
  congr 2
  unfold Elt.flat
  rw [List.flatMap_map]
  rfl
section
variable {ops : Array Oper} {rest : List Oper} {a : Act} {w : World} {Q : Exit → Act → World → Prop} {d : Option Nat} {ty : TypeId} {ps : String} {af : Array Edge}
theorem wl_bs16 {k : Nat} {parts : Array (Nat × Operand)} (l : List (Option (Nat × Nat × Nat × Nat))) (hl : l.length = k) (h1k : 0 < k) (hk : k ≤ 6)
    (hf : (parts.map fun (i, x) => (i, a.eval x)).toList = ((l.map paA).zipIdx 0).map fun x => (x.2, x.1))
    (h : wpList Tryz.prog ops Q rest (a.put d (.slice (some ⟨w.heap.size, 0, none⟩) k k)) (w.alloc (.cells (EPa.flat l).toArray 57))) :
    wpList Tryz.prog ops Q ({ dst := d, op := .buildSlice 51 k parts, type := ty, pos := ps, after := af, guard := none } :: rest) a w :=
  wl_bs15 l h1k hk (by rw [hf, ← hl]; exact fill_pa l) h
end
end Go.Proofs.YtbmlpokkojhhjaaGreat.Wz
