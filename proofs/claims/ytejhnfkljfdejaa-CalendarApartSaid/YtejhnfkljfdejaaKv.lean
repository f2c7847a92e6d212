/- A contract in a block of its own; contracts of the calls of the document's plain calendar: Get. -/
import Derived.Test.YtejhnfkljfdejaaKr
import Derived.Laws.ResultCell
namespace Go.Proofs.Ytejhnfkljfdejaa
open Go.RowKit

/-- A contract stands in a block. -/
def Cb (w : World) (g : Nat) (x : Ct) : Prop := w.heap[g]? = some (.cells x.cells 45 (0, 0)) ∧ x.sp.sh.length = 16
theorem Ct.size {x : Ct} (h : x.sp.sh.length = 16) : x.cells.size = 27 := by simp [Ct.cells, Ct.lenL h]
theorem Ct.one (x : Ct) : (x.cells.all fun v => v.oneCell') = true := by simp [Ct.cells, Ct.cellL, Sp.cellL, Value.oneCell']
theorem Cb.info {w : World} {g : Nat} {x : Ct} (h : Cb w g x) : (Try.prog.info? 45).map (fun i => i.size) = some x.cells.size := by rw [info_cs, Ct.size h.2]
theorem zero_ct (w : World) : (zeroValue 45).run Try.prog w = .ok (.agg zeroCt.cells) w := by kernel_rfl
theorem cb_new (w : World) {x : Ct} (h : x.sp.sh.length = 16) : Cb (w.alloc (.cells x.cells 45)) w.heap.size x := ⟨heap_alloc_new w _, h⟩
theorem cb_set {w : World} {g : Nat} {x y : Ct} (hb : Cb w g y) (hs : x.sp.sh.length = 16) : Cb (w.setRow g x.cells) g x := ⟨setRow_heap w g y.cells x.cells _ _ hb.1, hs⟩
theorem wl_store_ct {ops : Array Oper} {rest : List Oper} {a : Act} {w : World} {Q : Exit → Act → World → Prop} {d : Option Nat} {x y : Operand} {ty : TypeId} {ps : String} {af : Array Edge} {t : Ct} (s : Ct) (g : Nat) (hb : Cb w g t) (hs : s.sp.sh.length = 16)
    (hx : a.eval x = .pointer (some ⟨g, 0, none⟩)) (hy : a.eval y = .agg s.cells)
    (h : wpList Try.prog ops Q rest (a.put d undef) (w.setRow g s.cells)) : wpList Try.prog ops Q (⟨d, .store 45 x y, ty, ps, af, none⟩ :: rest) a w :=
  wpList_store_row rfl 45 x y rfl g s.cells hx hy 45 t.cells hb.1 (by rw [info_cs, Ct.size hs]) (by rw [Ct.size hs, Ct.size hb.2]) s.one h
theorem ret_ct {fn : Func} {p u : Tmp} (h : fn.results = #[.cell p 45, .tmp u]) (tmps : Array Value) (w : World) (g : Nat) {x : Ct} {v : Value} (hp : tmps.getD p undef = .pointer (some ⟨g, 0, none⟩)) (hv : tmps.getD u undef = v) (hb : Cb w g x) :
    (results fn tmps).run Try.prog w = .ok (.tuple #[.agg x.cells, v]) w := by
  rw [results_cell_tmp h]
  simp [hp, hv, asAddr, run_loadVar_row w g 45 45 x.cells (0, 0) _ hb.1 Try.underlying45 rfl hb.info]
theorem below_row'' {base : Nat} {w W : World} {g : Nat} {cs : Array Value} (b : Below base w W) (h : base ≤ g) : Below base w (W.setRow g cs) := below_row' b h

set_option maxRecDepth 100000 in
set_option maxHeartbeats 2000000 in
theorem rget_any (B g : Nat) (v : Value) (d : Int) (cs : List Ct) (nu : Int) (w : World) (h : Rc w B g v d cs) (hnu : 0 ≤ nu ∧ nu ≤ 4294967295) :
    Calls Try.prog 25 #[.pointer (some ⟨g, 0, none⟩), .int .u32 nu] w fun e w' => e = .returned (.tuple #[.agg (getC cs nu).cells, .int .i64 (getA cs nu)]) ∧ Rc w' B g v d cs ∧ Fr (fun _ => False) w w' := by
  have hz := zero_ct
  have HW := Lib.hid (cb_new w (x := zeroCt) rfl)
  have HF : Hid (Fr (fun _ => False) w (w.alloc (.cells zeroCt.cells 45))) := Lib.hid (Fr.below ((Below.refl _ _).alloc (Nat.le_refl _) _))
  have HC := Lib.hid (h.keep HF.out (fun h => h) (fun _ _ h => h))
  have P := rplace_any B g v d cs nu (w.alloc (.cells zeroCt.cells 45)) HC.out hnu
  have HH := Lib.hid h
  have HFR := Lib.hid fun (W : World) (x : Ct) (f : Fr (fun _ => False) w W) (hW : w.heap.size < W.heap.size) => (show Fr (fun _ => False) w (W.setRow w.heap.size x.cells) from ⟨below_row' f.b0 (Nat.zero_le _), fun i hi hn => (setRow_other W w.heap.size i x.cells (by omega)).trans (f.at' i hi hn)⟩)
  unfold getC getA
  cases hp : placeC cs nu with
  | none =>
    rw [placeI_none hp] at P
    clear hp
    go_enter Try.func25, Try.ntmps25
    go_wp2_with fail
    refine P.mono ?_; rintro e w1 ⟨rfl, rfl⟩
    go_wp2_with (refine wl_store_ct zeroCt w.heap.size HW.out rfl rfl rfl ?_)
    have F2 := HFR.out _ zeroCt HF.out (by simp)
    exact bodyPost_ret (ret_ct rfl _ _ w.heap.size rfl rfl (cb_set HW.out rfl)) rfl ⟨rfl, HH.out.keep F2 (fun h => h) (fun _ _ h => h), F2⟩
  | some k =>
    rw [placeI_some hp] at P
    obtain ⟨x, hx, hn⟩ := placeC_at hp
    simp only [hx]
    have hk := (List.getElem?_eq_some_iff.1 hx).1
    obtain ⟨b, c, rfl⟩ := h.slot hk
    have hl := h.le
    have HL := Lib.hid (h.sh x (List.mem_of_getElem? hx))
    have HR := Lib.hid (HC.out.rng hx)
    have d1 := HC.out.c1
    have hp1 : (k : Int) < (cs.length : Int) := by omega
    have hd : decide ((k : Int) < 0) = false := decide_eq_false (by omega)
    generalize hl2 : cs.length = n at *
    clear h hx hn hp hl2
    go_enter Try.func25, Try.ntmps25
    go_wp2_with fail
    refine P.mono ?_; rintro e w1 ⟨rfl, rfl⟩
    go_wp2_with (first | (refine wl_load_ctm b (k * 27) HL.out HR.out rfl ?_) | (refine wl_store_ct x w.heap.size HW.out HL.out rfl rfl ?_))
    have F2 := HFR.out _ x HF.out (by simp)
    exact bodyPost_ret (ret_ct rfl _ _ w.heap.size rfl rfl (cb_set HW.out HL.out)) rfl ⟨rfl, HH.out.keep F2 (fun h => h) (fun _ _ h => h), F2⟩
end Go.Proofs.Ytejhnfkljfdejaa
