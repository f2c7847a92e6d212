/- The program's words: a trade, lists read (by genWfx.py). -/
import Derived.Test.YtbmlpokkojhhjaaGreatG17
import Derived.Test.YtbmlpokkojhhjaaGreatG32
import Derived.Test.YtbmlpokkojhhjaaGreatG06
namespace Go.Proofs.YtbmlpokkojhhjaaGreat.Wz
open Go.RowKit
set_option linter.unusedVariables false
set_option linter.unusedSimpArgs false

theorem TTwR : EltR Tryz.prog ETw 72 := ⟨⟨_, Tryz.underlying72⟩, by kernel_rfl⟩
theorem zero_tw (w : World) : (zeroValue 72).run Tryz.prog w = .ok (.agg (ETw.cells zeroTw).toArray) w := by kernel_rfl
theorem four_arr {α : Type} {l : Array α} (h : l.size = 4) : ∃ a b c d, l = #[a, b, c, d] := by
  obtain ⟨l⟩ := l
  match l, h with
  | [a, b, c, d], _ => exact ⟨a, b, c, d, rfl⟩
theorem fill_tw (o : Tw) (z : Value) (h : z.cells.size = ETw.N) : Instr.fill (fun i => some (i * ETw.N, ETw.N)) ((Array.range (1 * ETw.N)).map (z.cells[· % z.cells.size]!)) [(0, .agg (ETw.cells o).toArray)] = some (ETw.cells o).toArray := by
  obtain ⟨a, b, c, d, hz⟩ := four_arr (show z.cells.size = 4 from h)
  rw [hz]
  obtain ⟨p, q, n, ac⟩ := o
  kernel_rfl
theorem dd_trans {w W W' : World} {g : Nat} {A A1 : Option Addr} {b' : List Int} {e' : Int} (gr : w.grownBy W (some g)) (h1 : ∀ a, A1 = some a → ∃ a0, A = some a0 ∧ a.block = a0.block) (h : Dd W g A1 b' e' W') : Dd w g A b' e' W' := by
  obtain ⟨⟨A', n, c, rq, hA⟩, g2⟩ := h
  exact ⟨⟨A', n, c, rq, fun a ha => by obtain ⟨a1, e1, e2⟩ := hA a ha; obtain ⟨a0, e3, e4⟩ := h1 a1 e1; exact ⟨a0, e3, e2.trans e4⟩⟩, gr.trans g2⟩
theorem dd_row {w W : World} {g r : Nat} {A : Option Addr} {b : List Int} {e : Int} (h : Dd w g A b e W) (hr : w.heap.size ≤ r) (hg : g < w.heap.size) (hA : ∀ a, A = some a → a.block < w.heap.size) (cs : Array Value) : Dd w g A b e (W.setRow r cs) := by
  obtain ⟨⟨A', n, c, rq, hA'⟩, gr⟩ := h
  have f : ∀ j, j ≠ r → (W.setRow r cs).heap[j]? = W.heap[j]? := fun j hj => setRow_other W r j cs (by omega)
  refine ⟨⟨A', n, c, ⟨(f g (by omega)).trans rq.b, ⟨rq.r.1, fun hn => ?_⟩, rq.nc⟩, hA'⟩, ?_⟩
  · obtain ⟨b', o, e1, hc⟩ := rq.r.2 hn
    refine ⟨b', o, e1, fun i hi => ?_⟩
    obtain ⟨a0, e3, e4⟩ := hA' _ e1
    have hb : b' < w.heap.size := by have := hA a0 e3; have e5 : b' = a0.block := e4; omega
    have := hc i hi
    simp only [World.cell?] at this ⊢
    rw [f b' (by omega)]
    exact this
  · have q := below_row0 (base := 0) (g := r) (cs := cs) (Below.refl 0 W) (Nat.zero_le _)
    exact ⟨q.os.trans gr.os, q.tape.trans gr.tape, q.output.trans gr.output, Nat.le_trans gr.size q.size, fun j hj hn => (f j (by omega)).trans (gr.block j hj hn)⟩
theorem dd_below {w w1 W : World} {g : Nat} {A : Option Addr} {b : List Int} {e : Int} (q : Below w.heap.size w w1) (h : Dd w1 g A b e W) : Dd w g A b e W := dd_trans (below_grown q _) (same_block A) h
theorem dd_more {w W W' : World} {g : Nat} {A : Option Addr} {b : List Int} {e : Int} (h : Dd w g A b e W) (q : Below W.heap.size W W') : Dd w g A b e W' := by
  obtain ⟨⟨A', n, c, rq, hA'⟩, gr⟩ := h
  exact ⟨⟨A', n, c, rq.below q, hA'⟩, gr.trans (below_grown q _)⟩
/-- A row of one's own grows, in new memory: the reader stays. -/
theorem dd_own {w W W' : World} {g : Nat} {A : Option Addr} {b : List Int} {e : Int} (h : Dd w g A b e W) {v : Value} (gr2 : W.grownBy W' v.ownBlock) (hv : ∀ k, v.ownBlock = some k → w.heap.size ≤ k) (hg : g < w.heap.size) (hA : ∀ a, A = some a → a.block < w.heap.size) : Dd w g A b e W' := by
  obtain ⟨⟨A', n, c, rq, hA'⟩, gr⟩ := h
  have f : ∀ j, j < w.heap.size → W'.heap[j]? = W.heap[j]? := fun j hj => gr2.block j (Nat.lt_of_lt_of_le hj gr.size) fun e => by have := hv j e.symm; omega
  refine ⟨⟨A', n, c, ⟨(f g hg).trans rq.b, ⟨rq.r.1, fun hn => ?_⟩, rq.nc⟩, hA'⟩, ?_⟩
  · obtain ⟨b', o, e1, hc⟩ := rq.r.2 hn
    refine ⟨b', o, e1, fun i hi => ?_⟩
    obtain ⟨a0, e3, e4⟩ := hA' _ e1
    have hb : b' < w.heap.size := by have := hA a0 e3; have e5 : b' = a0.block := e4; omega
    have := hc i hi
    simp only [World.cell?] at this ⊢
    rw [f b' hb]
    exact this
  · exact ⟨gr2.os.trans gr.os, gr2.tape.trans gr.tape, gr2.output.trans gr.output, Nat.le_trans gr.size gr2.size, fun j hj hn => (f j hj).trans (gr.block j hj hn)⟩
section
variable {w : World} {ops : Array Oper} {rest : List Oper} {o : Oper} {a : Act} {Q : Exit → Act → World → Prop}
theorem n6_wpl (hgd : o.guard = none) (s x : Operand)
    (ho : o.op = .call { callee := .builtin .append, args := #[s, x], argTypes := #[37, 37] }) (base : Nat) (v : Value) (xs : List Int) (hs : a.eval s = v)
    (hown : E6w.Own 26 w base v xs) (A : Option Addr) (m c : Nat) (l : List Int) (hx : a.eval x = .slice A m c) (hr : E6w.Rd w A m l) (h0 : A = none → c = 0) (hlen : xs.length + m ≤ 100000) (hbase : base ≤ w.heap.size)
    (h : ∀ v' w', E6w.Own 26 w' base v' (xs ++ l) → w.grownBy w' v.ownBlock → wpList Tryz.prog ops Q rest (a.put o.dst v') w') : wpList Tryz.prog ops Q (o :: rest) a w :=
  BigFrame.wpList_want (by simp [Region.wanted, hgd]) fun _ hK => n6_wp15 s x ho base v xs hs hown A m c l hx hr h0 hlen hbase fun v' w' o1 o2 _ => hK _ _ (h v' w' o1 o2)
theorem n3_wpl (hgd : o.guard = none) (s x : Operand)
    (ho : o.op = .call { callee := .builtin .append, args := #[s, x], argTypes := #[38, 38] }) (base : Nat) (v : Value) (xs : List Int) (hs : a.eval s = v)
    (hown : E3w.Own 25 w base v xs) (A : Option Addr) (m c : Nat) (l : List Int) (hx : a.eval x = .slice A m c) (hr : E3w.Rd w A m l) (h0 : A = none → c = 0) (hlen : xs.length + m ≤ 100000) (hbase : base ≤ w.heap.size)
    (h : ∀ v' w', E3w.Own 25 w' base v' (xs ++ l) → w.grownBy w' v.ownBlock → wpList Tryz.prog ops Q rest (a.put o.dst v') w') : wpList Tryz.prog ops Q (o :: rest) a w :=
  BigFrame.wpList_want (by simp [Region.wanted, hgd]) fun _ hK => n3_wp15 s x ho base v xs hs hown A m c l hx hr h0 hlen hbase fun v' w' o1 o2 _ => hK _ _ (h v' w' o1 o2)
end
set_option maxRecDepth 100000 in
set_option maxHeartbeats 8000000 in
theorem taketrade15 (g n c : Nat) (A : Option Addr) (bs : List Int) (e : Int) (w : World) (h : Rq w g A n c bs e) (hy : By bs) (hn : n ≤ 200000) (hA : ∀ a, A = some a → a.block < w.heap.size) :
    Calls Tryz.prog 31 #[.pointer (some ⟨g, 0, none⟩)] w fun E W => E = .returned (.agg (ETw.cells (Wt.tR bs e).1).toArray) ∧ Dd w g A (Wt.tR bs e).2.1 (Wt.tR bs e).2.2 W := by
  have hzt := zero_tw
  have lg := h.lt
  obtain ⟨w1, hw1⟩ : ∃ W, w.alloc (.cells (ETw.cells zeroTw).toArray 72) = W := ⟨_, rfl⟩
  obtain ⟨g0, hg0⟩ : ∃ g, w.heap.size = g := ⟨_, rfl⟩
  have b1 : Below w.heap.size w w1 := by rw [← hw1]; exact below_new w _
  have r1 : ETw.Bx 72 w1 g0 zeroTw := by rw [← hw1, ← hg0]; exact gbx_new w _
  have hl := h.r.1
  have h1 := iR_by hy e
  have h2 := iR_by h1.1 (iR bs e).2.2
  have h3 := sR_by h2.1 (iR (iR bs e).2.1 (iR bs e).2.2).2.2 top
  have CI := int_any g n c A bs e w1 (h.below b1) hy hn
  rw [show zz (sR bs e top).1 = (iR bs e).1 from rfl, show (sR bs e top).2.1 = (iR bs e).2.1 from rfl, show (sR bs e top).2.2 = (iR bs e).2.2 from rfl] at CI
  have ER : Wt.tR bs e = (⟨(iR bs e).1, (iR (iR bs e).2.1 (iR bs e).2.2).1, (sR (iR (iR bs e).2.1 (iR bs e).2.2).2.1 (iR (iR bs e).2.1 (iR bs e).2.2).2.2 top).1,
    (sR (sR (iR (iR bs e).2.1 (iR bs e).2.2).2.1 (iR (iR bs e).2.1 (iR bs e).2.2).2.2 top).2.1 (sR (iR (iR bs e).2.1 (iR bs e).2.2).2.1 (iR (iR bs e).2.1 (iR bs e).2.2).2.2 top).2.2 4294967295).1⟩,
   (sR (sR (iR (iR bs e).2.1 (iR bs e).2.2).2.1 (iR (iR bs e).2.1 (iR bs e).2.2).2.2 top).2.1 (sR (iR (iR bs e).2.1 (iR bs e).2.2).2.1 (iR (iR bs e).2.1 (iR bs e).2.2).2.2 top).2.2 4294967295).2) := rfl
  rw [ER]
  dsimp only
  clear ER
  generalize iR bs e = p at *
  have CI2 := Lib.hid fun (U : World) (A1 : Option Addr) (n1 k1 : Nat) (rq : Rq U g A1 n1 k1 p.2.1 p.2.2) => (by
    have C := int_any g n1 k1 A1 p.2.1 p.2.2 U rq h1.1 (by have := rq.r.1; omega)
    rwa [show zz (sR p.2.1 p.2.2 top).1 = (iR p.2.1 p.2.2).1 from rfl, show (sR p.2.1 p.2.2 top).2.1 = (iR p.2.1 p.2.2).2.1 from rfl, show (sR p.2.1 p.2.2 top).2.2 = (iR p.2.1 p.2.2).2.2 from rfl] at C : Calls Tryz.prog 28 #[.pointer (some ⟨g, 0, none⟩)] U fun E W => E = .returned (.int .i64 (iR p.2.1 p.2.2).1) ∧ Dd U g A1 (iR p.2.1 p.2.2).2.1 (iR p.2.1 p.2.2).2.2 W)
  generalize iR p.2.1 p.2.2 = q at *
  have CN := Lib.hid fun (U : World) (A1 : Option Addr) (n1 k1 : Nat) (rq : Rq U g A1 n1 k1 q.2.1 q.2.2) => nat_any g n1 k1 A1 q.2.1 q.2.2 U rq h2.1 (by have := rq.r.1; omega)
  generalize sR q.2.1 q.2.2 top = u at *
  have CT := Lib.hid fun (U : World) (A1 : Option Addr) (n1 k1 : Nat) (rq : Rq U g A1 n1 k1 u.2.1 u.2.2) => takes32 g n1 k1 A1 u.2.1 u.2.2 U rq h3.1 (by have := rq.r.1; omega)
  generalize sR u.2.1 u.2.2 4294967295 = z at *
  have CI1 := Lib.hid CI
  have HG0 := Lib.hid hg0
  have B1 := Lib.hid b1
  have R1 := Lib.hid r1
  have HW1 := Lib.hid hw1
  have LG := Lib.hid lg
  have HA := Lib.hid hA
  have SZ1 : Hid (w1.heap.size = g0 + 1) := Lib.hid (by rw [← hw1, ← hg0]; simp)
  clear h hy hn hA hl h1 h2 h3 CI lg b1 r1 hw1
  go_enter Tryz.func31, Tryz.ntmps31
  go_wp2_with (rw [HW1.out])
  refine CI1.out.mono ?_; rintro e1 w2 ⟨rfl, d1⟩
  have D1 := Lib.hid d1
  obtain ⟨A1, n1, k1, rq, hA1⟩ := d1.1
  have C := Lib.hid (CI2.out w2 A1 n1 k1 rq)
  have HA1 := Lib.hid hA1
  clear d1 rq hA1 CI1 CI2
  go_wp2_with fail
  refine C.out.mono ?_; rintro e1 w3 ⟨rfl, d⟩
  have D2 := Lib.hid (dd_trans D1.out.2 HA1.out d)
  obtain ⟨A2, n2, k2, rq, hA2⟩ := D2.out.1
  have C := Lib.hid (CN.out w3 A2 n2 k2 rq)
  have HA2 := Lib.hid hA2
  clear d rq hA2 CN
  go_wp2_with fail
  refine C.out.mono ?_; rintro e1 w4 ⟨rfl, d⟩
  have D3 := Lib.hid (dd_trans D2.out.2 HA2.out d)
  obtain ⟨A3, n3, k3, rq, hA3⟩ := D3.out.1
  have C := Lib.hid (CT.out w4 A3 n3 k3 rq)
  have HA3 := Lib.hid hA3
  clear d rq hA3 CT
  go_wp2_with fail
  refine C.out.mono ?_; rintro e1 w5 ⟨rfl, d⟩
  have D4 := Lib.hid (dd_trans D3.out.2 HA3.out d)
  have R5 : Hid (ETw.Bx 72 w5 g0 zeroTw) := Lib.hid ((D4.out.2.block g0 (by have := SZ1.out; omega) (by have := LG.out; have := HG0.out; simp; omega)).trans R1.out)
  have D5 := Lib.hid fun cs => dd_row (dd_below B1.out D4.out) (r := g0) (by rw [HG0.out]; exact Nat.le_refl _) LG.out HA.out cs
  clear d
  go_wp2_with (first | (rw [HG0.out]) | (refine gwl_store TTw (⟨p.1, q.1, u.1, z.1⟩ : Tw) g0 R5.out rfl rfl ?_))
  exact bodyPost_ret (rret1 TTwR rfl _ _ g0 rfl (gbx_set R5.out)) rfl ⟨rfl, D5.out _⟩
set_option maxRecDepth 100000 in
theorem elT (g gb n c : Nat) (A : Option Addr) (bs : List Int) (e : Int) (w : World) (h : Rq w g A n c bs e) (hy : By bs) (hn : n ≤ 200000) (hA : ∀ a, A = some a → a.block < w.heap.size) (hb : w.cell? ⟨gb, 0, none⟩ = some (.pointer (some ⟨g, 0, none⟩))) :
    Calls Tryz.prog 30 #[.pointer (some ⟨gb, 0, none⟩)] w fun E W => E = .returned (.agg (ETw.cells (Wt.tR bs e).1).toArray) ∧ Dd w g A (Wt.tR bs e).2.1 (Wt.tR bs e).2.2 W := by
  have hzt := zero_tw
  have lg := h.lt
  obtain ⟨w1, hw1⟩ : ∃ W, w.alloc (.cells (ETw.cells zeroTw).toArray 72) = W := ⟨_, rfl⟩
  obtain ⟨g0, hg0⟩ : ∃ g, w.heap.size = g := ⟨_, rfl⟩
  have b1 : Below w.heap.size w w1 := by rw [← hw1]; exact below_new w _
  have r1 : ETw.Bx 72 w1 g0 zeroTw := by rw [← hw1, ← hg0]; exact gbx_new w _
  have lb := World.block_lt_of_cell? w _ hb
  have k0 : w1.cell? ⟨gb, 0, none⟩ = some (.pointer (some ⟨g, 0, none⟩)) := cell_at hb b1 lb
  have C := Lib.hid (taketrade15 g n c A bs e w1 (h.below b1) hy hn (fun a ha => by have := hA a ha; have := b1.size; omega))
  have SZ1 : Hid (w1.heap.size = g0 + 1) := Lib.hid (by rw [← hw1, ← hg0]; simp)
  have HG0 := Lib.hid hg0
  have B1 := Lib.hid b1
  have R1 := Lib.hid r1
  have HW1 := Lib.hid hw1
  have LG := Lib.hid lg
  have HA := Lib.hid hA
  clear h hy hn hA hb b1 r1 hw1 lb lg
  go_enter Tryz.func30, Tryz.ntmps30
  go_wp2_with (rw [HW1.out])
  refine C.out.mono ?_; rintro e1 w2 ⟨rfl, d⟩
  have D1 := Lib.hid d
  have R5 : Hid (ETw.Bx 72 w2 g0 zeroTw) := Lib.hid ((d.2.block g0 (by have := SZ1.out; omega) (by have := LG.out; have := HG0.out; simp; omega)).trans R1.out)
  have D5 := Lib.hid fun cs => dd_row (dd_below B1.out d) (r := g0) (by rw [HG0.out]; exact Nat.le_refl _) LG.out HA.out cs
  clear d
  go_wp2_with (first | (rw [HG0.out]) | (refine gwl_store TTw (Wt.tR bs e).1 g0 R5.out rfl rfl ?_))
  exact bodyPost_ret (rret1 TTwR rfl _ _ g0 rfl (gbx_set R5.out)) rfl ⟨rfl, D5.out _⟩
set_option maxRecDepth 100000 in
theorem el6 (g gb n c : Nat) (A : Option Addr) (bs : List Int) (e : Int) (w : World) (h : Rq w g A n c bs e) (hy : By bs) (hn : n ≤ 200000) (hA : ∀ a, A = some a → a.block < w.heap.size) (hb : w.cell? ⟨gb, 0, none⟩ = some (.pointer (some ⟨g, 0, none⟩))) :
    Calls Tryz.prog 27 #[.pointer (some ⟨g, 0, none⟩)] w fun E W => E = .returned (.int .u64 (Wt.gR bs e).1) ∧ Dd w g A (Wt.gR bs e).2.1 (Wt.gR bs e).2.2 W := by
  exact nat_any g n c A bs e w h hy hn
set_option maxRecDepth 100000 in
theorem el3 (g gb n c : Nat) (A : Option Addr) (bs : List Int) (e : Int) (w : World) (h : Rq w g A n c bs e) (hy : By bs) (hn : n ≤ 200000) (hA : ∀ a, A = some a → a.block < w.heap.size) (hb : w.cell? ⟨gb, 0, none⟩ = some (.pointer (some ⟨g, 0, none⟩))) :
    Calls Tryz.prog 34 #[.pointer (some ⟨gb, 0, none⟩)] w fun E W => E = .returned (.int .u32 (Wt.aR bs e).1) ∧ Dd w g A (Wt.aR bs e).2.1 (Wt.aR bs e).2.2 W := by
  have C := Lib.hid (takes32 g n c A bs e w h hy hn)
  clear h hy hn hA
  go_enter Tryz.func34, Tryz.ntmps34
  go_wp2_with fail
  refine C.out.mono ?_; rintro e1 w2 ⟨rfl, d⟩
  have D := Lib.hid d
  clear d
  go_wp2_with fail
  go_ret
  exact ⟨rfl, D.out⟩
set_option maxRecDepth 100000 in
set_option maxHeartbeats 16000000 in
theorem takelistT (g gb n c : Nat) (A : Option Addr) (bs : List Int) (e : Int) (w : World) (h : Rq w g A n c bs e) (hy : By bs) (hn : n ≤ 200000) (hA : ∀ a, A = some a → a.block < w.heap.size) (hb : w.cell? ⟨gb, 0, none⟩ = some (.pointer (some ⟨g, 0, none⟩))) (hgb : gb ≠ g) :
    Calls Tryz.prog 29 #[.pointer (some ⟨g, 0, none⟩), .func (.func 30) #[] #[.pointer (some ⟨gb, 0, none⟩)]] w fun E W => ∃ v, E = .returned v ∧ ETw.Own 72 W w.heap.size v (nK Wt.tR bs e).1 ∧ Dd w g A (nK Wt.tR bs e).2.1 (nK Wt.tR bs e).2.2 W := by
  have lg := h.lt
  have lb := World.block_lt_of_cell? w _ hb
  have SM := Lib.hid (small_any g n c A bs e 4000 w h hy hn)
  have MV := sR_most hy e (m := 4000) (by decide)
  have NB := sR_by hy e 4000
  have hl := h.r.1
  have KN : nK Wt.tR bs e = rK Wt.tR (sR bs e 4000).2.1 (sR bs e 4000).2.2 (sR bs e 4000).1.toNat := rfl
  rw [KN]
  clear KN
  obtain ⟨⟨N, b1, e1⟩, hr⟩ : ∃ r, sR bs e 4000 = r := ⟨_, rfl⟩
  rw [hr] at SM MV NB ⊢
  dsimp only at SM MV NB ⊢
  obtain ⟨M, rfl⟩ : ∃ M : Nat, N = M := ⟨N.toNat, by omega⟩
  rw [Int.toNat_natCast]
  have HL : Hid (b1.length ≤ 200000) := Lib.hid (by have := NB.2; omega)
  have HY := Lib.hid NB.1
  have EL := Lib.hid fun (U : World) (A1 : Option Addr) (n1 c1 : Nat) (b : List Int) (e : Int) (rq : Rq U g A1 n1 c1 b e) (hy : By b) (hn : n1 ≤ 200000) (hA : ∀ a, A1 = some a → a.block < U.heap.size) (k : U.cell? ⟨gb, 0, none⟩ = some (.pointer (some ⟨g, 0, none⟩))) => elT g gb n1 c1 A1 b e U rq hy hn hA k
  have RB := Lib.hid fun (k : Nat) => rK_by tR_by HY.out e1 k
  have RL := Lib.hid fun (k : Nat) => rK_len Wt.tR b1 e1 k
  have HA := Lib.hid hA
  have HB := Lib.hid hb
  have LG := Lib.hid lg
  have LB := Lib.hid lb
  have NE := Lib.hid hgb
  have MM : Hid (M ≤ 4000) := Lib.hid (by omega)
  clear h hy hn hA hb hr NB hl lg lb
  go_enter Tryz.func29, Tryz.ntmps29
  go_wp2_with fail
  refine SM.out.mono ?_; rintro en w2 ⟨rfl, d⟩
  have D0 := Lib.hid d
  clear d SM
  go_wp2_with fail
  go_loopw [5, 8] (fun v5 i wr => ∃ k : Nat, k ≤ M ∧ i = .int .u64 k ∧ ETw.Own 72 wr w.heap.size v5 (rK Wt.tR b1 e1 k).1 ∧ Dd w g A (rK Wt.tR b1 e1 k).2.1 (rK Wt.tR b1 e1 k).2.2 wr) (fun _ i _ => M - (intOf i).toNat)
  case atStart => exact ⟨0, Nat.zero_le _, rfl, gown_nil _ _, D0.out⟩
  case round =>
    obtain ⟨k, hk, rfl, ho, hd0⟩ := hrel
    have O := Lib.hid ho
    have D := Lib.hid hd0
    clear ho hd0
    by_cases hlt : k < M
    case neg =>
      obtain rfl : k = M := by omega
      have hd : decide ((k : Int) < (k : Int)) = false := decide_eq_false (by omega)
      clear hlt
      go_wp2_with fail
      go_ret
      exact ⟨_, rfl, O.out, D.out⟩
    case pos =>
      have hd : decide ((k : Int) < (M : Int)) = true := decide_eq_true (by omega)
      have hki : (k : Int) < (M : Int) := by omega
      obtain ⟨A1, n1, k1, rq, hA1⟩ := D.out.1
      have HA1 := Lib.hid hA1
      have C := EL.out wr A1 n1 k1 _ _ rq (RB.out k).1 (by have := rq.r.1; have := (RB.out k).2; have := HL.out; omega) (fun a ha => by
        obtain ⟨a0, h1, h2⟩ := hA1 a ha
        have := HA.out a0 h1
        have := D.out.2.size
        omega) (by rw [← HB.out]; unfold World.cell?; rw [D.out.2.block gb LB.out (by have := NE.out; simp; omega)])
      obtain ⟨x, hx⟩ : ∃ x, (Wt.tR (rK Wt.tR b1 e1 k).2.1 (rK Wt.tR b1 e1 k).2.2).1 = x := ⟨_, rfl⟩
      rw [hx] at C
      have C := Lib.hid C
      have NX1 : Hid ((rK Wt.tR b1 e1 (k + 1)).1 = (rK Wt.tR b1 e1 k).1 ++ [x]) := Lib.hid (by rw [← hx]; rfl)
      clear rq hA1 hx
      go_wp2_with fail
      refine C.out.mono ?_; rintro en w5 ⟨rfl, d⟩
      have D5 := Lib.hid (show Dd w g A (rK Wt.tR b1 e1 (k + 1)).2.1 (rK Wt.tR b1 e1 (k + 1)).2.2 w5 from dd_trans D.out.2 HA1.out d)
      have O5 := Lib.hid (gown_same O.out fun j hj => d.2.block j (gown_lt O.out hj).2 (by have := (gown_lt O.out hj).1; have := LG.out; simp; omega))
      obtain ⟨wc, hwc⟩ : ∃ W, w5.alloc (.cells (ETw.cells x).toArray 72) = W := ⟨_, rfl⟩
      have q5 : Below w5.heap.size w5 wc := by rw [← hwc]; exact below_new _ _
      have RD : Hid (ETw.Rd wc (some ⟨w5.heap.size, 0, none⟩) 1 [x]) := Lib.hid (by rw [← hwc]; exact gbx_rd (gbx_new (E := ETw) w5 x))
      have D6 := Lib.hid (dd_more D5.out q5)
      have O6 := Lib.hid (gown_below O5.out q5)
      have BZ : Hid (w.heap.size ≤ wc.heap.size) := Lib.hid (Nat.le_trans D5.out.2.size q5.size)
      have LT : Hid ((rK Wt.tR b1 e1 k).1.length + 1 ≤ 100000) := Lib.hid (by rw [RL.out]; have := MM.out; omega)
      have HWc := Lib.hid hwc
      clear d q5 hwc C
      go_wp2_with (first | ((with_reducible refine gwl_bs TTw (s := x) ?_ (fill_tw _) ?_ (by decide)); rfl; rw [HWc.out]) | (at_builtin; refine gpl_app TTw rfl (.tmp 10) (.tmp 13) rfl w.heap.size _ _ rfl O6.out _ 1 1 [x] rfl RD.out (fun e => by cases e) LT.out BZ.out ?_; intro v7 w7 o7 g7 _; have O7 := Lib.hid o7; have D7 := Lib.hid (dd_own D6.out g7 (fun j hj => (gown_lt O6.out hj).1) LG.out HA.out); clear o7 g7))
      go_roundw
      case rel => exact ⟨k + 1, hlt, by go_num, by rw [NX1.out]; exact O7.out, D7.out⟩
      case measure => simp [intOf]; omega
set_option maxRecDepth 100000 in
set_option maxHeartbeats 16000000 in
theorem takelist6 (g gb n c : Nat) (A : Option Addr) (bs : List Int) (e : Int) (w : World) (h : Rq w g A n c bs e) (hy : By bs) (hn : n ≤ 200000) (hA : ∀ a, A = some a → a.block < w.heap.size) (hb : w.cell? ⟨gb, 0, none⟩ = some (.pointer (some ⟨g, 0, none⟩))) (hgb : gb ≠ g) :
    Calls Tryz.prog 32 #[.pointer (some ⟨g, 0, none⟩), .func (.func 27) #[.pointer (some ⟨g, 0, none⟩)] #[]] w fun E W => ∃ v, E = .returned v ∧ E6w.Own 26 W w.heap.size v (nK Wt.gR bs e).1 ∧ Dd w g A (nK Wt.gR bs e).2.1 (nK Wt.gR bs e).2.2 W := by
  have lg := h.lt
  have lb := World.block_lt_of_cell? w _ hb
  have SM := Lib.hid (small_any g n c A bs e 4000 w h hy hn)
  have MV := sR_most hy e (m := 4000) (by decide)
  have NB := sR_by hy e 4000
  have hl := h.r.1
  have KN : nK Wt.gR bs e = rK Wt.gR (sR bs e 4000).2.1 (sR bs e 4000).2.2 (sR bs e 4000).1.toNat := rfl
  rw [KN]
  clear KN
  obtain ⟨⟨N, b1, e1⟩, hr⟩ : ∃ r, sR bs e 4000 = r := ⟨_, rfl⟩
  rw [hr] at SM MV NB ⊢
  dsimp only at SM MV NB ⊢
  obtain ⟨M, rfl⟩ : ∃ M : Nat, N = M := ⟨N.toNat, by omega⟩
  rw [Int.toNat_natCast]
  have HL : Hid (b1.length ≤ 200000) := Lib.hid (by have := NB.2; omega)
  have HY := Lib.hid NB.1
  have EL := Lib.hid fun (U : World) (A1 : Option Addr) (n1 c1 : Nat) (b : List Int) (e : Int) (rq : Rq U g A1 n1 c1 b e) (hy : By b) (hn : n1 ≤ 200000) (hA : ∀ a, A1 = some a → a.block < U.heap.size) (k : U.cell? ⟨gb, 0, none⟩ = some (.pointer (some ⟨g, 0, none⟩))) => el6 g gb n1 c1 A1 b e U rq hy hn hA k
  have RB := Lib.hid fun (k : Nat) => rK_by gR_by HY.out e1 k
  have RL := Lib.hid fun (k : Nat) => rK_len Wt.gR b1 e1 k
  have HA := Lib.hid hA
  have HB := Lib.hid hb
  have LG := Lib.hid lg
  have LB := Lib.hid lb
  have NE := Lib.hid hgb
  have MM : Hid (M ≤ 4000) := Lib.hid (by omega)
  clear h hy hn hA hb hr NB hl lg lb
  go_enter Tryz.func32, Tryz.ntmps32
  go_wp2_with fail
  refine SM.out.mono ?_; rintro en w2 ⟨rfl, d⟩
  have D0 := Lib.hid d
  clear d SM
  go_wp2_with fail
  go_loopw [5, 8] (fun v5 i wr => ∃ k : Nat, k ≤ M ∧ i = .int .u64 k ∧ E6w.Own 26 wr w.heap.size v5 (rK Wt.gR b1 e1 k).1 ∧ Dd w g A (rK Wt.gR b1 e1 k).2.1 (rK Wt.gR b1 e1 k).2.2 wr) (fun _ i _ => M - (intOf i).toNat)
  case atStart => exact ⟨0, Nat.zero_le _, rfl, gown_nil _ _, D0.out⟩
  case round =>
    obtain ⟨k, hk, rfl, ho, hd0⟩ := hrel
    have O := Lib.hid ho
    have D := Lib.hid hd0
    clear ho hd0
    by_cases hlt : k < M
    case neg =>
      obtain rfl : k = M := by omega
      have hd : decide ((k : Int) < (k : Int)) = false := decide_eq_false (by omega)
      clear hlt
      go_wp2_with fail
      go_ret
      exact ⟨_, rfl, O.out, D.out⟩
    case pos =>
      have hd : decide ((k : Int) < (M : Int)) = true := decide_eq_true (by omega)
      have hki : (k : Int) < (M : Int) := by omega
      obtain ⟨A1, n1, k1, rq, hA1⟩ := D.out.1
      have HA1 := Lib.hid hA1
      have C := EL.out wr A1 n1 k1 _ _ rq (RB.out k).1 (by have := rq.r.1; have := (RB.out k).2; have := HL.out; omega) (fun a ha => by
        obtain ⟨a0, h1, h2⟩ := hA1 a ha
        have := HA.out a0 h1
        have := D.out.2.size
        omega) (by rw [← HB.out]; unfold World.cell?; rw [D.out.2.block gb LB.out (by have := NE.out; simp; omega)])
      obtain ⟨x, hx⟩ : ∃ x, (Wt.gR (rK Wt.gR b1 e1 k).2.1 (rK Wt.gR b1 e1 k).2.2).1 = x := ⟨_, rfl⟩
      rw [hx] at C
      have C := Lib.hid C
      have NX1 : Hid ((rK Wt.gR b1 e1 (k + 1)).1 = (rK Wt.gR b1 e1 k).1 ++ [x]) := Lib.hid (by rw [← hx]; rfl)
      clear rq hA1 hx
      go_wp2_with fail
      refine C.out.mono ?_; rintro en w5 ⟨rfl, d⟩
      have D5 := Lib.hid (show Dd w g A (rK Wt.gR b1 e1 (k + 1)).2.1 (rK Wt.gR b1 e1 (k + 1)).2.2 w5 from dd_trans D.out.2 HA1.out d)
      have O5 := Lib.hid (gown_same O.out fun j hj => d.2.block j (gown_lt O.out hj).2 (by have := (gown_lt O.out hj).1; have := LG.out; simp; omega))
      obtain ⟨wc, hwc⟩ : ∃ W, w5.alloc (.cells #[.int .u64 x] 26) = W := ⟨_, rfl⟩
      have q5 : Below w5.heap.size w5 wc := by rw [← hwc]; exact below_new _ _
      have RD : Hid (E6w.Rd wc (some ⟨w5.heap.size, 0, none⟩) 1 [x]) := Lib.hid (by rw [← hwc]; exact gbx_rd (gbx_new (E := E6w) w5 x))
      have D6 := Lib.hid (dd_more D5.out q5)
      have O6 := Lib.hid (gown_below O5.out q5)
      have BZ : Hid (w.heap.size ≤ wc.heap.size) := Lib.hid (Nat.le_trans D5.out.2.size q5.size)
      have LT : Hid ((rK Wt.gR b1 e1 k).1.length + 1 ≤ 100000) := Lib.hid (by rw [RL.out]; have := MM.out; omega)
      have HWc := Lib.hid hwc
      clear d q5 hwc C
      go_wp2_with (first | (rw [HWc.out]) | (at_builtin; refine n6_wpl rfl (.tmp 10) (.tmp 13) rfl w.heap.size _ _ rfl O6.out _ 1 1 [x] rfl RD.out (fun e => by cases e) LT.out BZ.out ?_; intro v7 w7 o7 g7; have O7 := Lib.hid o7; have D7 := Lib.hid (dd_own D6.out g7 (fun j hj => (gown_lt O6.out hj).1) LG.out HA.out); clear o7 g7))
      go_roundw
      case rel => exact ⟨k + 1, hlt, by go_num, by rw [NX1.out]; exact O7.out, D7.out⟩
      case measure => simp [intOf]; omega
set_option maxRecDepth 100000 in
set_option maxHeartbeats 16000000 in
theorem takelist3 (g gb n c : Nat) (A : Option Addr) (bs : List Int) (e : Int) (w : World) (h : Rq w g A n c bs e) (hy : By bs) (hn : n ≤ 200000) (hA : ∀ a, A = some a → a.block < w.heap.size) (hb : w.cell? ⟨gb, 0, none⟩ = some (.pointer (some ⟨g, 0, none⟩))) (hgb : gb ≠ g) :
    Calls Tryz.prog 33 #[.pointer (some ⟨g, 0, none⟩), .func (.func 34) #[] #[.pointer (some ⟨gb, 0, none⟩)]] w fun E W => ∃ v, E = .returned v ∧ E3w.Own 25 W w.heap.size v (nK Wt.aR bs e).1 ∧ Dd w g A (nK Wt.aR bs e).2.1 (nK Wt.aR bs e).2.2 W := by
  have lg := h.lt
  have lb := World.block_lt_of_cell? w _ hb
  have SM := Lib.hid (small_any g n c A bs e 4000 w h hy hn)
  have MV := sR_most hy e (m := 4000) (by decide)
  have NB := sR_by hy e 4000
  have hl := h.r.1
  have KN : nK Wt.aR bs e = rK Wt.aR (sR bs e 4000).2.1 (sR bs e 4000).2.2 (sR bs e 4000).1.toNat := rfl
  rw [KN]
  clear KN
  obtain ⟨⟨N, b1, e1⟩, hr⟩ : ∃ r, sR bs e 4000 = r := ⟨_, rfl⟩
  rw [hr] at SM MV NB ⊢
  dsimp only at SM MV NB ⊢
  obtain ⟨M, rfl⟩ : ∃ M : Nat, N = M := ⟨N.toNat, by omega⟩
  rw [Int.toNat_natCast]
  have HL : Hid (b1.length ≤ 200000) := Lib.hid (by have := NB.2; omega)
  have HY := Lib.hid NB.1
  have EL := Lib.hid fun (U : World) (A1 : Option Addr) (n1 c1 : Nat) (b : List Int) (e : Int) (rq : Rq U g A1 n1 c1 b e) (hy : By b) (hn : n1 ≤ 200000) (hA : ∀ a, A1 = some a → a.block < U.heap.size) (k : U.cell? ⟨gb, 0, none⟩ = some (.pointer (some ⟨g, 0, none⟩))) => el3 g gb n1 c1 A1 b e U rq hy hn hA k
  have RB := Lib.hid fun (k : Nat) => rK_by aR_by HY.out e1 k
  have RL := Lib.hid fun (k : Nat) => rK_len Wt.aR b1 e1 k
  have HA := Lib.hid hA
  have HB := Lib.hid hb
  have LG := Lib.hid lg
  have LB := Lib.hid lb
  have NE := Lib.hid hgb
  have MM : Hid (M ≤ 4000) := Lib.hid (by omega)
  clear h hy hn hA hb hr NB hl lg lb
  go_enter Tryz.func33, Tryz.ntmps33
  go_wp2_with fail
  refine SM.out.mono ?_; rintro en w2 ⟨rfl, d⟩
  have D0 := Lib.hid d
  clear d SM
  go_wp2_with fail
  go_loopw [5, 8] (fun v5 i wr => ∃ k : Nat, k ≤ M ∧ i = .int .u64 k ∧ E3w.Own 25 wr w.heap.size v5 (rK Wt.aR b1 e1 k).1 ∧ Dd w g A (rK Wt.aR b1 e1 k).2.1 (rK Wt.aR b1 e1 k).2.2 wr) (fun _ i _ => M - (intOf i).toNat)
  case atStart => exact ⟨0, Nat.zero_le _, rfl, gown_nil _ _, D0.out⟩
  case round =>
    obtain ⟨k, hk, rfl, ho, hd0⟩ := hrel
    have O := Lib.hid ho
    have D := Lib.hid hd0
    clear ho hd0
    by_cases hlt : k < M
    case neg =>
      obtain rfl : k = M := by omega
      have hd : decide ((k : Int) < (k : Int)) = false := decide_eq_false (by omega)
      clear hlt
      go_wp2_with fail
      go_ret
      exact ⟨_, rfl, O.out, D.out⟩
    case pos =>
      have hd : decide ((k : Int) < (M : Int)) = true := decide_eq_true (by omega)
      have hki : (k : Int) < (M : Int) := by omega
      obtain ⟨A1, n1, k1, rq, hA1⟩ := D.out.1
      have HA1 := Lib.hid hA1
      have C := EL.out wr A1 n1 k1 _ _ rq (RB.out k).1 (by have := rq.r.1; have := (RB.out k).2; have := HL.out; omega) (fun a ha => by
        obtain ⟨a0, h1, h2⟩ := hA1 a ha
        have := HA.out a0 h1
        have := D.out.2.size
        omega) (by rw [← HB.out]; unfold World.cell?; rw [D.out.2.block gb LB.out (by have := NE.out; simp; omega)])
      obtain ⟨x, hx⟩ : ∃ x, (Wt.aR (rK Wt.aR b1 e1 k).2.1 (rK Wt.aR b1 e1 k).2.2).1 = x := ⟨_, rfl⟩
      rw [hx] at C
      have C := Lib.hid C
      have NX1 : Hid ((rK Wt.aR b1 e1 (k + 1)).1 = (rK Wt.aR b1 e1 k).1 ++ [x]) := Lib.hid (by rw [← hx]; rfl)
      clear rq hA1 hx
      go_wp2_with fail
      refine C.out.mono ?_; rintro en w5 ⟨rfl, d⟩
      have D5 := Lib.hid (show Dd w g A (rK Wt.aR b1 e1 (k + 1)).2.1 (rK Wt.aR b1 e1 (k + 1)).2.2 w5 from dd_trans D.out.2 HA1.out d)
      have O5 := Lib.hid (gown_same O.out fun j hj => d.2.block j (gown_lt O.out hj).2 (by have := (gown_lt O.out hj).1; have := LG.out; simp; omega))
      obtain ⟨wc, hwc⟩ : ∃ W, w5.alloc (.cells #[.int .u32 x] 25) = W := ⟨_, rfl⟩
      have q5 : Below w5.heap.size w5 wc := by rw [← hwc]; exact below_new _ _
      have RD : Hid (E3w.Rd wc (some ⟨w5.heap.size, 0, none⟩) 1 [x]) := Lib.hid (by rw [← hwc]; exact gbx_rd (gbx_new (E := E3w) w5 x))
      have D6 := Lib.hid (dd_more D5.out q5)
      have O6 := Lib.hid (gown_below O5.out q5)
      have BZ : Hid (w.heap.size ≤ wc.heap.size) := Lib.hid (Nat.le_trans D5.out.2.size q5.size)
      have LT : Hid ((rK Wt.aR b1 e1 k).1.length + 1 ≤ 100000) := Lib.hid (by rw [RL.out]; have := MM.out; omega)
      have HWc := Lib.hid hwc
      clear d q5 hwc C
      go_wp2_with (first | (rw [HWc.out]) | (at_builtin; refine n3_wpl rfl (.tmp 10) (.tmp 13) rfl w.heap.size _ _ rfl O6.out _ 1 1 [x] rfl RD.out (fun e => by cases e) LT.out BZ.out ?_; intro v7 w7 o7 g7; have O7 := Lib.hid o7; have D7 := Lib.hid (dd_own D6.out g7 (fun j hj => (gown_lt O6.out hj).1) LG.out HA.out); clear o7 g7))
      go_roundw
      case rel => exact ⟨k + 1, hlt, by go_num, by rw [NX1.out]; exact O7.out, D7.out⟩
      case measure => simp [intOf]; omega
end Go.Proofs.YtbmlpokkojhhjaaGreat.Wz
