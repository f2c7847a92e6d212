/- The walk of the statement CalendarPlays, given the program's calendar. -/
import Derived.Test.YtejhnfkljfdejaaKp
import Derived.Test.YtejhnfkljfdejaaKq
namespace Go.Proofs.Ytejhnfkljfdejaa
open Go.RowKit Go.Shelf

/-- A call of the script. -/
structure OpC where
  kd : Int
  sp : Sp
  nu : Int
  on : Bool
  pr : Int
structure OpC.ok (x : OpC) : Prop where
  kd : I64 x.kd
  sp : x.sp.ok
  nu : 0 ≤ x.nu ∧ x.nu ≤ 4294967295
  pr : I64 x.pr
def OpC.cellL (x : OpC) : List Value := [.int .i64 x.kd] ++ (x.sp.cellL ++ [.int .u32 x.nu, .bool x.on, .int .i64 x.pr])
def OpC.cells (x : OpC) : Array Value := x.cellL.toArray
theorem OpC.lenL {x : OpC} (h : x.sp.sh.length = 16) : x.cellL.length = 29 := by simp [OpC.cellL, Sp.lenL h]
theorem OpC.size {x : OpC} (h : x.sp.sh.length = 16) : x.cells.size = 29 := by simp [OpC.cells, OpC.lenL h]
theorem OpC.one (x : OpC) : (x.cells.all fun v => v.oneCell') = true := by simp [OpC.cells, OpC.cellL, Sp.cellL, Value.oneCell']
theorem OpC.c0 (x : OpC) : x.cells[0]? = some (.int .i64 x.kd) := rfl
theorem OpC.ca {x : OpC} (h : x.sp.sh.length = 16) : x.cells[26]? = some (.int .u32 x.nu) := by
  have := Sp.lenL h
  simp [OpC.cells, OpC.cellL, this]
theorem OpC.cb {x : OpC} (h : x.sp.sh.length = 16) : x.cells[27]? = some (.bool x.on) := by
  have := Sp.lenL h
  simp [OpC.cells, OpC.cellL, this]
theorem OpC.cc {x : OpC} (h : x.sp.sh.length = 16) : x.cells[28]? = some (.int .i64 x.pr) := by
  have := Sp.lenL h
  simp [OpC.cells, OpC.cellL, this]
theorem OpC.cs {x : OpC} (h : x.sp.sh.length = 16) (j : Nat) (hj : j < 25) : x.cells[1 + j]? = x.sp.cellL[j]? := by
  have := Sp.lenL h
  simp only [OpC.cells, OpC.cellL, List.getElem?_toArray]
  rw [List.getElem?_append_right (by simp), List.getElem?_append_left (by simp; omega)]
  simp
theorem info_op : (Try.prog.info? 35).map (fun i => i.size) = some 29 := by kernel_rfl
def zeroOp : OpC := ⟨0, zeroSp, 0, false, 0⟩
theorem zero_op (w : World) : (zeroValue 35).run Try.prog w = .ok (.agg zeroOp.cells) w := by kernel_rfl
/-- The calls as they lie in memory. -/
def RdO (W : World) (A : Option Addr) (m : Nat) (os : List OpC) : Prop := os.length = m ∧ (0 < m → ∃ b o, A = some ⟨b, o, none⟩ ∧ b < W.heap.size ∧ ∀ (k : Nat) (x : OpC), os[k]? = some x → W.rangeAt b (o + k * 29) x.cellL)
section
variable {ops : Array Oper} {rest : List Oper} {a : Act} {w : World} {Q : Exit → Act → World → Prop} {d : Option Nat} {x y : Operand} {ty : TypeId} {ps : String} {af : Array Edge}
theorem wl_load_opm {s : OpC} (b o : Nat) (hl : s.sp.sh.length = 16) (hb : w.rangeAt b o s.cellL)
    (hx : a.eval x = .pointer (some ⟨b, o, none⟩)) (h : wpList Try.prog ops Q rest (a.put d (.agg s.cells)) w) : wpList Try.prog ops Q (⟨d, .load 35 x, ty, ps, af, none⟩ :: rest) a w :=
  wpList_load_mid rfl 35 x rfl b o hx s.cellL _ hb Try.underlying35 rfl (by rw [info_op, OpC.lenL hl]) h
theorem wl_store_op {t : OpC} (s : OpC) (g : Nat) (hb : w.heap[g]? = some (.cells t.cells 35 (0, 0)) ∧ t.sp.sh.length = 16) (hs : s.sp.sh.length = 16)
    (hx : a.eval x = .pointer (some ⟨g, 0, none⟩)) (hy : a.eval y = .agg s.cells)
    (h : wpList Try.prog ops Q rest (a.put d undef) (w.setRow g s.cells)) : wpList Try.prog ops Q (⟨d, .store 35 x y, ty, ps, af, none⟩ :: rest) a w :=
  wpList_store_row rfl 35 x y rfl g s.cells hx hy 35 t.cells hb.1 (by rw [info_op, OpC.size hs]) (by rw [OpC.size hs, OpC.size hb.2]) s.one h
theorem wl_load_ct {s : Ct} {gd : Option (Nat × Bool)} (g : Nat) (hb : Cb w g s)
    (hw : Region.wanted ⟨d, .load 45 x, ty, ps, af, gd⟩ (yielded ops a.tmps) = true) (hx : a.eval x = .pointer (some ⟨g, 0, none⟩))
    (h : wpList Try.prog ops Q rest (a.put d (.agg s.cells)) w) : wpList Try.prog ops Q (⟨d, .load 45 x, ty, ps, af, gd⟩ :: rest) a w :=
  BigFrame.wpList_want hw fun _ hK => wp_load_row 45 x rfl g hx 45 s.cells (0, 0) _ hb.1 Try.underlying45 rfl hb.info (hK _ _ h)
theorem wl_eql_ct {t2 : TypeId} {s : Ct} {gd : Option (Nat × Bool)} (ok : s.ok)
    (hw : Region.wanted ⟨d, .binOp .eql 45 x y t2, ty, ps, af, gd⟩ (yielded ops a.tmps) = true) (hx : a.eval x = .agg s.cells) (hy : a.eval y = .agg s.cells)
    (h : wpList Try.prog ops Q rest (a.put d (.bool true)) w) : wpList Try.prog ops Q (⟨d, .binOp .eql 45 x y t2, ty, ps, af, gd⟩ :: rest) a w :=
  BigFrame.wpList_want hw fun _ hK => by
    unfold Oper.wp
    rw [exec_ct (.inl rfl) rfl ok ok hx hy w, eqB_yes]
    exact hK _ _ h
theorem yields_load_spm {S : World → Prop} {o : Oper} (hw : Region.wanted o (yielded ops a.tmps) = true) (x : Operand) (ho : o.op = .load 33 x) (b q : Nat) (hx : a.eval x = .pointer (some ⟨b, q, none⟩)) {s : Sp} (hl : s.sh.length = 16) (hb : ∀ w, S w → w.rangeAt b q s.cellL) :
    YieldsIf Try.prog ops S o (.agg s.cells) a :=
  yieldsIf_load_mid hw 33 x ho b q hx s.cellL _ hb Try.underlying33 rfl (by rw [info_sp, Sp.lenL hl])
end
/-- The call's box among the blocks that neither calendar turns. -/
def obX (ob : Nat) (x : OpC) : List (Nat × Obj) := [(ob, .cells x.cells 35 (0, 0))]
section
variable {Pc : PcT} {zc : Array Value} {w W W' : World} {ob g gr g2 : Nat} {x : OpC} {d d1 d2 : Int} {cs cs1 cs2 : List Ct}
structure PxO (Pc : PcT) (w : World) (ob : Nat) (x : OpC) (W : World) (g gr : Nat) : Prop where
  px : PlX Pc w (obX ob x) W g gr
  len : x.sp.sh.length = 16
theorem PxO.hp (h : PxO Pc w ob x W g gr) : W.heap[ob]? = some (.cells x.cells 35 (0, 0)) := h.px.at (p := (ob, .cells x.cells 35 (0, 0))) (by simp [obX])
theorem PxO.kd (h : PxO Pc w ob x W g gr) : W.cell? ⟨ob, 0, none⟩ = some (.int .i64 x.kd) := by rw [cell_of_row _ _ _ _ _ _ h.hp]; rfl
theorem PxO.nu (h : PxO Pc w ob x W g gr) : W.cell? ⟨ob, 26, none⟩ = some (.int .u32 x.nu) := by rw [cell_of_row _ _ _ _ _ _ h.hp, OpC.ca h.len]
theorem PxO.on (h : PxO Pc w ob x W g gr) : W.cell? ⟨ob, 27, none⟩ = some (.bool x.on) := by rw [cell_of_row _ _ _ _ _ _ h.hp, OpC.cb h.len]
theorem PxO.pr (h : PxO Pc w ob x W g gr) : W.cell? ⟨ob, 28, none⟩ = some (.int .i64 x.pr) := by rw [cell_of_row _ _ _ _ _ _ h.hp, OpC.cc h.len]
theorem PxO.rs (h : PxO Pc w ob x W g gr) : W.rangeAt ob 1 x.sp.cellL := fun j u hj => by
  have := (List.getElem?_eq_some_iff.1 hj).1
  rw [Sp.lenL h.len] at this
  rw [cell_of_row _ _ _ _ _ _ h.hp, OpC.cs h.len j this, hj]
/-- The old one, the copy, and the plain one. -/
def Two (Pc : PcT) (w : World) (X : List (Nat × Obj)) (W : World) (g g2 gr : Nat) (d1 : Int) (cs1 : List Ct) (d : Int) (cs : List Ct) (d2 : Int) (cs2 : List Ct) : Prop :=
  ∃ F v F2, Pl Pc w X W F g gr v d1 cs1 d2 cs2 ∧ Pc W F2 g2 d cs ∧ (∀ k, F2 k → ¬ F k ∧ ¬ RcS gr v k ∧ w.heap.size ≤ k ∧ k < W.heap.size) ∧ (∀ p, p ∈ X → ¬ F2 p.1)
variable {X : List (Nat × Obj)} {d1' : Int} {cs1' : List Ct} {F F2 : Nat → Prop} {v : Value}
theorem two_aft (K : CalK Pc zc) (p : Pl Pc w X W F g gr v d1 cs1 d2 cs2) (h : Pc W F2 g2 d cs) (hd : ∀ k, F2 k → ¬ F k ∧ ¬ RcS gr v k ∧ w.heap.size ≤ k ∧ k < W.heap.size) (hx : ∀ p, p ∈ X → ¬ F2 p.1) (a : Aft Pc W F g d1' cs1' W') : Two Pc w X W' g g2 gr d1' cs1' d cs d2 cs2 := by
  have a0 := a
  obtain ⟨F', h1, h2, h3⟩ := a0
  have q : Pl Pc w X W' F' g gr v d1' cs1' d2 cs2 := by
    refine ⟨h1, p.rc.keep h2 (fun c => p.ap _ c (.inl rfl)) (fun k hk c => p.ap _ c (.inr hk)), K.lt h1, fun k hk => Nat.lt_of_lt_of_le (p.lv k hk) h2.size, fun k hk c => ?_, fun k hk => ?_, p.fv, fr_below p.bl h2 p.fp, fun r hp => ?_⟩
    · rcases h3 k hk with q | q
      · exact p.ap k q c
      · have := p.lv k c; omega
    · rcases h3 k hk with q | q
      · exact p.fp k q
      · exact Nat.le_trans p.bl.size q
    · obtain ⟨e1, e2, e3⟩ := p.ex r hp
      have hl := (Array.getElem?_eq_some_iff.1 e1).1
      exact ⟨(h2.at' _ hl e2).trans e1, fun c => (h3 _ c).elim e2 (fun q => by omega), e3⟩
  refine ⟨F', v, F2, q, K.keep h h2 (fun k hk c => (hd k hk).1 c), fun k hk => ?_, hx⟩
  obtain ⟨a1, a2, a3, a4⟩ := hd k hk
  exact ⟨fun c => (h3 k c).elim a1 (fun q => by omega), a2, a3, Nat.lt_of_lt_of_le a4 h2.size⟩
theorem Two.below (K : CalK Pc zc) (h : Two Pc w X W g g2 gr d1 cs1 d cs d2 cs2) (q : Below W.heap.size W W') : Two Pc w X W' g g2 gr d1 cs1 d cs d2 cs2 := by
  obtain ⟨F, v, F2, p, h1, h2, h3⟩ := h
  exact ⟨F, v, F2, p.below K q, K.keep h1 (Fr.below q) (fun _ _ c => c), fun k hk => ⟨(h2 k hk).1, (h2 k hk).2.1, (h2 k hk).2.2.1, Nat.lt_of_lt_of_le (h2 k hk).2.2.2 q.size⟩, h3⟩
theorem Two.fin (h : Two Pc w X W g g2 gr d1 cs1 d cs d2 cs2) : PlE Pc w X W g2 gr d cs d2 cs2 := by
  obtain ⟨F, v, F2, p, h1, h2, h3⟩ := h
  exact ⟨F2, v, h1, p.rc, fun k hk => (h2 k hk).2.2.2, p.lv, fun k hk => (h2 k hk).2.1, fun k hk => (h2 k hk).2.2.1, p.fv, p.bl, fun r hr => ⟨(p.ex r hr).1, h3 r hr, (p.ex r hr).2.2⟩⟩
theorem Two.xx (h : Two Pc w X W g g2 gr d1 cs1 d cs d2 cs2) : PlX Pc w X W g gr := by
  obtain ⟨F, v, F2, p, _⟩ := h
  exact ⟨_, _, _, _, F, v, p⟩
theorem Two.c_next (K : CalK Pc zc) (h : Two Pc w X W g g2 gr d1 cs1 d cs d2 cs2) : Calls Try.prog 10 #[.pointer (some ⟨g, 0, none⟩)] W fun e W' => e = .returned (.int .i64 (nextA d1)) ∧ Two Pc w X W' g g2 gr (nextD d1) cs1 d cs d2 cs2 := by
  obtain ⟨F, v, F2, p, h1, h2, h3⟩ := h
  exact (K.next p.pc).mono fun e W' q => ⟨q.1, two_aft K p h1 h2 h3 q.2⟩
theorem Two.c_halt (K : CalK Pc zc) (h : Two Pc w X W g g2 gr d1 cs1 d cs d2 cs2) {nu : Int} {on : Bool} (hn : 0 ≤ nu ∧ nu ≤ 4294967295) : Calls Try.prog 14 #[.pointer (some ⟨g, 0, none⟩), .int .u32 nu, .bool on] W fun e W' => e = .returned (.int .i64 (alC cs1 nu).e) ∧ Two Pc w X W' g g2 gr d1 (haltC cs1 nu on) d cs d2 cs2 := by
  obtain ⟨F, v, F2, p, h1, h2, h3⟩ := h
  exact (K.halt p.pc hn).mono fun e W' q => ⟨q.1, two_aft K p h1 h2 h3 q.2⟩
theorem Two.c_list (K : CalK Pc zc) (h : Two Pc w X W g g2 gr d1 cs1 d cs d2 cs2) {s : Sp} (ok : s.ok) : Calls Try.prog 12 #[.pointer (some ⟨g, 0, none⟩), .agg s.cells] W fun e W' => e = .returned (.int .i64 (listA d1 cs1 s)) ∧ Two Pc w X W' g g2 gr d1 (listC d1 cs1 s) d cs d2 cs2 := by
  obtain ⟨F, v, F2, p, h1, h2, h3⟩ := h
  exact (K.list p.pc ok).mono fun e W' q => ⟨q.1, two_aft K p h1 h2 h3 q.2⟩
theorem zeroCt_ok : zeroCt.ok := ⟨zero_ok, by simp [zeroCt], by simp [zeroCt, I64]⟩
theorem get_ok (K : CalK Pc zc) {nu : Int} (h : PlE Pc w X W g gr d cs d2 cs2) : (getC cs nu).ok := by
  obtain ⟨F, v, p⟩ := h
  have h0 := (K.ok p.pc).1
  unfold getC
  split
  · split
    · rename_i y hy
      exact h0 y (List.mem_of_getElem? hy)
    · exact zeroCt_ok
  · exact zeroCt_ok
end

set_option maxRecDepth 100000 in
set_option maxHeartbeats 40000000 in
theorem plays_in {Pc : PcT} {zc : Array Value} (K : CalK Pc zc) (A : Option Addr) (n c : Nat) (os : List OpC) (w : World) (hr : RdO w A n os) (hok : ∀ x, x ∈ os → x.ok) (hn : n ≤ 300) :
    Calls Try.prog 3 #[.slice A n c] w fun e w' => e = .returned (.bool true) ∧ Below w.heap.size w w' := by
  have Z := zero_op
  have ZC := zero_ct
  have KN := Lib.hid (fun W => known5_any K W)
  have SML := Lib.hid (fun W => small5_any 77 4294967295 W)
  have SMO := Lib.hid (sm5_ok (n := 77) (last := 4294967295) (by omega) (by omega))
  have NW := Lib.hid (K.new w)
  have KH := Lib.hid K
  have HR := Lib.hid hr
  have HOK := Lib.hid hok
  clear K hr hok
  go_enter Try.func3, Try.ntmps3
  go_wp2_with fail
  refine NW.out.mono ?_; rintro e w1 ⟨g, F, rfl, hp, q, hF⟩
  have PL : Hid (PlE Pc w [] (w1.alloc (.cells #[.int .u32 0, .slice none 0 0] 29)) g w1.heap.size 0 [] 0 []) := Lib.hid (by
    have hl := KH.out.lt hp
    have q2 : Below w1.heap.size w1 (w1.alloc (.cells #[.int .u32 0, .slice none 0 0] 29)) := (Below.refl _ w1).alloc (Nat.le_refl _) _
    refine ⟨F, .slice none 0 0, KH.out.keep hp (Fr.below q2) (fun _ _ c => c), ⟨heap_alloc_new w1 _, World.ownsRow_nil _ _ _ _, q.size, by simp, (fun x hx => by cases hx), by omega, ⟨none, 0, rfl⟩⟩, fun k hk => Nat.lt_of_lt_of_le (hl k hk) q2.size, fun k hk => ?_, fun k hk c => ?_, hF, fun k hk => ?_, q.trans (q2.mono q.size), fun p hp => by cases hp⟩
    · rcases hk with rfl | hk
      · simp
      · cases hk
    · rcases c with rfl | c
      · exact absurd (hl _ hk) (Nat.lt_irrefl _)
      · cases c
    · rcases hk with rfl | hk
      · exact q.size
      · cases hk)
  have hd300 : decide (300 < (n : Int)) = false := decide_eq_false (by omega)
  obtain ⟨gr, hgr⟩ : ∃ b, w1.heap.size = b := ⟨_, rfl⟩
  have HGR := Lib.hid hgr
  rw [hgr] at PL
  clear NW hp q hF
  go_wp2_with fail
  clear hgr HGR
  go_loopw [3, 30] (fun cv i wr => ∃ (k g : Nat) (d : Int) (cs : List Ct), k ≤ n ∧ i = .int .i64 k ∧ cv = .pointer (some ⟨g, 0, none⟩) ∧ PlE Pc w [] wr g gr d cs d cs) (fun _ i _ => n - (intOf i).toNat)
  case atStart => exact ⟨0, g, 0, [], Nat.zero_le _, rfl, rfl, PL.out⟩
  case round =>
    clear PL
    obtain ⟨k, g, d, cs, hk, rfl, rfl, hpl⟩ := hrel
    by_cases hlt : k < n
    case neg =>
      obtain rfl : k = n := by omega
      have BL := Lib.hid hpl.bl
      clear hpl
      go_wp2_with fail
      refine (KN.out _).mono ?_; rintro e w2 ⟨rfl, q⟩
      have BE := Lib.hid (BL.out.trans (q.mono BL.out.size))
      clear q
      go_wp2_with fail
      go_ret
      exact ⟨rfl, BE.out⟩
    case pos =>
      obtain ⟨x, hx⟩ : ∃ x, os[k]? = some x := ⟨os[k]'(by have := HR.out.1; omega), List.getElem?_eq_getElem _⟩
      obtain ⟨b, o, rfl, hb, hrg⟩ := HR.out.2 (by omega)
      have OKX := Lib.hid (HOK.out x (List.mem_of_getElem? hx))
      have BL0 := hpl.bl
      have RG : Hid (wr.rangeAt b (o + k * 29) x.cellL) := Lib.hid (fun j u hj => (BL0.cell (p := ⟨b, o + k * 29 + j, none⟩) hb).trans (hrg k x hx j u hj))
      have HZ : Hid ((wr.alloc (.cells zeroOp.cells 35)).heap[wr.heap.size]? = some (.cells zeroOp.cells 35 (0, 0)) ∧ zeroOp.sp.sh.length = 16) := Lib.hid ⟨heap_alloc_new wr _, rfl⟩
      have HX0 := setRow_heap _ _ _ x.cells _ _ HZ.out.1
      obtain ⟨X, hX⟩ : ∃ X, obX wr.heap.size x = X := ⟨_, rfl⟩
      have PL0 := Lib.hid (hpl.add KH.out (below_row' (g := wr.heap.size) (cs := x.cells) ((Below.refl _ wr).alloc (Nat.le_refl _) (.cells zeroOp.cells 35)) (Nat.le_refl _)) HX0 (Nat.le_refl _))
      obtain ⟨W0, hW0⟩ : ∃ W, (wr.alloc (.cells zeroOp.cells 35)).setRow wr.heap.size x.cells = W := ⟨_, rfl⟩
      rw [hW0] at PL0
      have HW0 := Lib.hid hW0
      change Hid (PlE Pc w (obX wr.heap.size x) W0 g gr d cs d cs) at PL0
      have c0 : W0.cell? ⟨wr.heap.size, 0, none⟩ = some (.int .i64 x.kd) := (PxO.mk PL0.out.x OKX.out.sp.len).kd
      have c26 : W0.cell? ⟨wr.heap.size, 26, none⟩ = some (.int .u32 x.nu) := (PxO.mk PL0.out.x OKX.out.sp.len).nu
      have hkl : (k : Int) < (n : Int) := by omega
      clear hpl hX hW0 BL0 hrg hx HX0 hb
      by_cases h1 : x.kd = 1
      · have e1 : (x.kd == 1) = true := beq_iff_eq.2 h1
        clear h1
        go_wp2_with (first | ((with_reducible refine wl_load_opm b (o + k * 29) OKX.out.sp.len RG.out ?_ ?_); rfl) | ((with_reducible refine wl_store_op x wr.heap.size HZ.out OKX.out.sp.len ?_ ?_ ?_); rfl; rfl; rw [HW0.out]))
        refine (PL0.out.c_next KH.out).mono ?_; rintro e0 W1 ⟨rfl, p1⟩
        have PL1 := Lib.hid p1
        clear p1
        go_wp2_with fail
        refine (PL1.out.r_next KH.out).mono ?_; rintro e0 W2 ⟨rfl, p2⟩
        have PLf := Lib.hid p2
        clear p2
        have hq : (nextA d == nextA d) = true := by simp
        go_wp2_with fail
        refine (PLf.out.drop.same KH.out).mono ?_; rintro e0 Wz ⟨rfl, pz⟩
        have PZ := Lib.hid pz
        clear pz
        go_wp2_with fail
        go_roundw
        case rel => exact ⟨k + 1, _, _, _, hlt, by go_num, rfl, PZ.out⟩
        case measure => simp [intOf]; omega
      · have n1 := h1
        clear h1
        by_cases h2 : x.kd = 2
        · have e1 : (x.kd == 1) = false := beq_eq_false_iff_ne.2 n1
          have e2 : (x.kd == 2) = true := beq_iff_eq.2 h2
          clear n1 h2
          go_wp2_with (first | ((with_reducible refine wl_load_opm b (o + k * 29) OKX.out.sp.len RG.out ?_ ?_); rfl) | ((with_reducible refine wl_store_op x wr.heap.size HZ.out OKX.out.sp.len ?_ ?_ ?_); rfl; rfl; rw [HW0.out]))
          refine wp_region_held_drew (S := fun U => PlX Pc w (obX wr.heap.size x) U g gr) (by kernel_rfl) (PL0.out.drew KH.out).x (fun hH => ?_)
          have PLd := PL0.out.drew KH.out
          refine wpAnyH_take (i := 0) (v := .pointer (some ⟨g, 0, none⟩)) rfl (by kernel_rfl) (by kernel_rfl) (by kernel_rfl) (fun _ _ _ h => h) (.inl ⟨by rfl, ?_⟩) (by assumption) ?_
          · intro W hW; go_simp
          try simp only [List.getElem_toArray, List.getElem_cons_zero, Act.put, List.setIfInBounds_toArray, List.set_cons_zero, List.set_cons_succ]
          refine wpAnyH_take (i := 1) (v := .pointer (some ⟨wr.heap.size, 1, none⟩)) rfl (by kernel_rfl) (by kernel_rfl) (by kernel_rfl) (fun _ _ _ h => h) (.inl ⟨by rfl, ?_⟩) (by assumption) ?_
          · intro W hW; go_simp
          try simp only [List.getElem_toArray, List.getElem_cons_zero, List.getElem_cons_succ, Act.put, List.setIfInBounds_toArray, List.set_cons_zero, List.set_cons_succ]
          refine wpAnyH_take (i := 2) (v := .agg x.sp.cells) rfl (by kernel_rfl) (by kernel_rfl) (by kernel_rfl) (fun _ _ _ h => h) (yields_load_spm (by rfl) (.tmp 71) rfl wr.heap.size 1 rfl OKX.out.sp.len (fun U hU => (PxO.mk hU OKX.out.sp.len).rs)) (by assumption) ?_
          try simp only [List.getElem_toArray, List.getElem_cons_zero, List.getElem_cons_succ, Act.put, List.setIfInBounds_toArray, List.set_cons_zero, List.set_cons_succ]
          refine wpAnyH_take (i := 4) (v := .pointer (some ⟨gr, 0, none⟩)) rfl (by kernel_rfl) (by kernel_rfl) (by kernel_rfl) (fun _ _ _ h => h) (.inl ⟨by rfl, ?_⟩) (by assumption) ?_
          · intro W hW; go_simp
          try simp only [List.getElem_toArray, List.getElem_cons_zero, List.getElem_cons_succ, Act.put, List.setIfInBounds_toArray, List.set_cons_zero, List.set_cons_succ]
          refine wpAnyH_take (i := 5) (v := .pointer (some ⟨wr.heap.size, 1, none⟩)) rfl (by kernel_rfl) (by kernel_rfl) (by kernel_rfl) (fun _ _ _ h => h) (.inl ⟨by rfl, ?_⟩) (by assumption) ?_
          · intro W hW; go_simp
          try simp only [List.getElem_toArray, List.getElem_cons_zero, List.getElem_cons_succ, Act.put, List.setIfInBounds_toArray, List.set_cons_zero, List.set_cons_succ]
          refine wpAnyH_take (i := 6) (v := .agg x.sp.cells) rfl (by kernel_rfl) (by kernel_rfl) (by kernel_rfl) (fun _ _ _ h => h) (yields_load_spm (by rfl) (.tmp 75) rfl wr.heap.size 1 rfl OKX.out.sp.len (fun U hU => (PxO.mk hU OKX.out.sp.len).rs)) (by assumption) ?_
          try simp only [List.getElem_toArray, List.getElem_cons_zero, List.getElem_cons_succ, Act.put, List.setIfInBounds_toArray, List.set_cons_zero, List.set_cons_succ]
          refine wpAnyH_ready (rs := [3]) (by decide +kernel) (by simp) (AllReadyH.cons rfl (fun KQ hK => ?_) AllReadyH.nil)
          go_simp
          refine (PLd.c_list KH.out OKX.out.sp).mono ?_; rintro e0 W1 ⟨rfl, p1⟩
          have hH := p1.x
          refine hK.out _ _ hH (fun _ => ?_)
          clear hK 
          try simp only [List.setIfInBounds_toArray, List.set_cons_zero, List.set_cons_succ]
          refine wpAnyH_ready (rs := [7]) (by decide +kernel) (by simp) (AllReadyH.cons rfl (fun KQ hK => ?_) AllReadyH.nil)
          go_simp
          refine (p1.r_list KH.out OKX.out.sp).mono ?_; rintro e0 W1 ⟨rfl, p2⟩
          have hH := p2.x
          refine hK.out _ _ hH (fun _ => ?_)
          clear hK 
          try simp only [List.setIfInBounds_toArray, List.set_cons_zero, List.set_cons_succ]
          refine wpAnyH_take (i := 8) (v := .bool true) rfl (by kernel_rfl) (by kernel_rfl) (by kernel_rfl) (fun _ _ _ h => h) (.inl ⟨by rfl, ?_⟩) (by assumption) ?_
          · intro W hW; have hq : (listA d cs x.sp == listA d cs x.sp) = true := (by simp); go_simp
          try simp only [List.getElem_toArray, List.getElem_cons_zero, List.getElem_cons_succ, Act.put, List.setIfInBounds_toArray, List.set_cons_zero, List.set_cons_succ]
          refine wpAnyH_take (i := 9) (v := .bool true) rfl (by kernel_rfl) (by kernel_rfl) (by kernel_rfl) (fun _ _ _ h => h) (.inl ⟨by rfl, ?_⟩) (by assumption) ?_
          · intro W hW; go_simp
          try simp only [List.getElem_toArray, List.getElem_cons_zero, List.getElem_cons_succ, Act.put, List.setIfInBounds_toArray, List.set_cons_zero, List.set_cons_succ]
          refine wpAnyH_done (by decide +kernel) ?_ _
          have PLf := Lib.hid p2
          clear hH
          go_wp2_with fail
          refine (PLf.out.drop.same KH.out).mono ?_; rintro e0 Wz ⟨rfl, pz⟩
          have PZ := Lib.hid pz
          clear pz
          go_wp2_with fail
          go_roundw
          case rel => exact ⟨k + 1, _, _, _, hlt, by go_num, rfl, PZ.out⟩
          case measure => simp [intOf]; omega
        · have n2 := h2
          clear h2
          by_cases h3 : x.kd = 3
          · have e1 : (x.kd == 1) = false := beq_eq_false_iff_ne.2 n1
            have e2 : (x.kd == 2) = false := beq_eq_false_iff_ne.2 n2
            have e3 : (x.kd == 3) = true := beq_iff_eq.2 h3
            clear n1 n2 h3
            go_wp2_with (first | ((with_reducible refine wl_load_opm b (o + k * 29) OKX.out.sp.len RG.out ?_ ?_); rfl) | ((with_reducible refine wl_store_op x wr.heap.size HZ.out OKX.out.sp.len ?_ ?_ ?_); rfl; rfl; rw [HW0.out]))
            refine wp_region_held_drew (S := fun U => PlX Pc w (obX wr.heap.size x) U g gr) (by kernel_rfl) (PL0.out.drew KH.out).x (fun hH => ?_)
            have PLd := PL0.out.drew KH.out
            refine wpAnyH_take (i := 0) (v := .pointer (some ⟨g, 0, none⟩)) rfl (by kernel_rfl) (by kernel_rfl) (by kernel_rfl) (fun _ _ _ h => h) (.inl ⟨by rfl, ?_⟩) (by assumption) ?_
            · intro W hW; go_simp
            try simp only [List.getElem_toArray, List.getElem_cons_zero, Act.put, List.setIfInBounds_toArray, List.set_cons_zero, List.set_cons_succ]
            refine wpAnyH_take (i := 1) (v := .pointer (some ⟨wr.heap.size, 26, none⟩)) rfl (by kernel_rfl) (by kernel_rfl) (by kernel_rfl) (fun _ _ _ h => h) (.inl ⟨by rfl, ?_⟩) (by assumption) ?_
            · intro W hW; go_simp
            try simp only [List.getElem_toArray, List.getElem_cons_zero, List.getElem_cons_succ, Act.put, List.setIfInBounds_toArray, List.set_cons_zero, List.set_cons_succ]
            refine wpAnyH_take (i := 2) (v := .int .u32 x.nu) rfl (by kernel_rfl) (by kernel_rfl) (by kernel_rfl) (fun _ _ _ h => h) (.inl ⟨by rfl, ?_⟩) (by assumption) ?_
            · intro W hW; have kk := (PxO.mk hW OKX.out.sp.len).nu; go_simp
            try simp only [List.getElem_toArray, List.getElem_cons_zero, List.getElem_cons_succ, Act.put, List.setIfInBounds_toArray, List.set_cons_zero, List.set_cons_succ]
            refine wpAnyH_take (i := 3) (v := .pointer (some ⟨wr.heap.size, 27, none⟩)) rfl (by kernel_rfl) (by kernel_rfl) (by kernel_rfl) (fun _ _ _ h => h) (.inl ⟨by rfl, ?_⟩) (by assumption) ?_
            · intro W hW; go_simp
            try simp only [List.getElem_toArray, List.getElem_cons_zero, List.getElem_cons_succ, Act.put, List.setIfInBounds_toArray, List.set_cons_zero, List.set_cons_succ]
            refine wpAnyH_take (i := 4) (v := .bool x.on) rfl (by kernel_rfl) (by kernel_rfl) (by kernel_rfl) (fun _ _ _ h => h) (.inl ⟨by rfl, ?_⟩) (by assumption) ?_
            · intro W hW; have kk := (PxO.mk hW OKX.out.sp.len).on; go_simp
            try simp only [List.getElem_toArray, List.getElem_cons_zero, List.getElem_cons_succ, Act.put, List.setIfInBounds_toArray, List.set_cons_zero, List.set_cons_succ]
            refine wpAnyH_take (i := 6) (v := .pointer (some ⟨gr, 0, none⟩)) rfl (by kernel_rfl) (by kernel_rfl) (by kernel_rfl) (fun _ _ _ h => h) (.inl ⟨by rfl, ?_⟩) (by assumption) ?_
            · intro W hW; go_simp
            try simp only [List.getElem_toArray, List.getElem_cons_zero, List.getElem_cons_succ, Act.put, List.setIfInBounds_toArray, List.set_cons_zero, List.set_cons_succ]
            refine wpAnyH_take (i := 7) (v := .pointer (some ⟨wr.heap.size, 26, none⟩)) rfl (by kernel_rfl) (by kernel_rfl) (by kernel_rfl) (fun _ _ _ h => h) (.inl ⟨by rfl, ?_⟩) (by assumption) ?_
            · intro W hW; go_simp
            try simp only [List.getElem_toArray, List.getElem_cons_zero, List.getElem_cons_succ, Act.put, List.setIfInBounds_toArray, List.set_cons_zero, List.set_cons_succ]
            refine wpAnyH_take (i := 8) (v := .int .u32 x.nu) rfl (by kernel_rfl) (by kernel_rfl) (by kernel_rfl) (fun _ _ _ h => h) (.inl ⟨by rfl, ?_⟩) (by assumption) ?_
            · intro W hW; have kk := (PxO.mk hW OKX.out.sp.len).nu; go_simp
            try simp only [List.getElem_toArray, List.getElem_cons_zero, List.getElem_cons_succ, Act.put, List.setIfInBounds_toArray, List.set_cons_zero, List.set_cons_succ]
            refine wpAnyH_take (i := 9) (v := .pointer (some ⟨wr.heap.size, 27, none⟩)) rfl (by kernel_rfl) (by kernel_rfl) (by kernel_rfl) (fun _ _ _ h => h) (.inl ⟨by rfl, ?_⟩) (by assumption) ?_
            · intro W hW; go_simp
            try simp only [List.getElem_toArray, List.getElem_cons_zero, List.getElem_cons_succ, Act.put, List.setIfInBounds_toArray, List.set_cons_zero, List.set_cons_succ]
            refine wpAnyH_take (i := 10) (v := .bool x.on) rfl (by kernel_rfl) (by kernel_rfl) (by kernel_rfl) (fun _ _ _ h => h) (.inl ⟨by rfl, ?_⟩) (by assumption) ?_
            · intro W hW; have kk := (PxO.mk hW OKX.out.sp.len).on; go_simp
            try simp only [List.getElem_toArray, List.getElem_cons_zero, List.getElem_cons_succ, Act.put, List.setIfInBounds_toArray, List.set_cons_zero, List.set_cons_succ]
            refine wpAnyH_ready (rs := [5]) (by decide +kernel) (by simp) (AllReadyH.cons rfl (fun KQ hK => ?_) AllReadyH.nil)
            go_simp
            refine (PLd.c_halt KH.out OKX.out.nu).mono ?_; rintro e0 W1 ⟨rfl, p1⟩
            have hH := p1.x
            refine hK.out _ _ hH (fun _ => ?_)
            clear hK 
            try simp only [List.setIfInBounds_toArray, List.set_cons_zero, List.set_cons_succ]
            refine wpAnyH_ready (rs := [11]) (by decide +kernel) (by simp) (AllReadyH.cons rfl (fun KQ hK => ?_) AllReadyH.nil)
            go_simp
            refine (p1.r_halt KH.out OKX.out.nu).mono ?_; rintro e0 W1 ⟨rfl, p2⟩
            have hH := p2.x
            refine hK.out _ _ hH (fun _ => ?_)
            clear hK 
            try simp only [List.setIfInBounds_toArray, List.set_cons_zero, List.set_cons_succ]
            refine wpAnyH_take (i := 12) (v := .bool true) rfl (by kernel_rfl) (by kernel_rfl) (by kernel_rfl) (fun _ _ _ h => h) (.inl ⟨by rfl, ?_⟩) (by assumption) ?_
            · intro W hW; go_simp
            try simp only [List.getElem_toArray, List.getElem_cons_zero, List.getElem_cons_succ, Act.put, List.setIfInBounds_toArray, List.set_cons_zero, List.set_cons_succ]
            refine wpAnyH_take (i := 13) (v := .bool true) rfl (by kernel_rfl) (by kernel_rfl) (by kernel_rfl) (fun _ _ _ h => h) (.inl ⟨by rfl, ?_⟩) (by assumption) ?_
            · intro W hW; go_simp
            try simp only [List.getElem_toArray, List.getElem_cons_zero, List.getElem_cons_succ, Act.put, List.setIfInBounds_toArray, List.set_cons_zero, List.set_cons_succ]
            refine wpAnyH_done (by decide +kernel) ?_ _
            have PLf := Lib.hid p2
            clear hH
            go_wp2_with fail
            refine (PLf.out.drop.same KH.out).mono ?_; rintro e0 Wz ⟨rfl, pz⟩
            have PZ := Lib.hid pz
            clear pz
            go_wp2_with fail
            go_roundw
            case rel => exact ⟨k + 1, _, _, _, hlt, by go_num, rfl, PZ.out⟩
            case measure => simp [intOf]; omega
          · have n3 := h3
            clear h3
            by_cases h4 : x.kd = 4
            · have e1 : (x.kd == 1) = false := beq_eq_false_iff_ne.2 n1
              have e2 : (x.kd == 2) = false := beq_eq_false_iff_ne.2 n2
              have e3 : (x.kd == 3) = false := beq_eq_false_iff_ne.2 n3
              have e4 : (x.kd == 4) = true := beq_iff_eq.2 h4
              clear n1 n2 n3 h4
              go_wp2_with (first | ((with_reducible refine wl_load_opm b (o + k * 29) OKX.out.sp.len RG.out ?_ ?_); rfl) | ((with_reducible refine wl_store_op x wr.heap.size HZ.out OKX.out.sp.len ?_ ?_ ?_); rfl; rfl; rw [HW0.out]))
              refine wp_region_held_drew (S := fun U => PlX Pc w (obX wr.heap.size x) U g gr) (by kernel_rfl) (PL0.out.drew KH.out).x (fun hH => ?_)
              have PLd := PL0.out.drew KH.out
              refine wpAnyH_take (i := 0) (v := .pointer (some ⟨g, 0, none⟩)) rfl (by kernel_rfl) (by kernel_rfl) (by kernel_rfl) (fun _ _ _ h => h) (.inl ⟨by rfl, ?_⟩) (by assumption) ?_
              · intro W hW; go_simp
              try simp only [List.getElem_toArray, List.getElem_cons_zero, Act.put, List.setIfInBounds_toArray, List.set_cons_zero, List.set_cons_succ]
              refine wpAnyH_take (i := 1) (v := .pointer (some ⟨wr.heap.size, 26, none⟩)) rfl (by kernel_rfl) (by kernel_rfl) (by kernel_rfl) (fun _ _ _ h => h) (.inl ⟨by rfl, ?_⟩) (by assumption) ?_
              · intro W hW; go_simp
              try simp only [List.getElem_toArray, List.getElem_cons_zero, List.getElem_cons_succ, Act.put, List.setIfInBounds_toArray, List.set_cons_zero, List.set_cons_succ]
              refine wpAnyH_take (i := 2) (v := .int .u32 x.nu) rfl (by kernel_rfl) (by kernel_rfl) (by kernel_rfl) (fun _ _ _ h => h) (.inl ⟨by rfl, ?_⟩) (by assumption) ?_
              · intro W hW; have kk := (PxO.mk hW OKX.out.sp.len).nu; go_simp
              try simp only [List.getElem_toArray, List.getElem_cons_zero, List.getElem_cons_succ, Act.put, List.setIfInBounds_toArray, List.set_cons_zero, List.set_cons_succ]
              refine wpAnyH_take (i := 3) (v := .pointer (some ⟨wr.heap.size, 28, none⟩)) rfl (by kernel_rfl) (by kernel_rfl) (by kernel_rfl) (fun _ _ _ h => h) (.inl ⟨by rfl, ?_⟩) (by assumption) ?_
              · intro W hW; go_simp
              try simp only [List.getElem_toArray, List.getElem_cons_zero, List.getElem_cons_succ, Act.put, List.setIfInBounds_toArray, List.set_cons_zero, List.set_cons_succ]
              refine wpAnyH_take (i := 4) (v := .int .i64 x.pr) rfl (by kernel_rfl) (by kernel_rfl) (by kernel_rfl) (fun _ _ _ h => h) (.inl ⟨by rfl, ?_⟩) (by assumption) ?_
              · intro W hW; have kk := (PxO.mk hW OKX.out.sp.len).pr; go_simp
              try simp only [List.getElem_toArray, List.getElem_cons_zero, List.getElem_cons_succ, Act.put, List.setIfInBounds_toArray, List.set_cons_zero, List.set_cons_succ]
              refine wpAnyH_take (i := 6) (v := .pointer (some ⟨gr, 0, none⟩)) rfl (by kernel_rfl) (by kernel_rfl) (by kernel_rfl) (fun _ _ _ h => h) (.inl ⟨by rfl, ?_⟩) (by assumption) ?_
              · intro W hW; go_simp
              try simp only [List.getElem_toArray, List.getElem_cons_zero, List.getElem_cons_succ, Act.put, List.setIfInBounds_toArray, List.set_cons_zero, List.set_cons_succ]
              refine wpAnyH_take (i := 7) (v := .pointer (some ⟨wr.heap.size, 26, none⟩)) rfl (by kernel_rfl) (by kernel_rfl) (by kernel_rfl) (fun _ _ _ h => h) (.inl ⟨by rfl, ?_⟩) (by assumption) ?_
              · intro W hW; go_simp
              try simp only [List.getElem_toArray, List.getElem_cons_zero, List.getElem_cons_succ, Act.put, List.setIfInBounds_toArray, List.set_cons_zero, List.set_cons_succ]
              refine wpAnyH_take (i := 8) (v := .int .u32 x.nu) rfl (by kernel_rfl) (by kernel_rfl) (by kernel_rfl) (fun _ _ _ h => h) (.inl ⟨by rfl, ?_⟩) (by assumption) ?_
              · intro W hW; have kk := (PxO.mk hW OKX.out.sp.len).nu; go_simp
              try simp only [List.getElem_toArray, List.getElem_cons_zero, List.getElem_cons_succ, Act.put, List.setIfInBounds_toArray, List.set_cons_zero, List.set_cons_succ]
              refine wpAnyH_take (i := 9) (v := .pointer (some ⟨wr.heap.size, 28, none⟩)) rfl (by kernel_rfl) (by kernel_rfl) (by kernel_rfl) (fun _ _ _ h => h) (.inl ⟨by rfl, ?_⟩) (by assumption) ?_
              · intro W hW; go_simp
              try simp only [List.getElem_toArray, List.getElem_cons_zero, List.getElem_cons_succ, Act.put, List.setIfInBounds_toArray, List.set_cons_zero, List.set_cons_succ]
              refine wpAnyH_take (i := 10) (v := .int .i64 x.pr) rfl (by kernel_rfl) (by kernel_rfl) (by kernel_rfl) (fun _ _ _ h => h) (.inl ⟨by rfl, ?_⟩) (by assumption) ?_
              · intro W hW; have kk := (PxO.mk hW OKX.out.sp.len).pr; go_simp
              try simp only [List.getElem_toArray, List.getElem_cons_zero, List.getElem_cons_succ, Act.put, List.setIfInBounds_toArray, List.set_cons_zero, List.set_cons_succ]
              refine wpAnyH_ready (rs := [5]) (by decide +kernel) (by simp) (AllReadyH.cons rfl (fun KQ hK => ?_) AllReadyH.nil)
              go_simp
              refine (PLd.c_pub KH.out OKX.out.nu OKX.out.pr).mono ?_; rintro e0 W1 ⟨rfl, p1⟩
              have hH := p1.x
              refine hK.out _ _ hH (fun _ => ?_)
              clear hK 
              try simp only [List.setIfInBounds_toArray, List.set_cons_zero, List.set_cons_succ]
              refine wpAnyH_ready (rs := [11]) (by decide +kernel) (by simp) (AllReadyH.cons rfl (fun KQ hK => ?_) AllReadyH.nil)
              go_simp
              refine (p1.r_pub KH.out OKX.out.nu OKX.out.pr).mono ?_; rintro e0 W1 ⟨rfl, p2⟩
              have hH := p2.x
              refine hK.out _ _ hH (fun _ => ?_)
              clear hK 
              try simp only [List.setIfInBounds_toArray, List.set_cons_zero, List.set_cons_succ]
              refine wpAnyH_take (i := 12) (v := .bool true) rfl (by kernel_rfl) (by kernel_rfl) (by kernel_rfl) (fun _ _ _ h => h) (.inl ⟨by rfl, ?_⟩) (by assumption) ?_
              · intro W hW; go_simp
              try simp only [List.getElem_toArray, List.getElem_cons_zero, List.getElem_cons_succ, Act.put, List.setIfInBounds_toArray, List.set_cons_zero, List.set_cons_succ]
              refine wpAnyH_take (i := 13) (v := .bool true) rfl (by kernel_rfl) (by kernel_rfl) (by kernel_rfl) (fun _ _ _ h => h) (.inl ⟨by rfl, ?_⟩) (by assumption) ?_
              · intro W hW; go_simp
              try simp only [List.getElem_toArray, List.getElem_cons_zero, List.getElem_cons_succ, Act.put, List.setIfInBounds_toArray, List.set_cons_zero, List.set_cons_succ]
              refine wpAnyH_done (by decide +kernel) ?_ _
              have PLf := Lib.hid p2
              clear hH
              go_wp2_with fail
              refine (PLf.out.drop.same KH.out).mono ?_; rintro e0 Wz ⟨rfl, pz⟩
              have PZ := Lib.hid pz
              clear pz
              go_wp2_with fail
              go_roundw
              case rel => exact ⟨k + 1, _, _, _, hlt, by go_num, rfl, PZ.out⟩
              case measure => simp [intOf]; omega
            · have n4 := h4
              clear h4
              by_cases h5 : x.kd = 5
              · have e1 : (x.kd == 1) = false := beq_eq_false_iff_ne.2 n1
                have e2 : (x.kd == 2) = false := beq_eq_false_iff_ne.2 n2
                have e3 : (x.kd == 3) = false := beq_eq_false_iff_ne.2 n3
                have e4 : (x.kd == 4) = false := beq_eq_false_iff_ne.2 n4
                have e5 : (x.kd == 5) = true := beq_iff_eq.2 h5
                clear n1 n2 n3 n4 h5
                go_wp2_with (first | ((with_reducible refine wl_load_opm b (o + k * 29) OKX.out.sp.len RG.out ?_ ?_); rfl) | ((with_reducible refine wl_store_op x wr.heap.size HZ.out OKX.out.sp.len ?_ ?_ ?_); rfl; rfl; rw [HW0.out]))
                refine wp_region_held_drew (S := fun U => PlX Pc w (obX wr.heap.size x) U g gr) (by kernel_rfl) (PL0.out.drew KH.out).x (fun hH => ?_)
                have PLd := PL0.out.drew KH.out
                refine wpAnyH_take (i := 0) (v := .pointer (some ⟨g, 0, none⟩)) rfl (by kernel_rfl) (by kernel_rfl) (by kernel_rfl) (fun _ _ _ h => h) (.inl ⟨by rfl, ?_⟩) (by assumption) ?_
                · intro W hW; go_simp
                try simp only [List.getElem_toArray, List.getElem_cons_zero, Act.put, List.setIfInBounds_toArray, List.set_cons_zero, List.set_cons_succ]
                refine wpAnyH_take (i := 1) (v := .pointer (some ⟨wr.heap.size, 26, none⟩)) rfl (by kernel_rfl) (by kernel_rfl) (by kernel_rfl) (fun _ _ _ h => h) (.inl ⟨by rfl, ?_⟩) (by assumption) ?_
                · intro W hW; go_simp
                try simp only [List.getElem_toArray, List.getElem_cons_zero, List.getElem_cons_succ, Act.put, List.setIfInBounds_toArray, List.set_cons_zero, List.set_cons_succ]
                refine wpAnyH_take (i := 2) (v := .int .u32 x.nu) rfl (by kernel_rfl) (by kernel_rfl) (by kernel_rfl) (fun _ _ _ h => h) (.inl ⟨by rfl, ?_⟩) (by assumption) ?_
                · intro W hW; have kk := (PxO.mk hW OKX.out.sp.len).nu; go_simp
                try simp only [List.getElem_toArray, List.getElem_cons_zero, List.getElem_cons_succ, Act.put, List.setIfInBounds_toArray, List.set_cons_zero, List.set_cons_succ]
                refine wpAnyH_take (i := 4) (v := .pointer (some ⟨gr, 0, none⟩)) rfl (by kernel_rfl) (by kernel_rfl) (by kernel_rfl) (fun _ _ _ h => h) (.inl ⟨by rfl, ?_⟩) (by assumption) ?_
                · intro W hW; go_simp
                try simp only [List.getElem_toArray, List.getElem_cons_zero, List.getElem_cons_succ, Act.put, List.setIfInBounds_toArray, List.set_cons_zero, List.set_cons_succ]
                refine wpAnyH_take (i := 5) (v := .pointer (some ⟨wr.heap.size, 26, none⟩)) rfl (by kernel_rfl) (by kernel_rfl) (by kernel_rfl) (fun _ _ _ h => h) (.inl ⟨by rfl, ?_⟩) (by assumption) ?_
                · intro W hW; go_simp
                try simp only [List.getElem_toArray, List.getElem_cons_zero, List.getElem_cons_succ, Act.put, List.setIfInBounds_toArray, List.set_cons_zero, List.set_cons_succ]
                refine wpAnyH_take (i := 6) (v := .int .u32 x.nu) rfl (by kernel_rfl) (by kernel_rfl) (by kernel_rfl) (fun _ _ _ h => h) (.inl ⟨by rfl, ?_⟩) (by assumption) ?_
                · intro W hW; have kk := (PxO.mk hW OKX.out.sp.len).nu; go_simp
                try simp only [List.getElem_toArray, List.getElem_cons_zero, List.getElem_cons_succ, Act.put, List.setIfInBounds_toArray, List.set_cons_zero, List.set_cons_succ]
                refine wpAnyH_ready (rs := [3]) (by decide +kernel) (by simp) (AllReadyH.cons rfl (fun KQ hK => ?_) AllReadyH.nil)
                go_simp
                refine (PLd.c_due KH.out OKX.out.nu).mono ?_; rintro e0 W1 ⟨rfl, p1⟩
                have hH := p1.x
                refine hK.out _ _ hH (fun _ => ?_)
                clear hK 
                try simp only [List.setIfInBounds_toArray, List.set_cons_zero, List.set_cons_succ]
                refine wpAnyH_ready (rs := [7]) (by decide +kernel) (by simp) (AllReadyH.cons rfl (fun KQ hK => ?_) AllReadyH.nil)
                go_simp
                refine (p1.r_due KH.out OKX.out.nu).mono ?_; rintro e0 W1 ⟨rfl, p2⟩
                have hH := p2.x
                refine hK.out _ _ hH (fun _ => ?_)
                clear hK 
                try simp only [List.setIfInBounds_toArray, List.set_cons_zero, List.set_cons_succ]
                refine wpAnyH_take (i := 8) (v := .bool true) rfl (by kernel_rfl) (by kernel_rfl) (by kernel_rfl) (fun _ _ _ h => h) (.inl ⟨by rfl, ?_⟩) (by assumption) ?_
                · intro W hW; go_simp
                try simp only [List.getElem_toArray, List.getElem_cons_zero, List.getElem_cons_succ, Act.put, List.setIfInBounds_toArray, List.set_cons_zero, List.set_cons_succ]
                refine wpAnyH_take (i := 9) (v := .bool true) rfl (by kernel_rfl) (by kernel_rfl) (by kernel_rfl) (fun _ _ _ h => h) (.inl ⟨by rfl, ?_⟩) (by assumption) ?_
                · intro W hW; go_simp
                try simp only [List.getElem_toArray, List.getElem_cons_zero, List.getElem_cons_succ, Act.put, List.setIfInBounds_toArray, List.set_cons_zero, List.set_cons_succ]
                refine wpAnyH_done (by decide +kernel) ?_ _
                have PLf := Lib.hid p2
                clear hH
                go_wp2_with fail
                refine (PLf.out.drop.same KH.out).mono ?_; rintro e0 Wz ⟨rfl, pz⟩
                have PZ := Lib.hid pz
                clear pz
                go_wp2_with fail
                go_roundw
                case rel => exact ⟨k + 1, _, _, _, hlt, by go_num, rfl, PZ.out⟩
                case measure => simp [intOf]; omega
              · have n5 := h5
                clear h5
                by_cases h6 : x.kd = 6
                · have e1 : (x.kd == 1) = false := beq_eq_false_iff_ne.2 n1
                  have e2 : (x.kd == 2) = false := beq_eq_false_iff_ne.2 n2
                  have e3 : (x.kd == 3) = false := beq_eq_false_iff_ne.2 n3
                  have e4 : (x.kd == 4) = false := beq_eq_false_iff_ne.2 n4
                  have e5 : (x.kd == 5) = false := beq_eq_false_iff_ne.2 n5
                  have e6 : (x.kd == 6) = true := beq_iff_eq.2 h6
                  clear n1 n2 n3 n4 n5 h6
                  go_wp2_with (first | ((with_reducible refine wl_load_opm b (o + k * 29) OKX.out.sp.len RG.out ?_ ?_); rfl) | ((with_reducible refine wl_store_op x wr.heap.size HZ.out OKX.out.sp.len ?_ ?_ ?_); rfl; rfl; rw [HW0.out]))
                  refine wp_region_held_drew (S := fun U => PlX Pc w (obX wr.heap.size x) U g gr) (by kernel_rfl) (PL0.out.drew KH.out).x (fun hH => ?_)
                  have PLd := PL0.out.drew KH.out
                  refine wpAnyH_take (i := 0) (v := .pointer (some ⟨g, 0, none⟩)) rfl (by kernel_rfl) (by kernel_rfl) (by kernel_rfl) (fun _ _ _ h => h) (.inl ⟨by rfl, ?_⟩) (by assumption) ?_
                  · intro W hW; go_simp
                  try simp only [List.getElem_toArray, List.getElem_cons_zero, Act.put, List.setIfInBounds_toArray, List.set_cons_zero, List.set_cons_succ]
                  refine wpAnyH_take (i := 1) (v := .pointer (some ⟨wr.heap.size, 26, none⟩)) rfl (by kernel_rfl) (by kernel_rfl) (by kernel_rfl) (fun _ _ _ h => h) (.inl ⟨by rfl, ?_⟩) (by assumption) ?_
                  · intro W hW; go_simp
                  try simp only [List.getElem_toArray, List.getElem_cons_zero, List.getElem_cons_succ, Act.put, List.setIfInBounds_toArray, List.set_cons_zero, List.set_cons_succ]
                  refine wpAnyH_take (i := 2) (v := .int .u32 x.nu) rfl (by kernel_rfl) (by kernel_rfl) (by kernel_rfl) (fun _ _ _ h => h) (.inl ⟨by rfl, ?_⟩) (by assumption) ?_
                  · intro W hW; have kk := (PxO.mk hW OKX.out.sp.len).nu; go_simp
                  try simp only [List.getElem_toArray, List.getElem_cons_zero, List.getElem_cons_succ, Act.put, List.setIfInBounds_toArray, List.set_cons_zero, List.set_cons_succ]
                  refine wpAnyH_take (i := 4) (v := .pointer (some ⟨gr, 0, none⟩)) rfl (by kernel_rfl) (by kernel_rfl) (by kernel_rfl) (fun _ _ _ h => h) (.inl ⟨by rfl, ?_⟩) (by assumption) ?_
                  · intro W hW; go_simp
                  try simp only [List.getElem_toArray, List.getElem_cons_zero, List.getElem_cons_succ, Act.put, List.setIfInBounds_toArray, List.set_cons_zero, List.set_cons_succ]
                  refine wpAnyH_take (i := 5) (v := .pointer (some ⟨wr.heap.size, 26, none⟩)) rfl (by kernel_rfl) (by kernel_rfl) (by kernel_rfl) (fun _ _ _ h => h) (.inl ⟨by rfl, ?_⟩) (by assumption) ?_
                  · intro W hW; go_simp
                  try simp only [List.getElem_toArray, List.getElem_cons_zero, List.getElem_cons_succ, Act.put, List.setIfInBounds_toArray, List.set_cons_zero, List.set_cons_succ]
                  refine wpAnyH_take (i := 6) (v := .int .u32 x.nu) rfl (by kernel_rfl) (by kernel_rfl) (by kernel_rfl) (fun _ _ _ h => h) (.inl ⟨by rfl, ?_⟩) (by assumption) ?_
                  · intro W hW; have kk := (PxO.mk hW OKX.out.sp.len).nu; go_simp
                  try simp only [List.getElem_toArray, List.getElem_cons_zero, List.getElem_cons_succ, Act.put, List.setIfInBounds_toArray, List.set_cons_zero, List.set_cons_succ]
                  refine wpAnyH_ready (rs := [3]) (by decide +kernel) (by simp) (AllReadyH.cons rfl (fun KQ hK => ?_) AllReadyH.nil)
                  go_simp
                  refine (PLd.c_exp KH.out OKX.out.nu).mono ?_; rintro e0 W1 ⟨rfl, p1⟩
                  have hH := p1.x
                  refine hK.out _ _ hH (fun _ => ?_)
                  clear hK 
                  try simp only [List.setIfInBounds_toArray, List.set_cons_zero, List.set_cons_succ]
                  refine wpAnyH_ready (rs := [7]) (by decide +kernel) (by simp) (AllReadyH.cons rfl (fun KQ hK => ?_) AllReadyH.nil)
                  go_simp
                  refine (p1.r_exp KH.out OKX.out.nu).mono ?_; rintro e0 W1 ⟨rfl, p2⟩
                  have hH := p2.x
                  refine hK.out _ _ hH (fun _ => ?_)
                  clear hK 
                  try simp only [List.setIfInBounds_toArray, List.set_cons_zero, List.set_cons_succ]
                  refine wpAnyH_take (i := 8) (v := .bool true) rfl (by kernel_rfl) (by kernel_rfl) (by kernel_rfl) (fun _ _ _ h => h) (.inl ⟨by rfl, ?_⟩) (by assumption) ?_
                  · intro W hW; go_simp
                  try simp only [List.getElem_toArray, List.getElem_cons_zero, List.getElem_cons_succ, Act.put, List.setIfInBounds_toArray, List.set_cons_zero, List.set_cons_succ]
                  refine wpAnyH_take (i := 9) (v := .bool true) rfl (by kernel_rfl) (by kernel_rfl) (by kernel_rfl) (fun _ _ _ h => h) (.inl ⟨by rfl, ?_⟩) (by assumption) ?_
                  · intro W hW; go_simp
                  try simp only [List.getElem_toArray, List.getElem_cons_zero, List.getElem_cons_succ, Act.put, List.setIfInBounds_toArray, List.set_cons_zero, List.set_cons_succ]
                  refine wpAnyH_done (by decide +kernel) ?_ _
                  have PLf := Lib.hid p2
                  clear hH
                  go_wp2_with fail
                  refine (PLf.out.drop.same KH.out).mono ?_; rintro e0 Wz ⟨rfl, pz⟩
                  have PZ := Lib.hid pz
                  clear pz
                  go_wp2_with fail
                  go_roundw
                  case rel => exact ⟨k + 1, _, _, _, hlt, by go_num, rfl, PZ.out⟩
                  case measure => simp [intOf]; omega
                · have n6 := h6
                  clear h6
                  by_cases h7 : x.kd = 7
                  · have e1 : (x.kd == 1) = false := beq_eq_false_iff_ne.2 n1
                    have e2 : (x.kd == 2) = false := beq_eq_false_iff_ne.2 n2
                    have e3 : (x.kd == 3) = false := beq_eq_false_iff_ne.2 n3
                    have e4 : (x.kd == 4) = false := beq_eq_false_iff_ne.2 n4
                    have e5 : (x.kd == 5) = false := beq_eq_false_iff_ne.2 n5
                    have e6 : (x.kd == 6) = false := beq_eq_false_iff_ne.2 n6
                    have e7 : (x.kd == 7) = true := beq_iff_eq.2 h7
                    clear n1 n2 n3 n4 n5 n6 h7
                    go_wp2_with (first | ((with_reducible refine wl_load_opm b (o + k * 29) OKX.out.sp.len RG.out ?_ ?_); rfl) | ((with_reducible refine wl_store_op x wr.heap.size HZ.out OKX.out.sp.len ?_ ?_ ?_); rfl; rfl; rw [HW0.out]))
                    refine (PL0.out.c_copy KH.out).mono ?_; rintro e0 W1 ⟨g2, rfl, p1⟩
                    have TW : Hid (Two Pc w (obX wr.heap.size x) W1 g g2 gr d cs d cs d cs) := Lib.hid p1
                    clear p1
                    go_wp2_with fail
                    refine (TW.out.c_next KH.out).mono ?_; rintro e0 W2 ⟨rfl, p1⟩
                    have TX := Lib.hid p1
                    have c26 := (PxO.mk p1.xx OKX.out.sp.len).nu
                    clear p1 TW
                    go_wp2_with fail
                    refine (TX.out.c_halt KH.out OKX.out.nu (on := true)).mono ?_; rintro e0 W3 ⟨rfl, p1⟩
                    have TY := Lib.hid p1
                    clear p1 TX c26
                    go_wp2_with fail
                    refine (SML.out _).mono ?_; rintro e0 W4 ⟨rfl, q1⟩
                    have TZ := Lib.hid (TY.out.below KH.out q1)
                    clear q1 TY
                    go_wp2_with fail
                    refine (TZ.out.c_list KH.out SMO.out).mono ?_; rintro e0 W5 ⟨rfl, p1⟩
                    have PLf := Lib.hid p1.fin
                    clear p1 TZ
                    go_wp2_with fail
                    refine (PLf.out.drop.same KH.out).mono ?_; rintro e0 Wz ⟨rfl, pz⟩
                    have PZ := Lib.hid pz
                    clear pz
                    go_wp2_with fail
                    go_roundw
                    case rel => exact ⟨k + 1, _, _, _, hlt, by go_num, rfl, PZ.out⟩
                    case measure => simp [intOf]; omega
                  · have n7 := h7
                    clear h7
                    have e1 : (x.kd == 1) = false := beq_eq_false_iff_ne.2 n1
                    have e2 : (x.kd == 2) = false := beq_eq_false_iff_ne.2 n2
                    have e3 : (x.kd == 3) = false := beq_eq_false_iff_ne.2 n3
                    have e4 : (x.kd == 4) = false := beq_eq_false_iff_ne.2 n4
                    have e5 : (x.kd == 5) = false := beq_eq_false_iff_ne.2 n5
                    have e6 : (x.kd == 6) = false := beq_eq_false_iff_ne.2 n6
                    have e7 : (x.kd == 7) = false := beq_eq_false_iff_ne.2 n7
                    clear n1 n2 n3 n4 n5 n6 n7
                    go_wp2_with (first | ((with_reducible refine wl_load_opm b (o + k * 29) OKX.out.sp.len RG.out ?_ ?_); rfl) | ((with_reducible refine wl_store_op x wr.heap.size HZ.out OKX.out.sp.len ?_ ?_ ?_); rfl; rfl; rw [HW0.out]))
                    refine (PL0.out.c_get KH.out OKX.out.nu).mono ?_; rintro e0 W1 ⟨rfl, p1⟩
                    have G1 := Lib.hid (get_ok KH.out (nu := x.nu) p1)
                    have HB1 := Lib.hid (cb_new W1 (x := zeroCt) rfl)
                    have HB2 := Lib.hid (cb_set HB1.out (x := getC cs x.nu) G1.out.sp.len)
                    have PL1 := Lib.hid (p1.add KH.out (below_row' (g := W1.heap.size) (cs := (getC cs x.nu).cells) ((Below.refl _ W1).alloc (Nat.le_refl _) (.cells zeroCt.cells 45)) (Nat.le_refl _)) HB2.out.1 (Nat.le_refl _))
                    obtain ⟨W2, hW2⟩ : ∃ W, (W1.alloc (.cells zeroCt.cells 45)).setRow W1.heap.size (getC cs x.nu).cells = W := ⟨_, rfl⟩
                    rw [hW2] at PL1
                    have HW2 := Lib.hid hW2
                    have c26 : W2.cell? ⟨wr.heap.size, 26, none⟩ = some (.int .u32 x.nu) := (PxO.mk PL1.out.drop.x OKX.out.sp.len).nu
                    clear p1 hW2 HB2
                    go_wp2_with ((with_reducible refine wl_store_ct (getC cs x.nu) W1.heap.size HB1.out G1.out.sp.len ?_ ?_ ?_); rfl; rfl; rw [HW2.out])
                    refine (PL1.out.r_get KH.out OKX.out.nu).mono ?_; rintro e0 W3 ⟨rfl, p1⟩
                    have HB3 := Lib.hid (cb_new W3 (x := zeroCt) rfl)
                    have HB4 := Lib.hid (cb_set HB3.out (x := getC cs x.nu) G1.out.sp.len)
                    have PL2 := Lib.hid (p1.add KH.out (below_row' (g := W3.heap.size) (cs := (getC cs x.nu).cells) ((Below.refl _ W3).alloc (Nat.le_refl _) (.cells zeroCt.cells 45)) (Nat.le_refl _)) HB4.out.1 (Nat.le_refl _))
                    obtain ⟨W4, hW4⟩ : ∃ W, (W3.alloc (.cells zeroCt.cells 45)).setRow W3.heap.size (getC cs x.nu).cells = W := ⟨_, rfl⟩
                    rw [hW4] at PL2
                    have HW4 := Lib.hid hW4
                    have B9 : Hid (Cb W4 W1.heap.size (getC cs x.nu)) := Lib.hid ⟨PL2.out.x.at (p := (W1.heap.size, .cells (getC cs x.nu).cells 45 (0, 0))) (by simp), G1.out.sp.len⟩
                    have B11 : Hid (Cb W4 W3.heap.size (getC cs x.nu)) := Lib.hid ⟨PL2.out.x.at (p := (W3.heap.size, .cells (getC cs x.nu).cells 45 (0, 0))) (by simp), G1.out.sp.len⟩
                    have PLf := Lib.hid PL2.out.drop.drop
                    have hq : (getA cs x.nu == getA cs x.nu) = true := by simp
                    clear p1 hW4 HB4 PL1
                    go_wp2_with (first | ((with_reducible refine wl_store_ct (getC cs x.nu) W3.heap.size HB3.out G1.out.sp.len ?_ ?_ ?_); rfl; rfl; rw [HW4.out]) | ((with_reducible refine wl_load_ct W1.heap.size B9.out ?_ ?_ ?_); rfl; rfl) | ((with_reducible refine wl_load_ct W3.heap.size B11.out ?_ ?_ ?_); rfl; rfl) | ((with_reducible refine wl_eql_ct G1.out ?_ ?_ ?_ ?_); rfl; rfl; rfl))
                    refine (PLf.out.drop.same KH.out).mono ?_; rintro e0 Wz ⟨rfl, pz⟩
                    have PZ := Lib.hid pz
                    clear pz
                    go_wp2_with fail
                    go_roundw
                    case rel => exact ⟨k + 1, _, _, _, hlt, by go_num, rfl, PZ.out⟩
                    case measure => simp [intOf]; omega
end Go.Proofs.Ytejhnfkljfdejaa
