/- PURE and memory: what stands at the gate, as 37 cells; what Check answers; no program's function. -/
import Derived.Test.YtmelpikncdnloaaElr
import Derived.Test.YtmelpikncdnloaaQp
import Derived.Test.YtmelpikncdnloaaQi
namespace Go.Proofs.Ytmelpikncdnloaa
open Go.RowKit
set_option linter.unusedVariables false
set_option linter.unusedSimpArgs false

/-- At the gate. -/
structure Gt where
  sp : Sp
  st : Int
  pr : Int
  nu : Int
  ca : Int
  ki : Bool
  de : Bool
  q : Int
  bu : Int
  se : Int
  by' : Bool
  px : Int
  qt : Int
  len : sp.sh.length = 16
structure Gt.ok (g : Gt) : Prop where
  sp : g.sp.ok
  st : 0 ≤ g.st ∧ g.st ≤ 255
  pr : I64 g.pr
  nu : 0 ≤ g.nu ∧ g.nu ≤ 4294967295
  ca : I64 g.ca
  q : I64 g.q
  bu : I64 g.bu
  se : I64 g.se
  px : I64 g.px
  qt : I64 g.qt
def Gt.rest (g : Gt) : List Value := [.int .u8 g.st, .int .i64 g.pr, .int .u32 g.nu, .int .i64 g.ca, .bool g.ki, .bool g.de, .int .i64 g.q, .int .i64 g.bu, .int .i64 g.se, .bool g.by', .int .i64 g.px, .int .i64 g.qt]
def Gt.cells (g : Gt) : List Value := g.sp.cellL ++ g.rest
theorem sp_lenG {s : Sp} (h : s.sh.length = 16) : s.cellL.length = 25 := by simp [Sp.cellL, h]
theorem sp_oneG (s : Sp) : ∀ u ∈ s.cellL, u.oneCell' = true := by
  intro u hu
  simp only [Sp.cellL, List.mem_append, List.mem_cons, List.mem_map, List.not_mem_nil, or_false] at hu
  rcases hu with (rfl | rfl | rfl | rfl | rfl | rfl) | ⟨x, _, rfl⟩ | rfl | rfl | rfl <;> rfl
def EG : Elt Gt := ⟨Gt.cells, 37, by decide, fun g => by rw [Gt.cells, List.length_append, sp_lenG g.len]; rfl, fun g u hu => by
  rcases List.mem_append.1 hu with h | h
  · exact sp_oneG _ u h
  · simp only [Gt.rest, List.mem_cons, List.not_mem_nil, or_false] at h
    rcases h with rfl | rfl | rfl | rfl | rfl | rfl | rfl | rfl | rfl | rfl | rfl | rfl <;> rfl⟩
theorem TG : EltR Try.prog EG 32 := ⟨⟨_, Try.underlying32⟩, by kernel_rfl⟩
def zeroGt : Gt := ⟨zeroSp, 0, 0, 0, 0, false, false, 0, 0, 0, false, 0, 0, rfl⟩
theorem zero_g12 (w : World) : (zeroValue 32).run Try.prog w = .ok (.agg (EG.cells zeroGt).toArray) w := by kernel_rfl
theorem zero_s12 (w : World) : (zeroValue 25).run Try.prog w = .ok (.agg zeroSp.cells) w := by kernel_rfl
theorem gt_more (g : Gt) (i : Nat) : (EG.cells g)[25 + i]? = g.rest[i]? := by
  have e : g.sp.cellL.length = 25 := sp_lenG g.len
  show (g.sp.cellL ++ _)[25 + i]? = _
  rw [List.getElem?_append_right (by rw [e]; omega), e, show 25 + i - 25 = i by omega]
theorem gt_sp {g : Gt} {i : Nat} (hi : i < 25) : (EG.cells g)[i]? = g.sp.cells[i]? := by
  show (g.sp.cellL ++ _)[i]? = _
  rw [List.getElem?_append_left (by rw [sp_lenG g.len]; exact hi)]
  simp [Sp.cells]
section
variable {w : World} {b : Nat} {g : Gt} {te : TypeId}
theorem gt_at (h : EG.Bx te w b g) {j : Nat} {v : Value} (hj : g.rest[j]? = some v) : w.cell? ⟨b, 25 + j, none⟩ = some v := by rw [gbx_cell h, gt_more, hj]
theorem gt_spl (h : EG.Bx te w b g) : w.rangeAt b 0 g.sp.cellL := fun j v hj => by
  have hl := (List.getElem?_eq_some_iff.1 hj).1
  rw [Nat.zero_add, gbx_cell h]
  show (g.sp.cellL ++ _)[j]? = _
  rw [List.getElem?_append_left hl, hj]
end
section
variable {ops : Array Oper} {rest : List Oper} {a : Act} {w : World} {Q : Exit → Act → World → Prop} {d : Option Nat} {x : Operand} {ty : TypeId} {ps : String} {af : Array Edge} {gd : Option (Nat × Bool)}
theorem wl_spG {s : Sp} (hl : s.sh.length = 16) (b o : Nat) (hb : w.rangeAt b o s.cellL)
    (hw : Region.wanted ⟨d, .load 25 x, ty, ps, af, gd⟩ (yielded ops a.tmps) = true) (hx : a.eval x = .pointer (some ⟨b, o, none⟩)) (h : wpList Try.prog ops Q rest (a.put d (.agg s.cells)) w) : wpList Try.prog ops Q (⟨d, .load 25 x, ty, ps, af, gd⟩ :: rest) a w :=
  BigFrame.wpList_want hw fun _ hK => wp_load_mid 25 x rfl b o hx s.cellL _ hb Try.underlying25 rfl (by rw [info_sp, sp_lenG hl]) (hK _ _ h)
end
/-- What Check answers. -/
def gmayB (g : Gt) : Bool := decide (g.st = 1) && priceB g.sp g.pr && amB g.bu 0 1000000000 && amB g.se 0 1000000000 && amB g.q (-10000000) 10000000
def worG (g : Gt) : Int := if g.by' then g.q + g.bu + g.qt else g.se + g.qt - g.q
def nearB (g : Gt) : Bool := decide (g.px - g.pr ≤ g.sp.ba ∧ g.pr - g.px ≤ g.sp.ba)
def tailG (g : Gt) : Int := if !gmayB g then 2 else if !qtyB g.sp g.qt then 123 else if !priceB g.sp g.px then 52 else if !nearB g then 124 else if g.sp.li < worG g then 125 else 0
def chk (g : Gt) : Int := if g.de then 120 else if g.ki then 121 else if g.st = 3 then 50 else if g.st = 2 then 122 else tailG g
theorem gmayB_iff {g : Gt} : gmayB g = true ↔ g.st = 1 ∧ priceB g.sp g.pr = true ∧ (0 ≤ g.bu ∧ g.bu ≤ 1000000000) ∧ (0 ≤ g.se ∧ g.se ≤ 1000000000) ∧ -10000000 ≤ g.q ∧ g.q ≤ 10000000 := by
  unfold gmayB
  simp only [Bool.and_eq_true, decide_eq_true_eq, amB_iff]
  exact ⟨fun ⟨⟨⟨⟨a, b⟩, c⟩, d⟩, e⟩ => ⟨a, b, c, d, e⟩, fun ⟨a, b, c, d, e⟩ => ⟨⟨⟨⟨a, b⟩, c⟩, d⟩, e⟩⟩
theorem price_bd {s : Sp} {n : Int} (h : priceB s n = true) : mayB s = true ∧ 1 ≤ n ∧ n ≤ 10000000 := by
  unfold priceB at h
  simp only [Bool.and_eq_true, prB_iff] at h
  exact ⟨h.1, h.2.1⟩
theorem qty_bd {s : Sp} {n : Int} (h : qtyB s n = true) : mayB s = true ∧ 1 ≤ n ∧ n ≤ 1000000 := by
  unfold qtyB at h
  simp only [Bool.and_eq_true, decide_eq_true_eq] at h
  exact ⟨h.1, h.2.1⟩
/-- OK, and refused for the limit alone. -/
theorem tail_ok {g : Gt} : tailG g = 0 ↔ gmayB g = true ∧ qtyB g.sp g.qt = true ∧ priceB g.sp g.px = true ∧ nearB g = true ∧ worG g ≤ g.sp.li := by
  unfold tailG
  cases gmayB g <;> cases qtyB g.sp g.qt <;> cases priceB g.sp g.px <;> cases nearB g <;> simp
theorem tail_lim {g : Gt} : tailG g = 125 ↔ gmayB g = true ∧ qtyB g.sp g.qt = true ∧ priceB g.sp g.px = true ∧ nearB g = true ∧ g.sp.li < worG g := by
  unfold tailG
  cases gmayB g <;> cases qtyB g.sp g.qt <;> cases priceB g.sp g.px <;> cases nearB g <;> simp
theorem chk_tail {g : Gt} {n : Int} (h : chk g = n) (hn : n = 0 ∨ n = 125) : g.de = false ∧ g.ki = false ∧ g.st ≠ 3 ∧ g.st ≠ 2 ∧ tailG g = n := by
  unfold chk at h
  cases hd : g.de
  · cases hk : g.ki
    · rw [hd, hk] at h
      simp only [Bool.false_eq_true, if_false] at h
      by_cases c3 : g.st = 3
      · rw [if_pos c3] at h; omega
      · rw [if_neg c3] at h
        by_cases c2 : g.st = 2
        · rw [if_pos c2] at h; omega
        · rw [if_neg c2] at h
          exact ⟨rfl, rfl, c3, c2, h⟩
    · rw [hd, hk] at h
      simp at h
      omega
  · rw [hd] at h
    simp at h
    omega
theorem chk_of {g : Gt} (h1 : g.de = false) (h2 : g.ki = false) (h3 : g.st ≠ 3) (h4 : g.st ≠ 2) : chk g = tailG g := by
  unfold chk
  rw [h1, h2, if_neg (by decide), if_neg (by decide), if_neg h3, if_neg h4]
/-- With less open, at the Price itself. -/
theorem near_self (g : Gt) (h : priceB g.sp g.pr = true) : nearB { g with px := g.pr } = true := by
  have := (head_parts (may_head (price_bd h).1)).2.2.2.2.1
  unfold nearB
  simp only [decide_eq_true_eq]
  omega
theorem less_ok {g : Gt} (h : chk g = 0) {a b : Int} (ha : 0 ≤ a ∧ a ≤ g.bu) (hb : 0 ≤ b ∧ b ≤ g.se) : chk { g with bu := a, se := b, px := g.pr } = 0 := by
  obtain ⟨h1, h2, h3, h4, h5⟩ := chk_tail h (.inl rfl)
  obtain ⟨t1, t2, t3, t4, t5⟩ := tail_ok.1 h5
  obtain ⟨m1, m2, m3, m4, m5⟩ := gmayB_iff.1 t1
  rw [chk_of (g := { g with bu := a, se := b, px := g.pr }) h1 h2 h3 h4]
  refine tail_ok.2 ⟨gmayB_iff.2 ⟨m1, m2, by show 0 ≤ a ∧ a ≤ _; omega, by show 0 ≤ b ∧ b ≤ _; omega, m5⟩, t2, m2, near_self g m2, ?_⟩
  show (if g.by' then g.q + a + g.qt else b + g.qt - g.q) ≤ g.sp.li
  unfold worG at t5
  cases hb' : g.by' <;> rw [hb'] at t5 <;> simp at t5 ⊢ <;> omega
/-- With the greatest Limit. -/
def wideG (g : Gt) : Gt := { g with sp := { g.sp with li := 10000000 }, len := g.len }
theorem may_wide {s : Sp} (h : mayB s = true) : mayB { s with li := 10000000 } = true := by
  unfold mayB headB at h ⊢
  simp only [Bool.and_eq_true, amB_iff] at h ⊢
  obtain ⟨⟨⟨⟨⟨⟨⟨⟨⟨⟨a, b⟩, c⟩, d⟩, e⟩, f⟩, g⟩, h1⟩, h2⟩, h3⟩, h4⟩ := h
  exact ⟨⟨⟨⟨⟨⟨⟨⟨⟨⟨a, b⟩, c⟩, d⟩, e⟩, by omega⟩, g⟩, h1⟩, h2⟩, h3⟩, h4⟩
theorem wide_lim {g : Gt} (h : chk g = 125) : (-10000000 ≤ g.q ∧ g.q ≤ 10000000) ∧ (0 ≤ g.bu ∧ g.bu ≤ 1000000000) ∧ (0 ≤ g.se ∧ g.se ≤ 1000000000) ∧ (1 ≤ g.qt ∧ g.qt ≤ 1000000) ∧ (chk (wideG g) = if worG g ≤ 10000000 then 0 else 125) := by
  obtain ⟨h1, h2, h3, h4, h5⟩ := chk_tail h (.inr rfl)
  obtain ⟨t1, t2, t3, t4, t5⟩ := tail_lim.1 h5
  obtain ⟨m1, m2, m3, m4, m5⟩ := gmayB_iff.1 t1
  refine ⟨m5, m3, m4, (qty_bd t2).2, ?_⟩
  have mw := may_wide (price_bd m2).1
  have p1 : ∀ n, priceB g.sp n = true → priceB (wideG g).sp n = true := fun n hn => by
    unfold priceB at hn ⊢
    simp only [Bool.and_eq_true] at hn ⊢
    exact ⟨mw, hn.2⟩
  have q1 : qtyB (wideG g).sp g.qt = true := by
    unfold qtyB at t2 ⊢
    simp only [Bool.and_eq_true] at t2 ⊢
    exact ⟨mw, t2.2⟩
  have gm : gmayB (wideG g) = true := gmayB_iff.2 ⟨m1, p1 _ m2, m3, m4, m5⟩
  rw [chk_of (g := wideG g) h1 h2 h3 h4]
  by_cases c : worG g ≤ 10000000
  · rw [if_pos c]
    exact tail_ok.2 ⟨gm, q1, p1 _ t3, t4, c⟩
  · rw [if_neg c]
    exact tail_lim.2 ⟨gm, q1, p1 _ t3, t4, by show 10000000 < worG g; omega⟩
end Go.Proofs.Ytmelpikncdnloaa
