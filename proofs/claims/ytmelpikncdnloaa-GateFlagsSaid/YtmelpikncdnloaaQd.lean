/- Plain facts on a contract's data: as cells, whether they may be; no program's function. -/
import Derived.WalkKit
import Derived.Lib.Hide
import Derived.Test.YtmelpikncdnloaaProg
namespace Go.Proofs.Ytmelpikncdnloaa
open Go.RowKit

/-- A contract's data. -/
structure Sp where
  nu : Int
  ro : Int
  ti : Int
  lo : Int
  ba : Int
  li : Int
  sh : List Int
  cr : Int
  la : Int
  fi : Int
def I64 (x : Int) : Prop := -9223372036854775808 ≤ x ∧ x ≤ 9223372036854775807
/-- Each fits its kind. -/
structure Sp.ok (s : Sp) : Prop where
  nu : 0 ≤ s.nu ∧ s.nu ≤ 4294967295
  ro : 0 ≤ s.ro ∧ s.ro ≤ 255
  ti : I64 s.ti
  lo : I64 s.lo
  ba : I64 s.ba
  li : I64 s.li
  len : s.sh.length = 16
  sh : ∀ x, x ∈ s.sh → I64 x
  cr : I64 s.cr
  la : 0 ≤ s.la ∧ s.la ≤ 4294967295
  fi : I64 s.fi
def Sp.cellL (s : Sp) : List Value := [.int .u32 s.nu, .int .u8 s.ro, .int .i64 s.ti, .int .i64 s.lo, .int .i64 s.ba, .int .i64 s.li] ++ (s.sh.map (Value.int .i64) ++ [.int .i64 s.cr, .int .u32 s.la, .int .i64 s.fi])
def Sp.cells (s : Sp) : Array Value := s.cellL.toArray
theorem Sp.size {s : Sp} (h : s.sh.length = 16) : s.cells.size = 25 := by simp [Sp.cells, Sp.cellL, h]
theorem Sp.c0 (s : Sp) : s.cells[0]? = some (.int .u32 s.nu) := rfl
theorem Sp.c1 (s : Sp) : s.cells[1]? = some (.int .u8 s.ro) := rfl
theorem Sp.c2 (s : Sp) : s.cells[2]? = some (.int .i64 s.ti) := rfl
theorem Sp.c3 (s : Sp) : s.cells[3]? = some (.int .i64 s.lo) := rfl
theorem Sp.c4 (s : Sp) : s.cells[4]? = some (.int .i64 s.ba) := rfl
theorem Sp.c5 (s : Sp) : s.cells[5]? = some (.int .i64 s.li) := rfl
theorem Sp.c6 {s : Sp} (h : s.sh.length = 16) (i : Nat) (hi : i < 16) : s.cells[6 + i]? = some (.int .i64 (s.sh.getD i 0)) := by
  have hl : i < s.sh.length := by omega
  have e : s.cells[6 + i]? = (s.sh.map (Value.int .i64) ++ [.int .i64 s.cr, .int .u32 s.la, .int .i64 s.fi])[i]? := by
    rw [show 6 + i = i + 1 + 1 + 1 + 1 + 1 + 1 by omega]
    simp [Sp.cells, Sp.cellL]
  rw [e, List.getElem?_append_left (by rw [List.length_map]; exact hl)]
  simp [List.getD, hl]
theorem Sp.c22 {s : Sp} (h : s.sh.length = 16) : s.cells[22]? = some (.int .i64 s.cr) := by
  simp [Sp.cells, Sp.cellL, h]
theorem Sp.c23 {s : Sp} (h : s.sh.length = 16) : s.cells[23]? = some (.int .u32 s.la) := by
  simp [Sp.cells, Sp.cellL, h]
theorem Sp.c24 {s : Sp} (h : s.sh.length = 16) : s.cells[24]? = some (.int .i64 s.fi) := by
  simp [Sp.cells, Sp.cellL, h]
theorem Sp.one (s : Sp) : (s.cells.all fun x => x.oneCell') = true := by simp [Sp.cells, Sp.cellL, Value.oneCell']

/-- Between two bounds; a price of a tick. -/
def amB (n l m : Int) : Bool := decide (l ≤ n ∧ n ≤ m)
def prB (t n : Int) : Bool := decide ((1 ≤ n ∧ n ≤ 10000000) ∧ n % t = 0)
def someUp (l : List Int) : Bool := l.any fun x => decide (0 < x)
def someDown (l : List Int) : Bool := l.any fun x => decide (x < 0)
/-- The first conditions; then the shifts'. -/
def headB (s : Sp) : Bool := decide (s.nu ≠ 0) && amB s.ro 1 8 && amB s.ti 1 10000000 && amB s.lo 1 1000000 && amB s.ba 0 10000000 && amB s.li 1 10000000 && amB s.cr 0 10000000
def mayB (s : Sp) : Bool := headB s && s.sh.all (fun x => amB x (-10000000) 10000000) && someUp s.sh && someDown s.sh && prB s.ti s.fi
def priceB (s : Sp) (n : Int) : Bool := mayB s && prB s.ti n
def qtyB (s : Sp) (n : Int) : Bool := mayB s && decide ((1 ≤ n ∧ n ≤ 1000000) ∧ n % s.lo = 0)
def bandB (s : Sp) (a b : Int) : Bool := mayB s && decide (a - b ≤ s.ba ∧ b - a ≤ s.ba)
theorem amB_iff {n l m : Int} : amB n l m = true ↔ l ≤ n ∧ n ≤ m := by simp [amB]
theorem prB_iff {t n : Int} : prB t n = true ↔ (1 ≤ n ∧ n ≤ 10000000) ∧ n % t = 0 := by simp [prB]
theorem may_head {s : Sp} (h : mayB s = true) : headB s = true := by
  unfold mayB at h
  simp only [Bool.and_eq_true] at h
  exact h.1.1.1.1
theorem head_parts {s : Sp} (h : headB s = true) : s.nu ≠ 0 ∧ (1 ≤ s.ro ∧ s.ro ≤ 8) ∧ (1 ≤ s.ti ∧ s.ti ≤ 10000000) ∧ (1 ≤ s.lo ∧ s.lo ≤ 1000000) ∧ (0 ≤ s.ba ∧ s.ba ≤ 10000000) ∧ (1 ≤ s.li ∧ s.li ≤ 10000000) ∧ 0 ≤ s.cr ∧ s.cr ≤ 10000000 := by
  unfold headB at h
  simp only [Bool.and_eq_true, amB_iff, decide_eq_true_eq] at h
  obtain ⟨⟨⟨⟨⟨⟨a, b⟩, c⟩, d⟩, e⟩, f⟩, g⟩ := h
  exact ⟨a, b, c, d, e, f, g⟩
theorem may_fi {s : Sp} (h : mayB s = true) : (1 ≤ s.fi ∧ s.fi ≤ 10000000) ∧ s.fi % s.ti = 0 := by
  unfold mayB at h
  simp only [Bool.and_eq_true] at h
  exact prB_iff.1 h.2
theorem may_sh {s : Sp} (h : mayB s = true) : ∀ x, x ∈ s.sh → -10000000 ≤ x ∧ x ≤ 10000000 := by
  unfold mayB at h
  simp only [Bool.and_eq_true] at h
  intro x hx
  exact amB_iff.1 (List.all_eq_true.1 h.1.1.1.2 x hx)
def zeroSp : Sp := ⟨0, 0, 0, 0, 0, 0, List.replicate 16 0, 0, 0, 0⟩
theorem zero_ok : zeroSp.ok := by
  refine ⟨?_, ?_, ?_, ?_, ?_, ?_, ?_, ?_, ?_, ?_, ?_⟩ <;> first | (simp [zeroSp, I64]) | skip
end Go.Proofs.Ytmelpikncdnloaa
