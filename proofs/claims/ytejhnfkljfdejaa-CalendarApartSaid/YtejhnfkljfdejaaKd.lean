/- Plain facts on contracts in memory and on what a calendar answers; no program's function. -/
import Derived.Test.YtejhnfkljfdejaaQd
namespace Go.Proofs.Ytejhnfkljfdejaa
open Go.RowKit

/-- A contract: its data, its state, its price. -/
structure Ct where
  sp : Sp
  st : Int
  pr : Int
def Ct.cellL (c : Ct) : List Value := c.sp.cellL ++ [.int .u8 c.st, .int .i64 c.pr]
structure Ct.ok (c : Ct) : Prop where
  sp : c.sp.ok
  st : 0 ≤ c.st ∧ c.st ≤ 255
  pr : I64 c.pr
theorem Sp.lenL {s : Sp} (h : s.sh.length = 16) : s.cellL.length = 25 := by simp [Sp.cellL, h]
theorem Ct.lenL {c : Ct} (h : c.sp.sh.length = 16) : c.cellL.length = 27 := by simp [Ct.cellL, Sp.lenL h]
theorem Ct.spc {c : Ct} (h : c.sp.sh.length = 16) {i : Nat} (hi : i < 25) : c.cellL[i]? = c.sp.cells[i]? := by
  rw [Ct.cellL, List.getElem?_append_left (by rw [Sp.lenL h]; exact hi)]
  simp [Sp.cells]
theorem Ct.c25 {c : Ct} (h : c.sp.sh.length = 16) : c.cellL[25]? = some (.int .u8 c.st) := by
  rw [Ct.cellL, List.getElem?_append_right (by rw [Sp.lenL h]; omega), Sp.lenL h]; rfl
theorem Ct.c26 {c : Ct} (h : c.sp.sh.length = 16) : c.cellL[26]? = some (.int .i64 c.pr) := by
  rw [Ct.cellL, List.getElem?_append_right (by rw [Sp.lenL h]; omega), Sp.lenL h]; rfl
/-- All cells of a list of contracts. -/
def flat (cs : List Ct) : List Value := cs.flatMap Ct.cellL
theorem flat_len : ∀ (cs : List Ct), (∀ c, c ∈ cs → c.sp.sh.length = 16) → (flat cs).length = cs.length * 27
  | [], _ => rfl
  | c :: cs, h => by
    have e : flat (c :: cs) = c.cellL ++ flat cs := by simp [flat]
    rw [e, List.length_append, Ct.lenL (h c (by simp)), flat_len cs (fun x hx => h x (by simp [hx])), List.length_cons]
    omega
theorem flat_at : ∀ (cs : List Ct) (k : Nat) (c : Ct), (∀ c, c ∈ cs → c.sp.sh.length = 16) → cs[k]? = some c → ∀ i, i < 27 → (flat cs)[k * 27 + i]? = c.cellL[i]?
  | [], k, c, _, h, _, _ => by simp at h
  | x :: cs, 0, c, h, hk, i, hi => by
    have e : flat (x :: cs) = x.cellL ++ flat cs := by simp [flat]
    obtain rfl : x = c := by simpa using hk
    rw [e, Nat.zero_mul, Nat.zero_add, List.getElem?_append_left (by rw [Ct.lenL (h x (by simp))]; exact hi)]
  | x :: cs, k + 1, c, h, hk, i, hi => by
    have e : flat (x :: cs) = x.cellL ++ flat cs := by simp [flat]
    rw [e, List.getElem?_append_right (by rw [Ct.lenL (h x (by simp))]; omega), Ct.lenL (h x (by simp)), show (k + 1) * 27 + i - 27 = k * 27 + i by omega]
    exact flat_at cs k c (fun y hy => h y (by simp [hy])) (by simpa using hk) i hi
theorem info_ct : (Try.prog.info? 45).map (fun i => (i.size, i.bytes)) = some (27, 208) := by kernel_rfl
/-- The place of a contract, by its number. -/
def placeC : List Ct → Int → Option Nat
  | [], _ => none
  | c :: cs, n => if c.sp.nu = n then some 0 else (placeC cs n).map (· + 1)
def placeI (cs : List Ct) (n : Int) : Int := match placeC cs n with | some k => (k : Int) | none => -1
theorem placeC_some : ∀ (cs : List Ct) (n : Int) (k : Nat), (∃ c : Ct, cs[k]? = some c ∧ c.sp.nu = n) → (∀ (j : Nat) (c : Ct), j < k → cs[j]? = some c → c.sp.nu ≠ n) → placeC cs n = some k
  | [], n, k, ⟨c, h, _⟩, _ => by simp at h
  | x :: cs, n, 0, ⟨c, h, e⟩, _ => by
    obtain rfl : x = c := by simpa using h
    simp [placeC, e]
  | x :: cs, n, k + 1, ⟨c, h, e⟩, hj => by
    have h0 := hj 0 x (by omega) rfl
    simp only [placeC]
    rw [if_neg h0, placeC_some cs n k ⟨c, by simpa using h, e⟩ (fun j d hd he => hj (j + 1) d (by omega) (by simpa using he))]
    rfl
theorem placeC_none : ∀ (cs : List Ct) (n : Int), (∀ (j : Nat) (c : Ct), cs[j]? = some c → c.sp.nu ≠ n) → placeC cs n = none
  | [], _, _ => rfl
  | x :: cs, n, h => by
    simp only [placeC]
    rw [if_neg (h 0 x rfl), placeC_none cs n (fun j d hd => h (j + 1) d (by simpa using hd))]
    rfl
theorem placeC_at : ∀ {cs : List Ct} {n : Int} {k : Nat}, placeC cs n = some k → ∃ c : Ct, cs[k]? = some c ∧ c.sp.nu = n
  | [], n, k, h => by simp [placeC] at h
  | x :: cs, n, k, h => by
    simp only [placeC] at h
    split at h
    · cases h
      exact ⟨x, rfl, by assumption⟩
    · cases e : placeC cs n with
      | none => rw [e] at h; simp at h
      | some j =>
        rw [e] at h
        obtain rfl : j + 1 = k := by simpa using h
        obtain ⟨c, h1, h2⟩ := placeC_at e
        exact ⟨c, by simpa using h1, h2⟩
end Go.Proofs.Ytejhnfkljfdejaa
