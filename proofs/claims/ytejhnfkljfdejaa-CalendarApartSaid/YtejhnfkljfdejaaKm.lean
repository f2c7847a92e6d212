/- What a calendar answers, and its contracts behind a call; plain facts. -/
import Derived.Test.YtejhnfkljfdejaaKd
namespace Go.Proofs.Ytejhnfkljfdejaa
open Go.RowKit

def nextA (d : Int) : Int := if d = 4294967295 then 6 else 0
def nextD (d : Int) : Int := if d = 4294967295 then d else d + 1
/-- What is there of a contract: none, expired, alive. -/
inductive Al where
  | none
  | gone (k : Nat) (x : Ct)
  | here (k : Nat) (x : Ct)
def alC (cs : List Ct) (nu : Int) : Al :=
  match placeC cs nu with
  | none => .none
  | some k => match cs[k]? with
    | none => .none
    | some x => if x.st = 3 then .gone k x else .here k x
def Al.i : Al → Int | .here k _ => k | _ => 0
def Al.e : Al → Int | .none => 7 | .gone _ _ => 50 | .here _ _ => 0
def haltS (on : Bool) : Int := if on then 2 else 1
def haltC (cs : List Ct) (nu : Int) (on : Bool) : List Ct := match alC cs nu with | .here k x => cs.set k ⟨x.sp, haltS on, x.pr⟩ | _ => cs
def pubA (cs : List Ct) (nu p : Int) : Int := match alC cs nu with | .here _ x => if priceB x.sp p then 0 else 52 | a => a.e
def pubC (cs : List Ct) (nu p : Int) : List Ct := match alC cs nu with | .here k x => if priceB x.sp p then cs.set k ⟨x.sp, x.st, p⟩ else cs | _ => cs
def laOf (cs : List Ct) (j : Nat) : Int := match cs[j]? with | some y => y.sp.la | none => 0
/-- The first to expire among the first n: -1, or its place. -/
def firstC (cs : List Ct) : Nat → Int
  | 0 => -1
  | n + 1 => match cs[n]? with
    | none => firstC cs n
    | some x => if x.st ≠ 3 ∧ (firstC cs n < 0 ∨ x.sp.la < laOf cs (firstC cs n).toNat) then n else firstC cs n
def dueA (d : Int) (cs : List Ct) (nu : Int) : Int := match alC cs nu with | .here k x => if d < x.sp.la then 51 else if firstC cs cs.length = k then 0 else 51 | a => a.e
def expC (d : Int) (cs : List Ct) (nu : Int) : List Ct := match alC cs nu with | .here k x => if dueA d cs nu = 0 then cs.set k ⟨x.sp, 3, x.pr⟩ else cs | _ => cs
def zeroCt : Ct := ⟨zeroSp, 0, 0⟩
def getC (cs : List Ct) (nu : Int) : Ct := match placeC cs nu with | some k => (match cs[k]? with | some x => x | none => zeroCt) | none => zeroCt
def getA (cs : List Ct) (nu : Int) : Int := match placeC cs nu with | some _ => 0 | none => 7
def spotC : List Ct → Int → Nat
  | [], _ => 0
  | c :: cs, nu => if c.sp.nu < nu then spotC cs nu + 1 else 0
def listA (d : Int) (cs : List Ct) (s : Sp) : Int := if mayB s then (if (placeC cs s.nu).isSome then 8 else if s.la < d then 51 else if 16 ≤ cs.length then 9 else 0) else 2
def listC (d : Int) (cs : List Ct) (s : Sp) : List Ct := if listA d cs s = 0 then cs.take (spotC cs s.nu) ++ (⟨s, 1, s.fi⟩ :: cs.drop (spotC cs s.nu)) else cs

theorem place_lt {cs : List Ct} {nu : Int} {k : Nat} (h : placeC cs nu = some k) : ∃ x, cs[k]? = some x ∧ x.sp.nu = nu := placeC_at h
inductive AlD (cs : List Ct) (nu : Int) : Al → Prop where
  | none : placeC cs nu = none → AlD cs nu .none
  | gone {k : Nat} {x : Ct} : placeC cs nu = some k → cs[k]? = some x → x.sp.nu = nu → x.st = 3 → AlD cs nu (.gone k x)
  | here {k : Nat} {x : Ct} : placeC cs nu = some k → cs[k]? = some x → x.sp.nu = nu → x.st ≠ 3 → AlD cs nu (.here k x)
theorem al_cases (cs : List Ct) (nu : Int) : AlD cs nu (alC cs nu) := by
  unfold alC
  cases e : placeC cs nu with
  | none => exact .none e
  | some k =>
    obtain ⟨x, hx, hn⟩ := placeC_at e
    simp only [hx]
    split
    · exact .gone e hx hn (by assumption)
    · exact .here e hx hn (by assumption)
theorem placeI_none {cs : List Ct} {nu : Int} (h : placeC cs nu = none) : placeI cs nu = -1 := by unfold placeI; rw [h]
theorem placeI_some {cs : List Ct} {nu : Int} {k : Nat} (h : placeC cs nu = some k) : placeI cs nu = k := by unfold placeI; rw [h]
end Go.Proofs.Ytejhnfkljfdejaa
