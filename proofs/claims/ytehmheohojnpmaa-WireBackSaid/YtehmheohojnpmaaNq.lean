/- Contracts of the program's own reader: its inner steps, numbers. -/
import Derived.Test.YtehmheohojnpmaaNl
namespace Go.Proofs.Ytehmheohojnpmaa
open Go.RowKit

/-- A reader of the program that stands in memory: what is left, and the fault. -/
structure Rq (W : World) (g : Nat) (A : Option Addr) (n c : Nat) (bs : List Int) (e : Int) : Prop where
  b : W.heap[g]? = some (.cells #[.slice A n c, .int .i64 e] 66 (0, 0))
  r : RdB W A n bs
  nc : n ≤ c
section
variable {w W : World} {g : Nat} {A : Option Addr} {n c : Nat} {bs : List Int} {e : Int}
theorem Rq.c0 (h : Rq W g A n c bs e) : W.cell? ⟨g, 0, none⟩ = some (.slice A n c) := by rw [cell_of_row _ _ _ _ _ _ h.b]; rfl
theorem Rq.c1 (h : Rq W g A n c bs e) : W.cell? ⟨g, 1, none⟩ = some (.int .i64 e) := by rw [cell_of_row _ _ _ _ _ _ h.b]; rfl
theorem Rq.fr (h : Rq W g A n c bs e) (k : Nat) : W.frozen? ⟨g, k, none⟩ = false := frozen_of_row W g k _ _ h.b
theorem Rq.far (h : Rq w g A n c bs e) {b o j : Nat} {x : Int} (hc : w.cell? ⟨b, o + j, none⟩ = some (.int .u8 x)) : b ≠ g := by
  intro hb
  subst hb
  rw [cell_of_row _ _ _ _ _ _ h.b] at hc
  match hk : o + j with
  | 0 => rw [hk] at hc; simp at hc
  | 1 => rw [hk] at hc; simp at hc
  | i + 2 => rw [hk] at hc; simp at hc
theorem RdB.stay {A' : Option Addr} {n' : Nat} {bs' : List Int} (h : Rq w g A n c bs e) (r : RdB w A' n' bs') (k : Nat) (v : Value) : RdB (w.setCell ⟨g, k, none⟩ v) A' n' bs' :=
  ⟨r.1, fun hn => by
    obtain ⟨b, o, e1, hc⟩ := r.2 hn
    exact ⟨b, o, e1, fun j hj => by rw [World.cell?_setCell_other (h := fun e2 => h.far (hc j hj) (by cases e2; rfl))]; exact hc j hj⟩⟩
theorem Rq.below (h : Rq w g A n c bs e) {W : World} (b : Below w.heap.size w W) : Rq W g A n c bs e :=
  ⟨(b.block g (Array.getElem?_eq_some_iff.1 h.b).1).trans h.b, h.r.below b, h.nc⟩
theorem Rq.lt (h : Rq w g A n c bs e) : g < w.heap.size := (Array.getElem?_eq_some_iff.1 h.b).1
theorem Rq.setE (h : Rq w g A n c bs e) (e' : Int) : Rq (w.setCell ⟨g, 1, none⟩ (.int .i64 e')) g A n c bs e' :=
  ⟨by have := heap_setCell_same w g 1 _ _ (.int .i64 e') h.b; exact this, RdB.stay h h.r 1 _, h.nc⟩
theorem Rq.setB (h : Rq w g A n c bs e) {A' : Option Addr} {n' c' : Nat} {bs' : List Int} (r : RdB w A' n' bs') (hc : n' ≤ c') : Rq (w.setCell ⟨g, 0, none⟩ (.slice A' n' c')) g A' n' c' bs' e :=
  ⟨by have := heap_setCell_same w g 0 _ _ (.slice A' n' c') h.b; exact this, RdB.stay h r 0 _, hc⟩
theorem RdB.fore (r : RdB w A n bs) {k : Nat} (hk : k ≤ n) : RdB w A k (bs.take k) :=
  ⟨by rw [List.length_take, r.1]; omega, fun hn => by
    obtain ⟨b, o, e1, hc⟩ := r.2 (by omega)
    exact ⟨b, o, e1, fun j hj => by rw [hc j (by omega), take_getD hj]⟩⟩
end

set_option maxRecDepth 100000 in
theorem stop_no (g n c : Nat) (A : Option Addr) (bs : List Int) (w : World) (h : Rq w g A n c bs 0) :
    Calls Try.prog 44 #[.pointer (some ⟨g, 0, none⟩)] w fun E W => E = .returned (.bool false) ∧ w = W := by
  have d1 := h.c1
  clear h
  go_enter Try.func44, Try.ntmps44
  go_wp2
  go_ret
  exact ⟨rfl, rfl⟩
set_option maxRecDepth 100000 in
theorem stop_yes (g n c : Nat) (A : Option Addr) (bs : List Int) (e : Int) (w : World) (h : Rq w g A n c bs e) (he : e ≠ 0) :
    Calls Try.prog 44 #[.pointer (some ⟨g, 0, none⟩)] w fun E W => E = .returned (.bool true) ∧ w = W := by
  have d1 := h.c1
  have he1 : decide (e = 0) = false := decide_eq_false he
  have he2 : (e == 0) = false := by simpa using he
  have he3 : (e != 0) = true := by simpa using he
  clear h
  go_enter Try.func44, Try.ntmps44
  go_wp2
  go_ret
  exact ⟨rfl, rfl⟩
set_option maxRecDepth 100000 in
theorem stop_nil (w : World) :
    Calls Try.prog 44 #[.pointer none] w fun E W => E = .returned (.bool true) ∧ w = W := by
  go_enter Try.func44, Try.ntmps44
  go_wp2
  go_ret
  exact ⟨rfl, rfl⟩

/-- So many bytes were passed. -/
def Passed (w : World) (g b o n c k : Nat) (bs : List Int) (e : Int) (E : Ending) (W : World) : Prop :=
  E = .returned (.slice (some ⟨b, o, none⟩) k c) ∧ (∃ o' , Rq W g (some ⟨b, o', none⟩) (n - k) (c - k) (bs.drop k) e) ∧ RdB W (some ⟨b, o, none⟩) k (bs.take k) ∧ w.grownBy W (some g)
set_option maxRecDepth 100000 in
theorem pass_any (g b o n c k : Nat) (bs : List Int) (e : Int) (w : World) (h : Rq w g (some ⟨b, o, none⟩) n c bs e) (hk : k ≤ n) (hn : n ≤ 200000) :
    Calls Try.prog 46 #[.pointer (some ⟨g, 0, none⟩), .int .i64 k] w fun E W => Passed w g b o n c k bs e E W := by
  have hnc := h.nc
  have d0 := h.c0
  have f0 := h.fr 0
  have HH := Lib.hid h
  clear h
  by_cases hck : c = k
  · obtain rfl : n = k := by omega
    obtain rfl : c = n := by omega
    go_enter Try.func46, Try.ntmps46
    go_wp2
    go_ret
    refine ⟨rfl, ⟨o, ?_⟩, RdB.stay HH.out (HH.out.r.fore hk) 0 _, only_set _ _ _ _⟩
    have r := HH.out.setB (HH.out.r.all (k := c) (m := c - c) (Nat.le_refl _) (Nat.sub_self _) (some ⟨b, o, none⟩)) (c' := c - c) (Nat.le_refl _)
    simpa using r
  · go_enter Try.func46, Try.ntmps46
    go_wp2
    go_ret
    refine ⟨rfl, ⟨o + k, ?_⟩, RdB.stay HH.out (HH.out.r.fore hk) 0 _, only_set _ _ _ _⟩
    refine HH.out.setB ?_ (by omega)
    have := HH.out.r.cut k
    rwa [show (some (⟨b, o, none⟩ : Addr)).map (fun x => x.add k) = some ⟨b, o + k, none⟩ from by simp [Addr.add_mid]] at this
end Go.Proofs.Ytehmheohojnpmaa
