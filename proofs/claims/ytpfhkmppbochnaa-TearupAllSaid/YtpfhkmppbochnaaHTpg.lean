/- The document's: the same holders? Of two that are alike (by genTpf.py, out of XAy). -/
import Derived.Deep.RegionHeld
import Derived.Test.YtpfhkmppbochnaaHTpf
import Derived.Test.YtpfhkmppbochnaaHFr
namespace Go.Proofs.Ytpfhkmppbochnaa
open Go.RowKit
set_option linter.unusedVariables false
set_option linter.unusedSimpArgs false

theorem rng_fr14 {α : Type} {E : Elt α} {w : World} {A : Option Addr} {n : Nat} {l : List α} (h : E.Rd w A n l) {k : Nat} {x : α} (hx : l[k]? = some x) : ∃ b o, A = some ⟨b, o, none⟩ ∧ ∀ U, Fr (fun _ : Nat => False) w U → U.rangeAt b (o + k * E.N) (E.cells x) := by
  obtain ⟨b, o, e, _⟩ := grd_rng h hx
  refine ⟨b, o, e, fun U f => ?_⟩
  obtain ⟨b2, o2, e2, r⟩ := grd_rng (grd_below h f.out (Nat.le_refl _)) hx
  rw [e] at e2
  cases e2
  exact r
set_option maxRecDepth 100000 in
set_option maxHeartbeats 4000000 in
theorem rsame14 (A A' : Option Addr) (m c c' : Nat) (f : List Ho) (w : World) (h : EH.Rd w A m f) (h' : EH.Rd w A' m f) (ok : ∀ t, t ∈ f → t.ok) (hm : m ≤ maxLen) :
    Calls Try.prog 10 #[.slice A m c, .slice A' m c'] w fun e w' => e = .returned (.bool true) ∧ Fr (fun _ : Nat => False) w w' := by
  have HA := Lib.hid h
  have HB := Lib.hid h'
  have HL := Lib.hid h.1
  have HOK := Lib.hid ok
  unfold maxLen at hm
  clear h h' ok
  go_enter Try.func10, Try.ntmps10
  go_wp2_with fail
  go_loopw [5] (fun vi wr => ∃ j : Nat, j ≤ m ∧ vi = .int .i64 j ∧ Fr (fun _ : Nat => False) w wr) (fun vi _ => m - (intOf vi).toNat)
  case atStart => exact ⟨0, Nat.zero_le _, rfl, Fr.refl _ _⟩
  case round =>
    obtain ⟨j, hj, rfl, hf⟩ := hrel
    have F1 := Lib.hid hf
    clear hf
    by_cases hlt : j < m
    case neg =>
      obtain rfl : j = m := by omega
      go_wp2_with fail
      go_ret
      exact ⟨rfl, F1.out⟩
    case pos =>
      have hd : decide ((j : Int) < (m : Int)) = true := decide_eq_true (by omega)
      have hjm : (j : Int) < (m : Int) := by omega
      have hlen : j < f.length := by have := HL.out; omega
      obtain ⟨t, ht⟩ : ∃ t, f[j]? = some t := ⟨f[j], List.getElem?_eq_getElem hlen⟩
      obtain ⟨b1, o1, rfl, la⟩ := rng_fr14 HA.out ht
      obtain ⟨b2, o2, rfl, lb⟩ := rng_fr14 HB.out ht
      have LA := Lib.hid la
      have LB := Lib.hid lb
      have OKT := Lib.hid (HOK.out t (List.mem_of_getElem? ht))
      have ey := eqHo14_yes t
      clear ht la lb hlen
      go_wp2_with fail
      refine wp_region_held_drew (S := fun U => Fr (fun _ : Nat => False) w U) (by kernel_rfl) (F1.out.drewN 1) (fun hH => ?_)
      refine wpAnyH_take (i := 0) (v := .slice (some ⟨b1, o1, none⟩) m c) rfl (by kernel_rfl) (by kernel_rfl) (by kernel_rfl) (fun _ _ _ h => h) (.inl ⟨by rfl, ?_⟩) (by assumption) ?_
      · intro W hW; go_simp
      try simp only [List.getElem_toArray, List.getElem_cons_zero, Act.put, List.setIfInBounds_toArray, List.set_cons_zero, List.set_cons_succ]
      refine wpAnyH_take (i := 1) (v := .int .i64 j) rfl (by kernel_rfl) (by kernel_rfl) (by kernel_rfl) (fun _ _ _ h => h) (.inl ⟨by rfl, ?_⟩) (by assumption) ?_
      · intro W hW; go_simp
      try simp only [List.getElem_toArray, List.getElem_cons_zero, List.getElem_cons_succ, Act.put, List.setIfInBounds_toArray, List.set_cons_zero, List.set_cons_succ]
      refine wpAnyH_take (i := 2) (v := .pointer (some ⟨b1, o1 + j * 2, none⟩)) rfl (by kernel_rfl) (by kernel_rfl) (by kernel_rfl) (fun _ _ _ h => h) (.inl ⟨by rfl, ?_⟩) (by assumption) ?_
      · intro W hW; go_simp
      try simp only [List.getElem_toArray, List.getElem_cons_zero, List.getElem_cons_succ, Act.put, List.setIfInBounds_toArray, List.set_cons_zero, List.set_cons_succ]
      refine wpAnyH_take (i := 3) (v := .agg (EH.cells t).toArray) rfl (by kernel_rfl) (by kernel_rfl) (by kernel_rfl) (fun _ _ _ h => h) (gyields_load TH (by rfl) (.tmp 19) rfl b1 (o1 + j * 2) rfl (fun U hU => LA.out U hU)) (by assumption) ?_
      try simp only [List.getElem_toArray, List.getElem_cons_zero, List.getElem_cons_succ, Act.put, List.setIfInBounds_toArray, List.set_cons_zero, List.set_cons_succ]
      refine wpAnyH_take (i := 4) (v := .slice (some ⟨b2, o2, none⟩) m c') rfl (by kernel_rfl) (by kernel_rfl) (by kernel_rfl) (fun _ _ _ h => h) (.inl ⟨by rfl, ?_⟩) (by assumption) ?_
      · intro W hW; go_simp
      try simp only [List.getElem_toArray, List.getElem_cons_zero, List.getElem_cons_succ, Act.put, List.setIfInBounds_toArray, List.set_cons_zero, List.set_cons_succ]
      refine wpAnyH_take (i := 5) (v := .int .i64 j) rfl (by kernel_rfl) (by kernel_rfl) (by kernel_rfl) (fun _ _ _ h => h) (.inl ⟨by rfl, ?_⟩) (by assumption) ?_
      · intro W hW; go_simp
      try simp only [List.getElem_toArray, List.getElem_cons_zero, List.getElem_cons_succ, Act.put, List.setIfInBounds_toArray, List.set_cons_zero, List.set_cons_succ]
      refine wpAnyH_take (i := 6) (v := .pointer (some ⟨b2, o2 + j * 2, none⟩)) rfl (by kernel_rfl) (by kernel_rfl) (by kernel_rfl) (fun _ _ _ h => h) (.inl ⟨by rfl, ?_⟩) (by assumption) ?_
      · intro W hW; go_simp
      try simp only [List.getElem_toArray, List.getElem_cons_zero, List.getElem_cons_succ, Act.put, List.setIfInBounds_toArray, List.set_cons_zero, List.set_cons_succ]
      refine wpAnyH_take (i := 7) (v := .agg (EH.cells t).toArray) rfl (by kernel_rfl) (by kernel_rfl) (by kernel_rfl) (fun _ _ _ h => h) (gyields_load TH (by rfl) (.tmp 23) rfl b2 (o2 + j * 2) rfl (fun U hU => LB.out U hU)) (by assumption) ?_
      try simp only [List.getElem_toArray, List.getElem_cons_zero, List.getElem_cons_succ, Act.put, List.setIfInBounds_toArray, List.set_cons_zero, List.set_cons_succ]
      refine wpAnyH_take (i := 8) (v := .bool !(eqHo14 t t)) rfl (by kernel_rfl) (by kernel_rfl) (by kernel_rfl) (fun _ _ _ h => h) (yields_neq_ho14 (by rfl) _ _ rfl OKT.out OKT.out rfl rfl) (by assumption) ?_
      try simp only [List.getElem_toArray, List.getElem_cons_zero, List.getElem_cons_succ, Act.put, List.setIfInBounds_toArray, List.set_cons_zero, List.set_cons_succ]
      refine wpAnyH_done (by decide +kernel) ?_ _
      rw [ey]
      go_wp2_with fail
      go_roundw
      case rel => exact ⟨j + 1, hlt, by go_num, hH⟩
      case measure => simp [intOf]; omega
end Go.Proofs.Ytpfhkmppbochnaa
