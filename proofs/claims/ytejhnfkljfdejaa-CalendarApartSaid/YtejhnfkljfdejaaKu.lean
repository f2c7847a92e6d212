/- Contracts of the calls of the document's plain calendar: Expire (by genX5.py). -/
import Derived.Test.YtejhnfkljfdejaaKt
import Derived.Test.YtejhnfkljfdejaaKs
namespace Go.Proofs.Ytejhnfkljfdejaa
open Go.RowKit

theorem due_cases (d : Int) (cs : List Ct) (nu : Int) : (dueA d cs nu ≠ 0 ∧ expC d cs nu = cs) ∨ ∃ (k : Nat) (x : Ct), dueA d cs nu = 0 ∧ placeC cs nu = some k ∧ cs[k]? = some x ∧ expC d cs nu = cs.set k ⟨x.sp, 3, x.pr⟩ := by
  by_cases h : dueA d cs nu = 0
  · right
    have q := al_cases cs nu
    have h2 := h
    unfold dueA at h
    unfold expC
    simp only [if_pos h2]
    generalize alC cs nu = al at q h ⊢
    cases q with
    | none h0 => exact absurd h (show ¬ (7 : Int) = 0 by decide)
    | gone h0 hx hn hs => exact absurd h (show ¬ (50 : Int) = 0 by decide)
    | @here k x h0 hx hn hs => exact ⟨k, x, h2, h0, hx, rfl⟩
  · left
    refine ⟨h, ?_⟩
    unfold expC
    simp only [if_neg h]
    split <;> rfl
set_option maxRecDepth 100000 in
set_option maxHeartbeats 1000000 in
theorem rexpire_any (B g : Nat) (v : Value) (d : Int) (cs : List Ct) (nu : Int) (w : World) (h : Rc w B g v d cs) (hnu : 0 ≤ nu ∧ nu ≤ 4294967295) :
    Calls Try.prog 21 #[.pointer (some ⟨g, 0, none⟩), .int .u32 nu] w fun e w' => e = .returned (.int .i64 (dueA d cs nu)) ∧ Rc w' B g v d (expC d cs nu) ∧ Fr (RcS g v) w w' := by
  have P := rdue_any B g v d cs nu w h hnu
  rcases due_cases d cs nu with ⟨h0, he⟩ | ⟨p, x, h0, hp, hx, he⟩
  · have h1 : (dueA d cs nu == 0) = false := beq_eq_false_iff_ne.2 h0
    rw [he]
    clear h he
    generalize dueA d cs nu = r at *
    clear h0
    go_enter Try.func21, Try.ntmps21
    go_wp2_with fail
    refine P.mono ?_; rintro e w1 ⟨rfl, q⟩
    have Q := Lib.hid q
    clear q P
    go_wp2_with fail
    go_ret
    exact ⟨rfl, Q.out.1, Q.out.2.mono fun _ h => h.elim⟩
  · have hk := (List.getElem?_eq_some_iff.1 hx).1
    obtain ⟨b, c, rfl⟩ := h.slot hk
    have hl := h.le
    have hp1 : (p : Int) < (cs.length : Int) := by omega
    have HX := Lib.hid hx
    rw [he, h0]
    rw [h0] at P
    generalize hl2 : cs.length = n at *
    clear h he h0 hx hl2
    go_enter Try.func21, Try.ntmps21
    go_wp2_with fail
    refine P.mono ?_; rintro e w1 ⟨rfl, q1, q2⟩
    have hR : Rc w1.drew B g (.slice (some ⟨b, 0, none⟩) n c) d cs := q1.drewN 1
    have hF : Fr (fun _ => False) w w1.drew := q2.drewN 1
    have PP := Lib.hid (rplace_any B g _ d cs nu w1.drew hR hnu)
    rw [placeI_some hp] at PP
    have HS : Hid (w1.drew.cell? ⟨g, 1, none⟩ = some (.slice (some ⟨b, 0, none⟩) n c)) := Lib.hid hR.c1
    have hgb : b ≠ g := hR.apart b rfl
    have hfz := hR.fzr (p * 27 + 25)
    have hcl := hR.at HX.out (i := 25) (by omega)
    rw [Ct.c25 (hR.sh x (List.mem_of_getElem? HX.out))] at hcl
    have R2 := hR.put (fun e => hgb e.symm) HX.out (by omega) (Ct.set25 (hR.sh x (List.mem_of_getElem? HX.out)) 3) (st_ok (hR.ok x (List.mem_of_getElem? HX.out)) (by decide))
    have HR2 := Lib.hid R2
    have HS2 : Hid ((w1.drew.setCell ⟨b, p * 27 + 25, none⟩ (.int .u8 3)).cell? ⟨g, 1, none⟩ = some (.slice (some ⟨b, 0, none⟩) n c)) := Lib.hid R2.c1
    have HF := Lib.hid hF
    obtain ⟨nu1, nu2⟩ := hnu
    clear q1 q2 P hF hR R2 hp
    go_wp2_with fail
    refine wp_region_held_drew (S := fun U => U.cell? ⟨g, 1, none⟩ = some (.slice (some ⟨b, 0, none⟩) n c)) (by kernel_rfl) HS.out (fun hH => ?_)
    refine wpAnyH_take (i := 0) (v := .pointer (some ⟨g, 0, none⟩)) rfl (by kernel_rfl) (by kernel_rfl) (by kernel_rfl) (fun _ _ _ h => h) (.inl ⟨by rfl, ?_⟩) (by assumption) ?_
    · intro W hW; go_simp
    try simp only [List.getElem_toArray, List.getElem_cons_zero, Act.put, List.setIfInBounds_toArray, List.set_cons_zero, List.set_cons_succ]
    refine wpAnyH_take (i := 1) (v := .pointer (some ⟨g, 0, none⟩)) rfl (by kernel_rfl) (by kernel_rfl) (by kernel_rfl) (fun _ _ _ h => h) (.inl ⟨by rfl, ?_⟩) (by assumption) ?_
    · intro W hW; go_simp
    try simp only [List.getElem_toArray, List.getElem_cons_zero, List.getElem_cons_succ, Act.put, List.setIfInBounds_toArray, List.set_cons_zero, List.set_cons_succ]
    refine wpAnyH_take (i := 2) (v := .pointer (some ⟨g, 1, none⟩)) rfl (by kernel_rfl) (by kernel_rfl) (by kernel_rfl) (fun _ _ _ h => h) (.inl ⟨by rfl, ?_⟩) (by assumption) ?_
    · intro W hW; go_simp
    try simp only [List.getElem_toArray, List.getElem_cons_zero, List.getElem_cons_succ, Act.put, List.setIfInBounds_toArray, List.set_cons_zero, List.set_cons_succ]
    refine wpAnyH_take (i := 3) (v := .slice (some ⟨b, 0, none⟩) n c) rfl (by kernel_rfl) (by kernel_rfl) (by kernel_rfl) (fun _ _ _ h => h) (.inl ⟨by rfl, ?_⟩) (by assumption) ?_
    · intro W hW; have k9 := hW; go_simp
    try simp only [List.getElem_toArray, List.getElem_cons_zero, List.getElem_cons_succ, Act.put, List.setIfInBounds_toArray, List.set_cons_zero, List.set_cons_succ]
    refine wpAnyH_take (i := 4) (v := .pointer (some ⟨g, 0, none⟩)) rfl (by kernel_rfl) (by kernel_rfl) (by kernel_rfl) (fun _ _ _ h => h) (.inl ⟨by rfl, ?_⟩) (by assumption) ?_
    · intro W hW; go_simp
    try simp only [List.getElem_toArray, List.getElem_cons_zero, List.getElem_cons_succ, Act.put, List.setIfInBounds_toArray, List.set_cons_zero, List.set_cons_succ]
    refine wpAnyH_take (i := 5) (v := .int .u32 nu) rfl (by kernel_rfl) (by kernel_rfl) (by kernel_rfl) (fun _ _ _ h => h) (.inl ⟨by rfl, ?_⟩) (by assumption) ?_
    · intro W hW; go_simp
    try simp only [List.getElem_toArray, List.getElem_cons_zero, List.getElem_cons_succ, Act.put, List.setIfInBounds_toArray, List.set_cons_zero, List.set_cons_succ]
    refine wpAnyH_ready (rs := [6]) (by decide +kernel) (by simp) (AllReadyH.cons rfl (fun KQ hK => ?_) AllReadyH.nil)
    go_simp
    refine PP.out.mono ?_; rintro e0 W1 ⟨rfl, rfl⟩
    refine hK.out _ _ hH (fun _ => ?_)
    clear hK
    try simp only [List.setIfInBounds_toArray, List.set_cons_zero, List.set_cons_succ]
    refine wpAnyH_take (i := 7) (v := .pointer (some ⟨b, p * 27, none⟩)) rfl (by kernel_rfl) (by kernel_rfl) (by kernel_rfl) (fun _ _ _ h => h) (.inl ⟨by rfl, ?_⟩) (by assumption) ?_
    · intro W hW; go_simp
    try simp only [List.getElem_toArray, List.getElem_cons_zero, List.getElem_cons_succ, Act.put, List.setIfInBounds_toArray, List.set_cons_zero, List.set_cons_succ]
    refine wpAnyH_take (i := 8) (v := .pointer (some ⟨b, p * 27 + 25, none⟩)) rfl (by kernel_rfl) (by kernel_rfl) (by kernel_rfl) (fun _ _ _ h => h) (.inl ⟨by rfl, ?_⟩) (by assumption) ?_
    · intro W hW; go_simp
    try simp only [List.getElem_toArray, List.getElem_cons_zero, List.getElem_cons_succ, Act.put, List.setIfInBounds_toArray, List.set_cons_zero, List.set_cons_succ]
    refine wpAnyH_ready (rs := [9]) (by decide +kernel) (by simp) (AllReadyH.cons rfl (fun KQ hK => ?_) AllReadyH.nil)
    go_simp
    refine hK.out _ _ HS2.out (fun _ => ?_)
    clear hK
    try simp only [List.setIfInBounds_toArray, List.set_cons_zero, List.set_cons_succ]
    refine wpAnyH_done (by decide +kernel) ?_ _
    go_wp2_with fail
    go_ret
    exact ⟨rfl, HR2.out, (HF.out.mono fun _ h => h.elim).same (Fr.set (.inr rfl) _)⟩
end Go.Proofs.Ytejhnfkljfdejaa
