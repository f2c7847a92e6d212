/- The document's ReadCommand (by genWdn.py). -/
import Derived.Test.YtbmlpokkojhhjaaG11
import Derived.Test.YtbmlpokkojhhjaaG12
namespace Go.Proofs.Ytbmlpokkojhhjaa.Wt
open Go.RowKit Go.Shelf
set_option linter.unusedVariables false
set_option linter.unusedSimpArgs false

theorem built_kd15 (v : Int) : Program.built Try.prog 30 [(0, .int .u8 v)] = some (ECm.cells { zeroCm with kd := v }).toArray := by kernel_rfl

theorem zero_no15 (v : Int) : ∀ i, i < 10 → noF { zeroCm with kd := v } i := by
  intro i hi
  match i, hi with
  | 0, _ => rfl
  | 1, _ => rfl
  | 2, _ => rfl
  | 3, _ => rfl
  | 4, _ => rfl
  | 5, _ => rfl
  | 6, _ => rfl
  | 7, _ => rfl
  | 8, _ => rfl
  | 9, _ => rfl
theorem zeroCm_ok15 {v : Int} (h : 0 ≤ v ∧ v ≤ 255) : ({ zeroCm with kd := v } : Cm).ok := by
  refine ⟨h, ?_, ?_, ?_, ?_, zeroSp_ok15, ?_, ?_, ?_⟩ <;> simp [zeroCm, I64]
theorem step0_15 {bs0 b b' : List Int} {c : Cm} {e e' v : Int} {k : Nat} (h : PC bs0 c b e k) (hi : (flds c.kd)[k]? = some 0) (hr : sR b e 4294967295 = (v, b', e')) : PC bs0 { c with ac := v } b' e' (k + 1) :=
  h.step hi rfl (fun j hj hne d => by
    match j, hj with
    | 0, _ => first | exact fun h => h | exact absurd rfl hne
    | 1, _ => first | exact fun h => h | exact absurd rfl hne
    | 2, _ => first | exact fun h => h | exact absurd rfl hne
    | 3, _ => first | exact fun h => h | exact absurd rfl hne
    | 4, _ => first | exact fun h => h | exact absurd rfl hne
    | 5, _ => first | exact fun h => h | exact absurd rfl hne
    | 6, _ => first | exact fun h => h | exact absurd rfl hne
    | 7, _ => first | exact fun h => h | exact absurd rfl hne
    | 8, _ => first | exact fun h => h | exact absurd rfl hne
    | 9, _ => first | exact fun h => h | exact absurd rfl hne
  ) (fun j hj hne => by
    match j, hj with
    | 0, _ => first | exact fun h => h | exact absurd rfl hne
    | 1, _ => first | exact fun h => h | exact absurd rfl hne
    | 2, _ => first | exact fun h => h | exact absurd rfl hne
    | 3, _ => first | exact fun h => h | exact absurd rfl hne
    | 4, _ => first | exact fun h => h | exact absurd rfl hne
    | 5, _ => first | exact fun h => h | exact absurd rfl hne
    | 6, _ => first | exact fun h => h | exact absurd rfl hne
    | 7, _ => first | exact fun h => h | exact absurd rfl hne
    | 8, _ => first | exact fun h => h | exact absurd rfl hne
    | 9, _ => first | exact fun h => h | exact absurd rfl hne
  ) fun d r ok _ he hb => by
    subst he hb
    have bd := ok.ac
    have q := sR_form (n := d.ac.toNat) (by omega) (most := 4294967295) (by omega) r
    rw [show nb d.ac.toNat ++ r = fF d 0 ++ r from rfl, hr] at q
    simp only [Prod.mk.injEq] at q
    exact ⟨q.2.1, q.2.2, by show v = d.ac; omega⟩
theorem step1_15 {bs0 b b' : List Int} {c : Cm} {e e' v : Int} {k : Nat} (h : PC bs0 c b e k) (hi : (flds c.kd)[k]? = some 1) (hr : sR b e 4294967295 = (v, b', e')) : PC bs0 { c with ct := v } b' e' (k + 1) :=
  h.step hi rfl (fun j hj hne d => by
    match j, hj with
    | 0, _ => first | exact fun h => h | exact absurd rfl hne
    | 1, _ => first | exact fun h => h | exact absurd rfl hne
    | 2, _ => first | exact fun h => h | exact absurd rfl hne
    | 3, _ => first | exact fun h => h | exact absurd rfl hne
    | 4, _ => first | exact fun h => h | exact absurd rfl hne
    | 5, _ => first | exact fun h => h | exact absurd rfl hne
    | 6, _ => first | exact fun h => h | exact absurd rfl hne
    | 7, _ => first | exact fun h => h | exact absurd rfl hne
    | 8, _ => first | exact fun h => h | exact absurd rfl hne
    | 9, _ => first | exact fun h => h | exact absurd rfl hne
  ) (fun j hj hne => by
    match j, hj with
    | 0, _ => first | exact fun h => h | exact absurd rfl hne
    | 1, _ => first | exact fun h => h | exact absurd rfl hne
    | 2, _ => first | exact fun h => h | exact absurd rfl hne
    | 3, _ => first | exact fun h => h | exact absurd rfl hne
    | 4, _ => first | exact fun h => h | exact absurd rfl hne
    | 5, _ => first | exact fun h => h | exact absurd rfl hne
    | 6, _ => first | exact fun h => h | exact absurd rfl hne
    | 7, _ => first | exact fun h => h | exact absurd rfl hne
    | 8, _ => first | exact fun h => h | exact absurd rfl hne
    | 9, _ => first | exact fun h => h | exact absurd rfl hne
  ) fun d r ok _ he hb => by
    subst he hb
    have bd := ok.ct
    have q := sR_form (n := d.ct.toNat) (by omega) (most := 4294967295) (by omega) r
    rw [show nb d.ct.toNat ++ r = fF d 1 ++ r from rfl, hr] at q
    simp only [Prod.mk.injEq] at q
    exact ⟨q.2.1, q.2.2, by show v = d.ct; omega⟩
theorem step2_15 {bs0 b b' : List Int} {c : Cm} {e e' v : Int} {k : Nat} (h : PC bs0 c b e k) (hi : (flds c.kd)[k]? = some 2) (hr : sR b e top = (v, b', e')) : PC bs0 { c with nu := v } b' e' (k + 1) :=
  h.step hi rfl (fun j hj hne d => by
    match j, hj with
    | 0, _ => first | exact fun h => h | exact absurd rfl hne
    | 1, _ => first | exact fun h => h | exact absurd rfl hne
    | 2, _ => first | exact fun h => h | exact absurd rfl hne
    | 3, _ => first | exact fun h => h | exact absurd rfl hne
    | 4, _ => first | exact fun h => h | exact absurd rfl hne
    | 5, _ => first | exact fun h => h | exact absurd rfl hne
    | 6, _ => first | exact fun h => h | exact absurd rfl hne
    | 7, _ => first | exact fun h => h | exact absurd rfl hne
    | 8, _ => first | exact fun h => h | exact absurd rfl hne
    | 9, _ => first | exact fun h => h | exact absurd rfl hne
  ) (fun j hj hne => by
    match j, hj with
    | 0, _ => first | exact fun h => h | exact absurd rfl hne
    | 1, _ => first | exact fun h => h | exact absurd rfl hne
    | 2, _ => first | exact fun h => h | exact absurd rfl hne
    | 3, _ => first | exact fun h => h | exact absurd rfl hne
    | 4, _ => first | exact fun h => h | exact absurd rfl hne
    | 5, _ => first | exact fun h => h | exact absurd rfl hne
    | 6, _ => first | exact fun h => h | exact absurd rfl hne
    | 7, _ => first | exact fun h => h | exact absurd rfl hne
    | 8, _ => first | exact fun h => h | exact absurd rfl hne
    | 9, _ => first | exact fun h => h | exact absurd rfl hne
  ) fun d r ok _ he hb => by
    subst he hb
    have bd := ok.nu
    have q := sR_form (n := d.nu.toNat) (by omega) (most := top) (by unfold top; omega) r
    rw [show nb d.nu.toNat ++ r = fF d 2 ++ r from rfl, hr] at q
    simp only [Prod.mk.injEq] at q
    exact ⟨q.2.1, q.2.2, by show v = d.nu; omega⟩
theorem step3_15 {bs0 b b' : List Int} {c : Cm} {e e' v : Int} {k : Nat} (h : PC bs0 c b e k) (hi : (flds c.kd)[k]? = some 3) (hr : iR b e = (v, b', e')) : PC bs0 { c with am := v } b' e' (k + 1) :=
  h.step hi rfl (fun j hj hne d => by
    match j, hj with
    | 0, _ => first | exact fun h => h | exact absurd rfl hne
    | 1, _ => first | exact fun h => h | exact absurd rfl hne
    | 2, _ => first | exact fun h => h | exact absurd rfl hne
    | 3, _ => first | exact fun h => h | exact absurd rfl hne
    | 4, _ => first | exact fun h => h | exact absurd rfl hne
    | 5, _ => first | exact fun h => h | exact absurd rfl hne
    | 6, _ => first | exact fun h => h | exact absurd rfl hne
    | 7, _ => first | exact fun h => h | exact absurd rfl hne
    | 8, _ => first | exact fun h => h | exact absurd rfl hne
    | 9, _ => first | exact fun h => h | exact absurd rfl hne
  ) (fun j hj hne => by
    match j, hj with
    | 0, _ => first | exact fun h => h | exact absurd rfl hne
    | 1, _ => first | exact fun h => h | exact absurd rfl hne
    | 2, _ => first | exact fun h => h | exact absurd rfl hne
    | 3, _ => first | exact fun h => h | exact absurd rfl hne
    | 4, _ => first | exact fun h => h | exact absurd rfl hne
    | 5, _ => first | exact fun h => h | exact absurd rfl hne
    | 6, _ => first | exact fun h => h | exact absurd rfl hne
    | 7, _ => first | exact fun h => h | exact absurd rfl hne
    | 8, _ => first | exact fun h => h | exact absurd rfl hne
    | 9, _ => first | exact fun h => h | exact absurd rfl hne
  ) fun d r ok _ he hb => by
    subst he hb
    have q := iR_form ok.am r
    rw [show ib d.am ++ r = fF d 3 ++ r from rfl, hr] at q
    simp only [Prod.mk.injEq] at q
    exact ⟨q.2.1, q.2.2, q.1⟩
theorem step4_15 {bs0 b b' : List Int} {c : Cm} {e e' : Int} {s : Sp} {k : Nat} (h : PC bs0 c b e k) (hi : (flds c.kd)[k]? = some 4) (hs : s.sh.length = 16) (hr : ∀ sp r, sp.ok → mayB sp = true → e = 0 → b = form sp ++ r → s = sp ∧ b' = r ∧ e' = 0) : PC bs0 { c with sp := s, len := hs } b' e' (k + 1) :=
  h.step hi rfl (fun j hj hne d => by
    match j, hj with
    | 0, _ => first | exact fun h => h | exact absurd rfl hne
    | 1, _ => first | exact fun h => h | exact absurd rfl hne
    | 2, _ => first | exact fun h => h | exact absurd rfl hne
    | 3, _ => first | exact fun h => h | exact absurd rfl hne
    | 4, _ => first | exact fun h => h | exact absurd rfl hne
    | 5, _ => first | exact fun h => h | exact absurd rfl hne
    | 6, _ => first | exact fun h => h | exact absurd rfl hne
    | 7, _ => first | exact fun h => h | exact absurd rfl hne
    | 8, _ => first | exact fun h => h | exact absurd rfl hne
    | 9, _ => first | exact fun h => h | exact absurd rfl hne
  ) (fun j hj hne => by
    match j, hj with
    | 0, _ => first | exact fun h => h | exact absurd rfl hne
    | 1, _ => first | exact fun h => h | exact absurd rfl hne
    | 2, _ => first | exact fun h => h | exact absurd rfl hne
    | 3, _ => first | exact fun h => h | exact absurd rfl hne
    | 4, _ => first | exact fun h => h | exact absurd rfl hne
    | 5, _ => first | exact fun h => h | exact absurd rfl hne
    | 6, _ => first | exact fun h => h | exact absurd rfl hne
    | 7, _ => first | exact fun h => h | exact absurd rfl hne
    | 8, _ => first | exact fun h => h | exact absurd rfl hne
    | 9, _ => first | exact fun h => h | exact absurd rfl hne
  ) fun d r ok hm he hb => by
    have q := hr d.sp r ok.sp (hm rfl) he hb
    exact ⟨q.2.1, q.2.2, q.1⟩
theorem step5_15 {bs0 b b' : List Int} {c : Cm} {e e' : Int} {v : Bool} {k : Nat} (h : PC bs0 c b e k) (hi : (flds c.kd)[k]? = some 5) (hr : fR b e = (v, b', e')) : PC bs0 { c with on := v } b' e' (k + 1) :=
  h.step hi rfl (fun j hj hne d => by
    match j, hj with
    | 0, _ => first | exact fun h => h | exact absurd rfl hne
    | 1, _ => first | exact fun h => h | exact absurd rfl hne
    | 2, _ => first | exact fun h => h | exact absurd rfl hne
    | 3, _ => first | exact fun h => h | exact absurd rfl hne
    | 4, _ => first | exact fun h => h | exact absurd rfl hne
    | 5, _ => first | exact fun h => h | exact absurd rfl hne
    | 6, _ => first | exact fun h => h | exact absurd rfl hne
    | 7, _ => first | exact fun h => h | exact absurd rfl hne
    | 8, _ => first | exact fun h => h | exact absurd rfl hne
    | 9, _ => first | exact fun h => h | exact absurd rfl hne
  ) (fun j hj hne => by
    match j, hj with
    | 0, _ => first | exact fun h => h | exact absurd rfl hne
    | 1, _ => first | exact fun h => h | exact absurd rfl hne
    | 2, _ => first | exact fun h => h | exact absurd rfl hne
    | 3, _ => first | exact fun h => h | exact absurd rfl hne
    | 4, _ => first | exact fun h => h | exact absurd rfl hne
    | 5, _ => first | exact fun h => h | exact absurd rfl hne
    | 6, _ => first | exact fun h => h | exact absurd rfl hne
    | 7, _ => first | exact fun h => h | exact absurd rfl hne
    | 8, _ => first | exact fun h => h | exact absurd rfl hne
    | 9, _ => first | exact fun h => h | exact absurd rfl hne
  ) fun d r ok _ he hb => by
    subst he hb
    have q := f_fb d.on r
    rw [show fb d.on ++ r = fF d 5 ++ r from rfl, hr] at q
    simp only [Prod.mk.injEq] at q
    exact ⟨q.2.1, q.2.2, q.1⟩
theorem step6_15 {bs0 b b' : List Int} {c : Cm} {e e' : Int} {v : Bool} {k : Nat} (h : PC bs0 c b e k) (hi : (flds c.kd)[k]? = some 6) (hr : fR b e = (v, b', e')) : PC bs0 { c with bu := v } b' e' (k + 1) :=
  h.step hi rfl (fun j hj hne d => by
    match j, hj with
    | 0, _ => first | exact fun h => h | exact absurd rfl hne
    | 1, _ => first | exact fun h => h | exact absurd rfl hne
    | 2, _ => first | exact fun h => h | exact absurd rfl hne
    | 3, _ => first | exact fun h => h | exact absurd rfl hne
    | 4, _ => first | exact fun h => h | exact absurd rfl hne
    | 5, _ => first | exact fun h => h | exact absurd rfl hne
    | 6, _ => first | exact fun h => h | exact absurd rfl hne
    | 7, _ => first | exact fun h => h | exact absurd rfl hne
    | 8, _ => first | exact fun h => h | exact absurd rfl hne
    | 9, _ => first | exact fun h => h | exact absurd rfl hne
  ) (fun j hj hne => by
    match j, hj with
    | 0, _ => first | exact fun h => h | exact absurd rfl hne
    | 1, _ => first | exact fun h => h | exact absurd rfl hne
    | 2, _ => first | exact fun h => h | exact absurd rfl hne
    | 3, _ => first | exact fun h => h | exact absurd rfl hne
    | 4, _ => first | exact fun h => h | exact absurd rfl hne
    | 5, _ => first | exact fun h => h | exact absurd rfl hne
    | 6, _ => first | exact fun h => h | exact absurd rfl hne
    | 7, _ => first | exact fun h => h | exact absurd rfl hne
    | 8, _ => first | exact fun h => h | exact absurd rfl hne
    | 9, _ => first | exact fun h => h | exact absurd rfl hne
  ) fun d r ok _ he hb => by
    subst he hb
    have q := f_fb d.bu r
    rw [show fb d.bu ++ r = fF d 6 ++ r from rfl, hr] at q
    simp only [Prod.mk.injEq] at q
    exact ⟨q.2.1, q.2.2, q.1⟩
theorem step7_15 {bs0 b b' : List Int} {c : Cm} {e e' v : Int} {k : Nat} (h : PC bs0 c b e k) (hi : (flds c.kd)[k]? = some 7) (hr : sR b e 255 = (v, b', e')) : PC bs0 { c with as' := v } b' e' (k + 1) :=
  h.step hi rfl (fun j hj hne d => by
    match j, hj with
    | 0, _ => first | exact fun h => h | exact absurd rfl hne
    | 1, _ => first | exact fun h => h | exact absurd rfl hne
    | 2, _ => first | exact fun h => h | exact absurd rfl hne
    | 3, _ => first | exact fun h => h | exact absurd rfl hne
    | 4, _ => first | exact fun h => h | exact absurd rfl hne
    | 5, _ => first | exact fun h => h | exact absurd rfl hne
    | 6, _ => first | exact fun h => h | exact absurd rfl hne
    | 7, _ => first | exact fun h => h | exact absurd rfl hne
    | 8, _ => first | exact fun h => h | exact absurd rfl hne
    | 9, _ => first | exact fun h => h | exact absurd rfl hne
  ) (fun j hj hne => by
    match j, hj with
    | 0, _ => first | exact fun h => h | exact absurd rfl hne
    | 1, _ => first | exact fun h => h | exact absurd rfl hne
    | 2, _ => first | exact fun h => h | exact absurd rfl hne
    | 3, _ => first | exact fun h => h | exact absurd rfl hne
    | 4, _ => first | exact fun h => h | exact absurd rfl hne
    | 5, _ => first | exact fun h => h | exact absurd rfl hne
    | 6, _ => first | exact fun h => h | exact absurd rfl hne
    | 7, _ => first | exact fun h => h | exact absurd rfl hne
    | 8, _ => first | exact fun h => h | exact absurd rfl hne
    | 9, _ => first | exact fun h => h | exact absurd rfl hne
  ) fun d r ok _ he hb => by
    subst he hb
    have bd := ok.as'
    have q := sR_form (n := d.as'.toNat) (by omega) (most := 255) (by omega) r
    rw [show nb d.as'.toNat ++ r = fF d 7 ++ r from rfl, hr] at q
    simp only [Prod.mk.injEq] at q
    exact ⟨q.2.1, q.2.2, by show v = d.as'; omega⟩
theorem step8_15 {bs0 b b' : List Int} {c : Cm} {e e' v : Int} {k : Nat} (h : PC bs0 c b e k) (hi : (flds c.kd)[k]? = some 8) (hr : iR b e = (v, b', e')) : PC bs0 { c with px := v } b' e' (k + 1) :=
  h.step hi rfl (fun j hj hne d => by
    match j, hj with
    | 0, _ => first | exact fun h => h | exact absurd rfl hne
    | 1, _ => first | exact fun h => h | exact absurd rfl hne
    | 2, _ => first | exact fun h => h | exact absurd rfl hne
    | 3, _ => first | exact fun h => h | exact absurd rfl hne
    | 4, _ => first | exact fun h => h | exact absurd rfl hne
    | 5, _ => first | exact fun h => h | exact absurd rfl hne
    | 6, _ => first | exact fun h => h | exact absurd rfl hne
    | 7, _ => first | exact fun h => h | exact absurd rfl hne
    | 8, _ => first | exact fun h => h | exact absurd rfl hne
    | 9, _ => first | exact fun h => h | exact absurd rfl hne
  ) (fun j hj hne => by
    match j, hj with
    | 0, _ => first | exact fun h => h | exact absurd rfl hne
    | 1, _ => first | exact fun h => h | exact absurd rfl hne
    | 2, _ => first | exact fun h => h | exact absurd rfl hne
    | 3, _ => first | exact fun h => h | exact absurd rfl hne
    | 4, _ => first | exact fun h => h | exact absurd rfl hne
    | 5, _ => first | exact fun h => h | exact absurd rfl hne
    | 6, _ => first | exact fun h => h | exact absurd rfl hne
    | 7, _ => first | exact fun h => h | exact absurd rfl hne
    | 8, _ => first | exact fun h => h | exact absurd rfl hne
    | 9, _ => first | exact fun h => h | exact absurd rfl hne
  ) fun d r ok _ he hb => by
    subst he hb
    have q := iR_form ok.px r
    rw [show ib d.px ++ r = fF d 8 ++ r from rfl, hr] at q
    simp only [Prod.mk.injEq] at q
    exact ⟨q.2.1, q.2.2, q.1⟩
theorem step9_15 {bs0 b b' : List Int} {c : Cm} {e e' v : Int} {k : Nat} (h : PC bs0 c b e k) (hi : (flds c.kd)[k]? = some 9) (hr : iR b e = (v, b', e')) : PC bs0 { c with qt := v } b' e' (k + 1) :=
  h.step hi rfl (fun j hj hne d => by
    match j, hj with
    | 0, _ => first | exact fun h => h | exact absurd rfl hne
    | 1, _ => first | exact fun h => h | exact absurd rfl hne
    | 2, _ => first | exact fun h => h | exact absurd rfl hne
    | 3, _ => first | exact fun h => h | exact absurd rfl hne
    | 4, _ => first | exact fun h => h | exact absurd rfl hne
    | 5, _ => first | exact fun h => h | exact absurd rfl hne
    | 6, _ => first | exact fun h => h | exact absurd rfl hne
    | 7, _ => first | exact fun h => h | exact absurd rfl hne
    | 8, _ => first | exact fun h => h | exact absurd rfl hne
    | 9, _ => first | exact fun h => h | exact absurd rfl hne
  ) (fun j hj hne => by
    match j, hj with
    | 0, _ => first | exact fun h => h | exact absurd rfl hne
    | 1, _ => first | exact fun h => h | exact absurd rfl hne
    | 2, _ => first | exact fun h => h | exact absurd rfl hne
    | 3, _ => first | exact fun h => h | exact absurd rfl hne
    | 4, _ => first | exact fun h => h | exact absurd rfl hne
    | 5, _ => first | exact fun h => h | exact absurd rfl hne
    | 6, _ => first | exact fun h => h | exact absurd rfl hne
    | 7, _ => first | exact fun h => h | exact absurd rfl hne
    | 8, _ => first | exact fun h => h | exact absurd rfl hne
    | 9, _ => first | exact fun h => h | exact absurd rfl hne
  ) fun d r ok _ he hb => by
    subst he hb
    have q := iR_form ok.qt r
    rw [show ib d.qt ++ r = fF d 9 ++ r from rfl, hr] at q
    simp only [Prod.mk.injEq] at q
    exact ⟨q.2.1, q.2.2, q.1⟩
theorem fR_by15 {bs : List Int} (hy : By bs) (e : Int) : By (fR bs e).2.1 ∧ (fR bs e).2.1.length ≤ bs.length := by
  unfold fR
  split
  · exact ⟨hy, Nat.le_refl _⟩
  · split
    · exact ⟨hy, Nat.le_refl _⟩
    · split
      · exact ⟨hy, Nat.le_refl _⟩
      · exact ⟨fun x hx => hy x (List.mem_of_mem_drop hx), by dsimp only; rw [List.length_drop]; omega⟩




















































































































































































































































































































































































































































































































































































































end Go.Proofs.Ytbmlpokkojhhjaa.Wt
