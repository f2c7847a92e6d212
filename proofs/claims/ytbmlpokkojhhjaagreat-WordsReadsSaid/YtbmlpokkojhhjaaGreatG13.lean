/- The document's ReadCommand (by genWdn.py). -/
import Derived.Test.YtbmlpokkojhhjaaGreatG11
import Derived.Test.YtbmlpokkojhhjaaGreatG12
namespace Go.Proofs.YtbmlpokkojhhjaaGreat.Wt
open Go.RowKit Go.Shelf
set_option linter.unusedVariables false
set_option linter.unusedSimpArgs false

theorem built_kd15 (v : Int) : Program.built Tryz.prog 32 [(0, .int .u8 v)] = some (ECm.cells { zeroCm with kd := v }).toArray := by kernel_rfl
theorem built_rd15 (A : Option Addr) (n k : Nat) : Program.built Tryz.prog 63 [(0, .slice A n k)] = some #[.slice A n k, .int .i64 0] := by kernel_rfl
theorem zero_no15 (v : Int) : ∀ i, i < 10 → noF { zeroCm with kd := v } i := by
  intro i hi
  match i, hi with
  | 0, _ => rfl
  | 1, _ => rfl
  | 2, _ => rfl
  | 3, _ => rfl
  | 4, _ => rfl
  | 5, _ => rfl
  | 6, _ => rfl
  | 7, _ => rfl
  | 8, _ => rfl
  | 9, _ => rfl
theorem zeroCm_ok15 {v : Int} (h : 0 ≤ v ∧ v ≤ 255) : ({ zeroCm with kd := v } : Cm).ok := by
  refine ⟨h, ?_, ?_, ?_, ?_, zeroSp_ok15, ?_, ?_, ?_⟩ <;> simp [zeroCm, I64]
theorem step0_15 {bs0 b b' : List Int} {c : Cm} {e e' v : Int} {k : Nat} (h : PC bs0 c b e k) (hi : (flds c.kd)[k]? = some 0) (hr : sR b e 4294967295 = (v, b', e')) : PC bs0 { c with ac := v } b' e' (k + 1) :=
  h.step hi rfl (fun j hj hne d => by
    match j, hj with
    | 0, _ => first | exact fun h => h | exact absurd rfl hne
    | 1, _ => first | exact fun h => h | exact absurd rfl hne
    | 2, _ => first | exact fun h => h | exact absurd rfl hne
    | 3, _ => first | exact fun h => h | exact absurd rfl hne
    | 4, _ => first | exact fun h => h | exact absurd rfl hne
    | 5, _ => first | exact fun h => h | exact absurd rfl hne
    | 6, _ => first | exact fun h => h | exact absurd rfl hne
    | 7, _ => first | exact fun h => h | exact absurd rfl hne
    | 8, _ => first | exact fun h => h | exact absurd rfl hne
    | 9, _ => first | exact fun h => h | exact absurd rfl hne
  ) (fun j hj hne => by
    match j, hj with
    | 0, _ => first | exact fun h => h | exact absurd rfl hne
    | 1, _ => first | exact fun h => h | exact absurd rfl hne
    | 2, _ => first | exact fun h => h | exact absurd rfl hne
    | 3, _ => first | exact fun h => h | exact absurd rfl hne
    | 4, _ => first | exact fun h => h | exact absurd rfl hne
    | 5, _ => first | exact fun h => h | exact absurd rfl hne
    | 6, _ => first | exact fun h => h | exact absurd rfl hne
    | 7, _ => first | exact fun h => h | exact absurd rfl hne
    | 8, _ => first | exact fun h => h | exact absurd rfl hne
    | 9, _ => first | exact fun h => h | exact absurd rfl hne
  ) fun d r ok _ he hb => by
    subst he hb
    have bd := ok.ac
    have q := sR_form (n := d.ac.toNat) (by omega) (most := 4294967295) (by omega) r
    rw [show nb d.ac.toNat ++ r = fF d 0 ++ r from rfl, hr] at q
    simp only [Prod.mk.injEq] at q
    exact ⟨q.2.1, q.2.2, by show v = d.ac; omega⟩
theorem step1_15 {bs0 b b' : List Int} {c : Cm} {e e' v : Int} {k : Nat} (h : PC bs0 c b e k) (hi : (flds c.kd)[k]? = some 1) (hr : sR b e 4294967295 = (v, b', e')) : PC bs0 { c with ct := v } b' e' (k + 1) :=
  h.step hi rfl (fun j hj hne d => by
    match j, hj with
    | 0, _ => first | exact fun h => h | exact absurd rfl hne
    | 1, _ => first | exact fun h => h | exact absurd rfl hne
    | 2, _ => first | exact fun h => h | exact absurd rfl hne
    | 3, _ => first | exact fun h => h | exact absurd rfl hne
    | 4, _ => first | exact fun h => h | exact absurd rfl hne
    | 5, _ => first | exact fun h => h | exact absurd rfl hne
    | 6, _ => first | exact fun h => h | exact absurd rfl hne
    | 7, _ => first | exact fun h => h | exact absurd rfl hne
    | 8, _ => first | exact fun h => h | exact absurd rfl hne
    | 9, _ => first | exact fun h => h | exact absurd rfl hne
  ) (fun j hj hne => by
    match j, hj with
    | 0, _ => first | exact fun h => h | exact absurd rfl hne
    | 1, _ => first | exact fun h => h | exact absurd rfl hne
    | 2, _ => first | exact fun h => h | exact absurd rfl hne
    | 3, _ => first | exact fun h => h | exact absurd rfl hne
    | 4, _ => first | exact fun h => h | exact absurd rfl hne
    | 5, _ => first | exact fun h => h | exact absurd rfl hne
    | 6, _ => first | exact fun h => h | exact absurd rfl hne
    | 7, _ => first | exact fun h => h | exact absurd rfl hne
    | 8, _ => first | exact fun h => h | exact absurd rfl hne
    | 9, _ => first | exact fun h => h | exact absurd rfl hne
  ) fun d r ok _ he hb => by
    subst he hb
    have bd := ok.ct
    have q := sR_form (n := d.ct.toNat) (by omega) (most := 4294967295) (by omega) r
    rw [show nb d.ct.toNat ++ r = fF d 1 ++ r from rfl, hr] at q
    simp only [Prod.mk.injEq] at q
    exact ⟨q.2.1, q.2.2, by show v = d.ct; omega⟩
theorem step2_15 {bs0 b b' : List Int} {c : Cm} {e e' v : Int} {k : Nat} (h : PC bs0 c b e k) (hi : (flds c.kd)[k]? = some 2) (hr : sR b e top = (v, b', e')) : PC bs0 { c with nu := v } b' e' (k + 1) :=
  h.step hi rfl (fun j hj hne d => by
    match j, hj with
    | 0, _ => first | exact fun h => h | exact absurd rfl hne
    | 1, _ => first | exact fun h => h | exact absurd rfl hne
    | 2, _ => first | exact fun h => h | exact absurd rfl hne
    | 3, _ => first | exact fun h => h | exact absurd rfl hne
    | 4, _ => first | exact fun h => h | exact absurd rfl hne
    | 5, _ => first | exact fun h => h | exact absurd rfl hne
    | 6, _ => first | exact fun h => h | exact absurd rfl hne
    | 7, _ => first | exact fun h => h | exact absurd rfl hne
    | 8, _ => first | exact fun h => h | exact absurd rfl hne
    | 9, _ => first | exact fun h => h | exact absurd rfl hne
  ) (fun j hj hne => by
    match j, hj with
    | 0, _ => first | exact fun h => h | exact absurd rfl hne
    | 1, _ => first | exact fun h => h | exact absurd rfl hne
    | 2, _ => first | exact fun h => h | exact absurd rfl hne
    | 3, _ => first | exact fun h => h | exact absurd rfl hne
    | 4, _ => first | exact fun h => h | exact absurd rfl hne
    | 5, _ => first | exact fun h => h | exact absurd rfl hne
    | 6, _ => first | exact fun h => h | exact absurd rfl hne
    | 7, _ => first | exact fun h => h | exact absurd rfl hne
    | 8, _ => first | exact fun h => h | exact absurd rfl hne
    | 9, _ => first | exact fun h => h | exact absurd rfl hne
  ) fun d r ok _ he hb => by
    subst he hb
    have bd := ok.nu
    have q := sR_form (n := d.nu.toNat) (by omega) (most := top) (by unfold top; omega) r
    rw [show nb d.nu.toNat ++ r = fF d 2 ++ r from rfl, hr] at q
    simp only [Prod.mk.injEq] at q
    exact ⟨q.2.1, q.2.2, by show v = d.nu; omega⟩
theorem step3_15 {bs0 b b' : List Int} {c : Cm} {e e' v : Int} {k : Nat} (h : PC bs0 c b e k) (hi : (flds c.kd)[k]? = some 3) (hr : iR b e = (v, b', e')) : PC bs0 { c with am := v } b' e' (k + 1) :=
  h.step hi rfl (fun j hj hne d => by
    match j, hj with
    | 0, _ => first | exact fun h => h | exact absurd rfl hne
    | 1, _ => first | exact fun h => h | exact absurd rfl hne
    | 2, _ => first | exact fun h => h | exact absurd rfl hne
    | 3, _ => first | exact fun h => h | exact absurd rfl hne
    | 4, _ => first | exact fun h => h | exact absurd rfl hne
    | 5, _ => first | exact fun h => h | exact absurd rfl hne
    | 6, _ => first | exact fun h => h | exact absurd rfl hne
    | 7, _ => first | exact fun h => h | exact absurd rfl hne
    | 8, _ => first | exact fun h => h | exact absurd rfl hne
    | 9, _ => first | exact fun h => h | exact absurd rfl hne
  ) (fun j hj hne => by
    match j, hj with
    | 0, _ => first | exact fun h => h | exact absurd rfl hne
    | 1, _ => first | exact fun h => h | exact absurd rfl hne
    | 2, _ => first | exact fun h => h | exact absurd rfl hne
    | 3, _ => first | exact fun h => h | exact absurd rfl hne
    | 4, _ => first | exact fun h => h | exact absurd rfl hne
    | 5, _ => first | exact fun h => h | exact absurd rfl hne
    | 6, _ => first | exact fun h => h | exact absurd rfl hne
    | 7, _ => first | exact fun h => h | exact absurd rfl hne
    | 8, _ => first | exact fun h => h | exact absurd rfl hne
    | 9, _ => first | exact fun h => h | exact absurd rfl hne
  ) fun d r ok _ he hb => by
    subst he hb
    have q := iR_form ok.am r
    rw [show ib d.am ++ r = fF d 3 ++ r from rfl, hr] at q
    simp only [Prod.mk.injEq] at q
    exact ⟨q.2.1, q.2.2, q.1⟩
theorem step4_15 {bs0 b b' : List Int} {c : Cm} {e e' : Int} {s : Sp} {k : Nat} (h : PC bs0 c b e k) (hi : (flds c.kd)[k]? = some 4) (hs : s.sh.length = 16) (hr : ∀ sp r, sp.ok → mayB sp = true → e = 0 → b = form sp ++ r → s = sp ∧ b' = r ∧ e' = 0) : PC bs0 { c with sp := s, len := hs } b' e' (k + 1) :=
  h.step hi rfl (fun j hj hne d => by
    match j, hj with
    | 0, _ => first | exact fun h => h | exact absurd rfl hne
    | 1, _ => first | exact fun h => h | exact absurd rfl hne
    | 2, _ => first | exact fun h => h | exact absurd rfl hne
    | 3, _ => first | exact fun h => h | exact absurd rfl hne
    | 4, _ => first | exact fun h => h | exact absurd rfl hne
    | 5, _ => first | exact fun h => h | exact absurd rfl hne
    | 6, _ => first | exact fun h => h | exact absurd rfl hne
    | 7, _ => first | exact fun h => h | exact absurd rfl hne
    | 8, _ => first | exact fun h => h | exact absurd rfl hne
    | 9, _ => first | exact fun h => h | exact absurd rfl hne
  ) (fun j hj hne => by
    match j, hj with
    | 0, _ => first | exact fun h => h | exact absurd rfl hne
    | 1, _ => first | exact fun h => h | exact absurd rfl hne
    | 2, _ => first | exact fun h => h | exact absurd rfl hne
    | 3, _ => first | exact fun h => h | exact absurd rfl hne
    | 4, _ => first | exact fun h => h | exact absurd rfl hne
    | 5, _ => first | exact fun h => h | exact absurd rfl hne
    | 6, _ => first | exact fun h => h | exact absurd rfl hne
    | 7, _ => first | exact fun h => h | exact absurd rfl hne
    | 8, _ => first | exact fun h => h | exact absurd rfl hne
    | 9, _ => first | exact fun h => h | exact absurd rfl hne
  ) fun d r ok hm he hb => by
    have q := hr d.sp r ok.sp (hm rfl) he hb
    exact ⟨q.2.1, q.2.2, q.1⟩
theorem step5_15 {bs0 b b' : List Int} {c : Cm} {e e' : Int} {v : Bool} {k : Nat} (h : PC bs0 c b e k) (hi : (flds c.kd)[k]? = some 5) (hr : fR b e = (v, b', e')) : PC bs0 { c with on := v } b' e' (k + 1) :=
  h.step hi rfl (fun j hj hne d => by
    match j, hj with
    | 0, _ => first | exact fun h => h | exact absurd rfl hne
    | 1, _ => first | exact fun h => h | exact absurd rfl hne
    | 2, _ => first | exact fun h => h | exact absurd rfl hne
    | 3, _ => first | exact fun h => h | exact absurd rfl hne
    | 4, _ => first | exact fun h => h | exact absurd rfl hne
    | 5, _ => first | exact fun h => h | exact absurd rfl hne
    | 6, _ => first | exact fun h => h | exact absurd rfl hne
    | 7, _ => first | exact fun h => h | exact absurd rfl hne
    | 8, _ => first | exact fun h => h | exact absurd rfl hne
    | 9, _ => first | exact fun h => h | exact absurd rfl hne
  ) (fun j hj hne => by
    match j, hj with
    | 0, _ => first | exact fun h => h | exact absurd rfl hne
    | 1, _ => first | exact fun h => h | exact absurd rfl hne
    | 2, _ => first | exact fun h => h | exact absurd rfl hne
    | 3, _ => first | exact fun h => h | exact absurd rfl hne
    | 4, _ => first | exact fun h => h | exact absurd rfl hne
    | 5, _ => first | exact fun h => h | exact absurd rfl hne
    | 6, _ => first | exact fun h => h | exact absurd rfl hne
    | 7, _ => first | exact fun h => h | exact absurd rfl hne
    | 8, _ => first | exact fun h => h | exact absurd rfl hne
    | 9, _ => first | exact fun h => h | exact absurd rfl hne
  ) fun d r ok _ he hb => by
    subst he hb
    have q := f_fb d.on r
    rw [show fb d.on ++ r = fF d 5 ++ r from rfl, hr] at q
    simp only [Prod.mk.injEq] at q
    exact ⟨q.2.1, q.2.2, q.1⟩
theorem step6_15 {bs0 b b' : List Int} {c : Cm} {e e' : Int} {v : Bool} {k : Nat} (h : PC bs0 c b e k) (hi : (flds c.kd)[k]? = some 6) (hr : fR b e = (v, b', e')) : PC bs0 { c with bu := v } b' e' (k + 1) :=
  h.step hi rfl (fun j hj hne d => by
    match j, hj with
    | 0, _ => first | exact fun h => h | exact absurd rfl hne
    | 1, _ => first | exact fun h => h | exact absurd rfl hne
    | 2, _ => first | exact fun h => h | exact absurd rfl hne
    | 3, _ => first | exact fun h => h | exact absurd rfl hne
    | 4, _ => first | exact fun h => h | exact absurd rfl hne
    | 5, _ => first | exact fun h => h | exact absurd rfl hne
    | 6, _ => first | exact fun h => h | exact absurd rfl hne
    | 7, _ => first | exact fun h => h | exact absurd rfl hne
    | 8, _ => first | exact fun h => h | exact absurd rfl hne
    | 9, _ => first | exact fun h => h | exact absurd rfl hne
  ) (fun j hj hne => by
    match j, hj with
    | 0, _ => first | exact fun h => h | exact absurd rfl hne
    | 1, _ => first | exact fun h => h | exact absurd rfl hne
    | 2, _ => first | exact fun h => h | exact absurd rfl hne
    | 3, _ => first | exact fun h => h | exact absurd rfl hne
    | 4, _ => first | exact fun h => h | exact absurd rfl hne
    | 5, _ => first | exact fun h => h | exact absurd rfl hne
    | 6, _ => first | exact fun h => h | exact absurd rfl hne
    | 7, _ => first | exact fun h => h | exact absurd rfl hne
    | 8, _ => first | exact fun h => h | exact absurd rfl hne
    | 9, _ => first | exact fun h => h | exact absurd rfl hne
  ) fun d r ok _ he hb => by
    subst he hb
    have q := f_fb d.bu r
    rw [show fb d.bu ++ r = fF d 6 ++ r from rfl, hr] at q
    simp only [Prod.mk.injEq] at q
    exact ⟨q.2.1, q.2.2, q.1⟩
theorem step7_15 {bs0 b b' : List Int} {c : Cm} {e e' v : Int} {k : Nat} (h : PC bs0 c b e k) (hi : (flds c.kd)[k]? = some 7) (hr : sR b e 255 = (v, b', e')) : PC bs0 { c with as' := v } b' e' (k + 1) :=
  h.step hi rfl (fun j hj hne d => by
    match j, hj with
    | 0, _ => first | exact fun h => h | exact absurd rfl hne
    | 1, _ => first | exact fun h => h | exact absurd rfl hne
    | 2, _ => first | exact fun h => h | exact absurd rfl hne
    | 3, _ => first | exact fun h => h | exact absurd rfl hne
    | 4, _ => first | exact fun h => h | exact absurd rfl hne
    | 5, _ => first | exact fun h => h | exact absurd rfl hne
    | 6, _ => first | exact fun h => h | exact absurd rfl hne
    | 7, _ => first | exact fun h => h | exact absurd rfl hne
    | 8, _ => first | exact fun h => h | exact absurd rfl hne
    | 9, _ => first | exact fun h => h | exact absurd rfl hne
  ) (fun j hj hne => by
    match j, hj with
    | 0, _ => first | exact fun h => h | exact absurd rfl hne
    | 1, _ => first | exact fun h => h | exact absurd rfl hne
    | 2, _ => first | exact fun h => h | exact absurd rfl hne
    | 3, _ => first | exact fun h => h | exact absurd rfl hne
    | 4, _ => first | exact fun h => h | exact absurd rfl hne
    | 5, _ => first | exact fun h => h | exact absurd rfl hne
    | 6, _ => first | exact fun h => h | exact absurd rfl hne
    | 7, _ => first | exact fun h => h | exact absurd rfl hne
    | 8, _ => first | exact fun h => h | exact absurd rfl hne
    | 9, _ => first | exact fun h => h | exact absurd rfl hne
  ) fun d r ok _ he hb => by
    subst he hb
    have bd := ok.as'
    have q := sR_form (n := d.as'.toNat) (by omega) (most := 255) (by omega) r
    rw [show nb d.as'.toNat ++ r = fF d 7 ++ r from rfl, hr] at q
    simp only [Prod.mk.injEq] at q
    exact ⟨q.2.1, q.2.2, by show v = d.as'; omega⟩
theorem step8_15 {bs0 b b' : List Int} {c : Cm} {e e' v : Int} {k : Nat} (h : PC bs0 c b e k) (hi : (flds c.kd)[k]? = some 8) (hr : iR b e = (v, b', e')) : PC bs0 { c with px := v } b' e' (k + 1) :=
  h.step hi rfl (fun j hj hne d => by
    match j, hj with
    | 0, _ => first | exact fun h => h | exact absurd rfl hne
    | 1, _ => first | exact fun h => h | exact absurd rfl hne
    | 2, _ => first | exact fun h => h | exact absurd rfl hne
    | 3, _ => first | exact fun h => h | exact absurd rfl hne
    | 4, _ => first | exact fun h => h | exact absurd rfl hne
    | 5, _ => first | exact fun h => h | exact absurd rfl hne
    | 6, _ => first | exact fun h => h | exact absurd rfl hne
    | 7, _ => first | exact fun h => h | exact absurd rfl hne
    | 8, _ => first | exact fun h => h | exact absurd rfl hne
    | 9, _ => first | exact fun h => h | exact absurd rfl hne
  ) (fun j hj hne => by
    match j, hj with
    | 0, _ => first | exact fun h => h | exact absurd rfl hne
    | 1, _ => first | exact fun h => h | exact absurd rfl hne
    | 2, _ => first | exact fun h => h | exact absurd rfl hne
    | 3, _ => first | exact fun h => h | exact absurd rfl hne
    | 4, _ => first | exact fun h => h | exact absurd rfl hne
    | 5, _ => first | exact fun h => h | exact absurd rfl hne
    | 6, _ => first | exact fun h => h | exact absurd rfl hne
    | 7, _ => first | exact fun h => h | exact absurd rfl hne
    | 8, _ => first | exact fun h => h | exact absurd rfl hne
    | 9, _ => first | exact fun h => h | exact absurd rfl hne
  ) fun d r ok _ he hb => by
    subst he hb
    have q := iR_form ok.px r
    rw [show ib d.px ++ r = fF d 8 ++ r from rfl, hr] at q
    simp only [Prod.mk.injEq] at q
    exact ⟨q.2.1, q.2.2, q.1⟩
theorem step9_15 {bs0 b b' : List Int} {c : Cm} {e e' v : Int} {k : Nat} (h : PC bs0 c b e k) (hi : (flds c.kd)[k]? = some 9) (hr : iR b e = (v, b', e')) : PC bs0 { c with qt := v } b' e' (k + 1) :=
  h.step hi rfl (fun j hj hne d => by
    match j, hj with
    | 0, _ => first | exact fun h => h | exact absurd rfl hne
    | 1, _ => first | exact fun h => h | exact absurd rfl hne
    | 2, _ => first | exact fun h => h | exact absurd rfl hne
    | 3, _ => first | exact fun h => h | exact absurd rfl hne
    | 4, _ => first | exact fun h => h | exact absurd rfl hne
    | 5, _ => first | exact fun h => h | exact absurd rfl hne
    | 6, _ => first | exact fun h => h | exact absurd rfl hne
    | 7, _ => first | exact fun h => h | exact absurd rfl hne
    | 8, _ => first | exact fun h => h | exact absurd rfl hne
    | 9, _ => first | exact fun h => h | exact absurd rfl hne
  ) (fun j hj hne => by
    match j, hj with
    | 0, _ => first | exact fun h => h | exact absurd rfl hne
    | 1, _ => first | exact fun h => h | exact absurd rfl hne
    | 2, _ => first | exact fun h => h | exact absurd rfl hne
    | 3, _ => first | exact fun h => h | exact absurd rfl hne
    | 4, _ => first | exact fun h => h | exact absurd rfl hne
    | 5, _ => first | exact fun h => h | exact absurd rfl hne
    | 6, _ => first | exact fun h => h | exact absurd rfl hne
    | 7, _ => first | exact fun h => h | exact absurd rfl hne
    | 8, _ => first | exact fun h => h | exact absurd rfl hne
    | 9, _ => first | exact fun h => h | exact absurd rfl hne
  ) fun d r ok _ he hb => by
    subst he hb
    have q := iR_form ok.qt r
    rw [show ib d.qt ++ r = fF d 9 ++ r from rfl, hr] at q
    simp only [Prod.mk.injEq] at q
    exact ⟨q.2.1, q.2.2, q.1⟩
theorem fR_by15 {bs : List Int} (hy : By bs) (e : Int) : By (fR bs e).2.1 ∧ (fR bs e).2.1.length ≤ bs.length := by
  unfold fR
  split
  · exact ⟨hy, Nat.le_refl _⟩
  · split
    · exact ⟨hy, Nat.le_refl _⟩
    · split
      · exact ⟨hy, Nat.le_refl _⟩
      · exact ⟨fun x hx => hy x (List.mem_of_mem_drop hx), by dsimp only; rw [List.length_drop]; omega⟩
set_option maxRecDepth 100000 in
set_option maxHeartbeats 32000000 in
/-- The document's ReadCommand: what any bytes are read as. -/
theorem rrdC15 (A : Option Addr) (n cap : Nat) (bs : List Int) (w : World) (h : RdB w A n bs) (hy : By bs) (hn : n ≤ 20000) (hnc : n ≤ cap) : Calls Tryz.prog 6 #[.slice A n cap] w fun e w' =>
    ∃ (c : Cm) (E : Int), e = .returned (.tuple #[.agg (ECm.cells c).toArray, .int .i64 E]) ∧ (IsC bs c ∧ E = 0 ∨ (∀ d, ¬ IsC bs d) ∧ c = zeroCm ∧ E = 5) ∧ Below w.heap.size w w' := by
  have hzc := zero_cm15
  have NL := Lib.hid h.1
  have b1 : Below w.heap.size w (w.alloc (.cells (ECm.cells zeroCm).toArray 32)) := below_new w _
  obtain ⟨w2, hw2⟩ : ∃ W, (w.alloc (.cells (ECm.cells zeroCm).toArray 32)).alloc (.cells #[.slice A n cap, .int .i64 0] 63) = W := ⟨_, rfl⟩
  have b2 : Below w.heap.size w w2 := by rw [← hw2]; exact b1.alloc b1.size _
  have RQ : Rr w2 (w.heap.size + 1) A n cap bs 0 := ⟨by rw [← hw2]; exact heap_alloc2_new w _ _, h.below b2, hnc⟩
  have RZ : Hid (ECm.Bx 32 w2 w.heap.size zeroCm) := Lib.hid (by rw [← hw2]; exact gbx_below (gbx_new w zeroCm) (below_new _ _))
  have OLD : Hid (∀ a0, A = some a0 → 0 < n → a0.block < w.heap.size) := Lib.hid fun a0 ha h0 => by
    obtain ⟨b, o, e1, hc⟩ := h.2 h0
    have := World.block_lt_of_cell? w _ (hc 0 h0)
    rw [e1] at ha
    cases ha
    exact this
  have HB := Lib.hid fun (W : World) (q : Below w.heap.size w W) => h.below q
  have BY := Lib.hid hy
  have SM := Lib.hid (rsmall_any (w.heap.size + 1) n cap A bs 0 14 w2 RQ hy (by omega))
  have MB := sR_most hy 0 (m := 14) (by decide)
  have NB := Lib.hid (sR_by hy 0 14)
  have QR := Lib.hid RQ
  have B2 := Lib.hid b2
  have HW2 := Lib.hid hw2
  obtain ⟨⟨v, bs1, e1⟩, hr⟩ : ∃ r, sR bs 0 14 = r := ⟨_, rfl⟩
  unfold SmallE at SM
  rw [hr] at SM MB NB
  dsimp only at SM MB NB
  obtain ⟨mb1, mb2⟩ := MB
  have P0 : Hid (PC bs { zeroCm with kd := v } bs1 e1 0) := Lib.hid (PC.start hy hr rfl (zero_no15 v))
  have OK0 : Hid (({ zeroCm with kd := v } : Cm).ok) := Lib.hid (zeroCm_ok15 (by omega))
  have FI := Lib.hid fun w => rfields15 v (by omega) w
  rw [fsB_tx] at FI
  have HLT := Lib.hid (flds_lt v)
  have LL := flds_len v
  clear h hy hw2 b1 b2 RQ hr
  go_enter Tryz.func6, Tryz.ntmps6
  go_wp2_with (rw [HW2.out])
  refine SM.out.mono ?_; rintro en w3 ⟨rfl, d⟩
  have gr := d.2
  have hs3 : w.heap.size + 2 ≤ w3.heap.size := by have := gr.size; have : w2.heap.size = w.heap.size + 2 := by rw [← HW2.out]; simp; 
                                                  omega
  have B3 := Lib.hid (B2.out.grown gr B2.out.size (fun j hj => by cases hj; omega))
  have Z3 : Hid (ECm.Bx 32 w3 w.heap.size zeroCm) := Lib.hid ((gr.block _ (Array.getElem?_eq_some_iff.1 RZ.out).1 (by simp)).trans RZ.out)
  have R3 := Lib.hid d.1
  have X0 : Hid (ECm.Bx 32 (w3.alloc (.cells (ECm.cells zeroCm).toArray 32)) w3.heap.size zeroCm) := Lib.hid (gbx_new w3 _)
  obtain ⟨w4, hw4⟩ : ∃ W, (w3.alloc (.cells (ECm.cells zeroCm).toArray 32)).setRow w3.heap.size (ECm.cells { zeroCm with kd := v }).toArray = W := ⟨_, rfl⟩
  have b4 : Below w3.heap.size w3 w4 := by rw [← hw4]; exact below_row0 (below_new _ _) (Nat.le_refl _)
  have x4 : ECm.Bx 32 w4 w3.heap.size { zeroCm with kd := v } := by rw [← hw4]; exact gbx_set X0.out
  obtain ⟨gc, hgc⟩ : ∃ g, w3.heap.size = g := ⟨_, rfl⟩
  have HGC := Lib.hid hgc
  have T0 : Hid (Tc w gc n A w4 { zeroCm with kd := v } bs1 e1) := Lib.hid (by
    rw [← hgc]
    obtain ⟨A', n', k', rq, hA'⟩ := R3.out
    refine ⟨⟨A', n', k', rq.below b4, fun a ha => ?_⟩, OLD.out, by rw [← NL.out]; exact NB.out.2, by omega, x4, ⟨zeroCm, gbx_below Z3.out b4⟩, B3.out.trans (b4.mono B3.out.size), NB.out.1⟩
    obtain ⟨a, h1, h2⟩ := hA' a ha
    exact ⟨a, h1, h2⟩)
  have k0 : w4.cell? ⟨gc, 0, none⟩ = some (.int .u8 v) := by rw [← hgc]; exact cm_cell15 x4 ((cm_hd _ (i := 0) (by omega)).trans rfl)
  have HW4 := Lib.hid hw4
  clear d gr hs3 hw4 b4 x4 RZ QR R3 Z3 B2 B3 OLD SM NB hgc
  go_wp2_with (first | (refine rwl_store TCm { zeroCm with kd := v } w3.heap.size X0.out rfl rfl ?_; rw [HW4.out, HGC.out]))
  refine (FI.out _).mono ?_; rintro en w5 ⟨rfl, rfl⟩
  clear k0 X0 HW4 HW2 FI
  obtain ⟨L, hL⟩ : ∃ L, flds v = L := ⟨_, rfl⟩
  rw [hL] at HLT LL
  have HL := Lib.hid hL
  have sz := tx_size15 L
  rw [hL]
  obtain ⟨s, hs⟩ : ∃ s, txB (L.map ltr) = s := ⟨_, rfl⟩
  have HS := Lib.hid hs
  rw [hs] at sz ⊢
  clear hL hs
  go_wp2_with fail
  go_loopw [7] (fun i wr => ∃ (k : Nat) (c : Cm) (b : List Int) (e : Int), k ≤ L.length ∧ i = .int .i64 k ∧ Tc w gc n A wr c b e ∧ c.ok ∧ PC bs c b e k ∧ c.kd = v) (fun i _ => L.length - (intOf i).toNat)
  case atStart => exact ⟨0, _, _, _, Nat.zero_le _, rfl, T0.out, OK0.out, P0.out, rfl⟩
  case round =>
    obtain ⟨k, c, b, e, hk, rfl, tc, cok, pc, ckd⟩ := hrel
    have T := Lib.hid tc
    have OK := Lib.hid cok
    have P := Lib.hid pc
    have KD := Lib.hid ckd
    clear tc cok pc ckd T0 OK0 P0
    by_cases hlt : k < L.length
    case pos =>
      obtain ⟨i, hi⟩ : ∃ i, L[k]? = some i := ⟨L[k], List.getElem?_eq_getElem hlt⟩
      have i0 := HLT.out i (List.mem_of_getElem? hi)
      have hki : (k : Int) < (L.length : Int) := by omega
      have hdk : decide ((k : Int) < (L.length : Int)) = true := decide_eq_true hki
      have gx := tx_at15 HS.out hi
      have hks : (k : Int) < (s.size : Int) := by omega
      have hks2 : k < s.size := by omega
      have FC : Hid ((flds c.kd)[k]? = some i) := Lib.hid (by rw [KD.out, HL.out]; exact hi)
      obtain ⟨A9, n9, c9, rq, hA⟩ := T.out.rq
      have hn9 : n9 ≤ 20000 := by have h1 := rq.r.1; have h2 := T.out.len; omega
      have BYb := T.out.by'
      clear hi
      match i, i0 with
      | 0, _ =>
        replace gx : ∀ h : k < s.size, (s[k]'h).toNat = 97 := gx
        have SM := Lib.hid (rsmall_any (w.heap.size + 1) n9 c9 A9 b e 4294967295 _ rq BYb (by omega))
        have MB := sR_most BYb e (m := 4294967295) (by decide)
        have NB := sR_by BYb e 4294967295
        obtain ⟨⟨x, b', e'⟩, hr⟩ : ∃ r, sR b e 4294967295 = r := ⟨_, rfl⟩
        unfold SmallE at SM
        rw [hr] at SM MB NB
        dsimp only at SM MB NB
        obtain ⟨mb3, mb4⟩ := MB
        have PN := Lib.hid (step0_15 P.out FC.out hr)
        clear rq hn9 BYb hr
        go_wp2_with fail
        refine SM.out.mono ?_; rintro en W9 ⟨rfl, d⟩
        have T1 := Lib.hid (T.out.call hA d NB.2 NB.1)
        clear T d SM hA NB
        have hcell : W9.cell? ⟨gc, 1, none⟩ = some (.int .u32 c.ac) := cm_cell15 T1.out.box ((cm_hd c (i := 1) (by omega)).trans rfl)
        have hfree : W9.frozen? ⟨gc, 1, none⟩ = false := gbx_fz T1.out.box _
        have T2 := Lib.hid (T1.out.put (c' := { c with ac := x }) (j := 1) (v := .int .u32 x) (cm_hset (i := 1) (by omega) rfl rfl rfl))
        clear T1
        go_wp2_with fail
        go_roundw
        case rel => exact ⟨k + 1, { c with ac := x }, b', e', hlt, by go_num, T2.out, ⟨OK.out.kd, ⟨mb3, mb4⟩, OK.out.ct, OK.out.nu, OK.out.am, OK.out.sp, OK.out.as', OK.out.px, OK.out.qt⟩, PN.out, KD.out⟩
        case measure => simp [intOf]; omega
      | 1, _ =>
        replace gx : ∀ h : k < s.size, (s[k]'h).toNat = 99 := gx
        have SM := Lib.hid (rsmall_any (w.heap.size + 1) n9 c9 A9 b e 4294967295 _ rq BYb (by omega))
        have MB := sR_most BYb e (m := 4294967295) (by decide)
        have NB := sR_by BYb e 4294967295
        obtain ⟨⟨x, b', e'⟩, hr⟩ : ∃ r, sR b e 4294967295 = r := ⟨_, rfl⟩
        unfold SmallE at SM
        rw [hr] at SM MB NB
        dsimp only at SM MB NB
        obtain ⟨mb3, mb4⟩ := MB
        have PN := Lib.hid (step1_15 P.out FC.out hr)
        clear rq hn9 BYb hr
        go_wp2_with fail
        refine SM.out.mono ?_; rintro en W9 ⟨rfl, d⟩
        have T1 := Lib.hid (T.out.call hA d NB.2 NB.1)
        clear T d SM hA NB
        have hcell : W9.cell? ⟨gc, 2, none⟩ = some (.int .u32 c.ct) := cm_cell15 T1.out.box ((cm_hd c (i := 2) (by omega)).trans rfl)
        have hfree : W9.frozen? ⟨gc, 2, none⟩ = false := gbx_fz T1.out.box _
        have T2 := Lib.hid (T1.out.put (c' := { c with ct := x }) (j := 2) (v := .int .u32 x) (cm_hset (i := 2) (by omega) rfl rfl rfl))
        clear T1
        go_wp2_with fail
        go_roundw
        case rel => exact ⟨k + 1, { c with ct := x }, b', e', hlt, by go_num, T2.out, ⟨OK.out.kd, OK.out.ac, ⟨mb3, mb4⟩, OK.out.nu, OK.out.am, OK.out.sp, OK.out.as', OK.out.px, OK.out.qt⟩, PN.out, KD.out⟩
        case measure => simp [intOf]; omega
      | 2, _ =>
        replace gx : ∀ h : k < s.size, (s[k]'h).toNat = 110 := gx
        have SM := Lib.hid (rnatr_any (w.heap.size + 1) n9 c9 A9 b e _ rq BYb (by omega))
        have MB := sR_bd BYb e top
        have NB := sR_by BYb e top
        obtain ⟨⟨x, b', e'⟩, hr⟩ : ∃ r, sR b e top = r := ⟨_, rfl⟩
        unfold SmallE at SM
        rw [hr] at SM MB NB
        dsimp only at SM MB NB
        obtain ⟨mb3, mb4⟩ := MB
        have PN := Lib.hid (step2_15 P.out FC.out hr)
        clear rq hn9 BYb hr
        go_wp2_with fail
        refine SM.out.mono ?_; rintro en W9 ⟨rfl, d⟩
        have T1 := Lib.hid (T.out.call hA d NB.2 NB.1)
        clear T d SM hA NB
        have hcell : W9.cell? ⟨gc, 3, none⟩ = some (.int .u64 c.nu) := cm_cell15 T1.out.box ((cm_hd c (i := 3) (by omega)).trans rfl)
        have hfree : W9.frozen? ⟨gc, 3, none⟩ = false := gbx_fz T1.out.box _
        have T2 := Lib.hid (T1.out.put (c' := { c with nu := x }) (j := 3) (v := .int .u64 x) (cm_hset (i := 3) (by omega) rfl rfl rfl))
        clear T1
        go_wp2_with fail
        go_roundw
        case rel => exact ⟨k + 1, { c with nu := x }, b', e', hlt, by go_num, T2.out, ⟨OK.out.kd, OK.out.ac, OK.out.ct, ⟨mb3, mb4⟩, OK.out.am, OK.out.sp, OK.out.as', OK.out.px, OK.out.qt⟩, PN.out, KD.out⟩
        case measure => simp [intOf]; omega
      | 3, _ =>
        replace gx : ∀ h : k < s.size, (s[k]'h).toNat = 109 := gx
        have SM := Lib.hid (rintr_any (w.heap.size + 1) n9 c9 A9 b e _ rq BYb (by omega))
        have MB := iR_fits BYb e
        have NB := sR_by BYb e top
        obtain ⟨⟨x, b', e'⟩, hr⟩ : ∃ r, iR b e = r := ⟨_, rfl⟩
        have r1 : zz (sR b e top).1 = x := congrArg Prod.fst hr
        have r2 : (sR b e top).2.1 = b' := congrArg (fun r => r.2.1) hr
        have r3 : (sR b e top).2.2 = e' := congrArg (fun r => r.2.2) hr
        unfold IntE at SM
        rw [r1, r2, r3] at SM
        rw [r2] at NB
        rw [hr] at MB
        have MBH := Lib.hid (show I64 x from MB)
        have PN := Lib.hid (step3_15 P.out FC.out hr)
        clear r1 r2 r3 MB
        clear rq hn9 BYb hr
        go_wp2_with fail
        refine SM.out.mono ?_; rintro en W9 ⟨rfl, d⟩
        have T1 := Lib.hid (T.out.call hA d NB.2 NB.1)
        clear T d SM hA NB
        have hcell : W9.cell? ⟨gc, 4, none⟩ = some (.int .i64 c.am) := cm_cell15 T1.out.box ((cm_hd c (i := 4) (by omega)).trans rfl)
        have hfree : W9.frozen? ⟨gc, 4, none⟩ = false := gbx_fz T1.out.box _
        have T2 := Lib.hid (T1.out.put (c' := { c with am := x }) (j := 4) (v := .int .i64 x) (cm_hset (i := 4) (by omega) rfl rfl rfl))
        clear T1
        go_wp2_with fail
        go_roundw
        case rel => exact ⟨k + 1, { c with am := x }, b', e', hlt, by go_num, T2.out, ⟨OK.out.kd, OK.out.ac, OK.out.ct, OK.out.nu, MBH.out, OK.out.sp, OK.out.as', OK.out.px, OK.out.qt⟩, PN.out, KD.out⟩
        case measure => simp [intOf]; omega
      | 4, _ =>
        replace gx : ∀ h : k < s.size, (s[k]'h).toNat = 115 := gx
        have SM := Lib.hid (rtake15 (w.heap.size + 1) n9 c9 A9 b e _ rq BYb hn9 (T.out.ha rq.r.1 hA))
        clear rq hn9 BYb
        go_wp2_with fail
        refine SM.out.mono ?_; rintro en W9 ⟨x, b', e', rfl, xok, by9, le9, d, fm⟩
        have XL := Lib.hid xok.len
        have PN := Lib.hid (step4_15 P.out FC.out XL.out fm)
        have T1 := Lib.hid (T.out.call hA d le9 by9)
        have T2 := Lib.hid (T1.out.putS XL.out)
        have XO := Lib.hid xok
        have TH := Lib.hid T1.out.there
        clear T d SM hA xok by9 le9 fm
        go_wp2_with ((with_reducible refine wl_stsp15 XL.out TH.out ?_ ?_ ?_); rfl; rfl)
        go_roundw
        case rel => exact ⟨k + 1, { c with sp := x, len := XL.out }, b', e', hlt, by go_num, T2.out, ⟨OK.out.kd, OK.out.ac, OK.out.ct, OK.out.nu, OK.out.am, XO.out, OK.out.as', OK.out.px, OK.out.qt⟩, PN.out, KD.out⟩
        case measure => simp [intOf]; omega
      | 5, _ =>
        replace gx : ∀ h : k < s.size, (s[k]'h).toNat = 111 := gx
        have SM := Lib.hid (rflagr_any (w.heap.size + 1) n9 c9 A9 b e _ rq BYb (by omega))
        have NB := fR_by15 BYb e
        obtain ⟨⟨x, b', e'⟩, hr⟩ : ∃ r, fR b e = r := ⟨_, rfl⟩
        unfold FlagE at SM
        rw [hr] at SM NB
        dsimp only at SM NB
        have PN := Lib.hid (step5_15 P.out FC.out hr)
        clear rq hn9 BYb hr
        go_wp2_with fail
        refine SM.out.mono ?_; rintro en W9 ⟨rfl, d⟩
        have T1 := Lib.hid (T.out.call hA d NB.2 NB.1)
        clear T d SM hA NB
        have hcell : W9.cell? ⟨gc, 30, none⟩ = some (.bool c.on) := cm_cell15 T1.out.box ((cm_tl c 0).trans rfl)
        have hfree : W9.frozen? ⟨gc, 30, none⟩ = false := gbx_fz T1.out.box _
        have T2 := Lib.hid (T1.out.put (c' := { c with on := x }) (j := 30) (v := .bool x) (cm_tset (i := 0) (by omega) rfl rfl rfl))
        clear T1
        go_wp2_with fail
        go_roundw
        case rel => exact ⟨k + 1, { c with on := x }, b', e', hlt, by go_num, T2.out, ⟨OK.out.kd, OK.out.ac, OK.out.ct, OK.out.nu, OK.out.am, OK.out.sp, OK.out.as', OK.out.px, OK.out.qt⟩, PN.out, KD.out⟩
        case measure => simp [intOf]; omega
      | 6, _ =>
        replace gx : ∀ h : k < s.size, (s[k]'h).toNat = 98 := gx
        have SM := Lib.hid (rflagr_any (w.heap.size + 1) n9 c9 A9 b e _ rq BYb (by omega))
        have NB := fR_by15 BYb e
        obtain ⟨⟨x, b', e'⟩, hr⟩ : ∃ r, fR b e = r := ⟨_, rfl⟩
        unfold FlagE at SM
        rw [hr] at SM NB
        dsimp only at SM NB
        have PN := Lib.hid (step6_15 P.out FC.out hr)
        clear rq hn9 BYb hr
        go_wp2_with fail
        refine SM.out.mono ?_; rintro en W9 ⟨rfl, d⟩
        have T1 := Lib.hid (T.out.call hA d NB.2 NB.1)
        clear T d SM hA NB
        have hcell : W9.cell? ⟨gc, 31, none⟩ = some (.bool c.bu) := cm_cell15 T1.out.box ((cm_tl c 1).trans rfl)
        have hfree : W9.frozen? ⟨gc, 31, none⟩ = false := gbx_fz T1.out.box _
        have T2 := Lib.hid (T1.out.put (c' := { c with bu := x }) (j := 31) (v := .bool x) (cm_tset (i := 1) (by omega) rfl rfl rfl))
        clear T1
        go_wp2_with fail
        go_roundw
        case rel => exact ⟨k + 1, { c with bu := x }, b', e', hlt, by go_num, T2.out, ⟨OK.out.kd, OK.out.ac, OK.out.ct, OK.out.nu, OK.out.am, OK.out.sp, OK.out.as', OK.out.px, OK.out.qt⟩, PN.out, KD.out⟩
        case measure => simp [intOf]; omega
      | 7, _ =>
        replace gx : ∀ h : k < s.size, (s[k]'h).toNat = 107 := gx
        have SM := Lib.hid (rsmall_any (w.heap.size + 1) n9 c9 A9 b e 255 _ rq BYb (by omega))
        have MB := sR_most BYb e (m := 255) (by decide)
        have NB := sR_by BYb e 255
        obtain ⟨⟨x, b', e'⟩, hr⟩ : ∃ r, sR b e 255 = r := ⟨_, rfl⟩
        unfold SmallE at SM
        rw [hr] at SM MB NB
        dsimp only at SM MB NB
        obtain ⟨mb3, mb4⟩ := MB
        have PN := Lib.hid (step7_15 P.out FC.out hr)
        clear rq hn9 BYb hr
        go_wp2_with fail
        refine SM.out.mono ?_; rintro en W9 ⟨rfl, d⟩
        have T1 := Lib.hid (T.out.call hA d NB.2 NB.1)
        clear T d SM hA NB
        have hcell : W9.cell? ⟨gc, 32, none⟩ = some (.int .u8 c.as') := cm_cell15 T1.out.box ((cm_tl c 2).trans rfl)
        have hfree : W9.frozen? ⟨gc, 32, none⟩ = false := gbx_fz T1.out.box _
        have T2 := Lib.hid (T1.out.put (c' := { c with as' := x }) (j := 32) (v := .int .u8 x) (cm_tset (i := 2) (by omega) rfl rfl rfl))
        clear T1
        go_wp2_with fail
        go_roundw
        case rel => exact ⟨k + 1, { c with as' := x }, b', e', hlt, by go_num, T2.out, ⟨OK.out.kd, OK.out.ac, OK.out.ct, OK.out.nu, OK.out.am, OK.out.sp, ⟨mb3, mb4⟩, OK.out.px, OK.out.qt⟩, PN.out, KD.out⟩
        case measure => simp [intOf]; omega
      | 8, _ =>
        replace gx : ∀ h : k < s.size, (s[k]'h).toNat = 112 := gx
        have SM := Lib.hid (rintr_any (w.heap.size + 1) n9 c9 A9 b e _ rq BYb (by omega))
        have MB := iR_fits BYb e
        have NB := sR_by BYb e top
        obtain ⟨⟨x, b', e'⟩, hr⟩ : ∃ r, iR b e = r := ⟨_, rfl⟩
        have r1 : zz (sR b e top).1 = x := congrArg Prod.fst hr
        have r2 : (sR b e top).2.1 = b' := congrArg (fun r => r.2.1) hr
        have r3 : (sR b e top).2.2 = e' := congrArg (fun r => r.2.2) hr
        unfold IntE at SM
        rw [r1, r2, r3] at SM
        rw [r2] at NB
        rw [hr] at MB
        have MBH := Lib.hid (show I64 x from MB)
        have PN := Lib.hid (step8_15 P.out FC.out hr)
        clear r1 r2 r3 MB
        clear rq hn9 BYb hr
        go_wp2_with fail
        refine SM.out.mono ?_; rintro en W9 ⟨rfl, d⟩
        have T1 := Lib.hid (T.out.call hA d NB.2 NB.1)
        clear T d SM hA NB
        have hcell : W9.cell? ⟨gc, 33, none⟩ = some (.int .i64 c.px) := cm_cell15 T1.out.box ((cm_tl c 3).trans rfl)
        have hfree : W9.frozen? ⟨gc, 33, none⟩ = false := gbx_fz T1.out.box _
        have T2 := Lib.hid (T1.out.put (c' := { c with px := x }) (j := 33) (v := .int .i64 x) (cm_tset (i := 3) (by omega) rfl rfl rfl))
        clear T1
        go_wp2_with fail
        go_roundw
        case rel => exact ⟨k + 1, { c with px := x }, b', e', hlt, by go_num, T2.out, ⟨OK.out.kd, OK.out.ac, OK.out.ct, OK.out.nu, OK.out.am, OK.out.sp, OK.out.as', MBH.out, OK.out.qt⟩, PN.out, KD.out⟩
        case measure => simp [intOf]; omega
      | 9, _ =>
        replace gx : ∀ h : k < s.size, (s[k]'h).toNat = 113 := gx
        have SM := Lib.hid (rintr_any (w.heap.size + 1) n9 c9 A9 b e _ rq BYb (by omega))
        have MB := iR_fits BYb e
        have NB := sR_by BYb e top
        obtain ⟨⟨x, b', e'⟩, hr⟩ : ∃ r, iR b e = r := ⟨_, rfl⟩
        have r1 : zz (sR b e top).1 = x := congrArg Prod.fst hr
        have r2 : (sR b e top).2.1 = b' := congrArg (fun r => r.2.1) hr
        have r3 : (sR b e top).2.2 = e' := congrArg (fun r => r.2.2) hr
        unfold IntE at SM
        rw [r1, r2, r3] at SM
        rw [r2] at NB
        rw [hr] at MB
        have MBH := Lib.hid (show I64 x from MB)
        have PN := Lib.hid (step9_15 P.out FC.out hr)
        clear r1 r2 r3 MB
        clear rq hn9 BYb hr
        go_wp2_with fail
        refine SM.out.mono ?_; rintro en W9 ⟨rfl, d⟩
        have T1 := Lib.hid (T.out.call hA d NB.2 NB.1)
        clear T d SM hA NB
        have hcell : W9.cell? ⟨gc, 34, none⟩ = some (.int .i64 c.qt) := cm_cell15 T1.out.box ((cm_tl c 4).trans rfl)
        have hfree : W9.frozen? ⟨gc, 34, none⟩ = false := gbx_fz T1.out.box _
        have T2 := Lib.hid (T1.out.put (c' := { c with qt := x }) (j := 34) (v := .int .i64 x) (cm_tset (i := 4) (by omega) rfl rfl rfl))
        clear T1
        go_wp2_with fail
        go_roundw
        case rel => exact ⟨k + 1, { c with qt := x }, b', e', hlt, by go_num, T2.out, ⟨OK.out.kd, OK.out.ac, OK.out.ct, OK.out.nu, OK.out.am, OK.out.sp, OK.out.as', OK.out.px, MBH.out⟩, PN.out, KD.out⟩
        case measure => simp [intOf]; omega
    case neg =>
      obtain rfl : k = L.length := by omega
      have ALL : Hid (∀ d, IsC bs d → e = 0 ∧ b = [] ∧ c = d) := Lib.hid fun d hd => P.out.all (by rw [KD.out, HL.out]) hd
      obtain ⟨A9, n9, c9, rq, hA⟩ := T.out.rq
      have hn9 : n9 ≤ 20000 := by have h1 := rq.r.1; have h2 := T.out.len; omega
      obtain ⟨D, hD⟩ : ∃ D, (if e = 0 ∧ 0 < b.length then (5 : Int) else e) = D := ⟨_, rfl⟩
      have DN := Lib.hid fun (U : World) (q : Below wr.heap.size wr U) => rdone_any (w.heap.size + 1) n9 c9 A9 b e U (rq.below q) (by omega)
      rw [hD] at DN
      have ND : Hid (D ≠ 0 → ∀ d, ¬ IsC bs d) := Lib.hid fun h d hd => h (by
        obtain ⟨a1, a2, -⟩ := ALL.out d hd
        rw [← hD, a1, a2]
        rfl)
      have MC := Lib.hid fun U => rmayc15 c U OK.out
      have CM := Lib.hid fun (h4 : 4 ∈ flds c.kd → mayB c.sp = true) U => rcmd15 c U OK.out h4
      have XC := Lib.hid fun (U : World) (q : Below wr.heap.size wr U) => gbx_rng (gbx_below T.out.box q)
      have TB := Lib.hid fun (U : World) (q : Below wr.heap.size wr U) => HB.out U (T.out.bel.trans (q.mono T.out.bel.size))
      have BL := Lib.hid fun (U : World) (q : Below wr.heap.size wr U) => (show Below w.heap.size w U from T.out.bel.trans (q.mono T.out.bel.size))
      obtain ⟨z, hz⟩ := T.out.res
      have RZ := Lib.hid fun (U : World) (q : Below wr.heap.size wr U) => (show ECm.Bx 32 U w.heap.size z from gbx_below hz q)
      clear P KD rq hn9 hA hD hz HB T
      go_wp2_with fail
      refine wp_region_held_drew (S := fun U => Below wr.heap.size wr U) (by kernel_rfl) (Below.refl _ _).drew (fun hH => ?_)
      generalize wr.drew = wd at hH ⊢
      refine wpAnyH_take (i := 0) (v := .pointer (some ⟨w.heap.size + 1, 0, none⟩)) rfl (by kernel_rfl) (by kernel_rfl) (by kernel_rfl) (fun _ _ _ h => h) (.inl ⟨by rfl, ?_⟩) (by assumption) ?_
      · intro W hW; go_simp
      try simp only [List.getElem_toArray, List.getElem_cons_zero, Act.put, List.setIfInBounds_toArray, List.set_cons_zero, List.set_cons_succ]
      refine wpAnyH_ready (rs := [1]) (by decide +kernel) (by simp) (AllReadyH.cons rfl (fun KQ hK => ?_) AllReadyH.nil)
      go_simp
      refine (DN.out _ hH).mono ?_; rintro e0 Wd ⟨rfl, hWd⟩
      subst hWd
      refine hK.out _ _ hH (fun _ => ?_)
      clear hK
      try simp only [List.setIfInBounds_toArray, List.set_cons_zero, List.set_cons_succ]
      by_cases d0 : D = 0
      case neg =>
        have dd : (D != 0) = true := by simp [d0]
        have NO := Lib.hid (ND.out d0)
        refine wpAnyH_take (i := 2) (v := .bool true) rfl (by kernel_rfl) (by kernel_rfl) (by kernel_rfl) (fun _ _ _ h => h) (.inl ⟨by rfl, ?_⟩) (by assumption) ?_
        · intro W hW; go_simp
        try simp only [List.getElem_toArray, List.getElem_cons_zero, List.getElem_cons_succ, Act.put, List.setIfInBounds_toArray, List.set_cons_zero, List.set_cons_succ]
        refine wpAnyH_take (i := 3) (v := .bool true) rfl (by kernel_rfl) (by kernel_rfl) (by kernel_rfl) (fun _ _ _ h => h) (.inl ⟨by rfl, ?_⟩) (by assumption) ?_
        · intro W hW; go_simp
        try simp only [List.getElem_toArray, List.getElem_cons_zero, List.getElem_cons_succ, Act.put, List.setIfInBounds_toArray, List.set_cons_zero, List.set_cons_succ]
        refine wpAnyH_take (i := 4) (v := undef) rfl (by kernel_rfl) (by kernel_rfl) (by kernel_rfl) (fun _ _ _ h => h) (.inr ⟨by rfl, rfl⟩) (by assumption) ?_
        try simp only [List.getElem_toArray, List.getElem_cons_zero, List.getElem_cons_succ, Act.put, List.setIfInBounds_toArray, List.set_cons_zero, List.set_cons_succ]
        refine wpAnyH_take (i := 5) (v := undef) rfl (by kernel_rfl) (by kernel_rfl) (by kernel_rfl) (fun _ _ _ h => h) (.inr ⟨by rfl, rfl⟩) (by assumption) ?_
        try simp only [List.getElem_toArray, List.getElem_cons_zero, List.getElem_cons_succ, Act.put, List.setIfInBounds_toArray, List.set_cons_zero, List.set_cons_succ]
        refine wpAnyH_take (i := 6) (v := undef) rfl (by kernel_rfl) (by kernel_rfl) (by kernel_rfl) (fun _ _ _ h => h) (.inr ⟨by rfl, rfl⟩) (by assumption) ?_
        try simp only [List.getElem_toArray, List.getElem_cons_zero, List.getElem_cons_succ, Act.put, List.setIfInBounds_toArray, List.set_cons_zero, List.set_cons_succ]
        refine wpAnyH_take (i := 7) (v := .bool true) rfl (by kernel_rfl) (by kernel_rfl) (by kernel_rfl) (fun _ _ _ h => h) (.inl ⟨by rfl, ?_⟩) (by assumption) ?_
        · intro W hW; go_simp
        try simp only [List.getElem_toArray, List.getElem_cons_zero, List.getElem_cons_succ, Act.put, List.setIfInBounds_toArray, List.set_cons_zero, List.set_cons_succ]
        refine wpAnyH_take (i := 8) (v := .bool true) rfl (by kernel_rfl) (by kernel_rfl) (by kernel_rfl) (fun _ _ _ h => h) (.inl ⟨by rfl, ?_⟩) (by assumption) ?_
        · intro W hW; go_simp
        try simp only [List.getElem_toArray, List.getElem_cons_zero, List.getElem_cons_succ, Act.put, List.setIfInBounds_toArray, List.set_cons_zero, List.set_cons_succ]
        refine wpAnyH_take (i := 9) (v := undef) rfl (by kernel_rfl) (by kernel_rfl) (by kernel_rfl) (fun _ _ _ h => h) (.inr ⟨by rfl, rfl⟩) (by assumption) ?_
        try simp only [List.getElem_toArray, List.getElem_cons_zero, List.getElem_cons_succ, Act.put, List.setIfInBounds_toArray, List.set_cons_zero, List.set_cons_succ]
        refine wpAnyH_take (i := 10) (v := undef) rfl (by kernel_rfl) (by kernel_rfl) (by kernel_rfl) (fun _ _ _ h => h) (.inr ⟨by rfl, rfl⟩) (by assumption) ?_
        try simp only [List.getElem_toArray, List.getElem_cons_zero, List.getElem_cons_succ, Act.put, List.setIfInBounds_toArray, List.set_cons_zero, List.set_cons_succ]
        refine wpAnyH_take (i := 11) (v := undef) rfl (by kernel_rfl) (by kernel_rfl) (by kernel_rfl) (fun _ _ _ h => h) (.inr ⟨by rfl, rfl⟩) (by assumption) ?_
        try simp only [List.getElem_toArray, List.getElem_cons_zero, List.getElem_cons_succ, Act.put, List.setIfInBounds_toArray, List.set_cons_zero, List.set_cons_succ]
        refine wpAnyH_take (i := 12) (v := undef) rfl (by kernel_rfl) (by kernel_rfl) (by kernel_rfl) (fun _ _ _ h => h) (.inr ⟨by rfl, rfl⟩) (by assumption) ?_
        try simp only [List.getElem_toArray, List.getElem_cons_zero, List.getElem_cons_succ, Act.put, List.setIfInBounds_toArray, List.set_cons_zero, List.set_cons_succ]
        refine wpAnyH_take (i := 13) (v := undef) rfl (by kernel_rfl) (by kernel_rfl) (by kernel_rfl) (fun _ _ _ h => h) (.inr ⟨by rfl, rfl⟩) (by assumption) ?_
        try simp only [List.getElem_toArray, List.getElem_cons_zero, List.getElem_cons_succ, Act.put, List.setIfInBounds_toArray, List.set_cons_zero, List.set_cons_succ]
        refine wpAnyH_take (i := 14) (v := undef) rfl (by kernel_rfl) (by kernel_rfl) (by kernel_rfl) (fun _ _ _ h => h) (.inr ⟨by rfl, rfl⟩) (by assumption) ?_
        try simp only [List.getElem_toArray, List.getElem_cons_zero, List.getElem_cons_succ, Act.put, List.setIfInBounds_toArray, List.set_cons_zero, List.set_cons_succ]
        refine wpAnyH_take (i := 15) (v := .bool true) rfl (by kernel_rfl) (by kernel_rfl) (by kernel_rfl) (fun _ _ _ h => h) (.inl ⟨by rfl, ?_⟩) (by assumption) ?_
        · intro W hW; go_simp
        try simp only [List.getElem_toArray, List.getElem_cons_zero, List.getElem_cons_succ, Act.put, List.setIfInBounds_toArray, List.set_cons_zero, List.set_cons_succ]
        refine wpAnyH_done (by decide +kernel) ?_ _
        have BLv := Lib.hid (BL.out _ hH)
        have RZv := Lib.hid (RZ.out _ hH)
        obtain ⟨Wz, hWz⟩ : ∃ W, wd.setRow w.heap.size (ECm.cells zeroCm).toArray = W := ⟨_, rfl⟩
        have RX : Hid (ECm.Bx 32 Wz w.heap.size zeroCm) := Lib.hid (by rw [← hWz]; exact gbx_set RZv.out)
        have BZ : Hid (Below w.heap.size w Wz) := Lib.hid (by rw [← hWz]; exact below_row0 BLv.out (Nat.le_refl _))
        have HWz := Lib.hid hWz
        clear hWz hH
        go_wp2_with (first | (refine rwl_store TCm zeroCm w.heap.size RZv.out rfl rfl ?_; rw [HWz.out]))
        (try simp only [Exit.inBlock, Exit.then])
        refine bodyPost_ret (rret TCm rfl _ Wz w.heap.size rfl rfl RX.out) rfl ?_
        exact ⟨zeroCm, 5, rfl, .inr ⟨NO.out, rfl, rfl⟩, BZ.out⟩
      subst d0
      cases hm : mcB c
      case false =>
        rw [hm] at MC
        have NO : Hid (∀ d, ¬ IsC bs d) := Lib.hid fun d hd => by
          have e1 := (ALL.out d hd).2.2
          have e2 := mcB_yes.2 hd.2.1
          rw [← e1, hm] at e2
          cases e2
        clear hm
        refine wpAnyH_take (i := 2) (v := .bool false) rfl (by kernel_rfl) (by kernel_rfl) (by kernel_rfl) (fun _ _ _ h => h) (.inl ⟨by rfl, ?_⟩) (by assumption) ?_
        · intro W hW; go_simp
        try simp only [List.getElem_toArray, List.getElem_cons_zero, List.getElem_cons_succ, Act.put, List.setIfInBounds_toArray, List.set_cons_zero, List.set_cons_succ]
        refine wpAnyH_take (i := 3) (v := .bool false) rfl (by kernel_rfl) (by kernel_rfl) (by kernel_rfl) (fun _ _ _ h => h) (.inl ⟨by rfl, ?_⟩) (by assumption) ?_
        · intro W hW; go_simp
        try simp only [List.getElem_toArray, List.getElem_cons_zero, List.getElem_cons_succ, Act.put, List.setIfInBounds_toArray, List.set_cons_zero, List.set_cons_succ]
        refine wpAnyH_take (i := 4) (v := .agg (ECm.cells c).toArray) rfl (by kernel_rfl) (by kernel_rfl) (by kernel_rfl) (fun _ _ _ h => h) (ryields_load TCm (by rfl) (.tmp 5) rfl gc 0 rfl (fun U hU => XC.out U hU)) (by assumption) ?_
        try simp only [List.getElem_toArray, List.getElem_cons_zero, List.getElem_cons_succ, Act.put, List.setIfInBounds_toArray, List.set_cons_zero, List.set_cons_succ]
        refine wpAnyH_ready (rs := [5]) (by decide +kernel) (by simp) (AllReadyH.cons rfl (fun KQ hK => ?_) AllReadyH.nil)
        go_simp
        refine (MC.out _).mono ?_; rintro e0 Wm ⟨rfl, q1⟩
        have hH := hH.trans (q1.mono hH.size)
        clear q1
        refine hK.out _ _ hH (fun _ => ?_)
        clear hK
        try simp only [List.setIfInBounds_toArray, List.set_cons_zero, List.set_cons_succ]
        refine wpAnyH_take (i := 6) (v := .bool true) rfl (by kernel_rfl) (by kernel_rfl) (by kernel_rfl) (fun _ _ _ h => h) (.inl ⟨by rfl, ?_⟩) (by assumption) ?_
        · intro W hW; go_simp
        try simp only [List.getElem_toArray, List.getElem_cons_zero, List.getElem_cons_succ, Act.put, List.setIfInBounds_toArray, List.set_cons_zero, List.set_cons_succ]
        refine wpAnyH_take (i := 7) (v := .bool true) rfl (by kernel_rfl) (by kernel_rfl) (by kernel_rfl) (fun _ _ _ h => h) (.inl ⟨by rfl, ?_⟩) (by assumption) ?_
        · intro W hW; go_simp
        try simp only [List.getElem_toArray, List.getElem_cons_zero, List.getElem_cons_succ, Act.put, List.setIfInBounds_toArray, List.set_cons_zero, List.set_cons_succ]
        refine wpAnyH_take (i := 8) (v := .bool true) rfl (by kernel_rfl) (by kernel_rfl) (by kernel_rfl) (fun _ _ _ h => h) (.inl ⟨by rfl, ?_⟩) (by assumption) ?_
        · intro W hW; go_simp
        try simp only [List.getElem_toArray, List.getElem_cons_zero, List.getElem_cons_succ, Act.put, List.setIfInBounds_toArray, List.set_cons_zero, List.set_cons_succ]
        refine wpAnyH_take (i := 9) (v := undef) rfl (by kernel_rfl) (by kernel_rfl) (by kernel_rfl) (fun _ _ _ h => h) (.inr ⟨by rfl, rfl⟩) (by assumption) ?_
        try simp only [List.getElem_toArray, List.getElem_cons_zero, List.getElem_cons_succ, Act.put, List.setIfInBounds_toArray, List.set_cons_zero, List.set_cons_succ]
        refine wpAnyH_take (i := 10) (v := undef) rfl (by kernel_rfl) (by kernel_rfl) (by kernel_rfl) (fun _ _ _ h => h) (.inr ⟨by rfl, rfl⟩) (by assumption) ?_
        try simp only [List.getElem_toArray, List.getElem_cons_zero, List.getElem_cons_succ, Act.put, List.setIfInBounds_toArray, List.set_cons_zero, List.set_cons_succ]
        refine wpAnyH_take (i := 11) (v := undef) rfl (by kernel_rfl) (by kernel_rfl) (by kernel_rfl) (fun _ _ _ h => h) (.inr ⟨by rfl, rfl⟩) (by assumption) ?_
        try simp only [List.getElem_toArray, List.getElem_cons_zero, List.getElem_cons_succ, Act.put, List.setIfInBounds_toArray, List.set_cons_zero, List.set_cons_succ]
        refine wpAnyH_take (i := 12) (v := undef) rfl (by kernel_rfl) (by kernel_rfl) (by kernel_rfl) (fun _ _ _ h => h) (.inr ⟨by rfl, rfl⟩) (by assumption) ?_
        try simp only [List.getElem_toArray, List.getElem_cons_zero, List.getElem_cons_succ, Act.put, List.setIfInBounds_toArray, List.set_cons_zero, List.set_cons_succ]
        refine wpAnyH_take (i := 13) (v := undef) rfl (by kernel_rfl) (by kernel_rfl) (by kernel_rfl) (fun _ _ _ h => h) (.inr ⟨by rfl, rfl⟩) (by assumption) ?_
        try simp only [List.getElem_toArray, List.getElem_cons_zero, List.getElem_cons_succ, Act.put, List.setIfInBounds_toArray, List.set_cons_zero, List.set_cons_succ]
        refine wpAnyH_take (i := 14) (v := undef) rfl (by kernel_rfl) (by kernel_rfl) (by kernel_rfl) (fun _ _ _ h => h) (.inr ⟨by rfl, rfl⟩) (by assumption) ?_
        try simp only [List.getElem_toArray, List.getElem_cons_zero, List.getElem_cons_succ, Act.put, List.setIfInBounds_toArray, List.set_cons_zero, List.set_cons_succ]
        refine wpAnyH_take (i := 15) (v := .bool true) rfl (by kernel_rfl) (by kernel_rfl) (by kernel_rfl) (fun _ _ _ h => h) (.inl ⟨by rfl, ?_⟩) (by assumption) ?_
        · intro W hW; go_simp
        try simp only [List.getElem_toArray, List.getElem_cons_zero, List.getElem_cons_succ, Act.put, List.setIfInBounds_toArray, List.set_cons_zero, List.set_cons_succ]
        refine wpAnyH_done (by decide +kernel) ?_ _
        have BLv := Lib.hid (BL.out _ hH)
        have RZv := Lib.hid (RZ.out _ hH)
        obtain ⟨Wz, hWz⟩ : ∃ W, Wm.setRow w.heap.size (ECm.cells zeroCm).toArray = W := ⟨_, rfl⟩
        have RX : Hid (ECm.Bx 32 Wz w.heap.size zeroCm) := Lib.hid (by rw [← hWz]; exact gbx_set RZv.out)
        have BZ : Hid (Below w.heap.size w Wz) := Lib.hid (by rw [← hWz]; exact below_row0 BLv.out (Nat.le_refl _))
        have HWz := Lib.hid hWz
        clear hWz hH
        go_wp2_with (first | (refine rwl_store TCm zeroCm w.heap.size RZv.out rfl rfl ?_; rw [HWz.out]))
        (try simp only [Exit.inBlock, Exit.then])
        refine bodyPost_ret (rret TCm rfl _ Wz w.heap.size rfl rfl RX.out) rfl ?_
        exact ⟨zeroCm, 5, rfl, .inr ⟨NO.out, rfl, rfl⟩, BZ.out⟩
      rw [hm] at MC
      have MY := Lib.hid (mcB_yes.1 hm)
      have CI := Lib.hid (CM.out MY.out.sp)
      clear hm CM
      refine wpAnyH_take (i := 2) (v := .bool false) rfl (by kernel_rfl) (by kernel_rfl) (by kernel_rfl) (fun _ _ _ h => h) (.inl ⟨by rfl, ?_⟩) (by assumption) ?_
      · intro W hW; go_simp
      try simp only [List.getElem_toArray, List.getElem_cons_zero, List.getElem_cons_succ, Act.put, List.setIfInBounds_toArray, List.set_cons_zero, List.set_cons_succ]
      refine wpAnyH_take (i := 3) (v := .bool false) rfl (by kernel_rfl) (by kernel_rfl) (by kernel_rfl) (fun _ _ _ h => h) (.inl ⟨by rfl, ?_⟩) (by assumption) ?_
      · intro W hW; go_simp
      try simp only [List.getElem_toArray, List.getElem_cons_zero, List.getElem_cons_succ, Act.put, List.setIfInBounds_toArray, List.set_cons_zero, List.set_cons_succ]
      refine wpAnyH_take (i := 4) (v := .agg (ECm.cells c).toArray) rfl (by kernel_rfl) (by kernel_rfl) (by kernel_rfl) (fun _ _ _ h => h) (ryields_load TCm (by rfl) (.tmp 5) rfl gc 0 rfl (fun U hU => XC.out U hU)) (by assumption) ?_
      try simp only [List.getElem_toArray, List.getElem_cons_zero, List.getElem_cons_succ, Act.put, List.setIfInBounds_toArray, List.set_cons_zero, List.set_cons_succ]
      refine wpAnyH_ready (rs := [5]) (by decide +kernel) (by simp) (AllReadyH.cons rfl (fun KQ hK => ?_) AllReadyH.nil)
      go_simp
      refine (MC.out _).mono ?_; rintro e0 Wm ⟨rfl, q1⟩
      have hH := hH.trans (q1.mono hH.size)
      clear q1
      refine hK.out _ _ hH (fun _ => ?_)
      clear hK
      try simp only [List.setIfInBounds_toArray, List.set_cons_zero, List.set_cons_succ]
      refine wpAnyH_take (i := 6) (v := .bool false) rfl (by kernel_rfl) (by kernel_rfl) (by kernel_rfl) (fun _ _ _ h => h) (.inl ⟨by rfl, ?_⟩) (by assumption) ?_
      · intro W hW; go_simp
      try simp only [List.getElem_toArray, List.getElem_cons_zero, List.getElem_cons_succ, Act.put, List.setIfInBounds_toArray, List.set_cons_zero, List.set_cons_succ]
      refine wpAnyH_take (i := 7) (v := .bool false) rfl (by kernel_rfl) (by kernel_rfl) (by kernel_rfl) (fun _ _ _ h => h) (.inl ⟨by rfl, ?_⟩) (by assumption) ?_
      · intro W hW; go_simp
      try simp only [List.getElem_toArray, List.getElem_cons_zero, List.getElem_cons_succ, Act.put, List.setIfInBounds_toArray, List.set_cons_zero, List.set_cons_succ]
      refine wpAnyH_take (i := 8) (v := .bool false) rfl (by kernel_rfl) (by kernel_rfl) (by kernel_rfl) (fun _ _ _ h => h) (.inl ⟨by rfl, ?_⟩) (by assumption) ?_
      · intro W hW; go_simp
      try simp only [List.getElem_toArray, List.getElem_cons_zero, List.getElem_cons_succ, Act.put, List.setIfInBounds_toArray, List.set_cons_zero, List.set_cons_succ]
      refine wpAnyH_take (i := 9) (v := .agg (ECm.cells c).toArray) rfl (by kernel_rfl) (by kernel_rfl) (by kernel_rfl) (fun _ _ _ h => h) (ryields_load TCm (by rfl) (.tmp 5) rfl gc 0 rfl (fun U hU => XC.out U hU)) (by assumption) ?_
      try simp only [List.getElem_toArray, List.getElem_cons_zero, List.getElem_cons_succ, Act.put, List.setIfInBounds_toArray, List.set_cons_zero, List.set_cons_succ]
      refine wpAnyH_take (i := 12) (v := .slice A n cap) rfl (by kernel_rfl) (by kernel_rfl) (by kernel_rfl) (fun _ _ _ h => h) (.inl ⟨by rfl, ?_⟩) (by assumption) ?_
      · intro W hW; go_simp
      try simp only [List.getElem_toArray, List.getElem_cons_zero, List.getElem_cons_succ, Act.put, List.setIfInBounds_toArray, List.set_cons_zero, List.set_cons_succ]
      refine wpAnyH_take (i := 13) (v := .string (strOfNums bs)) rfl (by kernel_rfl) (by kernel_rfl) (by kernel_rfl) (fun _ _ _ h => h) (.inl ⟨by rfl, ?_⟩) (by assumption) ?_
      · intro W hW; have k0 := conv_any (c := cap) (TB.out _ hW); go_simp
      try simp only [List.getElem_toArray, List.getElem_cons_zero, List.getElem_cons_succ, Act.put, List.setIfInBounds_toArray, List.set_cons_zero, List.set_cons_succ]
      refine wpAnyH_ready (rs := [10]) (by decide +kernel) (by simp) (AllReadyH.cons rfl (fun KQ hK => ?_) AllReadyH.nil)
      go_simp
      refine (CI.out _).mono ?_; rintro e0 Wf ⟨v9, rfl, hN⟩
      obtain ⟨A6, c6, rfl, r6, -⟩ := owns_pt hN.o
      have hH := hH.trans (hN.q.mono hH.size)
      have R6 := Lib.hid r6
      clear hN r6
      refine hK.out _ _ hH (fun _ => ?_)
      clear hK
      try simp only [List.setIfInBounds_toArray, List.set_cons_zero, List.set_cons_succ]
      refine wpAnyH_more (S1 := fun U => Below Wf.heap.size Wf U) (fun U b => hH.trans (b.mono hH.size)) _ _ _ _ ?_
      have HQ := Lib.hid hH
      clear hH
      have hH := Below.refl Wf.heap.size Wf
      obtain ⟨fl, hfl⟩ : ∃ fl, (formC c).length = fl := ⟨_, rfl⟩
      rw [hfl] at R6 ⊢
      clear hfl
      refine wpAnyH_take (i := 11) (v := .string (strOfNums (formC c))) rfl (by kernel_rfl) (by kernel_rfl) (by kernel_rfl) (fun _ _ _ h => h) (.inl ⟨by rfl, ?_⟩) (by assumption) ?_
      · intro W hW; have k0 := conv_any (c := c6) (R6.out.below hW); go_simp
      try simp only [List.getElem_toArray, List.getElem_cons_zero, List.getElem_cons_succ, Act.put, List.setIfInBounds_toArray, List.set_cons_zero, List.set_cons_succ]
      by_cases ef : formC c = bs
      case pos =>
        have IS : Hid (IsC bs c) := Lib.hid ⟨OK.out, MY.out, ef⟩
        rw [ef]
        clear ef
        refine wpAnyH_take (i := 14) (v := .bool false) rfl (by kernel_rfl) (by kernel_rfl) (by kernel_rfl) (fun _ _ _ h => h) (.inl ⟨by rfl, ?_⟩) (by assumption) ?_
        · intro W hW; go_simp
        try simp only [List.getElem_toArray, List.getElem_cons_zero, List.getElem_cons_succ, Act.put, List.setIfInBounds_toArray, List.set_cons_zero, List.set_cons_succ]
        refine wpAnyH_take (i := 15) (v := .bool false) rfl (by kernel_rfl) (by kernel_rfl) (by kernel_rfl) (fun _ _ _ h => h) (.inl ⟨by rfl, ?_⟩) (by assumption) ?_
        · intro W hW; go_simp
        try simp only [List.getElem_toArray, List.getElem_cons_zero, List.getElem_cons_succ, Act.put, List.setIfInBounds_toArray, List.set_cons_zero, List.set_cons_succ]
        refine wpAnyH_done (by decide +kernel) ?_ _
        have hH := HQ.out.trans (hH.mono HQ.out.size)
        have BLv := Lib.hid (BL.out _ hH)
        have RZv := Lib.hid (RZ.out _ hH)
        obtain ⟨Wz, hWz⟩ : ∃ W, Wf.setRow w.heap.size (ECm.cells c).toArray = W := ⟨_, rfl⟩
        have RX : Hid (ECm.Bx 32 Wz w.heap.size c) := Lib.hid (by rw [← hWz]; exact gbx_set RZv.out)
        have BZ : Hid (Below w.heap.size w Wz) := Lib.hid (by rw [← hWz]; exact below_row0 BLv.out (Nat.le_refl _))
        have HWz := Lib.hid hWz
        have XV := Lib.hid (XC.out _ hH)
        clear hWz hH
        go_wp2_with (first | ((with_reducible refine rwl_load TCm gc 0 XV.out ?_ ?_ ?_); rfl; rfl) | (refine rwl_store TCm c w.heap.size RZv.out rfl rfl ?_; rw [HWz.out]))
        (try simp only [Exit.inBlock, Exit.then])
        refine bodyPost_ret (rret TCm rfl _ Wz w.heap.size rfl rfl RX.out) rfl ?_
        exact ⟨c, 0, rfl, .inl ⟨IS.out, rfl⟩, BZ.out⟩
      case neg =>
        have NO : Hid (∀ d, ¬ IsC bs d) := Lib.hid fun d hd => ef (by rw [(ALL.out d hd).2.2]; exact hd.2.2)
        have ne : (strOfNums (formC c)).toList ≠ (strOfNums bs).toList := fun h => ef (strs15 (formC_by c) BY.out h)
        have ne2 : ((strOfNums (formC c)).toList == (strOfNums bs).toList) = false := by simpa using ne
        have ne3 : ((strOfNums (formC c)).toList != (strOfNums bs).toList) = true := by simpa using ne
        have ne4 : strOfNums (formC c) ≠ strOfNums bs := fun h => ne (by rw [h])
        clear ef
        refine wpAnyH_take (i := 14) (v := .bool true) rfl (by kernel_rfl) (by kernel_rfl) (by kernel_rfl) (fun _ _ _ h => h) (.inl ⟨by rfl, ?_⟩) (by assumption) ?_
        · intro W hW; go_simp
        try simp only [List.getElem_toArray, List.getElem_cons_zero, List.getElem_cons_succ, Act.put, List.setIfInBounds_toArray, List.set_cons_zero, List.set_cons_succ]
        refine wpAnyH_take (i := 15) (v := .bool true) rfl (by kernel_rfl) (by kernel_rfl) (by kernel_rfl) (fun _ _ _ h => h) (.inl ⟨by rfl, ?_⟩) (by assumption) ?_
        · intro W hW; go_simp
        try simp only [List.getElem_toArray, List.getElem_cons_zero, List.getElem_cons_succ, Act.put, List.setIfInBounds_toArray, List.set_cons_zero, List.set_cons_succ]
        refine wpAnyH_done (by decide +kernel) ?_ _
        have hH := HQ.out.trans (hH.mono HQ.out.size)
        clear ne ne2 ne3 ne4
        have BLv := Lib.hid (BL.out _ hH)
        have RZv := Lib.hid (RZ.out _ hH)
        obtain ⟨Wz, hWz⟩ : ∃ W, Wf.setRow w.heap.size (ECm.cells zeroCm).toArray = W := ⟨_, rfl⟩
        have RX : Hid (ECm.Bx 32 Wz w.heap.size zeroCm) := Lib.hid (by rw [← hWz]; exact gbx_set RZv.out)
        have BZ : Hid (Below w.heap.size w Wz) := Lib.hid (by rw [← hWz]; exact below_row0 BLv.out (Nat.le_refl _))
        have HWz := Lib.hid hWz
        clear hWz hH
        go_wp2_with (first | (refine rwl_store TCm zeroCm w.heap.size RZv.out rfl rfl ?_; rw [HWz.out]))
        (try simp only [Exit.inBlock, Exit.then])
        refine bodyPost_ret (rret TCm rfl _ Wz w.heap.size rfl rfl RX.out) rfl ?_
        exact ⟨zeroCm, 5, rfl, .inr ⟨NO.out, rfl, rfl⟩, BZ.out⟩
end Go.Proofs.YtbmlpokkojhhjaaGreat.Wt
