/- Contracts of the calls of the document's plain calendar: Halt, Publish. -/
import Derived.Test.YtejhnfkljfdejaaKr
import Derived.Test.YtejhnfkljfdejaaQc
namespace Go.Proofs.Ytejhnfkljfdejaa
open Go.RowKit

theorem Rc.fzr {W : World} {B g b c n : Nat} {d : Int} {cs : List Ct} (h : Rc W B g (.slice (some ⟨b, 0, none⟩) n c) d cs) (j : Nat) : W.frozen? ⟨b, j, none⟩ = false := by
  obtain ⟨b', c1, cur, e2, hb, hh, hn, hm, hs, ht⟩ := h.own.2.resolve_left (fun c => by cases c.1)
  cases e2
  simp [World.frozen?, hh]
theorem st_ok {x : Ct} (h : x.ok) {t : Int} (ht : 0 ≤ t ∧ t ≤ 255) : (Ct.mk x.sp t x.pr).ok := ⟨h.sp, ht, h.pr⟩

set_option maxRecDepth 100000 in
theorem rhalt_any (B g : Nat) (v : Value) (d : Int) (cs : List Ct) (nu : Int) (on : Bool) (w : World) (h : Rc w B g v d cs) (hnu : 0 ≤ nu ∧ nu ≤ 4294967295) :
    Calls Try.prog 15 #[.pointer (some ⟨g, 0, none⟩), .int .u32 nu, .bool on] w fun e w' => e = .returned (.int .i64 (alC cs nu).e) ∧ Rc w' B g v d (haltC cs nu on) ∧ Fr (RcS g v) w w' := by
  have P := ralive_any B g v d cs nu w h hnu
  have q := al_cases cs nu
  unfold haltC
  generalize alC cs nu = al at q P ⊢
  cases q with
  | none h0 =>
    have HH := Lib.hid h
    clear h h0
    go_enter Try.func15, Try.ntmps15
    go_wp2_with fail
    refine P.mono ?_; rintro e w1 ⟨rfl, rfl⟩
    go_wp2_with fail
    go_ret
    exact ⟨rfl, HH.out, Fr.refl _ _⟩
  | @gone k x h0 hx hn hs =>
    have HH := Lib.hid h
    clear h h0 hx hn hs
    go_enter Try.func15, Try.ntmps15
    go_wp2_with fail
    refine P.mono ?_; rintro e w1 ⟨rfl, rfl⟩
    go_wp2_with fail
    go_ret
    exact ⟨rfl, HH.out, Fr.refl _ _⟩
  | @here k x h0 hx hn hs =>
    have hk := (List.getElem?_eq_some_iff.1 hx).1
    obtain ⟨b, c, rfl⟩ := h.slot hk
    have hc := h.at hx (i := 25) (by omega)
    have hm := List.mem_of_getElem? hx
    rw [Ct.c25 (h.sh x hm)] at hc
    have d1 := h.c1
    have hl := h.le
    have hfz := h.fzr (k * 27 + 25)
    have HH := Lib.hid h
    have R := Lib.hid fun t (ht : 0 ≤ t ∧ t ≤ 255) => (h.put (fun e => h.apart b rfl e.symm) hx (by omega) (Ct.set25 (h.sh x hm) t) (st_ok (h.ok x hm) ht))
    generalize hl2 : cs.length = n at *
    simp only [Al.i, Al.e] at P ⊢
    clear h hx h0 hn hs hm
    cases on
    · go_enter Try.func15, Try.ntmps15
      go_wp2_with fail
      refine P.mono ?_; rintro e w1 ⟨rfl, rfl⟩
      go_wp2_with fail
      go_ret
      exact ⟨rfl, R.out 1 (by decide), Fr.set (.inr rfl) _⟩
    · go_enter Try.func15, Try.ntmps15
      go_wp2_with fail
      refine P.mono ?_; rintro e w1 ⟨rfl, rfl⟩
      go_wp2_with fail
      go_ret
      exact ⟨rfl, R.out 2 (by decide), Fr.set (.inr rfl) _⟩

theorem pr_ok {x : Ct} (h : x.ok) {p : Int} (hp : I64 p) : (Ct.mk x.sp x.st p).ok := ⟨h.sp, h.st, hp⟩
set_option maxRecDepth 100000 in
theorem rpub_any (B g : Nat) (v : Value) (d : Int) (cs : List Ct) (nu p : Int) (w : World) (h : Rc w B g v d cs) (hnu : 0 ≤ nu ∧ nu ≤ 4294967295) (hp : I64 p) :
    Calls Try.prog 17 #[.pointer (some ⟨g, 0, none⟩), .int .u32 nu, .int .i64 p] w fun e w' => e = .returned (.int .i64 (pubA cs nu p)) ∧ Rc w' B g v d (pubC cs nu p) ∧ Fr (RcS g v) w w' := by
  have P := ralive_any B g v d cs nu w h hnu
  have q := al_cases cs nu
  unfold pubA pubC
  generalize alC cs nu = al at q P ⊢
  cases q with
  | none h0 =>
    have HH := Lib.hid h
    clear h h0
    go_enter Try.func17, Try.ntmps17
    go_wp2_with fail
    refine P.mono ?_; rintro e w1 ⟨rfl, rfl⟩
    go_wp2_with fail
    go_ret
    exact ⟨rfl, HH.out, Fr.refl _ _⟩
  | @gone k x h0 hx hn hs =>
    have HH := Lib.hid h
    clear h h0 hx hn hs
    go_enter Try.func17, Try.ntmps17
    go_wp2_with fail
    refine P.mono ?_; rintro e w1 ⟨rfl, rfl⟩
    go_wp2_with fail
    go_ret
    exact ⟨rfl, HH.out, Fr.refl _ _⟩
  | @here k x h0 hx hn hs =>
    have hk := (List.getElem?_eq_some_iff.1 hx).1
    obtain ⟨b, c, rfl⟩ := h.slot hk
    have hm := List.mem_of_getElem? hx
    have HL := Lib.hid (h.sh x hm)
    have HR := Lib.hid (rng_sp (h.rng hx))
    have d1 := h.c1
    have hl := h.le
    have HK := Lib.hid (h.ok x hm)
    have HH := Lib.hid h
    have IP := Lib.hid fun W => risprice_any x.sp p W HK.out.sp
    have HX := Lib.hid hx
    have hb := h.form
    have hbl : b < w.heap.size := by
      rcases h.form with ⟨e, _⟩ | ⟨b', c', e, _, h3⟩
      · cases e
      · cases e; exact h3
    have hgl : g < w.heap.size := (Array.getElem?_eq_some_iff.1 h.blk).1
    have HG := Lib.hid hgl
    generalize hl2 : cs.length = n at *
    simp only [Al.i, Al.e] at P ⊢
    clear h hx h0 hn hs hm hgl hb
    cases hpr : priceB x.sp p
    · rw [hpr] at IP
      go_enter Try.func17, Try.ntmps17
      go_wp2_with fail
      refine P.mono ?_; rintro e w1 ⟨rfl, rfl⟩
      go_wp2_with (refine wl_load_spm b (k * 27) HL.out HR.out rfl ?_)
      refine (IP.out _).mono ?_; rintro e w2 ⟨rfl, q⟩
      have Q := Lib.hid q
      clear q
      go_wp2_with fail
      go_ret
      exact ⟨rfl, HH.out.keep (S := fun _ => False) (Fr.below Q.out) (fun h => h) (fun _ _ h => h), Fr.below Q.out⟩
    · rw [hpr] at IP
      go_enter Try.func17, Try.ntmps17
      go_wp2_with fail
      refine P.mono ?_; rintro e w1 ⟨rfl, rfl⟩
      go_wp2_with (refine wl_load_spm b (k * 27) HL.out HR.out rfl ?_)
      refine (IP.out _).mono ?_; rintro e w2 ⟨rfl, q⟩
      have H2 := Lib.hid (HH.out.keep (S := fun _ => False) (Fr.below q) (fun h => h) (fun _ _ h => h))
      have d2 := H2.out.c1
      have hc := H2.out.at HX.out (i := 26) (by omega)
      rw [Ct.c26 HL.out] at hc
      have hfz := H2.out.fzr (k * 27 + 26)
      have Q := Lib.hid q
      clear q
      go_wp2_with fail
      go_ret
      exact ⟨rfl, H2.out.put (fun e => H2.out.apart b rfl e.symm) HX.out (by omega) (Ct.set26 HL.out p) (pr_ok HK.out hp), (Fr.below Q.out).same (Fr.set (.inr rfl) _)⟩
end Go.Proofs.Ytejhnfkljfdejaa
