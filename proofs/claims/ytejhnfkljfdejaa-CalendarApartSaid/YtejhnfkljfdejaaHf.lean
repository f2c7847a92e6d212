/- The program's calendar: due, Due, Expire, Publish, Get. -/
import Derived.Test.YtejhnfkljfdejaaHe
namespace Go.Proofs.Ytejhnfkljfdejaa
open Go.RowKit
set_option linter.unusedVariables false

theorem due_none {d : Int} {cs : List Ct} {nu : Int} {a : Al} (ha : alC cs nu = a) (hn : ∀ k x, a ≠ .here k x) : dueA d cs nu = a.e := by
  unfold dueA
  rw [ha]
  cases a with
  | here k x => exact absurd rfl (hn k x)
  | _ => rfl
def dueP (v : Value) (d : Int) (cs : List Ct) (nu : Int) : Value := if dueA d cs nu = 0 then alP v (alC cs nu) else .pointer none
set_option maxRecDepth 100000 in
theorem due_in (g : Nat) (v : Value) (d : Int) (cs : List Ct) (nu : Int) (w : World) (h : Rp w g v d cs) (hnu : 0 ≤ nu ∧ nu ≤ 4294967295) :
    Calls Try.prog 41 #[.pointer (some ⟨g, 0, none⟩), .int .u32 nu] w fun e w' => e = .returned (.tuple #[dueP v d cs nu, .int .i64 (dueA d cs nu)]) ∧ Below w.heap.size w w' := by
  have P := living_any g v d cs nu w h hnu
  have q := al_cases cs nu
  obtain ⟨al, hal⟩ : ∃ a, alC cs nu = a := ⟨_, rfl⟩
  obtain ⟨pp, hpp⟩ : ∃ p, dueP v d cs nu = p := ⟨_, rfl⟩
  rw [hpp]
  unfold dueP at hpp
  rw [hal] at q P hpp
  cases q with
  | none h0 =>
    rw [due_none hal (fun k x h => by cases h)]
    simp only [alP, Al.e, ite_self] at P hpp ⊢
    subst hpp
    clear h h0 hal
    go_enter Try.func41, Try.ntmps41
    go_wp2_with fail
    refine P.mono ?_; rintro e w1 ⟨rfl, q⟩
    have Q := Lib.hid q
    clear q
    go_wp2_with fail
    go_ret2
    exact ⟨rfl, Q.out.trans ((below_new _ _).mono Q.out.size)⟩
  | @gone k x h0 hx hn hs =>
    rw [due_none hal (fun k x h => by cases h)]
    simp only [alP, Al.e, ite_self] at P hpp ⊢
    subst hpp
    clear h h0 hal hx hn hs
    go_enter Try.func41, Try.ntmps41
    go_wp2_with fail
    refine P.mono ?_; rintro e w1 ⟨rfl, q⟩
    have Q := Lib.hid q
    clear q
    go_wp2_with fail
    go_ret2
    exact ⟨rfl, Q.out.trans ((below_new _ _).mono Q.out.size)⟩
  | @here k x h0 hx hn hs =>
    have hk := (List.getElem?_eq_some_iff.1 hx).1
    obtain ⟨b, c, rfl⟩ := h.slot hk
    have E : Hid (dueA d cs nu = if d < x.sp.la then 51 else if firstC cs cs.length = k then 0 else 51) := Lib.hid (by unfold dueA; rw [hal])
    have AW := Lib.hid (any_wait h.up hx hs)
    have HH := Lib.hid h
    have HX := Lib.hid hx
    have d1 := Lib.hid fun W q => (h.below (W' := W) q).c1
    have d2 := Lib.hid fun W q => (h.below (W' := W) q).c2
    have RG := Lib.hid fun W q => (h.below (W' := W) q).rng hx
    have RD := Lib.hid fun W q => (h.below (W' := W) q).read
    have OK := Lib.hid h.ok
    have LA := Lib.hid fun W q => (h.below (W' := W) q).at hx (i := 23) (by omega)
    rw [Ct.spc (h.sh x (List.mem_of_getElem? hx)) (by omega), Sp.c23 (h.sh x (List.mem_of_getElem? hx))] at LA
    have XK := Lib.hid (h.ok x (List.mem_of_getElem? hx))
    obtain ⟨hd1, hd2⟩ := h.dy
    obtain ⟨la1, la2⟩ := XK.out.sp.la
    have hl16 := h.le
    simp only [alP] at P hpp
    simp only [Al.e] at P
    have PP := Lib.hid hpp
    clear h h0 hal hx hn hs hk hpp
    generalize hl : cs.length = n at *
    generalize firstC cs n = fi at *
    generalize dueA d cs nu = rr at *
    obtain ⟨la, hla⟩ : ∃ la, x.sp.la = la := ⟨_, rfl⟩
    rw [hla] at E LA la1 la2
    go_enter Try.func41, Try.ntmps41
    go_wp2_with fail
    refine P.mono ?_; rintro e w1 ⟨rfl, q⟩
    have Q := Lib.hid (q.trans ((below_new w1 (.cells #[.pointer (some ⟨b, k * 27, none⟩)] 73)).mono q.size))
    have hnew : (w1.alloc (.cells #[.pointer (some ⟨b, k * 27, none⟩)] 73)).cell? ⟨w1.heap.size, 0, none⟩ = some (.pointer (some ⟨b, k * 27, none⟩)) := by rw [cell_of_row _ _ _ _ _ _ (heap_alloc_new w1 _)]; rfl
    have HN := Lib.hid hnew
    have e2 := d2.out _ Q.out
    clear q
    go_wp2_with fail
    have T : Tests 59 #[.pointer (some ⟨w1.heap.size, 0, none⟩)] (fun o => waitB o x) (w1.alloc (.cells #[.pointer (some ⟨b, k * 27, none⟩)] 73)) := fun W o hb ho =>
      dclo_any o x w1.heap.size b (k * 27) W ho XK.out (cell_below HN.out hb (Nat.le_refl _)) (RG.out W (Q.out.trans (hb.mono Q.out.size)))
    refine (contains_any 59 _ (fun o => waitB o x) (some ⟨b, 0, none⟩) n c cs _ (enters_of Try.func59 (by kernel_rfl) rfl) T (RD.out _ Q.out) OK.out (by omega)).mono ?_; rintro e w2 ⟨rfl, q2⟩
    have Q2 := Lib.hid (Q.out.trans (q2.mono Q.out.size))
    have f1 := d1.out _ Q2.out
    have f2 := LA.out _ Q2.out
    have f3 := cell_below HN.out q2 (Nat.le_refl _)
    clear q2 T e2 hnew
    rw [AW.out]
    cases h1 : decide (d < la)
    · by_cases h2 : fi = k
      · have E1 := Lib.hid (E.out.trans ((if_neg (of_decide_eq_false h1)).trans (if_pos h2)))
        rw [decide_eq_false (fun c => c h2)]
        clear h2 AW
        go_wp2_with fail
        go_quiet (fail)
        go_wp2_with fail
        go_ret2
        rw [← PP.out, E1.out]
        exact ⟨rfl, below_drewN Q2.out _⟩
      · have E1 := Lib.hid (E.out.trans ((if_neg (of_decide_eq_false h1)).trans (if_neg h2)))
        rw [decide_eq_true h2]
        clear h2 AW
        go_wp2_with fail
        go_quiet (fail)
        go_wp2_with fail
        go_ret2
        rw [← PP.out, E1.out]
        exact ⟨rfl, below_drewN Q2.out _⟩
    · have E1 := Lib.hid (E.out.trans (if_pos (of_decide_eq_true h1)))
      generalize decide (fi ≠ k) = bb at *
      clear AW
      go_wp2_with fail
      go_quiet (fail)
      go_wp2_with fail
      go_ret2
      rw [← PP.out, E1.out]
      exact ⟨rfl, below_drewN Q2.out _⟩
set_option maxRecDepth 100000 in
theorem due_any (g : Nat) (v : Value) (d : Int) (cs : List Ct) (nu : Int) (w : World) (h : Rp w g v d cs) (hnu : 0 ≤ nu ∧ nu ≤ 4294967295) :
    Calls Try.prog 18 #[.pointer (some ⟨g, 0, none⟩), .int .u32 nu] w fun e w' => e = .returned (.int .i64 (dueA d cs nu)) ∧ Below w.heap.size w w' := by
  have P := due_in g v d cs nu w h hnu
  generalize dueA d cs nu = r at *
  generalize dueP v d cs nu = p at *
  clear h
  go_enter Try.func18, Try.ntmps18
  go_wp2_with fail
  refine P.mono ?_; rintro e w1 ⟨rfl, q⟩
  have Q := Lib.hid q
  clear q
  go_wp2_with fail
  go_ret
  exact ⟨rfl, Q.out⟩
theorem due_i64 (d : Int) (cs : List Ct) (nu : Int) : dueA d cs nu = 0 ∨ dueA d cs nu = 7 ∨ dueA d cs nu = 50 ∨ dueA d cs nu = 51 := by
  unfold dueA
  cases alC cs nu with
  | none => exact .inr (.inl rfl)
  | gone k x => exact .inr (.inr (.inl rfl))
  | here k x =>
    simp only
    split
    · exact .inr (.inr (.inr rfl))
    · split
      · exact .inl rfl
      · exact .inr (.inr (.inr rfl))
set_option maxRecDepth 100000 in
theorem exp_any (g : Nat) (v : Value) (d : Int) (cs : List Ct) (nu : Int) (w : World) (h : Rp w g v d cs) (hnu : 0 ≤ nu ∧ nu ≤ 4294967295) :
    Calls Try.prog 20 #[.pointer (some ⟨g, 0, none⟩), .int .u32 nu] w fun e w' => e = .returned (.int .i64 (dueA d cs nu)) ∧ Rp w' g v d (expC d cs nu) ∧ Fr (RcS g v) w w' := by
  have P := due_in g v d cs nu w h hnu
  by_cases h0 : dueA d cs nu = 0
  · have q := al_cases cs nu
    unfold dueP at P
    rw [if_pos h0, h0] at P
    have EC : expC d cs nu = match alC cs nu with | .here k x => cs.set k ⟨x.sp, 3, x.pr⟩ | _ => cs := by
      unfold expC
      cases alC cs nu <;> simp [h0]
    rw [EC, h0]
    have hne : ∀ a, alC cs nu = a → a.e ≠ 0 → False := fun a ha hn => by
      have := due_none (d := d) ha (fun k x e => by rw [e] at hn; exact hn rfl)
      omega
    obtain ⟨al, hal⟩ : ∃ a, alC cs nu = a := ⟨_, rfl⟩
    rw [hal] at q P ⊢
    cases q with
    | none _ => exact (hne _ hal (by decide)).elim
    | gone _ _ _ _ => exact (hne _ hal (by simp [Al.e])).elim
    | @here k x h1 hx hn hs =>
      have hk := (List.getElem?_eq_some_iff.1 hx).1
      obtain ⟨b, c, rfl⟩ := h.slot hk
      have hm := List.mem_of_getElem? hx
      have HC := Lib.hid fun W q => (h.below (W' := W) q).at hx (i := 25) (by omega)
      rw [Ct.c25 (h.sh x hm)] at HC
      have HZ := Lib.hid fun W q => (h.below (W' := W) q).fzr (k * 27 + 25)
      have R := Lib.hid fun W q t (ht : 0 ≤ t ∧ t ≤ 255) => ((h.below (W' := W) q).put hx (by omega) (Ct.set25 (h.sh x hm) t) (st_put (h.ok x hm) ht) rfl)
      simp only [alP] at P ⊢
      clear h hx h1 hn hs hm hk hal hne EC h0
      go_enter Try.func20, Try.ntmps20
      go_wp2_with fail
      refine P.mono ?_; rintro e w1 ⟨rfl, q⟩
      have Q := Lib.hid q
      have hc := HC.out _ q
      have hz := HZ.out _ q
      clear q
      go_wp2_with fail
      go_ret
      exact ⟨rfl, R.out _ Q.out 3 (by decide), (Fr.below Q.out).same (Fr.set (.inr rfl) _)⟩
  · have E : expC d cs nu = cs := by
      unfold expC
      cases alC cs nu <;> simp [h0]
    rw [E]
    unfold dueP at P
    rw [if_neg h0] at P
    have HH := Lib.hid h
    have h1 : (dueA d cs nu != 0) = true := bne_iff_ne.2 h0
    generalize dueA d cs nu = r at *
    clear h E h0
    go_enter Try.func20, Try.ntmps20
    go_wp2_with fail
    refine P.mono ?_; rintro e w1 ⟨rfl, q⟩
    have Q := Lib.hid q
    clear q
    go_wp2_with fail
    go_ret
    exact ⟨rfl, HH.out.below Q.out, Fr.below Q.out⟩
theorem pr_put {x : Ct} (h : x.ok) {p : Int} (hp : I64 p) : (Ct.mk x.sp x.st p).ok := ⟨h.sp, h.st, hp⟩
set_option maxRecDepth 100000 in
theorem pub_any (g : Nat) (v : Value) (d : Int) (cs : List Ct) (nu p : Int) (w : World) (h : Rp w g v d cs) (hnu : 0 ≤ nu ∧ nu ≤ 4294967295) (hp : I64 p) :
    Calls Try.prog 16 #[.pointer (some ⟨g, 0, none⟩), .int .u32 nu, .int .i64 p] w fun e w' => e = .returned (.int .i64 (pubA cs nu p)) ∧ Rp w' g v d (pubC cs nu p) ∧ Fr (RcS g v) w w' := by
  have P := living_any g v d cs nu w h hnu
  have q := al_cases cs nu
  unfold pubA pubC
  generalize alC cs nu = al at q P ⊢
  cases q with
  | none h0 =>
    have HH := Lib.hid h
    simp only [alP, Al.e] at P ⊢
    clear h h0
    go_enter Try.func16, Try.ntmps16
    go_wp2_with fail
    refine P.mono ?_; rintro e w1 ⟨rfl, q⟩
    have Q := Lib.hid q
    clear q
    go_wp2_with fail
    go_ret
    exact ⟨rfl, HH.out.below Q.out, Fr.below Q.out⟩
  | @gone k x h0 hx hn hs =>
    have HH := Lib.hid h
    simp only [alP, Al.e] at P ⊢
    clear h h0 hx hn hs
    go_enter Try.func16, Try.ntmps16
    go_wp2_with fail
    refine P.mono ?_; rintro e w1 ⟨rfl, q⟩
    have Q := Lib.hid q
    clear q
    go_wp2_with fail
    go_ret
    exact ⟨rfl, HH.out.below Q.out, Fr.below Q.out⟩
  | @here k x h0 hx hn hs =>
    have hk := (List.getElem?_eq_some_iff.1 hx).1
    obtain ⟨b, c, rfl⟩ := h.slot hk
    have hm := List.mem_of_getElem? hx
    have HL := Lib.hid (h.sh x hm)
    have HK := Lib.hid (h.ok x hm)
    have HH := Lib.hid h
    have IP := Lib.hid fun W => pisprice_any x.sp p W HK.out.sp
    have RG := Lib.hid fun W q => rng_sp ((h.below (W' := W) q).rng hx)
    have HC := Lib.hid fun W q => (h.below (W' := W) q).at hx (i := 26) (by omega)
    rw [Ct.c26 (h.sh x hm)] at HC
    have HZ := Lib.hid fun W q => (h.below (W' := W) q).fzr (k * 27 + 26)
    have R := Lib.hid fun W q => ((h.below (W' := W) q).put hx (by omega) (Ct.set26 (h.sh x hm) p) (pr_put (h.ok x hm) hp) rfl)
    simp only [alP, Al.e] at P ⊢
    clear h hx h0 hn hs hm hk hp
    cases hpr : priceB x.sp p
    · rw [hpr] at IP
      go_enter Try.func16, Try.ntmps16
      go_wp2_with fail
      refine P.mono ?_; rintro e w1 ⟨rfl, q⟩
      have Q := Lib.hid q
      have rg := Lib.hid (RG.out _ q)
      clear q
      go_wp2_with (refine wl_load_spm b (k * 27) HL.out rg.out rfl ?_)
      refine (IP.out _).mono ?_; rintro e w2 ⟨rfl, q⟩
      have Q2 := Lib.hid (Q.out.trans (q.mono Q.out.size))
      clear q
      go_wp2_with fail
      go_ret
      exact ⟨rfl, HH.out.below Q2.out, Fr.below Q2.out⟩
    · rw [hpr] at IP
      go_enter Try.func16, Try.ntmps16
      go_wp2_with fail
      refine P.mono ?_; rintro e w1 ⟨rfl, q⟩
      have Q := Lib.hid q
      have rg := Lib.hid (RG.out _ q)
      clear q
      go_wp2_with (refine wl_load_spm b (k * 27) HL.out rg.out rfl ?_)
      refine (IP.out _).mono ?_; rintro e w2 ⟨rfl, q⟩
      have Q2 := Lib.hid (Q.out.trans (q.mono Q.out.size))
      have hc := HC.out _ Q2.out
      have hz := HZ.out _ Q2.out
      clear q
      go_wp2_with fail
      go_ret
      exact ⟨rfl, R.out _ Q2.out, (Fr.below Q2.out).same (Fr.set (.inr rfl) _)⟩
theorem row_in {w W : World} {x : Ct} {g : Nat} (h : w.heap.size ≤ g) (q : Below w.heap.size w W) : Below w.heap.size w (W.setRow g x.cells) := below_row' q h
theorem zero_build : Try.prog.built 45 [] = some zeroCt.cells := by kernel_rfl
theorem wl_build0 {ops : Array Oper} {rest : List Oper} {a : Act} {w : World} {Q : Exit → Act → World → Prop} {d : Option Tmp} {ty : TypeId} {pos : String} {af : Array Edge} (h : wpList Try.prog ops Q rest (a.put d (.agg zeroCt.cells)) w) :
    wpList Try.prog ops Q ({ dst := d, op := .build 45 #[], type := ty, pos := pos, after := af, guard := none } :: rest) a w := by
  have e : ∀ f : (Nat × Operand) → (Nat × Value), (Array.map f #[]).toList = [] := fun f => by simp
  refine wpList_build rfl 45 #[] rfl (by rw [e, zero_build]; rfl) ?_
  rw [e, zero_build]
  exact h
set_option maxRecDepth 100000 in
set_option maxHeartbeats 2000000 in
theorem get_any (g : Nat) (v : Value) (d : Int) (cs : List Ct) (nu : Int) (w : World) (h : Rp w g v d cs) (hnu : 0 ≤ nu ∧ nu ≤ 4294967295) :
    Calls Try.prog 24 #[.pointer (some ⟨g, 0, none⟩), .int .u32 nu] w fun e w' => e = .returned (.tuple #[.agg (getC cs nu).cells, .int .i64 (getA cs nu)]) ∧ Below w.heap.size w w' := by
  have hz := zero_ct
  obtain ⟨W1, hW1⟩ : ∃ W1, w.alloc (.cells zeroCt.cells 45) = W1 := ⟨_, rfl⟩
  have B1 := below_new w (.cells zeroCt.cells 45)
  have CB := cb_new w (x := zeroCt) rfl
  rw [hW1] at B1 CB
  have HC := Lib.hid (h.below B1)
  have HB := Lib.hid B1
  have HCB := Lib.hid CB
  have HW := Lib.hid hW1
  have BS := Lib.hid fun (W : World) (q : Below W1.heap.size W1 W) => (show Cb W w.heap.size zeroCt from ⟨(q.block _ (Array.getElem?_eq_some_iff.1 CB.1).1).trans CB.1, rfl⟩)
  unfold getC getA
  cases hp : placeC cs nu with
  | none =>
    have P := at_none g v d cs nu W1 HC.out hnu hp
    clear hp h B1 CB hW1
    go_enter Try.func24, Try.ntmps24
    go_wp2_with fail
    rw [HW.out]
    refine P.mono ?_; rintro e w1 ⟨rfl, q⟩
    have Q := Lib.hid q
    clear q
    go_wp2_with (first | (refine wl_build0 ?_) | (refine wl_store_ct zeroCt w.heap.size (BS.out _ Q.out) rfl rfl rfl ?_))
    have F := row_in (x := zeroCt) (Nat.le_refl _) (HB.out.trans (Q.out.mono HB.out.size))
    exact bodyPost_ret (ret_ct rfl _ _ w.heap.size rfl rfl (cb_set (BS.out _ Q.out) rfl)) rfl ⟨rfl, F⟩
  | some k =>
    obtain ⟨x, hx, hn⟩ := placeC_at hp
    simp only [hx]
    have hk := (List.getElem?_eq_some_iff.1 hx).1
    obtain ⟨b, c, rfl⟩ := h.slot hk
    have P := at_some g b _ c d cs nu k W1 HC.out hnu hp
    have HL := Lib.hid (h.sh x (List.mem_of_getElem? hx))
    have RG := Lib.hid fun W q => (HC.out.below (W' := W) q).rng hx
    clear hp h B1 CB hW1 hx hn hk
    go_enter Try.func24, Try.ntmps24
    go_wp2_with fail
    rw [HW.out]
    refine P.mono ?_; rintro e w1 ⟨rfl, q⟩
    have Q := Lib.hid q
    have rg := Lib.hid (RG.out _ q)
    clear q
    go_wp2_with (first | (refine wl_load_ctm b (k * 27) HL.out rg.out rfl ?_) | (refine wl_store_ct x w.heap.size (BS.out _ Q.out) HL.out rfl rfl ?_))
    have F := row_in (x := x) (Nat.le_refl _) (HB.out.trans (Q.out.mono HB.out.size))
    exact bodyPost_ret (ret_ct rfl _ _ w.heap.size rfl rfl (cb_set (BS.out _ Q.out) HL.out)) rfl ⟨rfl, F⟩
end Go.Proofs.Ytejhnfkljfdejaa
