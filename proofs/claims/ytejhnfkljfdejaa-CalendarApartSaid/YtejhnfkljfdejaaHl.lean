/- The program's calendar: New, Copy, From. -/
import Derived.Test.YtejhnfkljfdejaaHk
namespace Go.Proofs.Ytejhnfkljfdejaa
open Go.RowKit
set_option linter.unusedVariables false

theorem up_nil : Up [] := List.Pairwise.nil
theorem rp_nil (w : World) : Rp (w.alloc (.cells #[.bool true, .int .u32 0, .slice none 0 0] 51)) w.heap.size (.slice none 0 0) 0 [] :=
  ⟨heap_alloc_new w _, ⟨rfl, .inl ⟨rfl, rfl⟩⟩, by simp, (fun x hx => by cases hx), by decide, ⟨none, 0, rfl⟩, up_nil, (fun x hx => by cases hx)⟩
set_option maxRecDepth 100000 in
theorem new_any (w : World) : Calls Try.prog 8 #[] w fun e w' => e = .returned (.pointer (some ⟨w.heap.size, 0, none⟩)) ∧ Rp w' w.heap.size (.slice none 0 0) 0 [] ∧ Below w.heap.size w w' := by
  have R := Lib.hid (rp_nil w)
  go_enter Try.func8, Try.ntmps8
  go_wp2_with fail
  go_ret
  exact ⟨rfl, R.out, below_new _ _⟩
set_option maxRecDepth 100000 in
theorem clone_any (A : Option Addr) (n c : Nat) (cs : List Ct) (w : World) (h : RdC w A n cs) (hn : n ≤ 1000) (h0 : A = none → c = 0) (hs : ∀ y, y ∈ cs → y.sp.sh.length = 16) :
    Calls Try.prog 42 #[.slice A n c] w fun e w' => ∃ v, e = .returned v ∧ w'.ownsRow w.heap.size 45 27 v n (flat cs) ∧ Below w.heap.size w w' := by
  have q := fun (w : World) (a : Option Addr) (n c n' c' : Nat) => Lib.run_eql_slice_nil (P := Try.prog) w 27 45 a n c n' c' Try.underlying27
  cases A with
  | none =>
    have hz := h.2.1 rfl
    have hc := h0 rfl
    subst hz hc
    have e : cs = [] := List.eq_nil_of_length_eq_zero h.1
    subst e
    clear h
    go_enter Try.func42, Try.ntmps42
    go_wp2
    go_ret
    exact ⟨_, rfl, World.ownsRow_nil _ _ _ _, Below.refl _ _⟩
  | some ad =>
    have O := Lib.hid (own_nil w)
    have R := Lib.hid (rdc_below h (below_new w (.cells #[] 45)) (Nat.le_refl _))
    have HS := Lib.hid hs
    have B := Lib.hid (below_new w (.cells #[] 45))
    clear h hs h0
    go_enter Try.func42, Try.ntmps42
    go_wp2_with (at_builtin; refine wpl_app rfl _ _ rfl w.heap.size _ 0 [] rfl O.out (some ad) n c cs rfl R.out (fun e => by cases e) HS.out (by omega) (by simp) ?_; intro v' w' h1 h2)
    go_ret
    rw [Nat.zero_add] at h1
    exact ⟨_, rfl, h1, B.out.grown h2 (by simp) (fun k e => (by cases e; exact Nat.le_refl _))⟩
theorem own_to0 {w : World} {B e size n : Nat} {v : Value} {xs : List Value} (o : w.ownsRow B e size v n xs) : w.ownsRow 0 e size v n xs := by
  refine ⟨o.1, ?_⟩
  rcases o.2 with q | ⟨b, c, cur, e, hb, r⟩
  · exact .inl q
  · exact .inr ⟨b, c, cur, e, Nat.zero_le _, r⟩
theorem own_alloc {w : World} {B e size n : Nat} {v : Value} {xs : List Value} {o : Obj} (h : w.ownsRow B e size v n xs) : (w.alloc o).ownsRow B e size v n xs := by
  refine ⟨h.1, ?_⟩
  rcases h.2 with q | ⟨b, c, cur, e, hb, hh, r⟩
  · exact .inl q
  · exact .inr ⟨b, c, cur, e, hb, ((below_new w o).block b (Array.getElem?_eq_some_iff.1 hh).1).trans hh, r⟩
theorem own_form1 {w : World} {B e size n : Nat} {v : Value} {xs : List Value} (o : w.ownsRow B e size v n xs) : ∃ A c, v = .slice A n c := by
  rcases o.2 with ⟨rfl, rfl⟩ | ⟨b, c, cur, e, _⟩
  · exact ⟨none, 0, rfl⟩
  · exact ⟨_, _, e⟩
/-- A calendar built of a day and a row. -/
theorem rp_built {w : World} {B : Nat} {v : Value} {d : Int} {cs : List Ct} (o : w.ownsRow B 45 27 v cs.length (flat cs)) (le : cs.length ≤ 16) (ok : ∀ x, x ∈ cs → x.ok) (dy : 0 ≤ d ∧ d ≤ 4294967295) (up : Up cs) (pos : ∀ x, x ∈ cs → 1 ≤ x.sp.nu) :
    Rp (w.alloc (.cells #[.bool true, .int .u32 d, v] 51)) w.heap.size v d cs :=
  ⟨heap_alloc_new w _, own_alloc (own_to0 o), le, ok, dy, own_form1 o, up, pos⟩
theorem built_cal (d : Int) (A : Option Addr) (n c : Nat) : Try.prog.built 51 [(0, .bool true), (1, .int .u32 d), (2, .slice A n c)] = some #[.bool true, .int .u32 d, .slice A n c] := by kernel_rfl
set_option maxRecDepth 100000 in
set_option maxHeartbeats 1000000 in
theorem copy_any (g : Nat) (v : Value) (d : Int) (cs : List Ct) (w : World) (h : Rp w g v d cs) :
    Calls Try.prog 22 #[.pointer (some ⟨g, 0, none⟩)] w fun e w' => ∃ g2 v2, e = .returned (.pointer (some ⟨g2, 0, none⟩)) ∧ Rp w' g2 v2 d cs ∧ Below w.heap.size w w' ∧ ∀ k, RcS g2 v2 k → w.heap.size ≤ k := by
  have M := missing_no h.c0
  obtain ⟨A, c, rfl⟩ := h.one
  have HH := Lib.hid h
  have C1 := Lib.hid fun (W : World) (q : Below w.heap.size w W) => (h.below q).c1
  have C2 := Lib.hid fun (W : World) (q : Below w.heap.size w W) => (h.below q).c2
  have CL := Lib.hid fun (W : World) (q : Below w.heap.size w W) => clone_any A cs.length c cs W (h.below q).read (by have := h.le; omega) (fun e => by
    rcases h.own.2 with ⟨e1, _⟩ | ⟨b, c1, cur, e1, _⟩
    · injection e1
    · subst e; cases e1) h.sh
  obtain ⟨d1, d2⟩ := h.dy
  obtain ⟨n, hl⟩ : ∃ n, cs.length = n := ⟨_, rfl⟩
  have HL := Lib.hid hl
  rw [hl] at CL C2
  clear h hl
  go_enter Try.func22, Try.ntmps22
  go_wp2_with fail
  refine M.mono ?_; rintro e w2 ⟨rfl, rfl⟩
  go_wp2_with fail
  refine wp_region_held_drew (S := fun U => Below w.heap.size w U) (by kernel_rfl) (Below.refl _ _).drew (fun hH => ?_)
  refine wpAnyH_take (i := 0) (v := .pointer (some ⟨g, 0, none⟩)) rfl (by kernel_rfl) (by kernel_rfl) (by kernel_rfl) (fun _ _ _ h => h) (.inl ⟨by rfl, ?_⟩) (by assumption) ?_
  · intro W hW; go_simp
  try simp only [List.getElem_toArray, List.getElem_cons_zero, Act.put, List.setIfInBounds_toArray, List.set_cons_zero, List.set_cons_succ]
  refine wpAnyH_take (i := 1) (v := .pointer (some ⟨g, 0, none⟩)) rfl (by kernel_rfl) (by kernel_rfl) (by kernel_rfl) (fun _ _ _ h => h) (.inl ⟨by rfl, ?_⟩) (by assumption) ?_
  · intro W hW; go_simp
  try simp only [List.getElem_toArray, List.getElem_cons_zero, List.getElem_cons_succ, Act.put, List.setIfInBounds_toArray, List.set_cons_zero, List.set_cons_succ]
  refine wpAnyH_take (i := 2) (v := .pointer (some ⟨g, 1, none⟩)) rfl (by kernel_rfl) (by kernel_rfl) (by kernel_rfl) (fun _ _ _ h => h) (.inl ⟨by rfl, ?_⟩) (by assumption) ?_
  · intro W hW; go_simp
  try simp only [List.getElem_toArray, List.getElem_cons_zero, List.getElem_cons_succ, Act.put, List.setIfInBounds_toArray, List.set_cons_zero, List.set_cons_succ]
  refine wpAnyH_take (i := 3) (v := .int .u32 d) rfl (by kernel_rfl) (by kernel_rfl) (by kernel_rfl) (fun _ _ _ h => h) (.inl ⟨by rfl, ?_⟩) (by assumption) ?_
  · intro W hW; have h1 := C1.out W hW; go_simp
  try simp only [List.getElem_toArray, List.getElem_cons_zero, List.getElem_cons_succ, Act.put, List.setIfInBounds_toArray, List.set_cons_zero, List.set_cons_succ]
  refine wpAnyH_take (i := 4) (v := .pointer (some ⟨g, 0, none⟩)) rfl (by kernel_rfl) (by kernel_rfl) (by kernel_rfl) (fun _ _ _ h => h) (.inl ⟨by rfl, ?_⟩) (by assumption) ?_
  · intro W hW; go_simp
  try simp only [List.getElem_toArray, List.getElem_cons_zero, List.getElem_cons_succ, Act.put, List.setIfInBounds_toArray, List.set_cons_zero, List.set_cons_succ]
  refine wpAnyH_take (i := 5) (v := .pointer (some ⟨g, 0, none⟩)) rfl (by kernel_rfl) (by kernel_rfl) (by kernel_rfl) (fun _ _ _ h => h) (.inl ⟨by rfl, ?_⟩) (by assumption) ?_
  · intro W hW; go_simp
  try simp only [List.getElem_toArray, List.getElem_cons_zero, List.getElem_cons_succ, Act.put, List.setIfInBounds_toArray, List.set_cons_zero, List.set_cons_succ]
  refine wpAnyH_take (i := 6) (v := .pointer (some ⟨g, 2, none⟩)) rfl (by kernel_rfl) (by kernel_rfl) (by kernel_rfl) (fun _ _ _ h => h) (.inl ⟨by rfl, ?_⟩) (by assumption) ?_
  · intro W hW; go_simp
  try simp only [List.getElem_toArray, List.getElem_cons_zero, List.getElem_cons_succ, Act.put, List.setIfInBounds_toArray, List.set_cons_zero, List.set_cons_succ]
  refine wpAnyH_take (i := 7) (v := .slice A n c) rfl (by kernel_rfl) (by kernel_rfl) (by kernel_rfl) (fun _ _ _ h => h) (.inl ⟨by rfl, ?_⟩) (by assumption) ?_
  · intro W hW; have h1 := C2.out W hW; go_simp
  try simp only [List.getElem_toArray, List.getElem_cons_zero, List.getElem_cons_succ, Act.put, List.setIfInBounds_toArray, List.set_cons_zero, List.set_cons_succ]
  refine wpAnyH_ready (rs := [8]) (by decide +kernel) (by simp) (AllReadyH.cons rfl (fun KQ hK => ?_) AllReadyH.nil)
  go_simp
  refine (CL.out _ hH).mono ?_; rintro e0 W1 ⟨v2, rfl, o1, q1⟩
  have hH1 := hH.trans (q1.mono hH.size)
  obtain ⟨A2, c2, rfl⟩ := own_form1 o1
  have O1 := Lib.hid o1
  have HS := Lib.hid hH.size
  refine hK.out _ _ hH1 (fun _ => ?_)
  clear hK q1 o1 hH
  try simp only [List.setIfInBounds_toArray, List.set_cons_zero, List.set_cons_succ]
  refine wpAnyH_take (i := 9) (v := .agg #[.bool true, .int .u32 d, .slice A2 n c2]) rfl (by kernel_rfl) (by kernel_rfl) (by kernel_rfl) (fun _ _ _ h => h) (.inl ⟨by rfl, ?_⟩) (by assumption) ?_
  · intro W hW; go_simp
  try simp only [List.getElem_toArray, List.getElem_cons_zero, List.getElem_cons_succ, Act.put, List.setIfInBounds_toArray, List.set_cons_zero, List.set_cons_succ]
  refine wpAnyH_ready (rs := [10]) (by decide +kernel) (by simp) (AllReadyH.cons rfl (fun KQ hK => ?_) AllReadyH.nil)
  go_simp
  have hH2 := hH1.trans ((below_new W1 (.cells #[.bool true, .int .u32 d, .slice A2 n c2] 51)).mono hH1.size)
  refine hK.out _ _ hH2 (fun _ => ?_)
  clear hK
  try simp only [List.setIfInBounds_toArray, List.set_cons_zero, List.set_cons_succ]
  refine wpAnyH_take (i := 11) (v := .pointer (some ⟨W1.heap.size, 0, none⟩)) rfl (by kernel_rfl) (by kernel_rfl) (by kernel_rfl) (fun _ _ _ h => h) (.inl ⟨by rfl, ?_⟩) (by assumption) ?_
  · intro W hW; go_simp
  try simp only [List.getElem_toArray, List.getElem_cons_zero, List.getElem_cons_succ, Act.put, List.setIfInBounds_toArray, List.set_cons_zero, List.set_cons_succ]
  refine wpAnyH_done (by decide +kernel) ?_ _
  have B2 := Lib.hid hH2
  have B1 := Lib.hid hH1
  clear hH1 hH2
  go_wp2_with fail
  go_ret
  have OO := O1.out
  rw [← HL.out] at OO
  refine ⟨_, _, rfl, by rw [← HL.out]; exact rp_built OO HH.out.le HH.out.ok HH.out.dy HH.out.up HH.out.pos, B2.out, fun k hk => ?_⟩
  rcases hk with rfl | hk
  · exact B1.out.size
  · rw [HL.out] at hk
    exact Nat.le_trans HS.out (own_ge O1.out hk).1
/-- The numbers rise, place by place. -/
def riseB (l : List Ct) : Bool := (List.range l.length).all fun i => decide (i = 0) || decide (nuOf l (i - 1) < nuOf l i)
theorem nu_of {l : List Ct} {i : Nat} {x : Ct} (h : l[i]? = some x) : nuOf l i = x.sp.nu := by unfold nuOf; rw [h]
theorem rise_bad {l : List Ct} {i : Nat} {x y : Ct} (hx : l[i]? = some x) (hy : l[i + 1]? = some y) (h : y.sp.nu ≤ x.sp.nu) : riseB l = false := by
  unfold riseB
  refine List.all_eq_false.2 ⟨i + 1, List.mem_range.2 (List.getElem?_eq_some_iff.1 hy).1, ?_⟩
  rw [decide_eq_false (by omega), show i + 1 - 1 = i by omega, nu_of hx, nu_of hy, decide_eq_false (by omega)]
  decide
theorem rise_good {l : List Ct} (h : ∀ (i : Nat) (x y : Ct), l[i]? = some x → l[i + 1]? = some y → x.sp.nu < y.sp.nu) : riseB l = true := by
  unfold riseB
  refine List.all_eq_true.2 fun i hi => ?_
  have hi := List.mem_range.1 hi
  cases i with
  | zero => rfl
  | succ i =>
    have hx : l[i]? = some (l[i]'(by omega)) := List.getElem?_eq_getElem _
    have hy : l[i + 1]? = some (l[i + 1]'hi) := List.getElem?_eq_getElem _
    rw [show i + 1 - 1 = i by omega, nu_of hx, nu_of hy, decide_eq_true (h i _ _ hx hy)]
    simp
theorem rise_up {l : List Ct} (h : riseB l = true) : Up l := by
  have adj : ∀ (i : Nat) (x y : Ct), l[i]? = some x → l[i + 1]? = some y → x.sp.nu < y.sp.nu := fun i x y hx hy => by
    have := List.all_eq_true.1 h (i + 1) (List.mem_range.2 (List.getElem?_eq_some_iff.1 hy).1)
    rw [decide_eq_false (by omega), Bool.false_or, show i + 1 - 1 = i by omega, nu_of hx, nu_of hy] at this
    exact of_decide_eq_true this
  have far : ∀ (m i : Nat) (x y : Ct), l[i]? = some x → l[i + m + 1]? = some y → x.sp.nu < y.sp.nu := by
    intro m
    induction m with
    | zero => exact adj
    | succ m ih =>
      intro i x y hx hy
      have hl := (List.getElem?_eq_some_iff.1 hy).1
      have hz : l[i + m + 1]? = some (l[i + m + 1]'(by omega)) := List.getElem?_eq_getElem _
      have := ih i x _ hx hz
      have := adj (i + m + 1) _ y hz (by rw [← hy]; congr 1)
      omega
  refine List.pairwise_iff_getElem.2 fun i j hi hj hij => ?_
  refine far (j - i - 1) i _ _ (List.getElem?_eq_getElem hi) ?_
  rw [show i + (j - i - 1) + 1 = j by omega]
  exact List.getElem?_eq_getElem hj
set_option maxRecDepth 100000 in
set_option maxHeartbeats 1000000 in
theorem rise_any (A : Option Addr) (n c : Nat) (l : List Ct) (w : World) (h : RdC w A n l) (hok : ∀ x, x ∈ l → x.ok) (hn : n ≤ 1000) :
    Calls Try.prog 46 #[.slice A n c] w fun e w' => e = .returned (.bool (riseB l)) ∧ Below w.heap.size w w' := by
  have HR := Lib.hid h
  have HK := Lib.hid hok
  have HL := Lib.hid h.1
  have B0 : Hid (Below w.heap.size w w) := Lib.hid (Below.refl _ _)
  obtain ⟨r, hr⟩ : ∃ r, riseB l = r := ⟨_, rfl⟩
  rw [hr]
  have R := Lib.hid hr
  clear h hok hr
  go_enter Try.func46, Try.ntmps46
  go_wp2_with fail
  go_loopw [3] (fun i wr => ∃ k : Nat, 1 ≤ k ∧ k ≤ n + 1 ∧ i = .int .i64 k ∧ Below w.heap.size w wr ∧ ∀ (i : Nat) (x y : Ct), i + 1 < k → l[i]? = some x → l[i + 1]? = some y → x.sp.nu < y.sp.nu) (fun i _ => n + 1 - (intOf i).toNat)
  case atStart => exact ⟨1, by omega, by omega, rfl, B0.out, fun i x y h => by omega⟩
  case round =>
    obtain ⟨k, hk1, hk, rfl, hb, hno⟩ := hrel
    have BW := Lib.hid hb
    have NO := Lib.hid hno
    clear hb hno
    by_cases hlt : k < n
    case pos =>
      have hd : decide ((k : Int) < n) = true := decide_eq_true (by omega)
      obtain ⟨m, rfl⟩ : ∃ m, k = m + 1 := ⟨k - 1, by omega⟩
      have ek : ((m + 1 : Nat) : Int) = (m : Int) + 1 := by omega
      rw [ek] at hd ⊢
      have e1 : (m : Int) + 1 - 1 = m := by omega
      have hm1 : (m : Int) < (n : Int) := by omega
      have hm2 : (m : Int) + 1 < (n : Int) := by omega
      have hm0 : (0 : Int) ≤ (m : Int) + 1 := by omega
      have tn : ((m : Int) + 1).toNat = m + 1 := by omega
      obtain ⟨x, hx⟩ : ∃ x, l[m]? = some x := ⟨l[m]'(by have := HL.out; omega), List.getElem?_eq_getElem _⟩
      obtain ⟨y, hy⟩ : ∃ y, l[m + 1]? = some y := ⟨l[m + 1]'(by have := HL.out; omega), List.getElem?_eq_getElem _⟩
      have sh : ∀ y, y ∈ l → y.sp.sh.length = 16 := fun y hy => (HK.out y hy).sp.len
      obtain ⟨b, o, rfl, rx⟩ := rdc_rng (rdc_below HR.out BW.out (Nat.le_refl _)) sh hx
      obtain ⟨b', o', eb, ry⟩ := rdc_rng (rdc_below HR.out BW.out (Nat.le_refl _)) sh hy
      cases eb
      have cx := rng_sp rx 0 (.int .u32 x.sp.nu) rfl
      have cy := rng_sp ry 0 (.int .u32 y.sp.nu) rfl
      rw [Nat.add_zero] at cx cy
      have HX := Lib.hid hx
      have HY := Lib.hid hy
      obtain ⟨x1, x2⟩ := (HK.out x (List.mem_of_getElem? hx)).sp.nu
      obtain ⟨y1, y2⟩ := (HK.out y (List.mem_of_getElem? hy)).sp.nu
      clear rx ry hx hy sh
      cases hge : decide (y.sp.nu ≤ x.sp.nu)
      · have LT : Hid (x.sp.nu < y.sp.nu) := Lib.hid (by have := of_decide_eq_false hge; omega)
        go_wp2_with fail
        go_quiet (fail)
        go_wp2_with fail
        go_roundw
        case rel => exact ⟨m + 1 + 1, by omega, by omega, by go_num, below_drewN BW.out _, fun i x' y' h hx' hy' => by
            rcases Nat.lt_or_ge i m with c | c
            · exact NO.out i x' y' (by omega) hx' hy'
            · obtain rfl : i = m := by omega
              rw [HX.out] at hx'; cases hx'
              rw [HY.out] at hy'; cases hy'
              exact LT.out⟩
        case measure => simp [intOf]; omega
      · have E : Hid (r = false) := Lib.hid (by rw [← R.out]; exact rise_bad HX.out HY.out (of_decide_eq_true hge))
        go_wp2_with fail
        go_quiet (fail)
        go_wp2_with fail
        go_ret
        rw [E.out]
        exact ⟨rfl, below_drewN BW.out _⟩
    case neg =>
      have hd : decide ((k : Int) < n) = false := decide_eq_false (by omega)
      have E : Hid (r = true) := Lib.hid (by rw [← R.out]; exact rise_good fun i x y hx hy => NO.out i x y (by have := (List.getElem?_eq_some_iff.1 hy).1; have := HL.out; omega) hx hy)
      go_wp2_with fail
      go_ret
      rw [E.out]
      exact ⟨rfl, BW.out⟩
theorem from_parts (l : List Ct) : fromA l = (decide (l.length ≤ 16) && riseB l && !(l.any mayNotB)) := by
  have key : ∀ (i : Nat) (x : Ct), l[i]? = some x → condF l i = ((decide (i = 0) || decide (nuOf l (i - 1) < nuOf l i)) && !mayNotB x) := fun i x hx => by
    unfold condF mayNotB
    rw [hx, nu_of hx, Bool.not_not]
    have e : decide (1 ≤ x.st ∧ x.st ≤ 3) = (x.st == 1 || x.st == 2 || x.st == 3) := by
      by_cases h1 : x.st = 1
      · simp [h1]
      by_cases h2 : x.st = 2
      · simp [h2]
      by_cases h3 : x.st = 3
      · simp [h3]
      rw [decide_eq_false (by omega)]
      simp [h1, h2, h3]
    simp only [e]
    unfold priceB
    cases mayB x.sp <;> cases (x.st == 1 || x.st == 2 || x.st == 3) <;> simp
  unfold fromA
  rw [Bool.and_assoc]
  congr 1
  apply Bool.eq_iff_iff.2
  rw [Bool.and_eq_true, List.all_eq_true]
  unfold riseB
  rw [List.all_eq_true, Bool.not_eq_true', List.any_eq_false]
  constructor
  · intro h
    refine ⟨fun i hi => ?_, fun x hx => ?_⟩
    · have hl := List.mem_range.1 hi
      have := h i hi
      rw [key i _ (List.getElem?_eq_getElem hl), Bool.and_eq_true] at this
      exact this.1
    · obtain ⟨i, hi⟩ := List.getElem?_of_mem hx
      have := h i (List.mem_range.2 (List.getElem?_eq_some_iff.1 hi).1)
      rw [key i x hi, Bool.and_eq_true] at this
      simpa using this.2
  · rintro ⟨h1, h2⟩ i hi
    have hl := List.mem_range.1 hi
    have h3 := h2 _ (List.getElem_mem hl)
    rw [key i _ (List.getElem?_eq_getElem hl), h1 i hi]
    simpa using h3
theorem from_pos {l : List Ct} (h : fromA l = true) (hok : ∀ x, x ∈ l → x.ok) : ∀ x, x ∈ l → 1 ≤ x.sp.nu := fun x hx => by
  rw [from_parts, Bool.and_eq_true, Bool.and_eq_true] at h
  have h1 : mayNotB x = false := by simpa using List.any_eq_false.1 (by simpa using h.2) x hx
  unfold mayNotB at h1
  rw [Bool.not_eq_false', Bool.and_eq_true] at h1
  have h2 := h1.2
  unfold priceB at h2
  rw [Bool.and_eq_true] at h2
  have := (head_parts (may_head h2.1)).1
  have := (hok x hx).sp.nu
  omega
theorem maynots (w : World) : Tests 48 #[] mayNotB w := fun W x _ ok => maynot_any x W ok
set_option maxRecDepth 100000 in
set_option maxHeartbeats 1000000 in
theorem from_true (w : World) (A : Option Addr) (n c : Nat) (d : Int) (l : List Ct) (hr : RdC w A n l) (hok : ∀ x, x ∈ l → x.ok) (hd : 0 ≤ d ∧ d ≤ 4294967295) (h0 : A = none → c = 0) (hn : n ≤ 100) (hf : fromA l = true) :
    Calls Try.prog 29 #[.int .u32 d, .slice A n c] w fun e w' => ∃ g v, e = .returned (.tuple #[.pointer (some ⟨g, 0, none⟩), .int .i64 0]) ∧ Rp w' g v d l ∧ Below w.heap.size w w' ∧ ∀ k, RcS g v k → w.heap.size ≤ k := by
  have POS := Lib.hid (from_pos hf hok)
  have p := hf
  rw [from_parts, Bool.and_eq_true, Bool.and_eq_true] at p
  obtain ⟨⟨p1, p2⟩, p3⟩ := p
  have p1 := of_decide_eq_true p1
  rw [Bool.not_eq_true'] at p3
  have hl := hr.1
  have UP := Lib.hid (rise_up p2)
  have OK := Lib.hid hok
  have HL := Lib.hid hl
  have DY := Lib.hid hd
  have RA := rise_any A n c l w hr hok (by omega)
  rw [p2] at RA
  have CA := Lib.hid fun (W : World) (q : Below w.heap.size w W) => contains_any 48 #[] mayNotB A n c l W (enters_of Try.func48 (by kernel_rfl) rfl) (maynots W) (rdc_below hr q (Nat.le_refl _)) hok (by omega)
  rw [p3] at CA
  have CL := Lib.hid fun (W : World) (q : Below w.heap.size w W) => clone_any A n c l W (rdc_below hr q (Nat.le_refl _)) (by omega) h0 (fun y hy => (hok y hy).sp.len)
  have h16 : decide ((16 : Int) < (n : Int)) = false := decide_eq_false (by omega)
  have hn16 : n ≤ 16 := by omega
  obtain ⟨d1, d2⟩ := hd
  clear hr hok hf p1 p2 p3 hl h0
  go_enter Try.func29, Try.ntmps29
  go_wp2_with fail
  refine RA.mono ?_; rintro e w1 ⟨rfl, q1⟩
  have Q1 := Lib.hid q1
  clear q1
  go_wp2_with fail
  refine (CA.out _ Q1.out).mono ?_; rintro e w2 ⟨rfl, q2⟩
  have Q2 := Lib.hid (Q1.out.trans (q2.mono Q1.out.size))
  clear q2
  go_wp2_with fail
  refine (CL.out _ Q2.out).mono ?_; rintro e w3 ⟨v, rfl, o3, q3⟩
  have Q3 := Lib.hid (Q2.out.trans (q3.mono Q2.out.size))
  obtain ⟨A2, c2, rfl⟩ := own_form1 o3
  have O3 := Lib.hid o3
  clear q3 o3
  go_wp2_with fail
  go_ret2
  have OO := O3.out
  rw [← HL.out] at OO
  refine ⟨_, _, rfl, by rw [← HL.out]; exact rp_built OO (by have := HL.out; omega) OK.out DY.out UP.out POS.out, Q3.out.trans ((below_new _ _).mono Q3.out.size), fun k hk => ?_⟩
  rcases hk with rfl | hk
  · exact Q3.out.size
  · rw [HL.out] at hk
    exact Nat.le_trans Q2.out.size (own_ge O3.out hk).1
set_option maxRecDepth 100000 in
set_option maxHeartbeats 1000000 in
theorem from_false (w : World) (A : Option Addr) (n c : Nat) (d : Int) (l : List Ct) (hr : RdC w A n l) (hok : ∀ x, x ∈ l → x.ok) (hn : n ≤ 100) (hf : fromA l = false) :
    Calls Try.prog 29 #[.int .u32 d, .slice A n c] w fun e w' => e = .returned (.tuple #[.pointer none, .int .i64 2]) ∧ Below w.heap.size w w' := by
  rw [from_parts] at hf
  have hl := hr.1
  have RA := rise_any A n c l w hr hok (by omega)
  have CA := Lib.hid fun (W : World) (q : Below w.heap.size w W) => contains_any 48 #[] mayNotB A n c l W (enters_of Try.func48 (by kernel_rfl) rfl) (maynots W) (rdc_below hr q (Nat.le_refl _)) hok (by omega)
  by_cases h1 : l.length ≤ 16
  · have h16 : decide ((16 : Int) < (n : Int)) = false := decide_eq_false (by omega)
    rw [decide_eq_true h1, Bool.true_and] at hf
    cases h2 : riseB l
    · rw [h2] at RA
      clear hr hok hf hl h1 h2
      go_enter Try.func29, Try.ntmps29
      go_wp2_with fail
      refine RA.mono ?_; rintro e w1 ⟨rfl, q1⟩
      have Q1 := Lib.hid q1
      clear q1
      go_wp2_with fail
      go_ret2
      exact ⟨rfl, Q1.out⟩
    · rw [h2] at RA hf
      have h3 : l.any mayNotB = true := by simpa using hf
      rw [h3] at CA
      clear hr hok hf hl h1 h2 h3
      go_enter Try.func29, Try.ntmps29
      go_wp2_with fail
      refine RA.mono ?_; rintro e w1 ⟨rfl, q1⟩
      have Q1 := Lib.hid q1
      clear q1
      go_wp2_with fail
      refine (CA.out _ Q1.out).mono ?_; rintro e w2 ⟨rfl, q2⟩
      have Q2 := Lib.hid (Q1.out.trans (q2.mono Q1.out.size))
      clear q2
      go_wp2_with fail
      go_ret2
      exact ⟨rfl, Q2.out⟩
  · have h16 : decide ((16 : Int) < (n : Int)) = true := decide_eq_true (by omega)
    clear hr hok hf hl h1 RA CA
    go_enter Try.func29, Try.ntmps29
    go_wp2_with fail
    go_ret2
    exact ⟨rfl, Below.refl _ _⟩
end Go.Proofs.Ytejhnfkljfdejaa
