/- Texts of a proof, laid together: Sj, Sl, St. -/
import Derived.Test.YtdcjgcjnfcahkaaG02
/- Contracts of the document's plain side: Fill. -/
namespace Go.Proofs.Ytdcjgcjnfcahkaa
open Go.RowKit
set_option linter.unusedVariables false

set_option maxRecDepth 100000 in
set_option maxHeartbeats 1000000 in
theorem rfill_none (B g : Nat) (v : Value) (buy : Bool) (l : List Or) (n : Int) (w : World) (h : Rs w B g v buy l) (hp : l = []) :
    Calls Try.prog 78 #[.pointer (some ⟨g, 0, none⟩), .int .i64 n] w fun e w' => e = .returned (.tuple #[.agg (EO.cells zeroOr).toArray, .int .i64 7]) ∧ Below w.heap.size w w' := by
  have hz := zero_or
  obtain ⟨W1, hW1, b1, x1, s1⟩ := res_new w
  have h1 := h.below b1
  obtain ⟨A, c, rfl, _⟩ := gown_form h.own
  have C0 := Lib.hid fun (W : World) (q : Below W1.heap.size W1 W) => (h1.below q).c0
  have C1 := Lib.hid fun (W : World) (q : Below W1.heap.size W1 W) => (h1.below q).c1
  have FS := Lib.hid fun (W : World) (q : Below W1.heap.size W1 W) => rfst_any buy A l.length c l W (gown_rd (h1.below q).own) h.ok (by have := h.le; omega)
  have HW := Lib.hid hW1
  have X1 := Lib.hid fun (W : World) (q : Below W1.heap.size W1 W) => (show EO.Bx 31 W w.heap.size zeroOr from gbx_below x1 q)
  have B1 := Lib.hid b1
  have H1 := Lib.hid h1
  have hle := h.le
  have hf : fstO buy l l.length = -1 := by rw [hp]; rfl
  rw [hf] at FS
  clear h h1 hp hf x1 b1 hW1 s1
  generalize l.length = m at *
  go_enter Try.func78, Try.ntmps78
  go_wp2_with fail
  rw [HW.out]
  refine wp_region_held_drew (S := fun U => Below W1.heap.size W1 U) (by kernel_rfl) (Below.refl _ _).drew (fun hH => ?_)
  refine wpAnyH_take (i := 0) (v := .pointer (some ⟨g, 0, none⟩)) rfl (by kernel_rfl) (by kernel_rfl) (by kernel_rfl) (fun _ _ _ h => h) (.inl ⟨by rfl, ?_⟩) (by assumption) ?_
  · intro W hW; go_simp
  try simp only [List.getElem_toArray, List.getElem_cons_zero, Act.put, List.setIfInBounds_toArray, List.set_cons_zero, List.set_cons_succ]
  refine wpAnyH_take (i := 1) (v := .pointer (some ⟨g, 0, none⟩)) rfl (by kernel_rfl) (by kernel_rfl) (by kernel_rfl) (fun _ _ _ h => h) (.inl ⟨by rfl, ?_⟩) (by assumption) ?_
  · intro W hW; go_simp
  try simp only [List.getElem_toArray, List.getElem_cons_zero, List.getElem_cons_succ, Act.put, List.setIfInBounds_toArray, List.set_cons_zero, List.set_cons_succ]
  refine wpAnyH_take (i := 2) (v := .pointer (some ⟨g, 0, none⟩)) rfl (by kernel_rfl) (by kernel_rfl) (by kernel_rfl) (fun _ _ _ h => h) (.inl ⟨by rfl, ?_⟩) (by assumption) ?_
  · intro W hW; go_simp
  try simp only [List.getElem_toArray, List.getElem_cons_zero, List.getElem_cons_succ, Act.put, List.setIfInBounds_toArray, List.set_cons_zero, List.set_cons_succ]
  refine wpAnyH_take (i := 3) (v := .bool buy) rfl (by kernel_rfl) (by kernel_rfl) (by kernel_rfl) (fun _ _ _ h => h) (.inl ⟨by rfl, ?_⟩) (by assumption) ?_
  · intro W hW; have h1 := C0.out W hW; go_simp
  try simp only [List.getElem_toArray, List.getElem_cons_zero, List.getElem_cons_succ, Act.put, List.setIfInBounds_toArray, List.set_cons_zero, List.set_cons_succ]
  refine wpAnyH_take (i := 4) (v := .pointer (some ⟨g, 0, none⟩)) rfl (by kernel_rfl) (by kernel_rfl) (by kernel_rfl) (fun _ _ _ h => h) (.inl ⟨by rfl, ?_⟩) (by assumption) ?_
  · intro W hW; go_simp
  try simp only [List.getElem_toArray, List.getElem_cons_zero, List.getElem_cons_succ, Act.put, List.setIfInBounds_toArray, List.set_cons_zero, List.set_cons_succ]
  refine wpAnyH_take (i := 5) (v := .pointer (some ⟨g, 0, none⟩)) rfl (by kernel_rfl) (by kernel_rfl) (by kernel_rfl) (fun _ _ _ h => h) (.inl ⟨by rfl, ?_⟩) (by assumption) ?_
  · intro W hW; go_simp
  try simp only [List.getElem_toArray, List.getElem_cons_zero, List.getElem_cons_succ, Act.put, List.setIfInBounds_toArray, List.set_cons_zero, List.set_cons_succ]
  refine wpAnyH_take (i := 6) (v := .pointer (some ⟨g, 1, none⟩)) rfl (by kernel_rfl) (by kernel_rfl) (by kernel_rfl) (fun _ _ _ h => h) (.inl ⟨by rfl, ?_⟩) (by assumption) ?_
  · intro W hW; go_simp
  try simp only [List.getElem_toArray, List.getElem_cons_zero, List.getElem_cons_succ, Act.put, List.setIfInBounds_toArray, List.set_cons_zero, List.set_cons_succ]
  refine wpAnyH_take (i := 7) (v := .slice A m c) rfl (by kernel_rfl) (by kernel_rfl) (by kernel_rfl) (fun _ _ _ h => h) (.inl ⟨by rfl, ?_⟩) (by assumption) ?_
  · intro W hW; have h1 := C1.out W hW; go_simp
  try simp only [List.getElem_toArray, List.getElem_cons_zero, List.getElem_cons_succ, Act.put, List.setIfInBounds_toArray, List.set_cons_zero, List.set_cons_succ]
  refine wpAnyH_ready (rs := [8]) (by decide +kernel) (by simp) (AllReadyH.cons rfl (fun KQ hK => ?_) AllReadyH.nil)
  go_simp
  refine (FS.out _ hH).mono ?_; rintro e0 W2 ⟨rfl, q1⟩
  have hH2 := hH.trans (q1.mono hH.size)
  refine hK.out _ _ hH2 (fun _ => ?_)
  clear hK q1 hH
  try simp only [List.setIfInBounds_toArray, List.set_cons_zero, List.set_cons_succ]
  refine wpAnyH_take (i := 9) (v := .int .i64 (-1)) rfl (by kernel_rfl) (by kernel_rfl) (by kernel_rfl) (fun _ _ _ h => h) (.inl ⟨by rfl, ?_⟩) (by assumption) ?_
  · intro W hW; go_simp
  try simp only [List.getElem_toArray, List.getElem_cons_zero, List.getElem_cons_succ, Act.put, List.setIfInBounds_toArray, List.set_cons_zero, List.set_cons_succ]
  refine wpAnyH_done (by decide +kernel) ?_ _
  have Q2 := Lib.hid hH2
  clear hH2
  go_wp2_with (first | (refine gwl_build0 built_or ?_) | (refine gwl_store TO zeroOr w.heap.size (X1.out _ Q2.out) rfl rfl ?_))
  exact bodyPost_ret (gret TO rfl _ _ w.heap.size rfl rfl (gbx_set (X1.out _ Q2.out))) rfl ⟨rfl, row_inO (Nat.le_refl _) (B1.out.trans (Q2.out.mono B1.out.size))⟩
set_option maxRecDepth 100000 in
set_option maxHeartbeats 2000000 in
theorem rfill_bad (B g : Nat) (v : Value) (buy : Bool) (l : List Or) (k : Nat) (x : Or) (n : Int) (w : World) (h : Rs w B g v buy l) (hp : fstO buy l l.length = k) (hx : l[k]? = some x) (hn : I64' n) (hbad : n < 1 ∨ x.le < n) :
    Calls Try.prog 78 #[.pointer (some ⟨g, 0, none⟩), .int .i64 n] w fun e w' => e = .returned (.tuple #[.agg (EO.cells zeroOr).toArray, .int .i64 2]) ∧ Below w.heap.size w w' := by
  have hz := zero_or
  obtain ⟨W1, hW1, b1, x1, s1⟩ := res_new w
  have h1 := h.below b1
  obtain ⟨A, c, rfl, _⟩ := gown_form h.own
  have C0 := Lib.hid fun (W : World) (q : Below W1.heap.size W1 W) => (h1.below q).c0
  have C1 := Lib.hid fun (W : World) (q : Below W1.heap.size W1 W) => (h1.below q).c1
  have FS := Lib.hid fun (W : World) (q : Below W1.heap.size W1 W) => rfst_any buy A l.length c l W (gown_rd (h1.below q).own) h.ok (by have := h.le; omega)
  have HW := Lib.hid hW1
  have X1 := Lib.hid fun (W : World) (q : Below W1.heap.size W1 W) => (show EO.Bx 31 W w.heap.size zeroOr from gbx_below x1 q)
  have B1 := Lib.hid b1
  have H1 := Lib.hid h1
  have hle := h.le
  rw [hp] at FS
  have hk := (List.getElem?_eq_some_iff.1 hx).1
  obtain ⟨b, c', eb⟩ := gown_slot h.own (by omega)
  injection eb with e1 _ e2
  subst e1 e2
  have RG : Hid (∀ W, Below W1.heap.size W1 W → W.rangeAt b (k * 5) (EO.cells x)) := Lib.hid fun W q => gown_rng (h1.below q).own hx
  obtain ⟨xl1, xl2⟩ := (h.ok x (List.mem_of_getElem? hx)).le
  obtain ⟨n1, n2⟩ := hn
  have hki : (k : Int) < (l.length : Int) := by omega
  have hd : decide ((k : Int) < 0) = false := decide_eq_false (by omega)
  have HX := Lib.hid hx
  have HH := Lib.hid h
  have GLT : Hid (g < w.heap.size) := Lib.hid h.gl
  have VLT : Hid (∀ k, (Value.slice (some ⟨b, 0, none⟩) l.length c).ownBlock = some k → k < w.heap.size) := Lib.hid fun k hk => (gown_lt h.own hk).2
  have S1 := Lib.hid s1
  have HL : Hid (l.length = l.length) := Lib.hid rfl
  have hb2 : decide (n < 1) = true ∨ (decide (n < 1) = false ∧ decide (x.le < n) = true) := by
    by_cases c : n < 1
    · exact .inl (decide_eq_true c)
    · exact .inr ⟨decide_eq_false c, decide_eq_true (hbad.resolve_left c)⟩
  clear h h1 hp hx x1 b1 hW1 s1 hbad HX HH
  generalize l.length = m at *
  generalize hA : (some ⟨b, 0, none⟩ : Option Addr) = A at *
  rcases hb2 with h1 | ⟨h1, h2⟩
  all_goals
    go_enter Try.func78, Try.ntmps78
    go_wp2_with fail
    rw [HW.out]
    refine wp_region_held_drew (S := fun U => Below W1.heap.size W1 U) (by kernel_rfl) (Below.refl _ _).drew (fun hH => ?_)
    refine wpAnyH_take (i := 0) (v := .pointer (some ⟨g, 0, none⟩)) rfl (by kernel_rfl) (by kernel_rfl) (by kernel_rfl) (fun _ _ _ h => h) (.inl ⟨by rfl, ?_⟩) (by assumption) ?_
    · intro W hW; go_simp
    try simp only [List.getElem_toArray, List.getElem_cons_zero, Act.put, List.setIfInBounds_toArray, List.set_cons_zero, List.set_cons_succ]
    refine wpAnyH_take (i := 1) (v := .pointer (some ⟨g, 0, none⟩)) rfl (by kernel_rfl) (by kernel_rfl) (by kernel_rfl) (fun _ _ _ h => h) (.inl ⟨by rfl, ?_⟩) (by assumption) ?_
    · intro W hW; go_simp
    try simp only [List.getElem_toArray, List.getElem_cons_zero, List.getElem_cons_succ, Act.put, List.setIfInBounds_toArray, List.set_cons_zero, List.set_cons_succ]
    refine wpAnyH_take (i := 2) (v := .pointer (some ⟨g, 0, none⟩)) rfl (by kernel_rfl) (by kernel_rfl) (by kernel_rfl) (fun _ _ _ h => h) (.inl ⟨by rfl, ?_⟩) (by assumption) ?_
    · intro W hW; go_simp
    try simp only [List.getElem_toArray, List.getElem_cons_zero, List.getElem_cons_succ, Act.put, List.setIfInBounds_toArray, List.set_cons_zero, List.set_cons_succ]
    refine wpAnyH_take (i := 3) (v := .bool buy) rfl (by kernel_rfl) (by kernel_rfl) (by kernel_rfl) (fun _ _ _ h => h) (.inl ⟨by rfl, ?_⟩) (by assumption) ?_
    · intro W hW; have h1 := C0.out W hW; go_simp
    try simp only [List.getElem_toArray, List.getElem_cons_zero, List.getElem_cons_succ, Act.put, List.setIfInBounds_toArray, List.set_cons_zero, List.set_cons_succ]
    refine wpAnyH_take (i := 4) (v := .pointer (some ⟨g, 0, none⟩)) rfl (by kernel_rfl) (by kernel_rfl) (by kernel_rfl) (fun _ _ _ h => h) (.inl ⟨by rfl, ?_⟩) (by assumption) ?_
    · intro W hW; go_simp
    try simp only [List.getElem_toArray, List.getElem_cons_zero, List.getElem_cons_succ, Act.put, List.setIfInBounds_toArray, List.set_cons_zero, List.set_cons_succ]
    refine wpAnyH_take (i := 5) (v := .pointer (some ⟨g, 0, none⟩)) rfl (by kernel_rfl) (by kernel_rfl) (by kernel_rfl) (fun _ _ _ h => h) (.inl ⟨by rfl, ?_⟩) (by assumption) ?_
    · intro W hW; go_simp
    try simp only [List.getElem_toArray, List.getElem_cons_zero, List.getElem_cons_succ, Act.put, List.setIfInBounds_toArray, List.set_cons_zero, List.set_cons_succ]
    refine wpAnyH_take (i := 6) (v := .pointer (some ⟨g, 1, none⟩)) rfl (by kernel_rfl) (by kernel_rfl) (by kernel_rfl) (fun _ _ _ h => h) (.inl ⟨by rfl, ?_⟩) (by assumption) ?_
    · intro W hW; go_simp
    try simp only [List.getElem_toArray, List.getElem_cons_zero, List.getElem_cons_succ, Act.put, List.setIfInBounds_toArray, List.set_cons_zero, List.set_cons_succ]
    refine wpAnyH_take (i := 7) (v := .slice A m c) rfl (by kernel_rfl) (by kernel_rfl) (by kernel_rfl) (fun _ _ _ h => h) (.inl ⟨by rfl, ?_⟩) (by assumption) ?_
    · intro W hW; have h1 := C1.out W hW; go_simp
    try simp only [List.getElem_toArray, List.getElem_cons_zero, List.getElem_cons_succ, Act.put, List.setIfInBounds_toArray, List.set_cons_zero, List.set_cons_succ]
    refine wpAnyH_ready (rs := [8]) (by decide +kernel) (by simp) (AllReadyH.cons rfl (fun KQ hK => ?_) AllReadyH.nil)
    go_simp
    refine (FS.out _ hH).mono ?_; rintro e0 W2 ⟨rfl, q1⟩
    have hH2 := hH.trans (q1.mono hH.size)
    refine hK.out _ _ hH2 (fun _ => ?_)
    clear hK q1 hH
    try simp only [List.setIfInBounds_toArray, List.set_cons_zero, List.set_cons_succ]
    refine wpAnyH_take (i := 9) (v := .int .i64 k) rfl (by kernel_rfl) (by kernel_rfl) (by kernel_rfl) (fun _ _ _ h => h) (.inl ⟨by rfl, ?_⟩) (by assumption) ?_
    · intro W hW; go_simp
    try simp only [List.getElem_toArray, List.getElem_cons_zero, List.getElem_cons_succ, Act.put, List.setIfInBounds_toArray, List.set_cons_zero, List.set_cons_succ]
    refine wpAnyH_done (by decide +kernel) ?_ _
    have Q2 := Lib.hid hH2
    have k2 := C1.out _ hH2
    clear hH2
    subst hA
    have Y0 : Hid (EO.Bx 31 (W2.alloc (.cells (EO.cells zeroOr).toArray 31)) W2.heap.size zeroOr) := Lib.hid (gbx_new W2 _)
    go_wp2_with (first | ((with_reducible refine gwl_load TO b (k * 5) (RG.out _ Q2.out) ?_ ?_ ?_); rfl; rfl) | (refine gwl_store TO x W2.heap.size Y0.out rfl rfl ?_; obtain ⟨W3, hW3⟩ : ∃ W3, (W2.alloc (.cells (EO.cells zeroOr).toArray 31)).setRow W2.heap.size (EO.cells x).toArray = W3 := ⟨_, rfl⟩; rw [hW3]; have Y3 : Hid (EO.Bx 31 W3 W2.heap.size x) := Lib.hid (by rw [← hW3]; exact gbx_set Y0.out); have B3 : Hid (Below W2.heap.size W2 W3) := Lib.hid (by rw [← hW3]; exact below_row0 (below_new W2 _) (Nat.le_refl _)); have c4 : W3.cell? ⟨W2.heap.size, 4, none⟩ = some (.int .i64 x.le) := gbx_cell Y3.out 4; have f4 : W3.frozen? ⟨W2.heap.size, 4, none⟩ = false := gbx_fz Y3.out 4; clear hW3) | (refine gwl_build0 built_or ?_) | (refine gwl_store TO zeroOr w.heap.size (X1.out _ (Q2.out.trans (B3.out.mono Q2.out.size))) rfl rfl ?_))
    have BB := B1.out.trans ((Q2.out.trans (B3.out.mono Q2.out.size)).mono B1.out.size)
    exact bodyPost_ret (gret TO rfl _ _ w.heap.size rfl rfl (gbx_set (X1.out _ (Q2.out.trans (B3.out.mono Q2.out.size))))) rfl ⟨rfl, row_inO (Nat.le_refl _) BB⟩
set_option maxRecDepth 100000 in
set_option maxHeartbeats 4000000 in
theorem rfill_ok (B g : Nat) (v : Value) (buy : Bool) (l : List Or) (k : Nat) (x : Or) (n : Int) (w : World) (h : Rs w B g v buy l) (hp : fstO buy l l.length = k) (hx : l[k]? = some x) (hn : I64' n) (h1n : 1 ≤ n) (hnl : n ≤ x.le) :
    Calls Try.prog 78 #[.pointer (some ⟨g, 0, none⟩), .int .i64 n] w fun e w' => e = .returned (.tuple #[.agg (EO.cells (x.wi (x.le - n))).toArray, .int .i64 0]) ∧ RsN w B g v buy (setL l k x (x.le - n)) w' := by
  have hz := zero_or
  obtain ⟨W1, hW1, b1, x1, s1⟩ := res_new w
  have h1 := h.below b1
  obtain ⟨A, c, rfl, _⟩ := gown_form h.own
  have C0 := Lib.hid fun (W : World) (q : Below W1.heap.size W1 W) => (h1.below q).c0
  have C1 := Lib.hid fun (W : World) (q : Below W1.heap.size W1 W) => (h1.below q).c1
  have FS := Lib.hid fun (W : World) (q : Below W1.heap.size W1 W) => rfst_any buy A l.length c l W (gown_rd (h1.below q).own) h.ok (by have := h.le; omega)
  have HW := Lib.hid hW1
  have X1 := Lib.hid fun (W : World) (q : Below W1.heap.size W1 W) => (show EO.Bx 31 W w.heap.size zeroOr from gbx_below x1 q)
  have B1 := Lib.hid b1
  have H1 := Lib.hid h1
  have hle := h.le
  rw [hp] at FS
  have hk := (List.getElem?_eq_some_iff.1 hx).1
  obtain ⟨b, c', eb⟩ := gown_slot h.own (by omega)
  injection eb with e1 _ e2
  subst e1 e2
  have RG : Hid (∀ W, Below W1.heap.size W1 W → W.rangeAt b (k * 5) (EO.cells x)) := Lib.hid fun W q => gown_rng (h1.below q).own hx
  obtain ⟨xl1, xl2⟩ := (h.ok x (List.mem_of_getElem? hx)).le
  obtain ⟨n1, n2⟩ := hn
  have hki : (k : Int) < (l.length : Int) := by omega
  have hd : decide ((k : Int) < 0) = false := decide_eq_false (by omega)
  have HX := Lib.hid hx
  have HH := Lib.hid h
  have GLT : Hid (g < w.heap.size) := Lib.hid h.gl
  have VLT : Hid (∀ k, (Value.slice (some ⟨b, 0, none⟩) l.length c).ownBlock = some k → k < w.heap.size) := Lib.hid fun k hk => (gown_lt h.own hk).2
  have S1 := Lib.hid s1
  have HL : Hid (l.length = l.length) := Lib.hid rfl
  have h1 : decide (n < 1) = false := decide_eq_false (by omega)
  have h2 : decide (x.le < n) = false := decide_eq_false (by omega)
  have hs1 : -9223372036854775808 ≤ x.le - n := by omega
  have hs2 : x.le - n ≤ 9223372036854775807 := by omega
  have SL := Lib.hid fun W (hW : Rs W B g (.slice (some ⟨b, 0, none⟩) l.length c) buy l) => rset_any B g _ buy l k x (x.le - n) W hW HX.out ⟨hs1, hs2⟩
  have HS := H1
  obtain ⟨l2, hl2⟩ : ∃ l2, setL l k x (x.le - n) = l2 := ⟨_, rfl⟩
  rw [hl2] at SL ⊢
  clear h hp hx x1 b1 hW1 s1 hl2
  generalize l.length = m at *
  generalize hA : (some ⟨b, 0, none⟩ : Option Addr) = A at *
  go_enter Try.func78, Try.ntmps78
  go_wp2_with fail
  rw [HW.out]
  refine wp_region_held_drew (S := fun U => Below W1.heap.size W1 U) (by kernel_rfl) (Below.refl _ _).drew (fun hH => ?_)
  refine wpAnyH_take (i := 0) (v := .pointer (some ⟨g, 0, none⟩)) rfl (by kernel_rfl) (by kernel_rfl) (by kernel_rfl) (fun _ _ _ h => h) (.inl ⟨by rfl, ?_⟩) (by assumption) ?_
  · intro W hW; go_simp
  try simp only [List.getElem_toArray, List.getElem_cons_zero, Act.put, List.setIfInBounds_toArray, List.set_cons_zero, List.set_cons_succ]
  refine wpAnyH_take (i := 1) (v := .pointer (some ⟨g, 0, none⟩)) rfl (by kernel_rfl) (by kernel_rfl) (by kernel_rfl) (fun _ _ _ h => h) (.inl ⟨by rfl, ?_⟩) (by assumption) ?_
  · intro W hW; go_simp
  try simp only [List.getElem_toArray, List.getElem_cons_zero, List.getElem_cons_succ, Act.put, List.setIfInBounds_toArray, List.set_cons_zero, List.set_cons_succ]
  refine wpAnyH_take (i := 2) (v := .pointer (some ⟨g, 0, none⟩)) rfl (by kernel_rfl) (by kernel_rfl) (by kernel_rfl) (fun _ _ _ h => h) (.inl ⟨by rfl, ?_⟩) (by assumption) ?_
  · intro W hW; go_simp
  try simp only [List.getElem_toArray, List.getElem_cons_zero, List.getElem_cons_succ, Act.put, List.setIfInBounds_toArray, List.set_cons_zero, List.set_cons_succ]
  refine wpAnyH_take (i := 3) (v := .bool buy) rfl (by kernel_rfl) (by kernel_rfl) (by kernel_rfl) (fun _ _ _ h => h) (.inl ⟨by rfl, ?_⟩) (by assumption) ?_
  · intro W hW; have h1 := C0.out W hW; go_simp
  try simp only [List.getElem_toArray, List.getElem_cons_zero, List.getElem_cons_succ, Act.put, List.setIfInBounds_toArray, List.set_cons_zero, List.set_cons_succ]
  refine wpAnyH_take (i := 4) (v := .pointer (some ⟨g, 0, none⟩)) rfl (by kernel_rfl) (by kernel_rfl) (by kernel_rfl) (fun _ _ _ h => h) (.inl ⟨by rfl, ?_⟩) (by assumption) ?_
  · intro W hW; go_simp
  try simp only [List.getElem_toArray, List.getElem_cons_zero, List.getElem_cons_succ, Act.put, List.setIfInBounds_toArray, List.set_cons_zero, List.set_cons_succ]
  refine wpAnyH_take (i := 5) (v := .pointer (some ⟨g, 0, none⟩)) rfl (by kernel_rfl) (by kernel_rfl) (by kernel_rfl) (fun _ _ _ h => h) (.inl ⟨by rfl, ?_⟩) (by assumption) ?_
  · intro W hW; go_simp
  try simp only [List.getElem_toArray, List.getElem_cons_zero, List.getElem_cons_succ, Act.put, List.setIfInBounds_toArray, List.set_cons_zero, List.set_cons_succ]
  refine wpAnyH_take (i := 6) (v := .pointer (some ⟨g, 1, none⟩)) rfl (by kernel_rfl) (by kernel_rfl) (by kernel_rfl) (fun _ _ _ h => h) (.inl ⟨by rfl, ?_⟩) (by assumption) ?_
  · intro W hW; go_simp
  try simp only [List.getElem_toArray, List.getElem_cons_zero, List.getElem_cons_succ, Act.put, List.setIfInBounds_toArray, List.set_cons_zero, List.set_cons_succ]
  refine wpAnyH_take (i := 7) (v := .slice A m c) rfl (by kernel_rfl) (by kernel_rfl) (by kernel_rfl) (fun _ _ _ h => h) (.inl ⟨by rfl, ?_⟩) (by assumption) ?_
  · intro W hW; have h1 := C1.out W hW; go_simp
  try simp only [List.getElem_toArray, List.getElem_cons_zero, List.getElem_cons_succ, Act.put, List.setIfInBounds_toArray, List.set_cons_zero, List.set_cons_succ]
  refine wpAnyH_ready (rs := [8]) (by decide +kernel) (by simp) (AllReadyH.cons rfl (fun KQ hK => ?_) AllReadyH.nil)
  go_simp
  refine (FS.out _ hH).mono ?_; rintro e0 W2 ⟨rfl, q1⟩
  have hH2 := hH.trans (q1.mono hH.size)
  refine hK.out _ _ hH2 (fun _ => ?_)
  clear hK q1 hH
  try simp only [List.setIfInBounds_toArray, List.set_cons_zero, List.set_cons_succ]
  refine wpAnyH_take (i := 9) (v := .int .i64 k) rfl (by kernel_rfl) (by kernel_rfl) (by kernel_rfl) (fun _ _ _ h => h) (.inl ⟨by rfl, ?_⟩) (by assumption) ?_
  · intro W hW; go_simp
  try simp only [List.getElem_toArray, List.getElem_cons_zero, List.getElem_cons_succ, Act.put, List.setIfInBounds_toArray, List.set_cons_zero, List.set_cons_succ]
  refine wpAnyH_done (by decide +kernel) ?_ _
  have Q2 := Lib.hid hH2
  have k2 := C1.out _ hH2
  clear hH2
  subst hA
  have Y0 : Hid (EO.Bx 31 (W2.alloc (.cells (EO.cells zeroOr).toArray 31)) W2.heap.size zeroOr) := Lib.hid (gbx_new W2 _)
  go_wp2_with (first | ((with_reducible refine gwl_load TO b (k * 5) (RG.out _ Q2.out) ?_ ?_ ?_); rfl; rfl) | (refine gwl_store TO x W2.heap.size Y0.out rfl rfl ?_; obtain ⟨W3, hW3⟩ : ∃ W3, (W2.alloc (.cells (EO.cells zeroOr).toArray 31)).setRow W2.heap.size (EO.cells x).toArray = W3 := ⟨_, rfl⟩; rw [hW3]; have Y3 : Hid (EO.Bx 31 W3 W2.heap.size x) := Lib.hid (by rw [← hW3]; exact gbx_set Y0.out); have B3 : Hid (Below W2.heap.size W2 W3) := Lib.hid (by rw [← hW3]; exact below_row0 (below_new W2 _) (Nat.le_refl _)); have c4 : W3.cell? ⟨W2.heap.size, 4, none⟩ = some (.int .i64 x.le) := gbx_cell Y3.out 4; have f4 : W3.frozen? ⟨W2.heap.size, 4, none⟩ = false := gbx_fz Y3.out 4; clear hW3))
  obtain ⟨W4, hW4⟩ : ∃ W4, W3.setCell ⟨W2.heap.size, 4, none⟩ (.int .i64 (x.le - n)) = W4 := ⟨_, rfl⟩
  rw [hW4]
  have q3 : Below W1.heap.size W1 W3 := Q2.out.trans (B3.out.mono Q2.out.size)
  have q4 : Below W1.heap.size W1 W4 := by rw [← hW4]; exact q3.setCell (p := ⟨W2.heap.size, 4, none⟩) Q2.out.size _
  have Y4 : Hid (EO.Bx 31 W4 W2.heap.size (x.wi (x.le - n))) := Lib.hid (by rw [← hW4]; exact gbx_put Y3.out rfl)
  have X4 := Lib.hid (X1.out _ q4)
  have Q4 := Lib.hid q4
  have S2 := Lib.hid Q2.out.size
  have R4 := Lib.hid (H1.out.below q4)
  clear q3 q4 hW4 c4 f4
  refine (SL.out W4 R4.out).mono ?_; rintro e w5 ⟨⟨vv, rfl⟩, q⟩
  obtain ⟨v5, r5, f5, n5⟩ := q
  have X5 : Hid (EO.Bx 31 w5 w.heap.size zeroOr) := Lib.hid ((f5.at' _ (Array.getElem?_eq_some_iff.1 X4.out).1 (fun e => by have := GLT.out; omega)).trans X4.out)
  have Y5 : Hid (EO.Bx 31 w5 W2.heap.size (x.wi (x.le - n))) := Lib.hid ((f5.at' _ (Array.getElem?_eq_some_iff.1 Y4.out).1 (fun e => by have := GLT.out; have := S1.out; have := S2.out; omega)).trans Y4.out)
  have R5 := Lib.hid r5
  have F5 := Lib.hid f5
  have N5 := Lib.hid n5
  clear r5 f5 n5
  go_wp2_with (first | ((with_reducible refine gwl_load TO W2.heap.size 0 (gbx_rng Y5.out) ?_ ?_ ?_); rfl; rfl) | (refine gwl_store TO (x.wi (x.le - n)) w.heap.size X5.out rfl rfl ?_))
  have f6 : Fr (fun k => k = w.heap.size) w5 (w5.setRow w.heap.size (EO.cells (x.wi (x.le - n))).toArray) := fr_row (S := fun k => k = w.heap.size) rfl _
  have bb := B1.out.trans (Q4.out.mono B1.out.size)
  refine bodyPost_ret (gret TO rfl _ _ w.heap.size rfl rfl (gbx_set X5.out)) rfl ⟨rfl, v5, R5.out.keep f6 (fun e => by have := GLT.out; omega) (fun j hj e => ?_), ?_, fun j hj => ?_⟩
  · subst e
    rcases N5.out _ hj with c | c
    · have := VLT.out _ c; omega
    · have := bb.size; have := S1.out; have := Q4.out.size; omega
  · exact ((Fr.below bb).same F5.out).trans f6 (fun _ h => h) (fun j hj e => by omega)
  · exact (N5.out j hj).imp id fun c => Nat.le_trans bb.size c
end Go.Proofs.Ytdcjgcjnfcahkaa
/- Contracts of the document's plain side: All. -/
namespace Go.Proofs.Ytdcjgcjnfcahkaa
open Go.RowKit
set_option linter.unusedVariables false

theorem five {α : Type} {l : Array α} (h : l.size = 5) : ∃ a b c d e, l = #[a, b, c, d, e] := by
  obtain ⟨l⟩ := l
  match l, h with
  | [a, b, c, d, e], _ => exact ⟨a, b, c, d, e, rfl⟩
theorem fill_or (o : Or) (z : Value) (h : z.cells.size = EO.N) : Instr.fill (fun i => some (i * EO.N, EO.N)) ((Array.range (1 * EO.N)).map (z.cells[· % z.cells.size]!)) [(0, .agg (EO.cells o).toArray)] = some (EO.cells o).toArray := by
  obtain ⟨a, b, c, d, e, hz⟩ := five (show z.cells.size = 5 from h)
  rw [hz]
  obtain ⟨nu, ac, bu, pr, le⟩ := o
  kernel_rfl
/-- Within All: what has come, what is left. -/
structure Al6 (w : World) (B g : Nat) (v : Value) (buy : Bool) (l : List Or) (vo : Value) (out : List Or) (A : Option Addr) (n c : Nat) (rest : List Or) (W : World) : Prop where
  bl : Below w.heap.size w W
  rs : Rs W B g v buy l
  own : EO.Own 31 W w.heap.size vo out
  rd : EO.Rd W A n rest
  ok : ∀ x, x ∈ rest → x.ok
  nc : n ≤ c ∧ c ≤ 9223372036854775807
  nl : n + out.length ≤ 100
  ap : ∀ a k, A = some a → vo.ownBlock = some k → a.block ≠ k
  lt : ∀ a, A = some a → a.block < W.heap.size
  eq : out ++ sortO buy rest = sortO buy l
theorem rd_same {w W : World} {A : Option Addr} {m : Nat} {l : List Or} (h : EO.Rd w A m l) (hb : ∀ a, A = some a → W.heap[a.block]? = w.heap[a.block]?) : EO.Rd W A m l :=
  ⟨h.1, h.2.1, fun hm a e => ⟨(h.2.2 hm a e).1, fun j u hj => by
    have := (h.2.2 hm a e).2 j u hj
    unfold World.cell? at this ⊢
    rw [hb a e]
    exact this⟩⟩
theorem own_nc {w : World} {B n c : Nat} {A : Option Addr} {l : List Or} (h : EO.Own 31 w B (.slice A n c) l) : n ≤ c ∧ c ≤ 9223372036854775807 := by
  rcases h.2 with ⟨e, z⟩ | ⟨b, c1, cur, e, _⟩
  · injection e with _ e1 e2; omega
  · cases e; exact gown_cap h
set_option maxRecDepth 100000 in
set_option maxHeartbeats 4000000 in
theorem rall_any (B g : Nat) (v : Value) (buy : Bool) (l : List Or) (w : World) (h : Rs w B g v buy l) :
    Calls Try.prog 40 #[.pointer (some ⟨g, 0, none⟩)] w fun e w' => ∃ v', e = .returned v' ∧ EO.Own 31 w' w.heap.size v' (sortO buy l) ∧ Below w.heap.size w w' := by
  have k1 := h.c1
  obtain ⟨A, c, rfl, hAc⟩ := gown_form h.own
  have hle := h.le
  obtain ⟨m, hm⟩ : ∃ m, l.length = m := ⟨_, rfl⟩
  have ST : Hid (Al6 w B g (.slice A l.length c) buy l (.slice none 0 0) [] A l.length c l w) := Lib.hid ⟨Below.refl _ _, h, gown_nil _ _, gown_rd h.own, h.ok, by
    cases A with
    | none =>
      have hc := hAc rfl
      rcases h.own.2 with ⟨e, z⟩ | ⟨b, c1, cur, e, _⟩
      · rw [z, hc]; omega
      · cases e
    | some a =>
      rcases h.own.2 with ⟨e, z⟩ | ⟨b, c1, cur, e, _⟩
      · cases e
      · cases e; exact gown_cap h.own, (by simpa using hle), (fun a k e q => by cases q), (fun a e => by subst e; exact (gown_lt h.own rfl).2), (by simp)⟩
  rw [hm] at k1 hle ST
  clear h hm
  go_enter Try.func40, Try.ntmps40
  go_wp2_with fail
  go_loopw [3, 4, 5] (fun o r _ wr => ∃ (Ao : Option Addr) (no co : Nat) (out : List Or) (Ar : Option Addr) (n cr : Nat) (rest : List Or), o = .slice Ao no co ∧ r = .slice Ar n cr ∧ Al6 w B g (.slice A m c) buy l (.slice Ao no co) out Ar n cr rest wr) (fun _ r _ _ => match r with | .slice _ n _ => n | _ => 0)
  case atStart => exact ⟨none, 0, 0, [], A, m, c, l, rfl, rfl, ST.out⟩
  case round =>
    obtain ⟨Ao, no, co, out, Ar, n, cr, rest, rfl, rfl, hA⟩ := hrel
    have AL := Lib.hid hA
    have c0 := hA.rs.c0
    have hrl := hA.rd.1
    have hnl := hA.nl
    clear hA
    by_cases hn : 0 < n
    case neg =>
      obtain rfl : n = 0 := by omega
      have er : rest = [] := List.eq_nil_of_length_eq_zero hrl
      subst er
      go_wp2_with fail
      go_ret
      have e := AL.out.eq
      rw [show sortO buy [] = [] from rfl, List.append_nil] at e
      exact ⟨_, rfl, by rw [← e]; exact AL.out.own, AL.out.bl⟩
    case pos =>
      have hd : decide ((0 : Int) < (n : Int)) = true := decide_eq_true (by omega)
      obtain ⟨k, x, hf, hx, hsel⟩ := sort_sel buy rest (fun e => by rw [e] at hrl; simp at hrl; omega)
      have FS := rfst_any buy Ar n cr rest wr AL.out.rd AL.out.ok (by omega)
      rw [hf] at FS
      have hk := (List.getElem?_eq_some_iff.1 hx).1
      have hkn : k < n := by omega
      have hki : (k : Int) < (n : Int) := by omega
      have hk0 : decide ((k : Int) < 0) = false := decide_eq_false (by omega)
      obtain ⟨b, o, rfl, _⟩ := grd_rng AL.out.rd hx
      have HX := Lib.hid hx
      have HS := Lib.hid hsel
      have RL := Lib.hid hrl
      clear hf hx hsel
      go_wp2_with fail
      refine FS.mono ?_; rintro e w1 ⟨rfl, q1⟩
      have Q1 := Lib.hid q1
      have RG : Hid (w1.rangeAt b (o + k * 5) (EO.cells x)) := Lib.hid (by
        obtain ⟨b', o', e, r⟩ := grd_rng (grd_below AL.out.rd q1 (Nat.le_refl _)) HX.out
        cases e; exact r)
      have OW : Hid (EO.Own 31 (w1.alloc (.cells (EO.cells x).toArray 31)) w.heap.size (.slice Ao no co) out) := Lib.hid (gown_below (gown_below AL.out.own q1) (below_new w1 _))
      have RX := Lib.hid (gbx_rd (gbx_new (E := EO) (te := 31) w1 x))
      have SZ : Hid (w.heap.size ≤ w1.heap.size) := Lib.hid (Nat.le_trans AL.out.bl.size q1.size)
      clear q1
      go_wp2_with (first
        | ((with_reducible refine gwl_load TO b (o + k * 5) RG.out ?_ ?_ ?_); rfl; rfl)
        | (refine gwl_bs TO (s := x) rfl (fill_or x) ?_ (by decide))
        | (at_builtin; refine gpl_app TO rfl (.tmp 19) (.tmp 24) rfl w.heap.size (.slice Ao no co) out rfl OW.out (some ⟨w1.heap.size, 0, none⟩) 1 1 [x] rfl RX.out (fun e => by cases e) (by omega) (by have := SZ.out; simp; omega) ?_; intro v2 w2 o2 g2 a2; obtain ⟨A2, n2, c2, rfl⟩ := gown_any o2; have O2 := Lib.hid o2; have G2 := Lib.hid g2; have T2 := Lib.hid a2; clear o2 g2 a2))
      have f : Fr (fun k => (Value.slice Ao no co).ownBlock = some k) wr w2 := (Fr.below (Q1.out.trans ((below_new w1 _).mono Q1.out.size))).same (Fr.grown G2.out (fun k e => e))
      have OB : ∀ k, (Value.slice Ao no co).ownBlock = some k → w.heap.size ≤ k := fun k e => (gown_lt AL.out.own e).1
      have b2 : Below w.heap.size w w2 := (AL.out.bl.trans ((Q1.out.trans ((below_new w1 _).mono Q1.out.size)).mono AL.out.bl.size)).grown G2.out (by simp; have := SZ.out; omega) OB
      have r2 : Rs w2 B g (.slice A m c) buy l := AL.out.rs.keep f (fun e => by have := OB g e; have := ST.out.rs.gl; omega) (fun j hj e => by have := OB j e; have := (gown_lt ST.out.rs.own hj).2; omega)
      have d2 : EO.Rd w2 (some ⟨b, o, none⟩) n rest := rd_same AL.out.rd fun a e => f.at' _ (AL.out.lt a e) (fun c => AL.out.ap a a.block e c rfl)
      refine (rwo_any (some ⟨b, o, none⟩) n cr k rest w2 d2 (by omega) hkn AL.out.nc).mono ?_; rintro e w3 ⟨v3, rfl, o3, q3⟩
      obtain ⟨A3, n3, c3, rfl⟩ := gown_any o3
      have e3 : n3 = n - 1 := by
        have h1 := (gown_rd o3).1
        rw [List.length_eraseIdx, if_pos hk, hrl] at h1
        omega
      have AL3 : Hid (Al6 w B g (.slice A m c) buy l (.slice A2 n2 c2) (out ++ [x]) A3 n3 c3 (rest.eraseIdx k) w3) := Lib.hid ⟨b2.trans (q3.mono b2.size), r2.below q3, gown_below O2.out q3, gown_rd o3, fun y hy => AL.out.ok y (List.mem_of_mem_eraseIdx hy), own_nc o3, by rw [List.length_append, e3]; simp; omega, fun a j e1 e2 => by
        subst e1
        have h1 := (gown_lt o3 (k := a.block) rfl).1
        have h2 := (gown_lt O2.out e2).2
        omega, fun a e1 => by subst e1; exact (gown_lt o3 (k := a.block) rfl).2, by rw [List.append_assoc, List.singleton_append, ← HS.out]; exact AL.out.eq⟩
      have E3 := Lib.hid e3
      clear f OB b2 r2 d2 o3 q3 e3
      go_wp2_with fail
      go_roundw
      case rel => exact ⟨A2, n2, c2, out ++ [x], A3, n3, c3, rest.eraseIdx k, rfl, rfl, AL3.out⟩
      case measure =>
        have := E3.out
        simp only
        omega
end Go.Proofs.Ytdcjgcjnfcahkaa
/- Contracts of the document's plain side: Reach. -/
namespace Go.Proofs.Ytdcjgcjnfcahkaa
open Go.RowKit
set_option linter.unusedVariables false

def condR (buy : Bool) (p nt : Int) (o : Or) : Bool := o.ac != nt && (o.pr == p || btr buy o.pr p)
def oneR (buy : Bool) (p nt : Int) (o : Or) : Int := if condR buy p nt o then o.le else 0
/-- What a price reaches. -/
def sumR (buy : Bool) (l : List Or) (p nt : Int) : Int := (l.map (oneR buy p nt)).sum
theorem sumR_snoc (buy : Bool) (l : List Or) (p nt : Int) {k : Nat} {x : Or} (hx : l[k]? = some x) : sumR buy (l.take (k + 1)) p nt = sumR buy (l.take k) p nt + oneR buy p nt x := by
  unfold sumR
  rw [List.take_add_one, hx, Option.toList_some, List.map_append, List.sum_append]
  simp
theorem sumR_le (buy : Bool) (p nt : Int) : ∀ (l : List Or), (∀ x, x ∈ l → 0 ≤ x.le ∧ x.le ≤ 1000000) → 0 ≤ sumR buy l p nt ∧ sumR buy l p nt ≤ 1000000 * l.length
  | [], _ => by simp [sumR]
  | x :: r, h => by
    have ih := sumR_le buy p nt r (fun y hy => h y (by simp [hy]))
    have hx := h x (by simp)
    have e : sumR buy (x :: r) p nt = oneR buy p nt x + sumR buy r p nt := by simp [sumR]
    have ho : 0 ≤ oneR buy p nt x ∧ oneR buy p nt x ≤ 1000000 := by unfold oneR; split <;> omega
    rw [e, List.length_cons]
    omega
set_option maxRecDepth 100000 in
set_option maxHeartbeats 4000000 in
theorem rreach_any (B g : Nat) (v : Value) (buy : Bool) (l : List Or) (p nt : Int) (w : World) (h : Rs w B g v buy l) (hl : ∀ x, x ∈ l → 0 ≤ x.le ∧ x.le ≤ 1000000) (hp : I64' p) (hnt : 0 ≤ nt ∧ nt ≤ 4294967295) :
    Calls Try.prog 57 #[.pointer (some ⟨g, 0, none⟩), .int .i64 p, .int .u32 nt] w fun e w' => e = .returned (.int .i64 (sumR buy l p nt)) ∧ Below w.heap.size w w' := by
  have hz := zero_or
  have H0 := Lib.hid h
  have BT := Lib.hid fun a b W => rbtr_any buy a b W
  have LE := Lib.hid hl
  obtain ⟨p1, p2⟩ := hp
  obtain ⟨n1, n2⟩ := hnt
  obtain ⟨A, c, rfl, _⟩ := gown_form h.own
  have hle := h.le
  obtain ⟨m, hm⟩ : ∃ m, l.length = m := ⟨_, rfl⟩
  have HL := Lib.hid hm
  rw [hm] at hle H0
  obtain ⟨r, hr⟩ : ∃ r, sumR buy l p nt = r := ⟨_, rfl⟩
  rw [hr]
  have R := Lib.hid hr
  have B0 : Hid (Below w.heap.size w w) := Lib.hid (Below.refl _ _)
  clear h hl hm hr
  go_enter Try.func57, Try.ntmps57
  go_wp2_with fail
  go_loopw [7, 8, 9] (fun s i _ wr => ∃ k : Nat, k ≤ m ∧ i = .int .i64 k ∧ s = .int .i64 (sumR buy (l.take k) p nt) ∧ Below w.heap.size w wr) (fun _ i _ _ => m - (intOf i).toNat)
  case atStart => exact ⟨0, Nat.zero_le _, rfl, rfl, B0.out⟩
  case round =>
    obtain ⟨k, hk, rfl, rfl, hb⟩ := hrel
    have BW := Lib.hid hb
    have HW := Lib.hid (H0.out.below hb)
    have k1 := (H0.out.below hb).c1
    clear hb
    have hsm := sumR_le buy p nt (l.take k) (fun x hx => LE.out x (List.mem_of_mem_take hx))
    have htl : (l.take k).length ≤ 100 := by have := HL.out; rw [List.length_take]; omega
    by_cases hlt : k < m
    case neg =>
      obtain rfl : k = m := by omega
      have E : Hid (sumR buy (l.take k) p nt = r) := Lib.hid (by rw [← R.out, List.take_of_length_le (by rw [HL.out]; exact Nat.le_refl _)])
      have hd : decide ((k : Int) < k) = false := decide_eq_false (by omega)
      generalize sumR buy (l.take k) p nt = s at *
      go_wp2_with fail
      go_ret
      rw [E.out]
      exact ⟨rfl, BW.out⟩
    case pos =>
      have hd : decide ((k : Int) < m) = true := decide_eq_true (by omega)
      have hki : (k : Int) < (m : Int) := by omega
      obtain ⟨x, hx⟩ : ∃ x, l[k]? = some x := ⟨l[k]'(by rw [HL.out]; exact hlt), List.getElem?_eq_getElem _⟩
      obtain ⟨b, c', eb⟩ := gown_slot HW.out.own (by have := HL.out; omega)
      injection eb with e1 _ e2
      subst e1 e2
      have RG : Hid (wr.rangeAt b (k * 5) (EO.cells x)) := Lib.hid (gown_rng HW.out.own hx)
      have SN := Lib.hid (sumR_snoc buy l p nt hx)
      have hxl := LE.out x (List.mem_of_getElem? hx)
      have XO := Lib.hid (HW.out.ok x (List.mem_of_getElem? hx))
      have Y0 : Hid (EO.Bx 31 (wr.alloc (.cells (EO.cells zeroOr).toArray 31)) wr.heap.size zeroOr) := Lib.hid (gbx_new wr _)
      have BTX := Lib.hid fun W => BT.out x.pr p W
      clear hx
      obtain ⟨a1, a2⟩ := XO.out.ac
      obtain ⟨q1, q2⟩ := XO.out.pr
      obtain ⟨s, hs⟩ : ∃ s, sumR buy (l.take k) p nt = s := ⟨_, rfl⟩
      rw [hs] at hsm SN ⊢
      clear hs
      have hs1 : -9223372036854775808 ≤ s + x.le := by omega
      have hs2 : s + x.le ≤ 9223372036854775807 := by omega
      cases ha : (x.ac != nt)
      · have E : Hid (oneR buy p nt x = 0) := Lib.hid (by unfold oneR condR; rw [ha]; rfl)
        go_wp2_with (first | ((with_reducible refine gwl_load TO b (k * 5) RG.out ?_ ?_ ?_); rfl; rfl) | (refine gwl_store TO x wr.heap.size Y0.out rfl rfl ?_; obtain ⟨W3, hW3⟩ : ∃ W3, (wr.alloc (.cells (EO.cells zeroOr).toArray 31)).setRow wr.heap.size (EO.cells x).toArray = W3 := ⟨_, rfl⟩; rw [hW3]; have Y3 : Hid (EO.Bx 31 W3 wr.heap.size x) := Lib.hid (by rw [← hW3]; exact gbx_set Y0.out); have B3 : Hid (Below wr.heap.size wr W3) := Lib.hid (by rw [← hW3]; exact below_row0 (below_new wr _) (Nat.le_refl _)); have d1 : W3.drew.cell? ⟨wr.heap.size, 1, none⟩ = some (.int .u32 x.ac) := gbx_cell Y3.out 1; have d3 : W3.drew.cell? ⟨wr.heap.size, 3, none⟩ = some (.int .i64 x.pr) := gbx_cell Y3.out 3; have d4 : W3.drew.cell? ⟨wr.heap.size, 4, none⟩ = some (.int .i64 x.le) := gbx_cell Y3.out 4; have g0 : W3.drew.cell? ⟨g, 0, none⟩ = some (.bool buy) := (HW.out.below B3.out).c0; clear hW3))
        refine wp_region_held_drew (S := fun U => U = W3.drew) (by kernel_rfl) rfl (fun hH => ?_)
        refine wpAnyH_take (i := 0) (v := .pointer (some ⟨wr.heap.size, 1, none⟩)) rfl (by kernel_rfl) (by kernel_rfl) (by kernel_rfl) (fun _ _ _ h => h) (.inl ⟨by rfl, ?_⟩) (by assumption) ?_
        · intro W hW; subst hW; go_simp
        try simp only [List.getElem_toArray, List.getElem_cons_zero, Act.put, List.setIfInBounds_toArray, List.set_cons_zero, List.set_cons_succ]
        refine wpAnyH_take (i := 1) (v := .int .u32 x.ac) rfl (by kernel_rfl) (by kernel_rfl) (by kernel_rfl) (fun _ _ _ h => h) (.inl ⟨by rfl, ?_⟩) (by assumption) ?_
        · intro W hW; subst hW; go_simp
        try simp only [List.getElem_toArray, List.getElem_cons_zero, List.getElem_cons_succ, Act.put, List.setIfInBounds_toArray, List.set_cons_zero, List.set_cons_succ]
        refine wpAnyH_take (i := 2) (v := .int .u32 nt) rfl (by kernel_rfl) (by kernel_rfl) (by kernel_rfl) (fun _ _ _ h => h) (.inl ⟨by rfl, ?_⟩) (by assumption) ?_
        · intro W hW; subst hW; go_simp
        try simp only [List.getElem_toArray, List.getElem_cons_zero, List.getElem_cons_succ, Act.put, List.setIfInBounds_toArray, List.set_cons_zero, List.set_cons_succ]
        refine wpAnyH_take (i := 3) (v := .bool false) rfl (by kernel_rfl) (by kernel_rfl) (by kernel_rfl) (fun _ _ _ h => h) (.inl ⟨by rfl, ?_⟩) (by assumption) ?_
        · intro W hW; subst hW; go_simp
        try simp only [List.getElem_toArray, List.getElem_cons_zero, List.getElem_cons_succ, Act.put, List.setIfInBounds_toArray, List.set_cons_zero, List.set_cons_succ]
        refine wpAnyH_take (i := 4) (v := .bool false) rfl (by kernel_rfl) (by kernel_rfl) (by kernel_rfl) (fun _ _ _ h => h) (.inl ⟨by rfl, ?_⟩) (by assumption) ?_
        · intro W hW; subst hW; go_simp
        try simp only [List.getElem_toArray, List.getElem_cons_zero, List.getElem_cons_succ, Act.put, List.setIfInBounds_toArray, List.set_cons_zero, List.set_cons_succ]
        refine wpAnyH_take (i := 5) (v := undef) rfl (by kernel_rfl) (by kernel_rfl) (by kernel_rfl) (fun _ _ _ h => h) (.inr ⟨by rfl, rfl⟩) (by assumption) ?_
        try simp only [List.getElem_toArray, List.getElem_cons_zero, List.getElem_cons_succ, Act.put, List.setIfInBounds_toArray, List.set_cons_zero, List.set_cons_succ]
        refine wpAnyH_take (i := 6) (v := undef) rfl (by kernel_rfl) (by kernel_rfl) (by kernel_rfl) (fun _ _ _ h => h) (.inr ⟨by rfl, rfl⟩) (by assumption) ?_
        try simp only [List.getElem_toArray, List.getElem_cons_zero, List.getElem_cons_succ, Act.put, List.setIfInBounds_toArray, List.set_cons_zero, List.set_cons_succ]
        refine wpAnyH_take (i := 7) (v := undef) rfl (by kernel_rfl) (by kernel_rfl) (by kernel_rfl) (fun _ _ _ h => h) (.inr ⟨by rfl, rfl⟩) (by assumption) ?_
        try simp only [List.getElem_toArray, List.getElem_cons_zero, List.getElem_cons_succ, Act.put, List.setIfInBounds_toArray, List.set_cons_zero, List.set_cons_succ]
        refine wpAnyH_take (i := 8) (v := undef) rfl (by kernel_rfl) (by kernel_rfl) (by kernel_rfl) (fun _ _ _ h => h) (.inr ⟨by rfl, rfl⟩) (by assumption) ?_
        try simp only [List.getElem_toArray, List.getElem_cons_zero, List.getElem_cons_succ, Act.put, List.setIfInBounds_toArray, List.set_cons_zero, List.set_cons_succ]
        refine wpAnyH_take (i := 9) (v := undef) rfl (by kernel_rfl) (by kernel_rfl) (by kernel_rfl) (fun _ _ _ h => h) (.inr ⟨by rfl, rfl⟩) (by assumption) ?_
        try simp only [List.getElem_toArray, List.getElem_cons_zero, List.getElem_cons_succ, Act.put, List.setIfInBounds_toArray, List.set_cons_zero, List.set_cons_succ]
        refine wpAnyH_take (i := 10) (v := undef) rfl (by kernel_rfl) (by kernel_rfl) (by kernel_rfl) (fun _ _ _ h => h) (.inr ⟨by rfl, rfl⟩) (by assumption) ?_
        try simp only [List.getElem_toArray, List.getElem_cons_zero, List.getElem_cons_succ, Act.put, List.setIfInBounds_toArray, List.set_cons_zero, List.set_cons_succ]
        refine wpAnyH_take (i := 11) (v := undef) rfl (by kernel_rfl) (by kernel_rfl) (by kernel_rfl) (fun _ _ _ h => h) (.inr ⟨by rfl, rfl⟩) (by assumption) ?_
        try simp only [List.getElem_toArray, List.getElem_cons_zero, List.getElem_cons_succ, Act.put, List.setIfInBounds_toArray, List.set_cons_zero, List.set_cons_succ]
        refine wpAnyH_take (i := 12) (v := undef) rfl (by kernel_rfl) (by kernel_rfl) (by kernel_rfl) (fun _ _ _ h => h) (.inr ⟨by rfl, rfl⟩) (by assumption) ?_
        try simp only [List.getElem_toArray, List.getElem_cons_zero, List.getElem_cons_succ, Act.put, List.setIfInBounds_toArray, List.set_cons_zero, List.set_cons_succ]
        refine wpAnyH_take (i := 13) (v := undef) rfl (by kernel_rfl) (by kernel_rfl) (by kernel_rfl) (fun _ _ _ h => h) (.inr ⟨by rfl, rfl⟩) (by assumption) ?_
        try simp only [List.getElem_toArray, List.getElem_cons_zero, List.getElem_cons_succ, Act.put, List.setIfInBounds_toArray, List.set_cons_zero, List.set_cons_succ]
        refine wpAnyH_take (i := 14) (v := undef) rfl (by kernel_rfl) (by kernel_rfl) (by kernel_rfl) (fun _ _ _ h => h) (.inr ⟨by rfl, rfl⟩) (by assumption) ?_
        try simp only [List.getElem_toArray, List.getElem_cons_zero, List.getElem_cons_succ, Act.put, List.setIfInBounds_toArray, List.set_cons_zero, List.set_cons_succ]
        refine wpAnyH_take (i := 15) (v := undef) rfl (by kernel_rfl) (by kernel_rfl) (by kernel_rfl) (fun _ _ _ h => h) (.inr ⟨by rfl, rfl⟩) (by assumption) ?_
        try simp only [List.getElem_toArray, List.getElem_cons_zero, List.getElem_cons_succ, Act.put, List.setIfInBounds_toArray, List.set_cons_zero, List.set_cons_succ]
        refine wpAnyH_take (i := 16) (v := undef) rfl (by kernel_rfl) (by kernel_rfl) (by kernel_rfl) (fun _ _ _ h => h) (.inr ⟨by rfl, rfl⟩) (by assumption) ?_
        try simp only [List.getElem_toArray, List.getElem_cons_zero, List.getElem_cons_succ, Act.put, List.setIfInBounds_toArray, List.set_cons_zero, List.set_cons_succ]
        refine wpAnyH_take (i := 17) (v := undef) rfl (by kernel_rfl) (by kernel_rfl) (by kernel_rfl) (fun _ _ _ h => h) (.inr ⟨by rfl, rfl⟩) (by assumption) ?_
        try simp only [List.getElem_toArray, List.getElem_cons_zero, List.getElem_cons_succ, Act.put, List.setIfInBounds_toArray, List.set_cons_zero, List.set_cons_succ]
        refine wpAnyH_take (i := 18) (v := undef) rfl (by kernel_rfl) (by kernel_rfl) (by kernel_rfl) (fun _ _ _ h => h) (.inr ⟨by rfl, rfl⟩) (by assumption) ?_
        try simp only [List.getElem_toArray, List.getElem_cons_zero, List.getElem_cons_succ, Act.put, List.setIfInBounds_toArray, List.set_cons_zero, List.set_cons_succ]
        refine wpAnyH_take (i := 19) (v := .bool false) rfl (by kernel_rfl) (by kernel_rfl) (by kernel_rfl) (fun _ _ _ h => h) (.inl ⟨by rfl, ?_⟩) (by assumption) ?_
        · intro W hW; subst hW; go_simp
        try simp only [List.getElem_toArray, List.getElem_cons_zero, List.getElem_cons_succ, Act.put, List.setIfInBounds_toArray, List.set_cons_zero, List.set_cons_succ]
        refine wpAnyH_done (by decide +kernel) ?_ _
        clear hH
        go_wp2_with fail
        go_roundw
        case rel => exact ⟨k + 1, hlt, by go_num, by rw [SN.out, E.out]; simp, (BW.out.trans (B3.out.mono BW.out.size)).drew⟩
        case measure => simp [intOf]; omega
      · cases hq : (x.pr == p)
        · cases hb : btr buy x.pr p
          all_goals rw [hb] at BTX
          · have E : Hid (oneR buy p nt x = 0) := Lib.hid (by unfold oneR condR; rw [ha, hq, hb]; rfl)
            go_wp2_with (first | ((with_reducible refine gwl_load TO b (k * 5) RG.out ?_ ?_ ?_); rfl; rfl) | (refine gwl_store TO x wr.heap.size Y0.out rfl rfl ?_; obtain ⟨W3, hW3⟩ : ∃ W3, (wr.alloc (.cells (EO.cells zeroOr).toArray 31)).setRow wr.heap.size (EO.cells x).toArray = W3 := ⟨_, rfl⟩; rw [hW3]; have Y3 : Hid (EO.Bx 31 W3 wr.heap.size x) := Lib.hid (by rw [← hW3]; exact gbx_set Y0.out); have B3 : Hid (Below wr.heap.size wr W3) := Lib.hid (by rw [← hW3]; exact below_row0 (below_new wr _) (Nat.le_refl _)); have d1 : W3.drew.cell? ⟨wr.heap.size, 1, none⟩ = some (.int .u32 x.ac) := gbx_cell Y3.out 1; have d3 : W3.drew.cell? ⟨wr.heap.size, 3, none⟩ = some (.int .i64 x.pr) := gbx_cell Y3.out 3; have d4 : W3.drew.cell? ⟨wr.heap.size, 4, none⟩ = some (.int .i64 x.le) := gbx_cell Y3.out 4; have g0 : W3.drew.cell? ⟨g, 0, none⟩ = some (.bool buy) := (HW.out.below B3.out).c0; clear hW3))
            refine wp_region_held_drew (S := fun U => U = W3.drew) (by kernel_rfl) rfl (fun hH => ?_)
            refine wpAnyH_take (i := 0) (v := .pointer (some ⟨wr.heap.size, 1, none⟩)) rfl (by kernel_rfl) (by kernel_rfl) (by kernel_rfl) (fun _ _ _ h => h) (.inl ⟨by rfl, ?_⟩) (by assumption) ?_
            · intro W hW; subst hW; go_simp
            try simp only [List.getElem_toArray, List.getElem_cons_zero, Act.put, List.setIfInBounds_toArray, List.set_cons_zero, List.set_cons_succ]
            refine wpAnyH_take (i := 1) (v := .int .u32 x.ac) rfl (by kernel_rfl) (by kernel_rfl) (by kernel_rfl) (fun _ _ _ h => h) (.inl ⟨by rfl, ?_⟩) (by assumption) ?_
            · intro W hW; subst hW; go_simp
            try simp only [List.getElem_toArray, List.getElem_cons_zero, List.getElem_cons_succ, Act.put, List.setIfInBounds_toArray, List.set_cons_zero, List.set_cons_succ]
            refine wpAnyH_take (i := 2) (v := .int .u32 nt) rfl (by kernel_rfl) (by kernel_rfl) (by kernel_rfl) (fun _ _ _ h => h) (.inl ⟨by rfl, ?_⟩) (by assumption) ?_
            · intro W hW; subst hW; go_simp
            try simp only [List.getElem_toArray, List.getElem_cons_zero, List.getElem_cons_succ, Act.put, List.setIfInBounds_toArray, List.set_cons_zero, List.set_cons_succ]
            refine wpAnyH_take (i := 3) (v := .bool true) rfl (by kernel_rfl) (by kernel_rfl) (by kernel_rfl) (fun _ _ _ h => h) (.inl ⟨by rfl, ?_⟩) (by assumption) ?_
            · intro W hW; subst hW; go_simp
            try simp only [List.getElem_toArray, List.getElem_cons_zero, List.getElem_cons_succ, Act.put, List.setIfInBounds_toArray, List.set_cons_zero, List.set_cons_succ]
            refine wpAnyH_take (i := 4) (v := .bool true) rfl (by kernel_rfl) (by kernel_rfl) (by kernel_rfl) (fun _ _ _ h => h) (.inl ⟨by rfl, ?_⟩) (by assumption) ?_
            · intro W hW; subst hW; go_simp
            try simp only [List.getElem_toArray, List.getElem_cons_zero, List.getElem_cons_succ, Act.put, List.setIfInBounds_toArray, List.set_cons_zero, List.set_cons_succ]
            refine wpAnyH_take (i := 5) (v := .pointer (some ⟨wr.heap.size, 3, none⟩)) rfl (by kernel_rfl) (by kernel_rfl) (by kernel_rfl) (fun _ _ _ h => h) (.inl ⟨by rfl, ?_⟩) (by assumption) ?_
            · intro W hW; subst hW; go_simp
            try simp only [List.getElem_toArray, List.getElem_cons_zero, List.getElem_cons_succ, Act.put, List.setIfInBounds_toArray, List.set_cons_zero, List.set_cons_succ]
            refine wpAnyH_take (i := 6) (v := .int .i64 x.pr) rfl (by kernel_rfl) (by kernel_rfl) (by kernel_rfl) (fun _ _ _ h => h) (.inl ⟨by rfl, ?_⟩) (by assumption) ?_
            · intro W hW; subst hW; go_simp
            try simp only [List.getElem_toArray, List.getElem_cons_zero, List.getElem_cons_succ, Act.put, List.setIfInBounds_toArray, List.set_cons_zero, List.set_cons_succ]
            refine wpAnyH_take (i := 7) (v := .int .i64 p) rfl (by kernel_rfl) (by kernel_rfl) (by kernel_rfl) (fun _ _ _ h => h) (.inl ⟨by rfl, ?_⟩) (by assumption) ?_
            · intro W hW; subst hW; go_simp
            try simp only [List.getElem_toArray, List.getElem_cons_zero, List.getElem_cons_succ, Act.put, List.setIfInBounds_toArray, List.set_cons_zero, List.set_cons_succ]
            refine wpAnyH_take (i := 8) (v := .bool false) rfl (by kernel_rfl) (by kernel_rfl) (by kernel_rfl) (fun _ _ _ h => h) (.inl ⟨by rfl, ?_⟩) (by assumption) ?_
            · intro W hW; subst hW; go_simp
            try simp only [List.getElem_toArray, List.getElem_cons_zero, List.getElem_cons_succ, Act.put, List.setIfInBounds_toArray, List.set_cons_zero, List.set_cons_succ]
            refine wpAnyH_take (i := 9) (v := .bool false) rfl (by kernel_rfl) (by kernel_rfl) (by kernel_rfl) (fun _ _ _ h => h) (.inl ⟨by rfl, ?_⟩) (by assumption) ?_
            · intro W hW; subst hW; go_simp
            try simp only [List.getElem_toArray, List.getElem_cons_zero, List.getElem_cons_succ, Act.put, List.setIfInBounds_toArray, List.set_cons_zero, List.set_cons_succ]
            refine wpAnyH_take (i := 10) (v := .pointer (some ⟨g, 0, none⟩)) rfl (by kernel_rfl) (by kernel_rfl) (by kernel_rfl) (fun _ _ _ h => h) (.inl ⟨by rfl, ?_⟩) (by assumption) ?_
            · intro W hW; subst hW; go_simp
            try simp only [List.getElem_toArray, List.getElem_cons_zero, List.getElem_cons_succ, Act.put, List.setIfInBounds_toArray, List.set_cons_zero, List.set_cons_succ]
            refine wpAnyH_take (i := 11) (v := .pointer (some ⟨g, 0, none⟩)) rfl (by kernel_rfl) (by kernel_rfl) (by kernel_rfl) (fun _ _ _ h => h) (.inl ⟨by rfl, ?_⟩) (by assumption) ?_
            · intro W hW; subst hW; go_simp
            try simp only [List.getElem_toArray, List.getElem_cons_zero, List.getElem_cons_succ, Act.put, List.setIfInBounds_toArray, List.set_cons_zero, List.set_cons_succ]
            refine wpAnyH_take (i := 12) (v := .pointer (some ⟨g, 0, none⟩)) rfl (by kernel_rfl) (by kernel_rfl) (by kernel_rfl) (fun _ _ _ h => h) (.inl ⟨by rfl, ?_⟩) (by assumption) ?_
            · intro W hW; subst hW; go_simp
            try simp only [List.getElem_toArray, List.getElem_cons_zero, List.getElem_cons_succ, Act.put, List.setIfInBounds_toArray, List.set_cons_zero, List.set_cons_succ]
            refine wpAnyH_take (i := 13) (v := .bool buy) rfl (by kernel_rfl) (by kernel_rfl) (by kernel_rfl) (fun _ _ _ h => h) (.inl ⟨by rfl, ?_⟩) (by assumption) ?_
            · intro W hW; subst hW; go_simp
            try simp only [List.getElem_toArray, List.getElem_cons_zero, List.getElem_cons_succ, Act.put, List.setIfInBounds_toArray, List.set_cons_zero, List.set_cons_succ]
            refine wpAnyH_take (i := 14) (v := .pointer (some ⟨wr.heap.size, 3, none⟩)) rfl (by kernel_rfl) (by kernel_rfl) (by kernel_rfl) (fun _ _ _ h => h) (.inl ⟨by rfl, ?_⟩) (by assumption) ?_
            · intro W hW; subst hW; go_simp
            try simp only [List.getElem_toArray, List.getElem_cons_zero, List.getElem_cons_succ, Act.put, List.setIfInBounds_toArray, List.set_cons_zero, List.set_cons_succ]
            refine wpAnyH_take (i := 15) (v := .int .i64 x.pr) rfl (by kernel_rfl) (by kernel_rfl) (by kernel_rfl) (fun _ _ _ h => h) (.inl ⟨by rfl, ?_⟩) (by assumption) ?_
            · intro W hW; subst hW; go_simp
            try simp only [List.getElem_toArray, List.getElem_cons_zero, List.getElem_cons_succ, Act.put, List.setIfInBounds_toArray, List.set_cons_zero, List.set_cons_succ]
            refine wpAnyH_take (i := 16) (v := .int .i64 p) rfl (by kernel_rfl) (by kernel_rfl) (by kernel_rfl) (fun _ _ _ h => h) (.inl ⟨by rfl, ?_⟩) (by assumption) ?_
            · intro W hW; subst hW; go_simp
            try simp only [List.getElem_toArray, List.getElem_cons_zero, List.getElem_cons_succ, Act.put, List.setIfInBounds_toArray, List.set_cons_zero, List.set_cons_succ]
            refine wpAnyH_ready (rs := [17]) (by decide +kernel) (by simp) (AllReadyH.cons rfl (fun KQ hK => ?_) AllReadyH.nil)
            go_simp
            refine (BTX.out _).mono ?_; rintro e0 W1 ⟨rfl, rfl⟩
            have hH := hH
            refine hK.out _ _ hH (fun _ => ?_)
            clear hK 
            try simp only [List.setIfInBounds_toArray, List.set_cons_zero, List.set_cons_succ]
            refine wpAnyH_take (i := 18) (v := .bool false) rfl (by kernel_rfl) (by kernel_rfl) (by kernel_rfl) (fun _ _ _ h => h) (.inl ⟨by rfl, ?_⟩) (by assumption) ?_
            · intro W hW; subst hW; go_simp
            try simp only [List.getElem_toArray, List.getElem_cons_zero, List.getElem_cons_succ, Act.put, List.setIfInBounds_toArray, List.set_cons_zero, List.set_cons_succ]
            refine wpAnyH_take (i := 19) (v := .bool false) rfl (by kernel_rfl) (by kernel_rfl) (by kernel_rfl) (fun _ _ _ h => h) (.inl ⟨by rfl, ?_⟩) (by assumption) ?_
            · intro W hW; subst hW; go_simp
            try simp only [List.getElem_toArray, List.getElem_cons_zero, List.getElem_cons_succ, Act.put, List.setIfInBounds_toArray, List.set_cons_zero, List.set_cons_succ]
            refine wpAnyH_done (by decide +kernel) ?_ _
            clear hH
            go_wp2_with fail
            go_roundw
            case rel => exact ⟨k + 1, hlt, by go_num, by rw [SN.out, E.out]; simp, (BW.out.trans (B3.out.mono BW.out.size)).drew⟩
            case measure => simp [intOf]; omega
          · have E : Hid (oneR buy p nt x = x.le) := Lib.hid (by unfold oneR condR; rw [ha, hq, hb]; rfl)
            go_wp2_with (first | ((with_reducible refine gwl_load TO b (k * 5) RG.out ?_ ?_ ?_); rfl; rfl) | (refine gwl_store TO x wr.heap.size Y0.out rfl rfl ?_; obtain ⟨W3, hW3⟩ : ∃ W3, (wr.alloc (.cells (EO.cells zeroOr).toArray 31)).setRow wr.heap.size (EO.cells x).toArray = W3 := ⟨_, rfl⟩; rw [hW3]; have Y3 : Hid (EO.Bx 31 W3 wr.heap.size x) := Lib.hid (by rw [← hW3]; exact gbx_set Y0.out); have B3 : Hid (Below wr.heap.size wr W3) := Lib.hid (by rw [← hW3]; exact below_row0 (below_new wr _) (Nat.le_refl _)); have d1 : W3.drew.cell? ⟨wr.heap.size, 1, none⟩ = some (.int .u32 x.ac) := gbx_cell Y3.out 1; have d3 : W3.drew.cell? ⟨wr.heap.size, 3, none⟩ = some (.int .i64 x.pr) := gbx_cell Y3.out 3; have d4 : W3.drew.cell? ⟨wr.heap.size, 4, none⟩ = some (.int .i64 x.le) := gbx_cell Y3.out 4; have g0 : W3.drew.cell? ⟨g, 0, none⟩ = some (.bool buy) := (HW.out.below B3.out).c0; clear hW3))
            refine wp_region_held_drew (S := fun U => U = W3.drew) (by kernel_rfl) rfl (fun hH => ?_)
            refine wpAnyH_take (i := 0) (v := .pointer (some ⟨wr.heap.size, 1, none⟩)) rfl (by kernel_rfl) (by kernel_rfl) (by kernel_rfl) (fun _ _ _ h => h) (.inl ⟨by rfl, ?_⟩) (by assumption) ?_
            · intro W hW; subst hW; go_simp
            try simp only [List.getElem_toArray, List.getElem_cons_zero, Act.put, List.setIfInBounds_toArray, List.set_cons_zero, List.set_cons_succ]
            refine wpAnyH_take (i := 1) (v := .int .u32 x.ac) rfl (by kernel_rfl) (by kernel_rfl) (by kernel_rfl) (fun _ _ _ h => h) (.inl ⟨by rfl, ?_⟩) (by assumption) ?_
            · intro W hW; subst hW; go_simp
            try simp only [List.getElem_toArray, List.getElem_cons_zero, List.getElem_cons_succ, Act.put, List.setIfInBounds_toArray, List.set_cons_zero, List.set_cons_succ]
            refine wpAnyH_take (i := 2) (v := .int .u32 nt) rfl (by kernel_rfl) (by kernel_rfl) (by kernel_rfl) (fun _ _ _ h => h) (.inl ⟨by rfl, ?_⟩) (by assumption) ?_
            · intro W hW; subst hW; go_simp
            try simp only [List.getElem_toArray, List.getElem_cons_zero, List.getElem_cons_succ, Act.put, List.setIfInBounds_toArray, List.set_cons_zero, List.set_cons_succ]
            refine wpAnyH_take (i := 3) (v := .bool true) rfl (by kernel_rfl) (by kernel_rfl) (by kernel_rfl) (fun _ _ _ h => h) (.inl ⟨by rfl, ?_⟩) (by assumption) ?_
            · intro W hW; subst hW; go_simp
            try simp only [List.getElem_toArray, List.getElem_cons_zero, List.getElem_cons_succ, Act.put, List.setIfInBounds_toArray, List.set_cons_zero, List.set_cons_succ]
            refine wpAnyH_take (i := 4) (v := .bool true) rfl (by kernel_rfl) (by kernel_rfl) (by kernel_rfl) (fun _ _ _ h => h) (.inl ⟨by rfl, ?_⟩) (by assumption) ?_
            · intro W hW; subst hW; go_simp
            try simp only [List.getElem_toArray, List.getElem_cons_zero, List.getElem_cons_succ, Act.put, List.setIfInBounds_toArray, List.set_cons_zero, List.set_cons_succ]
            refine wpAnyH_take (i := 5) (v := .pointer (some ⟨wr.heap.size, 3, none⟩)) rfl (by kernel_rfl) (by kernel_rfl) (by kernel_rfl) (fun _ _ _ h => h) (.inl ⟨by rfl, ?_⟩) (by assumption) ?_
            · intro W hW; subst hW; go_simp
            try simp only [List.getElem_toArray, List.getElem_cons_zero, List.getElem_cons_succ, Act.put, List.setIfInBounds_toArray, List.set_cons_zero, List.set_cons_succ]
            refine wpAnyH_take (i := 6) (v := .int .i64 x.pr) rfl (by kernel_rfl) (by kernel_rfl) (by kernel_rfl) (fun _ _ _ h => h) (.inl ⟨by rfl, ?_⟩) (by assumption) ?_
            · intro W hW; subst hW; go_simp
            try simp only [List.getElem_toArray, List.getElem_cons_zero, List.getElem_cons_succ, Act.put, List.setIfInBounds_toArray, List.set_cons_zero, List.set_cons_succ]
            refine wpAnyH_take (i := 7) (v := .int .i64 p) rfl (by kernel_rfl) (by kernel_rfl) (by kernel_rfl) (fun _ _ _ h => h) (.inl ⟨by rfl, ?_⟩) (by assumption) ?_
            · intro W hW; subst hW; go_simp
            try simp only [List.getElem_toArray, List.getElem_cons_zero, List.getElem_cons_succ, Act.put, List.setIfInBounds_toArray, List.set_cons_zero, List.set_cons_succ]
            refine wpAnyH_take (i := 8) (v := .bool false) rfl (by kernel_rfl) (by kernel_rfl) (by kernel_rfl) (fun _ _ _ h => h) (.inl ⟨by rfl, ?_⟩) (by assumption) ?_
            · intro W hW; subst hW; go_simp
            try simp only [List.getElem_toArray, List.getElem_cons_zero, List.getElem_cons_succ, Act.put, List.setIfInBounds_toArray, List.set_cons_zero, List.set_cons_succ]
            refine wpAnyH_take (i := 9) (v := .bool false) rfl (by kernel_rfl) (by kernel_rfl) (by kernel_rfl) (fun _ _ _ h => h) (.inl ⟨by rfl, ?_⟩) (by assumption) ?_
            · intro W hW; subst hW; go_simp
            try simp only [List.getElem_toArray, List.getElem_cons_zero, List.getElem_cons_succ, Act.put, List.setIfInBounds_toArray, List.set_cons_zero, List.set_cons_succ]
            refine wpAnyH_take (i := 10) (v := .pointer (some ⟨g, 0, none⟩)) rfl (by kernel_rfl) (by kernel_rfl) (by kernel_rfl) (fun _ _ _ h => h) (.inl ⟨by rfl, ?_⟩) (by assumption) ?_
            · intro W hW; subst hW; go_simp
            try simp only [List.getElem_toArray, List.getElem_cons_zero, List.getElem_cons_succ, Act.put, List.setIfInBounds_toArray, List.set_cons_zero, List.set_cons_succ]
            refine wpAnyH_take (i := 11) (v := .pointer (some ⟨g, 0, none⟩)) rfl (by kernel_rfl) (by kernel_rfl) (by kernel_rfl) (fun _ _ _ h => h) (.inl ⟨by rfl, ?_⟩) (by assumption) ?_
            · intro W hW; subst hW; go_simp
            try simp only [List.getElem_toArray, List.getElem_cons_zero, List.getElem_cons_succ, Act.put, List.setIfInBounds_toArray, List.set_cons_zero, List.set_cons_succ]
            refine wpAnyH_take (i := 12) (v := .pointer (some ⟨g, 0, none⟩)) rfl (by kernel_rfl) (by kernel_rfl) (by kernel_rfl) (fun _ _ _ h => h) (.inl ⟨by rfl, ?_⟩) (by assumption) ?_
            · intro W hW; subst hW; go_simp
            try simp only [List.getElem_toArray, List.getElem_cons_zero, List.getElem_cons_succ, Act.put, List.setIfInBounds_toArray, List.set_cons_zero, List.set_cons_succ]
            refine wpAnyH_take (i := 13) (v := .bool buy) rfl (by kernel_rfl) (by kernel_rfl) (by kernel_rfl) (fun _ _ _ h => h) (.inl ⟨by rfl, ?_⟩) (by assumption) ?_
            · intro W hW; subst hW; go_simp
            try simp only [List.getElem_toArray, List.getElem_cons_zero, List.getElem_cons_succ, Act.put, List.setIfInBounds_toArray, List.set_cons_zero, List.set_cons_succ]
            refine wpAnyH_take (i := 14) (v := .pointer (some ⟨wr.heap.size, 3, none⟩)) rfl (by kernel_rfl) (by kernel_rfl) (by kernel_rfl) (fun _ _ _ h => h) (.inl ⟨by rfl, ?_⟩) (by assumption) ?_
            · intro W hW; subst hW; go_simp
            try simp only [List.getElem_toArray, List.getElem_cons_zero, List.getElem_cons_succ, Act.put, List.setIfInBounds_toArray, List.set_cons_zero, List.set_cons_succ]
            refine wpAnyH_take (i := 15) (v := .int .i64 x.pr) rfl (by kernel_rfl) (by kernel_rfl) (by kernel_rfl) (fun _ _ _ h => h) (.inl ⟨by rfl, ?_⟩) (by assumption) ?_
            · intro W hW; subst hW; go_simp
            try simp only [List.getElem_toArray, List.getElem_cons_zero, List.getElem_cons_succ, Act.put, List.setIfInBounds_toArray, List.set_cons_zero, List.set_cons_succ]
            refine wpAnyH_take (i := 16) (v := .int .i64 p) rfl (by kernel_rfl) (by kernel_rfl) (by kernel_rfl) (fun _ _ _ h => h) (.inl ⟨by rfl, ?_⟩) (by assumption) ?_
            · intro W hW; subst hW; go_simp
            try simp only [List.getElem_toArray, List.getElem_cons_zero, List.getElem_cons_succ, Act.put, List.setIfInBounds_toArray, List.set_cons_zero, List.set_cons_succ]
            refine wpAnyH_ready (rs := [17]) (by decide +kernel) (by simp) (AllReadyH.cons rfl (fun KQ hK => ?_) AllReadyH.nil)
            go_simp
            refine (BTX.out _).mono ?_; rintro e0 W1 ⟨rfl, rfl⟩
            have hH := hH
            refine hK.out _ _ hH (fun _ => ?_)
            clear hK 
            try simp only [List.setIfInBounds_toArray, List.set_cons_zero, List.set_cons_succ]
            refine wpAnyH_take (i := 18) (v := .bool true) rfl (by kernel_rfl) (by kernel_rfl) (by kernel_rfl) (fun _ _ _ h => h) (.inl ⟨by rfl, ?_⟩) (by assumption) ?_
            · intro W hW; subst hW; go_simp
            try simp only [List.getElem_toArray, List.getElem_cons_zero, List.getElem_cons_succ, Act.put, List.setIfInBounds_toArray, List.set_cons_zero, List.set_cons_succ]
            refine wpAnyH_take (i := 19) (v := .bool true) rfl (by kernel_rfl) (by kernel_rfl) (by kernel_rfl) (fun _ _ _ h => h) (.inl ⟨by rfl, ?_⟩) (by assumption) ?_
            · intro W hW; subst hW; go_simp
            try simp only [List.getElem_toArray, List.getElem_cons_zero, List.getElem_cons_succ, Act.put, List.setIfInBounds_toArray, List.set_cons_zero, List.set_cons_succ]
            refine wpAnyH_done (by decide +kernel) ?_ _
            clear hH
            go_wp2_with fail
            go_roundw
            case rel => exact ⟨k + 1, hlt, by go_num, by rw [SN.out, E.out], (BW.out.trans (B3.out.mono BW.out.size)).drew⟩
            case measure => simp [intOf]; omega
        · have E : Hid (oneR buy p nt x = x.le) := Lib.hid (by unfold oneR condR; rw [ha, hq]; rfl)
          go_wp2_with (first | ((with_reducible refine gwl_load TO b (k * 5) RG.out ?_ ?_ ?_); rfl; rfl) | (refine gwl_store TO x wr.heap.size Y0.out rfl rfl ?_; obtain ⟨W3, hW3⟩ : ∃ W3, (wr.alloc (.cells (EO.cells zeroOr).toArray 31)).setRow wr.heap.size (EO.cells x).toArray = W3 := ⟨_, rfl⟩; rw [hW3]; have Y3 : Hid (EO.Bx 31 W3 wr.heap.size x) := Lib.hid (by rw [← hW3]; exact gbx_set Y0.out); have B3 : Hid (Below wr.heap.size wr W3) := Lib.hid (by rw [← hW3]; exact below_row0 (below_new wr _) (Nat.le_refl _)); have d1 : W3.drew.cell? ⟨wr.heap.size, 1, none⟩ = some (.int .u32 x.ac) := gbx_cell Y3.out 1; have d3 : W3.drew.cell? ⟨wr.heap.size, 3, none⟩ = some (.int .i64 x.pr) := gbx_cell Y3.out 3; have d4 : W3.drew.cell? ⟨wr.heap.size, 4, none⟩ = some (.int .i64 x.le) := gbx_cell Y3.out 4; have g0 : W3.drew.cell? ⟨g, 0, none⟩ = some (.bool buy) := (HW.out.below B3.out).c0; clear hW3))
          refine wp_region_held_drew (S := fun U => U = W3.drew) (by kernel_rfl) rfl (fun hH => ?_)
          refine wpAnyH_take (i := 0) (v := .pointer (some ⟨wr.heap.size, 1, none⟩)) rfl (by kernel_rfl) (by kernel_rfl) (by kernel_rfl) (fun _ _ _ h => h) (.inl ⟨by rfl, ?_⟩) (by assumption) ?_
          · intro W hW; subst hW; go_simp
          try simp only [List.getElem_toArray, List.getElem_cons_zero, Act.put, List.setIfInBounds_toArray, List.set_cons_zero, List.set_cons_succ]
          refine wpAnyH_take (i := 1) (v := .int .u32 x.ac) rfl (by kernel_rfl) (by kernel_rfl) (by kernel_rfl) (fun _ _ _ h => h) (.inl ⟨by rfl, ?_⟩) (by assumption) ?_
          · intro W hW; subst hW; go_simp
          try simp only [List.getElem_toArray, List.getElem_cons_zero, List.getElem_cons_succ, Act.put, List.setIfInBounds_toArray, List.set_cons_zero, List.set_cons_succ]
          refine wpAnyH_take (i := 2) (v := .int .u32 nt) rfl (by kernel_rfl) (by kernel_rfl) (by kernel_rfl) (fun _ _ _ h => h) (.inl ⟨by rfl, ?_⟩) (by assumption) ?_
          · intro W hW; subst hW; go_simp
          try simp only [List.getElem_toArray, List.getElem_cons_zero, List.getElem_cons_succ, Act.put, List.setIfInBounds_toArray, List.set_cons_zero, List.set_cons_succ]
          refine wpAnyH_take (i := 3) (v := .bool true) rfl (by kernel_rfl) (by kernel_rfl) (by kernel_rfl) (fun _ _ _ h => h) (.inl ⟨by rfl, ?_⟩) (by assumption) ?_
          · intro W hW; subst hW; go_simp
          try simp only [List.getElem_toArray, List.getElem_cons_zero, List.getElem_cons_succ, Act.put, List.setIfInBounds_toArray, List.set_cons_zero, List.set_cons_succ]
          refine wpAnyH_take (i := 4) (v := .bool true) rfl (by kernel_rfl) (by kernel_rfl) (by kernel_rfl) (fun _ _ _ h => h) (.inl ⟨by rfl, ?_⟩) (by assumption) ?_
          · intro W hW; subst hW; go_simp
          try simp only [List.getElem_toArray, List.getElem_cons_zero, List.getElem_cons_succ, Act.put, List.setIfInBounds_toArray, List.set_cons_zero, List.set_cons_succ]
          refine wpAnyH_take (i := 5) (v := .pointer (some ⟨wr.heap.size, 3, none⟩)) rfl (by kernel_rfl) (by kernel_rfl) (by kernel_rfl) (fun _ _ _ h => h) (.inl ⟨by rfl, ?_⟩) (by assumption) ?_
          · intro W hW; subst hW; go_simp
          try simp only [List.getElem_toArray, List.getElem_cons_zero, List.getElem_cons_succ, Act.put, List.setIfInBounds_toArray, List.set_cons_zero, List.set_cons_succ]
          refine wpAnyH_take (i := 6) (v := .int .i64 x.pr) rfl (by kernel_rfl) (by kernel_rfl) (by kernel_rfl) (fun _ _ _ h => h) (.inl ⟨by rfl, ?_⟩) (by assumption) ?_
          · intro W hW; subst hW; go_simp
          try simp only [List.getElem_toArray, List.getElem_cons_zero, List.getElem_cons_succ, Act.put, List.setIfInBounds_toArray, List.set_cons_zero, List.set_cons_succ]
          refine wpAnyH_take (i := 7) (v := .int .i64 p) rfl (by kernel_rfl) (by kernel_rfl) (by kernel_rfl) (fun _ _ _ h => h) (.inl ⟨by rfl, ?_⟩) (by assumption) ?_
          · intro W hW; subst hW; go_simp
          try simp only [List.getElem_toArray, List.getElem_cons_zero, List.getElem_cons_succ, Act.put, List.setIfInBounds_toArray, List.set_cons_zero, List.set_cons_succ]
          refine wpAnyH_take (i := 8) (v := .bool true) rfl (by kernel_rfl) (by kernel_rfl) (by kernel_rfl) (fun _ _ _ h => h) (.inl ⟨by rfl, ?_⟩) (by assumption) ?_
          · intro W hW; subst hW; go_simp
          try simp only [List.getElem_toArray, List.getElem_cons_zero, List.getElem_cons_succ, Act.put, List.setIfInBounds_toArray, List.set_cons_zero, List.set_cons_succ]
          refine wpAnyH_take (i := 9) (v := .bool true) rfl (by kernel_rfl) (by kernel_rfl) (by kernel_rfl) (fun _ _ _ h => h) (.inl ⟨by rfl, ?_⟩) (by assumption) ?_
          · intro W hW; subst hW; go_simp
          try simp only [List.getElem_toArray, List.getElem_cons_zero, List.getElem_cons_succ, Act.put, List.setIfInBounds_toArray, List.set_cons_zero, List.set_cons_succ]
          refine wpAnyH_take (i := 10) (v := undef) rfl (by kernel_rfl) (by kernel_rfl) (by kernel_rfl) (fun _ _ _ h => h) (.inr ⟨by rfl, rfl⟩) (by assumption) ?_
          try simp only [List.getElem_toArray, List.getElem_cons_zero, List.getElem_cons_succ, Act.put, List.setIfInBounds_toArray, List.set_cons_zero, List.set_cons_succ]
          refine wpAnyH_take (i := 11) (v := undef) rfl (by kernel_rfl) (by kernel_rfl) (by kernel_rfl) (fun _ _ _ h => h) (.inr ⟨by rfl, rfl⟩) (by assumption) ?_
          try simp only [List.getElem_toArray, List.getElem_cons_zero, List.getElem_cons_succ, Act.put, List.setIfInBounds_toArray, List.set_cons_zero, List.set_cons_succ]
          refine wpAnyH_take (i := 12) (v := undef) rfl (by kernel_rfl) (by kernel_rfl) (by kernel_rfl) (fun _ _ _ h => h) (.inr ⟨by rfl, rfl⟩) (by assumption) ?_
          try simp only [List.getElem_toArray, List.getElem_cons_zero, List.getElem_cons_succ, Act.put, List.setIfInBounds_toArray, List.set_cons_zero, List.set_cons_succ]
          refine wpAnyH_take (i := 13) (v := undef) rfl (by kernel_rfl) (by kernel_rfl) (by kernel_rfl) (fun _ _ _ h => h) (.inr ⟨by rfl, rfl⟩) (by assumption) ?_
          try simp only [List.getElem_toArray, List.getElem_cons_zero, List.getElem_cons_succ, Act.put, List.setIfInBounds_toArray, List.set_cons_zero, List.set_cons_succ]
          refine wpAnyH_take (i := 14) (v := undef) rfl (by kernel_rfl) (by kernel_rfl) (by kernel_rfl) (fun _ _ _ h => h) (.inr ⟨by rfl, rfl⟩) (by assumption) ?_
          try simp only [List.getElem_toArray, List.getElem_cons_zero, List.getElem_cons_succ, Act.put, List.setIfInBounds_toArray, List.set_cons_zero, List.set_cons_succ]
          refine wpAnyH_take (i := 15) (v := undef) rfl (by kernel_rfl) (by kernel_rfl) (by kernel_rfl) (fun _ _ _ h => h) (.inr ⟨by rfl, rfl⟩) (by assumption) ?_
          try simp only [List.getElem_toArray, List.getElem_cons_zero, List.getElem_cons_succ, Act.put, List.setIfInBounds_toArray, List.set_cons_zero, List.set_cons_succ]
          refine wpAnyH_take (i := 16) (v := undef) rfl (by kernel_rfl) (by kernel_rfl) (by kernel_rfl) (fun _ _ _ h => h) (.inr ⟨by rfl, rfl⟩) (by assumption) ?_
          try simp only [List.getElem_toArray, List.getElem_cons_zero, List.getElem_cons_succ, Act.put, List.setIfInBounds_toArray, List.set_cons_zero, List.set_cons_succ]
          refine wpAnyH_take (i := 17) (v := undef) rfl (by kernel_rfl) (by kernel_rfl) (by kernel_rfl) (fun _ _ _ h => h) (.inr ⟨by rfl, rfl⟩) (by assumption) ?_
          try simp only [List.getElem_toArray, List.getElem_cons_zero, List.getElem_cons_succ, Act.put, List.setIfInBounds_toArray, List.set_cons_zero, List.set_cons_succ]
          refine wpAnyH_take (i := 18) (v := .bool true) rfl (by kernel_rfl) (by kernel_rfl) (by kernel_rfl) (fun _ _ _ h => h) (.inl ⟨by rfl, ?_⟩) (by assumption) ?_
          · intro W hW; subst hW; go_simp
          try simp only [List.getElem_toArray, List.getElem_cons_zero, List.getElem_cons_succ, Act.put, List.setIfInBounds_toArray, List.set_cons_zero, List.set_cons_succ]
          refine wpAnyH_take (i := 19) (v := .bool true) rfl (by kernel_rfl) (by kernel_rfl) (by kernel_rfl) (fun _ _ _ h => h) (.inl ⟨by rfl, ?_⟩) (by assumption) ?_
          · intro W hW; subst hW; go_simp
          try simp only [List.getElem_toArray, List.getElem_cons_zero, List.getElem_cons_succ, Act.put, List.setIfInBounds_toArray, List.set_cons_zero, List.set_cons_succ]
          refine wpAnyH_done (by decide +kernel) ?_ _
          clear hH
          go_wp2_with fail
          go_roundw
          case rel => exact ⟨k + 1, hlt, by go_num, by rw [SN.out, E.out], (BW.out.trans (B3.out.mono BW.out.size)).drew⟩
          case measure => simp [intOf]; omega
end Go.Proofs.Ytdcjgcjnfcahkaa
