/- Contracts of the document's plain side: Fill. -/
import Derived.Test.YtpnccbcaoifdiaaSi
namespace Go.Proofs.Ytpnccbcaoifdiaa
open Go.RowKit
set_option linter.unusedVariables false

set_option maxRecDepth 100000 in
set_option maxHeartbeats 1000000 in
theorem rfill_none (B g : Nat) (v : Value) (buy : Bool) (l : List Or) (n : Int) (w : World) (h : Rs w B g v buy l) (hp : l = []) :
    Calls Try.prog 15 #[.pointer (some ⟨g, 0, none⟩), .int .i64 n] w fun e w' => e = .returned (.tuple #[.agg (EO.cells zeroOr).toArray, .int .i64 7]) ∧ Below w.heap.size w w' := by
  have hz := zero_or
  obtain ⟨W1, hW1, b1, x1, s1⟩ := res_new w
  have h1 := h.below b1
  obtain ⟨A, c, rfl, _⟩ := gown_form h.own
  have C0 := Lib.hid fun (W : World) (q : Below W1.heap.size W1 W) => (h1.below q).c0
  have C1 := Lib.hid fun (W : World) (q : Below W1.heap.size W1 W) => (h1.below q).c1
  have FS := Lib.hid fun (W : World) (q : Below W1.heap.size W1 W) => rfst_any buy A l.length c l W (gown_rd (h1.below q).own) h.ok (by have := h.le; omega)
  have HW := Lib.hid hW1
  have X1 := Lib.hid fun (W : World) (q : Below W1.heap.size W1 W) => (show EO.Bx 33 W w.heap.size zeroOr from gbx_below x1 q)
  have B1 := Lib.hid b1
  have H1 := Lib.hid h1
  have hle := h.le
  have hf : fstO buy l l.length = -1 := by rw [hp]; rfl
  rw [hf] at FS
  clear h h1 hp hf x1 b1 hW1 s1
  generalize l.length = m at *
  go_enter Try.func15, Try.ntmps15
  go_wp2_with fail
  rw [HW.out]
  refine wp_region_held_drew (S := fun U => Below W1.heap.size W1 U) (by kernel_rfl) (Below.refl _ _).drew (fun hH => ?_)
  refine wpAnyH_take (i := 0) (v := .pointer (some ⟨g, 0, none⟩)) rfl (by kernel_rfl) (by kernel_rfl) (by kernel_rfl) (fun _ _ _ h => h) (.inl ⟨by rfl, ?_⟩) (by assumption) ?_
  · intro W hW; go_simp
  try simp only [List.getElem_toArray, List.getElem_cons_zero, Act.put, List.setIfInBounds_toArray, List.set_cons_zero, List.set_cons_succ]
  refine wpAnyH_take (i := 1) (v := .pointer (some ⟨g, 0, none⟩)) rfl (by kernel_rfl) (by kernel_rfl) (by kernel_rfl) (fun _ _ _ h => h) (.inl ⟨by rfl, ?_⟩) (by assumption) ?_
  · intro W hW; go_simp
  try simp only [List.getElem_toArray, List.getElem_cons_zero, List.getElem_cons_succ, Act.put, List.setIfInBounds_toArray, List.set_cons_zero, List.set_cons_succ]
  refine wpAnyH_take (i := 2) (v := .pointer (some ⟨g, 0, none⟩)) rfl (by kernel_rfl) (by kernel_rfl) (by kernel_rfl) (fun _ _ _ h => h) (.inl ⟨by rfl, ?_⟩) (by assumption) ?_
  · intro W hW; go_simp
  try simp only [List.getElem_toArray, List.getElem_cons_zero, List.getElem_cons_succ, Act.put, List.setIfInBounds_toArray, List.set_cons_zero, List.set_cons_succ]
  refine wpAnyH_take (i := 3) (v := .bool buy) rfl (by kernel_rfl) (by kernel_rfl) (by kernel_rfl) (fun _ _ _ h => h) (.inl ⟨by rfl, ?_⟩) (by assumption) ?_
  · intro W hW; have h1 := C0.out W hW; go_simp
  try simp only [List.getElem_toArray, List.getElem_cons_zero, List.getElem_cons_succ, Act.put, List.setIfInBounds_toArray, List.set_cons_zero, List.set_cons_succ]
  refine wpAnyH_take (i := 4) (v := .pointer (some ⟨g, 0, none⟩)) rfl (by kernel_rfl) (by kernel_rfl) (by kernel_rfl) (fun _ _ _ h => h) (.inl ⟨by rfl, ?_⟩) (by assumption) ?_
  · intro W hW; go_simp
  try simp only [List.getElem_toArray, List.getElem_cons_zero, List.getElem_cons_succ, Act.put, List.setIfInBounds_toArray, List.set_cons_zero, List.set_cons_succ]
  refine wpAnyH_take (i := 5) (v := .pointer (some ⟨g, 0, none⟩)) rfl (by kernel_rfl) (by kernel_rfl) (by kernel_rfl) (fun _ _ _ h => h) (.inl ⟨by rfl, ?_⟩) (by assumption) ?_
  · intro W hW; go_simp
  try simp only [List.getElem_toArray, List.getElem_cons_zero, List.getElem_cons_succ, Act.put, List.setIfInBounds_toArray, List.set_cons_zero, List.set_cons_succ]
  refine wpAnyH_take (i := 6) (v := .pointer (some ⟨g, 1, none⟩)) rfl (by kernel_rfl) (by kernel_rfl) (by kernel_rfl) (fun _ _ _ h => h) (.inl ⟨by rfl, ?_⟩) (by assumption) ?_
  · intro W hW; go_simp
  try simp only [List.getElem_toArray, List.getElem_cons_zero, List.getElem_cons_succ, Act.put, List.setIfInBounds_toArray, List.set_cons_zero, List.set_cons_succ]
  refine wpAnyH_take (i := 7) (v := .slice A m c) rfl (by kernel_rfl) (by kernel_rfl) (by kernel_rfl) (fun _ _ _ h => h) (.inl ⟨by rfl, ?_⟩) (by assumption) ?_
  · intro W hW; have h1 := C1.out W hW; go_simp
  try simp only [List.getElem_toArray, List.getElem_cons_zero, List.getElem_cons_succ, Act.put, List.setIfInBounds_toArray, List.set_cons_zero, List.set_cons_succ]
  refine wpAnyH_ready (rs := [8]) (by decide +kernel) (by simp) (AllReadyH.cons rfl (fun KQ hK => ?_) AllReadyH.nil)
  go_simp
  refine (FS.out _ hH).mono ?_; rintro e0 W2 ⟨rfl, q1⟩
  have hH2 := hH.trans (q1.mono hH.size)
  refine hK.out _ _ hH2 (fun _ => ?_)
  clear hK q1 hH
  try simp only [List.setIfInBounds_toArray, List.set_cons_zero, List.set_cons_succ]
  refine wpAnyH_take (i := 9) (v := .int .i64 (-1)) rfl (by kernel_rfl) (by kernel_rfl) (by kernel_rfl) (fun _ _ _ h => h) (.inl ⟨by rfl, ?_⟩) (by assumption) ?_
  · intro W hW; go_simp
  try simp only [List.getElem_toArray, List.getElem_cons_zero, List.getElem_cons_succ, Act.put, List.setIfInBounds_toArray, List.set_cons_zero, List.set_cons_succ]
  refine wpAnyH_done (by decide +kernel) ?_ _
  have Q2 := Lib.hid hH2
  clear hH2
  go_wp2_with (first | (refine gwl_build0 built_or ?_) | (refine gwl_store TO zeroOr w.heap.size (X1.out _ Q2.out) rfl rfl ?_))
  exact bodyPost_ret (gret TO rfl _ _ w.heap.size rfl rfl (gbx_set (X1.out _ Q2.out))) rfl ⟨rfl, row_inO (Nat.le_refl _) (B1.out.trans (Q2.out.mono B1.out.size))⟩
set_option maxRecDepth 100000 in
set_option maxHeartbeats 2000000 in
theorem rfill_bad (B g : Nat) (v : Value) (buy : Bool) (l : List Or) (k : Nat) (x : Or) (n : Int) (w : World) (h : Rs w B g v buy l) (hp : fstO buy l l.length = k) (hx : l[k]? = some x) (hn : I64' n) (hbad : n < 1 ∨ x.le < n) :
    Calls Try.prog 15 #[.pointer (some ⟨g, 0, none⟩), .int .i64 n] w fun e w' => e = .returned (.tuple #[.agg (EO.cells zeroOr).toArray, .int .i64 2]) ∧ Below w.heap.size w w' := by
  have hz := zero_or
  obtain ⟨W1, hW1, b1, x1, s1⟩ := res_new w
  have h1 := h.below b1
  obtain ⟨A, c, rfl, _⟩ := gown_form h.own
  have C0 := Lib.hid fun (W : World) (q : Below W1.heap.size W1 W) => (h1.below q).c0
  have C1 := Lib.hid fun (W : World) (q : Below W1.heap.size W1 W) => (h1.below q).c1
  have FS := Lib.hid fun (W : World) (q : Below W1.heap.size W1 W) => rfst_any buy A l.length c l W (gown_rd (h1.below q).own) h.ok (by have := h.le; omega)
  have HW := Lib.hid hW1
  have X1 := Lib.hid fun (W : World) (q : Below W1.heap.size W1 W) => (show EO.Bx 33 W w.heap.size zeroOr from gbx_below x1 q)
  have B1 := Lib.hid b1
  have H1 := Lib.hid h1
  have hle := h.le
  rw [hp] at FS
  have hk := (List.getElem?_eq_some_iff.1 hx).1
  obtain ⟨b, c', eb⟩ := gown_slot h.own (by omega)
  injection eb with e1 _ e2
  subst e1 e2
  have RG : Hid (∀ W, Below W1.heap.size W1 W → W.rangeAt b (k * 5) (EO.cells x)) := Lib.hid fun W q => gown_rng (h1.below q).own hx
  obtain ⟨xl1, xl2⟩ := (h.ok x (List.mem_of_getElem? hx)).le
  obtain ⟨n1, n2⟩ := hn
  have hki : (k : Int) < (l.length : Int) := by omega
  have hd : decide ((k : Int) < 0) = false := decide_eq_false (by omega)
  have HX := Lib.hid hx
  have HH := Lib.hid h
  have GLT : Hid (g < w.heap.size) := Lib.hid h.gl
  have VLT : Hid (∀ k, (Value.slice (some ⟨b, 0, none⟩) l.length c).ownBlock = some k → k < w.heap.size) := Lib.hid fun k hk => (gown_lt h.own hk).2
  have S1 := Lib.hid s1
  have HL : Hid (l.length = l.length) := Lib.hid rfl
  have hb2 : decide (n < 1) = true ∨ (decide (n < 1) = false ∧ decide (x.le < n) = true) := by
    by_cases c : n < 1
    · exact .inl (decide_eq_true c)
    · exact .inr ⟨decide_eq_false c, decide_eq_true (hbad.resolve_left c)⟩
  clear h h1 hp hx x1 b1 hW1 s1 hbad HX HH
  generalize l.length = m at *
  generalize hA : (some ⟨b, 0, none⟩ : Option Addr) = A at *
  rcases hb2 with h1 | ⟨h1, h2⟩
  all_goals
    go_enter Try.func15, Try.ntmps15
    go_wp2_with fail
    rw [HW.out]
    refine wp_region_held_drew (S := fun U => Below W1.heap.size W1 U) (by kernel_rfl) (Below.refl _ _).drew (fun hH => ?_)
    refine wpAnyH_take (i := 0) (v := .pointer (some ⟨g, 0, none⟩)) rfl (by kernel_rfl) (by kernel_rfl) (by kernel_rfl) (fun _ _ _ h => h) (.inl ⟨by rfl, ?_⟩) (by assumption) ?_
    · intro W hW; go_simp
    try simp only [List.getElem_toArray, List.getElem_cons_zero, Act.put, List.setIfInBounds_toArray, List.set_cons_zero, List.set_cons_succ]
    refine wpAnyH_take (i := 1) (v := .pointer (some ⟨g, 0, none⟩)) rfl (by kernel_rfl) (by kernel_rfl) (by kernel_rfl) (fun _ _ _ h => h) (.inl ⟨by rfl, ?_⟩) (by assumption) ?_
    · intro W hW; go_simp
    try simp only [List.getElem_toArray, List.getElem_cons_zero, List.getElem_cons_succ, Act.put, List.setIfInBounds_toArray, List.set_cons_zero, List.set_cons_succ]
    refine wpAnyH_take (i := 2) (v := .pointer (some ⟨g, 0, none⟩)) rfl (by kernel_rfl) (by kernel_rfl) (by kernel_rfl) (fun _ _ _ h => h) (.inl ⟨by rfl, ?_⟩) (by assumption) ?_
    · intro W hW; go_simp
    try simp only [List.getElem_toArray, List.getElem_cons_zero, List.getElem_cons_succ, Act.put, List.setIfInBounds_toArray, List.set_cons_zero, List.set_cons_succ]
    refine wpAnyH_take (i := 3) (v := .bool buy) rfl (by kernel_rfl) (by kernel_rfl) (by kernel_rfl) (fun _ _ _ h => h) (.inl ⟨by rfl, ?_⟩) (by assumption) ?_
    · intro W hW; have h1 := C0.out W hW; go_simp
    try simp only [List.getElem_toArray, List.getElem_cons_zero, List.getElem_cons_succ, Act.put, List.setIfInBounds_toArray, List.set_cons_zero, List.set_cons_succ]
    refine wpAnyH_take (i := 4) (v := .pointer (some ⟨g, 0, none⟩)) rfl (by kernel_rfl) (by kernel_rfl) (by kernel_rfl) (fun _ _ _ h => h) (.inl ⟨by rfl, ?_⟩) (by assumption) ?_
    · intro W hW; go_simp
    try simp only [List.getElem_toArray, List.getElem_cons_zero, List.getElem_cons_succ, Act.put, List.setIfInBounds_toArray, List.set_cons_zero, List.set_cons_succ]
    refine wpAnyH_take (i := 5) (v := .pointer (some ⟨g, 0, none⟩)) rfl (by kernel_rfl) (by kernel_rfl) (by kernel_rfl) (fun _ _ _ h => h) (.inl ⟨by rfl, ?_⟩) (by assumption) ?_
    · intro W hW; go_simp
    try simp only [List.getElem_toArray, List.getElem_cons_zero, List.getElem_cons_succ, Act.put, List.setIfInBounds_toArray, List.set_cons_zero, List.set_cons_succ]
    refine wpAnyH_take (i := 6) (v := .pointer (some ⟨g, 1, none⟩)) rfl (by kernel_rfl) (by kernel_rfl) (by kernel_rfl) (fun _ _ _ h => h) (.inl ⟨by rfl, ?_⟩) (by assumption) ?_
    · intro W hW; go_simp
    try simp only [List.getElem_toArray, List.getElem_cons_zero, List.getElem_cons_succ, Act.put, List.setIfInBounds_toArray, List.set_cons_zero, List.set_cons_succ]
    refine wpAnyH_take (i := 7) (v := .slice A m c) rfl (by kernel_rfl) (by kernel_rfl) (by kernel_rfl) (fun _ _ _ h => h) (.inl ⟨by rfl, ?_⟩) (by assumption) ?_
    · intro W hW; have h1 := C1.out W hW; go_simp
    try simp only [List.getElem_toArray, List.getElem_cons_zero, List.getElem_cons_succ, Act.put, List.setIfInBounds_toArray, List.set_cons_zero, List.set_cons_succ]
    refine wpAnyH_ready (rs := [8]) (by decide +kernel) (by simp) (AllReadyH.cons rfl (fun KQ hK => ?_) AllReadyH.nil)
    go_simp
    refine (FS.out _ hH).mono ?_; rintro e0 W2 ⟨rfl, q1⟩
    have hH2 := hH.trans (q1.mono hH.size)
    refine hK.out _ _ hH2 (fun _ => ?_)
    clear hK q1 hH
    try simp only [List.setIfInBounds_toArray, List.set_cons_zero, List.set_cons_succ]
    refine wpAnyH_take (i := 9) (v := .int .i64 k) rfl (by kernel_rfl) (by kernel_rfl) (by kernel_rfl) (fun _ _ _ h => h) (.inl ⟨by rfl, ?_⟩) (by assumption) ?_
    · intro W hW; go_simp
    try simp only [List.getElem_toArray, List.getElem_cons_zero, List.getElem_cons_succ, Act.put, List.setIfInBounds_toArray, List.set_cons_zero, List.set_cons_succ]
    refine wpAnyH_done (by decide +kernel) ?_ _
    have Q2 := Lib.hid hH2
    have k2 := C1.out _ hH2
    clear hH2
    subst hA
    have Y0 : Hid (EO.Bx 33 (W2.alloc (.cells (EO.cells zeroOr).toArray 33)) W2.heap.size zeroOr) := Lib.hid (gbx_new W2 _)
    go_wp2_with (first | ((with_reducible refine gwl_load TO b (k * 5) (RG.out _ Q2.out) ?_ ?_ ?_); rfl; rfl) | (refine gwl_store TO x W2.heap.size Y0.out rfl rfl ?_; obtain ⟨W3, hW3⟩ : ∃ W3, (W2.alloc (.cells (EO.cells zeroOr).toArray 33)).setRow W2.heap.size (EO.cells x).toArray = W3 := ⟨_, rfl⟩; rw [hW3]; have Y3 : Hid (EO.Bx 33 W3 W2.heap.size x) := Lib.hid (by rw [← hW3]; exact gbx_set Y0.out); have B3 : Hid (Below W2.heap.size W2 W3) := Lib.hid (by rw [← hW3]; exact below_row0 (below_new W2 _) (Nat.le_refl _)); have c4 : W3.cell? ⟨W2.heap.size, 4, none⟩ = some (.int .i64 x.le) := gbx_cell Y3.out 4; have f4 : W3.frozen? ⟨W2.heap.size, 4, none⟩ = false := gbx_fz Y3.out 4; clear hW3) | (refine gwl_build0 built_or ?_) | (refine gwl_store TO zeroOr w.heap.size (X1.out _ (Q2.out.trans (B3.out.mono Q2.out.size))) rfl rfl ?_))
    have BB := B1.out.trans ((Q2.out.trans (B3.out.mono Q2.out.size)).mono B1.out.size)
    exact bodyPost_ret (gret TO rfl _ _ w.heap.size rfl rfl (gbx_set (X1.out _ (Q2.out.trans (B3.out.mono Q2.out.size))))) rfl ⟨rfl, row_inO (Nat.le_refl _) BB⟩
set_option maxRecDepth 100000 in
set_option maxHeartbeats 4000000 in
theorem rfill_ok (B g : Nat) (v : Value) (buy : Bool) (l : List Or) (k : Nat) (x : Or) (n : Int) (w : World) (h : Rs w B g v buy l) (hp : fstO buy l l.length = k) (hx : l[k]? = some x) (hn : I64' n) (h1n : 1 ≤ n) (hnl : n ≤ x.le) :
    Calls Try.prog 15 #[.pointer (some ⟨g, 0, none⟩), .int .i64 n] w fun e w' => e = .returned (.tuple #[.agg (EO.cells (x.wi (x.le - n))).toArray, .int .i64 0]) ∧ RsN w B g v buy (setL l k x (x.le - n)) w' := by
  have hz := zero_or
  obtain ⟨W1, hW1, b1, x1, s1⟩ := res_new w
  have h1 := h.below b1
  obtain ⟨A, c, rfl, _⟩ := gown_form h.own
  have C0 := Lib.hid fun (W : World) (q : Below W1.heap.size W1 W) => (h1.below q).c0
  have C1 := Lib.hid fun (W : World) (q : Below W1.heap.size W1 W) => (h1.below q).c1
  have FS := Lib.hid fun (W : World) (q : Below W1.heap.size W1 W) => rfst_any buy A l.length c l W (gown_rd (h1.below q).own) h.ok (by have := h.le; omega)
  have HW := Lib.hid hW1
  have X1 := Lib.hid fun (W : World) (q : Below W1.heap.size W1 W) => (show EO.Bx 33 W w.heap.size zeroOr from gbx_below x1 q)
  have B1 := Lib.hid b1
  have H1 := Lib.hid h1
  have hle := h.le
  rw [hp] at FS
  have hk := (List.getElem?_eq_some_iff.1 hx).1
  obtain ⟨b, c', eb⟩ := gown_slot h.own (by omega)
  injection eb with e1 _ e2
  subst e1 e2
  have RG : Hid (∀ W, Below W1.heap.size W1 W → W.rangeAt b (k * 5) (EO.cells x)) := Lib.hid fun W q => gown_rng (h1.below q).own hx
  obtain ⟨xl1, xl2⟩ := (h.ok x (List.mem_of_getElem? hx)).le
  obtain ⟨n1, n2⟩ := hn
  have hki : (k : Int) < (l.length : Int) := by omega
  have hd : decide ((k : Int) < 0) = false := decide_eq_false (by omega)
  have HX := Lib.hid hx
  have HH := Lib.hid h
  have GLT : Hid (g < w.heap.size) := Lib.hid h.gl
  have VLT : Hid (∀ k, (Value.slice (some ⟨b, 0, none⟩) l.length c).ownBlock = some k → k < w.heap.size) := Lib.hid fun k hk => (gown_lt h.own hk).2
  have S1 := Lib.hid s1
  have HL : Hid (l.length = l.length) := Lib.hid rfl
  have h1 : decide (n < 1) = false := decide_eq_false (by omega)
  have h2 : decide (x.le < n) = false := decide_eq_false (by omega)
  have hs1 : -9223372036854775808 ≤ x.le - n := by omega
  have hs2 : x.le - n ≤ 9223372036854775807 := by omega
  have SL := Lib.hid fun W (hW : Rs W B g (.slice (some ⟨b, 0, none⟩) l.length c) buy l) => rset_any B g _ buy l k x (x.le - n) W hW HX.out ⟨hs1, hs2⟩
  have HS := H1
  obtain ⟨l2, hl2⟩ : ∃ l2, setL l k x (x.le - n) = l2 := ⟨_, rfl⟩
  rw [hl2] at SL ⊢
  clear h hp hx x1 b1 hW1 s1 hl2
  generalize l.length = m at *
  generalize hA : (some ⟨b, 0, none⟩ : Option Addr) = A at *
  go_enter Try.func15, Try.ntmps15
  go_wp2_with fail
  rw [HW.out]
  refine wp_region_held_drew (S := fun U => Below W1.heap.size W1 U) (by kernel_rfl) (Below.refl _ _).drew (fun hH => ?_)
  refine wpAnyH_take (i := 0) (v := .pointer (some ⟨g, 0, none⟩)) rfl (by kernel_rfl) (by kernel_rfl) (by kernel_rfl) (fun _ _ _ h => h) (.inl ⟨by rfl, ?_⟩) (by assumption) ?_
  · intro W hW; go_simp
  try simp only [List.getElem_toArray, List.getElem_cons_zero, Act.put, List.setIfInBounds_toArray, List.set_cons_zero, List.set_cons_succ]
  refine wpAnyH_take (i := 1) (v := .pointer (some ⟨g, 0, none⟩)) rfl (by kernel_rfl) (by kernel_rfl) (by kernel_rfl) (fun _ _ _ h => h) (.inl ⟨by rfl, ?_⟩) (by assumption) ?_
  · intro W hW; go_simp
  try simp only [List.getElem_toArray, List.getElem_cons_zero, List.getElem_cons_succ, Act.put, List.setIfInBounds_toArray, List.set_cons_zero, List.set_cons_succ]
  refine wpAnyH_take (i := 2) (v := .pointer (some ⟨g, 0, none⟩)) rfl (by kernel_rfl) (by kernel_rfl) (by kernel_rfl) (fun _ _ _ h => h) (.inl ⟨by rfl, ?_⟩) (by assumption) ?_
  · intro W hW; go_simp
  try simp only [List.getElem_toArray, List.getElem_cons_zero, List.getElem_cons_succ, Act.put, List.setIfInBounds_toArray, List.set_cons_zero, List.set_cons_succ]
  refine wpAnyH_take (i := 3) (v := .bool buy) rfl (by kernel_rfl) (by kernel_rfl) (by kernel_rfl) (fun _ _ _ h => h) (.inl ⟨by rfl, ?_⟩) (by assumption) ?_
  · intro W hW; have h1 := C0.out W hW; go_simp
  try simp only [List.getElem_toArray, List.getElem_cons_zero, List.getElem_cons_succ, Act.put, List.setIfInBounds_toArray, List.set_cons_zero, List.set_cons_succ]
  refine wpAnyH_take (i := 4) (v := .pointer (some ⟨g, 0, none⟩)) rfl (by kernel_rfl) (by kernel_rfl) (by kernel_rfl) (fun _ _ _ h => h) (.inl ⟨by rfl, ?_⟩) (by assumption) ?_
  · intro W hW; go_simp
  try simp only [List.getElem_toArray, List.getElem_cons_zero, List.getElem_cons_succ, Act.put, List.setIfInBounds_toArray, List.set_cons_zero, List.set_cons_succ]
  refine wpAnyH_take (i := 5) (v := .pointer (some ⟨g, 0, none⟩)) rfl (by kernel_rfl) (by kernel_rfl) (by kernel_rfl) (fun _ _ _ h => h) (.inl ⟨by rfl, ?_⟩) (by assumption) ?_
  · intro W hW; go_simp
  try simp only [List.getElem_toArray, List.getElem_cons_zero, List.getElem_cons_succ, Act.put, List.setIfInBounds_toArray, List.set_cons_zero, List.set_cons_succ]
  refine wpAnyH_take (i := 6) (v := .pointer (some ⟨g, 1, none⟩)) rfl (by kernel_rfl) (by kernel_rfl) (by kernel_rfl) (fun _ _ _ h => h) (.inl ⟨by rfl, ?_⟩) (by assumption) ?_
  · intro W hW; go_simp
  try simp only [List.getElem_toArray, List.getElem_cons_zero, List.getElem_cons_succ, Act.put, List.setIfInBounds_toArray, List.set_cons_zero, List.set_cons_succ]
  refine wpAnyH_take (i := 7) (v := .slice A m c) rfl (by kernel_rfl) (by kernel_rfl) (by kernel_rfl) (fun _ _ _ h => h) (.inl ⟨by rfl, ?_⟩) (by assumption) ?_
  · intro W hW; have h1 := C1.out W hW; go_simp
  try simp only [List.getElem_toArray, List.getElem_cons_zero, List.getElem_cons_succ, Act.put, List.setIfInBounds_toArray, List.set_cons_zero, List.set_cons_succ]
  refine wpAnyH_ready (rs := [8]) (by decide +kernel) (by simp) (AllReadyH.cons rfl (fun KQ hK => ?_) AllReadyH.nil)
  go_simp
  refine (FS.out _ hH).mono ?_; rintro e0 W2 ⟨rfl, q1⟩
  have hH2 := hH.trans (q1.mono hH.size)
  refine hK.out _ _ hH2 (fun _ => ?_)
  clear hK q1 hH
  try simp only [List.setIfInBounds_toArray, List.set_cons_zero, List.set_cons_succ]
  refine wpAnyH_take (i := 9) (v := .int .i64 k) rfl (by kernel_rfl) (by kernel_rfl) (by kernel_rfl) (fun _ _ _ h => h) (.inl ⟨by rfl, ?_⟩) (by assumption) ?_
  · intro W hW; go_simp
  try simp only [List.getElem_toArray, List.getElem_cons_zero, List.getElem_cons_succ, Act.put, List.setIfInBounds_toArray, List.set_cons_zero, List.set_cons_succ]
  refine wpAnyH_done (by decide +kernel) ?_ _
  have Q2 := Lib.hid hH2
  have k2 := C1.out _ hH2
  clear hH2
  subst hA
  have Y0 : Hid (EO.Bx 33 (W2.alloc (.cells (EO.cells zeroOr).toArray 33)) W2.heap.size zeroOr) := Lib.hid (gbx_new W2 _)
  go_wp2_with (first | ((with_reducible refine gwl_load TO b (k * 5) (RG.out _ Q2.out) ?_ ?_ ?_); rfl; rfl) | (refine gwl_store TO x W2.heap.size Y0.out rfl rfl ?_; obtain ⟨W3, hW3⟩ : ∃ W3, (W2.alloc (.cells (EO.cells zeroOr).toArray 33)).setRow W2.heap.size (EO.cells x).toArray = W3 := ⟨_, rfl⟩; rw [hW3]; have Y3 : Hid (EO.Bx 33 W3 W2.heap.size x) := Lib.hid (by rw [← hW3]; exact gbx_set Y0.out); have B3 : Hid (Below W2.heap.size W2 W3) := Lib.hid (by rw [← hW3]; exact below_row0 (below_new W2 _) (Nat.le_refl _)); have c4 : W3.cell? ⟨W2.heap.size, 4, none⟩ = some (.int .i64 x.le) := gbx_cell Y3.out 4; have f4 : W3.frozen? ⟨W2.heap.size, 4, none⟩ = false := gbx_fz Y3.out 4; clear hW3))
  obtain ⟨W4, hW4⟩ : ∃ W4, W3.setCell ⟨W2.heap.size, 4, none⟩ (.int .i64 (x.le - n)) = W4 := ⟨_, rfl⟩
  rw [hW4]
  have q3 : Below W1.heap.size W1 W3 := Q2.out.trans (B3.out.mono Q2.out.size)
  have q4 : Below W1.heap.size W1 W4 := by rw [← hW4]; exact q3.setCell (p := ⟨W2.heap.size, 4, none⟩) Q2.out.size _
  have Y4 : Hid (EO.Bx 33 W4 W2.heap.size (x.wi (x.le - n))) := Lib.hid (by rw [← hW4]; exact gbx_put Y3.out rfl)
  have X4 := Lib.hid (X1.out _ q4)
  have Q4 := Lib.hid q4
  have S2 := Lib.hid Q2.out.size
  have R4 := Lib.hid (H1.out.below q4)
  clear q3 q4 hW4 c4 f4
  refine (SL.out W4 R4.out).mono ?_; rintro e w5 ⟨⟨vv, rfl⟩, q⟩
  obtain ⟨v5, r5, f5, n5⟩ := q
  have X5 : Hid (EO.Bx 33 w5 w.heap.size zeroOr) := Lib.hid ((f5.at' _ (Array.getElem?_eq_some_iff.1 X4.out).1 (fun e => by have := GLT.out; omega)).trans X4.out)
  have Y5 : Hid (EO.Bx 33 w5 W2.heap.size (x.wi (x.le - n))) := Lib.hid ((f5.at' _ (Array.getElem?_eq_some_iff.1 Y4.out).1 (fun e => by have := GLT.out; have := S1.out; have := S2.out; omega)).trans Y4.out)
  have R5 := Lib.hid r5
  have F5 := Lib.hid f5
  have N5 := Lib.hid n5
  clear r5 f5 n5
  go_wp2_with (first | ((with_reducible refine gwl_load TO W2.heap.size 0 (gbx_rng Y5.out) ?_ ?_ ?_); rfl; rfl) | (refine gwl_store TO (x.wi (x.le - n)) w.heap.size X5.out rfl rfl ?_))
  have f6 : Fr (fun k => k = w.heap.size) w5 (w5.setRow w.heap.size (EO.cells (x.wi (x.le - n))).toArray) := fr_row (S := fun k => k = w.heap.size) rfl _
  have bb := B1.out.trans (Q4.out.mono B1.out.size)
  refine bodyPost_ret (gret TO rfl _ _ w.heap.size rfl rfl (gbx_set X5.out)) rfl ⟨rfl, v5, R5.out.keep f6 (fun e => by have := GLT.out; omega) (fun j hj e => ?_), ?_, fun j hj => ?_⟩
  · subst e
    rcases N5.out _ hj with c | c
    · have := VLT.out _ c; omega
    · have := bb.size; have := S1.out; have := Q4.out.size; omega
  · exact ((Fr.below bb).same F5.out).trans f6 (fun _ h => h) (fun j hj e => by omega)
  · exact (N5.out j hj).imp id fun c => Nat.le_trans bb.size c
end Go.Proofs.Ytpnccbcaoifdiaa
