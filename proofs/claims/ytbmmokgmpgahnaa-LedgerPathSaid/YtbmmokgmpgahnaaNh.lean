/- LedgerPath, walked (by genNh.py). -/
import Derived.Test.YtbmmokgmpgahnaaLg
import Derived.Test.YtbmmokgmpgahnaaNz
namespace Go.Proofs.Ytbmmokgmpgahnaa
open Go.RowKit Go.Shelf
set_option linter.unusedVariables false
set_option linter.unusedSimpArgs false
set_option linter.unusedSectionVars false

theorem ret_cell9 {fn : Func} {p : Tmp} (h : fn.results = #[.cell p 4]) (tmps : Array Value) (w : World) (g : Nat) (b : Bool) (hp : tmps.getD p undef = .pointer (some ⟨g, 0, none⟩)) (hb : w.cell? ⟨g, 0, none⟩ = some (.bool b)) :
    (results fn tmps).run Try.prog w = .ok (.bool b) w := by
  have hp' : tmps[p]?.getD undef = .pointer (some ⟨g, 0, none⟩) := by simpa using hp
  simp [results, h, hp', asAddr, go_sem, hb]
theorem eql_seqA9 (gf : Nat) (lb : Array Value) (W : World) : (binOp .eql 68 (.func (.func gf) #[] lb) .nilFunc).run Try.prog W = .ok (.bool false) W := by
  kernel_rfl
/-- The contract's box, the result's, the ledger and the cell that points at it. -/
structure Pq (w W : World) (c : Int) (p9 g ba bp : Nat) (L : Lg) : Prop where
  d : Dl W g ba bp L
  b : Below w.heap.size w W
  c5 : W.heap[w.heap.size]? = some (.cells #[.int .u32 c] 31 (0, 0))
  c8 : W.heap[w.heap.size + 1]? = some (.cells #[.bool false] 4 (0, 0))
  c9 : W.heap[p9]? = some (.cells #[.pointer (some ⟨g, 0, none⟩)] 23 (0, 0))
  n : ∀ k, LdS g ba bp k → w.heap.size + 1 < k ∧ k < p9
section
variable {w W W' : World} {c : Int} {p9 g ba bp p11 g2 b2 p2 : Nat} {L L' M M' : Lg}
theorem Pq.lt (h : Pq w W c p9 g ba bp L) : w.heap.size + 1 < p9 ∧ p9 < W.heap.size := ⟨by have := h.n g (.inl rfl); omega, (Array.getElem?_eq_some_iff.1 h.c9).1⟩
theorem Pq.keep {S : Nat → Prop} (h : Pq w W c p9 g ba bp L) (f : Fr S W W') (hS : ∀ k, S k → p9 < k) : Pq w W' c p9 g ba bp L := by
  have l := h.lt
  refine ⟨h.d.keep f (fun k hk hs => by have := h.n k hk; have := hS k hs; omega), below_fr9 h.b f (fun k hk => by have := hS k hk; omega) h.b.size, ?_, ?_, ?_, h.n⟩
  · exact (f.at' _ (by omega) (fun s => by have := hS _ s; omega)).trans h.c5
  · exact (f.at' _ (by omega) (fun s => by have := hS _ s; omega)).trans h.c8
  · exact (f.at' _ (by omega) (fun s => by have := hS _ s; omega)).trans h.c9
theorem Pq.below (h : Pq w W c p9 g ba bp L) (q : Below W.heap.size W W') : Pq w W' c p9 g ba bp L := h.keep (S := fun _ => False) (Fr.below q) (fun _ h => h.elim)
theorem Pq.af (h : Pq w W c p9 g ba bp L) (q : AfL W g ba bp L' W') : Pq w W' c p9 g ba bp L' := by
  have l := h.lt
  refine ⟨q.1, below_fr9 h.b q.2 (fun k hk => by have := h.n k hk; omega) h.b.size, ?_, ?_, ?_, h.n⟩
  · exact (q.2.at' _ (by omega) (fun s => by have := h.n _ s; omega)).trans h.c5
  · exact (q.2.at' _ (by omega) (fun s => by have := h.n _ s; omega)).trans h.c8
  · exact (q.2.at' _ (by omega) (fun s => by have := h.n _ s; omega)).trans h.c9
/-- And its copy. -/
structure Pk (w W : World) (c : Int) (p9 g ba bp : Nat) (L : Lg) (p11 g2 b2 p2 : Nat) (M : Lg) : Prop where
  p : Pq w W c p9 g ba bp L
  d2 : Dl W g2 b2 p2 M
  c11 : W.heap[p11]? = some (.cells #[.pointer (some ⟨g2, 0, none⟩)] 23 (0, 0))
  n2 : ∀ k, LdS g2 b2 p2 k → p9 < k ∧ k < p11
theorem Pk.lt (h : Pk w W c p9 g ba bp L p11 g2 b2 p2 M) : p9 < p11 ∧ p11 < W.heap.size := ⟨by have := h.n2 g2 (.inl rfl); omega, (Array.getElem?_eq_some_iff.1 h.c11).1⟩
theorem Pk.below (h : Pk w W c p9 g ba bp L p11 g2 b2 p2 M) (q : Below W.heap.size W W') : Pk w W' c p9 g ba bp L p11 g2 b2 p2 M :=
  ⟨h.p.below q, h.d2.below q, (q.block _ h.lt.2).trans h.c11, h.n2⟩
theorem Pk.one (h : Pk w W c p9 g ba bp L p11 g2 b2 p2 M) (q : AfL W g ba bp L' W') : Pk w W' c p9 g ba bp L' p11 g2 b2 p2 M := by
  have l := h.lt
  exact ⟨h.p.af q, h.d2.keep q.2 (fun k hk hs => by have := h.n2 k hk; have := h.p.n k hs; omega), (q.2.at' _ l.2 (fun s => by have := h.p.n _ s; omega)).trans h.c11, h.n2⟩
theorem Pk.two (h : Pk w W c p9 g ba bp L p11 g2 b2 p2 M) (q : AfL W g2 b2 p2 M' W') : Pk w W' c p9 g ba bp L p11 g2 b2 p2 M' := by
  have l := h.lt
  exact ⟨h.p.keep q.2 (fun k hk => (h.n2 k hk).1), q.1, (q.2.at' _ l.2 (fun s => by have := h.n2 _ s; omega)).trans h.c11, h.n2⟩
end
set_option maxRecDepth 100000 in
set_option maxHeartbeats 4000000 in
theorem path9_out (A : Option Addr) (n cc : Nat) (c p q : Int) (w : World) (hn : 150 < n) (hm : n ≤ 9223372036854775807) :
    Calls Try.prog 7 #[.slice A n cc, .int .u32 c, .int .i64 p, .int .i64 q] w fun e w' => e = .returned (.bool true) ∧ Below w.heap.size w w' := by
  have KN := Lib.hid (fun W => known9_any W)
  have NW := Lib.hid (fun W => lnew9 W)
  have hd : decide (150 < (n : Int)) = true := decide_eq_true (by omega)
  obtain ⟨W2, hW2, b2, e1, e2⟩ := two_obj9 w #[.int .u32 c] #[.bool false] 31 4
  have HW2 := Lib.hid hW2
  have B2 := Lib.hid b2
  have E2 := Lib.hid e2
  clear hW2 b2 e1 e2
  go_enter Try.func7, Try.ntmps7
  go_wp2_with fail
  rw [HW2.out]
  refine (NW.out W2).mono ?_; rintro e w1 ⟨g, ba, bp, rfl, h1, q1, n1⟩
  obtain ⟨W3, hW3⟩ : ∃ W3, w1.alloc (.cells #[.pointer (some ⟨g, 0, none⟩)] 23) = W3 := ⟨_, rfl⟩
  have b3 := below_new w1 (.cells #[.pointer (some ⟨g, 0, none⟩)] 23)
  rw [hW3] at b3
  have HW3 := Lib.hid hW3
  have B3 : Hid (Below w.heap.size w W3) := Lib.hid ((B2.out.trans (q1.mono B2.out.size)).trans (b3.mono ((B2.out.trans (q1.mono B2.out.size)).size)))
  have E3 : Hid (W3.heap[w.heap.size + 1]? = some (.cells #[.bool false] 4 (0, 0))) := Lib.hid ((b3.block _ (Nat.lt_of_lt_of_le (Array.getElem?_eq_some_iff.1 E2.out).1 q1.size)).trans ((q1.block _ (Array.getElem?_eq_some_iff.1 E2.out).1).trans E2.out))
  clear h1 q1 n1 hW3 b3
  go_wp2_with fail
  rw [HW3.out]
  refine (KN.out W3).mono ?_; rintro e w2 ⟨rfl, q2⟩
  have Q2 := Lib.hid (B3.out.trans (q2.mono B3.out.size))
  have e5 : w2.heap[w.heap.size + 1]? = some (.cells #[.bool false] 4 (0, 0)) := (q2.block _ (Array.getElem?_eq_some_iff.1 E3.out).1).trans E3.out
  have E5 := Lib.hid e5
  have cr := obj_cell9 e5
  have fr := obj_fz9 e5 0
  clear q2 e5
  go_wp2_with fail
  have R5 := heap_setCell_same w2 (w.heap.size + 1) 0 _ _ (.bool true) E5.out
  exact bodyPost_ret (ret_cell9 rfl _ _ (w.heap.size + 1) true rfl (obj_cell9 R5)) rfl ⟨rfl, Q2.out.setCell (by show w.heap.size ≤ w.heap.size + 1; omega) _⟩
/-- All that the range looks at. -/
structure Pz (w X : World) (c : Int) (p9 g ba bp : Nat) (L : Lg) (p11 g2 b2 p2 : Nat) (M : Lg) (p12 p14 p16 p18 : Nat) (A0 A1 A2 : Option Addr) (X0 X1 X2 : List Va) (q0 q1 q2 : Nat) : Prop where
  k : Pk w X c p9 g ba bp L p11 g2 b2 p2 M
  r0 : EV.Rd X A0 X0.length X0
  r1 : EV.Rd X A1 X1.length X1
  r2 : EV.Rd X A2 X2.length X2
  e0 : X.heap[p12]? = some (.cells #[.slice A0 X0.length q0] 42 (0, 0))
  e1 : X.heap[p14]? = some (.cells #[.slice A1 X1.length q1] 42 (0, 0))
  e2 : X.heap[p16]? = some (.cells #[.slice A2 X2.length q2] 42 (0, 0))
  f : X.heap[p18]? = some (.cells #[.func (.func 33) #[] #[]] 66 (0, 0))
theorem Pz.below {w X X' : World} {c : Int} {p9 g ba bp : Nat} {L : Lg} {p11 g2 b2 p2 : Nat} {M : Lg} {p12 p14 p16 p18 : Nat} {A0 A1 A2 : Option Addr} {X0 X1 X2 : List Va} {q0 q1 q2 : Nat} (h : Pz w X c p9 g ba bp L p11 g2 b2 p2 M p12 p14 p16 p18 A0 A1 A2 X0 X1 X2 q0 q1 q2) (q : Below X.heap.size X X') : Pz w X' c p9 g ba bp L p11 g2 b2 p2 M p12 p14 p16 p18 A0 A1 A2 X0 X1 X2 q0 q1 q2 :=
  have b {k : Nat} {o : Obj} (e : X.heap[k]? = some o) : X'.heap[k]? = some o := (q.block k (Array.getElem?_eq_some_iff.1 e).1).trans e
  ⟨h.k.below q, grd_below h.r0 q (Nat.le_refl _), grd_below h.r1 q (Nat.le_refl _), grd_below h.r2 q (Nat.le_refl _), b h.e0, b h.e1, b h.e2, b h.f⟩
set_option maxRecDepth 100000 in
set_option maxHeartbeats 16000000 in
theorem path9_in (A : Option Addr) (n cc : Nat) (c p q : Int) (l : List OpL) (w : World) (hr : EOp9.Rd w A n l) (hok : ∀ x, x ∈ l → x.ok) (hn : n ≤ 150) (hc : U32' c) :
    Calls Try.prog 7 #[.slice A n cc, .int .u32 c, .int .i64 p, .int .i64 q] w fun e w' => e = .returned (.bool true) ∧ Below w.heap.size w w' := by
  have KN := Lib.hid (fun W => known9_any W)
  have NW := Lib.hid (fun W => lnew9 W)
  have HR := Lib.hid hr
  have HOK := Lib.hid hok
  have HC := Lib.hid hc
  have hd150 : decide (150 < (n : Int)) = false := decide_eq_false (by omega)
  have Z := zero_ac
  have EQ := eql_seqA9
  obtain ⟨W2, hW2, b2, e1, e2⟩ := two_obj9 w #[.int .u32 c] #[.bool false] 31 4
  have HW2 := Lib.hid hW2
  have B2 := Lib.hid b2
  have E1 := Lib.hid e1
  have E2 := Lib.hid e2
  clear hr hok hc hW2 b2 e1 e2
  refine calls_marks Try.func7 rfl ?_
  simp only [Try.ntmps7, List.size_toArray, List.length_cons, List.length_nil, Nat.reduceAdd, Nat.reduceSub, Array.replicate_succ, Array.replicate_zero, List.push_toArray, List.append_toArray, List.nil_append, List.cons_append]
  go_wp2_with fail
  rw [HW2.out]
  refine (NW.out W2).mono ?_; rintro e w1 ⟨g, ba, bp, rfl, h1, q1, n1⟩
  obtain ⟨W3, hW3⟩ : ∃ W3, w1.alloc (.cells #[.pointer (some ⟨g, 0, none⟩)] 23) = W3 := ⟨_, rfl⟩
  have b3 := below_new w1 (.cells #[.pointer (some ⟨g, 0, none⟩)] 23)
  have e9 := heap_alloc_new w1 (.cells #[.pointer (some ⟨g, 0, none⟩)] 23)
  rw [hW3] at b3 e9
  have HW3 := Lib.hid hW3
  have l2 : w.heap.size + 1 < W2.heap.size := (Array.getElem?_eq_some_iff.1 E2.out).1
  have bq : Below w.heap.size w w1 := B2.out.trans (q1.mono B2.out.size)
  have PQ0 : Hid (Pq w W3 c w1.heap.size g ba bp ⟨0, [], []⟩) := Lib.hid ⟨h1.below b3, bq.trans (b3.mono bq.size), (b3.block _ (by have := q1.size; omega)).trans ((q1.block _ (by omega)).trans E1.out), (b3.block _ (by have := q1.size; omega)).trans ((q1.block _ l2).trans E2.out), e9, fun k hk => ⟨by have := n1 k hk; omega, h1.lt hk⟩⟩
  clear h1 q1 n1 hW3 b3 e9 l2 bq NW
  go_wp2_with fail
  rw [HW3.out]
  go_loopw [38] (fun iv wr => ∃ (j : Nat) (L : Lg), j ≤ n ∧ iv = .int .i64 j ∧ Pq w wr c w1.heap.size g ba bp L) (fun iv _ => n - (intOf iv).toNat)
  case atStart => exact ⟨0, _, Nat.zero_le _, rfl, PQ0.out⟩
  case round =>
    obtain ⟨j, L, hj, rfl, hpq⟩ := hrel
    have PQ := Lib.hid hpq
    clear hpq PQ0
    by_cases hlt : j < n
    case pos =>
      have hd : decide ((j : Int) < (n : Int)) = true := decide_eq_true (by omega)
      have hji : (j : Int) < (n : Int) := by omega
      have wj : wrap64 ((j : Int) + 1) = (j : Int) + 1 := by unfold wrap64; omega
      obtain ⟨x, hx⟩ : ∃ x, l[j]? = some x := ⟨l[j]'(by have := HR.out.1; omega), List.getElem?_eq_getElem _⟩
      obtain ⟨b, o, rfl, hrg⟩ := grd_rng HR.out hx
      have XO := Lib.hid (HOK.out x (List.mem_of_getElem? hx))
      have RG : Hid (∀ U, (∃ L', Pq w U c w1.heap.size g ba bp L') → U.rangeAt b (o + j * 10) (EOp9.cells x) ∧ U.cell? ⟨w1.heap.size, 0, none⟩ = some (.pointer (some ⟨g, 0, none⟩))) := Lib.hid fun U ⟨L', f⟩ => ⟨rng_below hrg f.b (Nat.le_refl _), obj_cell9 f.c9⟩
      have PD := Lib.hid (PQ.out.keep ((Fr.refl (fun _ : Nat => False) wr).drewN 1) (fun _ h => h.elim))
      have PLAY := Lib.hid (play9 PD.out.d XO.out)
      clear hx hrg
      go_wp2_with fail
      refine wp_region_held_drew (S := fun U => ∃ L', Pq w U c w1.heap.size g ba bp L') (by kernel_rfl) ⟨L, PD.out⟩ (fun hH => ?_)
      refine wpAnyH_take (i := 0) (v := .pointer (some ⟨g, 0, none⟩)) rfl (by kernel_rfl) (by kernel_rfl) (by kernel_rfl) (fun _ _ _ h => h) (.inl ⟨by rfl, ?_⟩) (by assumption) ?_
      · intro W hW; have kc := (RG.out W hW).2; go_simp
      try simp only [List.getElem_toArray, List.getElem_cons_zero, Act.put, List.setIfInBounds_toArray, List.set_cons_zero, List.set_cons_succ]
      refine wpAnyH_take (i := 1) (v := .slice (some ⟨b, o, none⟩) n cc) rfl (by kernel_rfl) (by kernel_rfl) (by kernel_rfl) (fun _ _ _ h => h) (.inl ⟨by rfl, ?_⟩) (by assumption) ?_
      · intro W hW; go_simp
      try simp only [List.getElem_toArray, List.getElem_cons_zero, List.getElem_cons_succ, Act.put, List.setIfInBounds_toArray, List.set_cons_zero, List.set_cons_succ]
      refine wpAnyH_take (i := 2) (v := .int .i64 j) rfl (by kernel_rfl) (by kernel_rfl) (by kernel_rfl) (fun _ _ _ h => h) (.inl ⟨by rfl, ?_⟩) (by assumption) ?_
      · intro W hW; go_simp
      try simp only [List.getElem_toArray, List.getElem_cons_zero, List.getElem_cons_succ, Act.put, List.setIfInBounds_toArray, List.set_cons_zero, List.set_cons_succ]
      refine wpAnyH_take (i := 3) (v := .pointer (some ⟨b, o + j * 10, none⟩)) rfl (by kernel_rfl) (by kernel_rfl) (by kernel_rfl) (fun _ _ _ h => h) (.inl ⟨by rfl, ?_⟩) (by assumption) ?_
      · intro W hW; go_simp
      try simp only [List.getElem_toArray, List.getElem_cons_zero, List.getElem_cons_succ, Act.put, List.setIfInBounds_toArray, List.set_cons_zero, List.set_cons_succ]
      refine wpAnyH_take (i := 4) (v := .agg (EOp9.cells x).toArray) rfl (by kernel_rfl) (by kernel_rfl) (by kernel_rfl) (fun _ _ _ h => h) (gyields_load TOp9 (by rfl) (.tmp 44) rfl b (o + j * 10) rfl (fun U hU => (RG.out U hU).1)) (by assumption) ?_
      try simp only [List.getElem_toArray, List.getElem_cons_zero, List.getElem_cons_succ, Act.put, List.setIfInBounds_toArray, List.set_cons_zero, List.set_cons_succ]
      refine wpAnyH_ready (rs := [5]) (by decide +kernel) (by simp) (AllReadyH.cons rfl (fun KQ hK => ?_) AllReadyH.nil)
      go_simp
      refine PLAY.out.mono ?_; rintro e0 W1 ⟨rfl, af⟩
      have hH : ∃ L', Pq w W1 c w1.heap.size g ba bp L' := ⟨_, PD.out.af af⟩
      refine hK.out _ _ hH (fun _ => ?_)
      clear hK af PLAY PD
      try simp only [List.setIfInBounds_toArray, List.set_cons_zero, List.set_cons_succ]
      refine wpAnyH_done (by decide +kernel) ?_ _
      go_wp2_with fail
      go_roundw
      case rel =>
        obtain ⟨L', hL'⟩ := hH
        exact ⟨j + 1, L', by omega, by go_num, hL'⟩
      case measure => first | exact meas9' _ _ hlt | (rw [wj]; exact meas9' _ _ hlt)
    case neg =>
      obtain rfl : j = n := by omega
      have hd : decide ((j : Int) < (j : Int)) = false := decide_eq_false (by omega)
      have k9 : wr.cell? ⟨w1.heap.size, 0, none⟩ = some (.pointer (some ⟨g, 0, none⟩)) := obj_cell9 PQ.out.c9
      have CP := Lib.hid (lcopy9 PQ.out.d)
      go_wp2_with fail
      refine CP.out.mono ?_; rintro e u1 ⟨g2, a2, p2, rfl, dl2, q1, n2⟩
      obtain ⟨V0, hV0⟩ : ∃ V0, u1.alloc (.cells #[.pointer (some ⟨g2, 0, none⟩)] 23) = V0 := ⟨_, rfl⟩
      have b0 := below_new u1 (.cells #[.pointer (some ⟨g2, 0, none⟩)] 23)
      have e11 := heap_alloc_new u1 (.cells #[.pointer (some ⟨g2, 0, none⟩)] 23)
      rw [hV0] at b0 e11
      have HV0 := Lib.hid hV0
      have PK0 : Hid (Pk w V0 c w1.heap.size g ba bp L u1.heap.size g2 a2 p2 L) := Lib.hid ⟨(PQ.out.below q1).below b0, dl2.below b0, e11, fun k hk => ⟨by have := n2 k hk; have := PQ.out.lt; omega, dl2.lt hk⟩⟩
      have IL := Lib.hid PQ.out.d.inv
      have PATH := Lib.hid fun (h1 : marE c p = 0) (h2 : marE c q = 0) (n : Int) => path9 PQ.out.d.inv h1 h2 n
      have AGN := Lib.hid fun (h1 : marE c p = 0) (h2 : marE c q = 0) (L1 : Lg) (h : LgI L1) => again9 (c := c) (q := q) h h2
      clear q1 n2 dl2 b0 e11 hV0 CP k9 PQ
      have k0a : V0.cell? ⟨w1.heap.size, 0, none⟩ = some (.pointer (some ⟨g, 0, none⟩)) := obj_cell9 PK0.out.p.c9
      have k0b : V0.cell? ⟨w.heap.size, 0, none⟩ = some (.int .u32 c) := obj_cell9 PK0.out.p.c5
      have k0a' := HV0.out.symm ▸ k0a
      have k0b' := HV0.out.symm ▸ k0b
      have MK0 := Lib.hid (lmark9 c p false V0 PK0.out.p.d HC.out)
      clear k0a k0b
      go_wp2_with fail
      rw [HV0.out]
      refine MK0.out.mono ?_; rintro e m0 ⟨v0, rfl, own0, af0⟩
      obtain ⟨X0, hX0⟩ : ∃ X, marX L c p = X := ⟨_, rfl⟩
      have HX0 := Lib.hid hX0
      rw [hX0] at own0
      clear hX0
      obtain ⟨A0, q0, rfl, _⟩ := gown_form own0
      obtain ⟨V1, hV1⟩ : ∃ V, m0.alloc (.cells #[.slice A0 X0.length q0] 42) = V := ⟨_, rfl⟩
      have bb0 := below_new m0 (.cells #[.slice A0 X0.length q0] 42)
      have ee0 := heap_alloc_new m0 (.cells #[.slice A0 X0.length q0] 42)
      rw [hV1] at bb0 ee0
      have HV1 := Lib.hid hV1
      have PK1 := Lib.hid ((PK0.out.one af0).below bb0)
      have OW0 := Lib.hid (gown_below own0 bb0)
      have EE0 := Lib.hid ee0
      have LV0 : Hid (u1.heap.size < V0.heap.size ∧ V0.heap.size ≤ m0.heap.size) := Lib.hid ⟨PK0.out.lt.2, af0.2.size⟩
      clear own0 af0 bb0 ee0 hV1 MK0 PK0
      have IN1 := Lib.hid PK1.out.p.d.inv
      have k1a : V1.cell? ⟨w1.heap.size, 0, none⟩ = some (.pointer (some ⟨g, 0, none⟩)) := obj_cell9 PK1.out.p.c9
      have k1b : V1.cell? ⟨w.heap.size, 0, none⟩ = some (.int .u32 c) := obj_cell9 PK1.out.p.c5
      have k1a' := HV1.out.symm ▸ k1a
      have k1b' := HV1.out.symm ▸ k1b
      have MK1 := Lib.hid (lmark9 c q false V1 PK1.out.p.d HC.out)
      clear k1a k1b
      go_wp2_with fail
      rw [HV1.out]
      refine MK1.out.mono ?_; rintro e m1 ⟨v1, rfl, own1, af1⟩
      obtain ⟨X1, hX1⟩ : ∃ X, marX (marL L c p false) c q = X := ⟨_, rfl⟩
      have HX1 := Lib.hid hX1
      rw [hX1] at own1
      clear hX1
      obtain ⟨A1, q1, rfl, _⟩ := gown_form own1
      obtain ⟨V2, hV2⟩ : ∃ V, m1.alloc (.cells #[.slice A1 X1.length q1] 42) = V := ⟨_, rfl⟩
      have bb1 := below_new m1 (.cells #[.slice A1 X1.length q1] 42)
      have ee1 := heap_alloc_new m1 (.cells #[.slice A1 X1.length q1] 42)
      rw [hV2] at bb1 ee1
      have HV2 := Lib.hid hV2
      have PK2 := Lib.hid ((PK1.out.one af1).below bb1)
      have OW1 := Lib.hid (gown_below own1 bb1)
      have EE1 := Lib.hid ee1
      have OW0 := Lib.hid (gown_below (gown_fr OW0.out af1.2 (fun k hk s => by have h1 := (gown_lt OW0.out hk).1; have h2 := PK1.out.p.n _ s; have h3 := PK1.out.lt; have h4 := PK1.out.p.lt; have h5 := LV0.out; omega)) bb1)
      have EE0 := Lib.hid ((bb1.block _ (Nat.lt_of_lt_of_le (Array.getElem?_eq_some_iff.1 EE0.out).1 af1.2.size)).trans ((af1.2.at' _ (Array.getElem?_eq_some_iff.1 EE0.out).1 (fun s => by have h2 := PK1.out.p.n _ s; have h3 := PK1.out.lt; have h4 := PK1.out.p.lt; have h5 := LV0.out; omega)).trans EE0.out))
      have LV1 : Hid (u1.heap.size < V1.heap.size ∧ V1.heap.size ≤ m1.heap.size) := Lib.hid ⟨PK1.out.lt.2, af1.2.size⟩
      clear own1 af1 bb1 ee1 hV2 MK1 PK1
      have k2a : V2.cell? ⟨u1.heap.size, 0, none⟩ = some (.pointer (some ⟨g2, 0, none⟩)) := obj_cell9 PK2.out.c11
      have k2b : V2.cell? ⟨w.heap.size, 0, none⟩ = some (.int .u32 c) := obj_cell9 PK2.out.p.c5
      have k2a' := HV2.out.symm ▸ k2a
      have k2b' := HV2.out.symm ▸ k2b
      have MK2 := Lib.hid (lmark9 c q false V2 PK2.out.d2 HC.out)
      clear k2a k2b
      go_wp2_with fail
      rw [HV2.out]
      refine MK2.out.mono ?_; rintro e m2 ⟨v2, rfl, own2, af2⟩
      obtain ⟨X2, hX2⟩ : ∃ X, marX L c q = X := ⟨_, rfl⟩
      have HX2 := Lib.hid hX2
      rw [hX2] at own2
      clear hX2
      obtain ⟨A2, q2, rfl, _⟩ := gown_form own2
      obtain ⟨V3, hV3⟩ : ∃ V, m2.alloc (.cells #[.slice A2 X2.length q2] 42) = V := ⟨_, rfl⟩
      have bb2 := below_new m2 (.cells #[.slice A2 X2.length q2] 42)
      have ee2 := heap_alloc_new m2 (.cells #[.slice A2 X2.length q2] 42)
      rw [hV3] at bb2 ee2
      have HV3 := Lib.hid hV3
      have PK3 := Lib.hid ((PK2.out.two af2).below bb2)
      have OW2 := Lib.hid (gown_below own2 bb2)
      have EE2 := Lib.hid ee2
      have OW0 := Lib.hid (gown_below (gown_fr OW0.out af2.2 (fun k hk s => by have h1 := (gown_lt OW0.out hk).1; have h2 := PK2.out.n2 _ s; have h3 := PK2.out.lt; have h4 := PK2.out.p.lt; have h5 := LV0.out; omega)) bb2)
      have EE0 := Lib.hid ((bb2.block _ (Nat.lt_of_lt_of_le (Array.getElem?_eq_some_iff.1 EE0.out).1 af2.2.size)).trans ((af2.2.at' _ (Array.getElem?_eq_some_iff.1 EE0.out).1 (fun s => by have h2 := PK2.out.n2 _ s; have h3 := PK2.out.lt; have h4 := PK2.out.p.lt; have h5 := LV0.out; omega)).trans EE0.out))
      have OW1 := Lib.hid (gown_below (gown_fr OW1.out af2.2 (fun k hk s => by have h1 := (gown_lt OW1.out hk).1; have h2 := PK2.out.n2 _ s; have h3 := PK2.out.lt; have h4 := PK2.out.p.lt; have h5 := LV1.out; omega)) bb2)
      have EE1 := Lib.hid ((bb2.block _ (Nat.lt_of_lt_of_le (Array.getElem?_eq_some_iff.1 EE1.out).1 af2.2.size)).trans ((af2.2.at' _ (Array.getElem?_eq_some_iff.1 EE1.out).1 (fun s => by have h2 := PK2.out.n2 _ s; have h3 := PK2.out.lt; have h4 := PK2.out.p.lt; have h5 := LV1.out; omega)).trans EE1.out))
      have LV2 : Hid (u1.heap.size < V2.heap.size ∧ V2.heap.size ≤ m2.heap.size) := Lib.hid ⟨PK2.out.lt.2, af2.2.size⟩
      clear own2 af2 bb2 ee2 hV3 MK2 PK2
      have SZ3 := Lib.hid (show V3.heap.size = m2.heap.size + 1 from by rw [← HV3.out]; simp)
      obtain ⟨x1, hx1⟩ : ∃ x, marE c p = x := ⟨_, rfl⟩
      obtain ⟨x2, hx2⟩ : ∃ x, marE c q = x := ⟨_, rfl⟩
      rw [hx1, hx2]
      by_cases y1 : x1 = 0
      case neg =>
        have z1 : (x1 == 0) = false := beq_eq_false_iff_ne.2 y1
        go_wp2_with fail
        rw [HV3.out]
        refine (KN.out V3).mono ?_; rintro e w9 ⟨rfl, q9⟩
        have P9 := Lib.hid (PK3.out.below q9)
        have cr := obj_cell9 P9.out.p.c8
        have fr := obj_fz9 P9.out.p.c8 0
        clear q9
        go_wp2_with fail
        have R5 := heap_setCell_same w9 (w.heap.size + 1) 0 _ _ (.bool true) P9.out.p.c8
        exact ret_marks [] rfl (by simp) (by simp) (ret_cell9 rfl _ _ (w.heap.size + 1) true rfl (obj_cell9 R5)) ⟨rfl, P9.out.p.b.setCell (by show w.heap.size ≤ w.heap.size + 1; omega) _⟩
      by_cases y2 : x2 = 0
      case neg =>
        have z1 : (x2 == 0) = false := beq_eq_false_iff_ne.2 y2
        subst y1
        go_wp2_with fail
        rw [HV3.out]
        refine (KN.out V3).mono ?_; rintro e w9 ⟨rfl, q9⟩
        have P9 := Lib.hid (PK3.out.below q9)
        have cr := obj_cell9 P9.out.p.c8
        have fr := obj_fz9 P9.out.p.c8 0
        clear q9
        go_wp2_with fail
        have R5 := heap_setCell_same w9 (w.heap.size + 1) 0 _ _ (.bool true) P9.out.p.c8
        exact ret_marks [] rfl (by simp) (by simp) (ret_cell9 rfl _ _ (w.heap.size + 1) true rfl (obj_cell9 R5)) ⟨rfl, P9.out.p.b.setCell (by show w.heap.size ≤ w.heap.size + 1; omega) _⟩
      have PA := Lib.hid (fun n => PATH.out (hx1.trans y1) (hx2.trans y2) n)
      have AG := Lib.hid (AGN.out (hx1.trans y1) (hx2.trans y2) _ IN1.out)
      have E2Z := Lib.hid (hx2.trans y2)
      subst y1
      subst y2
      rw [HX0.out, HX1.out, HX2.out] at PA
      have LE0 : Hid (X0.length ≤ 64) := Lib.hid (by rw [← HX0.out]; exact marx_len IL.out)
      have LE1 : Hid (X1.length ≤ 64) := Lib.hid (by rw [← HX1.out]; exact marx_len IN1.out)
      have LE2 : Hid (X2.length ≤ 64) := Lib.hid (by rw [← HX2.out]; exact marx_len IL.out)
      clear HX0 HX1 HX2 hx1 hx2 PATH AGN
      obtain ⟨L2, hL2⟩ : ∃ L2, (marL (marL L c p false) c q false) = L2 := ⟨_, rfl⟩
      obtain ⟨M1, hM1⟩ : ∃ M1, (marL L c q false) = M1 := ⟨_, rfl⟩
      rw [hL2, hM1] at PK3 PA
      rw [hL2] at AG
      clear hL2 hM1
      obtain ⟨V4, hV4⟩ : ∃ V, V3.alloc (.cells #[.func (.func 33) #[] #[]] 66) = V := ⟨_, rfl⟩
      have b4 : Below V3.heap.size V3 V4 := hV4 ▸ below_new V3 _
      have f4 : V4.heap[m2.heap.size + 1]? = some (.cells #[.func (.func 33) #[] #[]] 66 (0, 0)) := by rw [← SZ3.out]; exact hV4 ▸ heap_alloc_new V3 _
      have bb {k : Nat} {o : Obj} (e : V3.heap[k]? = some o) : V4.heap[k]? = some o := (b4.block k (Array.getElem?_eq_some_iff.1 e).1).trans e
      have PZ : Hid (Pz w V4 c w1.heap.size g ba bp L2 u1.heap.size g2 a2 p2 M1 m0.heap.size m1.heap.size m2.heap.size (m2.heap.size + 1) A0 A1 A2 X0 X1 X2 q0 q1 q2) := Lib.hid ⟨PK3.out.below b4, grd_below (gown_rd OW0.out) b4 (Nat.le_refl _), grd_below (gown_rd OW1.out) b4 (Nat.le_refl _), grd_below (gown_rd OW2.out) b4 (Nat.le_refl _), bb EE0.out, bb EE1.out, bb EE2.out, f4⟩
      have k9 : V4.cell? ⟨w1.heap.size, 0, none⟩ = some (.pointer (some ⟨g, 0, none⟩)) := obj_cell9 PZ.out.k.p.c9
      have k9' := hV4.symm ▸ k9
      have k9q := HV3.out.symm ▸ k9'
      have HV4 := Lib.hid hV4
      have hst := fun (a : Addr) (W : World) => run_store Try.prog W a (.func (.func 33) #[] #[]) .plain rfl
      have AC := Lib.hid (laccts9 PZ.out.k.p.d.lb PZ.out.k.p.d.ma PZ.out.k.p.d.inv)
      clear b4 f4 bb k9 hV4 OW0 OW1 OW2 EE0 EE1 EE2 LV0 LV1 LV2 PK3
      go_wp2_with fail
      rw [HV3.out, HV4.out]
      refine AC.out.mono ?_; rintro e W4 ⟨gf1, lb1, T1, rfl, q4, -, -, -⟩
      have PY := Lib.hid (PZ.out.below q4)
      have k9 : W4.cell? ⟨w1.heap.size, 0, none⟩ = some (.pointer (some ⟨g, 0, none⟩)) := obj_cell9 PY.out.k.p.c9
      have AC2 := Lib.hid (laccts9 PY.out.k.p.d.lb PY.out.k.p.d.ma PY.out.k.p.d.inv)
      have S4 := Lib.hid q4.size
      clear q4 AC k9' k9q hst PZ
      go_wp2_with fail
      refine AC2.out.mono ?_; rintro e W5 ⟨gf, lb, T, rfl, q5, en, hT, tell⟩
      have PX := Lib.hid (PY.out.below q5)
      have TL := Lib.hid tell
      have EN := Lib.hid en
      have HT := Lib.hid hT
      clear q5 en hT tell AC2 k9 PY
      go_wp2_with fail
      refine (wpIn_wide (n := 9)).1 ?_
      refine range_calmN (S := fun _ _ => False) (N0 := W5.heap.size) (Sd := fun xs => xs = L2.al) (Sp := fun pre => pre <+: L2.al) (Pr := fun xs => xs <+: L2.al) (encs := encA) (by decide) rfl EN.out (Still.const _ _) (Nat.le_refl _)
        (TL.out W5 (fun _ _ => False) 8 W5.heap.size (Fr.refl _ _) (Still.const _ _) (fun k hk => .inl (HT.out k hk).1) (fun k hk => hk.elim) (fun k hk c => c) (by decide)) (fun _ => rfl)
        (fun pre U => Fr (fun _ : Nat => False) W5 U)
        (fun _ _ _ => False)
        (fun s A C hj b _ => ⟨hj.b0.trans (b.mono (Nat.zero_le _)), fun k hk hn => (b.block k hk).trans (hj.at' k hk hn)⟩)
        (fun _ s A C hj _ _ => hj)
        (Fr.refl _ _)
        (fun y a' U => ∃ bx, W5.heap.size ≤ bx ∧ EA.Bx 33 U bx y ∧ ∃ u : Nat → Value, a' = { tmps := #[u 0, u 1, u 2, u 3, u 4, .pointer (some ⟨w.heap.size, 0, none⟩), u 6, u 7, .pointer (some ⟨w.heap.size + 1, 0, none⟩), .pointer (some ⟨w1.heap.size, 0, none⟩), u 10, .pointer (some ⟨u1.heap.size, 0, none⟩), .pointer (some ⟨m0.heap.size, 0, none⟩), u 13, .pointer (some ⟨m1.heap.size, 0, none⟩), u 15, .pointer (some ⟨m2.heap.size, 0, none⟩), u 17, .pointer (some ⟨m2.heap.size + 1, 0, none⟩), .pointer (some ⟨bx, 0, none⟩), u 20, u 21, u 22, u 23, u 24, u 25, u 26, u 27, u 28, u 29, u 30, u 31, u 32, u 33, u 34, u 35, u 36, u 37, u 38, u 39, u 40, u 41, u 42, u 43, u 44, u 45, u 46, u 47, u 48, u 49, u 50, u 51, u 52, u 53, u 54, u 55, u 56, u 57, u 58, u 59, u 60, u 61, u 62, u 63, u 64, u 65, u 66, u 67, u 68, u 69, u 70, u 71, u 72, u 73, u 74, u 75, u 76, u 77, u 78, u 79, u 80, u 81, u 82, u 83, u 84, u 85, u 86, u 87, u 88, u 89, u 90, u 91, u 92, u 93, u 94, u 95, u 96, u 97, u 98, u 99, u 100, u 101, u 102, u 103, u 104, u 105, u 106, u 107, u 108, u 109, u 110, u 111, u 112, u 113, u 114, u 115, u 116, u 117, u 118, u 119, u 120, u 121, u 122, u 123, u 124, u 125, u 126, u 127, u 128, u 129, u 130, u 131, u 132, u 133, u 134, u 135, u 136, u 137, u 138, u 139, u 140, u 141], defers := [] })
        (fun y a' U l o o' hx hl ho hc => by
          obtain ⟨bx, h1, h2, h3⟩ := hx
          refine ⟨bx, h1, ?_, h3⟩
          show (U.putObj l o').heap[bx]? = _
          rw [World.putObj_heap_other (fun e => ?_)]
          · exact h2
          · subst e
            rw [show U.heap[bx]? = _ from h2] at ho
            cases ho
            cases hc) ?assign ?body ?done ?stop
      case assign =>
        rintro l pre y U KK h2 _ hK
        have HZ := Lib.hid (gbx_new (E := EA) (te := 33) U zeroAc)
        refine region_in rfl (fun ⟨_, _, h⟩ => h) ?_
        go_wp2_with (refine gwl_store TA y U.heap.size HZ.out rfl rfl ?_)
        have q : Below U.heap.size U ((U.alloc (.cells (EA.cells zeroAc).toArray 33)).setRow U.heap.size (EA.cells y).toArray) := below_row0 (below_new U _) (Nat.le_refl _)
        refine hK _ _ ⟨q.size, fun k o _ hk _ => (q.block k (Array.getElem?_eq_some_iff.1 hk).1).trans hk⟩ (Kn.below (Still.const _ _) (Nat.le_refl _) q) (h2.same (Fr.below q)) ⟨U.heap.size, h2.size, gbx_set HZ.out, intro_u9 rfl⟩
      case stop =>
        rintro D c pre W hD hS hx hK
        exact hx.elim
      case done =>
        rintro D ys W hD hS h2 hK
        subst hS
        have H2 := Lib.hid h2
        have HKD := Lib.hid hK
        have PW := Lib.hid (PX.out.below h2.out)
        have d5 : W5.heap.size ≤ D := hD
        have k9 : W.cell? ⟨w1.heap.size, 0, none⟩ = some (.pointer (some ⟨g, 0, none⟩)) := obj_cell9 PW.out.k.p.c9
        have k5 : W.cell? ⟨w.heap.size, 0, none⟩ = some (.int .u32 c) := obj_cell9 PW.out.k.p.c5
        have MK3 := Lib.hid (lmark9 c q false W PW.out.k.p.d HC.out)
        have PLT : Hid (w1.heap.size < W5.heap.size) := Lib.hid PX.out.k.p.lt.2
        have PNN := Lib.hid PX.out.k.p.n
        clear h2 hK PA
        go_wp2_with fail
        refine MK3.out.mono ?_; rintro e m3 ⟨v3, rfl, own3, af3⟩
        obtain ⟨X3, hX3⟩ : ∃ X, marX L2 c q = X := ⟨_, rfl⟩
        rw [hX3] at own3
        have AG3 := AG.out
        rw [hX3] at AG3
        have AGH := Lib.hid AG3
        have LE3 : Hid (X3.length ≤ 64) := Lib.hid (by rw [← hX3]; exact marx_len PW.out.k.p.d.inv)
        obtain ⟨A3, q3, rfl, _⟩ := gown_form own3
        have OW3 := Lib.hid own3
        have PM := Lib.hid (PW.out.k.p.af af3)
        have DM : Hid (m3.heap[D]? = some (.deferred (some []))) := Lib.hid ((af3.2.at' D (Array.getElem?_eq_some_iff.1 HKD.out).1 (PW.out.k.p.d.nodef HKD.out)).trans HKD.out)
        rw [E2Z.out]
        obtain ⟨nv, hnv⟩ : ∃ nv, X3.length = nv := ⟨_, rfl⟩
        rw [hnv] at OW3 LE3 ⊢
        have HNV := Lib.hid hnv
        clear hX3 AG3 own3 af3 hnv MK3 k9 k5 AG
        go_wp2_with fail
        go_loopw [127] (fun iv wi => ∃ j' : Nat, j' ≤ nv ∧ iv = .int .i64 j' ∧ Fr (fun _ : Nat => False) m3 wi) (fun iv _ => nv - (intOf iv).toNat)
        case atStart => exact ⟨0, Nat.zero_le _, rfl, Fr.refl _ _⟩
        case round =>
          obtain ⟨i, hi, rfl, hf⟩ := hrel
          have F1 := Lib.hid hf
          clear hf
          by_cases hin : i < nv
          case neg =>
            obtain rfl : i = nv := by omega
            have hdi : decide ((i : Int) < (i : Int)) = false := decide_eq_false (by omega)
            go_wp2_with fail
            refine (KN.out _).mono ?_; rintro e w9 ⟨rfl, q9⟩
            have F2 := Lib.hid (F1.out.same (Fr.below q9))
            have P9 := Lib.hid (PM.out.below F2.out.out)
            have cr := obj_cell9 P9.out.c8
            have fr := obj_fz9 P9.out.c8 0
            have D9 : Hid (w9.heap[D]? = some (.deferred (some []))) := Lib.hid ((F2.out.at' D (Array.getElem?_eq_some_iff.1 DM.out).1 (fun c => c)).trans DM.out)
            clear q9
            go_wp2_with fail
            have R5 := heap_setCell_same w9 (w.heap.size + 1) 0 _ _ (.bool true) P9.out.c8
            have l9 := P9.out.lt
            have lw := PLT.out
            refine ret_marks [D] rfl (by simp) ?_ (ret_cell9 rfl _ _ (w.heap.size + 1) true rfl ?_) ⟨rfl, ?_⟩
            · intro E hE
              obtain rfl := List.mem_singleton.1 hE
              exact (heap_setCell_other w9 _ _ _ (by show E ≠ w.heap.size + 1; omega)).trans D9.out
            · rw [cell_of_row _ _ _ _ _ _ ((unmark_other [D] _ (w.heap.size + 1) (fun c => by have := List.mem_singleton.1 c; omega)).trans R5)]; rfl
            · refine unmark_below [D] _ _ _ (fun E hE => by have := List.mem_singleton.1 hE; omega) ?_ (P9.out.b.setCell (by show w.heap.size ≤ w.heap.size + 1; omega) _)
              have := P9.out.b.size
              show w.heap.size ≤ (w9.setCell _ _).heap.size
              simp; omega
          case pos =>
            have hdi : decide ((i : Int) < (nv : Int)) = true := decide_eq_true (by omega)
            have him : (i : Int) < (nv : Int) := by omega
            have wi1 : wrap64 ((i : Int) + 1) = (i : Int) + 1 := by have := LE3.out; unfold wrap64; omega
            obtain ⟨t, ht⟩ : ∃ t, X3[i]? = some t := ⟨X3[i]'(by have := HNV.out; omega), List.getElem?_eq_getElem _⟩
            obtain ⟨bv, cv, ev⟩ := gown_slot OW3.out (by have := HNV.out; omega)
            injection ev with eA _ ec
            subst eA ec
            have tz := AGH.out t (List.mem_of_getElem? ht)
            have kv : wr.cell? ⟨bv, i * 2 + 1, none⟩ = some (.int .i64 0) := by
              have := cell_fr (gown_at (n := X3.length) (by rw [HNV.out]; exact OW3.out) ht (i := 1) (by decide)) F1.out (fun c => c)
              rw [← tz]; exact this
            clear ht tz
            go_wp2_with fail
            go_roundw
            case rel => exact ⟨i + 1, by omega, by go_num, F1.out⟩
            case measure => first | exact meas9' _ _ hin | (rw [wi1]; exact meas9' _ _ hin)
      case body =>
        rintro l pre y a' U - - h2 ⟨bx, hb, hbx, u'', rfl⟩ hpx
        have hy : y ∈ L2.al := hpx.subset (List.mem_append_right pre (List.mem_singleton.2 rfl))
        have yk := (PX.out.k.p.d.inv.aok y hy).1
        have YU : Hid (U32' y.nu) := Lib.hid ⟨by omega, yk.2⟩
        obtain ⟨ps, pp⟩ := PA.out y.nu
        have OKP := Lib.hid (posH_ok PX.out.k.p.d.inv HC.out YU.out)
        have PP := Lib.hid pp
        obtain ⟨wa, hwa⟩ : ∃ x, wonF X0 y.nu = x := ⟨_, rfl⟩
        obtain ⟨wb, hwb⟩ : ∃ x, wonF X1 y.nu = x := ⟨_, rfl⟩
        obtain ⟨wd, hwd⟩ : ∃ x, wonF X2 y.nu = x := ⟨_, rfl⟩
        have HWA := Lib.hid hwa
        have HWB := Lib.hid hwb
        have HWD := Lib.hid hwd
        rw [hwa, hwb, hwd] at ps
        have PS := Lib.hid ps
        have H2 := Lib.hid h2
        have BXH := Lib.hid hbx
        have PU : Hid (∀ X, Fr (fun _ : Nat => False) U X → Pz w X c w1.heap.size g ba bp L2 u1.heap.size g2 a2 p2 M1 m0.heap.size m1.heap.size m2.heap.size (m2.heap.size + 1) A0 A1 A2 X0 X1 X2 q0 q1 q2) := Lib.hid fun X f => PX.out.below (h2.same f).out
        have FX : Hid (∀ X, Fr (fun _ : Nat => False) U X → X.cell? ⟨bx, 0, none⟩ = some (.int .u32 y.nu)) := Lib.hid fun X f => gbx_cell ((f.at' _ (Array.getElem?_eq_some_iff.1 hbx).1 (fun c => c)).trans hbx) 0
        clear ps pp hwa hwb hwd h2 hbx hy yk hpx PA
        refine wpIn_block ?_
        apply wpIn_seq_k; intro KB hKB; have HKB := Lib.hid hKB; clear hKB
        refine region_held_in (S := fun X => Fr (fun _ : Nat => False) U X) rfl (fun ⟨_, _, h⟩ => h) (by kernel_rfl) ((Fr.refl _ _).drewN 1) (fun hH => ?_)
        refine wpAnyH_take (i := 0) (v := .func (.func 33) #[] #[]) rfl (by kernel_rfl) (by kernel_rfl) (by kernel_rfl) (fun _ _ _ h => h) (.inl ⟨by rfl, ?_⟩) (by assumption) ?_
        · intro W hW; have kc := obj_cell9 (PU.out W hW).f; go_simp
        try simp only [List.getElem_toArray, List.getElem_cons_zero, Act.put, List.setIfInBounds_toArray, List.set_cons_zero, List.set_cons_succ]
        refine wpAnyH_take (i := 1) (v := .slice A0 X0.length q0) rfl (by kernel_rfl) (by kernel_rfl) (by kernel_rfl) (fun _ _ _ h => h) (.inl ⟨by rfl, ?_⟩) (by assumption) ?_
        · intro W hW; have kc := obj_cell9 (PU.out W hW).e0; go_simp
        try simp only [List.getElem_toArray, List.getElem_cons_zero, List.getElem_cons_succ, Act.put, List.setIfInBounds_toArray, List.set_cons_zero, List.set_cons_succ]
        refine wpAnyH_take (i := 2) (v := .pointer (some ⟨bx, 0, none⟩)) rfl (by kernel_rfl) (by kernel_rfl) (by kernel_rfl) (fun _ _ _ h => h) (.inl ⟨by rfl, ?_⟩) (by assumption) ?_
        · intro W hW; go_simp
        try simp only [List.getElem_toArray, List.getElem_cons_zero, List.getElem_cons_succ, Act.put, List.setIfInBounds_toArray, List.set_cons_zero, List.set_cons_succ]
        refine wpAnyH_take (i := 3) (v := .int .u32 y.nu) rfl (by kernel_rfl) (by kernel_rfl) (by kernel_rfl) (fun _ _ _ h => h) (.inl ⟨by rfl, ?_⟩) (by assumption) ?_
        · intro W hW; have kc := FX.out W hW; go_simp
        try simp only [List.getElem_toArray, List.getElem_cons_zero, List.getElem_cons_succ, Act.put, List.setIfInBounds_toArray, List.set_cons_zero, List.set_cons_succ]
        refine wpAnyH_take (i := 5) (v := .func (.func 33) #[] #[]) rfl (by kernel_rfl) (by kernel_rfl) (by kernel_rfl) (fun _ _ _ h => h) (.inl ⟨by rfl, ?_⟩) (by assumption) ?_
        · intro W hW; have kc := obj_cell9 (PU.out W hW).f; go_simp
        try simp only [List.getElem_toArray, List.getElem_cons_zero, List.getElem_cons_succ, Act.put, List.setIfInBounds_toArray, List.set_cons_zero, List.set_cons_succ]
        refine wpAnyH_take (i := 6) (v := .slice A1 X1.length q1) rfl (by kernel_rfl) (by kernel_rfl) (by kernel_rfl) (fun _ _ _ h => h) (.inl ⟨by rfl, ?_⟩) (by assumption) ?_
        · intro W hW; have kc := obj_cell9 (PU.out W hW).e1; go_simp
        try simp only [List.getElem_toArray, List.getElem_cons_zero, List.getElem_cons_succ, Act.put, List.setIfInBounds_toArray, List.set_cons_zero, List.set_cons_succ]
        refine wpAnyH_take (i := 7) (v := .pointer (some ⟨bx, 0, none⟩)) rfl (by kernel_rfl) (by kernel_rfl) (by kernel_rfl) (fun _ _ _ h => h) (.inl ⟨by rfl, ?_⟩) (by assumption) ?_
        · intro W hW; go_simp
        try simp only [List.getElem_toArray, List.getElem_cons_zero, List.getElem_cons_succ, Act.put, List.setIfInBounds_toArray, List.set_cons_zero, List.set_cons_succ]
        refine wpAnyH_take (i := 8) (v := .int .u32 y.nu) rfl (by kernel_rfl) (by kernel_rfl) (by kernel_rfl) (fun _ _ _ h => h) (.inl ⟨by rfl, ?_⟩) (by assumption) ?_
        · intro W hW; have kc := FX.out W hW; go_simp
        try simp only [List.getElem_toArray, List.getElem_cons_zero, List.getElem_cons_succ, Act.put, List.setIfInBounds_toArray, List.set_cons_zero, List.set_cons_succ]
        refine wpAnyH_take (i := 11) (v := .func (.func 33) #[] #[]) rfl (by kernel_rfl) (by kernel_rfl) (by kernel_rfl) (fun _ _ _ h => h) (.inl ⟨by rfl, ?_⟩) (by assumption) ?_
        · intro W hW; have kc := obj_cell9 (PU.out W hW).f; go_simp
        try simp only [List.getElem_toArray, List.getElem_cons_zero, List.getElem_cons_succ, Act.put, List.setIfInBounds_toArray, List.set_cons_zero, List.set_cons_succ]
        refine wpAnyH_take (i := 12) (v := .slice A2 X2.length q2) rfl (by kernel_rfl) (by kernel_rfl) (by kernel_rfl) (fun _ _ _ h => h) (.inl ⟨by rfl, ?_⟩) (by assumption) ?_
        · intro W hW; have kc := obj_cell9 (PU.out W hW).e2; go_simp
        try simp only [List.getElem_toArray, List.getElem_cons_zero, List.getElem_cons_succ, Act.put, List.setIfInBounds_toArray, List.set_cons_zero, List.set_cons_succ]
        refine wpAnyH_take (i := 13) (v := .pointer (some ⟨bx, 0, none⟩)) rfl (by kernel_rfl) (by kernel_rfl) (by kernel_rfl) (fun _ _ _ h => h) (.inl ⟨by rfl, ?_⟩) (by assumption) ?_
        · intro W hW; go_simp
        try simp only [List.getElem_toArray, List.getElem_cons_zero, List.getElem_cons_succ, Act.put, List.setIfInBounds_toArray, List.set_cons_zero, List.set_cons_succ]
        refine wpAnyH_take (i := 14) (v := .int .u32 y.nu) rfl (by kernel_rfl) (by kernel_rfl) (by kernel_rfl) (fun _ _ _ h => h) (.inl ⟨by rfl, ?_⟩) (by assumption) ?_
        · intro W hW; have kc := FX.out W hW; go_simp
        try simp only [List.getElem_toArray, List.getElem_cons_zero, List.getElem_cons_succ, Act.put, List.setIfInBounds_toArray, List.set_cons_zero, List.set_cons_succ]
        refine wpAnyH_ready (rs := [4]) (by decide +kernel) (by simp) (AllReadyH.cons rfl (fun KQ hK => ?_) AllReadyH.nil)
        go_simp
        refine (won9 A0 X0.length q0 X0 y.nu _ (PU.out _ hH).r0 LE0.out).mono ?_; rintro e0 Wn ⟨rfl, fn⟩
        have hHn := hH.same fn
        refine hK.out _ _ hHn (fun _ => ?_)
        clear hK hH fn
        have hH := hHn
        clear hHn
        try simp only [List.setIfInBounds_toArray, List.set_cons_zero, List.set_cons_succ]
        rw [HWA.out]
        refine wpAnyH_ready (rs := [9]) (by decide +kernel) (by simp) (AllReadyH.cons rfl (fun KQ hK => ?_) AllReadyH.nil)
        go_simp
        refine (won9 A1 X1.length q1 X1 y.nu _ (PU.out _ hH).r1 LE1.out).mono ?_; rintro e0 Wn ⟨rfl, fn⟩
        have hHn := hH.same fn
        refine hK.out _ _ hHn (fun _ => ?_)
        clear hK hH fn
        have hH := hHn
        clear hHn
        try simp only [List.setIfInBounds_toArray, List.set_cons_zero, List.set_cons_succ]
        rw [HWB.out]
        refine wpAnyH_take (i := 10) (v := .int .i64 wd) rfl (by kernel_rfl) (by kernel_rfl) (by kernel_rfl) (fun _ _ _ h => h) (.inl ⟨by rfl, ?_⟩) (by assumption) ?_
        · intro W hW; have ks := PS.out; go_simp; rw [IntKind.wrap_i64]; unfold wrap64 at ks; omega
        try simp only [List.getElem_toArray, List.getElem_cons_zero, List.getElem_cons_succ, Act.put, List.setIfInBounds_toArray, List.set_cons_zero, List.set_cons_succ]
        refine wpAnyH_ready (rs := [15]) (by decide +kernel) (by simp) (AllReadyH.cons rfl (fun KQ hK => ?_) AllReadyH.nil)
        go_simp
        refine (won9 A2 X2.length q2 X2 y.nu _ (PU.out _ hH).r2 LE2.out).mono ?_; rintro e0 Wn ⟨rfl, fn⟩
        have hHn := hH.same fn
        refine hK.out _ _ hHn (fun _ => ?_)
        clear hK hH fn
        have hH := hHn
        clear hHn
        try simp only [List.setIfInBounds_toArray, List.set_cons_zero, List.set_cons_succ]
        rw [HWD.out]
        refine wpAnyH_take (i := 16) (v := .bool false) rfl (by kernel_rfl) (by kernel_rfl) (by kernel_rfl) (fun _ _ _ h => h) (.inl ⟨by rfl, ?_⟩) (by assumption) ?_
        · intro W hW; go_simp
        try simp only [List.getElem_toArray, List.getElem_cons_zero, List.getElem_cons_succ, Act.put, List.setIfInBounds_toArray, List.set_cons_zero, List.set_cons_succ]
        refine wpAnyH_take (i := 17) (v := .bool false) rfl (by kernel_rfl) (by kernel_rfl) (by kernel_rfl) (fun _ _ _ h => h) (.inl ⟨by rfl, ?_⟩) (by assumption) ?_
        · intro W hW; go_simp
        try simp only [List.getElem_toArray, List.getElem_cons_zero, List.getElem_cons_succ, Act.put, List.setIfInBounds_toArray, List.set_cons_zero, List.set_cons_succ]
        refine wpAnyH_take (i := 18) (v := .pointer (some ⟨g, 0, none⟩)) rfl (by kernel_rfl) (by kernel_rfl) (by kernel_rfl) (fun _ _ _ h => h) (.inl ⟨by rfl, ?_⟩) (by assumption) ?_
        · intro W hW; have kc := obj_cell9 (PU.out W hW).k.p.c9; go_simp
        try simp only [List.getElem_toArray, List.getElem_cons_zero, List.getElem_cons_succ, Act.put, List.setIfInBounds_toArray, List.set_cons_zero, List.set_cons_succ]
        refine wpAnyH_take (i := 19) (v := .int .u32 c) rfl (by kernel_rfl) (by kernel_rfl) (by kernel_rfl) (fun _ _ _ h => h) (.inl ⟨by rfl, ?_⟩) (by assumption) ?_
        · intro W hW; have kc := obj_cell9 (PU.out W hW).k.p.c5; go_simp
        try simp only [List.getElem_toArray, List.getElem_cons_zero, List.getElem_cons_succ, Act.put, List.setIfInBounds_toArray, List.set_cons_zero, List.set_cons_succ]
        refine wpAnyH_take (i := 20) (v := .pointer (some ⟨bx, 0, none⟩)) rfl (by kernel_rfl) (by kernel_rfl) (by kernel_rfl) (fun _ _ _ h => h) (.inl ⟨by rfl, ?_⟩) (by assumption) ?_
        · intro W hW; go_simp
        try simp only [List.getElem_toArray, List.getElem_cons_zero, List.getElem_cons_succ, Act.put, List.setIfInBounds_toArray, List.set_cons_zero, List.set_cons_succ]
        refine wpAnyH_take (i := 21) (v := .int .u32 y.nu) rfl (by kernel_rfl) (by kernel_rfl) (by kernel_rfl) (fun _ _ _ h => h) (.inl ⟨by rfl, ?_⟩) (by assumption) ?_
        · intro W hW; have kc := FX.out W hW; go_simp
        try simp only [List.getElem_toArray, List.getElem_cons_zero, List.getElem_cons_succ, Act.put, List.setIfInBounds_toArray, List.set_cons_zero, List.set_cons_succ]
        refine wpAnyH_take (i := 23) (v := .pointer (some ⟨g2, 0, none⟩)) rfl (by kernel_rfl) (by kernel_rfl) (by kernel_rfl) (fun _ _ _ h => h) (.inl ⟨by rfl, ?_⟩) (by assumption) ?_
        · intro W hW; have kc := obj_cell9 (PU.out W hW).k.c11; go_simp
        try simp only [List.getElem_toArray, List.getElem_cons_zero, List.getElem_cons_succ, Act.put, List.setIfInBounds_toArray, List.set_cons_zero, List.set_cons_succ]
        refine wpAnyH_take (i := 24) (v := .int .u32 c) rfl (by kernel_rfl) (by kernel_rfl) (by kernel_rfl) (fun _ _ _ h => h) (.inl ⟨by rfl, ?_⟩) (by assumption) ?_
        · intro W hW; have kc := obj_cell9 (PU.out W hW).k.p.c5; go_simp
        try simp only [List.getElem_toArray, List.getElem_cons_zero, List.getElem_cons_succ, Act.put, List.setIfInBounds_toArray, List.set_cons_zero, List.set_cons_succ]
        refine wpAnyH_take (i := 25) (v := .pointer (some ⟨bx, 0, none⟩)) rfl (by kernel_rfl) (by kernel_rfl) (by kernel_rfl) (fun _ _ _ h => h) (.inl ⟨by rfl, ?_⟩) (by assumption) ?_
        · intro W hW; go_simp
        try simp only [List.getElem_toArray, List.getElem_cons_zero, List.getElem_cons_succ, Act.put, List.setIfInBounds_toArray, List.set_cons_zero, List.set_cons_succ]
        refine wpAnyH_take (i := 26) (v := .int .u32 y.nu) rfl (by kernel_rfl) (by kernel_rfl) (by kernel_rfl) (fun _ _ _ h => h) (.inl ⟨by rfl, ?_⟩) (by assumption) ?_
        · intro W hW; have kc := FX.out W hW; go_simp
        try simp only [List.getElem_toArray, List.getElem_cons_zero, List.getElem_cons_succ, Act.put, List.setIfInBounds_toArray, List.set_cons_zero, List.set_cons_succ]
        refine wpAnyH_ready (rs := [22]) (by decide +kernel) (by simp) (AllReadyH.cons rfl (fun KQ hK => ?_) AllReadyH.nil)
        go_simp
        refine (lpos9 c y.nu _ (PU.out _ hH).k.p.d HC.out YU.out).mono ?_; rintro e0 Wn ⟨rfl, qn⟩
        have fn : Fr (fun _ : Nat => False) _ _ := Fr.below qn
        clear qn
        have hHn := hH.same fn
        refine hK.out _ _ hHn (fun _ => ?_)
        clear hK hH fn
        have hH := hHn
        clear hHn
        try simp only [List.setIfInBounds_toArray, List.set_cons_zero, List.set_cons_succ]
        refine wpAnyH_ready (rs := [27]) (by decide +kernel) (by simp) (AllReadyH.cons rfl (fun KQ hK => ?_) AllReadyH.nil)
        go_simp
        refine (lpos9 c y.nu _ (PU.out _ hH).k.d2 HC.out YU.out).mono ?_; rintro e0 Wn ⟨rfl, qn⟩
        have fn : Fr (fun _ : Nat => False) _ _ := Fr.below qn
        clear qn
        have hHn := hH.same fn
        refine hK.out _ _ hHn (fun _ => ?_)
        clear hK hH fn
        have hH := hHn
        clear hHn
        try simp only [List.setIfInBounds_toArray, List.set_cons_zero, List.set_cons_succ]
        rw [← PP.out]
        refine wpAnyH_take (i := 28) (v := .bool !(eqPo9 (posH L2.hl c y.nu) (posH L2.hl c y.nu))) rfl (by kernel_rfl) (by kernel_rfl) (by kernel_rfl) (fun _ _ _ h => h) (yields_neq_po9 (by rfl) _ _ rfl OKP.out OKP.out rfl rfl) (by assumption) ?_
        try simp only [List.getElem_toArray, List.getElem_cons_zero, List.getElem_cons_succ, Act.put, List.setIfInBounds_toArray, List.set_cons_zero, List.set_cons_succ]
        rw [eqPo9_yes]
        refine wpAnyH_take (i := 29) (v := .bool false) rfl (by kernel_rfl) (by kernel_rfl) (by kernel_rfl) (fun _ _ _ h => h) (.inl ⟨by rfl, ?_⟩) (by assumption) ?_
        · intro W hW; go_simp
        try simp only [List.getElem_toArray, List.getElem_cons_zero, List.getElem_cons_succ, Act.put, List.setIfInBounds_toArray, List.set_cons_zero, List.set_cons_succ]
        refine wpAnyH_done (by decide +kernel) ?_ _
        refine HKB.out _ _ ?_
        refine wpIn_cond_false rfl ?_
        apply wpIn_skip
        exact ⟨⟨hH.size, fun k o _ hk _ => (hH.at' k (Array.getElem?_eq_some_iff.1 hk).1 (fun c => c)).trans hk⟩, Kn.fr (hH.mono (fun _ h => h)), H2.out.same hH⟩
theorem path9_all (A : Option Addr) (n cc : Nat) (l : List OpL) (c p q : Int) (w : World) (hr : EOp9.Rd w A n l) (hok : ∀ x, x ∈ l → x.ok) (hm : n ≤ maxLen) (hc : U32' c) :
    Calls Try.prog 7 #[.slice A n cc, .int .u32 c, .int .i64 p, .int .i64 q] w fun e w' => e = .returned (.bool true) ∧ Below w.heap.size w w' := by
  unfold maxLen at hm
  rcases Nat.lt_or_ge 150 n with h | h
  · exact path9_out A n cc c p q w h (by omega)
  · exact path9_in A n cc c p q l w hr hok h hc
end Go.Proofs.Ytbmmokgmpgahnaa
