/- The walk of the statement SidePlays, given the program's side. -/
import Derived.Test.YtpnccbcaoifdiaaEq
import Derived.Deep.LoopGhost
namespace Go.Proofs.Ytpnccbcaoifdiaa
open Go.RowKit Go.Shelf
set_option linter.unusedVariables false
set_option linter.unusedSimpArgs false

/-- Slots that are not looked at, as one function. -/
theorem intro_v {T : Array Value} {D : List Deferred} {F : (Nat → Value) → Array Value} (h : F (fun i => T.getD i undef) = T) : ∃ u : Nat → Value, (Act.mk T D) = Act.mk (F u) D := ⟨_, by rw [h]⟩
theorem wp_midv {P : Program} {Q : Exit → Act → World → Prop} {a : Act} {w : World} {x y : Code} (Mid : Act → World → Prop) (h1 : ∀ K : Act → World → Prop, (∀ a w, Mid a w → K a w) → x.wp P (Exit.then K Q) a w) (h2 : ∀ a w, Mid a w → y.wp P Q a w) : (Code.seq x y).wp P Q a w :=
  wp_seq_k fun K hK => h1 K fun a w h => hK a w (h2 a w h)
section
variable {buy : Bool} {os : List Or} {n : Int}
theorem fillX_ok (h : InvO buy os) : (fillX os n).ok := by
  cases os with
  | nil => exact zeroOr_ok
  | cons x r =>
    show (if n < 1 ∨ x.le < n then zeroOr else x.wi (x.le - n)).ok
    split
    · exact zeroOr_ok
    · have hx := may_le (h.may x (List.mem_cons_self ..)).1
      exact wi_ok (h.ok x (List.mem_cons_self ..)) ⟨by omega, by omega⟩
theorem getX_ok (h : InvO buy os) : (getX os n).ok := by
  unfold getX
  cases hf : findO os n with
  | none => exact zeroOr_ok
  | some x => exact h.ok x (find_mem hf).1
theorem headX_ok (h : InvO buy os) : (os.headD zeroOr).ok := by
  cases os with
  | nil => exact zeroOr_ok
  | cons x r => exact h.ok x (List.mem_cons_self ..)
end
/-- The box of the call that is at hand. -/
def opX (b : Nat) (x : OpS) : Nat × Obj := (b, .cells (EOp.cells x).toArray 35 (0, 0))
def orX (b : Nat) (x : Or) : Nat × Obj := (b, .cells (EO.cells x).toArray 33 (0, 0))
section
variable {Pd : PdT} {zs : Array Value} {w W W' : World} {X : List (Nat × Obj)} {g gr b : Nat} {buy : Bool} {os ps : List Or} {t : Nat} {x : OpS} {y : Or}
theorem PqE.bx (h : PqE Pd w X W g gr buy os ps t) (hp : opX b x ∈ X) : EOp.Bx 35 W b x := h.at hp
theorem PqE.obx (h : PqE Pd w X W g gr buy os ps t) (hp : orX b y ∈ X) : EO.Bx 33 W b y := h.at hp
theorem PqE.orng (h : PqE Pd w X W g gr buy os ps t) (hp : opX b x ∈ X) : W.rangeAt b 1 (EO.cells x.o) := by have := op_or (gbx_rng (h.bx hp)); rwa [Nat.zero_add] at this
/-- Whatever stands in them. -/
def PqX (Pd : PdT) (w : World) (X : List (Nat × Obj)) (g gr : Nat) (buy : Bool) (W : World) : Prop := ∃ os ps t, PqE Pd w X W g gr buy os ps t
theorem PqE.xx (h : PqE Pd w X W g gr buy os ps t) : PqX Pd w X g gr buy W := ⟨_, _, _, h⟩
theorem PqX.bx (h : PqX Pd w X g gr buy W) (hp : opX b x ∈ X) : EOp.Bx 35 W b x := by obtain ⟨_, _, _, h⟩ := h; exact h.bx hp
theorem PqX.orng (h : PqX Pd w X g gr buy W) (hp : opX b x ∈ X) : W.rangeAt b 1 (EO.cells x.o) := by obtain ⟨_, _, _, h⟩ := h; exact h.orng hp
end
theorem opX_in (b : Nat) (x : OpS) : opX b x ∈ [opX b x] := List.mem_cons_self ..
set_option maxRecDepth 100000 in
set_option maxHeartbeats 2000000 in
theorem plays6_out {Pd : PdT} {zs : Array Value} (K : SideK Pd zs) (buy : Bool) (A : Option Addr) (n c : Nat) (w : World) (hn : 300 < n) (hm : n ≤ 9223372036854775807) :
    Calls Try.prog 3 #[.bool buy, .slice A n c] w fun e w' => e = .returned (.bool true) ∧ Below w.heap.size w w' := by
  have KN := Lib.hid (fun W => known6_any K W)
  have NW := Lib.hid (K.new w buy)
  have hd100 : decide (300 < (n : Int)) = true := decide_eq_true (by omega)
  clear K
  go_enter Try.func3, Try.ntmps3
  go_wp2_with fail
  refine NW.out.mono ?_; rintro e w1 ⟨g, F, rfl, hp, q1, hF⟩
  have Q1 := Lib.hid (q1.trans ((below_new w1 (.cells #[.bool buy, .slice none 0 0] 28)).mono q1.size))
  clear q1 hp hF
  go_wp2_with fail
  refine (KN.out _).mono ?_; rintro e w2 ⟨rfl, q⟩
  have Q := Lib.hid (Q1.out.trans (q.mono Q1.out.size))
  clear q
  go_wp2_with fail
  go_ret
  exact ⟨rfl, Q.out⟩
set_option maxRecDepth 100000 in
set_option maxHeartbeats 16000000 in
theorem plays6_in {Pd : PdT} {zs : Array Value} (K : SideK Pd zs) (buy : Bool) (A : Option Addr) (n c : Nat) (l : List OpS) (w : World) (hr : EOp.Rd w A n l) (hok : ∀ x, x ∈ l → x.ok) (hn : n ≤ 300) :
    Calls Try.prog 3 #[.bool buy, .slice A n c] w fun e w' => e = .returned (.bool true) ∧ Below w.heap.size w w' := by
  have KN := Lib.hid (fun W => known6_any K W)
  have NW := Lib.hid (K.new w buy)
  have KH := Lib.hid K
  have hd100 : decide (300 < (n : Int)) = false := decide_eq_false (by omega)
  have HR := Lib.hid hr
  have HOK := Lib.hid hok
  have Z := zero_or
  have ZO := zero_op6
  clear K hr hok
  go_enter Try.func3, Try.ntmps3
  go_wp2_with fail
  refine NW.out.mono ?_; rintro e w1 ⟨g0, F, rfl, hp, q1, hF⟩
  have P0 : Hid (PqE Pd w [] (w1.alloc (.cells #[.bool buy, .slice none 0 0] 28)) g0 w1.heap.size buy [] [] 0) := Lib.hid (by
    have q := below_new w1 (.cells #[.bool buy, .slice none 0 0] 28)
    refine ⟨F, .slice none 0 0, KH.out.keep (S := fun _ => False) hp (Fr.below q) (fun _ _ h => h), ⟨[], ⟨heap_alloc_new w1 _, gown_nil _ _, q1.size, by decide, fun x hx => by cases hx⟩, Ms.nil⟩, fun k hk => ⟨?_, fun e => by cases e⟩, hF, q1.trans (q.mono q1.size), fun p hp => by cases hp⟩
    have := KH.out.lt hp k hk
    omega)
  clear q1 hp hF NW
  go_wp2_with fail
  refine wp_loop_ghost_k (fun m a' wr => ∃ (k g : Nat) (os : List Or) (t : Nat), m = n - k ∧ k ≤ n ∧ PqE Pd w [] wr g w1.heap.size buy os os t ∧ t ≤ k ∧ ∃ u : Nat → Value, a' = { tmps := #[.bool buy, .slice A n c, undef, undef, .bool false, .pointer (some ⟨g, 0, none⟩), .pointer (some ⟨w1.heap.size, 0, none⟩), u 7, u 8, u 9, u 10, u 11, u 12, u 13, u 14, u 15, u 16, u 17, u 18, u 19, u 20, u 21, u 22, u 23, u 24, u 25, u 26, .bool buy, .pointer (some ⟨g0, 0, none⟩), .bool buy, .agg #[.bool buy, .slice none 0 0], .pointer (some ⟨w1.heap.size, 0, none⟩), .pointer (some ⟨g0, 0, none⟩), .bool false, .bool false, .slice A n c, .int .i64 n, .bool false, .bool false, undef, undef, undef, undef, undef, .slice A n c, .int .i64 n, .int .i64 k, u 47, u 48, u 49, u 50, u 51, u 52, u 53, u 54, u 55, u 56, u 57, u 58, u 59, u 60, u 61, u 62, u 63, u 64, u 65, u 66, u 67, u 68, u 69, u 70, u 71, u 72, u 73, u 74, u 75, u 76, u 77, u 78, u 79, u 80, u 81, u 82, u 83, u 84, u 85, u 86, u 87, u 88, u 89, u 90, u 91, u 92, u 93, u 94, u 95, u 96, u 97, u 98, u 99, u 100, u 101, u 102, u 103, u 104, u 105, u 106, u 107, u 108, u 109, u 110, u 111, u 112, u 113, u 114, u 115, u 116, u 117, u 118, u 119, u 120, u 121, u 122, u 123, u 124, u 125, u 126, u 127, u 128, u 129, u 130, u 131, u 132, u 133, u 134, u 135, u 136, u 137, u 138, u 139, u 140, u 141, u 142, u 143, u 144, u 145, u 146, u 147, u 148, u 149, u 150, u 151, u 152, u 153, u 154, u 155, u 156, u 157, u 158, u 159, u 160, u 161, u 162, u 163, u 164, u 165, u 166, u 167, u 168, u 169, u 170, u 171, u 172, u 173, u 174, u 175, u 176, u 177, u 178, u 179, u 180, u 181, u 182, u 183, u 184, u 185, u 186, u 187, u 188, u 189, u 190, u 191, u 192, u 193, u 194, u 195, u 196, u 197, u 198, u 199, u 200, u 201, u 202, u 203, u 204, u 205, u 206, u 207, u 208, u 209, u 210, u 211, u 212, u 213, u 214, u 215, u 216, u 217, u 218, u 219, u 220, u 221, u 222, u 223, u 224, u 225, u 226, u 227, u 228, u 229, u 230, u 231, u 232, u 233, u 234, u 235, u 236, u 237, u 238, u 239, u 240, u 241, u 242, u 243, u 244, u 245, u 246, u 247, u 248, undef], defers := [] }) n ?atStart ?round
  case atStart => exact ⟨0, g0, [], 0, rfl, Nat.zero_le _, P0.out, Nat.le_refl _, intro_v rfl⟩
  case round =>
    rintro m a0 wr ⟨k, g, os, t, hm, hk, hpq, ht, u, rfl⟩ J KK hJ hKK
    have PL0 := Lib.hid hpq
    have HJ := Lib.hid hJ
    have HM := Lib.hid hm
    have HKK := Lib.hid hKK
    clear hpq hJ hm hKK P0
    by_cases hlt : k < n
    case neg =>
      obtain rfl : k = n := by omega
      have hd : decide ((k : Int) < k) = false := decide_eq_false (by omega)
      go_wp2_with fail
      refine (KN.out _).mono ?_; rintro e w2 ⟨rfl, q⟩
      have BF := Lib.hid (PL0.out.bl.trans (q.mono PL0.out.bl.size))
      clear q
      go_wp2_with fail
      go_ret
      exact ⟨rfl, BF.out⟩
    case pos =>
      have hd : decide ((k : Int) < n) = true := decide_eq_true (by omega)
      have hki : (k : Int) < (n : Int) := by omega
      obtain ⟨x, hx⟩ : ∃ x, l[k]? = some x := ⟨l[k]'(by have := HR.out.1; omega), List.getElem?_eq_getElem _⟩
      obtain ⟨b, o, rfl, hrg⟩ := grd_rng HR.out hx
      have OKX := Lib.hid (HOK.out x (List.mem_of_getElem? hx))
      have RG : Hid (wr.rangeAt b (o + k * 7) (EOp.cells x)) := Lib.hid (rng_below hrg PL0.out.bl (Nat.le_refl _))
      obtain ⟨V, hV, bV, yV, zV, sV⟩ := put_op wr x
      have HV := Lib.hid hV
      have ZV := Lib.hid zV
      have PV : Hid (PqE Pd w [opX wr.heap.size x] V g w1.heap.size buy os os t) := Lib.hid (PL0.out.push KH.out bV yV (Nat.le_refl _))
      clear hx hrg hV bV yV zV sV
      apply wp_seq_k; intro K1 h1; have H1 := Lib.hid h1; clear h1
      go_wp2_with fail
      refine H1.out _ _ ?_
      clear H1
      apply wp_seq_k; intro K2 h2; have H2 := Lib.hid h2; clear h2
      go_wp2_with fail
      refine H2.out _ _ ?_
      clear H2
      apply wp_seq_k; intro K3 h3; have H3 := Lib.hid h3; clear h3
      refine wp_block ?_
      apply wp_seq_k; intro K4 h4; have H4 := Lib.hid h4; clear h4
      go_wp2_with fail
      refine H4.out _ _ ?_
      clear H4
      apply wp_seq_k; intro K5 h5; have H5 := Lib.hid h5; clear h5
      go_wp2_with (first | ((with_reducible refine gwl_load TOp b (o + k * 7) RG.out ?_ ?_ ?_); rfl; rfl) | (refine gwl_store TOp x wr.heap.size ZV.out rfl rfl ?_; rw [HV.out]))
      refine H5.out _ _ ?_
      clear H5
      apply wp_seq_k; intro K6 h6; have H6 := Lib.hid h6; clear h6
      obtain ⟨mv, hmv⟩ : ∃ mv, mayO x.o = mv := ⟨_, rfl⟩
      have HMV := Lib.hid hmv
      have hq : (mv == mv) = true := by simp
      clear hmv
      have MY1 : Hid (∀ W, Calls Try.prog 10 #[.agg (EO.cells x.o).toArray] W fun e w' => e = .returned (.bool mv) ∧ Below W.heap.size W w') := Lib.hid fun W => by have := KH.out.may (w := W) OKX.out.o; rw [HMV.out] at this; exact this
      have MY2 : Hid (∀ W, Calls Try.prog 11 #[.agg (EO.cells x.o).toArray] W fun e w' => e = .returned (.bool mv) ∧ Below W.heap.size W w') := Lib.hid fun W => by have := rmay_o x.o W OKX.out.o; rw [HMV.out] at this; exact this
      go_wp2_with fail
      refine wp_region_held_drew (S := fun U => PqE Pd w [opX wr.heap.size x] U g w1.heap.size buy os os t) (by kernel_rfl) (PV.out.drew KH.out) (fun hH => ?_)
      refine wpAnyH_take (i := 0) (v := .pointer (some ⟨wr.heap.size, 1, none⟩)) rfl (by kernel_rfl) (by kernel_rfl) (by kernel_rfl) (fun _ _ _ h => h) (.inl ⟨by rfl, ?_⟩) (by assumption) ?_
      · intro W hW; go_simp
      try simp only [List.getElem_toArray, List.getElem_cons_zero, Act.put, List.setIfInBounds_toArray, List.set_cons_zero, List.set_cons_succ]
      refine wpAnyH_take (i := 1) (v := .agg (EO.cells x.o).toArray) rfl (by kernel_rfl) (by kernel_rfl) (by kernel_rfl) (fun _ _ _ h => h) (gyields_load TO (by rfl) (.tmp 53) rfl wr.heap.size 1 rfl (fun U hU => hU.orng (opX_in _ _))) (by assumption) ?_
      try simp only [List.getElem_toArray, List.getElem_cons_zero, List.getElem_cons_succ, Act.put, List.setIfInBounds_toArray, List.set_cons_zero, List.set_cons_succ]
      refine wpAnyH_take (i := 3) (v := .pointer (some ⟨wr.heap.size, 1, none⟩)) rfl (by kernel_rfl) (by kernel_rfl) (by kernel_rfl) (fun _ _ _ h => h) (.inl ⟨by rfl, ?_⟩) (by assumption) ?_
      · intro W hW; go_simp
      try simp only [List.getElem_toArray, List.getElem_cons_zero, List.getElem_cons_succ, Act.put, List.setIfInBounds_toArray, List.set_cons_zero, List.set_cons_succ]
      refine wpAnyH_take (i := 4) (v := .agg (EO.cells x.o).toArray) rfl (by kernel_rfl) (by kernel_rfl) (by kernel_rfl) (fun _ _ _ h => h) (gyields_load TO (by rfl) (.tmp 56) rfl wr.heap.size 1 rfl (fun U hU => hU.orng (opX_in _ _))) (by assumption) ?_
      try simp only [List.getElem_toArray, List.getElem_cons_zero, List.getElem_cons_succ, Act.put, List.setIfInBounds_toArray, List.set_cons_zero, List.set_cons_succ]
      refine wpAnyH_ready (rs := [2]) (by decide +kernel) (by simp) (AllReadyH.cons rfl (fun KQ hK => ?_) AllReadyH.nil)
      go_simp
      refine (hH.nb KH.out (MY1.out _)).mono ?_; rintro e0 W1 ⟨rfl, p1⟩
      have hH := p1
      refine hK.out _ _ hH (fun _ => ?_)
      clear hK p1
      try simp only [List.setIfInBounds_toArray, List.set_cons_zero, List.set_cons_succ]
      refine wpAnyH_ready (rs := [5]) (by decide +kernel) (by simp) (AllReadyH.cons rfl (fun KQ hK => ?_) AllReadyH.nil)
      go_simp
      refine (hH.nb KH.out (MY2.out _)).mono ?_; rintro e0 W1 ⟨rfl, p1⟩
      have hH := p1
      refine hK.out _ _ hH (fun _ => ?_)
      clear hK p1
      try simp only [List.setIfInBounds_toArray, List.set_cons_zero, List.set_cons_succ]
      refine wpAnyH_take (i := 6) (v := .bool true) rfl (by kernel_rfl) (by kernel_rfl) (by kernel_rfl) (fun _ _ _ h => h) (.inl ⟨by rfl, ?_⟩) (by assumption) ?_
      · intro W hW; go_simp
      try simp only [List.getElem_toArray, List.getElem_cons_zero, List.getElem_cons_succ, Act.put, List.setIfInBounds_toArray, List.set_cons_zero, List.set_cons_succ]
      refine wpAnyH_take (i := 7) (v := .bool true) rfl (by kernel_rfl) (by kernel_rfl) (by kernel_rfl) (fun _ _ _ h => h) (.inl ⟨by rfl, ?_⟩) (by assumption) ?_
      · intro W hW; go_simp
      try simp only [List.getElem_toArray, List.getElem_cons_zero, List.getElem_cons_succ, Act.put, List.setIfInBounds_toArray, List.set_cons_zero, List.set_cons_succ]
      refine wpAnyH_done (by decide +kernel) ?_ _
      have PL := Lib.hid hH
      clear hH
      refine H6.out _ _ ?_
      clear H6 PV
      refine wp_midv (fun a' wr' => ∃ (g' : Nat) (os' : List Or) (t' : Nat), PqE Pd w [] wr' g' w1.heap.size buy os' os' t' ∧ t' ≤ k + 1 ∧ ∃ u : Nat → Value, a' = { tmps := #[.bool buy, .slice (some ⟨b, o, none⟩) n c, undef, undef, .bool false, .pointer (some ⟨g', 0, none⟩), .pointer (some ⟨w1.heap.size, 0, none⟩), u 7, u 8, .bool true, u 10, u 11, u 12, u 13, u 14, u 15, u 16, u 17, u 18, u 19, u 20, u 21, u 22, u 23, u 24, u 25, u 26, .bool buy, .pointer (some ⟨g0, 0, none⟩), .bool buy, .agg #[.bool buy, .slice none 0 0], .pointer (some ⟨w1.heap.size, 0, none⟩), .pointer (some ⟨g0, 0, none⟩), .bool false, .bool false, .slice (some ⟨b, o, none⟩) n c, .int .i64 n, .bool false, .bool false, undef, undef, undef, undef, undef, .slice (some ⟨b, o, none⟩) n c, .int .i64 n, .int .i64 k, u 47, u 48, u 49, u 50, u 51, u 52, u 53, u 54, u 55, u 56, u 57, u 58, u 59, u 60, u 61, u 62, u 63, u 64, u 65, u 66, u 67, u 68, u 69, u 70, u 71, u 72, u 73, u 74, u 75, u 76, u 77, u 78, u 79, u 80, u 81, u 82, u 83, u 84, u 85, u 86, u 87, u 88, u 89, u 90, u 91, u 92, u 93, u 94, u 95, u 96, u 97, u 98, u 99, u 100, u 101, u 102, u 103, u 104, u 105, u 106, u 107, u 108, u 109, u 110, u 111, u 112, u 113, u 114, u 115, u 116, u 117, u 118, u 119, u 120, u 121, u 122, u 123, u 124, u 125, u 126, u 127, u 128, u 129, u 130, u 131, u 132, u 133, u 134, u 135, u 136, u 137, u 138, u 139, u 140, u 141, u 142, u 143, u 144, u 145, u 146, u 147, u 148, u 149, u 150, u 151, u 152, u 153, u 154, u 155, u 156, u 157, u 158, u 159, u 160, u 161, u 162, u 163, u 164, u 165, u 166, u 167, u 168, u 169, u 170, u 171, u 172, u 173, u 174, u 175, u 176, u 177, u 178, u 179, u 180, u 181, u 182, u 183, u 184, u 185, u 186, u 187, u 188, u 189, u 190, u 191, u 192, u 193, u 194, u 195, u 196, u 197, u 198, u 199, u 200, u 201, u 202, u 203, u 204, u 205, u 206, u 207, u 208, u 209, u 210, u 211, u 212, u 213, u 214, u 215, u 216, u 217, u 218, u 219, u 220, u 221, u 222, u 223, u 224, u 225, u 226, u 227, u 228, u 229, u 230, u 231, u 232, u 233, u 234, u 235, u 236, u 237, u 238, u 239, u 240, u 241, u 242, u 243, u 244, u 245, u 246, u 247, u 248, undef], defers := [] }) ?swX ?tlX
      case swX =>
        intro KM hKM
        have kz : W1.cell? ⟨wr.heap.size, 0, none⟩ = some (.int .i64 x.kd) := gbx_cell (PL.out.bx (b := wr.heap.size) (x := x) (opX_in _ _)) 0
        apply wp_seq_k; intro K9 h9; have H9 := Lib.hid h9; clear h9
        go_wp2_with fail
        refine H9.out _ _ ?_
        clear H9
        refine wp_block ?_
        by_cases hk1 : x.kd = 1
        · have e1 : (x.kd == 1) = true := by rw [beq_iff_eq]; omega
          obtain ⟨ev, hev⟩ : ∃ ev, addA buy os x.o = ev := ⟨_, rfl⟩
          have HEV := Lib.hid hev
          have hq : (ev == ev) = true := by simp
          clear hev
          go_wp2_with fail
          refine wp_region_held_drew (S := PqX Pd w [opX wr.heap.size x] g w1.heap.size buy) (by kernel_rfl) (PL.out.drew KH.out).xx (fun hH => ?_)
          have PLd := PL.out.drew KH.out
          refine wpAnyH_take (i := 0) (v := .bool true) rfl (by kernel_rfl) (by kernel_rfl) (by kernel_rfl) (fun _ _ _ h => h) (.inl ⟨by rfl, ?_⟩) (by assumption) ?_
          · intro W hW; go_simp
          try simp only [List.getElem_toArray, List.getElem_cons_zero, Act.put, List.setIfInBounds_toArray, List.set_cons_zero, List.set_cons_succ]
          refine wpAnyH_take (i := 1) (v := .bool true) rfl (by kernel_rfl) (by kernel_rfl) (by kernel_rfl) (fun _ _ _ h => h) (.inl ⟨by rfl, ?_⟩) (by assumption) ?_
          · intro W hW; go_simp
          try simp only [List.getElem_toArray, List.getElem_cons_zero, List.getElem_cons_succ, Act.put, List.setIfInBounds_toArray, List.set_cons_zero, List.set_cons_succ]
          refine wpAnyH_take (i := 2) (v := .pointer (some ⟨g, 0, none⟩)) rfl (by kernel_rfl) (by kernel_rfl) (by kernel_rfl) (fun _ _ _ h => h) (.inl ⟨by rfl, ?_⟩) (by assumption) ?_
          · intro W hW; go_simp
          try simp only [List.getElem_toArray, List.getElem_cons_zero, List.getElem_cons_succ, Act.put, List.setIfInBounds_toArray, List.set_cons_zero, List.set_cons_succ]
          refine wpAnyH_take (i := 3) (v := .pointer (some ⟨wr.heap.size, 1, none⟩)) rfl (by kernel_rfl) (by kernel_rfl) (by kernel_rfl) (fun _ _ _ h => h) (.inl ⟨by rfl, ?_⟩) (by assumption) ?_
          · intro W hW; go_simp
          try simp only [List.getElem_toArray, List.getElem_cons_zero, List.getElem_cons_succ, Act.put, List.setIfInBounds_toArray, List.set_cons_zero, List.set_cons_succ]
          refine wpAnyH_take (i := 4) (v := .agg (EO.cells x.o).toArray) rfl (by kernel_rfl) (by kernel_rfl) (by kernel_rfl) (fun _ _ _ h => h) (gyields_load TO (by rfl) (.tmp 88) rfl wr.heap.size 1 rfl (fun U hU => hU.orng (opX_in _ _))) (by assumption) ?_
          try simp only [List.getElem_toArray, List.getElem_cons_zero, List.getElem_cons_succ, Act.put, List.setIfInBounds_toArray, List.set_cons_zero, List.set_cons_succ]
          refine wpAnyH_take (i := 6) (v := .pointer (some ⟨w1.heap.size, 0, none⟩)) rfl (by kernel_rfl) (by kernel_rfl) (by kernel_rfl) (fun _ _ _ h => h) (.inl ⟨by rfl, ?_⟩) (by assumption) ?_
          · intro W hW; go_simp
          try simp only [List.getElem_toArray, List.getElem_cons_zero, List.getElem_cons_succ, Act.put, List.setIfInBounds_toArray, List.set_cons_zero, List.set_cons_succ]
          refine wpAnyH_take (i := 7) (v := .pointer (some ⟨wr.heap.size, 1, none⟩)) rfl (by kernel_rfl) (by kernel_rfl) (by kernel_rfl) (fun _ _ _ h => h) (.inl ⟨by rfl, ?_⟩) (by assumption) ?_
          · intro W hW; go_simp
          try simp only [List.getElem_toArray, List.getElem_cons_zero, List.getElem_cons_succ, Act.put, List.setIfInBounds_toArray, List.set_cons_zero, List.set_cons_succ]
          refine wpAnyH_take (i := 8) (v := .agg (EO.cells x.o).toArray) rfl (by kernel_rfl) (by kernel_rfl) (by kernel_rfl) (fun _ _ _ h => h) (gyields_load TO (by rfl) (.tmp 92) rfl wr.heap.size 1 rfl (fun U hU => hU.orng (opX_in _ _))) (by assumption) ?_
          try simp only [List.getElem_toArray, List.getElem_cons_zero, List.getElem_cons_succ, Act.put, List.setIfInBounds_toArray, List.set_cons_zero, List.set_cons_succ]
          refine wpAnyH_ready (rs := [5]) (by decide +kernel) (by simp) (AllReadyH.cons rfl (fun KQ hK => ?_) AllReadyH.nil)
          go_simp
          refine (PLd.c KH.out (os' := addO buy os x.o) (t' := t + 1) (fun F h => (by have := KH.out.add h OKX.out.o (by omega); rw [HEV.out] at this; exact this))).mono ?_; rintro e0 W1 ⟨rfl, p1⟩
          have hH := p1.xx
          refine hK.out _ _ hH (fun _ => ?_)
          clear hK 
          try simp only [List.setIfInBounds_toArray, List.set_cons_zero, List.set_cons_succ]
          refine wpAnyH_ready (rs := [9]) (by decide +kernel) (by simp) (AllReadyH.cons rfl (fun KQ hK => ?_) AllReadyH.nil)
          go_simp
          refine (p1.r KH.out (ps' := addO buy os x.o) (fun v h => (by have := padd h OKX.out.o; rw [HEV.out] at this; exact this))).mono ?_; rintro e0 W1 ⟨rfl, p2⟩
          have hH := p2.xx
          refine hK.out _ _ hH (fun _ => ?_)
          clear hK 
          try simp only [List.setIfInBounds_toArray, List.set_cons_zero, List.set_cons_succ]
          refine wpAnyH_take (i := 10) (v := .bool true) rfl (by kernel_rfl) (by kernel_rfl) (by kernel_rfl) (fun _ _ _ h => h) (.inl ⟨by rfl, ?_⟩) (by assumption) ?_
          · intro W hW; go_simp
          try simp only [List.getElem_toArray, List.getElem_cons_zero, List.getElem_cons_succ, Act.put, List.setIfInBounds_toArray, List.set_cons_zero, List.set_cons_succ]
          refine wpAnyH_take (i := 11) (v := .bool true) rfl (by kernel_rfl) (by kernel_rfl) (by kernel_rfl) (fun _ _ _ h => h) (.inl ⟨by rfl, ?_⟩) (by assumption) ?_
          · intro W hW; go_simp
          try simp only [List.getElem_toArray, List.getElem_cons_zero, List.getElem_cons_succ, Act.put, List.setIfInBounds_toArray, List.set_cons_zero, List.set_cons_succ]
          refine wpAnyH_take (i := 12) (v := .bool true) rfl (by kernel_rfl) (by kernel_rfl) (by kernel_rfl) (fun _ _ _ h => h) (.inl ⟨by rfl, ?_⟩) (by assumption) ?_
          · intro W hW; go_simp
          try simp only [List.getElem_toArray, List.getElem_cons_zero, List.getElem_cons_succ, Act.put, List.setIfInBounds_toArray, List.set_cons_zero, List.set_cons_succ]
          refine wpAnyH_done (by decide +kernel) ?_ _
          have PLf := Lib.hid p2
          clear hH
          go_wp2_with fail
          exact ⟨g, _, t + 1, PLf.out.less (X' := []) (fun p hp => by cases hp), by omega, intro_v rfl⟩
        by_cases hk2 : x.kd = 2
        · have e1 : (x.kd == 1) = false := by rw [beq_eq_false_iff_ne]; omega
          have e2 : (x.kd == 2) = true := by rw [beq_iff_eq]; omega
          have k0 : W1.cell? ⟨wr.heap.size, 6, none⟩ = some (.int .i64 x.n) := gbx_cell (PL.out.bx (b := wr.heap.size) (x := x) (opX_in _ _)) 6
          obtain ⟨y, hy⟩ : ∃ y, fillX os x.n = y := ⟨_, rfl⟩
          obtain ⟨ev, hev⟩ : ∃ ev, fillA os x.n = ev := ⟨_, rfl⟩
          have HY := Lib.hid hy
          have HEV := Lib.hid hev
          have hq : (ev == ev) = true := by simp
          have YOK : Hid y.ok := Lib.hid (by rw [← hy]; exact fillX_ok (PL.out.inv KH.out))
          clear hy hev
          go_wp2_with fail
          refine (PL.out.c KH.out (os' := fillO os x.n) (t' := t) (fun F h => (by have := KH.out.fill h OKX.out.n; rw [HY.out, HEV.out] at this; exact this))).mono ?_; rintro e1 U1 ⟨rfl, p1⟩
          obtain ⟨V1, hV1, bV1, yV1, zV1, sV1⟩ := put_or y (Below.refl U1.heap.size U1)
          have HV1 := Lib.hid hV1
          have ZV1 := Lib.hid zV1
          have P1 : Hid (PqE Pd w [orX U1.heap.size y, opX wr.heap.size x] V1 g w1.heap.size buy _ _ _) := Lib.hid (p1.push KH.out bV1 yV1 (Nat.le_refl _))
          have k1 : V1.cell? ⟨wr.heap.size, 6, none⟩ = some (.int .i64 x.n) := gbx_cell (P1.out.bx (b := wr.heap.size) (x := x) (List.mem_cons_of_mem _ (opX_in _ _))) 6
          clear p1 hV1 bV1 yV1 zV1 sV1
          go_wp2_with (refine gwl_store TO y U1.heap.size ZV1.out rfl rfl ?_; rw [HV1.out])
          refine (P1.out.r KH.out (ps' := fillO os x.n) (fun v h => (by have := pfill h OKX.out.n; rw [HY.out, HEV.out] at this; exact this))).mono ?_; rintro e2 U2 ⟨rfl, p2⟩
          obtain ⟨V2, hV2, bV2, yV2, zV2, sV2⟩ := put_or y (Below.refl U2.heap.size U2)
          have HV2 := Lib.hid hV2
          have ZV2 := Lib.hid zV2
          have P2 : Hid (PqE Pd w [orX U2.heap.size y, orX U1.heap.size y, opX wr.heap.size x] V2 g w1.heap.size buy _ _ _) := Lib.hid (p2.push KH.out bV2 yV2 (Nat.le_refl _))
          have RA := Lib.hid (gbx_rng (P2.out.obx (b := U1.heap.size) (y := y) (List.mem_cons_of_mem _ (List.mem_cons_self ..))))
          have RB := Lib.hid (gbx_rng (P2.out.obx (b := U2.heap.size) (y := y) (List.mem_cons_self ..)))
          have PLf := Lib.hid (P2.out.less (X' := []) (fun p hp => by cases hp))
          clear p2 hV2 bV2 yV2 zV2 sV2 P1 P2
          go_wp2_with (first | (refine gwl_store TO y U2.heap.size ZV2.out rfl rfl ?_; rw [HV2.out]) | ((with_reducible refine gwl_load (d := some 115) TO U1.heap.size 0 RA.out ?_ ?_ ?_); rfl; rfl; try simp only [Act.put, List.setIfInBounds_toArray, List.set_cons_zero, List.set_cons_succ]) | ((with_reducible refine gwl_load (d := some 116) TO U2.heap.size 0 RB.out ?_ ?_ ?_); rfl; rfl; try simp only [Act.put, List.setIfInBounds_toArray, List.set_cons_zero, List.set_cons_succ]) | ((with_reducible refine wl_eql_or0 YOK.out ?_ ?_ ?_ ?_); rfl; rfl; rfl))
          exact ⟨g, _, t, PLf.out, by omega, intro_v rfl⟩
        by_cases hk3 : x.kd = 3
        · have e1 : (x.kd == 1) = false := by rw [beq_eq_false_iff_ne]; omega
          have e2 : (x.kd == 2) = false := by rw [beq_eq_false_iff_ne]; omega
          have e3 : (x.kd == 3) = true := by rw [beq_iff_eq]; omega
          have k0 : W1.cell? ⟨wr.heap.size, 1, none⟩ = some (.int .u64 x.o.nu) := gbx_cell (PL.out.bx (b := wr.heap.size) (x := x) (opX_in _ _)) 1
          obtain ⟨y, hy⟩ : ∃ y, getX os x.o.nu = y := ⟨_, rfl⟩
          obtain ⟨ev, hev⟩ : ∃ ev, getA os x.o.nu = ev := ⟨_, rfl⟩
          have HY := Lib.hid hy
          have HEV := Lib.hid hev
          have hq : (ev == ev) = true := by simp
          have YOK : Hid y.ok := Lib.hid (by rw [← hy]; exact getX_ok (PL.out.inv KH.out))
          clear hy hev
          go_wp2_with fail
          refine (PL.out.c KH.out (os' := dropO os x.o.nu) (t' := t) (fun F h => (by have := KH.out.drop h OKX.out.o.nu; rw [HY.out, HEV.out] at this; exact this))).mono ?_; rintro e1 U1 ⟨rfl, p1⟩
          obtain ⟨V1, hV1, bV1, yV1, zV1, sV1⟩ := put_or y (Below.refl U1.heap.size U1)
          have HV1 := Lib.hid hV1
          have ZV1 := Lib.hid zV1
          have P1 : Hid (PqE Pd w [orX U1.heap.size y, opX wr.heap.size x] V1 g w1.heap.size buy _ _ _) := Lib.hid (p1.push KH.out bV1 yV1 (Nat.le_refl _))
          have k1 : V1.cell? ⟨wr.heap.size, 1, none⟩ = some (.int .u64 x.o.nu) := gbx_cell (P1.out.bx (b := wr.heap.size) (x := x) (List.mem_cons_of_mem _ (opX_in _ _))) 1
          clear p1 hV1 bV1 yV1 zV1 sV1
          go_wp2_with (refine gwl_store TO y U1.heap.size ZV1.out rfl rfl ?_; rw [HV1.out])
          refine (P1.out.r KH.out (ps' := dropO os x.o.nu) (fun v h => (by have := pdrop h OKX.out.o.nu; rw [HY.out, HEV.out] at this; exact this))).mono ?_; rintro e2 U2 ⟨rfl, p2⟩
          obtain ⟨V2, hV2, bV2, yV2, zV2, sV2⟩ := put_or y (Below.refl U2.heap.size U2)
          have HV2 := Lib.hid hV2
          have ZV2 := Lib.hid zV2
          have P2 : Hid (PqE Pd w [orX U2.heap.size y, orX U1.heap.size y, opX wr.heap.size x] V2 g w1.heap.size buy _ _ _) := Lib.hid (p2.push KH.out bV2 yV2 (Nat.le_refl _))
          have RA := Lib.hid (gbx_rng (P2.out.obx (b := U1.heap.size) (y := y) (List.mem_cons_of_mem _ (List.mem_cons_self ..))))
          have RB := Lib.hid (gbx_rng (P2.out.obx (b := U2.heap.size) (y := y) (List.mem_cons_self ..)))
          have PLf := Lib.hid (P2.out.less (X' := []) (fun p hp => by cases hp))
          clear p2 hV2 bV2 yV2 zV2 sV2 P1 P2
          go_wp2_with (first | (refine gwl_store TO y U2.heap.size ZV2.out rfl rfl ?_; rw [HV2.out]) | ((with_reducible refine gwl_load (d := some 144) TO U1.heap.size 0 RA.out ?_ ?_ ?_); rfl; rfl; try simp only [Act.put, List.setIfInBounds_toArray, List.set_cons_zero, List.set_cons_succ]) | ((with_reducible refine gwl_load (d := some 145) TO U2.heap.size 0 RB.out ?_ ?_ ?_); rfl; rfl; try simp only [Act.put, List.setIfInBounds_toArray, List.set_cons_zero, List.set_cons_succ]) | ((with_reducible refine wl_eql_or0 YOK.out ?_ ?_ ?_ ?_); rfl; rfl; rfl))
          exact ⟨g, _, t, PLf.out, by omega, intro_v rfl⟩
        by_cases hk4 : x.kd = 4
        · have e1 : (x.kd == 1) = false := by rw [beq_eq_false_iff_ne]; omega
          have e2 : (x.kd == 2) = false := by rw [beq_eq_false_iff_ne]; omega
          have e3 : (x.kd == 3) = false := by rw [beq_eq_false_iff_ne]; omega
          have e4 : (x.kd == 4) = true := by rw [beq_iff_eq]; omega
          obtain ⟨ev, hev⟩ : ∃ ev, lowA os x.o.nu x.n = ev := ⟨_, rfl⟩
          have HEV := Lib.hid hev
          have hq : (ev == ev) = true := by simp
          clear hev
          go_wp2_with fail
          refine wp_region_held_drew (S := PqX Pd w [opX wr.heap.size x] g w1.heap.size buy) (by kernel_rfl) (PL.out.drew KH.out).xx (fun hH => ?_)
          have PLd := PL.out.drew KH.out
          refine wpAnyH_take (i := 0) (v := .bool true) rfl (by kernel_rfl) (by kernel_rfl) (by kernel_rfl) (fun _ _ _ h => h) (.inl ⟨by rfl, ?_⟩) (by assumption) ?_
          · intro W hW; go_simp
          try simp only [List.getElem_toArray, List.getElem_cons_zero, Act.put, List.setIfInBounds_toArray, List.set_cons_zero, List.set_cons_succ]
          refine wpAnyH_take (i := 1) (v := .bool true) rfl (by kernel_rfl) (by kernel_rfl) (by kernel_rfl) (fun _ _ _ h => h) (.inl ⟨by rfl, ?_⟩) (by assumption) ?_
          · intro W hW; go_simp
          try simp only [List.getElem_toArray, List.getElem_cons_zero, List.getElem_cons_succ, Act.put, List.setIfInBounds_toArray, List.set_cons_zero, List.set_cons_succ]
          refine wpAnyH_take (i := 2) (v := .pointer (some ⟨g, 0, none⟩)) rfl (by kernel_rfl) (by kernel_rfl) (by kernel_rfl) (fun _ _ _ h => h) (.inl ⟨by rfl, ?_⟩) (by assumption) ?_
          · intro W hW; go_simp
          try simp only [List.getElem_toArray, List.getElem_cons_zero, List.getElem_cons_succ, Act.put, List.setIfInBounds_toArray, List.set_cons_zero, List.set_cons_succ]
          refine wpAnyH_take (i := 3) (v := .pointer (some ⟨wr.heap.size, 1, none⟩)) rfl (by kernel_rfl) (by kernel_rfl) (by kernel_rfl) (fun _ _ _ h => h) (.inl ⟨by rfl, ?_⟩) (by assumption) ?_
          · intro W hW; go_simp
          try simp only [List.getElem_toArray, List.getElem_cons_zero, List.getElem_cons_succ, Act.put, List.setIfInBounds_toArray, List.set_cons_zero, List.set_cons_succ]
          refine wpAnyH_take (i := 4) (v := .pointer (some ⟨wr.heap.size, 1, none⟩)) rfl (by kernel_rfl) (by kernel_rfl) (by kernel_rfl) (fun _ _ _ h => h) (.inl ⟨by rfl, ?_⟩) (by assumption) ?_
          · intro W hW; go_simp
          try simp only [List.getElem_toArray, List.getElem_cons_zero, List.getElem_cons_succ, Act.put, List.setIfInBounds_toArray, List.set_cons_zero, List.set_cons_succ]
          refine wpAnyH_take (i := 5) (v := .int .u64 x.o.nu) rfl (by kernel_rfl) (by kernel_rfl) (by kernel_rfl) (fun _ _ _ h => h) (.inl ⟨by rfl, ?_⟩) (by assumption) ?_
          · intro W hW; have kk : W.cell? ⟨wr.heap.size, 1, none⟩ = some (.int .u64 x.o.nu) := gbx_cell (hW.bx (opX_in _ _)) 1; go_simp
          try simp only [List.getElem_toArray, List.getElem_cons_zero, List.getElem_cons_succ, Act.put, List.setIfInBounds_toArray, List.set_cons_zero, List.set_cons_succ]
          refine wpAnyH_take (i := 6) (v := .pointer (some ⟨wr.heap.size, 6, none⟩)) rfl (by kernel_rfl) (by kernel_rfl) (by kernel_rfl) (fun _ _ _ h => h) (.inl ⟨by rfl, ?_⟩) (by assumption) ?_
          · intro W hW; go_simp
          try simp only [List.getElem_toArray, List.getElem_cons_zero, List.getElem_cons_succ, Act.put, List.setIfInBounds_toArray, List.set_cons_zero, List.set_cons_succ]
          refine wpAnyH_take (i := 7) (v := .int .i64 x.n) rfl (by kernel_rfl) (by kernel_rfl) (by kernel_rfl) (fun _ _ _ h => h) (.inl ⟨by rfl, ?_⟩) (by assumption) ?_
          · intro W hW; have kk : W.cell? ⟨wr.heap.size, 6, none⟩ = some (.int .i64 x.n) := gbx_cell (hW.bx (opX_in _ _)) 6; go_simp
          try simp only [List.getElem_toArray, List.getElem_cons_zero, List.getElem_cons_succ, Act.put, List.setIfInBounds_toArray, List.set_cons_zero, List.set_cons_succ]
          refine wpAnyH_take (i := 9) (v := .pointer (some ⟨w1.heap.size, 0, none⟩)) rfl (by kernel_rfl) (by kernel_rfl) (by kernel_rfl) (fun _ _ _ h => h) (.inl ⟨by rfl, ?_⟩) (by assumption) ?_
          · intro W hW; go_simp
          try simp only [List.getElem_toArray, List.getElem_cons_zero, List.getElem_cons_succ, Act.put, List.setIfInBounds_toArray, List.set_cons_zero, List.set_cons_succ]
          refine wpAnyH_take (i := 10) (v := .pointer (some ⟨wr.heap.size, 1, none⟩)) rfl (by kernel_rfl) (by kernel_rfl) (by kernel_rfl) (fun _ _ _ h => h) (.inl ⟨by rfl, ?_⟩) (by assumption) ?_
          · intro W hW; go_simp
          try simp only [List.getElem_toArray, List.getElem_cons_zero, List.getElem_cons_succ, Act.put, List.setIfInBounds_toArray, List.set_cons_zero, List.set_cons_succ]
          refine wpAnyH_take (i := 11) (v := .pointer (some ⟨wr.heap.size, 1, none⟩)) rfl (by kernel_rfl) (by kernel_rfl) (by kernel_rfl) (fun _ _ _ h => h) (.inl ⟨by rfl, ?_⟩) (by assumption) ?_
          · intro W hW; go_simp
          try simp only [List.getElem_toArray, List.getElem_cons_zero, List.getElem_cons_succ, Act.put, List.setIfInBounds_toArray, List.set_cons_zero, List.set_cons_succ]
          refine wpAnyH_take (i := 12) (v := .int .u64 x.o.nu) rfl (by kernel_rfl) (by kernel_rfl) (by kernel_rfl) (fun _ _ _ h => h) (.inl ⟨by rfl, ?_⟩) (by assumption) ?_
          · intro W hW; have kk : W.cell? ⟨wr.heap.size, 1, none⟩ = some (.int .u64 x.o.nu) := gbx_cell (hW.bx (opX_in _ _)) 1; go_simp
          try simp only [List.getElem_toArray, List.getElem_cons_zero, List.getElem_cons_succ, Act.put, List.setIfInBounds_toArray, List.set_cons_zero, List.set_cons_succ]
          refine wpAnyH_take (i := 13) (v := .pointer (some ⟨wr.heap.size, 6, none⟩)) rfl (by kernel_rfl) (by kernel_rfl) (by kernel_rfl) (fun _ _ _ h => h) (.inl ⟨by rfl, ?_⟩) (by assumption) ?_
          · intro W hW; go_simp
          try simp only [List.getElem_toArray, List.getElem_cons_zero, List.getElem_cons_succ, Act.put, List.setIfInBounds_toArray, List.set_cons_zero, List.set_cons_succ]
          refine wpAnyH_take (i := 14) (v := .int .i64 x.n) rfl (by kernel_rfl) (by kernel_rfl) (by kernel_rfl) (fun _ _ _ h => h) (.inl ⟨by rfl, ?_⟩) (by assumption) ?_
          · intro W hW; have kk : W.cell? ⟨wr.heap.size, 6, none⟩ = some (.int .i64 x.n) := gbx_cell (hW.bx (opX_in _ _)) 6; go_simp
          try simp only [List.getElem_toArray, List.getElem_cons_zero, List.getElem_cons_succ, Act.put, List.setIfInBounds_toArray, List.set_cons_zero, List.set_cons_succ]
          refine wpAnyH_ready (rs := [8]) (by decide +kernel) (by simp) (AllReadyH.cons rfl (fun KQ hK => ?_) AllReadyH.nil)
          go_simp
          refine (PLd.c KH.out (os' := lowO os x.o.nu x.n) (t' := t) (fun F h => (by have := KH.out.low h OKX.out.o.nu OKX.out.n; rw [HEV.out] at this; exact this))).mono ?_; rintro e0 W1 ⟨rfl, p1⟩
          have hH := p1.xx
          refine hK.out _ _ hH (fun _ => ?_)
          clear hK 
          try simp only [List.setIfInBounds_toArray, List.set_cons_zero, List.set_cons_succ]
          refine wpAnyH_ready (rs := [15]) (by decide +kernel) (by simp) (AllReadyH.cons rfl (fun KQ hK => ?_) AllReadyH.nil)
          go_simp
          refine (p1.r KH.out (ps' := lowO os x.o.nu x.n) (fun v h => (by have := plow h OKX.out.o.nu OKX.out.n; rw [HEV.out] at this; exact this))).mono ?_; rintro e0 W1 ⟨rfl, p2⟩
          have hH := p2.xx
          refine hK.out _ _ hH (fun _ => ?_)
          clear hK 
          try simp only [List.setIfInBounds_toArray, List.set_cons_zero, List.set_cons_succ]
          refine wpAnyH_take (i := 16) (v := .bool true) rfl (by kernel_rfl) (by kernel_rfl) (by kernel_rfl) (fun _ _ _ h => h) (.inl ⟨by rfl, ?_⟩) (by assumption) ?_
          · intro W hW; go_simp
          try simp only [List.getElem_toArray, List.getElem_cons_zero, List.getElem_cons_succ, Act.put, List.setIfInBounds_toArray, List.set_cons_zero, List.set_cons_succ]
          refine wpAnyH_take (i := 17) (v := .bool true) rfl (by kernel_rfl) (by kernel_rfl) (by kernel_rfl) (fun _ _ _ h => h) (.inl ⟨by rfl, ?_⟩) (by assumption) ?_
          · intro W hW; go_simp
          try simp only [List.getElem_toArray, List.getElem_cons_zero, List.getElem_cons_succ, Act.put, List.setIfInBounds_toArray, List.set_cons_zero, List.set_cons_succ]
          refine wpAnyH_take (i := 18) (v := .bool true) rfl (by kernel_rfl) (by kernel_rfl) (by kernel_rfl) (fun _ _ _ h => h) (.inl ⟨by rfl, ?_⟩) (by assumption) ?_
          · intro W hW; go_simp
          try simp only [List.getElem_toArray, List.getElem_cons_zero, List.getElem_cons_succ, Act.put, List.setIfInBounds_toArray, List.set_cons_zero, List.set_cons_succ]
          refine wpAnyH_done (by decide +kernel) ?_ _
          have PLf := Lib.hid p2
          clear hH
          go_wp2_with fail
          exact ⟨g, _, t, PLf.out.less (X' := []) (fun p hp => by cases hp), by omega, intro_v rfl⟩
        by_cases hk5 : x.kd = 5
        · have e1 : (x.kd == 1) = false := by rw [beq_eq_false_iff_ne]; omega
          have e2 : (x.kd == 2) = false := by rw [beq_eq_false_iff_ne]; omega
          have e3 : (x.kd == 3) = false := by rw [beq_eq_false_iff_ne]; omega
          have e4 : (x.kd == 4) = false := by rw [beq_eq_false_iff_ne]; omega
          have e5 : (x.kd == 5) = true := by rw [beq_iff_eq]; omega
          have k0 : W1.cell? ⟨wr.heap.size, 1, none⟩ = some (.int .u64 x.o.nu) := gbx_cell (PL.out.bx (b := wr.heap.size) (x := x) (opX_in _ _)) 1
          obtain ⟨y, hy⟩ : ∃ y, getX os x.o.nu = y := ⟨_, rfl⟩
          obtain ⟨ev, hev⟩ : ∃ ev, getA os x.o.nu = ev := ⟨_, rfl⟩
          have HY := Lib.hid hy
          have HEV := Lib.hid hev
          have hq : (ev == ev) = true := by simp
          have YOK : Hid y.ok := Lib.hid (by rw [← hy]; exact getX_ok (PL.out.inv KH.out))
          clear hy hev
          go_wp2_with fail
          refine (PL.out.cb KH.out (fun F h => (by have := KH.out.get h OKX.out.o.nu; rw [HY.out, HEV.out] at this; exact this))).mono ?_; rintro e1 U1 ⟨rfl, p1⟩
          obtain ⟨V1, hV1, bV1, yV1, zV1, sV1⟩ := put_or y (Below.refl U1.heap.size U1)
          have HV1 := Lib.hid hV1
          have ZV1 := Lib.hid zV1
          have P1 : Hid (PqE Pd w [orX U1.heap.size y, opX wr.heap.size x] V1 g w1.heap.size buy _ _ _) := Lib.hid (p1.push KH.out bV1 yV1 (Nat.le_refl _))
          have k1 : V1.cell? ⟨wr.heap.size, 1, none⟩ = some (.int .u64 x.o.nu) := gbx_cell (P1.out.bx (b := wr.heap.size) (x := x) (List.mem_cons_of_mem _ (opX_in _ _))) 1
          clear p1 hV1 bV1 yV1 zV1 sV1
          go_wp2_with (refine gwl_store TO y U1.heap.size ZV1.out rfl rfl ?_; rw [HV1.out])
          refine (P1.out.rb KH.out (fun v h => (by have := pget h OKX.out.o.nu; rw [HY.out, HEV.out] at this; exact this))).mono ?_; rintro e2 U2 ⟨rfl, p2⟩
          obtain ⟨V2, hV2, bV2, yV2, zV2, sV2⟩ := put_or y (Below.refl U2.heap.size U2)
          have HV2 := Lib.hid hV2
          have ZV2 := Lib.hid zV2
          have P2 : Hid (PqE Pd w [orX U2.heap.size y, orX U1.heap.size y, opX wr.heap.size x] V2 g w1.heap.size buy _ _ _) := Lib.hid (p2.push KH.out bV2 yV2 (Nat.le_refl _))
          have RA := Lib.hid (gbx_rng (P2.out.obx (b := U1.heap.size) (y := y) (List.mem_cons_of_mem _ (List.mem_cons_self ..))))
          have RB := Lib.hid (gbx_rng (P2.out.obx (b := U2.heap.size) (y := y) (List.mem_cons_self ..)))
          have PLf := Lib.hid (P2.out.less (X' := []) (fun p hp => by cases hp))
          clear p2 hV2 bV2 yV2 zV2 sV2 P1 P2
          go_wp2_with (first | (refine gwl_store TO y U2.heap.size ZV2.out rfl rfl ?_; rw [HV2.out]) | ((with_reducible refine gwl_load (d := some 193) TO U1.heap.size 0 RA.out ?_ ?_ ?_); rfl; rfl; try simp only [Act.put, List.setIfInBounds_toArray, List.set_cons_zero, List.set_cons_succ]) | ((with_reducible refine gwl_load (d := some 194) TO U2.heap.size 0 RB.out ?_ ?_ ?_); rfl; rfl; try simp only [Act.put, List.setIfInBounds_toArray, List.set_cons_zero, List.set_cons_succ]) | ((with_reducible refine wl_eql_or0 YOK.out ?_ ?_ ?_ ?_); rfl; rfl; rfl))
          exact ⟨g, _, t, PLf.out, by omega, intro_v rfl⟩
        by_cases hk6 : x.kd = 6
        · have e1 : (x.kd == 1) = false := by rw [beq_eq_false_iff_ne]; omega
          have e2 : (x.kd == 2) = false := by rw [beq_eq_false_iff_ne]; omega
          have e3 : (x.kd == 3) = false := by rw [beq_eq_false_iff_ne]; omega
          have e4 : (x.kd == 4) = false := by rw [beq_eq_false_iff_ne]; omega
          have e5 : (x.kd == 5) = false := by rw [beq_eq_false_iff_ne]; omega
          have e6 : (x.kd == 6) = true := by rw [beq_iff_eq]; omega
          obtain ⟨ev, hev⟩ : ∃ ev, sumR buy os x.n x.o.ac = ev := ⟨_, rfl⟩
          have HEV := Lib.hid hev
          have hq : (ev == ev) = true := by simp
          clear hev
          go_wp2_with fail
          refine wp_region_held_drew (S := PqX Pd w [opX wr.heap.size x] g w1.heap.size buy) (by kernel_rfl) (PL.out.drew KH.out).xx (fun hH => ?_)
          have PLd := PL.out.drew KH.out
          refine wpAnyH_take (i := 0) (v := .bool true) rfl (by kernel_rfl) (by kernel_rfl) (by kernel_rfl) (fun _ _ _ h => h) (.inl ⟨by rfl, ?_⟩) (by assumption) ?_
          · intro W hW; go_simp
          try simp only [List.getElem_toArray, List.getElem_cons_zero, Act.put, List.setIfInBounds_toArray, List.set_cons_zero, List.set_cons_succ]
          refine wpAnyH_take (i := 1) (v := .bool true) rfl (by kernel_rfl) (by kernel_rfl) (by kernel_rfl) (fun _ _ _ h => h) (.inl ⟨by rfl, ?_⟩) (by assumption) ?_
          · intro W hW; go_simp
          try simp only [List.getElem_toArray, List.getElem_cons_zero, List.getElem_cons_succ, Act.put, List.setIfInBounds_toArray, List.set_cons_zero, List.set_cons_succ]
          refine wpAnyH_take (i := 2) (v := .pointer (some ⟨g, 0, none⟩)) rfl (by kernel_rfl) (by kernel_rfl) (by kernel_rfl) (fun _ _ _ h => h) (.inl ⟨by rfl, ?_⟩) (by assumption) ?_
          · intro W hW; go_simp
          try simp only [List.getElem_toArray, List.getElem_cons_zero, List.getElem_cons_succ, Act.put, List.setIfInBounds_toArray, List.set_cons_zero, List.set_cons_succ]
          refine wpAnyH_take (i := 3) (v := .pointer (some ⟨wr.heap.size, 6, none⟩)) rfl (by kernel_rfl) (by kernel_rfl) (by kernel_rfl) (fun _ _ _ h => h) (.inl ⟨by rfl, ?_⟩) (by assumption) ?_
          · intro W hW; go_simp
          try simp only [List.getElem_toArray, List.getElem_cons_zero, List.getElem_cons_succ, Act.put, List.setIfInBounds_toArray, List.set_cons_zero, List.set_cons_succ]
          refine wpAnyH_take (i := 4) (v := .int .i64 x.n) rfl (by kernel_rfl) (by kernel_rfl) (by kernel_rfl) (fun _ _ _ h => h) (.inl ⟨by rfl, ?_⟩) (by assumption) ?_
          · intro W hW; have kk : W.cell? ⟨wr.heap.size, 6, none⟩ = some (.int .i64 x.n) := gbx_cell (hW.bx (opX_in _ _)) 6; go_simp
          try simp only [List.getElem_toArray, List.getElem_cons_zero, List.getElem_cons_succ, Act.put, List.setIfInBounds_toArray, List.set_cons_zero, List.set_cons_succ]
          refine wpAnyH_take (i := 5) (v := .pointer (some ⟨wr.heap.size, 1, none⟩)) rfl (by kernel_rfl) (by kernel_rfl) (by kernel_rfl) (fun _ _ _ h => h) (.inl ⟨by rfl, ?_⟩) (by assumption) ?_
          · intro W hW; go_simp
          try simp only [List.getElem_toArray, List.getElem_cons_zero, List.getElem_cons_succ, Act.put, List.setIfInBounds_toArray, List.set_cons_zero, List.set_cons_succ]
          refine wpAnyH_take (i := 6) (v := .pointer (some ⟨wr.heap.size, 2, none⟩)) rfl (by kernel_rfl) (by kernel_rfl) (by kernel_rfl) (fun _ _ _ h => h) (.inl ⟨by rfl, ?_⟩) (by assumption) ?_
          · intro W hW; go_simp
          try simp only [List.getElem_toArray, List.getElem_cons_zero, List.getElem_cons_succ, Act.put, List.setIfInBounds_toArray, List.set_cons_zero, List.set_cons_succ]
          refine wpAnyH_take (i := 7) (v := .int .u32 x.o.ac) rfl (by kernel_rfl) (by kernel_rfl) (by kernel_rfl) (fun _ _ _ h => h) (.inl ⟨by rfl, ?_⟩) (by assumption) ?_
          · intro W hW; have kk : W.cell? ⟨wr.heap.size, 2, none⟩ = some (.int .u32 x.o.ac) := gbx_cell (hW.bx (opX_in _ _)) 2; go_simp
          try simp only [List.getElem_toArray, List.getElem_cons_zero, List.getElem_cons_succ, Act.put, List.setIfInBounds_toArray, List.set_cons_zero, List.set_cons_succ]
          refine wpAnyH_take (i := 9) (v := .pointer (some ⟨w1.heap.size, 0, none⟩)) rfl (by kernel_rfl) (by kernel_rfl) (by kernel_rfl) (fun _ _ _ h => h) (.inl ⟨by rfl, ?_⟩) (by assumption) ?_
          · intro W hW; go_simp
          try simp only [List.getElem_toArray, List.getElem_cons_zero, List.getElem_cons_succ, Act.put, List.setIfInBounds_toArray, List.set_cons_zero, List.set_cons_succ]
          refine wpAnyH_take (i := 10) (v := .pointer (some ⟨wr.heap.size, 6, none⟩)) rfl (by kernel_rfl) (by kernel_rfl) (by kernel_rfl) (fun _ _ _ h => h) (.inl ⟨by rfl, ?_⟩) (by assumption) ?_
          · intro W hW; go_simp
          try simp only [List.getElem_toArray, List.getElem_cons_zero, List.getElem_cons_succ, Act.put, List.setIfInBounds_toArray, List.set_cons_zero, List.set_cons_succ]
          refine wpAnyH_take (i := 11) (v := .int .i64 x.n) rfl (by kernel_rfl) (by kernel_rfl) (by kernel_rfl) (fun _ _ _ h => h) (.inl ⟨by rfl, ?_⟩) (by assumption) ?_
          · intro W hW; have kk : W.cell? ⟨wr.heap.size, 6, none⟩ = some (.int .i64 x.n) := gbx_cell (hW.bx (opX_in _ _)) 6; go_simp
          try simp only [List.getElem_toArray, List.getElem_cons_zero, List.getElem_cons_succ, Act.put, List.setIfInBounds_toArray, List.set_cons_zero, List.set_cons_succ]
          refine wpAnyH_take (i := 12) (v := .pointer (some ⟨wr.heap.size, 1, none⟩)) rfl (by kernel_rfl) (by kernel_rfl) (by kernel_rfl) (fun _ _ _ h => h) (.inl ⟨by rfl, ?_⟩) (by assumption) ?_
          · intro W hW; go_simp
          try simp only [List.getElem_toArray, List.getElem_cons_zero, List.getElem_cons_succ, Act.put, List.setIfInBounds_toArray, List.set_cons_zero, List.set_cons_succ]
          refine wpAnyH_take (i := 13) (v := .pointer (some ⟨wr.heap.size, 2, none⟩)) rfl (by kernel_rfl) (by kernel_rfl) (by kernel_rfl) (fun _ _ _ h => h) (.inl ⟨by rfl, ?_⟩) (by assumption) ?_
          · intro W hW; go_simp
          try simp only [List.getElem_toArray, List.getElem_cons_zero, List.getElem_cons_succ, Act.put, List.setIfInBounds_toArray, List.set_cons_zero, List.set_cons_succ]
          refine wpAnyH_take (i := 14) (v := .int .u32 x.o.ac) rfl (by kernel_rfl) (by kernel_rfl) (by kernel_rfl) (fun _ _ _ h => h) (.inl ⟨by rfl, ?_⟩) (by assumption) ?_
          · intro W hW; have kk : W.cell? ⟨wr.heap.size, 2, none⟩ = some (.int .u32 x.o.ac) := gbx_cell (hW.bx (opX_in _ _)) 2; go_simp
          try simp only [List.getElem_toArray, List.getElem_cons_zero, List.getElem_cons_succ, Act.put, List.setIfInBounds_toArray, List.set_cons_zero, List.set_cons_succ]
          refine wpAnyH_ready (rs := [8]) (by decide +kernel) (by simp) (AllReadyH.cons rfl (fun KQ hK => ?_) AllReadyH.nil)
          go_simp
          refine (PLd.cb KH.out (fun F h => (by have := KH.out.reach h OKX.out.n OKX.out.o.ac; rw [HEV.out] at this; exact this))).mono ?_; rintro e0 W1 ⟨rfl, p1⟩
          have hH := p1.xx
          refine hK.out _ _ hH (fun _ => ?_)
          clear hK 
          try simp only [List.setIfInBounds_toArray, List.set_cons_zero, List.set_cons_succ]
          refine wpAnyH_ready (rs := [15]) (by decide +kernel) (by simp) (AllReadyH.cons rfl (fun KQ hK => ?_) AllReadyH.nil)
          go_simp
          refine (p1.rb KH.out (fun v h => (by have := preach h OKX.out.n OKX.out.o.ac; rw [HEV.out] at this; exact this))).mono ?_; rintro e0 W1 ⟨rfl, p2⟩
          have hH := p2.xx
          refine hK.out _ _ hH (fun _ => ?_)
          clear hK 
          try simp only [List.setIfInBounds_toArray, List.set_cons_zero, List.set_cons_succ]
          refine wpAnyH_take (i := 16) (v := .bool true) rfl (by kernel_rfl) (by kernel_rfl) (by kernel_rfl) (fun _ _ _ h => h) (.inl ⟨by rfl, ?_⟩) (by assumption) ?_
          · intro W hW; go_simp
          try simp only [List.getElem_toArray, List.getElem_cons_zero, List.getElem_cons_succ, Act.put, List.setIfInBounds_toArray, List.set_cons_zero, List.set_cons_succ]
          refine wpAnyH_take (i := 17) (v := .bool true) rfl (by kernel_rfl) (by kernel_rfl) (by kernel_rfl) (fun _ _ _ h => h) (.inl ⟨by rfl, ?_⟩) (by assumption) ?_
          · intro W hW; go_simp
          try simp only [List.getElem_toArray, List.getElem_cons_zero, List.getElem_cons_succ, Act.put, List.setIfInBounds_toArray, List.set_cons_zero, List.set_cons_succ]
          refine wpAnyH_take (i := 18) (v := .bool true) rfl (by kernel_rfl) (by kernel_rfl) (by kernel_rfl) (fun _ _ _ h => h) (.inl ⟨by rfl, ?_⟩) (by assumption) ?_
          · intro W hW; go_simp
          try simp only [List.getElem_toArray, List.getElem_cons_zero, List.getElem_cons_succ, Act.put, List.setIfInBounds_toArray, List.set_cons_zero, List.set_cons_succ]
          refine wpAnyH_done (by decide +kernel) ?_ _
          have PLf := Lib.hid p2
          clear hH
          go_wp2_with fail
          exact ⟨g, _, t, PLf.out.less (X' := []) (fun p hp => by cases hp), by omega, intro_v rfl⟩
        by_cases hk7 : x.kd = 7
        · have e1 : (x.kd == 1) = false := by rw [beq_eq_false_iff_ne]; omega
          have e2 : (x.kd == 2) = false := by rw [beq_eq_false_iff_ne]; omega
          have e3 : (x.kd == 3) = false := by rw [beq_eq_false_iff_ne]; omega
          have e4 : (x.kd == 4) = false := by rw [beq_eq_false_iff_ne]; omega
          have e5 : (x.kd == 5) = false := by rw [beq_eq_false_iff_ne]; omega
          have e6 : (x.kd == 6) = false := by rw [beq_eq_false_iff_ne]; omega
          have e7 : (x.kd == 7) = true := by rw [beq_iff_eq]; omega
          go_wp2_with fail
          refine (PL.out.copy KH.out).mono ?_; rintro e1 U1 ⟨g', rfl, p1⟩
          have P1 := Lib.hid p1
          clear p1
          go_wp2_with fail
          refine (P1.out.old (R := fun e => e = _) KH.out (fun F h => KH.out.fill (n := 1) h ⟨by omega, by omega⟩)).mono ?_; rintro e2 U2 ⟨rfl, p2⟩
          have P2 := Lib.hid p2
          have k2 : U2.cell? ⟨wr.heap.size, 1, none⟩ = some (.int .u64 x.o.nu) := gbx_cell (p2.fin.bx (b := wr.heap.size) (x := x) (opX_in _ _)) 1
          clear p2 P1
          go_wp2_with fail
          refine (P2.out.old (R := fun e => e = _) KH.out (fun F h => KH.out.drop h OKX.out.o.nu)).mono ?_; rintro e3 U3 ⟨rfl, p3⟩
          have P3 := Lib.hid p3
          clear p3 P2 k2
          go_wp2_with fail
          have O7 : Hid ((Or.mk 1152921504606846976 1 buy 1 1).ok) := Lib.hid (by constructor <;> simp [I64'])
          refine (P3.out.old (R := fun e => e = _) KH.out (fun F h => KH.out.add (o := ⟨1152921504606846976, 1, buy, 1, 1⟩) h O7.out (by omega))).mono ?_; rintro e4 U4 ⟨rfl, p4⟩
          have PLf := Lib.hid (p4.fin.less (X' := []) (fun p hp => by cases hp))
          clear p4 P3
          go_wp2_with fail
          exact ⟨g', _, t, PLf.out, by omega, intro_v rfl⟩
        have e1 : (x.kd == 1) = false := by rw [beq_eq_false_iff_ne]; omega
        have e2 : (x.kd == 2) = false := by rw [beq_eq_false_iff_ne]; omega
        have e3 : (x.kd == 3) = false := by rw [beq_eq_false_iff_ne]; omega
        have e4 : (x.kd == 4) = false := by rw [beq_eq_false_iff_ne]; omega
        have e5 : (x.kd == 5) = false := by rw [beq_eq_false_iff_ne]; omega
        have e6 : (x.kd == 6) = false := by rw [beq_eq_false_iff_ne]; omega
        have e7 : (x.kd == 7) = false := by rw [beq_eq_false_iff_ne]; omega
        obtain ⟨y, hy⟩ : ∃ y, os.headD zeroOr = y := ⟨_, rfl⟩
        obtain ⟨ev, hev⟩ : ∃ ev, (!os.isEmpty) = ev := ⟨_, rfl⟩
        have HY := Lib.hid hy
        have HEV := Lib.hid hev
        have hq : (ev == ev) = true := by simp
        have YOK : Hid y.ok := Lib.hid (by rw [← hy]; exact headX_ok (PL.out.inv KH.out))
        clear hy hev
        go_wp2_with fail
        refine (PL.out.cb KH.out (fun F h => (by have := KH.out.best h; rw [HY.out, HEV.out] at this; exact this))).mono ?_; rintro e1 U1 ⟨rfl, p1⟩
        obtain ⟨V1, hV1, bV1, yV1, zV1, sV1⟩ := put_or y (Below.refl U1.heap.size U1)
        have HV1 := Lib.hid hV1
        have ZV1 := Lib.hid zV1
        have P1 : Hid (PqE Pd w [orX U1.heap.size y, opX wr.heap.size x] V1 g w1.heap.size buy _ _ _) := Lib.hid (p1.push KH.out bV1 yV1 (Nat.le_refl _))
        clear p1 hV1 bV1 yV1 zV1 sV1
        go_wp2_with (refine gwl_store TO y U1.heap.size ZV1.out rfl rfl ?_; rw [HV1.out])
        refine (P1.out.rb KH.out (fun v h => (by have := pbest h; rw [HY.out, HEV.out] at this; exact this))).mono ?_; rintro e2 U2 ⟨rfl, p2⟩
        obtain ⟨V2, hV2, bV2, yV2, zV2, sV2⟩ := put_or y (Below.refl U2.heap.size U2)
        have HV2 := Lib.hid hV2
        have ZV2 := Lib.hid zV2
        have P2 : Hid (PqE Pd w [orX U2.heap.size y, orX U1.heap.size y, opX wr.heap.size x] V2 g w1.heap.size buy _ _ _) := Lib.hid (p2.push KH.out bV2 yV2 (Nat.le_refl _))
        have RA := Lib.hid (gbx_rng (P2.out.obx (b := U1.heap.size) (y := y) (List.mem_cons_of_mem _ (List.mem_cons_self ..))))
        have RB := Lib.hid (gbx_rng (P2.out.obx (b := U2.heap.size) (y := y) (List.mem_cons_self ..)))
        have PLf := Lib.hid (P2.out.less (X' := []) (fun p hp => by cases hp))
        clear p2 hV2 bV2 yV2 zV2 sV2 P1 P2
        go_wp2_with (first | (refine gwl_store TO y U2.heap.size ZV2.out rfl rfl ?_; rw [HV2.out]) | ((with_reducible refine gwl_load (d := some 74) TO U1.heap.size 0 RA.out ?_ ?_ ?_); rfl; rfl; try simp only [Act.put, List.setIfInBounds_toArray, List.set_cons_zero, List.set_cons_succ]) | ((with_reducible refine gwl_load (d := some 75) TO U2.heap.size 0 RB.out ?_ ?_ ?_); rfl; rfl; try simp only [Act.put, List.setIfInBounds_toArray, List.set_cons_zero, List.set_cons_succ]) | ((with_reducible refine wl_eql_or0 YOK.out ?_ ?_ ?_ ?_); rfl; rfl; rfl))
        exact ⟨g, _, t, PLf.out, by omega, intro_v rfl⟩
      case tlX =>
        rintro a1 wr1 ⟨g', os', t', hpq', ht', u', rfl⟩
        have PQ := Lib.hid hpq'
        clear hpq' PL0 OKX
        go_wp2_with fail
        refine (PQ.out.same KH.out).mono ?_; rintro e5 W5 ⟨rfl, p5⟩
        have P5 := Lib.hid p5
        clear p5
        go_wp2_with fail
        refine H3.out _ _ ?_
        go_wp2_with fail
        refine HKK.out _ _ (Handed.intro (m - 1) (by have := HM.out; omega) (HJ.out _ _ _ ?_))
        exact ⟨k + 1, g', os', t', by have := HM.out; omega, by omega, P5.out, ht', intro_v rfl⟩
theorem plays6_all {Pd : PdT} {zs : Array Value} (K : SideK Pd zs) (buy : Bool) (A : Option Addr) (n c : Nat) (l : List OpS) (w : World) (hr : EOp.Rd w A n l) (hok : ∀ x, x ∈ l → x.ok) (hm : n ≤ maxLen) :
    Calls Try.prog 3 #[.bool buy, .slice A n c] w fun e w' => e = .returned (.bool true) ∧ Below w.heap.size w w' := by
  unfold maxLen at hm
  rcases Nat.lt_or_ge 300 n with h | h
  · exact plays6_out K buy A n c w h (by omega)
  · exact plays6_in K buy A n c l w hr hok h
end Go.Proofs.Ytpnccbcaoifdiaa
