/- The statements' own check, given the program's side. -/
import Derived.Test.YtpnccbcaoifdiaaSx
namespace Go.Proofs.Ytpnccbcaoifdiaa
open Go.RowKit Go.Shelf
set_option linter.unusedVariables false

/-- A side of the call's own. -/
def Cs (Pd : PdT) (w W : World) (g : Nat) (buy : Bool) (os : List Or) (t : Nat) : Prop := ∃ F, Pd W F g buy os t ∧ Below w.heap.size w W ∧ ∀ k, F k → w.heap.size ≤ k
theorem aft_below {F : Nat → Prop} {w W W' : World} (b : Below w.heap.size w W) (hF : ∀ k, F k → w.heap.size ≤ k) (f : Fr F W W') : Below w.heap.size w W' :=
  ⟨f.b0.os.trans b.os, f.b0.tape.trans b.tape, f.b0.output.trans b.output, Nat.le_trans b.size f.size, fun k hk => (f.at' k (Nat.lt_of_lt_of_le hk b.size) (fun c => by have := hF k c; omega)).trans (b.block k hk)⟩
section
variable {Pd : PdT} {zs : Array Value} {w W W' : World} {g : Nat} {buy : Bool} {os os' : List Or} {F : Nat → Prop} {t : Nat}
theorem cs_aft (b : Below w.heap.size w W) (hF : ∀ k, F k → w.heap.size ≤ k) (a : AftO Pd W F g buy os' t W') : Cs Pd w W' g buy os' t := by
  obtain ⟨F', h1, h2, h3⟩ := a
  exact ⟨F', h1, aft_below b hF h2, fun k hk => (h3 k hk).elim (hF k) fun c => Nat.le_trans b.size c⟩
theorem Cs.below (K : SideK Pd zs) (h : Cs Pd w W g buy os t) (q : Below W.heap.size W W') : Cs Pd w W' g buy os t := by
  obtain ⟨F, h1, h2, h3⟩ := h
  exact ⟨F, K.keep (S := fun _ => False) h1 (Fr.below q) (fun _ _ h => h), h2.trans (q.mono h2.size), h3⟩
/-- Beside a block that the side does not have. -/
def Cb (Pd : PdT) (w W : World) (g : Nat) (buy : Bool) (os : List Or) (t b : Nat) (o : Obj) : Prop := ∃ F, Pd W F g buy os t ∧ Below w.heap.size w W ∧ (∀ k, F k → w.heap.size ≤ k ∧ k ≠ b) ∧ b < W.heap.size ∧ W.heap[b]? = some o
theorem cb_aft {b : Nat} {o : Obj} (bl : Below w.heap.size w W) (hF : ∀ k, F k → w.heap.size ≤ k ∧ k ≠ b) (hb : b < W.heap.size) (ho : W.heap[b]? = some o) (a : AftO Pd W F g buy os' t W') : Cb Pd w W' g buy os' t b o := by
  obtain ⟨F', h1, h2, h3⟩ := a
  refine ⟨F', h1, aft_below bl (fun k c => (hF k c).1) h2, fun k hk => ?_, Nat.lt_of_lt_of_le hb h2.size, (h2.at' b hb fun c => (hF b c).2 rfl).trans ho⟩
  rcases h3 k hk with c | c
  · exact hF k c
  · exact ⟨Nat.le_trans bl.size c, by omega⟩
end
theorem alloc_at (w : World) (o : Obj) : w.heap.size < (w.alloc o).heap.size ∧ (w.alloc o).heap[w.heap.size]? = some o := ⟨by simp, heap_alloc_new w _⟩
def od6 (n p : Int) : Or := ⟨n, n, true, p, 5⟩
def kn6 : Nat → List Or
  | 0 => []
  | 1 => [od6 1 10]
  | 2 => [od6 2 12, od6 1 10]
  | 3 => [od6 2 12, od6 1 10, od6 3 10]
  | _ => [od6 2 12, od6 4 12, od6 1 10, od6 3 10]
theorem od6_ok {n p : Int} (hn : 0 ≤ n ∧ n ≤ 4) (hp : 0 ≤ p ∧ p ≤ 12) : (od6 n p).ok := by
  refine ⟨⟨hn.1, ?_⟩, ⟨hn.1, ?_⟩, ⟨?_, ?_⟩, ⟨?_, ?_⟩⟩ <;> simp only [od6] <;> omega
theorem kn6_0 : addA true (kn6 0) (od6 1 10) = 0 ∧ addO true (kn6 0) (od6 1 10) = kn6 1 := ⟨rfl, rfl⟩
theorem kn6_1 : addA true (kn6 1) (od6 2 12) = 0 ∧ addO true (kn6 1) (od6 2 12) = kn6 2 := ⟨rfl, rfl⟩
theorem kn6_2 : addA true (kn6 2) (od6 3 10) = 0 ∧ addO true (kn6 2) (od6 3 10) = kn6 3 := ⟨rfl, rfl⟩
theorem kn6_3 : addA true (kn6 3) (od6 4 12) = 0 ∧ addO true (kn6 3) (od6 4 12) = kn6 4 := ⟨rfl, rfl⟩
theorem kn6_r : sumR true (kn6 4) 12 0 = 10 ∧ sumR true (kn6 4) 10 4 = 15 := ⟨rfl, rfl⟩
set_option maxRecDepth 100000 in
set_option maxHeartbeats 4000000 in
theorem known6_any {Pd : PdT} {zs : Array Value} (K : SideK Pd zs) (w : World) : Calls Try.prog 9 #[] w fun e w' => e = .returned (.bool true) ∧ Below w.heap.size w w' := by
  have NW := Lib.hid (K.new w true)
  have KH := Lib.hid K
  clear K
  go_enter Try.func9, Try.ntmps9
  go_wp2_with fail
  refine NW.out.mono ?_; rintro e w1 ⟨g, F, rfl, hp, q, hF⟩
  have HP := Lib.hid hp
  have BQ := Lib.hid q
  have FF := Lib.hid hF
  clear NW hp q hF
  go_wp2_with fail
  have C0 : Hid (Cb Pd w (w1.alloc (.cells #[.int .i64 10, .int .i64 12, .int .i64 10, .int .i64 12] 61)) g true (kn6 0) 0 w1.heap.size (.cells #[.int .i64 10, .int .i64 12, .int .i64 10, .int .i64 12] 61 (0, 0))) := Lib.hid ⟨F, KH.out.keep (S := fun _ => False) HP.out (Fr.below (below_new w1 _)) (fun _ _ h => h), BQ.out.trans ((below_new w1 _).mono BQ.out.size), fun k hk => ⟨FF.out k hk, by have := KH.out.lt HP.out k hk; omega⟩, (alloc_at w1 _).1, (alloc_at w1 _).2⟩
  clear HP BQ FF
  generalize w1.heap.size = b at *
  go_loopw [10] (fun i wr => ∃ k : Nat, k ≤ 4 ∧ i = .int .i64 k ∧ Cb Pd w wr g true (kn6 k) k b (.cells #[.int .i64 10, .int .i64 12, .int .i64 10, .int .i64 12] 61 (0, 0))) (fun i _ => 4 - (intOf i).toNat)
  case atStart => exact ⟨0, by omega, rfl, C0.out⟩
  case round =>
    clear C0
    obtain ⟨k, hk, rfl, F1, p1, b1, f1, hb, ho⟩ := hrel
    have c0 : wr.cell? ⟨b, 0, none⟩ = some (.int .i64 10) := by rw [cell_of_row _ _ _ _ _ _ ho]; rfl
    have c1 : wr.cell? ⟨b, 1, none⟩ = some (.int .i64 12) := by rw [cell_of_row _ _ _ _ _ _ ho]; rfl
    have c2 : wr.cell? ⟨b, 2, none⟩ = some (.int .i64 10) := by rw [cell_of_row _ _ _ _ _ _ ho]; rfl
    have c3 : wr.cell? ⟨b, 3, none⟩ = some (.int .i64 12) := by rw [cell_of_row _ _ _ _ _ _ ho]; rfl
    have P1 := Lib.hid p1
    have B1 := Lib.hid b1
    have F1' := Lib.hid f1
    have HB := Lib.hid hb
    have HO := Lib.hid ho
    clear p1 b1 f1 hb ho
    by_cases hlt : k < 4
    case neg =>
      obtain rfl : k = 4 := by omega
      have LB := Lib.hid (KH.out.best P1.out)
      have R1 := Lib.hid fun (W : World) (q : Below wr.heap.size wr W) => KH.out.reach (p := 12) (nt := 0) (KH.out.keep (S := fun _ => False) P1.out (Fr.below q) (fun _ _ h => h)) ⟨by omega, by omega⟩ ⟨by omega, by omega⟩
      have R2 := Lib.hid fun (W : World) (q : Below wr.heap.size wr W) => KH.out.reach (p := 10) (nt := 4) (KH.out.keep (S := fun _ => False) P1.out (Fr.below q) (fun _ _ h => h)) ⟨by omega, by omega⟩ ⟨by omega, by omega⟩
      have LL := Lib.hid fun (W : World) (q : Below wr.heap.size wr W) => KH.out.len (KH.out.keep (S := fun _ => False) P1.out (Fr.below q) (fun _ _ h => h))
      rw [show (kn6 4).headD zeroOr = od6 2 12 from rfl, show (!(kn6 4).isEmpty) = true from rfl] at LB
      rw [show ((kn6 4).length : Int) = 4 from rfl] at LL
      rw [kn6_r.1] at R1
      rw [kn6_r.2] at R2
      have Z := zero_or
      have B0 := B1.out
      clear c0 c1 c2 c3 P1 F1' HB HO
      go_wp2_with fail
      refine LB.out.mono ?_; rintro e w2 ⟨rfl, q2⟩
      have Y0 : Hid (EO.Bx 33 (w2.alloc (.cells (EO.cells zeroOr).toArray 33)) w2.heap.size zeroOr) := Lib.hid (gbx_new w2 _)
      have Q2 := Lib.hid q2
      have Y1 := Lib.hid (gbx_set (x := od6 2 12) Y0.out)
      have QA : Hid (Below wr.heap.size wr ((w2.alloc (.cells (EO.cells zeroOr).toArray 33)).setRow w2.heap.size (EO.cells (od6 2 12)).toArray)) := Lib.hid (Q2.out.trans (below_row0 ((below_new w2 _)) (Nat.le_refl _) |>.mono Q2.out.size))
      have e0 : ((w2.alloc (.cells (EO.cells zeroOr).toArray 33)).setRow w2.heap.size (EO.cells (od6 2 12)).toArray).cell? ⟨w2.heap.size, 0, none⟩ = some (.int .u64 2) := gbx_cell Y1.out 0
      clear q2
      go_wp2_with (refine gwl_store TO (od6 2 12) w2.heap.size Y0.out rfl rfl ?_)
      refine (R1.out _ QA.out).mono ?_; rintro e w3 ⟨rfl, q3⟩
      have Q3 := Lib.hid (QA.out.trans (q3.mono QA.out.size))
      clear q3
      go_wp2_with fail
      refine (R2.out _ Q3.out).mono ?_; rintro e w4 ⟨rfl, q4⟩
      have Q4 := Lib.hid (Q3.out.trans (q4.mono Q3.out.size))
      clear q4
      go_wp2_with fail
      refine (LL.out _ Q4.out).mono ?_; rintro e w5 ⟨rfl, q5⟩
      have Q5 := Lib.hid (Q4.out.trans (q5.mono Q4.out.size))
      clear q5
      go_wp2_with fail
      go_ret
      exact ⟨rfl, B0.trans (Q5.out.mono B0.size)⟩
    case pos =>
      have hk4 : k = 0 ∨ k = 1 ∨ k = 2 ∨ k = 3 := by omega
      rcases hk4 with rfl | rfl | rfl | rfl
      · have LS := Lib.hid (KH.out.add P1.out (od6_ok (n := 1) (p := 10) ⟨by omega, by omega⟩ ⟨by omega, by omega⟩) (by omega))
        rw [kn6_0.1, kn6_0.2] at LS
        go_wp2_with fail
        refine LS.out.mono ?_; rintro e w2 ⟨rfl, a⟩
        have N := cb_aft B1.out F1'.out HB.out HO.out a
        clear a
        go_wp2_with fail
        go_roundw
        case rel => exact ⟨1, by omega, rfl, N⟩
        case measure => simp [intOf]
      · have LS := Lib.hid (KH.out.add P1.out (od6_ok (n := 2) (p := 12) ⟨by omega, by omega⟩ ⟨by omega, by omega⟩) (by omega))
        rw [kn6_1.1, kn6_1.2] at LS
        go_wp2_with fail
        refine LS.out.mono ?_; rintro e w2 ⟨rfl, a⟩
        have N := cb_aft B1.out F1'.out HB.out HO.out a
        clear a
        go_wp2_with fail
        go_roundw
        case rel => exact ⟨2, by omega, rfl, N⟩
        case measure => simp [intOf]
      · have LS := Lib.hid (KH.out.add P1.out (od6_ok (n := 3) (p := 10) ⟨by omega, by omega⟩ ⟨by omega, by omega⟩) (by omega))
        rw [kn6_2.1, kn6_2.2] at LS
        go_wp2_with fail
        refine LS.out.mono ?_; rintro e w2 ⟨rfl, a⟩
        have N := cb_aft B1.out F1'.out HB.out HO.out a
        clear a
        go_wp2_with fail
        go_roundw
        case rel => exact ⟨3, by omega, rfl, N⟩
        case measure => simp [intOf]
      · have LS := Lib.hid (KH.out.add P1.out (od6_ok (n := 4) (p := 12) ⟨by omega, by omega⟩ ⟨by omega, by omega⟩) (by omega))
        rw [kn6_3.1, kn6_3.2] at LS
        go_wp2_with fail
        refine LS.out.mono ?_; rintro e w2 ⟨rfl, a⟩
        have N := cb_aft B1.out F1'.out HB.out HO.out a
        clear a
        go_wp2_with fail
        go_roundw
        case rel => exact ⟨4, by omega, rfl, N⟩
        case measure => simp [intOf]
end Go.Proofs.Ytpnccbcaoifdiaa
