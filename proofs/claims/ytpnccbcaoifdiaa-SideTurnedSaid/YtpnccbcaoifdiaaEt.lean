/- The walk of the statement SideTurned, given the program's side. -/
import Derived.Test.YtpnccbcaoifdiaaEa
import Derived.Test.YtpnccbcaoifdiaaEg
import Derived.Test.YtpnccbcaoifdiaaEo
import Derived.Test.YtpnccbcaoifdiaaEr
import Derived.Test.YtpnccbcaoifdiaaEs
import Derived.Deep.LoopGhost
namespace Go.Proofs.Ytpnccbcaoifdiaa
open Go.RowKit Go.Shelf
set_option linter.unusedVariables false
set_option linter.unusedSimpArgs false

theorem intro_w {T : Array Value} {D : List Deferred} {F : (Nat → Value) → Array Value} (h : F (fun i => T.getD i undef) = T) : ∃ u : Nat → Value, (Act.mk T D) = Act.mk (F u) D := ⟨_, by rw [h]⟩
theorem wp_midw {P : Program} {Q : Exit → Act → World → Prop} {a : Act} {w : World} {x y : Code} (Mid : Act → World → Prop) (h1 : ∀ K : Act → World → Prop, (∀ a w, Mid a w → K a w) → x.wp P (Exit.then K Q) a w) (h2 : ∀ a w, Mid a w → y.wp P Q a w) : (Code.seq x y).wp P Q a w :=
  wp_seq_k fun K hK => h1 K fun a w h => hK a w (h2 a w h)
theorem TqH.pushL {Pd : PdT} {zs : Array Value} {w W W' : World} {X : List (Nat × Obj)} {a b : Nat} {os ps : List Or} {ta tb : Nat} (K : SideK Pd zs) (h : TqH Pd w X W a b os ps ta tb) (q : Below W.heap.size W W') (L : List (Nat × Obj)) (hL : ∀ p, p ∈ L → W'.heap[p.1]? = some p.2 ∧ W.heap.size ≤ p.1) : TqH Pd w (L ++ X) W' a b os ps ta tb := by
  obtain ⟨Fa, Fb, h⟩ := h
  refine ⟨Fa, Fb, K.keep (S := fun _ => False) h.pa (Fr.below q) (fun _ _ h => h), K.keep (S := fun _ => False) h.pb (Fr.below q) (fun _ _ h => h), h.ap, h.fa, h.fb, h.bl.trans (q.mono h.bl.size), fun p hp => ?_⟩
  rcases List.mem_append.1 hp with hp | hp
  · obtain ⟨h1, h2⟩ := hL p hp
    exact ⟨h1, fun c => by have := K.lt h.pa _ c; omega, fun c => by have := K.lt h.pb _ c; omega⟩
  · exact ⟨(q.block _ (Array.getElem?_eq_some_iff.1 (h.xs p hp).1).1).trans (h.xs p hp).1, (h.xs p hp).2⟩
def opY (b : Nat) (x : OpS) : Nat × Obj := (b, .cells (EOp.cells x).toArray 35 (0, 0))
def orY (b : Nat) (x : Or) : Nat × Obj := (b, .cells (EO.cells x).toArray 33 (0, 0))
section
variable {Pd : PdT} {w W : World} {X : List (Nat × Obj)} {a b k : Nat} {x : OpS} {y : Or}
theorem TqX.op (h : TqX Pd w X a b W) (hp : opY k x ∈ X) : EOp.Bx 35 W k x := h.at hp
theorem TqX.or (h : TqX Pd w X a b W) (hp : orY k y ∈ X) : EO.Bx 33 W k y := h.at hp
end
/-- The boxes of a round. -/
def trX (n1 n2 n3 : Nat) (x : OpS) (o : Or) : List (Nat × Obj) := [opY n1 x, orY n2 o, orY n3 (trO o)]
section
variable {Pd : PdT} {w W : World} {a b n1 n2 n3 : Nat} {x : OpS} {o : Or}
theorem TqX.b1 (h : TqX Pd w (trX n1 n2 n3 x o) a b W) : EOp.Bx 35 W n1 x := h.op (List.mem_cons_self ..)
theorem TqX.b2 (h : TqX Pd w (trX n1 n2 n3 x o) a b W) : EO.Bx 33 W n2 o := h.or (List.mem_cons_of_mem _ (List.mem_cons_self ..))
theorem TqX.b3 (h : TqX Pd w (trX n1 n2 n3 x o) a b W) : EO.Bx 33 W n3 (trO o) := h.or (List.mem_cons_of_mem _ (List.mem_cons_of_mem _ (List.mem_cons_self ..)))
end
set_option maxRecDepth 100000 in
set_option maxHeartbeats 2000000 in
theorem turned6_out {Pd : PdT} {zs : Array Value} (K : SideK Pd zs) (A : Option Addr) (n c : Nat) (w : World) (hn : 150 < n) (hm : n ≤ 9223372036854775807) :
    Calls Try.prog 7 #[.slice A n c] w fun e w' => e = .returned (.bool true) ∧ Below w.heap.size w w' := by
  have KN := Lib.hid (fun W => known6_any K W)
  have NT := Lib.hid (fun W => K.new W true)
  have NF := Lib.hid (fun W => K.new W false)
  have hd100 : decide (150 < (n : Int)) = true := decide_eq_true (by omega)
  obtain ⟨W2, hW2⟩ : ∃ W2, w.alloc (.cells #[.bool false] 4) = W2 := ⟨_, rfl⟩
  have b2 : Below w.heap.size w W2 := hW2 ▸ below_new w _
  have r2 : W2.heap[w.heap.size]? = some (.cells #[.bool false] 4 (0, 0)) := hW2 ▸ heap_alloc_new w _
  have HW2 := Lib.hid hW2
  have B2 := Lib.hid b2
  have R2 := Lib.hid r2
  clear K hW2 b2 r2
  go_enter Try.func7, Try.ntmps7
  go_wp2_with fail
  rw [HW2.out]
  refine (NT.out W2).mono ?_; rintro e w1 ⟨g, F, rfl, hp, q1, hF⟩
  have B3 := Lib.hid (B2.out.trans (q1.mono B2.out.size))
  have R3 : Hid (w1.heap[w.heap.size]? = some (.cells #[.bool false] 4 (0, 0))) := Lib.hid ((q1.block _ (Array.getElem?_eq_some_iff.1 R2.out).1).trans R2.out)
  clear q1 hp hF
  go_wp2_with fail
  refine (NF.out w1).mono ?_; rintro e w3 ⟨g2, F2, rfl, hp, q1, hF⟩
  have B4 := Lib.hid (B3.out.trans (q1.mono B3.out.size))
  have R4 : Hid (w3.heap[w.heap.size]? = some (.cells #[.bool false] 4 (0, 0))) := Lib.hid ((q1.block _ (Array.getElem?_eq_some_iff.1 R3.out).1).trans R3.out)
  clear q1 hp hF
  go_wp2_with fail
  refine (KN.out _).mono ?_; rintro e w2 ⟨rfl, q⟩
  have B5 := Lib.hid (B4.out.trans (q.mono B4.out.size))
  have R5 : Hid (w2.heap[w.heap.size]? = some (.cells #[.bool false] 4 (0, 0))) := Lib.hid ((q.block _ (Array.getElem?_eq_some_iff.1 R4.out).1).trans R4.out)
  have cr := obj_cell R5.out
  have fr := obj_fz R5.out 0
  clear q
  go_wp2_with fail
  have R6 := heap_setCell_same w2 w.heap.size 0 _ _ (.bool true) R5.out
  exact bodyPost_ret (ret_cell6 rfl _ _ w.heap.size true rfl (obj_cell R6)) rfl ⟨rfl, B5.out.setCell (by show w.heap.size ≤ w.heap.size; omega) _⟩
set_option maxRecDepth 100000 in
set_option maxHeartbeats 16000000 in
theorem turned6_in {Pd : PdT} {zs : Array Value} (K : SideK Pd zs) (A : Option Addr) (n c : Nat) (l : List OpS) (w : World) (hr : EOp.Rd w A n l) (hok : ∀ x, x ∈ l → x.ok) (hn : n ≤ 150) :
    Calls Try.prog 7 #[.slice A n c] w fun e w' => e = .returned (.bool true) ∧ Below w.heap.size w w' := by
  have KN := Lib.hid (fun W => known6_any K W)
  have NT := Lib.hid (fun W => K.new W true)
  have NF := Lib.hid (fun W => K.new W false)
  have KH := Lib.hid K
  have hd100 : decide (150 < (n : Int)) = false := decide_eq_false (by omega)
  obtain ⟨W2, hW2⟩ : ∃ W2, w.alloc (.cells #[.bool false] 4) = W2 := ⟨_, rfl⟩
  have b2 : Below w.heap.size w W2 := hW2 ▸ below_new w _
  have r2 : W2.heap[w.heap.size]? = some (.cells #[.bool false] 4 (0, 0)) := hW2 ▸ heap_alloc_new w _
  have HW2 := Lib.hid hW2
  have B2 := Lib.hid b2
  have R2 := Lib.hid r2
  have HR := Lib.hid (grd_below hr b2 (Nat.le_refl _))
  have HOK := Lib.hid hok
  have Z := zero_or
  have ZO := zero_op6
  have EQ := eql_seq6
  clear K hW2 b2 r2 hr hok
  refine calls_marks Try.func7 rfl ?_
  simp only [Try.ntmps7, List.size_toArray, List.length_cons, List.length_nil, Nat.reduceAdd, Nat.reduceSub, Array.replicate_succ, Array.replicate_zero, List.push_toArray, List.append_toArray, List.nil_append, List.cons_append]
  go_wp2_with fail
  rw [HW2.out]
  refine (NT.out W2).mono ?_; rintro e w1 ⟨a, Fa, rfl, pa, q1, ha⟩
  have QA := Lib.hid (And.intro pa (And.intro q1 ha))
  clear pa q1 ha
  go_wp2_with fail
  refine (NF.out w1).mono ?_; rintro e w3 ⟨b, Fb, rfl, pb, q2, hb⟩
  have T0 : Hid (TqH Pd W2 [] w3 a b [] [] 0 0) := Lib.hid (by
    obtain ⟨pa, q1, ha⟩ := QA.out
    refine ⟨Fa, Fb, KH.out.keep (S := fun _ => False) pa (Fr.below q2) (fun _ _ h => h), pb, fun k hk c => ?_, ha, fun k hk => Nat.le_trans q1.size (hb k hk), q1.trans (q2.mono q1.size), fun p hp => by cases hp⟩
    have := KH.out.lt pa k hk
    have := hb k c
    omega)
  clear pb q2 hb QA NT NF HW2
  go_wp2_with fail
  refine wp_loop_ghost_k (fun m a' wr => ∃ (k : Nat) (os : List Or) (t : Nat), m = n - k ∧ k ≤ n ∧ TqH Pd W2 [] wr a b os (os.map trO) t t ∧ Pr1 os ∧ t ≤ k ∧ ∃ u : Nat → Value, a' = { tmps := #[.slice A n c, undef, .pointer (some ⟨w.heap.size, 0, none⟩), .pointer (some ⟨a, 0, none⟩), .pointer (some ⟨b, 0, none⟩), u 5, u 6, u 7, u 8, u 9, u 10, undef, undef, undef, undef, .pointer (some ⟨a, 0, none⟩), .pointer (some ⟨b, 0, none⟩), .pointer (some ⟨a, 0, none⟩), .bool false, .bool false, .pointer (some ⟨b, 0, none⟩), .bool false, .bool false, .bool false, .slice A n c, .int .i64 n, .bool false, .bool false, undef, undef, undef, undef, undef, .slice A n c, .int .i64 n, .int .i64 k, u 36, u 37, u 38, u 39, u 40, u 41, u 42, u 43, u 44, u 45, u 46, u 47, u 48, u 49, u 50, u 51, u 52, u 53, u 54, u 55, u 56, u 57, u 58, u 59, u 60, u 61, u 62, u 63, u 64, u 65, u 66, u 67, u 68, u 69, u 70, u 71, u 72, u 73, u 74, u 75, u 76, u 77, u 78, u 79, u 80, u 81, u 82, u 83, u 84, u 85, u 86, u 87, u 88, u 89, u 90, u 91, u 92, u 93, u 94, u 95, u 96, u 97, u 98, u 99, u 100, u 101, u 102, u 103, u 104, u 105, u 106, u 107, u 108, u 109, u 110, u 111, u 112, u 113, u 114, u 115, u 116, u 117, u 118, u 119, u 120, u 121, u 122, u 123, u 124, u 125, u 126, u 127, u 128, u 129, u 130, u 131, u 132, u 133, u 134, u 135, u 136, u 137, u 138, u 139, u 140, undef, undef, undef, undef, undef, undef, undef, undef, undef, undef, undef, undef, undef, undef, undef, undef, undef, undef, undef, undef, undef, undef, undef, undef, undef, undef, undef, undef, undef, undef, undef, undef, undef, undef, undef, undef, undef, undef, undef], defers := [] }) n ?atStart ?round
  case atStart => exact ⟨0, [], 0, rfl, Nat.zero_le _, T0.out, (fun x hx => by cases hx), Nat.le_refl _, intro_w rfl⟩
  case round =>
    rintro m a0 wr ⟨k, os, t, hm, hk, hpq, hp1, ht, u, rfl⟩ J KK hJ hKK
    have PL0 := Lib.hid hpq
    have PR := Lib.hid hp1
    have HJ := Lib.hid hJ
    have HM := Lib.hid hm
    have HKK := Lib.hid hKK
    clear hpq hp1 hJ hm hKK T0
    by_cases hlt : k < n
    case neg =>
      obtain rfl : k = n := by omega
      have hd : decide ((k : Int) < k) = false := decide_eq_false (by omega)
      obtain ⟨Fa, Fb, tq⟩ := PL0.out
      have LFa := Lib.hid (KH.out.lt tq.pa)
      have LFb := Lib.hid (KH.out.lt tq.pb)
      obtain ⟨W4, hW4⟩ : ∃ W4, wr.alloc (.cells #[.slice none 0 0] 59) = W4 := ⟨_, rfl⟩
      have q4 : Below wr.heap.size wr W4 := hW4 ▸ below_new wr _
      have k4 : W4.heap[wr.heap.size]? = some (.cells #[.slice none 0 0] 59 (0, 0)) := hW4 ▸ heap_alloc_new wr _
      have PA4 : Hid (Pd W4 Fa a true os t) := Lib.hid (KH.out.keep (S := fun _ => False) tq.pa (Fr.below q4) (fun _ _ h => h))
      have PB4 : Hid (Pd W4 Fb b false (os.map trO) t) := Lib.hid (KH.out.keep (S := fun _ => False) tq.pb (Fr.below q4) (fun _ _ h => h))
      have BL4 : Hid (Below W2.heap.size W2 W4) := Lib.hid (tq.bl.trans (q4.mono tq.bl.size))
      have LEN := Lib.hid (KH.out.inv tq.pa).len
      have HW4 := Lib.hid hW4
      have K4 := Lib.hid k4
      have S24 : Hid (W2.heap.size ≤ wr.heap.size) := Lib.hid tq.bl.size
      clear tq hW4 q4 k4
      apply wp_seq_k; intro K1 h1; have H1 := Lib.hid h1; clear h1
      go_wp2_with fail
      refine H1.out _ _ ?_
      clear H1
      apply wp_seq_k; intro K2 h2; have H2 := Lib.hid h2; clear h2
      go_wp2_with fail
      clear H2 HKK HJ HM hd hk hlt
      rw [HW4.out]
      refine (KH.out.all PA4.out).mono ?_; rintro e W4' ⟨gf1, lb1, T1, rfl, p1, -, -, -⟩
      have P1 := Lib.hid p1
      clear p1
      go_wp2_with fail
      refine (KH.out.all (KH.out.keep (S := fun _ => False) PA4.out (Fr.below P1.out) (fun _ _ h => h))).mono ?_; rintro e W5 ⟨gf, lb, T, rfl, p2, en, hT, tell⟩
      have B45 : Hid (Below W4.heap.size W4 W5) := Lib.hid (P1.out.trans (p2.mono P1.out.size))
      have TL := Lib.hid tell
      have EN := Lib.hid en
      have HT := Lib.hid hT
      have S4 : Hid (W4.heap.size ≤ W4'.heap.size) := Lib.hid P1.out.size
      clear p2 en hT tell P1
      go_wp2_with fail
      refine (wpIn_wide (n := 9)).1 ?_
      have hk4 : wr.heap.size < W4.heap.size := (Array.getElem?_eq_some_iff.1 K4.out).1
      have hs5 := B45.out.size
      have hs4 := S4.out
      have hb2 := S24.out
      have hw2 : w.heap.size < W2.heap.size := (Array.getElem?_eq_some_iff.1 R2.out).1
      have K5 : Hid (W5.heap[wr.heap.size]? = some (.cells #[.slice none 0 0] 59 (0, 0))) := Lib.hid ((B45.out.block _ hk4).trans K4.out)
      have L5 : Hid (Lg W5 wr.heap.size [] (.slice none 0 0) W5) := Lib.hid ⟨gown_nil _ _, K5.out, fun _ _ _ => rfl, Nat.le_refl _, Below.refl _ _⟩
      have SV : Hid (∀ k, Sv wr.heap.size W5 k → k = wr.heap.size) := Lib.hid (fun k hk => by
          rcases (sv_of L5.out).1 hk with h | h
          · exact h
          · cases h)
      have B25 : Hid (Below W2.heap.size W2 W5) := Lib.hid (BL4.out.trans (B45.out.mono BL4.out.size))
      have PB5 : Hid (Pd W5 Fb b false (os.map trO) t) := Lib.hid (KH.out.keep (S := fun _ => False) PB4.out (Fr.below B45.out) (fun _ _ h => h))
      refine range_calm (S := Sv wr.heap.size) (by decide) rfl EN.out (Still.var (by omega)) (TL.out W5 (Sv wr.heap.size) 8 (Fr.refl _ _) (Still.var (by omega)) (fun k hk => by rw [SV.out k hk]; omega) (fun k hk c => by
          have e := SV.out k c
          rcases (HT.out k hk).2 with h | h
          · have := LFa.out k h; omega
          · omega) (by decide)) (fun _ => rfl)
        (fun pre W => pre.length ≤ 100 ∧ ∃ v, Lg W5 wr.heap.size (valsO pre) v W)
        (fun _ _ _ => False)
        (fun s A C ⟨h1, v, hj⟩ b hS => ⟨h1, v, hj.calm (by omega) b hS⟩)
        (fun _ s A C hj _ _ => hj)
        ⟨Nat.zero_le _, _, L5.out⟩
        (fun x a' W => ∃ bx, W5.heap.size ≤ bx ∧ EO.Bx 33 W bx x.1 ∧ ∃ u : Nat → Value, a' = { tmps := #[.slice A k c, undef, .pointer (some ⟨w.heap.size, 0, none⟩), .pointer (some ⟨a, 0, none⟩), .pointer (some ⟨b, 0, none⟩), u 5, u 6, u 7, u 8, u 9, u 10, .pointer (some ⟨wr.heap.size, 0, none⟩), .pointer (some ⟨bx, 0, none⟩), undef, undef, .pointer (some ⟨a, 0, none⟩), .pointer (some ⟨b, 0, none⟩), .pointer (some ⟨a, 0, none⟩), .bool false, .bool false, .pointer (some ⟨b, 0, none⟩), .bool false, .bool false, .bool false, .slice A k c, .int .i64 k, .bool false, .bool false, undef, undef, undef, undef, undef, .slice A k c, .int .i64 k, .int .i64 k, .bool false, u 37, u 38, u 39, u 40, u 41, u 42, u 43, u 44, u 45, u 46, u 47, u 48, u 49, u 50, u 51, u 52, u 53, u 54, u 55, u 56, u 57, u 58, u 59, u 60, u 61, u 62, u 63, u 64, u 65, u 66, u 67, u 68, u 69, u 70, u 71, u 72, u 73, u 74, u 75, u 76, u 77, u 78, u 79, u 80, u 81, u 82, u 83, u 84, u 85, u 86, u 87, u 88, u 89, u 90, u 91, u 92, u 93, u 94, u 95, u 96, u 97, u 98, u 99, u 100, u 101, u 102, u 103, u 104, u 105, u 106, u 107, u 108, u 109, u 110, u 111, u 112, u 113, u 114, u 115, u 116, u 117, u 118, u 119, u 120, u 121, u 122, u 123, u 124, u 125, u 126, u 127, u 128, u 129, u 130, u 131, u 132, u 133, u 134, u 135, u 136, u 137, u 138, u 139, u 140, .pointer (some ⟨a, 0, none⟩), .func (.func gf1) #[] lb1, .bool false, .pointer (some ⟨a, 0, none⟩), .func (.func gf) #[] lb, .agg (EO.cells x.1).toArray, undef, undef, undef, undef, undef, undef, undef, undef, undef, undef, undef, undef, undef, undef, undef, undef, undef, undef, undef, undef, undef, undef, undef, undef, undef, undef, undef, undef, undef, undef, undef, undef, undef], defers := [] })
        (fun x a' W l o o' hx hl ho hc => by
            obtain ⟨bx, h1, h2, h3⟩ := hx
            refine ⟨bx, h1, ?_, h3⟩
            show (W.putObj l o').heap[bx]? = _
            rw [World.putObj_heap_other (fun e => ?_)]
            · exact h2
            · subst e
              rw [show W.heap[bx]? = _ from h2] at ho
              cases ho
              cases hc) ?assign ?body ?done (fun D c pre W hD hS hx hK => hx.elim)
      case assign =>
        rintro l pre x W KK ⟨h1, v, h2⟩ hK
        have HZ := Lib.hid (gbx_new (E := EO) (te := 33) W zeroOr)
        refine region_in rfl (fun ⟨_, _, h⟩ => h) ?_
        go_wp2_with (refine gwl_store TO x.1 W.heap.size HZ.out rfl rfl ?_)
        have q : Below W.heap.size W ((W.alloc (.cells (EO.cells zeroOr).toArray 33)).setRow W.heap.size (EO.cells x.1).toArray) := row_inO (Nat.le_refl _) (below_new W _)
        refine hK _ _ ⟨q.size, fun k o _ hk _ => (q.block k (Array.getElem?_eq_some_iff.1 hk).1).trans hk⟩ (Kc.below (Still.var (by omega : wr.heap.size < W5.heap.size)) h2.sz q) ⟨h1, v, h2.grow (by omega) q⟩ ⟨W.heap.size, h2.sz, gbx_set HZ.out, intro_w rfl⟩
      case body =>
        rintro l pre x a' W - - ⟨h1, v, h2⟩ ⟨bx, hb, hbx, u'', rfl⟩ hlen
        have H2 := Lib.hid h2
        have x0 : W.cell? ⟨bx, 0, none⟩ = some (.int .u64 x.1.nu) := gbx_cell hbx 0
        have cv : W.cell? ⟨wr.heap.size, 0, none⟩ = some v := obj_cell h2.var
        have VL : Hid ((valsO pre).length ≤ 100) := Lib.hid (by rw [valsO_len]; exact h1)
        have HP : Hid ((pre ++ [x]).length ≤ 100) := Lib.hid (by have := LEN.out; simp at hlen ⊢; omega)
        obtain ⟨A5, n5, c5, rfl⟩ := gown_any h2.own
        have QN := Lib.hid (below_new W (.cells #[.int .u64 x.1.nu] 30))
        have OWN := Lib.hid (gown_below h2.own QN.out)
        obtain ⟨ns, hns⟩ : ∃ ns, (valsO pre).map (·.nu) = ns := ⟨_, rfl⟩
        have HNS := Lib.hid hns
        rw [hns] at OWN
        have NL : Hid (ns.length + 1 ≤ 100000) := Lib.hid (by rw [← hns, List.length_map]; have := VL.out; omega)
        clear hns
        have RDN : Hid (ENu.Rd (W.alloc (.cells #[.int .u64 x.1.nu] 30)) (some ⟨W.heap.size, 0, none⟩) 1 [x.1.nu]) := Lib.hid (gbx_rd (E := ENu) (te := 30) (gbx_new (E := ENu) W x.1.nu))
        have SZ := Lib.hid h2.sz
        clear h1 h2 hbx
        dsimp only
        refine wpIn_block ?_
        refine region_in rfl (fun ⟨_, _, h⟩ => h) ?_
        go_wp2_with (at_builtin; refine nu_app rfl (.tmp 147) (.tmp 150) rfl W5.heap.size _ ns rfl OWN.out _ 1 1 [x.1.nu] rfl RDN.out NL.out (by have := SZ.out; simp; omega) ?_; intro v' w' o1 o2 o3; obtain ⟨A6, n6, c6, rfl⟩ := gown_any o1; have PUSH := Lib.hid (H2.out.push (x := x.1) (by omega) QN.out (by rw [HNS.out]; exact o1) o2 o3); have cv' : w'.cell? ⟨wr.heap.size, 0, none⟩ = some (.slice A5 n5 c5) := nu_kept H2.out (by omega) QN.out o2; have fv' : w'.frozen? ⟨wr.heap.size, 0, none⟩ = false := nu_fz H2.out (by omega) QN.out o2; clear o1 o2 o3)
        obtain ⟨g1, g2, g3⟩ := PUSH.out
        exact ⟨g3, g2, HP.out, _, by rw [valsO_snoc]; exact g1⟩
      case done =>
        rintro D xs W hD hS ⟨hl0, v, h2⟩ hM
        rw [hS] at h2
        have DD : Hid (W5.heap.size ≤ D ∧ W.heap[D]? = some (.deferred (some []))) := Lib.hid ⟨hD, hM⟩
        have PBW : Hid (Pd W Fb b false (os.map trO) t) := Lib.hid (KH.out.keep PB5.out (S := fun k => k = wr.heap.size ∨ W5.heap.size ≤ k) ⟨h2.b0, fun k hk hn => h2.at' k hk (fun e => hn (.inl e))⟩ (fun k hk => by have := LFb.out k hk; omega))
        obtain ⟨A5, c5, rfl, hA5⟩ := gown_form h2.own
        have L2 := Lib.hid h2
        have ol : ((os.map (·.nu)).length) = os.length := by simp
        have DL : Hid (D < W.heap.size) := Lib.hid (Array.getElem?_eq_some_iff.1 hM).1
        rw [ol] at L2
        clear hl0 h2 hM hD hS hA5
        obtain ⟨V2, hV2⟩ : ∃ V2, W.alloc (.cells #[.int .i64 0] 3) = V2 := ⟨_, rfl⟩
        have b2 : Below W.heap.size W V2 := hV2 ▸ below_new W _
        have i2 : V2.heap[W.heap.size]? = some (.cells #[.int .i64 0] 3 (0, 0)) := hV2 ▸ heap_alloc_new W _
        have HV2 := Lib.hid hV2
        have I2 := Lib.hid i2
        have BV2 := Lib.hid b2
        have PB2 : Hid (Pd V2 Fb b false (os.map trO) t) := Lib.hid (KH.out.keep (S := fun _ => False) PBW.out (Fr.below b2) (fun _ _ h => h))
        clear hV2 b2 i2
        go_wp2_with fail
        rw [HV2.out]
        refine (KH.out.all PB2.out).mono ?_; rintro e V3 ⟨gf3, lb3, T3, rfl, q3, -, -, -⟩
        have Q3 := Lib.hid q3
        clear q3
        go_wp2_with fail
        refine (KH.out.all (KH.out.keep (S := fun _ => False) PB2.out (Fr.below Q3.out) (fun _ _ h => h))).mono ?_; rintro e V4 ⟨gf4, lb4, T4, rfl, q4, en4, hT4, tell4⟩
        have B24 : Hid (Below V2.heap.size V2 V4) := Lib.hid (Q3.out.trans (q4.mono Q3.out.size))
        have TL4 := Lib.hid tell4
        have EN4 := Lib.hid en4
        have HT4 := Lib.hid hT4
        have S34 : Hid (V2.heap.size ≤ V3.heap.size) := Lib.hid Q3.out.size
        clear q4 en4 hT4 tell4 Q3
        go_wp2_with fail
        refine (wpIn_wide (n := 9)).1 ?_
        have hi2 : W.heap.size < V2.heap.size := (Array.getElem?_eq_some_iff.1 I2.out).1
        have hs24 := B24.out.size
        have hs34 := S34.out
        have hsz := L2.out.sz
        have hdl := DL.out
        have hdd := DD.out.1
        have BW4 : Hid (Below W.heap.size W V4) := Lib.hid (BV2.out.trans (B24.out.mono BV2.out.size))
        have I4 : Hid (V4.heap[W.heap.size]? = some (.cells #[.int .i64 0] 3 (0, 0))) := Lib.hid ((B24.out.block _ hi2).trans I2.out)
        have L4 : Hid (Lg W5 wr.heap.size os (.slice A5 os.length c5) V4) := Lib.hid (L2.out.grow (by omega) BW4.out)
        have D4 : Hid (V4.heap[D]? = some (.deferred (some []))) := Lib.hid ((BW4.out.block D hdl).trans DD.out.2)
        have OB : Hid (∀ k, (Value.slice A5 os.length c5).ownBlock = some k → k < W.heap.size) := Lib.hid (fun k hk => (gown_lt L2.out.own hk).2)
        clear I2 L2 DD
        refine range_calm (S := fun _ k => k = W.heap.size) (by decide) rfl EN4.out (Still.const _ _) (TL4.out V4 (fun _ k => k = W.heap.size) 8 (Fr.refl _ _) (Still.const _ _) (fun k hk => by omega) (fun k hk c => by
            rcases (HT4.out k hk).2 with h | h
            · have := LFb.out k h; omega
            · omega) (by decide)) (fun _ => rfl)
          (fun pre X => Iw V4 W.heap.size (.cells #[.int .i64 (pre.length : Int)] 3 (0, 0)) X)
          (fun _ pre _ => ¬ (valsO pre <+: os.map trO))
          (fun s A C hj b _ => hj.below (by omega) b (Nat.le_refl _))
          (fun _ s A C hj _ _ => hj)
          (Iw.refl I4.out)
          (fun x a' X => ∃ bx, V4.heap.size ≤ bx ∧ EO.Bx 33 X bx x.1 ∧ ∃ u : Nat → Value, a' = { tmps := #[.slice A k c, undef, .pointer (some ⟨w.heap.size, 0, none⟩), .pointer (some ⟨a, 0, none⟩), .pointer (some ⟨b, 0, none⟩), u 5, u 6, u 7, u 8, u 9, u 10, .pointer (some ⟨wr.heap.size, 0, none⟩), undef, .pointer (some ⟨W.heap.size, 0, none⟩), .pointer (some ⟨bx, 0, none⟩), .pointer (some ⟨a, 0, none⟩), .pointer (some ⟨b, 0, none⟩), .pointer (some ⟨a, 0, none⟩), .bool false, .bool false, .pointer (some ⟨b, 0, none⟩), .bool false, .bool false, .bool false, .slice A k c, .int .i64 k, .bool false, .bool false, undef, undef, undef, undef, undef, .slice A k c, .int .i64 k, .int .i64 k, .bool false, u 37, u 38, u 39, u 40, u 41, u 42, u 43, u 44, u 45, u 46, u 47, u 48, u 49, u 50, u 51, u 52, u 53, u 54, u 55, u 56, u 57, u 58, u 59, u 60, u 61, u 62, u 63, u 64, u 65, u 66, u 67, u 68, u 69, u 70, u 71, u 72, u 73, u 74, u 75, u 76, u 77, u 78, u 79, u 80, u 81, u 82, u 83, u 84, u 85, u 86, u 87, u 88, u 89, u 90, u 91, u 92, u 93, u 94, u 95, u 96, u 97, u 98, u 99, u 100, u 101, u 102, u 103, u 104, u 105, u 106, u 107, u 108, u 109, u 110, u 111, u 112, u 113, u 114, u 115, u 116, u 117, u 118, u 119, u 120, u 121, u 122, u 123, u 124, u 125, u 126, u 127, u 128, u 129, u 130, u 131, u 132, u 133, u 134, u 135, u 136, u 137, u 138, u 139, u 140, .pointer (some ⟨a, 0, none⟩), .func (.func gf1) #[] lb1, .bool false, .pointer (some ⟨a, 0, none⟩), .func (.func gf) #[] lb, undef, undef, undef, undef, undef, undef, .pointer (some ⟨b, 0, none⟩), .func (.func gf3) #[] lb3, .bool false, .pointer (some ⟨b, 0, none⟩), .func (.func gf4) #[] lb4, .agg (EO.cells x.1).toArray, undef, undef, undef, undef, undef, undef, undef, undef, undef, undef, undef, undef, undef, undef, undef, undef, undef, undef, undef, undef, undef, undef], defers := [] })
          (fun x a' W l o o' hx hl ho hc => by
              obtain ⟨bx, h1, h2, h3⟩ := hx
              refine ⟨bx, h1, ?_, h3⟩
              show (W.putObj l o').heap[bx]? = _
              rw [World.putObj_heap_other (fun e => ?_)]
              · exact h2
              · subst e
                rw [show W.heap[bx]? = _ from h2] at ho
                cases ho
                cases hc) ?assign2 ?body2 ?done2 ?stop2
        case assign2 =>
          rintro l pre x W KK h2 hK
          have HZ := Lib.hid (gbx_new (E := EO) (te := 33) W zeroOr)
          refine region_in rfl (fun ⟨_, _, h⟩ => h) ?_
          go_wp2_with (refine gwl_store TO x.1 W.heap.size HZ.out rfl rfl ?_)
          have q : Below W.heap.size W ((W.alloc (.cells (EO.cells zeroOr).toArray 33)).setRow W.heap.size (EO.cells x.1).toArray) := row_inO (Nat.le_refl _) (below_new W _)
          refine hK _ _ ⟨q.size, fun k o _ hk _ => (q.block k (Array.getElem?_eq_some_iff.1 hk).1).trans hk⟩ (Kc.below (Still.const _ _) (Nat.le_refl _) q) (h2.grow (by omega) q) ⟨W.heap.size, h2.sz, gbx_set HZ.out, intro_w rfl⟩
        case stop2 =>
          rintro D2 c2 pre2 X hD2 hS2 hx2 hK2
          exact absurd hS2 hx2
        case body2 =>
          rintro l pre x a' X - - h2 ⟨bx, hb, hbx, u'', rfl⟩ hlen
          have hlen' : pre.length < os.length := by rw [List.length_map] at hlen; exact hlen
          obtain ⟨y, hy⟩ : ∃ y, os[pre.length]? = some y := ⟨os[pre.length], List.getElem?_eq_getElem hlen'⟩
          have HY : Hid ((os.map trO)[pre.length]? = some (trO y)) := Lib.hid (by rw [List.getElem?_map, hy]; rfl)
          have hy' : (os.map (·.nu))[pre.length]? = some y.nu := by rw [List.getElem?_map, hy]; rfl
          obtain ⟨bv, cv, ev⟩ := gown_slot L4.out.own (by rw [List.length_map]; omega)
          injection ev with e1 e9 e2
          clear e9
          subst e1 e2
          have H2 := Lib.hid h2
          have x0 : X.cell? ⟨bx, 0, none⟩ = some (.int .u64 x.1.nu) := gbx_cell hbx 0
          have ci : X.cell? ⟨W.heap.size, 0, none⟩ = some (.int .i64 (pre.length : Int)) := obj_cell h2.sm
          have fi : X.frozen? ⟨W.heap.size, 0, none⟩ = false := obj_fz h2.sm 0
          have cl : X.cell? ⟨wr.heap.size, 0, none⟩ = some (.slice (some ⟨bv, 0, none⟩) os.length c5) := h2.cell (by omega) (by omega) (obj_cell L4.out.var)
          have hbv := OB.out bv rfl
          have cn : X.cell? ⟨bv, pre.length, none⟩ = some (.int .u64 y.nu) := by
            have := gown_at L4.out.own hy' (i := 0) (by decide)
            rw [show pre.length * ENu.N + 0 = pre.length from by simp [ENu]] at this
            exact h2.cell (by omega) (by omega) this
          have rr : X.heap[w.heap.size]? = some (.cells #[.bool false] 4 (0, 0)) := (h2.at' _ (by omega) (by omega)).trans ((L4.out.at' _ (by omega) (by omega)).trans ((B25.out.block _ hw2).trans R2.out))
          have cr : X.cell? ⟨w.heap.size, 0, none⟩ = some (.bool false) := obj_cell rr
          have fr : X.frozen? ⟨w.heap.size, 0, none⟩ = false := obj_fz rr 0
          have hge : decide ((os.length : Int) ≤ (pre.length : Int)) = false := decide_eq_false (by omega)
          have hi : (pre.length : Int) < (os.length : Int) := by omega
          have h100 : pre.length < 100 := by have := LEN.out; omega
          clear h2 hbx hy hy' rr
          obtain ⟨b_, hbq⟩ : ∃ b_, (x.1.nu != y.nu) = b_ := ⟨_, rfl⟩
          have HBQ := Lib.hid hbq
          clear hbq hlen
          dsimp only
          refine wpIn_block ?_
          apply wpIn_seq_k; intro KB hKB
          apply wpIn_seq_k; intro KA hKA
          refine region_held_in (S := fun U => U = X.drew) rfl (fun ⟨_, _, h⟩ => h) (by kernel_rfl) rfl (fun hH => ?_)
          refine wpAnyH_take (i := 0) (v := .int .i64 (pre.length : Int)) rfl (by kernel_rfl) (by kernel_rfl) (by kernel_rfl) (fun _ _ _ h => h) (.inl ⟨by rfl, ?_⟩) (by assumption) ?_
          · intro W hW; subst hW; go_simp
          try simp only [List.getElem_toArray, List.getElem_cons_zero, Act.put, List.setIfInBounds_toArray, List.set_cons_zero, List.set_cons_succ]
          refine wpAnyH_take (i := 1) (v := .slice (some ⟨bv, 0, none⟩) os.length c5) rfl (by kernel_rfl) (by kernel_rfl) (by kernel_rfl) (fun _ _ _ h => h) (.inl ⟨by rfl, ?_⟩) (by assumption) ?_
          · intro W hW; subst hW; go_simp
          try simp only [List.getElem_toArray, List.getElem_cons_zero, List.getElem_cons_succ, Act.put, List.setIfInBounds_toArray, List.set_cons_zero, List.set_cons_succ]
          refine wpAnyH_take (i := 2) (v := .int .i64 (os.length : Int)) rfl (by kernel_rfl) (by kernel_rfl) (by kernel_rfl) (fun _ _ _ h => h) (.inl ⟨by rfl, ?_⟩) (by assumption) ?_
          · intro W hW; subst hW; go_simp
          try simp only [List.getElem_toArray, List.getElem_cons_zero, List.getElem_cons_succ, Act.put, List.setIfInBounds_toArray, List.set_cons_zero, List.set_cons_succ]
          refine wpAnyH_take (i := 3) (v := .bool false) rfl (by kernel_rfl) (by kernel_rfl) (by kernel_rfl) (fun _ _ _ h => h) (.inl ⟨by rfl, ?_⟩) (by assumption) ?_
          · intro W hW; subst hW; go_simp
          try simp only [List.getElem_toArray, List.getElem_cons_zero, List.getElem_cons_succ, Act.put, List.setIfInBounds_toArray, List.set_cons_zero, List.set_cons_succ]
          refine wpAnyH_take (i := 4) (v := .bool false) rfl (by kernel_rfl) (by kernel_rfl) (by kernel_rfl) (fun _ _ _ h => h) (.inl ⟨by rfl, ?_⟩) (by assumption) ?_
          · intro W hW; subst hW; go_simp
          try simp only [List.getElem_toArray, List.getElem_cons_zero, List.getElem_cons_succ, Act.put, List.setIfInBounds_toArray, List.set_cons_zero, List.set_cons_succ]
          refine wpAnyH_take (i := 5) (v := .pointer (some ⟨bx, 0, none⟩)) rfl (by kernel_rfl) (by kernel_rfl) (by kernel_rfl) (fun _ _ _ h => h) (.inl ⟨by rfl, ?_⟩) (by assumption) ?_
          · intro W hW; subst hW; go_simp
          try simp only [List.getElem_toArray, List.getElem_cons_zero, List.getElem_cons_succ, Act.put, List.setIfInBounds_toArray, List.set_cons_zero, List.set_cons_succ]
          refine wpAnyH_take (i := 6) (v := .int .u64 x.1.nu) rfl (by kernel_rfl) (by kernel_rfl) (by kernel_rfl) (fun _ _ _ h => h) (.inl ⟨by rfl, ?_⟩) (by assumption) ?_
          · intro W hW; subst hW; go_simp
          try simp only [List.getElem_toArray, List.getElem_cons_zero, List.getElem_cons_succ, Act.put, List.setIfInBounds_toArray, List.set_cons_zero, List.set_cons_succ]
          refine wpAnyH_take (i := 7) (v := .slice (some ⟨bv, 0, none⟩) os.length c5) rfl (by kernel_rfl) (by kernel_rfl) (by kernel_rfl) (fun _ _ _ h => h) (.inl ⟨by rfl, ?_⟩) (by assumption) ?_
          · intro W hW; subst hW; go_simp
          try simp only [List.getElem_toArray, List.getElem_cons_zero, List.getElem_cons_succ, Act.put, List.setIfInBounds_toArray, List.set_cons_zero, List.set_cons_succ]
          refine wpAnyH_take (i := 8) (v := .int .i64 (pre.length : Int)) rfl (by kernel_rfl) (by kernel_rfl) (by kernel_rfl) (fun _ _ _ h => h) (.inl ⟨by rfl, ?_⟩) (by assumption) ?_
          · intro W hW; subst hW; go_simp
          try simp only [List.getElem_toArray, List.getElem_cons_zero, List.getElem_cons_succ, Act.put, List.setIfInBounds_toArray, List.set_cons_zero, List.set_cons_succ]
          refine wpAnyH_take (i := 9) (v := .pointer (some ⟨bv, pre.length, none⟩)) rfl (by kernel_rfl) (by kernel_rfl) (by kernel_rfl) (fun _ _ _ h => h) (.inl ⟨by rfl, ?_⟩) (by assumption) ?_
          · intro W hW; subst hW; go_simp
          try simp only [List.getElem_toArray, List.getElem_cons_zero, List.getElem_cons_succ, Act.put, List.setIfInBounds_toArray, List.set_cons_zero, List.set_cons_succ]
          refine wpAnyH_take (i := 10) (v := .int .u64 y.nu) rfl (by kernel_rfl) (by kernel_rfl) (by kernel_rfl) (fun _ _ _ h => h) (.inl ⟨by rfl, ?_⟩) (by assumption) ?_
          · intro W hW; subst hW; go_simp
          try simp only [List.getElem_toArray, List.getElem_cons_zero, List.getElem_cons_succ, Act.put, List.setIfInBounds_toArray, List.set_cons_zero, List.set_cons_succ]
          refine wpAnyH_take (i := 11) (v := .bool b_) rfl (by kernel_rfl) (by kernel_rfl) (by kernel_rfl) (fun _ _ _ h => h) (.inl ⟨by rfl, ?_⟩) (by assumption) ?_
          · intro W hW; subst hW; have hb := HBQ.out; go_simp
          try simp only [List.getElem_toArray, List.getElem_cons_zero, List.getElem_cons_succ, Act.put, List.setIfInBounds_toArray, List.set_cons_zero, List.set_cons_succ]
          refine wpAnyH_take (i := 12) (v := .bool b_) rfl (by kernel_rfl) (by kernel_rfl) (by kernel_rfl) (fun _ _ _ h => h) (.inl ⟨by rfl, ?_⟩) (by assumption) ?_
          · intro W hW; subst hW; go_simp
          try simp only [List.getElem_toArray, List.getElem_cons_zero, List.getElem_cons_succ, Act.put, List.setIfInBounds_toArray, List.set_cons_zero, List.set_cons_succ]
          refine wpAnyH_done (by decide +kernel) ?_ _
          refine hKA _ _ ?_
          have ci' : X.drew.cell? ⟨W.heap.size, 0, none⟩ = some (.int .i64 (pre.length : Int)) := ci
          have fi' : X.drew.frozen? ⟨W.heap.size, 0, none⟩ = false := fi
          have cr' : X.drew.cell? ⟨w.heap.size, 0, none⟩ = some (.bool false) := cr
          have fr' : X.drew.frozen? ⟨w.heap.size, 0, none⟩ = false := fr
          cases b_
          · refine wpIn_cond_false rfl ?_
            apply wpIn_skip
            refine hKB _ _ ?_
            refine region_in rfl (fun ⟨_, _, h⟩ => h) ?_
            go_wp2
            refine ⟨(by first | exact ((KeepsOthers.drew X).trans (KeepsOthers.setCell _ _ _)).from _ | exact ((KeepsOthers.setCell X _ _).trans (KeepsOthers.drew _)).from _), Kc.fr (by first | exact Fr.same ⟨(Below.refl 0 X).drew, fun _ _ _ => rfl⟩ (Fr.set (S := fun k => k = W.heap.size) (p := ⟨W.heap.size, 0, none⟩) rfl _) | exact Fr.same (Fr.set (S := fun k => k = W.heap.size) (p := ⟨W.heap.size, 0, none⟩) rfl _) ⟨(Below.refl 0 _).drew, fun _ _ _ => rfl⟩), ?_⟩
            show Iw V4 W.heap.size (.cells #[.int .i64 (((pre ++ [x]).length : Nat) : Int)] 3 (0, 0)) _
            rw [List.length_append, Int.natCast_add]
            first | exact (H2.out.put (t := 3) (v := .int .i64 ((pre.length : Int) + 1))).drew | exact H2.out.drew.put (t := 3) (v := .int .i64 ((pre.length : Int) + 1))
          · refine wpIn_cond_true rfl ?_
            apply wpIn_seq_k; intro K9 h9
            refine region_in rfl (fun ⟨_, _, h⟩ => h) ?_
            go_wp2
            apply wpIn_ret
            refine ⟨((KeepsOthers.drew X).trans (KeepsOthers.setCell _ _ _)).from _, fun hpre => ?_⟩
            obtain ⟨rest, hr⟩ := hpre
            have e := HY.out
            rw [← hr, valsO_snoc, List.append_assoc, ← valsO_len, List.getElem?_append_right (Nat.le_refl _)] at e
            simp at e
            have hbq := HBQ.out
            rw [e] at hbq
            simp [trO] at hbq
        case done2 =>
          rintro D2 ys X hD2 hS2 h2 hK2
          have hyl : (ys.length : Int) = (os.length : Int) := by rw [← valsO_len, hS2, List.length_map]
          rw [hyl] at h2
          have rr : X.heap[w.heap.size]? = some (.cells #[.bool false] 4 (0, 0)) := (h2.at' _ (by omega) (by omega)).trans ((L4.out.at' _ (by omega) (by omega)).trans ((B25.out.block _ hw2).trans R2.out))
          have d1 : X.heap[D]? = some (.deferred (some [])) := (h2.at' D (by have := BW4.out.size; omega) (by omega)).trans D4.out
          have ci : X.cell? ⟨W.heap.size, 0, none⟩ = some (.int .i64 (os.length : Int)) := obj_cell h2.sm
          have cl : X.cell? ⟨wr.heap.size, 0, none⟩ = some (.slice A5 os.length c5) := h2.cell (by omega) (by omega) (obj_cell L4.out.var)
          have BX : Hid (Below w.heap.size w X) := Lib.hid (by
            have b3 : Below w.heap.size w W5 := B2.out.trans (B25.out.mono B2.out.size)
            have b4 : Below w.heap.size w V4 := below_fr b3 (S := fun k => k = wr.heap.size) ⟨L4.out.b0, fun k hk hn => L4.out.at' k hk hn⟩ (fun k hk c => by have c' : k = wr.heap.size := c; omega)
            exact below_fr b4 h2.fr (fun k hk c => by rcases c with c | c <;> omega))
          have RR := Lib.hid rr
          have D1 := Lib.hid d1
          have DK := Lib.hid hK2
          have hD2' := hD2
          have heq : ((os.length : Int) == (os.length : Int)) = true := by simp
          clear h2 rr d1 hK2 hS2 hyl
          go_wp2_with fail
          refine (KN.out _).mono ?_; rintro e X2 ⟨rfl, q⟩
          have hXl : w.heap.size < X.heap.size := (Array.getElem?_eq_some_iff.1 RR.out).1
          have R9 : Hid (X2.heap[w.heap.size]? = some (.cells #[.bool false] 4 (0, 0))) := Lib.hid ((q.block _ hXl).trans RR.out)
          have E1 : Hid (X2.heap[D]? = some (.deferred (some []))) := Lib.hid ((q.block _ (Array.getElem?_eq_some_iff.1 D1.out).1).trans D1.out)
          have E2 : Hid (X2.heap[D2]? = some (.deferred (some []))) := Lib.hid ((q.block _ (Array.getElem?_eq_some_iff.1 DK.out).1).trans DK.out)
          have BX2 : Hid (Below w.heap.size w X2) := Lib.hid (BX.out.trans (q.mono BX.out.size))
          have cr : X2.cell? ⟨w.heap.size, 0, none⟩ = some (.bool false) := obj_cell R9.out
          have fr : X2.frozen? ⟨w.heap.size, 0, none⟩ = false := obj_fz R9.out 0
          clear q ci cl
          go_wp2_with fail
          have BR := heap_setCell_same X2 w.heap.size 0 _ _ (.bool true) R9.out
          have hne1 : D ≠ w.heap.size := by omega
          have hne2 : D2 ≠ w.heap.size := by have := BW4.out.size; omega
          have hne3 : D2 ≠ D := by have := BW4.out.size; omega
          refine ret_marks [D2, D] rfl ?_ ?_ (ret_cell6 rfl _ _ w.heap.size true rfl ?_) ⟨rfl, ?_⟩
          · simp; exact hne3
          · intro E hE
            simp only [List.mem_cons, List.not_mem_nil, or_false] at hE
            rcases hE with rfl | rfl
            · exact (heap_setCell_other X2 _ _ _ hne2).trans E2.out
            · exact (heap_setCell_other X2 _ _ _ hne1).trans E1.out
          · rw [cell_of_row _ _ _ _ _ _ ((unmark_other [D2, D] _ w.heap.size (by simp; exact ⟨fun e => hne2 e.symm, fun e => hne1 e.symm⟩)).trans BR)]; rfl
          · have BF := BX2.out.setCell (p := ⟨w.heap.size, 0, none⟩) (Nat.le_refl _) (.bool true)
            refine unmark_below [D2, D] _ _ _ ?_ BF.size BF
            intro E hE
            simp only [List.mem_cons, List.not_mem_nil, or_false] at hE
            have := BW4.out.size
            rcases hE with rfl | rfl <;> omega
    case pos =>
      have hd : decide ((k : Int) < n) = true := decide_eq_true (by omega)
      have hki : (k : Int) < (n : Int) := by omega
      obtain ⟨x, hx⟩ : ∃ x, l[k]? = some x := ⟨l[k]'(by have := HR.out.1; omega), List.getElem?_eq_getElem _⟩
      obtain ⟨bb, oo, rfl, hrg⟩ := grd_rng HR.out hx
      have OKX := Lib.hid (HOK.out x (List.mem_of_getElem? hx))
      have RG : Hid (wr.rangeAt bb (oo + k * 7) (EOp.cells x)) := Lib.hid (rng_below hrg PL0.out.bl (Nat.le_refl _))
      obtain ⟨V1, hV1, bV1, yV1, zV1, sV1⟩ := put_op wr x
      obtain ⟨V2, hV2, bV2, yV2, zV2, sV2⟩ := put_or x.o (Below.refl V1.heap.size V1)
      have HV1 := Lib.hid hV1
      have ZV1 := Lib.hid zV1
      have HV2 := Lib.hid hV2
      have ZV2 := Lib.hid zV2
      have OR1 : Hid (V1.rangeAt wr.heap.size 1 (EO.cells x.o)) := Lib.hid (by have := op_or (gbx_rng yV1); rwa [Nat.zero_add] at this)
      have c23 : V2.cell? ⟨V1.heap.size, 3, none⟩ = some (.int .i64 x.o.pr) := gbx_cell yV2 3
      have BV2 := Lib.hid (bV1.trans (bV2.mono bV1.size))
      have YV1 := Lib.hid yV1
      have BV12 := Lib.hid bV2
      have YV2 := Lib.hid yV2
      clear hx hrg hV1 bV1 yV1 zV1 sV1 hV2 bV2 yV2 zV2 sV2
      apply wp_seq_k; intro K1 h1; have H1 := Lib.hid h1; clear h1
      go_wp2_with fail
      refine H1.out _ _ ?_
      clear H1
      apply wp_seq_k; intro K2 h2; have H2 := Lib.hid h2; clear h2
      go_wp2_with fail
      refine H2.out _ _ ?_
      clear H2
      apply wp_seq_k; intro K3 h3; have H3 := Lib.hid h3; clear h3
      refine wp_block ?_
      apply wp_seq_k; intro K4 h4; have H4 := Lib.hid h4; clear h4
      go_wp2_with fail
      refine H4.out _ _ ?_
      clear H4
      apply wp_seq_k; intro K5 h5; have H5 := Lib.hid h5; clear h5
      go_wp2_with (first | ((with_reducible refine gwl_load TOp bb (oo + k * 7) RG.out ?_ ?_ ?_); rfl; rfl) | (refine gwl_store TOp x wr.heap.size ZV1.out rfl rfl ?_; rw [HV1.out]))
      refine H5.out _ _ ?_
      clear H5
      apply wp_seq_k; intro K6 h6; have H6 := Lib.hid h6; clear h6
      go_wp2_with (first | ((with_reducible refine gwl_load TO wr.heap.size 1 OR1.out ?_ ?_ ?_); rfl; rfl) | (refine gwl_store TO x.o V1.heap.size ZV2.out rfl rfl ?_; rw [HV2.out]))
      refine H6.out _ _ ?_
      clear H6
      have cont : Hid (∀ (aa : Act) (WW : World), False → False) := Lib.hid (fun _ _ h => h)
      by_cases hlo : x.o.pr < 1
      · have hl1 : decide (x.o.pr < 1) = true := decide_eq_true hlo
        go_wp2_with fail
        refine H3.out _ _ ?_
        go_wp2_with fail
        refine HKK.out _ _ (Handed.intro (m - 1) (by have := HM.out; omega) (HJ.out _ _ _ ?_))
        exact ⟨k + 1, os, t, by have := HM.out; omega, by omega, PL0.out.below KH.out BV2.out, PR.out, by omega, intro_w rfl⟩
      by_cases hhi : 1000 < x.o.pr
      · have hl1 : decide (x.o.pr < 1) = false := decide_eq_false hlo
        have hl2 : decide (1000 < x.o.pr) = true := decide_eq_true hhi
        go_wp2_with fail
        refine H3.out _ _ ?_
        go_wp2_with fail
        refine HKK.out _ _ (Handed.intro (m - 1) (by have := HM.out; omega) (HJ.out _ _ _ ?_))
        exact ⟨k + 1, os, t, by have := HM.out; omega, by omega, PL0.out.below KH.out BV2.out, PR.out, by omega, intro_w rfl⟩
      have hl1 : decide (x.o.pr < 1) = false := decide_eq_false hlo
      have hl2 : decide (1000 < x.o.pr) = false := decide_eq_false hhi
      have hpr : Hid (1 ≤ x.o.pr ∧ x.o.pr ≤ 1000) := Lib.hid ⟨by omega, by omega⟩
      have hw1 : -9223372036854775808 ≤ 1001 - x.o.pr := by omega
      have hw2 : 1001 - x.o.pr ≤ 9223372036854775807 := by omega
      have OKO : Hid ((Or.mk x.o.nu x.o.ac true x.o.pr x.o.le).ok) := Lib.hid ⟨OKX.out.o.nu, OKX.out.o.ac, OKX.out.o.pr, OKX.out.o.le⟩
      obtain ⟨V3, hV3, bV3, yV3, zV3, sV3⟩ := put_or x.o (Below.refl V2.heap.size V2)
      have HV3 := Lib.hid hV3
      have ZV3 := Lib.hid zV3
      have RV2 := Lib.hid (gbx_rng YV2.out)
      have s12 : V1.heap.size < V2.heap.size := (Array.getElem?_eq_some_iff.1 YV2.out).1
      have s01 : wr.heap.size < V1.heap.size := (Array.getElem?_eq_some_iff.1 YV1.out).1
      have y2 : EO.Bx 33 V3 V1.heap.size x.o := (bV3.block _ s12).trans YV2.out
      have y1 : EOp.Bx 35 V3 wr.heap.size x := (bV3.block _ (by omega)).trans ((BV12.out.block _ s01).trans YV1.out)
      have ea : EO.Bx 33 (V3.setCell ⟨V1.heap.size, 2, none⟩ (.bool true)) V1.heap.size ⟨x.o.nu, x.o.ac, true, x.o.pr, x.o.le⟩ := gbx_put y2 rfl
      have ta : EO.Bx 33 (V3.setCell ⟨V1.heap.size, 2, none⟩ (.bool true)) V2.heap.size x.o := (heap_setCell_other V3 ⟨V1.heap.size, 2, none⟩ V2.heap.size _ (by show V2.heap.size ≠ V1.heap.size; omega)).trans yV3
      have tb : EO.Bx 33 ((V3.setCell ⟨V1.heap.size, 2, none⟩ (.bool true)).setCell ⟨V2.heap.size, 2, none⟩ (.bool false)) V2.heap.size ⟨x.o.nu, x.o.ac, false, x.o.pr, x.o.le⟩ := gbx_put ta rfl
      have tc : EO.Bx 33 (((V3.setCell ⟨V1.heap.size, 2, none⟩ (.bool true)).setCell ⟨V2.heap.size, 2, none⟩ (.bool false)).setCell ⟨V2.heap.size, 3, none⟩ (.int .i64 (1001 - x.o.pr))) V2.heap.size (trO ⟨x.o.nu, x.o.ac, true, x.o.pr, x.o.le⟩) := gbx_put tb rfl
      have g3 : V3.cell? ⟨V1.heap.size, 3, none⟩ = some (.int .i64 x.o.pr) := gbx_cell y2 3
      have g2 : V3.cell? ⟨V1.heap.size, 2, none⟩ = some (.bool x.o.bu) := gbx_cell y2 2
      have z2 : V3.frozen? ⟨V1.heap.size, 2, none⟩ = false := gbx_fz y2 2
      have g22 : (V3.setCell ⟨V1.heap.size, 2, none⟩ (.bool true)).cell? ⟨V2.heap.size, 2, none⟩ = some (.bool x.o.bu) := gbx_cell ta 2
      have z22 : (V3.setCell ⟨V1.heap.size, 2, none⟩ (.bool true)).frozen? ⟨V2.heap.size, 2, none⟩ = false := gbx_fz ta 2
      have g23 : ((V3.setCell ⟨V1.heap.size, 2, none⟩ (.bool true)).setCell ⟨V2.heap.size, 2, none⟩ (.bool false)).cell? ⟨V2.heap.size, 3, none⟩ = some (.int .i64 x.o.pr) := gbx_cell tb 3
      have z23 : ((V3.setCell ⟨V1.heap.size, 2, none⟩ (.bool true)).setCell ⟨V2.heap.size, 2, none⟩ (.bool false)).frozen? ⟨V2.heap.size, 3, none⟩ = false := gbx_fz tb 3
      obtain ⟨V4, hV4⟩ : ∃ V4, ((V3.setCell ⟨V1.heap.size, 2, none⟩ (.bool true)).setCell ⟨V2.heap.size, 2, none⟩ (.bool false)).setCell ⟨V2.heap.size, 3, none⟩ (.int .i64 (1001 - x.o.pr)) = V4 := ⟨_, rfl⟩
      have HV4 := Lib.hid hV4
      have P4 : Hid (TqH Pd W2 (trX wr.heap.size V1.heap.size V2.heap.size x ⟨x.o.nu, x.o.ac, true, x.o.pr, x.o.le⟩) V4 a b os (os.map trO) t t) := Lib.hid (by
        have q : Below wr.heap.size wr V4 := by
          rw [← hV4]
          have q3 := BV2.out.trans (bV3.mono BV2.out.size)
          exact ((q3.setCell (by show wr.heap.size ≤ V1.heap.size; omega) _).setCell (by show wr.heap.size ≤ V2.heap.size; omega) _).setCell (by show wr.heap.size ≤ V2.heap.size; omega) _
        have := PL0.out.pushL KH.out q (trX wr.heap.size V1.heap.size V2.heap.size x ⟨x.o.nu, x.o.ac, true, x.o.pr, x.o.le⟩) (fun p hp => by
          simp only [trX, List.mem_cons, List.not_mem_nil, or_false] at hp
          rcases hp with rfl | rfl | rfl
          · refine ⟨?_, Nat.le_refl _⟩
            rw [← hV4]
            exact (heap_setCell_other _ ⟨V2.heap.size, 3, none⟩ wr.heap.size _ (by show wr.heap.size ≠ V2.heap.size; omega)).trans ((heap_setCell_other _ ⟨V2.heap.size, 2, none⟩ wr.heap.size _ (by show wr.heap.size ≠ V2.heap.size; omega)).trans ((heap_setCell_other _ ⟨V1.heap.size, 2, none⟩ wr.heap.size _ (by show wr.heap.size ≠ V1.heap.size; omega)).trans y1))
          · refine ⟨?_, by show wr.heap.size ≤ V1.heap.size; omega⟩
            rw [← hV4]
            exact (heap_setCell_other _ ⟨V2.heap.size, 3, none⟩ V1.heap.size _ (by show V1.heap.size ≠ V2.heap.size; omega)).trans ((heap_setCell_other _ ⟨V2.heap.size, 2, none⟩ V1.heap.size _ (by show V1.heap.size ≠ V2.heap.size; omega)).trans ea)
          · refine ⟨?_, by show wr.heap.size ≤ V2.heap.size; omega⟩
            rw [← hV4]
            exact tc)
        rwa [List.append_nil] at this)
      clear hV3 bV3 yV3 zV3 sV3 y1 y2 ea ta tb tc hV4 cont
      apply wp_seq_k; intro K9 h9; have H9 := Lib.hid h9; clear h9
      go_wp2_with fail
      refine H9.out _ _ ?_
      clear H9
      apply wp_seq_k; intro K10 h10; have H10 := Lib.hid h10; clear h10
      go_wp2_with (first | ((with_reducible refine gwl_load TO V1.heap.size 0 RV2.out ?_ ?_ ?_); rfl; rfl) | (refine gwl_store TO x.o V2.heap.size ZV3.out rfl rfl ?_; rw [HV3.out]))
      refine H10.out _ _ ?_
      clear H10
      apply wp_seq_k; intro K11 h11; have H11 := Lib.hid h11; clear h11
      go_wp2_with fail
      refine H11.out _ _ ?_
      clear H11
      apply wp_seq_k; intro K12 h12; have H12 := Lib.hid h12; clear h12
      go_wp2_with fail
      refine H12.out _ _ ?_
      clear H12 g3 g2 z2 g22 z22 g23 z23 c23
      rw [HV4.out]
      refine wp_midw (fun a' wr' => ∃ (os' : List Or) (t' : Nat) (ev : Int), TqH Pd W2 (trX wr.heap.size V1.heap.size V2.heap.size x ⟨x.o.nu, x.o.ac, true, x.o.pr, x.o.le⟩) wr' a b os' (os'.map trO) t' t' ∧ Pr1 os' ∧ t' ≤ k + 1 ∧ ∃ u : Nat → Value, a' = { tmps := #[.slice (some ⟨bb, oo, none⟩) n c, undef, .pointer (some ⟨w.heap.size, 0, none⟩), .pointer (some ⟨a, 0, none⟩), .pointer (some ⟨b, 0, none⟩), u 5, .pointer (some ⟨wr.heap.size, 0, none⟩), .pointer (some ⟨V1.heap.size, 0, none⟩), .pointer (some ⟨V2.heap.size, 0, none⟩), .int .i64 ev, .int .i64 ev, undef, undef, undef, undef, .pointer (some ⟨a, 0, none⟩), .pointer (some ⟨b, 0, none⟩), .pointer (some ⟨a, 0, none⟩), .bool false, .bool false, .pointer (some ⟨b, 0, none⟩), .bool false, .bool false, .bool false, .slice (some ⟨bb, oo, none⟩) n c, .int .i64 n, .bool false, .bool false, undef, undef, undef, undef, undef, .slice (some ⟨bb, oo, none⟩) n c, .int .i64 n, .int .i64 k, u 36, u 37, u 38, u 39, u 40, u 41, u 42, u 43, u 44, u 45, u 46, u 47, u 48, u 49, u 50, u 51, u 52, u 53, u 54, u 55, u 56, u 57, u 58, u 59, u 60, u 61, u 62, u 63, u 64, u 65, u 66, u 67, u 68, u 69, u 70, u 71, u 72, u 73, u 74, u 75, u 76, u 77, u 78, u 79, u 80, u 81, u 82, u 83, u 84, u 85, u 86, u 87, u 88, u 89, u 90, u 91, u 92, u 93, u 94, u 95, u 96, u 97, u 98, u 99, u 100, u 101, u 102, u 103, u 104, u 105, u 106, u 107, u 108, u 109, u 110, u 111, u 112, u 113, u 114, u 115, u 116, u 117, u 118, u 119, u 120, u 121, u 122, u 123, u 124, u 125, u 126, u 127, u 128, u 129, u 130, u 131, u 132, u 133, u 134, u 135, u 136, u 137, u 138, u 139, u 140, undef, undef, undef, undef, undef, undef, undef, undef, undef, undef, undef, undef, undef, undef, undef, undef, undef, undef, undef, undef, undef, undef, undef, undef, undef, undef, undef, undef, undef, undef, undef, undef, undef, undef, undef, undef, undef, undef, undef], defers := [] }) ?swX ?tlX
      case swX =>
        intro KM hKM
        have kz : V4.cell? ⟨wr.heap.size, 0, none⟩ = some (.int .i64 x.kd) := gbx_cell P4.out.x.b1 0
        apply wp_seq_k; intro K13 h13; have H13 := Lib.hid h13; clear h13
        go_wp2_with fail
        refine H13.out _ _ ?_
        clear H13
        refine wp_block ?_
        by_cases hk1 : x.kd = 1
        · have e1 : (x.kd == 1) = true := by rw [beq_iff_eq]; omega
          obtain ⟨ev, hev⟩ : ∃ ev, addA true os ⟨x.o.nu, x.o.ac, true, x.o.pr, x.o.le⟩ = ev := ⟨_, rfl⟩
          have HEV := Lib.hid hev
          clear hev
          go_wp2_with fail
          refine wp_region_held_drew (S := TqX Pd W2 (trX wr.heap.size V1.heap.size V2.heap.size x ⟨x.o.nu, x.o.ac, true, x.o.pr, x.o.le⟩) a b) (by kernel_rfl) (P4.out.drew KH.out).x (fun hH => ?_)
          have PLd := P4.out.drew KH.out
          refine wpAnyH_take (i := 0) (v := .pointer (some ⟨a, 0, none⟩)) rfl (by kernel_rfl) (by kernel_rfl) (by kernel_rfl) (fun _ _ _ h => h) (.inl ⟨by rfl, ?_⟩) (by assumption) ?_
          · intro W hW; go_simp
          try simp only [List.getElem_toArray, List.getElem_cons_zero, Act.put, List.setIfInBounds_toArray, List.set_cons_zero, List.set_cons_succ]
          refine wpAnyH_take (i := 1) (v := .agg (EO.cells ⟨x.o.nu, x.o.ac, true, x.o.pr, x.o.le⟩).toArray) rfl (by kernel_rfl) (by kernel_rfl) (by kernel_rfl) (fun _ _ _ h => h) (gyields_load TO (by rfl) (.tmp 7) rfl V1.heap.size 0 rfl (fun U hU => gbx_rng hU.b2)) (by assumption) ?_
          try simp only [List.getElem_toArray, List.getElem_cons_zero, List.getElem_cons_succ, Act.put, List.setIfInBounds_toArray, List.set_cons_zero, List.set_cons_succ]
          refine wpAnyH_take (i := 3) (v := .pointer (some ⟨b, 0, none⟩)) rfl (by kernel_rfl) (by kernel_rfl) (by kernel_rfl) (fun _ _ _ h => h) (.inl ⟨by rfl, ?_⟩) (by assumption) ?_
          · intro W hW; go_simp
          try simp only [List.getElem_toArray, List.getElem_cons_zero, List.getElem_cons_succ, Act.put, List.setIfInBounds_toArray, List.set_cons_zero, List.set_cons_succ]
          refine wpAnyH_take (i := 4) (v := .agg (EO.cells (trO ⟨x.o.nu, x.o.ac, true, x.o.pr, x.o.le⟩)).toArray) rfl (by kernel_rfl) (by kernel_rfl) (by kernel_rfl) (fun _ _ _ h => h) (gyields_load TO (by rfl) (.tmp 8) rfl V2.heap.size 0 rfl (fun U hU => gbx_rng hU.b3)) (by assumption) ?_
          try simp only [List.getElem_toArray, List.getElem_cons_zero, List.getElem_cons_succ, Act.put, List.setIfInBounds_toArray, List.set_cons_zero, List.set_cons_succ]
          refine wpAnyH_ready (rs := [2]) (by decide +kernel) (by simp) (AllReadyH.cons rfl (fun KQ hK => ?_) AllReadyH.nil)
          go_simp
          refine (PLd.ca KH.out (os' := addO true os ⟨x.o.nu, x.o.ac, true, x.o.pr, x.o.le⟩) (t' := t + 1) (fun F h => (by have := KH.out.add h OKO.out (by omega); rw [HEV.out] at this; exact this))).mono ?_; rintro e0 W1 ⟨rfl, p1⟩
          have hH := p1.x
          refine hK.out _ _ hH (fun _ => ?_)
          clear hK 
          try simp only [List.setIfInBounds_toArray, List.set_cons_zero, List.set_cons_succ]
          refine wpAnyH_ready (rs := [5]) (by decide +kernel) (by simp) (AllReadyH.cons rfl (fun KQ hK => ?_) AllReadyH.nil)
          go_simp
          refine (p1.cb KH.out (ps' := addO false (os.map trO) (trO ⟨x.o.nu, x.o.ac, true, x.o.pr, x.o.le⟩)) (t' := t + 1) (fun F h => (by have := KH.out.add h (tr_ok OKO.out hpr.out) (by omega); rw [addA_tr (o := ⟨x.o.nu, x.o.ac, true, x.o.pr, x.o.le⟩) rfl hpr.out, HEV.out] at this; exact this))).mono ?_; rintro e0 W1 ⟨rfl, p2⟩
          have hH := p2.x
          refine hK.out _ _ hH (fun _ => ?_)
          clear hK 
          try simp only [List.setIfInBounds_toArray, List.set_cons_zero, List.set_cons_succ]
          refine wpAnyH_take (i := 6) (v := .int .i64 ev) rfl (by kernel_rfl) (by kernel_rfl) (by kernel_rfl) (fun _ _ _ h => h) (.inl ⟨by rfl, ?_⟩) (by assumption) ?_
          · intro W hW; go_simp
          try simp only [List.getElem_toArray, List.getElem_cons_zero, List.getElem_cons_succ, Act.put, List.setIfInBounds_toArray, List.set_cons_zero, List.set_cons_succ]
          refine wpAnyH_take (i := 7) (v := .int .i64 ev) rfl (by kernel_rfl) (by kernel_rfl) (by kernel_rfl) (fun _ _ _ h => h) (.inl ⟨by rfl, ?_⟩) (by assumption) ?_
          · intro W hW; go_simp
          try simp only [List.getElem_toArray, List.getElem_cons_zero, List.getElem_cons_succ, Act.put, List.setIfInBounds_toArray, List.set_cons_zero, List.set_cons_succ]
          refine wpAnyH_done (by decide +kernel) ?_ _
          rw [addO_tr (o := ⟨x.o.nu, x.o.ac, true, x.o.pr, x.o.le⟩) rfl hpr.out] at p2
          have PLf := Lib.hid p2
          clear hH
          go_wp2_with fail
          exact ⟨_, t + 1, ev, PLf.out, pr_add PR.out hpr.out, by omega, intro_w rfl⟩
        by_cases hk2 : x.kd = 2
        · have e1 : (x.kd == 1) = false := by rw [beq_eq_false_iff_ne]; omega
          have e2 : (x.kd == 2) = true := by rw [beq_iff_eq]; omega
          obtain ⟨ev, hev⟩ : ∃ ev, fillA os x.n = ev := ⟨_, rfl⟩
          have HEV := Lib.hid hev
          clear hev
          have k1 : V4.cell? ⟨wr.heap.size, 6, none⟩ = some (.int .i64 x.n) := gbx_cell P4.out.x.b1 6
          go_wp2_with fail
          refine (P4.out.ca KH.out (os' := fillO os x.n) (t' := t) (e0 := _) (fun F h => (by have := KH.out.fill h OKX.out.n; rw [HEV.out] at this; exact this))).mono ?_; rintro e0 U1 ⟨rfl, p1⟩
          have P5 := Lib.hid p1
          have k2 : U1.cell? ⟨wr.heap.size, 6, none⟩ = some (.int .i64 x.n) := gbx_cell P5.out.x.b1 6
          clear p1
          go_wp2_with fail
          refine (P5.out.cb KH.out (ps' := fillO (os.map trO) x.n) (t' := t) (e0 := _) (fun F h => (by have := KH.out.fill h OKX.out.n; rw [fillA_tr, HEV.out] at this; exact this))).mono ?_; rintro e0 U2 ⟨rfl, p2⟩
          rw [fillO_tr] at p2
          have PLf := Lib.hid p2
          clear p2
          go_wp2_with fail
          exact ⟨_, t, ev, PLf.out, pr_fill PR.out, by omega, intro_w rfl⟩
        by_cases hk3 : x.kd = 3
        · have e1 : (x.kd == 1) = false := by rw [beq_eq_false_iff_ne]; omega
          have e2 : (x.kd == 2) = false := by rw [beq_eq_false_iff_ne]; omega
          have e3 : (x.kd == 3) = true := by rw [beq_iff_eq]; omega
          obtain ⟨ev, hev⟩ : ∃ ev, getA os x.o.nu = ev := ⟨_, rfl⟩
          have HEV := Lib.hid hev
          clear hev
          have k1 : V4.cell? ⟨V1.heap.size, 0, none⟩ = some (.int .u64 x.o.nu) := gbx_cell P4.out.x.b2 0
          go_wp2_with fail
          refine (P4.out.ca KH.out (os' := dropO os x.o.nu) (t' := t) (e0 := _) (fun F h => (by have := KH.out.drop h OKX.out.o.nu; rw [HEV.out] at this; exact this))).mono ?_; rintro e0 U1 ⟨rfl, p1⟩
          have P5 := Lib.hid p1
          have k2 : U1.cell? ⟨V1.heap.size, 0, none⟩ = some (.int .u64 x.o.nu) := gbx_cell P5.out.x.b2 0
          clear p1
          go_wp2_with fail
          refine (P5.out.cb KH.out (ps' := dropO (os.map trO) x.o.nu) (t' := t) (e0 := _) (fun F h => (by have := KH.out.drop h OKX.out.o.nu; rw [getA_tr, HEV.out] at this; exact this))).mono ?_; rintro e0 U2 ⟨rfl, p2⟩
          rw [dropO_tr] at p2
          have PLf := Lib.hid p2
          clear p2
          go_wp2_with fail
          exact ⟨_, t, ev, PLf.out, pr_drop PR.out, by omega, intro_w rfl⟩
        by_cases hk4 : x.kd = 4
        · have e1 : (x.kd == 1) = false := by rw [beq_eq_false_iff_ne]; omega
          have e2 : (x.kd == 2) = false := by rw [beq_eq_false_iff_ne]; omega
          have e3 : (x.kd == 3) = false := by rw [beq_eq_false_iff_ne]; omega
          have e4 : (x.kd == 4) = true := by rw [beq_iff_eq]; omega
          obtain ⟨ev, hev⟩ : ∃ ev, lowA os x.o.nu x.n = ev := ⟨_, rfl⟩
          have HEV := Lib.hid hev
          clear hev
          go_wp2_with fail
          refine wp_region_held_drew (S := TqX Pd W2 (trX wr.heap.size V1.heap.size V2.heap.size x ⟨x.o.nu, x.o.ac, true, x.o.pr, x.o.le⟩) a b) (by kernel_rfl) (P4.out.drew KH.out).x (fun hH => ?_)
          have PLd := P4.out.drew KH.out
          refine wpAnyH_take (i := 0) (v := .pointer (some ⟨a, 0, none⟩)) rfl (by kernel_rfl) (by kernel_rfl) (by kernel_rfl) (fun _ _ _ h => h) (.inl ⟨by rfl, ?_⟩) (by assumption) ?_
          · intro W hW; go_simp
          try simp only [List.getElem_toArray, List.getElem_cons_zero, Act.put, List.setIfInBounds_toArray, List.set_cons_zero, List.set_cons_succ]
          refine wpAnyH_take (i := 1) (v := .pointer (some ⟨V1.heap.size, 0, none⟩)) rfl (by kernel_rfl) (by kernel_rfl) (by kernel_rfl) (fun _ _ _ h => h) (.inl ⟨by rfl, ?_⟩) (by assumption) ?_
          · intro W hW; go_simp
          try simp only [List.getElem_toArray, List.getElem_cons_zero, List.getElem_cons_succ, Act.put, List.setIfInBounds_toArray, List.set_cons_zero, List.set_cons_succ]
          refine wpAnyH_take (i := 2) (v := .int .u64 x.o.nu) rfl (by kernel_rfl) (by kernel_rfl) (by kernel_rfl) (fun _ _ _ h => h) (.inl ⟨by rfl, ?_⟩) (by assumption) ?_
          · intro W hW; have k1 : W.cell? ⟨V1.heap.size, 0, none⟩ = some (.int .u64 x.o.nu) := gbx_cell hW.b2 0; go_simp
          try simp only [List.getElem_toArray, List.getElem_cons_zero, List.getElem_cons_succ, Act.put, List.setIfInBounds_toArray, List.set_cons_zero, List.set_cons_succ]
          refine wpAnyH_take (i := 3) (v := .pointer (some ⟨wr.heap.size, 6, none⟩)) rfl (by kernel_rfl) (by kernel_rfl) (by kernel_rfl) (fun _ _ _ h => h) (.inl ⟨by rfl, ?_⟩) (by assumption) ?_
          · intro W hW; go_simp
          try simp only [List.getElem_toArray, List.getElem_cons_zero, List.getElem_cons_succ, Act.put, List.setIfInBounds_toArray, List.set_cons_zero, List.set_cons_succ]
          refine wpAnyH_take (i := 4) (v := .int .i64 x.n) rfl (by kernel_rfl) (by kernel_rfl) (by kernel_rfl) (fun _ _ _ h => h) (.inl ⟨by rfl, ?_⟩) (by assumption) ?_
          · intro W hW; have k1 : W.cell? ⟨wr.heap.size, 6, none⟩ = some (.int .i64 x.n) := gbx_cell hW.b1 6; go_simp
          try simp only [List.getElem_toArray, List.getElem_cons_zero, List.getElem_cons_succ, Act.put, List.setIfInBounds_toArray, List.set_cons_zero, List.set_cons_succ]
          refine wpAnyH_take (i := 6) (v := .pointer (some ⟨b, 0, none⟩)) rfl (by kernel_rfl) (by kernel_rfl) (by kernel_rfl) (fun _ _ _ h => h) (.inl ⟨by rfl, ?_⟩) (by assumption) ?_
          · intro W hW; go_simp
          try simp only [List.getElem_toArray, List.getElem_cons_zero, List.getElem_cons_succ, Act.put, List.setIfInBounds_toArray, List.set_cons_zero, List.set_cons_succ]
          refine wpAnyH_take (i := 7) (v := .pointer (some ⟨V1.heap.size, 0, none⟩)) rfl (by kernel_rfl) (by kernel_rfl) (by kernel_rfl) (fun _ _ _ h => h) (.inl ⟨by rfl, ?_⟩) (by assumption) ?_
          · intro W hW; go_simp
          try simp only [List.getElem_toArray, List.getElem_cons_zero, List.getElem_cons_succ, Act.put, List.setIfInBounds_toArray, List.set_cons_zero, List.set_cons_succ]
          refine wpAnyH_take (i := 8) (v := .int .u64 x.o.nu) rfl (by kernel_rfl) (by kernel_rfl) (by kernel_rfl) (fun _ _ _ h => h) (.inl ⟨by rfl, ?_⟩) (by assumption) ?_
          · intro W hW; have k1 : W.cell? ⟨V1.heap.size, 0, none⟩ = some (.int .u64 x.o.nu) := gbx_cell hW.b2 0; go_simp
          try simp only [List.getElem_toArray, List.getElem_cons_zero, List.getElem_cons_succ, Act.put, List.setIfInBounds_toArray, List.set_cons_zero, List.set_cons_succ]
          refine wpAnyH_take (i := 9) (v := .pointer (some ⟨wr.heap.size, 6, none⟩)) rfl (by kernel_rfl) (by kernel_rfl) (by kernel_rfl) (fun _ _ _ h => h) (.inl ⟨by rfl, ?_⟩) (by assumption) ?_
          · intro W hW; go_simp
          try simp only [List.getElem_toArray, List.getElem_cons_zero, List.getElem_cons_succ, Act.put, List.setIfInBounds_toArray, List.set_cons_zero, List.set_cons_succ]
          refine wpAnyH_take (i := 10) (v := .int .i64 x.n) rfl (by kernel_rfl) (by kernel_rfl) (by kernel_rfl) (fun _ _ _ h => h) (.inl ⟨by rfl, ?_⟩) (by assumption) ?_
          · intro W hW; have k1 : W.cell? ⟨wr.heap.size, 6, none⟩ = some (.int .i64 x.n) := gbx_cell hW.b1 6; go_simp
          try simp only [List.getElem_toArray, List.getElem_cons_zero, List.getElem_cons_succ, Act.put, List.setIfInBounds_toArray, List.set_cons_zero, List.set_cons_succ]
          refine wpAnyH_ready (rs := [5]) (by decide +kernel) (by simp) (AllReadyH.cons rfl (fun KQ hK => ?_) AllReadyH.nil)
          go_simp
          refine (PLd.ca KH.out (os' := lowO os x.o.nu x.n) (t' := t) (fun F h => (by have := KH.out.low h OKX.out.o.nu OKX.out.n; rw [HEV.out] at this; exact this))).mono ?_; rintro e0 W1 ⟨rfl, p1⟩
          have hH := p1.x
          refine hK.out _ _ hH (fun _ => ?_)
          clear hK 
          try simp only [List.setIfInBounds_toArray, List.set_cons_zero, List.set_cons_succ]
          refine wpAnyH_ready (rs := [11]) (by decide +kernel) (by simp) (AllReadyH.cons rfl (fun KQ hK => ?_) AllReadyH.nil)
          go_simp
          refine (p1.cb KH.out (ps' := lowO (os.map trO) x.o.nu x.n) (t' := t) (fun F h => (by have := KH.out.low h OKX.out.o.nu OKX.out.n; rw [lowA_tr, HEV.out] at this; exact this))).mono ?_; rintro e0 W1 ⟨rfl, p2⟩
          have hH := p2.x
          refine hK.out _ _ hH (fun _ => ?_)
          clear hK 
          try simp only [List.setIfInBounds_toArray, List.set_cons_zero, List.set_cons_succ]
          refine wpAnyH_take (i := 12) (v := .int .i64 ev) rfl (by kernel_rfl) (by kernel_rfl) (by kernel_rfl) (fun _ _ _ h => h) (.inl ⟨by rfl, ?_⟩) (by assumption) ?_
          · intro W hW; go_simp
          try simp only [List.getElem_toArray, List.getElem_cons_zero, List.getElem_cons_succ, Act.put, List.setIfInBounds_toArray, List.set_cons_zero, List.set_cons_succ]
          refine wpAnyH_take (i := 13) (v := .int .i64 ev) rfl (by kernel_rfl) (by kernel_rfl) (by kernel_rfl) (fun _ _ _ h => h) (.inl ⟨by rfl, ?_⟩) (by assumption) ?_
          · intro W hW; go_simp
          try simp only [List.getElem_toArray, List.getElem_cons_zero, List.getElem_cons_succ, Act.put, List.setIfInBounds_toArray, List.set_cons_zero, List.set_cons_succ]
          refine wpAnyH_done (by decide +kernel) ?_ _
          rw [lowO_tr] at p2
          have PLf := Lib.hid p2
          clear hH
          go_wp2_with fail
          exact ⟨_, t, ev, PLf.out, pr_low PR.out, by omega, intro_w rfl⟩
        have e1 : (x.kd == 1) = false := by rw [beq_eq_false_iff_ne]; omega
        have e2 : (x.kd == 2) = false := by rw [beq_eq_false_iff_ne]; omega
        have e3 : (x.kd == 3) = false := by rw [beq_eq_false_iff_ne]; omega
        have e4 : (x.kd == 4) = false := by rw [beq_eq_false_iff_ne]; omega
        go_wp2_with fail
        exact ⟨os, t, 0, P4.out, PR.out, by omega, intro_w rfl⟩
      case tlX =>
        rintro a1 wr1 ⟨os', t', ev, hpq', hpr', ht', u', rfl⟩
        have P4 := Lib.hid hpq'
        have PR' := Lib.hid hpr'
        clear hpq' hpr'
        obtain ⟨ln, hln⟩ : ∃ ln, ((os'.length : Nat) : Int) = ln := ⟨_, rfl⟩
        obtain ⟨sm, hsm⟩ : ∃ sm, sumR true os' x.o.pr x.o.ac = sm := ⟨_, rfl⟩
        have HLN := Lib.hid hln
        have HSM := Lib.hid hsm
        have q1 : (ev != ev) = false := by simp
        have q2 : (ln != ln) = false := by simp
        have q3 : (sm != sm) = false := by simp
        clear hln hsm
        go_wp2_with fail
        refine wp_region_held_drew (S := TqX Pd W2 (trX wr.heap.size V1.heap.size V2.heap.size x ⟨x.o.nu, x.o.ac, true, x.o.pr, x.o.le⟩) a b) (by kernel_rfl) (P4.out.drew KH.out).x (fun hH => ?_)
        have PLd := P4.out.drew KH.out
        refine wpAnyH_take (i := 0) (v := .int .i64 ev) rfl (by kernel_rfl) (by kernel_rfl) (by kernel_rfl) (fun _ _ _ h => h) (.inl ⟨by rfl, ?_⟩) (by assumption) ?_
        · intro W hW; go_simp
        try simp only [List.getElem_toArray, List.getElem_cons_zero, Act.put, List.setIfInBounds_toArray, List.set_cons_zero, List.set_cons_succ]
        refine wpAnyH_take (i := 1) (v := .int .i64 ev) rfl (by kernel_rfl) (by kernel_rfl) (by kernel_rfl) (fun _ _ _ h => h) (.inl ⟨by rfl, ?_⟩) (by assumption) ?_
        · intro W hW; go_simp
        try simp only [List.getElem_toArray, List.getElem_cons_zero, List.getElem_cons_succ, Act.put, List.setIfInBounds_toArray, List.set_cons_zero, List.set_cons_succ]
        refine wpAnyH_take (i := 2) (v := .bool false) rfl (by kernel_rfl) (by kernel_rfl) (by kernel_rfl) (fun _ _ _ h => h) (.inl ⟨by rfl, ?_⟩) (by assumption) ?_
        · intro W hW; go_simp
        try simp only [List.getElem_toArray, List.getElem_cons_zero, List.getElem_cons_succ, Act.put, List.setIfInBounds_toArray, List.set_cons_zero, List.set_cons_succ]
        refine wpAnyH_take (i := 3) (v := .bool false) rfl (by kernel_rfl) (by kernel_rfl) (by kernel_rfl) (fun _ _ _ h => h) (.inl ⟨by rfl, ?_⟩) (by assumption) ?_
        · intro W hW; go_simp
        try simp only [List.getElem_toArray, List.getElem_cons_zero, List.getElem_cons_succ, Act.put, List.setIfInBounds_toArray, List.set_cons_zero, List.set_cons_succ]
        refine wpAnyH_take (i := 4) (v := .pointer (some ⟨a, 0, none⟩)) rfl (by kernel_rfl) (by kernel_rfl) (by kernel_rfl) (fun _ _ _ h => h) (.inl ⟨by rfl, ?_⟩) (by assumption) ?_
        · intro W hW; go_simp
        try simp only [List.getElem_toArray, List.getElem_cons_zero, List.getElem_cons_succ, Act.put, List.setIfInBounds_toArray, List.set_cons_zero, List.set_cons_succ]
        refine wpAnyH_take (i := 6) (v := .pointer (some ⟨b, 0, none⟩)) rfl (by kernel_rfl) (by kernel_rfl) (by kernel_rfl) (fun _ _ _ h => h) (.inl ⟨by rfl, ?_⟩) (by assumption) ?_
        · intro W hW; go_simp
        try simp only [List.getElem_toArray, List.getElem_cons_zero, List.getElem_cons_succ, Act.put, List.setIfInBounds_toArray, List.set_cons_zero, List.set_cons_succ]
        refine wpAnyH_ready (rs := [5]) (by decide +kernel) (by simp) (AllReadyH.cons rfl (fun KQ hK => ?_) AllReadyH.nil)
        go_simp
        refine (PLd.qa KH.out (e0 := .returned (.int .i64 ln)) (fun F h => (by have := KH.out.len h; rw [HLN.out] at this; exact this))).mono ?_; rintro e0 W1 ⟨rfl, p1⟩
        have hH := p1.x
        refine hK.out _ _ hH (fun _ => ?_)
        clear hK 
        try simp only [List.setIfInBounds_toArray, List.set_cons_zero, List.set_cons_succ]
        refine wpAnyH_ready (rs := [7]) (by decide +kernel) (by simp) (AllReadyH.cons rfl (fun KQ hK => ?_) AllReadyH.nil)
        go_simp
        refine (p1.qb KH.out (e0 := .returned (.int .i64 ln)) (fun F h => (by have := KH.out.len h; rw [List.length_map, HLN.out] at this; exact this))).mono ?_; rintro e0 W1 ⟨rfl, p2⟩
        have hH := p2.x
        refine hK.out _ _ hH (fun _ => ?_)
        clear hK 
        try simp only [List.setIfInBounds_toArray, List.set_cons_zero, List.set_cons_succ]
        refine wpAnyH_take (i := 8) (v := .bool false) rfl (by kernel_rfl) (by kernel_rfl) (by kernel_rfl) (fun _ _ _ h => h) (.inl ⟨by rfl, ?_⟩) (by assumption) ?_
        · intro W hW; go_simp
        try simp only [List.getElem_toArray, List.getElem_cons_zero, List.getElem_cons_succ, Act.put, List.setIfInBounds_toArray, List.set_cons_zero, List.set_cons_succ]
        refine wpAnyH_take (i := 9) (v := .bool false) rfl (by kernel_rfl) (by kernel_rfl) (by kernel_rfl) (fun _ _ _ h => h) (.inl ⟨by rfl, ?_⟩) (by assumption) ?_
        · intro W hW; go_simp
        try simp only [List.getElem_toArray, List.getElem_cons_zero, List.getElem_cons_succ, Act.put, List.setIfInBounds_toArray, List.set_cons_zero, List.set_cons_succ]
        refine wpAnyH_take (i := 10) (v := .bool false) rfl (by kernel_rfl) (by kernel_rfl) (by kernel_rfl) (fun _ _ _ h => h) (.inl ⟨by rfl, ?_⟩) (by assumption) ?_
        · intro W hW; go_simp
        try simp only [List.getElem_toArray, List.getElem_cons_zero, List.getElem_cons_succ, Act.put, List.setIfInBounds_toArray, List.set_cons_zero, List.set_cons_succ]
        refine wpAnyH_take (i := 11) (v := .pointer (some ⟨a, 0, none⟩)) rfl (by kernel_rfl) (by kernel_rfl) (by kernel_rfl) (fun _ _ _ h => h) (.inl ⟨by rfl, ?_⟩) (by assumption) ?_
        · intro W hW; go_simp
        try simp only [List.getElem_toArray, List.getElem_cons_zero, List.getElem_cons_succ, Act.put, List.setIfInBounds_toArray, List.set_cons_zero, List.set_cons_succ]
        refine wpAnyH_take (i := 12) (v := .pointer (some ⟨V1.heap.size, 3, none⟩)) rfl (by kernel_rfl) (by kernel_rfl) (by kernel_rfl) (fun _ _ _ h => h) (.inl ⟨by rfl, ?_⟩) (by assumption) ?_
        · intro W hW; go_simp
        try simp only [List.getElem_toArray, List.getElem_cons_zero, List.getElem_cons_succ, Act.put, List.setIfInBounds_toArray, List.set_cons_zero, List.set_cons_succ]
        refine wpAnyH_take (i := 13) (v := .int .i64 x.o.pr) rfl (by kernel_rfl) (by kernel_rfl) (by kernel_rfl) (fun _ _ _ h => h) (.inl ⟨by rfl, ?_⟩) (by assumption) ?_
        · intro W hW; have k1 : W.cell? ⟨V1.heap.size, 3, none⟩ = some (.int .i64 x.o.pr) := gbx_cell hW.b2 3; go_simp
        try simp only [List.getElem_toArray, List.getElem_cons_zero, List.getElem_cons_succ, Act.put, List.setIfInBounds_toArray, List.set_cons_zero, List.set_cons_succ]
        refine wpAnyH_take (i := 14) (v := .pointer (some ⟨V1.heap.size, 1, none⟩)) rfl (by kernel_rfl) (by kernel_rfl) (by kernel_rfl) (fun _ _ _ h => h) (.inl ⟨by rfl, ?_⟩) (by assumption) ?_
        · intro W hW; go_simp
        try simp only [List.getElem_toArray, List.getElem_cons_zero, List.getElem_cons_succ, Act.put, List.setIfInBounds_toArray, List.set_cons_zero, List.set_cons_succ]
        refine wpAnyH_take (i := 15) (v := .int .u32 x.o.ac) rfl (by kernel_rfl) (by kernel_rfl) (by kernel_rfl) (fun _ _ _ h => h) (.inl ⟨by rfl, ?_⟩) (by assumption) ?_
        · intro W hW; have k1 : W.cell? ⟨V1.heap.size, 1, none⟩ = some (.int .u32 x.o.ac) := gbx_cell hW.b2 1; go_simp
        try simp only [List.getElem_toArray, List.getElem_cons_zero, List.getElem_cons_succ, Act.put, List.setIfInBounds_toArray, List.set_cons_zero, List.set_cons_succ]
        refine wpAnyH_take (i := 17) (v := .pointer (some ⟨b, 0, none⟩)) rfl (by kernel_rfl) (by kernel_rfl) (by kernel_rfl) (fun _ _ _ h => h) (.inl ⟨by rfl, ?_⟩) (by assumption) ?_
        · intro W hW; go_simp
        try simp only [List.getElem_toArray, List.getElem_cons_zero, List.getElem_cons_succ, Act.put, List.setIfInBounds_toArray, List.set_cons_zero, List.set_cons_succ]
        refine wpAnyH_take (i := 18) (v := .pointer (some ⟨V2.heap.size, 3, none⟩)) rfl (by kernel_rfl) (by kernel_rfl) (by kernel_rfl) (fun _ _ _ h => h) (.inl ⟨by rfl, ?_⟩) (by assumption) ?_
        · intro W hW; go_simp
        try simp only [List.getElem_toArray, List.getElem_cons_zero, List.getElem_cons_succ, Act.put, List.setIfInBounds_toArray, List.set_cons_zero, List.set_cons_succ]
        refine wpAnyH_take (i := 19) (v := .int .i64 (1001 - x.o.pr)) rfl (by kernel_rfl) (by kernel_rfl) (by kernel_rfl) (fun _ _ _ h => h) (.inl ⟨by rfl, ?_⟩) (by assumption) ?_
        · intro W hW; have k1 : W.cell? ⟨V2.heap.size, 3, none⟩ = some (.int .i64 (1001 - x.o.pr)) := gbx_cell hW.b3 3; go_simp
        try simp only [List.getElem_toArray, List.getElem_cons_zero, List.getElem_cons_succ, Act.put, List.setIfInBounds_toArray, List.set_cons_zero, List.set_cons_succ]
        refine wpAnyH_take (i := 20) (v := .pointer (some ⟨V1.heap.size, 1, none⟩)) rfl (by kernel_rfl) (by kernel_rfl) (by kernel_rfl) (fun _ _ _ h => h) (.inl ⟨by rfl, ?_⟩) (by assumption) ?_
        · intro W hW; go_simp
        try simp only [List.getElem_toArray, List.getElem_cons_zero, List.getElem_cons_succ, Act.put, List.setIfInBounds_toArray, List.set_cons_zero, List.set_cons_succ]
        refine wpAnyH_take (i := 21) (v := .int .u32 x.o.ac) rfl (by kernel_rfl) (by kernel_rfl) (by kernel_rfl) (fun _ _ _ h => h) (.inl ⟨by rfl, ?_⟩) (by assumption) ?_
        · intro W hW; have k1 : W.cell? ⟨V1.heap.size, 1, none⟩ = some (.int .u32 x.o.ac) := gbx_cell hW.b2 1; go_simp
        try simp only [List.getElem_toArray, List.getElem_cons_zero, List.getElem_cons_succ, Act.put, List.setIfInBounds_toArray, List.set_cons_zero, List.set_cons_succ]
        refine wpAnyH_ready (rs := [16]) (by decide +kernel) (by simp) (AllReadyH.cons rfl (fun KQ hK => ?_) AllReadyH.nil)
        go_simp
        refine (p2.qa KH.out (e0 := .returned (.int .i64 sm)) (fun F h => (by have := KH.out.reach h OKX.out.o.pr OKX.out.o.ac; rw [HSM.out] at this; exact this))).mono ?_; rintro e0 W1 ⟨rfl, p3⟩
        have hH := p3.x
        refine hK.out _ _ hH (fun _ => ?_)
        clear hK 
        try simp only [List.setIfInBounds_toArray, List.set_cons_zero, List.set_cons_succ]
        refine wpAnyH_ready (rs := [22]) (by decide +kernel) (by simp) (AllReadyH.cons rfl (fun KQ hK => ?_) AllReadyH.nil)
        go_simp
        refine (p3.qb KH.out (e0 := .returned (.int .i64 sm)) (fun F h => (by have := KH.out.reach (p := 1001 - x.o.pr) h ⟨by have := hpr.out; omega, by have := hpr.out; omega⟩ OKX.out.o.ac; rw [sum_tr, HSM.out] at this; exact this))).mono ?_; rintro e0 W1 ⟨rfl, p4⟩
        have hH := p4.x
        refine hK.out _ _ hH (fun _ => ?_)
        clear hK 
        try simp only [List.setIfInBounds_toArray, List.set_cons_zero, List.set_cons_succ]
        refine wpAnyH_take (i := 23) (v := .bool false) rfl (by kernel_rfl) (by kernel_rfl) (by kernel_rfl) (fun _ _ _ h => h) (.inl ⟨by rfl, ?_⟩) (by assumption) ?_
        · intro W hW; go_simp
        try simp only [List.getElem_toArray, List.getElem_cons_zero, List.getElem_cons_succ, Act.put, List.setIfInBounds_toArray, List.set_cons_zero, List.set_cons_succ]
        refine wpAnyH_take (i := 24) (v := .bool false) rfl (by kernel_rfl) (by kernel_rfl) (by kernel_rfl) (fun _ _ _ h => h) (.inl ⟨by rfl, ?_⟩) (by assumption) ?_
        · intro W hW; go_simp
        try simp only [List.getElem_toArray, List.getElem_cons_zero, List.getElem_cons_succ, Act.put, List.setIfInBounds_toArray, List.set_cons_zero, List.set_cons_succ]
        refine wpAnyH_done (by decide +kernel) ?_ _
        have PLf := Lib.hid (p4.less (X' := []) (fun p hp => by cases hp))
        clear hH
        go_wp2_with fail
        refine H3.out _ _ ?_
        go_wp2_with fail
        refine HKK.out _ _ (Handed.intro (m - 1) (by have := HM.out; omega) (HJ.out _ _ _ ?_))
        exact ⟨k + 1, os', t', by have := HM.out; omega, by omega, PLf.out, PR'.out, ht', intro_w rfl⟩
theorem turned6_all {Pd : PdT} {zs : Array Value} (K : SideK Pd zs) (A : Option Addr) (n c : Nat) (l : List OpS) (w : World) (hr : EOp.Rd w A n l) (hok : ∀ x, x ∈ l → x.ok) (hm : n ≤ maxLen) :
    Calls Try.prog 7 #[.slice A n c] w fun e w' => e = .returned (.bool true) ∧ Below w.heap.size w w' := by
  unfold maxLen at hm
  rcases Nat.lt_or_ge 150 n with h | h
  · exact turned6_out K A n c w h (by omega)
  · exact turned6_in K A n c l w hr hok h
end Go.Proofs.Ytpnccbcaoifdiaa
