/- The walk of the statement SideFair, given the program's side. -/
import Derived.Test.YtpnccbcaoifdiaaEa
import Derived.Test.YtpnccbcaoifdiaaEg
import Derived.Test.YtpnccbcaoifdiaaEo
import Derived.Deep.LoopGhost
namespace Go.Proofs.Ytpnccbcaoifdiaa
open Go.RowKit Go.Shelf
set_option linter.unusedVariables false
set_option linter.unusedSimpArgs false

/-- Where one may stand behind another: who is better, or as good and has the smaller number. -/
def fairR (buy : Bool) (a b : Or) : Prop := btr buy a.pr b.pr = true ∨ (a.pr = b.pr ∧ a.nu < b.nu)
def Fo (buy : Bool) (os : List Or) : Prop := os.Pairwise (fairR buy)
theorem fair_ins {buy : Bool} {o : Or} : ∀ {os : List Or}, Fo buy os → Srt buy os → (∀ x, x ∈ os → x.nu < o.nu) → Fo buy (insO buy o os)
  | [], _, _, _ => List.pairwise_singleton _ _
  | x :: r, h, s, hn => by
    obtain ⟨h1, h2⟩ := List.pairwise_cons.1 h
    obtain ⟨s1, s2⟩ := List.pairwise_cons.1 s
    unfold insO
    split
    · rename_i c
      refine List.pairwise_cons.2 ⟨fun y hy => .inl ?_, h⟩
      rcases List.mem_cons.1 hy with rfl | hy
      · exact c
      · exact btr_tr c (s1 y hy)
    · rename_i c
      refine List.pairwise_cons.2 ⟨fun y hy => ?_, fair_ins h2 s2 fun y hy => hn y (List.mem_cons_of_mem _ hy)⟩
      rcases ins_mem.1 hy with rfl | hy
      · cases hb : btr buy x.pr y.pr
        · exact .inr ⟨btr_tot hb (by simpa using c), hn x (List.mem_cons_self ..)⟩
        · exact .inl hb
      · exact h1 y hy
section
variable {buy : Bool} {os : List Or} {n left : Int}
theorem fair_map (f : Or → Or) (h1 : ∀ x, (f x).pr = x.pr) (h2 : ∀ x, (f x).nu = x.nu) (h : Fo buy os) : Fo buy (os.map f) :=
  List.pairwise_map.2 (h.imp fun {a b} hab => by unfold fairR; rw [h1, h1, h2, h2]; exact hab)
theorem fair_fill (h : Fo buy os) : Fo buy (fillO os n) := by
  cases os with
  | nil => exact h
  | cons x r =>
    show Fo buy (if n < 1 ∨ x.le < n then x :: r else if x.le - n = 0 then r else x.wi (x.le - n) :: r)
    split
    · exact h
    · split
      · exact (List.pairwise_cons.1 h).2
      · exact List.pairwise_cons.2 ⟨(List.pairwise_cons.1 h).1, (List.pairwise_cons.1 h).2⟩
theorem fair_drop (h : Fo buy os) : Fo buy (dropO os n) := h.filter _
theorem fair_low (h : Fo buy os) : Fo buy (lowO os n left) := by
  unfold lowO
  split
  · refine fair_map (fun z => if z.nu = n then z.wi left else z) (fun x => ?_) (fun x => ?_) h
    · show (if x.nu = n then x.wi left else x).pr = x.pr
      split <;> rfl
    · show (if x.nu = n then x.wi left else x).nu = x.nu
      split <;> rfl
  · exact h
theorem num_fill {m : Int} (h : ∀ x, x ∈ os → x.nu < m) : ∀ x, x ∈ fillO os n → x.nu < m := by
  cases os with
  | nil => exact h
  | cons x r =>
    show ∀ y, y ∈ (if n < 1 ∨ x.le < n then x :: r else if x.le - n = 0 then r else x.wi (x.le - n) :: r) → y.nu < m
    split
    · exact h
    · split
      · exact fun y hy => h y (List.mem_cons_of_mem _ hy)
      · intro y hy
        rcases List.mem_cons.1 hy with rfl | hy
        · exact h x (List.mem_cons_self ..)
        · exact h y (List.mem_cons_of_mem _ hy)
theorem num_drop {m : Int} (h : ∀ x, x ∈ os → x.nu < m) : ∀ x, x ∈ dropO os n → x.nu < m := fun x hx => h x (List.mem_filter.1 hx).1
theorem num_low {m : Int} (h : ∀ x, x ∈ os → x.nu < m) : ∀ x, x ∈ lowO os n left → x.nu < m := by
  unfold lowO
  split
  · intro y hy
    obtain ⟨x, hx, rfl⟩ := List.mem_map.1 hy
    show (if x.nu = n then x.wi left else x).nu < m
    split <;> exact h x hx
  · exact h
end
/-- The side, with blocks of a loop's own that it does not have. -/
def Fi (Pd : PdT) (w W : World) (g : Nat) (buy : Bool) (os : List Or) (t : Nat) (Ds : List Nat) : Prop :=
  ∃ F, Pd W F g buy os t ∧ Below w.heap.size w W ∧ (∀ k, F k → w.heap.size ≤ k) ∧ (∀ D, D ∈ Ds → w.heap.size ≤ D ∧ W.heap[D]? = some (.deferred (some [])) ∧ ¬ F D) ∧ Ds.Nodup
section
variable {Pd : PdT} {zs : Array Value} {w W W' : World} {g : Nat} {buy : Bool} {os os' : List Or} {t t' : Nat} {Ds : List Nat}
theorem Fi.bel (h : Fi Pd w W g buy os t Ds) : Below w.heap.size w W := by obtain ⟨F, h1, h2, h3⟩ := h; exact h2
theorem Fi.below (K : SideK Pd zs) (h : Fi Pd w W g buy os t Ds) (q : Below W.heap.size W W') : Fi Pd w W' g buy os t Ds := by
  obtain ⟨F, h1, h2, h3, h4, h5⟩ := h
  exact ⟨F, K.keep (S := fun _ => False) h1 (Fr.below q) (fun _ _ h => h), h2.trans (q.mono h2.size), h3, fun D hD => ⟨(h4 D hD).1, (q.block D (Array.getElem?_eq_some_iff.1 (h4 D hD).2.1).1).trans (h4 D hD).2.1, (h4 D hD).2.2⟩, h5⟩
theorem Fi.more (K : SideK Pd zs) (h : Fi Pd w W g buy os t Ds) (ht : t ≤ t') : Fi Pd w W g buy os t' Ds := by
  obtain ⟨F, h1, h2⟩ := h
  exact ⟨F, K.more h1 ht, h2⟩
theorem Fi.inv (K : SideK Pd zs) (h : Fi Pd w W g buy os t Ds) : InvO buy os := by obtain ⟨F, h1, h2⟩ := h; exact K.inv h1
/-- A call that leaves the side otherwise. -/
theorem Fi.call {f : FuncId} {args : Array Value} {P : Program} {e0 : Ending} (h : Fi Pd w W g buy os t Ds) (c : ∀ F, Pd W F g buy os t → Calls P f args W fun e w' => e = e0 ∧ AftO Pd W F g buy os' t' w') :
    Calls P f args W fun e w' => e = e0 ∧ Fi Pd w w' g buy os' t' Ds := by
  obtain ⟨F, h1, h2, h3, h4, h5⟩ := h
  refine (c F h1).mono ?_; rintro e w' ⟨rfl, F', k1, k2, k3⟩
  refine ⟨rfl, F', k1, aft_below h2 h3 k2, fun k hk => (k3 k hk).elim (h3 k) fun c => Nat.le_trans h2.size c, fun D hD => ?_, h5⟩
  obtain ⟨d1, d2, d3⟩ := h4 D hD
  have hl := (Array.getElem?_eq_some_iff.1 d2).1
  refine ⟨d1, (k2.at' D hl d3).trans d2, fun c => ?_⟩
  rcases k3 D c with c | c
  · exact d3 c
  · omega
/-- A loop's mark more. -/
theorem Fi.mark (K : SideK Pd zs) (h : Fi Pd w W g buy os t Ds) (f : Fr (fun k => W.heap.size ≤ k) W W') {D : Nat} (hD : W.heap.size ≤ D) (e : W'.heap[D]? = some (.deferred (some []))) : Fi Pd w W' g buy os t (D :: Ds) := by
  have q : Below W.heap.size W W' := ⟨f.b0.os, f.b0.tape, f.b0.output, f.size, fun k hk => f.at' k hk (by omega)⟩
  obtain ⟨F, h1, h2, h3, h4, h5⟩ := h
  refine ⟨F, K.keep (S := fun _ => False) h1 (Fr.below q) (fun _ _ h => h), h2.trans (q.mono h2.size), h3, fun E hE => ?_, List.nodup_cons.2 ⟨fun c => ?_, h5⟩⟩
  · rcases List.mem_cons.1 hE with rfl | hE
    · exact ⟨Nat.le_trans h2.size hD, e, fun c => by have := K.lt h1 _ c; omega⟩
    · exact ⟨(h4 E hE).1, (q.block E (Array.getElem?_eq_some_iff.1 (h4 E hE).2.1).1).trans (h4 E hE).2.1, (h4 E hE).2.2⟩
  · have := (Array.getElem?_eq_some_iff.1 (h4 D c).2.1).1
    omega
end
/-- Within the range: what lies there stays, but the last one and the flag. -/
structure Ig (W0 : World) (L : Nat) (z : Or) (f : Bool) (W : World) : Prop where
  at' : ∀ k, k < W0.heap.size → k ≠ L → k ≠ L + 1 → W.heap[k]? = W0.heap[k]?
  la : EO.Bx 33 W L z
  fi : W.heap[L + 1]? = some (.cells #[.bool f] 4 (0, 0))
  sz : W0.heap.size ≤ W.heap.size
  b0 : Below 0 W0 W
section
variable {W0 W W' : World} {L B : Nat} {z : Or} {f : Bool}
theorem Ig.below (h : Ig W0 L z f W) (hL : L + 1 < W0.heap.size) (b : Below B W W') (hB : W0.heap.size ≤ B) : Ig W0 L z f W' :=
  ⟨fun k hk h1 h2 => (b.block k (by omega)).trans (h.at' k hk h1 h2), (b.block L (by omega)).trans h.la, (b.block _ (by omega)).trans h.fi, Nat.le_trans h.sz b.size, h.b0.trans (b.mono (Nat.zero_le _))⟩
theorem Ig.grow (h : Ig W0 L z f W) (hL : L + 1 < W0.heap.size) (b : Below W.heap.size W W') : Ig W0 L z f W' := h.below hL b h.sz
theorem Ig.put (h : Ig W0 L z f W) (x : Or) : Ig W0 L x false ((W.setRow L (EO.cells x).toArray).setCell ⟨L + 1, 0, none⟩ (.bool false)) ∧ Fr (fun k => k = L ∨ k = L + 1) W ((W.setRow L (EO.cells x).toArray).setCell ⟨L + 1, 0, none⟩ (.bool false)) := by
  have f1 : Fr (fun k => k = L ∨ k = L + 1) W (W.setRow L (EO.cells x).toArray) := fr_row (S := fun k => k = L ∨ k = L + 1) (.inl rfl) _
  have f2 : Fr (fun k => k = L ∨ k = L + 1) (W.setRow L (EO.cells x).toArray) ((W.setRow L (EO.cells x).toArray).setCell ⟨L + 1, 0, none⟩ (.bool false)) := Fr.set (S := fun k => k = L ∨ k = L + 1) (p := ⟨L + 1, 0, none⟩) (.inr rfl) _
  have ff := f1.same f2
  have e1 : (W.setRow L (EO.cells x).toArray).heap[L + 1]? = some (.cells #[.bool f] 4 (0, 0)) := (setRow_other W L (L + 1) _ (by omega)).trans h.fi
  refine ⟨⟨fun k hk h1 h2 => (ff.at' k (Nat.lt_of_lt_of_le hk h.sz) (by omega)).trans (h.at' k hk h1 h2), (heap_setCell_other _ ⟨L + 1, 0, none⟩ L _ (by show L ≠ L + 1; omega)).trans (gbx_set h.la), heap_setCell_same _ (L + 1) 0 _ _ (.bool false) e1, Nat.le_trans h.sz ff.size, h.b0.trans ff.b0⟩, ff⟩
end
theorem keeps_of {B : Nat} {W W' : World} {S : Nat → Prop} (f : Fr S W W') (hS : ∀ k o, S k → W.heap[k]? = some o → o.isCells = true) : KeepsFrom B W W' :=
  ⟨f.size, fun k o _ hk hc => (f.at' k (Array.getElem?_eq_some_iff.1 hk).1 (fun c => by rw [hS k o c hk] at hc; cases hc)).trans hk⟩
def lastO (l : List Or) : Or := l.getLastD zeroOr
/-- Two that stand one behind the other. -/
theorem fair_next {buy : Bool} {os : List Or} {pre : List Or} {x : Or} (h : Fo buy os) (hp : pre ++ [x] <+: os) (hne : pre ≠ []) : fairR buy (lastO pre) x := by
  obtain ⟨rest, hr⟩ := hp
  obtain ⟨q, z, rfl⟩ : ∃ q z, pre = q ++ [z] := ⟨pre.dropLast, pre.getLast hne, (List.dropLast_concat_getLast hne).symm⟩
  have hl : lastO (q ++ [z]) = z := by simp [lastO]
  rw [hl]
  subst hr
  have h1 : Fo buy (q ++ ([z, x] ++ rest)) := by simpa using h
  have h2 := (List.pairwise_append.1 h1).2.1
  exact (List.pairwise_cons.1 h2).1 x (by simp)
theorem fair_no {buy : Bool} {z x : Or} (h : fairR buy z x) : btr buy x.pr z.pr = false ∧ (x.pr = z.pr → z.nu < x.nu) := by
  rcases h with h | ⟨h1, h2⟩
  · refine ⟨btr_as h, fun e => ?_⟩
    rw [e, btr_irr] at h
    cases h
  · exact ⟨by rw [h1]; exact btr_irr _ _, fun _ => h2⟩
/-- Slots that are not looked at, as one function. -/
theorem intro_u {T : Array Value} {D : List Deferred} {F : (Nat → Value) → Array Value} (h : F (fun i => T.getD i undef) = T) : ∃ u : Nat → Value, (Act.mk T D) = Act.mk (F u) D := ⟨_, by rw [h]⟩
theorem wp_mid {P : Program} {Q : Exit → Act → World → Prop} {a : Act} {w : World} {x y : Code} (Mid : Act → World → Prop) (h1 : ∀ K : Act → World → Prop, (∀ a w, Mid a w → K a w) → x.wp P (Exit.then K Q) a w) (h2 : ∀ a w, Mid a w → y.wp P Q a w) : (Code.seq x y).wp P Q a w :=
  wp_seq_k fun K hK => h1 K fun a w h => hK a w (h2 a w h)
set_option maxRecDepth 100000 in
set_option maxHeartbeats 2000000 in
theorem fair6_out {Pd : PdT} {zs : Array Value} (K : SideK Pd zs) (buy : Bool) (A : Option Addr) (n c : Nat) (w : World) (hn : 150 < n) (hm : n ≤ 9223372036854775807) :
    Calls Try.prog 5 #[.bool buy, .slice A n c] w fun e w' => e = .returned (.bool true) ∧ Below w.heap.size w w' := by
  have KN := Lib.hid (fun W => known6_any K W)
  have NW := Lib.hid (fun W => K.new W buy)
  have hd100 : decide (150 < (n : Int)) = true := decide_eq_true (by omega)
  obtain ⟨W2, hW2, b2, x2, r2⟩ := two_obj w #[.bool buy] #[.bool false] 4 4
  have c2 : W2.cell? ⟨w.heap.size, 0, none⟩ = some (.bool buy) := obj_cell x2
  have HW2 := Lib.hid hW2
  have B2 := Lib.hid b2
  have R2 := Lib.hid r2
  clear K hW2 b2 x2 r2
  go_enter Try.func5, Try.ntmps5
  go_wp2_with fail
  rw [HW2.out]
  refine (NW.out W2).mono ?_; rintro e w1 ⟨g, F, rfl, hp, q1, hF⟩
  have B3 := Lib.hid (B2.out.trans (q1.mono B2.out.size))
  have R3 : Hid (w1.heap[w.heap.size + 1]? = some (.cells #[.bool false] 4 (0, 0))) := Lib.hid ((q1.block _ (Array.getElem?_eq_some_iff.1 R2.out).1).trans R2.out)
  clear q1 hp hF
  go_wp2_with fail
  refine (KN.out _).mono ?_; rintro e w2 ⟨rfl, q⟩
  have B4 := Lib.hid (B3.out.trans (q.mono B3.out.size))
  have R4 : Hid (w2.heap[w.heap.size + 1]? = some (.cells #[.bool false] 4 (0, 0))) := Lib.hid ((q.block _ (Array.getElem?_eq_some_iff.1 R3.out).1).trans R3.out)
  have cr := obj_cell R4.out
  have fr := obj_fz R4.out 0
  clear q
  go_wp2_with fail
  have R5 := heap_setCell_same w2 (w.heap.size + 1) 0 _ _ (.bool true) R4.out
  exact bodyPost_ret (ret_cell6 rfl _ _ (w.heap.size + 1) true rfl (obj_cell R5)) rfl ⟨rfl, B4.out.setCell (by show w.heap.size ≤ w.heap.size + 1; omega) _⟩
set_option maxRecDepth 100000 in
set_option maxHeartbeats 16000000 in
theorem fair6_in {Pd : PdT} {zs : Array Value} (K : SideK Pd zs) (buy : Bool) (A : Option Addr) (n c : Nat) (l : List OpS) (w : World) (hr : EOp.Rd w A n l) (hok : ∀ x, x ∈ l → x.ok) (hn : n ≤ 150) :
    Calls Try.prog 5 #[.bool buy, .slice A n c] w fun e w' => e = .returned (.bool true) ∧ Below w.heap.size w w' := by
  have KN := Lib.hid (fun W => known6_any K W)
  have NW := Lib.hid (fun W => K.new W buy)
  have KH := Lib.hid K
  have hd100 : decide (150 < (n : Int)) = false := decide_eq_false (by omega)
  obtain ⟨W2, hW2, b2, x2, r2⟩ := two_obj w #[.bool buy] #[.bool false] 4 4
  have c2 : W2.cell? ⟨w.heap.size, 0, none⟩ = some (.bool buy) := obj_cell x2
  have HW2 := Lib.hid hW2
  have B2 := Lib.hid b2
  have X2 := Lib.hid x2
  have R2 := Lib.hid r2
  have HR := Lib.hid (grd_below hr b2 (Nat.le_refl _))
  have HOK := Lib.hid hok
  have Z := zero_or
  have ZO := zero_op6
  have EQ := eql_seq6
  clear K hW2 b2 x2 r2 hr hok
  refine calls_marks Try.func5 rfl ?_
  simp only [Try.ntmps5, List.size_toArray, List.length_cons, List.length_nil, Nat.reduceAdd, Nat.reduceSub, Array.replicate_succ, Array.replicate_zero, List.push_toArray, List.append_toArray, List.nil_append, List.cons_append]
  go_wp2_with fail
  rw [HW2.out]
  go_wp2_with fail
  refine (NW.out W2).mono ?_; rintro e w1 ⟨g, F, rfl, hp, q1, hF⟩
  have F1 : Hid (Fi Pd W2 w1 g buy [] 0 []) := Lib.hid ⟨F, hp, q1, hF, (fun D h => by cases h), List.nodup_nil⟩
  clear q1 hp hF NW HW2 c2
  go_wp2_with fail
  refine wp_loop_ghost_k (fun m a' wr => ∃ (k nx : Nat) (os : List Or) (t : Nat) (Ds : List Nat), m = n - k ∧ k ≤ n ∧ Fi Pd W2 wr g buy os t Ds ∧ Fo buy os ∧ (∀ x, x ∈ os → x.nu < (nx : Int)) ∧ 1 ≤ nx ∧ nx ≤ k + 1 ∧ t ≤ k ∧ ∃ u : Nat → Value, a' = { tmps := #[.bool buy, .slice A n c, .pointer (some ⟨w.heap.size, 0, none⟩), undef, .pointer (some ⟨w.heap.size + 1, 0, none⟩), .pointer (some ⟨g, 0, none⟩), .int .u64 nx, u 7, u 8, u 9, u 10, u 11, u 12, .bool buy, .pointer (some ⟨g, 0, none⟩), .pointer (some ⟨g, 0, none⟩), .bool false, .bool false, .slice A n c, .int .i64 n, .bool false, .bool false, undef, undef, undef, undef, undef, .slice A n c, .int .i64 n, .int .i64 k, u 30, u 31, u 32, u 33, u 34, u 35, u 36, u 37, u 38, u 39, u 40, u 41, u 42, u 43, u 44, u 45, u 46, u 47, u 48, u 49, u 50, u 51, u 52, u 53, u 54, u 55, u 56, u 57, u 58, u 59, u 60, u 61, u 62, u 63, u 64, u 65, u 66, u 67, u 68, u 69, u 70, u 71, u 72, u 73, u 74, u 75, u 76, u 77, u 78, u 79, u 80, u 81, u 82, u 83, u 84, u 85, u 86, u 87, u 88, u 89, u 90, u 91, u 92, u 93, u 94, u 95, u 96, u 97, u 98, u 99, u 100, u 101, u 102, u 103, u 104, u 105, u 106, u 107, u 108, u 109, u 110, u 111, u 112, u 113, u 114, u 115, u 116, u 117, u 118, undef], defers := marks Ds }) n ?atStart ?round
  case atStart => exact ⟨0, 1, [], 0, [], rfl, Nat.zero_le _, F1.out, List.Pairwise.nil, (fun x hx => by cases hx), by omega, by omega, by omega, intro_u rfl⟩
  case round =>
    rintro m a0 wr ⟨k, nx, os, t, Ds, hm, hk, hfi, hfo, hnu, hn1, hn2, ht, u, rfl⟩ J KK hJ hKK
    have FI := Lib.hid hfi
    have FO := Lib.hid hfo
    have NU := Lib.hid hnu
    have HJ := Lib.hid hJ
    have HM := Lib.hid hm
    have HKK := Lib.hid hKK
    clear hfi hfo hnu hJ hm hKK F1
    by_cases hlt : k < n
    case neg =>
      obtain rfl : k = n := by omega
      have hd : decide ((k : Int) < k) = false := decide_eq_false (by omega)
      go_wp2_with fail
      refine (KN.out _).mono ?_; rintro e w2 ⟨rfl, q⟩
      have F2 := Lib.hid (FI.out.below KH.out q)
      have rr : w2.heap[w.heap.size + 1]? = some (.cells #[.bool false] 4 (0, 0)) := (F2.out.bel.block _ (Array.getElem?_eq_some_iff.1 R2.out).1).trans R2.out
      have RR := Lib.hid rr
      have cr := obj_cell rr
      have fr := obj_fz rr 0
      clear q rr
      go_wp2_with fail
      have R5 := heap_setCell_same w2 (w.heap.size + 1) 0 _ _ (.bool true) RR.out
      have hz : w.heap.size + 1 < W2.heap.size := (Array.getElem?_eq_some_iff.1 R2.out).1
      obtain ⟨F9, p9, b9, f9, d9, n9⟩ := F2.out
      refine ret_marks Ds rfl n9 ?_ (ret_cell6 rfl _ _ (w.heap.size + 1) true rfl ?_) ⟨rfl, ?_⟩
      · intro E hE
        have := d9 E hE
        exact (heap_setCell_other w2 _ _ _ (by show E ≠ w.heap.size + 1; omega)).trans this.2.1
      · rw [cell_of_row _ _ _ _ _ _ ((unmark_other Ds _ (w.heap.size + 1) (fun c => by have := d9 _ c; omega)).trans R5)]; rfl
      · refine unmark_below Ds _ _ _ (fun E hE => by have := d9 E hE; omega) ?_ ((B2.out.trans (b9.mono B2.out.size)).setCell (by show w.heap.size ≤ w.heap.size + 1; omega) _)
        have := b9.size
        show w.heap.size ≤ (w2.setCell _ _).heap.size
        simp; omega
    case pos =>
      have hd : decide ((k : Int) < n) = true := decide_eq_true (by omega)
      have hki : (k : Int) < (n : Int) := by omega
      obtain ⟨x, hx⟩ : ∃ x, l[k]? = some x := ⟨l[k]'(by have := HR.out.1; omega), List.getElem?_eq_getElem _⟩
      obtain ⟨b, o, rfl, hrg⟩ := grd_rng HR.out hx
      have XO := Lib.hid (HOK.out x (List.mem_of_getElem? hx))
      have RG : Hid (wr.rangeAt b (o + k * 7) (EOp.cells x)) := Lib.hid (rng_below hrg FI.out.bel (Nat.le_refl _))
      obtain ⟨V, hV, bV, yV, zV, sV⟩ := put_op wr x
      have HV := Lib.hid hV
      have ZV := Lib.hid zV
      have FV := Lib.hid (FI.out.below KH.out bV)
      have d0 : V.cell? ⟨wr.heap.size, 0, none⟩ = some (.int .i64 x.kd) := gbx_cell yV 0
      have d1 : V.cell? ⟨wr.heap.size, 1, none⟩ = some (.int .u64 x.o.nu) := gbx_cell yV 1
      have d6 : V.cell? ⟨wr.heap.size, 6, none⟩ = some (.int .i64 x.n) := gbx_cell yV 6
      have cb : V.cell? ⟨w.heap.size, 0, none⟩ = some (.bool buy) := obj_cell ((FV.out.bel.block _ (Array.getElem?_eq_some_iff.1 X2.out).1).trans X2.out)
      have OR : Hid (V.rangeAt wr.heap.size 1 (EO.cells x.o)) := Lib.hid (by have := op_or (gbx_rng yV); rwa [Nat.zero_add] at this)
      have FI0 := Lib.hid (FI.out.inv KH.out)
      clear hx hrg hV bV yV zV sV FI
      apply wp_seq_k; intro K1 h1; have H1 := Lib.hid h1; clear h1
      go_wp2_with fail
      refine H1.out _ _ ?_
      clear H1
      apply wp_seq_k; intro K2 h2; have H2 := Lib.hid h2; clear h2
      go_wp2_with fail
      refine H2.out _ _ ?_
      clear H2
      apply wp_seq_k; intro K3 h3; have H3 := Lib.hid h3; clear h3
      refine wp_block ?_
      apply wp_seq_k; intro K4 h4; have H4 := Lib.hid h4; clear h4
      go_wp2_with fail
      refine H4.out _ _ ?_
      clear H4
      apply wp_seq_k; intro K5 h5; have H5 := Lib.hid h5; clear h5
      go_wp2_with (first | ((with_reducible refine gwl_load TOp b (o + k * 7) RG.out ?_ ?_ ?_); rfl; rfl) | (refine gwl_store TOp x wr.heap.size ZV.out rfl rfl ?_; rw [HV.out]))
      refine H5.out _ _ ?_
      clear H5
      refine wp_mid (fun a' wr' => ∃ (nx' : Nat) (os' : List Or) (t' : Nat), Fi Pd W2 wr' g buy os' t' Ds ∧ Fo buy os' ∧ (∀ x, x ∈ os' → x.nu < (nx' : Int)) ∧ 1 ≤ nx' ∧ nx' ≤ k + 2 ∧ t' ≤ k + 1 ∧ ∃ u : Nat → Value, a' = { tmps := #[.bool buy, .slice (some ⟨b, o, none⟩) n c, .pointer (some ⟨w.heap.size, 0, none⟩), undef, .pointer (some ⟨w.heap.size + 1, 0, none⟩), .pointer (some ⟨g, 0, none⟩), .int .u64 nx', u 7, u 8, u 9, u 10, u 11, u 12, .bool buy, .pointer (some ⟨g, 0, none⟩), .pointer (some ⟨g, 0, none⟩), .bool false, .bool false, .slice (some ⟨b, o, none⟩) n c, .int .i64 n, .bool false, .bool false, undef, undef, undef, undef, undef, .slice (some ⟨b, o, none⟩) n c, .int .i64 n, .int .i64 k, u 30, u 31, u 32, u 33, u 34, u 35, u 36, u 37, u 38, u 39, u 40, u 41, u 42, u 43, u 44, u 45, u 46, u 47, u 48, u 49, u 50, u 51, u 52, u 53, u 54, u 55, u 56, u 57, u 58, u 59, u 60, u 61, u 62, u 63, u 64, u 65, u 66, u 67, u 68, u 69, u 70, u 71, u 72, u 73, u 74, u 75, u 76, u 77, u 78, u 79, u 80, u 81, u 82, u 83, u 84, u 85, u 86, u 87, u 88, u 89, u 90, u 91, u 92, u 93, u 94, u 95, u 96, u 97, u 98, u 99, u 100, u 101, u 102, u 103, u 104, u 105, u 106, u 107, u 108, u 109, u 110, u 111, u 112, u 113, u 114, u 115, u 116, u 117, u 118, undef], defers := marks Ds }) ?swX ?tlX
      case swX =>
        intro KM hKM
        apply wp_seq_k; intro K9 h9; have H9 := Lib.hid h9; clear h9
        go_wp2_with fail
        refine H9.out _ _ ?_
        clear H9
        refine wp_block ?_
        by_cases hk1 : x.kd = 1
        · have e1 : (x.kd == 1) = true := by rw [beq_iff_eq]; omega
          clear hk1
          obtain ⟨V2, hV2, bV2, yV2, zV2, sV2⟩ := put_or x.o (Below.refl V.heap.size V)
          have HV2 := Lib.hid hV2
          have ZV2 := Lib.hid zV2
          have y3 : EO.Bx 33 (V2.setCell ⟨V.heap.size, 2, none⟩ (.bool buy)) V.heap.size ⟨x.o.nu, x.o.ac, buy, x.o.pr, x.o.le⟩ := gbx_put yV2 rfl
          have y4 : EO.Bx 33 ((V2.setCell ⟨V.heap.size, 2, none⟩ (.bool buy)).setCell ⟨V.heap.size, 0, none⟩ (.int .u64 nx)) V.heap.size ⟨nx, x.o.ac, buy, x.o.pr, x.o.le⟩ := gbx_put y3 rfl
          have b4 : Below V.heap.size V ((V2.setCell ⟨V.heap.size, 2, none⟩ (.bool buy)).setCell ⟨V.heap.size, 0, none⟩ (.int .u64 nx)) := (bV2.setCell (by show V.heap.size ≤ V.heap.size; omega) _).setCell (by show V.heap.size ≤ V.heap.size; omega) _
          have c22 : V2.cell? ⟨V.heap.size, 2, none⟩ = some (.bool x.o.bu) := gbx_cell yV2 2
          have f22 : V2.frozen? ⟨V.heap.size, 2, none⟩ = false := gbx_fz yV2 2
          have cb2 : V2.cell? ⟨w.heap.size, 0, none⟩ = some (.bool buy) := cell_below cb bV2 (Nat.le_refl _)
          have c20 : (V2.setCell ⟨V.heap.size, 2, none⟩ (.bool buy)).cell? ⟨V.heap.size, 0, none⟩ = some (.int .u64 x.o.nu) := gbx_cell y3 0
          have f20 : (V2.setCell ⟨V.heap.size, 2, none⟩ (.bool buy)).frozen? ⟨V.heap.size, 0, none⟩ = false := gbx_fz y3 0
          obtain ⟨W4, hW4⟩ : ∃ W4, (V2.setCell ⟨V.heap.size, 2, none⟩ (.bool buy)).setCell ⟨V.heap.size, 0, none⟩ (.int .u64 nx) = W4 := ⟨_, rfl⟩
          rw [hW4] at y4 b4
          have HW4 := Lib.hid hW4
          have R4 := Lib.hid (gbx_rng y4)
          have F4 := Lib.hid (FV.out.below KH.out b4)
          have OK4 : Hid ((Or.mk nx x.o.ac buy x.o.pr x.o.le).ok) := Lib.hid ⟨⟨by show (0 : Int) ≤ nx; omega, by show (nx : Int) ≤ 18446744073709551615; omega⟩, XO.out.o.ac, XO.out.o.pr, XO.out.o.le⟩
          obtain ⟨ev, hev⟩ : ∃ ev, addA buy os ⟨nx, x.o.ac, buy, x.o.pr, x.o.le⟩ = ev := ⟨_, rfl⟩
          have AD := F4.out.call (os' := addO buy os ⟨nx, x.o.ac, buy, x.o.pr, x.o.le⟩) (t' := t + 1) (e0 := .returned (.int .i64 ev)) (fun F h => by have := KH.out.add h OK4.out (by omega); rw [hev] at this; exact this)
          have HEV := Lib.hid hev
          have ADD := Lib.hid AD
          have SRT := Lib.hid (FI0.out).srt
          clear hV2 bV2 yV2 zV2 sV2 y3 y4 b4 hW4 hev AD
          cases hz : (ev == 0)
          · go_wp2_with (first | ((with_reducible refine gwl_load TO wr.heap.size 1 OR.out ?_ ?_ ?_); rfl; rfl) | (refine gwl_store TO x.o V.heap.size ZV2.out rfl rfl ?_; rw [HV2.out]) | (rw [HW4.out]; (with_reducible refine gwl_load TO V.heap.size 0 R4.out ?_ ?_ ?_); rfl; rfl))
            refine ADD.out.mono ?_; rintro e w5 ⟨rfl, F5⟩
            have F5 := Lib.hid F5
            go_wp2_with fail
            have eo : addO buy os ⟨nx, x.o.ac, buy, x.o.pr, x.o.le⟩ = os := by unfold addO; rw [HEV.out, if_neg (fun c => by rw [c] at hz; cases hz)]
            have F6 := F5.out
            rw [eo] at F6
            exact ⟨nx, os, t + 1, F6, FO.out, NU.out, by omega, by omega, by omega, intro_u rfl⟩
          · go_wp2_with (first | ((with_reducible refine gwl_load TO wr.heap.size 1 OR.out ?_ ?_ ?_); rfl; rfl) | (refine gwl_store TO x.o V.heap.size ZV2.out rfl rfl ?_; rw [HV2.out]) | (rw [HW4.out]; (with_reducible refine gwl_load TO V.heap.size 0 R4.out ?_ ?_ ?_); rfl; rfl))
            refine ADD.out.mono ?_; rintro e w5 ⟨rfl, F5⟩
            have F5 := Lib.hid F5
            go_wp2_with fail
            have eo : addO buy os ⟨nx, x.o.ac, buy, x.o.pr, x.o.le⟩ = insO buy ⟨nx, x.o.ac, buy, x.o.pr, x.o.le⟩ os := by unfold addO; rw [HEV.out, if_pos (beq_iff_eq.1 hz)]
            have F6 := F5.out
            rw [eo] at F6
            refine ⟨nx + 1, _, t + 1, F6, fair_ins FO.out SRT.out NU.out, fun y hy => ?_, by omega, by omega, by omega, ?_⟩
            rotate_left
            · exact intro_u rfl
            rcases ins_mem.1 hy with rfl | hy
            · show (nx : Int) < ((nx + 1 : Nat) : Int); omega
            · have := NU.out y hy; omega
        by_cases hk2 : x.kd = 2
        · have e1 : (x.kd == 1) = false := by rw [beq_eq_false_iff_ne]; omega
          have e2 : (x.kd == 2) = true := by rw [beq_iff_eq]; omega
          go_wp2_with fail
          refine (FV.out.call (os' := fillO os x.n) (t' := t) (fun F h => KH.out.fill h XO.out.n)).mono ?_; rintro e w5 ⟨rfl, F5⟩
          have F5 := Lib.hid F5
          go_wp2_with fail
          exact ⟨nx, _, t, F5.out, fair_fill FO.out, num_fill NU.out, by omega, by omega, by omega, intro_u rfl⟩
        by_cases hk3 : x.kd = 3
        · have e1 : (x.kd == 1) = false := by rw [beq_eq_false_iff_ne]; omega
          have e2 : (x.kd == 2) = false := by rw [beq_eq_false_iff_ne]; omega
          have e3 : (x.kd == 3) = true := by rw [beq_iff_eq]; omega
          go_wp2_with fail
          refine (FV.out.call (os' := dropO os x.o.nu) (t' := t) (fun F h => KH.out.drop h XO.out.o.nu)).mono ?_; rintro e w5 ⟨rfl, F5⟩
          have F5 := Lib.hid F5
          go_wp2_with fail
          exact ⟨nx, _, t, F5.out, fair_drop FO.out, num_drop NU.out, by omega, by omega, by omega, intro_u rfl⟩
        by_cases hk4 : x.kd = 4
        · have e1 : (x.kd == 1) = false := by rw [beq_eq_false_iff_ne]; omega
          have e2 : (x.kd == 2) = false := by rw [beq_eq_false_iff_ne]; omega
          have e3 : (x.kd == 3) = false := by rw [beq_eq_false_iff_ne]; omega
          have e4 : (x.kd == 4) = true := by rw [beq_iff_eq]; omega
          go_wp2_with fail
          refine (FV.out.call (os' := lowO os x.o.nu x.n) (t' := t) (fun F h => KH.out.low h XO.out.o.nu XO.out.n)).mono ?_; rintro e w5 ⟨rfl, F5⟩
          have F5 := Lib.hid F5
          go_wp2_with fail
          exact ⟨nx, _, t, F5.out, fair_low FO.out, num_low NU.out, by omega, by omega, by omega, intro_u rfl⟩
        have e1 : (x.kd == 1) = false := by rw [beq_eq_false_iff_ne]; omega
        have e2 : (x.kd == 2) = false := by rw [beq_eq_false_iff_ne]; omega
        have e3 : (x.kd == 3) = false := by rw [beq_eq_false_iff_ne]; omega
        have e4 : (x.kd == 4) = false := by rw [beq_eq_false_iff_ne]; omega
        go_wp2_with fail
        exact ⟨nx, os, t, FV.out, FO.out, NU.out, by omega, by omega, by omega, intro_u rfl⟩
      case tlX =>
        rintro a1 wr1 ⟨nx', os', t', hfi', hfo', hnu', hn1', hn2', ht', u', rfl⟩
        clear hn1 hn2 ht
        have FI1 := Lib.hid hfi'
        have FO1 := Lib.hid hfo'
        have NU1 := Lib.hid hnu'
        have AR : Hid (1 ≤ nx' ∧ nx' ≤ k + 2 ∧ t' ≤ k + 1) := Lib.hid ⟨hn1', hn2', ht'⟩
        clear hfi' hfo' hnu' hn1' hn2' ht' FO NU FI0 FV d0 d1 d6 cb OR RG HV ZV XO
        obtain ⟨W3, hW3, b3, x3, r3⟩ := two_obj wr1 (EO.cells zeroOr).toArray #[.bool true] 33 4
        have HW3 := Lib.hid hW3
        have X3 := Lib.hid x3
        have R3 := Lib.hid r3
        have B3 := Lib.hid b3
        clear hW3 x3 r3 b3
        obtain ⟨F1, p1, bb1, f1, dd1, nd1⟩ := FI1.out
        have LF1 := Lib.hid (KH.out.lt p1)
        have P3 := Lib.hid (KH.out.keep (S := fun _ => False) p1 (Fr.below B3.out) (fun _ _ h => h))
        clear p1 bb1 f1 dd1 nd1
        go_wp2_with fail
        rw [HW3.out]
        refine (KH.out.all P3.out).mono ?_; rintro e W4 ⟨gf1, lb1, T1, rfl, q4, -, -, -⟩
        have Q4 := Lib.hid q4
        clear q4
        go_wp2_with fail
        refine (KH.out.all (KH.out.keep (S := fun _ => False) P3.out (Fr.below Q4.out) (fun _ _ h => h))).mono ?_; rintro e W5 ⟨gf, lb, T, rfl, q5, en, hT, tell⟩
        have B5 : Hid (Below W3.heap.size W3 W5) := Lib.hid (Q4.out.trans (q5.mono Q4.out.size))
        have TL := Lib.hid tell
        have EN := Lib.hid en
        have HT := Lib.hid hT
        have S4 : Hid (W3.heap.size ≤ W4.heap.size) := Lib.hid Q4.out.size
        clear q5 en hT tell Q4
        go_wp2_with fail
        refine (wpIn_wide (n := 9)).1 ?_
        have hl3 : wr1.heap.size + 1 < W3.heap.size := (Array.getElem?_eq_some_iff.1 R3.out).1
        have hs5 := B5.out.size
        have hs4 := S4.out
        have hb2 : W2.heap.size ≤ wr1.heap.size := FI1.out.bel.size
        have hw2 : w.heap.size + 1 < W2.heap.size := (Array.getElem?_eq_some_iff.1 R2.out).1
        have X5 : Hid (EO.Bx 33 W5 wr1.heap.size zeroOr) := Lib.hid ((B5.out.block _ (by omega)).trans X3.out)
        have R5 : Hid (W5.heap[wr1.heap.size + 1]? = some (.cells #[.bool true] 4 (0, 0))) := Lib.hid ((B5.out.block _ hl3).trans R3.out)
        have B15 : Hid (Below wr1.heap.size wr1 W5) := Lib.hid (B3.out.trans (B5.out.mono B3.out.size))
        refine range_calm (S := fun _ k => k = wr1.heap.size ∨ k = wr1.heap.size + 1) (by decide) rfl EN.out (Still.const _ _) (TL.out W5 (fun _ k => k = wr1.heap.size ∨ k = wr1.heap.size + 1) 8 (Fr.refl _ _) (Still.const _ _) (fun k hk => by rcases hk with rfl | rfl <;> omega) (fun k hk c => by
            rcases (HT.out k hk).2 with h | h
            · have := LF1.out k h; rcases c with rfl | rfl <;> omega
            · rcases c with rfl | rfl <;> omega) (by decide)) (fun _ => rfl)
          (fun pre W => Ig W5 wr1.heap.size (lastO (valsO pre)) pre.isEmpty W)
          (fun _ pre _ => ¬ (valsO pre <+: os'))
          (fun s A C hj b _ => hj.below (by omega) b (Nat.le_refl _))
          (fun _ s A C hj _ _ => hj)
          ⟨fun _ _ _ _ => rfl, X5.out, R5.out, Nat.le_refl _, Below.refl _ _⟩
          (fun x a' W => ∃ bx, W5.heap.size ≤ bx ∧ EO.Bx 33 W bx x.1 ∧ ∃ u : Nat → Value, a' = { tmps := #[.bool buy, .slice (some ⟨b, o, none⟩) n c, .pointer (some ⟨w.heap.size, 0, none⟩), undef, .pointer (some ⟨w.heap.size + 1, 0, none⟩), .pointer (some ⟨g, 0, none⟩), .int .u64 nx', u 7, u 8, u 9, .pointer (some ⟨wr1.heap.size, 0, none⟩), .pointer (some ⟨wr1.heap.size + 1, 0, none⟩), .pointer (some ⟨bx, 0, none⟩), .bool buy, .pointer (some ⟨g, 0, none⟩), .pointer (some ⟨g, 0, none⟩), .bool false, .bool false, .slice (some ⟨b, o, none⟩) n c, .int .i64 n, .bool false, .bool false, undef, undef, undef, undef, undef, .slice (some ⟨b, o, none⟩) n c, .int .i64 n, .int .i64 k, u 30, u 31, u 32, u 33, u 34, u 35, u 36, u 37, u 38, u 39, u 40, u 41, u 42, u 43, u 44, u 45, u 46, u 47, u 48, u 49, u 50, u 51, u 52, u 53, u 54, u 55, u 56, u 57, u 58, u 59, u 60, u 61, u 62, u 63, u 64, u 65, u 66, u 67, u 68, u 69, u 70, u 71, u 72, u 73, u 74, u 75, u 76, u 77, u 78, u 79, u 80, u 81, u 82, u 83, u 84, u 85, u 86, u 87, u 88, u 89, u 90, u 91, u 92, u 93, u 94, u 95, u 96, u 97, u 98, u 99, u 100, u 101, u 102, u 103, u 104, u 105, u 106, u 107, u 108, u 109, u 110, u 111, u 112, u 113, u 114, u 115, u 116, u 117, u 118, undef], defers := [] })
          (fun x a' W l o o' hx hl ho hc => by
            obtain ⟨bx, h1, h2, h3⟩ := hx
            refine ⟨bx, h1, ?_, h3⟩
            show (W.putObj l o').heap[bx]? = _
            rw [World.putObj_heap_other (fun e => ?_)]
            · exact h2
            · subst e
              rw [show W.heap[bx]? = _ from h2] at ho
              cases ho
              cases hc) ?assign ?body ?done ?stop
        case assign =>
          rintro l pre x W KK h2 hK
          have HZ := Lib.hid (gbx_new (E := EO) (te := 33) W zeroOr)
          refine region_in rfl (fun ⟨_, _, h⟩ => h) ?_
          go_wp2_with (refine gwl_store TO x.1 W.heap.size HZ.out rfl rfl ?_)
          have q : Below W.heap.size W ((W.alloc (.cells (EO.cells zeroOr).toArray 33)).setRow W.heap.size (EO.cells x.1).toArray) := row_inO (Nat.le_refl _) (below_new W _)
          refine hK _ _ ⟨q.size, fun k o _ hk _ => (q.block k (Array.getElem?_eq_some_iff.1 hk).1).trans hk⟩ (Kc.below (Still.const _ _) (Nat.le_refl _) q) (h2.grow (by omega) q) ⟨W.heap.size, h2.sz, gbx_set HZ.out, intro_u rfl⟩
        case stop =>
          rintro D c pre W hD hS hx hK
          exact absurd hS hx
        case done =>
          rintro D ys W hD hS h2 hK
          have FZ := Lib.hid (FI1.out.mark KH.out (W' := W) ⟨(B15.out.mono (Nat.zero_le _)).trans h2.b0, fun j hj hn => by
            have hj' : j < wr1.heap.size := Nat.lt_of_not_le hn
            exact (h2.at' j (by omega) (by omega) (by omega)).trans (B15.out.block j hj')⟩ (D := D) (by omega) hK)
          clear h2 hK hS
          go_wp2_with fail
          refine H3.out _ _ ?_
          go_wp2_with fail
          refine HKK.out _ _ (Handed.intro (m - 1) (by have := HM.out; omega) (HJ.out _ _ _ ?_))
          obtain ⟨ar1, ar2, ar3⟩ := AR.out
          exact ⟨k + 1, nx', os', t', D :: Ds, by have := HM.out; omega, by omega, FZ.out, FO1.out, NU1.out, ar1, by omega, ar3, intro_u rfl⟩
        case body =>
          rintro l pre x a' W - - h2 ⟨bx, hb, hbx, u'', rfl⟩ hlen
          have H2 := Lib.hid h2
          have x3 : W.cell? ⟨bx, 3, none⟩ = some (.int .i64 x.1.pr) := gbx_cell hbx 3
          have x0 : W.cell? ⟨bx, 0, none⟩ = some (.int .u64 x.1.nu) := gbx_cell hbx 0
          have HX := Lib.hid (gbx_rng hbx)
          have ez : ∃ z, lastO (valsO pre) = z := ⟨_, rfl⟩
          obtain ⟨z, hz⟩ := ez
          have z3 : W.cell? ⟨wr1.heap.size, 3, none⟩ = some (.int .i64 z.pr) := by rw [← hz]; exact gbx_cell h2.la 3
          have z0 : W.cell? ⟨wr1.heap.size, 0, none⟩ = some (.int .u64 z.nu) := by rw [← hz]; exact gbx_cell h2.la 0
          have HL := Lib.hid h2.la
          obtain ⟨f, hf⟩ : ∃ f, pre.isEmpty = f := ⟨_, rfl⟩
          have y1 : W.cell? ⟨wr1.heap.size + 1, 0, none⟩ = some (.bool f) := by rw [← hf]; exact obj_cell h2.fi
          have fz1 : W.frozen? ⟨wr1.heap.size + 1, 0, none⟩ = false := obj_fz h2.fi 0
          have bub : W.heap[w.heap.size]? = some (.cells #[.bool buy] 4 (0, 0)) := (h2.at' _ (by omega) (by omega) (by omega)).trans ((B15.out.block _ (by omega)).trans ((FI1.out.bel.block _ (by omega)).trans X2.out))
          have yb : W.cell? ⟨w.heap.size, 0, none⟩ = some (.bool buy) := obj_cell bub
          have rrb : W.heap[w.heap.size + 1]? = some (.cells #[.bool false] 4 (0, 0)) := (h2.at' _ (by omega) (by omega) (by omega)).trans ((B15.out.block _ (by omega)).trans ((FI1.out.bel.block _ (by omega)).trans R2.out))
          have cr : W.cell? ⟨w.heap.size + 1, 0, none⟩ = some (.bool false) := obj_cell rrb
          have fr : W.frozen? ⟨w.heap.size + 1, 0, none⟩ = false := obj_fz rrb 0
          have PUT : Hid (Ig W5 wr1.heap.size (lastO (valsO (pre ++ [x]))) (pre ++ [x]).isEmpty ((W.setRow wr1.heap.size (EO.cells x.1).toArray).setCell ⟨wr1.heap.size + 1, 0, none⟩ (.bool false)) ∧ Fr (fun k => k = wr1.heap.size ∨ k = wr1.heap.size + 1) W ((W.setRow wr1.heap.size (EO.cells x.1).toArray).setCell ⟨wr1.heap.size + 1, 0, none⟩ (.bool false))) := Lib.hid (by
            have e1 : lastO (valsO (pre ++ [x])) = x.1 := by rw [valsO_snoc]; simp [lastO]
            have e2 : (pre ++ [x]).isEmpty = false := by simp
            rw [e1, e2]
            exact h2.put x.1)
          have e1f : (W.setRow wr1.heap.size (EO.cells x.1).toArray).heap[wr1.heap.size + 1]? = some (.cells #[.bool f] 4 (0, 0)) := (setRow_other W _ _ _ (by omega)).trans (by rw [← hf]; exact h2.fi)
          have y1' : (W.setRow wr1.heap.size (EO.cells x.1).toArray).cell? ⟨wr1.heap.size + 1, 0, none⟩ = some (.bool f) := obj_cell e1f
          have fz1' : (W.setRow wr1.heap.size (EO.cells x.1).toArray).frozen? ⟨wr1.heap.size + 1, 0, none⟩ = false := obj_fz e1f 0
          have FIN : Hid (KeepsFrom W5.heap.size W ((W.setRow wr1.heap.size (EO.cells x.1).toArray).setCell ⟨wr1.heap.size + 1, 0, none⟩ (.bool false))) := Lib.hid (keeps_of PUT.out.2 (fun j o c ho => by
            rcases c with rfl | rfl
            · rw [show W.heap[wr1.heap.size]? = _ from HL.out] at ho; cases ho; rfl
            · rw [H2.out.fi] at ho; cases ho; rfl))
          have FAIR : Hid (f = false → valsO (pre ++ [x]) <+: os' → btr buy x.1.pr z.pr = false ∧ (x.1.pr = z.pr → z.nu < x.1.nu)) := Lib.hid (fun hff hp => by
            rw [valsO_snoc] at hp
            have := fair_next FO1.out hp (fun c => by
              have h0 : pre = [] := by cases pre with | nil => rfl | cons a r => simp [valsO] at c
              rw [h0] at hf; rw [← hf] at hff; cases hff)
            rw [hz] at this
            exact fair_no this)
          clear h2 hbx hz hf bub rrb e1f
          refine wpIn_block ?_
          apply wpIn_seq_k; intro KB hKB
          apply wpIn_seq_k; intro KA hKA
          cases f
          · cases hbu : buy
            · subst hbu
              cases h1 : decide (x.1.pr < z.pr)
              · cases h2 : (x.1.pr == z.pr)
                · refine region_in rfl (fun ⟨_, _, h⟩ => h) ?_
                  go_wp2_with fail
                  refine wpIn_cond_false rfl ?_
                  apply wpIn_skip
                  refine hKB _ _ ?_
                  refine region_in rfl (fun ⟨_, _, h⟩ => h) ?_
                  go_wp2_with (first | ((with_reducible refine gwl_load TO bx 0 HX.out ?_ ?_ ?_); rfl; rfl) | (refine gwl_store TO x.1 wr1.heap.size HL.out rfl rfl ?_))
                  exact ⟨FIN.out, Kc.fr PUT.out.2, PUT.out.1⟩
                · cases h3 : decide (x.1.nu ≤ z.nu)
                  · refine region_in rfl (fun ⟨_, _, h⟩ => h) ?_
                    go_wp2_with fail
                    refine wpIn_cond_false rfl ?_
                    apply wpIn_skip
                    refine hKB _ _ ?_
                    refine region_in rfl (fun ⟨_, _, h⟩ => h) ?_
                    go_wp2_with (first | ((with_reducible refine gwl_load TO bx 0 HX.out ?_ ?_ ?_); rfl; rfl) | (refine gwl_store TO x.1 wr1.heap.size HL.out rfl rfl ?_))
                    exact ⟨FIN.out, Kc.fr PUT.out.2, PUT.out.1⟩
                  · refine region_in rfl (fun ⟨_, _, h⟩ => h) ?_
                    go_wp2_with fail
                    refine wpIn_cond_true rfl ?_
                    apply wpIn_seq_k; intro K9 h9
                    refine region_in rfl (fun ⟨_, _, h⟩ => h) ?_
                    go_wp2
                    apply wpIn_ret
                    refine ⟨(KeepsOthers.setCell _ _ _).from _, fun hpre => ?_⟩
                    obtain ⟨g1, g2⟩ := FAIR.out (by first | trivial | rfl) hpre
                    have := g2 (beq_iff_eq.1 h2)
                    have := of_decide_eq_true h3
                    omega
              · refine region_in rfl (fun ⟨_, _, h⟩ => h) ?_
                go_wp2_with fail
                refine wpIn_cond_true rfl ?_
                apply wpIn_seq_k; intro K9 h9
                refine region_in rfl (fun ⟨_, _, h⟩ => h) ?_
                go_wp2
                apply wpIn_ret
                refine ⟨(KeepsOthers.setCell _ _ _).from _, fun hpre => ?_⟩
                obtain ⟨g1, g2⟩ := FAIR.out (by first | trivial | rfl) hpre
                have h1' := of_decide_eq_true h1
                simp only [btr, Bool.true_and, Bool.false_and, Bool.not_true, Bool.not_false, Bool.or_false, Bool.false_or, decide_eq_false_iff_not] at g1
                omega
            · subst hbu
              cases h1 : decide (z.pr < x.1.pr)
              · cases h2 : (x.1.pr == z.pr)
                · refine region_in rfl (fun ⟨_, _, h⟩ => h) ?_
                  go_wp2_with fail
                  refine wpIn_cond_false rfl ?_
                  apply wpIn_skip
                  refine hKB _ _ ?_
                  refine region_in rfl (fun ⟨_, _, h⟩ => h) ?_
                  go_wp2_with (first | ((with_reducible refine gwl_load TO bx 0 HX.out ?_ ?_ ?_); rfl; rfl) | (refine gwl_store TO x.1 wr1.heap.size HL.out rfl rfl ?_))
                  exact ⟨FIN.out, Kc.fr PUT.out.2, PUT.out.1⟩
                · cases h3 : decide (x.1.nu ≤ z.nu)
                  · refine region_in rfl (fun ⟨_, _, h⟩ => h) ?_
                    go_wp2_with fail
                    refine wpIn_cond_false rfl ?_
                    apply wpIn_skip
                    refine hKB _ _ ?_
                    refine region_in rfl (fun ⟨_, _, h⟩ => h) ?_
                    go_wp2_with (first | ((with_reducible refine gwl_load TO bx 0 HX.out ?_ ?_ ?_); rfl; rfl) | (refine gwl_store TO x.1 wr1.heap.size HL.out rfl rfl ?_))
                    exact ⟨FIN.out, Kc.fr PUT.out.2, PUT.out.1⟩
                  · refine region_in rfl (fun ⟨_, _, h⟩ => h) ?_
                    go_wp2_with fail
                    refine wpIn_cond_true rfl ?_
                    apply wpIn_seq_k; intro K9 h9
                    refine region_in rfl (fun ⟨_, _, h⟩ => h) ?_
                    go_wp2
                    apply wpIn_ret
                    refine ⟨(KeepsOthers.setCell _ _ _).from _, fun hpre => ?_⟩
                    obtain ⟨g1, g2⟩ := FAIR.out (by first | trivial | rfl) hpre
                    have := g2 (beq_iff_eq.1 h2)
                    have := of_decide_eq_true h3
                    omega
              · refine region_in rfl (fun ⟨_, _, h⟩ => h) ?_
                go_wp2_with fail
                refine wpIn_cond_true rfl ?_
                apply wpIn_seq_k; intro K9 h9
                refine region_in rfl (fun ⟨_, _, h⟩ => h) ?_
                go_wp2
                apply wpIn_ret
                refine ⟨(KeepsOthers.setCell _ _ _).from _, fun hpre => ?_⟩
                obtain ⟨g1, g2⟩ := FAIR.out (by first | trivial | rfl) hpre
                have h1' := of_decide_eq_true h1
                simp only [btr, Bool.true_and, Bool.false_and, Bool.not_true, Bool.not_false, Bool.or_false, Bool.false_or, decide_eq_false_iff_not] at g1
                omega
          · refine region_in rfl (fun ⟨_, _, h⟩ => h) ?_
            go_wp2_with fail
            refine wpIn_cond_false rfl ?_
            apply wpIn_skip
            refine hKB _ _ ?_
            refine region_in rfl (fun ⟨_, _, h⟩ => h) ?_
            go_wp2_with (first | ((with_reducible refine gwl_load TO bx 0 HX.out ?_ ?_ ?_); rfl; rfl) | (refine gwl_store TO x.1 wr1.heap.size HL.out rfl rfl ?_))
            exact ⟨FIN.out, Kc.fr PUT.out.2, PUT.out.1⟩
theorem fair6_all {Pd : PdT} {zs : Array Value} (K : SideK Pd zs) (buy : Bool) (A : Option Addr) (n c : Nat) (l : List OpS) (w : World) (hr : EOp.Rd w A n l) (hok : ∀ x, x ∈ l → x.ok) (hm : n ≤ maxLen) :
    Calls Try.prog 5 #[.bool buy, .slice A n c] w fun e w' => e = .returned (.bool true) ∧ Below w.heap.size w w' := by
  unfold maxLen at hm
  rcases Nat.lt_or_ge 150 n with h | h
  · exact fair6_out K buy A n c w h (by omega)
  · exact fair6_in K buy A n c l w hr hok h
end Go.Proofs.Ytpnccbcaoifdiaa
