/- The walk of the statement CalendarFrom, given the program's calendar. -/
import Derived.Test.YtejhnfkljfdejaaKe
import Derived.Test.YtejhnfkljfdejaaKp
namespace Go.Proofs.Ytejhnfkljfdejaa
open Go.RowKit Go.Shelf

set_option maxRecDepth 100000 in
theorem from_out {Pc : PcT} {zc : Array Value} (K : CalK Pc zc) (d : Int) (A : Option Addr) (n c : Nat) (w : World) (hn : 100 < n) (hm : n ≤ 9223372036854775807) :
    Calls Try.prog 5 #[.int .u32 d, .slice A n c] w fun e w' => e = .returned (.bool true) ∧ Below w.heap.size w w' := by
  have KN := Lib.hid (fun W => known5_any K W)
  have hd100 : decide (100 < (n : Int)) = true := decide_eq_true (by omega)
  clear K
  go_enter Try.func5, Try.ntmps5
  go_wp2_with fail
  refine (KN.out _).mono ?_; rintro e w2 ⟨rfl, q⟩
  have Q := Lib.hid q
  clear q
  go_wp2_with fail
  go_ret
  exact ⟨rfl, Q.out⟩
/-- A row of contracts that is read, of one's own. -/
theorem own_rdc {w : World} {B n : Nat} {os : List Ct} {A : Option Addr} {c : Nat} (hn : os.length = n) (o : w.ownsRow B 45 27 (.slice A n c) n (flat os)) (hs : ∀ y, y ∈ os → y.sp.sh.length = 16) : RdC w A n os := by
  subst hn
  have h := own_read o 0 os.length (Nat.zero_le _) (Nat.le_refl _) hs
  rw [Nat.sub_zero, List.take_length, List.drop_zero] at h
  rcases o.2 with ⟨e, hz⟩ | ⟨g, cap, cur, e, _⟩
  · injection e with e1 e2 e3
    subst e1
    exact h
  · injection e with e1 e2 e3
    subst e1
    simpa using h
theorem own_none {w : World} {B n : Nat} {A : Option Addr} {c : Nat} {xs : List Value} (o : w.ownsRow B 45 27 (.slice A n c) n xs) (h : A = none) : c = 0 := by
  rcases o.2 with ⟨e, hz⟩ | ⟨g, cap, cur, e, _⟩
  · injection e
  · injection e with e1 e2 e3
    rw [h] at e1
    cases e1
/-- The prices of the list in which they are turned. -/
def Prices (W : World) (ib n : Nat) : Prop := ∀ k, k < n → ∃ p : Int, W.cell? ⟨ib, k * 27 + 26, none⟩ = some (.int .i64 p) ∧ I64 p ∧ W.frozen? ⟨ib, k * 27 + 26, none⟩ = false
theorem prices_of {w : World} {ib n c : Nat} {os : List Ct} {B : Nat} (hn : os.length = n) (o : w.ownsRow B 45 27 (.slice (some ⟨ib, 0, none⟩) n c) n (flat os)) (hok : ∀ y, y ∈ os → y.ok) : Prices w ib n := by
  subst hn
  intro k hk
  have hx : os[k]? = some os[k] := List.getElem?_eq_getElem hk
  have hs : ∀ y, y ∈ os → y.sp.sh.length = 16 := fun y hy => (hok y hy).sp.len
  have hxo := hok _ (List.mem_of_getElem? hx)
  refine ⟨os[k].pr, ?_, hxo.pr, ?_⟩
  · rw [o.cellAt (k * 27 + 26) (by omega), flat_at os k _ hs hx 26 (by decide), Ct.c26 hxo.sp.len]
  · obtain ⟨b', c1, cur, e2, hb, hh, _⟩ := o.2.resolve_left (fun c => by cases c.1)
    cases e2
    simp [World.frozen?, hh]
theorem wrap_i64_fits (x : Int) : I64 (wrap64 x) := by unfold wrap64 I64; omega
theorem Prices.set {W : World} {ib n k : Nat} (h : Prices W ib n) {p : Int} (hp : I64 p) : Prices (W.setCell ⟨ib, k * 27 + 26, none⟩ (.int .i64 p)) ib n := by
  intro j hj
  obtain ⟨q, h1, h2, h3⟩ := h j hj
  by_cases e : j = k
  · subst e
    exact ⟨p, World.cell?_setCell_same' _ _ _ (by rw [h1]; rfl), hp, by rw [World.frozen?_setCell]; exact h3⟩
  · refine ⟨q, ?_, h2, by rw [World.frozen?_setCell]; exact h3⟩
    rw [World.cell?_setCell_other (h := fun c => by have h := congrArg Addr.off c; dsimp only at h; omega)]
    exact h1
theorem Rc.less {W : World} {B B' g : Nat} {v : Value} {d : Int} {cs : List Ct} (h : Rc W B g v d cs) (hb : B' ≤ B) : Rc W B' g v d cs :=
  ⟨h.blk, ⟨h.own.1, h.own.2.imp id fun ⟨b, cap, cur, e, k, r⟩ => ⟨b, cap, cur, e, Nat.le_trans hb k, r⟩⟩, Nat.le_trans hb h.ge, h.le, h.ok, h.dy, h.one⟩
theorem Rc.far {W : World} {B g : Nat} {v : Value} {d : Int} {cs : List Ct} (h : Rc W B g v d cs) (k : Nat) (hk : RcS g v k) : B ≤ k ∧ k < W.heap.size := by
  rcases hk with rfl | hk
  · exact ⟨h.ge, (Array.getElem?_eq_some_iff.1 h.blk).1⟩
  · rcases h.own.2 with ⟨e, _⟩ | ⟨b, c, cur, e, hb, hh, _⟩
    · rw [e] at hk; cases hk
    · rw [e] at hk; cases hk; exact ⟨hb, (Array.getElem?_eq_some_iff.1 hh).1⟩
theorem Pl.turn {Pc : PcT} {zc : Array Value} (K : CalK Pc zc) {w W : World} {F : Nat → Prop} {g gr : Nat} {v : Value} {d d2 : Int} {cs cs2 : List Ct} (h : Pl Pc w [] W F g gr v d cs d2 cs2) {ib j : Nat} (h1 : ¬ F ib) (h2 : ¬ RcS gr v ib) (h3 : w.heap.size ≤ ib) (u : Value) : Pl Pc w [] (W.setCell ⟨ib, j, none⟩ u) F g gr v d cs d2 cs2 := by
  have f : Fr (fun k => ib = k) W (W.setCell ⟨ib, j, none⟩ u) := Fr.set (p := ⟨ib, j, none⟩) rfl u
  exact ⟨K.keep h.pc f (fun k hk c => h1 (c ▸ hk)), h.rc.keep f (fun c => h2 (c ▸ .inl rfl)) (fun k hk c => h2 (c ▸ .inr hk)), fun k hk => Nat.lt_of_lt_of_le (h.lt k hk) f.size, fun k hk => Nat.lt_of_lt_of_le (h.lv k hk) f.size, h.ap, h.fp, h.fv, h.bl.setCell h3 u, fun p hp => by cases hp⟩
set_option maxRecDepth 100000 in
set_option maxHeartbeats 8000000 in
theorem from_in {Pc : PcT} {zc : Array Value} (K : CalK Pc zc) (d : Int) (A : Option Addr) (n c : Nat) (os : List Ct) (w : World) (hr : RdK w A n os) (hok : ∀ x, x ∈ os → x.ok) (h0 : A = none → c = 0) (hd : 0 ≤ d ∧ d ≤ 4294967295) (hn : n ≤ 100) :
    Calls Try.prog 5 #[.int .u32 d, .slice A n c] w fun e w' => e = .returned (.bool true) ∧ Below w.heap.size w w' := by
  have KN := Lib.hid (fun W => known5_any K W)
  have SH : Hid (∀ y, y ∈ os → y.sp.sh.length = 16) := Lib.hid fun y hy => (hok y hy).sp.len
  have q0 : Below w.heap.size w (w.alloc (.cells #[] 45)) := (Below.refl _ w).alloc (Nat.le_refl _) _
  have RC : Hid (RdC (w.alloc (.cells #[] 45)) A n os) := Lib.hid ((hr.below q0).rdc SH.out)
  have HR := Lib.hid hr
  have HOK := Lib.hid hok
  have H0 := Lib.hid h0
  have HD := Lib.hid hd
  have KH := Lib.hid K
  have hd100 : decide (100 < (n : Int)) = false := decide_eq_false (by omega)
  clear K hr hok h0 hd q0
  go_enter Try.func5, Try.ntmps5
  go_wp2_with (at_builtin; refine wpl_app rfl (.tmp 15) (.tmp 16) rfl w.heap.size (.slice (some ⟨w.heap.size, 0, none⟩) 0 0) 0 [] rfl (own_nil w) A n c os rfl RC.out H0.out SH.out (by omega) (by simp) ?_; intro v' w1 ho hg; obtain ⟨A', c', rfl⟩ := own_form ho; rw [Nat.zero_add, List.nil_append] at ho; have HO := Lib.hid ho; have HG := Lib.hid hg; clear ho hg)
  have q1 : Below w.heap.size w w1 := ((Below.refl _ w).alloc (Nat.le_refl _) (.cells #[] 45)).grown HG.out (by simp) (fun j e => by cases e; exact Nat.le_refl _)
  have Q1 := Lib.hid q1
  have RC1 := own_rdc HR.out.1 HO.out SH.out
  have N1 := own_none HO.out
  have IB : Hid (∀ ib, A' = some ⟨ib, 0, none⟩ → w.heap.size ≤ ib ∧ ib < w1.heap.size ∧ Prices w1 ib n) := Lib.hid fun ib e => by
    subst e
    have h := HO.out.2.resolve_left (fun c => by cases c.1)
    obtain ⟨g, cap, cur, e, hb, hh, _⟩ := h
    cases e
    exact ⟨hb, (Array.getElem?_eq_some_iff.1 hh).1, prices_of HR.out.1 HO.out HOK.out⟩
  have AF : Hid (0 < n → ∃ ib, A' = some ⟨ib, 0, none⟩) := Lib.hid fun hp => by
    rcases HO.out.2 with ⟨_, hz⟩ | ⟨g, cap, cur, e, _⟩
    · omega
    · injection e with e1
      exact ⟨g, e1⟩
  cases hf : fromA os
  · have CF := Lib.hid (KH.out.fromF RC1 HOK.out HD.out N1 hn hf)
    clear q1 RC1 N1 RC
    refine CF.out.mono ?_; rintro e w2 ⟨rfl, q2⟩
    have RF := Lib.hid (rfrom_any A n c d os w2 ((HR.out.below Q1.out).below q2) HOK.out (by omega) H0.out HD.out)
    have Q2 := Lib.hid q2
    clear CF q2
    go_wp2_with fail
    refine RF.out.mono ?_; rintro e w3 ⟨hE, q3⟩
    rw [hf, if_neg Bool.false_ne_true] at hE
    subst hE
    have B3 := Lib.hid (Q1.out.trans ((Q2.out.trans (q3.mono Q2.out.size)).mono Q1.out.size))
    have P3 : Hid (∀ ib, A' = some ⟨ib, 0, none⟩ → Prices w3 ib n) := Lib.hid fun ib e k hk => by
      obtain ⟨p, h1, h2, h3⟩ := (IB.out ib e).2.2 k hk
      have hl := (IB.out ib e).2.1
      have hb : w3.heap[ib]? = w1.heap[ib]? := (q3.block ib (Nat.lt_of_lt_of_le hl Q2.out.size)).trans (Q2.out.block ib hl)
      exact ⟨p, by unfold World.cell? at h1 ⊢; rw [hb]; exact h1, h2, by unfold World.frozen? at h3 ⊢; rw [hb]; exact h3⟩
    clear RF q3 hf Q2
    go_wp2_with fail
    go_loopw [42] (fun i wr => ∃ k : Nat, k ≤ n ∧ i = .int .i64 k ∧ Below w.heap.size w wr ∧ ∀ ib, A' = some ⟨ib, 0, none⟩ → Prices wr ib n) (fun i _ => n - (intOf i).toNat)
    case atStart => exact ⟨0, Nat.zero_le _, rfl, B3.out, P3.out⟩
    case round =>
      obtain ⟨k, hk, rfl, hb, hp⟩ := hrel
      by_cases hlt : k < n
      case pos =>
        obtain ⟨ib, rfl⟩ := AF.out (by omega)
        have PR := Lib.hid (hp ib rfl)
        have BB := Lib.hid hb
        obtain ⟨p, h1, h2, h3⟩ := PR.out k hlt
        have hkl : (k : Int) < (n : Int) := by omega
        obtain ⟨p1, p2⟩ := h2
        clear hb hp
        go_wp2_with fail
        go_roundw
        case rel => exact ⟨k + 1, hlt, by go_num, BB.out.setCell (IB.out ib rfl).1 _, fun ib' e => by cases e; exact PR.out.set (wrap_i64_fits _)⟩
        case measure => simp [intOf]; omega
      case neg =>
        obtain rfl : k = n := by omega
        have BB := Lib.hid hb
        clear hb hp
        go_wp2_with fail
        refine (KN.out _).mono ?_; rintro e w4 ⟨rfl, q4⟩
        have B4 := Lib.hid (BB.out.trans (q4.mono BB.out.size))
        clear q4
        go_wp2_with fail
        go_ret
        exact ⟨rfl, B4.out⟩
  · have CF := Lib.hid (KH.out.fromT RC1 HOK.out HD.out N1 hn hf)
    clear q1 RC1 N1 RC
    refine CF.out.mono ?_; rintro e w2 ⟨g, F, rfl, hp, q2, hF⟩
    have RF := Lib.hid (rfrom_any A n c d os w2 ((HR.out.below Q1.out).below q2) HOK.out (by omega) H0.out HD.out)
    have Q2 := Lib.hid q2
    have HP := Lib.hid hp
    have HF := Lib.hid hF
    clear CF q2 hp hF
    go_wp2_with fail
    refine RF.out.mono ?_; rintro e w3 ⟨hE, q3⟩
    rw [hf, if_pos rfl] at hE
    obtain ⟨gr, v, rfl, hrc⟩ := hE
    have PL : Hid (Pl Pc w [] w3 F g gr v d os d os) := Lib.hid ⟨KH.out.keep HP.out (Fr.below q3) (fun _ _ c => c), hrc.less (Nat.le_trans Q1.out.size Q2.out.size), fun k hk => Nat.lt_of_lt_of_le (KH.out.lt HP.out k hk) q3.size, fun k hk => (hrc.far k hk).2, fun k hk c => by have h1 := KH.out.lt HP.out k hk; have h2 := (hrc.far k c).1; omega, fun k hk => Nat.le_trans Q1.out.size (HF.out k hk), fun k hk => Nat.le_trans (Nat.le_trans Q1.out.size Q2.out.size) (hrc.far k hk).1, Q1.out.trans ((Q2.out.trans (q3.mono Q2.out.size)).mono Q1.out.size), fun p hp => by cases hp⟩
    have IN : Hid (∀ ib, A' = some ⟨ib, 0, none⟩ → ¬ F ib ∧ ¬ RcS gr v ib ∧ w.heap.size ≤ ib) := Lib.hid fun ib e => by
      obtain ⟨h1, h2, _⟩ := IB.out ib e
      exact ⟨fun c => by have := HF.out ib c; omega, fun c => by have := (hrc.far ib c).1; have := Q2.out.size; omega, h1⟩
    have P3 : Hid (∀ ib, A' = some ⟨ib, 0, none⟩ → Prices w3 ib n) := Lib.hid fun ib e k hk => by
      obtain ⟨p, h1, h2, h3⟩ := (IB.out ib e).2.2 k hk
      have hl := (IB.out ib e).2.1
      have hb : w3.heap[ib]? = w1.heap[ib]? := (q3.block ib (Nat.lt_of_lt_of_le hl Q2.out.size)).trans (Q2.out.block ib hl)
      exact ⟨p, by unfold World.cell? at h1 ⊢; rw [hb]; exact h1, h2, by unfold World.frozen? at h3 ⊢; rw [hb]; exact h3⟩
    clear RF q3 hf Q2 HP HF hrc
    go_wp2_with fail
    go_loopw [42] (fun i wr => ∃ k : Nat, k ≤ n ∧ i = .int .i64 k ∧ Pl Pc w [] wr F g gr v d os d os ∧ ∀ ib, A' = some ⟨ib, 0, none⟩ → Prices wr ib n) (fun i _ => n - (intOf i).toNat)
    case atStart => exact ⟨0, Nat.zero_le _, rfl, PL.out, P3.out⟩
    case round =>
      obtain ⟨k, hk, rfl, hb, hp⟩ := hrel
      by_cases hlt : k < n
      case pos =>
        obtain ⟨ib, rfl⟩ := AF.out (by omega)
        have PR := Lib.hid (hp ib rfl)
        have BB := Lib.hid hb
        obtain ⟨p, h1, h2, h3⟩ := PR.out k hlt
        have hkl : (k : Int) < (n : Int) := by omega
        obtain ⟨p1, p2⟩ := h2
        clear hb hp
        go_wp2_with fail
        go_roundw
        case rel => exact ⟨k + 1, hlt, by go_num, BB.out.turn KH.out (IN.out ib rfl).1 (IN.out ib rfl).2.1 (IN.out ib rfl).2.2 _, fun ib' e => by cases e; exact PR.out.set (wrap_i64_fits _)⟩
        case measure => simp [intOf]; omega
      case neg =>
        obtain rfl : k = n := by omega
        have SM := Lib.hid (PlE.same KH.out ⟨F, v, hb⟩)
        clear hb hp
        go_wp2_with fail
        refine SM.out.mono ?_; rintro e w4 ⟨rfl, q4⟩
        have B4 := Lib.hid q4.bl
        clear q4
        go_wp2_with fail
        refine (KN.out _).mono ?_; rintro e w5 ⟨rfl, q5⟩
        have B5 := Lib.hid (B4.out.trans (q5.mono B4.out.size))
        clear q5
        go_wp2_with fail
        go_ret
        exact ⟨rfl, B5.out⟩
theorem from_all {Pc : PcT} {zc : Array Value} (K : CalK Pc zc) (d : Int) (A : Option Addr) (n c : Nat) (os : List Ct) (w : World) (hd : 0 ≤ d ∧ d ≤ 4294967295) (hr : RdK w A n os) (hok : ∀ x, x ∈ os → x.ok) (h0 : A = none → c = 0) (hm : n ≤ maxLen) :
    Calls Try.prog 5 #[.int .u32 d, .slice A n c] w fun e w' => e = .returned (.bool true) ∧ Below w.heap.size w w' := by
  by_cases hn : n ≤ 100
  · exact from_in K d A n c os w hr hok h0 hd hn
  · exact from_out K d A n c w (by omega) (by unfold maxLen at hm; omega)
end Go.Proofs.Ytejhnfkljfdejaa
