/- fixnum.Sum; the document's numbers made, added, told (shaken out of stage 1's texts). -/
import Derived.Test.YtcpcnjiphiokjaaQd
import Derived.Test.YtcpcnjiphiokjaaRefMath
import Derived.WalkKit
import Derived.WalkSpells
import Derived.WalkLawsBesides
import Derived.Laws.Externs
import Derived.Shelf.Spec.BitsCarry
import Derived.Lib.Hide
import Derived.RowKit3
import Derived.BigQuiet
import Derived.Deep.QuietTactic
import Derived.Deep.MidRow
import Derived.Great.BuildSlice
import Derived.Deep.RegionHeld3
namespace Go.Proofs.Ytcpcnjiphiokjaa
open Go.RowKit


/-- The number that a call tells: it, or 0 where it does not fit. -/
def tN (x : Int) : Int := if -9223372036854775808 ≤ x ∧ x ≤ 9223372036854775807 then x else 0
/-- The error that a call tells: none, or 6 (it does not fit). -/
def tE (x : Int) : Int := if -9223372036854775808 ≤ x ∧ x ≤ 9223372036854775807 then 0 else 6
/-- The low word of a sum with a carry, and the carry. -/
def a64 (x y c : Int) : Int := (x + y + c) % 18446744073709551616
def c64 (x y c : Int) : Int := (x + y + c) / 18446744073709551616
theorem add64 (x y c : Int) (hx : 0 ≤ x) (hy : 0 ≤ y) (hc0 : 0 ≤ c) (hc : c ≤ 1) (w : World) : (callFunc 49 #[.int .u64 x, .int .u64 y, .int .u64 c]).run Try.prog w =
    .ok (.value (.tuple #[.int .u64 (a64 x y c), .int .u64 (c64 x y c)])) w := by
  obtain ⟨x, rfl⟩ := Int.eq_ofNat_of_zero_le hx
  obtain ⟨y, rfl⟩ := Int.eq_ofNat_of_zero_le hy
  obtain ⟨c, rfl⟩ := Int.eq_ofNat_of_zero_le hc0
  rw [run_callFunc_extern Try.func49 (by kernel_rfl) (by kernel_rfl) (by kernel_rfl) (e := add64Entry) (by kernel_rfl), run_add64 x y c (by omega) (by omega) (by omega) (by omega)]
  rfl
theorem ret2 {x y x' y' : Int} (h : x = x') (k : y = y') : Ending.returned (.tuple #[.int .i64 x, .int .i64 y]) = Ending.returned (.tuple #[.int .i64 x', .int .i64 y']) := by rw [h, k]
theorem ret1 {k : IntKind} {x x' : Int} (h : x = x') : Ending.returned (.int k x) = Ending.returned (.int k x') := by rw [h]
theorem retB {x x' : Bool} (h : x = x') : Ending.returned (.bool x) = Ending.returned (.bool x') := by rw [h]
/-- The word above a number that is held in two; the number's own low word. -/
def up (n : Int) : Int := n / 18446744073709551616 % 18446744073709551616
def lw (n : Int) : Int := n % 18446744073709551616
theorem up_bd (n : Int) : 0 ≤ up n ∧ up n ≤ 18446744073709551615 := by unfold up; omega
theorem lw_bd (n : Int) : 0 ≤ lw n ∧ lw n ≤ 18446744073709551615 := by unfold lw; omega
theorem u64_wrap (n : Int) : IntKind.u64.wrap n = lw n := by unfold lw; exact IntKind.wrap_u64 n
theorem up_of (n : Int) (hn : I64 n) : IntKind.u64.wrap (n / 9223372036854775808) = up n := by
  unfold I64 at hn; rw [IntKind.wrap_u64]; unfold up; omega
set_option maxHeartbeats 400000 in
theorem upper_any (n : Int) (hn : I64 n) (w : World) :
    Calls Try.prog 50 #[.int .i64 n] w fun e w' => e = .returned (.int .u64 (up n)) ∧ w = w' := by
  have H := Lib.hid (up_of n hn)
  unfold I64 at hn
  go_enter Try.func50, Try.ntmps50
  go_wp2
  go_ret
  exact ⟨ret1 H.out, rfl⟩
/-- A number without its sign. -/
def mag (n : Int) : Int := if n < 0 then -n else n
theorem mag_bd (n : Int) (hn : I64 n) : 0 ≤ mag n ∧ mag n ≤ 9223372036854775808 := by unfold I64 at hn; unfold mag; split <;> omega
/-- What a sign and a magnitude are together. -/
def sgn (s : Bool) (m : Int) : Int := if s then -m else m
theorem tN_in {x : Int} (h : I64 x) : tN x = x := if_pos h
theorem tE_in {x : Int} (h : I64 x) : tE x = 0 := if_pos h
theorem tN_out {x : Int} (h : ¬ I64 x) : tN x = 0 := if_neg h
theorem tE_out {x : Int} (h : ¬ I64 x) : tE x = 6 := if_neg h
/-- The two words of a sum. -/
def hiS (S : Int) : Int := S / 18446744073709551616 % 18446744073709551616
theorem hi_bd (n : Int) : 0 ≤ hiS n ∧ hiS n ≤ 18446744073709551615 := by unfold hiS; omega
theorem lo_step (S n : Int) : a64 (lw S) (IntKind.u64.wrap n) 0 = lw (S + n) := by rw [u64_wrap]; unfold a64 lw; omega
theorem hi_step (S n : Int) : a64 (hiS S) (up n) (c64 (lw S) (IntKind.u64.wrap n) 0) = hiS (S + n) := by
  rw [u64_wrap]; unfold a64 hiS lw c64 up; omega
theorem c_bd (x y : Int) (hx : 0 ≤ x ∧ x ≤ 18446744073709551615) (hy : 0 ≤ y ∧ y ≤ 18446744073709551615) : 0 ≤ c64 x y 0 ∧ c64 x y 0 ≤ 1 := by unfold c64; omega
theorem wr_bd (n : Int) : 0 ≤ IntKind.u64.wrap n ∧ IntKind.u64.wrap n ≤ 18446744073709551615 := by rw [u64_wrap]; exact lw_bd n
/-- The sum of a list. -/
def sm : List Int → Int
  | [] => 0
  | n :: l => n + sm l
theorem sm_snoc (l : List Int) (n : Int) : sm (l ++ [n]) = sm l + n := by
  induction l with
  | nil => simp [sm]
  | cons m l ih => simp only [List.cons_append, sm, ih]; omega
theorem sm_take (zs : List Int) (k : Nat) (h : k < zs.length) : sm (zs.take (k + 1)) = sm (zs.take k) + zs.getD k 0 := by
  rw [List.take_succ_eq_append_getElem h, sm_snoc]; simp [List.getD, h]
theorem sm_bd (l : List Int) (h : ∀ n, n ∈ l → I64 n) : -9223372036854775808 * (l.length : Int) ≤ sm l ∧ sm l ≤ 9223372036854775807 * (l.length : Int) := by
  induction l with
  | nil => simp [sm]
  | cons n l ih =>
    have h1 := ih fun m hm => h m (by simp [hm])
    have h2 := h n (by simp)
    unfold I64 at h2
    rw [List.length_cons]
    unfold sm
    omega

/-- Whether the whole sum does not fit, as Sum asks it. -/
theorem sum_bad (S : Int) (h1 : -100000000000000000000000000000000000000 ≤ S) (h2 : S ≤ 100000000000000000000000000000000000000) (h : (hiS S != up (wrap64 (lw S))) = true) : 0 = tN S ∧ 6 = tE S := by
  have h' : hiS S ≠ up (wrap64 (lw S)) := by simpa using h
  have A : ¬ I64 S := by
    intro hS
    apply h'
    unfold I64 at hS
    unfold hiS up wrap64 lw
    omega
  exact ⟨(tN_out A).symm, (tE_out A).symm⟩
theorem sum_good (S : Int) (h1 : -100000000000000000000000000000000000000 ≤ S) (h2 : S ≤ 100000000000000000000000000000000000000) (h : (hiS S != up (wrap64 (lw S))) = false) : wrap64 (lw S) = tN S ∧ 0 = tE S := by
  have h' : hiS S = up (wrap64 (lw S)) := by simpa using h
  have A : I64 S := by
    unfold hiS up wrap64 lw at h'
    unfold I64
    omega
  rw [tN_in A, tE_in A]
  unfold I64 at A
  unfold wrap64 lw
  exact ⟨by omega, rfl⟩
theorem w64_I64 (n : Int) : I64 (wrap64 n) := by unfold I64 wrap64; omega
set_option maxHeartbeats 1000000 in
theorem sum_any (b off len cap : Nat) (zs : List Int) (w : World) (hz : zs.length = len) (hbig : len ≤ 1152921504606846976) (hr : ∀ n, n ∈ zs → I64 n)
    (hc : ∀ j, j < len → w.cell? ⟨b, off + j, none⟩ = some (.int .i64 (zs.getD j 0))) :
    Calls Try.prog 24 #[.slice (some ⟨b, off, none⟩) len cap] w fun e w' => e = .returned (.tuple #[.int .i64 (tN (sm zs)), .int .i64 (tE (sm zs))]) ∧ w = w' := by
  have HR := Lib.hid hr
  have HZ := Lib.hid hz
  clear hr hz
  go_enter Try.func24, Try.ntmps24
  go_wp2
  go_loop [4, 5, 6, 11] (fun h l c i => ∃ (k : Nat) (cc : Int), k ≤ len ∧ i = .int .i64 k ∧ h = .int .u64 (hiS (sm (zs.take k))) ∧ l = .int .u64 (lw (sm (zs.take k))) ∧ c = .int .u64 cc) (fun _ _ _ i => len - (intOf i).toNat)
  case atStart => exact ⟨0, 0, Nat.zero_le _, rfl, rfl, rfl, rfl⟩
  case round =>
    obtain ⟨k, cc, hk, rfl, rfl, rfl, rfl⟩ := hrel
    by_cases hlt : k < len
    · have hcell := hc k hlt
      have hx : zs.getD k 0 ∈ zs := by
        have h3 : k < zs.length := by have := HZ.out; omega
        rw [show zs.getD k 0 = zs[k] from by simp [List.getD, h3]]
        exact List.getElem_mem _
      have hI := HR.out _ hx
      have HS := Lib.hid (sm_take zs k (by have := HZ.out; omega))
      obtain ⟨x, hxe⟩ : ∃ x, x = zs.getD k 0 := ⟨_, rfl⟩
      rw [← hxe] at hcell hI HS
      have l1 := lw_bd (sm (zs.take k))
      have l2 := hi_bd (sm (zs.take k))
      have l3 := wr_bd x
      have l4 := c_bd _ _ l1 l3
      have l5 := up_bd x
      obtain ⟨S, hS⟩ : ∃ S, S = sm (zs.take k) := ⟨_, rfl⟩
      rw [← hS] at l1 l2 l4 HS
      have e1 := Lib.hid (lo_step S x)
      have e2 := Lib.hid (hi_step S x)
      clear hx
      have HX := Lib.hid hxe
      have HSS := Lib.hid hS
      clear hxe hc
      rw [← hS]
      clear hS
      have hI' := Lib.hid hI
      clear hI
      go_wp2_with (first | simp only [add64 (lw S) (IntKind.u64.wrap x) 0 l1.1 l3.1 (Int.le_refl 0) (by decide)] | simp only [add64 (hiS S) (up x) _ l2.1 l5.1 l4.1 l4.2] | (go_at_call 50; refine (upper_any x hI'.out _).mono ?_; rintro e w' ⟨rfl, rfl⟩))
      go_round
      case rel => exact ⟨k + 1, _, by omega, by go_num, by rw [HS.out, e2.out], by rw [HS.out, e1.out], rfl⟩
      case measure => simp [intOf]; omega
    · obtain rfl : k = len := by omega
      have hT : zs.take k = zs := by rw [← HZ.out]; exact List.take_length
      rw [hT]
      have hb := sm_bd zs HR.out
      have hb1 : -100000000000000000000000000000000000000 ≤ sm zs := by have := HZ.out; omega
      have hb2 : sm zs ≤ 100000000000000000000000000000000000000 := by have := HZ.out; omega
      have B1 := Lib.hid (sum_bad (sm zs) hb1 hb2)
      have B2 := Lib.hid (sum_good (sm zs) hb1 hb2)
      have l1 := lw_bd (sm zs)
      have HI := Lib.hid (w64_I64 (lw (sm zs)))
      clear hb hb1 hb2 hT hc
      go_wp2_with (go_at_call 50; refine (upper_any _ HI.out _).mono ?_; rintro e w' ⟨rfl, rfl⟩)
      · have h : (hiS (sm zs) != up (wrap64 (lw (sm zs)))) = true := by assumption
        go_ret2
        exact ⟨ret2 (B1.out h).1 (B1.out h).2, rfl⟩
      · have h : (hiS (sm zs) != up (wrap64 (lw (sm zs)))) = false := by assumption
        go_ret2
        exact ⟨ret2 (B2.out h).1 (B2.out h).2, rfl⟩
theorem grown_drewN {w w' : World} (h : Grown w w') (n : Nat) : Grown w (w'.drewN n) := by
  induction n generalizing w' with
  | zero => exact h
  | succ n ih => exact ih h.drew
theorem grown_trans {a b c : World} (h : Grown a b) (k : Grown b c) : Grown a c :=
  ⟨World.keptBut_trans h.1 k.1, fun x => (k.2.1 x).trans (h.2.1 x), Nat.le_trans h.2.2 k.2.2⟩
theorem below_drewN {B : Nat} {a w : World} (h : Below B a w) (n : Nat) : Below B a (w.drewN n) := ⟨h.os, h.tape, h.output, h.size, h.block⟩
/-- Only new blocks, and draws: what a call without side effects leaves. -/
def Quiet (w w' : World) : Prop := Grown w w' ∧ Below w.heap.size w w'
theorem Quiet.refl (w : World) : Quiet w w := ⟨Grown.refl _, Below.refl _ _⟩
theorem Quiet.trans {a b c : World} (h : Quiet a b) (k : Quiet b c) : Quiet a c := ⟨grown_trans h.1 k.1, h.2.trans (k.2.mono h.1.2.2)⟩
theorem Quiet.drewN {a b : World} (h : Quiet a b) (n : Nat) : Quiet a (b.drewN n) := ⟨grown_drewN h.1 n, below_drewN h.2 n⟩
theorem Quiet.drew {a b : World} (h : Quiet a b) : Quiet a b.drew := ⟨h.1.drew, h.2.drew⟩
theorem Quiet.alloc {a b : World} (h : Quiet a b) (c : Array Value) (t : TypeId) : Quiet a (b.alloc (.cells c t)) := ⟨h.1.alloc c t, h.2.alloc h.1.2.2 _⟩

/-- Twelve digits, as cells. -/
def ar (f : Nat → Int) : Array Value := #[.int .u64 (f 0), .int .u64 (f 1), .int .u64 (f 2), .int .u64 (f 3), .int .u64 (f 4), .int .u64 (f 5), .int .u64 (f 6), .int .u64 (f 7), .int .u64 (f 8), .int .u64 (f 9), .int .u64 (f 10), .int .u64 (f 11)]
theorem ar_size (f : Nat → Int) : (ar f).size = 12 := rfl
theorem ar_get (f : Nat → Int) (k : Nat) (h : k < 12) : (ar f)[k]? = some (.int .u64 (f k)) := by
  match k, h with
  | 0, _ => rfl
  | 1, _ => rfl
  | 2, _ => rfl
  | 3, _ => rfl
  | 4, _ => rfl
  | 5, _ => rfl
  | 6, _ => rfl
  | 7, _ => rfl
  | 8, _ => rfl
  | 9, _ => rfl
  | 10, _ => rfl
  | 11, _ => rfl
theorem ar_ext {f g : Nat → Int} (h : ∀ k, k < 12 → f k = g k) : ar f = ar g := by
  unfold ar
  rw [h 0 (by omega), h 1 (by omega), h 2 (by omega), h 3 (by omega), h 4 (by omega), h 5 (by omega), h 6 (by omega), h 7 (by omega), h 8 (by omega), h 9 (by omega), h 10 (by omega), h 11 (by omega)]
/-- One digit anew. -/
def upd (f : Nat → Int) (i : Nat) (v : Int) : Nat → Int := fun k => if k = i then v else f k
theorem ar_set (f : Nat → Int) (i : Nat) (v : Int) : (ar f).setIfInBounds i (.int .u64 v) = ar (upd f i v) := by
  by_cases h : i < 12
  · match i, h with
    | 0, _ => rfl
    | 1, _ => rfl
    | 2, _ => rfl
    | 3, _ => rfl
    | 4, _ => rfl
    | 5, _ => rfl
    | 6, _ => rfl
    | 7, _ => rfl
    | 8, _ => rfl
    | 9, _ => rfl
    | 10, _ => rfl
    | 11, _ => rfl
  · rw [Array.setIfInBounds_eq_of_size_le (by rw [ar_size]; omega)]
    exact ar_ext fun k hk => by unfold upd; rw [if_neg (by omega)]
theorem ar_one (f : Nat → Int) : (ar f).all (·.oneCell') = true := by unfold ar; simp [Value.oneCell']
/-- The digits of a size. -/
def dgs (N : Int) : Nat → Int := Rf.dg N
/-- A block of cells that may be written. -/
def Row (w : World) (g : Nat) (t : TypeId) (cs : Array Value) : Prop := w.heap[g]? = some (.cells cs t (0, 0))
theorem Row.cell {w : World} {g : Nat} {t : TypeId} {f : Nat → Int} (h : Row w g t (ar f)) (k : Nat) (hk : k < 12) : w.cell? ⟨g, k, none⟩ = some (.int .u64 (f k)) := by
  rw [cell_of_row _ _ _ _ _ _ h]; exact ar_get f k hk
theorem Row.free {w : World} {g : Nat} {t : TypeId} {cs : Array Value} (h : Row w g t cs) (k : Nat) : w.frozen? ⟨g, k, none⟩ = false := frozen_of_row w g k cs t h
theorem Row.drewN {w : World} {g : Nat} {t : TypeId} {cs : Array Value} (h : Row w g t cs) (n : Nat) : Row (w.drewN n) g t cs := h
theorem Row.put {w : World} {g : Nat} {t : TypeId} {f : Nat → Int} (h : Row w g t (ar f)) (i : Nat) (v : Int) : Row (w.setCell ⟨g, i, none⟩ (.int .u64 v)) g t (ar (upd f i v)) := by
  have := heap_setCell_same w g i _ t (.int .u64 v) h
  rwa [ar_set] at this
theorem Row.far {w : World} {g : Nat} {t : TypeId} {cs : Array Value} (h : Row w g t cs) {g' i : Nat} (hne : g ≠ g') (v : Value) : Row (w.setCell ⟨g', i, none⟩ v) g t cs :=
  (heap_setCell_other w ⟨g', i, none⟩ g v hne).trans h
theorem Row.lt {w : World} {g : Nat} {t : TypeId} {cs : Array Value} (h : Row w g t cs) : g < w.heap.size := (Array.getElem?_eq_some_iff.1 h).1
theorem Row.alloc {w : World} {g : Nat} {t : TypeId} {cs : Array Value} (h : Row w g t cs) (o : Obj) : Row (w.alloc o) g t cs := (Below.heap_alloc w o g h.lt).trans h
theorem Row.new (w : World) (t : TypeId) (cs : Array Value) : Row (w.alloc (.cells cs t)) w.heap.size t cs := heap_alloc_new w _
theorem Row.at_ (w : World) (t : TypeId) (cs : Array Value) {k : Nat} (h : w.heap.size = k) : Row (w.alloc (.cells cs t)) k t cs := by subst h; exact Row.new w t cs
theorem Row.below {w w' : World} {B g : Nat} {t : TypeId} {cs : Array Value} (h : Row w g t cs) (b : Below B w w') (hg : g < B) : Row w' g t cs := (b.block g hg).trans h
theorem Quiet.setCell {a b : World} (h : Quiet a b) {p : Addr} (hp : a.heap.size ≤ p.block) (v : Value) : Quiet a (b.setCell p v) := ⟨h.1.setCell hp v, h.2.setCell hp v⟩
theorem Row.whole {w : World} {g : Nat} {t : TypeId} {cs : Array Value} (h : Row w g t cs) (cs' : Array Value) : Row (w.setRow g cs') g t cs' := setRow_heap w g cs cs' t (0, 0) h
theorem Quiet.setRow {a b : World} (h : Quiet a b) {g : Nat} {t : TypeId} {cs : Array Value} (r : Row b g t cs) (hg : a.heap.size ≤ g) (cs' : Array Value) : Quiet a (b.setRow g cs') := by
  have hb : Below a.heap.size a (b.setRow g cs') := ⟨h.2.os, h.2.tape, h.2.output, by rw [size_setRow]; exact h.2.size, fun k hk => (setRow_other b g k cs' (by omega)).trans (h.2.block k hk)⟩
  refine ⟨⟨⟨hb.os, hb.output, fun i hi => ?_⟩, fun x => ?_, by rw [size_setRow]; exact h.2.size⟩, hb⟩
  · rw [hb.block i hi]
    split
    · rename_i e1 e2; rw [e1] at e2; cases e2; exact ⟨rfl, rfl, rfl, fun _ _ => rfl⟩
    · rename_i e1 e2; rw [e1] at e2; cases e2; exact .inr ⟨rfl, rfl⟩
    · rfl
  · rw [← h.1.2.1 x]
    unfold World.frozen?
    by_cases e : x.block = g
    · rw [e, r.whole cs', show b.heap[g]? = _ from r]
    · rw [setRow_other b g x.block cs' e]
/-- The first k digits of f, then those of g. -/
def mix (k : Nat) (f g : Nat → Int) : Nat → Int := fun j => if j < k then f j else g j
theorem mix_at (k : Nat) (f g : Nat → Int) : mix k f g k = g k := if_neg (Nat.lt_irrefl k)
theorem mix_put (k : Nat) (f g : Nat → Int) {v : Int} (h : v = f k) : ar (upd (mix k f g) k v) = ar (mix (k + 1) f g) := by
  refine ar_ext fun j _ => ?_
  unfold upd mix
  by_cases e : j = k
  · subst e; rw [if_pos rfl, if_pos (by omega), h]
  · rw [if_neg e]
    by_cases l : j < k
    · rw [if_pos l, if_pos (by omega)]
    · rw [if_neg l, if_neg (by omega)]
theorem mix_zero (f g : Nat → Int) : ar (mix 0 f g) = ar g := ar_ext fun _ _ => rfl
theorem mix_all (f g : Nat → Int) : ar (mix 12 f g) = ar f := ar_ext fun _ h => if_pos h
theorem dgs_bd (N : Int) (k : Nat) : 0 ≤ dgs N k ∧ dgs N k ≤ 65535 := Rf.dg_bd N k
def zs12 : Array Value := #[.int .u64 0, .int .u64 0, .int .u64 0, .int .u64 0, .int .u64 0, .int .u64 0, .int .u64 0, .int .u64 0, .int .u64 0, .int .u64 0, .int .u64 0, .int .u64 0]
set_option maxHeartbeats 1000000 in
theorem plus_any (A B : Int) (w : World) :
    Calls Try.prog 51 #[.agg (ar (dgs A)), .agg (ar (dgs B))] w fun e w' => e = .returned (.agg (ar (dgs (A + B)))) ∧ Quiet w w' := by
  go_enter Try.func51, Try.ntmps51
  go_wp2
  go_loopw [5, 6] (fun c i wr => ∃ k : Nat, k ≤ 12 ∧ i = .int .i64 k ∧ c = .int .u64 (Rf.pc A B k) ∧ Row wr w.heap.size 56 (ar (mix k (dgs (A + B)) (dgs A))) ∧ Row wr (w.heap.size + 1) 56 (ar (dgs B)) ∧
      Row wr (w.heap.size + 1 + 1) 56 zs12 ∧ Quiet w wr) (fun _ i _ => 12 - (intOf i).toNat)
  case atStart =>
    refine ⟨0, by omega, rfl, by rw [Rf.pc_zero], ?_, ?_, ?_, ?_⟩
    · rw [mix_zero]; exact ((Row.new w _ _).alloc _).alloc _
    · exact (Row.at_ (w.alloc _) _ _ (by simp)).alloc _
    · exact Row.at_ ((w.alloc _).alloc _) _ _ (by simp)
    · exact (((Quiet.refl w).alloc _ _).alloc _ _).alloc _ _
  case round =>
    obtain ⟨k, hk, rfl, rfl, r1, r2, r3, hq⟩ := hrel
    by_cases hlt : k < 12
    · have c1 := r1.cell k hlt
      rw [mix_at] at c1
      have c2 := r2.cell k hlt
      have f1 := r1.free k
      have b1 := Rf.pc_bd A B k
      have b2 := dgs_bd A k
      have b3 := dgs_bd B k
      have R1 := Lib.hid r1
      have R2 := Lib.hid r2
      have R3 := Lib.hid r3
      have HQ := Lib.hid hq
      have E1 := Lib.hid (Rf.pc_succ A B k)
      have E2 := Lib.hid (Rf.dg_add A B k)
      clear r1 r2 r3 hq
      go_wp2
      go_quiet (fail)
      go_wp2
      go_roundw
      case rel =>
        refine ⟨k + 1, by omega, by go_num, by rw [E1.out]; rfl, ?_, ?_, ?_, ?_⟩
        · rw [← mix_put k (dgs (A + B)) (dgs A) E2.out.symm]; exact (R1.out.drewN nq).put k _
        · exact (R2.out.drewN nq).far (by omega) _
        · exact (R3.out.drewN nq).far (by omega) _
        · exact (HQ.out.drewN nq).setCell (Nat.le_refl _) _
      case measure => simp [intOf]; omega
    · obtain rfl : k = 12 := by omega
      rw [mix_all] at r1
      have h2 : w.heap.size + 1 + 1 < wr.heap.size := r3.lt
      go_wp2_with (first
        | (refine wpList_load_row rfl 56 _ rfl w.heap.size rfl 56 _ (0, 0) _ r1 Try.underlying56 rfl (by kernel_rfl) ?_)
        | (refine wpList_store_row rfl 56 _ _ rfl (w.heap.size + 1 + 1) _ rfl rfl 56 _ r3 (by kernel_rfl) rfl (ar_one _) ?_))
      exact bodyPost_ret (v := .agg (ar (dgs (A + B)))) (results_cell_row rfl _ _ (w.heap.size + 1 + 1) 56 _ (0, 0) _ rfl (r3.whole _) Try.underlying56 rfl (by kernel_rfl)) rfl
        ⟨rfl, hq.setRow r3 (by omega) _⟩

set_option maxHeartbeats 1000000 in
theorem minus_any (A B : Int) (w : World) :
    Calls Try.prog 53 #[.agg (ar (dgs A)), .agg (ar (dgs B))] w fun e w' => e = .returned (.agg (ar (dgs (A - B)))) ∧ Quiet w w' := by
  go_enter Try.func53, Try.ntmps53
  go_wp2
  go_loopw [5, 6] (fun c i wr => ∃ k : Nat, k ≤ 12 ∧ i = .int .i64 k ∧ c = .int .u64 (Rf.bc A B k) ∧ Row wr w.heap.size 56 (ar (mix k (dgs (A - B)) (dgs A))) ∧ Row wr (w.heap.size + 1) 56 (ar (dgs B)) ∧
      Row wr (w.heap.size + 1 + 1) 56 zs12 ∧ Quiet w wr) (fun _ i _ => 12 - (intOf i).toNat)
  case atStart =>
    refine ⟨0, by omega, rfl, by rw [Rf.bc_zero], ?_, ?_, ?_, ?_⟩
    · rw [mix_zero]; exact ((Row.new w _ _).alloc _).alloc _
    · exact (Row.at_ (w.alloc _) _ _ (by simp)).alloc _
    · exact Row.at_ ((w.alloc _).alloc _) _ _ (by simp)
    · exact (((Quiet.refl w).alloc _ _).alloc _ _).alloc _ _
  case round =>
    obtain ⟨k, hk, rfl, rfl, r1, r2, r3, hq⟩ := hrel
    by_cases hlt : k < 12
    · have c1 := r1.cell k hlt
      rw [mix_at] at c1
      have c2 := r2.cell k hlt
      have f1 := r1.free k
      have b1 := Rf.bc_bd A B k
      have b2 := dgs_bd A k
      have b3 := dgs_bd B k
      have R1 := Lib.hid r1
      have R2 := Lib.hid r2
      have R3 := Lib.hid r3
      have HQ := Lib.hid hq
      have e0 : 65536 + dgs A k - dgs B k - Rf.bc A B k = 65536 + (Rf.dg A k - Rf.dg B k - Rf.bc A B k) := by unfold dgs; omega
      have E1 : Hid (Rf.bc A B (k + 1) = 1 - (65536 + dgs A k - dgs B k - Rf.bc A B k) / 65536) := by
        refine Lib.hid ?_
        rw [e0, Rf.bc_succ, (Rf.borrow _).2]
      have E2 : Hid ((65536 + dgs A k - dgs B k - Rf.bc A B k) % 65536 = dgs (A - B) k) := by
        refine Lib.hid ?_
        rw [e0, (Rf.borrow _).1]
        exact (Rf.dg_sub A B k).symm
      clear r1 r2 r3 hq e0
      go_wp2
      go_quiet (fail)
      go_wp2
      go_roundw
      case rel =>
        refine ⟨k + 1, by omega, by go_num, by rw [E1.out], ?_, ?_, ?_, ?_⟩
        · rw [← mix_put k (dgs (A - B)) (dgs A) E2.out]; exact (R1.out.drewN nq).put k _
        · exact (R2.out.drewN nq).far (by omega) _
        · exact (R3.out.drewN nq).far (by omega) _
        · exact (HQ.out.drewN nq).setCell (Nat.le_refl _) _
      case measure => simp [intOf]; omega
    · obtain rfl : k = 12 := by omega
      rw [mix_all] at r1
      have h2 : w.heap.size + 1 + 1 < wr.heap.size := r3.lt
      go_wp2_with (first
        | (refine wpList_load_row rfl 56 _ rfl w.heap.size rfl 56 _ (0, 0) _ r1 Try.underlying56 rfl (by kernel_rfl) ?_)
        | (refine wpList_store_row rfl 56 _ _ rfl (w.heap.size + 1 + 1) _ rfl rfl 56 _ r3 (by kernel_rfl) rfl (ar_one _) ?_))
      exact bodyPost_ret (v := .agg (ar (dgs (A - B)))) (results_cell_row rfl _ _ (w.heap.size + 1 + 1) 56 _ (0, 0) _ rfl (r3.whole _) Try.underlying56 rfl (by kernel_rfl)) rfl
        ⟨rfl, hq.setRow r3 (by omega) _⟩
/-- Is the first the smaller one? -/
def ltB (A B : Int) : Bool := decide (A < B)
set_option maxHeartbeats 1000000 in
theorem less_any (A B : Int) (hA : 0 ≤ A) (hB : 0 ≤ B) (hA1 : A < Rf.T 12) (hB1 : B < Rf.T 12) (w : World) :
    Calls Try.prog 52 #[.agg (ar (dgs A)), .agg (ar (dgs B))] w fun e w' => e = .returned (.bool (ltB A B)) ∧ Quiet w w' := by
  have h12 := Lib.hid ((Rf.small hA hA1).trans (Rf.small hB hB1).symm)
  clear hA hB hA1 hB1
  go_enter Try.func52, Try.ntmps52
  go_wp2
  go_loopw [5] (fun i wr => ∃ k : Nat, k ≤ 12 ∧ i = .int .i64 ((k : Int) - 1) ∧ A / Rf.T k = B / Rf.T k ∧ Row wr w.heap.size 56 (ar (dgs A)) ∧ Row wr (w.heap.size + 1) 56 (ar (dgs B)) ∧ Quiet w wr)
    (fun i _ => (intOf i + 1).toNat)
  case atStart =>
    refine ⟨12, by omega, rfl, h12.out, ?_, ?_, ?_⟩
    · exact (Row.new w _ _).alloc _
    · exact Row.at_ (w.alloc _) _ _ (by simp)
    · exact ((Quiet.refl w).alloc _ _).alloc _ _
  case round =>
    obtain ⟨k, hk, rfl, hT, r1, r2, hq⟩ := hrel
    have HT := Lib.hid hT
    have HQ := Lib.hid hq
    clear hT hq
    match k, hk, HT with
    | 0, _, HT =>
      have E : Hid (ltB A B = false) := Lib.hid (by
        have := HT.out
        rw [Rf.at_zero, Rf.at_zero] at this
        subst this
        exact decide_eq_false (Int.lt_irrefl _))
      rw [show ((0 : Nat) : Int) - 1 = -1 from rfl]
      clear r1 r2 HT h12
      go_wp2
      go_ret
      exact ⟨retB E.out.symm, HQ.out⟩
    | j + 1, hk, HT =>
      rw [show ((j + 1 : Nat) : Int) - 1 = (j : Int) from by omega]
      have c1 := r1.cell j (by omega)
      have c2 := r2.cell j (by omega)
      have R1 := Lib.hid r1
      have R2 := Lib.hid r2
      have E : Hid (dgs A j = dgs B j → A / Rf.T j = B / Rf.T j) := Lib.hid fun h => Rf.same_up HT.out h
      have F : Hid (dgs A j ≠ dgs B j → decide (dgs A j < dgs B j) = ltB A B) := Lib.hid fun h => by
        rcases Int.lt_or_lt_of_ne h with h | h
        · have := Rf.less_at HT.out h
          unfold ltB; rw [decide_eq_true this, decide_eq_true h]
        · have := Rf.less_at HT.out.symm h
          unfold ltB; rw [decide_eq_false (by omega), decide_eq_false (by omega)]
      have b2 := dgs_bd A j
      have b3 := dgs_bd B j
      clear r1 r2 h12 HT
      cases hd : (dgs A j != dgs B j)
      · have e := E.out (by simpa using hd)
        have E' := Lib.hid e
        clear e
        go_wp2
        go_quiet (fail)
        go_wp2
        go_roundw
        case rel => exact ⟨j, by omega, by go_num, E'.out, R1.out.drewN nq, R2.out.drewN nq, HQ.out.drewN nq⟩
        case measure => simp [intOf]
      · have F' := Lib.hid (F.out (by simpa using hd))
        go_wp2
        go_quiet (fail)
        go_wp2
        go_quiet (fail)
        go_wp2
        go_ret
        exact ⟨retB F'.out, (HQ.out.drewN _).drewN _⟩

/-! ### Twice a size, and a bit -/

/-- A sign and twelve digits, as cells. -/
def nm (s : Bool) (f : Nat → Int) : Array Value := #[.bool s, .int .u64 (f 0), .int .u64 (f 1), .int .u64 (f 2), .int .u64 (f 3), .int .u64 (f 4), .int .u64 (f 5), .int .u64 (f 6), .int .u64 (f 7), .int .u64 (f 8), .int .u64 (f 9), .int .u64 (f 10), .int .u64 (f 11)]
theorem nm_size (s : Bool) (f : Nat → Int) : (nm s f).size = 13 := rfl
theorem nm_get (s : Bool) (f : Nat → Int) (k : Nat) (h : k < 12) : (nm s f)[k + 1]? = some (.int .u64 (f k)) := by
  match k, h with
  | 0, _ => rfl
  | 1, _ => rfl
  | 2, _ => rfl
  | 3, _ => rfl
  | 4, _ => rfl
  | 5, _ => rfl
  | 6, _ => rfl
  | 7, _ => rfl
  | 8, _ => rfl
  | 9, _ => rfl
  | 10, _ => rfl
  | 11, _ => rfl
theorem nm_ext {s : Bool} {f g : Nat → Int} (h : ∀ k, k < 12 → f k = g k) : nm s f = nm s g := by
  unfold nm
  rw [h 0 (by omega), h 1 (by omega), h 2 (by omega), h 3 (by omega), h 4 (by omega), h 5 (by omega), h 6 (by omega), h 7 (by omega), h 8 (by omega), h 9 (by omega), h 10 (by omega), h 11 (by omega)]
theorem nm_set (s : Bool) (f : Nat → Int) (i : Nat) (v : Int) (h : i < 12) : (nm s f).setIfInBounds (i + 1) (.int .u64 v) = nm s (upd f i v) := by
  match i, h with
  | 0, _ => rfl
  | 1, _ => rfl
  | 2, _ => rfl
  | 3, _ => rfl
  | 4, _ => rfl
  | 5, _ => rfl
  | 6, _ => rfl
  | 7, _ => rfl
  | 8, _ => rfl
  | 9, _ => rfl
  | 10, _ => rfl
  | 11, _ => rfl
theorem nm_one (s : Bool) (f : Nat → Int) : (nm s f).all (·.oneCell') = true := by unfold nm; simp [Value.oneCell']
theorem Row.digit {w : World} {g : Nat} {t : TypeId} {s : Bool} {f : Nat → Int} (h : Row w g t (nm s f)) (k : Nat) (hk : k < 12) : w.cell? ⟨g, 1 + k, none⟩ = some (.int .u64 (f k)) := by
  rw [cell_of_row _ _ _ _ _ _ h, Nat.add_comm]; exact nm_get s f k hk
theorem Row.sign {w : World} {g : Nat} {t : TypeId} {s : Bool} {f : Nat → Int} (h : Row w g t (nm s f)) : w.cell? ⟨g, 0, none⟩ = some (.bool s) := by
  rw [cell_of_row _ _ _ _ _ _ h]; rfl
theorem Row.putN {w : World} {g : Nat} {t : TypeId} {s : Bool} {f : Nat → Int} (h : Row w g t (nm s f)) (i : Nat) (v : Int) (hi : i < 12) : Row (w.setCell ⟨g, 1 + i, none⟩ (.int .u64 v)) g t (nm s (upd f i v)) := by
  have := heap_setCell_same w g (1 + i) _ t (.int .u64 v) h
  rwa [Nat.add_comm 1 i, nm_set s f i v hi, Nat.add_comm i 1] at this
/-- A whole array out of the middle of a block. -/
theorem wpList_load_ar {P : Program} {ops : Array Oper} {rest : List Oper} {op : Oper} {a : Act} {w : World} {Q : Exit → Act → World → Prop} (hgd : op.guard = none) (ty : TypeId) (x : Operand) (ho : op.op = .load ty x)
    (b o : Nat) (hx : a.eval x = .pointer (some ⟨b, o, none⟩)) (f : Nat → Int) (d : TypeDesc) (hc : w.rangeAt b o (ar f).toList)
    (hu : P.underlying ty = some d) (hd : d.isRow = true) (hi : (P.info? ty).map (·.size) = some 12)
    (h : wpList P ops Q rest (a.put op.dst (.agg (ar f))) w) : wpList P ops Q (op :: rest) a w :=
  wpList_load_mid hgd ty x ho b o hx (ar f).toList d hc hu hd hi (by rw [Array.toArray_toList]; exact h)
theorem Row.range {w : World} {g : Nat} {t : TypeId} {s : Bool} {f : Nat → Int} (h : Row w g t (nm s f)) : w.rangeAt g 1 (ar f).toList := by
  intro j v hj
  have hlt : j < 12 := (List.getElem?_eq_some_iff.1 hj).1
  rw [h.digit j hlt, ← ar_get f j hlt]
  simpa using hj
/-- Are all twelve digits 0? -/
def zf (f : Nat → Int) : Bool := f 0 == 0 && (f 1 == 0 && (f 2 == 0 && (f 3 == 0 && (f 4 == 0 && (f 5 == 0 && (f 6 == 0 && (f 7 == 0 && (f 8 == 0 && (f 9 == 0 && (f 10 == 0 && f 11 == 0))))))))))
theorem ite_z {w : World} {X : Result Bool} {b : Bool} (a : Int) (h : X = .ok b w) : (if a = 0 then X else Result.ok false w) = .ok (a == 0 && b) w := by
  by_cases e : a = 0
  · rw [if_pos e, h, e]; rfl
  · rw [if_neg e, show (a == 0) = false from by simpa using e]; rfl
theorem ite_l {w : World} (a : Int) : (if a = 0 then Result.ok true w else Result.ok false w) = .ok (a == 0) w := by
  by_cases e : a = 0
  · rw [if_pos e, e]; rfl
  · rw [if_neg e, show (a == 0) = false from by simpa using e]
set_option maxHeartbeats 1000000 in
theorem eq_zero (f : Nat → Int) (w : World) : (Op.equalIn 10000 56 (.agg (ar f)) (.agg zs12)).run Try.prog w = .ok (zf f) w := by
  have u3 := Try.underlying39
  have a3 := Try.isAgg39
  have z3 := Try.sizeOf39
  unfold ar zs12
  rw [show (10000 : Nat) = 9999 + 1 from rfl, Op.equalIn]
  simp only [Sem.run_bind, run_underlying Try.underlying56, Result.andThen_ok]
  simp only [Std.Legacy.Range.forIn_eq_forIn_range', Std.Legacy.Range.size, Nat.sub_zero, Nat.add_sub_cancel, Nat.div_one, List.range'_succ, List.range'_zero, List.forIn_cons, List.forIn_nil]
  go_simp
  unfold zf
  exact ite_z _ (ite_z _ (ite_z _ (ite_z _ (ite_z _ (ite_z _ (ite_z _ (ite_z _ (ite_z _ (ite_z _ (ite_z _ (ite_l _)))))))))))
theorem zf_of (N : Int) (h0 : 0 ≤ N) (h1 : N < Rf.T 12) : zf (dgs N) = decide (N = 0) := by
  by_cases e : N = 0
  · subst e; rfl
  · rw [decide_eq_false e]
    cases h : zf (dgs N)
    · rfl
    · exfalso
      unfold zf at h
      simp only [Bool.and_eq_true, beq_iff_eq] at h
      obtain ⟨a0, a1, a2, a3, a4, a5, a6, a7, a8, a9, a10, a11⟩ := h
      unfold dgs at a0 a1 a2 a3 a4 a5 a6 a7 a8 a9 a10 a11
      have b12 := Rf.small h0 h1
      have st : ∀ k, N / Rf.T (k + 1) = 0 → Rf.dg N k = 0 → N / Rf.T k = 0 := fun k h h' => by rw [Rf.div_dg, h, h']; rfl
      have b0 := st 0 (st 1 (st 2 (st 3 (st 4 (st 5 (st 6 (st 7 (st 8 (st 9 (st 10 (st 11 b12 a11) a10) a9) a8) a7) a6) a5) a4) a3) a2) a1) a0
      rw [Rf.at_zero] at b0
      exact e b0
theorem zero_any (s : Bool) (N : Int) (h0 : 0 ≤ N) (h1 : N < Rf.T 12) (w : World) :
    Calls Try.prog 54 #[.agg (nm s (dgs N))] w fun e w' => e = .returned (.bool (decide (N = 0))) ∧ Quiet w w' := by
  have hz := Lib.hid (zf_of N h0 h1)
  have he := fun W => eq_zero (dgs N) W
  unfold zs12 at he
  have hr := (Row.new w 58 (nm s (dgs N))).range
  clear h0 h1
  go_enter Try.func54, Try.ntmps54
  go_wp2_with (refine wpList_load_ar rfl 56 _ rfl w.heap.size 1 rfl (dgs N) _ hr Try.underlying56 rfl (by kernel_rfl) ?_)
  go_ret
  exact ⟨retB hz.out, (Quiet.refl w).alloc _ _⟩
theorem mixN_put (s : Bool) (k : Nat) (f g : Nat → Int) {v : Int} (h : v = f k) : nm s (upd (mix k f g) k v) = nm s (mix (k + 1) f g) := by
  refine nm_ext fun j _ => ?_
  unfold upd mix
  by_cases e : j = k
  · subst e; rw [if_pos rfl, if_pos (by omega), h]
  · rw [if_neg e]
    by_cases l : j < k
    · rw [if_pos l, if_pos (by omega)]
    · rw [if_neg l, if_neg (by omega)]
theorem of_step (M : Int) (k : Nat) : M / Rf.T k % 65536 = dgs M k ∧ M / Rf.T k / 65536 = M / Rf.T (k + 1) := ⟨rfl, (Rf.div_succ M k).symm⟩
theorem div_bd (M : Int) (k : Nat) (h0 : 0 ≤ M) : 0 ≤ M / Rf.T k ∧ M / Rf.T k ≤ M := by
  refine ⟨Int.ediv_nonneg h0 (Int.le_of_lt (Rf.T_pos k)), Int.ediv_le_self _ h0⟩
theorem high_zero (M : Int) (k : Nat) (h0 : 0 ≤ M) (h1 : M ≤ 9223372036854775808) (h : 4 ≤ k) : dgs M k = 0 := by
  unfold dgs Rf.dg
  have : M / Rf.T k = 0 := by
    refine Rf.small h0 ?_
    obtain ⟨m, rfl⟩ : ∃ m, k = 4 + m := ⟨k - 4, by omega⟩
    have h3 := Rf.T_pos m
    have h4 := Int.mul_le_mul_of_nonneg_left (show 1 ≤ Rf.T m by omega) (show 0 ≤ Rf.T 4 by decide)
    rw [Int.mul_one, ← Rf.T_add] at h4
    have h5 : Rf.T 4 = 18446744073709551616 := by decide
    omega
  rw [this]; rfl
theorem mix_of (s : Bool) (M : Int) (h0 : 0 ≤ M) (h1 : M ≤ 9223372036854775808) : nm s (mix 4 (dgs M) fun _ => 0) = nm s (dgs M) := nm_ext fun k _ => by
  unfold mix
  by_cases h : k < 4
  · rw [if_pos h]
  · rw [if_neg h, high_zero M k h0 h1 (by omega)]
set_option maxHeartbeats 2000000 in
theorem of_any (a : Int) (ha : I64 a) (w : World) :
    Calls Try.prog 25 #[.int .i64 a] w fun e w' => e = .returned (.agg (nm (decide (a < 0)) (dgs (mag a)))) ∧ Quiet w w' := by
  have hm := mag_bd a ha
  unfold I64 at ha
  obtain ⟨ha1, ha2⟩ := ha
  obtain ⟨M, hMe⟩ : ∃ M, mag a = M := ⟨_, rfl⟩
  rw [hMe] at hm ⊢
  obtain ⟨hm1, hm2⟩ := hm
  have HM := Lib.hid hMe
  clear hMe
  obtain ⟨s, hs⟩ : ∃ s, decide (a < 0) = s := ⟨_, rfl⟩
  rw [hs]
  have hM : (s = false ∧ (decide (a < 0) = false ∧ 0 ≤ a) ∧ a = M) ∨  (s = true ∧ a < 0 ∧ -(a + 1) + 1 = M) := by
    have := HM.out
    unfold mag at this
    by_cases h : a < 0
    · rw [if_pos h] at this
      exact .inr ⟨by rw [← hs]; exact decide_eq_true h, h, by omega⟩
    · rw [if_neg h] at this
      exact .inl ⟨by rw [← hs]; exact decide_eq_false h, ⟨decide_eq_false h, by omega⟩, this⟩
  clear HM hs
  rcases hM with ⟨rfl, ⟨hd, h⟩, he⟩ | ⟨rfl, h, he⟩
  all_goals
    have HE := Lib.hid he
    clear he
    go_enter Try.func25, Try.ntmps25
    go_wp2
  · go_loopw [3, 5] (fun n i wr => ∃ k : Nat, k ≤ 4 ∧ i = .int .i64 k ∧ n = .int .u64 (M / Rf.T k) ∧ Row wr w.heap.size 58 (nm false fun _ => 0) ∧
      Row wr (w.heap.size + 1) 58 (nm false (mix k (dgs M) fun _ => 0)) ∧ Quiet w wr) (fun _ i _ => 4 - (intOf i).toNat)
    case atStart => exact ⟨0, by omega, rfl, by rw [Rf.at_zero, ← HE.out], (Row.new w _ _).alloc _, by exact Row.at_ (w.alloc _) _ _ (by simp), ((Quiet.refl w).alloc _ _).alloc _ _⟩
    case round =>
      obtain ⟨k, hk, rfl, rfl, r1, r2, hq⟩ := hrel
      by_cases hlt : k < 4
      · have f1 := r2.free (1 + k)
        have c1 := r2.digit k (by omega)
        have b1 := div_bd M k hm1
        obtain ⟨b1, b2⟩ := b1
        have R1 := Lib.hid r1
        have R2 := Lib.hid r2
        have HQ := Lib.hid hq
        have E := Lib.hid (of_step M k)
        clear r1 r2 hq
        go_wp2
        go_roundw
        case rel =>
          refine ⟨k + 1, by omega, by go_num, by rw [E.out.2], R1.out.far (by omega) _, ?_, HQ.out.setCell (Nat.le_succ _) _⟩
          rw [← mixN_put false k (dgs M) (fun _ => 0) E.out.1]
          exact R2.out.putN k _ (by omega)
        case measure => simp [intOf]; omega
      · obtain rfl : k = 4 := by omega
        rw [mix_of _ M hm1 hm2] at r2
        go_wp2_with (first
          | (refine wpList_load_row rfl 58 _ rfl (w.heap.size + 1) rfl 58 _ (0, 0) _ r2 Try.underlying58 rfl (by kernel_rfl) ?_)
          | (refine wpList_store_row rfl 58 _ _ rfl w.heap.size _ rfl rfl 58 _ r1 (by kernel_rfl) rfl (nm_one _ _) ?_))
        exact bodyPost_ret (v := .agg (nm false (dgs M))) (results_cell_row rfl _ _ w.heap.size 58 _ (0, 0) _ rfl (r1.whole _) Try.underlying58 rfl (by kernel_rfl)) rfl
          ⟨rfl, hq.setRow r1 (Nat.le_refl _) _⟩
  · go_loopw [3, 5] (fun n i wr => ∃ k : Nat, k ≤ 4 ∧ i = .int .i64 k ∧ n = .int .u64 (M / Rf.T k) ∧ Row wr w.heap.size 58 (nm false fun _ => 0) ∧
      Row wr (w.heap.size + 1) 58 (nm true (mix k (dgs M) fun _ => 0)) ∧ Quiet w wr) (fun _ i _ => 4 - (intOf i).toNat)
    case atStart => exact ⟨0, by omega, rfl, by rw [Rf.at_zero, ← HE.out], (Row.new w _ _).alloc _, by exact Row.at_ (w.alloc _) _ _ (by simp), ((Quiet.refl w).alloc _ _).alloc _ _⟩
    case round =>
      obtain ⟨k, hk, rfl, rfl, r1, r2, hq⟩ := hrel
      by_cases hlt : k < 4
      · have f1 := r2.free (1 + k)
        have c1 := r2.digit k (by omega)
        have b1 := div_bd M k hm1
        obtain ⟨b1, b2⟩ := b1
        have R1 := Lib.hid r1
        have R2 := Lib.hid r2
        have HQ := Lib.hid hq
        have E := Lib.hid (of_step M k)
        clear r1 r2 hq
        go_wp2
        go_roundw
        case rel =>
          refine ⟨k + 1, by omega, by go_num, by rw [E.out.2], R1.out.far (by omega) _, ?_, HQ.out.setCell (Nat.le_succ _) _⟩
          rw [← mixN_put true k (dgs M) (fun _ => 0) E.out.1]
          exact R2.out.putN k _ (by omega)
        case measure => simp [intOf]; omega
      · obtain rfl : k = 4 := by omega
        rw [mix_of _ M hm1 hm2] at r2
        go_wp2_with (first
          | (refine wpList_load_row rfl 58 _ rfl (w.heap.size + 1) rfl 58 _ (0, 0) _ r2 Try.underlying58 rfl (by kernel_rfl) ?_)
          | (refine wpList_store_row rfl 58 _ _ rfl w.heap.size _ rfl rfl 58 _ r1 (by kernel_rfl) rfl (nm_one _ _) ?_))
        exact bodyPost_ret (v := .agg (nm true (dgs M))) (results_cell_row rfl _ _ w.heap.size 58 _ (0, 0) _ rfl (r1.whole _) Try.underlying58 rfl (by kernel_rfl)) rfl
          ⟨rfl, hq.setRow r1 (Nat.le_refl _) _⟩

/-- How a number is told. -/
theorem build_nm (b : Bool) (f : Nat → Int) : Try.prog.built 58 [(0, .bool b), (1, .agg (ar f))] = some (nm b f) := by kernel_rfl

/-! The laws of whole arrays and numbers, each with its operation written out, so that it is tried at no other. -/
section
variable {ops : Array Oper} {rest : List Oper} {a : Act} {w : World} {Q : Exit → Act → World → Prop} {d : Option Tmp} {ty : TypeId} {pos : String} {af : Array Edge}
theorem wl_load_ar {x : Operand} (b o : Nat) (f : Nat → Int) (hx : a.eval x = .pointer (some ⟨b, o, none⟩)) (hc : w.rangeAt b o (ar f).toList) (h : wpList Try.prog ops Q rest (a.put d (.agg (ar f))) w) :
    wpList Try.prog ops Q ({ dst := d, op := .load 56 x, type := ty, pos := pos, after := af, guard := none } :: rest) a w :=
  wpList_load_ar rfl 56 x rfl b o hx f _ hc Try.underlying56 rfl (by kernel_rfl) h
end
/-- Whether a number fits. -/
def tO (x : Int) : Bool := decide (-9223372036854775808 ≤ x ∧ x ≤ 9223372036854775807)
theorem tO_in {x : Int} (h : I64 x) : tO x = true := decide_eq_true h
theorem tO_out {x : Int} (h : ¬ I64 x) : tO x = false := decide_eq_false h
theorem T4 : Rf.T 4 = 18446744073709551616 := by decide
theorem fits_T4 {N : Int} (h0 : 0 ≤ N) (h : N / Rf.T 4 = 0) : N < 18446744073709551616 := by
  have := Rf.split N 4
  have m := Rf.md_bd N 4
  rw [h, Int.mul_zero] at this
  rw [T4] at m
  omega
theorem big_T {N : Int} {j : Nat} (h0 : 0 ≤ N) (hj : 4 ≤ j) (h : N / Rf.T j ≠ 0) : 18446744073709551616 ≤ N := by
  rcases Int.lt_or_le N 18446744073709551616 with h' | h'
  · exfalso
    apply h
    refine Rf.small h0 ?_
    obtain ⟨m, rfl⟩ : ∃ m, j = 4 + m := ⟨j - 4, by omega⟩
    have h3 := Rf.T_pos m
    have h4 := Int.mul_le_mul_of_nonneg_left (show 1 ≤ Rf.T m by omega) (show 0 ≤ Rf.T 4 by decide)
    rw [Int.mul_one, ← Rf.T_add, T4] at h4
    omega
  · exact h'
theorem sgn_big (s : Bool) {N : Int} (h : 18446744073709551616 ≤ N) : ¬ I64 (sgn s N) := by
  unfold I64 sgn; split <;> omega
theorem ret2b {x x' : Int} {y y' : Bool} (h : x = x') (k : y = y') : Ending.returned (.tuple #[.int .i64 x, .bool y]) = Ending.returned (.tuple #[.int .i64 x', .bool y']) := by rw [h, k]
set_option maxHeartbeats 2000000 in
theorem int_any (s : Bool) (N : Int) (h0 : 0 ≤ N) (h1 : N < Rf.T 12) (w : World) :
    Calls Try.prog 27 #[.agg (nm s (dgs N))] w fun e w' => e = .returned (.tuple #[.int .i64 (tN (sgn s N)), .bool (tO (sgn s N))]) ∧ Quiet w w' := by
  have r0 := Row.new w 58 (nm s (dgs N))
  have H12 := Lib.hid (Rf.small h0 h1)
  have HZ := Lib.hid (fun W => zero_any s N h0 h1 W)
  have HR := Lib.hid r0
  clear h1 r0
  go_enter Try.func27, Try.ntmps27
  go_wp2_with fail
  go_loop [4, 5] (fun n i => ∃ k : Nat, k ≤ 12 ∧ i = .int .i64 ((k : Int) - 1) ∧ n = .int .u64 (N / Rf.T k) ∧ N / Rf.T (max k 4) = 0) (fun _ i => (intOf i + 1).toNat)
  case atStart => exact ⟨12, by omega, rfl, by rw [H12.out], H12.out⟩
  case round =>
    obtain ⟨k, hk, rfl, rfl, hT⟩ := hrel
    have HT := Lib.hid hT
    clear hT
    match k, hk, HT with
    | 0, _, HT =>
      rw [show ((0 : Nat) : Int) - 1 = -1 from rfl, Rf.at_zero]
      have hN := fits_T4 h0 HT.out
      clear H12
      have r0 := HR.out
      go_wp2_with (refine wpList_load_row rfl 58 _ rfl w.heap.size rfl 58 _ (0, 0) _ r0 Try.underlying58 rfl (by kernel_rfl) ?_)
      refine (HZ.out _).mono ?_; rintro e w1 ⟨rfl, hq⟩
      have r1 : Row w1 w.heap.size 58 (nm s (dgs N)) := r0.below hq.2 (by simp)
      have c0 := r1.sign
      have hq' := Lib.hid (((Quiet.refl w).alloc _ _).trans hq)
      clear hq r0 r1 HZ HR HT
      cases hz : decide (N = 0)
      · have hz' : 0 < N := by have : ¬ N = 0 := by simpa using hz
                               omega
        cases s
        · by_cases hb : N < 9223372036854775808
          · have I : I64 (sgn false N) := by unfold I64 sgn; simp; omega
            have E := Lib.hid I
            clear I
            go_wp2
            go_ret2
            exact ⟨ret2b (tN_in E.out).symm (tO_in E.out).symm, hq'.out⟩
          · have I : ¬ I64 (sgn false N) := by unfold I64 sgn; simp; omega
            have E := Lib.hid I
            clear I
            go_wp2
            go_ret2
            exact ⟨ret2b (tN_out E.out).symm (tO_out E.out).symm, hq'.out⟩
        · by_cases hb : N ≤ 9223372036854775808
          · have I : I64 (sgn true N) := by unfold I64 sgn; simp; omega
            have E := Lib.hid I
            clear I
            go_wp2
            go_ret2
            exact ⟨ret2b (by rw [tN_in E.out]; unfold sgn; simp; omega) (tO_in E.out).symm, hq'.out⟩
          · have I : ¬ I64 (sgn true N) := by unfold I64 sgn; simp; omega
            have E := Lib.hid I
            clear I
            go_wp2
            go_ret2
            exact ⟨ret2b (tN_out E.out).symm (tO_out E.out).symm, hq'.out⟩
      · have hz' : N = 0 := by simpa using hz
        have E : Hid (0 = tN (sgn s N) ∧ true = tO (sgn s N)) := Lib.hid (by subst hz'; cases s <;> exact ⟨rfl, rfl⟩)
        clear hz'
        go_wp2
        go_ret2
        exact ⟨ret2b E.out.1 E.out.2, hq'.out⟩
    | j + 1, hk, HT =>
      rw [show ((j + 1 : Nat) : Int) - 1 = (j : Int) from by omega]
      have c1 := HR.out.digit j (by omega)
      have b := dgs_bd N j
      obtain ⟨b1, b2⟩ := b
      have b3 := div_bd N (j + 1) h0
      obtain ⟨b3, b4⟩ := b3
      by_cases hj : 4 ≤ j
      · cases hd : (dgs N j != 0)
        · have E : Hid (N / Rf.T j = 0 ∧ N / Rf.T (j + 1) = 0 ∧ N / Rf.T (max j 4) = 0) := Lib.hid (by
            have h2 : N / Rf.T (j + 1) = 0 := by have := HT.out; rwa [show max (j + 1) 4 = j + 1 by omega] at this
            have h3 : N / Rf.T j = 0 := by rw [Rf.div_dg, h2, show Rf.dg N j = 0 from by (have : dgs N j = 0 := by simpa using hd); exact this]; rfl
            exact ⟨h3, h2, by rwa [show max j 4 = j by omega]⟩)
          rw [E.out.2.1]
          go_wp2
          go_round
          case rel => exact ⟨j, by omega, by go_num, by rw [E.out.1, show dgs N j = 0 from by simpa using hd], E.out.2.2⟩
          case measure => simp [intOf]
        · have hb : 18446744073709551616 ≤ N := big_T h0 hj (by
            intro h
            have hd' : dgs N j ≠ 0 := by simpa using hd
            apply hd'
            unfold dgs Rf.dg
            rw [h]; rfl)
          have E := Lib.hid (sgn_big s hb)
          clear hb
          go_wp2
          go_ret2
          exact ⟨ret2b (tN_out E.out).symm (tO_out E.out).symm, (Quiet.refl w).alloc _ _⟩
      · have hj' : j ≤ 3 := by omega
        have h4 := fits_T4 h0 (by have := HT.out; rwa [show max (j + 1) 4 = 4 by omega] at this)
        have hd := Rf.div_dg N j
        have h5 := div_bd N j h0
        have b5 : N / Rf.T (j + 1) * 65536 + dgs N j ≤ 18446744073709551615 := by unfold dgs; omega
        have E := Lib.hid hd
        have E4 := Lib.hid h4
        clear hd h5 h4
        go_wp2
        go_round
        case rel => exact ⟨j, by omega, by go_num, by rw [E.out]; rfl, by have := HT.out; rwa [show max (j + 1) 4 = max j 4 by omega] at this⟩
        case measure => simp [intOf]

theorem Row.farCells {g b : Nat} {t : TypeId} {cs : Array Value} (hne : g ≠ b) : ∀ (vs : List Value) (o : Nat) (w : World), Row w g t cs → Row (w.setCells b o vs) g t cs
  | [], _, _, h => h
  | v :: vs, o, _, h => Row.farCells hne vs (o + 1) _ (h.far hne v)
theorem Quiet.setCells {a : World} {g : Nat} (hg : a.heap.size ≤ g) : ∀ (vs : List Value) (o : Nat) (w : World), Quiet a w → Quiet a (w.setCells g o vs)
  | [], _, _, h => h
  | v :: vs, o, _, h => Quiet.setCells hg vs (o + 1) _ (h.setCell hg v)
theorem Row.there {w : World} {g : Nat} {t : TypeId} {s : Bool} {f : Nat → Int} (h : Row w g t (nm s f)) : w.there g 0 13 := fun j hj => by
  rw [Nat.zero_add, cell_of_row _ _ _ _ _ _ h]
  exact ⟨by rw [Array.getElem?_eq_getElem (by rw [nm_size]; exact hj)]; rfl, h.free j⟩
theorem there_below {w w' : World} {B g n : Nat} (h : w.there g 0 n) (b : Below B w w') (hg : g < B) : w'.there g 0 n := fun j hj => by
  have k := h j hj
  rw [b.cell (p := ⟨g, 0 + j, none⟩) hg, b.frozen (p := ⟨g, 0 + j, none⟩) hg]
  exact k
theorem there_lt {w : World} {g n : Nat} (h : w.there g 0 (n + 1)) : g < w.heap.size := by
  obtain ⟨u, hu⟩ := Option.isSome_iff_exists.1 (h 0 (Nat.succ_pos n)).1
  exact World.block_lt_of_cell? w _ hu
/-- What stands in memory while two numbers are added: both, and the place of the answer. -/
structure PS (w : World) (s t : Bool) (f g : Nat → Int) (w' : World) : Prop where
  r1 : Row w' w.heap.size 58 (nm s f)
  r2 : Row w' (w.heap.size + 1) 58 (nm t g)
  r3 : w'.there (w.heap.size + 1 + 1) 0 13
  q : Quiet w w'
section
variable {w : World} {s t : Bool} {f g : Nat → Int} {a b : World}
theorem PS.quiet (h : PS w s t f g a) (k : Quiet a b) : PS w s t f g b :=
  ⟨h.r1.below k.2 h.r1.lt, h.r2.below k.2 h.r2.lt, there_below h.r3 k.2 (there_lt h.r3), h.q.trans k⟩
end
section
variable {w : World} {s t : Bool} {f g : Nat → Int} {a b : World}
theorem PS.drew (h : PS w s t f g a) : PS w s t f g a.drew := ⟨h.r1, h.r2, h.r3, h.q.drew⟩
end
section
variable {w : World} {s t : Bool} {f g : Nat → Int} {a b : World}
theorem PS.stored (h : PS w s t f g a) (vs : List Value) : PS w s t f g (a.setCells (w.heap.size + 1 + 1) 0 vs) :=
  ⟨h.r1.farCells (by omega) vs 0 a, h.r2.farCells (by omega) vs 0 a, World.there_setCells h.r3 _ _ _, h.q.setCells (by omega) vs 0 a⟩
end
section
variable {w : World} {s t : Bool} {f g : Nat → Int} {a b : World}
/-- All that the region's operations read. -/
def PA (w : World) (s t : Bool) (f g : Nat → Int) (w' : World) : Prop :=
  w'.cell? ⟨w.heap.size, 0, none⟩ = some (.bool s) ∧ w'.cell? ⟨w.heap.size + 1, 0, none⟩ = some (.bool t) ∧ w'.rangeAt w.heap.size 1 (ar f).toList ∧ w'.rangeAt (w.heap.size + 1) 1 (ar g).toList ∧ w'.there (w.heap.size + 1 + 1) 0 13 ∧ PS w s t f g w'
end
section
variable {w : World} {s t : Bool} {f g : Nat → Int} {a b : World}
theorem PS.all (h : PS w s t f g a) : PA w s t f g a := ⟨h.r1.sign, h.r2.sign, h.r1.range, h.r2.range, h.r3, h⟩
end

theorem yields_ar {ops : Array Oper} {S : World → Prop} {op : Oper} {a : Act} (hw : Region.wanted op (yielded ops a.tmps) = true) (x : Operand) (ho : op.op = .load 56 x)
    (b o : Nat) (hx : a.eval x = .pointer (some ⟨b, o, none⟩)) (f : Nat → Int) (hS : ∀ w, S w → w.rangeAt b o (ar f).toList) : YieldsIf Try.prog ops S op (.agg (ar f)) a := by
  have := yieldsIf_load_mid (P := Try.prog) hw 56 x ho b o hx (ar f).toList _ hS Try.underlying56 rfl (by kernel_rfl)
  rwa [Array.toArray_toList] at this
theorem yields_build {ops : Array Oper} {S : World → Prop} {op : Oper} {a : Act} (hw : Region.wanted op (yielded ops a.tmps) = true) (x y : Operand) (ho : op.op = .build 58 #[(0, x), (1, y)])
    (b : Bool) (f : Nat → Int) (hx : a.eval x = .bool b) (hy : a.eval y = .agg (ar f)) : YieldsIf Try.prog ops S op (.agg (nm b f)) a := .inl ⟨hw, fun w _ => by
  have := run_build (P := Try.prog) w 58 #[(0, .bool b), (1, .agg (ar f))] _ (build_nm b f)
  unfold execOp
  simp only [ho]
  simp [hx, hy, this]⟩
theorem results_range {fn : Func} {p : Tmp} (h : fn.results = #[.cell p 58]) (tmps : Array Value) (w : World) (g : Nat) (s : Bool) (f : Nat → Int)
    (hp : tmps.getD p undef = .pointer (some ⟨g, 0, none⟩)) (hr : w.rangeAt g 0 (nm s f).toList) : (results fn tmps).run Try.prog w = .ok (.agg (nm s f)) w := by
  have hp' : tmps[p]?.getD undef = .pointer (some ⟨g, 0, none⟩) := by simpa using hp
  have := run_loadVar_mid (P := Try.prog) w g 0 58 (nm s f).toList _ hr Try.underlying58 rfl (by kernel_rfl)
  rw [Array.toArray_toList] at this
  simp [results, h, hp', asAddr, this]
set_option maxHeartbeats 2000000 in
theorem plus_same (s : Bool) (A C : Int) (w : World) :
    Calls Try.prog 26 #[.agg (nm s (dgs A)), .agg (nm s (dgs C))] w fun e w' => e = .returned (.agg (nm s (dgs (A + C)))) ∧ Quiet w w' := by
  have P0 : Hid (PS w s s (dgs A) (dgs C) (((w.alloc (.cells (nm s (dgs A)) 58)).alloc (.cells (nm s (dgs C)) 58)).alloc (.cells (nm false fun _ => 0) 58))) :=
    Lib.hid ⟨((Row.new w _ _).alloc _).alloc _, (Row.at_ (w.alloc _) _ _ (by simp)).alloc _, (Row.at_ ((w.alloc _).alloc _) _ _ (by simp)).there, (((Quiet.refl w).alloc _ _).alloc _ _).alloc _ _⟩
  have hc1 : ∀ o o', (((w.alloc (.cells (nm s (dgs A)) 58)).alloc o).alloc o').cell? ⟨w.heap.size, 0, none⟩ = some (.bool s) := fun o o' => (((Row.new w 58 (nm s (dgs A))).alloc o).alloc o').sign
  have hc2 : ∀ o, (((w.alloc (.cells (nm s (dgs A)) 58)).alloc (.cells (nm s (dgs C)) 58)).alloc o).cell? ⟨w.heap.size + 1, 0, none⟩ = some (.bool s) := fun o => ((Row.at_ (w.alloc _) 58 (nm s (dgs C)) (by simp)).alloc o).sign
  go_enter Try.func26, Try.ntmps26
  go_wp2_with fail
  clear hc1 hc2
  refine wp_region_held_drew (S := PS w s s (dgs A) (dgs C)) (by kernel_rfl) P0.out.drew (fun hH => ?_)
  refine wpAnyH_take (i := 0) (v := .pointer (some ⟨w.heap.size, 0, none⟩)) rfl (by kernel_rfl) (by kernel_rfl) (by kernel_rfl) (fun _ _ _ h => h) (.inl ⟨by rfl, ?_⟩) (by assumption) ?_
  · intro W hW; go_simp
  simp only [List.getElem_toArray, List.getElem_cons_zero, Act.put, List.setIfInBounds_toArray, List.set_cons_zero, List.set_cons_succ]
  refine wpAnyH_take (i := 1) (v := .bool s) rfl (by kernel_rfl) (by kernel_rfl) (by kernel_rfl) (fun _ _ _ h => h) (.inl ⟨by rfl, ?_⟩) (by assumption) ?_
  · intro W hW; have := hW.r1.sign; go_simp
  simp only [List.getElem_toArray, List.getElem_cons_zero, List.getElem_cons_succ, Act.put, List.setIfInBounds_toArray, List.set_cons_zero, List.set_cons_succ]
  refine wpAnyH_take (i := 2) (v := .pointer (some ⟨w.heap.size, 1, none⟩)) rfl (by kernel_rfl) (by kernel_rfl) (by kernel_rfl) (fun _ _ _ h => h) (.inl ⟨by rfl, ?_⟩) (by assumption) ?_
  · intro W hW; go_simp
  simp only [List.getElem_toArray, List.getElem_cons_zero, List.getElem_cons_succ, Act.put, List.setIfInBounds_toArray, List.set_cons_zero, List.set_cons_succ]
  refine wpAnyH_take (i := 3) (v := .agg (ar (dgs A))) rfl (by kernel_rfl) (by kernel_rfl) (by kernel_rfl) (fun _ _ _ h => h) (yields_ar (by rfl) (.tmp 12) rfl (w.heap.size) 1 rfl (dgs A) (fun W hW => hW.r1.range)) (by assumption) ?_
  simp only [List.getElem_toArray, List.getElem_cons_zero, List.getElem_cons_succ, Act.put, List.setIfInBounds_toArray, List.set_cons_zero, List.set_cons_succ]
  refine wpAnyH_take (i := 4) (v := .pointer (some ⟨w.heap.size + 1, 1, none⟩)) rfl (by kernel_rfl) (by kernel_rfl) (by kernel_rfl) (fun _ _ _ h => h) (.inl ⟨by rfl, ?_⟩) (by assumption) ?_
  · intro W hW; go_simp
  simp only [List.getElem_toArray, List.getElem_cons_zero, List.getElem_cons_succ, Act.put, List.setIfInBounds_toArray, List.set_cons_zero, List.set_cons_succ]
  refine wpAnyH_take (i := 5) (v := .agg (ar (dgs C))) rfl (by kernel_rfl) (by kernel_rfl) (by kernel_rfl) (fun _ _ _ h => h) (yields_ar (by rfl) (.tmp 14) rfl (w.heap.size + 1) 1 rfl (dgs C) (fun W hW => hW.r2.range)) (by assumption) ?_
  simp only [List.getElem_toArray, List.getElem_cons_zero, List.getElem_cons_succ, Act.put, List.setIfInBounds_toArray, List.set_cons_zero, List.set_cons_succ]
  refine wpAnyH_ready (rs := [6]) (by kernel_rfl) (by simp) (AllReadyH.cons rfl (fun K hK => ?_) AllReadyH.nil)
  go_simp
  refine (plus_any A C _).mono ?_; rintro e w1 ⟨rfl, hq1⟩
  refine hK.out _ _ (hH.quiet hq1) (fun hH1 => ?_)
  clear hK hH
  refine wpAnyH_take (i := 7) (v := .agg (nm s (dgs (A + C)))) rfl (by kernel_rfl) (by kernel_rfl) (by kernel_rfl) (fun _ _ _ h => h) (yields_build (by rfl) (.tmp 11) (.tmp 16) rfl s (dgs (A + C)) rfl rfl) (by assumption) ?_
  simp only [List.getElem_toArray, List.getElem_cons_zero, List.getElem_cons_succ, Act.put, List.setIfInBounds_toArray, List.set_cons_zero, List.set_cons_succ]
  refine wpAnyH_ready (rs := [8]) (by kernel_rfl) (by simp) (AllReadyH.cons rfl (fun K hK => ?_) AllReadyH.nil)
  rw [if_pos (by rfl)]
  refine wp_store_mid 58 _ _ rfl (w.heap.size + 1 + 1) 0 (nm s (dgs (A + C))) rfl rfl hH1.r3 (by kernel_rfl) (nm_one _ _) ?_
  refine hK.out _ _ (hH1.stored _) (fun hH2 => ?_)
  refine wpAnyH_done (by kernel_rfl) ?_ _
  have hr := World.rangeAt_setCells_same _ (w.heap.size + 1 + 1) 0 (nm s (dgs (A + C))).toList hH1.r3
  simp only [List.getElem_toArray, List.getElem_cons_zero, List.getElem_cons_succ, Act.put]
  go_wp2
  exact bodyPost_ret (v := .agg (nm s (dgs (A + C)))) (results_range rfl _ _ (w.heap.size + 1 + 1) _ _ rfl hr) rfl ⟨rfl, hH2.q⟩
set_option maxHeartbeats 2000000 in
theorem plus_lt_ft (A C : Int) (hA : 0 ≤ A) (hC : 0 ≤ C) (hA1 : A < Rf.T 12) (hC1 : C < Rf.T 12) (hlt : ltB A C = true) (w : World) :
    Calls Try.prog 26 #[.agg (nm false (dgs A)), .agg (nm true (dgs C))] w fun e w' => e = .returned (.agg (nm true (dgs (C - A)))) ∧ Quiet w w' := by
  have L := Lib.hid (fun W => less_any A C hA hC hA1 hC1 W)
  clear hA hC hA1 hC1
  have P0 : Hid (PS w false true (dgs A) (dgs C) (((w.alloc (.cells (nm false (dgs A)) 58)).alloc (.cells (nm true (dgs C)) 58)).alloc (.cells (nm false fun _ => 0) 58))) :=
    Lib.hid ⟨((Row.new w _ _).alloc _).alloc _, (Row.at_ (w.alloc _) _ _ (by simp)).alloc _, (Row.at_ ((w.alloc _).alloc _) _ _ (by simp)).there, (((Quiet.refl w).alloc _ _).alloc _ _).alloc _ _⟩
  have hc1 : ∀ o o', (((w.alloc (.cells (nm false (dgs A)) 58)).alloc o).alloc o').cell? ⟨w.heap.size, 0, none⟩ = some (.bool false) := fun o o' => (((Row.new w 58 (nm false (dgs A))).alloc o).alloc o').sign
  have hc2 : ∀ o, (((w.alloc (.cells (nm false (dgs A)) 58)).alloc (.cells (nm true (dgs C)) 58)).alloc o).cell? ⟨w.heap.size + 1, 0, none⟩ = some (.bool true) := fun o => ((Row.at_ (w.alloc _) 58 (nm true (dgs C)) (by simp)).alloc o).sign
  go_enter Try.func26, Try.ntmps26
  go_wp2_with (first
    | (refine wl_load_ar w.heap.size 1 (dgs A) ?_ ?_ ?_; rfl; exact P0.out.r1.range)
    | (refine wl_load_ar (w.heap.size + 1) 1 (dgs C) ?_ ?_ ?_; rfl; exact P0.out.r2.range)
    | (go_at_call 52; refine (L.out _).mono ?_; rintro e w0 ⟨rfl, hq0⟩))
  clear hc1 hc2
  refine wp_region_held_drew (S := PS w false true (dgs A) (dgs C)) (by kernel_rfl) (P0.out.quiet hq0).drew (fun hH => ?_)
  refine wpAnyH_take (i := 0) (v := .pointer (some ⟨w.heap.size + 1, 0, none⟩)) rfl (by kernel_rfl) (by kernel_rfl) (by kernel_rfl) (fun _ _ _ h => h) (.inl ⟨by rfl, ?_⟩) (by assumption) ?_
  · intro W hW; go_simp
  simp only [List.getElem_toArray, List.getElem_cons_zero, Act.put, List.setIfInBounds_toArray, List.set_cons_zero, List.set_cons_succ]
  refine wpAnyH_take (i := 1) (v := .bool true) rfl (by kernel_rfl) (by kernel_rfl) (by kernel_rfl) (fun _ _ _ h => h) (.inl ⟨by rfl, ?_⟩) (by assumption) ?_
  · intro W hW; have := hW.r2.sign; go_simp
  simp only [List.getElem_toArray, List.getElem_cons_zero, List.getElem_cons_succ, Act.put, List.setIfInBounds_toArray, List.set_cons_zero, List.set_cons_succ]
  refine wpAnyH_take (i := 2) (v := .pointer (some ⟨w.heap.size + 1, 1, none⟩)) rfl (by kernel_rfl) (by kernel_rfl) (by kernel_rfl) (fun _ _ _ h => h) (.inl ⟨by rfl, ?_⟩) (by assumption) ?_
  · intro W hW; go_simp
  simp only [List.getElem_toArray, List.getElem_cons_zero, List.getElem_cons_succ, Act.put, List.setIfInBounds_toArray, List.set_cons_zero, List.set_cons_succ]
  refine wpAnyH_take (i := 3) (v := .agg (ar (dgs C))) rfl (by kernel_rfl) (by kernel_rfl) (by kernel_rfl) (fun _ _ _ h => h) (yields_ar (by rfl) (.tmp 25) rfl (w.heap.size + 1) 1 rfl (dgs C) (fun W hW => hW.r2.range)) (by assumption) ?_
  simp only [List.getElem_toArray, List.getElem_cons_zero, List.getElem_cons_succ, Act.put, List.setIfInBounds_toArray, List.set_cons_zero, List.set_cons_succ]
  refine wpAnyH_take (i := 4) (v := .pointer (some ⟨w.heap.size, 1, none⟩)) rfl (by kernel_rfl) (by kernel_rfl) (by kernel_rfl) (fun _ _ _ h => h) (.inl ⟨by rfl, ?_⟩) (by assumption) ?_
  · intro W hW; go_simp
  simp only [List.getElem_toArray, List.getElem_cons_zero, List.getElem_cons_succ, Act.put, List.setIfInBounds_toArray, List.set_cons_zero, List.set_cons_succ]
  refine wpAnyH_take (i := 5) (v := .agg (ar (dgs A))) rfl (by kernel_rfl) (by kernel_rfl) (by kernel_rfl) (fun _ _ _ h => h) (yields_ar (by rfl) (.tmp 27) rfl (w.heap.size) 1 rfl (dgs A) (fun W hW => hW.r1.range)) (by assumption) ?_
  simp only [List.getElem_toArray, List.getElem_cons_zero, List.getElem_cons_succ, Act.put, List.setIfInBounds_toArray, List.set_cons_zero, List.set_cons_succ]
  refine wpAnyH_ready (rs := [6]) (by kernel_rfl) (by simp) (AllReadyH.cons rfl (fun K hK => ?_) AllReadyH.nil)
  go_simp
  refine (minus_any C A _).mono ?_; rintro e w1 ⟨rfl, hq1⟩
  refine hK.out _ _ (hH.quiet hq1) (fun hH1 => ?_)
  clear hK hH
  refine wpAnyH_take (i := 7) (v := .agg (nm true (dgs (C - A)))) rfl (by kernel_rfl) (by kernel_rfl) (by kernel_rfl) (fun _ _ _ h => h) (yields_build (by rfl) (.tmp 24) (.tmp 29) rfl true (dgs (C - A)) rfl rfl) (by assumption) ?_
  simp only [List.getElem_toArray, List.getElem_cons_zero, List.getElem_cons_succ, Act.put, List.setIfInBounds_toArray, List.set_cons_zero, List.set_cons_succ]
  refine wpAnyH_ready (rs := [8]) (by kernel_rfl) (by simp) (AllReadyH.cons rfl (fun K hK => ?_) AllReadyH.nil)
  rw [if_pos (by rfl)]
  refine wp_store_mid 58 _ _ rfl (w.heap.size + 1 + 1) 0 (nm true (dgs (C - A))) rfl rfl hH1.r3 (by kernel_rfl) (nm_one _ _) ?_
  refine hK.out _ _ (hH1.stored _) (fun hH2 => ?_)
  refine wpAnyH_done (by kernel_rfl) ?_ _
  have hr := World.rangeAt_setCells_same _ (w.heap.size + 1 + 1) 0 (nm true (dgs (C - A))).toList hH1.r3
  simp only [List.getElem_toArray, List.getElem_cons_zero, List.getElem_cons_succ, Act.put]
  go_wp2
  exact bodyPost_ret (v := .agg (nm true (dgs (C - A)))) (results_range rfl _ _ (w.heap.size + 1 + 1) _ _ rfl hr) rfl ⟨rfl, hH2.q⟩
set_option maxHeartbeats 2000000 in
theorem plus_ge_ft (A C : Int) (hA : 0 ≤ A) (hC : 0 ≤ C) (hA1 : A < Rf.T 12) (hC1 : C < Rf.T 12) (hlt : ltB A C = false) (w : World) :
    Calls Try.prog 26 #[.agg (nm false (dgs A)), .agg (nm true (dgs C))] w fun e w' => e = .returned (.agg (nm false (dgs (A - C)))) ∧ Quiet w w' := by
  have L := Lib.hid (fun W => less_any A C hA hC hA1 hC1 W)
  clear hA hC hA1 hC1
  have P0 : Hid (PS w false true (dgs A) (dgs C) (((w.alloc (.cells (nm false (dgs A)) 58)).alloc (.cells (nm true (dgs C)) 58)).alloc (.cells (nm false fun _ => 0) 58))) :=
    Lib.hid ⟨((Row.new w _ _).alloc _).alloc _, (Row.at_ (w.alloc _) _ _ (by simp)).alloc _, (Row.at_ ((w.alloc _).alloc _) _ _ (by simp)).there, (((Quiet.refl w).alloc _ _).alloc _ _).alloc _ _⟩
  have hc1 : ∀ o o', (((w.alloc (.cells (nm false (dgs A)) 58)).alloc o).alloc o').cell? ⟨w.heap.size, 0, none⟩ = some (.bool false) := fun o o' => (((Row.new w 58 (nm false (dgs A))).alloc o).alloc o').sign
  have hc2 : ∀ o, (((w.alloc (.cells (nm false (dgs A)) 58)).alloc (.cells (nm true (dgs C)) 58)).alloc o).cell? ⟨w.heap.size + 1, 0, none⟩ = some (.bool true) := fun o => ((Row.at_ (w.alloc _) 58 (nm true (dgs C)) (by simp)).alloc o).sign
  go_enter Try.func26, Try.ntmps26
  go_wp2_with (first
    | (refine wl_load_ar w.heap.size 1 (dgs A) ?_ ?_ ?_; rfl; exact P0.out.r1.range)
    | (refine wl_load_ar (w.heap.size + 1) 1 (dgs C) ?_ ?_ ?_; rfl; exact P0.out.r2.range)
    | (go_at_call 52; refine (L.out _).mono ?_; rintro e w0 ⟨rfl, hq0⟩))
  clear hc1 hc2
  refine wp_region_held_drew (S := PS w false true (dgs A) (dgs C)) (by kernel_rfl) (P0.out.quiet hq0).drew (fun hH => ?_)
  refine wpAnyH_take (i := 0) (v := .pointer (some ⟨w.heap.size, 0, none⟩)) rfl (by kernel_rfl) (by kernel_rfl) (by kernel_rfl) (fun _ _ _ h => h) (.inl ⟨by rfl, ?_⟩) (by assumption) ?_
  · intro W hW; go_simp
  simp only [List.getElem_toArray, List.getElem_cons_zero, Act.put, List.setIfInBounds_toArray, List.set_cons_zero, List.set_cons_succ]
  refine wpAnyH_take (i := 1) (v := .bool false) rfl (by kernel_rfl) (by kernel_rfl) (by kernel_rfl) (fun _ _ _ h => h) (.inl ⟨by rfl, ?_⟩) (by assumption) ?_
  · intro W hW; have := hW.r1.sign; go_simp
  simp only [List.getElem_toArray, List.getElem_cons_zero, List.getElem_cons_succ, Act.put, List.setIfInBounds_toArray, List.set_cons_zero, List.set_cons_succ]
  refine wpAnyH_take (i := 2) (v := .pointer (some ⟨w.heap.size, 1, none⟩)) rfl (by kernel_rfl) (by kernel_rfl) (by kernel_rfl) (fun _ _ _ h => h) (.inl ⟨by rfl, ?_⟩) (by assumption) ?_
  · intro W hW; go_simp
  simp only [List.getElem_toArray, List.getElem_cons_zero, List.getElem_cons_succ, Act.put, List.setIfInBounds_toArray, List.set_cons_zero, List.set_cons_succ]
  refine wpAnyH_take (i := 3) (v := .agg (ar (dgs A))) rfl (by kernel_rfl) (by kernel_rfl) (by kernel_rfl) (fun _ _ _ h => h) (yields_ar (by rfl) (.tmp 33) rfl (w.heap.size) 1 rfl (dgs A) (fun W hW => hW.r1.range)) (by assumption) ?_
  simp only [List.getElem_toArray, List.getElem_cons_zero, List.getElem_cons_succ, Act.put, List.setIfInBounds_toArray, List.set_cons_zero, List.set_cons_succ]
  refine wpAnyH_take (i := 4) (v := .pointer (some ⟨w.heap.size + 1, 1, none⟩)) rfl (by kernel_rfl) (by kernel_rfl) (by kernel_rfl) (fun _ _ _ h => h) (.inl ⟨by rfl, ?_⟩) (by assumption) ?_
  · intro W hW; go_simp
  simp only [List.getElem_toArray, List.getElem_cons_zero, List.getElem_cons_succ, Act.put, List.setIfInBounds_toArray, List.set_cons_zero, List.set_cons_succ]
  refine wpAnyH_take (i := 5) (v := .agg (ar (dgs C))) rfl (by kernel_rfl) (by kernel_rfl) (by kernel_rfl) (fun _ _ _ h => h) (yields_ar (by rfl) (.tmp 35) rfl (w.heap.size + 1) 1 rfl (dgs C) (fun W hW => hW.r2.range)) (by assumption) ?_
  simp only [List.getElem_toArray, List.getElem_cons_zero, List.getElem_cons_succ, Act.put, List.setIfInBounds_toArray, List.set_cons_zero, List.set_cons_succ]
  refine wpAnyH_ready (rs := [6]) (by kernel_rfl) (by simp) (AllReadyH.cons rfl (fun K hK => ?_) AllReadyH.nil)
  go_simp
  refine (minus_any A C _).mono ?_; rintro e w1 ⟨rfl, hq1⟩
  refine hK.out _ _ (hH.quiet hq1) (fun hH1 => ?_)
  clear hK hH
  refine wpAnyH_take (i := 7) (v := .agg (nm false (dgs (A - C)))) rfl (by kernel_rfl) (by kernel_rfl) (by kernel_rfl) (fun _ _ _ h => h) (yields_build (by rfl) (.tmp 32) (.tmp 37) rfl false (dgs (A - C)) rfl rfl) (by assumption) ?_
  simp only [List.getElem_toArray, List.getElem_cons_zero, List.getElem_cons_succ, Act.put, List.setIfInBounds_toArray, List.set_cons_zero, List.set_cons_succ]
  refine wpAnyH_ready (rs := [8]) (by kernel_rfl) (by simp) (AllReadyH.cons rfl (fun K hK => ?_) AllReadyH.nil)
  rw [if_pos (by rfl)]
  refine wp_store_mid 58 _ _ rfl (w.heap.size + 1 + 1) 0 (nm false (dgs (A - C))) rfl rfl hH1.r3 (by kernel_rfl) (nm_one _ _) ?_
  refine hK.out _ _ (hH1.stored _) (fun hH2 => ?_)
  refine wpAnyH_done (by kernel_rfl) ?_ _
  have hr := World.rangeAt_setCells_same _ (w.heap.size + 1 + 1) 0 (nm false (dgs (A - C))).toList hH1.r3
  simp only [List.getElem_toArray, List.getElem_cons_zero, List.getElem_cons_succ, Act.put]
  go_wp2
  exact bodyPost_ret (v := .agg (nm false (dgs (A - C)))) (results_range rfl _ _ (w.heap.size + 1 + 1) _ _ rfl hr) rfl ⟨rfl, hH2.q⟩
set_option maxHeartbeats 2000000 in
theorem plus_lt_tf (A C : Int) (hA : 0 ≤ A) (hC : 0 ≤ C) (hA1 : A < Rf.T 12) (hC1 : C < Rf.T 12) (hlt : ltB A C = true) (w : World) :
    Calls Try.prog 26 #[.agg (nm true (dgs A)), .agg (nm false (dgs C))] w fun e w' => e = .returned (.agg (nm false (dgs (C - A)))) ∧ Quiet w w' := by
  have L := Lib.hid (fun W => less_any A C hA hC hA1 hC1 W)
  clear hA hC hA1 hC1
  have P0 : Hid (PS w true false (dgs A) (dgs C) (((w.alloc (.cells (nm true (dgs A)) 58)).alloc (.cells (nm false (dgs C)) 58)).alloc (.cells (nm false fun _ => 0) 58))) :=
    Lib.hid ⟨((Row.new w _ _).alloc _).alloc _, (Row.at_ (w.alloc _) _ _ (by simp)).alloc _, (Row.at_ ((w.alloc _).alloc _) _ _ (by simp)).there, (((Quiet.refl w).alloc _ _).alloc _ _).alloc _ _⟩
  have hc1 : ∀ o o', (((w.alloc (.cells (nm true (dgs A)) 58)).alloc o).alloc o').cell? ⟨w.heap.size, 0, none⟩ = some (.bool true) := fun o o' => (((Row.new w 58 (nm true (dgs A))).alloc o).alloc o').sign
  have hc2 : ∀ o, (((w.alloc (.cells (nm true (dgs A)) 58)).alloc (.cells (nm false (dgs C)) 58)).alloc o).cell? ⟨w.heap.size + 1, 0, none⟩ = some (.bool false) := fun o => ((Row.at_ (w.alloc _) 58 (nm false (dgs C)) (by simp)).alloc o).sign
  go_enter Try.func26, Try.ntmps26
  go_wp2_with (first
    | (refine wl_load_ar w.heap.size 1 (dgs A) ?_ ?_ ?_; rfl; exact P0.out.r1.range)
    | (refine wl_load_ar (w.heap.size + 1) 1 (dgs C) ?_ ?_ ?_; rfl; exact P0.out.r2.range)
    | (go_at_call 52; refine (L.out _).mono ?_; rintro e w0 ⟨rfl, hq0⟩))
  clear hc1 hc2
  refine wp_region_held_drew (S := PS w true false (dgs A) (dgs C)) (by kernel_rfl) (P0.out.quiet hq0).drew (fun hH => ?_)
  refine wpAnyH_take (i := 0) (v := .pointer (some ⟨w.heap.size + 1, 0, none⟩)) rfl (by kernel_rfl) (by kernel_rfl) (by kernel_rfl) (fun _ _ _ h => h) (.inl ⟨by rfl, ?_⟩) (by assumption) ?_
  · intro W hW; go_simp
  simp only [List.getElem_toArray, List.getElem_cons_zero, Act.put, List.setIfInBounds_toArray, List.set_cons_zero, List.set_cons_succ]
  refine wpAnyH_take (i := 1) (v := .bool false) rfl (by kernel_rfl) (by kernel_rfl) (by kernel_rfl) (fun _ _ _ h => h) (.inl ⟨by rfl, ?_⟩) (by assumption) ?_
  · intro W hW; have := hW.r2.sign; go_simp
  simp only [List.getElem_toArray, List.getElem_cons_zero, List.getElem_cons_succ, Act.put, List.setIfInBounds_toArray, List.set_cons_zero, List.set_cons_succ]
  refine wpAnyH_take (i := 2) (v := .pointer (some ⟨w.heap.size + 1, 1, none⟩)) rfl (by kernel_rfl) (by kernel_rfl) (by kernel_rfl) (fun _ _ _ h => h) (.inl ⟨by rfl, ?_⟩) (by assumption) ?_
  · intro W hW; go_simp
  simp only [List.getElem_toArray, List.getElem_cons_zero, List.getElem_cons_succ, Act.put, List.setIfInBounds_toArray, List.set_cons_zero, List.set_cons_succ]
  refine wpAnyH_take (i := 3) (v := .agg (ar (dgs C))) rfl (by kernel_rfl) (by kernel_rfl) (by kernel_rfl) (fun _ _ _ h => h) (yields_ar (by rfl) (.tmp 25) rfl (w.heap.size + 1) 1 rfl (dgs C) (fun W hW => hW.r2.range)) (by assumption) ?_
  simp only [List.getElem_toArray, List.getElem_cons_zero, List.getElem_cons_succ, Act.put, List.setIfInBounds_toArray, List.set_cons_zero, List.set_cons_succ]
  refine wpAnyH_take (i := 4) (v := .pointer (some ⟨w.heap.size, 1, none⟩)) rfl (by kernel_rfl) (by kernel_rfl) (by kernel_rfl) (fun _ _ _ h => h) (.inl ⟨by rfl, ?_⟩) (by assumption) ?_
  · intro W hW; go_simp
  simp only [List.getElem_toArray, List.getElem_cons_zero, List.getElem_cons_succ, Act.put, List.setIfInBounds_toArray, List.set_cons_zero, List.set_cons_succ]
  refine wpAnyH_take (i := 5) (v := .agg (ar (dgs A))) rfl (by kernel_rfl) (by kernel_rfl) (by kernel_rfl) (fun _ _ _ h => h) (yields_ar (by rfl) (.tmp 27) rfl (w.heap.size) 1 rfl (dgs A) (fun W hW => hW.r1.range)) (by assumption) ?_
  simp only [List.getElem_toArray, List.getElem_cons_zero, List.getElem_cons_succ, Act.put, List.setIfInBounds_toArray, List.set_cons_zero, List.set_cons_succ]
  refine wpAnyH_ready (rs := [6]) (by kernel_rfl) (by simp) (AllReadyH.cons rfl (fun K hK => ?_) AllReadyH.nil)
  go_simp
  refine (minus_any C A _).mono ?_; rintro e w1 ⟨rfl, hq1⟩
  refine hK.out _ _ (hH.quiet hq1) (fun hH1 => ?_)
  clear hK hH
  refine wpAnyH_take (i := 7) (v := .agg (nm false (dgs (C - A)))) rfl (by kernel_rfl) (by kernel_rfl) (by kernel_rfl) (fun _ _ _ h => h) (yields_build (by rfl) (.tmp 24) (.tmp 29) rfl false (dgs (C - A)) rfl rfl) (by assumption) ?_
  simp only [List.getElem_toArray, List.getElem_cons_zero, List.getElem_cons_succ, Act.put, List.setIfInBounds_toArray, List.set_cons_zero, List.set_cons_succ]
  refine wpAnyH_ready (rs := [8]) (by kernel_rfl) (by simp) (AllReadyH.cons rfl (fun K hK => ?_) AllReadyH.nil)
  rw [if_pos (by rfl)]
  refine wp_store_mid 58 _ _ rfl (w.heap.size + 1 + 1) 0 (nm false (dgs (C - A))) rfl rfl hH1.r3 (by kernel_rfl) (nm_one _ _) ?_
  refine hK.out _ _ (hH1.stored _) (fun hH2 => ?_)
  refine wpAnyH_done (by kernel_rfl) ?_ _
  have hr := World.rangeAt_setCells_same _ (w.heap.size + 1 + 1) 0 (nm false (dgs (C - A))).toList hH1.r3
  simp only [List.getElem_toArray, List.getElem_cons_zero, List.getElem_cons_succ, Act.put]
  go_wp2
  exact bodyPost_ret (v := .agg (nm false (dgs (C - A)))) (results_range rfl _ _ (w.heap.size + 1 + 1) _ _ rfl hr) rfl ⟨rfl, hH2.q⟩
set_option maxHeartbeats 2000000 in
theorem plus_ge_tf (A C : Int) (hA : 0 ≤ A) (hC : 0 ≤ C) (hA1 : A < Rf.T 12) (hC1 : C < Rf.T 12) (hlt : ltB A C = false) (w : World) :
    Calls Try.prog 26 #[.agg (nm true (dgs A)), .agg (nm false (dgs C))] w fun e w' => e = .returned (.agg (nm true (dgs (A - C)))) ∧ Quiet w w' := by
  have L := Lib.hid (fun W => less_any A C hA hC hA1 hC1 W)
  clear hA hC hA1 hC1
  have P0 : Hid (PS w true false (dgs A) (dgs C) (((w.alloc (.cells (nm true (dgs A)) 58)).alloc (.cells (nm false (dgs C)) 58)).alloc (.cells (nm false fun _ => 0) 58))) :=
    Lib.hid ⟨((Row.new w _ _).alloc _).alloc _, (Row.at_ (w.alloc _) _ _ (by simp)).alloc _, (Row.at_ ((w.alloc _).alloc _) _ _ (by simp)).there, (((Quiet.refl w).alloc _ _).alloc _ _).alloc _ _⟩
  have hc1 : ∀ o o', (((w.alloc (.cells (nm true (dgs A)) 58)).alloc o).alloc o').cell? ⟨w.heap.size, 0, none⟩ = some (.bool true) := fun o o' => (((Row.new w 58 (nm true (dgs A))).alloc o).alloc o').sign
  have hc2 : ∀ o, (((w.alloc (.cells (nm true (dgs A)) 58)).alloc (.cells (nm false (dgs C)) 58)).alloc o).cell? ⟨w.heap.size + 1, 0, none⟩ = some (.bool false) := fun o => ((Row.at_ (w.alloc _) 58 (nm false (dgs C)) (by simp)).alloc o).sign
  go_enter Try.func26, Try.ntmps26
  go_wp2_with (first
    | (refine wl_load_ar w.heap.size 1 (dgs A) ?_ ?_ ?_; rfl; exact P0.out.r1.range)
    | (refine wl_load_ar (w.heap.size + 1) 1 (dgs C) ?_ ?_ ?_; rfl; exact P0.out.r2.range)
    | (go_at_call 52; refine (L.out _).mono ?_; rintro e w0 ⟨rfl, hq0⟩))
  clear hc1 hc2
  refine wp_region_held_drew (S := PS w true false (dgs A) (dgs C)) (by kernel_rfl) (P0.out.quiet hq0).drew (fun hH => ?_)
  refine wpAnyH_take (i := 0) (v := .pointer (some ⟨w.heap.size, 0, none⟩)) rfl (by kernel_rfl) (by kernel_rfl) (by kernel_rfl) (fun _ _ _ h => h) (.inl ⟨by rfl, ?_⟩) (by assumption) ?_
  · intro W hW; go_simp
  simp only [List.getElem_toArray, List.getElem_cons_zero, Act.put, List.setIfInBounds_toArray, List.set_cons_zero, List.set_cons_succ]
  refine wpAnyH_take (i := 1) (v := .bool true) rfl (by kernel_rfl) (by kernel_rfl) (by kernel_rfl) (fun _ _ _ h => h) (.inl ⟨by rfl, ?_⟩) (by assumption) ?_
  · intro W hW; have := hW.r1.sign; go_simp
  simp only [List.getElem_toArray, List.getElem_cons_zero, List.getElem_cons_succ, Act.put, List.setIfInBounds_toArray, List.set_cons_zero, List.set_cons_succ]
  refine wpAnyH_take (i := 2) (v := .pointer (some ⟨w.heap.size, 1, none⟩)) rfl (by kernel_rfl) (by kernel_rfl) (by kernel_rfl) (fun _ _ _ h => h) (.inl ⟨by rfl, ?_⟩) (by assumption) ?_
  · intro W hW; go_simp
  simp only [List.getElem_toArray, List.getElem_cons_zero, List.getElem_cons_succ, Act.put, List.setIfInBounds_toArray, List.set_cons_zero, List.set_cons_succ]
  refine wpAnyH_take (i := 3) (v := .agg (ar (dgs A))) rfl (by kernel_rfl) (by kernel_rfl) (by kernel_rfl) (fun _ _ _ h => h) (yields_ar (by rfl) (.tmp 33) rfl (w.heap.size) 1 rfl (dgs A) (fun W hW => hW.r1.range)) (by assumption) ?_
  simp only [List.getElem_toArray, List.getElem_cons_zero, List.getElem_cons_succ, Act.put, List.setIfInBounds_toArray, List.set_cons_zero, List.set_cons_succ]
  refine wpAnyH_take (i := 4) (v := .pointer (some ⟨w.heap.size + 1, 1, none⟩)) rfl (by kernel_rfl) (by kernel_rfl) (by kernel_rfl) (fun _ _ _ h => h) (.inl ⟨by rfl, ?_⟩) (by assumption) ?_
  · intro W hW; go_simp
  simp only [List.getElem_toArray, List.getElem_cons_zero, List.getElem_cons_succ, Act.put, List.setIfInBounds_toArray, List.set_cons_zero, List.set_cons_succ]
  refine wpAnyH_take (i := 5) (v := .agg (ar (dgs C))) rfl (by kernel_rfl) (by kernel_rfl) (by kernel_rfl) (fun _ _ _ h => h) (yields_ar (by rfl) (.tmp 35) rfl (w.heap.size + 1) 1 rfl (dgs C) (fun W hW => hW.r2.range)) (by assumption) ?_
  simp only [List.getElem_toArray, List.getElem_cons_zero, List.getElem_cons_succ, Act.put, List.setIfInBounds_toArray, List.set_cons_zero, List.set_cons_succ]
  refine wpAnyH_ready (rs := [6]) (by kernel_rfl) (by simp) (AllReadyH.cons rfl (fun K hK => ?_) AllReadyH.nil)
  go_simp
  refine (minus_any A C _).mono ?_; rintro e w1 ⟨rfl, hq1⟩
  refine hK.out _ _ (hH.quiet hq1) (fun hH1 => ?_)
  clear hK hH
  refine wpAnyH_take (i := 7) (v := .agg (nm true (dgs (A - C)))) rfl (by kernel_rfl) (by kernel_rfl) (by kernel_rfl) (fun _ _ _ h => h) (yields_build (by rfl) (.tmp 32) (.tmp 37) rfl true (dgs (A - C)) rfl rfl) (by assumption) ?_
  simp only [List.getElem_toArray, List.getElem_cons_zero, List.getElem_cons_succ, Act.put, List.setIfInBounds_toArray, List.set_cons_zero, List.set_cons_succ]
  refine wpAnyH_ready (rs := [8]) (by kernel_rfl) (by simp) (AllReadyH.cons rfl (fun K hK => ?_) AllReadyH.nil)
  rw [if_pos (by rfl)]
  refine wp_store_mid 58 _ _ rfl (w.heap.size + 1 + 1) 0 (nm true (dgs (A - C))) rfl rfl hH1.r3 (by kernel_rfl) (nm_one _ _) ?_
  refine hK.out _ _ (hH1.stored _) (fun hH2 => ?_)
  refine wpAnyH_done (by kernel_rfl) ?_ _
  have hr := World.rangeAt_setCells_same _ (w.heap.size + 1 + 1) 0 (nm true (dgs (A - C))).toList hH1.r3
  simp only [List.getElem_toArray, List.getElem_cons_zero, List.getElem_cons_succ, Act.put]
  go_wp2
  exact bodyPost_ret (v := .agg (nm true (dgs (A - C)))) (results_range rfl _ _ (w.heap.size + 1 + 1) _ _ rfl hr) rfl ⟨rfl, hH2.q⟩

theorem T12 : (36893488147419103232 : Int) < Rf.T 12 := by decide
theorem sgn_mag (a : Int) : sgn (decide (a < 0)) (mag a) = a := by
  unfold sgn mag
  by_cases h : a < 0 <;> simp [h]
/-- A number is told whose value is x and whose size is at most b. -/
def IsNum (x b : Int) (e : Ending) : Prop := ∃ u N, e = .returned (.agg (nm u (dgs N))) ∧ 0 ≤ N ∧ N ≤ b ∧ sgn u N = x
theorem plus_num (s t : Bool) (A C b : Int) (hA : 0 ≤ A) (hC : 0 ≤ C) (hb : A + C ≤ b) (h12 : b < Rf.T 12) (w : World) :
    Calls Try.prog 26 #[.agg (nm s (dgs A)), .agg (nm t (dgs C))] w fun e w' => IsNum (sgn s A + sgn t C) b e ∧ Quiet w w' := by
  by_cases hst : s = t
  · subst hst
    refine (plus_same s A C w).mono ?_
    rintro e w' ⟨rfl, hq⟩
    exact ⟨⟨s, A + C, rfl, by omega, hb, by unfold sgn; split <;> omega⟩, hq⟩
  · have hA1 : A < Rf.T 12 := by omega
    have hC1 : C < Rf.T 12 := by omega
    cases hl : ltB A C
    · have h : C ≤ A := by unfold ltB at hl; have := of_decide_eq_false hl; omega
      cases s <;> cases t
      · exact absurd rfl hst
      · refine (plus_ge_ft A C hA hC hA1 hC1 hl w).mono ?_
        rintro e w' ⟨rfl, hq⟩
        exact ⟨⟨false, A - C, rfl, by omega, by omega, by simp only [sgn]; simp; omega⟩, hq⟩
      · refine (plus_ge_tf A C hA hC hA1 hC1 hl w).mono ?_
        rintro e w' ⟨rfl, hq⟩
        exact ⟨⟨true, A - C, rfl, by omega, by omega, by simp only [sgn]; simp; omega⟩, hq⟩
      · exact absurd rfl hst
    · have h : A < C := by unfold ltB at hl; exact of_decide_eq_true hl
      cases s <;> cases t
      · exact absurd rfl hst
      · refine (plus_lt_ft A C hA hC hA1 hC1 hl w).mono ?_
        rintro e w' ⟨rfl, hq⟩
        exact ⟨⟨true, C - A, rfl, by omega, by omega, by simp only [sgn]; simp; omega⟩, hq⟩
      · refine (plus_lt_tf A C hA hC hA1 hC1 hl w).mono ?_
        rintro e w' ⟨rfl, hq⟩
        exact ⟨⟨false, C - A, rfl, by omega, by omega, by simp only [sgn]; simp; omega⟩, hq⟩
      · exact absurd rfl hst
theorem tO_tE (x : Int) : tE x = if tO x then 0 else 6 := by
  unfold tE tO
  by_cases h : -9223372036854775808 ≤ x ∧ x ≤ 9223372036854775807
  · rw [if_pos h, decide_eq_true h]; rfl
  · rw [if_neg h, decide_eq_false h]; rfl
theorem tN_no {x : Int} (h : tO x = false) : tN x = 0 := by
  unfold tO at h; unfold tN; exact if_neg (of_decide_eq_false h)
end Go.Proofs.Ytcpcnjiphiokjaa
