/- Texts of a proof, laid together: Sv, Sw, Fs, Sx, Em. -/
import Derived.RangeFuncNested
import Derived.RangeFuncBound
import Derived.RangeFuncCalls
import Derived.RangeFuncLeaves
import Derived.Shelf.Abstract
import Derived.Test.YtdcjgcjnfcahkaaG04
import Derived.Test.YtdcjgcjnfcahkaaG01
import Derived.Test.YtdcjgcjnfcahkaaG03
/- The document's plain side, said of its orders in their order. -/
namespace Go.Proofs.Ytdcjgcjnfcahkaa
open Go.RowKit
set_option linter.unusedVariables false

def findO (os : List Or) (n : Int) : Option Or := os.find? fun x => x.nu == n
def addA (buy : Bool) (os : List Or) (o : Or) : Int := if (mayO o && o.bu == buy) = false then 2 else if (findO os o.nu).isSome = true then 8 else if 100 ≤ os.length then 9 else 0
def addO (buy : Bool) (os : List Or) (o : Or) : List Or := if addA buy os o = 0 then insO buy o os else os
def fillA : List Or → Int → Int
  | [], _ => 7
  | x :: _, n => if n < 1 ∨ x.le < n then 2 else 0
def fillX : List Or → Int → Or
  | [], _ => zeroOr
  | x :: _, n => if n < 1 ∨ x.le < n then zeroOr else x.wi (x.le - n)
def fillO : List Or → Int → List Or
  | [], _ => []
  | x :: r, n => if n < 1 ∨ x.le < n then x :: r else if x.le - n = 0 then r else x.wi (x.le - n) :: r
def getA (os : List Or) (n : Int) : Int := match findO os n with | none => 7 | some _ => 0
def getX (os : List Or) (n : Int) : Or := (findO os n).getD zeroOr
def dropO (os : List Or) (n : Int) : List Or := os.filter fun y => y.nu != n
def lowA (os : List Or) (n left : Int) : Int := match findO os n with | none => 7 | some x => lowE x left
def lowO (os : List Or) (n left : Int) : List Or := if lowA os n left = 0 then os.map (fun z => if z.nu = n then z.wi left else z) else os

theorem dis_uniq {x y : Or} : ∀ {l : List Or}, Dis l → x ∈ l → y ∈ l → x.nu = y.nu → x = y
  | [], _, hx, _, _ => by simp at hx
  | z :: r, h, hx, hy, e => by
    obtain ⟨h1, h2⟩ := List.pairwise_cons.1 h
    rcases List.mem_cons.1 hx with e1 | hx
    · rcases List.mem_cons.1 hy with e2 | hy
      · rw [e1, e2]
      · exact absurd (by rw [← e, e1]) (h1 y hy)
    · rcases List.mem_cons.1 hy with e2 | hy
      · exact absurd (by rw [e, e2]) (h1 x hx)
      · exact dis_uniq h2 hx hy e
/-- As they came, and in their order. -/
structure Ms (buy : Bool) (l os : List Or) : Prop where
  so : sortO buy l = os
  di : Dis l
  ma : ∀ x, x ∈ l → mayO x = true ∧ x.bu = buy
theorem may_le {x : Or} (h : mayO x = true) : 0 < x.nu ∧ 0 < x.ac ∧ (0 < x.pr ∧ x.pr ≤ 10000000) ∧ 0 < x.le ∧ x.le ≤ 1000000 := by
  unfold mayO at h
  simp only [Bool.and_eq_true, decide_eq_true_eq] at h
  omega
section
variable {buy : Bool} {l os : List Or} {n : Int} {k : Nat} {x : Or}
theorem Ms.nil : Ms buy [] [] := ⟨rfl, List.Pairwise.nil, fun x h => by simp at h⟩
theorem Ms.len (h : Ms buy l os) : os.length = l.length := by rw [← h.so, sort_len]
theorem Ms.mem (h : Ms buy l os) : x ∈ os ↔ x ∈ l := by rw [← h.so]; exact sort_mem
theorem Ms.none (h : Ms buy l os) (hn : ∀ y, y ∈ l → y.nu ≠ n) : findO os n = none :=
  List.find?_eq_none.2 fun y hy => by simpa using hn y (h.mem.1 hy)
theorem Ms.some (h : Ms buy l os) (hx : x ∈ l) (e : x.nu = n) : findO os n = some x := by
  cases hf : findO os n with
  | none => exact absurd (beq_iff_eq.2 e) (List.find?_eq_none.1 hf x (h.mem.2 hx))
  | some y =>
    have h1 := List.mem_of_find?_eq_some hf
    have h2 := List.find?_some hf
    rw [dis_uniq h.di (h.mem.1 h1) hx ((beq_iff_eq.1 h2).trans e.symm)]
theorem Ms.erase (h : Ms buy l os) (hx : l[k]? = Option.some x) (e : x.nu = n) : Ms buy (l.eraseIdx k) (dropO os n) := by
  subst e
  refine ⟨?_, ?_, fun y hy => h.ma y (List.mem_of_mem_eraseIdx hy)⟩
  · rw [dis_erase h.di hx, sort_filter, h.so]; rfl
  · rw [dis_erase h.di hx]; exact dis_filter _ h.di
/-- Another rest at a place is another rest at a number. -/
theorem Ms.maps (h : Ms buy l os) (hx : l[k]? = Option.some x) (e : x.nu = n) (m : Int) : l.set k (x.wi m) = l.map fun z => if z.nu = n then z.wi m else z := by
  subst e
  rw [dis_set h.di hx (show (x.wi m).nu = x.nu from rfl)]
  refine List.map_congr_left fun z hz => ?_
  by_cases c : z.nu = x.nu
  · rw [if_pos c, if_pos c, dis_uniq h.di hz (List.mem_of_getElem? hx) c]
  · rw [if_neg c, if_neg c]
theorem wi_nu (c : Prop) [Decidable c] (z : Or) (m : Int) : (if c then z.wi m else z).nu = z.nu := by split <;> rfl
theorem wi_pr (c : Prop) [Decidable c] (z : Or) (m : Int) : (if c then z.wi m else z).pr = z.pr := by split <;> rfl
theorem wi_bu (c : Prop) [Decidable c] (z : Or) (m : Int) : (if c then z.wi m else z).bu = z.bu := by split <;> rfl
theorem may_wi {z : Or} {m : Int} (h : mayO z = true) (h1 : 0 < m) (h2 : m ≤ z.le) : mayO (z.wi m) = true := by
  have := may_le h
  unfold mayO Or.wi
  simp only [Bool.and_eq_true, decide_eq_true_eq]
  omega
theorem Ms.low (h : Ms buy l os) (hx : l[k]? = Option.some x) (e : x.nu = n) {m : Int} (h1 : 0 < m) (h2 : m ≤ x.le) : Ms buy (l.set k (x.wi m)) (os.map fun z => if z.nu = n then z.wi m else z) := by
  refine ⟨?_, ?_, ?_⟩
  · rw [h.maps hx e, sort_map _ _ (fun z => wi_pr _ z m), h.so]
  · rw [h.maps hx e]; exact dis_map _ (fun z => wi_nu _ z m) h.di
  · intro y hy
    rcases List.mem_or_eq_of_mem_set hy with q | rfl
    · exact h.ma y q
    · have := h.ma x (List.mem_of_getElem? hx)
      exact ⟨may_wi this.1 h1 h2, this.2⟩
theorem Ms.snoc (h : Ms buy l os) {o : Or} (hn : ∀ y, y ∈ l → y.nu ≠ o.nu) (hm : mayO o = true) (hb : o.bu = buy) : Ms buy (l ++ [o]) (insO buy o os) := by
  refine ⟨by rw [sort_snoc, h.so], dis_snoc h.di hn, fun y hy => ?_⟩
  rcases List.mem_append.1 hy with q | q
  · exact h.ma y q
  · rw [List.mem_singleton.1 q]; exact ⟨hm, hb⟩
/-- The first one, and what is left. -/
theorem Ms.head (h : Ms buy l os) (hl : l ≠ []) : ∃ (k : Nat) (x : Or) (r : List Or), fstO buy l l.length = k ∧ l[k]? = Option.some x ∧ os = x :: r ∧ Ms buy (l.eraseIdx k) r ∧ ∀ m, 0 < m → m ≤ x.le → Ms buy (l.set k (x.wi m)) (x.wi m :: r) := by
  obtain ⟨k, x, h1, h2, h3⟩ := sort_sel buy l hl
  have e : os = x :: sortO buy (l.eraseIdx k) := by rw [← h.so, h3]
  have hm : Ms buy (l.eraseIdx k) (sortO buy (l.eraseIdx k)) := ⟨rfl, by rw [dis_erase h.di h2]; exact dis_filter _ h.di, fun y hy => h.ma y (List.mem_of_mem_eraseIdx hy)⟩
  refine ⟨k, x, _, h1, h2, e, hm, fun m m1 m2 => ?_⟩
  have q := h.low h2 rfl m1 m2
  have e2 : (os.map fun z => if z.nu = x.nu then z.wi m else z) = x.wi m :: sortO buy (l.eraseIdx k) := by
    rw [e, List.map_cons, if_pos rfl]
    congr 1
    refine (List.map_congr_left (g := id) fun z hz => ?_).trans (List.map_id _)
    rw [if_neg]; rfl
    have hz' := hm.mem.1 hz
    rw [dis_erase h.di h2] at hz'
    simpa using (List.mem_filter.1 hz').2
  rw [e2] at q
  exact q
theorem Ms.isnil (h : Ms buy l os) (hl : l = []) : os = [] := by rw [← h.so, hl]; rfl
end
end Go.Proofs.Ytdcjgcjnfcahkaa
/- The document's plain side, said of its orders in their order: the calls. -/
namespace Go.Proofs.Ytdcjgcjnfcahkaa
open Go.RowKit
set_option linter.unusedVariables false

/-- The plain side at block g, its orders in their order. -/
def Ps (W : World) (B g : Nat) (v : Value) (buy : Bool) (os : List Or) : Prop := ∃ l, Rs W B g v buy l ∧ Ms buy l os
def PsN (w : World) (B g : Nat) (v : Value) (buy : Bool) (os : List Or) (w' : World) : Prop := ∃ v', Ps w' B g v' buy os ∧ Fr (fun k => k = g) w w' ∧ ∀ k, v'.ownBlock = some k → v.ownBlock = some k ∨ w.heap.size ≤ k
section
variable {w w' : World} {B g : Nat} {v : Value} {buy : Bool} {l os : List Or} {o : Or} {n : Int}
theorem psn (m : Ms buy l os) (h : RsN w B g v buy l w') : PsN w B g v buy os w' := by
  obtain ⟨v', h1, h2, h3⟩ := h
  exact ⟨v', ⟨l, h1, m⟩, h2, h3⟩
theorem psn_same (h : Ps w B g v buy os) (q : Below w.heap.size w w') : PsN w B g v buy os w' := by
  obtain ⟨l, h, m⟩ := h
  exact psn m (rsn_same h q)
theorem Ps.below (h : Ps w B g v buy os) (q : Below w.heap.size w w') : Ps w' B g v buy os := by
  obtain ⟨l, h, m⟩ := h
  exact ⟨l, h.below q, m⟩
theorem Ps.keep {S : Nat → Prop} (h : Ps w B g v buy os) (f : Fr S w w') (hg : ¬ S g) (hv : ∀ k, v.ownBlock = some k → ¬ S k) : Ps w' B g v buy os := by
  obtain ⟨l, h, m⟩ := h
  exact ⟨l, h.keep f hg hv, m⟩
theorem Ps.facts (h : Ps w B g v buy os) : os.length ≤ 100 ∧ ∀ x, x ∈ os → x.ok ∧ mayO x = true ∧ x.bu = buy := by
  obtain ⟨l, h, m⟩ := h
  exact ⟨by rw [m.len]; exact h.le, fun x hx => ⟨h.ok x (m.mem.1 hx), m.ma x (m.mem.1 hx)⟩⟩
theorem padd (h : Ps w B g v buy os) (ok : o.ok) : Calls Try.prog 79 #[.pointer (some ⟨g, 0, none⟩), .agg (EO.cells o).toArray] w fun e w' => e = .returned (.int .i64 (addA buy os o)) ∧ PsN w B g v buy (addO buy os o) w' := by
  have hp := h
  obtain ⟨l, h, m⟩ := h
  cases hb : (mayO o && o.bu == buy)
  · have e : addA buy os o = 2 := by unfold addA; rw [if_pos hb]
    have e2 : addO buy os o = os := by unfold addO; rw [e]; rfl
    rw [e, e2]
    refine (radd_arg B g v buy l o w h ok hb).mono ?_; rintro e w' ⟨rfl, q⟩
    exact ⟨rfl, psn_same hp q⟩
  · have hb2 := Bool.and_eq_true_iff.1 hb
    have hm := hb2.1
    have hbu : o.bu = buy := beq_iff_eq.1 hb2.2
    rcases plO_cases l o.nu with ⟨hn, hall⟩ | ⟨k, x, hk, hx, hxn⟩
    · have hf := m.none hall
      by_cases hlen : 100 ≤ l.length
      · have e : addA buy os o = 9 := by unfold addA; rw [if_neg (by rw [hb]; decide), if_neg (by rw [hf]; decide), if_pos (by rw [m.len]; exact hlen)]
        have e2 : addO buy os o = os := by unfold addO; rw [e]; rfl
        rw [e, e2]
        refine (radd_full B g v buy l o w h ok hm hbu hn hlen).mono ?_; rintro e w' ⟨rfl, q⟩
        exact ⟨rfl, psn_same hp q⟩
      · have e : addA buy os o = 0 := by unfold addA; rw [if_neg (by rw [hb]; decide), if_neg (by rw [hf]; decide), if_neg (by rw [m.len]; exact hlen)]
        have e2 : addO buy os o = insO buy o os := by unfold addO; rw [e]; rfl
        rw [e, e2]
        refine (radd_ok B g v buy l o w h ok hm hbu hn (by omega)).mono ?_; rintro e w' ⟨rfl, q⟩
        exact ⟨rfl, psn (m.snoc hall hm hbu) q⟩
    · have hf := m.some (List.mem_of_getElem? hx) hxn
      have e : addA buy os o = 8 := by unfold addA; rw [if_neg (by rw [hb]; decide), if_pos (by rw [hf]; rfl)]
      have e2 : addO buy os o = os := by unfold addO; rw [e]; rfl
      rw [e, e2]
      refine (radd_twice B g v buy l o k w h ok hm hbu hk).mono ?_; rintro e w' ⟨rfl, q⟩
      exact ⟨rfl, psn_same hp q⟩
theorem pfill (h : Ps w B g v buy os) (hn : I64' n) : Calls Try.prog 78 #[.pointer (some ⟨g, 0, none⟩), .int .i64 n] w fun e w' => e = .returned (.tuple #[.agg (EO.cells (fillX os n)).toArray, .int .i64 (fillA os n)]) ∧ PsN w B g v buy (fillO os n) w' := by
  have hp := h
  obtain ⟨l, h, m⟩ := h
  by_cases hl : l = []
  · have e := m.isnil hl
    subst e
    refine (rfill_none B g v buy l n w h hl).mono ?_; rintro e w' ⟨rfl, q⟩
    exact ⟨rfl, psn_same hp q⟩
  · obtain ⟨k, x, r, h1, h2, rfl, h4, h5⟩ := m.head hl
    have hx := may_le (m.ma x (List.mem_of_getElem? h2)).1
    by_cases hb : n < 1 ∨ x.le < n
    · have e1 : fillA (x :: r) n = 2 := if_pos hb
      have e2 : fillX (x :: r) n = zeroOr := if_pos hb
      have e3 : fillO (x :: r) n = x :: r := if_pos hb
      rw [e1, e2, e3]
      refine (rfill_bad B g v buy l k x n w h h1 h2 hn hb).mono ?_; rintro e w' ⟨rfl, q⟩
      exact ⟨rfl, psn_same hp q⟩
    · have e1 : fillA (x :: r) n = 0 := if_neg hb
      have e2 : fillX (x :: r) n = x.wi (x.le - n) := if_neg hb
      rw [e1, e2]
      refine (rfill_ok B g v buy l k x n w h h1 h2 hn (by omega) (by omega)).mono ?_; rintro e w' ⟨rfl, q⟩
      refine ⟨rfl, ?_⟩
      unfold setL at q
      by_cases hz : x.le - n = 0
      · have e3 : fillO (x :: r) n = r := (if_neg hb).trans (if_pos hz)
        rw [if_pos hz] at q
        rw [e3]
        exact psn h4 q
      · have e3 : fillO (x :: r) n = x.wi (x.le - n) :: r := (if_neg hb).trans (if_neg hz)
        rw [if_neg hz] at q
        rw [e3]
        exact psn (h5 _ (by omega) (by omega)) q
theorem pdrop (h : Ps w B g v buy os) (hn : 0 ≤ n ∧ n ≤ 18446744073709551615) : Calls Try.prog 60 #[.pointer (some ⟨g, 0, none⟩), .int .u64 n] w fun e w' => e = .returned (.tuple #[.agg (EO.cells (getX os n)).toArray, .int .i64 (getA os n)]) ∧ PsN w B g v buy (dropO os n) w' := by
  have hp := h
  obtain ⟨l, h, m⟩ := h
  unfold getX getA
  rcases plO_cases l n with ⟨h0, hall⟩ | ⟨k, x, hk, hx, hxn⟩
  · have hf := m.none hall
    have e2 : dropO os n = os := List.filter_eq_self.2 fun y hy => by simpa using hall y (m.mem.1 hy)
    rw [hf, e2]
    refine (rdrop_none B g v buy l n w h hn h0).mono ?_; rintro e w' ⟨rfl, q⟩
    exact ⟨rfl, psn_same hp q⟩
  · rw [m.some (List.mem_of_getElem? hx) hxn]
    refine (rdrop_some B g v buy l n k x w h hn hk hx).mono ?_; rintro e w' ⟨rfl, q⟩
    exact ⟨rfl, psn (m.erase hx hxn) q⟩
theorem pget (h : Ps w B g v buy os) (hn : 0 ≤ n ∧ n ≤ 18446744073709551615) : Calls Try.prog 76 #[.pointer (some ⟨g, 0, none⟩), .int .u64 n] w fun e w' => e = .returned (.tuple #[.agg (EO.cells (getX os n)).toArray, .int .i64 (getA os n)]) ∧ Below w.heap.size w w' := by
  obtain ⟨l, h, m⟩ := h
  unfold getX getA
  rcases plO_cases l n with ⟨h0, hall⟩ | ⟨k, x, hk, hx, hxn⟩
  · rw [m.none hall]
    refine (rget_none B g v buy l n w h hn h0).mono ?_; rintro e w' ⟨rfl, q⟩
    exact ⟨rfl, q⟩
  · rw [m.some (List.mem_of_getElem? hx) hxn]
    refine (rget_some B g v buy l n k x w h hn hk hx).mono ?_; rintro e w' ⟨rfl, q⟩
    exact ⟨rfl, q⟩
theorem plow {left : Int} (h : Ps w B g v buy os) (hn : 0 ≤ n ∧ n ≤ 18446744073709551615) (hf : I64' left) : Calls Try.prog 59 #[.pointer (some ⟨g, 0, none⟩), .int .u64 n, .int .i64 left] w fun e w' => e = .returned (.int .i64 (lowA os n left)) ∧ PsN w B g v buy (lowO os n left) w' := by
  have hp := h
  obtain ⟨l, h, m⟩ := h
  rcases plO_cases l n with ⟨h0, hall⟩ | ⟨k, x, hk, hx, hxn⟩
  · have e1 : lowA os n left = 7 := by unfold lowA; rw [m.none hall]
    have e2 : lowO os n left = os := by unfold lowO; rw [e1]; rfl
    rw [e1, e2]
    refine (rlow_none B g v buy l n left w h hn h0).mono ?_; rintro e w' ⟨rfl, rfl⟩
    exact ⟨rfl, psn_same hp (Below.refl _ _)⟩
  · have e1 : lowA os n left = lowE x left := by unfold lowA; rw [m.some (List.mem_of_getElem? hx) hxn]
    rw [e1]
    refine (rlow_some B g v buy l n left k x w h hn hf hk hx).mono ?_; rintro e w' ⟨rfl, q⟩
    refine ⟨rfl, ?_⟩
    unfold lowO
    rw [e1]
    by_cases hb : left < 1 ∨ x.le < left
    · have e2 : lowE x left = 2 := if_pos hb
      rw [e2, if_neg (by decide)] at q ⊢
      exact psn m q
    · have e2 : lowE x left = 0 := if_neg hb
      rw [e2, if_pos rfl] at q ⊢
      exact psn (m.low hx hxn (by omega) (by omega)) q
theorem preach {p nt : Int} (h : Ps w B g v buy os) (hp : I64' p) (hnt : 0 ≤ nt ∧ nt ≤ 4294967295) : Calls Try.prog 57 #[.pointer (some ⟨g, 0, none⟩), .int .i64 p, .int .u32 nt] w fun e w' => e = .returned (.int .i64 (sumR buy os p nt)) ∧ Below w.heap.size w w' := by
  obtain ⟨l, h, m⟩ := h
  have e : sumR buy os p nt = sumR buy l p nt := by rw [← m.so]; exact sort_sum buy _ l
  rw [e]
  exact rreach_any B g v buy l p nt w h (fun x hx => by have := may_le (m.ma x hx).1; omega) hp hnt
theorem pall (h : Ps w B g v buy os) : Calls Try.prog 40 #[.pointer (some ⟨g, 0, none⟩)] w fun e w' => ∃ v', e = .returned v' ∧ EO.Own 31 w' w.heap.size v' os ∧ Below w.heap.size w w' := by
  obtain ⟨l, h, m⟩ := h
  have q := rall_any B g v buy l w h
  rw [m.so] at q
  exact q
end
end Go.Proofs.Ytdcjgcjnfcahkaa
/- Iterators that keep cells of their own from round to round: their promise, and the rule of a range over one; no program's function, no program's type. -/
namespace Go.Proofs.Ytdcjgcjnfcahkaa
open Go.RowKit
set_option linter.unusedVariables false

/-- What hangs on blocks below B, and on the cells that S names, alone. -/
def Calm {β : Type} (B : Nat) (S : World → Nat → Prop) (J : β → World → Prop) : Prop :=
  ∀ s A C, J s A → Below B A C → (∀ k, S A k → (∃ cs t f, A.heap[k]? = some (.cells cs t f)) → C.heap[k]? = A.heap[k]?) → J s C
section
variable {β : Type} {B B' : Nat} {S : World → Nat → Prop} {J : β → World → Prop} {s : β} {W W' : World}
theorem Calm.up (h : Calm B S J) (hB : B ≤ B') : Calm B' S J := fun s A C hj b k => h s A C hj (b.mono hB) k
theorem Calm.put (h : Calm B S J) {l : Nat} {o : Obj} (o' : Obj) (hl : B ≤ l) (ho : W.heap[l]? = some o) (hc : o.isCells = false) (hj : J s W) : J s (W.putObj l o') := by
  have g := grownBy_putObj' W l o'
  refine h s W _ hj ((Below.refl B W).grown g (Nat.le_trans hl (Nat.le_of_lt (Array.getElem?_eq_some_iff.1 ho).1)) (fun k e => by cases e; exact hl)) (fun k _ hk => ?_)
  obtain ⟨cs, t, f, e⟩ := hk
  refine g.block k (Array.getElem?_eq_some_iff.1 e).1 (fun c => ?_)
  cases c
  rw [e] at ho
  cases ho
  cases hc
theorem Calm.grow (h : Calm B S J) (hB : B ≤ W.heap.size) (q : Below W.heap.size W W') (hj : J s W) : J s W' :=
  h s W W' hj (q.mono hB) (fun k _ hk => by
    obtain ⟨cs, t, f, e⟩ := hk
    exact q.block k (Array.getElem?_eq_some_iff.1 e).1)
theorem Calm.and {J' : β → World → Prop} (h : Calm B S J) (h' : Calm B S J') : Calm B S (fun s W => J s W ∧ J' s W) := fun s A C hj b k => ⟨h s A C hj.1 b k, h' s A C hj.2 b k⟩
theorem calm_at {o : Obj} {k : Nat} (hk : k < B) : Calm B S (fun (_ : β) W => W.heap[k]? = some o) := fun _ A C hj b _ => (b.block k hk).trans hj
theorem calm_pure (p : β → Prop) : Calm B S (fun s _ => p s) := fun _ _ _ h _ _ => h
end
/-- An iterator's promise: called later on, at whatever loop: with whatever hangs on what lay there, and on the cells that S names, alone, it calls the rounds one after the other; what a round may turn is Kc S. -/
def SeqC {α : Type} (F : Fence) (n : Nat) (P : Program) (g : Nat) (lb : Array Value) (encs : α → Array Value) (S : World → Nat → Prop) (Sd Sp : List α → Prop) (N : Nat) (w : World) : Prop :=
  ∀ (l : Nat) (J Jx : List α → World → Prop) (W : World), Below w.heap.size w W → Calm W.heap.size S J → Calm W.heap.size S Jx →
    (∀ pre x W1, J pre W1 → pre.length < N → YieldAt F (n - 1) P l (encs x) W1 fun e W' =>
      (e = .returned (.bool true) ∧ J (pre ++ [x]) W' ∧ Kc S W1 W') ∨ (e = .returned (.bool false) ∧ Jx (pre ++ [x]) W')) →
    J [] W →
    CallsIn F n P g (#[.func (.yield l) #[] #[]] ++ lb) W fun e W' => (∃ v, e = .returned v) ∧ ((∃ xs, Sd xs ∧ J xs W') ∨ (∃ pre, Sp pre ∧ Jx pre W'))
/-- The two blocks of a loop's own. -/
structure Books (d l : Nat) (r : Loop) (W : World) : Prop where
  lo : W.heap[l]? = some (.loop r)
  de : W.heap[d]? = some (.deferred (some []))
theorem Books.turn {d l : Nat} {r r' : Loop} {W : World} (h : Books d l r W) (hne : d ≠ l) : Books d l r' (W.putObj l (.loop r')) :=
  ⟨World.putObj_heap_same (Array.getElem?_eq_some_iff.1 h.lo).1, (World.putObj_heap_other hne).trans h.de⟩
theorem Books.kept {d l B : Nat} {r : Loop} {W W' : World} (h : Books d l r W) (k : KeepsFrom B W W') (h1 : B ≤ d) (h2 : B ≤ l) : Books d l r W' :=
  ⟨k.same l _ h2 h.lo rfl, k.same d _ h1 h.de rfl⟩
theorem Books.calm {β : Type} {d l B : Nat} {S : World → Nat → Prop} {r : Loop} (h1 : d < B) (h2 : l < B) : Calm B S (fun (_ : β) W => Books d l r W) := fun _ A C hj b _ => ⟨(b.block l h2).trans hj.lo, (b.block d h1).trans hj.de⟩
section
variable {α : Type} {P : Program} {n : Nat} {g : Operand} {ps : Array Tmp} {assign body : Code} {Q : Exit → Act → World → Prop} {a : Act} {w : World} {gf : Nat} {lb : Array Value} {encs : α → Array Value} {S : World → Nat → Prop} {Sd Sp : List α → Prop} {N : Nat}
/-- What a round leaves, whichever way it goes. -/
def WaysC (w : World) (S : World → Nat → Prop) (I : List α → World → Prop) (Ix : Code → List α → World → Prop) (xs : List α) (W : World) : Exit → Act → World → Prop := ownPostG w.heap.size (Kc S) I Ix xs W
/-- The rule: a range over such an iterator, in no other such loop. -/
theorem range_calm (h1 : 1 ≤ n) (hg : a.eval g = .func (.func gf) #[] lb) (eg : ∀ args w, (callFunc gf args).run P w = .ok (.enter gf args) w) (st : Still S w.heap.size)
    (hseq : SeqC Fence.wide (n - 1) P gf lb encs S Sd Sp N w) (hps : ∀ x, (encs x).size = ps.size)
    (I : List α → World → Prop) (Ix : Code → List α → World → Prop) (hI : Calm w.heap.size S I) (hIx : ∀ c, Calm w.heap.size S (Ix c)) (h0 : I [] w)
    (Ax : α → Act → World → Prop) (hAx : ∀ x a' W (l : Nat) (o o' : Obj), Ax x a' W → w.heap.size ≤ l → W.heap[l]? = some o → o.isCells = false → Ax x a' (W.putObj l o'))
    (hassign : ∀ (l : Nat) (pre : List α) (x : α) (W : World) (K : Act → World → Prop), I pre W → (∀ a' W', KeepsFrom w.heap.size W W' → Kc S W W' → I pre W' → Ax x a' W' → K a' W') →
      assign.wpIn (Fence.wide.inRound l) (n - 1 - 1) P (Exit.then K (fun _ _ _ => False)) { tmps := (ps.zip (encs x)).foldl (fun t (p, v) => t.setIfInBounds p v) a.tmps, defers := [] } W)
    (hbody : ∀ (l : Nat) (pre : List α) (x : α) (a' : Act) (W : World), w.heap.size ≤ l → (∃ r, W.heap[l]? = some (.loop r)) → I pre W → Ax x a' W → pre.length < N → body.wpIn (Fence.wide.inRound l) (n - 1 - 1) P (ownPostG w.heap.size (Kc S) I Ix (pre ++ [x]) W) a' W)
    (hdone : ∀ (D : Nat) (xs : List α) (W : World), w.heap.size ≤ D → Sd xs → I xs W → W.heap[D]? = some (.deferred (some [])) → Q .normal { a with defers := { target := .collected D, args := #[] } :: a.defers } W)
    (hstop : ∀ (D : Nat) (c : Code) (pre : List α) (W : World), w.heap.size ≤ D → Sp pre → Ix c pre W → W.heap[D]? = some (.deferred (some [])) → c.wpIn Fence.wide n P Q { a with defers := { target := .collected D, args := #[] } :: a.defers } W) :
    (Code.rangeFunc g ps assign body).wpIn Fence.wide n P Q a w := by
  refine wpIn_rangeFunc fun fn hfn => ?_
  show ∃ l mark w₁ d w₁' f args w₂, (Instr.enterLoop fn a.tmps ps assign body none).run P w = .ok (l, mark) w₁ ∧ _
  obtain ⟨R, hR⟩ : ∃ R : LoopState → Option Code → Loop, R = fun st pe => { state := st, pending := pe, fn, tmps := a.tmps, params := ps, assign, body, defers := w.heap.size } := ⟨_, rfl⟩
  obtain ⟨V, hV⟩ : ∃ V, (w.alloc (.deferred (some []))).alloc (.loop (R .ready none)) = V := ⟨_, rfl⟩
  have bk : Books w.heap.size (w.heap.size + 1) (R .ready none) V := by
    rw [← hV]
    exact ⟨heap_alloc2_new w _ _, heap_alloc2_old w _ _⟩
  have bV : Below w.heap.size w V := by rw [← hV]; exact ((Below.refl _ w).alloc (Nat.le_refl _) _).alloc (by simp) _
  have sV : V.heap.size = w.heap.size + 2 := by rw [← hV]; simp
  have iV : I [] V := hI.grow (Nat.le_refl _) bV h0
  refine ⟨w.heap.size + 1, [{ target := .collected w.heap.size, args := #[] }], V, { target := .fn (.func gf) lb, args := #[.func (.yield (w.heap.size + 1)) #[] #[]] }, V, gf, #[.func (.yield (w.heap.size + 1)) #[] #[]] ++ lb, V, ?_, ?_, fun _ _ => trivial, ?_, fun _ => h1, ?_⟩
  · rw [← hV, hR]; exact run_enterLoop_outer _ _ _ _ _
  · simp only [resolve, hg]
    simp [go_sem]
  · simp [invoke, go_sem, eg]
  have up : w.heap.size ≤ V.heap.size := bV.size
  have hd : w.heap.size < V.heap.size := by omega
  have hl : w.heap.size + 1 < V.heap.size := by omega
  have ne : w.heap.size ≠ w.heap.size + 1 := by omega
  refine (hseq (w.heap.size + 1)
    (fun pre W => I pre W ∧ Books w.heap.size (w.heap.size + 1) (R .ready none) W)
    (fun pre W => ∃ c, Ix c pre W ∧ Books w.heap.size (w.heap.size + 1) (R .done (some c)) W)
    V bV ((hI.up up).and (Books.calm hd hl))
    (fun s A C hj b k => by
      obtain ⟨c, h2, h3⟩ := hj
      exact ⟨c, (hIx c).up up s A C h2 b k, Books.calm (S := S) (β := List α) hd hl s A C h3 b k⟩)
    ?_ ⟨iV, bk⟩).mono ?_
  · rintro pre x W ⟨hi, hb⟩ hlen
    have hy := run_yield (P := P) (args := encs x) hb.lo (by rw [hR]; exact hps x)
    rw [hR] at hy
    refine ⟨fn, _, assign, body, hy, roundIn_of_wpIn hfn (hassign _ pre x W _ hi ?_)⟩
    clear hy
    intro a' Wa ka kc ia ax
    have ba := hb.kept ka (Nat.le_refl _) (by omega)
    have kb := Kc.put (W := Wa) (o' := .loop { R .ready none with state := .busy }) st (show w.heap.size ≤ w.heap.size + 1 by omega) ba.lo rfl
    have bb : Books w.heap.size (w.heap.size + 1) { R .ready none with state := .busy } (Wa.putObj (w.heap.size + 1) (.loop { R .ready none with state := .busy })) := ba.turn ne
    refine ⟨_, run_beginRound ba.lo (by rw [hR]), ?_⟩
    refine wpIn_mono (hbody _ pre x a' _ (by omega) ⟨_, bb.lo⟩ (hI.put _ (by omega) ba.lo rfl ia) (hAx x a' _ _ _ _ ax (by omega) ba.lo rfl) hlen) ?_
    have fin : ∀ (jump : Option Code) (W3 : World), KeepsFrom w.heap.size (Wa.putObj (w.heap.size + 1) (.loop { R .ready none with state := .busy })) W3 →
        ∃ r0 : Loop, W3.heap[w.heap.size + 1]? = some (.loop r0) ∧ (Instr.endRound (w.heap.size + 1) jump).run P W3 = .ok (.bool jump.isNone) (W3.putObj (w.heap.size + 1) (.loop (R (if jump.isNone then .ready else .done) jump))) ∧
        Books w.heap.size (w.heap.size + 1) (R (if jump.isNone then .ready else .done) jump) (W3.putObj (w.heap.size + 1) (.loop (R (if jump.isNone then .ready else .done) jump))) := fun jump W3 k3 => by
      have b3 := bb.kept k3 (Nat.le_refl _) (by omega)
      have e := run_endRound (P := P) jump b3.lo
      rw [hR] at e ⊢
      refine ⟨_, b3.lo, e, ?_⟩
      rw [hR] at b3
      exact b3.turn ne
    rintro e a3 W3 hp
    cases e with
    | normal =>
      obtain ⟨k3, c3, i3⟩ := hp
      obtain ⟨r0, l3, e3, b4⟩ := fin none W3 k3
      exact ⟨_, _, e3, .inl ⟨rfl, ⟨hI.put _ (by omega) l3 rfl i3, b4⟩, kc.trans (kb.trans (c3.trans (Kc.put st (by omega) l3 rfl)))⟩⟩
    | ret =>
      obtain ⟨k3, i3⟩ := hp
      obtain ⟨r0, l3, e3, b4⟩ := fin (some .ret) W3 k3
      exact ⟨_, _, e3, .inr ⟨rfl, _, (hIx _).put _ (by omega) l3 rfl i3, b4⟩⟩
    | exit id =>
      obtain ⟨k3, i3⟩ := hp
      obtain ⟨r0, l3, e3, b4⟩ := fin (some (.exit id)) W3 k3
      exact ⟨_, _, e3, .inr ⟨rfl, _, (hIx _).put _ (by omega) l3 rfl i3, b4⟩⟩
    | goto t =>
      obtain ⟨k3, i3⟩ := hp
      obtain ⟨r0, l3, e3, b4⟩ := fin (some (.goto t)) W3 k3
      exact ⟨_, _, e3, .inr ⟨rfl, _, (hIx _).put _ (by omega) l3 rfl i3, b4⟩⟩
    | panic ch => exact hp.elim
    | outgrown => exact hp.elim
  · rintro e W2 ⟨⟨v, rfl⟩, (⟨xs, hS, hi, hb⟩ | ⟨pre, hS, c, hi, hb⟩)⟩
    · refine ⟨none, _, by have := run_endLoop (P := P) hb.lo (by rw [hR]; simp); rw [hR] at this; exact this, hdone _ xs _ (Nat.le_refl _) hS (hI.put _ (by omega) hb.lo rfl hi) ((World.putObj_heap_other ne).trans hb.de)⟩
    · refine ⟨some c, _, by have := run_endLoop (P := P) hb.lo (by rw [hR]; simp); rw [hR] at this; exact this, hstop _ c pre _ (Nat.le_refl _) hS ((hIx c).put _ (by omega) hb.lo rfl hi) ((World.putObj_heap_other ne).trans hb.de)⟩
end
end Go.Proofs.Ytdcjgcjnfcahkaa
/- What is asked of the program's own side, and the orders as they stand in it. -/
namespace Go.Proofs.Ytdcjgcjnfcahkaa
open Go.RowKit Go.Shelf
set_option linter.unusedVariables false

/-- Orders as they stand in a side. -/
structure InvO (buy : Bool) (os : List Or) : Prop where
  ok : ∀ x, x ∈ os → x.ok
  may : ∀ x, x ∈ os → mayO x = true ∧ x.bu = buy
  dis : Dis os
  srt : Srt buy os
  len : os.length ≤ 100
theorem InvO.nil (buy : Bool) : InvO buy [] := ⟨fun x h => by simp at h, fun x h => by simp at h, List.Pairwise.nil, List.Pairwise.nil, Nat.zero_le _⟩
theorem ins_dis {buy : Bool} {o : Or} : ∀ {l : List Or}, Dis l → (∀ y, y ∈ l → y.nu ≠ o.nu) → Dis (insO buy o l)
  | [], _, _ => List.pairwise_singleton _ _
  | x :: r, h, hn => by
    obtain ⟨h1, h2⟩ := List.pairwise_cons.1 h
    unfold insO
    split
    · exact List.pairwise_cons.2 ⟨fun y hy e => hn y hy e.symm, h⟩
    · refine List.pairwise_cons.2 ⟨fun y hy => ?_, ins_dis h2 fun y hy => hn y (List.mem_cons_of_mem _ hy)⟩
      rcases ins_mem.1 hy with rfl | q
      · exact hn x (List.mem_cons_self ..)
      · exact h1 y q
theorem srt_map {buy : Bool} {l : List Or} (f : Or → Or) (hf : ∀ x, (f x).pr = x.pr) (h : Srt buy l) : Srt buy (l.map f) := by
  refine List.pairwise_map.2 (h.imp fun {a b} hab => ?_)
  rw [hf, hf]; exact hab
theorem find_mem {os : List Or} {n : Int} {x : Or} (h : findO os n = some x) : x ∈ os ∧ x.nu = n :=
  ⟨List.mem_of_find?_eq_some h, by have := List.find?_some h; exact beq_iff_eq.1 this⟩
theorem find_not {os : List Or} {n : Int} (h : findO os n = none) : ∀ y, y ∈ os → y.nu ≠ n := fun y hy e => List.find?_eq_none.1 h y hy (beq_iff_eq.2 e)
section
variable {buy : Bool} {os : List Or} {o : Or} {n left : Int}
theorem InvO.add (h : InvO buy os) (ok : o.ok) : InvO buy (addO buy os o) := by
  unfold addO
  split
  case isFalse => exact h
  case isTrue e =>
    unfold addA at e
    split at e
    · cases e
    · rename_i c1
      split at e
      · cases e
      · rename_i c2
        split at e
        · cases e
        · rename_i c3
          have hm := Bool.and_eq_true_iff.1 (by simpa using c1 : (mayO o && o.bu == buy) = true)
          have hf : findO os o.nu = none := by
            cases hf : findO os o.nu with
            | none => rfl
            | some x => exact absurd (by rw [hf]; rfl) c2
          refine ⟨fun x hx => ?_, fun x hx => ?_, ins_dis h.dis (find_not hf), ins_srt h.srt, by rw [insO_len]; omega⟩
          · rcases ins_mem.1 hx with rfl | q
            · exact ok
            · exact h.ok x q
          · rcases ins_mem.1 hx with rfl | q
            · exact ⟨hm.1, beq_iff_eq.1 hm.2⟩
            · exact h.may x q
theorem InvO.tail {x : Or} {r : List Or} (h : InvO buy (x :: r)) : InvO buy r :=
  ⟨fun y hy => h.ok y (List.mem_cons_of_mem _ hy), fun y hy => h.may y (List.mem_cons_of_mem _ hy), (List.pairwise_cons.1 h.dis).2, (List.pairwise_cons.1 h.srt).2, by have := h.len; simp at this; omega⟩
theorem InvO.drop (h : InvO buy os) : InvO buy (dropO os n) :=
  ⟨fun y hy => h.ok y (List.mem_filter.1 hy).1, fun y hy => h.may y (List.mem_filter.1 hy).1, h.dis.filter _, h.srt.filter _, Nat.le_trans (List.length_filter_le _ _) h.len⟩
theorem InvO.fill (h : InvO buy os) : InvO buy (fillO os n) := by
  cases os with
  | nil => exact h
  | cons x r =>
    show InvO buy (if n < 1 ∨ x.le < n then x :: r else if x.le - n = 0 then r else x.wi (x.le - n) :: r)
    split
    · exact h
    · rename_i c
      split
      · exact h.tail
      · have t := h.tail
        have hx := may_le (h.may x (List.mem_cons_self ..)).1
        have hle := (h.ok x (List.mem_cons_self ..)).le
        refine ⟨fun y hy => ?_, fun y hy => ?_, (show Dis (x.wi (x.le - n) :: r) from List.pairwise_cons.2 ⟨(List.pairwise_cons.1 h.dis).1, t.dis⟩), (show Srt buy (x.wi (x.le - n) :: r) from List.pairwise_cons.2 ⟨(List.pairwise_cons.1 h.srt).1, t.srt⟩), h.len⟩
        · rcases List.mem_cons.1 hy with rfl | q
          · exact wi_ok (h.ok x (List.mem_cons_self ..)) ⟨by omega, by omega⟩
          · exact t.ok y q
        · rcases List.mem_cons.1 hy with rfl | q
          · have := h.may x (List.mem_cons_self ..)
            exact ⟨may_wi this.1 (by omega) (by omega), this.2⟩
          · exact t.may y q
theorem InvO.low (h : InvO buy os) : InvO buy (lowO os n left) := by
  unfold lowO
  split
  case isFalse => exact h
  case isTrue e =>
    unfold lowA at e
    cases hf : findO os n with
    | none => rw [hf] at e; cases e
    | some x =>
      rw [hf] at e
      obtain ⟨hx, hxn⟩ := find_mem hf
      have hc : ¬ (left < 1 ∨ x.le < left) := fun c => by
        have : lowE x left = 2 := if_pos c
        rw [show lowE x left = 0 from e] at this
        cases this
      have hle := may_le (h.may x hx).1
      have one : ∀ z, z ∈ os → z.nu = n → z = x := fun z hz c => dis_uniq h.dis hz hx (c.trans hxn.symm)
      refine ⟨fun y hy => ?_, fun y hy => ?_, dis_map _ (fun z => wi_nu _ z left) h.dis, srt_map _ (fun z => wi_pr _ z left) h.srt, by rw [List.length_map]; exact h.len⟩
      · obtain ⟨z, hz, rfl⟩ := List.mem_map.1 hy
        split
        · exact wi_ok (h.ok z hz) ⟨by omega, by omega⟩
        · exact h.ok z hz
      · obtain ⟨z, hz, rfl⟩ := List.mem_map.1 hy
        split
        · rename_i c
          have := one z hz c
          subst this
          exact ⟨may_wi (h.may z hz).1 (by omega) (by omega), (h.may z hz).2⟩
        · exact h.may z hz
end

/-- The program's side in memory: its blocks, where it lies, whether it buys, its orders in their order, a number that is at least as great as the number of those that came. -/
abbrev PdT := World → (Nat → Prop) → Nat → Bool → List Or → Nat → Prop
abbrev OkOr := { x : Or // x.ok }
def valsO (l : List OkOr) : List Or := l.map (·.1)
theorem valsO_snoc (l : List OkOr) (x : OkOr) : valsO (l ++ [x]) = valsO l ++ [x.1] := by simp [valsO]
theorem valsO_len (l : List OkOr) : (valsO l).length = l.length := by simp [valsO]
/-- Behind a call on it. -/
def AftO (Pd : PdT) (w : World) (F : Nat → Prop) (g : Nat) (buy : Bool) (os : List Or) (t : Nat) (w' : World) : Prop := ∃ F', Pd w' F' g buy os t ∧ Fr F w w' ∧ ∀ k, F' k → F k ∨ w.heap.size ≤ k
/-- A value that All answers, ranged over, tells the orders. -/
def TellsO (W : World) (T : Nat → Prop) (gf : Nat) (lb : Array Value) (os : List Or) : Prop :=
  ∀ (W2 : World) (S : World → Nat → Prop) (n : Nat), Fr (fun k => ¬ T k) W W2 → Still S W2.heap.size → (∀ k, S W2 k → k < W2.heap.size) → (∀ k, T k → ¬ S W2 k) → 3 ≤ n →
    SeqC Fence.wide n Try.prog gf lb (fun x : OkOr => #[.agg (EO.cells x.1).toArray]) S (fun ys => valsO ys = os) (fun pre => valsO pre <+: os) os.length W2
def AllO (w : World) (F : Nat → Prop) (os : List Or) (e : Ending) (w' : World) : Prop :=
  ∃ gf lb T, e = .returned (.func (.func gf) #[] lb) ∧ Below w.heap.size w w' ∧ Enters Try.prog gf ∧ (∀ k, T k → k < w'.heap.size ∧ (F k ∨ w.heap.size ≤ k)) ∧ TellsO w' T gf lb os
/-- A side that is not there, or a zero one. -/
def Ns (zs : Array Value) (w : World) (p : Option Addr) : Prop := p = none ∨ ∃ g, p = some ⟨g, 0, none⟩ ∧ w.heap[g]? = some (.cells zs 85 (0, 0))
abbrev U64' (n : Int) : Prop := 0 ≤ n ∧ n ≤ 18446744073709551615
structure SideK (Pd : PdT) (zs : Array Value) : Prop where
  lt : ∀ {w F g buy os t}, Pd w F g buy os t → ∀ k, F k → k < w.heap.size
  inv : ∀ {w F g buy os t}, Pd w F g buy os t → InvO buy os
  more : ∀ {w F g buy os t t'}, Pd w F g buy os t → t ≤ t' → Pd w F g buy os t'
  keep : ∀ {w w' F g buy os t S}, Pd w F g buy os t → Fr S w w' → (∀ k, F k → ¬ S k) → Pd w' F g buy os t
  may : ∀ {w} {o : Or}, o.ok → Calls Try.prog 45 #[.agg (EO.cells o).toArray] w fun e w' => e = .returned (.bool (mayO o)) ∧ Below w.heap.size w w'
  new : ∀ (w : World) (buy : Bool), Calls Try.prog 28 #[.bool buy] w fun e w' => ∃ g F, e = .returned (.pointer (some ⟨g, 0, none⟩)) ∧ Pd w' F g buy [] 0 ∧ Below w.heap.size w w' ∧ ∀ k, F k → w.heap.size ≤ k
  add : ∀ {w F g buy os t} {o : Or}, Pd w F g buy os t → o.ok → t < 1000000000 → Calls Try.prog 44 #[.pointer (some ⟨g, 0, none⟩), .agg (EO.cells o).toArray] w fun e w' => e = .returned (.int .i64 (addA buy os o)) ∧ AftO Pd w F g buy (addO buy os o) (t + 1) w'
  fill : ∀ {w F g buy os t} {n : Int}, Pd w F g buy os t → I64' n → Calls Try.prog 68 #[.pointer (some ⟨g, 0, none⟩), .int .i64 n] w fun e w' => e = .returned (.tuple #[.agg (EO.cells (fillX os n)).toArray, .int .i64 (fillA os n)]) ∧ AftO Pd w F g buy (fillO os n) t w'
  drop : ∀ {w F g buy os t} {n : Int}, Pd w F g buy os t → U64' n → Calls Try.prog 33 #[.pointer (some ⟨g, 0, none⟩), .int .u64 n] w fun e w' => e = .returned (.tuple #[.agg (EO.cells (getX os n)).toArray, .int .i64 (getA os n)]) ∧ AftO Pd w F g buy (dropO os n) t w'
  low : ∀ {w F g buy os t} {n left : Int}, Pd w F g buy os t → U64' n → I64' left → Calls Try.prog 46 #[.pointer (some ⟨g, 0, none⟩), .int .u64 n, .int .i64 left] w fun e w' => e = .returned (.int .i64 (lowA os n left)) ∧ AftO Pd w F g buy (lowO os n left) t w'
  get : ∀ {w F g buy os t} {n : Int}, Pd w F g buy os t → U64' n → Calls Try.prog 47 #[.pointer (some ⟨g, 0, none⟩), .int .u64 n] w fun e w' => e = .returned (.tuple #[.agg (EO.cells (getX os n)).toArray, .int .i64 (getA os n)]) ∧ Below w.heap.size w w'
  reach : ∀ {w F g buy os t} {p nt : Int}, Pd w F g buy os t → I64' p → 0 ≤ nt ∧ nt ≤ 4294967295 → Calls Try.prog 64 #[.pointer (some ⟨g, 0, none⟩), .int .i64 p, .int .u32 nt] w fun e w' => e = .returned (.int .i64 (sumR buy os p nt)) ∧ Below w.heap.size w w'
  best : ∀ {w F g buy os t}, Pd w F g buy os t → Calls Try.prog 66 #[.pointer (some ⟨g, 0, none⟩)] w fun e w' => e = .returned (.tuple #[.agg (EO.cells (os.headD zeroOr)).toArray, .bool (!os.isEmpty)]) ∧ Below w.heap.size w w'
  len : ∀ {w F g buy os t}, Pd w F g buy os t → Calls Try.prog 65 #[.pointer (some ⟨g, 0, none⟩)] w fun e w' => e = .returned (.int .i64 os.length) ∧ Below w.heap.size w w'
  all : ∀ {w F g buy os t}, Pd w F g buy os t → Calls Try.prog 51 #[.pointer (some ⟨g, 0, none⟩)] w (AllO w F os)
  copy : ∀ {w F g buy os t}, Pd w F g buy os t → Calls Try.prog 30 #[.pointer (some ⟨g, 0, none⟩)] w fun e w' => ∃ g2 F2, e = .returned (.pointer (some ⟨g2, 0, none⟩)) ∧ Pd w' F2 g2 buy os t ∧ Below w.heap.size w w' ∧ ∀ k, F2 k → w.heap.size ≤ k
  zero : ∀ w, (zeroValue 85).run Try.prog w = .ok (.agg zs) w
  nAdd : ∀ {w p} {o : Or}, o.ok → Ns zs w p → Calls Try.prog 44 #[.pointer p, .agg (EO.cells o).toArray] w fun e w' => e = .returned (.int .i64 1) ∧ Below w.heap.size w w'
  nFill : ∀ {w p} {n : Int}, I64' n → Ns zs w p → Calls Try.prog 68 #[.pointer p, .int .i64 n] w fun e w' => (∃ x : Or, e = .returned (.tuple #[.agg (EO.cells x).toArray, .int .i64 1])) ∧ Below w.heap.size w w'
  nDrop : ∀ {w p} {n : Int}, U64' n → Ns zs w p → Calls Try.prog 33 #[.pointer p, .int .u64 n] w fun e w' => (∃ x : Or, e = .returned (.tuple #[.agg (EO.cells x).toArray, .int .i64 1])) ∧ Below w.heap.size w w'
  nLow : ∀ {w p} {n left : Int}, U64' n → I64' left → Ns zs w p → Calls Try.prog 46 #[.pointer p, .int .u64 n, .int .i64 left] w fun e w' => e = .returned (.int .i64 1) ∧ Below w.heap.size w w'
  nGet : ∀ {w p} {n : Int}, U64' n → Ns zs w p → Calls Try.prog 47 #[.pointer p, .int .u64 n] w fun e w' => (∃ x : Or, e = .returned (.tuple #[.agg (EO.cells x).toArray, .int .i64 1])) ∧ Below w.heap.size w w'
  nReach : ∀ {w p} {pr nt : Int}, I64' pr → 0 ≤ nt ∧ nt ≤ 4294967295 → Ns zs w p → Calls Try.prog 64 #[.pointer p, .int .i64 pr, .int .u32 nt] w fun e w' => e = .returned (.int .i64 0) ∧ Below w.heap.size w w'
  nBest : ∀ {w p}, Ns zs w p → Calls Try.prog 66 #[.pointer p] w fun e w' => e = .returned (.tuple #[.agg (EO.cells zeroOr).toArray, .bool false]) ∧ Below w.heap.size w w'
  nLen : ∀ {w p}, Ns zs w p → Calls Try.prog 65 #[.pointer p] w fun e w' => e = .returned (.int .i64 0) ∧ Below w.heap.size w w'
  nAll : ∀ {w p}, Ns zs w p → Calls Try.prog 51 #[.pointer p] w (AllO w (fun k => p = some ⟨k, 0, none⟩) [])
  nCopy : ∀ {w p}, Ns zs w p → Calls Try.prog 30 #[.pointer p] w fun e w' => e = .returned (.pointer none) ∧ Below w.heap.size w w'
section
variable {Pd : PdT} {zs : Array Value} {w w' : World} {F : Nat → Prop} {g : Nat} {buy : Bool} {os os' : List Or} {t : Nat}
theorem AftO.same (h : Pd w F g buy os t) : AftO Pd w F g buy os t w := ⟨F, h, Fr.refl _ _, fun _ h => .inl h⟩
theorem AftO.below (K : SideK Pd zs) (h : Pd w F g buy os t) (q : Below w.heap.size w w') : AftO Pd w F g buy os t w' :=
  ⟨F, K.keep (S := fun _ => False) h (Fr.below q) (fun _ _ h => h), Fr.below q, fun _ h => .inl h⟩
end
end Go.Proofs.Ytdcjgcjnfcahkaa
/- Plain facts on what a price reaches. -/
namespace Go.Proofs.Ytdcjgcjnfcahkaa
open Go.RowKit
set_option linter.unusedVariables false

section
variable {buy : Bool} {p nt : Int} {x : Or}
theorem one_worse (h : btr buy p x.pr = true) : oneR buy p nt x = 0 := by
  unfold oneR condR
  rw [btr_as h]
  have : (x.pr == p) = false := by
    rw [beq_eq_false_iff_ne]
    rintro rfl
    rw [btr_irr] at h
    cases h
  rw [this]
  simp
theorem one_good (h : btr buy p x.pr = false) : oneR buy p nt x = if x.ac != nt then x.le else 0 := by
  unfold oneR condR
  have : (x.pr == p || btr buy x.pr p) = true := by
    cases c : btr buy x.pr p
    · rw [btr_tot h c]; simp
    · simp
  rw [this, Bool.and_true]
end
theorem sumR_zero {buy : Bool} {p nt : Int} : ∀ {l : List Or}, (∀ x, x ∈ l → btr buy p x.pr = true) → sumR buy l p nt = 0
  | [], _ => rfl
  | x :: r, h => by
    have e : sumR buy (x :: r) p nt = oneR buy p nt x + sumR buy r p nt := by simp [sumR]
    rw [e, one_worse (h x (List.mem_cons_self ..)), sumR_zero fun y hy => h y (List.mem_cons_of_mem _ hy)]
    rfl
theorem sumR_app (buy : Bool) (p nt : Int) (a b : List Or) : sumR buy (a ++ b) p nt = sumR buy a p nt + sumR buy b p nt := by simp [sumR]
/-- Behind one that is worse than the price all are. -/
theorem sumR_stop {buy : Bool} {os : List Or} {p nt : Int} (s : Srt buy os) {k : Nat} {x : Or} (hx : os[k]? = some x) (hw : btr buy p x.pr = true) : sumR buy os p nt = sumR buy (os.take k) p nt := by
  have e := sumR_app buy p nt (os.take k) (os.drop k)
  rw [List.take_append_drop] at e
  rw [e, sumR_zero (l := os.drop k) fun y hy => ?_, Int.add_zero]
  obtain ⟨j, hj⟩ := List.mem_iff_getElem?.1 hy
  rw [List.getElem?_drop] at hj
  obtain ⟨hkl, hkg⟩ := List.getElem?_eq_some_iff.1 hx
  obtain ⟨hjl, hjg⟩ := List.getElem?_eq_some_iff.1 hj
  rcases Nat.eq_zero_or_pos j with rfl | c
  · have : x = y := by rw [← hkg, ← hjg]; rfl
    rw [← this]; exact hw
  · have q := List.pairwise_iff_getElem.1 s k (k + j) hkl hjl (by omega)
    rw [hkg, hjg] at q
    exact btr_tr hw q
end Go.Proofs.Ytdcjgcjnfcahkaa
