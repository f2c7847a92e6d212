/- What is asked of the program's own side, and the orders as they stand in it. -/
import Derived.Test.YtpnccbcaoifdiaaSw
import Derived.Test.YtpnccbcaoifdiaaFs
import Derived.RangeFuncNested
import Derived.RangeFuncBound
import Derived.RangeFuncCalls
import Derived.RangeFuncLeaves
import Derived.Shelf.Abstract
namespace Go.Proofs.Ytpnccbcaoifdiaa
open Go.RowKit Go.Shelf
set_option linter.unusedVariables false

/-- Orders as they stand in a side. -/
structure InvO (buy : Bool) (os : List Or) : Prop where
  ok : ∀ x, x ∈ os → x.ok
  may : ∀ x, x ∈ os → mayO x = true ∧ x.bu = buy
  dis : Dis os
  srt : Srt buy os
  len : os.length ≤ 100
theorem InvO.nil (buy : Bool) : InvO buy [] := ⟨fun x h => by simp at h, fun x h => by simp at h, List.Pairwise.nil, List.Pairwise.nil, Nat.zero_le _⟩
theorem ins_dis {buy : Bool} {o : Or} : ∀ {l : List Or}, Dis l → (∀ y, y ∈ l → y.nu ≠ o.nu) → Dis (insO buy o l)
  | [], _, _ => List.pairwise_singleton _ _
  | x :: r, h, hn => by
    obtain ⟨h1, h2⟩ := List.pairwise_cons.1 h
    unfold insO
    split
    · exact List.pairwise_cons.2 ⟨fun y hy e => hn y hy e.symm, h⟩
    · refine List.pairwise_cons.2 ⟨fun y hy => ?_, ins_dis h2 fun y hy => hn y (List.mem_cons_of_mem _ hy)⟩
      rcases ins_mem.1 hy with rfl | q
      · exact hn x (List.mem_cons_self ..)
      · exact h1 y q
theorem srt_map {buy : Bool} {l : List Or} (f : Or → Or) (hf : ∀ x, (f x).pr = x.pr) (h : Srt buy l) : Srt buy (l.map f) := by
  refine List.pairwise_map.2 (h.imp fun {a b} hab => ?_)
  rw [hf, hf]; exact hab
theorem find_mem {os : List Or} {n : Int} {x : Or} (h : findO os n = some x) : x ∈ os ∧ x.nu = n :=
  ⟨List.mem_of_find?_eq_some h, by have := List.find?_some h; exact beq_iff_eq.1 this⟩
theorem find_not {os : List Or} {n : Int} (h : findO os n = none) : ∀ y, y ∈ os → y.nu ≠ n := fun y hy e => List.find?_eq_none.1 h y hy (beq_iff_eq.2 e)
section
variable {buy : Bool} {os : List Or} {o : Or} {n left : Int}
theorem InvO.add (h : InvO buy os) (ok : o.ok) : InvO buy (addO buy os o) := by
  unfold addO
  split
  case isFalse => exact h
  case isTrue e =>
    unfold addA at e
    split at e
    · cases e
    · rename_i c1
      split at e
      · cases e
      · rename_i c2
        split at e
        · cases e
        · rename_i c3
          have hm := Bool.and_eq_true_iff.1 (by simpa using c1 : (mayO o && o.bu == buy) = true)
          have hf : findO os o.nu = none := by
            cases hf : findO os o.nu with
            | none => rfl
            | some x => exact absurd (by rw [hf]; rfl) c2
          refine ⟨fun x hx => ?_, fun x hx => ?_, ins_dis h.dis (find_not hf), ins_srt h.srt, by rw [insO_len]; omega⟩
          · rcases ins_mem.1 hx with rfl | q
            · exact ok
            · exact h.ok x q
          · rcases ins_mem.1 hx with rfl | q
            · exact ⟨hm.1, beq_iff_eq.1 hm.2⟩
            · exact h.may x q
theorem InvO.tail {x : Or} {r : List Or} (h : InvO buy (x :: r)) : InvO buy r :=
  ⟨fun y hy => h.ok y (List.mem_cons_of_mem _ hy), fun y hy => h.may y (List.mem_cons_of_mem _ hy), (List.pairwise_cons.1 h.dis).2, (List.pairwise_cons.1 h.srt).2, by have := h.len; simp at this; omega⟩
theorem InvO.drop (h : InvO buy os) : InvO buy (dropO os n) :=
  ⟨fun y hy => h.ok y (List.mem_filter.1 hy).1, fun y hy => h.may y (List.mem_filter.1 hy).1, h.dis.filter _, h.srt.filter _, Nat.le_trans (List.length_filter_le _ _) h.len⟩
theorem InvO.fill (h : InvO buy os) : InvO buy (fillO os n) := by
  cases os with
  | nil => exact h
  | cons x r =>
    show InvO buy (if n < 1 ∨ x.le < n then x :: r else if x.le - n = 0 then r else x.wi (x.le - n) :: r)
    split
    · exact h
    · rename_i c
      split
      · exact h.tail
      · have t := h.tail
        have hx := may_le (h.may x (List.mem_cons_self ..)).1
        have hle := (h.ok x (List.mem_cons_self ..)).le
        refine ⟨fun y hy => ?_, fun y hy => ?_, (show Dis (x.wi (x.le - n) :: r) from List.pairwise_cons.2 ⟨(List.pairwise_cons.1 h.dis).1, t.dis⟩), (show Srt buy (x.wi (x.le - n) :: r) from List.pairwise_cons.2 ⟨(List.pairwise_cons.1 h.srt).1, t.srt⟩), h.len⟩
        · rcases List.mem_cons.1 hy with rfl | q
          · exact wi_ok (h.ok x (List.mem_cons_self ..)) ⟨by omega, by omega⟩
          · exact t.ok y q
        · rcases List.mem_cons.1 hy with rfl | q
          · have := h.may x (List.mem_cons_self ..)
            exact ⟨may_wi this.1 (by omega) (by omega), this.2⟩
          · exact t.may y q
theorem InvO.low (h : InvO buy os) : InvO buy (lowO os n left) := by
  unfold lowO
  split
  case isFalse => exact h
  case isTrue e =>
    unfold lowA at e
    cases hf : findO os n with
    | none => rw [hf] at e; cases e
    | some x =>
      rw [hf] at e
      obtain ⟨hx, hxn⟩ := find_mem hf
      have hc : ¬ (left < 1 ∨ x.le < left) := fun c => by
        have : lowE x left = 2 := if_pos c
        rw [show lowE x left = 0 from e] at this
        cases this
      have hle := may_le (h.may x hx).1
      have one : ∀ z, z ∈ os → z.nu = n → z = x := fun z hz c => dis_uniq h.dis hz hx (c.trans hxn.symm)
      refine ⟨fun y hy => ?_, fun y hy => ?_, dis_map _ (fun z => wi_nu _ z left) h.dis, srt_map _ (fun z => wi_pr _ z left) h.srt, by rw [List.length_map]; exact h.len⟩
      · obtain ⟨z, hz, rfl⟩ := List.mem_map.1 hy
        split
        · exact wi_ok (h.ok z hz) ⟨by omega, by omega⟩
        · exact h.ok z hz
      · obtain ⟨z, hz, rfl⟩ := List.mem_map.1 hy
        split
        · rename_i c
          have := one z hz c
          subst this
          exact ⟨may_wi (h.may z hz).1 (by omega) (by omega), (h.may z hz).2⟩
        · exact h.may z hz
end

/-- The program's side in memory: its blocks, where it lies, whether it buys, its orders in their order, a number that is at least as great as the number of those that came. -/
abbrev PdT := World → (Nat → Prop) → Nat → Bool → List Or → Nat → Prop
abbrev OkOr := { x : Or // x.ok }
def valsO (l : List OkOr) : List Or := l.map (·.1)
theorem valsO_snoc (l : List OkOr) (x : OkOr) : valsO (l ++ [x]) = valsO l ++ [x.1] := by simp [valsO]
theorem valsO_len (l : List OkOr) : (valsO l).length = l.length := by simp [valsO]
/-- Behind a call on it. -/
def AftO (Pd : PdT) (w : World) (F : Nat → Prop) (g : Nat) (buy : Bool) (os : List Or) (t : Nat) (w' : World) : Prop := ∃ F', Pd w' F' g buy os t ∧ Fr F w w' ∧ ∀ k, F' k → F k ∨ w.heap.size ≤ k
/-- A value that All answers, ranged over, tells the orders. -/
def TellsO (W : World) (T : Nat → Prop) (gf : Nat) (lb : Array Value) (os : List Or) : Prop :=
  ∀ (W2 : World) (S : World → Nat → Prop) (n : Nat), Fr (fun k => ¬ T k) W W2 → Still S W2.heap.size → (∀ k, S W2 k → k < W2.heap.size) → (∀ k, T k → ¬ S W2 k) → 3 ≤ n →
    SeqC Fence.wide n Try.prog gf lb (fun x : OkOr => #[.agg (EO.cells x.1).toArray]) S (fun ys => valsO ys = os) (fun pre => valsO pre <+: os) os.length W2
def AllO (w : World) (F : Nat → Prop) (os : List Or) (e : Ending) (w' : World) : Prop :=
  ∃ gf lb T, e = .returned (.func (.func gf) #[] lb) ∧ Below w.heap.size w w' ∧ Enters Try.prog gf ∧ (∀ k, T k → k < w'.heap.size ∧ (F k ∨ w.heap.size ≤ k)) ∧ TellsO w' T gf lb os
/-- A side that is not there, or a zero one. -/
def Ns (zs : Array Value) (w : World) (p : Option Addr) : Prop := p = none ∨ ∃ g, p = some ⟨g, 0, none⟩ ∧ w.heap[g]? = some (.cells zs 51 (0, 0))
abbrev U64' (n : Int) : Prop := 0 ≤ n ∧ n ≤ 18446744073709551615
structure SideK (Pd : PdT) (zs : Array Value) : Prop where
  lt : ∀ {w F g buy os t}, Pd w F g buy os t → ∀ k, F k → k < w.heap.size
  inv : ∀ {w F g buy os t}, Pd w F g buy os t → InvO buy os
  more : ∀ {w F g buy os t t'}, Pd w F g buy os t → t ≤ t' → Pd w F g buy os t'
  keep : ∀ {w w' F g buy os t S}, Pd w F g buy os t → Fr S w w' → (∀ k, F k → ¬ S k) → Pd w' F g buy os t
  may : ∀ {w} {o : Or}, o.ok → Calls Try.prog 10 #[.agg (EO.cells o).toArray] w fun e w' => e = .returned (.bool (mayO o)) ∧ Below w.heap.size w w'
  new : ∀ (w : World) (buy : Bool), Calls Try.prog 8 #[.bool buy] w fun e w' => ∃ g F, e = .returned (.pointer (some ⟨g, 0, none⟩)) ∧ Pd w' F g buy [] 0 ∧ Below w.heap.size w w' ∧ ∀ k, F k → w.heap.size ≤ k
  add : ∀ {w F g buy os t} {o : Or}, Pd w F g buy os t → o.ok → t < 1000000000 → Calls Try.prog 12 #[.pointer (some ⟨g, 0, none⟩), .agg (EO.cells o).toArray] w fun e w' => e = .returned (.int .i64 (addA buy os o)) ∧ AftO Pd w F g buy (addO buy os o) (t + 1) w'
  fill : ∀ {w F g buy os t} {n : Int}, Pd w F g buy os t → I64' n → Calls Try.prog 14 #[.pointer (some ⟨g, 0, none⟩), .int .i64 n] w fun e w' => e = .returned (.tuple #[.agg (EO.cells (fillX os n)).toArray, .int .i64 (fillA os n)]) ∧ AftO Pd w F g buy (fillO os n) t w'
  drop : ∀ {w F g buy os t} {n : Int}, Pd w F g buy os t → U64' n → Calls Try.prog 16 #[.pointer (some ⟨g, 0, none⟩), .int .u64 n] w fun e w' => e = .returned (.tuple #[.agg (EO.cells (getX os n)).toArray, .int .i64 (getA os n)]) ∧ AftO Pd w F g buy (dropO os n) t w'
  low : ∀ {w F g buy os t} {n left : Int}, Pd w F g buy os t → U64' n → I64' left → Calls Try.prog 18 #[.pointer (some ⟨g, 0, none⟩), .int .u64 n, .int .i64 left] w fun e w' => e = .returned (.int .i64 (lowA os n left)) ∧ AftO Pd w F g buy (lowO os n left) t w'
  get : ∀ {w F g buy os t} {n : Int}, Pd w F g buy os t → U64' n → Calls Try.prog 20 #[.pointer (some ⟨g, 0, none⟩), .int .u64 n] w fun e w' => e = .returned (.tuple #[.agg (EO.cells (getX os n)).toArray, .int .i64 (getA os n)]) ∧ Below w.heap.size w w'
  reach : ∀ {w F g buy os t} {p nt : Int}, Pd w F g buy os t → I64' p → 0 ≤ nt ∧ nt ≤ 4294967295 → Calls Try.prog 22 #[.pointer (some ⟨g, 0, none⟩), .int .i64 p, .int .u32 nt] w fun e w' => e = .returned (.int .i64 (sumR buy os p nt)) ∧ Below w.heap.size w w'
  best : ∀ {w F g buy os t}, Pd w F g buy os t → Calls Try.prog 25 #[.pointer (some ⟨g, 0, none⟩)] w fun e w' => e = .returned (.tuple #[.agg (EO.cells (os.headD zeroOr)).toArray, .bool (!os.isEmpty)]) ∧ Below w.heap.size w w'
  len : ∀ {w F g buy os t}, Pd w F g buy os t → Calls Try.prog 28 #[.pointer (some ⟨g, 0, none⟩)] w fun e w' => e = .returned (.int .i64 os.length) ∧ Below w.heap.size w w'
  all : ∀ {w F g buy os t}, Pd w F g buy os t → Calls Try.prog 29 #[.pointer (some ⟨g, 0, none⟩)] w (AllO w F os)
  copy : ∀ {w F g buy os t}, Pd w F g buy os t → Calls Try.prog 24 #[.pointer (some ⟨g, 0, none⟩)] w fun e w' => ∃ g2 F2, e = .returned (.pointer (some ⟨g2, 0, none⟩)) ∧ Pd w' F2 g2 buy os t ∧ Below w.heap.size w w' ∧ ∀ k, F2 k → w.heap.size ≤ k
  zero : ∀ w, (zeroValue 51).run Try.prog w = .ok (.agg zs) w
  nAdd : ∀ {w p} {o : Or}, o.ok → Ns zs w p → Calls Try.prog 12 #[.pointer p, .agg (EO.cells o).toArray] w fun e w' => e = .returned (.int .i64 1) ∧ Below w.heap.size w w'
  nFill : ∀ {w p} {n : Int}, I64' n → Ns zs w p → Calls Try.prog 14 #[.pointer p, .int .i64 n] w fun e w' => (∃ x : Or, e = .returned (.tuple #[.agg (EO.cells x).toArray, .int .i64 1])) ∧ Below w.heap.size w w'
  nDrop : ∀ {w p} {n : Int}, U64' n → Ns zs w p → Calls Try.prog 16 #[.pointer p, .int .u64 n] w fun e w' => (∃ x : Or, e = .returned (.tuple #[.agg (EO.cells x).toArray, .int .i64 1])) ∧ Below w.heap.size w w'
  nLow : ∀ {w p} {n left : Int}, U64' n → I64' left → Ns zs w p → Calls Try.prog 18 #[.pointer p, .int .u64 n, .int .i64 left] w fun e w' => e = .returned (.int .i64 1) ∧ Below w.heap.size w w'
  nGet : ∀ {w p} {n : Int}, U64' n → Ns zs w p → Calls Try.prog 20 #[.pointer p, .int .u64 n] w fun e w' => (∃ x : Or, e = .returned (.tuple #[.agg (EO.cells x).toArray, .int .i64 1])) ∧ Below w.heap.size w w'
  nReach : ∀ {w p} {pr nt : Int}, I64' pr → 0 ≤ nt ∧ nt ≤ 4294967295 → Ns zs w p → Calls Try.prog 22 #[.pointer p, .int .i64 pr, .int .u32 nt] w fun e w' => e = .returned (.int .i64 0) ∧ Below w.heap.size w w'
  nBest : ∀ {w p}, Ns zs w p → Calls Try.prog 25 #[.pointer p] w fun e w' => e = .returned (.tuple #[.agg (EO.cells zeroOr).toArray, .bool false]) ∧ Below w.heap.size w w'
  nLen : ∀ {w p}, Ns zs w p → Calls Try.prog 28 #[.pointer p] w fun e w' => e = .returned (.int .i64 0) ∧ Below w.heap.size w w'
  nAll : ∀ {w p}, Ns zs w p → Calls Try.prog 29 #[.pointer p] w (AllO w (fun k => p = some ⟨k, 0, none⟩) [])
  nCopy : ∀ {w p}, Ns zs w p → Calls Try.prog 24 #[.pointer p] w fun e w' => e = .returned (.pointer none) ∧ Below w.heap.size w w'
section
variable {Pd : PdT} {zs : Array Value} {w w' : World} {F : Nat → Prop} {g : Nat} {buy : Bool} {os os' : List Or} {t : Nat}
theorem AftO.same (h : Pd w F g buy os t) : AftO Pd w F g buy os t w := ⟨F, h, Fr.refl _ _, fun _ h => .inl h⟩
theorem AftO.below (K : SideK Pd zs) (h : Pd w F g buy os t) (q : Below w.heap.size w w') : AftO Pd w F g buy os t w' :=
  ⟨F, K.keep (S := fun _ => False) h (Fr.below q) (fun _ _ h => h), Fr.below q, fun _ h => .inl h⟩
end
end Go.Proofs.Ytpnccbcaoifdiaa
