/- What is asked of the program's own calendar. -/
import Derived.Test.YtejhnfkljfdejaaKm
import Derived.Test.YtejhnfkljfdejaaKf
import Derived.Test.YtejhnfkljfdejaaKa
import Derived.RangeFuncNested
import Derived.RangeFuncBound
import Derived.RangeFuncCalls
import Derived.RangeFuncLeaves
import Derived.Shelf.Abstract
namespace Go.Proofs.Ytejhnfkljfdejaa
open Go.RowKit Go.Shelf
set_option linter.unusedVariables false

/-- The program's calendar in memory: its blocks, where it lies, the day, the contracts. -/
abbrev PcT := World → (Nat → Prop) → Nat → Int → List Ct → Prop
abbrev OkCt := { x : Ct // x.ok }
def vals (l : List OkCt) : List Ct := l.map (·.1)
theorem vals_snoc (l : List OkCt) (x : OkCt) : vals (l ++ [x]) = vals l ++ [x.1] := by simp [vals]
theorem vals_len (l : List OkCt) : (vals l).length = l.length := by simp [vals]
/-- Behind a call on it. -/
def Aft (Pc : PcT) (w : World) (F : Nat → Prop) (g : Nat) (d : Int) (cs : List Ct) (w' : World) : Prop := ∃ F', Pc w' F' g d cs ∧ Fr F w w' ∧ ∀ k, F' k → F k ∨ w.heap.size ≤ k
/-- What a round may turn: of the cells that are there those of S alone (S hangs on the world: a list that grows lies elsewhere then); what is new is its own. -/
def Kc (S : World → Nat → Prop) (A B : World) : Prop :=
  (∀ k, S A k → k < A.heap.size) → (∀ k, S B k → k < B.heap.size) ∧ (∀ k, S B k → S A k ∨ A.heap.size ≤ k) ∧ Below 0 A B ∧ ∀ k, k < A.heap.size → ¬ S A k → (∃ cs t f, A.heap[k]? = some (.cells cs t f)) → B.heap[k]? = A.heap[k]?
theorem Kc.trans {S : World → Nat → Prop} {A B C : World} (h : Kc S A B) (k : Kc S B C) : Kc S A C := fun wf => by
  obtain ⟨h1, h2, h3, h4⟩ := h wf
  obtain ⟨k1, k2, k3, k4⟩ := k h1
  refine ⟨k1, fun j hj => ?_, h3.trans k3, fun j hj hn hc => ?_⟩
  · rcases k2 j hj with c | c
    · exact h2 j c
    · exact .inr (Nat.le_trans h3.size c)
  · have e := h4 j hj hn hc
    refine (k4 j (Nat.lt_of_lt_of_le hj h3.size) (fun c => ?_) (by rw [e]; exact hc)).trans e
    rcases h2 j c with c | c
    · exact hn c
    · omega
/-- S is told by blocks below N. -/
def Still (S : World → Nat → Prop) (N : Nat) : Prop := ∀ A B : World, N ≤ A.heap.size → (∀ k, k < N → B.heap[k]? = A.heap[k]?) → ∀ k, S B k → S A k
theorem Still.const (S : Nat → Prop) (N : Nat) : Still (fun _ => S) N := fun _ _ _ _ _ h => h
theorem Kc.below {S : World → Nat → Prop} {N : Nat} (st : Still S N) {A B : World} (hN : N ≤ A.heap.size) (q : Below A.heap.size A B) : Kc S A B := fun wf =>
  have s := st A B hN (fun k hk => q.block k (by omega))
  ⟨fun k h => Nat.lt_of_lt_of_le (wf k (s k h)) q.size, fun k h => .inl (s k h), q.mono (Nat.zero_le _), fun k hk _ _ => q.block k hk⟩
theorem Kc.put {S : World → Nat → Prop} {N : Nat} (st : Still S N) {W : World} {l : Nat} {o o' : Obj} (hl : N ≤ l) (ho : W.heap[l]? = some o) (hc : o.isCells = false) : Kc S W (W.putObj l o') := fun wf => by
  have hlt := (Array.getElem?_eq_some_iff.1 ho).1
  have g := grownBy_putObj' W l o'
  have s := st W (W.putObj l o') (by omega) (fun k hk => g.block k (by omega) (fun e => by cases e; omega))
  refine ⟨fun k h => Nat.lt_of_lt_of_le (wf k (s k h)) g.size, fun k h => .inl (s k h), (Below.refl 0 W).grown g (Nat.zero_le _) (fun _ _ => Nat.zero_le _), fun _ hk _ ⟨cs, t, f, e⟩ => g.block _ hk (fun c => ?_)⟩
  cases c
  rw [e] at ho
  cases ho
  cases hc
theorem Kc.fr {S : Nat → Prop} {A B : World} (h : Fr S A B) : Kc (fun _ => S) A B := fun wf => ⟨fun k hk => Nat.lt_of_lt_of_le (wf k hk) h.size, fun k hk => .inl hk, h.b0, fun k hk hn _ => h.at' k hk hn⟩
/-- A variable, and the row that it holds. -/
def Sv (b : Nat) (A : World) (k : Nat) : Prop := k = b ∨ ∃ a n c, A.cell? ⟨b, 0, none⟩ = some (.slice (some a) n c) ∧ a.block = k
theorem Still.var {b N : Nat} (h : b < N) : Still (Sv b) N := fun A B _ hk k hs => by
  refine hs.imp id fun ⟨a, n, c, e, hb⟩ => ⟨a, n, c, ?_, hb⟩
  rw [← e]
  exact (World.cell?_of_block (hk b h)).symm
/-- A value that All answers, ranged over, tells the contracts; a round keeps all cells but those of S. -/
def Tells (W : World) (T : Nat → Prop) (gf : Nat) (lb : Array Value) (cs : List Ct) : Prop :=
  ∀ (W2 : World) (S : World → Nat → Prop) (n : Nat), Fr (fun k => ¬ T k) W W2 → Still S W2.heap.size → (∀ k, S W2 k → k < W2.heap.size) → (∀ k, T k → ¬ S W2 k) → 3 ≤ n →
    SeqStopsK Fence.wide n Try.prog gf lb (fun x : OkCt => #[.agg x.1.cells]) (Kc S) (fun ys => vals ys = cs) (fun pre => vals pre <+: cs) cs.length W2
def AllOk (w : World) (F : Nat → Prop) (cs : List Ct) (e : Ending) (w' : World) : Prop :=
  ∃ gf lb T, e = .returned (.func (.func gf) #[] lb) ∧ Below w.heap.size w w' ∧ Enters Try.prog gf ∧ (∀ k, T k → k < w'.heap.size ∧ (F k ∨ w.heap.size ≤ k)) ∧ Tells w' T gf lb cs
def nuOf (l : List Ct) (j : Nat) : Int := match l[j]? with | some y => y.sp.nu | none => 0
/-- What is asked of the contract at a place. -/
def condF (l : List Ct) (i : Nat) : Bool := match l[i]? with | none => true | some x => (decide (i = 0) || decide (nuOf l (i - 1) < x.sp.nu)) && mayB x.sp && decide (1 ≤ x.st ∧ x.st ≤ 3) && priceB x.sp x.pr
def fromA (l : List Ct) : Bool := decide (l.length ≤ 16) && (List.range l.length).all (condF l)
/-- A calendar that is not there, or a zero one. -/
def Nc (zc : Array Value) (w : World) (p : Option Addr) : Prop := p = none ∨ ∃ g, p = some ⟨g, 0, none⟩ ∧ w.heap[g]? = some (.cells zc 51 (0, 0))
structure CalK (Pc : PcT) (zc : Array Value) : Prop where
  lt : ∀ {w F g d cs}, Pc w F g d cs → ∀ k, F k → k < w.heap.size
  ok : ∀ {w F g d cs}, Pc w F g d cs → (∀ x, x ∈ cs → x.ok) ∧ cs.length ≤ 16 ∧ 0 ≤ d ∧ d ≤ 4294967295
  keep : ∀ {w w' F g d cs S}, Pc w F g d cs → Fr S w w' → (∀ k, F k → ¬ S k) → Pc w' F g d cs
  new : ∀ w, Calls Try.prog 8 #[] w fun e w' => ∃ g F, e = .returned (.pointer (some ⟨g, 0, none⟩)) ∧ Pc w' F g 0 [] ∧ Below w.heap.size w w' ∧ ∀ k, F k → w.heap.size ≤ k
  next : ∀ {w F g d cs}, Pc w F g d cs → Calls Try.prog 10 #[.pointer (some ⟨g, 0, none⟩)] w fun e w' => e = .returned (.int .i64 (nextA d)) ∧ Aft Pc w F g (nextD d) cs w'
  list : ∀ {w F g d cs} {s : Sp}, Pc w F g d cs → s.ok → Calls Try.prog 12 #[.pointer (some ⟨g, 0, none⟩), .agg s.cells] w fun e w' => e = .returned (.int .i64 (listA d cs s)) ∧ Aft Pc w F g d (listC d cs s) w'
  halt : ∀ {w F g d cs} {nu : Int} {on : Bool}, Pc w F g d cs → 0 ≤ nu ∧ nu ≤ 4294967295 → Calls Try.prog 14 #[.pointer (some ⟨g, 0, none⟩), .int .u32 nu, .bool on] w fun e w' => e = .returned (.int .i64 (alC cs nu).e) ∧ Aft Pc w F g d (haltC cs nu on) w'
  pub : ∀ {w F g d cs} {nu p : Int}, Pc w F g d cs → 0 ≤ nu ∧ nu ≤ 4294967295 → I64 p → Calls Try.prog 16 #[.pointer (some ⟨g, 0, none⟩), .int .u32 nu, .int .i64 p] w fun e w' => e = .returned (.int .i64 (pubA cs nu p)) ∧ Aft Pc w F g d (pubC cs nu p) w'
  due : ∀ {w F g d cs} {nu : Int}, Pc w F g d cs → 0 ≤ nu ∧ nu ≤ 4294967295 → Calls Try.prog 18 #[.pointer (some ⟨g, 0, none⟩), .int .u32 nu] w fun e w' => e = .returned (.int .i64 (dueA d cs nu)) ∧ Aft Pc w F g d cs w'
  exp : ∀ {w F g d cs} {nu : Int}, Pc w F g d cs → 0 ≤ nu ∧ nu ≤ 4294967295 → Calls Try.prog 20 #[.pointer (some ⟨g, 0, none⟩), .int .u32 nu] w fun e w' => e = .returned (.int .i64 (dueA d cs nu)) ∧ Aft Pc w F g d (expC d cs nu) w'
  get : ∀ {w F g d cs} {nu : Int}, Pc w F g d cs → 0 ≤ nu ∧ nu ≤ 4294967295 → Calls Try.prog 24 #[.pointer (some ⟨g, 0, none⟩), .int .u32 nu] w fun e w' => e = .returned (.tuple #[.agg (getC cs nu).cells, .int .i64 (getA cs nu)]) ∧ Aft Pc w F g d cs w'
  day : ∀ {w F g d cs}, Pc w F g d cs → Calls Try.prog 27 #[.pointer (some ⟨g, 0, none⟩)] w fun e w' => e = .returned (.int .u32 d) ∧ Below w.heap.size w w'
  all : ∀ {w F g d cs}, Pc w F g d cs → Calls Try.prog 28 #[.pointer (some ⟨g, 0, none⟩)] w (AllOk w F cs)
  copy : ∀ {w F g d cs}, Pc w F g d cs → Calls Try.prog 22 #[.pointer (some ⟨g, 0, none⟩)] w fun e w' => ∃ g2 F2, e = .returned (.pointer (some ⟨g2, 0, none⟩)) ∧ Pc w' F2 g2 d cs ∧ Below w.heap.size w w' ∧ ∀ k, F2 k → w.heap.size ≤ k
  fromT : ∀ {w A n c d} {l : List Ct}, RdC w A n l → (∀ x, x ∈ l → x.ok) → 0 ≤ d ∧ d ≤ 4294967295 → (A = none → c = 0) → n ≤ 100 → fromA l = true → Calls Try.prog 29 #[.int .u32 d, .slice A n c] w fun e w' => ∃ g F, e = .returned (.tuple #[.pointer (some ⟨g, 0, none⟩), .int .i64 0]) ∧ Pc w' F g d l ∧ Below w.heap.size w w' ∧ ∀ k, F k → w.heap.size ≤ k
  fromF : ∀ {w A n c d} {l : List Ct}, RdC w A n l → (∀ x, x ∈ l → x.ok) → 0 ≤ d ∧ d ≤ 4294967295 → (A = none → c = 0) → n ≤ 100 → fromA l = false → Calls Try.prog 29 #[.int .u32 d, .slice A n c] w fun e w' => e = .returned (.tuple #[.pointer none, .int .i64 2]) ∧ Below w.heap.size w w'
  zero : ∀ w, (zeroValue 51).run Try.prog w = .ok (.agg zc) w
  nNext : ∀ {w p} , Nc zc w p → Calls Try.prog 10 #[.pointer p] w fun e w' => e = .returned (.int .i64 1) ∧ Below w.heap.size w w'
  nList : ∀ {w p} {s : Sp} (_ : s.ok), Nc zc w p → Calls Try.prog 12 #[.pointer p, .agg s.cells] w fun e w' => e = .returned (.int .i64 1) ∧ Below w.heap.size w w'
  nHalt : ∀ {w p} {nu : Int} {on : Bool}, Nc zc w p → Calls Try.prog 14 #[.pointer p, .int .u32 nu, .bool on] w fun e w' => e = .returned (.int .i64 1) ∧ Below w.heap.size w w'
  nPub : ∀ {w p} {nu pr : Int}, Nc zc w p → Calls Try.prog 16 #[.pointer p, .int .u32 nu, .int .i64 pr] w fun e w' => e = .returned (.int .i64 1) ∧ Below w.heap.size w w'
  nDue : ∀ {w p} {nu : Int}, Nc zc w p → Calls Try.prog 18 #[.pointer p, .int .u32 nu] w fun e w' => e = .returned (.int .i64 1) ∧ Below w.heap.size w w'
  nExp : ∀ {w p} {nu : Int}, Nc zc w p → Calls Try.prog 20 #[.pointer p, .int .u32 nu] w fun e w' => e = .returned (.int .i64 1) ∧ Below w.heap.size w w'
  nDay : ∀ {w p} , Nc zc w p → Calls Try.prog 27 #[.pointer p] w fun e w' => e = .returned (.int .u32 0) ∧ Below w.heap.size w w'
  nCopy : ∀ {w p} , Nc zc w p → Calls Try.prog 22 #[.pointer p] w fun e w' => e = .returned (.pointer none) ∧ Below w.heap.size w w'
  nGet : ∀ {w p} {nu : Int}, Nc zc w p → Calls Try.prog 24 #[.pointer p, .int .u32 nu] w fun e w' => e = .returned (.tuple #[.agg zeroCt.cells, .int .i64 1]) ∧ Below w.heap.size w w'
  nAll : ∀ {w p}, Nc zc w p → Calls Try.prog 28 #[.pointer p] w (AllOk w (fun k => p = some ⟨k, 0, none⟩) [])
theorem Fr.out {w W : World} (h : Fr (fun _ => False) w W) : Below w.heap.size w W := ⟨h.b0.os, h.b0.tape, h.b0.output, h.b0.size, fun k hk => h.at' k hk id⟩
section
variable {Pc : PcT} {zc : Array Value} {w w' w'' : World} {F : Nat → Prop} {g : Nat} {d d' d'' : Int} {cs cs' cs'' : List Ct}
theorem Aft.same (h : Pc w F g d cs) : Aft Pc w F g d cs w := ⟨F, h, Fr.refl _ _, fun _ h => .inl h⟩
end
end Go.Proofs.Ytejhnfkljfdejaa
