/- The plain ledger: what each call answers and leaves; plain facts (the key's law alone speaks of the program's types). -/
import Derived.Test.YthnmpnepgagmmaaDa
import Derived.Test.YthnmpnepgagmmaaMa
namespace Go.Proofs.Ythnmpnepgagmmaa
open Go.RowKit Go.Shelf
open Go.Maps (Keyed)
set_option linter.unusedVariables false
set_option linter.unusedSimpArgs false
set_option linter.unusedSectionVars false

theorem wf9_u32 {x : Int} (h : 0 ≤ x ∧ x ≤ 4294967295) : (Lit.int .u32 x).wf = true := by
  simp [Lit.wf, IntKind.min, IntKind.max, IntKind.signed, IntKind.bits]
  omega
abbrev U32' (n : Int) : Prop := 0 ≤ n ∧ n ≤ 4294967295
theorem key_u32 {x : Int} (h : U32' x) : keyOf Try.prog 31 (.int .u32 x) = some (.int .u32 x) := Go.Maps.keyOf_int_mk Try.underlying31 (wf9_u32 h)
/-- Accounts by their numbers. -/
def MA : MapT Ac Int Try.prog 31 where
  key := Ac.nu
  kv n := .int .u32 n
  vv a := .agg (EA.cells a).toArray
  ok := U32'
  K := Go.Maps.int_keyed Try.underlying31
  lit c h := ⟨_, key_u32 h⟩
  inj c d h := by injection h
theorem laid9 : laidOutB Try.prog = true := by kernel_rfl
theorem wide9 : (match Try.prog.underlying 79 with | some (.array _ _) | some (.struct _) => true | _ => false) = true := by rw [Try.underlying79]
theorem row9 : (79 : TypeId) < Try.prog.types.size := of_decide_eq_true (by kernel_rfl)
theorem kta9 : Try.prog.keyTypeAt 3 79 = true := by kernel_rfl
theorem le9 : (3 : Nat) + 1 ≤ 10000 := by decide
set_option maxRecDepth 100000 in
theorem law9 : Go.WideMaps.KeyLaw Try.prog 79 := deep_law_laid (P := Try.prog) (k := 79) laid9 (m := 3) le9 row9 kta9 wide9
theorem key_place {c a : Int} (hc : U32' c) (ha : U32' a) : ∃ l, keyOf Try.prog 79 (.agg #[.int .u32 c, .int .u32 a]) = some l := by
  have h1 := wf9_u32 hc
  have h2 := wf9_u32 ha
  have c2 : Try.prog.cellsOf 79 = 2 := by kernel_rfl
  have c1 : Try.prog.cellsOf 31 = 1 := by kernel_rfl
  have kt : Try.prog.keyType 79 = true := by kernel_rfl
  obtain ⟨n, hn⟩ : ∃ n, Try.prog.types.size = n + 1 := ⟨Try.prog.types.size - 1, by
    have : 0 < Try.prog.types.size := of_decide_eq_true (by kernel_rfl)
    omega⟩
  have hk : Try.prog.keyLits (Try.prog.types.size + 1) 79 [.int .u32 c, .int .u32 a] = some [.int .u32 c, .int .u32 a] := by
    rw [hn]
    simp [Program.keyLits, Try.underlying79, Try.underlying31, c1, c2, h1, h2]
  have hf : (Value.agg #[.int .u32 c, .int .u32 a]).formed Try.prog 79 = true := by simp [Value.formed, Try.underlying79, c2]
  have hc : (Value.agg #[.int .u32 c, .int .u32 a]).cells.toList = [.int .u32 c, .int .u32 a] := by simp [Value.cells]
  simp only [keyOf, Try.underlying79, kt, hf, Bool.and_self, if_true, hc, hk, Option.map_some]
  exact ⟨_, rfl⟩
/-- Positions by contract and account. -/
def MP : MapT Po (Int × Int) Try.prog 79 where
  key p := (p.co, p.ac)
  kv c := .agg #[.int .u32 c.1, .int .u32 c.2]
  vv p := .agg (EP.cells p).toArray
  ok c := U32' c.1 ∧ U32' c.2
  K := Keyed.of_law law9
  lit c h := key_place h.1 h.2
  inj c d h := by
    obtain ⟨c1, c2⟩ := c
    obtain ⟨d1, d2⟩ := d
    injection h with h
    have := congrArg Array.toList h
    simp only [List.cons.injEq, Value.int.injEq, true_and, and_true] at this
    rw [this.1, this.2]
/-! Perm and finding. -/
section
variable {α κ : Type} [DecidableEq κ] {P : Program} {k : TypeId} {M : MapT α κ P k} {l l' : List α}
theorem dis_perm (p : l.Perm l') (d : l.Pairwise fun x y => M.key x ≠ M.key y) : l'.Pairwise fun x y => M.key x ≠ M.key y := (p.pairwise_iff fun h => Ne.symm h).1 d
theorem at_perm (p : l.Perm l') (d : l.Pairwise fun x y => M.key x ≠ M.key y) (c : κ) : M.at l c = M.at l' c := by
  cases h : M.at l' c with
  | none => exact at_none fun x hx => at_not h x (p.mem_iff.1 hx)
  | some y =>
    obtain ⟨h1, h2⟩ := at_inv h
    exact at_some d (p.mem_iff.2 h1) h2
theorem at_but {c d : κ} : M.at (M.but l c) d = if d = c then none else M.at l d := by
  split
  · rename_i e
    subst e
    exact at_none fun x hx => (mem_but.1 hx).2
  · rename_i hne
    induction l with
    | nil => rfl
    | cons x r ih =>
      unfold MapT.but MapT.at at *
      rw [List.filter_cons]
      split
      · rw [List.find?_cons, List.find?_cons]
        split
        · rfl
        · exact ih
      · rename_i hx
        rw [List.find?_cons]
        have hk : M.key x = c := by simpa using hx
        rw [hk, decide_eq_false (Ne.symm hne)]
        exact ih
theorem at_cons {x : α} {d : κ} : M.at (x :: l) d = if d = M.key x then some x else M.at l d := by
  unfold MapT.at
  rw [List.find?_cons]
  by_cases h : M.key x = d
  · rw [decide_eq_true h, if_pos h.symm]
  · rw [decide_eq_false h, if_neg (fun c => h c.symm)]
theorem but_dis {c : κ} (d : l.Pairwise fun x y => M.key x ≠ M.key y) : (M.but l c).Pairwise fun x y => M.key x ≠ M.key y := d.filter _
theorem cons_dis {x : α} (d : l.Pairwise fun x y => M.key x ≠ M.key y) : (x :: M.but l (M.key x)).Pairwise fun x y => M.key x ≠ M.key y :=
  List.pairwise_cons.2 ⟨fun y hy => (mem_but.1 hy).2.symm, but_dis d⟩
end
/-! One laid in its place. -/
/-- One laid in its place: behind all that are before it, in the place of those that are it. -/
def layF {α : Type} (ge ne : α → Bool) (a : α) : List α → Bool → List α
  | [], d => if d = true then [] else [a]
  | x :: r, d => (if (!d && ge x) = true then [a] else []) ++ ((if ne x = true then [x] else []) ++ layF ge ne a r (d || ge x))
theorem lay_nil {α : Type} (ge ne : α → Bool) (a : α) (d : Bool) : layF ge ne a [] d = if d = true then [] else [a] := rfl
theorem lay_cons {α : Type} (ge ne : α → Bool) (a x : α) (r : List α) (d : Bool) : layF ge ne a (x :: r) d = (if (!d && ge x) = true then [a] else []) ++ ((if ne x = true then [x] else []) ++ layF ge ne a r (d || ge x)) := rfl
theorem lay_true {α : Type} (ge ne : α → Bool) (a : α) : ∀ l : List α, layF ge ne a l true = l.filter ne
  | [] => rfl
  | x :: r => by
    rw [lay_cons, Bool.true_or, lay_true ge ne a r, List.filter_cons]
    by_cases h : ne x = true <;> simp [h]
theorem lay_perm {α : Type} (ge ne : α → Bool) (a : α) : ∀ l : List α, (layF ge ne a l false).Perm (a :: l.filter ne)
  | [] => List.Perm.refl _
  | x :: r => by
    rw [lay_cons, Bool.false_or, List.filter_cons]
    cases hg : ge x
    · have ih := lay_perm ge ne a r
      by_cases h : ne x = true
      · simp only [h, if_true, Bool.not_false, Bool.and_false, if_neg (by decide : ¬ (false = true)), List.nil_append, List.singleton_append]
        exact (ih.cons x).trans (List.Perm.swap _ _ _)
      · simp only [h, Bool.not_false, Bool.and_false, if_neg (by decide : ¬ (false = true)), List.nil_append, if_neg h]
        exact ih
    · rw [lay_true]
      by_cases h : ne x = true
      · simp [h]
      · simp [h]
theorem lay_srt {α : Type} {R : α → α → Prop} {ge ne : α → Bool} {a : α} (tr : ∀ x y z, R x y → R y z → R x z) (h1 : ∀ x, ge x = false → R x a ∧ ne x = true) (h2 : ∀ x, ge x = true → ne x = true → R a x)
    (h3 : ∀ x y, ge x = true → R x y → R a y) : ∀ l : List α, l.Pairwise R → (layF ge ne a l false).Pairwise R
  | [], _ => List.pairwise_singleton _ _
  | x :: r, h => by
    obtain ⟨p1, p2⟩ := List.pairwise_cons.1 h
    rw [lay_cons, Bool.false_or]
    cases hg : ge x
    · obtain ⟨g1, g2⟩ := h1 x hg
      simp only [g2, if_true, Bool.not_false, Bool.and_false, if_neg (by decide : ¬ (false = true)), List.nil_append, List.singleton_append]
      refine List.pairwise_cons.2 ⟨fun y hy => ?_, lay_srt tr h1 h2 h3 r p2⟩
      rcases List.mem_cons.1 ((lay_perm ge ne a r).mem_iff.1 hy) with rfl | hy
      · exact g1
      · exact p1 y (List.mem_filter.1 hy).1
    · rw [lay_true]
      have q : ∀ y, y ∈ r.filter ne → R a y := fun y hy => h3 x y hg (p1 y (List.mem_filter.1 hy).1)
      by_cases h : ne x = true
      · simp only [h, if_true, Bool.not_false, Bool.and_true, List.singleton_append]
        refine List.pairwise_cons.2 ⟨fun y hy => ?_, List.pairwise_cons.2 ⟨fun y hy => p1 y (List.mem_filter.1 hy).1, p2.filter _⟩⟩
        rcases List.mem_cons.1 hy with rfl | hy
        · exact h2 _ hg h
        · exact q y hy
      · simp only [h, Bool.not_false, Bool.and_true, if_true, List.singleton_append, if_neg h, List.nil_append]
        exact List.pairwise_cons.2 ⟨q, p2.filter _⟩
def geA (a x : Ac) : Bool := decide (a.nu ≤ x.nu)
def neA (a x : Ac) : Bool := x.nu != a.nu
def putL (al : List Ac) (a : Ac) : List Ac := layF (geA a) (neA a) a al false
def geP (p x : Po) : Bool := decide (p.co < x.co) || (x.co == p.co && decide (p.ac ≤ x.ac))
def neP (p x : Po) : Bool := x.co != p.co || x.ac != p.ac
def goneP (p : Po) : Bool := p.q == 0 && p.b == 0
def holdL (hl : List Po) (p : Po) : List Po := layF (geP p) (neP p) p hl (goneP p)
theorem lay_len {α : Type} (ge ne : α → Bool) (a : α) : ∀ (l : List α) (d : Bool), (layF ge ne a l d).length ≤ l.length + (if d = true then 0 else 1)
  | [], d => by unfold layF; split <;> simp
  | x :: r, d => by
    have ih := lay_len ge ne a r (d || ge x)
    unfold layF
    rw [List.length_append, List.length_append, List.length_cons]
    have h2 : (if ne x = true then [x] else []).length ≤ 1 := by split <;> simp
    cases d <;> cases h : ge x <;> rw [h] at ih <;> simp at ih ⊢ <;> omega
theorem neA_but (al : List Ac) (a : Ac) : al.filter (neA a) = MA.but al (MA.key a) := by
  unfold MapT.but neA
  congr 1
  funext x
  show (x.nu != a.nu) = decide (x.nu ≠ a.nu)
  by_cases h : x.nu = a.nu <;> simp [h]
theorem neP_but (hl : List Po) (p : Po) : hl.filter (neP p) = MP.but hl (MP.key p) := by
  unfold MapT.but neP
  congr 1
  funext x
  show (x.co != p.co || x.ac != p.ac) = decide ((x.co, x.ac) ≠ (p.co, p.ac))
  by_cases h : x.co = p.co <;> by_cases h' : x.ac = p.ac <;> simp [h, h']
theorem put_perm (al : List Ac) (a : Ac) : (putL al a).Perm (a :: MA.but al (MA.key a)) := by rw [← neA_but]; exact lay_perm _ _ _ _
theorem hold_gone {hl : List Po} {p : Po} (h : goneP p = true) : holdL hl p = MP.but hl (MP.key p) := by unfold holdL; rw [h, lay_true, neP_but]
theorem hold_perm {hl : List Po} {p : Po} (h : goneP p = false) : (holdL hl p).Perm (p :: MP.but hl (MP.key p)) := by rw [← neP_but]; unfold holdL; rw [h]; exact lay_perm _ _ _ _
/-- Rising accounts; positions by contracts, then by accounts. -/
def SrtA (al : List Ac) : Prop := al.Pairwise fun x y => x.nu < y.nu
def ltP (x y : Po) : Prop := x.co < y.co ∨ x.co = y.co ∧ x.ac < y.ac
def SrtP (hl : List Po) : Prop := hl.Pairwise ltP
theorem SrtA.dis {al : List Ac} (h : SrtA al) : al.Pairwise fun x y => MA.key x ≠ MA.key y := List.Pairwise.imp (R := fun x y : Ac => x.nu < y.nu) (fun {a b} (h : a.nu < b.nu) (c : a.nu = b.nu) => by omega) h
theorem SrtP.dis {hl : List Po} (h : SrtP hl) : hl.Pairwise fun x y => MP.key x ≠ MP.key y := List.Pairwise.imp (R := ltP) (fun {a b} (h : ltP a b) (c : (a.co, a.ac) = (b.co, b.ac)) => by
  injection c with c1 c2
  unfold ltP at h
  omega) h
theorem SrtA.put {al : List Ac} (h : SrtA al) (a : Ac) : SrtA (putL al a) := by
  refine lay_srt (R := fun x y : Ac => x.nu < y.nu) (fun x y z h k => Int.lt_trans h k) (fun x hx => ?_) (fun x hx hn => ?_) (fun x y hx hr => ?_) al h
  · unfold geA at hx; unfold neA
    have := of_decide_eq_false hx
    exact ⟨by omega, by simp; omega⟩
  · unfold geA at hx; unfold neA at hn
    have := of_decide_eq_true hx
    have hn' : x.nu ≠ a.nu := by simpa using hn
    show a.nu < x.nu
    omega
  · unfold geA at hx
    have := of_decide_eq_true hx
    have hr' : x.nu < y.nu := hr
    show a.nu < y.nu
    omega
theorem SrtP.hold {hl : List Po} (h : SrtP hl) (p : Po) : SrtP (holdL hl p) := by
  cases hg : goneP p
  · unfold holdL
    rw [hg]
    refine lay_srt (R := ltP) (fun x y z h k => by unfold ltP at *; omega) (fun x hx => ?_) (fun x hx hn => ?_) (fun x y hx hr => ?_) hl h
    · unfold geP at hx; unfold neP ltP
      simp only [Bool.or_eq_false_iff, decide_eq_false_iff_not, Bool.and_eq_false_imp, beq_iff_eq] at hx
      obtain ⟨c1, c2⟩ := hx
      by_cases e : x.co = p.co
      · have := c2 e
        exact ⟨.inr ⟨e, by omega⟩, by simp; omega⟩
      · exact ⟨.inl (by omega), by simp [e]⟩
    · unfold geP at hx; unfold neP at hn; unfold ltP
      simp only [Bool.or_eq_true, decide_eq_true_eq, Bool.and_eq_true, beq_iff_eq, bne_iff_ne, ne_eq] at hx hn
      omega
    · unfold geP at hx; unfold ltP at *
      simp only [Bool.or_eq_true, decide_eq_true_eq, Bool.and_eq_true, beq_iff_eq] at hx
      omega
  · rw [hold_gone hg]
    exact h.filter _
theorem at_put {al : List Ac} (h : SrtA al) (a : Ac) (n : Int) : MA.at (putL al a) n = if n = a.nu then some a else MA.at al n := by
  rw [at_perm (put_perm al a) ((h.put a).dis) n, at_cons, at_but]
  show (if n = a.nu then some a else if n = a.nu then none else MA.at al n) = _
  split <;> rfl
theorem at_hold {hl : List Po} (h : SrtP hl) (p : Po) (c : Int × Int) : MP.at (holdL hl p) c = if c = (p.co, p.ac) then (if goneP p = true then none else some p) else MP.at hl c := by
  cases hg : goneP p
  · rw [at_perm (hold_perm hg) ((h.hold p).dis) c, at_cons, at_but]
    show (if c = (p.co, p.ac) then some p else if c = (p.co, p.ac) then none else MP.at hl c) = _
    split <;> simp
  · rw [hold_gone hg, at_but]
    show (if c = (p.co, p.ac) then none else MP.at hl c) = _
    split <;> simp
theorem mem_put {al : List Ac} {a x : Ac} (hx : x ∈ putL al a) : x = a ∨ x ∈ al := by
  rcases List.mem_cons.1 ((put_perm al a).mem_iff.1 hx) with h | h
  · exact .inl h
  · exact .inr (mem_but.1 h).1
theorem mem_hold {hl : List Po} {p x : Po} (hx : x ∈ holdL hl p) : (x = p ∧ goneP p = false) ∨ (x ∈ hl ∧ MP.key x ≠ MP.key p) := by
  cases hg : goneP p
  · rcases List.mem_cons.1 ((hold_perm hg).mem_iff.1 hx) with h | h
    · exact .inl ⟨h, rfl⟩
    · exact .inr (mem_but.1 h)
  · rw [hold_gone hg] at hx
    exact .inr (mem_but.1 hx)
/-! The calls. -/
abbrev mF : Int := 1000000000000000
abbrev mQ : Int := 10000000
/-- What a ledger's data are. -/
structure LgI (L : Lg) : Prop where
  fund : 0 ≤ L.fund ∧ L.fund ≤ mF
  aok : ∀ a, a ∈ L.al → (1 ≤ a.nu ∧ a.nu ≤ 4294967295) ∧ 0 ≤ a.ca ∧ a.ca ≤ mF
  asr : SrtA L.al
  len : L.al.length ≤ 64
  psr : SrtP L.hl
  pok : ∀ p, p ∈ L.hl → ((1 ≤ p.co ∧ p.co ≤ 4294967295) ∧ 1 ≤ p.ac ∧ p.ac ≤ 4294967295) ∧ ((-mQ ≤ p.q ∧ p.q ≤ mQ) ∧ -mF ≤ p.b ∧ p.b ≤ mF) ∧ goneP p = false
  held : ∀ p, p ∈ L.hl → ∃ a, a ∈ L.al ∧ a.nu = p.ac
def getL (L : Lg) (n : Int) : Ac × Int := if n = 0 then (⟨0, L.fund, false, false⟩, 0) else match MA.at L.al n with | some a => (a, 0) | none => (zeroAc, 7)
def oneB (n m : Int) : Bool := decide (1 ≤ n) && decide (n ≤ m)
def depE (L : Lg) (n m : Int) : Int := if oneB m mF = false then 2 else if (getL L n).2 ≠ 0 ∧ 64 ≤ L.al.length then 9 else if mF < fundsL L + m then 6 else 0
/-- An account written where it stands; the account 0 is the fund. -/
def setA (L : Lg) (a : Ac) : Lg := if a.nu = 0 then ⟨a.ca, L.al, L.hl⟩ else ⟨L.fund, putL L.al a, L.hl⟩
def depL (L : Lg) (n m : Int) : Lg := if depE L n m = 0 then setA L ⟨n, (getL L n).1.ca + m, (getL L n).1.ki, (getL L n).1.de⟩ else L
def witE (L : Lg) (n m : Int) : Int := if n = 0 ∨ oneB m mF = false then 2 else if (getL L n).2 ≠ 0 then (getL L n).2 else if (getL L n).1.ca < m then 90 else 0
def witL (L : Lg) (n m : Int) : Lg := if witE L n m = 0 then setA L ⟨(getL L n).1.nu, (getL L n).1.ca - m, (getL L n).1.ki, (getL L n).1.de⟩ else L
def setE (L : Lg) (a : Ac) : Int := if (a.ca < 0 ∨ mF < a.ca) ∨ a.nu = 0 ∧ (a.ki || a.de) = true then 2 else (getL L a.nu).2
def setL (L : Lg) (a : Ac) : Lg := if setE L a = 0 then setA L a else L
def posH (hl : List Po) (c a : Int) : Po := match MP.at hl (c, a) with | some p => p | none => ⟨c, a, 0, 0⟩
def boughtP (L : Lg) (c b p m : Int) : Po := ⟨c, b, (posH L.hl c b).q + m, (posH L.hl c b).b + p * m⟩
def soldP (L : Lg) (c s p m : Int) : Po := ⟨c, s, (posH L.hl c s).q - m, (posH L.hl c s).b - p * m⟩
def inB (p : Po) : Bool := (decide (-mQ ≤ p.q) && decide (p.q ≤ mQ)) && (decide (-mF ≤ p.b) && decide (p.b ≤ mF))
def thereB (L : Lg) (n : Int) : Bool := (getL L n).2 == 0
def traE (L : Lg) (c b s p m : Int) : Int :=
  if c = 0 ∨ b = 0 ∨ s = 0 ∨ b = s then 2 else if oneB p mQ = false ∨ oneB m mQ = false then 2 else if thereB L b = false ∨ thereB L s = false then 7
  else if inB (boughtP L c b p m) = false ∨ inB (soldP L c s p m) = false then 6 else 0
def traL (L : Lg) (c b s p m : Int) : Lg := if traE L c b s p m = 0 then ⟨L.fund, L.al, holdL (holdL L.hl (boughtP L c b p m)) (soldP L c s p m)⟩ else L
def holdersH (hl : List Po) (c : Int) : List Po := hl.filter fun p => p.co == c
def ofH (hl : List Po) (a : Int) : List Po := hl.filter fun p => p.ac == a
def marE (c p : Int) : Int := if c = 0 ∨ oneB p mQ = false then 2 else 0
def marP (p : Int) (cl : Bool) (x : Po) : Po := if cl then ⟨x.co, x.ac, 0, 0⟩ else ⟨x.co, x.ac, x.q, x.q * p⟩
def marV (p : Int) (x : Po) : Va := ⟨x.ac, x.q * p - x.b⟩
def marX (L : Lg) (c p : Int) : List Va := if marE c p = 0 then (holdersH L.hl c).map (marV p) else []
def marH (p : Int) (cl : Bool) (hs : List Po) (hl : List Po) : List Po := hs.foldl (fun h x => holdL h (marP p cl x)) hl
def marL (L : Lg) (c p : Int) (cl : Bool) : Lg := if marE c p = 0 then ⟨L.fund, L.al, marH p cl (holdersH L.hl c) L.hl⟩ else L
/-! They stay in order. -/
theorem LgI.new : LgI ⟨0, [], []⟩ := ⟨by decide, (fun a h => nomatch h), List.Pairwise.nil, Nat.zero_le _, List.Pairwise.nil, (fun a h => nomatch h), (fun a h => nomatch h)⟩
section
variable {L : Lg} {n m c a b s p : Int}
theorem getL_zero : getL L 0 = (⟨0, L.fund, false, false⟩, 0) := by unfold getL; rw [if_pos rfl]
theorem getL_cases (L : Lg) (n : Int) : (n = 0 ∧ getL L n = (⟨0, L.fund, false, false⟩, 0)) ∨ (n ≠ 0 ∧ MA.at L.al n = none ∧ getL L n = (zeroAc, 7)) ∨ ∃ a, n ≠ 0 ∧ MA.at L.al n = some a ∧ a ∈ L.al ∧ a.nu = n ∧ getL L n = (a, 0) := by
  by_cases h : n = 0
  · exact .inl ⟨h, by rw [h]; exact getL_zero⟩
  · unfold getL
    rw [if_neg h]
    cases e : MA.at L.al n with
    | none => exact .inr (.inl ⟨h, rfl, rfl⟩)
    | some a => exact .inr (.inr ⟨a, h, rfl, (at_inv e).1, (at_inv e).2, rfl⟩)
theorem getL_ca (h : LgI L) (n : Int) : 0 ≤ (getL L n).1.ca ∧ (getL L n).1.ca ≤ mF := by
  rcases getL_cases L n with ⟨_, e⟩ | ⟨_, _, e⟩ | ⟨a, _, _, ha, _, e⟩ <;> rw [e]
  · exact h.fund
  · exact ⟨Int.le_refl _, by decide⟩
  · exact (h.aok a ha).2
theorem getL_nu (h : LgI L) (hn : U32' n) : U32' (getL L n).1.nu := by
  rcases getL_cases L n with ⟨_, e⟩ | ⟨_, _, e⟩ | ⟨a, _, _, ha, _, e⟩ <;> rw [e]
  · exact (show U32' 0 from by decide)
  · exact (show U32' 0 from by decide)
  · have := (h.aok a ha).1; exact (show U32' a.nu from ⟨by omega, this.2⟩)
theorem cash_cons (a : Ac) (l : List Ac) : cashL (a :: l) = a.ca + cashL l := by simp [cashL]
theorem sum_perm {l l' : List Int} (p : l.Perm l') : l.sum = l'.sum := by
  induction p with
  | nil => rfl
  | cons x _ ih => simp [ih]
  | swap x y l => simp; omega
  | trans _ _ h1 h2 => exact h1.trans h2
theorem cash_perm {l l' : List Ac} (p : l.Perm l') : cashL l = cashL l' := sum_perm (p.map _)
theorem cash_bound {l : List Ac} (h : ∀ a, a ∈ l → 0 ≤ a.ca ∧ a.ca ≤ mF) : 0 ≤ cashL l ∧ cashL l ≤ l.length * mF := by
  induction l with
  | nil => simp [cashL]
  | cons a l ih =>
    have h1 := h a (List.mem_cons_self ..)
    have h2 := ih fun x hx => h x (List.mem_cons_of_mem _ hx)
    rw [cash_cons, List.length_cons]
    have : ((l.length + 1 : Nat) : Int) * mF = l.length * mF + mF := by rw [Int.natCast_add, Int.add_mul]; simp
    rw [this]
    omega
theorem funds_bound (h : LgI L) : 0 ≤ fundsL L ∧ fundsL L ≤ 65 * mF := by
  have h1 := cash_bound fun a ha => (h.aok a ha).2
  have h2 := h.len
  have h3 := h.fund
  unfold fundsL
  have : (L.al.length : Int) * mF ≤ 64 * mF := Int.mul_le_mul_of_nonneg_right (by omega) (by decide)
  omega
theorem put_len (al : List Ac) (x : Ac) : (putL al x).length ≤ al.length + 1 := lay_len (geA x) (neA x) x al false
theorem put_len_same {al : List Ac} {x y : Ac} (hy : y ∈ al) (e : y.nu = x.nu) : (putL al x).length ≤ al.length := by
  rw [(put_perm al x).length_eq, List.length_cons]
  have : (MA.but al (MA.key x)).length < al.length := List.length_filter_lt_length_iff_exists.2 ⟨y, hy, (by
    have : MA.key y = MA.key x := e
    simp [this])⟩
  omega
end
end Go.Proofs.Ythnmpnepgagmmaa
