/- The program's ledger: Holders, its promises. -/
import Derived.Test.YthnmpnepgagmmaaMo
import Derived.Test.YthnmpnepgagmmaaMp
namespace Go.Proofs.Ythnmpnepgagmmaa
open Go.RowKit Go.Shelf
set_option linter.unusedVariables false
set_option linter.unusedSimpArgs false
set_option linter.unusedSectionVars false

/-- The positions that are there, as an iterator over holders wants them: those not told yet as they were. -/
def PPh (bp : Nat) (hl : List Po) (c : Int) (pre : List Po) (W : World) : Prop := ∃ hl', MP.Mp W bp hl' ∧ ∀ a : Ac, (∀ p, p ∈ pre → p.ac ≠ a.nu) → holdAt hl' c a = holdAt hl c a
/-- What a value that Holders answers tells, whatever becomes of those told. -/
def TellsW (W : World) (T : Nat → Prop) (gf : Nat) (lb : Array Value) (bp : Nat) (L : Lg) (c : Int) : Prop :=
  ∀ (W2 : World) (S : World → Nat → Prop) (n N0 : Nat), Fr (fun k => ¬ T k) W W2 → Still S W2.heap.size → N0 ≤ W2.heap.size → (∀ k, T k → k < N0 ∨ ∃ cs t f, W2.heap[k]? = some (.cells cs t f)) → (∀ k, S W2 k → k < W2.heap.size) → (∀ k, T k → ¬ S W2 k) → 3 ≤ n →
    SeqW Fence.wide n Try.prog gf lb encP S (fun xs => xs = holdersH L.hl c) (fun pre => pre <+: holdersH L.hl c) (fun xs => xs <+: holdersH L.hl c) (PPh bp L.hl c) N0 W2
theorem lholdersW9 {w : World} {g ba bp : Nat} {L : Lg} {c : Int} (h : Lb w g ba bp) (hm : MA.Mp w ba L.al) (hi : LgI L) (hc : U32' c) : Calls Try.prog 39 #[.pointer (some ⟨g, 0, none⟩), .int .u32 c] w fun e w' =>
    ∃ gf lb, ∃ T : Nat → Prop, e = .returned (.func (.func gf) #[] lb) ∧ Below w.heap.size w w' ∧ Enters Try.prog gf ∧ (∀ k, T k → k < w'.heap.size ∧ ((k = g ∨ k = ba) ∨ w.heap.size ≤ k ∧ ∃ cs t f, w'.heap[k]? = some (.cells cs t f))) ∧ T ba ∧ T g ∧ TellsW w' T gf lb bp L c := by
  refine (lholdC9 _ c w).mono ?_
  rintro e w' ⟨rfl, hw⟩
  obtain ⟨W, hW, b, e1, e2⟩ := two_bx w (.pointer (some ⟨g, 0, none⟩)) (.int .u32 c) 23 31
  rw [hW] at hw
  subst hw
  have l1 := (Array.getElem?_eq_some_iff.1 e1).1
  have l2 := (Array.getElem?_eq_some_iff.1 e2).1
  refine ⟨_, _, fun k => k = w.heap.size ∨ k = w.heap.size + 1 ∨ k = g ∨ k = ba, rfl, b, enters_hold, fun k hk => ?_, .inr (.inr (.inr rfl)), .inr (.inr (.inl rfl)), ?_⟩
  · rcases hk with rfl | rfl | rfl | rfl
    · exact ⟨l1, .inr ⟨Nat.le_refl _, _, _, _, e1⟩⟩
    · exact ⟨l2, .inr ⟨Nat.le_succ _, _, _, _, e2⟩⟩
    · exact ⟨Nat.lt_of_lt_of_le h.gl b.size, .inl (.inl rfl)⟩
    · exact ⟨Nat.lt_of_lt_of_le hm.lt b.size, .inl (.inr rfl)⟩
  · intro W2 S n N0 fr st hN0 kd wf ap hn l0 J Jx W3 hW3 cJ cJx hY hPP h0
    have sm : ∀ k, (k = w.heap.size ∨ k = w.heap.size + 1 ∨ k = g ∨ k = ba) → k < w'.heap.size → W3.heap[k]? = w'.heap[k]? := fun k hk hl => (hW3.block k (Nat.lt_of_lt_of_le hl fr.size)).trans (fr.at' k hl (fun c => c hk))
    have lg := Nat.lt_of_lt_of_le h.gl b.size
    have la := Nat.lt_of_lt_of_le hm.lt b.size
    have s := st W2 W3 (Nat.le_refl _) (fun k hk => hW3.block k hk)
    have hb3 : Lb W3 g ba bp := h.same ((sm g (.inr (.inr (.inl rfl))) lg).trans (b.block g h.gl))
    have hm3 : MA.Mp W3 ba L.al := hm.same ((sm ba (.inr (.inr (.inr rfl))) la).trans (b.block ba hm.lt))
    have ba0 : ba < N0 := by
      rcases kd ba (.inr (.inr (.inr rfl))) with q | ⟨cs, t, f, q⟩
      · exact q
      · have e := (hW3.block ba (Nat.lt_of_lt_of_le la fr.size)).trans q
        obtain ⟨es, ck, hb⟩ := hm3.blk
        rw [hb] at e
        cases e
    exact lhold1_in n l0 hn st J Jx W3 hW3.size (Nat.le_trans hN0 hW3.size) cJ cJx hY hPP ((sm _ (.inl rfl) l1).trans e1) ((sm _ (.inr (.inl rfl)) l2).trans e2) hb3 hm3 hi hc ba0
      (fun k hk => Nat.lt_of_lt_of_le (wf k (s k hk)) hW3.size) (fun k hk cc => ap k hk (s k cc)) h0
/-- With the positions kept, too. -/
theorem seqN_of_W {gf : Nat} {lb : Array Value} {S : World → Nat → Prop} {Sd Sp Pr : List Po → Prop} {n N0 bp : Nat} {L : Lg} {c : Int} {W2 : World} (h : SeqW Fence.wide n Try.prog gf lb encP S Sd Sp Pr (PPh bp L.hl c) N0 W2) (st : Still S W2.heap.size) (hm : MP.Mp W2 bp L.hl) (hb : bp < N0)
    (wf : ∀ k, S W2 k → k < W2.heap.size) (ap : ¬ S W2 bp) : SeqN Fence.wide n Try.prog gf lb encP S Sd Sp Pr N0 W2 := by
  intro l J Jx W hW cJ cJx hY h0
  obtain ⟨Q, hQ⟩ : ∃ Q : World → Prop, Q = fun U => (MP.Mp U bp L.hl ∧ W2.heap.size ≤ U.heap.size) ∧ (∀ k, S U k → k < U.heap.size) ∧ ¬ S U bp := ⟨_, rfl⟩
  have s := st W2 W (Nat.le_refl _) (fun k hk => hW.block k hk)
  have q0 : Q W := by rw [hQ]; exact ⟨⟨hm.below hW, hW.size⟩, fun k hk => Nat.lt_of_lt_of_le (wf k (s k hk)) hW.size, fun cc => ap (s bp cc)⟩
  have cQ : Calm W.heap.size S (fun (_ : List Po) U => Q U) := by
    intro pre A C hq b hs
    rw [hQ] at hq ⊢
    obtain ⟨⟨q1, q2⟩, q3, q4⟩ := hq
    have s := st A C q2 (fun k hk => b.block k (Nat.lt_of_lt_of_le hk hW.size))
    exact ⟨⟨q1.same (b.block bp (Nat.lt_of_lt_of_le hm.lt hW.size)), Nat.le_trans q2 b.size⟩, fun k hk => Nat.lt_of_lt_of_le (q3 k (s k hk)) b.size, fun cc => q4 (s bp cc)⟩
  have kQ : ∀ A C, Q A → Kn N0 S A C → Q C := by
    intro A C hq k
    rw [hQ] at hq ⊢
    obtain ⟨⟨q1, q2⟩, q3, q4⟩ := hq
    obtain ⟨k1, k2, k3, k4⟩ := k q3
    refine ⟨⟨q1.same (k4 bp q1.lt q4 (.inl hb)), Nat.le_trans q2 k3.size⟩, k1, fun cc => ?_⟩
    rcases k2 bp cc with c1 | c1
    · exact q4 c1
    · have := q1.lt; omega
  refine (h l (fun pre U => J pre U ∧ Q U) Jx W hW (cJ.and cQ) cJx (fun pre x W1 hj hp => (hY pre x W1 hj.1 hp).mono ?_) (fun pre W1 hj => ?_) ⟨h0, q0⟩).mono ?_
  · rintro e W' (⟨e1, e2, e3, e4⟩ | ⟨e1, e2, e3⟩)
    · exact .inl ⟨e1, ⟨e2, kQ _ _ hj.2 e3⟩, e3, e4⟩
    · exact .inr ⟨e1, e2, e3⟩
  · have := hj.2
    rw [hQ] at this
    exact ⟨L.hl, this.1.1, fun a _ => rfl⟩
  · rintro e W' ⟨hv, (⟨xs, e1, e2⟩ | q)⟩
    · exact ⟨hv, .inl ⟨xs, e1, e2.1⟩⟩
    · exact ⟨hv, .inr q⟩
theorem lholders9 {w : World} {g ba bp : Nat} {L : Lg} {c : Int} (h : Dl w g ba bp L) (hc : U32' c) : Calls Try.prog 39 #[.pointer (some ⟨g, 0, none⟩), .int .u32 c] w fun e w' =>
    ∃ gf lb, ∃ T : Nat → Prop, e = .returned (.func (.func gf) #[] lb) ∧ Below w.heap.size w w' ∧ Enters Try.prog gf ∧ (∀ k, T k → k < w'.heap.size ∧ (LdS g ba bp k ∨ w.heap.size ≤ k ∧ ∃ cs t f, w'.heap[k]? = some (.cells cs t f))) ∧
      ∀ (W2 : World) (S : World → Nat → Prop) (n N0 : Nat), Fr (fun k => ¬ T k) w' W2 → Still S W2.heap.size → N0 ≤ W2.heap.size → (∀ k, T k → k < N0 ∨ ∃ cs t f, W2.heap[k]? = some (.cells cs t f)) → (∀ k, S W2 k → k < W2.heap.size) → (∀ k, T k → ¬ S W2 k) → 3 ≤ n →
        SeqN Fence.wide n Try.prog gf lb encP S (fun xs => xs = holdersH L.hl c) (fun pre => pre <+: holdersH L.hl c) (fun xs => xs <+: holdersH L.hl c) N0 W2 := by
  refine (lholdersW9 h.lb h.ma h.inv hc).mono ?_
  rintro e w' ⟨gf, lb, T, rfl, b, en, hT, _, _, tell⟩
  refine ⟨gf, lb, fun k => T k ∨ k = bp, rfl, b, en, fun k hk => ?_, fun W2 S n N0 fr st hN0 kd wf ap hn => ?_⟩
  · rcases hk with hk | rfl
    · obtain ⟨h1, h2⟩ := hT k hk
      refine ⟨h1, h2.imp (fun q => ?_) id⟩
      rcases q with q | q
      · exact .inl q
      · exact .inr (.inl q)
    · exact ⟨Nat.lt_of_lt_of_le h.mp.lt b.size, .inl (.inr (.inr rfl))⟩
  · have m2 : MP.Mp W2 bp L.hl := (h.mp.below b).same (fr.at' bp (Nat.lt_of_lt_of_le h.mp.lt b.size) (fun c => c (.inr rfl)))
    have b0 : bp < N0 := by
      rcases kd bp (.inr rfl) with q | ⟨cs, t, f, q⟩
      · exact q
      · obtain ⟨es, ck, hb⟩ := m2.blk
        rw [hb] at q
        cases q
    exact seqN_of_W (tell W2 S n N0 (fr.mono fun k hk c => hk (.inl c)) st hN0 (fun k hk => kd k (.inl hk)) wf (fun k hk => ap k (.inl hk)) hn) st m2 b0 wf (ap bp (.inr rfl))
end Go.Proofs.Ythnmpnepgagmmaa
