/- The program's side: All, there or not. -/
import Derived.Test.YtpnccbcaoifdiaaJk
namespace Go.Proofs.Ytpnccbcaoifdiaa
open Go.RowKit Go.Shelf
set_option linter.unusedVariables false

set_option maxRecDepth 100000 in
theorem sall_calls (p : Option Addr) (w : World) : Calls Try.prog 29 #[.pointer p] w fun e w' => e = .returned (.func (.func 45) #[] #[.pointer (some ⟨w.heap.size, 0, none⟩)]) ∧ w' = w.alloc (.cells #[.pointer p] 23) := by
  go_enter Try.func29, Try.ntmps29
  go_wp2_with fail
  go_ret
  exact ⟨rfl, rfl⟩
theorem senters_all : Enters Try.prog 45 := enters_of Try.func45 (by kernel_rfl) rfl
theorem sall_any {g : Nat} {v : Value} {buy : Bool} {c : Int} {l : List St} {w : World} (h : Ds w g v buy c l) : Calls Try.prog 29 #[.pointer (some ⟨g, 0, none⟩)] w (AllO w (DsS g v) (osOf l)) := by
  refine (sall_calls _ w).mono ?_
  rintro e w' ⟨rfl, rfl⟩
  have b := below_new w (.cells #[.pointer (some ⟨g, 0, none⟩)] 23)
  refine ⟨_, _, fun k => k = w.heap.size ∨ DsS g v k, rfl, b, senters_all, fun k hk => ?_, ?_⟩
  · rcases hk with rfl | hk
    · exact ⟨by simp, .inr (Nat.le_refl _)⟩
    · exact ⟨Nat.lt_of_lt_of_le (h.sl hk) b.size, .inl hk⟩
  · intro W2 S n fr st wf ap hn l0 J Jx W hW cJ _ hY h0
    have cb := heap_alloc_new w (.cells #[.pointer (some ⟨g, 0, none⟩)] 23)
    have d2 : Ds W2 g v buy c l := (h.below b).keep fr (fun k hk c => c (.inr hk))
    have c2 : W2.heap[w.heap.size]? = some (.cells #[.pointer (some ⟨g, 0, none⟩)] 23 (0, 0)) := (fr.at' _ (by simp) (fun c => c (.inl rfl))).trans cb
    have s := st W2 W (Nat.le_refl _) (fun k hk => hW.block k hk)
    exact sall1_in n l0 (by omega) st J Jx W hW.size cJ hY (d2.below hW) ((hW.block _ (Array.getElem?_eq_some_iff.1 c2).1).trans c2) (fun k hk => Nat.lt_of_lt_of_le (wf k (s k hk)) hW.size)
      (fun k hk c => ap k hk (s k c)) h0
theorem szero (w : World) : (zeroValue 51).run Try.prog w = .ok (.agg #[.bool false, .bool false, .int .u64 0, .slice none 0 0]) w := by kernel_rfl
abbrev zsd : Array Value := #[.bool false, .bool false, .int .u64 0, .slice none 0 0]
section
variable {w W : World} {p : Option Addr}
theorem Ns.below (h : Ns zsd w p) (q : Below w.heap.size w W) : Ns zsd W p := h.imp id fun ⟨g, e, hg⟩ => ⟨g, e, (q.block g (Array.getElem?_eq_some_iff.1 hg).1).trans hg⟩
theorem smiss_ns (h : Ns zsd w p) : Calls Try.prog 31 #[.pointer p] w fun e w' => e = .returned (.bool true) ∧ w = w' := by
  rcases h with rfl | ⟨g, rfl, hg⟩
  · exact smiss_nil w
  · exact smiss_zero (by rw [cell_of_row _ _ _ _ _ _ hg]; rfl)
theorem smiss_nsB (h : Ns zsd w p) (W : World) (q : Below w.heap.size w W) : Calls Try.prog 31 #[.pointer p] W fun e w' => e = .returned (.bool true) ∧ W = w' := smiss_ns (h.below q)
end
set_option maxRecDepth 100000 in
set_option maxHeartbeats 2000000 in
theorem snall1_in (n l0 C : Nat) (p : Option Addr) (J Jx : List OkOr → World → Prop) {B : Nat} {S : World → Nat → Prop} (W : World) (hB : B ≤ W.heap.size) (cJ : Calm B S J) (hC : W.cell? ⟨C, 0, none⟩ = some (.pointer p)) (hN : Ns zsd W p) (h0 : J [] W) :
    CallsIn Fence.wide n Try.prog 45 #[.func (.yield l0) #[] #[], .pointer (some ⟨C, 0, none⟩)] W fun e W' => (∃ v, e = .returned v) ∧
      ((∃ xs, valsO xs = [] ∧ J xs W') ∨ (∃ pre, valsO pre <+: [] ∧ Jx pre W')) := by
  have CJ := Lib.hid cJ
  have HB := Lib.hid hB
  have J0 := Lib.hid h0
  have cl := hC
  have F := sfirst_nc (smiss_nsB hN)
  have ZS := Lib.hid fun W1 : World => gbx_new (E := ESt) (te := 66) W1 zeroSt
  have hz := zero_st
  clear cJ hB h0 hC hN
  refine callsIn_of_wp Try.func45 rfl trivial ?_ rfl
  simp only [Try.ntmps45, List.size_toArray, List.length_cons, List.length_nil, Nat.reduceAdd, Nat.reduceSub, Array.replicate_succ, Array.replicate_zero, List.push_toArray, List.append_toArray, List.nil_append, List.cons_append]
  apply wpIn_seq_k; intro K1 h1
  refine wpIn_wide.2 ?_
  go_wp2_with fail
  refine F.mono ?_; rintro e w1 ⟨rfl, q⟩
  have Q := Lib.hid q
  have Z1 := Lib.hid (ZS.out w1)
  clear q
  go_wp2_with (refine gwl_store TSt zeroSt w1.heap.size Z1.out rfl rfl ?_)
  obtain ⟨w3, hw3⟩ : ∃ w3, (w1.alloc (.cells (ESt.cells zeroSt).toArray 66)).setRow w1.heap.size (ESt.cells zeroSt).toArray = w3 := ⟨_, rfl⟩
  rw [hw3]
  have q3 : Below W.heap.size W w3 := by rw [← hw3]; exact Q.out.trans ((row_inS (Nat.le_refl _) (below_new w1 _)).mono Q.out.size)
  have J3 := Lib.hid (CJ.out.grow HB.out q3 J0.out)
  generalize w1.heap.size = X at *
  clear q3 hw3 Z1 Q
  refine wpIn_block ?_
  gi_loopw [4] (fun t wr => t = .bool false ∧ wr = w3) (fun t wr => 0)
  case atStart => exact ⟨rfl, rfl⟩
  case round =>
    obtain ⟨rfl, rfl⟩ := hrel
    gi_wp2
    refine ⟨fun f e => (by cases e), ?_⟩
    gi_wp2
    refine bodyPost_end (results_none rfl _ _ _) rfl ?_
    exact ⟨⟨_, rfl⟩, .inl ⟨[], rfl, J3.out⟩⟩
theorem snall_any {w : World} {p : Option Addr} (h : Ns zsd w p) : Calls Try.prog 29 #[.pointer p] w (AllO w (fun k => p = some ⟨k, 0, none⟩) []) := by
  refine (sall_calls _ w).mono ?_
  rintro e w' ⟨rfl, rfl⟩
  have b := below_new w (.cells #[.pointer p] 23)
  refine ⟨_, _, fun k => k = w.heap.size ∨ p = some ⟨k, 0, none⟩, rfl, b, senters_all, fun k hk => ?_, ?_⟩
  · rcases hk with rfl | hk
    · exact ⟨by simp, .inr (Nat.le_refl _)⟩
    · refine ⟨Nat.lt_of_lt_of_le ?_ b.size, .inl hk⟩
      rcases h with e | ⟨g, e, hg⟩
      · rw [e] at hk; cases hk
      · rw [e] at hk; cases hk; exact (Array.getElem?_eq_some_iff.1 hg).1
  · intro W2 S n fr st wf ap hn l0 J Jx W hW cJ _ hY h0
    have cb := heap_alloc_new w (.cells #[.pointer p] 23)
    have c2 : W2.heap[w.heap.size]? = some (.cells #[.pointer p] 23 (0, 0)) := (fr.at' _ (by simp) (fun c => c (.inl rfl))).trans cb
    have n2 : Ns zsd W2 p := by
      rcases h.below b with e | ⟨g, e, hg⟩
      · exact .inl e
      · exact .inr ⟨g, e, (fr.at' g (Array.getElem?_eq_some_iff.1 hg).1 (fun c => c (.inr e))).trans hg⟩
    exact snall1_in n l0 w.heap.size p J Jx W (Nat.le_refl _) cJ (cell_below (by rw [cell_of_row _ _ _ _ _ _ c2]; rfl) hW (Nat.le_refl _)) (n2.below hW) h0
end Go.Proofs.Ytpnccbcaoifdiaa
