/- The program's calendar is as it is asked. -/
import Derived.Test.YtejhnfkljfdejaaHo
import Derived.Test.YtejhnfkljfdejaaHm
namespace Go.Proofs.Ytejhnfkljfdejaa
open Go.RowKit Go.Shelf
set_option linter.unusedVariables false

set_option maxRecDepth 100000 in
theorem all_calls (p : Option Addr) (w : World) : Calls Try.prog 28 #[.pointer p] w fun e w' => e = .returned (.func (.func 44) #[] #[.pointer (some ⟨w.heap.size, 0, none⟩)]) ∧ w' = w.alloc (.cells #[.pointer p] 23) := by
  go_enter Try.func28, Try.ntmps28
  go_wp2_with fail
  go_ret
  exact ⟨rfl, rfl⟩
set_option maxRecDepth 100000 in
set_option maxHeartbeats 2000000 in
theorem nall1_in (n l C : Nat) (p : Option Addr) (J Jx : List OkCt → World → Prop) (B : Nat) (aJ : AbidesFrom B J) (W : World) (hC : W.cell? ⟨C, 0, none⟩ = some (.pointer p)) (hN : Nc zcal W p) (h0 : J [] W) :
    CallsIn Fence.wide n Try.prog 44 #[.func (.yield l) #[] #[], .pointer (some ⟨C, 0, none⟩)] W fun e W' => (∃ v, e = .returned v) ∧
      ((∃ xs, vals xs = [] ∧ J xs W') ∨ (∃ pre, vals pre <+: [] ∧ Jx pre W')) := by
  have AJ := Lib.hid aJ
  have HN := Lib.hid hN
  have JJ := Lib.hid h0
  have cl := hC
  have BH := nc_behind 0 hN
  have hz := zero_ct
  clear aJ hN h0 hC
  refine callsIn_of_wp Try.func44 rfl trivial ?_ rfl
  simp only [Try.ntmps44, List.size_toArray, List.length_cons, List.length_nil, Nat.reduceAdd, Nat.reduceSub, Array.replicate_succ, Array.replicate_zero, List.push_toArray, List.append_toArray, List.nil_append, List.cons_append]
  gi_wp2
  gi_loopw [3] (fun t wr => t = .int .u32 0 ∧ wr = W) (fun t _ => 0)
  case atStart => exact ⟨rfl, rfl⟩
  case round =>
    obtain ⟨rfl, rfl⟩ := hrel
    refine wpIn_block ?_
    apply wpIn_seq_k; intro K1 h1
    refine wpIn_wide.2 ?_
    go_wp2_with fail
    refine BH.mono ?_; rintro e w1 ⟨rfl, q⟩
    have Q := Lib.hid q
    have CB := Lib.hid (cb_new w1 (x := zeroCt) rfl)
    clear q
    go_wp2_with (refine wl_store_ct zeroCt w1.heap.size CB.out rfl rfl rfl ?_)
    obtain ⟨w3, hw3⟩ : ∃ w3, (w1.alloc (.cells zeroCt.cells 45)).setRow w1.heap.size zeroCt.cells = w3 := ⟨_, rfl⟩
    rw [hw3]
    have J3 : Hid (J [] w3) := Lib.hid (by
      refine AJ.out _ _ _ none JJ.out (grown_of ?_) (fun r e => by cases e)
      rw [← hw3]; exact Q.out.trans ((below_row' (below_new w1 _) (Nat.le_refl _)).mono Q.out.size))
    clear hw3
    gi_wp2
    refine ⟨fun f e => (by cases e), ?_⟩
    gi_wp2
    refine bodyPost_ret (results_none rfl _ _ _) rfl ?_
    exact ⟨⟨_, rfl⟩, .inl ⟨[], rfl, J3.out⟩⟩
theorem enters_all : Enters Try.prog 44 := enters_of Try.func44 (by kernel_rfl) rfl
theorem all_any (g : Nat) (v : Value) (d : Int) (cs : List Ct) (w : World) (h : Rp w g v d cs) : Calls Try.prog 28 #[.pointer (some ⟨g, 0, none⟩)] w (AllOk w (RcS g v) cs) := by
  refine (all_calls _ w).mono ?_
  rintro e w' ⟨rfl, rfl⟩
  have b := below_new w (.cells #[.pointer (some ⟨g, 0, none⟩)] 23)
  refine ⟨_, _, fun k => k = w.heap.size ∨ RcS g v k, rfl, b, enters_all, fun k hk => ?_, ?_⟩
  · rcases hk with rfl | hk
    · exact ⟨by simp, .inr (Nat.le_refl _)⟩
    · refine ⟨Nat.lt_of_lt_of_le ?_ b.size, .inl hk⟩
      rcases hk with rfl | hk
      · exact h.gl
      · exact h.vl k hk
  · intro W2 S n fr st wf ap hn l J Jx W hW aJ _ hY h0
    have cb := heap_alloc_new w (.cells #[.pointer (some ⟨g, 0, none⟩)] 23)
    have i2 : It S W2.heap.size w.heap.size g v d cs W2 := ⟨(h.below b).keep fr (fun c => c (.inr (.inl rfl))) (fun k hk c => c (.inr (.inr hk))), (fr.at' _ (by simp) (fun c => c (.inl rfl))).trans cb, Nat.le_refl _, wf, ap⟩
    exact all1_in n l (by omega) st J Jx W.heap.size aJ hY W (i2.below st hW) h0
theorem nc_all {w : World} {p : Option Addr} (h : Nc zcal w p) : Calls Try.prog 28 #[.pointer p] w (AllOk w (fun k => p = some ⟨k, 0, none⟩) []) := by
  refine (all_calls _ w).mono ?_
  rintro e w' ⟨rfl, rfl⟩
  have b := below_new w (.cells #[.pointer p] 23)
  refine ⟨_, _, fun k => k = w.heap.size ∨ p = some ⟨k, 0, none⟩, rfl, b, enters_all, fun k hk => ?_, ?_⟩
  · rcases hk with rfl | hk
    · exact ⟨by simp, .inr (Nat.le_refl _)⟩
    · refine ⟨Nat.lt_of_lt_of_le ?_ b.size, .inl hk⟩
      rcases h with e | ⟨g, e, hg⟩
      · rw [e] at hk; cases hk
      · rw [e] at hk; cases hk; exact (Array.getElem?_eq_some_iff.1 hg).1
  · intro W2 S n fr st wf ap hn l J Jx W hW aJ _ hY h0
    have cb := heap_alloc_new w (.cells #[.pointer p] 23)
    have c2 : W2.heap[w.heap.size]? = some (.cells #[.pointer p] 23 (0, 0)) := (fr.at' _ (by simp) (fun c => c (.inl rfl))).trans cb
    have n2 : Nc zcal W2 p := by
      rcases h.below b (Nat.le_refl _) with e | ⟨g, e, hg⟩
      · exact .inl e
      · exact .inr ⟨g, e, (fr.at' g (Array.getElem?_eq_some_iff.1 hg).1 (fun c => c (.inr e))).trans hg⟩
    exact nall1_in n l w.heap.size p J Jx W.heap.size aJ W (cell_below (by rw [cell_of_row _ _ _ _ _ _ c2]; rfl) hW (Nat.le_refl _)) (n2.below hW (Nat.le_refl _)) h0

/-- The program's calendar in memory. -/
def PcR : PcT := fun w F g d cs => ∃ v, Rp w g v d cs ∧ F = RcS g v
theorem aft_of {w w' : World} {g : Nat} {v : Value} {d : Int} {cs : List Ct} (h : Rp w' g v d cs) (f : Fr (RcS g v) w w') : Aft PcR w (RcS g v) g d cs w' := ⟨_, ⟨v, h, rfl⟩, f, fun _ h => .inl h⟩
theorem cal : CalK PcR zcal where
  lt := by
    rintro w F g d cs ⟨v, h, rfl⟩ k hk
    rcases hk with rfl | hk
    · exact h.gl
    · exact h.vl k hk
  ok := by
    rintro w F g d cs ⟨v, h, rfl⟩
    exact ⟨h.ok, h.le, h.dy.1, h.dy.2⟩
  keep := by
    rintro w w' F g d cs S ⟨v, h, rfl⟩ f hS
    exact ⟨v, h.keep f (hS g (.inl rfl)) (fun k hk => hS k (.inr hk)), rfl⟩
  new := fun w => (new_any w).mono fun e w' q => ⟨_, _, q.1, ⟨_, q.2.1, rfl⟩, q.2.2, fun k hk => by
    rcases hk with rfl | hk
    · exact Nat.le_refl _
    · cases hk⟩
  next := by
    rintro w F g d cs ⟨v, h, rfl⟩
    exact (next_any g v d cs w h).mono fun e w' q => ⟨q.1, aft_of q.2.1 q.2.2⟩
  list := by
    rintro w F g d cs s ⟨v, h, rfl⟩ hs
    refine (list_any g v d cs s w h hs).mono fun e w' q => ⟨q.1, ?_⟩
    obtain ⟨v', h1, h2, h3⟩ := q.2
    exact ⟨_, ⟨v', h1, rfl⟩, h2, fun k hk => by
      rcases hk with rfl | hk
      · exact .inl (.inl rfl)
      · exact (h3 k hk).imp .inr id⟩
  halt := by
    rintro w F g d cs nu on ⟨v, h, rfl⟩ hn
    exact (halt_any g v d cs nu on w h hn).mono fun e w' q => ⟨q.1, aft_of q.2.1 q.2.2⟩
  pub := by
    rintro w F g d cs nu p ⟨v, h, rfl⟩ hn hp
    exact (pub_any g v d cs nu p w h hn hp).mono fun e w' q => ⟨q.1, aft_of q.2.1 q.2.2⟩
  due := by
    rintro w F g d cs nu ⟨v, h, rfl⟩ hn
    exact (due_any g v d cs nu w h hn).mono fun e w' q => ⟨q.1, aft_of (h.below q.2) (Fr.below q.2)⟩
  exp := by
    rintro w F g d cs nu ⟨v, h, rfl⟩ hn
    exact (exp_any g v d cs nu w h hn).mono fun e w' q => ⟨q.1, aft_of q.2.1 q.2.2⟩
  get := by
    rintro w F g d cs nu ⟨v, h, rfl⟩ hn
    exact (get_any g v d cs nu w h hn).mono fun e w' q => ⟨q.1, aft_of (h.below q.2) (Fr.below q.2)⟩
  day := by
    rintro w F g d cs ⟨v, h, rfl⟩
    exact day_any g v d cs w h
  all := by
    rintro w F g d cs ⟨v, h, rfl⟩
    exact all_any g v d cs w h
  copy := by
    rintro w F g d cs ⟨v, h, rfl⟩
    refine (copy_any g v d cs w h).mono ?_
    rintro e w' ⟨g2, v2, rfl, h1, h2, h3⟩
    exact ⟨g2, _, rfl, ⟨v2, h1, rfl⟩, h2, h3⟩
  fromT := by
    intro w A n c d l hr hok hd h0 hn hf
    refine (from_true w A n c d l hr hok hd h0 hn hf).mono ?_
    rintro e w' ⟨g, v, rfl, h1, h2, h3⟩
    exact ⟨g, _, rfl, ⟨v, h1, rfl⟩, h2, h3⟩
  fromF := fun hr hok hd h0 hn hf => from_false _ _ _ _ _ _ hr hok hn hf
  zero := zcal_zero
  nNext := nc_next
  nList := fun ok h => nc_list ok h
  nHalt := nc_halt
  nPub := nc_pub
  nDue := nc_dueT
  nExp := nc_exp
  nDay := nc_day
  nCopy := nc_copy
  nGet := nc_get
  nAll := nc_all
end Go.Proofs.Ytejhnfkljfdejaa
