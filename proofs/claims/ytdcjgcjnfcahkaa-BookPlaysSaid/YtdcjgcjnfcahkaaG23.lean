/- Contracts of the document's plain book: Mass. -/
import Derived.Test.YtdcjgcjnfcahkaaG13
import Derived.Test.YtdcjgcjnfcahkaaG10
namespace Go.Proofs.Ytdcjgcjnfcahkaa
open Go.RowKit
set_option linter.unusedVariables false

/-- Within Mass: the book, the list of all orders, and those that went. -/
structure MkI (w W : World) (B G : Nat) (g : Bool → Nat) (v0 : Bool → Value) (T : Sd) (vl : Value) (l : List Or) (u : Value) (out : List Or) (v : Bool → Value) : Prop where
  bk : Bk W B G g v T
  fr : Fr (gsB g) w W
  vn : ∀ b k, (v b).ownBlock = some k → (v0 b).ownBlock = some k ∨ w.heap.size ≤ k
  lo : EO.Own 31 W w.heap.size vl l
  uo : EO.Own 31 W w.heap.size u out
  vu : ∀ b k, (v b).ownBlock = some k → u.ownBlock ≠ some k
  vk : ∀ b k, (v b).ownBlock = some k → vl.ownBlock ≠ some k
  ul : ∀ k, u.ownBlock = some k → vl.ownBlock ≠ some k
section
variable {w W W' : World} {B G : Nat} {g : Bool → Nat} {v0 v : Bool → Value} {S T T2 : Sd} {vl u u' : Value} {l out out' : List Or}
theorem own_gB {x : Value} {m : List Or} {N : Nat} (h : Bk W B G g v T) (o : EO.Own 31 W N x m) {k : Nat} (hk : x.ownBlock = some k) : k ≠ G ∧ ∀ b, k ≠ g b := by
  obtain ⟨cur, e⟩ := gown_cells o hk
  refine ⟨?_, fun b => ?_⟩
  · rintro rfl
    rw [h.blk] at e
    injection e with e
    injection e with _ e
    exact absurd e (by decide)
  · rintro rfl
    rw [(h.ps b).side] at e
    injection e with e
    injection e with _ e
    exact absurd e (by decide)
theorem MkI.start (h : Bk w B G g v S) (q : Below w.heap.size w W) (o : EO.Own 31 W w.heap.size vl l) : MkI w W B G g v S vl l (.slice none 0 0) [] v :=
  ⟨h.below q, Fr.below q, fun _ _ h => .inl h, o, gown_nil _ _, (fun _ _ _ e => by cases e), (fun b k hk e => by have := h.vlt hk; have := (gown_lt o e).1; omega), fun _ e => by cases e⟩
theorem MkI.app (h : MkI w W B G g v0 T vl l u out v) (o : EO.Own 31 W' w.heap.size u' out') (f : Fr (fun k => u.ownBlock = some k) W W') (hu : ∀ k, u'.ownBlock = some k → u.ownBlock = some k ∨ W.heap.size ≤ k) : MkI w W' B G g v0 T vl l u' out' v :=
  ⟨h.bk.keep f (fun e => (own_gB h.bk h.uo e).1 rfl) (fun b e => (own_gB h.bk h.uo e).2 b rfl) (fun b k hk e => h.vu b k hk e), h.fr.trans f (fun _ h => h) (fun k hk e => by have := (gown_lt h.uo e).1; omega), h.vn,
    gown_fr h.lo f (fun k hk e => h.ul k e hk), o, fun b k hk e => by
      rcases hu k e with c | c
      · exact h.vu b k hk c
      · have := h.bk.vlt hk; omega, h.vk, fun k e hk => by
      rcases hu k e with c | c
      · exact h.ul k c hk
      · have := (gown_lt h.lo hk).2; omega⟩
theorem MkI.drop (h : MkI w W B G g v0 T vl l u out v) (q : BkN W B G g v T2 W') : ∃ v2, MkI w W' B G g v0 T2 vl l u out v2 := by
  obtain ⟨v2, k1, k2, k3⟩ := q
  refine ⟨v2, k1, h.fr.same k2, fun b k hk => ?_, gown_fr h.lo k2 (fun k hk ⟨b, e⟩ => (own_gB h.bk h.lo hk).2 b e), gown_fr h.uo k2 (fun k hk ⟨b, e⟩ => (own_gB h.bk h.uo hk).2 b e), fun b k hk e => ?_, fun b k hk e => ?_, h.ul⟩
  · rcases k3 b k hk with c | c
    · exact h.vn b k c
    · exact .inr (Nat.le_trans h.fr.size c)
  · rcases k3 b k hk with c | c
    · exact h.vu b k c e
    · have := (gown_lt h.uo e).2; omega
  · rcases k3 b k hk with c | c
    · exact h.vk b k c e
    · have := (gown_lt h.lo e).2; omega
theorem MkI.drew (h : MkI w W B G g v0 T vl l u out v) : MkI w W.drew B G g v0 T vl l u out v := by
  obtain ⟨v2, q⟩ : ∃ v2, v2 = v := ⟨_, rfl⟩
  have f : Fr (fun _ => False) W W.drew := Fr.below (Below.refl _ _).drew
  exact ⟨h.bk.keep f (fun h => h) (fun _ h => h) (fun _ _ _ h => h), h.fr.same (f.mono (fun _ h => h.elim)), h.vn, gown_fr h.lo f (fun _ _ h => h), gown_fr h.uo f (fun _ _ h => h), h.vu, h.vk, h.ul⟩
end
theorem filt_snoc (a : Int) (l : List Or) {k : Nat} {x : Or} (hx : l[k]? = some x) : (l.take (k + 1)).filter (ofAc a) = (l.take k).filter (ofAc a) ++ if ofAc a x then [x] else [] := by
  rw [List.take_add_one, hx, Option.toList_some, List.filter_append]
  congr 1
  cases c : ofAc a x <;> simp [c]
set_option maxRecDepth 100000 in
set_option maxHeartbeats 4000000 in
theorem bmass_any {B G : Nat} {g : Bool → Nat} {v : Bool → Value} {S : Sd} {a : Int} (w : World) (h : Bk w B G g v S) (ha : 0 ≤ a ∧ a ≤ 4294967295) :
    Calls Try.prog 37 #[.pointer (some ⟨G, 0, none⟩), .int .u32 a] w fun e w' => ∃ u, e = .returned u ∧ EO.Own 31 w' w.heap.size u (massX S a) ∧ ∃ v2, Bk w' B G g v2 (massF a S S.all) ∧ Fr (gsB g) w w' ∧ (∀ b k, (v2 b).ownBlock = some k → (v b).ownBlock = some k ∨ w.heap.size ≤ k) ∧ ∀ b k, (v2 b).ownBlock = some k → u.ownBlock ≠ some k := by
  have PA := Lib.hid (ball_any w h)
  have HH := Lib.hid h
  have LE : Hid (∀ x, x ∈ S.all → x.ok) := Lib.hid (fun x hx => by
    rcases List.mem_append.1 hx with hx | hx
    · exact ((h.ps _).facts.2 x hx).1
    · exact ((h.ps _).facts.2 x hx).1)
  have hle : S.all.length ≤ 200 := by
    have := (h.ps true).facts.1
    have := (h.ps false).facts.1
    show (S true ++ S false).length ≤ 200
    rw [List.length_append]; omega
  obtain ⟨a1, a2⟩ := ha
  unfold massX
  obtain ⟨l, hl⟩ : ∃ l, S.all = l := ⟨_, rfl⟩
  rw [hl] at PA LE hle ⊢
  obtain ⟨m, hm⟩ : ∃ m, l.length = m := ⟨_, rfl⟩
  have HL := Lib.hid hm
  rw [hm] at hle
  clear h hl hm
  go_enter Try.func37, Try.ntmps37
  go_wp2_with fail
  refine PA.out.mono ?_; rintro e w1 ⟨v1, rfl, o1, q1⟩
  have M0 := Lib.hid (MkI.start HH.out q1 o1)
  obtain ⟨A1, c1, rfl, n1⟩ := gown_form o1
  rw [HL.out] at M0 ⊢
  clear o1 q1 PA
  go_wp2_with fail
  go_loopw [5, 7] (fun u i wr => ∃ (k : Nat) (v2 : Bool → Value), k ≤ m ∧ i = .int .i64 k ∧ MkI w wr B G g v (massF a S (l.take k)) (.slice A1 m c1) l u ((l.take k).filter (ofAc a)) v2) (fun _ i _ => m - (intOf i).toNat)
  case atStart => exact ⟨0, v, Nat.zero_le _, rfl, M0.out⟩
  case round =>
    obtain ⟨k, v2, hk, rfl, hM⟩ := hrel
    have M := Lib.hid hM
    obtain ⟨Au, cu, rfl, nu⟩ := gown_form hM.uo
    clear hM
    have htl : ((l.take k).filter (ofAc a)).length ≤ 200 := by have := HL.out; have := List.length_filter_le (ofAc a) (l.take k); rw [List.length_take] at this; omega
    by_cases hlt : k < m
    case neg =>
      obtain rfl : k = m := by omega
      have E : Hid (l.take k = l) := Lib.hid (List.take_of_length_le (by rw [HL.out]; exact Nat.le_refl _))
      have hd : decide ((k : Int) < k) = false := decide_eq_false (by omega)
      rw [E.out] at M ⊢
      go_wp2_with fail
      go_ret
      exact ⟨_, rfl, M.out.uo, v2, M.out.bk, M.out.fr, M.out.vn, M.out.vu⟩
    case pos =>
      have hd : decide ((k : Int) < m) = true := decide_eq_true (by omega)
      have hki : (k : Int) < (m : Int) := by omega
      obtain ⟨x, hx⟩ : ∃ x, l[k]? = some x := ⟨l[k]'(by rw [HL.out]; exact hlt), List.getElem?_eq_getElem _⟩
      have own := M.out.lo
      rw [← HL.out] at own
      obtain ⟨b, c', eb⟩ := gown_slot own (by have := HL.out; omega)
      injection eb with e1 _ e2
      subst e1 e2
      have RG : Hid (wr.rangeAt b (k * 5) (EO.cells x)) := Lib.hid (gown_rng own hx)
      have d1 : wr.cell? ⟨b, k * 5 + 1, none⟩ = some (.int .u32 x.ac) := gown_at own hx (i := 1) (by decide)
      have S1 := Lib.hid (massF_snoc a S l hx)
      have S2 := Lib.hid (filt_snoc a l hx)
      have HX := Lib.hid hx
      have xo := LE.out x (List.mem_of_getElem? hx)
      obtain ⟨a3, a4⟩ := xo.ac
      have XO := Lib.hid xo
      clear hx own xo
      cases hc : ofAc a x
      · rw [hc] at S1 S2
        unfold ofAc at hc
        obtain ⟨hc1, hc2⟩ := Bool.or_eq_false_iff.1 hc
        go_wp2_with fail
        go_roundw
        case rel => exact ⟨k + 1, v2, hlt, by go_num, by rw [S1.out, S2.out]; simpa using M.out⟩
        case measure => simp [intOf]; omega
      · rw [hc] at S1 S2
        rw [if_pos rfl] at S1 S2
        have hc' : (a == 0) = true ∨ (a == 0) = false ∧ (x.ac == a) = true := by
          unfold ofAc at hc
          cases h1 : (a == 0)
          · rw [h1] at hc; exact .inr ⟨rfl, hc⟩
          · exact .inl rfl
        clear hc
        have OW : Hid (EO.Own 31 (wr.alloc (.cells (EO.cells x).toArray 31)) w.heap.size (.slice Au ((l.take k).filter (ofAc a)).length cu) ((l.take k).filter (ofAc a))) := Lib.hid (gown_below M.out.uo (below_new wr _))
        have RX := Lib.hid (gbx_rd (gbx_new (E := EO) (te := 31) wr x))
        have SZ : Hid (w.heap.size ≤ wr.heap.size) := Lib.hid M.out.fr.size
        obtain ⟨T, hT⟩ : ∃ T, massF a S (l.take k) = T := ⟨_, rfl⟩
        obtain ⟨out, hout⟩ : ∃ out, (l.take k).filter (ofAc a) = out := ⟨_, rfl⟩
        rw [hT] at S1 M
        rw [hout] at S2 M OW htl ⊢
        obtain ⟨n, hn⟩ : ∃ n, out.length = n := ⟨_, rfl⟩
        rw [hn] at M OW htl ⊢
        have HN := Lib.hid hn
        clear hT hout hn
        obtain ⟨bx, hbx⟩ : ∃ bx, x.bu = bx := ⟨_, rfl⟩
        have HBX := Lib.hid hbx
        clear hbx
        rcases hc' with h1 | ⟨h1, h2⟩
        all_goals
          go_wp2_with (first
            | ((with_reducible refine gwl_load TO b (k * 5) RG.out ?_ ?_ ?_); rfl; rfl)
            | (refine gwl_bs TO (s := x) rfl (fill_or x) ?_ (by decide))
            | (at_builtin; refine gpl_app TO rfl (.tmp 27) (.tmp 32) rfl w.heap.size (.slice Au n cu) out rfl OW.out (some ⟨wr.heap.size, 0, none⟩) 1 1 [x] rfl RX.out (fun e => by cases e) (by have := HN.out; omega) (by have := SZ.out; simp; omega) ?_; intro u2 w2 o2 g2 a5; obtain ⟨A2, n2, c2, rfl⟩ := gown_any o2; have M2 := Lib.hid (M.out.app o2 ((Fr.below (below_new wr _)).same (Fr.grown g2 (fun k e => e))) (fun k e => by rcases a5 with c | c; exact .inl (c ▸ e); rw [c] at e; injection e with e; simp at e; exact .inr (by omega))); clear o2 g2 a5))
          obtain ⟨SS, hSS⟩ : ∃ SS : World → Prop, SS = fun U => U = w2.drew ∨ ∃ v3, MkI w U B G g v (T.up bx (dropO (T bx) x.nu)) (.slice (some ⟨b, 0, none⟩) m c1) l (.slice A2 n2 c2) (out ++ [x]) v3 := ⟨_, rfl⟩
          have lo : ∀ U, SS U → EO.Own 31 U w.heap.size (.slice (some ⟨b, 0, none⟩) m c1) l := fun U hU => by
            rw [hSS] at hU
            rcases hU with rfl | ⟨v3, q⟩
            · exact M2.out.drew.lo
            · exact q.lo
          have K2 : Hid (∀ U, SS U → U.cell? ⟨b, k * 5 + 2, none⟩ = some (.bool bx)) := Lib.hid fun U hU => by
            have o := lo U hU
            rw [← HL.out] at o
            rw [← HBX.out]
            exact gown_at o HX.out (i := 2) (by decide)
          have K0 : Hid (∀ U, SS U → U.cell? ⟨b, k * 5, none⟩ = some (.int .u64 x.nu)) := Lib.hid fun U hU => by
            have o := lo U hU
            rw [← HL.out] at o
            exact gown_at o HX.out (i := 0) (by decide)
          have S0 : SS w2.drew := by rw [hSS]; exact .inl rfl
          have SE := Lib.hid hSS
          clear lo hSS
          refine wp_region_held_drew (S := SS) (by kernel_rfl) S0 (fun hH => ?_)
          refine wpAnyH_take (i := 0) (v := .pointer (some ⟨G, 0, none⟩)) rfl (by kernel_rfl) (by kernel_rfl) (by kernel_rfl) (fun _ _ _ h => h) (.inl ⟨by rfl, ?_⟩) (by assumption) ?_
          · intro W hW; go_simp
          try simp only [List.getElem_toArray, List.getElem_cons_zero, Act.put, List.setIfInBounds_toArray, List.set_cons_zero, List.set_cons_succ]
          refine wpAnyH_take (i := 1) (v := .slice (some ⟨b, 0, none⟩) m c1) rfl (by kernel_rfl) (by kernel_rfl) (by kernel_rfl) (fun _ _ _ h => h) (.inl ⟨by rfl, ?_⟩) (by assumption) ?_
          · intro W hW; go_simp
          try simp only [List.getElem_toArray, List.getElem_cons_zero, List.getElem_cons_succ, Act.put, List.setIfInBounds_toArray, List.set_cons_zero, List.set_cons_succ]
          refine wpAnyH_take (i := 2) (v := .int .i64 k) rfl (by kernel_rfl) (by kernel_rfl) (by kernel_rfl) (fun _ _ _ h => h) (.inl ⟨by rfl, ?_⟩) (by assumption) ?_
          · intro W hW; go_simp
          try simp only [List.getElem_toArray, List.getElem_cons_zero, List.getElem_cons_succ, Act.put, List.setIfInBounds_toArray, List.set_cons_zero, List.set_cons_succ]
          refine wpAnyH_take (i := 3) (v := .pointer (some ⟨b, k * 5, none⟩)) rfl (by kernel_rfl) (by kernel_rfl) (by kernel_rfl) (fun _ _ _ h => h) (.inl ⟨by rfl, ?_⟩) (by assumption) ?_
          · intro W hW; go_simp
          try simp only [List.getElem_toArray, List.getElem_cons_zero, List.getElem_cons_succ, Act.put, List.setIfInBounds_toArray, List.set_cons_zero, List.set_cons_succ]
          refine wpAnyH_take (i := 4) (v := .pointer (some ⟨b, k * 5 + 2, none⟩)) rfl (by kernel_rfl) (by kernel_rfl) (by kernel_rfl) (fun _ _ _ h => h) (.inl ⟨by rfl, ?_⟩) (by assumption) ?_
          · intro W hW; go_simp
          try simp only [List.getElem_toArray, List.getElem_cons_zero, List.getElem_cons_succ, Act.put, List.setIfInBounds_toArray, List.set_cons_zero, List.set_cons_succ]
          refine wpAnyH_take (i := 5) (v := .bool bx) rfl (by kernel_rfl) (by kernel_rfl) (by kernel_rfl) (fun _ _ _ h => h) (.inl ⟨by rfl, ?_⟩) (by assumption) ?_
          · intro W hW; have k2 := K2.out W hW; go_simp
          try simp only [List.getElem_toArray, List.getElem_cons_zero, List.getElem_cons_succ, Act.put, List.setIfInBounds_toArray, List.set_cons_zero, List.set_cons_succ]
          refine wpAnyH_take (i := 7) (v := .slice (some ⟨b, 0, none⟩) m c1) rfl (by kernel_rfl) (by kernel_rfl) (by kernel_rfl) (fun _ _ _ h => h) (.inl ⟨by rfl, ?_⟩) (by assumption) ?_
          · intro W hW; go_simp
          try simp only [List.getElem_toArray, List.getElem_cons_zero, List.getElem_cons_succ, Act.put, List.setIfInBounds_toArray, List.set_cons_zero, List.set_cons_succ]
          refine wpAnyH_take (i := 8) (v := .int .i64 k) rfl (by kernel_rfl) (by kernel_rfl) (by kernel_rfl) (fun _ _ _ h => h) (.inl ⟨by rfl, ?_⟩) (by assumption) ?_
          · intro W hW; go_simp
          try simp only [List.getElem_toArray, List.getElem_cons_zero, List.getElem_cons_succ, Act.put, List.setIfInBounds_toArray, List.set_cons_zero, List.set_cons_succ]
          refine wpAnyH_take (i := 9) (v := .pointer (some ⟨b, k * 5, none⟩)) rfl (by kernel_rfl) (by kernel_rfl) (by kernel_rfl) (fun _ _ _ h => h) (.inl ⟨by rfl, ?_⟩) (by assumption) ?_
          · intro W hW; go_simp
          try simp only [List.getElem_toArray, List.getElem_cons_zero, List.getElem_cons_succ, Act.put, List.setIfInBounds_toArray, List.set_cons_zero, List.set_cons_succ]
          refine wpAnyH_take (i := 10) (v := .pointer (some ⟨b, k * 5, none⟩)) rfl (by kernel_rfl) (by kernel_rfl) (by kernel_rfl) (fun _ _ _ h => h) (.inl ⟨by rfl, ?_⟩) (by assumption) ?_
          · intro W hW; go_simp
          try simp only [List.getElem_toArray, List.getElem_cons_zero, List.getElem_cons_succ, Act.put, List.setIfInBounds_toArray, List.set_cons_zero, List.set_cons_succ]
          refine wpAnyH_take (i := 11) (v := .int .u64 x.nu) rfl (by kernel_rfl) (by kernel_rfl) (by kernel_rfl) (fun _ _ _ h => h) (.inl ⟨by rfl, ?_⟩) (by assumption) ?_
          · intro W hW; have k0 := K0.out W hW; go_simp
          try simp only [List.getElem_toArray, List.getElem_cons_zero, List.getElem_cons_succ, Act.put, List.setIfInBounds_toArray, List.set_cons_zero, List.set_cons_succ]
          refine wpAnyH_ready (rs := [6]) (by decide +kernel) (by simp) (AllReadyH.cons rfl (fun KQ hK => ?_) AllReadyH.nil)
          go_simp
          refine (bown_any bx _ M2.out.drew.bk).mono ?_; rintro e0 W2 ⟨rfl, rfl⟩
          refine hK.out _ _ hH (fun _ => ?_)
          clear hK
          try simp only [List.setIfInBounds_toArray, List.set_cons_zero, List.set_cons_succ]
          refine wpAnyH_ready (rs := [12]) (by decide +kernel) (by simp) (AllReadyH.cons rfl (fun KQ hK => ?_) AllReadyH.nil)
          go_simp
          refine (pdrop (M2.out.drew.bk.ps bx) XO.out.nu).mono ?_; rintro e0 W3 ⟨rfl, q3⟩
          have M3 := M2.out.drew.drop (M2.out.drew.bk.turn q3)
          refine hK.out _ _ (by rw [SE.out]; exact .inr M3) (fun _ => ?_)
          clear hK hH q3
          try simp only [List.setIfInBounds_toArray, List.set_cons_zero, List.set_cons_succ]
          refine wpAnyH_done (by decide +kernel) ?_ _
          obtain ⟨v3, m3⟩ := M3
          have M3 := Lib.hid m3
          clear m3
          go_wp2_with fail
          go_roundw
          case rel => exact ⟨k + 1, v3, hlt, by go_num, by rw [S1.out, S2.out, HBX.out]; exact M3.out⟩
          case measure => simp [intOf]; omega
end Go.Proofs.Ytdcjgcjnfcahkaa
