/- The program's fundsMay. -/
import Derived.Test.YthnmpnepgagmmaaPs
import Derived.Test.YthnmpnepgagmmaaPa
namespace Go.Proofs.Ythnmpnepgagmmaa
open Go.RowKit Go.Shelf
set_option linter.unusedVariables false
set_option linter.unusedSimpArgs false

def negB (n : Int) : Bool := decide (n < 0)
theorem getD_mem {l : List Int} {k : Nat} (h : k < l.length) : l.getD k 0 ∈ l := by
  simp [List.getD, h]
theorem neg_t9 (x : Int) (w : World) : Calls Try.prog 61 #[.int .i64 x] w fun e w' => e = .returned (.bool (negB x)) ∧ w = w' := by
  unfold negB
  go_enter Try.func61, Try.ntmps61
  go_wp2_with fail
  go_ret
  exact ⟨rfl, rfl⟩
set_option maxRecDepth 100000 in
theorem index_i9 (g n c : Nat) (l : List Int) (w : World) (hn : n ≤ 1000) (hl : l.length = n) (hi : ∀ x, x ∈ l → I64 x) (hc : ∀ j, j < n → w.cell? ⟨g, j, none⟩ = some (.int .i64 (l.getD j 0))) :
    Calls Try.prog 71 #[.slice (some ⟨g, 0, none⟩) n c, .func (.func 61) #[] #[]] w fun e w' => e = .returned (.int .i64 (gidx negB l)) ∧ w = w' := by
  have eg : ∀ args w, (callFunc 61 args).run Try.prog w = .ok (.enter 61 args) w := fun args w => by go_simp
  have HC := Lib.hid hc
  have HL := Lib.hid hl
  have HI := Lib.hid hi
  obtain ⟨r, hr1⟩ : ∃ r, gidx negB l = r := ⟨_, rfl⟩
  rw [hr1]
  have R1 := Lib.hid hr1
  clear hr1 hc hl hi
  go_enter Try.func71, Try.ntmps71
  go_wp2_with fail
  go_loop [5, 8] (fun _ i => ∃ k : Nat, k ≤ n ∧ i = .int .i64 k ∧ ∀ (j : Nat) (y : Int), j < k → l[j]? = some y → negB y = false) (fun _ i => n - (intOf i).toNat)
  case atStart => exact ⟨0, Nat.zero_le _, rfl, fun j y hj => absurd hj (Nat.not_lt_zero j)⟩
  case round =>
    obtain ⟨k, hk, rfl, hno⟩ := hrel
    have NO := Lib.hid hno
    clear hno
    by_cases hlt : k < n
    case pos =>
      have hd : decide ((k : Int) < n) = true := decide_eq_true (by omega)
      have hki : (k : Int) < (n : Int) := by omega
      have hkl : k < l.length := by rw [HL.out]; exact hlt
      have HX : Hid (l[k]? = some (l.getD k 0)) := Lib.hid (by simp [List.getD, hkl])
      have ck := HC.out k hlt
      have I := HI.out _ (getD_mem hkl)
      obtain ⟨x, hv⟩ : ∃ x, l.getD k 0 = x := ⟨_, rfl⟩
      rw [hv] at HX ck I
      have C := Lib.hid (neg_t9 x w)
      clear hv hkl I
      cases hpx : negB x
      · rw [hpx] at C
        have PX := Lib.hid hpx
        clear hpx
        go_wp2_with fail
        refine C.out.mono ?_; rintro e w2 ⟨rfl, rfl⟩
        go_wp2_with fail
        go_round
        case rel => exact ⟨k + 1, hlt, by go_num, fun j y hj hy => by
            rcases Nat.lt_or_ge j k with c | c
            · exact NO.out j y c hy
            · obtain rfl : j = k := by omega
              rw [HX.out] at hy; cases hy; exact PX.out⟩
        case measure => simp [intOf]; omega
      · rw [hpx] at C
        have E : Hid (r = (k : Int)) := Lib.hid (by rw [← R1.out, gidx, gidx_hit HX.out hpx NO.out])
        clear hpx
        go_wp2_with fail
        refine C.out.mono ?_; rintro e w2 ⟨rfl, rfl⟩
        go_wp2_with fail
        go_ret
        rw [E.out]
        exact ⟨rfl, rfl⟩
    case neg =>
      obtain rfl : k = n := by omega
      have E : Hid (r = -1) := Lib.hid (by rw [← R1.out, gidx, gidx_miss fun j y hy => NO.out j y (by have := (List.getElem?_eq_some_iff.1 hy).1; have := HL.out; omega) hy])
      go_wp2_with fail
      go_ret
      rw [E.out]
      exact ⟨rfl, rfl⟩
set_option maxRecDepth 100000 in
theorem contains_i9 (g n c : Nat) (l : List Int) (w : World) (hn : n ≤ 1000) (hl : l.length = n) (hi : ∀ x, x ∈ l → I64 x) (hc : ∀ j, j < n → w.cell? ⟨g, j, none⟩ = some (.int .i64 (l.getD j 0))) :
    Calls Try.prog 63 #[.slice (some ⟨g, 0, none⟩) n c, .func (.func 61) #[] #[]] w fun e w' => e = .returned (.bool (l.any negB)) ∧ w = w' := by
  have C := Lib.hid (index_i9 g n c l w hn hl hi hc)
  have E : decide (0 ≤ gidx negB l) = l.any negB := by
    rcases gidx_cases negB l with ⟨e, h⟩ | ⟨k, x, e, hk, hx, hpx, _⟩
    · rw [e, List.any_eq_false.2 fun x hx => by rw [h x hx]; decide]; rfl
    · rw [e, List.any_eq_true.2 ⟨x, List.mem_of_getElem? hx, hpx⟩, decide_eq_true (Int.natCast_nonneg k)]
  rw [← E]
  generalize gidx negB l = r at *
  clear hl hi hc E
  go_enter Try.func63, Try.ntmps63
  go_wp2_with fail
  refine C.out.mono ?_; rintro e w2 ⟨rfl, rfl⟩
  go_wp2_with fail
  go_ret
  exact ⟨rfl, rfl⟩
def EI : Elt Int := ⟨fun n => [.int .i64 n], 1, by decide, fun _ => rfl, fun x u hu => by
  simp only [List.mem_cons, List.not_mem_nil, or_false] at hu
  rcases hu with rfl
  rfl⟩
theorem info_ni : ∃ z by', (Try.prog.info? 2).map (fun i => (i.zero, i.size, i.bytes)) = some (some z, 1, by') ∧ z.cells.size = 1 ∧ by' ≤ 4096 := ⟨.int .i64 0, 8, by kernel_rfl, rfl, by decide⟩
theorem ni_app {w : World} {ops : Array Oper} {rest : List Oper} {o : Oper} {a : Act} {Q : Exit → Act → World → Prop} (hgd : o.guard = none) (s x : Operand)
    (ho : o.op = .call { callee := .builtin .append, args := #[s, x], argTypes := #[95, 95] }) (base : Nat) (v : Value) (xs : List Int) (hs : a.eval s = v)
    (hown : EI.Own 2 w base v xs) (ad : Addr) (m c : Nat) (l : List Int) (hx : a.eval x = .slice (some ad) m c) (hr : EI.Rd w (some ad) m l) (hlen : xs.length + m ≤ 100000) (hbase : base ≤ w.heap.size)
    (h : ∀ v' w', EI.Own 2 w' base v' (xs ++ l) → w.grownBy w' v.ownBlock → (v'.ownBlock = v.ownBlock ∨ v'.ownBlock = some w.heap.size) → wpList Try.prog ops Q rest (a.put o.dst v') w') : wpList Try.prog ops Q (o :: rest) a w := by
  obtain ⟨z, by', hi, hzs, hby⟩ := info_ni
  obtain ⟨i0, hi0, hz0, hz1, hz2⟩ := info_parts hi
  have el : (xs ++ l).length = xs.length + m := by rw [List.length_append, hr.1]
  refine wpList_append_own_at w hgd s x 95 ho base 2 i0 z 1 by' Try.underlying95 hi0 hz0 hz1 hz2 hzs (by decide) v xs.length (EI.flat xs) hs hown ad m c (EI.flat l) hx ?_ (grd_news hr) (gflat_cells _) (by unfold maxLen; omega) ?_ hbase fun v' w' h2 h3 _ h5 => h v' w' (by unfold Elt.Own; rw [el, gflat_app]; exact h2) h3 h5
  · rw [gflat_len, hr.1]; rfl
  · have := Nat.mul_le_mul hlen hby
    omega
theorem own_one9 (w : World) (n : Int) : EI.Own 2 (w.alloc (.cells #[.int .i64 n] 2)) w.heap.size (.slice (some ⟨w.heap.size, 0, none⟩) 1 1) [n] :=
  ⟨rfl, .inr ⟨w.heap.size, 1, #[.int .i64 n], rfl, Nat.le_refl _, heap_alloc_new w _, Nat.le_refl _, by unfold maxLen; omega, rfl, rfl⟩⟩
/-- The funds may be. -/
def fmB (fund : Int) (al : List Ac) : Bool := (decide (0 ≤ fund) && al.all fun a => decide (0 ≤ a.ca)) && decide (fund + cashL al ≤ 1000000000000000)
theorem sm_cash (f : Int) (al : List Ac) : sm (f :: al.map (·.ca)) = f + cashL al := by
  unfold sm cashL
  congr 1
  induction al with
  | nil => rfl
  | cons x t ih => simp [sm, ih]
theorem cash_nn : ∀ {al : List Ac}, (∀ a, a ∈ al → 0 ≤ a.ca) → 0 ≤ cashL al
  | [], _ => Int.le_refl _
  | x :: t, h => by
    have h1 := h x (List.mem_cons_self ..)
    have h2 := cash_nn (al := t) fun a ha => h a (List.mem_cons_of_mem _ ha)
    have e : cashL (x :: t) = x.ca + cashL t := by simp [cashL]
    omega
theorem any_neg (f : Int) (al : List Ac) : (f :: al.map (·.ca)).any negB = !(decide (0 ≤ f) && al.all fun a => decide (0 ≤ a.ca)) := by
  have e : ∀ n : Int, negB n = !decide (0 ≤ n) := fun n => by unfold negB; by_cases h : n < 0 <;> simp [h] <;> omega
  rw [List.any_cons, e]
  induction al with
  | nil => simp
  | cons x t ih => 
    rw [List.map_cons, List.any_cons, List.all_cons, e]
    revert ih
    cases decide (0 ≤ f) <;> cases decide (0 ≤ x.ca) <;> simp
set_option maxRecDepth 100000 in
set_option maxHeartbeats 8000000 in
theorem lfm9 (A : Option Addr) (n c : Nat) (fund : Int) (al : List Ac) (w : World) (h : EA.Rd w A n al) (hf : I64 fund) (hok : ∀ a, a ∈ al → a.ok) (hn : n ≤ 100) :
    Calls Try.prog 47 #[.int .i64 fund, .slice A n c] w fun e w' => e = .returned (.bool (fmB fund al)) ∧ Below w.heap.size w w' := by
  have HR := Lib.hid h
  have hz := zero_ac
  have HN : Hid (al.length = n) := Lib.hid h.1
  have HOK := Lib.hid hok
  have HF := Lib.hid hf
  have o1 := own_one9 w fund
  have q1 := below_new w (.cells #[.int .i64 fund] 2)
  obtain ⟨W1, hW1⟩ : ∃ W1, w.alloc (.cells #[.int .i64 fund] 2) = W1 := ⟨_, rfl⟩
  rw [hW1] at o1 q1
  have O1 := Lib.hid o1
  have Q1 := Lib.hid q1
  have HW1 := Lib.hid hW1
  clear h hok hf o1 q1 hW1
  go_enter Try.func47, Try.ntmps47
  go_wp2_with fail
  try rw [HW1.out]
  go_loopw [5, 15] (fun v i wr => ∃ (k : Nat), k ≤ n ∧ i = .int .i64 k ∧ EI.Own 2 wr w.heap.size v (fund :: (al.take k).map (·.ca)) ∧ Below w.heap.size w wr) (fun _ i _ => n - (intOf i).toNat)
  case atStart => exact ⟨0, Nat.zero_le _, rfl, O1.out, Q1.out⟩
  case round =>
    obtain ⟨k, hk, rfl, hO, hB⟩ := hrel
    have HB := Lib.hid hB
    have HO := Lib.hid hO
    clear hO hB
    have LK : Hid ((fund :: (al.take k).map (·.ca)).length = k + 1) := Lib.hid (by rw [List.length_cons, List.length_map, List.length_take, HN.out]; omega)
    obtain ⟨b, c1, rfl⟩ := gown_slot HO.out (by rw [LK.out]; omega)
    rw [LK.out] at HO ⊢
    by_cases hlt : k < n
    case neg =>
      obtain rfl : k = n := by omega
      have hd : decide ((k : Int) < (k : Int)) = false := by simp
      obtain ⟨zs, hzs⟩ : ∃ zs, fund :: al.map (·.ca) = zs := ⟨_, rfl⟩
      have OZ : Hid (EI.Own 2 wr w.heap.size (.slice (some ⟨b, 0, none⟩) (k + 1) c1) zs) := Lib.hid (by
        have := HO.out
        rw [List.take_of_length_le (by rw [HN.out]; exact Nat.le_refl _), hzs] at this; exact this)
      have ZL : Hid (zs.length = k + 1) := Lib.hid (by rw [← hzs]; simp [HN.out])
      have ZI : Hid (∀ x, x ∈ zs → I64 x) := Lib.hid (fun x hx => by
        rw [← hzs] at hx
        rcases List.mem_cons.1 hx with rfl | hx
        · exact HF.out
        · obtain ⟨a, ha, rfl⟩ := List.mem_map.1 hx
          exact (HOK.out a ha).ca)
      have ZC : Hid (∀ j, j < k + 1 → wr.cell? ⟨b, j, none⟩ = some (.int .i64 (zs.getD j 0))) := Lib.hid (fun j hj => by
        have hx : zs[j]? = some (zs.getD j 0) := by
          have : j < zs.length := by rw [ZL.out]; exact hj
          simp [List.getD, this]
        have := gown_at OZ.out hx (i := 0) (by decide)
        rw [show EI.N = 1 from rfl, Nat.mul_one, Nat.add_zero] at this
        rw [this]; rfl)
      have SU := Lib.hid (sum_any b 0 (k + 1) c1 zs wr ZL.out (by omega) ZI.out (fun j hj => by rw [Nat.zero_add]; exact ZC.out j hj))
      have CN := Lib.hid (contains_i9 b (k + 1) c1 zs wr (by omega) ZL.out ZI.out ZC.out)
      have hs1 := sm_cash fund al
      have hs2 := any_neg fund al
      rw [hzs] at hs1 hs2
      rw [hs1] at SU
      rw [hs2] at CN
      have RES : Hid (∀ t1 : Bool, ∀ S : Int, (decide (0 ≤ fund) && al.all fun a => decide (0 ≤ a.ca)) = t1 → fund + cashL al = S → fmB fund al = (t1 && decide (S ≤ 1000000000000000)) ∧ (t1 = true → 0 ≤ S)) := Lib.hid (fun t1 S e1 e2 => by
        refine ⟨by unfold fmB; rw [e1, e2], fun ht => ?_⟩
        rw [← e1] at ht
        simp only [Bool.and_eq_true, decide_eq_true_eq, List.all_eq_true] at ht
        have := cash_nn ht.2
        omega)
      obtain ⟨t1, ht1⟩ : ∃ t1, (decide (0 ≤ fund) && al.all fun a => decide (0 ≤ a.ca)) = t1 := ⟨_, rfl⟩
      obtain ⟨S, hS⟩ : ∃ S, fund + cashL al = S := ⟨_, rfl⟩
      obtain ⟨r1, r2⟩ := RES.out t1 S ht1 hS
      rw [ht1] at CN
      rw [hS] at SU
      have R1 := Lib.hid r1
      clear hzs ht1 hS r1 hs1 hs2
      go_wp2_with fail
      refine SU.out.mono ?_; rintro e w2 ⟨rfl, rfl⟩
      go_wp2_with fail
      refine CN.out.mono ?_; rintro e w3 ⟨rfl, rfl⟩
      cases t1
      · clear r2
        go_wp2_with fail
        go_ret
        rw [R1.out]
        exact ⟨rfl, HB.out⟩
      · have hS0 := r2 rfl
        clear r2
        by_cases hb : S ≤ 9223372036854775807
        · have e1 : tN S = S := tN_in ⟨by omega, hb⟩
          have e2 : tE S = 0 := tE_in ⟨by omega, hb⟩
          rw [e1, e2]
          clear e1 e2 hb hS0
          go_wp2_with fail
          go_ret
          rw [R1.out]
          exact ⟨by simp, HB.out⟩
        · have e2 : tE S = 6 := tE_out (fun c => hb c.2)
          have R2 : Hid (fmB fund al = false) := Lib.hid (by rw [R1.out, decide_eq_false (by omega)]; rfl)
          rw [e2]
          clear e2 hb hS0
          go_wp2_with fail
          go_ret
          rw [R2.out]
          exact ⟨rfl, HB.out⟩
    case pos =>
      have hd : decide ((k : Int) < n) = true := decide_eq_true (by omega)
      have hki : (k : Int) < (n : Int) := by omega
      obtain ⟨x, hx⟩ : ∃ x, al[k]? = some x := ⟨al[k]'(by have := HN.out; omega), List.getElem?_eq_getElem _⟩
      obtain ⟨b', o, rfl, rg⟩ := grd_rng HR.out hx
      have RG : Hid (wr.rangeAt b' (o + k * 4) (EA.cells x)) := Lib.hid (rng_below rg HB.out (Nat.le_refl _))
      have ET : Hid (fund :: (al.take (k + 1)).map (·.ca) = (fund :: (al.take k).map (·.ca)) ++ [x.ca]) := Lib.hid (by rw [List.take_add_one, hx]; simp)
      obtain ⟨W2, hW2, b2, z2⟩ := newA9 wr
      obtain ⟨W3, hW3⟩ : ∃ W3, W2.setRow wr.heap.size (EA.cells x).toArray = W3 := ⟨_, rfl⟩
      have Z2 := Lib.hid z2
      have HW2 := Lib.hid hW2
      have HW3 := Lib.hid hW3
      have x3 : EA.Bx 33 W3 wr.heap.size x := hW3 ▸ gbx_set z2
      have b3 : Below wr.heap.size wr W3 := by rw [← hW3]; exact below_row0 b2 (Nat.le_refl _)
      have k1 : W3.cell? ⟨wr.heap.size, 1, none⟩ = some (.int .i64 x.ca) := gbx_cell x3 1
      obtain ⟨W4, hW4⟩ : ∃ W4, W3.alloc (.cells #[.int .i64 x.ca] 2) = W4 := ⟨_, rfl⟩
      have b4 : Below W3.heap.size W3 W4 := hW4 ▸ below_new W3 _
      have RD : Hid (EI.Rd W4 (some ⟨W3.heap.size, 0, none⟩) 1 [x.ca]) := Lib.hid (by rw [← hW4]; exact gown_rd (own_one9 W3 x.ca))
      have B4 : Hid (Below wr.heap.size wr W4) := Lib.hid (b3.trans (b4.mono b3.size))
      have O4 : Hid (EI.Own 2 W4 w.heap.size (.slice (some ⟨b, 0, none⟩) (k + 1) c1) (fund :: (al.take k).map (·.ca))) := Lib.hid (gown_below HO.out B4.out)
      have HW4 := Lib.hid hW4
      clear hx rg hW2 z2 hW3 x3 b3 hW4 b4 b2
      go_wp2_with (first | ((with_reducible refine gwl_load TA b' (o + k * 4) RG.out ?_ ?_ ?_); rfl; rfl) | (rw [HW2.out]; refine gwl_store TA x wr.heap.size Z2.out rfl rfl ?_; rw [HW3.out]) | (at_builtin; (try rw [HW4.out]); refine ni_app rfl (.tmp 19) (.tmp 22) rfl w.heap.size _ _ rfl O4.out ⟨W3.heap.size, 0, none⟩ 1 1 [x.ca] rfl RD.out (by rw [LK.out]; omega) (Nat.le_trans HB.out.size B4.out.size) ?_; intro v' w' o1 o2 o3))
      go_roundw
      case rel => exact ⟨k + 1, hlt, by go_num, by rw [ET.out]; exact o1, (HB.out.trans (B4.out.mono HB.out.size)).grown o2 (Nat.le_trans HB.out.size B4.out.size) (fun j hj => (gown_lt HO.out hj).1)⟩
      case measure => simp [intOf]; omega
end Go.Proofs.Ythnmpnepgagmmaa
