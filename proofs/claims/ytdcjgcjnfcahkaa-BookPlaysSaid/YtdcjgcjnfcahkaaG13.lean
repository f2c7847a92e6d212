/- Texts of a proof, laid together: Ig, Be, Bf, Ip. -/
import Derived.Test.YtdcjgcjnfcahkaaG12
import Derived.Test.YtdcjgcjnfcahkaaG08
/- The program's book: Cancel, Replace. -/
namespace Go.Proofs.Ytdcjgcjnfcahkaa
open Go.RowKit Go.Shelf
set_option linter.unusedVariables false
set_option linter.unusedSimpArgs false

section
variable {Pd : PdT} {zs : Array Value} {w X W5 W6 : World} {G : Nat} {g : Bool → Nat} {F F5 : Bool → Nat → Prop} {S T : Sd} {t t' : Nat} {cs : Array Value} {p : Px} {td : List Td} {gn : List Int} {R : Nat}
theorem Bp.bu (K : SideK Pd zs) (h : Bp Pd w G g F S t) : ∀ b x, x ∈ S b → x.bu = b := fun b x hx => ((h.inv K b).may x hx).2
theorem Bp.flt (K : SideK Pd zs) (h : Bp Pd w G g F S t) (b : Bool) {k : Nat} (hk : F b k) : k < w.heap.size := h.lt K (.inr ⟨b, hk⟩)
/-- The result's cell is written. -/
theorem bpn_res (K : SideK Pd zs) (h : Bp Pd w G g F S t) (q : Below w.heap.size w X) (hX : w.heap.size < X.heap.size) (hN : BpN Pd X G g F T t' W5) : BpN Pd w G g F T t' (W5.setRow w.heap.size cs) := by
  obtain ⟨F', k1, k2, k3⟩ := hN
  have f : Fr (fun k => k = w.heap.size) W5 (W5.setRow w.heap.size cs) := fr_row (S := fun k => k = w.heap.size) rfl cs
  refine ⟨F', k1.keep K f (fun k hk e => ?_), ((Fr.below q).same k2).trans f (fun _ h => h) (fun k hk e => by omega), fun b k hk => ?_⟩
  · rcases hk with rfl | ⟨b, hk⟩
    · have := h.gl; omega
    · rcases k3 b k hk with c | c
      · have := h.flt K b c; omega
      · omega
  · rcases k3 b k hk with c | c
    · exact .inl c
    · exact .inr (by omega)
theorem stays {Q : Nat → Prop} {k : Nat} {o : Obj} (f : Fr Q X W5) (e : X.heap[k]? = some o) (hQ : ¬ Q k) : W5.heap[k]? = some o := (f.at' k (Array.getElem?_eq_some_iff.1 e).1 hQ).trans e
theorem bpp_comp (K : SideK Pd zs) (hb : Bp Pd w G g F S t) (hf : Fr (fun k => ∃ b, F b k) w W5) (h5 : ∀ b k, F5 b k → F b k ∨ w.heap.size ≤ k) (h2 : BpP Pd W5 G g F5 T t' p td gn W6) (hR : w.heap.size ≤ R) (hR5 : R < W5.heap.size) (hRF : ∀ b, ¬ F5 b R) : BpP Pd w G g F T t' p td gn (W6.setRow R cs) := by
  obtain ⟨F6, k1, k2, k3, k4, k5⟩ := h2
  have f : Fr (fun k => k = R) W6 (W6.setRow R cs) := fr_row (S := fun k => k = R) rfl cs
  have n6 : ∀ b, ¬ F6 b R := fun b c => by
    rcases k3 b R c with d | d
    · exact hRF b d
    · omega
  refine ⟨F6, k1.keep K f (fun k hk e => ?_), ((hf.trans k2 (fun _ h => h) (fun k hk ⟨b, c⟩ => ?_)).trans f (fun _ h => h) (fun k hk e => by omega)), fun b k hk => ?_, (k4.fr f (fun k hk e => by have := (k4.lt hk).1; omega)).low hf.size, k5⟩
  · rcases hk with rfl | ⟨b, hk⟩
    · have := hb.gl; omega
    · exact n6 b (e ▸ hk)
  · rcases h5 b k c with d | d
    · exact ⟨b, d⟩
    · omega
  · rcases k3 b k hk with d | d
    · exact h5 b k d
    · exact .inr (Nat.le_trans hf.size d)
end
section
variable {Pd : PdT} {zs : Array Value} {G : Nat} {g : Bool → Nat} {F : Bool → Nat → Prop} {S : Sd} {t : Nat}
set_option maxRecDepth 100000 in
set_option maxHeartbeats 2000000 in
theorem pcan_any (K : SideK Pd zs) {n : Int} (w : World) (h : Bp Pd w G g F S t) (hn : U64' n) :
    Calls Try.prog 21 #[.pointer (some ⟨G, 0, none⟩), .int .u64 n] w fun e w' => e = .returned (.tuple #[.agg (EO.cells (takeX S n)).toArray, .int .i64 (takeA S n)]) ∧ BpN Pd w G g F (cancS S n) t w' := by
  have hz := zero_or
  have KH := Lib.hid K
  obtain ⟨W1, hW1, b1, x1, s1⟩ := res_new w
  have h1 := h.below K b1
  have PA := Lib.hid (pbget_any K W1 h1 hn)
  have HW := Lib.hid hW1
  have HH := Lib.hid h
  have H1 := Lib.hid h1
  have X1 := Lib.hid x1
  have B1 := Lib.hid b1
  have S1 := Lib.hid s1
  have hbu := h.bu K
  clear K h h1 x1 b1 hW1 s1
  rcases take_cases S n with ⟨e1, e2, e3⟩ | ⟨o, e1, e2, e3⟩
  · have e4 : cancS S n = S := by unfold cancS; rw [e1]
    rw [e2, e3] at PA ⊢
    rw [e4]
    clear e1 e2 e3 e4
    go_enter Try.func21, Try.ntmps21
    go_wp2_with fail
    rw [HW.out]
    refine PA.out.mono ?_; rintro e w2 ⟨rfl, q2⟩
    obtain ⟨V, hV, bV, yV, zV, sV⟩ := put_or zeroOr q2
    have HV := Lib.hid hV
    have ZV := Lib.hid zV
    have XV := Lib.hid (gbx_below X1.out bV)
    have BV := Lib.hid (B1.out.trans (bV.mono B1.out.size))
    clear q2 hV bV yV zV sV
    go_wp2_with (first | (refine gwl_store TO zeroOr w2.heap.size ZV.out rfl rfl ?_; rw [HV.out]) | (refine gwl_build0 built_or ?_) | (refine gwl_store TO zeroOr w.heap.size XV.out rfl rfl ?_))
    exact bodyPost_ret (gret TO rfl _ _ w.heap.size rfl rfl (gbx_set XV.out)) rfl ⟨rfl, bpn_same KH.out HH.out (row_inO (Nat.le_refl _) BV.out)⟩
  · have e4 : cancS S n = S.up o.bu (dropO (S o.bu) n) := by unfold cancS; rw [e1]
    have e5 := find_side hbu e1
    rw [e2, e3] at PA ⊢
    rw [e4]
    have ex : getX (S o.bu) n = o := by unfold getX; rw [e5]; rfl
    have ea : getA (S o.bu) n = 0 := by unfold getA; rw [e5]
    have PD := Lib.hid fun (W : World) (q : Bp Pd W G g F S t) => KH.out.drop (q.pd o.bu) hn
    rw [ex, ea] at PD
    clear e1 e2 e3 e4 e5 ex ea
    obtain ⟨bo, hbo⟩ : ∃ bo, o.bu = bo := ⟨_, rfl⟩
    have HBO := Lib.hid hbo
    rw [hbo] at PD ⊢
    clear hbo
    go_enter Try.func21, Try.ntmps21
    go_wp2_with fail
    rw [HW.out]
    refine PA.out.mono ?_; rintro e w2 ⟨rfl, q2⟩
    obtain ⟨V, hV, bV, yV, zV, sV⟩ := put_or o q2
    have HV := Lib.hid hV
    have ZV := Lib.hid zV
    have XV := Lib.hid (gbx_below X1.out bV)
    have BV := Lib.hid (B1.out.trans (bV.mono B1.out.size))
    have HB := Lib.hid (H1.out.below KH.out bV)
    have cb : V.cell? ⟨w2.heap.size, 2, none⟩ = some (.bool bo) := by rw [gbx_cell yV, ← HBO.out]; rfl
    clear q2 hV bV yV zV sV
    go_wp2_with (refine gwl_store TO o w2.heap.size ZV.out rfl rfl ?_; rw [HV.out])
    refine (pside_any bo HB.out).mono ?_; rintro e w4 ⟨rfl, rfl⟩
    go_wp2_with fail
    refine (PD.out _ HB.out).mono ?_; rintro e w5 ⟨rfl, q5⟩
    have XZ : EO.Bx 31 w5 w.heap.size zeroOr := by
      obtain ⟨_, _, f, _⟩ := q5
      exact stays f XV.out (fun c => by have := HH.out.flt KH.out bo c; omega)
    have X5 := Lib.hid XZ
    have N5 := Lib.hid (HB.out.turn KH.out (Nat.le_refl _) q5)
    have SV : Hid (w.heap.size < V.heap.size) := Lib.hid (Array.getElem?_eq_some_iff.1 XV.out).1
    clear q5 XZ
    go_wp2_with (refine gwl_store TO o w.heap.size X5.out rfl rfl ?_)
    exact bodyPost_ret (gret TO rfl _ _ w.heap.size rfl rfl (gbx_set X5.out)) rfl ⟨rfl, bpn_res KH.out HH.out BV.out SV.out N5.out⟩
end
section
variable {S : Sd} {o : Or} {n p l : Int}
theorem may_at (hm : mayO o = true) : mayO (o.at p l) = !decide (p < 1 ∨ 10000000 < p ∨ l < 1 ∨ 1000000 < l) := by
  have h := may_le hm
  have e : mayO (o.at p l) = (decide (0 < o.nu) && decide (0 < o.ac) && decide (0 < p) && decide (p ≤ 10000000) && decide (0 < l) && decide (l ≤ 1000000)) := rfl
  rw [e, decide_eq_true h.1, decide_eq_true h.2.1]
  by_cases c : p < 1 ∨ 10000000 < p ∨ l < 1 ∨ 1000000 < l
  · rw [decide_eq_true c]
    simp only [Bool.true_and, Bool.not_true, Bool.and_eq_false_iff, decide_eq_false_iff_not]
    omega
  · rw [decide_eq_false c]
    simp only [Bool.true_and, Bool.not_false, Bool.and_eq_true, decide_eq_true_eq]
    omega
theorem drop_less {os : List Or} {x : Or} (hx : x ∈ os) (hn : x.nu = n) : (dropO os n).length < os.length := by
  unfold dropO
  refine List.length_filter_lt_length_iff_exists.2 ⟨x, hx, ?_⟩
  simpa using hn
theorem repl_none (h : findB S n = none) : replA S n p l = 7 ∧ replP S n p l = zeroPl ∧ replS S n p l = S := by unfold replA replP replS; rw [h]; exact ⟨rfl, rfl, rfl⟩
theorem repl_arg (h : findB S n = some o) (c : p < 1 ∨ 10000000 < p ∨ l < 1 ∨ 1000000 < l) : replA S n p l = 2 ∧ replP S n p l = zeroPl ∧ replS S n p l = S := by
  unfold replA replP replS; rw [h]; exact ⟨if_pos c, if_pos c, if_pos c⟩
theorem repl_keep (h : findB S n = some o) (c : ¬ (p < 1 ∨ 10000000 < p ∨ l < 1 ∨ 1000000 < l)) (k : p = o.pr ∧ l ≤ o.le) : replA S n p l = 0 ∧ replP S n p l = ⟨[], [], 0, l⟩ ∧ replS S n p l = S.up o.bu (lowO (S o.bu) n l) := by
  unfold replA replP replS; rw [h]; exact ⟨if_neg c, (if_neg c).trans (if_pos k), (if_neg c).trans (if_pos k)⟩
theorem repl_new (iv : InvB S) (h : findB S n = some o) (c : ¬ (p < 1 ∨ 10000000 < p ∨ l < 1 ∨ 1000000 < l)) (k : ¬ (p = o.pr ∧ l ≤ o.le)) :
    replA S n p l = 0 ∧ placeA (S.up o.bu (dropO (S o.bu) n)) (o.at p l) 1 = 0 ∧ replP S n p l = placeP (S.up o.bu (dropO (S o.bu) n)) (o.at p l) 1 ∧ replS S n p l = placeS (S.up o.bu (dropO (S o.bu) n)) (o.at p l) 1 := by
  obtain ⟨hx, hn⟩ := iv.own h
  have hm := ((iv.inv o.bu).may o hx).1
  have m2 : mayO (o.at p l) = true := by rw [may_at hm, decide_eq_false c]; rfl
  have free := iv.free h
  have fn : takeA (S.up o.bu (dropO (S o.bu) n)) (o.at p l).nu = 7 := by
    have : findB (S.up o.bu (dropO (S o.bu) n)) (o.at p l).nu = none := by
      cases hf : findB (S.up o.bu (dropO (S o.bu) n)) (o.at p l).nu with
      | none => rfl
      | some y =>
        obtain ⟨b, hy, e⟩ := findB_some hf
        exact absurd (e.trans hn) (free b y hy)
    unfold takeA
    rw [this]
  have len : ((S.up o.bu (dropO (S o.bu) n)) (o.at p l).bu).length < 100 := by
    show ((S.up o.bu (dropO (S o.bu) n)) o.bu).length < 100
    rw [Sd.up_at]
    have := drop_less hx hn
    have := (iv.inv o.bu).len
    omega
  have pa : placeA (S.up o.bu (dropO (S o.bu) n)) (o.at p l) 1 = 0 := by
    rw [pa_else m2 rfl fn, if_neg (by omega), if_neg (by omega), if_neg (by omega)]
  obtain ⟨a1, a2⟩ := pa_yes pa
  rw [a1, a2]
  unfold replA replP replS
  rw [h]
  exact ⟨if_neg c, pa, (if_neg c).trans (if_neg k), (if_neg c).trans (if_neg k)⟩
end
end Go.Proofs.Ytdcjgcjnfcahkaa
/- Contracts of the document's plain book: All. -/
namespace Go.Proofs.Ytdcjgcjnfcahkaa
open Go.RowKit
set_option linter.unusedVariables false

set_option maxRecDepth 100000 in
set_option maxHeartbeats 1000000 in
theorem ball_any {B G : Nat} {g : Bool → Nat} {v : Bool → Value} {S : Sd} (w : World) (h : Bk w B G g v S) :
    Calls Try.prog 18 #[.pointer (some ⟨G, 0, none⟩)] w fun e w' => ∃ v', e = .returned v' ∧ EO.Own 31 w' w.heap.size v' S.all ∧ Below w.heap.size w w' := by
  have b0 := below_new w (.cells #[] 31)
  have B0 := Lib.hid b0
  have O0 : Hid (EO.Own 31 (w.alloc (.cells #[] 31)) w.heap.size (.slice (some ⟨w.heap.size, 0, none⟩) 0 0) []) := Lib.hid (gown_new w)
  have k0 := (h.below b0).c0
  have PA := Lib.hid (pall ((h.below b0).ps true))
  have HB := Lib.hid fun (W : World) (q : Below w.heap.size w W) => h.below q
  obtain ⟨la, _⟩ := (h.ps true).facts
  obtain ⟨lb, _⟩ := (h.ps false).facts
  have AL : Hid (S.all = S true ++ S false) := Lib.hid rfl
  generalize S.all = al at *
  clear h b0
  go_enter Try.func18, Try.ntmps18
  go_wp2_with fail
  refine PA.out.mono ?_; rintro e w1 ⟨v1, rfl, o1, q1⟩
  obtain ⟨A1, c1, rfl, n1⟩ := gown_form o1
  have O1 := Lib.hid (gown_below O0.out q1)
  have R1 := Lib.hid (gown_rd o1)
  have Q1 := Lib.hid (B0.out.trans (q1.mono B0.out.size))
  clear o1 q1
  go_wp2_with (at_builtin; refine gpl_app TO rfl (.tmp 4) (.tmp 9) rfl w.heap.size _ [] rfl O1.out A1 (S true).length c1 (S true) rfl R1.out n1 (by simp; omega) Q1.out.size ?_; intro v2 w2 o2 g2 _; have O2 := Lib.hid o2; have Q2 := Lib.hid (Q1.out.grown g2 Q1.out.size (fun k e => (gown_lt O1.out e).1)); have k1 := (HB.out _ Q2.out).c1; clear o2 g2)
  refine (pall ((HB.out _ Q2.out).ps false)).mono ?_; rintro e w3 ⟨v3, rfl, o3, q3⟩
  obtain ⟨A3, c3, rfl, n3⟩ := gown_form o3
  have O3 := Lib.hid (gown_below O2.out q3)
  have R3 := Lib.hid (gown_rd o3)
  have Q3 := Lib.hid (Q2.out.trans (q3.mono Q2.out.size))
  clear o3 q3
  go_wp2_with (at_builtin; refine gpl_app TO rfl (.tmp 11) (.tmp 16) rfl w.heap.size _ ([] ++ S true) rfl O3.out A3 (S false).length c3 (S false) rfl R3.out n3 (by simp; omega) Q3.out.size ?_; intro v4 w4 o4 g4 _; have O4 := Lib.hid o4; have Q4 := Lib.hid (Q3.out.grown g4 Q3.out.size (fun k e => (gown_lt O3.out e).1)); clear o4 g4)
  go_ret
  refine ⟨_, rfl, ?_, Q4.out⟩
  rw [AL.out]
  exact O4.out
end Go.Proofs.Ytdcjgcjnfcahkaa
/- Contracts of the document's plain book: Open. -/
namespace Go.Proofs.Ytdcjgcjnfcahkaa
open Go.RowKit
set_option linter.unusedVariables false

def opn1 (b : Bool) (a : Int) (x : Or) : Int := if x.ac == a && x.bu == b then x.le else 0
/-- How much is left in the orders of an account that buy, or that sell. -/
def opn (b : Bool) (a : Int) (l : List Or) : Int := (l.map (opn1 b a)).sum
theorem opn_snoc (b : Bool) (a : Int) (l : List Or) {k : Nat} {x : Or} (hx : l[k]? = some x) : opn b a (l.take (k + 1)) = opn b a (l.take k) + opn1 b a x := by
  unfold opn
  rw [List.take_add_one, hx, Option.toList_some, List.map_append, List.sum_append]
  simp
theorem opn_le (b : Bool) (a : Int) : ∀ (l : List Or), (∀ x, x ∈ l → 0 ≤ x.le ∧ x.le ≤ 1000000) → 0 ≤ opn b a l ∧ opn b a l ≤ 1000000 * l.length
  | [], _ => by simp [opn]
  | x :: r, h => by
    have q := opn_le b a r fun y hy => h y (List.mem_cons_of_mem _ hy)
    have hx := h x (List.mem_cons_self ..)
    have e : opn b a (x :: r) = opn1 b a x + opn b a r := by simp [opn]
    rw [e, List.length_cons]
    unfold opn1
    split <;> omega
set_option maxRecDepth 100000 in
set_option maxHeartbeats 2000000 in
theorem bopen_any {B G : Nat} {g : Bool → Nat} {v : Bool → Value} {S : Sd} {a : Int} (w : World) (h : Bk w B G g v S) (ha : 0 ≤ a ∧ a ≤ 4294967295) :
    Calls Try.prog 38 #[.pointer (some ⟨G, 0, none⟩), .int .u32 a] w fun e w' => e = .returned (.tuple #[.int .i64 (opn true a S.all), .int .i64 (opn false a S.all)]) ∧ Below w.heap.size w w' := by
  have PA := Lib.hid (ball_any w h)
  have LE : Hid (∀ x, x ∈ S.all → x.ok ∧ 0 ≤ x.le ∧ x.le ≤ 1000000) := Lib.hid (fun x hx => by
    rcases List.mem_append.1 hx with hx | hx
    · obtain ⟨q1, q2, _⟩ := (h.ps _).facts.2 x hx
      exact ⟨q1, by have := may_le q2; omega⟩
    · obtain ⟨q1, q2, _⟩ := (h.ps _).facts.2 x hx
      exact ⟨q1, by have := may_le q2; omega⟩)
  have hle : S.all.length ≤ 200 := by
    have := (h.ps true).facts.1
    have := (h.ps false).facts.1
    show (S true ++ S false).length ≤ 200
    rw [List.length_append]; omega
  obtain ⟨a1, a2⟩ := ha
  obtain ⟨l, hl⟩ : ∃ l, S.all = l := ⟨_, rfl⟩
  rw [hl] at PA LE hle ⊢
  obtain ⟨m, hm⟩ : ∃ m, l.length = m := ⟨_, rfl⟩
  have HL := Lib.hid hm
  rw [hm] at hle
  obtain ⟨r1, hr1⟩ : ∃ r, opn true a l = r := ⟨_, rfl⟩
  obtain ⟨r2, hr2⟩ : ∃ r, opn false a l = r := ⟨_, rfl⟩
  rw [hr1, hr2]
  have R1 := Lib.hid hr1
  have R2 := Lib.hid hr2
  clear h hl hm hr1 hr2
  go_enter Try.func38, Try.ntmps38
  go_wp2_with fail
  refine PA.out.mono ?_; rintro e w1 ⟨v1, rfl, o1, q1⟩
  obtain ⟨A1, c1, rfl, n1⟩ := gown_form o1
  rw [HL.out] at o1 ⊢
  have O1 := Lib.hid o1
  have Q1 := Lib.hid q1
  clear o1 q1 PA
  go_wp2_with fail
  go_loopw [6, 7, 9] (fun s t i wr => ∃ k : Nat, k ≤ m ∧ i = .int .i64 k ∧ s = .int .i64 (opn true a (l.take k)) ∧ t = .int .i64 (opn false a (l.take k)) ∧ wr = w1) (fun _ _ i _ => m - (intOf i).toNat)
  case atStart => exact ⟨0, Nat.zero_le _, rfl, rfl, rfl, rfl⟩
  case round =>
    obtain ⟨k, hk, rfl, rfl, rfl, rfl⟩ := hrel
    have htl : (l.take k).length ≤ 200 := by have := HL.out; rw [List.length_take]; omega
    have hs := opn_le true a (l.take k) (fun x hx => (LE.out x (List.mem_of_mem_take hx)).2)
    have ht := opn_le false a (l.take k) (fun x hx => (LE.out x (List.mem_of_mem_take hx)).2)
    by_cases hlt : k < m
    case neg =>
      obtain rfl : k = m := by omega
      have E : Hid (l.take k = l) := Lib.hid (List.take_of_length_le (by rw [HL.out]; exact Nat.le_refl _))
      have hd : decide ((k : Int) < k) = false := decide_eq_false (by omega)
      rw [E.out, R1.out, R2.out]
      go_wp2_with fail
      go_ret2
      exact ⟨rfl, Q1.out⟩
    case pos =>
      have hd : decide ((k : Int) < m) = true := decide_eq_true (by omega)
      have hki : (k : Int) < (m : Int) := by omega
      obtain ⟨x, hx⟩ : ∃ x, l[k]? = some x := ⟨l[k]'(by rw [HL.out]; exact hlt), List.getElem?_eq_getElem _⟩
      obtain ⟨b, c', eb⟩ := gown_slot O1.out (by have := HL.out; omega)
      rw [HL.out] at eb
      injection eb with e1 _ e2
      subst e1 e2
      have own := O1.out
      have own : EO.Own 31 wr w.heap.size (.slice (some ⟨b, 0, none⟩) l.length c1) l := by rw [HL.out]; exact O1.out
      have d1 : wr.cell? ⟨b, k * 5 + 1, none⟩ = some (.int .u32 x.ac) := gown_at own hx (i := 1) (by decide)
      have d2 : wr.cell? ⟨b, k * 5 + 2, none⟩ = some (.bool x.bu) := gown_at own hx (i := 2) (by decide)
      have d4 : wr.cell? ⟨b, k * 5 + 4, none⟩ = some (.int .i64 x.le) := gown_at own hx (i := 4) (by decide)
      have S1 := Lib.hid (opn_snoc true a l hx)
      have S2 := Lib.hid (opn_snoc false a l hx)
      obtain ⟨xo, x1, x2⟩ := LE.out x (List.mem_of_getElem? hx)
      obtain ⟨a3, a4⟩ := xo.ac
      clear hx own xo
      unfold opn1 at S1 S2
      obtain ⟨s, hss⟩ : ∃ s, opn true a (l.take k) = s := ⟨_, rfl⟩
      obtain ⟨t, htt⟩ : ∃ s, opn false a (l.take k) = s := ⟨_, rfl⟩
      rw [hss] at hs S1 ⊢
      rw [htt] at ht S2 ⊢
      clear hss htt
      generalize x.ac = xa at *
      generalize x.le = xl at *
      generalize x.bu = xb at *
      have hs1 : -9223372036854775808 ≤ s + xl := by omega
      have hs2 : s + xl ≤ 9223372036854775807 := by omega
      have ht1 : -9223372036854775808 ≤ t + xl := by omega
      have ht2 : t + xl ≤ 9223372036854775807 := by omega
      cases hq : (xa == a) <;> cases xb <;> rw [hq] at S1 S2
      all_goals
        go_wp2_with fail
        go_roundw
        case rel => exact ⟨k + 1, hlt, by go_num, by rw [S1.out]; simp, by rw [S2.out]; simp, trivial⟩
        case measure => simp [intOf]; omega
end Go.Proofs.Ytdcjgcjnfcahkaa
/- What is asked of the program's book. -/
namespace Go.Proofs.Ytdcjgcjnfcahkaa
open Go.RowKit Go.Shelf
set_option linter.unusedVariables false

/-- The program's book in memory: its blocks, where it lies, both sides' orders, a number that is at least as great as the number of those that came. -/
abbrev PbT := World → (Nat → Prop) → Nat → Sd → Nat → Prop
/-- Behind a call on it. -/
def AftB (Pb : PbT) (w : World) (A : Nat → Prop) (G : Nat) (S : Sd) (t : Nat) (w' : World) : Prop := ∃ A', Pb w' A' G S t ∧ Fr A w w' ∧ ∀ k, A' k → A k ∨ w.heap.size ≤ k
/-- Behind a call that tells what became of an order. -/
def PlB (Pb : PbT) (w : World) (A : Nat → Prop) (G : Nat) (S : Sd) (t : Nat) (p : Px) (q : Pl) (w' : World) : Prop :=
  (p.fi = q.fi ∧ p.lf = q.lf) ∧ ∃ A', Pb w' A' G S t ∧ Fr A w w' ∧ (∀ k, A' k → A k ∨ w.heap.size ≤ k) ∧ p.Is w' w.heap.size q.td q.gn ∧ ∀ k, A' k → ¬ p.own k
structure BookK (Pb : PbT) : Prop where
  lt : ∀ {w A G S t}, Pb w A G S t → ∀ k, A k → k < w.heap.size
  inv : ∀ {w A G S t}, Pb w A G S t → InvB S
  more : ∀ {w A G S t t'}, Pb w A G S t → t ≤ t' → Pb w A G S t'
  keep : ∀ {w w' A G S t Q}, Pb w A G S t → Fr Q w w' → (∀ k, A k → ¬ Q k) → Pb w' A G S t
  new : ∀ (w : World), Calls Try.prog 10 #[] w fun e w' => ∃ G A, e = .returned (.pointer (some ⟨G, 0, none⟩)) ∧ Pb w' A G (fun _ => []) 0 ∧ Below w.heap.size w w' ∧ ∀ k, A k → w.heap.size ≤ k
  place : ∀ {w A G S t} {o : Or} {k : Int}, Pb w A G S t → o.ok → t < 1000000000 → Calls Try.prog 19 #[.pointer (some ⟨G, 0, none⟩), .agg (EO.cells o).toArray, .int .u8 k] w fun e w' => ∃ p : Px, e = .returned (.tuple #[.agg (EPx.cells p).toArray, .int .i64 (placeA S o k)]) ∧ PlB Pb w A G (placeS S o k) (t + 1) p (placeP S o k) w'
  repl : ∀ {w A G S t} {n p l : Int}, Pb w A G S t → U64' n → I64' p → I64' l → t < 1000000000 → Calls Try.prog 20 #[.pointer (some ⟨G, 0, none⟩), .int .u64 n, .int .i64 p, .int .i64 l] w fun e w' => ∃ x : Px, e = .returned (.tuple #[.agg (EPx.cells x).toArray, .int .i64 (replA S n p l)]) ∧ PlB Pb w A G (replS S n p l) (t + 1) x (replP S n p l) w'
  canc : ∀ {w A G S t} {n : Int}, Pb w A G S t → U64' n → Calls Try.prog 21 #[.pointer (some ⟨G, 0, none⟩), .int .u64 n] w fun e w' => e = .returned (.tuple #[.agg (EO.cells (takeX S n)).toArray, .int .i64 (takeA S n)]) ∧ AftB Pb w A G (cancS S n) t w'
  get : ∀ {w A G S t} {n : Int}, Pb w A G S t → U64' n → Calls Try.prog 22 #[.pointer (some ⟨G, 0, none⟩), .int .u64 n] w fun e w' => e = .returned (.tuple #[.agg (EO.cells (takeX S n)).toArray, .int .i64 (takeA S n)]) ∧ Below w.heap.size w w'
  mass : ∀ {w A G S t} {a : Int}, Pb w A G S t → Calls Try.prog 14 #[.pointer (some ⟨G, 0, none⟩), .int .u32 a] w fun e w' => ∃ u, e = .returned u ∧ EO.Own 31 w' w.heap.size u (massX S a) ∧ ∃ A', Pb w' A' G (massS S a) t ∧ Fr A w w' ∧ (∀ k, A' k → A k ∨ w.heap.size ≤ k) ∧ ∀ k, A' k → u.ownBlock ≠ some k
  opens : ∀ {w A G S t} {a : Int}, Pb w A G S t → Calls Try.prog 23 #[.pointer (some ⟨G, 0, none⟩), .int .u32 a] w fun e w' => e = .returned (.tuple #[.int .i64 (opn true a S.all), .int .i64 (opn false a S.all)]) ∧ Below w.heap.size w w'
  all : ∀ {w A G S t}, Pb w A G S t → Calls Try.prog 31 #[.pointer (some ⟨G, 0, none⟩)] w (AllB w A S.all)
  copy : ∀ {w A G S t}, Pb w A G S t → Calls Try.prog 13 #[.pointer (some ⟨G, 0, none⟩)] w fun e w' => ∃ G2 A2, e = .returned (.pointer (some ⟨G2, 0, none⟩)) ∧ Pb w' A2 G2 S t ∧ Below w.heap.size w w' ∧ ∀ k, A2 k → w.heap.size ≤ k
  nPlace : ∀ {w p} {o : Or} {k : Int}, Nb w p → Calls Try.prog 19 #[.pointer p, .agg (EO.cells o).toArray, .int .u8 k] w fun e w' => e = .returned (.tuple #[.agg (EPx.cells zeroPx).toArray, .int .i64 1]) ∧ Below w.heap.size w w'
  nRepl : ∀ {w p} {n pr l : Int}, Nb w p → Calls Try.prog 20 #[.pointer p, .int .u64 n, .int .i64 pr, .int .i64 l] w fun e w' => e = .returned (.tuple #[.agg (EPx.cells zeroPx).toArray, .int .i64 1]) ∧ Below w.heap.size w w'
  nCanc : ∀ {w p} {n : Int}, Nb w p → Calls Try.prog 21 #[.pointer p, .int .u64 n] w fun e w' => e = .returned (.tuple #[.agg (EO.cells zeroOr).toArray, .int .i64 1]) ∧ Below w.heap.size w w'
  nGet : ∀ {w p} {n : Int}, Nb w p → Calls Try.prog 22 #[.pointer p, .int .u64 n] w fun e w' => e = .returned (.tuple #[.agg (EO.cells zeroOr).toArray, .int .i64 1]) ∧ Below w.heap.size w w'
  nOpen : ∀ {w p} {a : Int}, Nb w p → Calls Try.prog 23 #[.pointer p, .int .u32 a] w fun e w' => e = .returned (.tuple #[.int .i64 0, .int .i64 0]) ∧ Below w.heap.size w w'
  nMass : ∀ {w p} {a : Int}, Nb w p → Calls Try.prog 14 #[.pointer p, .int .u32 a] w fun e w' => e = .returned (.slice none 0 0) ∧ Below w.heap.size w w'
  nAll : ∀ {w p}, Nb w p → Calls Try.prog 31 #[.pointer p] w (AllB w (fun k => p = some ⟨k, 0, none⟩) [])
  nCopy : ∀ {w p}, Nb w p → Calls Try.prog 13 #[.pointer p] w fun e w' => e = .returned (.pointer none) ∧ Below w.heap.size w w'
section
variable {Pb : PbT} {w w' w2 : World} {A : Nat → Prop} {G : Nat} {S T : Sd} {t t' : Nat} {p : Px} {q : Pl}
theorem AftB.below (K : BookK Pb) (h : Pb w A G S t) (q : Below w.heap.size w w') : AftB Pb w A G S t w' :=
  ⟨A, K.keep (Q := fun _ => False) h (Fr.below q) (fun _ _ h => h), Fr.below q, fun _ h => .inl h⟩
theorem BookK.below (K : BookK Pb) (h : Pb w A G S t) (q : Below w.heap.size w w') : Pb w' A G S t := K.keep (Q := fun _ => False) h (Fr.below q) (fun _ _ h => h)
theorem PlB.aft (h : PlB Pb w A G S t p q w') : AftB Pb w A G S t w' := by
  obtain ⟨_, A', h1, h2, h3, _⟩ := h
  exact ⟨A', h1, h2, h3⟩
end
end Go.Proofs.Ytdcjgcjnfcahkaa
