/- Contracts of the calls of the document's plain calendar: List (by genL5.py). -/
import Derived.Test.YtejhnfkljfdejaaKb
import Derived.Test.YtejhnfkljfdejaaQm
namespace Go.Proofs.Ytejhnfkljfdejaa
open Go.RowKit

set_option maxRecDepth 100000 in
set_option maxHeartbeats 8000000 in
theorem rlist_any (B g : Nat) (v : Value) (d : Int) (cs : List Ct) (s : Sp) (w : World) (h : Rc w B g v d cs) (hB : B ≤ w.heap.size) (ok : s.ok) :
    Calls Try.prog 13 #[.pointer (some ⟨g, 0, none⟩), .agg s.cells] w fun e w' => e = .returned (.int .i64 (listA d cs s)) ∧ RcN w B g v d (listC d cs s) w' := by
  have MY := Lib.hid (fun W => rmay_any s W ok)
  have HBX := Lib.hid (box_new w ok.len)
  have HL0 := Lib.hid (lt_new h ok.len)
  have HO := Lib.hid ok
  have HBB := Lib.hid hB
  clear h hB ok
  cases hm : mayB s
  · have E1 : Hid (listA d cs s = 2) := Lib.hid (by unfold listA; rw [hm]; rfl)
    have E2 : Hid (listC d cs s = cs) := Lib.hid (by unfold listC; rw [E1.out]; rfl)
    rw [hm] at MY
    rw [E1.out, E2.out]
    clear hm
    go_enter Try.func13, Try.ntmps13
    go_wp2_with (refine wpl_load_sp (by rfl) (.tmp 3) rfl w.heap.size rfl HBX.out ?_)
    refine (MY.out _).mono ?_; rintro e w1 ⟨rfl, q⟩
    have L1 := Lib.hid (HL0.out.below q)
    clear q
    go_wp2_with fail
    go_ret
    exact ⟨rfl, L1.out.done⟩
  · rw [hm] at MY
    have nub := HO.out.nu
    cases hp : placeC cs s.nu with
    | some k =>
      have E1 : Hid (listA d cs s = 8) := Lib.hid (by unfold listA; rw [hm, hp]; rfl)
      have E2 : Hid (listC d cs s = cs) := Lib.hid (by unfold listC; rw [E1.out]; rfl)
      rw [E1.out, E2.out]
      go_enter Try.func13, Try.ntmps13
      go_wp2_with (refine wpl_load_sp (by rfl) (.tmp 3) rfl w.heap.size rfl HBX.out ?_)
      refine (MY.out _).mono ?_; rintro e w1 ⟨rfl, q⟩
      have L1 := Lib.hid (HL0.out.below q)
      have P := Lib.hid (rplace_any B g v d cs s.nu w1 L1.out.rc nub)
      rw [placeI_some hp] at P
      have hb0 := L1.out.bx.cell 0
      rw [Sp.c0] at hb0
      have hd : decide (0 ≤ (k : Int)) = true := decide_eq_true (by omega)
      clear q nub hm hp
      go_wp2_with fail
      refine P.out.mono ?_; rintro e w2 ⟨rfl, rfl⟩
      go_wp2_with fail
      go_ret
      exact ⟨rfl, L1.out.done⟩
    | none =>
      cases hla : decide (s.la < d)
      case true =>
        have E1 : Hid (listA d cs s = 51) := Lib.hid (by unfold listA; rw [hm, hp]; simp [of_decide_eq_true hla])
        have E2 : Hid (listC d cs s = cs) := Lib.hid (by unfold listC; rw [E1.out]; rfl)
        rw [E1.out, E2.out]
        go_enter Try.func13, Try.ntmps13
        go_wp2_with (refine wpl_load_sp (by rfl) (.tmp 3) rfl w.heap.size rfl HBX.out ?_)
        refine (MY.out _).mono ?_; rintro e w1 ⟨rfl, q⟩
        have L1 := Lib.hid (HL0.out.below q)
        have P := Lib.hid (rplace_any B g v d cs s.nu w1 L1.out.rc nub)
        rw [placeI_none hp] at P
        have hb0 := L1.out.bx.cell 0
        rw [Sp.c0] at hb0
        have hb1 := L1.out.bx.cell 23
        rw [Sp.c23 L1.out.bx.2] at hb1
        have d0 := L1.out.rc.c0
        obtain ⟨l1, l2⟩ := HO.out.la
        obtain ⟨l3, l4⟩ := L1.out.rc.dy
        clear q nub hm hp
        go_wp2_with fail
        refine P.out.mono ?_; rintro e w2 ⟨rfl, rfl⟩
        go_wp2_with fail
        go_quiet (fail)
        go_wp2_with fail
        go_ret
        exact ⟨rfl, (L1.out.drewN nq).done⟩
      case false =>
        by_cases hf : 16 ≤ cs.length
        · have E1 : Hid (listA d cs s = 9) := Lib.hid (by unfold listA; rw [hm, hp]; simp [of_decide_eq_false hla, hf])
          have E2 : Hid (listC d cs s = cs) := Lib.hid (by unfold listC; rw [E1.out]; rfl)
          rw [E1.out, E2.out]
          obtain ⟨A, c, rfl⟩ := HL0.out.rc.one
          have l5 := HL0.out.rc.le
          generalize hl : cs.length = n at *
          have HN := Lib.hid hl
          clear hl
          go_enter Try.func13, Try.ntmps13
          go_wp2_with (refine wpl_load_sp (by rfl) (.tmp 3) rfl w.heap.size rfl HBX.out ?_)
          refine (MY.out _).mono ?_; rintro e w1 ⟨rfl, q⟩
          have L1 := Lib.hid (HL0.out.below q)
          have P := Lib.hid (rplace_any B g _ d cs s.nu w1 L1.out.rc nub)
          rw [placeI_none hp] at P
          have hb0 := L1.out.bx.cell 0
          rw [Sp.c0] at hb0
          have hb1 := L1.out.bx.cell 23
          rw [Sp.c23 L1.out.bx.2] at hb1
          have d0 := L1.out.rc.c0
          have d1 := L1.out.rc.c1
          obtain ⟨l1, l2⟩ := HO.out.la
          obtain ⟨l3, l4⟩ := L1.out.rc.dy
          clear q nub hm hp
          go_wp2_with fail
          refine P.out.mono ?_; rintro e w2 ⟨rfl, rfl⟩
          clear P
          go_wp2_with fail
          go_quiet (fail)
          have hd : decide ((16 : Int) ≤ (n : Int)) = true := decide_eq_true (by omega)
          go_wp2_with fail
          go_ret
          exact ⟨rfl, (L1.out.drewN nq).done⟩
        · have E1 : Hid (listA d cs s = 0) := Lib.hid (by unfold listA; rw [hm, hp]; simp [of_decide_eq_false hla, hf])
          have E2 : Hid (listC d cs s = cs.take (spotC cs s.nu) ++ (⟨s, 1, s.fi⟩ :: cs.drop (spotC cs s.nu))) := Lib.hid (by unfold listC; rw [E1.out]; rfl)
          have hsl := spot_le cs s.nu
          rw [E1.out, E2.out]
          obtain ⟨A, c, rfl⟩ := HL0.out.rc.one
          have l5 := HL0.out.rc.le
          generalize hl : cs.length = n at *
          have HN := Lib.hid hl
          clear hl
          go_enter Try.func13, Try.ntmps13
          go_wp2_with (refine wpl_load_sp (by rfl) (.tmp 3) rfl w.heap.size rfl HBX.out ?_)
          refine (MY.out _).mono ?_; rintro e w1 ⟨rfl, q⟩
          have L1 := Lib.hid (HL0.out.below q)
          have P := Lib.hid (rplace_any B g _ d cs s.nu w1 L1.out.rc nub)
          rw [placeI_none hp] at P
          have hb0 := L1.out.bx.cell 0
          rw [Sp.c0] at hb0
          have hb1 := L1.out.bx.cell 23
          rw [Sp.c23 L1.out.bx.2] at hb1
          have d0 := L1.out.rc.c0
          have d1 := L1.out.rc.c1
          obtain ⟨l1, l2⟩ := HO.out.la
          obtain ⟨l3, l4⟩ := L1.out.rc.dy
          clear q nub hm hp
          go_wp2_with fail
          refine P.out.mono ?_; rintro e w2 ⟨rfl, rfl⟩
          clear P
          go_wp2_with fail
          go_quiet (fail)
          have hd : decide ((16 : Int) ≤ (n : Int)) = false := decide_eq_false (by omega)
          have L2 := Lib.hid (L1.out.drewN nq)
          generalize w1.drewN nq = w2 at *
          have e1 := L2.out.rc.c1
          clear hb0 hb1 d0 d1 L1 MY HL0 hla
          go_wp2_with fail
          go_loopw [5] (fun i wr => ∃ k : Nat, k ≤ n ∧ i = .int .i64 k ∧ (∀ (j : Nat) (x : Ct), j < k → cs[j]? = some x → x.sp.nu < s.nu) ∧ Lt w B g (.slice A n c) d cs s wr) (fun i _ => n - (intOf i).toNat)
          case atStart => exact ⟨0, Nat.zero_le _, rfl, fun j x hj => absurd hj (Nat.not_lt_zero j), L2.out⟩
          case round =>
            obtain ⟨k, hk, rfl, hno, hlt⟩ := hrel
            have HNO := Lib.hid hno
            have LL := Lib.hid hlt
            have r1 := hlt.rc.c1
            have rb := hlt.bx.cell 0
            rw [Sp.c0] at rb
            obtain ⟨nu1, nu2⟩ := HO.out.nu
            clear hno hlt L2 e1
            by_cases hkn : k < n
            case neg =>
              obtain rfl : k = n := by omega
              have hd2 : decide ((k : Int) < (k : Int)) = false := decide_eq_false (by omega)
              have hspot : spotC cs s.nu = k := spot_at HNO.out (by rw [HN.out]; exact Nat.le_refl _) (fun x hx => absurd (List.getElem?_eq_some_iff.1 hx).1 (by rw [HN.out]; omega))
              rcases LL.out.rc.form with ⟨e, e1⟩ | ⟨b, c', eb, -, -⟩
              · have e3 : k = 0 := by rw [← HN.out, e1]; rfl
                obtain ⟨rfl, rfl⟩ : A = none ∧ c = 0 := by injection e with e4 _ e5; exact ⟨e4, e5⟩
                subst e3
                clear e
                go_wp2_with fail
                go_quiet (fail)
                have L3 := Lib.hid (LL.out.drewN nq)
                generalize wr.drewN nq = w3 at *
                have hcap : 0 ≤ 0 := Nat.le_refl 0
                have hkc : (0 : Int) ≤ (0 : Int) := by omega
                have hkn2 : (0 : Int) ≤ (0 : Int) := by omega
                have L3a := Lib.hid (L3.out.alloc (.cells #[] 45))
                have d1 := L3a.out.rc.c1
                have R0 : Hid (RdC (w3.alloc (.cells #[] 45)) none 0 (cs.take 0)) := Lib.hid (own_read' HN.out L3a.out.rc.own 0 0 (Nat.zero_le _) hk L3.out.rc.sh)
                have O0 := Lib.hid (own_nil w3)
                have SH := Lib.hid L3.out.rc.sh
                have SZ := Lib.hid L3.out.sz
                try clear hcell
                clear r1 rb hd2
                go_wp2_with (first
                  | (at_builtin; refine wpl_app rfl (.tmp 51) (.tmp 57) rfl w3.heap.size (.slice (some ⟨w3.heap.size, 0, none⟩) 0 0) 0 [] rfl O0.out none 0 0 (cs.take 0) rfl R0.out (fun _ => rfl) (fun y hy => SH.out y (List.mem_of_mem_take hy)) (by omega) (by simp) ?_; intro v1 w4 o1 g1; have L4 := Lib.hid (L3a.out.grown g1 (fun j hj => by cases hj; exact SZ.out)); have O1 := Lib.hid o1; have Z4 : Hid (w3.heap.size ≤ w4.heap.size) := Lib.hid (Nat.le_trans (by simp) g1.size); have b24 := L4.out.bx.cell 24; rw [Sp.c24 L4.out.bx.2] at b24; clear o1 g1 d1)
                  | (refine wl_load_sp w.heap.size L4.out.bx (by rfl) rfl ?_)
                  | (refine wl_build_ct s 1 s.fi L4.out.bx.2 rfl rfl rfl ?_)
                  | (refine wl_bs_ct ⟨s, 1, s.fi⟩ L4.out.bx.2 rfl ?_)
                  | (at_builtin; refine wpl_app rfl (.tmp 59) (.tmp 64) rfl w3.heap.size v1 (0 + 0) ([] ++ cs.take 0) rfl (O1.out.alloc _) (some ⟨w4.heap.size, 0, none⟩) 1 1 [⟨s, 1, s.fi⟩] rfl (rd_one w4 _) (fun h => by cases h) (fun y hy => by cases hy with | head => exact HO.out.len | tail _ h => cases h) (by omega) (by have := Z4.out; simp; omega) ?_; intro v2 w5 o2 g2; have L5 := Lib.hid ((L4.out.alloc _).grown g2 (fun j hj => Nat.lt_of_lt_of_le SZ.out (own_ge O1.out hj).1)); have O2 := Lib.hid o2; have Z5 : Hid (w3.heap.size ≤ w5.heap.size) := Lib.hid (Nat.le_trans (Nat.le_trans Z4.out (by simp)) g2.size); have d5 := L5.out.rc.c1; have R2 := Lib.hid (own_read' HN.out L5.out.rc.own 0 0 hk (Nat.le_refl 0) L5.out.rc.sh); clear o2 g2 b24)
                  | (at_builtin; refine wpl_app rfl (.tmp 67) (.tmp 73) rfl w3.heap.size v2 (0 + 0 + 1) (([] ++ cs.take 0) ++ [⟨s, 1, s.fi⟩]) rfl O2.out none (0 - 0) (0 - 0) ((cs.take 0).drop 0) rfl R2.out (fun _ => rfl) (fun y hy => SH.out y (List.mem_of_mem_take (List.mem_of_mem_drop hy))) (by omega) Z5.out ?_; intro v3 w6 o3 g3; have L6 := Lib.hid (L5.out.grown g3 (fun j hj => Nat.lt_of_lt_of_le SZ.out (own_ge O2.out hj).1)); obtain ⟨b3, c3, rfl⟩ := own_one_form o3 (by omega); have O3 := Lib.hid o3; have d6 := L6.out.rc.c1; have z6 := L6.out.rc.fz 1; clear o3 g3 d5))
                go_ret
                have ecs : ([] ++ cs.take 0) ++ [(⟨s, 1, s.fi⟩ : Ct)] ++ (cs.take 0).drop 0 = cs.take 0 ++ (⟨s, 1, s.fi⟩ :: cs.drop 0) := by
                  rw [List.take_of_length_le (show cs.length ≤ 0 from by rw [HN.out]; exact Nat.le_refl _)]; simp
                have hm : 0 + 0 + 1 + (0 - 0) = 0 + 1 := by omega
                rw [hspot]
                have O4 := O3.out
                rw [ecs] at O4
                refine ⟨rfl, ?_⟩
                have R := L6.out.put O4 SZ.out HBB.out (by rw [List.length_append, List.length_cons, List.length_take, List.length_drop, HN.out]; omega) (by omega) (ins_ok L6.out.rc.ok HO.out)
                rwa [Nat.zero_add] at R
              · obtain ⟨rfl, -⟩ : A = some ⟨b, 0, none⟩ ∧ c = c' := by injection eb with e1 _ e2; exact ⟨e1, e2⟩
                clear eb
                by_cases hck : c = k
                · obtain rfl : c = k := hck
                  go_wp2_with fail
                  go_quiet (fail)
                  have L3 := Lib.hid (LL.out.drewN nq)
                  generalize wr.drewN nq = w3 at *
                  have hcap : c ≤ c := own_most (by have := L3.out.rc.own; rw [HN.out] at this; exact this)
                  have hkc : (c : Int) ≤ (c : Int) := by omega
                  have hkn2 : (c : Int) ≤ (c : Int) := by omega
                  have L3a := Lib.hid (L3.out.alloc (.cells #[] 45))
                  have d1 := L3a.out.rc.c1
                  have R0 : Hid (RdC (w3.alloc (.cells #[] 45)) (some ⟨b, 0, none⟩) c (cs.take c)) := Lib.hid (own_read' HN.out L3a.out.rc.own 0 c (Nat.zero_le _) hk L3.out.rc.sh)
                  have O0 := Lib.hid (own_nil w3)
                  have SH := Lib.hid L3.out.rc.sh
                  have SZ := Lib.hid L3.out.sz
                  try clear hcell
                  clear r1 rb hd2
                  go_wp2_with (first
                    | (at_builtin; refine wpl_app rfl (.tmp 51) (.tmp 57) rfl w3.heap.size (.slice (some ⟨w3.heap.size, 0, none⟩) 0 0) 0 [] rfl O0.out (some ⟨b, 0, none⟩) c c (cs.take c) rfl R0.out (fun h => by cases h) (fun y hy => SH.out y (List.mem_of_mem_take hy)) (by omega) (by simp) ?_; intro v1 w4 o1 g1; have L4 := Lib.hid (L3a.out.grown g1 (fun j hj => by cases hj; exact SZ.out)); have O1 := Lib.hid o1; have Z4 : Hid (w3.heap.size ≤ w4.heap.size) := Lib.hid (Nat.le_trans (by simp) g1.size); have b24 := L4.out.bx.cell 24; rw [Sp.c24 L4.out.bx.2] at b24; clear o1 g1 d1)
                    | (refine wl_load_sp w.heap.size L4.out.bx (by rfl) rfl ?_)
                    | (refine wl_build_ct s 1 s.fi L4.out.bx.2 rfl rfl rfl ?_)
                    | (refine wl_bs_ct ⟨s, 1, s.fi⟩ L4.out.bx.2 rfl ?_)
                    | (at_builtin; refine wpl_app rfl (.tmp 59) (.tmp 64) rfl w3.heap.size v1 (0 + c) ([] ++ cs.take c) rfl (O1.out.alloc _) (some ⟨w4.heap.size, 0, none⟩) 1 1 [⟨s, 1, s.fi⟩] rfl (rd_one w4 _) (fun h => by cases h) (fun y hy => by cases hy with | head => exact HO.out.len | tail _ h => cases h) (by omega) (by have := Z4.out; simp; omega) ?_; intro v2 w5 o2 g2; have L5 := Lib.hid ((L4.out.alloc _).grown g2 (fun j hj => Nat.lt_of_lt_of_le SZ.out (own_ge O1.out hj).1)); have O2 := Lib.hid o2; have Z5 : Hid (w3.heap.size ≤ w5.heap.size) := Lib.hid (Nat.le_trans (Nat.le_trans Z4.out (by simp)) g2.size); have d5 := L5.out.rc.c1; have R2 := Lib.hid (own_read' HN.out L5.out.rc.own c c hk (Nat.le_refl c) L5.out.rc.sh); clear o2 g2 b24)
                    | (at_builtin; refine wpl_app rfl (.tmp 67) (.tmp 73) rfl w3.heap.size v2 (0 + c + 1) (([] ++ cs.take c) ++ [⟨s, 1, s.fi⟩]) rfl O2.out (some ⟨b, 0, none⟩) 0 0 [] rfl (rdc_nil _ _ _) (fun h => by cases h) (fun y hy => by cases hy) (by omega) Z5.out ?_; intro v3 w6 o3 g3; have L6 := Lib.hid (L5.out.grown g3 (fun j hj => Nat.lt_of_lt_of_le SZ.out (own_ge O2.out hj).1)); obtain ⟨b3, c3, rfl⟩ := own_one_form o3 (by omega); have O3 := Lib.hid o3; have d6 := L6.out.rc.c1; have z6 := L6.out.rc.fz 1; clear o3 g3 d5))
                  go_ret
                  have ecs : ([] ++ cs.take c) ++ [(⟨s, 1, s.fi⟩ : Ct)] ++ [] = cs.take c ++ (⟨s, 1, s.fi⟩ :: cs.drop c) := by
                    rw [List.drop_eq_nil_of_le (show cs.length ≤ c from by rw [HN.out]; exact Nat.le_refl _)]; simp
                  rw [hspot]
                  have O4 := O3.out
                  rw [ecs] at O4
                  refine ⟨rfl, ?_⟩
                  have R := L6.out.put O4 SZ.out HBB.out (by rw [List.length_append, List.length_cons, List.length_take, List.length_drop, HN.out]; omega) (by omega) (ins_ok L6.out.rc.ok HO.out)
                  simpa using R
                · go_wp2_with fail
                  go_quiet (fail)
                  have L3 := Lib.hid (LL.out.drewN nq)
                  generalize wr.drewN nq = w3 at *
                  have hcap : k ≤ c := own_most (by have := L3.out.rc.own; rw [HN.out] at this; exact this)
                  have hkc : (k : Int) ≤ (c : Int) := by omega
                  have hkn2 : (k : Int) ≤ (k : Int) := by omega
                  have L3a := Lib.hid (L3.out.alloc (.cells #[] 45))
                  have d1 := L3a.out.rc.c1
                  have R0 : Hid (RdC (w3.alloc (.cells #[] 45)) (some ⟨b, 0, none⟩) k (cs.take k)) := Lib.hid (own_read' HN.out L3a.out.rc.own 0 k (Nat.zero_le _) hk L3.out.rc.sh)
                  have O0 := Lib.hid (own_nil w3)
                  have SH := Lib.hid L3.out.rc.sh
                  have SZ := Lib.hid L3.out.sz
                  try clear hcell
                  clear r1 rb hd2
                  go_wp2_with (first
                    | (at_builtin; refine wpl_app rfl (.tmp 51) (.tmp 57) rfl w3.heap.size (.slice (some ⟨w3.heap.size, 0, none⟩) 0 0) 0 [] rfl O0.out (some ⟨b, 0, none⟩) k c (cs.take k) rfl R0.out (fun h => by cases h) (fun y hy => SH.out y (List.mem_of_mem_take hy)) (by omega) (by simp) ?_; intro v1 w4 o1 g1; have L4 := Lib.hid (L3a.out.grown g1 (fun j hj => by cases hj; exact SZ.out)); have O1 := Lib.hid o1; have Z4 : Hid (w3.heap.size ≤ w4.heap.size) := Lib.hid (Nat.le_trans (by simp) g1.size); have b24 := L4.out.bx.cell 24; rw [Sp.c24 L4.out.bx.2] at b24; clear o1 g1 d1)
                    | (refine wl_load_sp w.heap.size L4.out.bx (by rfl) rfl ?_)
                    | (refine wl_build_ct s 1 s.fi L4.out.bx.2 rfl rfl rfl ?_)
                    | (refine wl_bs_ct ⟨s, 1, s.fi⟩ L4.out.bx.2 rfl ?_)
                    | (at_builtin; refine wpl_app rfl (.tmp 59) (.tmp 64) rfl w3.heap.size v1 (0 + k) ([] ++ cs.take k) rfl (O1.out.alloc _) (some ⟨w4.heap.size, 0, none⟩) 1 1 [⟨s, 1, s.fi⟩] rfl (rd_one w4 _) (fun h => by cases h) (fun y hy => by cases hy with | head => exact HO.out.len | tail _ h => cases h) (by omega) (by have := Z4.out; simp; omega) ?_; intro v2 w5 o2 g2; have L5 := Lib.hid ((L4.out.alloc _).grown g2 (fun j hj => Nat.lt_of_lt_of_le SZ.out (own_ge O1.out hj).1)); have O2 := Lib.hid o2; have Z5 : Hid (w3.heap.size ≤ w5.heap.size) := Lib.hid (Nat.le_trans (Nat.le_trans Z4.out (by simp)) g2.size); have d5 := L5.out.rc.c1; have R2 := Lib.hid (own_read' HN.out L5.out.rc.own k k hk (Nat.le_refl k) L5.out.rc.sh); clear o2 g2 b24)
                    | (at_builtin; refine wpl_app rfl (.tmp 67) (.tmp 73) rfl w3.heap.size v2 (0 + k + 1) (([] ++ cs.take k) ++ [⟨s, 1, s.fi⟩]) rfl O2.out (some ⟨b, k * 27, none⟩) 0 (c - k) [] rfl (rdc_nil _ _ _) (fun h => by cases h) (fun y hy => by cases hy) (by omega) Z5.out ?_; intro v3 w6 o3 g3; have L6 := Lib.hid (L5.out.grown g3 (fun j hj => Nat.lt_of_lt_of_le SZ.out (own_ge O2.out hj).1)); obtain ⟨b3, c3, rfl⟩ := own_one_form o3 (by omega); have O3 := Lib.hid o3; have d6 := L6.out.rc.c1; have z6 := L6.out.rc.fz 1; clear o3 g3 d5))
                  go_ret
                  have ecs : ([] ++ cs.take k) ++ [(⟨s, 1, s.fi⟩ : Ct)] ++ [] = cs.take k ++ (⟨s, 1, s.fi⟩ :: cs.drop k) := by
                    rw [List.drop_eq_nil_of_le (show cs.length ≤ k from by rw [HN.out]; exact Nat.le_refl _)]; simp
                  rw [hspot]
                  have O4 := O3.out
                  rw [ecs] at O4
                  refine ⟨rfl, ?_⟩
                  have R := L6.out.put O4 SZ.out HBB.out (by rw [List.length_append, List.length_cons, List.length_take, List.length_drop, HN.out]; omega) (by omega) (ins_ok L6.out.rc.ok HO.out)
                  simpa using R
            case pos =>
              have hd2 : decide ((k : Int) < (n : Int)) = true := decide_eq_true (by omega)
              have hki : (k : Int) < (n : Int) := by omega
              obtain ⟨x, hx⟩ : ∃ x, cs[k]? = some x := ⟨cs[k]'(by rw [HN.out]; exact hkn), List.getElem?_eq_getElem _⟩
              obtain ⟨b, c', eb⟩ := LL.out.rc.slot (k := k) (by rw [HN.out]; exact hkn)
              obtain ⟨rfl, -⟩ : A = some ⟨b, 0, none⟩ ∧ c = c' := by injection eb with e1 _ e2; exact ⟨e1, e2⟩
              clear eb
              have hm := List.mem_of_getElem? hx
              have hcell := LL.out.rc.at hx (i := 0) (by omega)
              rw [Nat.add_zero, Ct.spc (LL.out.rc.sh x hm) (by omega), Sp.c0] at hcell
              obtain ⟨hb1, hb2⟩ := (LL.out.rc.ok x hm).sp.nu
              cases hcm : decide (x.sp.nu < s.nu)
              case true =>
                have HX := Lib.hid hx
                clear hx hm
                go_wp2_with fail
                go_quiet (fail)
                go_wp2_with fail
                go_roundw
                case rel =>
                  refine ⟨k + 1, hkn, by go_num, fun j y hj hy => ?_, LL.out.drewN _⟩
                  rcases Nat.lt_or_ge j k with q | q
                  · exact HNO.out j y q hy
                  · obtain rfl : j = k := by omega
                    rw [HX.out] at hy
                    cases hy
                    exact of_decide_eq_true hcm
                case measure => simp [intOf]; omega
              case false =>
                have hspot : spotC cs s.nu = k := spot_at HNO.out (by rw [HN.out]; exact hk) (fun y hy => by rw [hx] at hy; cases hy; exact of_decide_eq_false hcm)
                clear hx hm
                go_wp2_with fail
                go_quiet (fail)
                have L3 := Lib.hid (LL.out.drewN nq)
                generalize wr.drewN nq = w3 at *
                have hcap : n ≤ c := own_most (by have := L3.out.rc.own; rw [HN.out] at this; exact this)
                have hkc : (k : Int) ≤ (c : Int) := by omega
                have hkn2 : (k : Int) ≤ (n : Int) := by omega
                have L3a := Lib.hid (L3.out.alloc (.cells #[] 45))
                have d1 := L3a.out.rc.c1
                have R0 : Hid (RdC (w3.alloc (.cells #[] 45)) (some ⟨b, 0, none⟩) k (cs.take k)) := Lib.hid (own_read' HN.out L3a.out.rc.own 0 k (Nat.zero_le _) hk L3.out.rc.sh)
                have O0 := Lib.hid (own_nil w3)
                have SH := Lib.hid L3.out.rc.sh
                have SZ := Lib.hid L3.out.sz
                try clear hcell
                clear r1 rb hd2
                go_wp2_with (first
                  | (at_builtin; refine wpl_app rfl (.tmp 51) (.tmp 57) rfl w3.heap.size (.slice (some ⟨w3.heap.size, 0, none⟩) 0 0) 0 [] rfl O0.out (some ⟨b, 0, none⟩) k c (cs.take k) rfl R0.out (fun h => by cases h) (fun y hy => SH.out y (List.mem_of_mem_take hy)) (by omega) (by simp) ?_; intro v1 w4 o1 g1; have L4 := Lib.hid (L3a.out.grown g1 (fun j hj => by cases hj; exact SZ.out)); have O1 := Lib.hid o1; have Z4 : Hid (w3.heap.size ≤ w4.heap.size) := Lib.hid (Nat.le_trans (by simp) g1.size); have b24 := L4.out.bx.cell 24; rw [Sp.c24 L4.out.bx.2] at b24; clear o1 g1 d1)
                  | (refine wl_load_sp w.heap.size L4.out.bx (by rfl) rfl ?_)
                  | (refine wl_build_ct s 1 s.fi L4.out.bx.2 rfl rfl rfl ?_)
                  | (refine wl_bs_ct ⟨s, 1, s.fi⟩ L4.out.bx.2 rfl ?_)
                  | (at_builtin; refine wpl_app rfl (.tmp 59) (.tmp 64) rfl w3.heap.size v1 (0 + k) ([] ++ cs.take k) rfl (O1.out.alloc _) (some ⟨w4.heap.size, 0, none⟩) 1 1 [⟨s, 1, s.fi⟩] rfl (rd_one w4 _) (fun h => by cases h) (fun y hy => by cases hy with | head => exact HO.out.len | tail _ h => cases h) (by omega) (by have := Z4.out; simp; omega) ?_; intro v2 w5 o2 g2; have L5 := Lib.hid ((L4.out.alloc _).grown g2 (fun j hj => Nat.lt_of_lt_of_le SZ.out (own_ge O1.out hj).1)); have O2 := Lib.hid o2; have Z5 : Hid (w3.heap.size ≤ w5.heap.size) := Lib.hid (Nat.le_trans (Nat.le_trans Z4.out (by simp)) g2.size); have d5 := L5.out.rc.c1; have R2 := Lib.hid (own_read' HN.out L5.out.rc.own k n hk (Nat.le_refl n) L5.out.rc.sh); clear o2 g2 b24)
                  | (at_builtin; refine wpl_app rfl (.tmp 67) (.tmp 73) rfl w3.heap.size v2 (0 + k + 1) (([] ++ cs.take k) ++ [⟨s, 1, s.fi⟩]) rfl O2.out (some ⟨b, k * 27, none⟩) (n - k) (c - k) ((cs.take n).drop k) rfl R2.out (fun h => by cases h) (fun y hy => SH.out y (List.mem_of_mem_take (List.mem_of_mem_drop hy))) (by omega) Z5.out ?_; intro v3 w6 o3 g3; have L6 := Lib.hid (L5.out.grown g3 (fun j hj => Nat.lt_of_lt_of_le SZ.out (own_ge O2.out hj).1)); obtain ⟨b3, c3, rfl⟩ := own_one_form o3 (by omega); have O3 := Lib.hid o3; have d6 := L6.out.rc.c1; have z6 := L6.out.rc.fz 1; clear o3 g3 d5))
                go_ret
                have ecs : ([] ++ cs.take k) ++ [(⟨s, 1, s.fi⟩ : Ct)] ++ (cs.take n).drop k = cs.take k ++ (⟨s, 1, s.fi⟩ :: cs.drop k) := by
                  rw [List.take_of_length_le (show cs.length ≤ n from by rw [HN.out]; exact Nat.le_refl _)]; simp
                have hm : 0 + k + 1 + (n - k) = n + 1 := by omega
                rw [hspot]
                have O4 := O3.out
                rw [ecs] at O4
                refine ⟨rfl, ?_⟩
                have R := L6.out.put O4 SZ.out HBB.out (by rw [List.length_append, List.length_cons, List.length_take, List.length_drop, HN.out]; omega) (by omega) (ins_ok L6.out.rc.ok HO.out)
                rwa [Nat.zero_add] at R
end Go.Proofs.Ytejhnfkljfdejaa
