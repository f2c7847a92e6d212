/- Texts of a proof, laid together: Vfw, Wfw, Vx, Gd, Vfr. -/
import Derived.Lib.AppendZerosOnto
import Derived.Lib.SliceRun
import Derived.Lib.Walk
import Derived.Test.YtbmlpokkojhhjaaGreatG15
import Derived.Test.YtbmlpokkojhhjaaGreatG02
import Derived.Test.YtbmlpokkojhhjaaGreatG14
/- The program's own wire: Flag (out of XNv). -/
namespace Go.Proofs.YtbmlpokkojhhjaaGreat
open Go.RowKit
set_option linter.unusedVariables false
set_option linter.unusedSimpArgs false

set_option maxRecDepth 100000 in
theorem wflag_any (base : Nat) (v : Value) (bs : List Int) (k : Bool) (W : World) (h : Owns W base v bs) :
    Calls Tryz.prog 59 #[v, .bool k] W fun E W' => Wrote base v bs (fb k) W E W' := by
  obtain ⟨ho, hb, hl⟩ := h
  obtain ⟨A, c, rfl, hr, h0⟩ := owns_pt ho
  have HR := Lib.hid hr
  have H0 := Lib.hid h0
  clear ho hr h0
  obtain ⟨L, hL⟩ : ∃ L, bs.length = L := ⟨_, rfl⟩
  rw [hL] at HR H0 hl ⊢
  have HB := Lib.hid hb
  have HL := Lib.hid hL
  clear hb hL
  refine Calls.mono (R := fun E W' => Made W (bs ++ fb k) E W') ?_ fun E W' h => made_wrote HB.out h
  have CC := fun (x : Int) => Lib.hid (concat_any (W.heap.size + 1) 2 [⟨A, L, c, bs⟩, ⟨some ⟨W.heap.size, 0, none⟩, 1, 1, [x]⟩] ((W.alloc (.cells #[.int .u8 x] 5)).alloc (.cells #[.slice A L c, .slice (some ⟨W.heap.size, 0, none⟩) 1 1] 22)) rfl (by decide)
    (by have := two_at (W.alloc (.cells #[.int .u8 x] 5)) ⟨A, L, c, bs⟩ ⟨some ⟨W.heap.size, 0, none⟩, 1, 1, [x]⟩; rwa [size_alloc] at this)
    (by
      intro p hp
      simp only [List.mem_cons, List.not_mem_nil, or_false] at hp
      rcases hp with rfl | rfl
      · exact ⟨(HR.out.below ((Below.refl _ W).alloc (Nat.le_refl _) _)).below ((Below.refl _ _).alloc (Nat.le_refl _) _), H0.out⟩
      · obtain ⟨A', c', e, r⟩ := (new_one W x).rd
        cases e
        exact ⟨r.below ((Below.refl _ _).alloc (Nat.le_refl _) _), fun h => by cases h⟩)
    (by simp [cat]; have := HL.out; omega))
  have QQ := fun (x : Int) => Lib.hid (((Below.refl _ W).alloc (Nat.le_refl _) (.cells #[.int .u8 x] 5)).alloc (one_alloc _ _) (.cells #[.slice A L c, .slice (some ⟨W.heap.size, 0, none⟩) 1 1] 22))
  cases k
  · have C := CC 0
    have Q1 := QQ 0
    clear CC QQ
    go_enter Tryz.func59, Tryz.ntmps59
    go_wp2_with fail
    refine C.out.mono ?_; rintro e w2 ⟨v2, rfl, hN2⟩
    have Q2 := Lib.hid (Q1.out.trans (hN2.q.mono Q1.out.size))
    have O2 := Lib.hid (own_less hN2.o Q1.out.size)
    clear hN2
    go_wp2_with fail
    go_ret
    refine ⟨_, rfl, ?_, Q2.out⟩
    have := O2.out
    simpa [cat, fb] using this
  · have C := CC 1
    have Q1 := QQ 1
    clear CC QQ
    go_enter Tryz.func59, Tryz.ntmps59
    go_wp2_with fail
    refine C.out.mono ?_; rintro e w2 ⟨v2, rfl, hN2⟩
    have Q2 := Lib.hid (Q1.out.trans (hN2.q.mono Q1.out.size))
    have O2 := Lib.hid (own_less hN2.o Q1.out.size)
    clear hN2
    go_wp2_with fail
    go_ret
    refine ⟨_, rfl, ?_, Q2.out⟩
    have := O2.out
    simpa [cat, fb] using this

end Go.Proofs.YtbmlpokkojhhjaaGreat
/- The program's own wire: Nat, Int, Flag behind any bytes that can be read (by genWfw.py out of XVw, XVfw). -/
namespace Go.Proofs.YtbmlpokkojhhjaaGreat.Wz
open Go.RowKit
set_option linter.unusedVariables false
set_option linter.unusedSimpArgs false

set_option maxRecDepth 100000 in
theorem wnat15 (A : Option Addr) (c : Nat) (bs : List Int) (k : Nat) (W : World) (hr : RdB W A bs.length bs) (h0 : A = none → bs.length = 0 ∧ c = 0) (hl : bs.length ≤ 1000000) (hk : k < 18446744073709551616) :
    Calls Tryz.prog 38 #[.slice A bs.length c, .int .u64 k] W fun E W' => Made W (bs ++ nb k) E W' := by
  have ht := nb_ten hk
  have K := Lib.hid (natural_any k hk W)
  have HR := Lib.hid hr
  have H0 := Lib.hid h0
  clear hr h0
  obtain ⟨L, hL⟩ : ∃ L, bs.length = L := ⟨_, rfl⟩
  rw [hL] at HR H0 hl ⊢
  go_enter Tryz.func38, Tryz.ntmps38
  go_wp2_with fail
  refine K.out.mono ?_; rintro e w1 ⟨v1, rfl, hN⟩
  obtain ⟨A1, c1, rfl, hr1, h01⟩ := owns_pt hN.o
  have CC := Lib.hid (concat_any w1.heap.size 2 [⟨A, L, c, bs⟩, ⟨A1, (nb k).length, c1, nb k⟩] (w1.alloc (.cells #[.slice A L c, .slice A1 (nb k).length c1] 22)) rfl (by decide) (two_at w1 ⟨A, L, c, bs⟩ ⟨A1, (nb k).length, c1, nb k⟩)
    (by
      intro p hp
      simp only [List.mem_cons, List.not_mem_nil, or_false] at hp
      rcases hp with rfl | rfl
      · exact ⟨(HR.out.below hN.q).below ((Below.refl _ w1).alloc (Nat.le_refl _) _), H0.out⟩
      · exact ⟨hr1.below ((Below.refl _ w1).alloc (Nat.le_refl _) _), h01⟩)
    (by simp [cat]; omega))
  have Q1 := Lib.hid (hN.q.alloc hN.q.size (.cells #[.slice A L c, .slice A1 (nb k).length c1] 22))
  have hs := hN.q.size
  obtain ⟨M, hM⟩ : ∃ M, (nb k).length = M := ⟨_, rfl⟩
  rw [hM] at CC Q1 ⊢
  clear hN hr1 h01 K hM
  go_wp2_with fail
  refine CC.out.mono ?_; rintro e w2 ⟨v2, rfl, hN2⟩
  have Q2 := Lib.hid (Q1.out.trans (hN2.q.mono Q1.out.size))
  have O2 := Lib.hid (own_less hN2.o Q1.out.size)
  clear hN2
  go_wp2_with fail
  go_ret
  refine ⟨_, rfl, ?_, Q2.out⟩
  have := O2.out
  simpa [cat] using this
set_option maxRecDepth 100000 in
theorem wint15 (A : Option Addr) (c : Nat) (bs : List Int) (k : Int) (W : World) (hr : RdB W A bs.length bs) (hb : A = none → bs.length = 0 ∧ c = 0) (hl : bs.length ≤ 1000000) (hk : -9223372036854775808 ≤ k ∧ k ≤ 9223372036854775807) :
    Calls Tryz.prog 39 #[.slice A bs.length c, .int .i64 k] W fun E W' => Made W (bs ++ ib k) E W' := by
  by_cases h0 : 0 ≤ k
  · have C := wnat15 A c bs (2 * k).toNat W hr hb hl (by omega)
    rw [← xor_zero h0 hk.2, show nb (2 * k).toNat = ib k from (if_pos h0).symm] at C
    have CC := Lib.hid C
    clear hr hb C
    go_enter Tryz.func39, Tryz.ntmps39
    go_wp2_with fail
    refine CC.out.mono ?_; rintro e w1 ⟨v', rfl, r⟩
    have R := Lib.hid r
    clear r
    go_wp2_with fail
    go_ret
    exact ⟨_, rfl, R.out⟩
  · have C := wnat15 A c bs (2 * (-(k + 1)) + 1).toNat W hr hb hl (by omega)
    rw [← xor_neg (by omega) hk.1, show nb (2 * (-(k + 1)) + 1).toNat = ib k from (if_neg h0).symm] at C
    have CC := Lib.hid C
    clear hr hb C
    go_enter Tryz.func39, Tryz.ntmps39
    go_wp2_with fail
    refine CC.out.mono ?_; rintro e w1 ⟨v', rfl, r⟩
    have R := Lib.hid r
    clear r
    go_wp2_with fail
    go_ret
    exact ⟨_, rfl, R.out⟩
set_option maxRecDepth 100000 in
theorem wflag15 (A : Option Addr) (c : Nat) (bs : List Int) (k : Bool) (W : World) (hr : RdB W A bs.length bs) (h0 : A = none → bs.length = 0 ∧ c = 0) (hl : bs.length ≤ 1000000) :
    Calls Tryz.prog 59 #[.slice A bs.length c, .bool k] W fun E W' => Made W (bs ++ fb k) E W' := by
  have HR := Lib.hid hr
  have H0 := Lib.hid h0
  clear hr h0
  obtain ⟨L, hL⟩ : ∃ L, bs.length = L := ⟨_, rfl⟩
  rw [hL] at HR H0 hl ⊢
  have HL := Lib.hid hL
  clear hL
  have CC := fun (x : Int) => Lib.hid (concat_any (W.heap.size + 1) 2 [⟨A, L, c, bs⟩, ⟨some ⟨W.heap.size, 0, none⟩, 1, 1, [x]⟩] ((W.alloc (.cells #[.int .u8 x] 5)).alloc (.cells #[.slice A L c, .slice (some ⟨W.heap.size, 0, none⟩) 1 1] 22)) rfl (by decide)
    (by have := two_at (W.alloc (.cells #[.int .u8 x] 5)) ⟨A, L, c, bs⟩ ⟨some ⟨W.heap.size, 0, none⟩, 1, 1, [x]⟩; rwa [size_alloc] at this)
    (by
      intro p hp
      simp only [List.mem_cons, List.not_mem_nil, or_false] at hp
      rcases hp with rfl | rfl
      · exact ⟨(HR.out.below ((Below.refl _ W).alloc (Nat.le_refl _) _)).below ((Below.refl _ _).alloc (Nat.le_refl _) _), H0.out⟩
      · obtain ⟨A', c', e, r⟩ := (new_one W x).rd
        cases e
        exact ⟨r.below ((Below.refl _ _).alloc (Nat.le_refl _) _), fun h => by cases h⟩)
    (by simp [cat]; have := HL.out; omega))
  have QQ := fun (x : Int) => Lib.hid (((Below.refl _ W).alloc (Nat.le_refl _) (.cells #[.int .u8 x] 5)).alloc (one_alloc _ _) (.cells #[.slice A L c, .slice (some ⟨W.heap.size, 0, none⟩) 1 1] 22))
  cases k
  · have C := CC 0
    have Q1 := QQ 0
    clear CC QQ
    go_enter Tryz.func59, Tryz.ntmps59
    go_wp2_with fail
    refine C.out.mono ?_; rintro e w2 ⟨v2, rfl, hN2⟩
    have Q2 := Lib.hid (Q1.out.trans (hN2.q.mono Q1.out.size))
    have O2 := Lib.hid (own_less hN2.o Q1.out.size)
    clear hN2
    go_wp2_with fail
    go_ret
    refine ⟨_, rfl, ?_, Q2.out⟩
    have := O2.out
    simpa [cat, fb] using this
  · have C := CC 1
    have Q1 := QQ 1
    clear CC QQ
    go_enter Tryz.func59, Tryz.ntmps59
    go_wp2_with fail
    refine C.out.mono ?_; rintro e w2 ⟨v2, rfl, hN2⟩
    have Q2 := Lib.hid (Q1.out.trans (hN2.q.mono Q1.out.size))
    have O2 := Lib.hid (own_less hN2.o Q1.out.size)
    clear hN2
    go_wp2_with fail
    go_ret
    refine ⟨_, rfl, ?_, Q2.out⟩
    have := O2.out
    simpa [cat, fb] using this

end Go.Proofs.YtbmlpokkojhhjaaGreat.Wz
/- The program's own wire: Nat, Int, behind bytes that are read, one's own or not. -/
namespace Go.Proofs.YtbmlpokkojhhjaaGreat
open Go.RowKit

set_option maxRecDepth 100000 in
theorem wnat_rd (A : Option Addr) (L c : Nat) (bs : List Int) (k : Nat) (W : World) (hr : RdB W A L bs) (h0 : A = none → L = 0 ∧ c = 0) (hl : L ≤ 1000000) (hk : k < 18446744073709551616) :
    Calls Tryz.prog 38 #[.slice A L c, .int .u64 k] W fun E W' => Made W (bs ++ nb k) E W' := by
  have hbl := hr.1
  have ht := nb_ten hk
  have K := Lib.hid (natural_any k hk W)
  have HR := Lib.hid hr
  have H0 := Lib.hid h0
  clear hr h0
  go_enter Tryz.func38, Tryz.ntmps38
  go_wp2_with fail
  refine K.out.mono ?_; rintro e w1 ⟨v1, rfl, hN⟩
  obtain ⟨A1, c1, rfl, hr1, h01⟩ := owns_pt hN.o
  have CC := Lib.hid (concat_any w1.heap.size 2 [⟨A, L, c, bs⟩, ⟨A1, (nb k).length, c1, nb k⟩] (w1.alloc (.cells #[.slice A L c, .slice A1 (nb k).length c1] 22)) rfl (by decide) (two_at w1 ⟨A, L, c, bs⟩ ⟨A1, (nb k).length, c1, nb k⟩)
    (by
      intro p hp
      simp only [List.mem_cons, List.not_mem_nil, or_false] at hp
      rcases hp with rfl | rfl
      · exact ⟨(HR.out.below hN.q).below ((Below.refl _ w1).alloc (Nat.le_refl _) _), H0.out⟩
      · exact ⟨hr1.below ((Below.refl _ w1).alloc (Nat.le_refl _) _), h01⟩)
    (by simp [cat]; omega))
  have Q1 := Lib.hid (hN.q.alloc hN.q.size (.cells #[.slice A L c, .slice A1 (nb k).length c1] 22))
  have hs := hN.q.size
  obtain ⟨M, hM⟩ : ∃ M, (nb k).length = M := ⟨_, rfl⟩
  rw [hM] at CC Q1 ⊢
  clear hN hr1 h01 K hM
  go_wp2_with fail
  refine CC.out.mono ?_; rintro e w2 ⟨v2, rfl, hN2⟩
  have Q2 := Lib.hid (Q1.out.trans (hN2.q.mono Q1.out.size))
  have O2 := Lib.hid (own_less hN2.o Q1.out.size)
  clear hN2
  go_wp2_with fail
  go_ret
  refine ⟨_, rfl, ?_, Q2.out⟩
  have := O2.out
  simpa [cat] using this
set_option maxRecDepth 100000 in
theorem wint_rd (A : Option Addr) (L c : Nat) (bs : List Int) (k : Int) (W : World) (hr : RdB W A L bs) (hn : A = none → L = 0 ∧ c = 0) (hl : L ≤ 1000000) (hk : -9223372036854775808 ≤ k ∧ k ≤ 9223372036854775807) :
    Calls Tryz.prog 39 #[.slice A L c, .int .i64 k] W fun E W' => Made W (bs ++ ib k) E W' := by
  by_cases h0 : 0 ≤ k
  · have C := wnat_rd A L c bs (2 * k).toNat W hr hn hl (by omega)
    rw [← xor_zero h0 hk.2, show nb (2 * k).toNat = ib k from (if_pos h0).symm] at C
    have CC := Lib.hid C
    clear hr hn C
    go_enter Tryz.func39, Tryz.ntmps39
    go_wp2_with fail
    refine CC.out.mono ?_; rintro e w1 ⟨v', rfl, r⟩
    have R := Lib.hid r
    clear r
    go_wp2_with fail
    go_ret
    exact ⟨_, rfl, R.out⟩
  · have C := wnat_rd A L c bs (2 * (-(k + 1)) + 1).toNat W hr hn hl (by omega)
    rw [← xor_neg (by omega) hk.1, show nb (2 * (-(k + 1)) + 1).toNat = ib k from (if_neg h0).symm] at C
    have CC := Lib.hid C
    clear hr hn C
    go_enter Tryz.func39, Tryz.ntmps39
    go_wp2_with fail
    refine CC.out.mono ?_; rintro e w1 ⟨v', rfl, r⟩
    have R := Lib.hid r
    clear r
    go_wp2_with fail
    go_ret
    exact ⟨_, rfl, R.out⟩
end Go.Proofs.YtbmlpokkojhhjaaGreat
/- Contract of the program's own form of a contract's data; Bytes and Put. -/
namespace Go.Proofs.YtbmlpokkojhhjaaGreat
open Go.RowKit

def natF (l : List Nat) : List Int := l.flatMap nb
theorem natF_snoc (l : List Nat) (x : Nat) : natF (l ++ [x]) = natF l ++ nb x := by simp [natF]
theorem natF_next {l : List Nat} {k : Nat} (h : k < l.length) : natF (l.take (k + 1)) = natF (l.take k) ++ nb (l.getD k 0) := by
  rw [List.take_succ_eq_append_getElem h, natF_snoc]
  simp [List.getD, h]
theorem shF_next {l : List Int} {k : Nat} (h : k < l.length) : shF (l.take (k + 1)) = shF (l.take k) ++ ib (l.getD k 0) := by
  rw [take_more h, shF_snoc]
theorem natF_len : ∀ {l : List Nat}, (∀ x, x ∈ l → x ≤ 4294967295) → (natF l).length ≤ 10 * l.length
  | [], _ => by simp [natF]
  | y :: l, h => by
    have e : natF (y :: l) = nb y ++ natF l := by simp [natF]
    have h1 := nb_ten (n := y) (by have := h y (by simp); omega)
    have h2 := natF_len (l := l) (fun x hx => h x (by simp [hx]))
    rw [e, List.length_append, List.length_cons]
    omega
theorem natF_take {l : List Nat} (h : ∀ x, x ∈ l → x ≤ 4294967295) (k : Nat) : (natF (l.take k)).length ≤ 10 * l.length := by
  have h1 := natF_len (l := l.take k) (fun x hx => h x (List.mem_of_mem_take hx))
  rw [List.length_take] at h1
  omega
theorem shF_take {l : List Int} (h : ∀ x, x ∈ l → I64 x) (k : Nat) : (shF (l.take k)).length ≤ 10 * l.length := by
  have h1 := shF_len (l.take k) (fun x hx => h x (List.mem_of_mem_take hx))
  rw [List.length_take] at h1
  omega
theorem own_below {W W' : World} {base n : Nat} {v : Value} {xs : List Value} (o : W.ownsRow base 5 1 v n xs) (b : Below W.heap.size W W') : W'.ownsRow base 5 1 v n xs := by
  refine ⟨o.1, ?_⟩
  rcases o.2 with h | ⟨g, cap, cur, e1, hb, hg, r⟩
  · exact .inl h
  · exact .inr ⟨g, cap, cur, e1, hb, (b.block g (Array.getElem?_eq_some_iff.1 hg).1).trans hg, r⟩
/-- A list of numbers that a call has made. -/
theorem nums_at (w : World) (l : List Nat) (cs : Array Value) (hc : cs = (l.map fun n : Nat => Value.int .i64 (n : Int)).toArray) {wr : World} (b : Below (w.alloc (.cells cs 2)).heap.size (w.alloc (.cells cs 2)) wr) (j : Nat) (hj : j < l.length) :
    wr.cell? ⟨w.heap.size, j, none⟩ = some (.int .i64 ((l.getD j 0 : Nat) : Int)) := by
  rw [b.cell (p := ⟨w.heap.size, j, none⟩) (by simp), cell_of_row _ _ _ _ _ _ (heap_alloc_new w _), hc]
  simp [List.getD, hj]
theorem mem_getD {l : List Nat} {k : Nat} (h : k < l.length) : l.getD k 0 ∈ l := by
  rw [show l.getD k 0 = l[k] from by simp [List.getD, h]]
  exact List.getElem_mem _
theorem mem_getDi {l : List Int} {k : Nat} (h : k < l.length) : l.getD k 0 ∈ l := by
  rw [show l.getD k 0 = l[k] from by simp [List.getD, h]]
  exact List.getElem_mem _
set_option maxRecDepth 100000 in
set_option maxHeartbeats 8000000 in
theorem pform_any (s : Sp) (w : World) (ok : s.ok) (hm : mayB s = true) : Calls Tryz.prog 96 #[.agg s.cells] w fun e W => Made w (form s) e W := by
  have NAT := Lib.hid (fun A L c bs k W h1 h2 h3 h4 => wnat_rd A L c bs k W h1 h2 h3 h4)
  have INT := Lib.hid (fun A L c bs k W h1 h2 h3 h4 => wint_rd A L c bs k W h1 h2 h3 h4)
  have HB := Lib.hid (box_new w ok.len)
  have hp := head_parts (may_head hm)
  have hf := may_fi hm
  obtain ⟨nu, hnu⟩ : ∃ k : Nat, s.nu = k := ⟨s.nu.toNat, by have := ok.nu; omega⟩
  obtain ⟨ro, hro⟩ : ∃ k : Nat, s.ro = k := ⟨s.ro.toNat, by have := ok.ro; omega⟩
  obtain ⟨ti, hti⟩ : ∃ k : Nat, s.ti = k := ⟨s.ti.toNat, by omega⟩
  obtain ⟨lo, hlo⟩ : ∃ k : Nat, s.lo = k := ⟨s.lo.toNat, by omega⟩
  obtain ⟨ba, hba⟩ : ∃ k : Nat, s.ba = k := ⟨s.ba.toNat, by omega⟩
  obtain ⟨li, hli⟩ : ∃ k : Nat, s.li = k := ⟨s.li.toNat, by omega⟩
  obtain ⟨cr, hcr⟩ : ∃ k : Nat, s.cr = k := ⟨s.cr.toNat, by omega⟩
  obtain ⟨la, hla⟩ : ∃ k : Nat, s.la = k := ⟨s.la.toNat, by have := ok.la; omega⟩
  obtain ⟨fi, hfi⟩ : ∃ k : Nat, s.fi = k := ⟨s.fi.toNat, by omega⟩
  have C0 := s.c0
  have C1 := s.c1
  have C2 := s.c2
  have C3 := s.c3
  have C4 := s.c4
  have C5 := s.c5
  have C22 := Lib.hid (Sp.c22 ok.len)
  have C23 := Lib.hid (Sp.c23 ok.len)
  have C24 := Lib.hid (Sp.c24 ok.len)
  have HL := Lib.hid ok.len
  have HSH := Lib.hid ok.sh
  have k0 := ok.nu
  have k1 := ok.ro
  have k2 := ok.la
  rw [hnu] at C0 k0
  rw [hro] at C1 k1
  rw [hti] at C2 hp
  rw [hlo] at C3 hp
  rw [hba] at C4 hp
  rw [hli] at C5 hp
  rw [hcr] at C22 hp
  rw [hla] at C23 k2
  rw [hfi] at C24 hf
  have FM : Hid (form s = natF [nu, ro, ti, lo, ba, li] ++ shF s.sh ++ natF [cr, la, fi]) := Lib.hid (by
    unfold form six natF
    rw [hnu, hro, hti, hlo, hba, hli, hcr, hla, hfi]
    simp)
  have b0 : nu ≤ 4294967295 := by omega
  have b1 : ro ≤ 255 := by omega
  have b2 : ti ≤ 10000000 := by omega
  have b3 : lo ≤ 10000000 := by omega
  have b4 : ba ≤ 10000000 := by omega
  have b5 : li ≤ 10000000 := by omega
  have b6 : cr ≤ 10000000 := by omega
  have b7 : la ≤ 4294967295 := by omega
  have b8 : fi ≤ 10000000 := by omega
  have LE : Hid (∀ x, x ∈ [nu, ro, ti, lo, ba, li] → x ≤ 4294967295) := Lib.hid (by
    intro x hx
    simp only [List.mem_cons, List.not_mem_nil, or_false] at hx
    omega)
  have LE2 : Hid (∀ x, x ∈ [cr, la, fi] → x ≤ 4294967295) := Lib.hid (by
    intro x hx
    simp only [List.mem_cons, List.not_mem_nil, or_false] at hx
    omega)
  clear hnu hro hti hlo hba hli hcr hla hfi hp hf k0 k1 k2 ok hm
  obtain ⟨w0, hw0⟩ : ∃ W, w.alloc (.cells s.cells 29) = W := ⟨_, rfl⟩
  have hs0 : w0.heap.size = w.heap.size + 1 := by rw [← hw0]; simp
  have B0 : Hid (Below w.heap.size w w0) := Lib.hid (by rw [← hw0]; exact (Below.refl w.heap.size w).alloc (Nat.le_refl _) _)
  have HB0 : Hid (Box w0 w.heap.size s) := Lib.hid (by rw [← hw0]; exact HB.out)
  have HW0 := Lib.hid hw0
  have HS0 := Lib.hid hs0
  clear hs0 HB
  obtain ⟨l6, hl6⟩ : ∃ l, [nu, ro, ti, lo, ba, li] = l := ⟨_, rfl⟩
  have HL6 : Hid (l6.length = 6) := Lib.hid (by rw [← hl6]; rfl)
  have HA6 : Hid ((#[.int .i64 (nu : Int), .int .i64 (ro : Int), .int .i64 (ti : Int), .int .i64 (lo : Int), .int .i64 (ba : Int), .int .i64 (li : Int)] : Array Value) = (l6.map fun n : Nat => Value.int .i64 (n : Int)).toArray) := Lib.hid (by rw [← hl6]; rfl)
  obtain ⟨l3, hl3⟩ : ∃ l, [cr, la, fi] = l := ⟨_, rfl⟩
  have HL3 : Hid (l3.length = 3) := Lib.hid (by rw [← hl3]; rfl)
  have HA3 : Hid ((#[.int .i64 (cr : Int), .int .i64 (la : Int), .int .i64 (fi : Int)] : Array Value) = (l3.map fun n : Nat => Value.int .i64 (n : Int)).toArray) := Lib.hid (by rw [← hl3]; rfl)
  rw [hl6] at FM LE
  rw [hl3] at FM LE2
  clear hl6 hl3 hw0
  go_enter Tryz.func96, Tryz.ntmps96
  go_wp2_with fail
  have hsz : w.heap.size + 1 = w0.heap.size := HS0.out.symm
  rw [HW0.out, hsz]
  obtain ⟨c6, hc6⟩ : ∃ c : Array Value, #[.int .i64 (nu : Int), .int .i64 (ro : Int), .int .i64 (ti : Int), .int .i64 (lo : Int), .int .i64 (ba : Int), .int .i64 (li : Int)] = c := ⟨_, rfl⟩
  rw [hc6] at HA6 ⊢
  clear hc6 C0 C1 C2 C3 C4 C5 b0 b1 b2 b3 b4 b5 hsz
  have SZ : Hid (w.heap.size ≤ (w0.alloc (.cells c6 2)).heap.size) := Lib.hid (by rw [size_alloc]; have := HS0.out; omega)
  go_loopw [3, 26] (fun v i wr => ∃ (k : Nat), k ≤ 6 ∧ i = .int .i64 k ∧ wr.ownsRow w.heap.size 5 1 v (natF (l6.take k)).length ((natF (l6.take k)).map (Value.int .u8)) ∧ Below (w0.alloc (.cells c6 2)).heap.size (w0.alloc (.cells c6 2)) wr) (fun _ i _ => 6 - (intOf i).toNat)
  case atStart => exact ⟨0, Nat.zero_le _, rfl, World.ownsRow_nil _ _ _ _, Below.refl _ _⟩
  case round =>
    obtain ⟨k, hk, rfl, ho, bel⟩ := hrel
    have O := Lib.hid ho
    have BE := Lib.hid bel
    clear ho bel
    obtain ⟨A, c, rfl, hr, h0⟩ := owns_pt O.out
    have hlen := natF_take LE.out k
    rw [HL6.out] at hlen
    by_cases hlt : k < 6
    case pos =>
      have ck := nums_at w0 l6 c6 HA6.out BE.out k (by rw [HL6.out]; exact hlt)
      have hx := LE.out _ (mem_getD (l := l6) (k := k) (by rw [HL6.out]; exact hlt))
      have NX := Lib.hid (natF_next (l := l6) (k := k) (by rw [HL6.out]; exact hlt))
      obtain ⟨x, hxe⟩ : ∃ x, l6.getD k 0 = x := ⟨_, rfl⟩
      rw [hxe] at ck hx NX
      obtain ⟨X, hX⟩ : ∃ X, natF (l6.take k) = X := ⟨_, rfl⟩
      rw [hX] at O NX hr h0 hlen ⊢
      have CN := Lib.hid (NAT.out A X.length c X x wr hr h0 (by omega) (by omega))
      obtain ⟨L, hL⟩ : ∃ L, X.length = L := ⟨_, rfl⟩
      rw [hL] at hlen CN ⊢
      clear hxe hX hr h0 hL O
      have hd : decide ((k : Int) < 6) = true := decide_eq_true (by omega)
      go_wp2_with fail
      refine CN.out.mono ?_; rintro e w2 ⟨v2, rfl, hN⟩
      have O2 := Lib.hid (own_less hN.o (Nat.le_trans SZ.out BE.out.size) : w2.ownsRow w.heap.size _ _ _ _ _)
      have BE2 := Lib.hid (BE.out.trans (hN.q.mono BE.out.size))
      clear hN CN
      go_wp2_with fail
      go_roundw
      case rel => exact ⟨k + 1, hlt, by go_num, by rw [NX.out]; exact O2.out, BE2.out⟩
      case measure => simp [intOf]; omega
    case neg =>
      obtain rfl : k = 6 := by omega
      rw [List.take_of_length_le (by rw [HL6.out]; exact Nat.le_refl _)] at O hlen hr h0
      rw [List.take_of_length_le (by rw [HL6.out]; exact Nat.le_refl _)]
      have E0 := Lib.hid (((Below.refl w0.heap.size w0).alloc (Nat.le_refl _) (.cells c6 2)).trans (BE.out.mono (by rw [size_alloc]; omega)))
      have HBr := Lib.hid (HB0.out.below E0.out)
      have BL := Lib.hid (B0.out.trans (E0.out.mono B0.out.size))
      obtain ⟨X6, hX6⟩ : ∃ X, natF l6 = X := ⟨_, rfl⟩
      rw [hX6] at O hlen FM ⊢
      clear hX6 hr h0 HA6 HL6 LE E0 BE hk hlt
      go_wp2_with ((with_reducible refine wl_load_arr w.heap.size HBr.out ?_ ?_); rfl)
      obtain ⟨v0, hv0⟩ : ∃ v, Value.slice A X6.length c = v := ⟨_, rfl⟩
      rw [hv0] at O ⊢
      clear hv0
      go_loopw [3, 37] (fun v i wr2 => ∃ (k : Nat), k ≤ 16 ∧ i = .int .i64 k ∧ wr2.ownsRow w.heap.size 5 1 v (X6 ++ shF (s.sh.take k)).length ((X6 ++ shF (s.sh.take k)).map (Value.int .u8)) ∧ Below wr.heap.size wr wr2) (fun _ i _ => 16 - (intOf i).toNat)
      case atStart => exact ⟨0, Nat.zero_le _, rfl, by rw [List.take_zero, show X6 ++ shF [] = X6 from by simp [shF]]; exact O.out, Below.refl _ _⟩
      case round =>
        obtain ⟨k, hk, rfl, ho, bel⟩ := hrel
        have O := Lib.hid ho
        have BE := Lib.hid bel
        clear ho bel
        obtain ⟨A, c, rfl, hr, h0⟩ := owns_pt O.out
        have hlen2 := shF_take HSH.out k
        rw [HL.out] at hlen2
        by_cases hlt : k < 16
        case pos =>
          have hx := HSH.out _ (mem_getDi (l := s.sh) (k := k) (by rw [HL.out]; exact hlt))
          have NX := Lib.hid (shF_next (l := s.sh) (k := k) (by rw [HL.out]; exact hlt))
          have hlen3 : (X6 ++ shF (s.sh.take k)).length ≤ 300 := by rw [List.length_append]; omega
          obtain ⟨X, hX⟩ : ∃ X, X6 ++ shF (s.sh.take k) = X := ⟨_, rfl⟩
          have NY : Hid (X6 ++ shF (s.sh.take (k + 1)) = X ++ ib (s.sh.getD k 0)) := Lib.hid (by rw [NX.out, ← List.append_assoc, hX])
          rw [hX] at O hr h0 hlen3 ⊢
          have CN := Lib.hid (INT.out A X.length c X (s.sh.getD k 0) wr hr h0 (by omega) hx)
          obtain ⟨L, hL⟩ : ∃ L, X.length = L := ⟨_, rfl⟩
          rw [hL] at hlen3 CN ⊢
          clear hX hr h0 hL O NX hlen hlen2
          have hd : decide ((k : Int) < 16) = true := decide_eq_true (by omega)
          go_wp2_with ((with_reducible refine wl_index_arr (k := k) HL.out hlt ?_ ?_ ?_); rfl; rfl)
          refine CN.out.mono ?_; rintro e w2 ⟨v2, rfl, hN⟩
          have O2 := Lib.hid (own_less hN.o (Nat.le_trans BL.out.size BE.out.size) : w2.ownsRow w.heap.size _ _ _ _ _)
          have BE2 := Lib.hid (BE.out.trans (hN.q.mono BE.out.size))
          clear hN CN
          go_wp2_with fail
          go_roundw
          case rel => exact ⟨k + 1, hlt, by go_num, by rw [NY.out]; exact O2.out, BE2.out⟩
          case measure => simp [intOf]; omega
        case neg =>
          obtain rfl : k = 16 := by omega
          rw [show ((16 : Nat) : Int) = 16 from rfl]
          rw [List.take_of_length_le (by rw [HL.out]; exact Nat.le_refl _)] at O hlen2 hr h0
          rw [List.take_of_length_le (by rw [HL.out]; exact Nat.le_refl _)]
          have hlen3 : (X6 ++ shF s.sh).length ≤ 300 := by rw [List.length_append]; omega
          have HB2 := HBr.out.below BE.out
          have k22 := HB2.cell 22
          rw [C22.out] at k22
          have k23 := HB2.cell 23
          rw [C23.out] at k23
          have k24 := HB2.cell 24
          rw [C24.out] at k24
          have BL2 := Lib.hid (BL.out.trans (BE.out.mono BL.out.size))
          obtain ⟨Y, hY⟩ : ∃ X, X6 ++ shF s.sh = X := ⟨_, rfl⟩
          rw [hY] at O hlen3 FM ⊢
          clear hY hr h0 HB2 BE hk hlt hlen hlen2 HBr BL
          go_wp2_with fail
          obtain ⟨c3, hc3⟩ : ∃ c : Array Value, #[.int .i64 (cr : Int), .int .i64 (la : Int), .int .i64 (fi : Int)] = c := ⟨_, rfl⟩
          rw [hc3] at HA3 ⊢
          have BL3 := Lib.hid (BL2.out.alloc BL2.out.size (.cells c3 2))
          have O3 : Hid ((wr.alloc (.cells c3 2)).ownsRow w.heap.size 5 1 (.slice A Y.length c) Y.length (Y.map (Value.int .u8))) := Lib.hid (own_below O.out ((Below.refl _ wr).alloc (Nat.le_refl _) _))
          obtain ⟨v3, hv3⟩ : ∃ v, Value.slice A Y.length c = v := ⟨_, rfl⟩
          rw [hv3] at O3 ⊢
          clear hc3 hv3 k22 k23 k24 O
          go_loopw [3, 53] (fun v i wr3 => ∃ (k : Nat), k ≤ 3 ∧ i = .int .i64 k ∧ wr3.ownsRow w.heap.size 5 1 v (Y ++ natF (l3.take k)).length ((Y ++ natF (l3.take k)).map (Value.int .u8)) ∧ Below (wr.alloc (.cells c3 2)).heap.size (wr.alloc (.cells c3 2)) wr3) (fun _ i _ => 3 - (intOf i).toNat)
          case atStart => exact ⟨0, Nat.zero_le _, rfl, by rw [List.take_zero, show Y ++ natF [] = Y from by simp [natF]]; exact O3.out, Below.refl _ _⟩
          case round =>
            obtain ⟨k, hk, rfl, ho, bel⟩ := hrel
            have O := Lib.hid ho
            have BE := Lib.hid bel
            clear ho bel
            obtain ⟨A, c, rfl, hr, h0⟩ := owns_pt O.out
            have hlen2 := natF_take LE2.out k
            rw [HL3.out] at hlen2
            by_cases hlt : k < 3
            case pos =>
              have ck := nums_at _ l3 c3 HA3.out BE.out k (by rw [HL3.out]; exact hlt)
              have hx := LE2.out _ (mem_getD (l := l3) (k := k) (by rw [HL3.out]; exact hlt))
              have NX := Lib.hid (natF_next (l := l3) (k := k) (by rw [HL3.out]; exact hlt))
              obtain ⟨x, hxe⟩ : ∃ x, l3.getD k 0 = x := ⟨_, rfl⟩
              rw [hxe] at ck hx NX
              have hlen4 : (Y ++ natF (l3.take k)).length ≤ 400 := by rw [List.length_append]; omega
              obtain ⟨X, hX⟩ : ∃ X, Y ++ natF (l3.take k) = X := ⟨_, rfl⟩
              have NY : Hid (Y ++ natF (l3.take (k + 1)) = X ++ nb x) := Lib.hid (by rw [NX.out, ← List.append_assoc, hX])
              rw [hX] at O hr h0 hlen4 ⊢
              have CN := Lib.hid (NAT.out A X.length c X x wr hr h0 (by omega) (by omega))
              obtain ⟨L, hL⟩ : ∃ L, X.length = L := ⟨_, rfl⟩
              rw [hL] at hlen4 CN ⊢
              clear hxe hX hr h0 hL O NX hlen3 hlen2
              have hd : decide ((k : Int) < 3) = true := decide_eq_true (by omega)
              go_wp2_with fail
              refine CN.out.mono ?_; rintro e w2 ⟨v2, rfl, hN⟩
              have O2 := Lib.hid (own_less hN.o (Nat.le_trans BL3.out.size BE.out.size) : w2.ownsRow w.heap.size _ _ _ _ _)
              have BE2 := Lib.hid (BE.out.trans (hN.q.mono BE.out.size))
              clear hN CN
              go_wp2_with fail
              go_roundw
              case rel => exact ⟨k + 1, hlt, by go_num, by rw [NY.out]; exact O2.out, BE2.out⟩
              case measure => simp [intOf]; omega
            case neg =>
              obtain rfl : k = 3 := by omega
              rw [List.take_of_length_le (by rw [HL3.out]; exact Nat.le_refl _)] at O
              rw [List.take_of_length_le (by rw [HL3.out]; exact Nat.le_refl _)]
              rw [← FM.out] at O ⊢
              have BQ := Lib.hid (BL3.out.trans (BE.out.mono BL3.out.size))
              clear hr h0
              go_wp2_with fail
              go_ret
              exact ⟨_, rfl, O.out, BQ.out⟩





































def PutOk (w : World) (bs : List Int) (E : Ending) (W : World) : Prop := ∃ A' c', E = .returned (.slice A' bs.length c') ∧ RdB W A' bs.length bs ∧ Below w.heap.size w W
theorem put_made {w0 w W : World} {bs : List Int} {v : Value} (b : Below w0.heap.size w0 w) (h : New w W v bs) : PutOk w0 bs (.returned v) W := by
  obtain ⟨A, c, rfl, hr⟩ := h.rd
  exact ⟨A, c, rfl, hr, b.trans (h.q.mono b.size)⟩
set_option maxRecDepth 100000 in
theorem pput_yes (A : Option Addr) (n c : Nat) (bs : List Int) (s : Sp) (w : World) (h : RdB w A n bs) (h0 : A = none → n = 0 ∧ c = 0) (hn : n ≤ 100000) (ok : s.ok) (hm : mayB s = true) : Calls Tryz.prog 55 #[.slice A n c, .agg s.cells] w (PutOk w (bs ++ form s)) := by
  have MY := Lib.hid (fun W => pmay_any s W ok)
  have FO := Lib.hid (fun W => pform_any s W ok hm)
  have FL := Lib.hid (form_len ok)
  rw [hm] at MY
  have HB := Lib.hid (box_new w ok.len)
  have B := Lib.hid ((Below.refl w.heap.size w).alloc (Nat.le_refl _) (.cells s.cells 29))
  have R := Lib.hid h
  have H0 := Lib.hid h0
  have HBL := Lib.hid h.1
  clear hm ok h h0
  go_enter Tryz.func55, Tryz.ntmps55
  go_wp2_with ((with_reducible refine wl_load_sp w.heap.size HB.out ?_ ?_ ?_); rfl; rfl)
  refine (MY.out _).mono ?_; rintro e w1 ⟨rfl, q⟩
  have B1 := Lib.hid (B.out.trans (q.mono B.out.size))
  have HB1 := Lib.hid (HB.out.below q)
  clear q
  go_wp2_with ((with_reducible refine wl_load_sp w.heap.size HB1.out ?_ ?_ ?_); rfl; rfl)
  refine (FO.out _).mono ?_; rintro e w2 ⟨v, rfl, hN⟩
  have B2 := Lib.hid (B1.out.trans (hN.q.mono B1.out.size))
  obtain ⟨A1, c1, rfl, hr1, h01⟩ := owns_pt hN.o
  have CC := Lib.hid (concat_any w2.heap.size 2 [⟨A, n, c, bs⟩, ⟨A1, (form s).length, c1, form s⟩] (w2.alloc (.cells #[.slice A n c, .slice A1 (form s).length c1] 22)) rfl (by decide) (two_at w2 ⟨A, n, c, bs⟩ ⟨A1, (form s).length, c1, form s⟩)
    (by
      intro p hp
      simp only [List.mem_cons, List.not_mem_nil, or_false] at hp
      rcases hp with rfl | rfl
      · exact ⟨(R.out.below B2.out).below ((Below.refl _ w2).alloc (Nat.le_refl _) _), H0.out⟩
      · exact ⟨hr1.below ((Below.refl _ w2).alloc (Nat.le_refl _) _), h01⟩)
    (by have := FL.out; have := HBL.out; simp [cat]; omega))
  have Q1 := Lib.hid (B2.out.alloc B2.out.size (.cells #[.slice A n c, .slice A1 (form s).length c1] 22))
  obtain ⟨M, hM⟩ : ∃ M, (form s).length = M := ⟨_, rfl⟩
  rw [hM] at CC Q1 ⊢
  clear hN hr1 h01 hM
  go_wp2_with fail
  refine CC.out.mono ?_; rintro e w3 ⟨v2, rfl, hN2⟩
  have P := Lib.hid (put_made Q1.out hN2)
  rw [show cat [⟨A, n, c, bs⟩, ⟨A1, M, c1, form s⟩] = bs ++ form s from by simp [cat]] at P
  clear hN2
  go_wp2_with fail
  go_ret
  exact P.out
set_option maxRecDepth 100000 in
theorem pput_no (A : Option Addr) (n c : Nat) (bs : List Int) (s : Sp) (w : World) (h : RdB w A n bs) (h0 : A = none → n = 0 ∧ c = 0) (hn : n ≤ 100000) (ok : s.ok) (hm : mayB s = false) : Calls Tryz.prog 55 #[.slice A n c, .agg s.cells] w (PutOk w bs) := by
  have MY := Lib.hid (fun W => pmay_any s W ok)
  rw [hm] at MY
  have HB := Lib.hid (box_new w ok.len)
  have B := Lib.hid ((Below.refl w.heap.size w).alloc (Nat.le_refl _) (.cells s.cells 29))
  have R := Lib.hid h
  have CL := Lib.hid (fun W (h : RdB W A n bs) => clone_any A n c bs W h (by omega) h0)
  clear hm ok h h0
  go_enter Tryz.func55, Tryz.ntmps55
  go_wp2_with ((with_reducible refine wl_load_sp w.heap.size HB.out ?_ ?_ ?_); rfl; rfl)
  refine (MY.out _).mono ?_; rintro e w1 ⟨rfl, q⟩
  have B1 := Lib.hid (B.out.trans (q.mono B.out.size))
  clear q
  go_wp2_with fail
  refine (CL.out _ (R.out.below B1.out)).mono ?_; rintro e w2 ⟨v, rfl, hN⟩
  have P := Lib.hid (put_made B1.out hN)
  clear hN
  go_wp2_with fail
  go_ret
  exact P.out
theorem pput_any (A : Option Addr) (n c : Nat) (bs : List Int) (s : Sp) (w : World) (h : RdB w A n bs) (h0 : A = none → n = 0 ∧ c = 0) (hn : n ≤ 100000) (ok : s.ok) : Calls Tryz.prog 55 #[.slice A n c, .agg s.cells] w (PutOk w (bs ++ if mayB s then form s else [])) := by
  cases hm : mayB s
  · rw [if_neg Bool.false_ne_true, List.append_nil]
    exact pput_no A n c bs s w h h0 hn ok hm
  · rw [if_pos rfl]
    exact pput_yes A n c bs s w h h0 hn ok hm
end Go.Proofs.YtbmlpokkojhhjaaGreat
/- The program's own reader: Flag (out of XNs). -/
namespace Go.Proofs.YtbmlpokkojhhjaaGreat
open Go.RowKit
set_option linter.unusedVariables false
set_option linter.unusedSimpArgs false

set_option maxRecDepth 100000 in
set_option maxHeartbeats 1000000 in
theorem flag_any (g n c : Nat) (A : Option Addr) (bs : List Int) (e : Int) (w : World) (h : Rq w g A n c bs e) (hy : By bs) (hn : n ≤ 200000) :
    Calls Tryz.prog 60 #[.pointer (some ⟨g, 0, none⟩)] w fun E W => E = .returned (.bool (fR bs e).1) ∧ Dd w g A (fR bs e).2.1 (fR bs e).2.2 W := by
  have hnc := h.nc
  have hl := h.r.1
  have d0 := h.c0
  have d1 := h.c1
  have f0 := h.fr 0
  have f1 := h.fr 1
  have HH := Lib.hid h
  by_cases he : e = 0
  case neg =>
    have S := Lib.hid (stop_yes g n c A bs e w h he)
    rw [show fR bs e = (false, bs, e) from if_pos he]
    clear he hl h
    go_enter Tryz.func60, Tryz.ntmps60
    go_wp2_with fail
    refine S.out.mono ?_; rintro e0 w1 ⟨rfl, rfl⟩
    go_wp2_with fail
    go_ret
    exact ⟨rfl, ⟨A, n, c, HH.out, same_block A⟩, World.grownBy.refl _ _⟩
  subst he
  have S := Lib.hid (stop_no g n c A bs w h)
  have R0 : fR bs 0 = if bs.length = 0 then (false, bs, 4) else if 1 < bs.getD 0 0 then (false, bs, 5) else (decide (bs.getD 0 0 = 1), bs.drop 1, 0) := if_neg (by simp)
  rcases Nat.eq_zero_or_pos n with h0 | h0
  · rw [R0.trans (if_pos (by omega))]
    subst h0
    clear R0 hl h
    go_enter Tryz.func60, Tryz.ntmps60
    go_wp2_with fail
    refine S.out.mono ?_; rintro e0 w1 ⟨rfl, rfl⟩
    go_wp2_with fail
    go_ret
    exact ⟨rfl, ⟨A, 0, c, HH.out.setE 4, same_block A⟩, only_set _ _ _ _⟩
  rw [if_neg (by omega)] at R0
  obtain ⟨b, o, rfl, hc⟩ := h.r.2 h0
  have hcell := hc 0 h0
  have hx : 0 ≤ bs.getD 0 0 ∧ bs.getD 0 0 ≤ 255 := hy _ (by
    have h3 : 0 < bs.length := by omega
    rw [show bs.getD 0 0 = bs[0] from by simp [List.getD, h3]]
    exact List.getElem_mem _)
  obtain ⟨x, hxe⟩ : ∃ x, bs.getD 0 0 = x := ⟨_, rfl⟩
  rw [hxe] at R0 hcell hx
  rw [Nat.add_zero] at hcell
  clear hc
  by_cases h1 : 1 < x
  · rw [R0.trans (if_pos h1)]
    clear R0 hl h hxe
    go_enter Tryz.func60, Tryz.ntmps60
    go_wp2_with fail
    refine S.out.mono ?_; rintro e0 w1 ⟨rfl, rfl⟩
    go_wp2_with fail
    go_ret
    exact ⟨rfl, ⟨_, n, c, HH.out.setE 5, same_block _⟩, only_set _ _ _ _⟩
  · rw [R0.trans (if_neg h1)]
    have P := Lib.hid (pass_any g b o n c 1 bs 0 w HH.out h0 hn)
    have HX := Lib.hid hxe
    clear R0 hl h hxe
    go_enter Tryz.func60, Tryz.ntmps60
    go_wp2_with fail
    refine S.out.mono ?_; rintro e0 w1 ⟨rfl, rfl⟩
    go_wp2_with fail
    refine P.out.mono ?_; rintro e w1 ⟨rfl, ⟨o', hq⟩, hr, hgr⟩
    have HQ := Lib.hid hq
    have HG := Lib.hid hgr
    obtain ⟨b1, o1, e1, hc1⟩ := hr.2 Nat.one_pos
    cases e1
    have hcell1 := hc1 0 Nat.one_pos
    rw [take_getD Nat.one_pos, HX.out, Nat.add_zero] at hcell1
    clear hq hgr hr hc1
    go_wp2_with fail
    go_ret
    refine ⟨?_, ⟨_, _, _, HQ.out, fun a' ha => ⟨_, rfl, by cases ha; rfl⟩⟩, HG.out⟩
    first
      | rfl
      | (by_cases x1 : x = 1
         · subst x1; rfl
         · simp [x1])
      | trace_state
end Go.Proofs.YtbmlpokkojhhjaaGreat
