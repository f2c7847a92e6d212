/- The program's side: what is behind a call; Drop, Lower. -/
import Derived.Test.YtpnccbcaoifdiaaJg
import Derived.Test.YtpnccbcaoifdiaaJc
import Derived.Test.YtpnccbcaoifdiaaJd
import Derived.Test.YtpnccbcaoifdiaaUb
namespace Go.Proofs.Ytpnccbcaoifdiaa
open Go.RowKit Go.Shelf
set_option linter.unusedVariables false

theorem osOf_erase : ∀ (l : List St) (k : Nat), osOf (l.eraseIdx k) = (osOf l).eraseIdx k
  | [], k => by simp [osOf]
  | x :: l, 0 => by simp [osOf]
  | x :: l, k + 1 => by
    have := osOf_erase l k
    simp only [osOf] at this ⊢
    simp [this]
theorem osOf_at {l : List St} {k : Nat} {x : St} (hx : l[k]? = some x) : (osOf l)[k]? = some x.o := by rw [osOf, List.getElem?_map, hx]; rfl
theorem osOf_len (l : List St) : (osOf l).length = l.length := by simp [osOf]
theorem find_at {os : List Or} {k : Nat} {x : Or} {n : Int} (d : Dis os) (hx : os[k]? = some x) (e : x.nu = n) : findO os n = some x := by
  have hm := List.mem_of_getElem? hx
  cases hf : findO os n with
  | none => exact absurd (beq_iff_eq.2 e) (List.find?_eq_none.1 hf x hm)
  | some y =>
    obtain ⟨h1, h2⟩ := find_mem hf
    rw [dis_uniq d h1 hm (h2.trans e.symm)]
theorem find_off {l : List St} {n : Int} (h : ∀ y, y ∈ l → nuIs n y = false) : findO (osOf l) n = none :=
  List.find?_eq_none.2 fun y hy => by
    obtain ⟨z, hz, rfl⟩ := List.mem_map.1 hy
    have := h z hz
    unfold nuIs at this
    simp [this]
theorem drop_at {os : List Or} {k : Nat} {x : Or} {n : Int} (d : Dis os) (hx : os[k]? = some x) (e : x.nu = n) : dropO os n = os.eraseIdx k := by
  subst e
  rw [dis_erase d hx]; rfl
theorem low_at {os : List Or} {k : Nat} {x : Or} {n : Int} (d : Dis os) (hx : os[k]? = some x) (e : x.nu = n) (m : Int) : os.set k (x.wi m) = os.map fun z => if z.nu = n then z.wi m else z := by
  subst e
  rw [dis_set d hx (show (x.wi m).nu = x.nu from rfl)]
  refine List.map_congr_left fun z hz => ?_
  by_cases c : z.nu = x.nu
  · rw [if_pos c, if_pos c, dis_uniq d hz (List.mem_of_getElem? hx) c]
  · rw [if_neg c, if_neg c]
def keyS (x : St) : Int × Int := (x.o.pr, x.cm)
theorem asc_key {buy : Bool} {l l' : List St} (h : l.Pairwise fun x y => ahB buy x y = true) (e : l'.map keyS = l.map keyS) : l'.Pairwise fun x y => ahB buy x y = true := by
  have key : ∀ l : List St, (l.Pairwise fun x y => ahB buy x y = true) ↔ (l.map keyS).Pairwise fun a b => (if a.1 = b.1 then decide (a.2 < b.2) else btr buy a.1 b.1) = true := fun l => by
    rw [List.pairwise_map]; rfl
  rw [key, e, ← key]; exact h
theorem key_set {l : List St} {k : Nat} {x y : St} (hx : l[k]? = some x) (e : keyS y = keyS x) : (l.set k y).map keyS = l.map keyS := by
  apply List.ext_getElem?
  intro i
  rw [List.getElem?_map, List.getElem?_map, List.getElem?_set]
  split
  · rename_i c
    subst c
    rw [hx]
    have := (List.getElem?_eq_some_iff.1 hx).1
    rw [if_pos this]
    simp [e]
  · rfl
section
variable {g : Nat} {v : Value} {buy : Bool} {c : Int} {l : List St} {w : World}
/-- A side behind a call. -/
def DsN (w : World) (g : Nat) (v : Value) (buy : Bool) (c : Int) (l : List St) (w' : World) : Prop := ∃ v', Ds w' g v' buy c l ∧ Fr (DsS g v) w w' ∧ ∀ k, v'.ownBlock = some k → v.ownBlock = some k ∨ w.heap.size ≤ k
theorem dsn_same {w' : World} (h : Ds w g v buy c l) (q : Below w.heap.size w w') : DsN w g v buy c l w' := ⟨v, h.below q, Fr.below q, fun _ e => .inl e⟩
/-- Another row is written into the side. -/
theorem ds_put {W W2 : World} (h : Ds W g v buy c l) {v2 : Value} {l2 : List St} (f : Fr (fun k => v.ownBlock = some k) W W2) (o2 : ESt.Own 66 W2 0 v2 l2) (hv : v2.ownBlock = v.ownBlock ∨ v2.ownBlock = some W.heap.size)
    (i2 : InvO buy (osOf l2)) (m2 : ∀ x, x ∈ l2 → 0 ≤ x.cm ∧ x.cm ≤ c) (a2 : l2.Pairwise fun x y => ahB buy x y = true) :
    W2.cell? ⟨g, 3, none⟩ = some v ∧ W2.frozen? ⟨g, 3, none⟩ = false ∧ Ds (W2.setCell ⟨g, 3, none⟩ v2) g v2 buy c l2 ∧ Fr (DsS g v) W (W2.setCell ⟨g, 3, none⟩ v2) := by
  have hb : W2.heap[g]? = some (.cells #[.bool true, .bool buy, .int .u64 c, v] 51 (0, 0)) := (f.at' g h.gl (fun e => h.apart g e rfl)).trans h.blk
  have hne : ∀ k, v2.ownBlock = some k → k ≠ g := fun k hk => by
    rcases hv with e | e
    · exact h.apart k (by rw [← e]; exact hk)
    · rw [e] at hk; cases hk
      have := h.gl; omega
  refine ⟨by rw [cell_of_row _ _ _ _ _ _ hb]; rfl, by simp [World.frozen?, hb], ⟨heap_setCell_same W2 g 3 _ _ _ hb, ?_, i2, m2, a2, h.nn⟩, (f.mono fun k e => .inr e).same (Fr.set (.inl rfl) _)⟩
  exact gown_same o2 fun k hk => heap_setCell_other W2 ⟨g, 3, none⟩ k v2 (hne k hk)
/-- The end of a call that has a struct as its result. -/
theorem dsn_fin {W3 W5 : World} {v2 : Value} {l2 : List St} (h : Ds w g v buy c l) (b3 : Below w.heap.size w W3) (d5 : Ds W5 g v2 buy c l2) (f5 : Fr (DsS g v) W3 W5) (hv : v2.ownBlock = v.ownBlock ∨ v2.ownBlock = some W3.heap.size) (hlt : w.heap.size < W3.heap.size) (cs : Array Value) : DsN w g v buy c l2 (W5.setRow w.heap.size cs) := by
  have hS : ∀ k, DsS g v2 k → ¬ k = w.heap.size := fun k hk e => by
    subst e
    rcases hk with e | hk
    · have := h.gl; omega
    · rcases hv with e | e
      · rw [e] at hk; have := h.vl _ hk; omega
      · rw [e] at hk; injection hk with hk; omega
  refine ⟨v2, d5.keep (S := fun k => k = w.heap.size) (fr_row (S := fun k => k = w.heap.size) rfl cs) hS, ((Fr.below b3).trans f5 (fun _ h => h) (fun k _ h => h)).trans (fr_row (S := fun k => k = w.heap.size) rfl cs) (fun _ h => h) (fun k hk e => by omega), fun k hk => ?_⟩
  rcases hv with e | e
  · exact .inl (by rw [← e]; exact hk)
  · rw [e] at hk; injection hk with hk; exact .inr (by omega)
theorem or_put {W1 W2 : World} (x : Or) (q : Below W1.heap.size W1 W2) : ∃ W3, (W2.alloc (.cells (EO.cells zeroOr).toArray 33)).setRow W2.heap.size (EO.cells x).toArray = W3 ∧ Below W1.heap.size W1 W3 ∧ EO.Bx 33 W3 W2.heap.size x ∧ EO.Bx 33 (W2.alloc (.cells (EO.cells zeroOr).toArray 33)) W2.heap.size zeroOr ∧ W2.heap.size < W3.heap.size := by
  refine ⟨_, rfl, q.trans ((row_inO (Nat.le_refl _) (below_new W2 _)).mono q.size), gbx_set (gbx_new W2 zeroOr), gbx_new W2 zeroOr, ?_⟩
  show W2.heap.size < ((W2.alloc _).heap.modify _ _).size
  rw [Array.size_modify]; simp
theorem gbx_kept {α : Type} {E : Elt α} {te : TypeId} {W W' : World} {S : Nat → Prop} {k : Nat} {x : α} (h : E.Bx te W k x) (f : Fr S W W') (hS : ¬ S k) : E.Bx te W' k x := (f.at' k (Array.getElem?_eq_some_iff.1 h).1 hS).trans h
set_option maxRecDepth 100000 in
set_option maxHeartbeats 2000000 in
theorem sdrop_err {p : Option Addr} {n er : Int} (her : (er != 0) = true) (F : ∀ W, Below w.heap.size w W → Calls Try.prog 40 #[.pointer p, .int .u64 n] W fun e w' => e = .returned (.tuple #[.int .i64 0, .int .i64 er]) ∧ Below W.heap.size W w') :
    Calls Try.prog 16 #[.pointer p, .int .u64 n] w fun e w' => e = .returned (.tuple #[.agg (EO.cells zeroOr).toArray, .int .i64 er]) ∧ Below w.heap.size w w' := by
  have hz := zero_or
  obtain ⟨W1, hW1, b1, x1, _⟩ := res_new w
  have F := F W1 b1
  have HW := Lib.hid hW1
  have X1 := Lib.hid fun W (q : Below W1.heap.size W1 W) => gbx_below x1 q
  have B1 := Lib.hid b1
  clear x1 b1 hW1
  go_enter Try.func16, Try.ntmps16
  go_wp2_with fail
  rw [HW.out]
  refine F.mono ?_; rintro e W2 ⟨rfl, q⟩
  have Q := Lib.hid q
  clear q
  go_wp2_with (first | (refine gwl_build0 built_or ?_) | (refine gwl_store TO zeroOr w.heap.size (X1.out _ Q.out) rfl rfl ?_))
  exact bodyPost_ret (gret TO rfl _ _ w.heap.size rfl rfl (gbx_set (X1.out _ Q.out))) rfl ⟨rfl, row_inO (Nat.le_refl _) (B1.out.trans (Q.out.mono B1.out.size))⟩
set_option maxRecDepth 100000 in
set_option maxHeartbeats 4000000 in
theorem sdrop_some {n : Int} {k : Nat} {x : St} (h : Ds w g v buy c l) (hk : gidx (nuIs n) l = k) (hx : l[k]? = some x) : Calls Try.prog 16 #[.pointer (some ⟨g, 0, none⟩), .int .u64 n] w fun e w' => e = .returned (.tuple #[.agg (EO.cells x.o).toArray, .int .i64 0]) ∧ DsN w g v buy c (l.eraseIdx k) w' := by
  have hz := zero_or
  obtain ⟨W1, hW1, b1, x1, s1⟩ := res_new w
  have h1 := h.below b1
  have F := sat_some n h1 hk
  have hkl := (List.getElem?_eq_some_iff.1 hx).1
  obtain ⟨b, cp, rfl⟩ := h.slot (by omega)
  have K3 := Lib.hid fun W (q : Below W1.heap.size W1 W) => (h1.below q).c3
  have RG : Hid (∀ W, Below W1.heap.size W1 W → W.rangeAt b (k * 6) (EO.cells x.o)) := Lib.hid fun W q => st_or (gown_rng (h1.below q).own hx)
  have e1 : (((k + 1 : Nat)) : Int) = (k : Int) + 1 := by omega
  have DEL := Lib.hid fun W (q : Below W1.heap.size W1 W) => delete_so b l.length cp k l W (h1.below q).own rfl (by have := h.le; omega) hkl (k + 1) rfl
  rw [e1] at DEL
  have H1 := Lib.hid h1
  have HH := Lib.hid h
  have HW := Lib.hid hW1
  have X1 := Lib.hid fun W (q : Below W1.heap.size W1 W) => gbx_below x1 q
  have B1 := Lib.hid b1
  have S1 := Lib.hid s1
  have BL : Hid (b < w.heap.size ∧ g < w.heap.size) := Lib.hid ⟨h.vl b rfl, h.gl⟩
  have hki : (k : Int) < (l.length : Int) := by omega
  have hkw : (k : Int) + 1 ≤ 9223372036854775807 := by have := h.le; omega
  have INV : Hid (InvO buy (osOf (l.eraseIdx k))) := Lib.hid (by
    rw [osOf_erase]
    have hm : nuIs n x = true := by
      rcases gidx_cases (nuIs n) l with ⟨e, _⟩ | ⟨k', x', e, _, hx', hp, _⟩
      · rw [hk] at e; omega
      · rw [hk] at e
        have : k = k' := by omega
        subst this
        rw [hx] at hx'; cases hx'; exact hp
    rw [← drop_at h.inv.dis (osOf_at hx) (beq_iff_eq.1 hm)]
    exact h.inv.drop)
  have CM : Hid (∀ y, y ∈ l.eraseIdx k → 0 ≤ y.cm ∧ y.cm ≤ c) := Lib.hid fun y hy => h.cm y (List.mem_of_mem_eraseIdx hy)
  have ASC : Hid ((l.eraseIdx k).Pairwise fun x y => ahB buy x y = true) := Lib.hid (h.asc.sublist (List.eraseIdx_sublist _ _))
  clear h h1 x1 b1 hW1 hk hx hkl s1 e1
  generalize l.length = m at *
  go_enter Try.func16, Try.ntmps16
  go_wp2_with fail
  rw [HW.out]
  refine F.mono ?_; rintro e W2 ⟨rfl, q⟩
  obtain ⟨W3, hW3, b3, y3, z3, s3⟩ := or_put x.o q
  have Q := Lib.hid q
  have HW3 := Lib.hid hW3
  have B3 := Lib.hid b3
  have Y3 := Lib.hid y3
  have Z3 := Lib.hid z3
  have S3 := Lib.hid s3
  have k2 := K3.out _ q
  have k3 := K3.out _ b3
  clear q hW3 b3 y3 z3 s3
  go_wp2_with (first | ((with_reducible refine gwl_load TO b (k * 6) (RG.out _ Q.out) ?_ ?_ ?_); rfl; rfl) | (refine gwl_store TO x.o W2.heap.size Z3.out rfl rfl ?_; rw [HW3.out]))
  refine (DEL.out _ B3.out).mono ?_; rintro e W4 ⟨rfl, o4, f4⟩
  obtain ⟨c4, z4, d5, f5⟩ := ds_put (H1.out.below B3.out) (f4.mono fun k e => by rw [e]; rfl) o4 (.inl rfl) INV.out CM.out ASC.out
  have fb : ∀ j, w.heap.size ≤ j → ¬ DsS g (.slice (some ⟨b, 0, none⟩) m cp) j := fun j hj c => by
    have := BL.out
    rcases c with c | c
    · omega
    · injection c with c; have : b = j := c; omega
  have Y5 := Lib.hid (gbx_rng (gbx_kept Y3.out f5 (fb _ (by have := Q.out.size; have := S1.out; omega))))
  have X5 := Lib.hid (gbx_kept (X1.out _ B3.out) f5 (fb _ (Nat.le_refl _)))
  have D5 := Lib.hid d5
  have F5 := Lib.hid f5
  clear o4 f4 d5 f5 fb
  go_wp2_with (first | ((with_reducible refine gwl_load TO W2.heap.size 0 Y5.out ?_ ?_ ?_); rfl; rfl) | (refine gwl_store TO x.o w.heap.size X5.out rfl rfl ?_))
  exact bodyPost_ret (gret TO rfl _ _ w.heap.size rfl rfl (gbx_set X5.out)) rfl ⟨rfl, dsn_fin HH.out (B1.out.trans (B3.out.mono B1.out.size)) D5.out F5.out (.inl rfl) (by have := Q.out.size; have := S1.out; have := S3.out; omega) _⟩
set_option maxRecDepth 100000 in
theorem slow_err {p : Option Addr} {n left er : Int} (her : (er != 0) = true) (F : Calls Try.prog 40 #[.pointer p, .int .u64 n] w fun e w' => e = .returned (.tuple #[.int .i64 0, .int .i64 er]) ∧ Below w.heap.size w w') :
    Calls Try.prog 18 #[.pointer p, .int .u64 n, .int .i64 left] w fun e w' => e = .returned (.int .i64 er) ∧ Below w.heap.size w w' := by
  go_enter Try.func18, Try.ntmps18
  go_wp2_with fail
  refine F.mono ?_; rintro e W2 ⟨rfl, q⟩
  have Q := Lib.hid q
  clear q
  go_wp2_with fail
  go_ret
  exact ⟨rfl, Q.out⟩
theorem st_set4 (x : St) (n : Int) : ESt.cells ⟨x.o.wi n, x.cm⟩ = (ESt.cells x).set 4 (.int .i64 n) := rfl
theorem wit_false {n m : Int} (h : witB n m = false) : n < 1 ∨ m < n := by
  unfold witB at h
  by_cases c : n < 1
  · exact .inl c
  · right
    rw [decide_eq_true (show 1 ≤ n by omega), Bool.true_and] at h
    have := of_decide_eq_false h
    omega
theorem wit_true {n m : Int} (h : witB n m = true) : 1 ≤ n ∧ n ≤ m := by
  unfold witB at h
  rw [Bool.and_eq_true, decide_eq_true_eq, decide_eq_true_eq] at h
  exact h
set_option maxRecDepth 100000 in
set_option maxHeartbeats 2000000 in
theorem slow_bad {n left : Int} {k : Nat} {x : St} (h : Ds w g v buy c l) (hk : gidx (nuIs n) l = k) (hx : l[k]? = some x) (hb : witB left x.o.le = false) :
    Calls Try.prog 18 #[.pointer (some ⟨g, 0, none⟩), .int .u64 n, .int .i64 left] w fun e w' => e = .returned (.int .i64 2) ∧ Below w.heap.size w w' := by
  have F := sat_some n h hk
  have hkl := (List.getElem?_eq_some_iff.1 hx).1
  obtain ⟨b, cp, rfl⟩ := h.slot (by omega)
  have K3 := Lib.hid fun W (q : Below w.heap.size w W) => (h.below q).c3
  have K4 := Lib.hid fun W (q : Below w.heap.size w W) => gown_at (h.below q).own hx (i := 4) (by decide)
  have WT := Lib.hid fun W => wit_any left x.o.le W
  rw [hb] at WT
  have hki : (k : Int) < (l.length : Int) := by omega
  clear h hk hx hb
  generalize l.length = m at *
  go_enter Try.func18, Try.ntmps18
  go_wp2_with fail
  refine F.mono ?_; rintro e W2 ⟨rfl, q⟩
  have Q := Lib.hid q
  have k3 := K3.out _ q
  have k4 : W2.cell? ⟨b, k * 6 + 4, none⟩ = some (.int .i64 x.o.le) := K4.out _ q
  clear q
  go_wp2_with fail
  refine (WT.out _).mono ?_; rintro e w3 ⟨rfl, rfl⟩
  go_wp2_with fail
  go_ret
  exact ⟨rfl, Q.out⟩
set_option maxRecDepth 100000 in
set_option maxHeartbeats 2000000 in
theorem slow_ok {n left : Int} {k : Nat} {x : St} (h : Ds w g v buy c l) (hk : gidx (nuIs n) l = k) (hx : l[k]? = some x) (hb : witB left x.o.le = true) (hi : InvO buy (osOf (l.set k ⟨x.o.wi left, x.cm⟩))) :
    Calls Try.prog 18 #[.pointer (some ⟨g, 0, none⟩), .int .u64 n, .int .i64 left] w fun e w' => e = .returned (.int .i64 0) ∧ DsN w g v buy c (l.set k ⟨x.o.wi left, x.cm⟩) w' := by
  have F := sat_some n h hk
  have hkl := (List.getElem?_eq_some_iff.1 hx).1
  obtain ⟨b, cp, rfl⟩ := h.slot (by omega)
  have K3 := Lib.hid fun W (q : Below w.heap.size w W) => (h.below q).c3
  have K4 := Lib.hid fun W (q : Below w.heap.size w W) => gown_at (h.below q).own hx (i := 4) (by decide)
  have FZ := Lib.hid fun W (q : Below w.heap.size w W) => gown_fz (h.below q).own (k * 6 + 4)
  have WT := Lib.hid fun W => wit_any left x.o.le W
  rw [hb] at WT
  have hki : (k : Int) < (l.length : Int) := by omega
  have FIN : Hid (∀ W, Below w.heap.size w W → DsN w g (.slice (some ⟨b, 0, none⟩) l.length cp) buy c (l.set k ⟨x.o.wi left, x.cm⟩) (W.setCell ⟨b, k * 6 + 4, none⟩ (.int .i64 left))) := Lib.hid fun W q => by
    have d := h.below q
    have f : Fr (fun j => j = b) W (W.setCell ⟨b, k * 6 + 4, none⟩ (.int .i64 left)) := Fr.set (S := fun j => j = b) (p := ⟨b, k * 6 + 4, none⟩) rfl _
    refine ⟨_, ⟨(f.at' g d.gl (fun e => d.apart b rfl e.symm)).trans d.blk, gown_put d.own hx (by decide) (st_set4 x left), hi, fun y hy => ?_, asc_key h.asc (key_set hx rfl), h.nn⟩, ((Fr.below q).trans f (fun _ c => c) (fun j _ e => .inr (by rw [e]; rfl))), fun j e => .inl e⟩
    rcases List.mem_or_eq_of_mem_set hy with q | rfl
    · exact h.cm y q
    · exact h.cm x (List.mem_of_getElem? hx)
  clear h hk hx hb hi
  generalize l.length = m at *
  go_enter Try.func18, Try.ntmps18
  go_wp2_with fail
  refine F.mono ?_; rintro e W2 ⟨rfl, q⟩
  have Q := Lib.hid q
  have k3 := K3.out _ q
  have k4 : W2.cell? ⟨b, k * 6 + 4, none⟩ = some (.int .i64 x.o.le) := K4.out _ q
  have fz := FZ.out _ q
  clear q
  go_wp2_with fail
  refine (WT.out _).mono ?_; rintro e w3 ⟨rfl, rfl⟩
  go_wp2_with fail
  go_ret
  exact ⟨rfl, FIN.out _ Q.out⟩
end
end Go.Proofs.Ytpnccbcaoifdiaa
