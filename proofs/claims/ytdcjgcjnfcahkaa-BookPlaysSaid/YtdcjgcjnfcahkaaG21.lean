/- Texts of a proof, laid together: Jl, Jo, Iq, Bj, Bi. -/
import Derived.DeepKeys
import Derived.Laws.StructEq
import Derived.Test.YtdcjgcjnfcahkaaG16
import Derived.Test.YtdcjgcjnfcahkaaG18
import Derived.Test.YtdcjgcjnfcahkaaG20
import Derived.Test.YtdcjgcjnfcahkaaG13
import Derived.Test.YtdcjgcjnfcahkaaG14
import Derived.Test.YtdcjgcjnfcahkaaG15
import Derived.Test.YtdcjgcjnfcahkaaG06
import Derived.Test.YtdcjgcjnfcahkaaG07
/- The program's side: Copy. -/
namespace Go.Proofs.Ytdcjgcjnfcahkaa
open Go.RowKit Go.Shelf
set_option linter.unusedVariables false
set_option linter.unusedSimpArgs false

section
variable {g : Nat} {v : Value} {buy : Bool} {c : Int} {l : List St} {w : World}
set_option maxRecDepth 100000 in
set_option maxHeartbeats 1000000 in
theorem scopy_nc {p : Option Addr} (M : Calls Try.prog 48 #[.pointer p] w fun e w' => e = .returned (.bool true) ∧ w = w') : Calls Try.prog 30 #[.pointer p] w fun e w' => e = .returned (.pointer none) ∧ Below w.heap.size w w' := by
  go_enter Try.func30, Try.ntmps30
  go_wp2_with fail
  refine M.mono ?_; rintro e w2 ⟨rfl, rfl⟩
  go_wp2_with fail
  go_ret
  exact ⟨rfl, Below.refl _ _⟩
set_option maxRecDepth 100000 in
set_option maxHeartbeats 2000000 in
theorem scopy_any (h : Ds w g v buy c l) : Calls Try.prog 30 #[.pointer (some ⟨g, 0, none⟩)] w fun e w' => ∃ g2 v2, e = .returned (.pointer (some ⟨g2, 0, none⟩)) ∧ Ds w' g2 v2 buy c l ∧ Below w.heap.size w w' ∧ ∀ k, DsS g2 v2 k → w.heap.size ≤ k := by
  have M := smiss_no h.c0
  obtain ⟨A, cp, rfl, hA⟩ := h.form
  have HH := Lib.hid h
  have C1 := Lib.hid fun (W : World) (q : Below w.heap.size w W) => (h.below q).c1
  have C2 := Lib.hid fun (W : World) (q : Below w.heap.size w W) => (h.below q).c2
  have C3 := Lib.hid fun (W : World) (q : Below w.heap.size w W) => (h.below q).c3
  have CL := Lib.hid fun (W : World) (q : Below w.heap.size w W) => clone_so A l.length cp l W (gown_rd (h.below q).own) (by have := h.le; omega) hA
  obtain ⟨n, hl⟩ : ∃ n, l.length = n := ⟨_, rfl⟩
  have HL := Lib.hid hl
  rw [hl] at CL C3
  clear h hl hA
  go_enter Try.func30, Try.ntmps30
  go_wp2_with fail
  refine M.mono ?_; rintro e w2 ⟨rfl, rfl⟩
  go_wp2_with fail
  refine wp_region_held_drew (S := fun U => Below w.heap.size w U) (by kernel_rfl) (Below.refl _ _).drew (fun hH => ?_)
  refine wpAnyH_take (i := 0) (v := .pointer (some ⟨g, 0, none⟩)) rfl (by kernel_rfl) (by kernel_rfl) (by kernel_rfl) (fun _ _ _ h => h) (.inl ⟨by rfl, ?_⟩) (by assumption) ?_
  · intro W hW; go_simp
  try simp only [List.getElem_toArray, List.getElem_cons_zero, Act.put, List.setIfInBounds_toArray, List.set_cons_zero, List.set_cons_succ]
  refine wpAnyH_take (i := 1) (v := .pointer (some ⟨g, 0, none⟩)) rfl (by kernel_rfl) (by kernel_rfl) (by kernel_rfl) (fun _ _ _ h => h) (.inl ⟨by rfl, ?_⟩) (by assumption) ?_
  · intro W hW; go_simp
  try simp only [List.getElem_toArray, List.getElem_cons_zero, List.getElem_cons_succ, Act.put, List.setIfInBounds_toArray, List.set_cons_zero, List.set_cons_succ]
  refine wpAnyH_take (i := 2) (v := .pointer (some ⟨g, 1, none⟩)) rfl (by kernel_rfl) (by kernel_rfl) (by kernel_rfl) (fun _ _ _ h => h) (.inl ⟨by rfl, ?_⟩) (by assumption) ?_
  · intro W hW; go_simp
  try simp only [List.getElem_toArray, List.getElem_cons_zero, List.getElem_cons_succ, Act.put, List.setIfInBounds_toArray, List.set_cons_zero, List.set_cons_succ]
  refine wpAnyH_take (i := 3) (v := .bool buy) rfl (by kernel_rfl) (by kernel_rfl) (by kernel_rfl) (fun _ _ _ h => h) (.inl ⟨by rfl, ?_⟩) (by assumption) ?_
  · intro W hW; have h1 := C1.out W hW; go_simp
  try simp only [List.getElem_toArray, List.getElem_cons_zero, List.getElem_cons_succ, Act.put, List.setIfInBounds_toArray, List.set_cons_zero, List.set_cons_succ]
  refine wpAnyH_take (i := 4) (v := .pointer (some ⟨g, 0, none⟩)) rfl (by kernel_rfl) (by kernel_rfl) (by kernel_rfl) (fun _ _ _ h => h) (.inl ⟨by rfl, ?_⟩) (by assumption) ?_
  · intro W hW; go_simp
  try simp only [List.getElem_toArray, List.getElem_cons_zero, List.getElem_cons_succ, Act.put, List.setIfInBounds_toArray, List.set_cons_zero, List.set_cons_succ]
  refine wpAnyH_take (i := 5) (v := .pointer (some ⟨g, 0, none⟩)) rfl (by kernel_rfl) (by kernel_rfl) (by kernel_rfl) (fun _ _ _ h => h) (.inl ⟨by rfl, ?_⟩) (by assumption) ?_
  · intro W hW; go_simp
  try simp only [List.getElem_toArray, List.getElem_cons_zero, List.getElem_cons_succ, Act.put, List.setIfInBounds_toArray, List.set_cons_zero, List.set_cons_succ]
  refine wpAnyH_take (i := 6) (v := .pointer (some ⟨g, 2, none⟩)) rfl (by kernel_rfl) (by kernel_rfl) (by kernel_rfl) (fun _ _ _ h => h) (.inl ⟨by rfl, ?_⟩) (by assumption) ?_
  · intro W hW; go_simp
  try simp only [List.getElem_toArray, List.getElem_cons_zero, List.getElem_cons_succ, Act.put, List.setIfInBounds_toArray, List.set_cons_zero, List.set_cons_succ]
  refine wpAnyH_take (i := 7) (v := .int .u64 c) rfl (by kernel_rfl) (by kernel_rfl) (by kernel_rfl) (fun _ _ _ h => h) (.inl ⟨by rfl, ?_⟩) (by assumption) ?_
  · intro W hW; have h1 := C2.out W hW; go_simp
  try simp only [List.getElem_toArray, List.getElem_cons_zero, List.getElem_cons_succ, Act.put, List.setIfInBounds_toArray, List.set_cons_zero, List.set_cons_succ]
  refine wpAnyH_take (i := 8) (v := .pointer (some ⟨g, 0, none⟩)) rfl (by kernel_rfl) (by kernel_rfl) (by kernel_rfl) (fun _ _ _ h => h) (.inl ⟨by rfl, ?_⟩) (by assumption) ?_
  · intro W hW; go_simp
  try simp only [List.getElem_toArray, List.getElem_cons_zero, List.getElem_cons_succ, Act.put, List.setIfInBounds_toArray, List.set_cons_zero, List.set_cons_succ]
  refine wpAnyH_take (i := 9) (v := .pointer (some ⟨g, 0, none⟩)) rfl (by kernel_rfl) (by kernel_rfl) (by kernel_rfl) (fun _ _ _ h => h) (.inl ⟨by rfl, ?_⟩) (by assumption) ?_
  · intro W hW; go_simp
  try simp only [List.getElem_toArray, List.getElem_cons_zero, List.getElem_cons_succ, Act.put, List.setIfInBounds_toArray, List.set_cons_zero, List.set_cons_succ]
  refine wpAnyH_take (i := 10) (v := .pointer (some ⟨g, 3, none⟩)) rfl (by kernel_rfl) (by kernel_rfl) (by kernel_rfl) (fun _ _ _ h => h) (.inl ⟨by rfl, ?_⟩) (by assumption) ?_
  · intro W hW; go_simp
  try simp only [List.getElem_toArray, List.getElem_cons_zero, List.getElem_cons_succ, Act.put, List.setIfInBounds_toArray, List.set_cons_zero, List.set_cons_succ]
  refine wpAnyH_take (i := 11) (v := .slice A n cp) rfl (by kernel_rfl) (by kernel_rfl) (by kernel_rfl) (fun _ _ _ h => h) (.inl ⟨by rfl, ?_⟩) (by assumption) ?_
  · intro W hW; have h1 := C3.out W hW; go_simp
  try simp only [List.getElem_toArray, List.getElem_cons_zero, List.getElem_cons_succ, Act.put, List.setIfInBounds_toArray, List.set_cons_zero, List.set_cons_succ]
  refine wpAnyH_ready (rs := [12]) (by decide +kernel) (by simp) (AllReadyH.cons rfl (fun KQ hK => ?_) AllReadyH.nil)
  go_simp
  refine (CL.out _ hH).mono ?_; rintro e0 W1 ⟨v2, rfl, o1, q1⟩
  have hH1 := hH.trans (q1.mono hH.size)
  obtain ⟨A2, c2, rfl, _⟩ := gown_form o1
  rw [HL.out] at o1
  rw [HL.out]
  have O1 := Lib.hid o1
  have HS := Lib.hid hH.size
  refine hK.out _ _ hH1 (fun _ => ?_)
  clear hK q1 o1 hH
  try simp only [List.setIfInBounds_toArray, List.set_cons_zero, List.set_cons_succ]
  refine wpAnyH_take (i := 13) (v := .agg #[.bool true, .bool buy, .int .u64 c, .slice A2 n c2]) rfl (by kernel_rfl) (by kernel_rfl) (by kernel_rfl) (fun _ _ _ h => h) (.inl ⟨by rfl, ?_⟩) (by assumption) ?_
  · intro W hW; go_simp
  try simp only [List.getElem_toArray, List.getElem_cons_zero, List.getElem_cons_succ, Act.put, List.setIfInBounds_toArray, List.set_cons_zero, List.set_cons_succ]
  refine wpAnyH_ready (rs := [14]) (by decide +kernel) (by simp) (AllReadyH.cons rfl (fun KQ hK => ?_) AllReadyH.nil)
  go_simp
  have hH2 := hH1.trans ((below_new W1 (.cells #[.bool true, .bool buy, .int .u64 c, .slice A2 n c2] 85)).mono hH1.size)
  refine hK.out _ _ hH2 (fun _ => ?_)
  clear hK
  try simp only [List.setIfInBounds_toArray, List.set_cons_zero, List.set_cons_succ]
  refine wpAnyH_take (i := 15) (v := .pointer (some ⟨W1.heap.size, 0, none⟩)) rfl (by kernel_rfl) (by kernel_rfl) (by kernel_rfl) (fun _ _ _ h => h) (.inl ⟨by rfl, ?_⟩) (by assumption) ?_
  · intro W hW; go_simp
  try simp only [List.getElem_toArray, List.getElem_cons_zero, List.getElem_cons_succ, Act.put, List.setIfInBounds_toArray, List.set_cons_zero, List.set_cons_succ]
  refine wpAnyH_done (by decide +kernel) ?_ _
  have B2 := Lib.hid hH2
  have B1 := Lib.hid hH1
  clear hH1 hH2
  go_wp2_with fail
  go_ret
  have OO := O1.out
  have k2 := fun k hk => gown_lt (k := k) OO hk
  have HSz := HS.out
  have SZ := B1.out.size
  refine ⟨_, _, rfl, ⟨heap_alloc_new W1 _, gown_low (gown_below OO (below_new W1 _)) (Nat.zero_le _), HH.out.inv, HH.out.cm, HH.out.asc, HH.out.nn⟩, B2.out, fun k hk => ?_⟩
  rcases hk with rfl | hk
  · exact SZ
  · have := (k2 k hk).1; omega
end
end Go.Proofs.Ytdcjgcjnfcahkaa
/- The program's side is as it is asked. -/
namespace Go.Proofs.Ytdcjgcjnfcahkaa
open Go.RowKit Go.Shelf
set_option linter.unusedVariables false

section
variable {w : World} {p : Option Addr}
set_option maxRecDepth 100000 in
theorem sat_nc (n : Int) (M : Calls Try.prog 48 #[.pointer p] w fun e w' => e = .returned (.bool true) ∧ w = w') : Calls Try.prog 52 #[.pointer p, .int .u64 n] w fun e w' => e = .returned (.tuple #[.int .i64 0, .int .i64 1]) ∧ Below w.heap.size w w' := by
  go_enter Try.func52, Try.ntmps52
  go_wp2_with fail
  refine M.mono ?_; rintro e w2 ⟨rfl, rfl⟩
  go_wp2_with fail
  go_ret2
  exact ⟨rfl, Below.refl _ _⟩
set_option maxRecDepth 100000 in
theorem slen_nc (M : Calls Try.prog 48 #[.pointer p] w fun e w' => e = .returned (.bool true) ∧ w = w') : Calls Try.prog 65 #[.pointer p] w fun e w' => e = .returned (.int .i64 0) ∧ Below w.heap.size w w' := by
  go_enter Try.func65, Try.ntmps65
  go_wp2_with fail
  refine M.mono ?_; rintro e w2 ⟨rfl, rfl⟩
  go_wp2_with fail
  go_ret
  exact ⟨rfl, Below.refl _ _⟩
end
/-- The program's side in memory, said of its orders. -/
def PdR : PdT := fun w F g buy os t => ∃ (v : Value) (c : Int) (l : List St), Ds w g v buy c l ∧ F = DsS g v ∧ osOf l = os ∧ c ≤ t
section
variable {w w' : World} {g : Nat} {v : Value} {buy : Bool} {c : Int} {l : List St} {t : Nat} {n left : Int} {o : Or}
theorem aft_n {l2 : List St} {c2 : Int} (h : DsN w g v buy c2 l2 w') (hc : c2 ≤ t) : AftO PdR w (DsS g v) g buy (osOf l2) t w' := by
  obtain ⟨v', h1, h2, h3⟩ := h
  refine ⟨_, ⟨v', c2, l2, h1, rfl, rfl, hc⟩, h2, fun k hk => ?_⟩
  rcases hk with rfl | hk
  · exact .inl (.inl rfl)
  · exact (h3 k hk).imp .inr id
theorem aft_b (h : Ds w g v buy c l) (q : Below w.heap.size w w') (hc : c ≤ t) : AftO PdR w (DsS g v) g buy (osOf l) t w' := aft_n (dsn_same h q) hc
theorem nuIs_eq {x : St} (h : nuIs n x = true) : x.o.nu = n := beq_iff_eq.1 h
theorem sgetA (h : Ds w g v buy c l) : Calls Try.prog 47 #[.pointer (some ⟨g, 0, none⟩), .int .u64 n] w fun e w' => e = .returned (.tuple #[.agg (EO.cells (getX (osOf l) n)).toArray, .int .i64 (getA (osOf l) n)]) ∧ Below w.heap.size w w' := by
  unfold getX getA
  rcases gidx_cases (nuIs n) l with ⟨h0, hall⟩ | ⟨k, x, hk, _, hx, hp, _⟩
  · rw [find_off hall]
    exact sget_err (by decide) fun W q => sat_none n (h.below q) h0
  · rw [find_at h.inv.dis (osOf_at hx) (nuIs_eq hp)]
    exact sget_some h hk hx
theorem sdropA (h : Ds w g v buy c l) (hc : c ≤ t) : Calls Try.prog 33 #[.pointer (some ⟨g, 0, none⟩), .int .u64 n] w fun e w' => e = .returned (.tuple #[.agg (EO.cells (getX (osOf l) n)).toArray, .int .i64 (getA (osOf l) n)]) ∧ AftO PdR w (DsS g v) g buy (dropO (osOf l) n) t w' := by
  unfold getX getA
  rcases gidx_cases (nuIs n) l with ⟨h0, hall⟩ | ⟨k, x, hk, _, hx, hp, _⟩
  · have e2 : dropO (osOf l) n = osOf l := List.filter_eq_self.2 fun y hy => by
      obtain ⟨z, hz, rfl⟩ := List.mem_map.1 hy
      have := hall z hz
      unfold nuIs at this
      simpa using this
    rw [find_off hall, e2]
    refine (sdrop_err (by decide) fun W q => sat_none n (h.below q) h0).mono ?_; rintro e w' ⟨rfl, q⟩
    exact ⟨rfl, aft_b h q hc⟩
  · rw [find_at h.inv.dis (osOf_at hx) (nuIs_eq hp), drop_at h.inv.dis (osOf_at hx) (nuIs_eq hp), ← osOf_erase]
    refine (sdrop_some h hk hx).mono ?_; rintro e w' ⟨rfl, q⟩
    exact ⟨rfl, aft_n q hc⟩
theorem slowA (h : Ds w g v buy c l) (hc : c ≤ t) : Calls Try.prog 46 #[.pointer (some ⟨g, 0, none⟩), .int .u64 n, .int .i64 left] w fun e w' => e = .returned (.int .i64 (lowA (osOf l) n left)) ∧ AftO PdR w (DsS g v) g buy (lowO (osOf l) n left) t w' := by
  rcases gidx_cases (nuIs n) l with ⟨h0, hall⟩ | ⟨k, x, hk, _, hx, hp, _⟩
  · have e1 : lowA (osOf l) n left = 7 := by unfold lowA; rw [find_off hall]
    have e2 : lowO (osOf l) n left = osOf l := by unfold lowO; rw [e1]; rfl
    rw [e1, e2]
    refine (slow_err (by decide) (sat_none n h h0)).mono ?_; rintro e w' ⟨rfl, q⟩
    exact ⟨rfl, aft_b h q hc⟩
  · have hf := find_at h.inv.dis (osOf_at hx) (nuIs_eq hp)
    have e1 : lowA (osOf l) n left = lowE x.o left := by unfold lowA; rw [hf]
    cases hb : witB left x.o.le
    · have e3 : lowE x.o left = 2 := if_pos (wit_false hb)
      have e2 : lowO (osOf l) n left = osOf l := by unfold lowO; rw [e1, e3]; rfl
      rw [e1, e3, e2]
      refine (slow_bad h hk hx hb).mono ?_; rintro e w' ⟨rfl, q⟩
      exact ⟨rfl, aft_b h q hc⟩
    · have hw := wit_true hb
      have e3 : lowE x.o left = 0 := if_neg (by omega)
      have e4 := low_at h.inv.dis (osOf_at hx) (nuIs_eq hp) left
      have e2 : lowO (osOf l) n left = osOf (l.set k ⟨x.o.wi left, x.cm⟩) := by
        unfold lowO
        rw [e1, e3, if_pos rfl, ← e4]
        simp [osOf, List.map_set]
      have hi : InvO buy (lowO (osOf l) n left) := h.inv.low
      rw [e1, e3, e2]
      rw [e2] at hi
      refine (slow_ok h hk hx hb hi).mono ?_; rintro e w' ⟨rfl, q⟩
      exact ⟨rfl, aft_n q hc⟩
theorem sfillA (h : Ds w g v buy c l) (hc : c ≤ t) : Calls Try.prog 68 #[.pointer (some ⟨g, 0, none⟩), .int .i64 n] w fun e w' => e = .returned (.tuple #[.agg (EO.cells (fillX (osOf l) n)).toArray, .int .i64 (fillA (osOf l) n)]) ∧ AftO PdR w (DsS g v) g buy (fillO (osOf l) n) t w' := by
  have hi : InvO buy (fillO (osOf l) n) := h.inv.fill
  cases l with
  | nil =>
    refine (sfill_none h).mono ?_; rintro e w' ⟨rfl, q⟩
    exact ⟨rfl, aft_b h q hc⟩
  | cons x r =>
    have eo : osOf (x :: r) = x.o :: osOf r := rfl
    rw [eo] at hi ⊢
    cases hb : witB n x.o.le
    · have hw := wit_false hb
      have e1 : fillA (x.o :: osOf r) n = 2 := if_pos hw
      have e2 : fillX (x.o :: osOf r) n = zeroOr := if_pos hw
      have e3 : fillO (x.o :: osOf r) n = x.o :: osOf r := if_pos hw
      rw [e1, e2, e3]
      refine (sfill_bad h hb).mono ?_; rintro e w' ⟨rfl, q⟩
      exact ⟨rfl, aft_b h q hc⟩
    · have hw := wit_true hb
      have e1 : fillA (x.o :: osOf r) n = 0 := if_neg (by omega)
      have e2 : fillX (x.o :: osOf r) n = x.o.wi (x.o.le - n) := if_neg (by omega)
      rw [e1, e2]
      by_cases he : x.o.le - n = 0
      · have e3 : fillO (x.o :: osOf r) n = osOf r := (if_neg (by omega)).trans (if_pos he)
        rw [e3]
        refine (sfill_all h hb he).mono ?_; rintro e w' ⟨rfl, q⟩
        exact ⟨rfl, aft_n q hc⟩
      · have e3 : fillO (x.o :: osOf r) n = x.o.wi (x.o.le - n) :: osOf r := (if_neg (by omega)).trans (if_neg he)
        rw [e3] at hi ⊢
        refine (sfill_part h hb he hi).mono ?_; rintro e w' ⟨rfl, q⟩
        exact ⟨rfl, aft_n q hc⟩
theorem saddA (h : Ds w g v buy c l) (hc : c ≤ t) (ht : t < 1000000000) (ok : o.ok) : Calls Try.prog 44 #[.pointer (some ⟨g, 0, none⟩), .agg (EO.cells o).toArray] w fun e w' => e = .returned (.int .i64 (addA buy (osOf l) o)) ∧ AftO PdR w (DsS g v) g buy (addO buy (osOf l) o) (t + 1) w' := by
  have hi : InvO buy (addO buy (osOf l) o) := h.inv.add ok
  have hc' : c ≤ ((t + 1 : Nat) : Int) := by omega
  cases hb : (mayO o && o.bu == buy)
  · have e : addA buy (osOf l) o = 2 := by unfold addA; rw [if_pos hb]
    have e2 : addO buy (osOf l) o = osOf l := by unfold addO; rw [e]; rfl
    rw [e, e2]
    cases hm : mayO o
    · refine (sadd_may h ok hm).mono ?_; rintro e w' ⟨rfl, q⟩
      exact ⟨rfl, aft_b h q hc'⟩
    · have hbu : (o.bu == buy) = false := by rw [hm, Bool.true_and] at hb; exact hb
      refine (sadd_bu h ok hm hbu).mono ?_; rintro e w' ⟨rfl, q⟩
      exact ⟨rfl, aft_b h q hc'⟩
  · have hb2 := Bool.and_eq_true_iff.1 hb
    rcases gidx_cases (nuIs o.nu) l with ⟨h0, hall⟩ | ⟨k, x, hk, _, hx, hp, _⟩
    · have hf := find_off hall
      by_cases hlen : 100 ≤ l.length
      · have e : addA buy (osOf l) o = 9 := by unfold addA; rw [if_neg (by rw [hb]; decide), if_neg (by rw [hf]; decide), if_pos (by rw [osOf_len]; exact hlen)]
        have e2 : addO buy (osOf l) o = osOf l := by unfold addO; rw [e]; rfl
        rw [e, e2]
        refine (sadd_full h ok hb2.1 hb2.2 h0 hlen).mono ?_; rintro e w' ⟨rfl, q⟩
        exact ⟨rfl, aft_b h q hc'⟩
      · have e : addA buy (osOf l) o = 0 := by unfold addA; rw [if_neg (by rw [hb]; decide), if_neg (by rw [hf]; decide), if_neg (by rw [osOf_len]; exact hlen)]
        have e2 : addO buy (osOf l) o = insO buy o (osOf l) := by unfold addO; rw [e]; rfl
        obtain ⟨p1, p2, p3⟩ := plB_spec buy o.pr l
        have e3 : insO buy o (osOf l) = osOf (l.take (plB buy o.pr l) ++ (St.mk o (c + 1)) :: l.drop (plB buy o.pr l)) := by
          rw [osOf_ins]
          refine ins_at (by rw [osOf_len]; exact p1) (fun j y hj hy => ?_) (fun y hy => ?_)
          · rw [osOf, List.getElem?_map] at hy
            obtain ⟨z, hz, rfl⟩ := Option.map_eq_some_iff.1 hy
            exact p2 j z hj hz
          · rw [osOf, List.getElem?_map] at hy
            obtain ⟨z, hz, rfl⟩ := Option.map_eq_some_iff.1 hy
            exact p3 z hz
        rw [e2, e3] at hi
        rw [e, e2, e3]
        refine (sadd_ok h ok hb2.1 hb2.2 h0 (by omega) (by omega) hi).mono ?_; rintro e w' ⟨rfl, q⟩
        exact ⟨rfl, aft_n q (by omega)⟩
    · have hf := find_at h.inv.dis (osOf_at hx) (nuIs_eq hp)
      have e : addA buy (osOf l) o = 8 := by unfold addA; rw [if_neg (by rw [hb]; decide), if_pos (by rw [hf]; rfl)]
      have e2 : addO buy (osOf l) o = osOf l := by unfold addO; rw [e]; rfl
      rw [e, e2]
      refine (sadd_twice h ok hb2.1 hb2.2 hk).mono ?_; rintro e w' ⟨rfl, q⟩
      exact ⟨rfl, aft_b h q hc'⟩
theorem sbestA (h : Ds w g v buy c l) : Calls Try.prog 66 #[.pointer (some ⟨g, 0, none⟩)] w fun e w' => e = .returned (.tuple #[.agg (EO.cells ((osOf l).headD zeroOr)).toArray, .bool (!(osOf l).isEmpty)]) ∧ Below w.heap.size w w' := by
  cases l with
  | nil => exact sbest_of (x := zeroSt) fun W q => sfirst_none (h.below q)
  | cons x r => exact sbest_of fun W q => sfirst_some (h.below q)
theorem sreachA {pr nt : Int} (h : Ds w g v buy c l) (hp : I64' pr) (hnt : 0 ≤ nt ∧ nt ≤ 4294967295) : Calls Try.prog 64 #[.pointer (some ⟨g, 0, none⟩), .int .i64 pr, .int .u32 nt] w fun e w' => e = .returned (.int .i64 (sumR buy (osOf l) pr nt)) ∧ Below w.heap.size w w' :=
  sreach_of hp hnt h.inv.srt h.inv.ok (fun x hx => by have := may_le (h.inv.may x hx).1; omega) h.inv.len (fun W q => sall_any (h.below q)) (fun k hk => h.sl hk)
    (fun W b hW _ => bet_any buy g pr b W (by rw [World.cell?_of_block (hW g h.gl)]; exact h.c1))
end
theorem side : SideK PdR zsd where
  lt := by
    rintro w F g buy os t ⟨v, c, l, h, rfl, rfl, hc⟩ k hk
    exact h.sl hk
  inv := by
    rintro w F g buy os t ⟨v, c, l, h, rfl, rfl, hc⟩
    exact h.inv
  more := by
    rintro w F g buy os t t' ⟨v, c, l, h, rfl, rfl, hc⟩ ht
    exact ⟨v, c, l, h, rfl, rfl, by omega⟩
  keep := by
    rintro w w' F g buy os t S ⟨v, c, l, h, rfl, rfl, hc⟩ f hS
    exact ⟨v, c, l, h.keep f hS, rfl, rfl, hc⟩
  may := fun ok => smay_any _ _ ok
  new := fun w buy => (snew_any w buy).mono fun e w' q => ⟨_, _, q.1, ⟨_, 0, [], q.2.1, rfl, rfl, by decide⟩, q.2.2, fun k hk => by
    rcases hk with rfl | hk
    · exact Nat.le_refl _
    · cases hk⟩
  add := by
    rintro w F g buy os t o ⟨v, c, l, h, rfl, rfl, hc⟩ ok ht
    exact saddA h hc ht ok
  fill := by
    rintro w F g buy os t n ⟨v, c, l, h, rfl, rfl, hc⟩ hn
    exact sfillA h hc
  drop := by
    rintro w F g buy os t n ⟨v, c, l, h, rfl, rfl, hc⟩ hn
    exact sdropA h hc
  low := by
    rintro w F g buy os t n left ⟨v, c, l, h, rfl, rfl, hc⟩ hn hl
    exact slowA h hc
  get := by
    rintro w F g buy os t n ⟨v, c, l, h, rfl, rfl, hc⟩ hn
    exact sgetA h
  reach := by
    rintro w F g buy os t p nt ⟨v, c, l, h, rfl, rfl, hc⟩ hp hnt
    exact sreachA h hp hnt
  best := by
    rintro w F g buy os t ⟨v, c, l, h, rfl, rfl, hc⟩
    exact sbestA h
  len := by
    rintro w F g buy os t ⟨v, c, l, h, rfl, rfl, hc⟩
    rw [osOf_len]
    exact slen_any h
  all := by
    rintro w F g buy os t ⟨v, c, l, h, rfl, rfl, hc⟩
    exact sall_any h
  copy := by
    rintro w F g buy os t ⟨v, c, l, h, rfl, rfl, hc⟩
    refine (scopy_any h).mono ?_
    rintro e w' ⟨g2, v2, rfl, h1, h2, h3⟩
    exact ⟨g2, _, rfl, ⟨v2, c, l, h1, rfl, rfl, hc⟩, h2, h3⟩
  zero := szero
  nAdd := fun ok h => sadd_nc (smiss_nsB h)
  nFill := fun _ h => (sfill_nc (smiss_nsB h)).mono fun e w' q => ⟨⟨_, q.1⟩, q.2⟩
  nDrop := fun _ h => (sdrop_err (by decide) fun W q => sat_nc _ (smiss_nsB h W q)).mono fun e w' q => ⟨⟨_, q.1⟩, q.2⟩
  nLow := fun _ _ h => slow_err (by decide) (sat_nc _ (smiss_ns h))
  nGet := fun _ h => (sget_err (by decide) fun W q => sat_nc _ (smiss_nsB h W q)).mono fun e w' q => ⟨⟨_, q.1⟩, q.2⟩
  nReach := by
    intro w p pr nt hp hnt h
    exact sreach_of (buy := true) (os := []) hp hnt List.Pairwise.nil (fun x hx => by cases hx) (fun x hx => by cases hx) (by decide) (fun W q => snall_any (h.below q)) (fun k hk => by
      rcases h with e | ⟨g, e, hg⟩
      · rw [e] at hk; cases hk
      · rw [e] at hk; cases hk; exact (Array.getElem?_eq_some_iff.1 hg).1) (fun W b _ h0 => absurd h0 (by decide))
  nBest := fun h => sbest_of (x := zeroSt) fun W q => sfirst_nc fun W' q' => smiss_nsB h W' (q.trans (q'.mono q.size))
  nLen := fun h => slen_nc (smiss_ns h)
  nAll := snall_any
  nCopy := fun h => scopy_nc (smiss_ns h)
end Go.Proofs.Ytdcjgcjnfcahkaa
/- The program's book is as it is asked. -/
namespace Go.Proofs.Ytdcjgcjnfcahkaa
open Go.RowKit Go.Shelf
set_option linter.unusedVariables false

theorem cells_side : CellK PdR := ⟨fun {w F g buy os t} h k hk => by
  obtain ⟨v, c, l, d, rfl, _, _⟩ := h
  rcases hk with rfl | hk
  · exact ⟨_, _, _, d.blk⟩
  · obtain ⟨cur, e⟩ := gown_cells d.own hk
    exact ⟨_, _, _, e⟩⟩
set_option maxRecDepth 100000 in
set_option maxHeartbeats 4000000 in
theorem pnmass_any {w : World} {p : Option Addr} {a : Int} (h : Nb w p) : Calls Try.prog 14 #[.pointer p, .int .u32 a] w fun e w' => e = .returned (.slice none 0 0) ∧ Below w.heap.size w w' := by
  obtain ⟨W2, hW2, b2, e0, e1, s2⟩ := acc_bx w a
  have HA := Lib.hid (pnball_any (h.below b2))
  have HW := Lib.hid hW2
  have B2 := Lib.hid b2
  have E1 := Lib.hid e1
  have S2 := Lib.hid s2
  clear h hW2 b2 e0 e1 s2
  refine calls_marks Try.func14 rfl ?_
  simp only [Try.ntmps14, List.size_toArray, List.length_cons, List.length_nil, Nat.reduceAdd, Nat.reduceSub, Array.replicate_succ, Array.replicate_zero, List.push_toArray, List.append_toArray, List.nil_append, List.cons_append]
  go_wp2_with fail
  rw [HW.out]
  refine HA.out.mono ?_; rintro e V ⟨gf, lb, T, rfl, q1, en, hT, tell⟩
  have TL := Lib.hid tell
  have EN := Lib.hid en
  have Q1 := Lib.hid q1
  have V1 : Hid (V.heap[w.heap.size + 1]? = some (.cells #[.slice none 0 0] 35 (0, 0))) := Lib.hid ((q1.block _ (by have := S2.out; omega)).trans E1.out)
  clear q1 en hT tell E1
  go_wp2_with fail
  rename_i Q0 K0 a0
  have A0 := Lib.hid a0
  clear a0
  refine (wpIn_wide (n := 9)).1 ?_
  refine range_deep (S := fun _ _ => False) (by decide) rfl EN.out (Still.const _ _) (TL.out V (fun _ _ => False) 8 (Fr.refl _ _) (Still.const _ _) (fun k hk => hk.elim) (fun k hk c => c) (by decide)) (fun _ => rfl)
    (fun (_ : List OkOr) U => Below V.heap.size V U) (fun _ _ _ => False) (fun s A C hj b _ => hj.trans b) (fun _ s A C hj _ _ => hj) (Below.refl _ _) (fun _ _ _ => True) (fun _ _ _ _ _ _ _ _ _ _ => trivial)
    ?assign (fun l pre x a' U _ _ _ _ hlen => absurd hlen (Nat.not_lt_zero _)) ?done (fun D c pre U hD hS hx hK => hx.elim)
  case assign =>
    rintro l pre x U KK h2 hK
    have HZ := Lib.hid (gbx_new (E := EO) (te := 31) U zeroOr)
    have hz := zero_or
    refine region_in rfl (fun ⟨_, _, h⟩ => h) ?_
    go_wp2_with (refine gwl_store TO x.1 U.heap.size HZ.out rfl rfl ?_)
    have q : Below U.heap.size U ((U.alloc (.cells (EO.cells zeroOr).toArray 31)).setRow U.heap.size (EO.cells x.1).toArray) := row_inO (Nat.le_refl _) (below_new U _)
    exact hK _ _ ⟨q.size, fun k o _ hk _ => (q.block k (Array.getElem?_eq_some_iff.1 hk).1).trans hk⟩ (Kc.below (Still.const _ _) (Nat.le_refl _) q) (h2.trans (q.mono h2.size)) trivial
  case done =>
    rintro D ys U hD - hF hM
    have cv : U.cell? ⟨w.heap.size + 1, 0, none⟩ = some (.slice none 0 0) := obj_cell ((hF.block _ (Array.getElem?_eq_some_iff.1 V1.out).1).trans V1.out)
    have BF := Lib.hid ((B2.out.trans (Q1.out.mono B2.out.size)).trans (hF.mono (Nat.le_trans B2.out.size Q1.out.size)))
    have HM := Lib.hid hM
    have HD : Hid (w.heap.size ≤ D) := Lib.hid (by have := B2.out.size; have := Q1.out.size; omega)
    clear hF hM hD
    go_wp2_with fail
    refine A0.out _ _ ?_
    clear A0
    go_wp2_with fail
    refine wp_loop_rounds 1 ?_
    rw [rounds_succ]
    go_wp2_with fail
    exact ret_marks [D] rfl (by simp) (fun E hE => by rw [List.mem_singleton.1 hE]; exact HM.out) (results_tmp rfl _ _ _) ⟨rfl, unmark_below [D] _ _ _ (fun E hE => by rw [List.mem_singleton.1 hE]; exact HD.out) BF.out.size BF.out⟩
/-- The program's book in memory. -/
def PbR : PbT := fun w A G S t => ∃ g F, Bp PdR w G g F S t ∧ InvB S ∧ A = BpF G F
section
variable {w w' : World} {G : Nat} {g : Bool → Nat} {F : Bool → Nat → Prop} {S T : Sd} {t : Nat} {p : Px} {td : List Td} {gn : List Int}
theorem aftB_n (h : Bp PdR w G g F S t) (iv : InvB T) (q : BpN PdR w G g F T t w') : AftB PbR w (BpF G F) G T t w' := by
  obtain ⟨F', h1, h2, h3⟩ := q
  refine ⟨_, ⟨g, F', h1, iv, rfl⟩, h2.mono (fun k e => .inr e), fun k hk => ?_⟩
  rcases hk with rfl | ⟨b, hk⟩
  · exact .inl (.inl rfl)
  · exact (h3 b k hk).imp (fun c => .inr ⟨b, c⟩) id
theorem plB_n {q : Pl} (h : Bp PdR w G g F S t) (iv : InvB T) {t' : Nat} (e1 : p.fi = q.fi) (e2 : p.lf = q.lf) (hq : BpP PdR w G g F T t' p q.td q.gn w') : PlB PbR w (BpF G F) G T t' p q w' := by
  obtain ⟨F', h1, h2, h3, h4, h5⟩ := hq
  refine ⟨⟨e1, e2⟩, _, ⟨g, F', h1, iv, rfl⟩, h2.mono (fun k e => .inr e), fun k hk => ?_, h4, fun k hk => ?_⟩
  · rcases hk with rfl | ⟨b, hk⟩
    · exact .inl (.inl rfl)
    · exact (h3 b k hk).imp (fun c => .inr ⟨b, c⟩) id
  · rcases hk with rfl | ⟨b, hk⟩
    · exact h4.ne h1.blk (by decide) (by decide)
    · exact h5 b k hk
end
theorem book : BookK PbR where
  lt := fun {w A G S t} ⟨g, F, h, _, e⟩ k hk => by subst e; exact h.lt side hk
  inv := fun {w A G S t} ⟨g, F, _, iv, _⟩ => iv
  more := fun {w A G S t t'} ⟨g, F, h, iv, e⟩ ht => ⟨g, F, h.more side ht, iv, e⟩
  keep := fun {w w' A G S t Q} ⟨g, F, h, iv, e⟩ f hq => by subst e; exact ⟨g, F, h.keep side f hq, iv, rfl⟩
  new := fun w => (pbnew_any side w).mono fun e w' ⟨G, g, F, e1, h, b, hb⟩ => ⟨G, _, e1, ⟨g, F, h, InvB.nil, rfl⟩, b, hb⟩
  place := fun {w A G S t o k} ⟨g, F, h, iv, e⟩ ok ht => by
    subst e
    exact (pplace_any side w h ok ht).mono fun e w' ⟨p, e1, e2, e3, q⟩ => ⟨p, e1, plB_n h (iv.place ok) e2 e3 q⟩
  repl := fun {w A G S t n p l} ⟨g, F, h, iv, e⟩ hn hp hl ht => by
    subst e
    exact (prepl_any side w h iv hn hp hl ht).mono fun e w' ⟨x, e1, e2, e3, q⟩ => ⟨x, e1, plB_n h (iv.repl hp hl) e2 e3 q⟩
  canc := fun {w A G S t n} ⟨g, F, h, iv, e⟩ hn => by
    subst e
    exact (pcan_any side w h hn).mono fun e w' ⟨e1, q⟩ => ⟨e1, aftB_n h iv.canc q⟩
  get := fun {w A G S t n} ⟨g, F, h, iv, e⟩ hn => pbget_any side w h hn
  mass := fun {w A G S t a} ⟨g, F, h, iv, e⟩ => by
    subst e
    refine (pmass_any side cells_side h).mono fun e w' ⟨u, e1, o, F', h1, h2, h3, h4⟩ => ⟨u, e1, o, _, ⟨g, F', h1, iv.mass, rfl⟩, h2.mono (fun k e => .inr e), fun k hk => ?_, fun k hk => ?_⟩
    · rcases hk with rfl | ⟨b, hk⟩
      · exact .inl (.inl rfl)
      · exact (h3 b k hk).imp (fun c => .inr ⟨b, c⟩) id
    · rcases hk with rfl | ⟨b, hk⟩
      · intro c
        obtain ⟨cur, e⟩ := gown_cells o c
        rw [h1.blk] at e
        injection e with e
        injection e with _ e
        exact absurd e (by decide)
      · exact h4 b k hk
  opens := fun {w A G S t a} ⟨g, F, h, iv, e⟩ => by
    subst e
    have hm : ∀ x, x ∈ S.all → mayO x = true := fun x hx => by
      rcases List.mem_append.1 hx with hx | hx
      · exact ((iv.inv _).may x hx).1
      · exact ((iv.inv _).may x hx).1
    refine popen_of (F := BpF G F) (fun x hx => by have := may_le (hm x hx); omega) ?_ (fun W q => pball_any side cells_side (h.below side q)) (fun k hk => h.lt side hk)
    have := (iv.inv true).len
    have := (iv.inv false).len
    show (S true ++ S false).length ≤ 200
    rw [List.length_append]; omega
  all := fun {w A G S t} ⟨g, F, h, iv, e⟩ => by
    subst e
    exact pball_any side cells_side h
  copy := fun {w A G S t} ⟨g, F, h, iv, e⟩ => (pcopy_any side h).mono fun e w' ⟨G2, g2, F2, e1, h1, b, hb⟩ => ⟨G2, _, e1, ⟨g2, F2, h1, iv, rfl⟩, b, hb⟩
  nPlace := fun h => pnplace_any h
  nRepl := fun h => pnrepl_any h
  nCanc := fun h => pncanc_any h
  nGet := fun h => pnget_any h
  nOpen := fun {w p a} h => popen_of (os := []) (F := fun k => p = some ⟨k, 0, none⟩) (fun x hx => by simp at hx) (Nat.zero_le _) (fun W q => pnball_any (h.below q)) (fun k hk => by
    rcases h with e | ⟨g, e, hg⟩
    · rw [e] at hk; cases hk
    · rw [e] at hk; cases hk; exact (Array.getElem?_eq_some_iff.1 hg).1)
  nMass := fun h => pnmass_any h
  nAll := fun h => pnball_any h
  nCopy := fun h => pncopy_any h
end Go.Proofs.Ytdcjgcjnfcahkaa
/- Two trades compared as Go compares structs; no program's function. -/
namespace Go.Proofs.Ytdcjgcjnfcahkaa
open Go.RowKit

def Td.lits (o : Td) : List Lit := [.int .i64 o.pr, .int .i64 o.qt, .int .u64 o.nu, .int .u32 o.ac]
theorem lits_td (o : Td) (ok : o.ok) : Try.prog.keyLits 3 63 (ET.cells o) = some o.lits := by
  have h0 : (Lit.int .i64 o.pr).wf = true := by
    obtain ⟨a, b⟩ := ok.pr
    simp [Lit.wf, IntKind.min, IntKind.max, IntKind.signed, IntKind.bits]
    omega
  have h1 : (Lit.int .i64 o.qt).wf = true := by
    obtain ⟨a, b⟩ := ok.qt
    simp [Lit.wf, IntKind.min, IntKind.max, IntKind.signed, IntKind.bits]
    omega
  have h3 : (Lit.int .u64 o.nu).wf = true := by
    have := ok.nu
    simp [Lit.wf, IntKind.min, IntKind.max, IntKind.signed, IntKind.bits]
    omega
  have h4 : (Lit.int .u32 o.ac).wf = true := by
    have := ok.ac
    simp [Lit.wf, IntKind.min, IntKind.max, IntKind.signed, IntKind.bits]
    omega
  have c1 : Try.prog.cellsOf 28 = 1 := by kernel_rfl
  have c2 : Try.prog.cellsOf 29 = 1 := by kernel_rfl
  have c4 : Try.prog.cellsOf 2 = 1 := by kernel_rfl
  have c5 : Try.prog.cellsOf 63 = 4 := by kernel_rfl
  simp [Program.keyLits, ET, Td.cells, Td.lits, c5, Try.underlying63, Try.underlying28, Try.underlying29, Try.underlying2, c1, c2, c4, h0, h1, h3, h4]
theorem formed_td (o : Td) : (Value.agg (ET.cells o).toArray).formed Try.prog 63 = true := by
  have c5 : Try.prog.cellsOf 63 = 4 := by kernel_rfl
  simp [Value.formed, Try.underlying63, c5, ET, Td.cells]
theorem key_td : Try.prog.keyTypeAt 3 63 = true := by kernel_rfl
theorem guard_td : Try.prog.eqGuardType Try.prog.depth 63 = false := by kernel_rfl
theorem td_lits_inj {x y : Td} (h : x.lits = y.lits) : x = y := by
  obtain ⟨a, b, c, d⟩ := x
  obtain ⟨a', b', c', d'⟩ := y
  simp [Td.lits] at h
  simp [h]
open Classical in
/-- The same Bool in every world. -/
noncomputable def eqT (x y : Td) : Bool := decide (x = y)
theorem eqT_yes (x : Td) : eqT x x = true := by simp [eqT]
theorem eqT_no {x y : Td} (h : x ≠ y) : eqT x y = false := by simp [eqT, h]
theorem eqT_iff {x y : Td} : eqT x y = true ↔ x = y := by simp [eqT]
theorem eq_td_run (x y : Td) (hx : x.ok) (hy : y.ok) (w : World) : (Op.equalIn 10000 63 (.agg (ET.cells x).toArray) (.agg (ET.cells y).toArray)).run Try.prog w = .ok (eqT x y) w := by
  have ex : (Value.agg (ET.cells x).toArray).cells.toList = ET.cells x := by simp [Value.cells]
  have ey : (Value.agg (ET.cells y).toArray).cells.toList = ET.cells y := by simp [Value.cells]
  obtain ⟨r, h1, h2⟩ := run_equalIn_deep (P := Try.prog) 9997 3 63 key_td w 3 3 (.agg (ET.cells x).toArray) (.agg (ET.cells y).toArray) x.lits y.lits (formed_td x) (formed_td y) (by rw [ex]; exact lits_td x hx) (by rw [ey]; exact lits_td y hy)
  rw [h1]
  have : r = eqT x y := by
    have h3 : r = true ↔ x = y := h2.trans ⟨td_lits_inj, fun e => by rw [e]⟩
    by_cases c : x = y
    · rw [h3.2 c, eqT_iff.2 c]
    · rw [eqT_no c]
      cases r
      · rfl
      · exact absurd (h3.1 rfl) c
  rw [this]
theorem exec_neq_td {o : Oper} {a : Act} {x y : Operand} {t2 : TypeId} (ho : o.op = .binOp .neq 63 x y t2) {u v : Td} (hu : u.ok) (hv : v.ok) (hx : a.eval x = .agg (ET.cells u).toArray) (hy : a.eval y = .agg (ET.cells v).toArray) (w : World) :
    (execOp a.eval o).run Try.prog w = .ok (.value (.bool !(eqT u v))) w := by
  unfold execOp
  simp only [ho, hx, hy, Sem.run_bind, run_eqGuard_agg w _ _ _ _ _ _ guard_td, Result.andThen_ok, run_neq_struct, eq_td_run u v hu hv w, Sem.run_pure]
theorem exec_eql_td {o : Oper} {a : Act} {x y : Operand} {t2 : TypeId} (ho : o.op = .binOp .eql 63 x y t2) {u v : Td} (hu : u.ok) (hv : v.ok) (hx : a.eval x = .agg (ET.cells u).toArray) (hy : a.eval y = .agg (ET.cells v).toArray) (w : World) :
    (execOp a.eval o).run Try.prog w = .ok (.value (.bool (eqT u v))) w := by
  unfold execOp
  simp only [ho, hx, hy, Sem.run_bind, run_eqGuard_agg w _ _ _ _ _ _ guard_td, Result.andThen_ok, run_eql_struct, eq_td_run u v hu hv w, Sem.run_pure]
theorem yields_neq_td {ops : Array Oper} {S : World → Prop} {o : Oper} {a : Act} (hw : Region.wanted o (yielded ops a.tmps) = true) (x y : Operand) {t2 : TypeId} (ho : o.op = .binOp .neq 63 x y t2) {u v : Td} (hu : u.ok) (hv : v.ok) (hx : a.eval x = .agg (ET.cells u).toArray) (hy : a.eval y = .agg (ET.cells v).toArray) :
    YieldsIf Try.prog ops S o (.bool !(eqT u v)) a := .inl ⟨hw, fun w _ => exec_neq_td ho hu hv hx hy w⟩
theorem yields_eql_td {ops : Array Oper} {S : World → Prop} {o : Oper} {a : Act} (hw : Region.wanted o (yielded ops a.tmps) = true) (x y : Operand) {t2 : TypeId} (ho : o.op = .binOp .eql 63 x y t2) {u v : Td} (hu : u.ok) (hv : v.ok) (hx : a.eval x = .agg (ET.cells u).toArray) (hy : a.eval y = .agg (ET.cells v).toArray) :
    YieldsIf Try.prog ops S o (.bool (eqT u v)) a := .inl ⟨hw, fun w _ => exec_eql_td ho hu hv hx hy w⟩
end Go.Proofs.Ytdcjgcjnfcahkaa
/- Contracts of the document's plain book: SameOrders. -/
namespace Go.Proofs.Ytdcjgcjnfcahkaa
open Go.RowKit
set_option linter.unusedVariables false

open Classical in
/-- Alike? The same in every world. -/
noncomputable def eqL (xs ys : List Or) : Bool := decide (xs = ys)
theorem eqL_yes (xs : List Or) : eqL xs xs = true := by simp [eqL]
theorem eqL_no {xs ys : List Or} (h : xs ≠ ys) : eqL xs ys = false := by simp [eqL, h]
theorem eqL_iff {xs ys : List Or} : eqL xs ys = true ↔ xs = ys := by simp [eqL]
theorem take_next {xs ys : List Or} {k : Nat} {x : Or} (h : xs.take k = ys.take k) (hx : xs[k]? = some x) (hy : ys[k]? = some x) : xs.take (k + 1) = ys.take (k + 1) := by
  rw [List.take_add_one, List.take_add_one, h, hx, hy]
set_option maxRecDepth 100000 in
set_option maxHeartbeats 2000000 in
theorem bsame_any (A1 A2 : Option Addr) (n1 n2 c1 c2 : Nat) (xs ys : List Or) (w : World) (h1 : EO.Rd w A1 n1 xs) (h2 : EO.Rd w A2 n2 ys) (hx : ∀ x, x ∈ xs → x.ok) (hy : ∀ x, x ∈ ys → x.ok) (hn1 : n1 ≤ 1000) (hn2 : n2 ≤ 1000) :
    Calls Try.prog 16 #[.slice A1 n1 c1, .slice A2 n2 c2] w fun e w' => e = .returned (.bool (eqL xs ys)) ∧ Below w.heap.size w w' := by
  obtain ⟨r, hr⟩ : ∃ r, eqL xs ys = r := ⟨_, rfl⟩
  rw [hr]
  have R := Lib.hid hr
  have H1 := Lib.hid h1
  have H2 := Lib.hid h2
  have OX := Lib.hid hx
  have OY := Lib.hid hy
  have B0 : Hid (Below w.heap.size w w) := Lib.hid (Below.refl _ _)
  clear h1 h2 hx hy hr
  by_cases hn : n1 = n2
  case neg =>
    have hr : r = false := by
      rw [← R.out]
      refine eqL_no fun e => hn ?_
      rw [← H1.out.1, ← H2.out.1, e]
    have hd : decide ((n1 : Int) = n2) = false := decide_eq_false (by omega)
    have hd' : ((n1 : Int) == n2) = false := beq_eq_false_iff_ne.2 (by omega)
    subst hr
    go_enter Try.func16, Try.ntmps16
    go_wp2_with fail
    go_ret
    exact ⟨rfl, B0.out⟩
  case pos =>
  subst hn
  go_enter Try.func16, Try.ntmps16
  go_wp2_with fail
  go_loopw [5] (fun i wr => ∃ k : Nat, k ≤ n1 ∧ i = .int .i64 k ∧ xs.take k = ys.take k ∧ Below w.heap.size w wr) (fun i _ => n1 - (intOf i).toNat)
  case atStart => exact ⟨0, Nat.zero_le _, rfl, rfl, B0.out⟩
  case round =>
    obtain ⟨k, hk, rfl, hpre, hb⟩ := hrel
    have BW := Lib.hid hb
    have PR := Lib.hid hpre
    clear hb hpre
    by_cases hlt : k < n1
    case neg =>
      obtain rfl : k = n1 := by omega
      have hr : r = true := by
        rw [← R.out, eqL_iff]
        have e := PR.out
        rw [List.take_of_length_le (by rw [H1.out.1]; exact Nat.le_refl _), List.take_of_length_le (by rw [H2.out.1]; exact Nat.le_refl _)] at e
        exact e
      have hd : decide ((k : Int) < k) = false := decide_eq_false (by omega)
      subst hr
      go_wp2_with fail
      go_ret
      exact ⟨rfl, BW.out⟩
    case pos =>
      have hd : decide ((k : Int) < n1) = true := decide_eq_true (by omega)
      have hki : (k : Int) < (n1 : Int) := by omega
      obtain ⟨x, hx⟩ : ∃ x, xs[k]? = some x := ⟨xs[k]'(by rw [H1.out.1]; exact hlt), List.getElem?_eq_getElem _⟩
      obtain ⟨y, hy⟩ : ∃ x, ys[k]? = some x := ⟨ys[k]'(by rw [H2.out.1]; exact hlt), List.getElem?_eq_getElem _⟩
      obtain ⟨b1, o1, e1, r1⟩ := grd_rng (grd_below (grd_below H1.out BW.out (Nat.le_refl _)) (Below.refl _ _).drew (Nat.le_refl _)) hx
      obtain ⟨b2, o2, e2, r2⟩ := grd_rng (grd_below (grd_below H2.out BW.out (Nat.le_refl _)) (Below.refl _ _).drew (Nat.le_refl _)) hy
      subst e1 e2
      have R1 : Hid (wr.drew.rangeAt b1 (o1 + k * 5) (EO.cells x)) := Lib.hid r1
      have R2 : Hid (wr.drew.rangeAt b2 (o2 + k * 5) (EO.cells y)) := Lib.hid r2
      have HX := Lib.hid hx
      have HY := Lib.hid hy
      have XOK := Lib.hid (OX.out x (List.mem_of_getElem? hx))
      have YOK := Lib.hid (OY.out y (List.mem_of_getElem? hy))
      clear r1 r2 hx hy
      obtain ⟨q, hq⟩ : ∃ q, eqO x y = q := ⟨_, rfl⟩
      go_wp2_with fail
      refine wp_region_held_drew (S := fun U => U = wr.drew) (by kernel_rfl) rfl (fun hH => ?_)
      refine wpAnyH_take (i := 0) (v := .slice (some ⟨b1, o1, none⟩) n1 c1) rfl (by kernel_rfl) (by kernel_rfl) (by kernel_rfl) (fun _ _ _ h => h) (.inl ⟨by rfl, ?_⟩) (by assumption) ?_
      · intro W hW; subst hW; go_simp
      try simp only [List.getElem_toArray, List.getElem_cons_zero, Act.put, List.setIfInBounds_toArray, List.set_cons_zero, List.set_cons_succ]
      refine wpAnyH_take (i := 1) (v := .int .i64 k) rfl (by kernel_rfl) (by kernel_rfl) (by kernel_rfl) (fun _ _ _ h => h) (.inl ⟨by rfl, ?_⟩) (by assumption) ?_
      · intro W hW; subst hW; go_simp
      try simp only [List.getElem_toArray, List.getElem_cons_zero, List.getElem_cons_succ, Act.put, List.setIfInBounds_toArray, List.set_cons_zero, List.set_cons_succ]
      refine wpAnyH_take (i := 2) (v := .pointer (some ⟨b1, o1 + k * 5, none⟩)) rfl (by kernel_rfl) (by kernel_rfl) (by kernel_rfl) (fun _ _ _ h => h) (.inl ⟨by rfl, ?_⟩) (by assumption) ?_
      · intro W hW; subst hW; go_simp
      try simp only [List.getElem_toArray, List.getElem_cons_zero, List.getElem_cons_succ, Act.put, List.setIfInBounds_toArray, List.set_cons_zero, List.set_cons_succ]
      refine wpAnyH_take (i := 3) (v := .agg (EO.cells x).toArray) rfl (by kernel_rfl) (by kernel_rfl) (by kernel_rfl) (fun _ _ _ h => h) (gyields_load TO (by rfl) (.tmp 19) rfl b1 (o1 + k * 5) rfl (fun U hU => by subst hU; exact R1.out)) (by assumption) ?_
      try simp only [List.getElem_toArray, List.getElem_cons_zero, List.getElem_cons_succ, Act.put, List.setIfInBounds_toArray, List.set_cons_zero, List.set_cons_succ]
      refine wpAnyH_take (i := 4) (v := .slice (some ⟨b2, o2, none⟩) n1 c2) rfl (by kernel_rfl) (by kernel_rfl) (by kernel_rfl) (fun _ _ _ h => h) (.inl ⟨by rfl, ?_⟩) (by assumption) ?_
      · intro W hW; subst hW; go_simp
      try simp only [List.getElem_toArray, List.getElem_cons_zero, List.getElem_cons_succ, Act.put, List.setIfInBounds_toArray, List.set_cons_zero, List.set_cons_succ]
      refine wpAnyH_take (i := 5) (v := .int .i64 k) rfl (by kernel_rfl) (by kernel_rfl) (by kernel_rfl) (fun _ _ _ h => h) (.inl ⟨by rfl, ?_⟩) (by assumption) ?_
      · intro W hW; subst hW; go_simp
      try simp only [List.getElem_toArray, List.getElem_cons_zero, List.getElem_cons_succ, Act.put, List.setIfInBounds_toArray, List.set_cons_zero, List.set_cons_succ]
      refine wpAnyH_take (i := 6) (v := .pointer (some ⟨b2, o2 + k * 5, none⟩)) rfl (by kernel_rfl) (by kernel_rfl) (by kernel_rfl) (fun _ _ _ h => h) (.inl ⟨by rfl, ?_⟩) (by assumption) ?_
      · intro W hW; subst hW; go_simp
      try simp only [List.getElem_toArray, List.getElem_cons_zero, List.getElem_cons_succ, Act.put, List.setIfInBounds_toArray, List.set_cons_zero, List.set_cons_succ]
      refine wpAnyH_take (i := 7) (v := .agg (EO.cells y).toArray) rfl (by kernel_rfl) (by kernel_rfl) (by kernel_rfl) (fun _ _ _ h => h) (gyields_load TO (by rfl) (.tmp 23) rfl b2 (o2 + k * 5) rfl (fun U hU => by subst hU; exact R2.out)) (by assumption) ?_
      try simp only [List.getElem_toArray, List.getElem_cons_zero, List.getElem_cons_succ, Act.put, List.setIfInBounds_toArray, List.set_cons_zero, List.set_cons_succ]
      refine wpAnyH_take (i := 8) (v := .bool !q) rfl (by kernel_rfl) (by kernel_rfl) (by kernel_rfl) (fun _ _ _ h => h) (by rw [← hq]; exact yields_neq_or (by rfl) (.tmp 20) (.tmp 24) rfl XOK.out YOK.out rfl rfl) (by assumption) ?_
      try simp only [List.getElem_toArray, List.getElem_cons_zero, List.getElem_cons_succ, Act.put, List.setIfInBounds_toArray, List.set_cons_zero, List.set_cons_succ]
      refine wpAnyH_done (by decide +kernel) ?_ _
      clear hH
      have BD := Lib.hid (BW.out.drew)
      cases q
      · have hr : r = false := by
          rw [← R.out]
          refine eqL_no fun e => ?_
          have hx := HX.out
          rw [e, HY.out] at hx
          injection hx with hx
          rw [hx, eqO_yes] at hq
          cases hq
        subst hr
        go_wp2_with fail
        go_ret
        exact ⟨rfl, BD.out⟩
      · have e := eqO_iff.1 hq
        subst e
        go_wp2_with fail
        go_roundw
        case rel => exact ⟨k + 1, hlt, by go_num, take_next PR.out HX.out HY.out, BD.out⟩
        case measure => simp [intOf]; omega
end Go.Proofs.Ytdcjgcjnfcahkaa
