/- The program's calendar: IndexFunc and ContainsFunc at contracts, with any test; the tests. -/
import Derived.Test.YtejhnfkljfdejaaHb
import Derived.Test.YtejhnfkljfdejaaVs
import Derived.Test.YtejhnfkljfdejaaRi
namespace Go.Proofs.Ytejhnfkljfdejaa
open Go.RowKit
set_option linter.unusedVariables false

theorem rdc_below {w W : World} {A : Option Addr} {m B : Nat} {cs : List Ct} (h : RdC w A m cs) (q : Below B w W) (hB : w.heap.size ≤ B) : RdC W A m cs := by
  refine ⟨h.1, h.2.1, h.2.2.1, fun b o hm e j u hj => ?_⟩
  have hc := h.2.2.2 b o hm e j u hj
  have hb : b < w.heap.size := by
    unfold World.cell? at hc
    rcases Nat.lt_or_ge b w.heap.size with c | c
    · exact c
    · rw [Array.getElem?_eq_none c] at hc
      cases hc
  unfold World.cell? at hc ⊢
  rw [q.block b (by omega)]
  exact hc
theorem rdc_rng {w : World} {A : Option Addr} {m : Nat} {cs : List Ct} (h : RdC w A m cs) (hs : ∀ y, y ∈ cs → y.sp.sh.length = 16) {k : Nat} {x : Ct} (hx : cs[k]? = some x) : ∃ b o, A = some ⟨b, o, none⟩ ∧ w.rangeAt b (o + k * 27) x.cellL := by
  have hk := (List.getElem?_eq_some_iff.1 hx).1
  have hm : 0 < m := by have := h.1; omega
  cases A with
  | none => have := h.2.1 rfl; omega
  | some a =>
    have e := h.2.2.1 hm a rfl
    refine ⟨a.block, a.off, by rw [← e], fun j u hj => ?_⟩
    have hl := (List.getElem?_eq_some_iff.1 hj).1
    rw [Ct.lenL (hs x (List.mem_of_getElem? hx))] at hl
    have := h.2.2.2 a.block a.off hm (by rw [← e]) (k * 27 + j) u (by rw [flat_at cs k x hs hx j hl, hj])
    rw [← this, Nat.add_assoc]
theorem Rp.read {W : World} {g n c : Nat} {A : Option Addr} {d : Int} {cs : List Ct} (h : Rp W g (.slice A n c) d cs) : RdC W A n cs := by
  obtain ⟨A', c', e⟩ := h.one
  cases e
  refine ⟨rfl, fun e => ?_, fun hm a e => ?_, fun b o hm e j u hj => ?_⟩
  · rcases h.own.2 with ⟨_, z⟩ | ⟨b, c1, cur, e1, _⟩
    · exact z
    · subst e; cases e1
  · obtain ⟨b, c1, e1⟩ := h.slot hm
    cases e1; cases e; rfl
  · obtain ⟨b1, c1, e1⟩ := h.slot hm
    cases e1; cases e
    have hl := (List.getElem?_eq_some_iff.1 hj).1
    rw [flat_len cs h.sh] at hl
    rw [Nat.zero_add, h.own.cellAt j (by omega), hj]

/-- A test of a contract: it may lay blocks of its own. -/
def Tests (g : Nat) (lb : Array Value) (p : Ct → Bool) (w : World) : Prop :=
  ∀ (W : World) (x : Ct), Below w.heap.size w W → x.ok → Calls Try.prog g (#[.agg x.cells] ++ lb) W fun e w' => e = .returned (.bool (p x)) ∧ Below W.heap.size W w'
def idxC (p : Ct → Bool) (cs : List Ct) : Int := match cs.findIdx? p with | some k => (k : Int) | none => -1
theorem idx_hit {p : Ct → Bool} {cs : List Ct} {k : Nat} {x : Ct} (hx : cs[k]? = some x) (hp : p x = true) (hn : ∀ (j : Nat) (y : Ct), j < k → cs[j]? = some y → p y = false) : cs.findIdx? p = some k := by
  obtain ⟨hk, rfl⟩ := List.getElem?_eq_some_iff.1 hx
  refine List.findIdx?_eq_some_iff_getElem.2 ⟨hk, hp, fun j hj => ?_⟩
  rw [hn j _ hj (List.getElem?_eq_getElem _)]
  decide
theorem idx_miss {p : Ct → Bool} {cs : List Ct} (hn : ∀ (j : Nat) (y : Ct), cs[j]? = some y → p y = false) : cs.findIdx? p = none := by
  refine List.findIdx?_eq_none_iff.2 fun y hy => ?_
  obtain ⟨j, hj⟩ := List.getElem?_of_mem hy
  exact hn j y hj
theorem idx_any (p : Ct → Bool) (cs : List Ct) : decide (0 ≤ idxC p cs) = cs.any p := by
  unfold idxC
  cases e : cs.findIdx? p with
  | none =>
    have h := List.findIdx?_eq_none_iff.1 e
    show decide ((0 : Int) ≤ -1) = _
    rw [decide_eq_false (by omega)]
    exact (List.any_eq_false.2 fun x hx => by rw [h x hx]; decide).symm
  | some k =>
    obtain ⟨hk, hp, _⟩ := List.findIdx?_eq_some_iff_getElem.1 e
    show decide ((0 : Int) ≤ (k : Int)) = _
    rw [decide_eq_true (Int.natCast_nonneg k)]
    exact (List.any_eq_true.2 ⟨_, List.getElem_mem hk, hp⟩).symm
set_option maxRecDepth 100000 in
set_option maxHeartbeats 1000000 in
theorem index_any (g : Nat) (lb : Array Value) (p : Ct → Bool) (A : Option Addr) (n c : Nat) (cs : List Ct) (w : World) (eg : ∀ args w, (callFunc g args).run Try.prog w = .ok (.enter g args) w) (hp : Tests g lb p w) (hr : RdC w A n cs) (hok : ∀ x, x ∈ cs → x.ok) (hn : n ≤ 1000) :
    Calls Try.prog 61 #[.slice A n c, .func (.func g) #[] lb] w fun e w' => e = .returned (.int .i64 (idxC p cs)) ∧ Below w.heap.size w w' := by
  have HP := Lib.hid hp
  have HR := Lib.hid hr
  have HK := Lib.hid hok
  have HL := Lib.hid hr.1
  have B0 : Hid (Below w.heap.size w w) := Lib.hid (Below.refl _ _)
  obtain ⟨r, hr1⟩ : ∃ r, idxC p cs = r := ⟨_, rfl⟩
  rw [hr1]
  have R1 := Lib.hid hr1
  clear hr1 hp hr hok
  go_enter Try.func61, Try.ntmps61
  go_wp2_with fail
  go_loopw [5, 8] (fun _ i wr => ∃ k : Nat, k ≤ n ∧ i = .int .i64 k ∧ Below w.heap.size w wr ∧ ∀ (j : Nat) (y : Ct), j < k → cs[j]? = some y → p y = false) (fun _ i _ => n - (intOf i).toNat)
  case atStart => exact ⟨0, Nat.zero_le _, rfl, B0.out, fun j y hj => absurd hj (Nat.not_lt_zero j)⟩
  case round =>
    obtain ⟨k, hk, rfl, hb, hno⟩ := hrel
    have BW := Lib.hid hb
    have NO := Lib.hid hno
    clear hb hno
    by_cases hlt : k < n
    case pos =>
      have hd : decide ((k : Int) < n) = true := decide_eq_true (by omega)
      have hki : (k : Int) < (n : Int) := by omega
      obtain ⟨x, hx⟩ : ∃ x, cs[k]? = some x := ⟨cs[k]'(by have := HL.out; omega), List.getElem?_eq_getElem _⟩
      have OK := Lib.hid (HK.out x (List.mem_of_getElem? hx))
      obtain ⟨b, o, rfl, rg⟩ := rdc_rng (rdc_below HR.out BW.out (Nat.le_refl _)) (fun y hy => (HK.out y hy).sp.len) hx
      have RG := Lib.hid rg
      have C := Lib.hid (HP.out wr x BW.out OK.out)
      have HX := Lib.hid hx
      clear hx rg
      cases hpx : p x
      · rw [hpx] at C
        have PX := Lib.hid hpx
        clear hpx
        go_wp2_with (refine wl_load_ctm b (o + k * 27) OK.out.sp.len RG.out rfl ?_)
        refine C.out.mono ?_; rintro e w2 ⟨rfl, q⟩
        have Q := Lib.hid q
        clear q
        go_wp2_with fail
        go_roundw
        case rel => exact ⟨k + 1, hlt, by go_num, BW.out.trans (Q.out.mono BW.out.size), fun j y hj hy => by
            rcases Nat.lt_or_ge j k with c | c
            · exact NO.out j y c hy
            · obtain rfl : j = k := by omega
              rw [HX.out] at hy; cases hy; exact PX.out⟩
        case measure => simp [intOf]; omega
      · rw [hpx] at C
        have E : Hid (r = (k : Int)) := Lib.hid (by rw [← R1.out, idxC, idx_hit HX.out hpx NO.out])
        clear hpx
        go_wp2_with (refine wl_load_ctm b (o + k * 27) OK.out.sp.len RG.out rfl ?_)
        refine C.out.mono ?_; rintro e w2 ⟨rfl, q⟩
        have Q := Lib.hid q
        clear q
        go_wp2_with fail
        go_ret
        rw [E.out]
        exact ⟨rfl, BW.out.trans (Q.out.mono BW.out.size)⟩
    case neg =>
      obtain rfl : k = n := by omega
      have E : Hid (r = -1) := Lib.hid (by rw [← R1.out, idxC, idx_miss fun j y hy => NO.out j y (by have := (List.getElem?_eq_some_iff.1 hy).1; have := HL.out; omega) hy])
      go_wp2_with fail
      go_ret
      rw [E.out]
      exact ⟨rfl, BW.out⟩
set_option maxRecDepth 100000 in
theorem contains_any (g : Nat) (lb : Array Value) (p : Ct → Bool) (A : Option Addr) (n c : Nat) (cs : List Ct) (w : World) (eg : ∀ args w, (callFunc g args).run Try.prog w = .ok (.enter g args) w) (hp : Tests g lb p w) (hr : RdC w A n cs) (hok : ∀ x, x ∈ cs → x.ok) (hn : n ≤ 1000) :
    Calls Try.prog 47 #[.slice A n c, .func (.func g) #[] lb] w fun e w' => e = .returned (.bool (cs.any p)) ∧ Below w.heap.size w w' := by
  have C := index_any g lb p A n c cs w eg hp hr hok hn
  rw [← idx_any]
  generalize idxC p cs = r at *
  clear hp hr hok
  go_enter Try.func47, Try.ntmps47
  go_wp2_with fail
  refine C.mono ?_; rintro e w2 ⟨rfl, q⟩
  have Q := Lib.hid q
  clear q
  go_wp2_with fail
  go_ret
  exact ⟨rfl, Q.out⟩
end Go.Proofs.Ytejhnfkljfdejaa
