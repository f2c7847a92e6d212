/- The library's search, clone, insert, delete at a struct (by genLib.py). -/
import Derived.Test.YtcjianjnedbjkaaSb
import Derived.Test.YtcjianjnedbjkaaUa
namespace Go.Proofs.Ytcjianjnedbjkaa
open Go.RowKit Go.Shelf
set_option linter.unusedVariables false
set_option linter.unusedSimpArgs false

theorem fl_len_o8 (l : List Or) : (EO.flat l).length = l.length * 5 := gflat_len l
theorem cl_len_o8 (x : Or) : (EO.cells x).length = 5 := EO.len x
theorem rng_o8 {w W : World} {A : Option Addr} {n B : Nat} {l : List Or} (h : EO.Rd w A n l) (q : Below B w W) (hB : w.heap.size ≤ B) {k : Nat} {x : Or} (hx : l[k]? = some x) : ∃ b o, A = some ⟨b, o, none⟩ ∧ W.rangeAt b (o + k * 5) (EO.cells x) :=
  grd_rng (grd_below h q hB) hx

set_option maxRecDepth 100000 in
set_option maxHeartbeats 1000000 in
theorem index_o8 (g : Nat) (lb : Array Value) (p : Or → Bool) (A : Option Addr) (n c : Nat) (l : List Or) (w : World) (eg : ∀ args w, (callFunc g args).run Try.prog w = .ok (.enter g args) w) (hp : GTests Try.prog EO Or.ok g lb p w) (hr : EO.Rd w A n l) (hok : ∀ x, x ∈ l → Or.ok x) (hn : n ≤ 1000) :
    Calls Try.prog 21 #[.slice A n c, .func (.func g) #[] lb] w fun e w' => e = .returned (.int .i64 (gidx p l)) ∧ Below w.heap.size w w' := by
  have HP := Lib.hid hp
  have HR := Lib.hid hr
  have HK := Lib.hid hok
  have HL := Lib.hid hr.1
  have B0 : Hid (Below w.heap.size w w) := Lib.hid (Below.refl _ _)
  obtain ⟨r, hr1⟩ : ∃ r, gidx p l = r := ⟨_, rfl⟩
  rw [hr1]
  have R1 := Lib.hid hr1
  clear hr1 hp hr hok
  go_enter Try.func21, Try.ntmps21
  go_wp2_with fail
  go_loopw [5, 8] (fun _ i wr => ∃ k : Nat, k ≤ n ∧ i = .int .i64 k ∧ Below w.heap.size w wr ∧ ∀ (j : Nat) (y : Or), j < k → l[j]? = some y → p y = false) (fun _ i _ => n - (intOf i).toNat)
  case atStart => exact ⟨0, Nat.zero_le _, rfl, B0.out, fun j y hj => absurd hj (Nat.not_lt_zero j)⟩
  case round =>
    obtain ⟨k, hk, rfl, hb, hno⟩ := hrel
    have BW := Lib.hid hb
    have NO := Lib.hid hno
    clear hb hno
    by_cases hlt : k < n
    case pos =>
      have hd : decide ((k : Int) < n) = true := decide_eq_true (by omega)
      have hki : (k : Int) < (n : Int) := by omega
      obtain ⟨x, hx⟩ : ∃ x, l[k]? = some x := ⟨l[k]'(by have := HL.out; omega), List.getElem?_eq_getElem _⟩
      have OK := Lib.hid (HK.out x (List.mem_of_getElem? hx))
      obtain ⟨b, o, rfl, rg⟩ := rng_o8 HR.out BW.out (Nat.le_refl _) hx
      have RG := Lib.hid rg
      have C := Lib.hid (HP.out wr x BW.out OK.out)
      have HX := Lib.hid hx
      clear hx rg
      cases hpx : p x
      · rw [hpx] at C
        have PX := Lib.hid hpx
        clear hpx
        go_wp2_with ((with_reducible refine gwl_load TO b (o + k * 5) RG.out ?_ ?_ ?_); rfl; rfl)
        refine C.out.mono ?_; rintro e w2 ⟨rfl, q⟩
        have Q := Lib.hid q
        clear q
        go_wp2_with fail
        go_roundw
        case rel => exact ⟨k + 1, hlt, by go_num, BW.out.trans (Q.out.mono BW.out.size), fun j y hj hy => by
            rcases Nat.lt_or_ge j k with c | c
            · exact NO.out j y c hy
            · obtain rfl : j = k := by omega
              rw [HX.out] at hy; cases hy; exact PX.out⟩
        case measure => simp [intOf]; omega
      · rw [hpx] at C
        have E : Hid (r = (k : Int)) := Lib.hid (by rw [← R1.out, gidx, gidx_hit HX.out hpx NO.out])
        clear hpx
        go_wp2_with ((with_reducible refine gwl_load TO b (o + k * 5) RG.out ?_ ?_ ?_); rfl; rfl)
        refine C.out.mono ?_; rintro e w2 ⟨rfl, q⟩
        have Q := Lib.hid q
        clear q
        go_wp2_with fail
        go_ret
        rw [E.out]
        exact ⟨rfl, BW.out.trans (Q.out.mono BW.out.size)⟩
    case neg =>
      obtain rfl : k = n := by omega
      have E : Hid (r = -1) := Lib.hid (by rw [← R1.out, gidx, gidx_miss fun j y hy => NO.out j y (by have := (List.getElem?_eq_some_iff.1 hy).1; have := HL.out; omega) hy])
      go_wp2_with fail
      go_ret
      rw [E.out]
      exact ⟨rfl, BW.out⟩

set_option maxRecDepth 100000 in
theorem clone_o8 (A : Option Addr) (n c : Nat) (l : List Or) (w : World) (h : EO.Rd w A n l) (hn : n ≤ 1000) (h0 : A = none → c = 0) :
    Calls Try.prog 22 #[.slice A n c] w fun e w' => ∃ v, e = .returned v ∧ EO.Own 31 w' w.heap.size v l ∧ Below w.heap.size w w' := by
  have q := fun (w : World) (a : Option Addr) (n c n' c' : Nat) => Lib.run_eql_slice_nil (P := Try.prog) w 22 31 a n c n' c' TO.und
  cases A with
  | none =>
    have hz := h.2.1 rfl
    have hc := h0 rfl
    subst hz hc
    have e : l = [] := List.eq_nil_of_length_eq_zero h.1
    subst e
    clear h
    go_enter Try.func22, Try.ntmps22
    go_wp2
    go_ret
    exact ⟨_, rfl, gown_nil _ _, Below.refl _ _⟩
  | some ad =>
    have O := Lib.hid (gown_new (E := EO) (te := 31) w)
    have R := Lib.hid (grd_below h (below_new w (.cells #[] 31)) (Nat.le_refl _))
    have B := Lib.hid (below_new w (.cells #[] 31))
    clear h h0
    go_enter Try.func22, Try.ntmps22
    go_wp2_with (at_builtin; refine gpl_app TO rfl _ _ rfl w.heap.size _ [] rfl O.out (some ad) n c l rfl R.out (fun e => by cases e) (by simp; omega) (by simp) ?_; intro v' w' h1 h2 h3)
    go_ret
    rw [List.nil_append] at h1
    exact ⟨_, rfl, h1, B.out.grown h2 (by simp) (fun k e => (by cases e; exact Nat.le_refl _))⟩
end Go.Proofs.Ytcjianjnedbjkaa
