/- The library's search at orders, at stakes (out of XAc, XAj). -/
import Derived.Test.YtcpcnjiphiokjaaExa
import Derived.Test.YtcpcnjiphiokjaaUa
namespace Go.Proofs.Ytcpcnjiphiokjaa
open Go.RowKit Go.Shelf
set_option linter.unusedVariables false
set_option linter.unusedSimpArgs false

theorem fl_len_o8 (l : List Or) : (EO.flat l).length = l.length * 5 := gflat_len l
theorem cl_len_o8 (x : Or) : (EO.cells x).length = 5 := EO.len x
theorem rng_o8 {w W : World} {A : Option Addr} {n B : Nat} {l : List Or} (h : EO.Rd w A n l) (q : Below B w W) (hB : w.heap.size ≤ B) {k : Nat} {x : Or} (hx : l[k]? = some x) : ∃ b o, A = some ⟨b, o, none⟩ ∧ W.rangeAt b (o + k * 5) (EO.cells x) :=
  grd_rng (grd_below h q hB) hx

set_option maxRecDepth 100000 in
set_option maxHeartbeats 1000000 in
theorem index_o8 (g : Nat) (lb : Array Value) (p : Or → Bool) (A : Option Addr) (n c : Nat) (l : List Or) (w : World) (eg : ∀ args w, (callFunc g args).run Try.prog w = .ok (.enter g args) w) (hp : GTests Try.prog EO Or.ok g lb p w) (hr : EO.Rd w A n l) (hok : ∀ x, x ∈ l → Or.ok x) (hn : n ≤ 1000) :
    Calls Try.prog 58 #[.slice A n c, .func (.func g) #[] lb] w fun e w' => e = .returned (.int .i64 (gidx p l)) ∧ Below w.heap.size w w' := by
  have HP := Lib.hid hp
  have HR := Lib.hid hr
  have HK := Lib.hid hok
  have HL := Lib.hid hr.1
  have B0 : Hid (Below w.heap.size w w) := Lib.hid (Below.refl _ _)
  obtain ⟨r, hr1⟩ : ∃ r, gidx p l = r := ⟨_, rfl⟩
  rw [hr1]
  have R1 := Lib.hid hr1
  clear hr1 hp hr hok
  go_enter Try.func58, Try.ntmps58
  go_wp2_with fail
  go_loopw [5, 8] (fun _ i wr => ∃ k : Nat, k ≤ n ∧ i = .int .i64 k ∧ Below w.heap.size w wr ∧ ∀ (j : Nat) (y : Or), j < k → l[j]? = some y → p y = false) (fun _ i _ => n - (intOf i).toNat)
  case atStart => exact ⟨0, Nat.zero_le _, rfl, B0.out, fun j y hj => absurd hj (Nat.not_lt_zero j)⟩
  case round =>
    obtain ⟨k, hk, rfl, hb, hno⟩ := hrel
    have BW := Lib.hid hb
    have NO := Lib.hid hno
    clear hb hno
    by_cases hlt : k < n
    case pos =>
      have hd : decide ((k : Int) < n) = true := decide_eq_true (by omega)
      have hki : (k : Int) < (n : Int) := by omega
      obtain ⟨x, hx⟩ : ∃ x, l[k]? = some x := ⟨l[k]'(by have := HL.out; omega), List.getElem?_eq_getElem _⟩
      have OK := Lib.hid (HK.out x (List.mem_of_getElem? hx))
      obtain ⟨b, o, rfl, rg⟩ := rng_o8 HR.out BW.out (Nat.le_refl _) hx
      have RG := Lib.hid rg
      have C := Lib.hid (HP.out wr x BW.out OK.out)
      have HX := Lib.hid hx
      clear hx rg
      cases hpx : p x
      · rw [hpx] at C
        have PX := Lib.hid hpx
        clear hpx
        go_wp2_with ((with_reducible refine gwl_load TO b (o + k * 5) RG.out ?_ ?_ ?_); rfl; rfl)
        refine C.out.mono ?_; rintro e w2 ⟨rfl, q⟩
        have Q := Lib.hid q
        clear q
        go_wp2_with fail
        go_roundw
        case rel => exact ⟨k + 1, hlt, by go_num, BW.out.trans (Q.out.mono BW.out.size), fun j y hj hy => by
            rcases Nat.lt_or_ge j k with c | c
            · exact NO.out j y c hy
            · obtain rfl : j = k := by omega
              rw [HX.out] at hy; cases hy; exact PX.out⟩
        case measure => simp [intOf]; omega
      · rw [hpx] at C
        have E : Hid (r = (k : Int)) := Lib.hid (by rw [← R1.out, gidx, gidx_hit HX.out hpx NO.out])
        clear hpx
        go_wp2_with ((with_reducible refine gwl_load TO b (o + k * 5) RG.out ?_ ?_ ?_); rfl; rfl)
        refine C.out.mono ?_; rintro e w2 ⟨rfl, q⟩
        have Q := Lib.hid q
        clear q
        go_wp2_with fail
        go_ret
        rw [E.out]
        exact ⟨rfl, BW.out.trans (Q.out.mono BW.out.size)⟩
    case neg =>
      obtain rfl : k = n := by omega
      have E : Hid (r = -1) := Lib.hid (by rw [← R1.out, gidx, gidx_miss fun j y hy => NO.out j y (by have := (List.getElem?_eq_some_iff.1 hy).1; have := HL.out; omega) hy])
      go_wp2_with fail
      go_ret
      rw [E.out]
      exact ⟨rfl, BW.out⟩

set_option maxRecDepth 100000 in
theorem contains_o8 (g : Nat) (lb : Array Value) (p : Or → Bool) (A : Option Addr) (n c : Nat) (cs : List Or) (w : World) (eg : ∀ args w, (callFunc g args).run Try.prog w = .ok (.enter g args) w) (hp : GTests Try.prog EO Or.ok g lb p w) (hr : EO.Rd w A n cs) (hok : ∀ x, x ∈ cs → x.ok) (hn : n ≤ 1000) :
    Calls Try.prog 35 #[.slice A n c, .func (.func g) #[] lb] w fun e w' => e = .returned (.bool (cs.any p)) ∧ Below w.heap.size w w' := by
  have C := index_o8 g lb p A n c cs w eg hp hr hok hn
  have E : decide (0 ≤ gidx p cs) = cs.any p := by
    rcases gidx_cases p cs with ⟨e, h⟩ | ⟨k, x, e, hk, hx, hpx, _⟩
    · rw [e, List.any_eq_false.2 fun x hx => by rw [h x hx]; decide]; rfl
    · rw [e, List.any_eq_true.2 ⟨x, List.mem_of_getElem? hx, hpx⟩, decide_eq_true (Int.natCast_nonneg k)]
  rw [← E]
  generalize gidx p cs = r at *
  clear hp hr hok E
  go_enter Try.func35, Try.ntmps35
  go_wp2_with fail
  refine C.mono ?_; rintro e w2 ⟨rfl, q⟩
  have Q := Lib.hid q
  clear q
  go_wp2_with fail
  go_ret
  exact ⟨rfl, Q.out⟩
theorem fl_len_k11 (l : List Sk) : (EK.flat l).length = l.length * 29 := gflat_len l
theorem cl_len_k11 (x : Sk) : (EK.cells x).length = 29 := EK.len x
theorem rng_k11 {w W : World} {A : Option Addr} {n B : Nat} {l : List Sk} (h : EK.Rd w A n l) (q : Below B w W) (hB : w.heap.size ≤ B) {k : Nat} {x : Sk} (hx : l[k]? = some x) : ∃ b o, A = some ⟨b, o, none⟩ ∧ W.rangeAt b (o + k * 29) (EK.cells x) :=
  grd_rng (grd_below h q hB) hx

set_option maxRecDepth 100000 in
set_option maxHeartbeats 1000000 in
theorem index_k11 {OK0 : Sk → Prop} (g : Nat) (lb : Array Value) (p : Sk → Bool) (A : Option Addr) (n c : Nat) (l : List Sk) (w : World) (eg : ∀ args w, (callFunc g args).run Try.prog w = .ok (.enter g args) w) (hp : GTests Try.prog EK OK0 g lb p w) (hr : EK.Rd w A n l) (hok : ∀ x, x ∈ l → OK0 x) (hn : n ≤ 1000) :
    Calls Try.prog 36 #[.slice A n c, .func (.func g) #[] lb] w fun e w' => e = .returned (.int .i64 (gidx p l)) ∧ Below w.heap.size w w' := by
  have HP := Lib.hid hp
  have HR := Lib.hid hr
  have HK := Lib.hid hok
  have HL := Lib.hid hr.1
  have B0 : Hid (Below w.heap.size w w) := Lib.hid (Below.refl _ _)
  obtain ⟨r, hr1⟩ : ∃ r, gidx p l = r := ⟨_, rfl⟩
  rw [hr1]
  have R1 := Lib.hid hr1
  clear hr1 hp hr hok
  go_enter Try.func36, Try.ntmps36
  go_wp2_with fail
  go_loopw [5, 8] (fun _ i wr => ∃ k : Nat, k ≤ n ∧ i = .int .i64 k ∧ Below w.heap.size w wr ∧ ∀ (j : Nat) (y : Sk), j < k → l[j]? = some y → p y = false) (fun _ i _ => n - (intOf i).toNat)
  case atStart => exact ⟨0, Nat.zero_le _, rfl, B0.out, fun j y hj => absurd hj (Nat.not_lt_zero j)⟩
  case round =>
    obtain ⟨k, hk, rfl, hb, hno⟩ := hrel
    have BW := Lib.hid hb
    have NO := Lib.hid hno
    clear hb hno
    by_cases hlt : k < n
    case pos =>
      have hd : decide ((k : Int) < n) = true := decide_eq_true (by omega)
      have hki : (k : Int) < (n : Int) := by omega
      obtain ⟨x, hx⟩ : ∃ x, l[k]? = some x := ⟨l[k]'(by have := HL.out; omega), List.getElem?_eq_getElem _⟩
      have OK := Lib.hid (HK.out x (List.mem_of_getElem? hx))
      obtain ⟨b, o, rfl, rg⟩ := rng_k11 HR.out BW.out (Nat.le_refl _) hx
      have RG := Lib.hid rg
      have C := Lib.hid (HP.out wr x BW.out OK.out)
      have HX := Lib.hid hx
      clear hx rg
      cases hpx : p x
      · rw [hpx] at C
        have PX := Lib.hid hpx
        clear hpx
        go_wp2_with ((with_reducible refine gwl_load TK b (o + k * 29) RG.out ?_ ?_ ?_); rfl; rfl)
        refine C.out.mono ?_; rintro e w2 ⟨rfl, q⟩
        have Q := Lib.hid q
        clear q
        go_wp2_with fail
        go_roundw
        case rel => exact ⟨k + 1, hlt, by go_num, BW.out.trans (Q.out.mono BW.out.size), fun j y hj hy => by
            rcases Nat.lt_or_ge j k with c | c
            · exact NO.out j y c hy
            · obtain rfl : j = k := by omega
              rw [HX.out] at hy; cases hy; exact PX.out⟩
        case measure => simp [intOf]; omega
      · rw [hpx] at C
        have E : Hid (r = (k : Int)) := Lib.hid (by rw [← R1.out, gidx, gidx_hit HX.out hpx NO.out])
        clear hpx
        go_wp2_with ((with_reducible refine gwl_load TK b (o + k * 29) RG.out ?_ ?_ ?_); rfl; rfl)
        refine C.out.mono ?_; rintro e w2 ⟨rfl, q⟩
        have Q := Lib.hid q
        clear q
        go_wp2_with fail
        go_ret
        rw [E.out]
        exact ⟨rfl, BW.out.trans (Q.out.mono BW.out.size)⟩
    case neg =>
      obtain rfl : k = n := by omega
      have E : Hid (r = -1) := Lib.hid (by rw [← R1.out, gidx, gidx_miss fun j y hy => NO.out j y (by have := (List.getElem?_eq_some_iff.1 hy).1; have := HL.out; omega) hy])
      go_wp2_with fail
      go_ret
      rw [E.out]
      exact ⟨rfl, BW.out⟩

set_option maxRecDepth 100000 in
theorem contains_k11 {OK0 : Sk → Prop} (g : Nat) (lb : Array Value) (p : Sk → Bool) (A : Option Addr) (n c : Nat) (cs : List Sk) (w : World) (eg : ∀ args w, (callFunc g args).run Try.prog w = .ok (.enter g args) w) (hp : GTests Try.prog EK OK0 g lb p w) (hr : EK.Rd w A n cs) (hok : ∀ x, x ∈ cs → OK0 x) (hn : n ≤ 1000) :
    Calls Try.prog 18 #[.slice A n c, .func (.func g) #[] lb] w fun e w' => e = .returned (.bool (cs.any p)) ∧ Below w.heap.size w w' := by
  have C := index_k11 g lb p A n c cs w eg hp hr hok hn
  have E : decide (0 ≤ gidx p cs) = cs.any p := by
    rcases gidx_cases p cs with ⟨e, h⟩ | ⟨k, x, e, hk, hx, hpx, _⟩
    · rw [e, List.any_eq_false.2 fun x hx => by rw [h x hx]; decide]; rfl
    · rw [e, List.any_eq_true.2 ⟨x, List.mem_of_getElem? hx, hpx⟩, decide_eq_true (Int.natCast_nonneg k)]
  rw [← E]
  generalize gidx p cs = r at *
  clear hp hr hok E
  go_enter Try.func18, Try.ntmps18
  go_wp2_with fail
  refine C.mono ?_; rintro e w2 ⟨rfl, q⟩
  have Q := Lib.hid q
  clear q
  go_wp2_with fail
  go_ret
  exact ⟨rfl, Q.out⟩
end Go.Proofs.Ytcpcnjiphiokjaa
