/- LedgerFrom, walked (by genPh.py), given the document's From. -/
import Derived.Test.YthnmpnepgagmmaaPf
import Derived.Test.YthnmpnepgagmmaaOf
import Derived.Test.YthnmpnepgagmmaaLd
namespace Go.Proofs.Ythnmpnepgagmmaa
open Go.RowKit Go.Shelf
set_option linter.unusedVariables false
set_option linter.unusedSimpArgs false

/-- What the document's From answers. -/
def RFromP : Prop := ∀ (A A' : Option Addr) (n c n' c' : Nat) (fund : Int) (al : List Ac) (hl : List Po) (w : World), EA.Rd w A n al → EP.Rd w A' n' hl → (A = none → c = 0) → (A' = none → c' = 0) → (∀ a, a ∈ al → a.ok) → (∀ p, p ∈ hl → p.ok) → n ≤ 100 → n' ≤ 200 →
    Calls Try.prog 26 #[.int .i64 fund, .slice A n c, .slice A' n' c'] w fun e w' => Below w.heap.size w w' ∧
      ((fromB fund al hl = false ∧ e = .returned (.tuple #[.pointer none, .int .i64 2])) ∨
       (fromB fund al hl = true ∧ ∃ gr va vh, e = .returned (.tuple #[.pointer (some ⟨gr, 0, none⟩), .int .i64 0]) ∧ Rl w' w.heap.size gr va vh ⟨fund, al, hl⟩))
theorem fr_wider {S T : Nat → Prop} {a b c : World} (h : Fr S a b) (k : Fr T b c) {U : Nat → Prop} (hS : ∀ j, S j → U j) (hT : ∀ j, T j → U j) : Fr U a c := h.trans k hS fun j _ hj => hT j hj
set_option maxRecDepth 100000 in
set_option maxHeartbeats 16000000 in
theorem from9_all (RF : RFromP) (fund : Int) (A : Option Addr) (n c : Nat) (al : List Ac) (A' : Option Addr) (n' c' : Nat) (hl : List Po) (w : World) (hf : I64 fund) (h : EA.Rd w A n al) (hok : ∀ a, a ∈ al → a.ok) (hn : n ≤ maxLen) (h0 : A = none → c = 0)
    (h' : EP.Rd w A' n' hl) (hok' : ∀ p, p ∈ hl → p.ok) (hn' : n' ≤ maxLen) (h0' : A' = none → c' = 0) :
    Calls Try.prog 4 #[.int .i64 fund, .slice A n c, .slice A' n' c'] w fun e w' => e = .returned (.bool true) ∧ Below w.heap.size w w' := by
  have KN := Lib.hid fun (U : World) (qU : Below w.heap.size w U) => (known9_any U).mono (fun e W h => (⟨h.1, qU.trans (h.2.mono qU.size)⟩ : e = .returned (.bool true) ∧ Below w.heap.size w W))
  have HL : Hid (al.length = n) := Lib.hid h.1
  have HL' : Hid (hl.length = n') := Lib.hid h'.1
  have HR := Lib.hid fun (W : World) (q : Below w.heap.size w W) => (show EA.Rd W A n al from grd_below h q (Nat.le_refl _))
  have HR' := Lib.hid fun (W : World) (q : Below w.heap.size w W) => (show EP.Rd W A' n' hl from grd_below h' q (Nat.le_refl _))
  have H0 := Lib.hid h0
  have H0' := Lib.hid h0'
  have OKP := Lib.hid hok'
  have B0 := Lib.hid (Below.refl w.heap.size w)
  unfold maxLen at hn hn'
  by_cases c1 : 100 < n
  · have d1 : decide ((100 : Int) < (n : Int)) = true := decide_eq_true (by omega)
    clear h h' hok hok'
    go_enter Try.func4, Try.ntmps4
    go_wp2_with fail
    refine (KN.out _ B0.out).mono ?_; rintro e w3 ⟨rfl, q3⟩
    have Q3 := Lib.hid q3
    clear q3
    go_wp2_with fail
    go_ret
    exact ⟨rfl, Q3.out⟩
  have d1 : decide ((100 : Int) < (n : Int)) = false := decide_eq_false (by omega)
  by_cases c2 : 200 < n'
  · have d2 : decide ((200 : Int) < (n' : Int)) = true := decide_eq_true (by omega)
    clear h h' hok hok'
    go_enter Try.func4, Try.ntmps4
    go_wp2_with fail
    refine (KN.out _ B0.out).mono ?_; rintro e w3 ⟨rfl, q3⟩
    have Q3 := Lib.hid q3
    clear q3
    go_wp2_with fail
    go_ret
    exact ⟨rfl, Q3.out⟩
  have d2 : decide ((200 : Int) < (n' : Int)) = false := decide_eq_false (by omega)
  have n1 : n ≤ 100 := by omega
  have n2 : n' ≤ 200 := by omega
  have LFA := Lib.hid fun (A7 A9 : Option Addr) (c7 c9 : Nat) (W : World) (g1 : EA.Rd W A7 n al) (g2 : EP.Rd W A9 n' hl) => lfrom9 A7 A9 n c7 n' c9 fund al hl W g1 g2 hf hok hok' n1 n2
  have RFA := Lib.hid fun (W : World) (q : Below w.heap.size w W) => RF A A' n c n' c' fund al hl W (grd_below h q (Nat.le_refl _)) (grd_below h' q (Nat.le_refl _)) h0 h0' hok hok' n1 n2
  have O0 := Lib.hid (gown_new (E := EA) (te := 33) w)
  have Q6 := Lib.hid (below_new w (.cells #[] 33))
  have RD0 := Lib.hid (HR.out _ Q6.out)
  have hl0 : al.length = n := HL.out
  have hl0' : hl.length = n' := HL'.out
  clear h h' hok hok' c1 c2 RF
  go_enter Try.func4, Try.ntmps4
  go_wp2_with (first
    | (at_builtin
       refine gpl_app TA rfl _ _ rfl w.heap.size _ [] rfl O0.out A n c al rfl RD0.out H0.out (by simp; omega) (by simp) ?_
       intro v7 w7 h1 h2 h3
       rw [List.nil_append] at h1
       obtain ⟨A7, c7, rfl, h07⟩ := gown_form h1
       rw [hl0] at h1 ⊢
       have OW7 := Lib.hid h1
       have Q7 := Lib.hid (Q6.out.grown h2 Q6.out.size (fun k e => (by cases e; exact Nat.le_refl _)))
       have L7 := Lib.hid fun k hk => (gown_lt h1 (k := k) hk).2
       have O1 := Lib.hid (gown_new (E := EP) (te := 47) w7)
       have Q8 := Lib.hid (Q7.out.trans ((below_new w7 (.cells #[] 47)).mono Q7.out.size))
       have RD1 := Lib.hid (HR'.out _ Q8.out)
       clear h1 h2 h3)
    | (at_builtin
       refine gpl_app TP rfl _ _ rfl w7.heap.size _ [] rfl O1.out A' n' c' hl rfl RD1.out H0'.out (by simp; omega) (by simp) ?_
       intro v9 w9 g1 g2 g3
       rw [List.nil_append] at g1
       obtain ⟨A9, c9, rfl, h09⟩ := gown_form g1
       rw [hl0'] at g1 ⊢
       have OA9 := Lib.hid (gown_fr (gown_below OW7.out (below_new w7 (.cells #[] 47))) (Fr.grown (S := fun k => some w7.heap.size = some k) g2 fun k e => e) (fun k hk e => by have := L7.out k hk; cases e; omega))
       have OP9 := Lib.hid g1
       have Q9 := Lib.hid (Q8.out.grown g2 Q8.out.size (fun k e => by cases e; exact Q7.out.size))
       clear g1 g2 g3))
  refine (LFA.out A7 A9 c7 c9 w9 (gown_rd OA9.out) (gown_rd OP9.out)).mono ?_
  clear hl0 hl0' LFA
  rintro e w10 ⟨q10, cs⟩
  have Q10 := Lib.hid (Q9.out.trans (q10.mono Q9.out.size))
  have OA10 := Lib.hid (gown_below OA9.out q10)
  have OP10 := Lib.hid (gown_below OP9.out q10)
  have Z9 := Lib.hid q10.size
  have N7 := Lib.hid fun j (hj : (Value.slice A7 n c7).ownBlock = some j) => (gown_lt OA9.out hj)
  have N9 := Lib.hid fun j (hj : (Value.slice A9 n' c9).ownBlock = some j) => (gown_lt OP9.out hj)
  clear q10
  rcases cs with ⟨f0, rfl⟩ | ⟨f0, g, ba, bp, rfl, dl, ge⟩
  · go_wp2_with fail
    refine (RFA.out _ Q10.out).mono ?_
    rintro e w11 ⟨q11, cs⟩
    rcases cs with ⟨f1, rfl⟩ | ⟨f1, gr, va, vh, rfl, rl⟩
    · clear f0 f1 RFA
      have OA11 := Lib.hid (gown_below OA10.out q11)
      have OP11 := Lib.hid (gown_below OP10.out q11)
      have Q11 := Lib.hid (Q10.out.trans (q11.mono Q10.out.size))
      have AP : Hid (∀ j, (Value.slice A7 n c7).ownBlock = some j → (Value.slice A9 n' c9).ownBlock ≠ some j) := Lib.hid fun j h1 h2 => by have := L7.out j h1; have := (N9.out j h2).1; omega
      clear q11
      go_wp2_with fail
      go_loopw [57] (fun i wr => ∃ (k : Nat) (l2 : List Ac), k ≤ n ∧ i = .int .i64 k ∧ l2.length = n ∧ EA.Own 33 wr w.heap.size (.slice A7 n c7) l2 ∧ Fr (fun j => (Value.slice A7 n c7).ownBlock = some j) w11 wr) (fun i _ => n - (intOf i).toNat)
      case atStart => exact ⟨0, al, Nat.zero_le _, rfl, HL.out, OA11.out, Fr.refl _ _⟩
      case round =>
        obtain ⟨k, l2, hk, rfl, hl2, hO, hF⟩ := hrel
        have HO := Lib.hid hO
        have HF := Lib.hid hF
        have HL2 := Lib.hid hl2
        clear hO hF hl2
        by_cases hlt : k < n
        case pos =>
          have hdk : decide ((k : Int) < n) = true := decide_eq_true (by omega)
          have hki : (k : Int) < (n : Int) := by omega
          obtain ⟨y, hy⟩ : ∃ x, l2[k]? = some x := ⟨l2[k]'(by have := HL2.out; omega), List.getElem?_eq_getElem _⟩
          obtain ⟨b7, d7, e7⟩ := gown_slot HO.out (by have := HL2.out; omega)
          rw [HL2.out] at e7
          cases e7
          have kc : wr.cell? ⟨b7, k * 4 + 1, none⟩ = some (.int .i64 y.ca) := gown_at HO.out hy (i := 1) (by decide)
          have kf := gown_fz HO.out (k * 4 + 1)
          have NX := Lib.hid fun v => (gown_put HO.out hy (y := ⟨y.nu, v, y.ki, y.de⟩) (i := 1) (by decide) (u := .int .i64 v) rfl)
          clear hy
          go_wp2_with fail
          go_roundw
          case rel => exact ⟨k + 1, _, hlt, by go_num, by rw [List.length_set]; exact HL2.out, NX.out _, HF.out.same (Fr.set (S := fun j => (Value.slice (some ⟨b7, 0, none⟩) n c7).ownBlock = some j) (p := ⟨b7, k * 4 + 1, none⟩) rfl _)⟩
          case measure => simp [intOf]; omega
        case neg =>
          obtain rfl : n = k := by omega
          generalize wr = w12 at *
          have HF1 := Lib.hid HF.out
          have OP12 := Lib.hid (gown_fr OP11.out HF.out (fun j hj e => AP.out j e hj))
          clear hlt hk
          go_wp2_with fail
          go_loopw [71] (fun i wr => ∃ (k : Nat) (l3 : List Po), k ≤ n' ∧ i = .int .i64 k ∧ l3.length = n' ∧ EP.Own 47 wr w7.heap.size (.slice A9 n' c9) l3 ∧ Fr (fun j => (Value.slice A7 n c7).ownBlock = some j ∨ (Value.slice A9 n' c9).ownBlock = some j) w11 wr) (fun i _ => n' - (intOf i).toNat)
          case atStart => exact ⟨0, hl, Nat.zero_le _, rfl, HL'.out, OP12.out, HF1.out.mono fun j hj => .inl hj⟩
          case round =>
            obtain ⟨m, l3, hm, rfl, hl3, hO2, hF2⟩ := hrel
            have HO2 := Lib.hid hO2
            have HF2 := Lib.hid hF2
            have HL3 := Lib.hid hl3
            clear hO2 hF2 hl3
            by_cases hlt2 : m < n'
            case pos =>
              have hdk : decide ((m : Int) < n') = true := decide_eq_true (by omega)
              have hki : (m : Int) < (n' : Int) := by omega
              obtain ⟨y, hy⟩ : ∃ x, l3[m]? = some x := ⟨l3[m]'(by have := HL3.out; omega), List.getElem?_eq_getElem _⟩
              obtain ⟨b9, d9, e9⟩ := gown_slot HO2.out (by have := HL3.out; omega)
              rw [HL3.out] at e9
              cases e9
              have kc : wr.cell? ⟨b9, m * 4 + 2, none⟩ = some (.int .i64 y.q) := gown_at HO2.out hy (i := 2) (by decide)
              have kf := gown_fz HO2.out (m * 4 + 2)
              have NX := Lib.hid fun v => (gown_put HO2.out hy (y := ⟨y.co, y.ac, v, y.b⟩) (i := 2) (by decide) (u := .int .i64 v) rfl)
              clear hy
              go_wp2_with fail
              go_roundw
              case rel => exact ⟨m + 1, _, hlt2, by go_num, by rw [List.length_set]; exact HL3.out, NX.out _, HF2.out.same (Fr.set (S := fun j => (Value.slice A7 n c7).ownBlock = some j ∨ (Value.slice (some ⟨b9, 0, none⟩) n' c9).ownBlock = some j) (p := ⟨b9, m * 4 + 2, none⟩) (.inr rfl) _)⟩
              case measure => simp [intOf]; omega
            case neg =>
              obtain rfl : n' = m := by omega
              generalize wr = wl at *
              have QL := Lib.hid (below_frE Q11.out HF2.out (fun j hj hs => by
                rcases hs with hs | hs
                · have := (N7.out j hs).1; omega
                · have := (N9.out j hs).1; have := Q7.out.size; omega))
              clear hlt2 hm
              go_wp2_with fail
              refine (KN.out _ QL.out).mono ?_; rintro e w13 ⟨rfl, q13⟩
              have Q13 := Lib.hid q13
              clear q13
              go_wp2_with fail
              go_ret
              exact ⟨rfl, Q13.out⟩
    · rw [f0] at f1; cases f1
  · have GE := Lib.hid ge
    have DL10 := Lib.hid dl
    clear ge dl
    go_wp2_with fail
    refine (RFA.out _ Q10.out).mono ?_
    rintro e w11 ⟨q11, cs⟩
    rcases cs with ⟨f1, rfl⟩ | ⟨f1, gr, va, vh, rfl, rl⟩
    · rw [f0] at f1; cases f1
    · have DL11 := Lib.hid (DL10.out.below q11)
      have RL11 := Lib.hid rl
      clear f0 f1 RFA rl
      have OA11 := Lib.hid (gown_below OA10.out q11)
      have OP11 := Lib.hid (gown_below OP10.out q11)
      have Q11 := Lib.hid (Q10.out.trans (q11.mono Q10.out.size))
      have AP : Hid (∀ j, (Value.slice A7 n c7).ownBlock = some j → (Value.slice A9 n' c9).ownBlock ≠ some j) := Lib.hid fun j h1 h2 => by have := L7.out j h1; have := (N9.out j h2).1; omega
      clear q11
      go_wp2_with fail
      go_loopw [57] (fun i wr => ∃ (k : Nat) (l2 : List Ac), k ≤ n ∧ i = .int .i64 k ∧ l2.length = n ∧ EA.Own 33 wr w.heap.size (.slice A7 n c7) l2 ∧ Fr (fun j => (Value.slice A7 n c7).ownBlock = some j) w11 wr) (fun i _ => n - (intOf i).toNat)
      case atStart => exact ⟨0, al, Nat.zero_le _, rfl, HL.out, OA11.out, Fr.refl _ _⟩
      case round =>
        obtain ⟨k, l2, hk, rfl, hl2, hO, hF⟩ := hrel
        have HO := Lib.hid hO
        have HF := Lib.hid hF
        have HL2 := Lib.hid hl2
        clear hO hF hl2
        by_cases hlt : k < n
        case pos =>
          have hdk : decide ((k : Int) < n) = true := decide_eq_true (by omega)
          have hki : (k : Int) < (n : Int) := by omega
          obtain ⟨y, hy⟩ : ∃ x, l2[k]? = some x := ⟨l2[k]'(by have := HL2.out; omega), List.getElem?_eq_getElem _⟩
          obtain ⟨b7, d7, e7⟩ := gown_slot HO.out (by have := HL2.out; omega)
          rw [HL2.out] at e7
          cases e7
          have kc : wr.cell? ⟨b7, k * 4 + 1, none⟩ = some (.int .i64 y.ca) := gown_at HO.out hy (i := 1) (by decide)
          have kf := gown_fz HO.out (k * 4 + 1)
          have NX := Lib.hid fun v => (gown_put HO.out hy (y := ⟨y.nu, v, y.ki, y.de⟩) (i := 1) (by decide) (u := .int .i64 v) rfl)
          clear hy
          go_wp2_with fail
          go_roundw
          case rel => exact ⟨k + 1, _, hlt, by go_num, by rw [List.length_set]; exact HL2.out, NX.out _, HF.out.same (Fr.set (S := fun j => (Value.slice (some ⟨b7, 0, none⟩) n c7).ownBlock = some j) (p := ⟨b7, k * 4 + 1, none⟩) rfl _)⟩
          case measure => simp [intOf]; omega
        case neg =>
          obtain rfl : n = k := by omega
          generalize wr = w12 at *
          have HF1 := Lib.hid HF.out
          have OP12 := Lib.hid (gown_fr OP11.out HF.out (fun j hj e => AP.out j e hj))
          clear hlt hk
          go_wp2_with fail
          go_loopw [71] (fun i wr => ∃ (k : Nat) (l3 : List Po), k ≤ n' ∧ i = .int .i64 k ∧ l3.length = n' ∧ EP.Own 47 wr w7.heap.size (.slice A9 n' c9) l3 ∧ Fr (fun j => (Value.slice A7 n c7).ownBlock = some j ∨ (Value.slice A9 n' c9).ownBlock = some j) w11 wr) (fun i _ => n' - (intOf i).toNat)
          case atStart => exact ⟨0, hl, Nat.zero_le _, rfl, HL'.out, OP12.out, HF1.out.mono fun j hj => .inl hj⟩
          case round =>
            obtain ⟨m, l3, hm, rfl, hl3, hO2, hF2⟩ := hrel
            have HO2 := Lib.hid hO2
            have HF2 := Lib.hid hF2
            have HL3 := Lib.hid hl3
            clear hO2 hF2 hl3
            by_cases hlt2 : m < n'
            case pos =>
              have hdk : decide ((m : Int) < n') = true := decide_eq_true (by omega)
              have hki : (m : Int) < (n' : Int) := by omega
              obtain ⟨y, hy⟩ : ∃ x, l3[m]? = some x := ⟨l3[m]'(by have := HL3.out; omega), List.getElem?_eq_getElem _⟩
              obtain ⟨b9, d9, e9⟩ := gown_slot HO2.out (by have := HL3.out; omega)
              rw [HL3.out] at e9
              cases e9
              have kc : wr.cell? ⟨b9, m * 4 + 2, none⟩ = some (.int .i64 y.q) := gown_at HO2.out hy (i := 2) (by decide)
              have kf := gown_fz HO2.out (m * 4 + 2)
              have NX := Lib.hid fun v => (gown_put HO2.out hy (y := ⟨y.co, y.ac, v, y.b⟩) (i := 2) (by decide) (u := .int .i64 v) rfl)
              clear hy
              go_wp2_with fail
              go_roundw
              case rel => exact ⟨m + 1, _, hlt2, by go_num, by rw [List.length_set]; exact HL3.out, NX.out _, HF2.out.same (Fr.set (S := fun j => (Value.slice A7 n c7).ownBlock = some j ∨ (Value.slice (some ⟨b9, 0, none⟩) n' c9).ownBlock = some j) (p := ⟨b9, m * 4 + 2, none⟩) (.inr rfl) _)⟩
              case measure => simp [intOf]; omega
            case neg =>
              obtain rfl : n' = m := by omega
              generalize wr = wl at *
              have QL := Lib.hid (below_frE Q11.out HF2.out (fun j hj hs => by
                rcases hs with hs | hs
                · have := (N7.out j hs).1; omega
                · have := (N9.out j hs).1; have := Q7.out.size; omega))
              have DL := Lib.hid (DL11.out.keep HF2.out (fun j hj hs => by
                have := GE.out j hj
                rcases hs with hs | hs
                · have := (N7.out j hs).2; omega
                · have := (N9.out j hs).2; omega))
              have RL := Lib.hid (RL11.out.keep HF2.out (fun j hj hs => by
                have := (RL11.out.lt hj).1
                have := Z9.out
                rcases hs with hs | hs
                · have := (N7.out j hs).2; omega
                · have := (N9.out j hs).2; omega))
              clear hlt2 hm
              go_wp2_with fail
              go_loopw [88] (fun i wr => ∃ k : Nat, k ≤ n' ∧ i = .int .i64 k ∧ Below wl.heap.size wl wr) (fun i _ => n' - (intOf i).toNat)
              case atStart => exact ⟨0, Nat.zero_le _, rfl, Below.refl _ _⟩
              case round =>
                obtain ⟨p, hp, rfl, hb⟩ := hrel
                have BB := Lib.hid hb
                have QB := Lib.hid (QL.out.trans (hb.mono QL.out.size))
                have DB := Lib.hid (DL.out.below hb)
                have RB := Lib.hid (RL.out.below hb)
                clear hb
                by_cases hlt3 : p < n'
                case pos =>
                  have hdk : decide ((p : Int) < n') = true := decide_eq_true (by omega)
                  have hki : (p : Int) < (n' : Int) := by omega
                  obtain ⟨x, hx⟩ : ∃ x, hl[p]? = some x := ⟨hl[p]'(by have := HL'.out; omega), List.getElem?_eq_getElem _⟩
                  have HC := Lib.hid (holds9 DB.out RB.out (OKP.out x (List.mem_of_getElem? hx)).co (by show hl.length ≤ 4000; rw [HL'.out]; omega))
                  obtain ⟨bb, oo, rfl, rg⟩ := grd_rng (HR'.out wr QB.out) hx
                  have c0 : wr.cell? ⟨bb, oo + p * 4, none⟩ = some (.int .u32 x.co) := (rg : wr.rangeAt bb (oo + p * 4) (EP.cells x)) 0 _ rfl
                  clear hx rg
                  go_wp2_with fail
                  refine HC.out.mono ?_; rintro e w14 ⟨rfl, q14⟩
                  have B14 := Lib.hid (BB.out.trans (q14.mono BB.out.size))
                  clear q14
                  go_wp2_with fail
                  go_roundw
                  case rel => exact ⟨p + 1, hlt3, by go_num, B14.out⟩
                  case measure => simp [intOf]; omega
                case neg =>
                  obtain rfl : n' = p := by omega
                  have SM := Lib.hid (same9 DB.out RB.out (by show hl.length ≤ 4000; rw [HL'.out]; omega))
                  clear hlt3 hp
                  go_wp2_with fail
                  refine SM.out.mono ?_; rintro e w14 ⟨rfl, q14⟩
                  have Q14 := Lib.hid (QB.out.trans (q14.mono QB.out.size))
                  clear q14
                  go_wp2_with fail
                  refine (KN.out _ Q14.out).mono ?_; rintro e w15 ⟨rfl, q15⟩
                  have Q15 := Lib.hid q15
                  clear q15
                  go_wp2_with fail
                  go_ret
                  exact ⟨rfl, Q15.out⟩
end Go.Proofs.Ythnmpnepgagmmaa
