/- TearupWhole, walked (by genTpw.py). -/
import Derived.Test.YtpfhkmppbochnaaHTpv
namespace Go.Proofs.Ytpfhkmppbochnaa
open Go.RowKit Go.Shelf
set_option linter.unusedVariables false
set_option linter.unusedSimpArgs false

set_option maxRecDepth 100000 in
set_option maxHeartbeats 32000000 in
theorem whole14_all (K : TearK) (q : Int) (A : Option Addr) (len cap : Nat) (l : List Ho) (w : World) (hf : I64 q) (hr : EH.Rd w A len l) (hk : ∀ d, d ∈ l → d.ok) (hl : len ≤ maxLen) : Calls Try.prog 4 #[.int .i64 q, .slice A len cap] w fun e w' => e = .returned (.bool true) ∧ Below w.heap.size w w' := by
  have KN := Lib.hid fun W => known14 K W
  have NL := Lib.hid hr.1
  have HR := Lib.hid fun (W : World) (b : Below w.heap.size w W) => (show EH.Rd W A len l from grd_below hr b (Nat.le_refl _))
  have SE := Lib.hid (K.parts q A len cap l w hf hr hk hl)
  have hz := zero_arr14
  unfold maxLen at hl
  unfold I64 at hf
  by_cases he : errP q l = 0
  case neg =>
    obtain ⟨E, hE⟩ : ∃ E, errP q l = E := ⟨_, rfl⟩
    have TA := Lib.hid fun (B : Nat) (w w' : World) (e : Ending) (h : ToldP q l B w w' e) => toldP_any h (if_neg he) hE (n := 0) rfl
    rw [hE] at he
    have d5 : (E != 0) = true := by simp [he]
    clear K hr hk he hE
    go_enter Try.func4, Try.ntmps4
    go_wp2_with fail
    refine SE.out.mono ?_; rintro e w2 k2
    obtain ⟨A2, c2, rfl, -, q2⟩ := TA.out _ _ _ _ k2
    have B2 := Lib.hid q2
    clear k2 q2
    go_wp2_with fail
    refine (KN.out _).mono ?_; rintro e w8 ⟨rfl, q8⟩
    have Q8 := Lib.hid (B2.out.trans (q8.mono B2.out.size))
    clear q8
    go_wp2_with fail
    go_ret
    exact ⟨rfl, Q8.out⟩
  have M := Lib.hid (errP_ok.1 he)
  obtain ⟨LS, hLS⟩ : ∃ x, outP q l = x := ⟨_, rfl⟩
  obtain ⟨n, hn⟩ : ∃ n, LS.length = n := ⟨_, rfl⟩
  have hl64 : len ≤ 64 := by have := M.out.len; have := NL.out; omega
  have nl : n ≤ 64 := by rw [← hn, ← hLS]; have := @outP_len q l; have := NL.out; omega
  have TA := Lib.hid fun (B : Nat) (w w' : World) (e : Ending) (h : ToldP q l B w w' e) => toldP_any h ((if_pos he).trans hLS) he hn
  have OX := Lib.hid fun (x : Ho) (hx : x ∈ LS) => M.out.outOk hk x (by rw [hLS]; exact hx)
  have FX := Lib.hid fun (x : Ho) (hx : x ∈ LS) => M.out.fndA (x := x) (by rw [hLS]; exact hx)
  have RS : Hid (RisL LS) := Lib.hid (by rw [← hLS]; exact M.out.risP)
  have TOT : Hid (sumH LS = mag q) := Lib.hid (by rw [← hLS]; exact M.out.tot)
  have SP := Lib.hid fun (j : Nat) => sumH_part LS (fun x hx => (OX.out x hx).2.1) j
  have GB := Lib.hid fun (h : Ho) (hh : h ∈ l) => (show 0 ≤ gotR LS h.ac ∧ gotR LS h.ac ≤ max (opq q h) 0 by rw [← hLS]; exact M.out.gotBd hh)
  have GM := Lib.hid fun (h o : Ho) (hh : h ∈ l) (ho : o ∈ l) (c : opq q o < opq q h) => (show gotR LS o.ac ≤ gotR LS h.ac by rw [← hLS]; exact M.out.gotMono hh ho c)
  have QBD := Lib.hid M.out.ins
  have TM := Lib.hid M.out.T
  have hq0 := M.out.nz
  have HN := Lib.hid hn
  have HK := Lib.hid hk
  clear K hr hk hLS hn he
  go_enter Try.func4, Try.ntmps4
  go_wp2_with fail
  refine SE.out.mono ?_; rintro e w2 k2
  obtain ⟨A2, c2, rfl, r2, q2⟩ := TA.out _ _ _ _ k2
  have B2 := Lib.hid q2
  have R2 := Lib.hid r2
  obtain ⟨w3, hw3⟩ : ∃ W, w2.alloc (.cells (arr14 fun _ => 0) 29) = W := ⟨_, rfl⟩
  have A14 : Hid (AB14 w3 w2.heap.size (fun _ => 0)) := Lib.hid (by rw [← hw3]; exact heap_alloc_new w2 _)
  have B3 : Hid (Below w2.heap.size w2 w3) := Lib.hid (by rw [← hw3]; exact below_new _ _)
  obtain ⟨gb, hgb⟩ : ∃ g, w2.heap.size = g := ⟨_, rfl⟩
  have HGB := Lib.hid hgb
  have HW3 := Lib.hid hw3
  rw [hgb] at A14
  have GL : Hid (w.heap.size ≤ gb) := Lib.hid (by rw [← hgb]; exact B2.out.size)
  have BW : Hid (Below w.heap.size w w3) := Lib.hid (B2.out.trans (B3.out.mono B2.out.size))
  have LRD := Lib.hid fun (U : World) (f : Fr (fun k => k = gb) w3 U) => (show EH.Rd U A len l from grd_fr14 (HR.out w2 B2.out) B3.out f (Nat.le_of_eq HGB.out))
  have ORD := Lib.hid fun (U : World) (f : Fr (fun k => k = gb) w3 U) => (show EH.Rd U A2 n LS from grd_fr14 R2.out B3.out f (Nat.le_of_eq HGB.out))
  clear k2 q2 r2 SE TA hw3 hgb R2
  go_wp2_with (first | (rw [HW3.out]))
  rw [HGB.out]
  go_loopw [7, 32] (fun s i wr => ∃ k : Nat, k ≤ n ∧ i = .int .i64 k ∧ s = .int .i64 (sumH (LS.take k)) ∧ AB14 wr gb (gF l (LS.take k)) ∧ Fr (fun k => k = gb) w3 wr) (fun _ i _ => n - (intOf i).toNat)
  case atStart => exact ⟨0, Nat.zero_le _, rfl, rfl, by rw [List.take_zero, gF_zero]; exact A14.out, Fr.refl _ _⟩
  case round =>
    obtain ⟨i, hi, rfl, rfl, ab, fr⟩ := hrel
    have AB := Lib.hid ab
    have FR := Lib.hid fr
    clear ab fr
    by_cases hlt : i < n
    case pos =>
      have hki : (i : Int) < (n : Int) := by omega
      have hdk : decide ((i : Int) < (n : Int)) = true := decide_eq_true hki
      obtain ⟨x, hx⟩ : ∃ x, LS[i]? = some x := ⟨LS[i]'(by have := HN.out; omega), List.getElem?_eq_getElem _⟩
      have FND := Lib.hid (FX.out x (List.mem_of_getElem? hx))
      obtain ⟨-, x0, x1⟩ := OX.out x (List.mem_of_getElem? hx)
      have xa := (OX.out x (List.mem_of_getElem? hx)).1.ac
      have GA := Lib.hid (gI_all (l := l) RS.out hx)
      have SN : Hid (sumH (LS.take (i + 1)) = sumH (LS.take i) + x.q) := Lib.hid (by rw [take_s14 hx, sumH_snoc])
      have PK : Hid (i = 0 ∨ ∃ m p, i = m + 1 ∧ LS[m]? = some p ∧ p.ac < x.ac) := Lib.hid (by
        cases i with
        | zero => left; rfl
        | succ m =>
          right
          have hm : LS[m]? = some (LS[m]'(by have := HN.out; omega)) := List.getElem?_eq_getElem _
          exact ⟨m, _, rfl, hm, RS.out.lt hm hx⟩)
      have sp := SP.out i
      have tt := TM.out
      rw [TOT.out] at sp
      obtain ⟨P, hP⟩ : ∃ y, sumH (LS.take i) = y := ⟨_, rfl⟩
      rw [hP] at SN sp ⊢
      have p0 : 0 ≤ P ∧ P ≤ 10000000 := by omega
      obtain ⟨p0, p1⟩ := p0
      obtain ⟨V, hV⟩ : ∃ V, gF l (LS.take i) = V := ⟨_, rfl⟩
      rw [hV] at GA AB
      obtain ⟨b1, o1, rfl, -⟩ := grd_rng (ORD.out wr FR.out) hx
      have OR := Lib.hid fun (m : Nat) (y : Ho) (hm : LS[m]? = some y) (U : World) (f : Fr (fun k => k = gb) w3 U) => (show U.rangeAt b1 (o1 + m * 2) (EH.cells y) by
        obtain ⟨b', o', e', r'⟩ := grd_rng (ORD.out U f) hm
        cases e'
        exact r')
      have D0 := Lib.hid fun (U : World) (f : Fr (fun k => k = gb) w3 U) => (show U.cell? ⟨b1, o1 + i * 2, none⟩ = some (.int .u32 x.ac) from OR.out i x hx U f 0 _ rfl)
      have D1 := Lib.hid fun (U : World) (f : Fr (fun k => k = gb) w3 U) => (show U.cell? ⟨b1, o1 + i * 2 + 1, none⟩ = some (.int .i64 x.q) from OR.out i x hx U f 1 _ rfl)
      clear hx hP hV sp tt
      go_wp2_with fail
      go_loopw [10, 37] (fun fb j wx => ∃ k : Nat, k ≤ len ∧ j = .int .i64 k ∧ fb = .bool (fndA x (l.take k)) ∧ AB14 wx gb (gI l V x k) ∧ Fr (fun k => k = gb) w3 wx) (fun _ j _ => len - (intOf j).toNat)
      case atStart => exact ⟨0, Nat.zero_le _, rfl, rfl, by rw [gI_zero]; exact AB.out, FR.out⟩
      case round =>
        obtain ⟨k, hk, rfl, rfl, ab2, fr2⟩ := hrel
        have AB2 := Lib.hid ab2
        have FR2 := Lib.hid fr2
        clear ab2 fr2
        by_cases hlt2 : k < len
        case pos =>
          have hki2 : (k : Int) < (len : Int) := by omega
          have hdk2 : decide ((k : Int) < (len : Int)) = true := decide_eq_true hki2
          obtain ⟨d, hd⟩ : ∃ d, l[k]? = some d := ⟨l[k]'(by have := NL.out; omega), List.getElem?_eq_getElem _⟩
          have FS : Hid (fndA x (l.take (k + 1)) = (fndA x (l.take k) || decide (d.ac = x.ac))) := Lib.hid (by rw [take_s14 hd, fndA_snoc])
          have GY := Lib.hid fun (e : d.ac = x.ac) => gI_yes (V := V) hd e
          have GN := Lib.hid fun (e : ¬ d.ac = x.ac) => gI_no (V := V) hd e
          obtain ⟨b, o, rfl, -⟩ := grd_rng (LRD.out wr FR2.out) hd
          have E0 := Lib.hid fun (U : World) (f : Fr (fun k => k = gb) w3 U) => (show U.cell? ⟨b, o + k * 2, none⟩ = some (.int .u32 d.ac) by
            obtain ⟨b', o', e', r'⟩ := grd_rng (LRD.out U f) hd
            cases e'
            exact r' 0 _ rfl)
          obtain ⟨FB, hFB⟩ : ∃ y, fndA x (l.take k) = y := ⟨_, rfl⟩
          rw [hFB] at FS ⊢
          clear hd hFB
          go_wp2_with fail
          refine wp_region_held_drew (S := fun U => Fr (fun k => k = gb) w3 U ∧ AB14 U gb (gI l V x k)) (by kernel_rfl) ⟨FR2.out.drewN 1, AB2.out⟩ (fun hH => ?_)
          refine wpAnyH_take (i := 0) (v := .slice (some ⟨b, o, none⟩) len cap) rfl (by kernel_rfl) (by kernel_rfl) (by kernel_rfl) (fun _ _ _ h => h) (.inl ⟨by rfl, ?_⟩) (by assumption) ?_
          · intro W hW; go_simp
          try simp only [List.getElem_toArray, List.getElem_cons_zero, Act.put, List.setIfInBounds_toArray, List.set_cons_zero, List.set_cons_succ]
          refine wpAnyH_take (i := 1) (v := .int .i64 k) rfl (by kernel_rfl) (by kernel_rfl) (by kernel_rfl) (fun _ _ _ h => h) (.inl ⟨by rfl, ?_⟩) (by assumption) ?_
          · intro W hW; go_simp
          try simp only [List.getElem_toArray, List.getElem_cons_zero, List.getElem_cons_succ, Act.put, List.setIfInBounds_toArray, List.set_cons_zero, List.set_cons_succ]
          refine wpAnyH_take (i := 2) (v := .pointer (some ⟨b, o + k * 2, none⟩)) rfl (by kernel_rfl) (by kernel_rfl) (by kernel_rfl) (fun _ _ _ h => h) (.inl ⟨by rfl, ?_⟩) (by assumption) ?_
          · intro W hW; go_simp
          try simp only [List.getElem_toArray, List.getElem_cons_zero, List.getElem_cons_succ, Act.put, List.setIfInBounds_toArray, List.set_cons_zero, List.set_cons_succ]
          refine wpAnyH_take (i := 3) (v := .pointer (some ⟨b, o + k * 2, none⟩)) rfl (by kernel_rfl) (by kernel_rfl) (by kernel_rfl) (fun _ _ _ h => h) (.inl ⟨by rfl, ?_⟩) (by assumption) ?_
          · intro W hW; go_simp
          try simp only [List.getElem_toArray, List.getElem_cons_zero, List.getElem_cons_succ, Act.put, List.setIfInBounds_toArray, List.set_cons_zero, List.set_cons_succ]
          refine wpAnyH_take (i := 4) (v := .int .u32 d.ac) rfl (by kernel_rfl) (by kernel_rfl) (by kernel_rfl) (fun _ _ _ h => h) (.inl ⟨by rfl, ?_⟩) (by assumption) ?_
          · intro W hW; have cc := E0.out W hW.1; go_simp
          try simp only [List.getElem_toArray, List.getElem_cons_zero, List.getElem_cons_succ, Act.put, List.setIfInBounds_toArray, List.set_cons_zero, List.set_cons_succ]
          refine wpAnyH_take (i := 5) (v := .slice (some ⟨b1, o1, none⟩) n c2) rfl (by kernel_rfl) (by kernel_rfl) (by kernel_rfl) (fun _ _ _ h => h) (.inl ⟨by rfl, ?_⟩) (by assumption) ?_
          · intro W hW; go_simp
          try simp only [List.getElem_toArray, List.getElem_cons_zero, List.getElem_cons_succ, Act.put, List.setIfInBounds_toArray, List.set_cons_zero, List.set_cons_succ]
          refine wpAnyH_take (i := 6) (v := .int .i64 i) rfl (by kernel_rfl) (by kernel_rfl) (by kernel_rfl) (fun _ _ _ h => h) (.inl ⟨by rfl, ?_⟩) (by assumption) ?_
          · intro W hW; go_simp
          try simp only [List.getElem_toArray, List.getElem_cons_zero, List.getElem_cons_succ, Act.put, List.setIfInBounds_toArray, List.set_cons_zero, List.set_cons_succ]
          refine wpAnyH_take (i := 7) (v := .pointer (some ⟨b1, o1 + i * 2, none⟩)) rfl (by kernel_rfl) (by kernel_rfl) (by kernel_rfl) (fun _ _ _ h => h) (.inl ⟨by rfl, ?_⟩) (by assumption) ?_
          · intro W hW; go_simp
          try simp only [List.getElem_toArray, List.getElem_cons_zero, List.getElem_cons_succ, Act.put, List.setIfInBounds_toArray, List.set_cons_zero, List.set_cons_succ]
          refine wpAnyH_take (i := 8) (v := .pointer (some ⟨b1, o1 + i * 2, none⟩)) rfl (by kernel_rfl) (by kernel_rfl) (by kernel_rfl) (fun _ _ _ h => h) (.inl ⟨by rfl, ?_⟩) (by assumption) ?_
          · intro W hW; go_simp
          try simp only [List.getElem_toArray, List.getElem_cons_zero, List.getElem_cons_succ, Act.put, List.setIfInBounds_toArray, List.set_cons_zero, List.set_cons_succ]
          refine wpAnyH_take (i := 9) (v := .int .u32 x.ac) rfl (by kernel_rfl) (by kernel_rfl) (by kernel_rfl) (fun _ _ _ h => h) (.inl ⟨by rfl, ?_⟩) (by assumption) ?_
          · intro W hW; have cc := D0.out W hW.1; go_simp
          try simp only [List.getElem_toArray, List.getElem_cons_zero, List.getElem_cons_succ, Act.put, List.setIfInBounds_toArray, List.set_cons_zero, List.set_cons_succ]
          by_cases t0 : d.ac = x.ac
          case neg =>
            have e_t0 : (d.ac == x.ac) = false := by simp [t0]
            have FX9 : Hid (fndA x (l.take (k + 1)) = FB) := Lib.hid (by rw [FS.out]; simp [t0])
            have AB9 : ∀ U, AB14 U gb (gI l V x k) → AB14 U gb (gI l V x (k + 1)) := fun U h => by rw [← GN.out t0]; exact h
            have AB8 := Lib.hid AB9
            clear AB9
            refine wpAnyH_take (i := 10) (v := .bool false) rfl (by kernel_rfl) (by kernel_rfl) (by kernel_rfl) (fun _ _ _ h => h) (.inl ⟨by rfl, ?_⟩) (by assumption) ?_
            · intro W hW; go_simp
            try simp only [List.getElem_toArray, List.getElem_cons_zero, List.getElem_cons_succ, Act.put, List.setIfInBounds_toArray, List.set_cons_zero, List.set_cons_succ]
            refine wpAnyH_done (by decide +kernel) ?_ _
            have HH := Lib.hid hH
            clear hH
            go_wp2_with fail
            go_roundw
            case rel => exact ⟨k + 1, hlt2, by go_num, by rw [FX9.out], AB8.out _ HH.out.2, HH.out.1⟩
            case measure => simp [intOf]; omega
          case pos =>
            have e_t0 : (d.ac == x.ac) = true := by simp [t0]
            have FX9 : Hid (fndA x (l.take (k + 1)) = true) := Lib.hid (by rw [FS.out]; simp [t0])
            refine wpAnyH_take (i := 10) (v := .bool true) rfl (by kernel_rfl) (by kernel_rfl) (by kernel_rfl) (fun _ _ _ h => h) (.inl ⟨by rfl, ?_⟩) (by assumption) ?_
            · intro W hW; go_simp
            try simp only [List.getElem_toArray, List.getElem_cons_zero, List.getElem_cons_succ, Act.put, List.setIfInBounds_toArray, List.set_cons_zero, List.set_cons_succ]
            refine wpAnyH_done (by decide +kernel) ?_ _
            have HH := Lib.hid hH
            have d1 := D1.out _ HH.out.1
            have c9 := ab_cell14 HH.out.2 (j := k) (by omega)
            have z9 := ab_fz14 HH.out.2 k
            obtain ⟨W9, hW9⟩ : ∃ W, wr.drew.setCell ⟨gb, k, none⟩ (.int .i64 x.q) = W := ⟨_, rfl⟩
            have AB9 : Hid (AB14 W9 gb (gI l V x (k + 1))) := Lib.hid (by rw [← hW9, ← GY.out t0]; exact ab_set14 HH.out.2 (by omega) x.q)
            have FR9 : Hid (Fr (fun k => k = gb) w3 W9) := Lib.hid (by rw [← hW9]; exact HH.out.1.same (Fr.set (S := fun k => k = gb) (p := ⟨gb, k, none⟩) rfl _))
            have HW9 := Lib.hid hW9
            have k64 : (k : Int) < 64 := by omega
            clear hH hW9
            go_wp2_with (first | (rw [HW9.out]) | (rw [show (wr.setCell ⟨gb, k, none⟩ (.int .i64 x.q)).drew = W9 from HW9.out]))
            go_roundw
            case rel => exact ⟨k + 1, hlt2, by go_num, by rw [FX9.out], AB9.out, FR9.out⟩
            case measure => simp [intOf]; omega
        case neg =>
          obtain rfl : len = k := by omega
          have et : l.take len = l := List.take_of_length_le (by rw [NL.out]; exact Nat.le_refl _)
          rw [et, FND.out]
          have AB3 : Hid (AB14 wr gb (gF l (LS.take (i + 1)))) := Lib.hid (by rw [← GA.out, NL.out]; exact AB2.out)
          clear et AB2
          go_wp2_with fail
          refine wp_region_held_drew (S := fun U => Fr (fun k => k = gb) w3 U ∧ AB14 U gb (gF l (LS.take (i + 1)))) (by kernel_rfl) ⟨FR2.out.drewN 1, AB3.out⟩ (fun hH => ?_)
          refine wpAnyH_take (i := 0) (v := .bool true) rfl (by kernel_rfl) (by kernel_rfl) (by kernel_rfl) (fun _ _ _ h => h) (.inl ⟨by rfl, ?_⟩) (by assumption) ?_
          · intro W hW; go_simp
          try simp only [List.getElem_toArray, List.getElem_cons_zero, Act.put, List.setIfInBounds_toArray, List.set_cons_zero, List.set_cons_succ]
          refine wpAnyH_take (i := 1) (v := .bool false) rfl (by kernel_rfl) (by kernel_rfl) (by kernel_rfl) (fun _ _ _ h => h) (.inl ⟨by rfl, ?_⟩) (by assumption) ?_
          · intro W hW; go_simp
          try simp only [List.getElem_toArray, List.getElem_cons_zero, List.getElem_cons_succ, Act.put, List.setIfInBounds_toArray, List.set_cons_zero, List.set_cons_succ]
          refine wpAnyH_take (i := 2) (v := .bool false) rfl (by kernel_rfl) (by kernel_rfl) (by kernel_rfl) (fun _ _ _ h => h) (.inl ⟨by rfl, ?_⟩) (by assumption) ?_
          · intro W hW; go_simp
          try simp only [List.getElem_toArray, List.getElem_cons_zero, List.getElem_cons_succ, Act.put, List.setIfInBounds_toArray, List.set_cons_zero, List.set_cons_succ]
          refine wpAnyH_take (i := 3) (v := .slice (some ⟨b1, o1, none⟩) n c2) rfl (by kernel_rfl) (by kernel_rfl) (by kernel_rfl) (fun _ _ _ h => h) (.inl ⟨by rfl, ?_⟩) (by assumption) ?_
          · intro W hW; go_simp
          try simp only [List.getElem_toArray, List.getElem_cons_zero, List.getElem_cons_succ, Act.put, List.setIfInBounds_toArray, List.set_cons_zero, List.set_cons_succ]
          refine wpAnyH_take (i := 4) (v := .int .i64 i) rfl (by kernel_rfl) (by kernel_rfl) (by kernel_rfl) (fun _ _ _ h => h) (.inl ⟨by rfl, ?_⟩) (by assumption) ?_
          · intro W hW; go_simp
          try simp only [List.getElem_toArray, List.getElem_cons_zero, List.getElem_cons_succ, Act.put, List.setIfInBounds_toArray, List.set_cons_zero, List.set_cons_succ]
          refine wpAnyH_take (i := 5) (v := .pointer (some ⟨b1, o1 + i * 2, none⟩)) rfl (by kernel_rfl) (by kernel_rfl) (by kernel_rfl) (fun _ _ _ h => h) (.inl ⟨by rfl, ?_⟩) (by assumption) ?_
          · intro W hW; go_simp
          try simp only [List.getElem_toArray, List.getElem_cons_zero, List.getElem_cons_succ, Act.put, List.setIfInBounds_toArray, List.set_cons_zero, List.set_cons_succ]
          refine wpAnyH_take (i := 6) (v := .pointer (some ⟨b1, o1 + i * 2 + 1, none⟩)) rfl (by kernel_rfl) (by kernel_rfl) (by kernel_rfl) (fun _ _ _ h => h) (.inl ⟨by rfl, ?_⟩) (by assumption) ?_
          · intro W hW; go_simp
          try simp only [List.getElem_toArray, List.getElem_cons_zero, List.getElem_cons_succ, Act.put, List.setIfInBounds_toArray, List.set_cons_zero, List.set_cons_succ]
          refine wpAnyH_take (i := 7) (v := .int .i64 x.q) rfl (by kernel_rfl) (by kernel_rfl) (by kernel_rfl) (fun _ _ _ h => h) (.inl ⟨by rfl, ?_⟩) (by assumption) ?_
          · intro W hW; have cc := D1.out W hW.1; go_simp
          try simp only [List.getElem_toArray, List.getElem_cons_zero, List.getElem_cons_succ, Act.put, List.setIfInBounds_toArray, List.set_cons_zero, List.set_cons_succ]
          have e_x : decide (x.q < 1) = false := decide_eq_false (by omega)
          refine wpAnyH_take (i := 8) (v := .bool false) rfl (by kernel_rfl) (by kernel_rfl) (by kernel_rfl) (fun _ _ _ h => h) (.inl ⟨by rfl, ?_⟩) (by assumption) ?_
          · intro W hW; go_simp
          try simp only [List.getElem_toArray, List.getElem_cons_zero, List.getElem_cons_succ, Act.put, List.setIfInBounds_toArray, List.set_cons_zero, List.set_cons_succ]
          refine wpAnyH_take (i := 9) (v := .bool false) rfl (by kernel_rfl) (by kernel_rfl) (by kernel_rfl) (fun _ _ _ h => h) (.inl ⟨by rfl, ?_⟩) (by assumption) ?_
          · intro W hW; go_simp
          try simp only [List.getElem_toArray, List.getElem_cons_zero, List.getElem_cons_succ, Act.put, List.setIfInBounds_toArray, List.set_cons_zero, List.set_cons_succ]
          refine wpAnyH_take (i := 10) (v := .bool false) rfl (by kernel_rfl) (by kernel_rfl) (by kernel_rfl) (fun _ _ _ h => h) (.inl ⟨by rfl, ?_⟩) (by assumption) ?_
          · intro W hW; go_simp
          try simp only [List.getElem_toArray, List.getElem_cons_zero, List.getElem_cons_succ, Act.put, List.setIfInBounds_toArray, List.set_cons_zero, List.set_cons_succ]
          refine wpAnyH_take (i := 11) (v := .int .i64 i) rfl (by kernel_rfl) (by kernel_rfl) (by kernel_rfl) (fun _ _ _ h => h) (.inl ⟨by rfl, ?_⟩) (by assumption) ?_
          · intro W hW; go_simp
          try simp only [List.getElem_toArray, List.getElem_cons_zero, List.getElem_cons_succ, Act.put, List.setIfInBounds_toArray, List.set_cons_zero, List.set_cons_succ]
          rcases PK.out with ei | ⟨m, p, ei, hm, ep⟩
          · have e_k : decide (0 < (i : Int)) = false := decide_eq_false (by omega)
            have e_k2 : decide (0 < i) = false := decide_eq_false (by omega)
            clear PK ei
            refine wpAnyH_take (i := 12) (v := .bool false) rfl (by kernel_rfl) (by kernel_rfl) (by kernel_rfl) (fun _ _ _ h => h) (.inl ⟨by rfl, ?_⟩) (by assumption) ?_
            · intro W hW; go_simp
            try simp only [List.getElem_toArray, List.getElem_cons_zero, List.getElem_cons_succ, Act.put, List.setIfInBounds_toArray, List.set_cons_zero, List.set_cons_succ]
            refine wpAnyH_take (i := 13) (v := .bool false) rfl (by kernel_rfl) (by kernel_rfl) (by kernel_rfl) (fun _ _ _ h => h) (.inl ⟨by rfl, ?_⟩) (by assumption) ?_
            · intro W hW; go_simp
            try simp only [List.getElem_toArray, List.getElem_cons_zero, List.getElem_cons_succ, Act.put, List.setIfInBounds_toArray, List.set_cons_zero, List.set_cons_succ]
            refine wpAnyH_take (i := 14) (v := undef) rfl (by kernel_rfl) (by kernel_rfl) (by kernel_rfl) (fun _ _ _ h => h) (.inr ⟨by rfl, rfl⟩) (by assumption) ?_
            try simp only [List.getElem_toArray, List.getElem_cons_zero, List.getElem_cons_succ, Act.put, List.setIfInBounds_toArray, List.set_cons_zero, List.set_cons_succ]
            refine wpAnyH_take (i := 15) (v := undef) rfl (by kernel_rfl) (by kernel_rfl) (by kernel_rfl) (fun _ _ _ h => h) (.inr ⟨by rfl, rfl⟩) (by assumption) ?_
            try simp only [List.getElem_toArray, List.getElem_cons_zero, List.getElem_cons_succ, Act.put, List.setIfInBounds_toArray, List.set_cons_zero, List.set_cons_succ]
            refine wpAnyH_take (i := 16) (v := undef) rfl (by kernel_rfl) (by kernel_rfl) (by kernel_rfl) (fun _ _ _ h => h) (.inr ⟨by rfl, rfl⟩) (by assumption) ?_
            try simp only [List.getElem_toArray, List.getElem_cons_zero, List.getElem_cons_succ, Act.put, List.setIfInBounds_toArray, List.set_cons_zero, List.set_cons_succ]
            refine wpAnyH_take (i := 17) (v := undef) rfl (by kernel_rfl) (by kernel_rfl) (by kernel_rfl) (fun _ _ _ h => h) (.inr ⟨by rfl, rfl⟩) (by assumption) ?_
            try simp only [List.getElem_toArray, List.getElem_cons_zero, List.getElem_cons_succ, Act.put, List.setIfInBounds_toArray, List.set_cons_zero, List.set_cons_succ]
            refine wpAnyH_take (i := 18) (v := undef) rfl (by kernel_rfl) (by kernel_rfl) (by kernel_rfl) (fun _ _ _ h => h) (.inr ⟨by rfl, rfl⟩) (by assumption) ?_
            try simp only [List.getElem_toArray, List.getElem_cons_zero, List.getElem_cons_succ, Act.put, List.setIfInBounds_toArray, List.set_cons_zero, List.set_cons_succ]
            refine wpAnyH_take (i := 19) (v := undef) rfl (by kernel_rfl) (by kernel_rfl) (by kernel_rfl) (fun _ _ _ h => h) (.inr ⟨by rfl, rfl⟩) (by assumption) ?_
            try simp only [List.getElem_toArray, List.getElem_cons_zero, List.getElem_cons_succ, Act.put, List.setIfInBounds_toArray, List.set_cons_zero, List.set_cons_succ]
            refine wpAnyH_take (i := 20) (v := undef) rfl (by kernel_rfl) (by kernel_rfl) (by kernel_rfl) (fun _ _ _ h => h) (.inr ⟨by rfl, rfl⟩) (by assumption) ?_
            try simp only [List.getElem_toArray, List.getElem_cons_zero, List.getElem_cons_succ, Act.put, List.setIfInBounds_toArray, List.set_cons_zero, List.set_cons_succ]
            refine wpAnyH_take (i := 21) (v := undef) rfl (by kernel_rfl) (by kernel_rfl) (by kernel_rfl) (fun _ _ _ h => h) (.inr ⟨by rfl, rfl⟩) (by assumption) ?_
            try simp only [List.getElem_toArray, List.getElem_cons_zero, List.getElem_cons_succ, Act.put, List.setIfInBounds_toArray, List.set_cons_zero, List.set_cons_succ]
            refine wpAnyH_take (i := 22) (v := undef) rfl (by kernel_rfl) (by kernel_rfl) (by kernel_rfl) (fun _ _ _ h => h) (.inr ⟨by rfl, rfl⟩) (by assumption) ?_
            try simp only [List.getElem_toArray, List.getElem_cons_zero, List.getElem_cons_succ, Act.put, List.setIfInBounds_toArray, List.set_cons_zero, List.set_cons_succ]
            refine wpAnyH_take (i := 23) (v := undef) rfl (by kernel_rfl) (by kernel_rfl) (by kernel_rfl) (fun _ _ _ h => h) (.inr ⟨by rfl, rfl⟩) (by assumption) ?_
            try simp only [List.getElem_toArray, List.getElem_cons_zero, List.getElem_cons_succ, Act.put, List.setIfInBounds_toArray, List.set_cons_zero, List.set_cons_succ]
            refine wpAnyH_take (i := 24) (v := undef) rfl (by kernel_rfl) (by kernel_rfl) (by kernel_rfl) (fun _ _ _ h => h) (.inr ⟨by rfl, rfl⟩) (by assumption) ?_
            try simp only [List.getElem_toArray, List.getElem_cons_zero, List.getElem_cons_succ, Act.put, List.setIfInBounds_toArray, List.set_cons_zero, List.set_cons_succ]
            refine wpAnyH_take (i := 25) (v := undef) rfl (by kernel_rfl) (by kernel_rfl) (by kernel_rfl) (fun _ _ _ h => h) (.inr ⟨by rfl, rfl⟩) (by assumption) ?_
            try simp only [List.getElem_toArray, List.getElem_cons_zero, List.getElem_cons_succ, Act.put, List.setIfInBounds_toArray, List.set_cons_zero, List.set_cons_succ]
            refine wpAnyH_take (i := 26) (v := .bool false) rfl (by kernel_rfl) (by kernel_rfl) (by kernel_rfl) (fun _ _ _ h => h) (.inl ⟨by rfl, ?_⟩) (by assumption) ?_
            · intro W hW; go_simp
            try simp only [List.getElem_toArray, List.getElem_cons_zero, List.getElem_cons_succ, Act.put, List.setIfInBounds_toArray, List.set_cons_zero, List.set_cons_succ]
            refine wpAnyH_take (i := 27) (v := .bool false) rfl (by kernel_rfl) (by kernel_rfl) (by kernel_rfl) (fun _ _ _ h => h) (.inl ⟨by rfl, ?_⟩) (by assumption) ?_
            · intro W hW; go_simp
            try simp only [List.getElem_toArray, List.getElem_cons_zero, List.getElem_cons_succ, Act.put, List.setIfInBounds_toArray, List.set_cons_zero, List.set_cons_succ]
            refine wpAnyH_done (by decide +kernel) ?_ _
            have HH := Lib.hid hH
            have d1 := D1.out _ HH.out.1
            clear hH
            go_wp2_with fail
            go_roundw
            case rel => exact ⟨i + 1, hlt, by go_num, by rw [SN.out]; try go_num, HH.out.2, HH.out.1⟩
            case measure => simp [intOf]; omega
          · have e_k : decide (0 < (i : Int)) = true := decide_eq_true (by omega)
            have e_k2 : decide (0 < i) = true := decide_eq_true (by omega)
            have wi : IntKind.i64.wrap ((i : Int) - 1) = (m : Int) := by rw [IntKind.wrap_i64]; omega
            have wi2 : wrap64 ((i : Int) - 1) = (m : Int) := by unfold wrap64; omega
            have wi3 : (i : Int) - 1 = (m : Int) := by omega
            have hml : (m : Int) < (n : Int) := by omega
            have PC := Lib.hid fun (U : World) (f : Fr (fun k => k = gb) w3 U) => (show U.cell? ⟨b1, o1 + m * 2, none⟩ = some (.int .u32 p.ac) from OR.out m p hm U f 0 _ rfl)
            have pb := (OX.out p (List.mem_of_getElem? hm)).1.ac
            have e_a : decide (x.ac ≤ p.ac) = false := decide_eq_false (by omega)
            clear PK ei hm
            refine wpAnyH_take (i := 12) (v := .bool true) rfl (by kernel_rfl) (by kernel_rfl) (by kernel_rfl) (fun _ _ _ h => h) (.inl ⟨by rfl, ?_⟩) (by assumption) ?_
            · intro W hW; go_simp
            try simp only [List.getElem_toArray, List.getElem_cons_zero, List.getElem_cons_succ, Act.put, List.setIfInBounds_toArray, List.set_cons_zero, List.set_cons_succ]
            refine wpAnyH_take (i := 13) (v := .bool true) rfl (by kernel_rfl) (by kernel_rfl) (by kernel_rfl) (fun _ _ _ h => h) (.inl ⟨by rfl, ?_⟩) (by assumption) ?_
            · intro W hW; go_simp
            try simp only [List.getElem_toArray, List.getElem_cons_zero, List.getElem_cons_succ, Act.put, List.setIfInBounds_toArray, List.set_cons_zero, List.set_cons_succ]
            refine wpAnyH_take (i := 14) (v := .slice (some ⟨b1, o1, none⟩) n c2) rfl (by kernel_rfl) (by kernel_rfl) (by kernel_rfl) (fun _ _ _ h => h) (.inl ⟨by rfl, ?_⟩) (by assumption) ?_
            · intro W hW; go_simp
            try simp only [List.getElem_toArray, List.getElem_cons_zero, List.getElem_cons_succ, Act.put, List.setIfInBounds_toArray, List.set_cons_zero, List.set_cons_succ]
            refine wpAnyH_take (i := 15) (v := .int .i64 i) rfl (by kernel_rfl) (by kernel_rfl) (by kernel_rfl) (fun _ _ _ h => h) (.inl ⟨by rfl, ?_⟩) (by assumption) ?_
            · intro W hW; go_simp
            try simp only [List.getElem_toArray, List.getElem_cons_zero, List.getElem_cons_succ, Act.put, List.setIfInBounds_toArray, List.set_cons_zero, List.set_cons_succ]
            refine wpAnyH_take (i := 16) (v := .pointer (some ⟨b1, o1 + i * 2, none⟩)) rfl (by kernel_rfl) (by kernel_rfl) (by kernel_rfl) (fun _ _ _ h => h) (.inl ⟨by rfl, ?_⟩) (by assumption) ?_
            · intro W hW; go_simp
            try simp only [List.getElem_toArray, List.getElem_cons_zero, List.getElem_cons_succ, Act.put, List.setIfInBounds_toArray, List.set_cons_zero, List.set_cons_succ]
            refine wpAnyH_take (i := 17) (v := .pointer (some ⟨b1, o1 + i * 2, none⟩)) rfl (by kernel_rfl) (by kernel_rfl) (by kernel_rfl) (fun _ _ _ h => h) (.inl ⟨by rfl, ?_⟩) (by assumption) ?_
            · intro W hW; go_simp
            try simp only [List.getElem_toArray, List.getElem_cons_zero, List.getElem_cons_succ, Act.put, List.setIfInBounds_toArray, List.set_cons_zero, List.set_cons_succ]
            refine wpAnyH_take (i := 18) (v := .int .u32 x.ac) rfl (by kernel_rfl) (by kernel_rfl) (by kernel_rfl) (fun _ _ _ h => h) (.inl ⟨by rfl, ?_⟩) (by assumption) ?_
            · intro W hW; have cc := D0.out W hW.1; go_simp
            try simp only [List.getElem_toArray, List.getElem_cons_zero, List.getElem_cons_succ, Act.put, List.setIfInBounds_toArray, List.set_cons_zero, List.set_cons_succ]
            refine wpAnyH_take (i := 19) (v := .slice (some ⟨b1, o1, none⟩) n c2) rfl (by kernel_rfl) (by kernel_rfl) (by kernel_rfl) (fun _ _ _ h => h) (.inl ⟨by rfl, ?_⟩) (by assumption) ?_
            · intro W hW; go_simp
            try simp only [List.getElem_toArray, List.getElem_cons_zero, List.getElem_cons_succ, Act.put, List.setIfInBounds_toArray, List.set_cons_zero, List.set_cons_succ]
            refine wpAnyH_take (i := 20) (v := .int .i64 i) rfl (by kernel_rfl) (by kernel_rfl) (by kernel_rfl) (fun _ _ _ h => h) (.inl ⟨by rfl, ?_⟩) (by assumption) ?_
            · intro W hW; go_simp
            try simp only [List.getElem_toArray, List.getElem_cons_zero, List.getElem_cons_succ, Act.put, List.setIfInBounds_toArray, List.set_cons_zero, List.set_cons_succ]
            refine wpAnyH_take (i := 21) (v := .int .i64 m) rfl (by kernel_rfl) (by kernel_rfl) (by kernel_rfl) (fun _ _ _ h => h) (.inl ⟨by rfl, ?_⟩) (by assumption) ?_
            · intro W hW; go_simp; (try (rw [IntKind.wrap_i64]; omega))
            try simp only [List.getElem_toArray, List.getElem_cons_zero, List.getElem_cons_succ, Act.put, List.setIfInBounds_toArray, List.set_cons_zero, List.set_cons_succ]
            refine wpAnyH_take (i := 22) (v := .pointer (some ⟨b1, o1 + m * 2, none⟩)) rfl (by kernel_rfl) (by kernel_rfl) (by kernel_rfl) (fun _ _ _ h => h) (.inl ⟨by rfl, ?_⟩) (by assumption) ?_
            · intro W hW; go_simp
            try simp only [List.getElem_toArray, List.getElem_cons_zero, List.getElem_cons_succ, Act.put, List.setIfInBounds_toArray, List.set_cons_zero, List.set_cons_succ]
            refine wpAnyH_take (i := 23) (v := .pointer (some ⟨b1, o1 + m * 2, none⟩)) rfl (by kernel_rfl) (by kernel_rfl) (by kernel_rfl) (fun _ _ _ h => h) (.inl ⟨by rfl, ?_⟩) (by assumption) ?_
            · intro W hW; go_simp
            try simp only [List.getElem_toArray, List.getElem_cons_zero, List.getElem_cons_succ, Act.put, List.setIfInBounds_toArray, List.set_cons_zero, List.set_cons_succ]
            refine wpAnyH_take (i := 24) (v := .int .u32 p.ac) rfl (by kernel_rfl) (by kernel_rfl) (by kernel_rfl) (fun _ _ _ h => h) (.inl ⟨by rfl, ?_⟩) (by assumption) ?_
            · intro W hW; have cc := PC.out W hW.1; go_simp
            try simp only [List.getElem_toArray, List.getElem_cons_zero, List.getElem_cons_succ, Act.put, List.setIfInBounds_toArray, List.set_cons_zero, List.set_cons_succ]
            refine wpAnyH_take (i := 25) (v := .bool false) rfl (by kernel_rfl) (by kernel_rfl) (by kernel_rfl) (fun _ _ _ h => h) (.inl ⟨by rfl, ?_⟩) (by assumption) ?_
            · intro W hW; go_simp
            try simp only [List.getElem_toArray, List.getElem_cons_zero, List.getElem_cons_succ, Act.put, List.setIfInBounds_toArray, List.set_cons_zero, List.set_cons_succ]
            refine wpAnyH_take (i := 26) (v := .bool false) rfl (by kernel_rfl) (by kernel_rfl) (by kernel_rfl) (fun _ _ _ h => h) (.inl ⟨by rfl, ?_⟩) (by assumption) ?_
            · intro W hW; go_simp
            try simp only [List.getElem_toArray, List.getElem_cons_zero, List.getElem_cons_succ, Act.put, List.setIfInBounds_toArray, List.set_cons_zero, List.set_cons_succ]
            refine wpAnyH_take (i := 27) (v := .bool false) rfl (by kernel_rfl) (by kernel_rfl) (by kernel_rfl) (fun _ _ _ h => h) (.inl ⟨by rfl, ?_⟩) (by assumption) ?_
            · intro W hW; go_simp
            try simp only [List.getElem_toArray, List.getElem_cons_zero, List.getElem_cons_succ, Act.put, List.setIfInBounds_toArray, List.set_cons_zero, List.set_cons_succ]
            refine wpAnyH_done (by decide +kernel) ?_ _
            have HH := Lib.hid hH
            have d1 := D1.out _ HH.out.1
            clear hH
            go_wp2_with fail
            go_roundw
            case rel => exact ⟨i + 1, hlt, by go_num, by rw [SN.out]; try go_num, HH.out.2, HH.out.1⟩
            case measure => simp [intOf]; omega
    case neg =>
      obtain rfl : n = i := by omega
      have et : LS.take n = LS := List.take_of_length_le (by rw [HN.out]; exact Nat.le_refl _)
      rw [et, TOT.out]
      rw [et] at AB
      have BX : Hid (Below w.heap.size w wr) := Lib.hid (below_fr14 BW.out FR.out GL.out)
      have GFA := Lib.hid fun (t : Nat) (d : Ho) (hd : l[t]? = some d) => gF_at (o := LS) hd
      have LR := Lib.hid (LRD.out wr FR.out)
      obtain ⟨T, hT⟩ : ∃ x, mag q = x := ⟨_, rfl⟩
      have HT := Lib.hid hT
      rw [hT]
      rename World => w4
      clear et hT LRD ORD FR RS TOT SP FX OX
      go_wp2_with fail
      go_loopw [97] (fun i wr => ∃ k : Nat, k ≤ len ∧ i = .int .i64 k ∧ Below w4.heap.size w4 wr) (fun i _ => len - (intOf i).toNat)
      case atStart => exact ⟨0, Nat.zero_le _, rfl, Below.refl _ _⟩
      case round =>
        obtain ⟨k, hk, rfl, hb⟩ := hrel
        have HB := Lib.hid hb
        clear hb
        by_cases hlt : k < len
        case neg =>
          obtain rfl : len = k := by omega
          have Q4 := Lib.hid (BX.out.trans (HB.out.mono BX.out.size))
          have MG : mag q = if q < 0 then -q else q := rfl
          rw [HT.out] at MG
          by_cases c : q < 0
          · rw [if_pos c] at MG
            have bq := M.out.bd
            have e3 : -q = T := by omega
            have e4 : IntKind.i64.wrap (-q) = T := by rw [IntKind.wrap_i64]; omega
            have e1 : (T == q) = false := by simp; omega
            have tb : -9223372036854775808 ≤ T ∧ T ≤ 9223372036854775807 := by omega
            clear MG
            go_wp2_with fail
            refine (KN.out _).mono ?_; rintro e w8 ⟨rfl, q8⟩
            have Q8 := Lib.hid (Q4.out.trans (q8.mono Q4.out.size))
            clear q8
            go_wp2_with fail
            go_ret
            exact ⟨rfl, Q8.out⟩
          · rw [if_neg c] at MG
            have e1 : (T == q) = true := by simp; omega
            clear MG
            go_wp2_with fail
            refine (KN.out _).mono ?_; rintro e w8 ⟨rfl, q8⟩
            have Q8 := Lib.hid (Q4.out.trans (q8.mono Q4.out.size))
            clear q8
            go_wp2_with fail
            go_ret
            exact ⟨rfl, Q8.out⟩
        case pos =>
          have hki : (k : Int) < (len : Int) := by omega
          have hdk : decide ((k : Int) < (len : Int)) = true := decide_eq_true hki
          obtain ⟨d, hd⟩ : ∃ d, l[k]? = some d := ⟨l[k]'(by have := NL.out; omega), List.getElem?_eq_getElem _⟩
          obtain ⟨q1, q2⟩ := QBD.out d (List.mem_of_getElem? hd)
          have gb1 := GB.out d (List.mem_of_getElem? hd)
          have gm1 := Lib.hid fun (x : Ho) (hx : x ∈ l) (c : opq q x < opq q d) => GM.out d x (List.mem_of_getElem? hd) hx c
          obtain ⟨b, o, rfl, -⟩ := grd_rng LR.out hd
          have LRA := Lib.hid fun (m : Nat) (p : Ho) (hm : l[m]? = some p) (W : World) (b' : Below w4.heap.size w4 W) => (show W.rangeAt b (o + m * 2) (EH.cells p) by
            obtain ⟨b2, o2, e2, r2⟩ := grd_rng (grd_below LR.out b' (Nat.le_refl _)) hm
            cases e2
            exact r2)
          have c1 : wr.cell? ⟨b, o + k * 2 + 1, none⟩ = some (.int .i64 d.q) := LRA.out k d hd wr HB.out 1 _ rfl
          have GD := GFA.out k d hd
          obtain ⟨G, hG⟩ : ∃ y, gotR LS d.ac = y := ⟨_, rfl⟩
          rw [hG] at GD gb1 gm1
          have AK := Lib.hid fun (W : World) (b' : Below w4.heap.size w4 W) => (show W.cell? ⟨gb, k, none⟩ = some (.int .i64 G) by rw [ab_cell14 (ab_below14 AB.out b') (by omega), GD])
          have ak := AK.out wr HB.out
          have k64 : (k : Int) < 64 := by omega
          obtain ⟨O, hO⟩ : ∃ y, opq q d = y := ⟨_, rfl⟩
          have OE : O = if 0 < q then -d.q else d.q := by rw [← hO]; rfl
          rw [hO] at gb1 gm1
          have eg : decide (max O 0 < G) = false := decide_eq_false (by omega)
          clear hd GD hG hO
          by_cases c : q < 0
          · have dc : decide (q < 0) = true := decide_eq_true c
            obtain rfl : O = d.q := by rw [OE, if_neg (by omega)]
            clear OE
            go_wp2_with fail
            go_loopw [121] (fun i wx => ∃ m : Nat, m ≤ len ∧ i = .int .i64 m ∧ Below w4.heap.size w4 wx) (fun i _ => len - (intOf i).toNat)
            case atStart => exact ⟨0, Nat.zero_le _, rfl, HB.out⟩
            case round =>
              obtain ⟨m, hm, rfl, hb2⟩ := hrel
              have HB2 := Lib.hid hb2
              clear hb2
              by_cases hlt2 : m < len
              case neg =>
                obtain rfl : len = m := by omega
                go_wp2_with fail
                go_roundw
                case rel => exact ⟨k + 1, hlt, by go_num, HB2.out⟩
                case measure => simp [intOf]; omega
              case pos =>
                have hmi : (m : Int) < (len : Int) := by omega
                have hdm : decide ((m : Int) < (len : Int)) = true := decide_eq_true hmi
                obtain ⟨p, hp⟩ : ∃ p, l[m]? = some p := ⟨l[m]'(by have := NL.out; omega), List.getElem?_eq_getElem _⟩
                obtain ⟨r1, r2⟩ := QBD.out p (List.mem_of_getElem? hp)
                have c2 : wr.cell? ⟨b, o + m * 2 + 1, none⟩ = some (.int .i64 p.q) := LRA.out m p hp wr HB2.out 1 _ rfl
                have GP := GFA.out m p hp
                have gmp := gm1.out p (List.mem_of_getElem? hp)
                obtain ⟨G2, hG2⟩ : ∃ y, gotR LS p.ac = y := ⟨_, rfl⟩
                rw [hG2] at GP gmp
                have OP : opq q p = p.q := if_neg (by omega)
                rw [OP] at gmp
                have AM := Lib.hid fun (W : World) (b' : Below w4.heap.size w4 W) => (show W.cell? ⟨gb, m, none⟩ = some (.int .i64 G2) by rw [ab_cell14 (ab_below14 AB.out b') (by omega), GP])
                have m64 : (m : Int) < 64 := by omega
                have GMP := Lib.hid gmp
                clear hp GP hG2 OP gmp
                go_wp2_with fail
                refine wp_region_held_drew (S := fun U => Below w4.heap.size w4 U) (by kernel_rfl) (HB2.out.drew) (fun hH => ?_)
                refine wpAnyH_take (i := 0) (v := .int .i64 (d.q)) rfl (by kernel_rfl) (by kernel_rfl) (by kernel_rfl) (fun _ _ _ h => h) (.inl ⟨by rfl, ?_⟩) (by assumption) ?_
                · intro W hW; go_simp
                try simp only [List.getElem_toArray, List.getElem_cons_zero, Act.put, List.setIfInBounds_toArray, List.set_cons_zero, List.set_cons_succ]
                refine wpAnyH_take (i := 1) (v := .int .i64 (p.q)) rfl (by kernel_rfl) (by kernel_rfl) (by kernel_rfl) (fun _ _ _ h => h) (.inl ⟨by rfl, ?_⟩) (by assumption) ?_
                · intro W hW; go_simp
                try simp only [List.getElem_toArray, List.getElem_cons_zero, List.getElem_cons_succ, Act.put, List.setIfInBounds_toArray, List.set_cons_zero, List.set_cons_succ]
                by_cases cc : p.q < d.q
                case neg =>
                  have e_c : decide (p.q < d.q) = false := decide_eq_false cc
                  refine wpAnyH_take (i := 2) (v := .bool false) rfl (by kernel_rfl) (by kernel_rfl) (by kernel_rfl) (fun _ _ _ h => h) (.inl ⟨by rfl, ?_⟩) (by assumption) ?_
                  · intro W hW; go_simp
                  try simp only [List.getElem_toArray, List.getElem_cons_zero, List.getElem_cons_succ, Act.put, List.setIfInBounds_toArray, List.set_cons_zero, List.set_cons_succ]
                  refine wpAnyH_take (i := 3) (v := .bool false) rfl (by kernel_rfl) (by kernel_rfl) (by kernel_rfl) (fun _ _ _ h => h) (.inl ⟨by rfl, ?_⟩) (by assumption) ?_
                  · intro W hW; go_simp
                  try simp only [List.getElem_toArray, List.getElem_cons_zero, List.getElem_cons_succ, Act.put, List.setIfInBounds_toArray, List.set_cons_zero, List.set_cons_succ]
                  refine wpAnyH_take (i := 4) (v := undef) rfl (by kernel_rfl) (by kernel_rfl) (by kernel_rfl) (fun _ _ _ h => h) (.inr ⟨by rfl, rfl⟩) (by assumption) ?_
                  try simp only [List.getElem_toArray, List.getElem_cons_zero, List.getElem_cons_succ, Act.put, List.setIfInBounds_toArray, List.set_cons_zero, List.set_cons_succ]
                  refine wpAnyH_take (i := 5) (v := undef) rfl (by kernel_rfl) (by kernel_rfl) (by kernel_rfl) (fun _ _ _ h => h) (.inr ⟨by rfl, rfl⟩) (by assumption) ?_
                  try simp only [List.getElem_toArray, List.getElem_cons_zero, List.getElem_cons_succ, Act.put, List.setIfInBounds_toArray, List.set_cons_zero, List.set_cons_succ]
                  refine wpAnyH_take (i := 6) (v := undef) rfl (by kernel_rfl) (by kernel_rfl) (by kernel_rfl) (fun _ _ _ h => h) (.inr ⟨by rfl, rfl⟩) (by assumption) ?_
                  try simp only [List.getElem_toArray, List.getElem_cons_zero, List.getElem_cons_succ, Act.put, List.setIfInBounds_toArray, List.set_cons_zero, List.set_cons_succ]
                  refine wpAnyH_take (i := 7) (v := undef) rfl (by kernel_rfl) (by kernel_rfl) (by kernel_rfl) (fun _ _ _ h => h) (.inr ⟨by rfl, rfl⟩) (by assumption) ?_
                  try simp only [List.getElem_toArray, List.getElem_cons_zero, List.getElem_cons_succ, Act.put, List.setIfInBounds_toArray, List.set_cons_zero, List.set_cons_succ]
                  refine wpAnyH_take (i := 8) (v := undef) rfl (by kernel_rfl) (by kernel_rfl) (by kernel_rfl) (fun _ _ _ h => h) (.inr ⟨by rfl, rfl⟩) (by assumption) ?_
                  try simp only [List.getElem_toArray, List.getElem_cons_zero, List.getElem_cons_succ, Act.put, List.setIfInBounds_toArray, List.set_cons_zero, List.set_cons_succ]
                  refine wpAnyH_take (i := 9) (v := undef) rfl (by kernel_rfl) (by kernel_rfl) (by kernel_rfl) (fun _ _ _ h => h) (.inr ⟨by rfl, rfl⟩) (by assumption) ?_
                  try simp only [List.getElem_toArray, List.getElem_cons_zero, List.getElem_cons_succ, Act.put, List.setIfInBounds_toArray, List.set_cons_zero, List.set_cons_succ]
                  refine wpAnyH_take (i := 10) (v := undef) rfl (by kernel_rfl) (by kernel_rfl) (by kernel_rfl) (fun _ _ _ h => h) (.inr ⟨by rfl, rfl⟩) (by assumption) ?_
                  try simp only [List.getElem_toArray, List.getElem_cons_zero, List.getElem_cons_succ, Act.put, List.setIfInBounds_toArray, List.set_cons_zero, List.set_cons_succ]
                  refine wpAnyH_take (i := 11) (v := .bool false) rfl (by kernel_rfl) (by kernel_rfl) (by kernel_rfl) (fun _ _ _ h => h) (.inl ⟨by rfl, ?_⟩) (by assumption) ?_
                  · intro W hW; go_simp
                  try simp only [List.getElem_toArray, List.getElem_cons_zero, List.getElem_cons_succ, Act.put, List.setIfInBounds_toArray, List.set_cons_zero, List.set_cons_succ]
                  refine wpAnyH_done (by decide +kernel) ?_ _
                  go_wp2_with fail
                  go_roundw
                  case rel => exact ⟨m + 1, hlt2, by go_num, hH⟩
                  case measure => simp [intOf]; omega
                case pos =>
                  have e_c : decide (p.q < d.q) = true := decide_eq_true cc
                  have e_g : decide (G < G2) = false := decide_eq_false (by have := GMP.out cc; omega)
                  refine wpAnyH_take (i := 2) (v := .bool true) rfl (by kernel_rfl) (by kernel_rfl) (by kernel_rfl) (fun _ _ _ h => h) (.inl ⟨by rfl, ?_⟩) (by assumption) ?_
                  · intro W hW; go_simp
                  try simp only [List.getElem_toArray, List.getElem_cons_zero, List.getElem_cons_succ, Act.put, List.setIfInBounds_toArray, List.set_cons_zero, List.set_cons_succ]
                  refine wpAnyH_take (i := 3) (v := .bool true) rfl (by kernel_rfl) (by kernel_rfl) (by kernel_rfl) (fun _ _ _ h => h) (.inl ⟨by rfl, ?_⟩) (by assumption) ?_
                  · intro W hW; go_simp
                  try simp only [List.getElem_toArray, List.getElem_cons_zero, List.getElem_cons_succ, Act.put, List.setIfInBounds_toArray, List.set_cons_zero, List.set_cons_succ]
                  refine wpAnyH_take (i := 4) (v := .int .i64 k) rfl (by kernel_rfl) (by kernel_rfl) (by kernel_rfl) (fun _ _ _ h => h) (.inl ⟨by rfl, ?_⟩) (by assumption) ?_
                  · intro W hW; go_simp
                  try simp only [List.getElem_toArray, List.getElem_cons_zero, List.getElem_cons_succ, Act.put, List.setIfInBounds_toArray, List.set_cons_zero, List.set_cons_succ]
                  refine wpAnyH_take (i := 5) (v := .pointer (some ⟨gb, k, none⟩)) rfl (by kernel_rfl) (by kernel_rfl) (by kernel_rfl) (fun _ _ _ h => h) (.inl ⟨by rfl, ?_⟩) (by assumption) ?_
                  · intro W hW; go_simp
                  try simp only [List.getElem_toArray, List.getElem_cons_zero, List.getElem_cons_succ, Act.put, List.setIfInBounds_toArray, List.set_cons_zero, List.set_cons_succ]
                  refine wpAnyH_take (i := 6) (v := .int .i64 G) rfl (by kernel_rfl) (by kernel_rfl) (by kernel_rfl) (fun _ _ _ h => h) (.inl ⟨by rfl, ?_⟩) (by assumption) ?_
                  · intro W hW; have cc2 := AK.out W hW; go_simp
                  try simp only [List.getElem_toArray, List.getElem_cons_zero, List.getElem_cons_succ, Act.put, List.setIfInBounds_toArray, List.set_cons_zero, List.set_cons_succ]
                  refine wpAnyH_take (i := 7) (v := .int .i64 m) rfl (by kernel_rfl) (by kernel_rfl) (by kernel_rfl) (fun _ _ _ h => h) (.inl ⟨by rfl, ?_⟩) (by assumption) ?_
                  · intro W hW; go_simp
                  try simp only [List.getElem_toArray, List.getElem_cons_zero, List.getElem_cons_succ, Act.put, List.setIfInBounds_toArray, List.set_cons_zero, List.set_cons_succ]
                  refine wpAnyH_take (i := 8) (v := .pointer (some ⟨gb, m, none⟩)) rfl (by kernel_rfl) (by kernel_rfl) (by kernel_rfl) (fun _ _ _ h => h) (.inl ⟨by rfl, ?_⟩) (by assumption) ?_
                  · intro W hW; go_simp
                  try simp only [List.getElem_toArray, List.getElem_cons_zero, List.getElem_cons_succ, Act.put, List.setIfInBounds_toArray, List.set_cons_zero, List.set_cons_succ]
                  refine wpAnyH_take (i := 9) (v := .int .i64 G2) rfl (by kernel_rfl) (by kernel_rfl) (by kernel_rfl) (fun _ _ _ h => h) (.inl ⟨by rfl, ?_⟩) (by assumption) ?_
                  · intro W hW; have cc2 := AM.out W hW; go_simp
                  try simp only [List.getElem_toArray, List.getElem_cons_zero, List.getElem_cons_succ, Act.put, List.setIfInBounds_toArray, List.set_cons_zero, List.set_cons_succ]
                  refine wpAnyH_take (i := 10) (v := .bool false) rfl (by kernel_rfl) (by kernel_rfl) (by kernel_rfl) (fun _ _ _ h => h) (.inl ⟨by rfl, ?_⟩) (by assumption) ?_
                  · intro W hW; go_simp
                  try simp only [List.getElem_toArray, List.getElem_cons_zero, List.getElem_cons_succ, Act.put, List.setIfInBounds_toArray, List.set_cons_zero, List.set_cons_succ]
                  refine wpAnyH_take (i := 11) (v := .bool false) rfl (by kernel_rfl) (by kernel_rfl) (by kernel_rfl) (fun _ _ _ h => h) (.inl ⟨by rfl, ?_⟩) (by assumption) ?_
                  · intro W hW; go_simp
                  try simp only [List.getElem_toArray, List.getElem_cons_zero, List.getElem_cons_succ, Act.put, List.setIfInBounds_toArray, List.set_cons_zero, List.set_cons_succ]
                  refine wpAnyH_done (by decide +kernel) ?_ _
                  go_wp2_with fail
                  go_roundw
                  case rel => exact ⟨m + 1, hlt2, by go_num, hH⟩
                  case measure => simp [intOf]; omega
          · have dc : decide (q < 0) = false := decide_eq_false c
            obtain rfl : O = -d.q := by rw [OE, if_pos (by omega)]
            clear OE
            go_wp2_with fail
            go_loopw [121] (fun i wx => ∃ m : Nat, m ≤ len ∧ i = .int .i64 m ∧ Below w4.heap.size w4 wx) (fun i _ => len - (intOf i).toNat)
            case atStart => exact ⟨0, Nat.zero_le _, rfl, HB.out⟩
            case round =>
              obtain ⟨m, hm, rfl, hb2⟩ := hrel
              have HB2 := Lib.hid hb2
              clear hb2
              by_cases hlt2 : m < len
              case neg =>
                obtain rfl : len = m := by omega
                go_wp2_with fail
                go_roundw
                case rel => exact ⟨k + 1, hlt, by go_num, HB2.out⟩
                case measure => simp [intOf]; omega
              case pos =>
                have hmi : (m : Int) < (len : Int) := by omega
                have hdm : decide ((m : Int) < (len : Int)) = true := decide_eq_true hmi
                obtain ⟨p, hp⟩ : ∃ p, l[m]? = some p := ⟨l[m]'(by have := NL.out; omega), List.getElem?_eq_getElem _⟩
                obtain ⟨r1, r2⟩ := QBD.out p (List.mem_of_getElem? hp)
                have c2 : wr.cell? ⟨b, o + m * 2 + 1, none⟩ = some (.int .i64 p.q) := LRA.out m p hp wr HB2.out 1 _ rfl
                have GP := GFA.out m p hp
                have gmp := gm1.out p (List.mem_of_getElem? hp)
                obtain ⟨G2, hG2⟩ : ∃ y, gotR LS p.ac = y := ⟨_, rfl⟩
                rw [hG2] at GP gmp
                have OP : opq q p = -p.q := if_pos (by omega)
                rw [OP] at gmp
                have AM := Lib.hid fun (W : World) (b' : Below w4.heap.size w4 W) => (show W.cell? ⟨gb, m, none⟩ = some (.int .i64 G2) by rw [ab_cell14 (ab_below14 AB.out b') (by omega), GP])
                have m64 : (m : Int) < 64 := by omega
                have GMP := Lib.hid gmp
                clear hp GP hG2 OP gmp
                go_wp2_with fail
                refine wp_region_held_drew (S := fun U => Below w4.heap.size w4 U) (by kernel_rfl) (HB2.out.drew) (fun hH => ?_)
                refine wpAnyH_take (i := 0) (v := .int .i64 (-d.q)) rfl (by kernel_rfl) (by kernel_rfl) (by kernel_rfl) (fun _ _ _ h => h) (.inl ⟨by rfl, ?_⟩) (by assumption) ?_
                · intro W hW; go_simp
                try simp only [List.getElem_toArray, List.getElem_cons_zero, Act.put, List.setIfInBounds_toArray, List.set_cons_zero, List.set_cons_succ]
                refine wpAnyH_take (i := 1) (v := .int .i64 (-p.q)) rfl (by kernel_rfl) (by kernel_rfl) (by kernel_rfl) (fun _ _ _ h => h) (.inl ⟨by rfl, ?_⟩) (by assumption) ?_
                · intro W hW; go_simp
                try simp only [List.getElem_toArray, List.getElem_cons_zero, List.getElem_cons_succ, Act.put, List.setIfInBounds_toArray, List.set_cons_zero, List.set_cons_succ]
                by_cases cc : -p.q < -d.q
                case neg =>
                  have e_c : decide (-p.q < -d.q) = false := decide_eq_false cc
                  refine wpAnyH_take (i := 2) (v := .bool false) rfl (by kernel_rfl) (by kernel_rfl) (by kernel_rfl) (fun _ _ _ h => h) (.inl ⟨by rfl, ?_⟩) (by assumption) ?_
                  · intro W hW; go_simp
                  try simp only [List.getElem_toArray, List.getElem_cons_zero, List.getElem_cons_succ, Act.put, List.setIfInBounds_toArray, List.set_cons_zero, List.set_cons_succ]
                  refine wpAnyH_take (i := 3) (v := .bool false) rfl (by kernel_rfl) (by kernel_rfl) (by kernel_rfl) (fun _ _ _ h => h) (.inl ⟨by rfl, ?_⟩) (by assumption) ?_
                  · intro W hW; go_simp
                  try simp only [List.getElem_toArray, List.getElem_cons_zero, List.getElem_cons_succ, Act.put, List.setIfInBounds_toArray, List.set_cons_zero, List.set_cons_succ]
                  refine wpAnyH_take (i := 4) (v := undef) rfl (by kernel_rfl) (by kernel_rfl) (by kernel_rfl) (fun _ _ _ h => h) (.inr ⟨by rfl, rfl⟩) (by assumption) ?_
                  try simp only [List.getElem_toArray, List.getElem_cons_zero, List.getElem_cons_succ, Act.put, List.setIfInBounds_toArray, List.set_cons_zero, List.set_cons_succ]
                  refine wpAnyH_take (i := 5) (v := undef) rfl (by kernel_rfl) (by kernel_rfl) (by kernel_rfl) (fun _ _ _ h => h) (.inr ⟨by rfl, rfl⟩) (by assumption) ?_
                  try simp only [List.getElem_toArray, List.getElem_cons_zero, List.getElem_cons_succ, Act.put, List.setIfInBounds_toArray, List.set_cons_zero, List.set_cons_succ]
                  refine wpAnyH_take (i := 6) (v := undef) rfl (by kernel_rfl) (by kernel_rfl) (by kernel_rfl) (fun _ _ _ h => h) (.inr ⟨by rfl, rfl⟩) (by assumption) ?_
                  try simp only [List.getElem_toArray, List.getElem_cons_zero, List.getElem_cons_succ, Act.put, List.setIfInBounds_toArray, List.set_cons_zero, List.set_cons_succ]
                  refine wpAnyH_take (i := 7) (v := undef) rfl (by kernel_rfl) (by kernel_rfl) (by kernel_rfl) (fun _ _ _ h => h) (.inr ⟨by rfl, rfl⟩) (by assumption) ?_
                  try simp only [List.getElem_toArray, List.getElem_cons_zero, List.getElem_cons_succ, Act.put, List.setIfInBounds_toArray, List.set_cons_zero, List.set_cons_succ]
                  refine wpAnyH_take (i := 8) (v := undef) rfl (by kernel_rfl) (by kernel_rfl) (by kernel_rfl) (fun _ _ _ h => h) (.inr ⟨by rfl, rfl⟩) (by assumption) ?_
                  try simp only [List.getElem_toArray, List.getElem_cons_zero, List.getElem_cons_succ, Act.put, List.setIfInBounds_toArray, List.set_cons_zero, List.set_cons_succ]
                  refine wpAnyH_take (i := 9) (v := undef) rfl (by kernel_rfl) (by kernel_rfl) (by kernel_rfl) (fun _ _ _ h => h) (.inr ⟨by rfl, rfl⟩) (by assumption) ?_
                  try simp only [List.getElem_toArray, List.getElem_cons_zero, List.getElem_cons_succ, Act.put, List.setIfInBounds_toArray, List.set_cons_zero, List.set_cons_succ]
                  refine wpAnyH_take (i := 10) (v := undef) rfl (by kernel_rfl) (by kernel_rfl) (by kernel_rfl) (fun _ _ _ h => h) (.inr ⟨by rfl, rfl⟩) (by assumption) ?_
                  try simp only [List.getElem_toArray, List.getElem_cons_zero, List.getElem_cons_succ, Act.put, List.setIfInBounds_toArray, List.set_cons_zero, List.set_cons_succ]
                  refine wpAnyH_take (i := 11) (v := .bool false) rfl (by kernel_rfl) (by kernel_rfl) (by kernel_rfl) (fun _ _ _ h => h) (.inl ⟨by rfl, ?_⟩) (by assumption) ?_
                  · intro W hW; go_simp
                  try simp only [List.getElem_toArray, List.getElem_cons_zero, List.getElem_cons_succ, Act.put, List.setIfInBounds_toArray, List.set_cons_zero, List.set_cons_succ]
                  refine wpAnyH_done (by decide +kernel) ?_ _
                  go_wp2_with fail
                  go_roundw
                  case rel => exact ⟨m + 1, hlt2, by go_num, hH⟩
                  case measure => simp [intOf]; omega
                case pos =>
                  have e_c : decide (-p.q < -d.q) = true := decide_eq_true cc
                  have e_g : decide (G < G2) = false := decide_eq_false (by have := GMP.out cc; omega)
                  refine wpAnyH_take (i := 2) (v := .bool true) rfl (by kernel_rfl) (by kernel_rfl) (by kernel_rfl) (fun _ _ _ h => h) (.inl ⟨by rfl, ?_⟩) (by assumption) ?_
                  · intro W hW; go_simp
                  try simp only [List.getElem_toArray, List.getElem_cons_zero, List.getElem_cons_succ, Act.put, List.setIfInBounds_toArray, List.set_cons_zero, List.set_cons_succ]
                  refine wpAnyH_take (i := 3) (v := .bool true) rfl (by kernel_rfl) (by kernel_rfl) (by kernel_rfl) (fun _ _ _ h => h) (.inl ⟨by rfl, ?_⟩) (by assumption) ?_
                  · intro W hW; go_simp
                  try simp only [List.getElem_toArray, List.getElem_cons_zero, List.getElem_cons_succ, Act.put, List.setIfInBounds_toArray, List.set_cons_zero, List.set_cons_succ]
                  refine wpAnyH_take (i := 4) (v := .int .i64 k) rfl (by kernel_rfl) (by kernel_rfl) (by kernel_rfl) (fun _ _ _ h => h) (.inl ⟨by rfl, ?_⟩) (by assumption) ?_
                  · intro W hW; go_simp
                  try simp only [List.getElem_toArray, List.getElem_cons_zero, List.getElem_cons_succ, Act.put, List.setIfInBounds_toArray, List.set_cons_zero, List.set_cons_succ]
                  refine wpAnyH_take (i := 5) (v := .pointer (some ⟨gb, k, none⟩)) rfl (by kernel_rfl) (by kernel_rfl) (by kernel_rfl) (fun _ _ _ h => h) (.inl ⟨by rfl, ?_⟩) (by assumption) ?_
                  · intro W hW; go_simp
                  try simp only [List.getElem_toArray, List.getElem_cons_zero, List.getElem_cons_succ, Act.put, List.setIfInBounds_toArray, List.set_cons_zero, List.set_cons_succ]
                  refine wpAnyH_take (i := 6) (v := .int .i64 G) rfl (by kernel_rfl) (by kernel_rfl) (by kernel_rfl) (fun _ _ _ h => h) (.inl ⟨by rfl, ?_⟩) (by assumption) ?_
                  · intro W hW; have cc2 := AK.out W hW; go_simp
                  try simp only [List.getElem_toArray, List.getElem_cons_zero, List.getElem_cons_succ, Act.put, List.setIfInBounds_toArray, List.set_cons_zero, List.set_cons_succ]
                  refine wpAnyH_take (i := 7) (v := .int .i64 m) rfl (by kernel_rfl) (by kernel_rfl) (by kernel_rfl) (fun _ _ _ h => h) (.inl ⟨by rfl, ?_⟩) (by assumption) ?_
                  · intro W hW; go_simp
                  try simp only [List.getElem_toArray, List.getElem_cons_zero, List.getElem_cons_succ, Act.put, List.setIfInBounds_toArray, List.set_cons_zero, List.set_cons_succ]
                  refine wpAnyH_take (i := 8) (v := .pointer (some ⟨gb, m, none⟩)) rfl (by kernel_rfl) (by kernel_rfl) (by kernel_rfl) (fun _ _ _ h => h) (.inl ⟨by rfl, ?_⟩) (by assumption) ?_
                  · intro W hW; go_simp
                  try simp only [List.getElem_toArray, List.getElem_cons_zero, List.getElem_cons_succ, Act.put, List.setIfInBounds_toArray, List.set_cons_zero, List.set_cons_succ]
                  refine wpAnyH_take (i := 9) (v := .int .i64 G2) rfl (by kernel_rfl) (by kernel_rfl) (by kernel_rfl) (fun _ _ _ h => h) (.inl ⟨by rfl, ?_⟩) (by assumption) ?_
                  · intro W hW; have cc2 := AM.out W hW; go_simp
                  try simp only [List.getElem_toArray, List.getElem_cons_zero, List.getElem_cons_succ, Act.put, List.setIfInBounds_toArray, List.set_cons_zero, List.set_cons_succ]
                  refine wpAnyH_take (i := 10) (v := .bool false) rfl (by kernel_rfl) (by kernel_rfl) (by kernel_rfl) (fun _ _ _ h => h) (.inl ⟨by rfl, ?_⟩) (by assumption) ?_
                  · intro W hW; go_simp
                  try simp only [List.getElem_toArray, List.getElem_cons_zero, List.getElem_cons_succ, Act.put, List.setIfInBounds_toArray, List.set_cons_zero, List.set_cons_succ]
                  refine wpAnyH_take (i := 11) (v := .bool false) rfl (by kernel_rfl) (by kernel_rfl) (by kernel_rfl) (fun _ _ _ h => h) (.inl ⟨by rfl, ?_⟩) (by assumption) ?_
                  · intro W hW; go_simp
                  try simp only [List.getElem_toArray, List.getElem_cons_zero, List.getElem_cons_succ, Act.put, List.setIfInBounds_toArray, List.set_cons_zero, List.set_cons_succ]
                  refine wpAnyH_done (by decide +kernel) ?_ _
                  go_wp2_with fail
                  go_roundw
                  case rel => exact ⟨m + 1, hlt2, by go_num, hH⟩
                  case measure => simp [intOf]; omega
end Go.Proofs.Ytpfhkmppbochnaa
