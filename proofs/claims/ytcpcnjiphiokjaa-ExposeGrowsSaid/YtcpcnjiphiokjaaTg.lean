/- Margin: the program's own (twice, Margin). -/
import Derived.Test.YtcpcnjiphiokjaaTe
import Derived.Test.YtcpcnjiphiokjaaMa
namespace Go.Proofs.Ytcpcnjiphiokjaa
open Go.RowKit Go.Shelf
open Go.Maps (Keyed)
set_option linter.unusedVariables false
set_option linter.unusedSimpArgs false

theorem wf10_u32 {x : Int} (h : 0 ≤ x ∧ x ≤ 4294967295) : (Lit.int .u32 x).wf = true := by
  simp [Lit.wf, IntKind.min, IntKind.max, IntKind.signed, IntKind.bits]
  omega
/-- Numbers that were seen. -/
def MU : MapT Int Int Try.prog 25 where
  key n := n
  kv n := .int .u32 n
  vv _ := .agg #[]
  ok n := 0 ≤ n ∧ n ≤ 4294967295
  K := Go.Maps.int_keyed Try.underlying25
  lit c h := ⟨.int .u32 c, Go.Maps.keyOf_int_mk Try.underlying25 (wf10_u32 h)⟩
  inj c d h := by injection h
/-- Those of the legs so far. -/
structure Sn (l : List Lq) (s : List Int) : Prop where
  mem : ∀ v, v ∈ s ↔ ∃ y, y ∈ l ∧ y.sp.nu = v
  le : s.length ≤ l.length
  eq : s.length = l.length ↔ l.Pairwise fun a b => a.sp.nu ≠ b.sp.nu
theorem Sn.start : Sn [] [] := ⟨fun v => ⟨fun h => (by cases h), fun ⟨_, h, _⟩ => (by cases h)⟩, Nat.le_refl _, ⟨fun _ => List.Pairwise.nil, fun _ => rfl⟩⟩
theorem pw_snoc {l : List Lq} {x : Lq} : (l ++ [x]).Pairwise (fun a b => a.sp.nu ≠ b.sp.nu) ↔ l.Pairwise (fun a b => a.sp.nu ≠ b.sp.nu) ∧ ∀ y, y ∈ l → y.sp.nu ≠ x.sp.nu := by
  rw [List.pairwise_append]
  constructor
  · rintro ⟨h1, _, h3⟩
    exact ⟨h1, fun y hy => h3 y hy x (List.mem_singleton.2 rfl)⟩
  · rintro ⟨h1, h2⟩
    exact ⟨h1, List.pairwise_singleton _ _, fun y hy z hz => by rw [List.mem_singleton.1 hz]; exact h2 y hy⟩
theorem but_lt {s : List Int} {v : Int} (h : v ∈ s) : (MU.but s v).length < s.length := by
  unfold MapT.but
  refine List.length_filter_lt_length_iff_exists.2 ⟨v, h, ?_⟩
  simp [MU]
theorem Sn.next {l : List Lq} {s : List Int} (h : Sn l s) (x : Lq) : Sn (l ++ [x]) (x.sp.nu :: MU.but s x.sp.nu) := by
  refine ⟨fun v => ?_, ?_, ?_⟩
  · rw [List.mem_cons, mem_but, h.mem]
    constructor
    · rintro (rfl | ⟨⟨y, hy, e⟩, _⟩)
      · exact ⟨x, by simp, rfl⟩
      · exact ⟨y, by simp [hy], e⟩
    · rintro ⟨y, hy, e⟩
      by_cases c : v = x.sp.nu
      · exact .inl c
      · right
        rcases List.mem_append.1 hy with hy | hy
        · exact ⟨⟨y, hy, e⟩, c⟩
        · rw [List.mem_singleton.1 hy] at e
          exact absurd e.symm c
  · have := h.le
    have h2 : (MU.but s x.sp.nu).length ≤ s.length := List.length_filter_le _ _
    rw [List.length_cons, List.length_append, List.length_singleton]
    omega
  · rw [pw_snoc, List.length_cons, List.length_append, List.length_singleton, ← h.eq]
    have hle := h.le
    by_cases c : x.sp.nu ∈ s
    · have h2 := but_lt c
      obtain ⟨y, hy, e⟩ := (h.mem _).1 c
      constructor
      · intro e; omega
      · rintro ⟨_, hn⟩
        exact absurd e (hn y hy)
    · have e1 : MU.but s x.sp.nu = s := but_all fun y hy e => c (by rw [← e]; exact hy)
      rw [e1]
      constructor
      · intro e
        exact ⟨by omega, fun y hy e => c ((h.mem _).2 ⟨y, hy, e⟩)⟩
      · rintro ⟨e, _⟩
        omega
set_option maxRecDepth 100000 in
set_option maxHeartbeats 4000000 in
theorem twice_l10 (A : Option Addr) (n c : Nat) (l : List Lq) (w : World) (h : EL.Rd w A n l) (hok : ∀ x, x ∈ l → x.ok) (hn : n ≤ 1000) :
    Calls Try.prog 42 #[.slice A n c] w fun e w' => e = .returned (.bool (dupQ l)) ∧ Below w.heap.size w w' := by
  have hmm := @run_makeMap Try.prog
  have hz := zero_l10
  have HR := Lib.hid h
  have HK := Lib.hid hok
  have HL := Lib.hid h.1
  have M0 := Lib.hid (MapT.Mp.made (M := MU) w)
  have B0 := Lib.hid (below_new w (.map #[] 0))
  clear h hok
  go_enter Try.func42, Try.ntmps42
  go_wp2_with fail
  go_loopw [9] (fun i wr => ∃ (k : Nat) (s : List Int), k ≤ n ∧ i = .int .i64 k ∧ MU.Mp wr w.heap.size s ∧ Sn (l.take k) s ∧ Below w.heap.size w wr) (fun i _ => n - (intOf i).toNat)
  case atStart => exact ⟨0, [], Nat.zero_le _, rfl, M0.out, Sn.start, B0.out⟩
  case round =>
    obtain ⟨k, s, hk, rfl, hm, hs, hb⟩ := hrel
    have HM := Lib.hid hm
    have HB := Lib.hid hb
    have HS := Lib.hid hs
    clear hm hb hs
    by_cases hlt : k < n
    case neg =>
      obtain rfl : k = n := by omega
      have hln := fun ty => HM.out.len Try.underlying89 ty
      have SN := HS.out
      rw [List.take_of_length_le (by rw [HL.out]; exact Nat.le_refl _)] at SN
      have D : Hid (decide (s.length < k) = dupQ l) := Lib.hid (by
        have h1 := SN.le
        have h2 := SN.eq
        have h3 := HL.out
        unfold dupQ
        by_cases c : s.length = l.length
        · rw [decide_eq_false (by omega), decide_eq_false (fun hc => hc (h2.1 c))]
        · rw [decide_eq_true (by omega), show decide (¬ l.Pairwise fun a b => a.sp.nu ≠ b.sp.nu) = true from decide_eq_true (fun hc => c (h2.2 hc))])
      obtain ⟨sl, hsl⟩ : ∃ sl, s.length = sl := ⟨_, rfl⟩
      rw [hsl] at hln D
      clear SN hsl
      go_wp2_with fail
      go_ret
      rw [← D.out]
      exact ⟨rfl, HB.out⟩
    case pos =>
      have hdk : decide ((k : Int) < n) = true := decide_eq_true (by omega)
      have hki : (k : Int) < (n : Int) := by omega
      obtain ⟨x, hx⟩ : ∃ x, l[k]? = some x := ⟨l[k]'(by have := HL.out; omega), List.getElem?_eq_getElem _⟩
      have OK := Lib.hid (HK.out x (List.mem_of_getElem? hx)).sp.nu
      obtain ⟨bb, o, rfl, rg⟩ := rng_l10 HR.out HB.out (Nat.le_refl _) hx
      have RG := Lib.hid rg
      have HX := Lib.hid hx
      have X1 := Lib.hid (gbx_new (E := EL) (te := 30) wr zeroLq)
      obtain ⟨W2, hW2⟩ : ∃ W2, (wr.alloc (.cells (EL.cells zeroLq).toArray 30)).setRow wr.heap.size (EL.cells x).toArray = W2 := ⟨_, rfl⟩
      have x2 : EL.Bx 30 W2 wr.heap.size x := by rw [← hW2]; exact gbx_set X1.out
      have B2 : Hid (Below wr.heap.size wr W2) := Lib.hid (by rw [← hW2]; exact below_row0 (below_new _ _) (Nat.le_refl _))
      have M2 : Hid (MU.Mp W2 w.heap.size s) := Lib.hid (HM.out.below B2.out)
      have c0 := bq_nu x2
      have HW2 := Lib.hid hW2
      have SX : Hid (Sn (l.take (k + 1)) (x.sp.nu :: MU.but s x.sp.nu)) := Lib.hid (by rw [take_l10 HX.out]; exact HS.out.next x)
      clear hx rg x2 hW2
      go_wp2_with (first | ((with_reducible refine gwl_load TL bb (o + k * 26) RG.out ?_ ?_ ?_); rfl; rfl) | (refine gwl_store TL x wr.heap.size X1.out rfl rfl ?_; rw [HW2.out]) | (at_mapUpdate; refine wpList_plain rfl fun K' hK' => wp9_put (M := MU) (.tmp 13) (.tmp 16) (.tmp 17) _ rfl Try.underlying89 rfl M2.out x.sp.nu rfl rfl OK.out ?_; intro W3 m3 f3; refine hK' _ _ ?_))
      have B3 : Hid (Below w.heap.size w W3) := Lib.hid ((HB.out.trans (B2.out.mono HB.out.size)).trans ⟨f3.b0.os, f3.b0.tape, f3.b0.output, f3.b0.size, fun j hj => f3.at' j (by have := HB.out.size; have := B2.out.size; omega) (by omega)⟩)
      have M3 := Lib.hid m3
      clear m3 f3
      go_roundw
      case rel => exact ⟨k + 1, _, hlt, by go_num, M3.out, SX.out, B3.out⟩
      case measure => simp [intOf]; omega
set_option maxRecDepth 100000 in
set_option maxHeartbeats 4000000 in
theorem margin10 (A : Option Addr) (n c : Nat) (l : List Lq) (w : World) (h : EL.Rd w A n l) (hok : ∀ x, x ∈ l → x.ok) (hn : n ≤ maxLen) :
    Calls Try.prog 20 #[.slice A n c] w fun e w' => e = .returned (.tuple #[.int .i64 (marN l), .int .i64 (marE l)]) ∧ Below w.heap.size w w' := by
  have eg : ∀ args w, (callFunc 39 args).run Try.prog w = .ok (.enter 39 args) w := fun args w => by go_simp
  have hL := h.1
  unfold maxLen at hn
  rcases marE_cases l with ⟨h1, h2⟩ | ⟨h1, ⟨x, hx, hx2⟩, h2⟩ | ⟨h1, h3, h4, h2⟩ | ⟨h1, h3, h4, h2⟩
  · have E : Hid (marN l = 0) := Lib.hid (by unfold marN; rw [h2]; rfl)
    have E2 := Lib.hid h2
    have hd : decide ((16 : Int) < (n : Int)) = true := decide_eq_true (by omega)
    clear h hok h1 h2 hL
    go_enter Try.func20, Try.ntmps20
    go_wp2_with fail
    go_ret2
    rw [E.out, E2.out]
    exact ⟨rfl, Below.refl _ _⟩
  · have E : Hid (marN l = 0) := Lib.hid (by unfold marN; rw [h2]; rfl)
    have E2 := Lib.hid h2
    have hd : decide ((16 : Int) < (n : Int)) = false := decide_eq_false (by omega)
    have C := Lib.hid (contains_l10 39 #[] notL A n c l w eg (not_l10 w) h hok (by omega))
    rw [show l.any notL = true from List.any_eq_true.2 ⟨x, hx, by unfold notL; rw [hx2]; rfl⟩] at C
    clear h hok h1 h2 hL hx hx2
    go_enter Try.func20, Try.ntmps20
    go_wp2_with fail
    refine C.out.mono ?_; rintro e w2 ⟨rfl, q2⟩
    have Q2 := Lib.hid q2
    clear q2
    go_wp2_with fail
    go_ret2
    rw [E.out, E2.out]
    exact ⟨rfl, Q2.out⟩
  · have E : Hid (marN l = 0) := Lib.hid (by unfold marN; rw [h2]; rfl)
    have E2 := Lib.hid h2
    have hd : decide ((16 : Int) < (n : Int)) = false := decide_eq_false (by omega)
    have C := Lib.hid (contains_l10 39 #[] notL A n c l w eg (not_l10 w) h hok (by omega))
    rw [show l.any notL = false from List.any_eq_false.2 fun x hx => by unfold notL; rw [h3 x hx]; decide] at C
    have T := Lib.hid fun (W : World) (q : Below w.heap.size w W) => twice_l10 A n c l W (grd_below h q (Nat.le_refl _)) hok (by omega)
    rw [h4] at T
    clear h hok h1 h2 hL h3 h4
    go_enter Try.func20, Try.ntmps20
    go_wp2_with fail
    refine C.out.mono ?_; rintro e w2 ⟨rfl, q2⟩
    have Q2 := Lib.hid q2
    clear q2
    go_wp2_with fail
    refine (T.out _ Q2.out).mono ?_; rintro e w3 ⟨rfl, q3⟩
    have Q3 := Lib.hid q3
    clear q3
    go_wp2_with fail
    go_ret2
    rw [E.out, E2.out]
    exact ⟨rfl, Q2.out.trans (Q3.out.mono Q2.out.size)⟩
  · have E : Hid (marN l = marT l) := Lib.hid (by unfold marN; rw [h2]; rfl)
    have E2 := Lib.hid h2
    have hd : decide ((16 : Int) < (n : Int)) = false := decide_eq_false (by omega)
    have C := Lib.hid (contains_l10 39 #[] notL A n c l w eg (not_l10 w) h hok (by omega))
    rw [show l.any notL = false from List.any_eq_false.2 fun x hx => by unfold notL; rw [h3 x hx]; decide] at C
    have T := Lib.hid fun (W : World) (q : Below w.heap.size w W) => twice_l10 A n c l W (grd_below h q (Nat.le_refl _)) hok (by omega)
    rw [h4] at T
    have LB := Lib.hid (show LegsB l from ⟨h1, h3⟩)
    have AL := Lib.hid fun (W : World) (q : Below w.heap.size w W) (r : Int) (hr : 0 ≤ r ∧ r ≤ 255) => along10 A n c l r W (grd_below h q (Nat.le_refl _)) ⟨h1, h3⟩ hok hr
    clear h hok h1 h2 hL h3 h4
    go_enter Try.func20, Try.ntmps20
    go_wp2_with fail
    refine C.out.mono ?_; rintro e w2 ⟨rfl, q2⟩
    have Q2 := Lib.hid q2
    clear q2
    go_wp2_with fail
    refine (T.out _ Q2.out).mono ?_; rintro e w3 ⟨rfl, q3⟩
    have Q3 := Lib.hid (Q2.out.trans (q3.mono Q2.out.size))
    clear q3
    go_wp2_with fail
    go_loopw [5, 18] (fun v i wr => ∃ (k : Nat) (m : Int), k ≤ 8 ∧ i = .int .i64 k ∧ v = .int .i64 m ∧ m = marU l k ∧ Below w.heap.size w wr) (fun _ i _ => 8 - (intOf i).toNat)
    case atStart => exact ⟨0, 0, Nat.zero_le _, rfl, rfl, rfl, Q3.out⟩
    case round =>
      obtain ⟨k, m, hk, rfl, rfl, hm, hb⟩ := hrel
      have HM := Lib.hid hm
      have HB := Lib.hid hb
      obtain ⟨m1, m2⟩ := marU_bd LB.out k
      rw [← hm] at m1 m2
      clear hm hb
      by_cases hlt : k < 8
      case neg =>
        obtain rfl : k = 8 := by omega
        go_wp2_with fail
        go_ret2
        rw [E.out, E2.out, HM.out]
        exact ⟨rfl, HB.out⟩
      case pos =>
        have hdk : decide ((k : Int) < 8) = true := decide_eq_true (by omega)
        have e8 : IntKind.u8.wrap ((k : Int) + 1) = (k : Int) + 1 := by rw [IntKind.wrap_u8]; omega
        have AX := Lib.hid (AL.out _ HB.out ((k : Int) + 1) (by omega))
        have g0 := marR_bd LB.out ((k : Int) + 1)
        have g1 := scR_bd LB.out ((k : Int) + 1)
        obtain ⟨z, hz⟩ : ∃ z, marR ((k : Int) + 1) l = z := ⟨_, rfl⟩
        rw [hz] at AX g0
        have z1 : 0 ≤ z := by omega
        have z2 : z ≤ 1600000000000000 := by omega
        have M2 : Hid (m + z = marU l (k + 1)) := Lib.hid (by rw [HM.out, ← hz]; rfl)
        clear g0 g1 hz
        go_wp2_with fail
        refine AX.out.mono ?_; rintro e w4 ⟨rfl, q4⟩
        have B4 := Lib.hid (HB.out.trans (q4.mono HB.out.size))
        clear q4
        go_wp2_with fail
        go_roundw
        case rel => exact ⟨k + 1, _, hlt, by go_num, rfl, M2.out, B4.out⟩
        case measure => simp [intOf]; omega
end Go.Proofs.Ytcpcnjiphiokjaa
