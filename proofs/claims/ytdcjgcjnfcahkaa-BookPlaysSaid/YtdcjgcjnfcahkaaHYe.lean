/- The statements' 'total' of stage 7; no function of the program's. -/
import Derived.Test.YtdcjgcjnfcahkaaG10
namespace Go.Proofs.Ytdcjgcjnfcahkaa
open Go.RowKit Go.Shelf
set_option linter.unusedVariables false
set_option linter.unusedSimpArgs false

def tot1 (b : Bool) (x : Or) : Int := if x.bu == b then x.le else 0
/-- How much is left in those that buy, or that sell. -/
def tot (b : Bool) (l : List Or) : Int := (l.map (tot1 b)).sum
theorem tot_snoc (b : Bool) (l : List Or) {k : Nat} {x : Or} (hx : l[k]? = some x) : tot b (l.take (k + 1)) = tot b (l.take k) + tot1 b x := by
  unfold tot
  rw [List.take_add_one, hx, Option.toList_some, List.map_append, List.sum_append]
  simp
theorem tot_le (b : Bool) : ∀ (l : List Or), (∀ x, x ∈ l → 0 ≤ x.le ∧ x.le ≤ 1000000) → 0 ≤ tot b l ∧ tot b l ≤ 1000000 * l.length
  | [], _ => by simp [tot]
  | x :: r, h => by
    have q := tot_le b r fun y hy => h y (List.mem_cons_of_mem _ hy)
    have hx := h x (List.mem_cons_self ..)
    have e : tot b (x :: r) = tot1 b x + tot b r := by simp [tot]
    rw [e, List.length_cons]
    unfold tot1
    split <;> omega
theorem tot_app (b : Bool) (l m : List Or) : tot b (l ++ m) = tot b l + tot b m := by
  unfold tot
  rw [List.map_append, List.sum_append]
theorem tot_same {b : Bool} : ∀ {l : List Or}, (∀ x, x ∈ l → x.bu = b) → tot b l = sumO l
  | [], _ => rfl
  | x :: r, h => by
    have e : tot b (x :: r) = tot1 b x + tot b r := by simp [tot]
    rw [e, tot_same (l := r) fun y hy => h y (List.mem_cons_of_mem _ hy), sumO_cons]
    unfold tot1
    rw [h x (List.mem_cons_self ..)]
    simp
theorem tot_none {b c : Bool} (hc : c ≠ b) : ∀ {l : List Or}, (∀ x, x ∈ l → x.bu = c) → tot b l = 0
  | [], _ => rfl
  | x :: r, h => by
    have e : tot b (x :: r) = tot1 b x + tot b r := by simp [tot]
    rw [e, tot_none hc (l := r) fun y hy => h y (List.mem_cons_of_mem _ hy)]
    unfold tot1
    rw [h x (List.mem_cons_self ..), if_neg (by simpa using hc)]
    rfl
/-- Of a book: of each side. -/
theorem tot_all {S : Sd} (h : ∀ b, InvO b (S b)) (b : Bool) : tot b S.all = sumO (S b) := by
  show tot b (S true ++ S false) = _
  rw [tot_app]
  cases b
  · rw [tot_none (c := true) (by decide) (fun x hx => ((h true).may x hx).2), tot_same (fun x hx => ((h false).may x hx).2), Int.zero_add]
  · rw [tot_none (b := true) (c := false) (by decide) (fun x hx => ((h false).may x hx).2), tot_same (fun x hx => ((h true).may x hx).2), Int.add_zero]
theorem all_le {S : Sd} (h : ∀ b, InvO b (S b)) : (∀ x, x ∈ S.all → x.ok ∧ 0 ≤ x.le ∧ x.le ≤ 1000000) ∧ S.all.length ≤ 200 := by
  refine ⟨fun x hx => ?_, ?_⟩
  · rcases List.mem_append.1 hx with hx | hx
    · have := may_le ((h _).may x hx).1
      exact ⟨(h _).ok x hx, by omega⟩
    · have := may_le ((h _).may x hx).1
      exact ⟨(h _).ok x hx, by omega⟩
  · have := (h true).len
    have := (h false).len
    show (S true ++ S false).length ≤ 200
    rw [List.length_append]; omega
set_option maxRecDepth 100000 in
set_option maxHeartbeats 2000000 in
theorem total7_any {w : World} {B : Nat} {A : Option Addr} {n c : Nat} {l : List Or} (h : EO.Own 31 w B (.slice A n c) l) (hle : ∀ x, x ∈ l → x.ok ∧ 0 ≤ x.le ∧ x.le ≤ 1000000) (hlen : l.length ≤ 200) :
    Calls Try.prog 27 #[.slice A n c] w fun e w' => e = .returned (.tuple #[.int .i64 (tot true l), .int .i64 (tot false l)]) ∧ w = w' := by
  have en : n = l.length := by
    obtain ⟨A', c', e, _⟩ := gown_form h
    injection e
  subst en
  have OW := Lib.hid h
  have LE := Lib.hid hle
  obtain ⟨m, hm⟩ : ∃ m, l.length = m := ⟨_, rfl⟩
  have HL := Lib.hid hm
  rw [hm] at hlen OW ⊢
  obtain ⟨r1, hr1⟩ : ∃ r, tot true l = r := ⟨_, rfl⟩
  obtain ⟨r2, hr2⟩ : ∃ r, tot false l = r := ⟨_, rfl⟩
  rw [hr1, hr2]
  have R1 := Lib.hid hr1
  have R2 := Lib.hid hr2
  clear h hle hm hr1 hr2
  go_enter Try.func27, Try.ntmps27
  go_wp2_with fail
  go_loopw [2, 3, 7] (fun s t i wr => ∃ k : Nat, k ≤ m ∧ i = .int .i64 k ∧ s = .int .i64 (tot true (l.take k)) ∧ t = .int .i64 (tot false (l.take k)) ∧ wr = w) (fun _ _ i _ => m - (intOf i).toNat)
  case atStart => exact ⟨0, Nat.zero_le _, rfl, rfl, rfl, rfl⟩
  case round =>
    obtain ⟨k, hk, rfl, rfl, rfl, rfl⟩ := hrel
    have htl : (l.take k).length ≤ 200 := by have := HL.out; rw [List.length_take]; omega
    have hs := tot_le true (l.take k) (fun x hx => (LE.out x (List.mem_of_mem_take hx)).2)
    have ht := tot_le false (l.take k) (fun x hx => (LE.out x (List.mem_of_mem_take hx)).2)
    by_cases hlt : k < m
    case neg =>
      obtain rfl : k = m := by omega
      have E : Hid (l.take k = l) := Lib.hid (List.take_of_length_le (by rw [HL.out]; exact Nat.le_refl _))
      have hd : decide ((k : Int) < k) = false := decide_eq_false (by omega)
      rw [E.out, R1.out, R2.out]
      go_wp2_with fail
      go_ret2
      exact ⟨rfl, rfl⟩
    case pos =>
      have hd : decide ((k : Int) < m) = true := decide_eq_true (by omega)
      have hki : (k : Int) < (m : Int) := by omega
      obtain ⟨x, hx⟩ : ∃ x, l[k]? = some x := ⟨l[k]'(by rw [HL.out]; exact hlt), List.getElem?_eq_getElem _⟩
      have own : EO.Own 31 wr B (.slice A l.length c) l := by rw [HL.out]; exact OW.out
      obtain ⟨b, c', eb⟩ := gown_slot own (by have := HL.out; omega)
      injection eb with e1 e9 e2
      clear e9
      subst e1 e2
      have d2 : wr.cell? ⟨b, k * 5 + 2, none⟩ = some (.bool x.bu) := gown_at own hx (i := 2) (by decide)
      have d4 : wr.cell? ⟨b, k * 5 + 4, none⟩ = some (.int .i64 x.le) := gown_at own hx (i := 4) (by decide)
      have S1 := Lib.hid (tot_snoc true l hx)
      have S2 := Lib.hid (tot_snoc false l hx)
      obtain ⟨xo, x1, x2⟩ := LE.out x (List.mem_of_getElem? hx)
      clear hx own xo
      unfold tot1 at S1 S2
      obtain ⟨s, hss⟩ : ∃ s, tot true (l.take k) = s := ⟨_, rfl⟩
      obtain ⟨t, htt⟩ : ∃ s, tot false (l.take k) = s := ⟨_, rfl⟩
      rw [hss] at hs S1 ⊢
      rw [htt] at ht S2 ⊢
      clear hss htt
      generalize x.le = xl at *
      generalize x.bu = xb at *
      have hs1 : -9223372036854775808 ≤ s + xl := by omega
      have hs2 : s + xl ≤ 9223372036854775807 := by omega
      have ht1 : -9223372036854775808 ≤ t + xl := by omega
      have ht2 : t + xl ≤ 9223372036854775807 := by omega
      cases xb
      all_goals
        go_wp2_with fail
        go_roundw
        case rel => exact ⟨k + 1, hlt, by go_num, by rw [S1.out]; simp, by rw [S2.out]; simp, trivial⟩
        case measure => simp [intOf]; omega
end Go.Proofs.Ytdcjgcjnfcahkaa
