/- Contracts of the document's plain side: All. -/
import Derived.Test.YtpnccbcaoifdiaaSj
namespace Go.Proofs.Ytpnccbcaoifdiaa
open Go.RowKit
set_option linter.unusedVariables false

theorem five {α : Type} {l : Array α} (h : l.size = 5) : ∃ a b c d e, l = #[a, b, c, d, e] := by
  obtain ⟨l⟩ := l
  match l, h with
  | [a, b, c, d, e], _ => exact ⟨a, b, c, d, e, rfl⟩
theorem fill_or (o : Or) (z : Value) (h : z.cells.size = EO.N) : Instr.fill (fun i => some (i * EO.N, EO.N)) ((Array.range (1 * EO.N)).map (z.cells[· % z.cells.size]!)) [(0, .agg (EO.cells o).toArray)] = some (EO.cells o).toArray := by
  obtain ⟨a, b, c, d, e, hz⟩ := five (show z.cells.size = 5 from h)
  rw [hz]
  obtain ⟨nu, ac, bu, pr, le⟩ := o
  kernel_rfl
/-- Within All: what has come, what is left. -/
structure Al6 (w : World) (B g : Nat) (v : Value) (buy : Bool) (l : List Or) (vo : Value) (out : List Or) (A : Option Addr) (n c : Nat) (rest : List Or) (W : World) : Prop where
  bl : Below w.heap.size w W
  rs : Rs W B g v buy l
  own : EO.Own 33 W w.heap.size vo out
  rd : EO.Rd W A n rest
  ok : ∀ x, x ∈ rest → x.ok
  nc : n ≤ c ∧ c ≤ 9223372036854775807
  nl : n + out.length ≤ 100
  ap : ∀ a k, A = some a → vo.ownBlock = some k → a.block ≠ k
  lt : ∀ a, A = some a → a.block < W.heap.size
  eq : out ++ sortO buy rest = sortO buy l
theorem rd_same {w W : World} {A : Option Addr} {m : Nat} {l : List Or} (h : EO.Rd w A m l) (hb : ∀ a, A = some a → W.heap[a.block]? = w.heap[a.block]?) : EO.Rd W A m l :=
  ⟨h.1, h.2.1, fun hm a e => ⟨(h.2.2 hm a e).1, fun j u hj => by
    have := (h.2.2 hm a e).2 j u hj
    unfold World.cell? at this ⊢
    rw [hb a e]
    exact this⟩⟩
theorem own_nc {w : World} {B n c : Nat} {A : Option Addr} {l : List Or} (h : EO.Own 33 w B (.slice A n c) l) : n ≤ c ∧ c ≤ 9223372036854775807 := by
  rcases h.2 with ⟨e, z⟩ | ⟨b, c1, cur, e, _⟩
  · injection e with _ e1 e2; omega
  · cases e; exact gown_cap h
set_option maxRecDepth 100000 in
set_option maxHeartbeats 4000000 in
theorem rall_any (B g : Nat) (v : Value) (buy : Bool) (l : List Or) (w : World) (h : Rs w B g v buy l) :
    Calls Try.prog 44 #[.pointer (some ⟨g, 0, none⟩)] w fun e w' => ∃ v', e = .returned v' ∧ EO.Own 33 w' w.heap.size v' (sortO buy l) ∧ Below w.heap.size w w' := by
  have k1 := h.c1
  obtain ⟨A, c, rfl, hAc⟩ := gown_form h.own
  have hle := h.le
  obtain ⟨m, hm⟩ : ∃ m, l.length = m := ⟨_, rfl⟩
  have ST : Hid (Al6 w B g (.slice A l.length c) buy l (.slice none 0 0) [] A l.length c l w) := Lib.hid ⟨Below.refl _ _, h, gown_nil _ _, gown_rd h.own, h.ok, by
    cases A with
    | none =>
      have hc := hAc rfl
      rcases h.own.2 with ⟨e, z⟩ | ⟨b, c1, cur, e, _⟩
      · rw [z, hc]; omega
      · cases e
    | some a =>
      rcases h.own.2 with ⟨e, z⟩ | ⟨b, c1, cur, e, _⟩
      · cases e
      · cases e; exact gown_cap h.own, (by simpa using hle), (fun a k e q => by cases q), (fun a e => by subst e; exact (gown_lt h.own rfl).2), (by simp)⟩
  rw [hm] at k1 hle ST
  clear h hm
  go_enter Try.func44, Try.ntmps44
  go_wp2_with fail
  go_loopw [3, 4, 5] (fun o r _ wr => ∃ (Ao : Option Addr) (no co : Nat) (out : List Or) (Ar : Option Addr) (n cr : Nat) (rest : List Or), o = .slice Ao no co ∧ r = .slice Ar n cr ∧ Al6 w B g (.slice A m c) buy l (.slice Ao no co) out Ar n cr rest wr) (fun _ r _ _ => match r with | .slice _ n _ => n | _ => 0)
  case atStart => exact ⟨none, 0, 0, [], A, m, c, l, rfl, rfl, ST.out⟩
  case round =>
    obtain ⟨Ao, no, co, out, Ar, n, cr, rest, rfl, rfl, hA⟩ := hrel
    have AL := Lib.hid hA
    have c0 := hA.rs.c0
    have hrl := hA.rd.1
    have hnl := hA.nl
    clear hA
    by_cases hn : 0 < n
    case neg =>
      obtain rfl : n = 0 := by omega
      have er : rest = [] := List.eq_nil_of_length_eq_zero hrl
      subst er
      go_wp2_with fail
      go_ret
      have e := AL.out.eq
      rw [show sortO buy [] = [] from rfl, List.append_nil] at e
      exact ⟨_, rfl, by rw [← e]; exact AL.out.own, AL.out.bl⟩
    case pos =>
      have hd : decide ((0 : Int) < (n : Int)) = true := decide_eq_true (by omega)
      obtain ⟨k, x, hf, hx, hsel⟩ := sort_sel buy rest (fun e => by rw [e] at hrl; simp at hrl; omega)
      have FS := rfst_any buy Ar n cr rest wr AL.out.rd AL.out.ok (by omega)
      rw [hf] at FS
      have hk := (List.getElem?_eq_some_iff.1 hx).1
      have hkn : k < n := by omega
      have hki : (k : Int) < (n : Int) := by omega
      have hk0 : decide ((k : Int) < 0) = false := decide_eq_false (by omega)
      obtain ⟨b, o, rfl, _⟩ := grd_rng AL.out.rd hx
      have HX := Lib.hid hx
      have HS := Lib.hid hsel
      have RL := Lib.hid hrl
      clear hf hx hsel
      go_wp2_with fail
      refine FS.mono ?_; rintro e w1 ⟨rfl, q1⟩
      have Q1 := Lib.hid q1
      have RG : Hid (w1.rangeAt b (o + k * 5) (EO.cells x)) := Lib.hid (by
        obtain ⟨b', o', e, r⟩ := grd_rng (grd_below AL.out.rd q1 (Nat.le_refl _)) HX.out
        cases e; exact r)
      have OW : Hid (EO.Own 33 (w1.alloc (.cells (EO.cells x).toArray 33)) w.heap.size (.slice Ao no co) out) := Lib.hid (gown_below (gown_below AL.out.own q1) (below_new w1 _))
      have RX := Lib.hid (gbx_rd (gbx_new (E := EO) (te := 33) w1 x))
      have SZ : Hid (w.heap.size ≤ w1.heap.size) := Lib.hid (Nat.le_trans AL.out.bl.size q1.size)
      clear q1
      go_wp2_with (first
        | ((with_reducible refine gwl_load TO b (o + k * 5) RG.out ?_ ?_ ?_); rfl; rfl)
        | (refine gwl_bs TO (s := x) rfl (fill_or x) ?_ (by decide))
        | (at_builtin; refine gpl_app TO rfl (.tmp 19) (.tmp 24) rfl w.heap.size (.slice Ao no co) out rfl OW.out (some ⟨w1.heap.size, 0, none⟩) 1 1 [x] rfl RX.out (fun e => by cases e) (by omega) (by have := SZ.out; simp; omega) ?_; intro v2 w2 o2 g2 a2; obtain ⟨A2, n2, c2, rfl⟩ := gown_any o2; have O2 := Lib.hid o2; have G2 := Lib.hid g2; have T2 := Lib.hid a2; clear o2 g2 a2))
      have f : Fr (fun k => (Value.slice Ao no co).ownBlock = some k) wr w2 := (Fr.below (Q1.out.trans ((below_new w1 _).mono Q1.out.size))).same (Fr.grown G2.out (fun k e => e))
      have OB : ∀ k, (Value.slice Ao no co).ownBlock = some k → w.heap.size ≤ k := fun k e => (gown_lt AL.out.own e).1
      have b2 : Below w.heap.size w w2 := (AL.out.bl.trans ((Q1.out.trans ((below_new w1 _).mono Q1.out.size)).mono AL.out.bl.size)).grown G2.out (by simp; have := SZ.out; omega) OB
      have r2 : Rs w2 B g (.slice A m c) buy l := AL.out.rs.keep f (fun e => by have := OB g e; have := ST.out.rs.gl; omega) (fun j hj e => by have := OB j e; have := (gown_lt ST.out.rs.own hj).2; omega)
      have d2 : EO.Rd w2 (some ⟨b, o, none⟩) n rest := rd_same AL.out.rd fun a e => f.at' _ (AL.out.lt a e) (fun c => AL.out.ap a a.block e c rfl)
      refine (rwo_any (some ⟨b, o, none⟩) n cr k rest w2 d2 (by omega) hkn AL.out.nc).mono ?_; rintro e w3 ⟨v3, rfl, o3, q3⟩
      obtain ⟨A3, n3, c3, rfl⟩ := gown_any o3
      have e3 : n3 = n - 1 := by
        have h1 := (gown_rd o3).1
        rw [List.length_eraseIdx, if_pos hk, hrl] at h1
        omega
      have AL3 : Hid (Al6 w B g (.slice A m c) buy l (.slice A2 n2 c2) (out ++ [x]) A3 n3 c3 (rest.eraseIdx k) w3) := Lib.hid ⟨b2.trans (q3.mono b2.size), r2.below q3, gown_below O2.out q3, gown_rd o3, fun y hy => AL.out.ok y (List.mem_of_mem_eraseIdx hy), own_nc o3, by rw [List.length_append, e3]; simp; omega, fun a j e1 e2 => by
        subst e1
        have h1 := (gown_lt o3 (k := a.block) rfl).1
        have h2 := (gown_lt O2.out e2).2
        omega, fun a e1 => by subst e1; exact (gown_lt o3 (k := a.block) rfl).2, by rw [List.append_assoc, List.singleton_append, ← HS.out]; exact AL.out.eq⟩
      have E3 := Lib.hid e3
      clear f OB b2 r2 d2 o3 q3 e3
      go_wp2_with fail
      go_roundw
      case rel => exact ⟨A2, n2, c2, out ++ [x], A3, n3, c3, rest.eraseIdx k, rfl, rfl, AL3.out⟩
      case measure =>
        have := E3.out
        simp only
        omega
end Go.Proofs.Ytpnccbcaoifdiaa
