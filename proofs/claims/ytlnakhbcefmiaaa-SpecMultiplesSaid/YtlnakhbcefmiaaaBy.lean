/- Plain facts on lists of bytes in memory, as text, and on the forms of numbers. -/
import Derived.WalkKit
import Derived.Lib.Hide
import Derived.Laws.BytesArg
import Derived.Deep.AppendLies
import Derived.Deep.MidRow
import Derived.Test.YtlnakhbcefmiaaaProg
namespace Go.Proofs.Ytlnakhbcefmiaaa
open Go.RowKit

/-- A list of bytes that stands in memory. -/
def RdB (w : World) (A : Option Addr) (n : Nat) (bs : List Int) : Prop :=
  bs.length = n ∧ (0 < n → ∃ b o, A = some ⟨b, o, none⟩ ∧ ∀ j, j < n → w.cell? ⟨b, o + j, none⟩ = some (.int .u8 (bs.getD j 0)))
theorem RdB.below {w w' : World} {A : Option Addr} {n : Nat} {bs : List Int} (h : RdB w A n bs) (b : Below w.heap.size w w') : RdB w' A n bs :=
  ⟨h.1, fun hn => by
    obtain ⟨g, o, e, hc⟩ := h.2 hn
    exact ⟨g, o, e, fun j hj => (b.cell (p := ⟨g, o + j, none⟩) (World.block_lt_of_cell? w _ (hc j hj))).trans (hc j hj)⟩⟩
theorem rdb_none (w : World) : RdB w none 0 [] := ⟨rfl, fun h => absurd h (Nat.lt_irrefl 0)⟩

/-- The text of a list of bytes. -/
theorem str_append (a b : List Int) : strOfNums (a ++ b) = strOfNums a ++ strOfNums b := by
  simp [strOfNums, ByteArray.ext_iff]
theorem str_len (a : List Int) : (strOfNums a).size = a.length := strOfNums_size a
def By (a : List Int) : Prop := ∀ x, x ∈ a → 0 ≤ x ∧ x ≤ 255
theorem str_inj {a b : List Int} (ha : By a) (hb : By b) (h : strOfNums a = strOfNums b) : a = b := by
  have e : a.map (fun n => UInt8.ofNat n.toNat) = b.map fun n => UInt8.ofNat n.toNat := by
    rw [← strOfNums_data, ← strOfNums_data, h]
  clear h
  induction a generalizing b with
  | nil => cases b with
    | nil => rfl
    | cons y b => simp at e
  | cons x a ih => cases b with
    | nil => simp at e
    | cons y b =>
      simp only [List.map_cons, List.cons.injEq] at e
      have hx := ha x (by simp)
      have hy := hb y (by simp)
      have e1 : x = y := by
        have := congrArg UInt8.toNat e.1
        simp only [UInt8.toNat_ofNat'] at this
        omega
      rw [e1, ih (fun z hz => ha z (by simp [hz])) (fun z hz => hb z (by simp [hz])) e.2]
theorem conv_any {w : World} {A : Option Addr} {n c : Nat} {bs : List Int} (h : RdB w A n bs) : (convert 30 9 (.slice A n c)).run Try.prog w = .ok (.string (strOfNums bs)) w := by
  rcases Nat.eq_zero_or_pos n with e | e
  · subst e
    have : bs = [] := List.eq_nil_of_length_eq_zero h.1
    subst this
    cases A with
    | none => exact run_convert_bytes_nil w 30 5 Try.underlying30 Try.underlying5 0 c 9 Try.underlying9
    | some a => exact run_convert_bytes_back w 30 9 5 a c [] Try.underlying30 Try.underlying5 Try.underlying9 (fun j hj => absurd hj (Nat.not_lt_zero j))
  · obtain ⟨b, o, rfl, hc⟩ := h.2 e
    exact run_convert_bytes_arg (P := Try.prog) w 30 5 Try.underlying30 Try.underlying5 b o n c bs h.1 hc 9 Try.underlying9

/-- A natural number's form. -/
def nb (n : Nat) : List Int := if _h : n < 128 then [(n : Int)] else (((n % 128 : Nat) : Int) + 128) :: nb (n / 128)
termination_by n
theorem nb_small {n : Nat} (h : n < 128) : nb n = [(n : Int)] := by rw [nb, dif_pos h]
theorem nb_big {n : Nat} (h : 128 ≤ n) : nb n = (((n % 128 : Nat) : Int) + 128) :: nb (n / 128) := by rw [nb, dif_neg (by omega)]
/-- A whole number's form; a flag's; a text's. -/
def ib (n : Int) : List Int := if 0 ≤ n then nb (2 * n).toNat else nb (2 * (-(n + 1)) + 1).toNat
def fb (f : Bool) : List Int := if f then [1] else [0]
def tb (bs : List Int) : List Int := nb bs.length ++ bs
theorem nb_pos : ∀ n, 0 < (nb n).length := fun n => by
  by_cases h : n < 128
  · rw [nb_small h]; exact Nat.one_pos
  · rw [nb_big (by omega)]; simp
theorem nb_by (n : Nat) : By (nb n) := by
  induction n using Nat.strongRecOn with
  | _ n ih =>
    by_cases h : n < 128
    · rw [nb_small h]
      intro x hx
      simp at hx
      omega
    · rw [nb_big (by omega)]
      intro x hx
      rcases List.mem_cons.1 hx with rfl | hx
      · omega
      · exact ih (n / 128) (by omega) x hx
theorem nb_len : ∀ (k : Nat) (n : Nat), n < 128 ^ (k + 1) → (nb n).length ≤ k + 1
  | 0, n, h => by rw [nb_small (by simpa using h)]; simp
  | k + 1, n, h => by
    by_cases h1 : n < 128
    · rw [nb_small h1]; simp
    · rw [nb_big (by omega)]
      have := nb_len k (n / 128) (by rw [Nat.pow_succ] at h; omega)
      simp; omega
theorem nb_ten {n : Nat} (h : n < 18446744073709551616) : (nb n).length ≤ 10 := nb_len 9 n (Nat.lt_of_lt_of_le h (by decide))

theorem info_u8 : (Try.prog.info? 5).map (fun i => (i.zero, i.size, i.bytes)) = some (some (.int .u8 0), 1, 1) := by kernel_rfl
/-- A list of bytes in memory that is new since w0. -/
structure New (w0 W : World) (v : Value) (bs : List Int) : Prop where
  o : W.ownsRow w0.heap.size 5 1 v bs.length (bs.map (Value.int .u8))
  q : Below w0.heap.size w0 W
theorem New.rd {w0 W : World} {v : Value} {bs : List Int} (h : New w0 W v bs) : ∃ A c, v = .slice A bs.length c ∧ RdB W A bs.length bs := by
  rcases h.o.2 with ⟨e1, e2⟩ | ⟨g, cap, cur, e1, _, _⟩
  · exact ⟨none, 0, by rw [e1, e2], rfl, fun hn => absurd hn (by omega)⟩
  · have o := h.o
    rw [e1] at o
    refine ⟨some ⟨g, 0, none⟩, cap, e1, rfl, fun _ => ⟨g, 0, rfl, fun j hj => ?_⟩⟩
    rw [Nat.zero_add, o.cellAt j (by omega)]
    simp [List.getD, hj]
theorem New.below {w0 W W' : World} {v : Value} {bs : List Int} (h : New w0 W v bs) (b : Below W.heap.size W W') : New w0 W' v bs :=
  ⟨h.o.kept (row := none) ⟨b.os, b.tape, b.output, b.size, fun i hi _ => b.block i hi⟩ (by cases v.ownBlock <;> simp), h.q.trans (b.mono h.q.size)⟩
theorem news_rd {W : World} {a : Addr} {n : Nat} {bs : List Int} (h : RdB W (some a) n bs) : ∀ j u, (bs.map (Value.int .u8))[j]? = some u → W.cell? (a.add j) = some u := by
  intro j u hj
  have hjl : j < bs.length := by have := (List.getElem?_eq_some_iff.1 hj).1; simpa using this
  obtain ⟨b, o, e, hc⟩ := h.2 (by have := h.1; omega)
  cases e
  rw [Addr.add_mid, hc j (by have := h.1; omega), ← hj]
  simp [List.getD, hjl]
theorem one_u8 (bs : List Int) : ∀ u ∈ bs.map (Value.int .u8), u.oneCell' = true := by
  intro u hu
  obtain ⟨z, _, rfl⟩ := List.mem_map.1 hu
  rfl
end Go.Proofs.Ytlnakhbcefmiaaa
