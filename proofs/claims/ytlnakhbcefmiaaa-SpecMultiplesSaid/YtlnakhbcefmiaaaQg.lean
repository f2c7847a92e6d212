/- Plain facts on the form of a contract's data; no program's function. -/
import Derived.Test.YtlnakhbcefmiaaaQd
import Derived.Test.YtlnakhbcefmiaaaBy
namespace Go.Proofs.Ytlnakhbcefmiaaa
open Go.RowKit

/-- The form, piece by piece. -/
def six (s : Sp) : List Int := nb s.nu.toNat ++ nb s.ro.toNat ++ nb s.ti.toNat ++ nb s.lo.toNat ++ nb s.ba.toNat ++ nb s.li.toNat
def shF (l : List Int) : List Int := l.flatMap ib
def form (s : Sp) : List Int := six s ++ shF s.sh ++ nb s.cr.toNat ++ nb s.la.toNat ++ nb s.fi.toNat
theorem shF_snoc (l : List Int) (x : Int) : shF (l ++ [x]) = shF l ++ ib x := by simp [shF]
theorem ib_by (i : Int) : By (ib i) := by
  unfold ib
  split <;> exact nb_by _
theorem By.app {a b : List Int} (h : By a) (k : By b) : By (a ++ b) := fun x hx => (List.mem_append.1 hx).elim (h x) (k x)
theorem shF_by : ∀ l, By (shF l)
  | [] => by intro x hx; simp [shF] at hx
  | y :: l => by
    have e : shF (y :: l) = ib y ++ shF l := by simp [shF]
    rw [e]
    exact (ib_by y).app (shF_by l)
theorem form_by (s : Sp) : By (form s) := by
  unfold form six
  exact ((((((((((nb_by _).app (nb_by _)).app (nb_by _)).app (nb_by _)).app (nb_by _)).app (nb_by _)).app (shF_by _)).app (nb_by _)).app (nb_by _)).app (nb_by _))
theorem ib_len {i : Int} (h : I64 i) : (ib i).length ≤ 10 := by
  obtain ⟨h1, h2⟩ := h
  unfold ib
  split
  · exact nb_ten (by omega)
  · exact nb_ten (by omega)
theorem shF_len : ∀ l : List Int, (∀ x, x ∈ l → I64 x) → (shF l).length ≤ 10 * l.length
  | [], _ => by simp [shF]
  | y :: l, h => by
    have e : shF (y :: l) = ib y ++ shF l := by simp [shF]
    have h1 := ib_len (h y (by simp))
    have h2 := shF_len l (fun x hx => h x (by simp [hx]))
    rw [e, List.length_append, List.length_cons]
    omega
theorem six_len {s : Sp} (h : s.ok) : (six s).length ≤ 60 := by
  have h1 := nb_ten (n := s.nu.toNat) (by have := h.nu; omega)
  have h2 := nb_ten (n := s.ro.toNat) (by have := h.ro; omega)
  have h3 := nb_ten (n := s.ti.toNat) (by have := h.ti.2; omega)
  have h4 := nb_ten (n := s.lo.toNat) (by have := h.lo.2; omega)
  have h5 := nb_ten (n := s.ba.toNat) (by have := h.ba.2; omega)
  have h6 := nb_ten (n := s.li.toNat) (by have := h.li.2; omega)
  unfold six
  simp only [List.length_append]
  omega
theorem form_len {s : Sp} (h : s.ok) : (form s).length ≤ 250 := by
  have h0 := six_len h
  have h1 := nb_ten (n := s.cr.toNat) (by have := h.cr.2; omega)
  have h2 := nb_ten (n := s.la.toNat) (by have := h.la.2; omega)
  have h3 := nb_ten (n := s.fi.toNat) (by have := h.fi.2; omega)
  have h4 := shF_len s.sh h.sh
  rw [h.len] at h4
  unfold form
  simp only [List.length_append]
  omega
end Go.Proofs.Ytlnakhbcefmiaaa
