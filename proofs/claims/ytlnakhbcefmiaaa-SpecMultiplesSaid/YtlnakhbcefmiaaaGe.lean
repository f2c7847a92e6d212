/- A contract's data read field by field: what stands in memory meanwhile, and what has been read; the program's calls on its reader, in these words. -/
import Derived.Test.YtlnakhbcefmiaaaQh
import Derived.Test.YtlnakhbcefmiaaaVr
namespace Go.Proofs.Ytlnakhbcefmiaaa
open Go.RowKit

def fmax (i : Nat) : Int := if i = 0 then 4294967295 else if i = 1 then 255 else if i = 7 then 4294967295 else 9223372036854775807
def i63 : Int := 9223372036854775807
/-- The field that the k-th of four numbers goes to. -/
def setK (s : Sp) (x : Int) : Nat → Sp
  | 0 => { s with ti := x }
  | 1 => { s with lo := x }
  | 2 => { s with ba := x }
  | _ => { s with li := x }
def getK (s : Sp) : Nat → Int
  | 0 => s.ti
  | 1 => s.lo
  | 2 => s.ba
  | _ => s.li
theorem getK_at (s : Sp) (k : Nat) (h : k < 4) : s.cells[2 + k]? = some (.int .i64 (getK s k)) := by
  match k, h with
  | 0, _ => exact s.c2
  | 1, _ => exact s.c3
  | 2, _ => exact s.c4
  | 3, _ => exact s.c5
theorem setK_at (s : Sp) (k : Nat) (h : k < 4) (x : Int) : s.cells.setIfInBounds (2 + k) (.int .i64 x) = (setK s x k).cells := by
  match k, h with
  | 0, _ => exact set2 x
  | 1, _ => exact set3 x
  | 2, _ => exact set4 x
  | 3, _ => exact set5 x
theorem setK_sh (s : Sp) (k : Nat) (x : Int) : (setK s x k).sh = s.sh := by
  match k with
  | 0 => rfl
  | 1 => rfl
  | 2 => rfl
  | _ + 3 => rfl
theorem setK_ok {s : Sp} (h : s.ok) {x : Int} (hx : I64 x) (k : Nat) : (setK s x k).ok := by
  match k with
  | 0 => exact ⟨h.nu, h.ro, hx, h.lo, h.ba, h.li, h.len, h.sh, h.cr, h.la, h.fi⟩
  | 1 => exact ⟨h.nu, h.ro, h.ti, hx, h.ba, h.li, h.len, h.sh, h.cr, h.la, h.fi⟩
  | 2 => exact ⟨h.nu, h.ro, h.ti, h.lo, hx, h.li, h.len, h.sh, h.cr, h.la, h.fi⟩
  | _ + 3 => exact ⟨h.nu, h.ro, h.ti, h.lo, h.ba, hx, h.len, h.sh, h.cr, h.la, h.fi⟩
theorem setS_ok {s : Sp} (h : s.ok) {x : Int} (hx : I64 x) (k : Nat) : ({ s with sh := s.sh.set k x } : Sp).ok :=
  ⟨h.nu, h.ro, h.ti, h.lo, h.ba, h.li, (List.length_set).trans h.len, fun y hy => (List.mem_or_eq_of_mem_set hy).elim (h.sh y) (fun e => e ▸ hx), h.cr, h.la, h.fi⟩
/-- So many of the four numbers are read; so many of the shifts. -/
def stF (s : Sp) (b : List Int) (e : Int) : Nat → Sp × List Int × Int
  | 0 => (s, b, e)
  | k + 1 => (setK (stF s b e k).1 (sR (stF s b e k).2.1 (stF s b e k).2.2 i63).1 k, (sR (stF s b e k).2.1 (stF s b e k).2.2 i63).2)
def shS (s : Sp) (b : List Int) (e : Int) : Nat → Sp × List Int × Int
  | 0 => (s, b, e)
  | k + 1 => ({ (shS s b e k).1 with sh := (shS s b e k).1.sh.set k (iR (shS s b e k).2.1 (shS s b e k).2.2).1 }, (iR (shS s b e k).2.1 (shS s b e k).2.2).2)
theorem shS_eq (s : Sp) (b : List Int) (e : Int) (h : s.sh.length = 16) : ∀ k, k ≤ 16 → shS s b e k = ({ s with sh := (iRs b e k).1 ++ s.sh.drop k }, (iRs b e k).2)
  | 0, _ => by simp [shS, iRs]
  | k + 1, hk => by
    have ih := shS_eq s b e h k (by omega)
    have hl := iRs_len b e k
    simp only [shS, ih, iRs]
    congr 2
    rw [List.set_append, if_neg (by omega), hl, Nat.sub_self]
    have hd : s.sh.drop k = s.sh[k]'(by omega) :: s.sh.drop (k + 1) := List.drop_eq_getElem_cons (by omega)
    rw [hd, List.set_cons_zero, List.append_assoc, List.singleton_append]
theorem tS_steps {bs b1 b2 b3 b4 b6 b7 b8 : List Int} {e e1 e2 e3 e4 e6 e7 e8 v0 v1 v6 v7 v8 : Int} {s3 s4 : Sp}
    (h0 : sR bs e 4294967295 = (v0, b1, e1)) (h1 : sR b1 e1 255 = (v1, b2, e2)) (h2 : stF { zeroSp with nu := v0, ro := v1 } b2 e2 4 = (s3, b3, e3)) (h3 : shS s3 b3 e3 16 = (s4, b4, e4))
    (h6 : sR b4 e4 i63 = (v6, b6, e6)) (h7 : sR b6 e6 4294967295 = (v7, b7, e7)) (h8 : sR b7 e7 i63 = (v8, b8, e8)) :
    tS fmax bs e = ({ s4 with cr := v6, la := v7, fi := v8 }, b8, e8) := by
  have hs : s3.sh.length = 16 := by
    have : s3 = (stF { zeroSp with nu := v0, ro := v1 } b2 e2 4).1 := by rw [h2]
    rw [this]
    simp only [stF, setK_sh]
    rfl
  rw [shS_eq s3 b3 e3 hs 16 (Nat.le_refl _)] at h3
  rw [List.drop_of_length_le (by omega), List.append_nil] at h3
  obtain ⟨h3a, h3b⟩ := Prod.mk.inj h3
  unfold tS
  simp only [show fmax 0 = 4294967295 from rfl, show fmax 1 = 255 from rfl, show fmax 2 = i63 from rfl, show fmax 3 = i63 from rfl, show fmax 4 = i63 from rfl, show fmax 5 = i63 from rfl, show fmax 6 = i63 from rfl, show fmax 7 = 4294967295 from rfl, show fmax 8 = i63 from rfl, h0, h1]
  simp only [stF, setK] at h2
  obtain ⟨h2a, h2b⟩ := Prod.mk.inj h2
  subst h2a
  simp only [h2b, h3b, h6, h7, h8]
  subst h3a
  simp
theorem i64_of {x : Int} (h : 0 ≤ x) (k : x ≤ i63) : I64 x := ⟨by omega, k⟩
theorem cell_heap {W W' : World} {b : Nat} (h : W'.heap[b]? = W.heap[b]?) (j : Nat) : W'.cell? ⟨b, j, none⟩ = W.cell? ⟨b, j, none⟩ := by
  unfold World.cell?
  rw [h]
theorem Tk.done {w W : World} {g g3 n0 : Nat} {A0 : Option Addr} {s : Sp} {bs : List Int} {e : Int} (h : Tk w g g3 n0 A0 W s bs e) {r : Nat} (hr : w.heap.size ≤ r) (cs : Array Value) : Dd w g A0 bs e (W.setRow r cs) := by
  obtain ⟨⟨A, n, c, rq, hA⟩, old, len, new, box, gr⟩ := h
  refine ⟨⟨A, n, c, ⟨(setRow_other W r g cs (by omega)).trans rq.b, ⟨rq.r.1, fun hn => ?_⟩, rq.nc⟩, hA⟩, ?_⟩
  · obtain ⟨b, o, e1, hc⟩ := rq.r.2 hn
    refine ⟨b, o, e1, fun i hi => ?_⟩
    obtain ⟨a0, h1, h2⟩ := hA _ e1
    have hb : b < w.heap.size := by
      have := old.2 a0 h1 (by have := rq.r.1; omega)
      have h3 : b = a0.block := h2
      omega
    rw [cell_heap (setRow_other W r b cs (by omega))]
    exact hc i hi
  · exact ⟨gr.os, gr.tape, gr.output, by rw [size_setRow]; exact gr.size, fun k hk hne => (setRow_other W r k cs (by omega)).trans (gr.block k hk hne)⟩
/-- Blocks that were there stay, but for two. -/
structure Stay (g g3 : Nat) (W0 W : World) : Prop where
  size : W0.heap.size ≤ W.heap.size
  block : ∀ k, k < W0.heap.size → k ≠ g → k ≠ g3 → W.heap[k]? = W0.heap[k]?
theorem Stay.refl (g g3 : Nat) (W : World) : Stay g g3 W W := ⟨Nat.le_refl _, fun _ _ _ _ => rfl⟩
theorem Stay.trans {g g3 : Nat} {W0 W1 W2 : World} (h : Stay g g3 W0 W1) (k : Stay g g3 W1 W2) : Stay g g3 W0 W2 :=
  ⟨Nat.le_trans h.size k.size, fun i hi a b => (k.block i (Nat.lt_of_lt_of_le hi h.size) a b).trans (h.block i hi a b)⟩
theorem Stay.grown {g g3 : Nat} {W0 W1 W2 : World} (h : Stay g g3 W0 W1) (k : W1.grownBy W2 (some g)) : Stay g g3 W0 W2 :=
  h.trans ⟨k.size, fun i hi a _ => k.block i hi (by intro c; cases c; exact a rfl)⟩
theorem Stay.put {g g3 : Nat} {W0 W1 : World} (h : Stay g g3 W0 W1) (j : Nat) (v : Value) : Stay g g3 W0 (W1.setCell ⟨g3, j, none⟩ v) :=
  h.trans ⟨by simp, fun i _ _ b => heap_setCell_other _ _ _ _ b⟩
theorem Stay.below {g g3 : Nat} {W0 W1 W2 : World} (h : Stay g g3 W0 W1) (b : Below W1.heap.size W1 W2) : Stay g g3 W0 W2 :=
  h.trans ⟨b.size, fun i hi _ _ => b.block i hi⟩
structure St (w W0 : World) (g g3 n0 : Nat) (A0 : Option Addr) (W : World) (s : Sp) (bs : List Int) (e : Int) : Prop where
  tk : Tk w g g3 n0 A0 W s bs e
  st : Stay g g3 W0 W
  by_ : By bs
  small : n0 ≤ 200000
section
variable {w W0 W W' : World} {g g3 n0 : Nat} {A0 : Option Addr} {s s' : Sp} {bs bs' : List Int} {e e' : Int}
theorem St.call (h : St w W0 g g3 n0 A0 W s bs e) {A : Option Addr} (hA : ∀ a, A = some a → ∃ a0, A0 = some a0 ∧ a.block = a0.block) (d : Dd W g A bs' e' W') (hy : By bs') (hl : bs'.length ≤ bs.length) : St w W0 g g3 n0 A0 W' s bs' e' :=
  ⟨h.tk.call hA d hl, h.st.grown d.2, hy, h.small⟩
theorem St.put (h : St w W0 g g3 n0 A0 W s bs e) {j : Nat} {v : Value} (hl : s'.sh.length = 16) (eq : s.cells.setIfInBounds j v = s'.cells) : St w W0 g g3 n0 A0 (W.setCell ⟨g3, j, none⟩ v) s' bs e :=
  ⟨h.tk.put hl eq, h.st.put j v, h.by_, h.small⟩
theorem St.below (h : St w W0 g g3 n0 A0 W s bs e) (b : Below W.heap.size W W') : St w W0 g g3 n0 A0 W' s bs e := by
  obtain ⟨⟨⟨A, n, c, rq, hA⟩, old, len, new, box, gr⟩, st, hy, hs⟩ := h
  refine ⟨⟨⟨A, n, c, rq.below b, hA⟩, old, len, new, box.below b, ?_⟩, st.below b, hy, hs⟩
  exact ⟨b.os.trans gr.os, b.tape.trans gr.tape, b.output.trans gr.output, Nat.le_trans gr.size b.size, fun k hk hne => (b.block k (Nat.lt_of_lt_of_le hk gr.size)).trans (gr.block k hk hne)⟩
theorem St.base (h : St w W0 g g3 n0 A0 W s bs e) : St w W g g3 n0 A0 W s bs e := ⟨h.tk, Stay.refl _ _ _, h.by_, h.small⟩
theorem St.smallC (T : St w W0 g g3 n0 A0 W s bs e) (most : Int) : Calls Try.prog 42 #[.pointer (some ⟨g, 0, none⟩), .int .u64 most] W fun E W' => E = .returned (.int .u64 (sR bs e most).1) ∧ St w W0 g g3 n0 A0 W' s (sR bs e most).2.1 (sR bs e most).2.2 := by
  obtain ⟨A, n, c, rq, hA⟩ := T.tk.rq
  have hn : n ≤ 200000 := by have h1 := rq.r.1; have h2 := T.tk.len; have h3 := T.small; omega
  have NB := sR_by T.by_ e most
  refine (small_any g n c A bs e most _ rq T.by_ hn).mono ?_
  rintro E W' ⟨rfl, d⟩
  exact ⟨rfl, T.call hA d NB.1 NB.2⟩
theorem St.intC (T : St w W0 g g3 n0 A0 W s bs e) : Calls Try.prog 44 #[.pointer (some ⟨g, 0, none⟩)] W fun E W' => E = .returned (.int .i64 (iR bs e).1) ∧ St w W0 g g3 n0 A0 W' s (iR bs e).2.1 (iR bs e).2.2 := by
  obtain ⟨A, n, c, rq, hA⟩ := T.tk.rq
  have hn : n ≤ 200000 := by have h1 := rq.r.1; have h2 := T.tk.len; have h3 := T.small; omega
  have NB := iR_by T.by_ e
  refine (int_any g n c A bs e _ rq T.by_ hn).mono ?_
  rintro E W' ⟨rfl, d⟩
  exact ⟨rfl, T.call hA d NB.1 NB.2⟩
set_option maxRecDepth 100000 in
theorem St.natC (T : St w W0 g g3 n0 A0 W s bs e) : Calls Try.prog 43 #[.pointer (some ⟨g, 0, none⟩)] W fun E W' => E = .returned (.int .i64 (sR bs e i63).1) ∧ St w W0 g g3 n0 A0 W' s (sR bs e i63).2.1 (sR bs e i63).2.2 := by
  have MB := sR_most T.by_ e (m := i63) (by decide)
  have C := Lib.hid (T.smallC i63)
  obtain ⟨⟨v, b', e'⟩, hr⟩ : ∃ r, sR bs e i63 = r := ⟨_, rfl⟩
  rw [hr] at MB C ⊢
  dsimp only at MB C ⊢
  obtain ⟨m1, m2⟩ := MB
  unfold i63 at m2 C
  clear T hr
  go_enter Try.func43, Try.ntmps43
  go_wp2_with fail
  refine C.out.mono ?_; rintro e0 W1 ⟨rfl, t⟩
  have T := Lib.hid t
  clear t C
  go_wp2_with fail
  go_ret
  exact ⟨rfl, T.out⟩
end
end Go.Proofs.Ytlnakhbcefmiaaa
