/- A contract built, and a list of one; what List of the plain calendar leaves. -/
import Derived.Test.YtejhnfkljfdejaaKa
import Derived.Test.YtejhnfkljfdejaaKv
import Derived.Test.YtejhnfkljfdejaaKt
namespace Go.Proofs.Ytejhnfkljfdejaa
open Go.RowKit

theorem sixteen {α : Type} {l : List α} (h : l.length = 16) : ∃ a b c d e f g i j k m n o p q r, l = [a, b, c, d, e, f, g, i, j, k, m, n, o, p, q, r] := by
  match l, h with
  | [a, b, c, d, e, f, g, i, j, k, m, n, o, p, q, r], _ => exact ⟨a, b, c, d, e, f, g, i, j, k, m, n, o, p, q, r, rfl⟩
theorem built_ct {s : Sp} (h : s.sh.length = 16) (t p : Int) : Try.prog.built 45 [(0, .agg s.cells), (1, .int .u8 t), (2, .int .i64 p)] = some (Ct.mk s t p).cells := by
  obtain ⟨nu, ro, ti, lo, ba, li, sh, cr, la, fi⟩ := s
  obtain ⟨a, b, c, d, e, f, g, i, j, k, m, n, o, p', q, r, rfl⟩ := sixteen h
  kernel_rfl
theorem fill_ct {x : Ct} (h : x.sp.sh.length = 16) : Instr.fill (fun i => some (i * 27, 27)) ((Array.range (1 * 27)).map ((Value.agg zeroCt.cells).cells[· % (Value.agg zeroCt.cells).cells.size]!)) [(0, .agg x.cells)] = some x.cells := by
  obtain ⟨⟨nu, ro, ti, lo, ba, li, sh, cr, la, fi⟩, t, u⟩ := x
  obtain ⟨a, b, c, d, e, f, g, i, j, k, m, n, o, p', q, r, rfl⟩ := sixteen h
  kernel_rfl
section
variable {ops : Array Oper} {rest : List Oper} {a : Act} {w : World} {Q : Exit → Act → World → Prop} {d : Option Tmp} {ty : TypeId} {pos : String} {af : Array Edge}
theorem wl_bs_ct {x : Operand} (y : Ct) (hl : y.sp.sh.length = 16) (hx : a.eval x = .agg y.cells) (h : wpList Try.prog ops Q rest (a.put d (.slice (some ⟨w.heap.size, 0, none⟩) 1 1)) (w.alloc (.cells y.cells 45))) :
    wpList Try.prog ops Q ({ dst := d, op := .buildSlice 27 1 #[(0, x)], type := ty, pos := pos, after := af, guard := none } :: rest) a w := by
  obtain ⟨ie, h1, h2, h3, _⟩ := info_parts info_ctz
  refine wpList_buildSlice rfl 27 45 1 #[(0, x)] rfl y.cells ie (.agg zeroCt.cells) Try.underlying27 h1 h2 (by rw [h3]; decide) (by rw [h3]; decide) ?_ h
  rw [h3, show ((#[(0, x)] : Array (Nat × Operand)).map fun (i, x) => (i, a.eval x)).toList = [(0, a.eval x)] from by simp, hx]
  exact fill_ct hl
theorem wl_build_ct {x y z : Operand} (s : Sp) (t p : Int) (hl : s.sh.length = 16) (hx : a.eval x = .agg s.cells) (hy : a.eval y = .int .u8 t) (hz : a.eval z = .int .i64 p) (h : wpList Try.prog ops Q rest (a.put d (.agg (Ct.mk s t p).cells)) w) :
    wpList Try.prog ops Q ({ dst := d, op := .build 45 #[(0, x), (1, y), (2, z)], type := ty, pos := pos, after := af, guard := none } :: rest) a w := by
  have e : ((#[(0, x), (1, y), (2, z)] : Array (Nat × Operand)).map fun (i, x) => (i, a.eval x)).toList = [(0, .agg s.cells), (1, .int .u8 t), (2, .int .i64 p)] := by simp [hx, hy, hz]
  refine wpList_build rfl 45 #[(0, x), (1, y), (2, z)] rfl (by rw [e, built_ct hl]; rfl) ?_
  rw [e, built_ct hl]
  exact h
end
theorem own_nil (w : World) : (w.alloc (.cells #[] 45)).ownsRow w.heap.size 45 27 (.slice (some ⟨w.heap.size, 0, none⟩) 0 0) 0 (flat []) :=
  ⟨rfl, .inr ⟨w.heap.size, 0, #[], rfl, Nat.le_refl _, heap_alloc_new w _, Nat.le_refl _, by unfold maxLen; omega, rfl, rfl⟩⟩
theorem rd_one (w : World) (x : Ct) : RdC (w.alloc (.cells x.cells 45)) (some ⟨w.heap.size, 0, none⟩) 1 [x] := by
  refine ⟨rfl, (fun h => by cases h), (fun _ a h => by cases h; rfl), fun b o _ h => ?_⟩
  cases h
  intro j u hj
  rw [Nat.zero_add, cell_of_row _ _ _ _ _ _ (heap_alloc_new w _)]
  simpa [flat, Ct.cells] using hj

theorem spot_le : ∀ (cs : List Ct) (nu : Int), spotC cs nu ≤ cs.length
  | [], _ => Nat.le_refl _
  | c :: cs, nu => by
    have := spot_le cs nu
    unfold spotC
    split <;> simp; omega
theorem spot_at : ∀ {cs : List Ct} {nu : Int} {k : Nat}, (∀ (j : Nat) (x : Ct), j < k → cs[j]? = some x → x.sp.nu < nu) → k ≤ cs.length → (∀ x, cs[k]? = some x → ¬ x.sp.nu < nu) → spotC cs nu = k
  | [], nu, k, _, hk, _ => by simp at hk; subst hk; rfl
  | c :: cs, nu, 0, _, _, hn => by unfold spotC; rw [if_neg (hn c rfl)]
  | c :: cs, nu, k + 1, h, hk, hn => by
    unfold spotC
    rw [if_pos (h 0 c (by omega) rfl), spot_at (k := k) (fun j x hj hx => h (j + 1) x (by omega) (by simpa using hx)) (by simpa using hk) (fun x hx => hn x (by simpa using hx))]

/-- What a call leaves of the plain calendar whose list may be a new one. -/
def RcN (w : World) (B g : Nat) (v : Value) (d : Int) (cs : List Ct) (w' : World) : Prop := ∃ v', Rc w' B g v' d cs ∧ Fr (RcS g v) w w' ∧ ∀ k, v'.ownBlock = some k → v.ownBlock = some k ∨ w.heap.size ≤ k
theorem rcn_same {w w' : World} {B g : Nat} {v : Value} {d : Int} {cs : List Ct} (h : Rc w' B g v d cs) (f : Fr (RcS g v) w w') : RcN w B g v d cs w' := ⟨v, h, f, fun _ h => .inl h⟩
/-- Within List: the plain calendar, the data in a box, what has turned. -/
structure Lt (w : World) (B g : Nat) (v : Value) (d : Int) (cs : List Ct) (s : Sp) (W : World) : Prop where
  rc : Rc W B g v d cs
  bx : Box W w.heap.size s
  fr : Fr (fun _ => False) w W
  gl : g < w.heap.size
  vl : ∀ k, v.ownBlock = some k → k < w.heap.size
  sz : w.heap.size < W.heap.size
theorem Lt.step {w W W' : World} {B g : Nat} {v : Value} {d : Int} {cs : List Ct} {s : Sp} {S : Nat → Prop} (h : Lt w B g v d cs s W) (f : Fr S W W') (hS : ∀ k, S k → w.heap.size < k) : Lt w B g v d cs s W' :=
  ⟨h.rc.keep f (fun c => by have := hS _ c; have := h.gl; omega) (fun k hk c => by have := hS _ c; have := h.vl k hk; omega),
    ⟨(f.at' w.heap.size h.sz fun c => by have := hS _ c; omega).trans h.bx.1, h.bx.2⟩, h.fr.trans f (fun _ h => h) (fun k hk c => by have := hS _ c; omega), h.gl, h.vl, Nat.lt_of_lt_of_le h.sz f.size⟩
theorem Lt.alloc {w W : World} {B g : Nat} {v : Value} {d : Int} {cs : List Ct} {s : Sp} (h : Lt w B g v d cs s W) (o : Obj) : Lt w B g v d cs s (W.alloc o) :=
  h.step (S := fun _ => False) (Fr.below ((Below.refl _ _).alloc (Nat.le_refl _) _)) (fun _ h => h.elim)
theorem Lt.below {w W W' : World} {B g : Nat} {v : Value} {d : Int} {cs : List Ct} {s : Sp} (h : Lt w B g v d cs s W) (q : Below W.heap.size W W') : Lt w B g v d cs s W' :=
  h.step (S := fun _ => False) (Fr.below q) (fun _ h => h.elim)
theorem Lt.drewN {w W : World} {B g : Nat} {v : Value} {d : Int} {cs : List Ct} {s : Sp} (h : Lt w B g v d cs s W) (n : Nat) : Lt w B g v d cs s (W.drewN n) :=
  h.step (S := fun _ => False) ((Fr.refl _ W).drewN n) (fun _ h => h.elim)
theorem Lt.grown {w W W' : World} {B g : Nat} {v : Value} {d : Int} {cs : List Ct} {s : Sp} {row : Option Nat} (h : Lt w B g v d cs s W) (hg : W.grownBy W' row) (hr : ∀ k, row = some k → w.heap.size < k) : Lt w B g v d cs s W' :=
  h.step (S := fun k => w.heap.size < k) (Fr.grown hg hr) (fun _ h => h)
theorem lt_new {w : World} {B g : Nat} {v : Value} {d : Int} {cs : List Ct} {s : Sp} (h : Rc w B g v d cs) (hl : s.sh.length = 16) : Lt w B g v d cs s (w.alloc (.cells s.cells 33)) := by
  have f : Fr (fun _ => False) w (w.alloc (.cells s.cells 33)) := Fr.below ((Below.refl _ _).alloc (Nat.le_refl _) _)
  refine ⟨h.keep f (fun h => h) (fun _ _ h => h), box_new w hl, f, (Array.getElem?_eq_some_iff.1 h.blk).1, fun k hk => ?_, by simp⟩
  rcases h.own.2 with ⟨e, _⟩ | ⟨b, c, cur, e, hb, hh, _⟩
  · rw [e] at hk; cases hk
  · rw [e] at hk; cases hk; exact (Array.getElem?_eq_some_iff.1 hh).1
theorem Lt.done {w W : World} {B g : Nat} {v : Value} {d : Int} {cs : List Ct} {s : Sp} (h : Lt w B g v d cs s W) : RcN w B g v d cs W := rcn_same h.rc (h.fr.mono fun _ h => h.elim)
theorem own_ge {W : World} {base e size n : Nat} {v : Value} {xs : List Value} (o : W.ownsRow base e size v n xs) {k : Nat} (h : v.ownBlock = some k) : base ≤ k ∧ k < W.heap.size := by
  rcases o.2 with ⟨e, _⟩ | ⟨b, c, cur, e, hb, hh, _⟩
  · rw [e] at h; cases h
  · rw [e] at h; cases h; exact ⟨hb, (Array.getElem?_eq_some_iff.1 hh).1⟩
theorem own_most {W : World} {base e size n g c : Nat} {xs : List Value} (o : W.ownsRow base e size (.slice (some ⟨g, 0, none⟩) n c) n xs) : n ≤ c := by
  rcases o.2 with ⟨e, _⟩ | ⟨b, c', cur, e, _, _, hc, _⟩
  · cases e
  · cases e; exact hc
theorem own_one_form {W : World} {base e size n : Nat} {v : Value} {xs : List Value} (o : W.ownsRow base e size v n xs) (h : 0 < n) : ∃ g c, v = .slice (some ⟨g, 0, none⟩) n c := by
  rcases o.2 with ⟨_, e⟩ | ⟨b, c, cur, e, _⟩
  · omega
  · exact ⟨b, c, e⟩
/-- The list is a new one. -/
theorem Lt.put {w W : World} {B g : Nat} {v : Value} {d : Int} {cs cs' : List Ct} {s : Sp} (h : Lt w B g v d cs s W) {m b c H : Nat} (o : W.ownsRow H 45 27 (.slice (some ⟨b, 0, none⟩) m c) m (flat cs')) (hH : w.heap.size < H) (hB : B ≤ w.heap.size) (hl : cs'.length = m) (hm : m ≤ 16) (hok : ∀ x, x ∈ cs' → x.ok) :
    RcN w B g v d cs' (W.setCell ⟨g, 1, none⟩ (.slice (some ⟨b, 0, none⟩) m c)) := by
  have hb := own_ge o (k := b) rfl
  have hg := h.gl
  obtain ⟨hb1, hb2⟩ := hb
  have hBb : B ≤ b := by omega
  have hgb : b ≠ g := by omega
  have hwb : w.heap.size ≤ b := by omega
  have hl16 : cs'.length ≤ 16 := by omega
  obtain ⟨b', c1, cur, e2, h1, hh, h2⟩ := o.2.resolve_left (fun c => by cases c.1)
  cases e2
  refine ⟨_, ⟨heap_setCell_same W g 1 _ _ _ h.rc.blk, ⟨hl.symm ▸ o.1, .inr ⟨b, c, cur, by rw [hl], hBb, (heap_setCell_other W _ b _ hgb).trans hh, hl.symm ▸ h2⟩⟩, h.rc.ge, hl16, hok, h.rc.dy, ⟨some ⟨b, 0, none⟩, c, by rw [hl]⟩⟩, ?_, fun k hk => .inr (by cases hk; exact hwb)⟩
  exact (h.fr.mono fun _ h => h.elim).same (Fr.set (.inl rfl) _)
theorem ins_ok {cs : List Ct} {s : Sp} {k : Nat} (h : ∀ x, x ∈ cs → x.ok) (hs : s.ok) : ∀ x, x ∈ cs.take k ++ (⟨s, 1, s.fi⟩ :: cs.drop k) → x.ok := by
  intro x hx
  rcases List.mem_append.1 hx with q | q
  · exact h x (List.mem_of_mem_take q)
  rcases List.mem_cons.1 q with rfl | q
  · exact ⟨hs, (show (0 : Int) ≤ 1 ∧ (1 : Int) ≤ 255 by decide), hs.fi⟩
  · exact h x (List.mem_of_mem_drop q)
end Go.Proofs.Ytejhnfkljfdejaa
