/- Contracts of the document's plain book: come. -/
import Derived.Test.YtdcjgcjnfcahkaaG12
import Derived.Test.YtdcjgcjnfcahkaaG08
namespace Go.Proofs.Ytdcjgcjnfcahkaa
open Go.RowKit Go.Shelf
set_option linter.unusedVariables false
set_option linter.unusedSimpArgs false

/-- What is told of one that came, the plain book behind it. -/
def BkP (w : World) (B G : Nat) (g : Bool → Nat) (v0 : Bool → Value) (T : Sd) (p : Px) (td : List Td) (gn : List Int) (w' : World) : Prop :=
  ∃ v, Bk w' B G g v T ∧ Fr (gsB g) w w' ∧ (∀ b k, (v b).ownBlock = some k → (v0 b).ownBlock = some k ∨ w.heap.size ≤ k) ∧ p.Is w' w.heap.size td gn
/-- Within come: the book, the order's box with what it has left, the result's block, what is told so far, the list of those that it may meet. -/
structure Mj (w : World) (B G : Nat) (g : Bool → Nat) (v0 : Bool → Value) (T : Sd) (o : Or) (left : Int) (td : List Td) (gn : List Int) (p : Px) (vl : Value) (l : List Or) (v : Bool → Value) (W : World) : Prop where
  bk : Bk W B G g v T
  fr : Fr (gsB g) w W
  vn : ∀ b k, (v b).ownBlock = some k → (v0 b).ownBlock = some k ∨ w.heap.size ≤ k
  xo : EO.Bx 31 W w.heap.size (o.wi left)
  xr : EPx.Bx 49 W (w.heap.size + 1) zeroPx
  xp : EPx.Bx 49 W (w.heap.size + 1 + 1) p
  pi : p.Is W w.heap.size td gn
  va : ∀ b k, (v b).ownBlock = some k → k ≠ w.heap.size
  lo : EO.Own 31 W w.heap.size vl l
  la : vl.ownBlock ≠ some w.heap.size
  gw : G < w.heap.size
  sw : ∀ b, g b < w.heap.size
section
variable {w W W' w1 w' : World} {B G : Nat} {g : Bool → Nat} {v0 v : Bool → Value} {S T : Sd} {b : Bool} {o : Or} {left n : Int} {os os' l : List Or} {td : List Td} {gn : List Int} {p : Px} {vl : Value}
theorem Mj.gl (h : Mj w B G g v0 T o left td gn p vl l v W) : w.heap.size + 1 + 1 < W.heap.size := (Array.getElem?_eq_some_iff.1 h.xp).1
theorem Mj.below (h : Mj w B G g v0 T o left td gn p vl l v W) (q : Below W.heap.size W W') : Mj w B G g v0 T o left td gn p vl l v W' :=
  ⟨h.bk.below q, h.fr.same (Fr.below q), h.vn, gbx_below h.xo q, gbx_below h.xr q, gbx_below h.xp q, h.pi.below q, h.va, gown_below h.lo q, h.la, h.gw, h.sw⟩
theorem Mj.drew (h : Mj w B G g v0 T o left td gn p vl l v W) : Mj w B G g v0 T o left td gn p vl l v W.drew := h.below (Below.refl _ _).drew
theorem Mj.nb (h : Mj w B G g v0 T o left td gn p vl l v W) : ¬ p.own w.heap.size ∧ ¬ p.own (w.heap.size + 1) ∧ ¬ p.own (w.heap.size + 1 + 1) :=
  ⟨h.pi.ne h.xo (by decide) (by decide), h.pi.ne h.xr (by decide) (by decide), h.pi.ne h.xp (by decide) (by decide)⟩
theorem or_not_px {k : Nat} {cur : Array Value} (e : W.heap[k]? = some (.cells cur 31 (0, 0))) {p : Px} {j : Nat} (x : EPx.Bx 49 W j p) : k ≠ j := by
  rintro rfl
  rw [show W.heap[k]? = _ from x] at e
  injection e with e
  injection e with _ e
  exact absurd e (by decide)
theorem Mj.row (h : Mj w B G g v0 T o left td gn p vl l v W) {k : Nat} {cur : Array Value} (e : W.heap[k]? = some (.cells cur 31 (0, 0))) (h0 : k ≠ w.heap.size) : ¬ MiS w p k := by
  rintro (c | c | c)
  · exact h0 c
  · exact or_not_px e h.xp c
  · exact h.pi.ne e (by decide) (by decide) c
theorem Mj.keep {Q : Nat → Prop} (h : Mj w B G g v0 T o left td gn p vl l v W) (f : Fr Q W W') (hQ : ∀ k, Q k → MiS w p k) : Bk W' B G g v T ∧ Fr (gsB g) w W' ∧ EPx.Bx 49 W' (w.heap.size + 1) zeroPx ∧ EO.Own 31 W' w.heap.size vl l := by
  have hg := h.gl
  have low : ∀ k, Q k → w.heap.size ≤ k := fun k c => by
    rcases hQ _ c with c | c | c
    · omega
    · omega
    · exact (h.pi.lt c).1
  refine ⟨h.bk.keep f (fun c => ?_) (fun b c => ?_) (fun b k hk c => ?_), h.fr.trans f (fun _ h => h) (fun k hk c => ?_), (f.at' _ (by omega) (fun c => ?_)).trans h.xr, gown_fr h.lo f fun k hk c => ?_⟩
  · have := low _ c; have := h.gw; omega
  · have := low _ c; have := h.sw b; omega
  · obtain ⟨_, cur, e⟩ := (h.bk.ps b).row hk
    exact h.row e (h.va b k hk) (hQ _ c)
  · have := low _ c; omega
  · rcases hQ _ c with c | c | c
    · omega
    · omega
    · exact h.nb.2.1 c
  · obtain ⟨cur, e⟩ := gown_cells h.lo hk
    exact h.row e (fun q => h.la (q ▸ hk)) (hQ _ c)
/-- A call on a side. -/
theorem Mj.side (h : Mj w B G g v0 T o left td gn p vl l v W) (q : PsN W B (g b) (v b) b os' W') : ∃ v', Mj w B G g v0 (T.up b os') o left td gn p vl l v' W' := by
  obtain ⟨v', k1, k2, k3⟩ := h.bk.turn q
  have hg := h.gl
  have no : ∀ k, gsB g k → k < w.heap.size := fun k ⟨b, e⟩ => e ▸ h.sw b
  refine ⟨v', k1, h.fr.same k2, fun b k hk => ?_, (k2.at' _ (by omega) (fun c => by have := no _ c; omega)).trans h.xo, (k2.at' _ (by omega) (fun c => by have := no _ c; omega)).trans h.xr, (k2.at' _ (by omega) (fun c => by have := no _ c; omega)).trans h.xp, h.pi.fr k2 (fun k hk c => by have := no _ c; have := (h.pi.lt hk).1; omega), fun b k hk => ?_, gown_fr h.lo k2 (fun k hk c => by have := no _ c; have := (gown_lt h.lo hk).1; omega), h.la, h.gw, h.sw⟩
  · rcases k3 b k hk with c | c
    · exact h.vn b k c
    · exact .inr (Nat.le_trans h.fr.size c)
  · rcases k3 b k hk with c | c
    · exact h.va b k c
    · omega
theorem Mj.order (h : Mj w B G g v0 T o left td gn p vl l v W) (n : Int) : Mj w B G g v0 T o n td gn p vl l v (W.setCell ⟨w.heap.size, 4, none⟩ (.int .i64 n)) := by
  have f : Fr (fun k => k = w.heap.size) W (W.setCell ⟨w.heap.size, 4, none⟩ (.int .i64 n)) := Fr.set (S := fun k => k = w.heap.size) (p := ⟨w.heap.size, 4, none⟩) rfl _
  obtain ⟨k1, k2, k3, k4⟩ := h.keep f (fun k e => .inl e)
  have hg := h.gl
  exact ⟨k1, k2, h.vn, gbx_put h.xo rfl, k3, (f.at' _ (by omega) (by omega)).trans h.xp, h.pi.fr f (fun k hk e => h.nb.1 (e ▸ hk)), h.va, k4, h.la, h.gw, h.sw⟩
theorem Mj.putp (h : Mj w B G g v0 T o left td gn p vl l v W) {p' : Px} (i : Nat) (u : Value) (he : EPx.cells p' = (EPx.cells p).set i u) (hp : ∀ U, p.Is U w.heap.size td gn → p'.Is U w.heap.size td gn) : Mj w B G g v0 T o left td gn p' vl l v (W.setCell ⟨w.heap.size + 1 + 1, i, none⟩ u) := by
  have f : Fr (fun k => k = w.heap.size + 1 + 1) W (W.setCell ⟨w.heap.size + 1 + 1, i, none⟩ u) := Fr.set (S := fun k => k = w.heap.size + 1 + 1) (p := ⟨w.heap.size + 1 + 1, i, none⟩) rfl _
  obtain ⟨k1, k2, k3, k4⟩ := h.keep f (fun k e => .inr (.inl e))
  have hg := h.gl
  have pf := h.pi.fr f (fun k hk e => h.nb.2.2 (e ▸ hk))
  exact ⟨k1, k2, h.vn, (f.at' _ (by omega) (by omega)).trans h.xo, k3, gbx_put h.xp he, hp _ pf, h.va, k4, h.la, h.gw, h.sw⟩
theorem Mj.filled (h : Mj w B G g v0 T o left td gn p vl l v W) (n : Int) : Mj w B G g v0 T o left td gn { p with fi := n } vl l v (W.setCell ⟨w.heap.size + 1 + 1, 2, none⟩ (.int .i64 n)) :=
  h.putp 2 _ rfl fun U q => ⟨q.to, q.no⟩
theorem Mj.rest (h : Mj w B G g v0 T o left td gn p vl l v W) (n : Int) : Mj w B G g v0 T o left td gn { p with lf := n } vl l v (W.setCell ⟨w.heap.size + 1 + 1, 3, none⟩ (.int .i64 n)) :=
  h.putp 3 _ rfl fun U q => ⟨q.to, q.no⟩
/-- One of its own went: its number is told. -/
theorem Mj.gone (h : Mj w B G g v0 T o left td gn p vl l v W) (q : Below W.heap.size W w1) {A : Option Addr} {m c : Nat} {x : Int} (o' : ENu.Own 28 w' w.heap.size (.slice A m c) (gn ++ [x])) (gr : w1.grownBy w' p.nv.ownBlock) (hv : (Value.slice A m c).ownBlock = p.nv.ownBlock ∨ (Value.slice A m c).ownBlock = some w1.heap.size) :
    Mj w B G g v0 T o left td (gn ++ [x]) { p with na := A, nn := m, nc := c } vl l v (w'.setCell ⟨w.heap.size + 1 + 1, 1, none⟩ (.slice A m c)) := by
  have h1 := h.below q
  have hg := h1.gl
  have f1 : Fr (fun k => p.nv.ownBlock = some k) w1 w' := Fr.grown gr (fun k e => e)
  have xp' : EPx.Bx 49 w' (w.heap.size + 1 + 1) p := (f1.at' _ (by omega) (fun e => h1.nb.2.2 (.inr e))).trans h1.xp
  have f : Fr (MiS w p) w1 (w'.setCell ⟨w.heap.size + 1 + 1, 1, none⟩ (.slice A m c)) := (f1.mono fun k e => .inr (.inr (.inr e))).same (Fr.set (p := ⟨w.heap.size + 1 + 1, 1, none⟩) (.inr (.inl rfl)) _)
  obtain ⟨k1, k2, k3, k4⟩ := h1.keep f (fun k e => e)
  have tv : ET.Own 63 (w'.setCell ⟨w.heap.size + 1 + 1, 1, none⟩ (.slice A m c)) w.heap.size p.tv td :=
    gown_same (gown_fr h1.pi.to f1 (fun k e1 e2 => h1.pi.two e1 e2)) fun k hk => heap_setCell_other w' ⟨w.heap.size + 1 + 1, 1, none⟩ k _ (fun e => h1.nb.2.2 (.inl (by rw [hk]; exact congrArg some e)))
  have ne : ∀ k, (Value.slice A m c).ownBlock = some k → k ≠ w.heap.size + 1 + 1 := fun k hk => by
    rcases hv with e | e
    · rw [e] at hk
      exact fun e => h1.nb.2.2 (.inr (e ▸ hk))
    · rw [e] at hk; cases hk
      omega
  refine ⟨k1, k2, h.vn, ?_, k3, gbx_put xp' rfl, ⟨tv, gown_same o' fun k hk => heap_setCell_other w' ⟨w.heap.size + 1 + 1, 1, none⟩ k _ (ne k hk)⟩, h.va, k4, h.la, h.gw, h.sw⟩
  exact (heap_setCell_other w' ⟨w.heap.size + 1 + 1, 1, none⟩ w.heap.size _ (by show w.heap.size ≠ w.heap.size + 1 + 1; omega)).trans ((f1.at' _ (by omega) (fun e => h1.nb.1 (.inr e))).trans h1.xo)
/-- A trade is told. -/
theorem Mj.traded (h : Mj w B G g v0 T o left td gn p vl l v W) (q : Below W.heap.size W w1) {A : Option Addr} {m c : Nat} {x : Td} (o' : ET.Own 63 w' w.heap.size (.slice A m c) (td ++ [x])) (gr : w1.grownBy w' p.tv.ownBlock) (hv : (Value.slice A m c).ownBlock = p.tv.ownBlock ∨ (Value.slice A m c).ownBlock = some w1.heap.size) :
    Mj w B G g v0 T o left (td ++ [x]) gn { p with ta := A, tn := m, tc := c } vl l v (w'.setCell ⟨w.heap.size + 1 + 1, 0, none⟩ (.slice A m c)) := by
  have h1 := h.below q
  have hg := h1.gl
  have f1 : Fr (fun k => p.tv.ownBlock = some k) w1 w' := Fr.grown gr (fun k e => e)
  have xp' : EPx.Bx 49 w' (w.heap.size + 1 + 1) p := (f1.at' _ (by omega) (fun e => h1.nb.2.2 (.inl e))).trans h1.xp
  have f : Fr (MiS w p) w1 (w'.setCell ⟨w.heap.size + 1 + 1, 0, none⟩ (.slice A m c)) := (f1.mono fun k e => .inr (.inr (.inl e))).same (Fr.set (p := ⟨w.heap.size + 1 + 1, 0, none⟩) (.inr (.inl rfl)) _)
  obtain ⟨k1, k2, k3, k4⟩ := h1.keep f (fun k e => e)
  have nv : ENu.Own 28 (w'.setCell ⟨w.heap.size + 1 + 1, 0, none⟩ (.slice A m c)) w.heap.size p.nv gn :=
    gown_same (gown_fr h1.pi.no f1 (fun k e1 e2 => h1.pi.two e2 e1)) fun k hk => heap_setCell_other w' ⟨w.heap.size + 1 + 1, 0, none⟩ k _ (fun e => h1.nb.2.2 (.inr (by rw [hk]; exact congrArg some e)))
  have ne : ∀ k, (Value.slice A m c).ownBlock = some k → k ≠ w.heap.size + 1 + 1 := fun k hk => by
    rcases hv with e | e
    · rw [e] at hk
      exact fun e => h1.nb.2.2 (.inl (e ▸ hk))
    · rw [e] at hk; cases hk
      omega
  refine ⟨k1, k2, h.vn, ?_, k3, gbx_put xp' rfl, ⟨gown_same o' fun k hk => heap_setCell_other w' ⟨w.heap.size + 1 + 1, 0, none⟩ k _ (ne k hk), nv⟩, h.va, k4, h.la, h.gw, h.sw⟩
  exact (heap_setCell_other w' ⟨w.heap.size + 1 + 1, 0, none⟩ w.heap.size _ (by show w.heap.size ≠ w.heap.size + 1 + 1; omega)).trans ((f1.at' _ (by omega) (fun e => h1.nb.1 (.inl e))).trans h1.xo)
theorem Mj.row_p {q : Option Nat} (h : Mj w B G g v0 T o left td gn p vl l v W) (b : Below W.heap.size W w1) (gr : w1.grownBy w' q) (hb : ∀ k, q = some k → p.own k) : EPx.Bx 49 w' (w.heap.size + 1 + 1) p :=
  have hg := h.gl
  (gr.block _ (Nat.lt_of_lt_of_le hg b.size) (fun e => h.nb.2.2 (hb _ e.symm))).trans (gbx_below h.xp b)
theorem Mj.fin (h : Mj w B G g v0 T o left td gn p vl l v W) (cs : Array Value) : BkP w B G g v0 T p td gn (W.setRow (w.heap.size + 1) cs) := by
  have f : Fr (fun k => k = w.heap.size + 1) W (W.setRow (w.heap.size + 1) cs) := fr_row (S := fun k => k = w.heap.size + 1) rfl cs
  have hg := h.gl
  refine ⟨v, h.bk.keep f (by have := h.gw; omega) (fun b => by have := h.sw b; omega) (fun b k hk e => ?_), h.fr.trans f (fun _ h => h) (fun k hk e => by omega), h.vn, h.pi.fr f (fun k hk e => h.nb.2.1 (e ▸ hk))⟩
  obtain ⟨_, cur, c⟩ := (h.bk.ps b).row hk
  exact or_not_px c h.xr e
/-- It ends, and nothing rests. -/
theorem Mj.none {r : Bool} (h : Mj w B G g v0 (S.up (!o.bu) os) o left td gn p vl l v W) (e : metB S o = ⟨td, gn, p.fi, left, os⟩) (hr : ¬ (0 < left ∧ r = true)) (hl : p.lf = 0) (cs : Array Value) :
    ∃ p' : Px, Ending.returned (.agg (EPx.cells p).toArray) = .returned (.agg (EPx.cells p').toArray) ∧ (p'.fi = (comeP S o r).fi ∧ p'.lf = (comeP S o r).lf) ∧ BkP w B G g v0 (comeS S o r) p' (comeP S o r).td (comeP S o r).gn (W.setRow (w.heap.size + 1) cs) := by
  obtain ⟨e1, e2⟩ := come_no (S := S) (o := o) (r := r) (by rw [e]; exact hr)
  refine ⟨p, rfl, ?_⟩
  rw [e1, e2, e]
  exact ⟨⟨rfl, hl⟩, h.fin cs⟩
/-- It ends, and rests. -/
theorem Mj.some {r : Bool} (h : Mj w B G g v0 ((S.up (!o.bu) os).up o.bu (addO o.bu ((S.up (!o.bu) os) o.bu) (o.wi left))) o left td gn { p with lf := left } vl l v W) (e : metB S o = ⟨td, gn, p.fi, left, os⟩) (h0 : 0 < left) (hr : r = true) (cs : Array Value) :
    ∃ p' : Px, Ending.returned (.agg (EPx.cells { p with lf := left }).toArray) = .returned (.agg (EPx.cells p').toArray) ∧ (p'.fi = (comeP S o r).fi ∧ p'.lf = (comeP S o r).lf) ∧ BkP w B G g v0 (comeS S o r) p' (comeP S o r).td (comeP S o r).gn (W.setRow (w.heap.size + 1) cs) := by
  obtain ⟨e1, e2⟩ := come_yes (S := S) (o := o) (r := r) (by rw [e]; exact ⟨h0, hr⟩)
  refine ⟨{ p with lf := left }, rfl, ?_⟩
  rw [e1, e2, e]
  exact ⟨⟨rfl, rfl⟩, h.fin cs⟩
end
theorem kind_cases (k : Int) : k = 1 ∨ k = 4 ∨ ((k == 1) = false ∧ (k == 4) = false ∧ restK k = false) := by
  by_cases h1 : k = 1
  · exact .inl h1
  · by_cases h4 : k = 4
    · exact .inr (.inl h4)
    · exact .inr (.inr ⟨beq_eq_false_iff_ne.2 h1, beq_eq_false_iff_ne.2 h4, by simp [restK, h1, h4]⟩)
theorem drop_nxt {l : List Or} {j : Nat} {x : Or} (h : l[j]? = some x) : l.drop j = x :: l.drop (j + 1) := by
  obtain ⟨hj, e⟩ := List.getElem?_eq_some_iff.1 h
  rw [List.drop_eq_getElem_cons hj, e]
theorem fill_drop {x : Or} {r : List Or} {left n : Int} (hn : minO x.le left = n) (hx : 0 < x.le) (h : 0 < left - n) : fillO (x :: r) n = r := by
  have e : n = x.le := by rw [← hn]; unfold minO; rw [if_neg]; rw [← hn] at h; unfold minO at h; intro c; rw [if_pos c] at h; omega
  rw [e]
  exact (if_neg (by omega)).trans (if_pos (by omega))
section
variable {B G : Nat} {g : Bool → Nat} {v : Bool → Value} {S : Sd}
set_option maxRecDepth 100000 in
set_option maxHeartbeats 40000000 in
theorem bcome_any {o : Or} {k : Int} (w : World) (h : Bk w B G g v S) (iv : InvO (!o.bu) (S (!o.bu))) (ok : o.ok) (hm : mayO o = true) :
    Calls Try.prog 58 #[.pointer (some ⟨G, 0, none⟩), .agg (EO.cells o).toArray, .int .u8 k] w fun e w' => ∃ p' : Px, e = .returned (.agg (EPx.cells p').toArray) ∧ (p'.fi = (comeP S o (restK k)).fi ∧ p'.lf = (comeP S o (restK k)).lf) ∧ BkP w B G g v (comeS S o (restK k)) p' (comeP S o (restK k)).td (comeP S o (restK k)).gn w' := by
  have hz := zero_or
  have hpz := zero_px
  obtain ⟨W3, hW3, b3, xo, xr, xp⟩ := three_pbx w o
  have k2 : (((w.alloc (.cells (EO.cells o).toArray 31)).alloc (.cells (EPx.cells zeroPx).toArray 49)).alloc (.cells (EPx.cells zeroPx).toArray 49)).cell? ⟨w.heap.size, 2, none⟩ = some (.bool o.bu) := by rw [hW3]; exact gbx_cell xo 2
  have SDC := Lib.hid (bown_any (!o.bu) W3 (h.below b3))
  have ALC := Lib.hid (pall ((h.below b3).ps (!o.bu)))
  have hml := may_le hm
  have hw3 : w.heap.size + 1 + 1 < W3.heap.size := (Array.getElem?_eq_some_iff.1 xp).1
  have M0 : Hid (∀ (W : World) (A : Option Addr) (n c : Nat), Below W3.heap.size W3 W → EO.Own 31 W W3.heap.size (.slice A n c) (S (!o.bu)) → Mj w B G g v (S.up (!o.bu) (S (!o.bu))) o o.le [] [] zeroPx (.slice A n c) (S (!o.bu)) v W) := Lib.hid fun W A n c q ho => ⟨by rw [Sd.up_same]; exact h.below (b3.trans (q.mono b3.size)), Fr.below (b3.trans (q.mono b3.size)), fun _ _ h => .inl h, gbx_below xo q, gbx_below xr q, gbx_below xp q, Px.Is.zero _ _, fun b k hk => by have := h.vlt hk; omega, gown_low ho b3.size, fun e => by have := (gown_lt ho e).1; omega, h.gl, fun b => h.gslt b⟩
  have R0 : Hid (Mr o (S (!o.bu)) o.le (S (!o.bu)) [] [] 0 ((S (!o.bu)).length + 1)) := Lib.hid ⟨by simp, by omega, by omega, Int.le_refl _, by have := iv.len; simp; omega, by rw [show flagL o.le = 1 from if_pos (by omega)]⟩
  have HW := Lib.hid hW3
  have OK := Lib.hid ok
  have HML := Lib.hid hml
  have IV := Lib.hid iv
  have HLEN := iv.len
  obtain ⟨mm, hmm⟩ : ∃ mm, metB S o = mm := ⟨_, rfl⟩
  have hmm : meetO o (S (!o.bu)) o.le = mm := hmm
  have HMM : Hid (metB S o = mm) := Lib.hid hmm
  clear h iv ok hm hW3 b3 xo xr xp hml hmm hw3
  go_enter Try.func58, Try.ntmps58
  go_wp2_with fail
  rw [HW.out]
  refine SDC.out.mono ?_; rintro e w0 ⟨rfl, rfl⟩
  clear k2 SDC
  go_wp2_with fail
  refine ALC.out.mono ?_; rintro e w1 ⟨vl, rfl, ho, q1⟩
  obtain ⟨A, c, rfl, nA⟩ := gown_form ho
  obtain ⟨n, hn⟩ : ∃ n, (S (!o.bu)).length = n := ⟨_, rfl⟩
  rw [hn] at ho HLEN ⊢
  have M1 := Lib.hid (M0.out w1 A n c q1 ho)
  have HN := Lib.hid hn
  clear ho q1 ALC M0 nA hn
  go_wp2_with fail
  go_loopw [10] (fun i wr => ∃ (j : Nat) (left : Int) (os : List Or) (td : List Td) (gn : List Int) (p : Px) (v' : Bool → Value) (kk : Nat), j ≤ n ∧ i = .int .i64 j ∧ (0 < left → os = (S (!o.bu)).drop j) ∧ Mr o (S (!o.bu)) left os td gn p.fi kk ∧ p.lf = 0 ∧ InvO (!o.bu) os ∧ Mj w B G g v (S.up (!o.bu) os) o left td gn p (.slice A n c) (S (!o.bu)) v' wr) (fun i _ => n - (intOf i).toNat)
  case atStart => exact ⟨0, o.le, _, [], [], zeroPx, v, _, Nat.zero_le _, rfl, fun _ => rfl, R0.out, rfl, IV.out, M1.out⟩
  case round =>
    obtain ⟨j, left, os, td, gn, p, v1, kk, hj, rfl, hdr, hr, hlf, hio, hM⟩ := hrel
    have MR := Lib.hid hr
    have LF := Lib.hid hlf
    have M := Lib.hid hM
    have IO := Lib.hid hio
    have HD := Lib.hid hdr
    have hle0 := hr.le
    have hsum := hr.sm
    have hfi := hr.fi
    have hml := HML.out
    have k4 : wr.cell? ⟨w.heap.size, 4, none⟩ = some (.int .i64 left) := gbx_cell hM.xo 4
    have WOK : Hid (0 < left → (o.wi left).ok) := Lib.hid fun c => wi_ok OK.out ⟨by omega, by omega⟩
    clear hr hlf hM hio hdr M1 R0 IV
    by_cases h0 : 0 < left
    case neg =>
      have d0 : decide (0 < left) = false := decide_eq_false h0
      have E : Hid (metB S o = ⟨td, gn, p.fi, left, os⟩) := Lib.hid (MR.out.stop (meet_end (by omega)))
      have ME := M
      by_cases hlt : j < n
      case neg =>
        have hd : decide ((j : Int) < n) = false := decide_eq_false (by omega)
        have RGP := Lib.hid (gbx_rng ME.out.xp)
        have FN := Lib.hid (fun cs => ME.out.none (r := restK k) E.out (fun c => absurd c.1 h0) LF.out cs)
        go_wp2_with (first | ((with_reducible refine wl_load_px (w.heap.size + 1 + 1) 0 RGP.out ?_ ?_ ?_); rfl; rfl) | (refine wl_store_px p (w.heap.size + 1) ME.out.xr rfl rfl ?_))
        exact bodyPost_ret (ret_px rfl _ _ (w.heap.size + 1) rfl (gbx_set ME.out.xr)) rfl (FN.out _)
      case pos =>
        have hd : decide ((j : Int) < n) = true := decide_eq_true (by omega)
        have RGP := Lib.hid (gbx_rng ME.out.xp)
        have FN := Lib.hid (fun cs => ME.out.none (r := restK k) E.out (fun c => absurd c.1 h0) LF.out cs)
        go_wp2_with (first | ((with_reducible refine wl_load_px (w.heap.size + 1 + 1) 0 RGP.out ?_ ?_ ?_); rfl; rfl) | (refine wl_store_px p (w.heap.size + 1) ME.out.xr rfl rfl ?_))
        exact bodyPost_ret (ret_px rfl _ _ (w.heap.size + 1) rfl (gbx_set ME.out.xr)) rfl (FN.out _)
    case pos =>
    have WOK := Lib.hid (WOK.out h0)
    by_cases hlt : j < n
    case neg =>
      have hd : decide ((j : Int) < n) = false := decide_eq_false (by omega)
      have eo : os = [] := by rw [HD.out h0]; exact List.drop_eq_nil_of_le (by rw [HN.out]; omega)
      subst eo
      have E : Hid (metB S o = ⟨td, gn, p.fi, left, []⟩) := Lib.hid (MR.out.stop meet_nil)
      have ME := M
      obtain ⟨SS, hSS⟩ : ∃ SS : World → Prop, SS = fun U => (∃ v', Mj w B G g v (S.up (!o.bu) []) o left td gn p (.slice A n c) (S (!o.bu)) v' U) ∨ (∃ v', Mj w B G g v ((S.up (!o.bu) []).up o.bu (addO o.bu ((S.up (!o.bu) []) o.bu) (o.wi left))) o left td gn p (.slice A n c) (S (!o.bu)) v' U) := ⟨_, rfl⟩
      have XB : Hid (∀ U, SS U → U.cell? ⟨w.heap.size, 2, none⟩ = some (.bool o.bu) ∧ EO.Bx 31 U w.heap.size (o.wi left)) := Lib.hid fun U hU => by
        rw [hSS] at hU
        rcases hU with ⟨_, m⟩ | ⟨_, m⟩ <;> exact ⟨gbx_cell m.xo 2, m.xo⟩
      have ke4 : wr.cell? ⟨w.heap.size, 4, none⟩ = some (.int .i64 left) := gbx_cell ME.out.xo 4
      have d0 : decide (0 < left) = true := decide_eq_true h0
      rcases kind_cases k with rfl | rfl | ⟨n1, n4, nr⟩
      · have d5 : ((1 : Int) == 1) = true := by decide
        go_wp2_with fail
        clear ke4
        refine wp_region_held_drew (S := SS) (by kernel_rfl) (by rw [hSS]; exact .inl ⟨_, ME.out.drew⟩) (fun hH => ?_)
        refine wpAnyH_take (i := 0) (v := .pointer (some ⟨G, 0, none⟩)) rfl (by kernel_rfl) (by kernel_rfl) (by kernel_rfl) (fun _ _ _ h => h) (.inl ⟨by rfl, ?_⟩) (by assumption) ?_
        · intro W hW; go_simp
        try simp only [List.getElem_toArray, List.getElem_cons_zero, Act.put, List.setIfInBounds_toArray, List.set_cons_zero, List.set_cons_succ]
        refine wpAnyH_take (i := 1) (v := .pointer (some ⟨w.heap.size, 2, none⟩)) rfl (by kernel_rfl) (by kernel_rfl) (by kernel_rfl) (fun _ _ _ h => h) (.inl ⟨by rfl, ?_⟩) (by assumption) ?_
        · intro W hW; go_simp
        try simp only [List.getElem_toArray, List.getElem_cons_zero, List.getElem_cons_succ, Act.put, List.setIfInBounds_toArray, List.set_cons_zero, List.set_cons_succ]
        refine wpAnyH_take (i := 2) (v := .bool o.bu) rfl (by kernel_rfl) (by kernel_rfl) (by kernel_rfl) (fun _ _ _ h => h) (.inl ⟨by rfl, ?_⟩) (by assumption) ?_
        · intro W hW; have k := (XB.out W hW).1; go_simp
        try simp only [List.getElem_toArray, List.getElem_cons_zero, List.getElem_cons_succ, Act.put, List.setIfInBounds_toArray, List.set_cons_zero, List.set_cons_succ]
        refine wpAnyH_take (i := 4) (v := .agg (EO.cells (o.wi left)).toArray) rfl (by kernel_rfl) (by kernel_rfl) (by kernel_rfl) (fun _ _ _ h => h) (gyields_load TO (by rfl) (.tmp 4) rfl w.heap.size 0 rfl (fun U hU => gbx_rng (XB.out U hU).2)) (by assumption) ?_
        try simp only [List.getElem_toArray, List.getElem_cons_zero, List.getElem_cons_succ, Act.put, List.setIfInBounds_toArray, List.set_cons_zero, List.set_cons_succ]
        refine wpAnyH_ready (rs := [3]) (by decide +kernel) (by simp) (AllReadyH.cons rfl (fun KQ hK => ?_) AllReadyH.nil)
        go_simp
        refine (bown_any o.bu _ ME.out.drew.bk).mono ?_; rintro e0 W1 ⟨rfl, rfl⟩
        have hH := hH
        refine hK.out _ _ hH (fun _ => ?_)
        clear hK 
        try simp only [List.setIfInBounds_toArray, List.set_cons_zero, List.set_cons_succ]
        refine wpAnyH_ready (rs := [5]) (by decide +kernel) (by simp) (AllReadyH.cons rfl (fun KQ hK => ?_) AllReadyH.nil)
        go_simp
        refine (padd (ME.out.drew.bk.ps o.bu) WOK.out).mono ?_; rintro e0 W7 ⟨rfl, q7⟩
        obtain ⟨v7, m7⟩ := ME.out.drew.side q7
        have M7 := Lib.hid m7
        refine hK.out _ _ (by rw [hSS]; exact .inr ⟨_, m7⟩) (fun _ => ?_)
        clear hK hH q7
        try simp only [List.setIfInBounds_toArray, List.set_cons_zero, List.set_cons_succ]
        refine wpAnyH_done (by decide +kernel) ?_ _
        have c4 : W7.cell? ⟨w.heap.size, 4, none⟩ = some (.int .i64 left) := gbx_cell M7.out.xo 4
        have g3 : W7.frozen? ⟨w.heap.size + 1 + 1, 3, none⟩ = false := gbx_fz M7.out.xp 3
        have g3' : W7.cell? ⟨w.heap.size + 1 + 1, 3, none⟩ = some (.int .i64 p.lf) := gbx_cell M7.out.xp 3
        have M8 := Lib.hid (M7.out.rest left)
        have RGP := Lib.hid (gbx_rng M8.out.xp)
        clear m7
        go_wp2_with (first | ((with_reducible refine wl_load_px (s := { p with lf := left }) (w.heap.size + 1 + 1) 0 RGP.out ?_ ?_ ?_); rfl; rfl) | (refine wl_store_px { p with lf := left } (w.heap.size + 1) M8.out.xr rfl rfl ?_))
        have FN := Lib.hid (fun cs => M8.out.some (r := restK 1) E.out h0 (by decide) cs)
        exact bodyPost_ret (ret_px rfl _ _ (w.heap.size + 1) rfl (gbx_set M8.out.xr)) rfl (FN.out _)
      · have d5 : ((4 : Int) == 1) = false := by decide
        go_wp2_with fail
        clear ke4
        refine wp_region_held_drew (S := SS) (by kernel_rfl) (by rw [hSS]; exact .inl ⟨_, ME.out.drew⟩) (fun hH => ?_)
        refine wpAnyH_take (i := 0) (v := .pointer (some ⟨G, 0, none⟩)) rfl (by kernel_rfl) (by kernel_rfl) (by kernel_rfl) (fun _ _ _ h => h) (.inl ⟨by rfl, ?_⟩) (by assumption) ?_
        · intro W hW; go_simp
        try simp only [List.getElem_toArray, List.getElem_cons_zero, Act.put, List.setIfInBounds_toArray, List.set_cons_zero, List.set_cons_succ]
        refine wpAnyH_take (i := 1) (v := .pointer (some ⟨w.heap.size, 2, none⟩)) rfl (by kernel_rfl) (by kernel_rfl) (by kernel_rfl) (fun _ _ _ h => h) (.inl ⟨by rfl, ?_⟩) (by assumption) ?_
        · intro W hW; go_simp
        try simp only [List.getElem_toArray, List.getElem_cons_zero, List.getElem_cons_succ, Act.put, List.setIfInBounds_toArray, List.set_cons_zero, List.set_cons_succ]
        refine wpAnyH_take (i := 2) (v := .bool o.bu) rfl (by kernel_rfl) (by kernel_rfl) (by kernel_rfl) (fun _ _ _ h => h) (.inl ⟨by rfl, ?_⟩) (by assumption) ?_
        · intro W hW; have k := (XB.out W hW).1; go_simp
        try simp only [List.getElem_toArray, List.getElem_cons_zero, List.getElem_cons_succ, Act.put, List.setIfInBounds_toArray, List.set_cons_zero, List.set_cons_succ]
        refine wpAnyH_take (i := 4) (v := .agg (EO.cells (o.wi left)).toArray) rfl (by kernel_rfl) (by kernel_rfl) (by kernel_rfl) (fun _ _ _ h => h) (gyields_load TO (by rfl) (.tmp 4) rfl w.heap.size 0 rfl (fun U hU => gbx_rng (XB.out U hU).2)) (by assumption) ?_
        try simp only [List.getElem_toArray, List.getElem_cons_zero, List.getElem_cons_succ, Act.put, List.setIfInBounds_toArray, List.set_cons_zero, List.set_cons_succ]
        refine wpAnyH_ready (rs := [3]) (by decide +kernel) (by simp) (AllReadyH.cons rfl (fun KQ hK => ?_) AllReadyH.nil)
        go_simp
        refine (bown_any o.bu _ ME.out.drew.bk).mono ?_; rintro e0 W1 ⟨rfl, rfl⟩
        have hH := hH
        refine hK.out _ _ hH (fun _ => ?_)
        clear hK 
        try simp only [List.setIfInBounds_toArray, List.set_cons_zero, List.set_cons_succ]
        refine wpAnyH_ready (rs := [5]) (by decide +kernel) (by simp) (AllReadyH.cons rfl (fun KQ hK => ?_) AllReadyH.nil)
        go_simp
        refine (padd (ME.out.drew.bk.ps o.bu) WOK.out).mono ?_; rintro e0 W7 ⟨rfl, q7⟩
        obtain ⟨v7, m7⟩ := ME.out.drew.side q7
        have M7 := Lib.hid m7
        refine hK.out _ _ (by rw [hSS]; exact .inr ⟨_, m7⟩) (fun _ => ?_)
        clear hK hH q7
        try simp only [List.setIfInBounds_toArray, List.set_cons_zero, List.set_cons_succ]
        refine wpAnyH_done (by decide +kernel) ?_ _
        have c4 : W7.cell? ⟨w.heap.size, 4, none⟩ = some (.int .i64 left) := gbx_cell M7.out.xo 4
        have g3 : W7.frozen? ⟨w.heap.size + 1 + 1, 3, none⟩ = false := gbx_fz M7.out.xp 3
        have g3' : W7.cell? ⟨w.heap.size + 1 + 1, 3, none⟩ = some (.int .i64 p.lf) := gbx_cell M7.out.xp 3
        have M8 := Lib.hid (M7.out.rest left)
        have RGP := Lib.hid (gbx_rng M8.out.xp)
        clear m7
        go_wp2_with (first | ((with_reducible refine wl_load_px (s := { p with lf := left }) (w.heap.size + 1 + 1) 0 RGP.out ?_ ?_ ?_); rfl; rfl) | (refine wl_store_px { p with lf := left } (w.heap.size + 1) M8.out.xr rfl rfl ?_))
        have FN := Lib.hid (fun cs => M8.out.some (r := restK 4) E.out h0 (by decide) cs)
        exact bodyPost_ret (ret_px rfl _ _ (w.heap.size + 1) rfl (gbx_set M8.out.xr)) rfl (FN.out _)
      · have RGP := Lib.hid (gbx_rng ME.out.xp)
        have FN := Lib.hid (fun cs => ME.out.none (r := restK k) E.out (fun c => by rw [nr] at c; exact absurd c.2 (by decide)) LF.out cs)
        go_wp2_with (first | ((with_reducible refine wl_load_px (w.heap.size + 1 + 1) 0 RGP.out ?_ ?_ ?_); rfl; rfl) | (refine wl_store_px p (w.heap.size + 1) ME.out.xr rfl rfl ?_))
        exact bodyPost_ret (ret_px rfl _ _ (w.heap.size + 1) rfl (gbx_set ME.out.xr)) rfl (FN.out _)
    case pos =>
    have hd : decide ((j : Int) < n) = true := decide_eq_true (by omega)
    have d0 : decide (0 < left) = true := decide_eq_true h0
    have hji : (j : Int) < (n : Int) := by omega
    obtain ⟨x, hx⟩ : ∃ x, (S (!o.bu))[j]? = some x := ⟨(S (!o.bu))[j]'(by rw [HN.out]; exact hlt), List.getElem?_eq_getElem _⟩
    have eo : os = x :: (S (!o.bu)).drop (j + 1) := (HD.out h0).trans (drop_nxt hx)
    obtain ⟨r, hr⟩ : ∃ r, (S (!o.bu)).drop (j + 1) = r := ⟨_, rfl⟩
    rw [hr] at eo
    have HR := Lib.hid hr
    subst eo
    have own := M.out.lo
    obtain ⟨b, c', eb⟩ := gown_slot own (by rw [HN.out]; omega)
    injection eb with e1 e9 e2
    clear e9
    subst e1 e2
    have R1 : Hid (wr.rangeAt b (j * 5) (EO.cells x)) := Lib.hid (gown_rng own hx)
    obtain ⟨V, hV, bV, yV, zV, sV⟩ := put_or x (Below.refl wr.heap.size wr)
    have HV := Lib.hid hV
    have ZV := Lib.hid zV
    have MV := Lib.hid (M.out.below bV)
    have YV := Lib.hid yV
    have SV := Lib.hid sV
    have hxm := IO.out.may x (List.mem_cons_self ..)
    have hxl := may_le hxm.1
    have XOK := Lib.hid (IO.out.ok x (List.mem_cons_self ..))
    have ko2 : V.cell? ⟨w.heap.size, 2, none⟩ = some (.bool o.bu) := gbx_cell MV.out.xo 2
    have ko3 : V.cell? ⟨w.heap.size, 3, none⟩ = some (.int .i64 o.pr) := gbx_cell MV.out.xo 3
    have kx3 : V.cell? ⟨wr.heap.size, 3, none⟩ = some (.int .i64 x.pr) := gbx_cell yV 3
    have kx0 : V.cell? ⟨wr.heap.size, 0, none⟩ = some (.int .u64 x.nu) := gbx_cell yV 0
    have kx1 : V.cell? ⟨wr.heap.size, 1, none⟩ = some (.int .u32 x.ac) := gbx_cell yV 1
    have kx4 : V.cell? ⟨wr.heap.size, 4, none⟩ = some (.int .i64 x.le) := gbx_cell yV 4
    have ko1 : V.cell? ⟨w.heap.size, 1, none⟩ = some (.int .u32 o.ac) := gbx_cell MV.out.xo 1
    have ko4 : V.cell? ⟨w.heap.size, 4, none⟩ = some (.int .i64 left) := gbx_cell MV.out.xo 4
    clear own hx hV bV yV zV sV hxm hr
    cases hmt : metO o x
    case false =>
      have hmt' := hmt
      unfold metO at hmt'
      obtain ⟨f1, f2⟩ := Bool.or_eq_false_iff.1 hmt'
      have f3 : (o.pr == x.pr) = false := beq_eq_false_iff_ne.2 (fun e => by rw [e] at f1; simp at f1)
      have f4 : (o.pr != x.pr) = true := by simp [bne, f3]
      have BT := Lib.hid (rbtr_any o.bu o.pr x.pr V)
      rw [f2] at BT
      have E : Hid (metB S o = ⟨td, gn, p.fi, left, x :: r⟩) := Lib.hid (MR.out.stop (meet_far hmt))
      clear hmt hmt' f1 f2
      go_wp2_with (first | ((with_reducible refine gwl_load (d := some 34) TO b _ R1.out ?_ ?_ ?_); rfl; rfl) | ((with_reducible refine gwl_store TO x wr.heap.size ZV.out ?_ ?_ ?_); rfl; rfl; rw [HV.out]))
      refine BT.out.mono ?_; rintro e W2 ⟨rfl, rfl⟩
      have ME := MV
      clear ko1 ko2 ko3 ko4 kx0 kx1 kx3 kx4 k4
      obtain ⟨SS, hSS⟩ : ∃ SS : World → Prop, SS = fun U => (∃ v', Mj w B G g v (S.up (!o.bu) (x :: r)) o left td gn p (.slice (some ⟨b, 0, none⟩) n c) (S (!o.bu)) v' U) ∨ (∃ v', Mj w B G g v ((S.up (!o.bu) (x :: r)).up o.bu (addO o.bu ((S.up (!o.bu) (x :: r)) o.bu) (o.wi left))) o left td gn p (.slice (some ⟨b, 0, none⟩) n c) (S (!o.bu)) v' U) := ⟨_, rfl⟩
      have XB : Hid (∀ U, SS U → U.cell? ⟨w.heap.size, 2, none⟩ = some (.bool o.bu) ∧ EO.Bx 31 U w.heap.size (o.wi left)) := Lib.hid fun U hU => by
        rw [hSS] at hU
        rcases hU with ⟨_, m⟩ | ⟨_, m⟩ <;> exact ⟨gbx_cell m.xo 2, m.xo⟩
      have ke4 : V.cell? ⟨w.heap.size, 4, none⟩ = some (.int .i64 left) := gbx_cell ME.out.xo 4
      have d0 : decide (0 < left) = true := decide_eq_true h0
      rcases kind_cases k with rfl | rfl | ⟨n1, n4, nr⟩
      · have d5 : ((1 : Int) == 1) = true := by decide
        go_wp2_with fail
        clear ke4
        refine wp_region_held_drew (S := SS) (by kernel_rfl) (by rw [hSS]; exact .inl ⟨_, ME.out.drew⟩) (fun hH => ?_)
        refine wpAnyH_take (i := 0) (v := .pointer (some ⟨G, 0, none⟩)) rfl (by kernel_rfl) (by kernel_rfl) (by kernel_rfl) (fun _ _ _ h => h) (.inl ⟨by rfl, ?_⟩) (by assumption) ?_
        · intro W hW; go_simp
        try simp only [List.getElem_toArray, List.getElem_cons_zero, Act.put, List.setIfInBounds_toArray, List.set_cons_zero, List.set_cons_succ]
        refine wpAnyH_take (i := 1) (v := .pointer (some ⟨w.heap.size, 2, none⟩)) rfl (by kernel_rfl) (by kernel_rfl) (by kernel_rfl) (fun _ _ _ h => h) (.inl ⟨by rfl, ?_⟩) (by assumption) ?_
        · intro W hW; go_simp
        try simp only [List.getElem_toArray, List.getElem_cons_zero, List.getElem_cons_succ, Act.put, List.setIfInBounds_toArray, List.set_cons_zero, List.set_cons_succ]
        refine wpAnyH_take (i := 2) (v := .bool o.bu) rfl (by kernel_rfl) (by kernel_rfl) (by kernel_rfl) (fun _ _ _ h => h) (.inl ⟨by rfl, ?_⟩) (by assumption) ?_
        · intro W hW; have k := (XB.out W hW).1; go_simp
        try simp only [List.getElem_toArray, List.getElem_cons_zero, List.getElem_cons_succ, Act.put, List.setIfInBounds_toArray, List.set_cons_zero, List.set_cons_succ]
        refine wpAnyH_take (i := 4) (v := .agg (EO.cells (o.wi left)).toArray) rfl (by kernel_rfl) (by kernel_rfl) (by kernel_rfl) (fun _ _ _ h => h) (gyields_load TO (by rfl) (.tmp 4) rfl w.heap.size 0 rfl (fun U hU => gbx_rng (XB.out U hU).2)) (by assumption) ?_
        try simp only [List.getElem_toArray, List.getElem_cons_zero, List.getElem_cons_succ, Act.put, List.setIfInBounds_toArray, List.set_cons_zero, List.set_cons_succ]
        refine wpAnyH_ready (rs := [3]) (by decide +kernel) (by simp) (AllReadyH.cons rfl (fun KQ hK => ?_) AllReadyH.nil)
        go_simp
        refine (bown_any o.bu _ ME.out.drew.bk).mono ?_; rintro e0 W1 ⟨rfl, rfl⟩
        have hH := hH
        refine hK.out _ _ hH (fun _ => ?_)
        clear hK 
        try simp only [List.setIfInBounds_toArray, List.set_cons_zero, List.set_cons_succ]
        refine wpAnyH_ready (rs := [5]) (by decide +kernel) (by simp) (AllReadyH.cons rfl (fun KQ hK => ?_) AllReadyH.nil)
        go_simp
        refine (padd (ME.out.drew.bk.ps o.bu) WOK.out).mono ?_; rintro e0 W7 ⟨rfl, q7⟩
        obtain ⟨v7, m7⟩ := ME.out.drew.side q7
        have M7 := Lib.hid m7
        refine hK.out _ _ (by rw [hSS]; exact .inr ⟨_, m7⟩) (fun _ => ?_)
        clear hK hH q7
        try simp only [List.setIfInBounds_toArray, List.set_cons_zero, List.set_cons_succ]
        refine wpAnyH_done (by decide +kernel) ?_ _
        have c4 : W7.cell? ⟨w.heap.size, 4, none⟩ = some (.int .i64 left) := gbx_cell M7.out.xo 4
        have g3 : W7.frozen? ⟨w.heap.size + 1 + 1, 3, none⟩ = false := gbx_fz M7.out.xp 3
        have g3' : W7.cell? ⟨w.heap.size + 1 + 1, 3, none⟩ = some (.int .i64 p.lf) := gbx_cell M7.out.xp 3
        have M8 := Lib.hid (M7.out.rest left)
        have RGP := Lib.hid (gbx_rng M8.out.xp)
        clear m7
        go_wp2_with (first | ((with_reducible refine wl_load_px (s := { p with lf := left }) (w.heap.size + 1 + 1) 0 RGP.out ?_ ?_ ?_); rfl; rfl) | (refine wl_store_px { p with lf := left } (w.heap.size + 1) M8.out.xr rfl rfl ?_))
        have FN := Lib.hid (fun cs => M8.out.some (r := restK 1) E.out h0 (by decide) cs)
        exact bodyPost_ret (ret_px rfl _ _ (w.heap.size + 1) rfl (gbx_set M8.out.xr)) rfl (FN.out _)
      · have d5 : ((4 : Int) == 1) = false := by decide
        go_wp2_with fail
        clear ke4
        refine wp_region_held_drew (S := SS) (by kernel_rfl) (by rw [hSS]; exact .inl ⟨_, ME.out.drew⟩) (fun hH => ?_)
        refine wpAnyH_take (i := 0) (v := .pointer (some ⟨G, 0, none⟩)) rfl (by kernel_rfl) (by kernel_rfl) (by kernel_rfl) (fun _ _ _ h => h) (.inl ⟨by rfl, ?_⟩) (by assumption) ?_
        · intro W hW; go_simp
        try simp only [List.getElem_toArray, List.getElem_cons_zero, Act.put, List.setIfInBounds_toArray, List.set_cons_zero, List.set_cons_succ]
        refine wpAnyH_take (i := 1) (v := .pointer (some ⟨w.heap.size, 2, none⟩)) rfl (by kernel_rfl) (by kernel_rfl) (by kernel_rfl) (fun _ _ _ h => h) (.inl ⟨by rfl, ?_⟩) (by assumption) ?_
        · intro W hW; go_simp
        try simp only [List.getElem_toArray, List.getElem_cons_zero, List.getElem_cons_succ, Act.put, List.setIfInBounds_toArray, List.set_cons_zero, List.set_cons_succ]
        refine wpAnyH_take (i := 2) (v := .bool o.bu) rfl (by kernel_rfl) (by kernel_rfl) (by kernel_rfl) (fun _ _ _ h => h) (.inl ⟨by rfl, ?_⟩) (by assumption) ?_
        · intro W hW; have k := (XB.out W hW).1; go_simp
        try simp only [List.getElem_toArray, List.getElem_cons_zero, List.getElem_cons_succ, Act.put, List.setIfInBounds_toArray, List.set_cons_zero, List.set_cons_succ]
        refine wpAnyH_take (i := 4) (v := .agg (EO.cells (o.wi left)).toArray) rfl (by kernel_rfl) (by kernel_rfl) (by kernel_rfl) (fun _ _ _ h => h) (gyields_load TO (by rfl) (.tmp 4) rfl w.heap.size 0 rfl (fun U hU => gbx_rng (XB.out U hU).2)) (by assumption) ?_
        try simp only [List.getElem_toArray, List.getElem_cons_zero, List.getElem_cons_succ, Act.put, List.setIfInBounds_toArray, List.set_cons_zero, List.set_cons_succ]
        refine wpAnyH_ready (rs := [3]) (by decide +kernel) (by simp) (AllReadyH.cons rfl (fun KQ hK => ?_) AllReadyH.nil)
        go_simp
        refine (bown_any o.bu _ ME.out.drew.bk).mono ?_; rintro e0 W1 ⟨rfl, rfl⟩
        have hH := hH
        refine hK.out _ _ hH (fun _ => ?_)
        clear hK 
        try simp only [List.setIfInBounds_toArray, List.set_cons_zero, List.set_cons_succ]
        refine wpAnyH_ready (rs := [5]) (by decide +kernel) (by simp) (AllReadyH.cons rfl (fun KQ hK => ?_) AllReadyH.nil)
        go_simp
        refine (padd (ME.out.drew.bk.ps o.bu) WOK.out).mono ?_; rintro e0 W7 ⟨rfl, q7⟩
        obtain ⟨v7, m7⟩ := ME.out.drew.side q7
        have M7 := Lib.hid m7
        refine hK.out _ _ (by rw [hSS]; exact .inr ⟨_, m7⟩) (fun _ => ?_)
        clear hK hH q7
        try simp only [List.setIfInBounds_toArray, List.set_cons_zero, List.set_cons_succ]
        refine wpAnyH_done (by decide +kernel) ?_ _
        have c4 : W7.cell? ⟨w.heap.size, 4, none⟩ = some (.int .i64 left) := gbx_cell M7.out.xo 4
        have g3 : W7.frozen? ⟨w.heap.size + 1 + 1, 3, none⟩ = false := gbx_fz M7.out.xp 3
        have g3' : W7.cell? ⟨w.heap.size + 1 + 1, 3, none⟩ = some (.int .i64 p.lf) := gbx_cell M7.out.xp 3
        have M8 := Lib.hid (M7.out.rest left)
        have RGP := Lib.hid (gbx_rng M8.out.xp)
        clear m7
        go_wp2_with (first | ((with_reducible refine wl_load_px (s := { p with lf := left }) (w.heap.size + 1 + 1) 0 RGP.out ?_ ?_ ?_); rfl; rfl) | (refine wl_store_px { p with lf := left } (w.heap.size + 1) M8.out.xr rfl rfl ?_))
        have FN := Lib.hid (fun cs => M8.out.some (r := restK 4) E.out h0 (by decide) cs)
        exact bodyPost_ret (ret_px rfl _ _ (w.heap.size + 1) rfl (gbx_set M8.out.xr)) rfl (FN.out _)
      · have RGP := Lib.hid (gbx_rng ME.out.xp)
        have FN := Lib.hid (fun cs => ME.out.none (r := restK k) E.out (fun c => by rw [nr] at c; exact absurd c.2 (by decide)) LF.out cs)
        go_wp2_with (first | ((with_reducible refine wl_load_px (w.heap.size + 1 + 1) 0 RGP.out ?_ ?_ ?_); rfl; rfl) | (refine wl_store_px p (w.heap.size + 1) ME.out.xr rfl rfl ?_))
        exact bodyPost_ret (ret_px rfl _ _ (w.heap.size + 1) rfl (gbx_set ME.out.xr)) rfl (FN.out _)
    case true =>
      have HMT := Lib.hid hmt
      unfold metO at hmt
      have PC : o.pr = x.pr ∨ ((o.pr == x.pr) = false ∧ btr o.bu o.pr x.pr = true) := by
        by_cases c : o.pr = x.pr
        · exact .inl c
        · refine .inr ⟨beq_eq_false_iff_ne.2 c, ?_⟩
          rcases Bool.or_eq_true_iff.1 hmt with q | q
          · exact absurd (beq_iff_eq.1 q).symm c
          · exact q
      have UW : wr.heap.size ≠ w.heap.size ∧ wr.heap.size ≠ w.heap.size + 1 + 1 := by have := M.out.gl; omega
      have XS : Hid (∀ b, wr.heap.size ≠ g b) := Lib.hid fun b => by have := M.out.gl; have := M.out.sw b; omega
      clear hmt
      by_cases ha : x.ac = o.ac
      case pos =>
        have ea : (x.ac == o.ac) = true := beq_iff_eq.2 ha
        have HA := Lib.hid ha
        have DC := Lib.hid (pdrop (MV.out.bk.ps (!o.bu)) XOK.out.nu)
        clear ha
        rcases PC with hp | ⟨f3, f2⟩
        · have f3 : (o.pr == x.pr) = true := beq_iff_eq.2 hp
          have f4 : (o.pr != x.pr) = false := by simp [bne, f3]
          have hp' : decide (o.pr = x.pr) = true := decide_eq_true hp
          go_wp2_with (first | ((with_reducible refine gwl_load (d := some 34) TO b _ R1.out ?_ ?_ ?_); rfl; rfl) | ((with_reducible refine gwl_store TO x wr.heap.size ZV.out ?_ ?_ ?_); rfl; rfl; rw [HV.out]))
          refine DC.out.mono ?_; rintro e W5 ⟨rfl, q5⟩
          have y5 : EO.Bx 31 W5 wr.heap.size x := by
            obtain ⟨_, _, f, _⟩ := q5
            exact (f.at' _ SV.out (fun c => XS.out _ c)).trans YV.out
          obtain ⟨v2, m5⟩ := MV.out.side q5
          rw [Sd.up_at, Sd.up_up, drop_head IO.out] at m5
          have k0 : W5.cell? ⟨wr.heap.size, 0, none⟩ = some (.int .u64 x.nu) := gbx_cell y5 0
          have p1 : W5.cell? ⟨w.heap.size + 1 + 1, 1, none⟩ = some (.slice p.na p.nn p.nc) := gbx_cell m5.xp 1
          have QN := Lib.hid (below_new W5 (.cells #[.int .u64 x.nu] 28))
          have OWN : Hid (ENu.Own 28 (W5.alloc (.cells #[.int .u64 x.nu] 28)) w.heap.size (.slice p.na p.nn p.nc) gn) := Lib.hid (gown_below m5.pi.no QN.out)
          have RDN : Hid (ENu.Rd (W5.alloc (.cells #[.int .u64 x.nu] 28)) (some ⟨W5.heap.size, 0, none⟩) 1 [x.nu]) := Lib.hid (gbx_rd (E := ENu) (te := 28) (gbx_new (E := ENu) W5 x.nu))
          have M5 := Lib.hid m5
          have SZ := Lib.hid m5.gl
          have LN : Hid (gn.length ≤ 101) := Lib.hid (by have := MR.out.ln; omega)
          clear q5 y5 m5 kx0 kx1 kx3 kx4 ko1 ko2 ko3 ko4 k4
          go_wp2_with (at_builtin; refine nu_app rfl (.tmp 60) (.tmp 63) rfl w.heap.size _ gn rfl OWN.out _ 1 1 [x.nu] rfl RDN.out (by have := LN.out; omega) (by have := SZ.out; simp; omega) ?_; intro v' w' o1 o2 o3; obtain ⟨A6, n6, c6, rfl⟩ := gown_any o1; have PUSH := Lib.hid (M5.out.gone QN.out o1 o2 o3); have xp' := M5.out.row_p QN.out o2 (fun k e => .inr e); have cv' : w'.cell? ⟨w.heap.size + 1 + 1, 1, none⟩ = some (.slice p.na p.nn p.nc) := gbx_cell xp' 1; have fv' : w'.frozen? ⟨w.heap.size + 1 + 1, 1, none⟩ = false := gbx_fz xp' 1; clear o1 o2 o3 xp')
          obtain ⟨RA, RB⟩ := MR.out.own h0 HMT.out HA.out
          go_roundw
          case rel => exact ⟨j + 1, left, r, td, gn ++ [x.nu], { p with na := A6, nn := n6, nc := c6 }, v2, _, hlt, by go_num, fun _ => HR.out.symm, RA, LF.out, IO.out.tail, PUSH.out⟩
          case measure => simp [intOf]; omega
        · have f4 : (o.pr != x.pr) = true := by simp [bne, f3]
          have BT := Lib.hid (rbtr_any o.bu o.pr x.pr V)
          rw [f2] at BT
          clear f2
          go_wp2_with (first | ((with_reducible refine gwl_load (d := some 34) TO b _ R1.out ?_ ?_ ?_); rfl; rfl) | ((with_reducible refine gwl_store TO x wr.heap.size ZV.out ?_ ?_ ?_); rfl; rfl; rw [HV.out]))
          refine BT.out.mono ?_; rintro e W2 ⟨rfl, rfl⟩
          clear BT
          go_wp2_with fail
          refine DC.out.mono ?_; rintro e W5 ⟨rfl, q5⟩
          have y5 : EO.Bx 31 W5 wr.heap.size x := by
            obtain ⟨_, _, f, _⟩ := q5
            exact (f.at' _ SV.out (fun c => XS.out _ c)).trans YV.out
          obtain ⟨v2, m5⟩ := MV.out.side q5
          rw [Sd.up_at, Sd.up_up, drop_head IO.out] at m5
          have k0 : W5.cell? ⟨wr.heap.size, 0, none⟩ = some (.int .u64 x.nu) := gbx_cell y5 0
          have p1 : W5.cell? ⟨w.heap.size + 1 + 1, 1, none⟩ = some (.slice p.na p.nn p.nc) := gbx_cell m5.xp 1
          have QN := Lib.hid (below_new W5 (.cells #[.int .u64 x.nu] 28))
          have OWN : Hid (ENu.Own 28 (W5.alloc (.cells #[.int .u64 x.nu] 28)) w.heap.size (.slice p.na p.nn p.nc) gn) := Lib.hid (gown_below m5.pi.no QN.out)
          have RDN : Hid (ENu.Rd (W5.alloc (.cells #[.int .u64 x.nu] 28)) (some ⟨W5.heap.size, 0, none⟩) 1 [x.nu]) := Lib.hid (gbx_rd (E := ENu) (te := 28) (gbx_new (E := ENu) W5 x.nu))
          have M5 := Lib.hid m5
          have SZ := Lib.hid m5.gl
          have LN : Hid (gn.length ≤ 101) := Lib.hid (by have := MR.out.ln; omega)
          clear q5 y5 m5 kx0 kx1 kx3 kx4 ko1 ko2 ko3 ko4 k4
          go_wp2_with (at_builtin; refine nu_app rfl (.tmp 60) (.tmp 63) rfl w.heap.size _ gn rfl OWN.out _ 1 1 [x.nu] rfl RDN.out (by have := LN.out; omega) (by have := SZ.out; simp; omega) ?_; intro v' w' o1 o2 o3; obtain ⟨A6, n6, c6, rfl⟩ := gown_any o1; have PUSH := Lib.hid (M5.out.gone QN.out o1 o2 o3); have xp' := M5.out.row_p QN.out o2 (fun k e => .inr e); have cv' : w'.cell? ⟨w.heap.size + 1 + 1, 1, none⟩ = some (.slice p.na p.nn p.nc) := gbx_cell xp' 1; have fv' : w'.frozen? ⟨w.heap.size + 1 + 1, 1, none⟩ = false := gbx_fz xp' 1; clear o1 o2 o3 xp')
          obtain ⟨RA, RB⟩ := MR.out.own h0 HMT.out HA.out
          go_roundw
          case rel => exact ⟨j + 1, left, r, td, gn ++ [x.nu], { p with na := A6, nn := n6, nc := c6 }, v2, _, hlt, by go_num, fun _ => HR.out.symm, RA, LF.out, IO.out.tail, PUSH.out⟩
          case measure => simp [intOf]; omega
      case neg =>
        have ea : (x.ac == o.ac) = false := beq_eq_false_iff_ne.2 ha
        have HA := Lib.hid ha
        clear ha
        obtain ⟨m, hm⟩ : ∃ m, minO x.le left = m := ⟨_, rfl⟩
        have hn1 := minO_le x.le left
        have hn2 := minO_pos (a := x.le) (b := left) (by omega) h0
        rw [hm] at hn1 hn2
        have FC := Lib.hid (pfill (n := m) (MV.out.bk.ps (!o.bu)) ⟨by omega, by omega⟩)
        have HMN := Lib.hid hm
        have MC : (decide (left < x.le) = true ∧ left = m) ∨ (decide (left < x.le) = false ∧ x.le = m) := by
          rw [← hm]
          unfold minO
          by_cases c : left < x.le
          · exact .inl ⟨decide_eq_true c, (if_pos c).symm⟩
          · exact .inr ⟨decide_eq_false c, (if_neg c).symm⟩
        have BND := Lib.hid (And.intro hn1 (And.intro hn2 (And.intro hsum (And.intro hfi (And.intro hle0 (And.intro hml hxl))))))
        clear hm hn1 hn2 hsum hfi hle0 hml hxl
        rcases PC with hp | ⟨f3, f2⟩
        · rcases MC with ⟨mc, em⟩ | ⟨mc, em⟩
          · rw [em] at ko4 mc
            clear em
            have f3 : (o.pr == x.pr) = true := beq_iff_eq.2 hp
            have f4 : (o.pr != x.pr) = false := by simp [bne, f3]
            have hp' : decide (o.pr = x.pr) = true := decide_eq_true hp
            go_wp2_with (first | ((with_reducible refine gwl_load (d := some 34) TO b _ R1.out ?_ ?_ ?_); rfl; rfl) | ((with_reducible refine gwl_store TO x wr.heap.size ZV.out ?_ ?_ ?_); rfl; rfl; rw [HV.out]))
            refine FC.out.mono ?_; rintro e W5 ⟨rfl, q5⟩
            have y5 : EO.Bx 31 W5 wr.heap.size x := by
              obtain ⟨_, _, f, _⟩ := q5
              exact (f.at' _ SV.out (fun c => XS.out _ c)).trans YV.out
            obtain ⟨v2, m5⟩ := MV.out.side q5
            rw [Sd.up_at, Sd.up_up] at m5
            have k4 : W5.cell? ⟨w.heap.size, 4, none⟩ = some (.int .i64 left) := gbx_cell m5.xo 4
            have f4 : W5.frozen? ⟨w.heap.size, 4, none⟩ = false := gbx_fz m5.xo 4
            have m6 := m5.order (left - m)
            have y6 : EO.Bx 31 (W5.setCell ⟨w.heap.size, 4, none⟩ (.int .i64 (left - m))) wr.heap.size x := (heap_setCell_other W5 ⟨w.heap.size, 4, none⟩ _ _ UW.1).trans y5
            have p2 : (W5.setCell ⟨w.heap.size, 4, none⟩ (.int .i64 (left - m))).cell? ⟨w.heap.size + 1 + 1, 2, none⟩ = some (.int .i64 p.fi) := gbx_cell m6.xp 2
            have f2 : (W5.setCell ⟨w.heap.size, 4, none⟩ (.int .i64 (left - m))).frozen? ⟨w.heap.size + 1 + 1, 2, none⟩ = false := gbx_fz m6.xp 2
            have m7 := m6.filled (p.fi + m)
            have y7 : EO.Bx 31 ((W5.setCell ⟨w.heap.size, 4, none⟩ (.int .i64 (left - m))).setCell ⟨w.heap.size + 1 + 1, 2, none⟩ (.int .i64 (p.fi + m))) wr.heap.size x := (heap_setCell_other _ ⟨w.heap.size + 1 + 1, 2, none⟩ _ _ UW.2).trans y6
            obtain ⟨W7, hW7⟩ : ∃ W7, ((W5.setCell ⟨w.heap.size, 4, none⟩ (.int .i64 (left - m))).setCell ⟨w.heap.size + 1 + 1, 2, none⟩ (.int .i64 (p.fi + m))) = W7 := ⟨_, rfl⟩
            have p0 : ((W5.setCell ⟨w.heap.size, 4, none⟩ (.int .i64 (left - m))).setCell ⟨w.heap.size + 1 + 1, 2, none⟩ (.int .i64 (p.fi + m))).cell? ⟨w.heap.size + 1 + 1, 0, none⟩ = some (.slice p.ta p.tn p.tc) := gbx_cell m7.xp 0
            have x0 : ((W5.setCell ⟨w.heap.size, 4, none⟩ (.int .i64 (left - m))).setCell ⟨w.heap.size + 1 + 1, 2, none⟩ (.int .i64 (p.fi + m))).cell? ⟨wr.heap.size, 0, none⟩ = some (.int .u64 x.nu) := gbx_cell y7 0
            have x1 : ((W5.setCell ⟨w.heap.size, 4, none⟩ (.int .i64 (left - m))).setCell ⟨w.heap.size + 1 + 1, 2, none⟩ (.int .i64 (p.fi + m))).cell? ⟨wr.heap.size, 1, none⟩ = some (.int .u32 x.ac) := gbx_cell y7 1
            have x3 : ((W5.setCell ⟨w.heap.size, 4, none⟩ (.int .i64 (left - m))).setCell ⟨w.heap.size + 1 + 1, 2, none⟩ (.int .i64 (p.fi + m))).cell? ⟨wr.heap.size, 3, none⟩ = some (.int .i64 x.pr) := gbx_cell y7 3
            rw [hW7] at m7 y7
            have HW7 := Lib.hid hW7
            have QN := Lib.hid (below_new W7 (.cells (ET.cells ⟨x.pr, m, x.nu, x.ac⟩).toArray 63))
            have OWN : Hid (ET.Own 63 (W7.alloc (.cells (ET.cells ⟨x.pr, m, x.nu, x.ac⟩).toArray 63)) w.heap.size (.slice p.ta p.tn p.tc) td) := Lib.hid (gown_below m7.pi.to QN.out)
            have RDN := Lib.hid (gbx_rd (gbx_new (E := ET) (te := 63) W7 ⟨x.pr, m, x.nu, x.ac⟩))
            have M7 := Lib.hid m7
            have SZ := Lib.hid m7.gl
            have LN : Hid (td.length ≤ 101) := Lib.hid (by have := MR.out.ln; omega)
            obtain ⟨hn1, hn2, hsum, hfi, hle0, hml, hxl⟩ := BND.out
            have b1 : -9223372036854775808 ≤ left - m := by omega
            have b2 : left - m ≤ 9223372036854775807 := by omega
            have b3 : -9223372036854775808 ≤ p.fi + m := by omega
            have b4 : p.fi + m ≤ 9223372036854775807 := by omega
            clear q5 y5 y6 y7 m5 m6 m7 kx0 kx1 kx3 kx4 ko1 ko2 ko3 ko4 hW7 UW hn1 hn2 hsum hfi hle0 hml hxl
            go_wp2_with (first | (refine gwl_bs TT (s := ⟨x.pr, m, x.nu, x.ac⟩) rfl (fill_td _) ?_ (by decide); rw [HW7.out]) | (at_builtin; refine gpl_app TT rfl (.tmp 88) (.tmp 97) rfl w.heap.size (.slice p.ta p.tn p.tc) td rfl OWN.out _ 1 1 [⟨x.pr, m, x.nu, x.ac⟩] rfl RDN.out (fun e => by cases e) (by have := LN.out; omega) (by have := SZ.out; simp; omega) ?_; intro v' w' o1 o2 o3; obtain ⟨A6, n6, c6, rfl⟩ := gown_any o1; have PUSH := Lib.hid (M7.out.traded QN.out o1 o2 o3); have xp' := M7.out.row_p QN.out o2 (fun k e => .inl e); have cv' : w'.cell? ⟨w.heap.size + 1 + 1, 0, none⟩ = some (.slice p.ta p.tn p.tc) := gbx_cell xp' 0; have fv' : w'.frozen? ⟨w.heap.size + 1 + 1, 0, none⟩ = false := gbx_fz xp' 0; clear o1 o2 o3 xp'))
            obtain ⟨hn1, hn2, hsum, hfi, hle0, hml, hxl⟩ := BND.out
            obtain ⟨k', RA, RB⟩ := MR.out.trade h0 HMT.out HA.out (by omega)
            rw [HMN.out] at RB
            go_roundw
            case rel => exact ⟨j + 1, left - m, fillO (x :: r) m, td ++ [⟨x.pr, m, x.nu, x.ac⟩], gn, { p with ta := A6, tn := n6, tc := c6, fi := p.fi + m }, v2, k', hlt, by go_num, fun c => (fill_drop HMN.out (by omega) c).trans HR.out.symm, RB, LF.out, IO.out.fill, PUSH.out⟩
            case measure => simp [intOf]; omega
          · rw [em] at kx4 mc
            clear em
            have f3 : (o.pr == x.pr) = true := beq_iff_eq.2 hp
            have f4 : (o.pr != x.pr) = false := by simp [bne, f3]
            have hp' : decide (o.pr = x.pr) = true := decide_eq_true hp
            go_wp2_with (first | ((with_reducible refine gwl_load (d := some 34) TO b _ R1.out ?_ ?_ ?_); rfl; rfl) | ((with_reducible refine gwl_store TO x wr.heap.size ZV.out ?_ ?_ ?_); rfl; rfl; rw [HV.out]))
            refine FC.out.mono ?_; rintro e W5 ⟨rfl, q5⟩
            have y5 : EO.Bx 31 W5 wr.heap.size x := by
              obtain ⟨_, _, f, _⟩ := q5
              exact (f.at' _ SV.out (fun c => XS.out _ c)).trans YV.out
            obtain ⟨v2, m5⟩ := MV.out.side q5
            rw [Sd.up_at, Sd.up_up] at m5
            have k4 : W5.cell? ⟨w.heap.size, 4, none⟩ = some (.int .i64 left) := gbx_cell m5.xo 4
            have f4 : W5.frozen? ⟨w.heap.size, 4, none⟩ = false := gbx_fz m5.xo 4
            have m6 := m5.order (left - m)
            have y6 : EO.Bx 31 (W5.setCell ⟨w.heap.size, 4, none⟩ (.int .i64 (left - m))) wr.heap.size x := (heap_setCell_other W5 ⟨w.heap.size, 4, none⟩ _ _ UW.1).trans y5
            have p2 : (W5.setCell ⟨w.heap.size, 4, none⟩ (.int .i64 (left - m))).cell? ⟨w.heap.size + 1 + 1, 2, none⟩ = some (.int .i64 p.fi) := gbx_cell m6.xp 2
            have f2 : (W5.setCell ⟨w.heap.size, 4, none⟩ (.int .i64 (left - m))).frozen? ⟨w.heap.size + 1 + 1, 2, none⟩ = false := gbx_fz m6.xp 2
            have m7 := m6.filled (p.fi + m)
            have y7 : EO.Bx 31 ((W5.setCell ⟨w.heap.size, 4, none⟩ (.int .i64 (left - m))).setCell ⟨w.heap.size + 1 + 1, 2, none⟩ (.int .i64 (p.fi + m))) wr.heap.size x := (heap_setCell_other _ ⟨w.heap.size + 1 + 1, 2, none⟩ _ _ UW.2).trans y6
            obtain ⟨W7, hW7⟩ : ∃ W7, ((W5.setCell ⟨w.heap.size, 4, none⟩ (.int .i64 (left - m))).setCell ⟨w.heap.size + 1 + 1, 2, none⟩ (.int .i64 (p.fi + m))) = W7 := ⟨_, rfl⟩
            have p0 : ((W5.setCell ⟨w.heap.size, 4, none⟩ (.int .i64 (left - m))).setCell ⟨w.heap.size + 1 + 1, 2, none⟩ (.int .i64 (p.fi + m))).cell? ⟨w.heap.size + 1 + 1, 0, none⟩ = some (.slice p.ta p.tn p.tc) := gbx_cell m7.xp 0
            have x0 : ((W5.setCell ⟨w.heap.size, 4, none⟩ (.int .i64 (left - m))).setCell ⟨w.heap.size + 1 + 1, 2, none⟩ (.int .i64 (p.fi + m))).cell? ⟨wr.heap.size, 0, none⟩ = some (.int .u64 x.nu) := gbx_cell y7 0
            have x1 : ((W5.setCell ⟨w.heap.size, 4, none⟩ (.int .i64 (left - m))).setCell ⟨w.heap.size + 1 + 1, 2, none⟩ (.int .i64 (p.fi + m))).cell? ⟨wr.heap.size, 1, none⟩ = some (.int .u32 x.ac) := gbx_cell y7 1
            have x3 : ((W5.setCell ⟨w.heap.size, 4, none⟩ (.int .i64 (left - m))).setCell ⟨w.heap.size + 1 + 1, 2, none⟩ (.int .i64 (p.fi + m))).cell? ⟨wr.heap.size, 3, none⟩ = some (.int .i64 x.pr) := gbx_cell y7 3
            rw [hW7] at m7 y7
            have HW7 := Lib.hid hW7
            have QN := Lib.hid (below_new W7 (.cells (ET.cells ⟨x.pr, m, x.nu, x.ac⟩).toArray 63))
            have OWN : Hid (ET.Own 63 (W7.alloc (.cells (ET.cells ⟨x.pr, m, x.nu, x.ac⟩).toArray 63)) w.heap.size (.slice p.ta p.tn p.tc) td) := Lib.hid (gown_below m7.pi.to QN.out)
            have RDN := Lib.hid (gbx_rd (gbx_new (E := ET) (te := 63) W7 ⟨x.pr, m, x.nu, x.ac⟩))
            have M7 := Lib.hid m7
            have SZ := Lib.hid m7.gl
            have LN : Hid (td.length ≤ 101) := Lib.hid (by have := MR.out.ln; omega)
            obtain ⟨hn1, hn2, hsum, hfi, hle0, hml, hxl⟩ := BND.out
            have b1 : -9223372036854775808 ≤ left - m := by omega
            have b2 : left - m ≤ 9223372036854775807 := by omega
            have b3 : -9223372036854775808 ≤ p.fi + m := by omega
            have b4 : p.fi + m ≤ 9223372036854775807 := by omega
            clear q5 y5 y6 y7 m5 m6 m7 kx0 kx1 kx3 kx4 ko1 ko2 ko3 ko4 hW7 UW hn1 hn2 hsum hfi hle0 hml hxl
            go_wp2_with (first | (refine gwl_bs TT (s := ⟨x.pr, m, x.nu, x.ac⟩) rfl (fill_td _) ?_ (by decide); rw [HW7.out]) | (at_builtin; refine gpl_app TT rfl (.tmp 88) (.tmp 97) rfl w.heap.size (.slice p.ta p.tn p.tc) td rfl OWN.out _ 1 1 [⟨x.pr, m, x.nu, x.ac⟩] rfl RDN.out (fun e => by cases e) (by have := LN.out; omega) (by have := SZ.out; simp; omega) ?_; intro v' w' o1 o2 o3; obtain ⟨A6, n6, c6, rfl⟩ := gown_any o1; have PUSH := Lib.hid (M7.out.traded QN.out o1 o2 o3); have xp' := M7.out.row_p QN.out o2 (fun k e => .inl e); have cv' : w'.cell? ⟨w.heap.size + 1 + 1, 0, none⟩ = some (.slice p.ta p.tn p.tc) := gbx_cell xp' 0; have fv' : w'.frozen? ⟨w.heap.size + 1 + 1, 0, none⟩ = false := gbx_fz xp' 0; clear o1 o2 o3 xp'))
            obtain ⟨hn1, hn2, hsum, hfi, hle0, hml, hxl⟩ := BND.out
            obtain ⟨k', RA, RB⟩ := MR.out.trade h0 HMT.out HA.out (by omega)
            rw [HMN.out] at RB
            go_roundw
            case rel => exact ⟨j + 1, left - m, fillO (x :: r) m, td ++ [⟨x.pr, m, x.nu, x.ac⟩], gn, { p with ta := A6, tn := n6, tc := c6, fi := p.fi + m }, v2, k', hlt, by go_num, fun c => (fill_drop HMN.out (by omega) c).trans HR.out.symm, RB, LF.out, IO.out.fill, PUSH.out⟩
            case measure => simp [intOf]; omega
        · rcases MC with ⟨mc, em⟩ | ⟨mc, em⟩
          · rw [em] at ko4 mc
            clear em
            have f4 : (o.pr != x.pr) = true := by simp [bne, f3]
            have BT := Lib.hid (rbtr_any o.bu o.pr x.pr V)
            rw [f2] at BT
            clear f2
            go_wp2_with (first | ((with_reducible refine gwl_load (d := some 34) TO b _ R1.out ?_ ?_ ?_); rfl; rfl) | ((with_reducible refine gwl_store TO x wr.heap.size ZV.out ?_ ?_ ?_); rfl; rfl; rw [HV.out]))
            refine BT.out.mono ?_; rintro e W2 ⟨rfl, rfl⟩
            clear BT
            go_wp2_with fail
            refine FC.out.mono ?_; rintro e W5 ⟨rfl, q5⟩
            have y5 : EO.Bx 31 W5 wr.heap.size x := by
              obtain ⟨_, _, f, _⟩ := q5
              exact (f.at' _ SV.out (fun c => XS.out _ c)).trans YV.out
            obtain ⟨v2, m5⟩ := MV.out.side q5
            rw [Sd.up_at, Sd.up_up] at m5
            have k4 : W5.cell? ⟨w.heap.size, 4, none⟩ = some (.int .i64 left) := gbx_cell m5.xo 4
            have f4 : W5.frozen? ⟨w.heap.size, 4, none⟩ = false := gbx_fz m5.xo 4
            have m6 := m5.order (left - m)
            have y6 : EO.Bx 31 (W5.setCell ⟨w.heap.size, 4, none⟩ (.int .i64 (left - m))) wr.heap.size x := (heap_setCell_other W5 ⟨w.heap.size, 4, none⟩ _ _ UW.1).trans y5
            have p2 : (W5.setCell ⟨w.heap.size, 4, none⟩ (.int .i64 (left - m))).cell? ⟨w.heap.size + 1 + 1, 2, none⟩ = some (.int .i64 p.fi) := gbx_cell m6.xp 2
            have f2 : (W5.setCell ⟨w.heap.size, 4, none⟩ (.int .i64 (left - m))).frozen? ⟨w.heap.size + 1 + 1, 2, none⟩ = false := gbx_fz m6.xp 2
            have m7 := m6.filled (p.fi + m)
            have y7 : EO.Bx 31 ((W5.setCell ⟨w.heap.size, 4, none⟩ (.int .i64 (left - m))).setCell ⟨w.heap.size + 1 + 1, 2, none⟩ (.int .i64 (p.fi + m))) wr.heap.size x := (heap_setCell_other _ ⟨w.heap.size + 1 + 1, 2, none⟩ _ _ UW.2).trans y6
            obtain ⟨W7, hW7⟩ : ∃ W7, ((W5.setCell ⟨w.heap.size, 4, none⟩ (.int .i64 (left - m))).setCell ⟨w.heap.size + 1 + 1, 2, none⟩ (.int .i64 (p.fi + m))) = W7 := ⟨_, rfl⟩
            have p0 : ((W5.setCell ⟨w.heap.size, 4, none⟩ (.int .i64 (left - m))).setCell ⟨w.heap.size + 1 + 1, 2, none⟩ (.int .i64 (p.fi + m))).cell? ⟨w.heap.size + 1 + 1, 0, none⟩ = some (.slice p.ta p.tn p.tc) := gbx_cell m7.xp 0
            have x0 : ((W5.setCell ⟨w.heap.size, 4, none⟩ (.int .i64 (left - m))).setCell ⟨w.heap.size + 1 + 1, 2, none⟩ (.int .i64 (p.fi + m))).cell? ⟨wr.heap.size, 0, none⟩ = some (.int .u64 x.nu) := gbx_cell y7 0
            have x1 : ((W5.setCell ⟨w.heap.size, 4, none⟩ (.int .i64 (left - m))).setCell ⟨w.heap.size + 1 + 1, 2, none⟩ (.int .i64 (p.fi + m))).cell? ⟨wr.heap.size, 1, none⟩ = some (.int .u32 x.ac) := gbx_cell y7 1
            have x3 : ((W5.setCell ⟨w.heap.size, 4, none⟩ (.int .i64 (left - m))).setCell ⟨w.heap.size + 1 + 1, 2, none⟩ (.int .i64 (p.fi + m))).cell? ⟨wr.heap.size, 3, none⟩ = some (.int .i64 x.pr) := gbx_cell y7 3
            rw [hW7] at m7 y7
            have HW7 := Lib.hid hW7
            have QN := Lib.hid (below_new W7 (.cells (ET.cells ⟨x.pr, m, x.nu, x.ac⟩).toArray 63))
            have OWN : Hid (ET.Own 63 (W7.alloc (.cells (ET.cells ⟨x.pr, m, x.nu, x.ac⟩).toArray 63)) w.heap.size (.slice p.ta p.tn p.tc) td) := Lib.hid (gown_below m7.pi.to QN.out)
            have RDN := Lib.hid (gbx_rd (gbx_new (E := ET) (te := 63) W7 ⟨x.pr, m, x.nu, x.ac⟩))
            have M7 := Lib.hid m7
            have SZ := Lib.hid m7.gl
            have LN : Hid (td.length ≤ 101) := Lib.hid (by have := MR.out.ln; omega)
            obtain ⟨hn1, hn2, hsum, hfi, hle0, hml, hxl⟩ := BND.out
            have b1 : -9223372036854775808 ≤ left - m := by omega
            have b2 : left - m ≤ 9223372036854775807 := by omega
            have b3 : -9223372036854775808 ≤ p.fi + m := by omega
            have b4 : p.fi + m ≤ 9223372036854775807 := by omega
            clear q5 y5 y6 y7 m5 m6 m7 kx0 kx1 kx3 kx4 ko1 ko2 ko3 ko4 hW7 UW hn1 hn2 hsum hfi hle0 hml hxl
            go_wp2_with (first | (refine gwl_bs TT (s := ⟨x.pr, m, x.nu, x.ac⟩) rfl (fill_td _) ?_ (by decide); rw [HW7.out]) | (at_builtin; refine gpl_app TT rfl (.tmp 88) (.tmp 97) rfl w.heap.size (.slice p.ta p.tn p.tc) td rfl OWN.out _ 1 1 [⟨x.pr, m, x.nu, x.ac⟩] rfl RDN.out (fun e => by cases e) (by have := LN.out; omega) (by have := SZ.out; simp; omega) ?_; intro v' w' o1 o2 o3; obtain ⟨A6, n6, c6, rfl⟩ := gown_any o1; have PUSH := Lib.hid (M7.out.traded QN.out o1 o2 o3); have xp' := M7.out.row_p QN.out o2 (fun k e => .inl e); have cv' : w'.cell? ⟨w.heap.size + 1 + 1, 0, none⟩ = some (.slice p.ta p.tn p.tc) := gbx_cell xp' 0; have fv' : w'.frozen? ⟨w.heap.size + 1 + 1, 0, none⟩ = false := gbx_fz xp' 0; clear o1 o2 o3 xp'))
            obtain ⟨hn1, hn2, hsum, hfi, hle0, hml, hxl⟩ := BND.out
            obtain ⟨k', RA, RB⟩ := MR.out.trade h0 HMT.out HA.out (by omega)
            rw [HMN.out] at RB
            go_roundw
            case rel => exact ⟨j + 1, left - m, fillO (x :: r) m, td ++ [⟨x.pr, m, x.nu, x.ac⟩], gn, { p with ta := A6, tn := n6, tc := c6, fi := p.fi + m }, v2, k', hlt, by go_num, fun c => (fill_drop HMN.out (by omega) c).trans HR.out.symm, RB, LF.out, IO.out.fill, PUSH.out⟩
            case measure => simp [intOf]; omega
          · rw [em] at kx4 mc
            clear em
            have f4 : (o.pr != x.pr) = true := by simp [bne, f3]
            have BT := Lib.hid (rbtr_any o.bu o.pr x.pr V)
            rw [f2] at BT
            clear f2
            go_wp2_with (first | ((with_reducible refine gwl_load (d := some 34) TO b _ R1.out ?_ ?_ ?_); rfl; rfl) | ((with_reducible refine gwl_store TO x wr.heap.size ZV.out ?_ ?_ ?_); rfl; rfl; rw [HV.out]))
            refine BT.out.mono ?_; rintro e W2 ⟨rfl, rfl⟩
            clear BT
            go_wp2_with fail
            refine FC.out.mono ?_; rintro e W5 ⟨rfl, q5⟩
            have y5 : EO.Bx 31 W5 wr.heap.size x := by
              obtain ⟨_, _, f, _⟩ := q5
              exact (f.at' _ SV.out (fun c => XS.out _ c)).trans YV.out
            obtain ⟨v2, m5⟩ := MV.out.side q5
            rw [Sd.up_at, Sd.up_up] at m5
            have k4 : W5.cell? ⟨w.heap.size, 4, none⟩ = some (.int .i64 left) := gbx_cell m5.xo 4
            have f4 : W5.frozen? ⟨w.heap.size, 4, none⟩ = false := gbx_fz m5.xo 4
            have m6 := m5.order (left - m)
            have y6 : EO.Bx 31 (W5.setCell ⟨w.heap.size, 4, none⟩ (.int .i64 (left - m))) wr.heap.size x := (heap_setCell_other W5 ⟨w.heap.size, 4, none⟩ _ _ UW.1).trans y5
            have p2 : (W5.setCell ⟨w.heap.size, 4, none⟩ (.int .i64 (left - m))).cell? ⟨w.heap.size + 1 + 1, 2, none⟩ = some (.int .i64 p.fi) := gbx_cell m6.xp 2
            have f2 : (W5.setCell ⟨w.heap.size, 4, none⟩ (.int .i64 (left - m))).frozen? ⟨w.heap.size + 1 + 1, 2, none⟩ = false := gbx_fz m6.xp 2
            have m7 := m6.filled (p.fi + m)
            have y7 : EO.Bx 31 ((W5.setCell ⟨w.heap.size, 4, none⟩ (.int .i64 (left - m))).setCell ⟨w.heap.size + 1 + 1, 2, none⟩ (.int .i64 (p.fi + m))) wr.heap.size x := (heap_setCell_other _ ⟨w.heap.size + 1 + 1, 2, none⟩ _ _ UW.2).trans y6
            obtain ⟨W7, hW7⟩ : ∃ W7, ((W5.setCell ⟨w.heap.size, 4, none⟩ (.int .i64 (left - m))).setCell ⟨w.heap.size + 1 + 1, 2, none⟩ (.int .i64 (p.fi + m))) = W7 := ⟨_, rfl⟩
            have p0 : ((W5.setCell ⟨w.heap.size, 4, none⟩ (.int .i64 (left - m))).setCell ⟨w.heap.size + 1 + 1, 2, none⟩ (.int .i64 (p.fi + m))).cell? ⟨w.heap.size + 1 + 1, 0, none⟩ = some (.slice p.ta p.tn p.tc) := gbx_cell m7.xp 0
            have x0 : ((W5.setCell ⟨w.heap.size, 4, none⟩ (.int .i64 (left - m))).setCell ⟨w.heap.size + 1 + 1, 2, none⟩ (.int .i64 (p.fi + m))).cell? ⟨wr.heap.size, 0, none⟩ = some (.int .u64 x.nu) := gbx_cell y7 0
            have x1 : ((W5.setCell ⟨w.heap.size, 4, none⟩ (.int .i64 (left - m))).setCell ⟨w.heap.size + 1 + 1, 2, none⟩ (.int .i64 (p.fi + m))).cell? ⟨wr.heap.size, 1, none⟩ = some (.int .u32 x.ac) := gbx_cell y7 1
            have x3 : ((W5.setCell ⟨w.heap.size, 4, none⟩ (.int .i64 (left - m))).setCell ⟨w.heap.size + 1 + 1, 2, none⟩ (.int .i64 (p.fi + m))).cell? ⟨wr.heap.size, 3, none⟩ = some (.int .i64 x.pr) := gbx_cell y7 3
            rw [hW7] at m7 y7
            have HW7 := Lib.hid hW7
            have QN := Lib.hid (below_new W7 (.cells (ET.cells ⟨x.pr, m, x.nu, x.ac⟩).toArray 63))
            have OWN : Hid (ET.Own 63 (W7.alloc (.cells (ET.cells ⟨x.pr, m, x.nu, x.ac⟩).toArray 63)) w.heap.size (.slice p.ta p.tn p.tc) td) := Lib.hid (gown_below m7.pi.to QN.out)
            have RDN := Lib.hid (gbx_rd (gbx_new (E := ET) (te := 63) W7 ⟨x.pr, m, x.nu, x.ac⟩))
            have M7 := Lib.hid m7
            have SZ := Lib.hid m7.gl
            have LN : Hid (td.length ≤ 101) := Lib.hid (by have := MR.out.ln; omega)
            obtain ⟨hn1, hn2, hsum, hfi, hle0, hml, hxl⟩ := BND.out
            have b1 : -9223372036854775808 ≤ left - m := by omega
            have b2 : left - m ≤ 9223372036854775807 := by omega
            have b3 : -9223372036854775808 ≤ p.fi + m := by omega
            have b4 : p.fi + m ≤ 9223372036854775807 := by omega
            clear q5 y5 y6 y7 m5 m6 m7 kx0 kx1 kx3 kx4 ko1 ko2 ko3 ko4 hW7 UW hn1 hn2 hsum hfi hle0 hml hxl
            go_wp2_with (first | (refine gwl_bs TT (s := ⟨x.pr, m, x.nu, x.ac⟩) rfl (fill_td _) ?_ (by decide); rw [HW7.out]) | (at_builtin; refine gpl_app TT rfl (.tmp 88) (.tmp 97) rfl w.heap.size (.slice p.ta p.tn p.tc) td rfl OWN.out _ 1 1 [⟨x.pr, m, x.nu, x.ac⟩] rfl RDN.out (fun e => by cases e) (by have := LN.out; omega) (by have := SZ.out; simp; omega) ?_; intro v' w' o1 o2 o3; obtain ⟨A6, n6, c6, rfl⟩ := gown_any o1; have PUSH := Lib.hid (M7.out.traded QN.out o1 o2 o3); have xp' := M7.out.row_p QN.out o2 (fun k e => .inl e); have cv' : w'.cell? ⟨w.heap.size + 1 + 1, 0, none⟩ = some (.slice p.ta p.tn p.tc) := gbx_cell xp' 0; have fv' : w'.frozen? ⟨w.heap.size + 1 + 1, 0, none⟩ = false := gbx_fz xp' 0; clear o1 o2 o3 xp'))
            obtain ⟨hn1, hn2, hsum, hfi, hle0, hml, hxl⟩ := BND.out
            obtain ⟨k', RA, RB⟩ := MR.out.trade h0 HMT.out HA.out (by omega)
            rw [HMN.out] at RB
            go_roundw
            case rel => exact ⟨j + 1, left - m, fillO (x :: r) m, td ++ [⟨x.pr, m, x.nu, x.ac⟩], gn, { p with ta := A6, tn := n6, tc := c6, fi := p.fi + m }, v2, k', hlt, by go_num, fun c => (fill_drop HMN.out (by omega) c).trans HR.out.symm, RB, LF.out, IO.out.fill, PUSH.out⟩
            case measure => simp [intOf]; omega
end
end Go.Proofs.Ytdcjgcjnfcahkaa
