/- While the document reads a message: what lies where. -/
import Derived.Test.YtiiollgipfggmaaNRefG
import Derived.Test.YtiiollgipfggmaaNRefPut2
namespace Go.Proofs.Ytiiollgipfggmaa
set_option linter.unusedVariables false
set_option linter.unusedSimpArgs false
open Go.RowKit

/-- While a message's entries are read: the scan in the block g, the box behind the world W. -/
structure RfAt (W w : World) (g : Nat) (u : Value) (st : Nat × Nat) (H : Ms) (ve : Value) (L : List En) : Prop where
  gl : g < W.heap.size
  sc : Sr w g u st.1 st.2
  gr : W.grownBy w (some g)
  row : w.heap[W.heap.size]? = some (.cells #[.int .i64 H.k, .int .i64 H.f, .int .i64 H.t, .int .i64 H.tm, .int .i64 H.ix, .int .i64 H.lt, .int .i64 H.cm, .int .i64 H.rd, .bool H.ys, .bool H.dn, ve, .slice none 0 0, .slice none 0 0] 26 (0, 0))
  es : OwnEns (W.heap.size + 1) w ve L
section
variable {W w w' : World} {g : Nat} {u : Value} {st st' : Nat × Nat} {H : Ms} {ve vv : Value} {L : List En} {V : List Int}
theorem RfAt.lt (h : RfAt W w g u st H ve L) : W.heap.size < w.heap.size := (Array.getElem?_eq_some_iff.1 h.row).1
theorem RfAt.call (h : RfAt W w g u st H ve L) (hs : Sr w' g u st'.1 st'.2) (hg : w.grownBy w' (some g)) : RfAt W w' g u st' H ve L :=
  ⟨h.gl, hs, gtrans h.gr hg, (hg.block _ h.lt (fun e => by have := h.gl; injection e with e; omega)).trans h.row, h.es.grownLt hg (by have := h.gl; omega)⟩
theorem RfAt.cell (h : RfAt W w g u st H ve L) (i : Nat) {x : Value} (hx : #[.int .i64 H.k, .int .i64 H.f, .int .i64 H.t, .int .i64 H.tm, .int .i64 H.ix, .int .i64 H.lt, .int .i64 H.cm, .int .i64 H.rd, .bool H.ys, .bool H.dn, ve, .slice none 0 0, .slice none 0 0][i]? = some x) : w.cell? ⟨W.heap.size, i, none⟩ = some x := (cell_of_row w _ i _ 26 (0, 0) h.row).trans hx
theorem RfAt.fr (h : RfAt W w g u st H ve L) (i : Nat) : w.frozen? ⟨W.heap.size, i, none⟩ = false := frozen_of_row w _ i _ 26 h.row
theorem RfAt.drewN (h : RfAt W w g u st H ve L) (q : Nat) : RfAt W (w.drewN q) g u st H ve L := h.call h.sc (grown_drewN (World.grownBy.refl _ _) q)
/-- Behind an append to the entries. -/
theorem RfAt.put (h : RfAt W w g u st H ve L) {v' : Value} {L' : List En} (hg : w.grownBy w' ve.ownBlock) (he : OwnEns (W.heap.size + 1) w' v' L') :
    RfAt W (w'.setCell ⟨W.heap.size, 10, none⟩ v') g u st H v' L' := by
  obtain ⟨E, hE, _⟩ := h.es
  have hk : ∀ k, ve.ownBlock = some k → W.heap.size + 1 ≤ k := fun k e => (hE.lt k e).1
  have h0 := h.gl
  have hrow : w'.heap[W.heap.size]? = some (.cells #[.int .i64 H.k, .int .i64 H.f, .int .i64 H.t, .int .i64 H.tm, .int .i64 H.ix, .int .i64 H.lt, .int .i64 H.cm, .int .i64 H.rd, .bool H.ys, .bool H.dn, ve, .slice none 0 0, .slice none 0 0] 26 (0, 0)) := (hg.block _ h.lt (fun e => by have := hk _ e.symm; omega)).trans h.row
  have hsc : Sr w' g u st.1 st.2 := (hg.block _ h.sc.lt (fun e => by have := hk _ e.symm; omega)).trans h.sc
  have hset := heap_setCell_same w' W.heap.size 10 _ 26 v' hrow
  simp only [List.setIfInBounds_toArray, List.set_cons_succ, List.set_cons_zero] at hset
  refine ⟨h0, ?_, ?_, hset, he.grownLt (grown_set _ _ _ _) (by omega)⟩
  · unfold Sr
    rw [heap_setCell_other w' ⟨W.heap.size, 10, none⟩ g _ (by simp; omega)]
    exact hsc
  · exact grown_new (grown_new h.gr hg (fun k e => by have := hk k e; omega)) (grown_set w' W.heap.size 10 v') (fun k e => by injection e with e; omega)
theorem RfAt.cellPut (h : RfAt W w g u st H ve L) (hg : w.grownBy w' ve.ownBlock) : w'.cell? ⟨W.heap.size, 10, none⟩ = some ve ∧ w'.frozen? ⟨W.heap.size, 10, none⟩ = false := by
  obtain ⟨E, hE, _⟩ := h.es
  have hk : ∀ k, ve.ownBlock = some k → W.heap.size + 1 ≤ k := fun k e => (hE.lt k e).1
  have hrow := (hg.block _ h.lt (fun e => by have := hk _ e.symm; omega)).trans h.row
  exact ⟨cell_of_row w' _ 10 _ 26 (0, 0) hrow, frozen_of_row w' _ 10 _ 26 hrow⟩
/-- While its voters are read: W2 is the world in which that began. -/
structure RfBt (W W2 w : World) (g : Nat) (u : Value) (st : Nat × Nat) (H : Ms) (ve vv : Value) (L : List En) (V : List Int) : Prop where
  gl : g < W.heap.size
  w2 : W.heap.size < W2.heap.size
  sc : Sr w g u st.1 st.2
  gr : W.grownBy w (some g)
  ch : Chg W2 w (fun k => k = g ∨ k = W.heap.size)
  row : w.heap[W.heap.size]? = some (.cells #[.int .i64 H.k, .int .i64 H.f, .int .i64 H.t, .int .i64 H.tm, .int .i64 H.ix, .int .i64 H.lt, .int .i64 H.cm, .int .i64 H.rd, .bool H.ys, .bool H.dn, ve, vv, .slice none 0 0] 26 (0, 0))
  es : OwnEns (W.heap.size + 1) W2 ve L
  vs : OwnN W2.heap.size w vv V
theorem RfAt.next (h : RfAt W w g u st H ve L) : RfBt W w w g u st H ve (.slice none 0 0) L [] := ⟨h.gl, h.lt, h.sc, h.gr, Chg.refl _ _, h.row, h.es, OwnN.nil _ _⟩
variable {W2 : World}
theorem RfBt.lt (h : RfBt W W2 w g u st H ve vv L V) : W.heap.size < w.heap.size := (Array.getElem?_eq_some_iff.1 h.row).1
theorem RfBt.call (h : RfBt W W2 w g u st H ve vv L V) (hs : Sr w' g u st'.1 st'.2) (hg : w.grownBy w' (some g)) : RfBt W W2 w' g u st' H ve vv L V :=
  ⟨h.gl, h.w2, hs, gtrans h.gr hg, h.ch.trans (Chg.of_grown hg (fun k => k = g) (fun k e => by injection e with e; exact .inl e.symm)) (fun k e => .inl (.inl e)), (hg.block _ h.lt (fun e => by have := h.gl; injection e with e; omega)).trans h.row, h.es, h.vs.grownLt hg (by have := h.gl; have := h.w2; omega)⟩
theorem RfBt.cell (h : RfBt W W2 w g u st H ve vv L V) (i : Nat) {x : Value} (hx : #[.int .i64 H.k, .int .i64 H.f, .int .i64 H.t, .int .i64 H.tm, .int .i64 H.ix, .int .i64 H.lt, .int .i64 H.cm, .int .i64 H.rd, .bool H.ys, .bool H.dn, ve, vv, .slice none 0 0][i]? = some x) : w.cell? ⟨W.heap.size, i, none⟩ = some x := (cell_of_row w _ i _ 26 (0, 0) h.row).trans hx
theorem RfBt.fr (h : RfBt W W2 w g u st H ve vv L V) (i : Nat) : w.frozen? ⟨W.heap.size, i, none⟩ = false := frozen_of_row w _ i _ 26 h.row
theorem RfBt.drewN (h : RfBt W W2 w g u st H ve vv L V) (q : Nat) : RfBt W W2 (w.drewN q) g u st H ve vv L V := h.call h.sc (grown_drewN (World.grownBy.refl _ _) q)
theorem RfBt.put (h : RfBt W W2 w g u st H ve vv L V) {v' : Value} {V' : List Int} (hg : w.grownBy w' vv.ownBlock) (he : OwnN W2.heap.size w' v' V') :
    RfBt W W2 (w'.setCell ⟨W.heap.size, 11, none⟩ v') g u st H ve v' L V' := by
  have hk : ∀ k, vv.ownBlock = some k → W2.heap.size ≤ k := fun k e => (h.vs.lt k e).1
  have h0 := h.gl
  have h2 := h.w2
  have hrow : w'.heap[W.heap.size]? = some (.cells #[.int .i64 H.k, .int .i64 H.f, .int .i64 H.t, .int .i64 H.tm, .int .i64 H.ix, .int .i64 H.lt, .int .i64 H.cm, .int .i64 H.rd, .bool H.ys, .bool H.dn, ve, vv, .slice none 0 0] 26 (0, 0)) := (hg.block _ h.lt (fun e => by have := hk _ e.symm; omega)).trans h.row
  have hsc : Sr w' g u st.1 st.2 := (hg.block _ h.sc.lt (fun e => by have := hk _ e.symm; omega)).trans h.sc
  have hset := heap_setCell_same w' W.heap.size 11 _ 26 v' hrow
  simp only [List.setIfInBounds_toArray, List.set_cons_succ, List.set_cons_zero] at hset
  refine ⟨h0, h2, ?_, ?_, ?_, hset, h.es, he.grownLt (grown_set _ _ _ _) h2⟩
  · unfold Sr
    rw [heap_setCell_other w' ⟨W.heap.size, 11, none⟩ g _ (by simp; omega)]
    exact hsc
  · exact grown_new (grown_new h.gr hg (fun k e => by have := hk k e; omega)) (grown_set w' W.heap.size 11 v') (fun k e => by injection e with e; omega)
  · exact Chg.set (h.ch.trans (Chg.of_grown hg (fun k => W2.heap.size ≤ k) (fun k e => .inl (hk k e))) (fun k e => .inr e)) v' (.inl (.inr rfl))
theorem RfBt.cellPut (h : RfBt W W2 w g u st H ve vv L V) (hg : w.grownBy w' vv.ownBlock) : w'.cell? ⟨W.heap.size, 11, none⟩ = some vv ∧ w'.frozen? ⟨W.heap.size, 11, none⟩ = false := by
  have hk : ∀ k, vv.ownBlock = some k → W2.heap.size ≤ k := fun k e => (h.vs.lt k e).1
  have hrow := (hg.block _ h.lt (fun e => by have := hk _ e.symm; have := h.w2; omega)).trans h.row
  exact ⟨cell_of_row w' _ 11 _ 26 (0, 0) hrow, frozen_of_row w' _ 11 _ 26 hrow⟩
theorem RfBt.ens (h : RfBt W W2 w g u st H ve vv L V) : OwnEns (W.heap.size + 1) w ve L := h.es.chg h.ch (fun k e => by have := h.gl; omega)
end
section
variable {W w : World} {g : Nat} {u : Value} {st : Nat × Nat} {H : Ms} {ve vv : Value} {L : List En} {V : List Int} {P : List UInt8} {p : Option Addr} {n c : Nat}
/-- A field of the box is set. -/
theorem RfAt.setH (h : RfAt W w g u st H ve L) (i : Nat) (x : Value) (H' : Ms) (hH : #[Value.int .i64 H.k, .int .i64 H.f, .int .i64 H.t, .int .i64 H.tm, .int .i64 H.ix, .int .i64 H.lt, .int .i64 H.cm, .int .i64 H.rd, .bool H.ys, .bool H.dn, ve, .slice none 0 0, .slice none 0 0].setIfInBounds i x = #[.int .i64 H'.k, .int .i64 H'.f, .int .i64 H'.t, .int .i64 H'.tm, .int .i64 H'.ix, .int .i64 H'.lt, .int .i64 H'.cm, .int .i64 H'.rd, .bool H'.ys, .bool H'.dn, ve, .slice none 0 0, .slice none 0 0]) :
    RfAt W (w.setCell ⟨W.heap.size, i, none⟩ x) g u st H' ve L := by
  have h0 := h.gl
  have hset := heap_setCell_same w W.heap.size i _ 26 x h.row
  rw [hH] at hset
  refine ⟨h0, ?_, grown_new h.gr (grown_set _ _ _ _) (fun k e => by injection e with e; omega), hset, h.es.grownLt (grown_set _ _ _ _) (by omega)⟩
  unfold Sr
  rw [heap_setCell_other w ⟨W.heap.size, i, none⟩ g _ (by simp; omega)]
  exact h.sc
theorem RfAt.by_ (h : RfAt W w g u st H ve L) (hby : By W u P) (hne : P = [] ∨ ∀ k, u.ownBlock = some k → some g ≠ some k) : By w u P := hby.grown h.gr hne
theorem RfBt.by_ {W2 : World} (h : RfBt W W2 w g u st H ve vv L V) (hby : By W u P) (hne : P = [] ∨ ∀ k, u.ownBlock = some k → some g ≠ some k) : By w u P := hby.grown h.gr hne
theorem RfAt.num (h : RfAt W w g (.slice p n c) st H ve L) (hby : By W (.slice p n c) P) (hne : P = [] ∨ ∀ k, (Value.slice p n c).ownBlock = some k → some g ≠ some k) (hat : st.1 ≤ P.length) :
    Calls Try.prog 54 #[.pointer (some ⟨g, 0, none⟩)] w fun e w' => e = .returned (.int .i64 ((nx P st).1 : Nat)) ∧ RfAt W w' g (.slice p n c) (nx P st).2 H ve L :=
  (refScanNumber_any (l := P) h.sc (h.by_ hby hne) (by have := hby.len.1; omega) (N := (nx P st).1) (A := (nx P st).2.1) (E := (nx P st).2.2) rfl).mono fun e w' ⟨a, b, cc⟩ => ⟨a, h.call b cc⟩
theorem RfAt.flag (h : RfAt W w g (.slice p n c) st H ve L) (hby : By W (.slice p n c) P) (hne : P = [] ∨ ∀ k, (Value.slice p n c).ownBlock = some k → some g ≠ some k) (hat : st.1 ≤ P.length) :
    Calls Try.prog 55 #[.pointer (some ⟨g, 0, none⟩)] w fun e w' => e = .returned (.bool (fx P st).1) ∧ RfAt W w' g (.slice p n c) (fx P st).2 H ve L :=
  (refScanFlag_any (l := P) h.sc (h.by_ hby hne) (by have := hby.len.1; omega) (y := (fx P st).1) (A := (fx P st).2.1) (E := (fx P st).2.2) rfl).mono fun e w' ⟨a, b, cc⟩ => ⟨a, h.call b cc⟩
theorem RfAt.text (h : RfAt W w g (.slice p n c) st H ve L) (hby : By W (.slice p n c) P) (hne : P = [] ∨ ∀ k, (Value.slice p n c).ownBlock = some k → some g ≠ some k) (hat : st.1 ≤ P.length) (most : Int) (M : Nat) (hM : max most 0 = (M : Int)) :
    Calls Try.prog 56 #[.pointer (some ⟨g, 0, none⟩), .int .i64 most] w fun e w' => e = .returned (.string (str (tx P M st).1)) ∧ RfAt W w' g (.slice p n c) (tx P M st).2 H ve L :=
  (refScanText_any (l := P) h.sc (h.by_ hby hne) hne (by have := hby.len.1; omega) most M hM (T := (tx P M st).1) (A := (tx P M st).2.1) (E := (tx P M st).2.2) rfl).mono fun e w' ⟨a, b, cc⟩ => ⟨a, h.call b cc⟩
theorem RfAt.num2 {N : Nat} {s : Nat × Nat} (h : RfAt W w g (.slice p n c) st H ve L) (hby : By W (.slice p n c) P) (hne : P = [] ∨ ∀ k, (Value.slice p n c).ownBlock = some k → some g ≠ some k) (hat : st.1 ≤ P.length) (hq : nx P st = (N, s)) :
    Calls Try.prog 54 #[.pointer (some ⟨g, 0, none⟩)] w fun e w' => e = .returned (.int .i64 (N : Nat)) ∧ RfAt W w' g (.slice p n c) s H ve L := by
  have := h.num hby hne hat
  rw [hq] at this
  exact this
theorem RfAt.flag2 {y : Bool} {s : Nat × Nat} (h : RfAt W w g (.slice p n c) st H ve L) (hby : By W (.slice p n c) P) (hne : P = [] ∨ ∀ k, (Value.slice p n c).ownBlock = some k → some g ≠ some k) (hat : st.1 ≤ P.length) (hq : fx P st = (y, s)) :
    Calls Try.prog 55 #[.pointer (some ⟨g, 0, none⟩)] w fun e w' => e = .returned (.bool y) ∧ RfAt W w' g (.slice p n c) s H ve L := by
  have := h.flag hby hne hat
  rw [hq] at this
  exact this
theorem RfAt.text2 {T : List UInt8} {s : Nat × Nat} {M : Nat} (h : RfAt W w g (.slice p n c) st H ve L) (hby : By W (.slice p n c) P) (hne : P = [] ∨ ∀ k, (Value.slice p n c).ownBlock = some k → some g ≠ some k) (hat : st.1 ≤ P.length) (most : Int) (hM : max most 0 = (M : Int)) (hq : tx P M st = (T, s)) :
    Calls Try.prog 56 #[.pointer (some ⟨g, 0, none⟩), .int .i64 most] w fun e w' => e = .returned (.string (str T)) ∧ RfAt W w' g (.slice p n c) s H ve L := by
  have := h.text hby hne hat most M hM
  rw [hq] at this
  exact this
theorem RfAt.num3 {N : Nat} {s : Nat × Nat} (h : RfAt W w g (.slice p n c) st H ve L) (hby : By W (.slice p n c) P) (hne : P = [] ∨ ∀ k, (Value.slice p n c).ownBlock = some k → some g ≠ some k) (hat : st.1 ≤ P.length) (hq : nx P st = (N, s)) :
    Calls Try.prog 54 #[.pointer (some ⟨g, 0, none⟩)] w fun e w' => e = .returned (.int .i64 (N : Nat)) ∧ Sr w' g (.slice p n c) s.1 s.2 ∧ w.grownBy w' (some g) :=
  (refScanNumber_any (l := P) h.sc (h.by_ hby hne) (by have := hby.len.1; omega) (N := N) (A := s.1) (E := s.2) (by rw [show (N, s.1, s.2) = nx P st from hq.symm]; rfl)).mono fun e w' ⟨a, b, cc⟩ => ⟨a, b, cc⟩
theorem RfAt.text3 {T : List UInt8} {s : Nat × Nat} {M : Nat} (h : RfAt W w g (.slice p n c) st H ve L) (hby : By W (.slice p n c) P) (hne : P = [] ∨ ∀ k, (Value.slice p n c).ownBlock = some k → some g ≠ some k) (hat : st.1 ≤ P.length) (most : Int) (hM : max most 0 = (M : Int)) (hq : tx P M st = (T, s)) :
    Calls Try.prog 56 #[.pointer (some ⟨g, 0, none⟩), .int .i64 most] w fun e w' => e = .returned (.string (str T)) ∧ Sr w' g (.slice p n c) s.1 s.2 ∧ w.grownBy w' (some g) :=
  (refScanText_any (l := P) h.sc (h.by_ hby hne) hne (by have := hby.len.1; omega) most M hM (T := T) (A := s.1) (E := s.2) (by rw [show (T, s.1, s.2) = tx P M st from hq.symm]; rfl)).mono fun e w' ⟨a, b, cc⟩ => ⟨a, b, cc⟩
theorem Sr.grown {w w' : World} {g at_ E : Nat} {v : Value} (h : Sr w g v at_ E) {row : Option Nat} (hg : w.grownBy w' row) (hr : row ≠ some g) : Sr w' g v at_ E := (hg.block g h.lt (fun e => hr e.symm)).trans h
variable {W2 : World}
theorem RfBt.text3 {T : List UInt8} {s : Nat × Nat} {M : Nat} (h : RfBt W W2 w g (.slice p n c) st H ve vv L V) (hby : By W (.slice p n c) P) (hne : P = [] ∨ ∀ k, (Value.slice p n c).ownBlock = some k → some g ≠ some k) (hat : st.1 ≤ P.length) (most : Int) (hM : max most 0 = (M : Int)) (hq : tx P M st = (T, s)) :
    Calls Try.prog 56 #[.pointer (some ⟨g, 0, none⟩), .int .i64 most] w fun e w' => e = .returned (.string (str T)) ∧ Sr w' g (.slice p n c) s.1 s.2 ∧ w.grownBy w' (some g) :=
  (refScanText_any (l := P) h.sc (h.by_ hby hne) hne (by have := hby.len.1; omega) most M hM (T := T) (A := s.1) (E := s.2) (by rw [show (T, s.1, s.2) = tx P M st from hq.symm]; rfl)).mono fun e w' ⟨a, b, cc⟩ => ⟨a, b, cc⟩
theorem RfBt.num3 {N : Nat} {s : Nat × Nat} (h : RfBt W W2 w g (.slice p n c) st H ve vv L V) (hby : By W (.slice p n c) P) (hne : P = [] ∨ ∀ k, (Value.slice p n c).ownBlock = some k → some g ≠ some k) (hat : st.1 ≤ P.length) (hq : nx P st = (N, s)) :
    Calls Try.prog 54 #[.pointer (some ⟨g, 0, none⟩)] w fun e w' => e = .returned (.int .i64 (N : Nat)) ∧ Sr w' g (.slice p n c) s.1 s.2 ∧ w.grownBy w' (some g) :=
  (refScanNumber_any (l := P) h.sc (h.by_ hby hne) (by have := hby.len.1; omega) (N := N) (A := s.1) (E := s.2) (by rw [show (N, s.1, s.2) = nx P st from hq.symm]; rfl)).mono fun e w' ⟨a, b, cc⟩ => ⟨a, b, cc⟩
theorem RfBt.num2 {N : Nat} {s : Nat × Nat} (h : RfBt W W2 w g (.slice p n c) st H ve vv L V) (hby : By W (.slice p n c) P) (hne : P = [] ∨ ∀ k, (Value.slice p n c).ownBlock = some k → some g ≠ some k) (hat : st.1 ≤ P.length) (hq : nx P st = (N, s)) :
    Calls Try.prog 54 #[.pointer (some ⟨g, 0, none⟩)] w fun e w' => e = .returned (.int .i64 (N : Nat)) ∧ RfBt W W2 w' g (.slice p n c) s H ve vv L V :=
  (refScanNumber_any (l := P) h.sc (h.by_ hby hne) (by have := hby.len.1; omega) (N := N) (A := s.1) (E := s.2) (by rw [show (N, s.1, s.2) = nx P st from hq.symm]; rfl)).mono fun e w' ⟨a, b, cc⟩ => ⟨a, h.call b cc⟩
theorem RfBt.text2 {T : List UInt8} {s : Nat × Nat} {M : Nat} (h : RfBt W W2 w g (.slice p n c) st H ve vv L V) (hby : By W (.slice p n c) P) (hne : P = [] ∨ ∀ k, (Value.slice p n c).ownBlock = some k → some g ≠ some k) (hat : st.1 ≤ P.length) (most : Int) (hM : max most 0 = (M : Int)) (hq : tx P M st = (T, s)) :
    Calls Try.prog 56 #[.pointer (some ⟨g, 0, none⟩), .int .i64 most] w fun e w' => e = .returned (.string (str T)) ∧ RfBt W W2 w' g (.slice p n c) s H ve vv L V :=
  (refScanText_any (l := P) h.sc (h.by_ hby hne) hne (by have := hby.len.1; omega) most M hM (T := T) (A := s.1) (E := s.2) (by rw [show (T, s.1, s.2) = tx P M st from hq.symm]; rfl)).mono fun e w' ⟨a, b, cc⟩ => ⟨a, h.call b cc⟩
theorem RfBt.num (h : RfBt W W2 w g (.slice p n c) st H ve vv L V) (hby : By W (.slice p n c) P) (hne : P = [] ∨ ∀ k, (Value.slice p n c).ownBlock = some k → some g ≠ some k) (hat : st.1 ≤ P.length) :
    Calls Try.prog 54 #[.pointer (some ⟨g, 0, none⟩)] w fun e w' => e = .returned (.int .i64 ((nx P st).1 : Nat)) ∧ RfBt W W2 w' g (.slice p n c) (nx P st).2 H ve vv L V :=
  (refScanNumber_any (l := P) h.sc (h.by_ hby hne) (by have := hby.len.1; omega) (N := (nx P st).1) (A := (nx P st).2.1) (E := (nx P st).2.2) rfl).mono fun e w' ⟨a, b, cc⟩ => ⟨a, h.call b cc⟩
theorem RfBt.text (h : RfBt W W2 w g (.slice p n c) st H ve vv L V) (hby : By W (.slice p n c) P) (hne : P = [] ∨ ∀ k, (Value.slice p n c).ownBlock = some k → some g ≠ some k) (hat : st.1 ≤ P.length) (most : Int) (M : Nat) (hM : max most 0 = (M : Int)) :
    Calls Try.prog 56 #[.pointer (some ⟨g, 0, none⟩), .int .i64 most] w fun e w' => e = .returned (.string (str (tx P M st).1)) ∧ RfBt W W2 w' g (.slice p n c) (tx P M st).2 H ve vv L V :=
  (refScanText_any (l := P) h.sc (h.by_ hby hne) hne (by have := hby.len.1; omega) most M hM (T := (tx P M st).1) (A := (tx P M st).2.1) (E := (tx P M st).2.2) rfl).mono fun e w' ⟨a, b, cc⟩ => ⟨a, h.call b cc⟩
end
theorem grownAll13 (Y : World) (r : Nat) (x0 x1 x2 x3 x4 x5 x6 x7 x8 x9 x10 x11 x12 : Value) : Y.grownBy ((((((((((((((Y).setCell ⟨r, 0, none⟩ x0).setCell ⟨r, 1, none⟩ x1).setCell ⟨r, 2, none⟩ x2).setCell ⟨r, 3, none⟩ x3).setCell ⟨r, 4, none⟩ x4).setCell ⟨r, 5, none⟩ x5).setCell ⟨r, 6, none⟩ x6).setCell ⟨r, 7, none⟩ x7).setCell ⟨r, 8, none⟩ x8).setCell ⟨r, 9, none⟩ x9).setCell ⟨r, 10, none⟩ x10).setCell ⟨r, 11, none⟩ x11).setCell ⟨r, 12, none⟩ x12) (some r) := gtrans (gtrans (gtrans (gtrans (gtrans (gtrans (gtrans (gtrans (gtrans (gtrans (gtrans (gtrans (grown_set _ _ _ _) (grown_set _ _ _ _)) (grown_set _ _ _ _)) (grown_set _ _ _ _)) (grown_set _ _ _ _)) (grown_set _ _ _ _)) (grown_set _ _ _ _)) (grown_set _ _ _ _)) (grown_set _ _ _ _)) (grown_set _ _ _ _)) (grown_set _ _ _ _)) (grown_set _ _ _ _)) (grown_set _ _ _ _)
/-- '[]byte(s)': a slice of s's bytes in a new block. -/
theorem conv_own (w : World) (T : List UInt8) (hs : T.length ≤ 1000000) :
    ∃ (q : Nat) (w' : World), (convert 9 24 (.string (str T))).run Try.prog w = .ok (.slice (some ⟨w.heap.size, 0, none⟩) T.length q) w' ∧ Own w.heap.size w' (.slice (some ⟨w.heap.size, 0, none⟩) T.length q) T ∧ Below w.heap.size w w' := by
  have hl : (str T).size = T.length := str_size' T
  have hll : (str T).data.toList = T := str_list' T
  have hr := run_bytes_of_string (P := Try.prog) w 9 24 5 (str T) Try.underlying9 Try.underlying24 Try.underlying5
  have h1 := grownCap_ge w (str T).size 0 5
  have h2 := grownCap_le_maxLen w (str T).size 0 5 (by simp only [maxLen]; omega)
  generalize grownCap w (str T).size 0 5 = q at h1 h2 hr
  have hz : (bytesRow (str T) q).size = q := by
    have hh : (str T).data.size = (str T).size := rfl
    unfold bytesRow
    simp [Builtin.zeroCells]
    omega
  rw [hl] at hr h1
  refine ⟨q, _, hr, .inr ⟨w.heap.size, q, rfl, Nat.le_refl _, h1, h2, fun i x hx => ?_, fun i hi => ?_, fun i hi => ?_⟩, (Below.refl _ w).drew.alloc (Nat.le_refl _) _⟩
  · have := World.cell?_alloc_mark w.drew (bytesRow (str T) q) 5 ((bytesRow (str T) q).size, (bytesRow (str T) q).size + 1) i
    rw [show w.drew.heap.size = w.heap.size from rfl] at this
    rw [this]
    have hi : i < T.length := (List.getElem?_eq_some_iff.1 hx).1
    have hx' : (str T).data[i]? = some x := by
      rw [← hll] at hx
      simpa using hx
    have hi' : i < (str T).data.size := by
      have hh : (str T).data.size = (str T).size := rfl
      omega
    unfold bytesRow
    rw [Array.getElem?_append_left (by simpa using hi'), Array.getElem?_map, hx']
    rfl
  · have := World.cell?_alloc_mark w.drew (bytesRow (str T) q) 5 ((bytesRow (str T) q).size, (bytesRow (str T) q).size + 1) i
    rw [show w.drew.heap.size = w.heap.size from rfl] at this
    rw [this, Array.getElem?_eq_getElem (by omega)]
    rfl
  · have := World.frozen?_alloc_mark w.drew (bytesRow (str T) q) 5 (bytesRow (str T) q).size ((bytesRow (str T) q).size + 1) i
    rw [show w.drew.heap.size = w.heap.size from rfl] at this
    rw [this, hz]
    simp
    omega
end Go.Proofs.Ytiiollgipfggmaa
