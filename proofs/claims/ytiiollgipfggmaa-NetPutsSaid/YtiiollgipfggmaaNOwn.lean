/- A message in memory of its own. -/
import Derived.Test.YtiiollgipfggmaaNCln
import Derived.Test.YtiiollgipfggmaaNWtS
namespace Go.Proofs.Ytiiollgipfggmaa
set_option linter.unusedVariables false
set_option linter.unusedSimpArgs false
open Go.RowKit

theorem eflat_set : ∀ (l : List Ec) (i : Nat) {x y : Ec}, l[i]? = some x → y.i = x.i → y.t = x.t → (l.flatMap ecC).set (i * 3 + 2) (.slice y.p y.n y.c) = (l.set i y).flatMap ecC
  | [], i, x, y, h, _, _ => by simp at h
  | z :: r, 0, x, y, h, h1, h2 => by
    simp only [List.getElem?_cons_zero, Option.some.injEq] at h
    subst h
    simp [ecC, h1, h2]
  | z :: r, i + 1, x, y, h, h1, h2 => by
    rw [List.getElem?_cons_succ] at h
    rw [List.set_cons_succ, List.flatMap_cons, List.flatMap_cons, ← eflat_set r i h h1 h2, show (i + 1) * 3 + 2 = (i * 3 + 2) + 3 by omega]
    simp [ecC]
/-- Entries of which the first k have data of their own, the others what lay in the world W. -/
structure Half (B : Nat) (W w : World) (v : Value) (k : Nat) (E : List Ec) (L : List En) : Prop where
  row : OwnE B w v E
  len : E.length = L.length
  dat : ∀ (i : Nat) e x, E[i]? = some e → L[i]? = some x → e.i = x.i ∧ e.t = x.t ∧ x.fits ∧ (i < k → Own B w (.slice e.p e.n e.c) x.d ∧ Far e v) ∧ (k ≤ i → By W (.slice e.p e.n e.c) x.d)
theorem Half.start {B : Nat} {W w : World} {v : Value} {E : List Ec} {L : List En} (h : OwnE B w v E) (hD : Dat W E L) : Half B W w v 0 E L :=
  ⟨h, hD.1, fun i e x h1 h2 => by
    obtain ⟨a, b, c, d⟩ := hD.2 i e x h1 h2
    exact ⟨a, b, d, fun h => by omega, fun _ => c⟩⟩
theorem Half.fin {B : Nat} {W w : World} {v : Value} {k : Nat} {E : List Ec} {L : List En} (h : Half B W w v k E L) (hk : L.length ≤ k) : OwnEns B w v L :=
  ⟨E, h.row, h.len, fun i e x h1 h2 => by
    obtain ⟨a, b, c, d, _⟩ := h.dat i e x h1 h2
    have := (List.getElem?_eq_some_iff.1 h2).1
    obtain ⟨d1, d2⟩ := d (by omega)
    exact ⟨a, b, d1, d2, c⟩⟩
theorem Half.next {B : Nat} {W w w' : World} {g N C k : Nat} {E : List Ec} {L : List En} {e : Ec} {x : En} {p : Option Addr} {n c : Nat} (h : Half B W w (.slice (some ⟨g, 0, none⟩) N C) k E L) (he : E[k]? = some e) (hx : L[k]? = some x)
    (hb : Below w.heap.size w w') (ho : Own w.heap.size w' (.slice p n c) x.d) (hB : B ≤ w.heap.size) : Half B W (w'.setCell ⟨g, k * 3 + 2, none⟩ (.slice p n c)) (.slice (some ⟨g, 0, none⟩) N C) (k + 1) (E.set k ⟨e.i, e.t, p, n, c⟩) L := by
  have hgw : g < w.heap.size := (h.row.lt g rfl).2
  have hN : N = E.length := h.row.ecs.len.1
  subst hN
  refine ⟨?_, by rw [List.length_set]; exact h.len, fun i e' x' h1 h2 => ?_⟩
  · have h3 := ((h.row.below hb).stored (k * 3 + 2) (.slice p n c)).1
    rw [eflat_set E k (y := ⟨e.i, e.t, p, n, c⟩) he rfl rfl] at h3
    unfold OwnE
    rw [List.length_set]
    exact h3
  · have hfar : ∀ j, (Value.slice p n c).ownBlock = some j → 0 < c → w.heap.size ≤ j := fun j hj hc => by
      rcases ho.far with h0 | ⟨g', rfl, hg', _⟩
      · omega
      · injection hj with hj
        have : (⟨g', 0, none⟩ : Addr).block = g' := rfl
        omega
    by_cases hik : i = k
    · subst hik
      have hlt := (List.getElem?_eq_some_iff.1 he).1
      rw [List.getElem?_set_self hlt] at h1
      injection h1 with h1
      subst h1
      rw [hx] at h2
      injection h2 with h2
      subst h2
      obtain ⟨a, b, cc, _, _⟩ := h.dat i e x he hx
      have hfr : c = 0 ∨ ∀ j, (Value.slice p n c).ownBlock = some j → j ≠ g := by
        rcases Nat.eq_zero_or_pos c with h0 | h0
        · exact .inl h0
        · exact .inr fun j hj => by have := hfar j hj h0; omega
      refine ⟨a, b, cc, fun _ => ⟨(ho.mono hB).grown (grown_set _ _ _ _) (hfr.imp id fun h j hj => ?_), hfr.imp id fun h j hj => ?_⟩, fun h => by omega⟩
      · intro e2; injection e2 with e2; exact h j hj e2.symm
      · intro e2; injection e2 with e2; exact h j hj e2.symm
    · rw [List.getElem?_set_ne (fun e => hik e.symm)] at h1
      obtain ⟨a, b, cc, d, f⟩ := h.dat i e' x' h1 h2
      refine ⟨a, b, cc, fun hi => ?_, fun hi => f (by omega)⟩
      obtain ⟨d1, d2⟩ := d (by omega)
      exact ⟨(d1.below hb).grown (grown_set _ _ _ _) (d2.imp id fun h j hj => h j hj), d2⟩

theorem grown13 (Y : World) (r : Nat) (x0 x1 x2 x3 x4 x5 x6 x7 x8 x9 x10 x11 x12 : Value) : Y.grownBy ((((((((((((((Y).setCell ⟨r, 0, none⟩ x0).setCell ⟨r, 1, none⟩ x1).setCell ⟨r, 2, none⟩ x2).setCell ⟨r, 3, none⟩ x3).setCell ⟨r, 4, none⟩ x4).setCell ⟨r, 5, none⟩ x5).setCell ⟨r, 6, none⟩ x6).setCell ⟨r, 7, none⟩ x7).setCell ⟨r, 8, none⟩ x8).setCell ⟨r, 9, none⟩ x9).setCell ⟨r, 10, none⟩ x10).setCell ⟨r, 11, none⟩ x11).setCell ⟨r, 12, none⟩ x12) (some r) := gtrans (gtrans (gtrans (gtrans (gtrans (gtrans (gtrans (gtrans (gtrans (gtrans (gtrans (gtrans (grown_set _ _ _ _) (grown_set _ _ _ _)) (grown_set _ _ _ _)) (grown_set _ _ _ _)) (grown_set _ _ _ _)) (grown_set _ _ _ _)) (grown_set _ _ _ _)) (grown_set _ _ _ _)) (grown_set _ _ _ _)) (grown_set _ _ _ _)) (grown_set _ _ _ _)) (grown_set _ _ _ _)) (grown_set _ _ _ _)
def OwnMPost (w : World) (m : Ms) (e : Ending) (w' : World) : Prop := ∃ ve vv vd, e = .returned (msA m ve vv vd) ∧ MsO w.heap.size w' m ve vv vd ∧ Below w.heap.size w w'
theorem OwnE.fz {B : Nat} {w : World} {g n c : Nat} {l : List Ec} (h : OwnE B w (.slice (some ⟨g, 0, none⟩) n c) l) (j : Nat) : w.frozen? ⟨g, j, none⟩ = false := by
  rcases h.2 with ⟨h', _⟩ | ⟨g', cap', cur, h', _, hg, _⟩
  · simp at h'
  · simp only [Value.slice.injEq, Option.some.injEq, Addr.mk.injEq, and_true, true_and] at h'
    obtain ⟨rfl, _, rfl⟩ := h'
    exact frozen_of_row w g j cur _ hg
def row0 : Obj := .cells #[.int .i64 0, .int .i64 0, .int .i64 0, .int .i64 0, .int .i64 0, .int .i64 0, .int .i64 0, .int .i64 0, .bool false, .bool false, .slice none 0 0, .slice none 0 0, .slice none 0 0] 26 (0, 0)
/-- What stays while the loop of own runs. -/
structure OwnLp (w wr : World) (m : Ms) (ve vv vd : Value) (k : Nat) (E : List Ec) : Prop where
  half : Half (w.heap.size + 2) w wr ve k E m.es
  vs : OwnN (w.heap.size + 2) wr vv m.vs
  d : Own (w.heap.size + 2) wr vd m.d
  vsg : ∀ g, ve.ownBlock = some g → vv.ownBlock ≠ some g ∧ ((∃ p n, vd = .slice p n 0) ∨ vd.ownBlock ≠ some g)
  bel : Below w.heap.size w wr
  eg : ∀ g, ve.ownBlock = some g → w.heap.size + 1 < g
  box : Box13 wr w.heap.size (.int .i64 m.k) (.int .i64 m.f) (.int .i64 m.t) (.int .i64 m.tm) (.int .i64 m.ix) (.int .i64 m.lt) (.int .i64 m.cm) (.int .i64 m.rd) (.bool m.ys) (.bool m.dn) ve vv vd
  res : wr.heap[w.heap.size + 1]? = some row0
theorem Box13.grown {W W' : World} {g : Nat} {a0 a1 a2 a3 a4 a5 a6 a7 a8 a9 a10 a11 a12 : Value} (h : Box13 W g a0 a1 a2 a3 a4 a5 a6 a7 a8 a9 a10 a11 a12) {row : Option Nat} (hg : W.grownBy W' row) (hr : row ≠ some g) : Box13 W' g a0 a1 a2 a3 a4 a5 a6 a7 a8 a9 a10 a11 a12 :=
  ⟨hg.cell h.c0 fun e => hr e.symm, hg.cell h.c1 fun e => hr e.symm, hg.cell h.c2 fun e => hr e.symm, hg.cell h.c3 fun e => hr e.symm, hg.cell h.c4 fun e => hr e.symm, hg.cell h.c5 fun e => hr e.symm, hg.cell h.c6 fun e => hr e.symm, hg.cell h.c7 fun e => hr e.symm, hg.cell h.c8 fun e => hr e.symm, hg.cell h.c9 fun e => hr e.symm, hg.cell h.c10 fun e => hr e.symm, hg.cell h.c11 fun e => hr e.symm, hg.cell h.c12 fun e => hr e.symm⟩
theorem OwnLp.next {w wr w' : World} {m : Ms} {vv vd : Value} {g N C k : Nat} {E : List Ec} {e : Ec} {x : En} {p : Option Addr} {n c : Nat} (h : OwnLp w wr m (.slice (some ⟨g, 0, none⟩) N C) vv vd k E) (he : E[k]? = some e) (hx : m.es[k]? = some x)
    (hb : Below wr.heap.size wr w') (ho : Own wr.heap.size w' (.slice p n c) x.d) : OwnLp w (w'.setCell ⟨g, k * 3 + 2, none⟩ (.slice p n c)) m (.slice (some ⟨g, 0, none⟩) N C) vv vd (k + 1) (E.set k ⟨e.i, e.t, p, n, c⟩) := by
  have hs := h.bel.size
  obtain ⟨v1, v2⟩ := h.vsg g rfl
  have hgs := h.eg g rfl
  have hgg : w'.grownBy (w'.setCell ⟨g, k * 3 + 2, none⟩ (.slice p n c)) (some g) := grown_set _ _ _ _
  have hw1 : w.heap.size + 1 < wr.heap.size := (Array.getElem?_eq_some_iff.1 h.res).1
  refine ⟨h.half.next he hx hb ho hw1, (h.vs.below hb).grown hgg (.inr v1), ?_, h.vsg, (h.bel.trans (hb.mono hs)).grown hgg (by have := hb.size; omega) (fun j hj => by injection hj with hj; omega), h.eg, (h.box.below hb).grown hgg (by intro e; injection e with e; omega), ?_⟩
  · obtain ⟨p1, n1, c1, rfl⟩ := h.d.by_.sl
    refine (h.d.below hb).grown hgg ?_
    rcases v2 with ⟨p, n, e⟩ | v2
    · injection e with _ _ e
      exact .inl e
    · exact .inr fun j hj e => v2 (by rw [hj, e])
  · exact ((hgg.block (w.heap.size + 1) (by have := hb.size; omega) (by intro e; injection e with e; omega)).trans (hb.block (w.heap.size + 1) hw1)).trans h.res
theorem OwnLp.post {w wr : World} {m : Ms} {ve vv vd : Value} {k : Nat} {E : List Ec} (h : OwnLp w wr m ve vv vd k E) (hf : m.Fits) (hk : m.es.length ≤ k) : MsO (w.heap.size + 2) wr m ve vv vd := ⟨h.half.fin hk, h.vs, h.d, hf⟩
set_option maxHeartbeats 1000000 in
theorem own_start {w X w5 w6 w7 : World} {m : Ms} {E : List Ec} {pe pv pd p5 p6 p7 : Option Addr} {ne ce nv cv nd cd n5 c5 n6 c6 n7 c7 : Nat} (HBX : Below w.heap.size w X) (HXS : w.heap.size + 1 < X.heap.size) (HR2 : X.heap[w.heap.size + 1]? = some row0)
    (HROW7 : w7.heap[w.heap.size]? = some (.cells #[.int .i64 m.k, .int .i64 m.f, .int .i64 m.t, .int .i64 m.tm, .int .i64 m.ix, .int .i64 m.lt, .int .i64 m.cm, .int .i64 m.rd, .bool m.ys, .bool m.dn, .slice pe ne ce, .slice pv nv cv, .slice pd nd cd] 26 (0, 0)))
    (HW5 : Below X.heap.size X w5) (HB6 : Below w5.heap.size w5 w6) (HB7 : Below w6.heap.size w6 w7) (HO5 : OwnN X.heap.size w5 (.slice p5 n5 c5) m.vs) (HO6 : Own w5.heap.size w6 (.slice p6 n6 c6) m.d) (HO7 : OwnE w6.heap.size w7 (.slice p7 n7 c7) E) (HDA : Dat w E m.es) :
    OwnLp w (((w7.setCell ⟨w.heap.size, 11, none⟩ (.slice p5 n5 c5)).setCell ⟨w.heap.size, 12, none⟩ (.slice p6 n6 c6)).setCell ⟨w.heap.size, 10, none⟩ (.slice p7 n7 c7)) m (.slice p7 n7 c7) (.slice p5 n5 c5) (.slice p6 n6 c6) 0 E := by
  have HW6 : Below X.heap.size X w6 := HW5.trans (HB6.mono HW5.size)
  have HW7 : Below X.heap.size X w7 := HW6.trans (HB7.mono HW6.size)
  have hw7 : w.heap.size < w7.heap.size := by have := HW7.size; have := HXS; omega
  have HG7 : (∀ g, (Value.slice p7 n7 c7).ownBlock = some g → w6.heap.size ≤ g ∧ g < w7.heap.size) := fun g hg => HO7.lt g hg
  have HG5 : (∀ g, (Value.slice p5 n5 c5).ownBlock = some g → g < w5.heap.size) := fun g hg => (HO5.lt g hg).2
  obtain ⟨Y, hY⟩ : ∃ Y, ((w7.setCell ⟨w.heap.size, 11, none⟩ (.slice p5 n5 c5)).setCell ⟨w.heap.size, 12, none⟩ (.slice p6 n6 c6)).setCell ⟨w.heap.size, 10, none⟩ (.slice p7 n7 c7) = Y := ⟨_, rfl⟩
  have hrY : Y.heap[w.heap.size]? = some (.cells #[.int .i64 m.k, .int .i64 m.f, .int .i64 m.t, .int .i64 m.tm, .int .i64 m.ix, .int .i64 m.lt, .int .i64 m.cm, .int .i64 m.rd, .bool m.ys, .bool m.dn, .slice p7 n7 c7, .slice p5 n5 c5, .slice p6 n6 c6] 26 (0, 0)) := by
    have h1 := heap_setCell_same _ w.heap.size 11 _ 26 (.slice p5 n5 c5) HROW7
    have h2 := heap_setCell_same _ w.heap.size 12 _ 26 (.slice p6 n6 c6) h1
    have h3 := heap_setCell_same _ w.heap.size 10 _ 26 (.slice p7 n7 c7) h2
    rw [hY] at h3
    simpa only [List.setIfInBounds_toArray, List.set_cons_succ, List.set_cons_zero] using h3
  have hgY : w7.grownBy Y (some w.heap.size) := by
    rw [← hY]
    exact gtrans (gtrans (grown_set _ _ _ _) (grown_set _ _ _ _)) (grown_set _ _ _ _)
  have HST : OwnLp w Y m (.slice p7 n7 c7) (.slice p5 n5 c5) (.slice p6 n6 c6) 0 E := (by
    have hB := HBX.size
    have hX5 := HW5.size
    have hX6 := HW6.size
    have hX7 := HW7.size
    have hxd : X.drew.heap.size = X.heap.size := rfl
    have h56 := HB6.size
    have hXS := HXS
    have n7g : (Value.slice p7 n7 c7).ownBlock ≠ some w.heap.size := fun e => by have := (HG7 _ e).1; omega
    have n5g : (Value.slice p5 n5 c5).ownBlock ≠ some w.heap.size := fun e => by have := (HO5.lt _ e).1; omega
    have hO5 := HO5.below (HB6.trans (HB7.mono h56))
    have hO6 := HO6.below HB7
    refine ⟨Half.start ((HO7.mono (by omega)).grown hgY (.inr n7g)) HDA, (hO5.mono (by omega)).grown hgY (.inr n5g), (hO6.mono (by omega)).grown hgY ?_, fun g hg => ⟨fun e => ?_, ?_⟩, (HBX.trans (HW7.mono hB)).grown hgY (by omega) (fun k hk => by injection hk with hk; omega), fun g hg => by have := (HG7 g hg).1; omega, Box13.of_row hrY, ((hgY.block (w.heap.size + 1) (by omega) (by intro e; injection e with e; omega)).trans (HW7.block (w.heap.size + 1) hXS)).trans HR2⟩
    · rcases HO6.far with h0 | ⟨g, hp, hg, _⟩
      · exact .inl h0
      · refine .inr fun k hk e => ?_
        rw [hp] at hk
        injection hk with hk
        injection e with e
        have : (⟨g, 0, none⟩ : Addr).block = g := rfl
        omega
    · have := (HG7 g hg).1; have := HG5 g e; omega
    · rcases HO6.far with h0 | ⟨g2, hp, hg2, hl2⟩
      · exact .inl ⟨p6, n6, by rw [h0]⟩
      · refine .inr fun e => ?_
        rw [hp] at e
        injection e with e
        have : (⟨g2, 0, none⟩ : Addr).block = g2 := rfl
        have := (HG7 g hg).1
        omega)
  rw [hY]
  exact HST
set_option maxRecDepth 200000 in
set_option maxHeartbeats 4000000 in
theorem ownM_any {w : World} {m : Ms} {ve vv vd : Value} (h : MsV w m ve vv vd) (hs : SmallM m) : Calls Try.prog 12 #[msA m ve vv vd] w (OwnMPost w m) := by
  obtain ⟨pe, ne, ce, rfl⟩ := h.es.sl
  obtain ⟨pv, nv, cv, rfl⟩ := h.vs.sl
  obtain ⟨pd, nd, cd, rfl⟩ := h.d.sl
  obtain ⟨E, hE, hD⟩ := h.es
  obtain ⟨hs1, hs2, hs3, hs4⟩ := hs
  have hb1 : Below w.heap.size w (w.alloc (.cells #[.int .i64 m.k, .int .i64 m.f, .int .i64 m.t, .int .i64 m.tm, .int .i64 m.ix, .int .i64 m.lt, .int .i64 m.cm, .int .i64 m.rd, .bool m.ys, .bool m.dn, .slice pe ne ce, .slice pv nv cv, .slice pd nd cd] 26)) := (Below.refl _ _).alloc (Nat.le_refl _) _
  have hb2 := hb1.alloc hb1.size (.cells #[.int .i64 0, .int .i64 0, .int .i64 0, .int .i64 0, .int .i64 0, .int .i64 0, .int .i64 0, .int .i64 0, .bool false, .bool false, .slice none 0 0, .slice none 0 0, .slice none 0 0] 26)
  have hr1 := heap_alloc_new w (.cells #[.int .i64 m.k, .int .i64 m.f, .int .i64 m.t, .int .i64 m.tm, .int .i64 m.ix, .int .i64 m.lt, .int .i64 m.cm, .int .i64 m.rd, .bool m.ys, .bool m.dn, .slice pe ne ce, .slice pv nv cv, .slice pd nd cd] 26)
  have hr2 := heap_alloc_new (w.alloc (.cells #[.int .i64 m.k, .int .i64 m.f, .int .i64 m.t, .int .i64 m.tm, .int .i64 m.ix, .int .i64 m.lt, .int .i64 m.cm, .int .i64 m.rd, .bool m.ys, .bool m.dn, .slice pe ne ce, .slice pv nv cv, .slice pd nd cd] 26)) (.cells #[.int .i64 0, .int .i64 0, .int .i64 0, .int .i64 0, .int .i64 0, .int .i64 0, .int .i64 0, .int .i64 0, .bool false, .bool false, .slice none 0 0, .slice none 0 0, .slice none 0 0] 26)
  have hz : (w.alloc (.cells #[.int .i64 m.k, .int .i64 m.f, .int .i64 m.t, .int .i64 m.tm, .int .i64 m.ix, .int .i64 m.lt, .int .i64 m.cm, .int .i64 m.rd, .bool m.ys, .bool m.dn, .slice pe ne ce, .slice pv nv cv, .slice pd nd cd] 26)).heap.size = w.heap.size + 1 := by simp
  have hr1' := (((Below.refl _ _).alloc (Nat.le_refl _) (.cells #[.int .i64 0, .int .i64 0, .int .i64 0, .int .i64 0, .int .i64 0, .int .i64 0, .int .i64 0, .int .i64 0, .bool false, .bool false, .slice none 0 0, .slice none 0 0, .slice none 0 0] 26)).block w.heap.size (by rw [hz]; omega)).trans hr1
  rw [hz] at hr2
  obtain ⟨X, hX⟩ : ∃ X, (w.alloc (.cells #[.int .i64 m.k, .int .i64 m.f, .int .i64 m.t, .int .i64 m.tm, .int .i64 m.ix, .int .i64 m.lt, .int .i64 m.cm, .int .i64 m.rd, .bool m.ys, .bool m.dn, .slice pe ne ce, .slice pv nv cv, .slice pd nd cd] 26)).alloc (.cells #[.int .i64 0, .int .i64 0, .int .i64 0, .int .i64 0, .int .i64 0, .int .i64 0, .int .i64 0, .int .i64 0, .bool false, .bool false, .slice none 0 0, .slice none 0 0, .slice none 0 0] 26) = X := ⟨_, rfl⟩
  rw [hX] at hr1' hr2 hb2
  have HR1 := hide hr1'
  have HR2 := hide hr2
  have HBX := hide hb2
  have HX := hide hX
  have HXS : Hid (w.heap.size + 1 < X.heap.size) := hide ((Array.getElem?_eq_some_iff.1 hr2).1)
  have HC1 := hide (fun V (hV : Below X.heap.size X V) => cloneN_any (h.vs.below (hb2.trans (hV.mono hb2.size))) (by omega))
  have HC2 := hide (fun V (hV : Below X.heap.size X V) => cloneB_any (h.d.below (hb2.trans (hV.mono hb2.size))) (by omega))
  have HC3 := hide (fun V (hV : Below X.heap.size X V) => cloneEO_any (hE.below (hb2.trans (hV.mono hb2.size))) (by have := hD.1; omega))
  have HROW := hide (fun V (hV : Below X.heap.size X V) => (hV.block w.heap.size (by have := (Array.getElem?_eq_some_iff.1 hr1').1; omega)).trans hr1')
  have HDA := hide hD
  have HFT := hide h.fits
  have HS := hide (And.intro hs1 (And.intro hs2 (And.intro hs3 hs4)))
  have y10 := cell_of_row X w.heap.size 10 _ 26 (0, 0) hr1'
  have y11 := cell_of_row X w.heap.size 11 _ 26 (0, 0) hr1'
  have y12 := cell_of_row X w.heap.size 12 _ 26 (0, 0) hr1'
  simp only [List.getElem?_toArray, List.getElem?_cons_succ, List.getElem?_cons_zero] at y10 y11 y12
  unfold msA
  clear h hE hD hb1 hb2 hr1 hr2 hr1' hz hX hs1 hs2 hs3 hs4
  go_enter Try.func12, Try.ntmps12
  go_wp2_with fail
  rw [HX.out]
  rename_i K hK
  have HREST : Hid (∀ (p5 : Option Addr) (n5 c5 : Nat) (p6 : Option Addr) (n6 c6 : Nat) (p7 : Option Addr) (n7 c7 : Nat) (Y : World), OwnLp w Y m (.slice p7 n7 c7) (.slice p5 n5 c5) (.slice p6 n6 c6) 0 E → Exit.then K (bodyPost Try.prog Try.f12 (OwnMPost w m)) Exit.normal { tmps := #[.agg #[.int .i64 m.k, .int .i64 m.f, .int .i64 m.t, .int .i64 m.tm, .int .i64 m.ix, .int .i64 m.lt, .int .i64 m.cm, .int .i64 m.rd, .bool m.ys, .bool m.dn, .slice pe ne ce, .slice pv nv cv, .slice pd nd cd], .pointer (some ⟨w.heap.size, 0, none⟩), .pointer (some ⟨w.heap.size + 1, 0, none⟩), undef, .pointer (some ⟨w.heap.size, 11, none⟩), .slice pv nv cv, .slice p5 n5 c5, .pointer (some ⟨w.heap.size, 12, none⟩), .slice pd nd cd, .slice p6 n6 c6, .pointer (some ⟨w.heap.size, 10, none⟩), .slice pe ne ce, .slice p7 n7 c7, .pointer (some ⟨w.heap.size, 11, none⟩), .pointer (some ⟨w.heap.size, 12, none⟩), .pointer (some ⟨w.heap.size, 10, none⟩), undef, undef, undef, undef, undef, undef, undef, undef, undef, undef, undef, undef, undef, undef, undef, undef, undef, undef, undef, undef], defers := [] } Y) := by
    refine hide ?_
    intro p5 n5 c5 p6 n6 c6 p7 n7 c7 Y hst
    have HST := hide hst
    clear hst HR1 HR2 HBX HX HXS HC1 HC2 HC3 HROW y10 y11 y12
    have hlen := HST.out.half.row.ecs.len
    have HEL : Hid (n7 = E.length ∧ E.length = m.es.length) := hide ⟨hlen.1, HST.out.half.len⟩
    have hn79 : (n7 : Int) ≤ 9223372036854775807 := by have h1 := hlen.2.1; have h2 := hlen.2.2; unfold maxLen at h2; omega
    have y10 := HST.out.box.c10
    clear hlen
    go_wp2_with fail
    go_loopw [3, 19] (fun _ i wr => ∃ (k : Nat) (E' : List Ec), k ≤ n7 ∧ i = .int .i64 k ∧ Hid (OwnLp w wr m (.slice p7 n7 c7) (.slice p5 n5 c5) (.slice p6 n6 c6) k E')) (fun _ i _ => n7 - (intOf i).toNat)
    case atStart => exact ⟨0, E, by omega, rfl, HST⟩
    case round =>
      obtain ⟨k, E', hk, rfl, HL⟩ := hrel
      by_cases hlt : k < n7
      · have hEl := HL.out.half.len
        have hEn := HL.out.half.row.ecs.len.1
        obtain ⟨e, he⟩ : ∃ e, E'[k]? = some e := ⟨_, List.getElem?_eq_getElem (by omega)⟩
        obtain ⟨x, hx⟩ : ∃ x, m.es[k]? = some x := ⟨_, List.getElem?_eq_getElem (by omega)⟩
        have HL2 := HL
        rcases HL.out.half.row.2 with ⟨h0, _⟩ | ⟨g, cap, cur, h0, _⟩
        · injection h0 with _ h0 _
          omega
        injection h0 with h1 h2 h3
        subst h1
        clear h2 h3
        have hat := HL.out.half.row.ecs.at_ (by omega)
        obtain ⟨g', o', hgo, hat⟩ := hat
        injection hgo with hgo
        injection hgo with hg1 hg2 _
        subst hg1 hg2
        have hat := hat k e he
        rw [Nat.zero_add] at hat
        have q2 := hat.c2
        have fq : wr.frozen? ⟨g, k * 3 + 2, none⟩ = false := HL.out.half.row.fz (k * 3 + 2)
        obtain ⟨-, -, -, -, hby⟩ := HL.out.half.dat k e x he hx
        have HBYW := hide ((hby (Nat.le_refl _)).below HL.out.bel)
        have HXD := hide (HS.out.2.2.2 x (List.mem_of_getElem? hx))
        have HCL := hide (fun V (hV : Below wr.heap.size wr V) => cloneB_any (HBYW.out.below hV) (by have := HXD.out; omega))
        have HNX := hide (fun w' p n c hb ho => HL.out.next (w' := w') (p := p) (n := n) (c := c) he hx hb ho)
        have HBX2 := hide HL.out.box
        have HFR := hide HL.out.half.row
        have l10 := HL.out.box.c10
        have j0 : (0 : Int) ≤ (k : Int) := by omega
        have j1 : (k : Int) < (n7 : Int) := by omega
        have hgl := lt_of_cell q2
        have HGL := hide hgl
        obtain ⟨ep, hep⟩ : ∃ a, e.p = a := ⟨_, rfl⟩
        obtain ⟨en, hen⟩ : ∃ a, e.n = a := ⟨_, rfl⟩
        obtain ⟨ec, hec⟩ : ∃ a, e.c = a := ⟨_, rfl⟩
        rw [hep, hen, hec] at q2 HCL
        clear hEl hEn he hx hat hby HBYW HXD hgl hep hen hec HL HL2
        go_wp2_with fail
        go_region_law (go_simp; refine (HCL.out _ (by first | exact Below.refl _ _ | exact bel_drewN (Below.refl _ _) 1)).mono ?_; rintro e9 w9 ⟨p9, n9, c9, rfl, ho9, hb9⟩; have HB9 : Hid (Below wr.heap.size wr w9) := hide (by first | exact hb9 | exact (bel_drewN (Below.refl _ wr) 1).trans hb9); have HN9 := hide (HNX.out w9 p9 n9 c9 HB9.out ho9); have l9 := (HBX2.out.below HB9.out).c10; have fq9 : w9.frozen? ⟨g, k * 3 + 2, none⟩ = false := (HFR.out.below HB9.out).fz (k * 3 + 2); have q9 := (HB9.out.cell HGL.out).trans q2; clear ho9 hb9)
        all_goals
          go_wp2
          go_roundw
          case rel => exact ⟨k + 1, _, by omega, by go_num, hide (by first | exact HN9.out | simpa using HN9.out)⟩
          case measure => simp [intOf]; omega
      · have hPO := HL.out.post HFT.out (by have := HEL.out; omega)
        have HPO := hide hPO
        have HRR := hide HL.out.res
        have HBE := hide HL.out.bel
        have HVS := hide HL.out.vs
        have hrr := HL.out.res
        unfold row0 at hrr
        obtain ⟨y0, y1, y2, y3, y4, y5, y6, y7, y8, y9, -, y11, y12⟩ := HL.out.box
        have l10 := HL.out.box.c10
        have m0 := cell_of_row wr (w.heap.size + 1) 0 _ 26 (0, 0) hrr
        have mf0 := frozen_of_row wr (w.heap.size + 1) 0 _ 26 hrr
        have m1 := cell_of_row wr (w.heap.size + 1) 1 _ 26 (0, 0) hrr
        have mf1 := frozen_of_row wr (w.heap.size + 1) 1 _ 26 hrr
        have m2 := cell_of_row wr (w.heap.size + 1) 2 _ 26 (0, 0) hrr
        have mf2 := frozen_of_row wr (w.heap.size + 1) 2 _ 26 hrr
        have m3 := cell_of_row wr (w.heap.size + 1) 3 _ 26 (0, 0) hrr
        have mf3 := frozen_of_row wr (w.heap.size + 1) 3 _ 26 hrr
        have m4 := cell_of_row wr (w.heap.size + 1) 4 _ 26 (0, 0) hrr
        have mf4 := frozen_of_row wr (w.heap.size + 1) 4 _ 26 hrr
        have m5 := cell_of_row wr (w.heap.size + 1) 5 _ 26 (0, 0) hrr
        have mf5 := frozen_of_row wr (w.heap.size + 1) 5 _ 26 hrr
        have m6 := cell_of_row wr (w.heap.size + 1) 6 _ 26 (0, 0) hrr
        have mf6 := frozen_of_row wr (w.heap.size + 1) 6 _ 26 hrr
        have m7 := cell_of_row wr (w.heap.size + 1) 7 _ 26 (0, 0) hrr
        have mf7 := frozen_of_row wr (w.heap.size + 1) 7 _ 26 hrr
        have m8 := cell_of_row wr (w.heap.size + 1) 8 _ 26 (0, 0) hrr
        have mf8 := frozen_of_row wr (w.heap.size + 1) 8 _ 26 hrr
        have m9 := cell_of_row wr (w.heap.size + 1) 9 _ 26 (0, 0) hrr
        have mf9 := frozen_of_row wr (w.heap.size + 1) 9 _ 26 hrr
        have m10 := cell_of_row wr (w.heap.size + 1) 10 _ 26 (0, 0) hrr
        have mf10 := frozen_of_row wr (w.heap.size + 1) 10 _ 26 hrr
        have m11 := cell_of_row wr (w.heap.size + 1) 11 _ 26 (0, 0) hrr
        have mf11 := frozen_of_row wr (w.heap.size + 1) 11 _ 26 hrr
        have m12 := cell_of_row wr (w.heap.size + 1) 12 _ 26 (0, 0) hrr
        have mf12 := frozen_of_row wr (w.heap.size + 1) 12 _ 26 hrr
        simp only [List.getElem?_toArray, List.getElem?_cons_succ, List.getElem?_cons_zero] at m0 m1 m2 m3 m4 m5 m6 m7 m8 m9 m10 m11 m12
        have HRW := hide hrr
        clear hPO hrr
        go_wp2
        have hs9 := set13 wr (w.heap.size + 1) 26 _ _ _ _ _ _ _ _ _ _ _ _ _ (.int .i64 m.k) (.int .i64 m.f) (.int .i64 m.t) (.int .i64 m.tm) (.int .i64 m.ix) (.int .i64 m.lt) (.int .i64 m.cm) (.int .i64 m.rd) (.bool m.ys) (.bool m.dn) (.slice p7 n7 c7) (.slice p5 n5 c5) (.slice p6 n6 c6) HRW.out
        have hG9 := grown13 wr (w.heap.size + 1) (.int .i64 m.k) (.int .i64 m.f) (.int .i64 m.t) (.int .i64 m.tm) (.int .i64 m.ix) (.int .i64 m.lt) (.int .i64 m.cm) (.int .i64 m.rd) (.bool m.ys) (.bool m.dn) (.slice p7 n7 c7) (.slice p5 n5 c5) (.slice p6 n6 c6)
        obtain ⟨W9, hW9⟩ : ∃ W9, (((((((((((((wr).setCell ⟨w.heap.size + 1, 0, none⟩ (.int .i64 m.k)).setCell ⟨w.heap.size + 1, 1, none⟩ (.int .i64 m.f)).setCell ⟨w.heap.size + 1, 2, none⟩ (.int .i64 m.t)).setCell ⟨w.heap.size + 1, 3, none⟩ (.int .i64 m.tm)).setCell ⟨w.heap.size + 1, 4, none⟩ (.int .i64 m.ix)).setCell ⟨w.heap.size + 1, 5, none⟩ (.int .i64 m.lt)).setCell ⟨w.heap.size + 1, 6, none⟩ (.int .i64 m.cm)).setCell ⟨w.heap.size + 1, 7, none⟩ (.int .i64 m.rd)).setCell ⟨w.heap.size + 1, 8, none⟩ (.bool m.ys)).setCell ⟨w.heap.size + 1, 9, none⟩ (.bool m.dn)).setCell ⟨w.heap.size + 1, 10, none⟩ (.slice p7 n7 c7)).setCell ⟨w.heap.size + 1, 11, none⟩ (.slice p5 n5 c5)).setCell ⟨w.heap.size + 1, 12, none⟩ (.slice p6 n6 c6) = W9 := ⟨_, rfl⟩
        rw [hW9] at hs9 hG9 ⊢
        clear hW9
        have n0_ := cell_of_row W9 (w.heap.size + 1) 0 _ 26 (0, 0) hs9
        have n1_ := cell_of_row W9 (w.heap.size + 1) 1 _ 26 (0, 0) hs9
        have n2_ := cell_of_row W9 (w.heap.size + 1) 2 _ 26 (0, 0) hs9
        have n3_ := cell_of_row W9 (w.heap.size + 1) 3 _ 26 (0, 0) hs9
        have n4_ := cell_of_row W9 (w.heap.size + 1) 4 _ 26 (0, 0) hs9
        have n5_ := cell_of_row W9 (w.heap.size + 1) 5 _ 26 (0, 0) hs9
        have n6_ := cell_of_row W9 (w.heap.size + 1) 6 _ 26 (0, 0) hs9
        have n7_ := cell_of_row W9 (w.heap.size + 1) 7 _ 26 (0, 0) hs9
        have n8_ := cell_of_row W9 (w.heap.size + 1) 8 _ 26 (0, 0) hs9
        have n9_ := cell_of_row W9 (w.heap.size + 1) 9 _ 26 (0, 0) hs9
        have n10_ := cell_of_row W9 (w.heap.size + 1) 10 _ 26 (0, 0) hs9
        have n11_ := cell_of_row W9 (w.heap.size + 1) 11 _ 26 (0, 0) hs9
        have n12_ := cell_of_row W9 (w.heap.size + 1) 12 _ 26 (0, 0) hs9
        simp only [List.getElem?_toArray, List.getElem?_cons_succ, List.getElem?_cons_zero] at n0_ n1_ n2_ n3_ n4_ n5_ n6_ n7_ n8_ n9_ n10_ n11_ n12_
        have hz9 : w.heap.size + 1 < W9.heap.size := lt_of_cell n0_
        refine bodyPost_ret (v := .agg #[.int .i64 m.k, .int .i64 m.f, .int .i64 m.t, .int .i64 m.tm, .int .i64 m.ix, .int .i64 m.lt, .int .i64 m.cm, .int .i64 m.rd, .bool m.ys, .bool m.dn, .slice p7 n7 c7, .slice p5 n5 c5, .slice p6 n6 c6]) (by simp [results, Try.results12, go_sem, n0_, n1_, n2_, n3_, n4_, n5_, n6_, n7_, n8_, n9_, n10_, n11_, n12_, hz9]) rfl ⟨.slice p7 n7 c7, .slice p5 n5 c5, .slice p6 n6 c6, rfl, ?_, HBE.out.grown hG9 (by have := HBE.out.size; omega) (fun k hk => by injection hk with hk; omega)⟩
        exact (HPO.out.grownLt hG9 (by omega)).mono (by omega)
  go_region_law (go_simp; first
    | (refine (HC1.out _ (by first | exact Below.refl _ _ | exact bel_drewN (Below.refl _ _) 1 | exact HW5.out | exact HW6.out)).mono ?_; rintro e w5 ⟨p5, n5, c5, rfl, ho5, hb5⟩; have HO5 := hide ho5; have HW5 : Hid (Below X.heap.size X w5) := hide (by first | exact hb5 | exact (bel_drewN (Below.refl _ X) 1).trans hb5); have hrow := HROW.out _ HW5.out; have m10 := cell_of_row w5 w.heap.size 10 _ 26 (0, 0) hrow; have m12 := cell_of_row w5 w.heap.size 12 _ 26 (0, 0) hrow; simp only [List.getElem?_toArray, List.getElem?_cons_succ, List.getElem?_cons_zero] at m10 m12; clear ho5 hb5 hrow)
    | (refine (HC2.out _ HW5.out).mono ?_; rintro e w6 ⟨p6, n6, c6, rfl, ho6, hb6⟩; have HO6 := hide ho6; have HB6 := hide hb6; have HW6 : Hid (Below X.heap.size X w6) := hide (HW5.out.trans (hb6.mono HW5.out.size)); have hrow := HROW.out _ HW6.out; have n10 := cell_of_row w6 w.heap.size 10 _ 26 (0, 0) hrow; simp only [List.getElem?_toArray, List.getElem?_cons_succ, List.getElem?_cons_zero] at n10; clear ho6 hb6 hrow)
    | (refine (HC3.out _ HW6.out).mono ?_; rintro e w7 ⟨p7, n7, c7, rfl, ho7, hb7⟩; have HO7 := hide ho7; have HB7 := hide hb7; have HW7 : Hid (Below X.heap.size X w7) := hide (HW6.out.trans (hb7.mono HW6.out.size)); have hrow := HROW.out _ HW7.out; have k10 := cell_of_row w7 w.heap.size 10 _ 26 (0, 0) hrow; have k11 := cell_of_row w7 w.heap.size 11 _ 26 (0, 0) hrow; have k12 := cell_of_row w7 w.heap.size 12 _ 26 (0, 0) hrow; have f10 := frozen_of_row w7 w.heap.size 10 _ 26 hrow; have f11 := frozen_of_row w7 w.heap.size 11 _ 26 hrow; have f12 := frozen_of_row w7 w.heap.size 12 _ 26 hrow; simp only [List.getElem?_toArray, List.getElem?_cons_succ, List.getElem?_cons_zero] at k10 k11 k12; clear ho7 hb7 hrow))
  all_goals exact HREST.out _ _ _ _ _ _ _ _ _ _ (own_start HBX.out HXS.out HR2.out (HROW.out _ HW7.out) HW5.out HB6.out HB7.out HO5.out HO6.out HO7.out HDA.out)
end Go.Proofs.Ytiiollgipfggmaa
