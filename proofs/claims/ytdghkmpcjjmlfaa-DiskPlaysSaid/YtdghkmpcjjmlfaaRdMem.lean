/- The document's disk in memory: files and acts as slices; what others may change is named. -/
import Derived.Test.YtdghkmpcjjmlfaaFlSl
import Derived.Test.YtdghkmpcjjmlfaaAcSl
import Derived.Test.YtdghkmpcjjmlfaaDDisk
namespace Go.Proofs.Ytdghkmpcjjmlfaa
set_option linter.unusedVariables false
set_option linter.unusedSimpArgs false
open Go.RowKit

theorem chgA (w : World) (o : Obj) : Chg w (w.alloc o) (fun _ => False) := Chg.of_below (balloc (Below.refl _ _) o) _
theorem bel_al (V : World) (o : Obj) : Below V.heap.size V (V.alloc o) := (Below.refl V.heap.size V).alloc (Nat.le_refl _) o
theorem bel_drewN {B : Nat} {w V : World} (h : Below B w V) (q : Nat) : Below B w (V.drewN q) := ⟨h.os, h.tape, h.output, h.size, h.block⟩
theorem FcAt.chg {w w' : World} {T : Nat → Prop} {g o : Nat} {x : Fc} (h : FcAt w g o x) (hc : Chg w w' T) (hn : ¬ T g) : FcAt w' g o x := fun k u hk => hc.cell (h k u hk) hn
theorem Fcs.chg {w w' : World} {T : Nat → Prop} {v : Value} {l : List Fc} (h : Fcs w v l) (hc : Chg w w' T) (hne : l = [] ∨ ∀ k, v.ownBlock = some k → ¬ T k) : Fcs w' v l := by
  obtain ⟨p, c, rfl, hl, hm, hn, hx⟩ := h
  refine ⟨p, c, rfl, hl, hm, hn, fun h0 => ?_⟩
  obtain ⟨g, o, e, hx⟩ := hx h0
  refine ⟨g, o, e, fun i x hi => (hx i x hi).chg hc ?_⟩
  rcases hne with rfl | hne
  · simp at h0
  · exact hne g (by rw [e]; rfl)
theorem AcAt.chg {w w' : World} {T : Nat → Prop} {g o : Nat} {x : Ac} (h : AcAt w g o x) (hc : Chg w w' T) (hn : ¬ T g) : AcAt w' g o x := fun k u hk => hc.cell (h k u hk) hn
theorem By.lt_of {w : World} {v : Value} {l : List UInt8} (h : By w v l) (hl : l ≠ []) : ∀ k, v.ownBlock = some k → k < w.heap.size := by
  obtain ⟨p, c, rfl, hlc, hm, hn, hc⟩ := h
  intro k hk
  rcases p with _ | a
  · cases hk
  · injection hk with hk
    subst hk
    obtain ⟨x, r, rfl⟩ := List.exists_cons_of_ne_nil hl
    have := lt_of_cell (hc a rfl 0 x rfl)
    rwa [block_add] at this
theorem Fcs.lt_of {w : World} {v : Value} {l : List Fc} (h : Fcs w v l) (hl : l ≠ []) : ∀ k, v.ownBlock = some k → k < w.heap.size := by
  obtain ⟨p, c, rfl, hlc, hm, hn, hx⟩ := h
  intro k hk
  have h0 := List.length_pos_iff.2 hl
  obtain ⟨g, o, e, hx⟩ := hx h0
  rw [e] at hk
  injection hk with hk
  subst hk
  obtain ⟨x, r, rfl⟩ := List.exists_cons_of_ne_nil hl
  exact (hx 0 x rfl).lt

/-- One file as it lies, none of its bytes in Z. -/
structure Fe (w : World) (Z : Nat → Prop) (e : Fc) (x : List UInt8 × List UInt8) : Prop where
  nm : e.s.data.toList = x.1
  sz : e.s.size ≤ 1000
  by_ : By w (.slice e.p e.n e.c) x.2
  off : x.2 = [] ∨ ∀ k, (Value.slice e.p e.n e.c).ownBlock = some k → ¬ Z k
theorem Fe.chg {w w' : World} {Z T : Nat → Prop} {e : Fc} {x : List UInt8 × List UInt8} (h : Fe w Z e x) (hc : Chg w w' T) (hT : ∀ i, T i → Z i) : Fe w' Z e x :=
  ⟨h.nm, h.sz, h.by_.chg hc (h.off.imp id fun h1 k hk ht => h1 k hk (hT k ht)), h.off⟩
theorem Fe.re {w : World} {Z Z' : Nat → Prop} {e : Fc} {x : List UInt8 × List UInt8} (h : Fe w Z e x) (hZ : ∀ i, Z' i → Z i ∨ w.heap.size ≤ i) : Fe w Z' e x := by
  refine ⟨h.nm, h.sz, h.by_, ?_⟩
  by_cases h0 : x.2 = []
  · exact .inl h0
  · refine .inr fun k hk hz => ?_
    rcases hZ k hz with h1 | h1
    · rcases h.off with h2 | h2
      · exact h0 h2
      · exact h2 k hk h1
    · have := h.by_.lt_of h0 k hk
      omega
/-- Files as they lie. -/
def FilD (w : World) (Z : Nat → Prop) (E : List Fc) (F : Fl) : Prop := E.length = F.length ∧ ∀ (k : Nat) e x, E[k]? = some e → F[k]? = some x → Fe w Z e x
theorem FilD.nil (w : World) (Z : Nat → Prop) : FilD w Z [] [] := ⟨rfl, by simp⟩
theorem FilD.chg {w w' : World} {Z T : Nat → Prop} {E : List Fc} {F : Fl} (h : FilD w Z E F) (hc : Chg w w' T) (hT : ∀ i, T i → Z i) : FilD w' Z E F := ⟨h.1, fun k e x h1 h2 => (h.2 k e x h1 h2).chg hc hT⟩
theorem FilD.re {w : World} {Z Z' : Nat → Prop} {E : List Fc} {F : Fl} (h : FilD w Z E F) (hZ : ∀ i, Z' i → Z i ∨ w.heap.size ≤ i) : FilD w Z' E F := ⟨h.1, fun k e x h1 h2 => (h.2 k e x h1 h2).re hZ⟩
theorem FilD.push {w : World} {Z : Nat → Prop} {E : List Fc} {F : Fl} (h : FilD w Z E F) {e : Fc} {x : List UInt8 × List UInt8} (he : Fe w Z e x) : FilD w Z (E ++ [e]) (F ++ [x]) := by
  refine ⟨by rw [List.length_append, List.length_append, h.1]; rfl, fun k e' x' h1 h2 => ?_⟩
  by_cases hk : k < E.length
  · rw [List.getElem?_append_left hk] at h1
    rw [List.getElem?_append_left (by rw [← h.1]; exact hk)] at h2
    exact h.2 k e' x' h1 h2
  · rw [List.getElem?_append_right (by omega)] at h1
    rw [List.getElem?_append_right (by rw [← h.1]; omega)] at h2
    have h0 : k - E.length = 0 := by
      have := (List.getElem?_eq_some_iff.1 h1).1
      simp at this
      omega
    rw [h0] at h1
    rw [← h.1, h0] at h2
    simp at h1 h2
    subst h1 h2
    exact he
/-- The slice v reads as the files F; none of it lies in Z. -/
def Fil (w : World) (Z : Nat → Prop) (v : Value) (F : Fl) : Prop := ∃ E, Fcs w v E ∧ FilD w Z E F ∧ (E = [] ∨ ∀ k, v.ownBlock = some k → ¬ Z k)
theorem Fil.nil (w : World) (Z : Nat → Prop) : Fil w Z (.slice none 0 0) [] := ⟨[], Fcs.nil w, FilD.nil w Z, .inl rfl⟩
theorem Fil.sl {w : World} {Z : Nat → Prop} {v : Value} {F : Fl} (h : Fil w Z v F) : ∃ p n c, v = .slice p n c := h.elim fun E h => h.1.sl
theorem Fil.len {w : World} {Z : Nat → Prop} {p : Option Addr} {n c : Nat} {F : Fl} (h : Fil w Z (.slice p n c) F) : n = F.length ∧ n ≤ c ∧ c ≤ maxLen := by
  obtain ⟨E, h1, h2, _⟩ := h
  obtain ⟨a, b, d⟩ := h1.len
  exact ⟨by rw [a, h2.1], b, d⟩
theorem Fil.chg {w w' : World} {Z T : Nat → Prop} {v : Value} {F : Fl} (h : Fil w Z v F) (hc : Chg w w' T) (hT : ∀ i, T i → Z i) : Fil w' Z v F := by
  obtain ⟨E, h1, h2, h3⟩ := h
  exact ⟨E, h1.chg hc (h3.imp id fun h k hk ht => h k hk (hT k ht)), h2.chg hc hT, h3⟩
theorem Fil.re {w : World} {Z Z' : Nat → Prop} {v : Value} {F : Fl} (h : Fil w Z v F) (hZ : ∀ i, Z' i → Z i ∨ w.heap.size ≤ i) : Fil w Z' v F := by
  obtain ⟨E, h1, h2, h3⟩ := h
  refine ⟨E, h1, h2.re hZ, ?_⟩
  by_cases h0 : E = []
  · exact .inl h0
  · refine .inr fun k hk hz => ?_
    rcases hZ k hz with h4 | h4
    · rcases h3 with h5 | h5
      · exact h0 h5
      · exact h5 k hk h4
    · have := h1.lt_of h0 k hk
      omega
/-- One file of a slice. -/
theorem Fil.at_ {w : World} {Z : Nat → Prop} {p : Option Addr} {n c : Nat} {F : Fl} (h : Fil w Z (.slice p n c) F) {k : Nat} {x : List UInt8 × List UInt8} (hx : F[k]? = some x) :
    ∃ g o e, p = some ⟨g, o, none⟩ ∧ FcAt w g (o + k * 2) e ∧ Fe w Z e x ∧ ¬ Z g := by
  obtain ⟨E, h1, h2, h3⟩ := h
  have hl := (List.getElem?_eq_some_iff.1 hx).1
  have he := List.getElem?_eq_getElem (l := E) (i := k) (by rw [h2.1]; exact hl)
  obtain ⟨g, o, hp, hat⟩ := h1.at_ (by rw [h1.len.1]; have := h2.1; omega)
  refine ⟨g, o, _, hp, hat k _ he, h2.2 k _ x he hx, ?_⟩
  rcases h3 with h3 | h3
  · subst h3
    have := h2.1
    simp at this
    omega
  · exact h3 g (by rw [hp]; rfl)
/-- Files in a row of their own from B on. -/
def FilO (B : Nat) (w : World) (Z : Nat → Prop) (v : Value) (F : Fl) : Prop := ∃ E, OwnFc B w v E ∧ FilD w Z E F
theorem FilO.nil (B : Nat) (w : World) (Z : Nat → Prop) : FilO B w Z (.slice none 0 0) [] := ⟨[], OwnFc.nil _ _, FilD.nil w Z⟩
theorem FilO.fil {B : Nat} {w : World} {Z : Nat → Prop} {v : Value} {F : Fl} (h : FilO B w Z v F) (hZ : ∀ i, Z i → i < B) : Fil w Z v F := by
  obtain ⟨E, h1, h2⟩ := h
  refine ⟨E, h1.fcs, h2, .inr fun k hk hz => ?_⟩
  have := (h1.lt k hk).1
  have := hZ k hz
  omega
theorem FilO.sl {B : Nat} {w : World} {Z : Nat → Prop} {v : Value} {F : Fl} (h : FilO B w Z v F) : ∃ p n c, v = .slice p n c := h.elim fun E h => h.1.fcs.sl
theorem FilO.lt {B : Nat} {w : World} {Z : Nat → Prop} {v : Value} {F : Fl} (h : FilO B w Z v F) : ∀ k, v.ownBlock = some k → B ≤ k ∧ k < w.heap.size := h.elim fun E h => h.1.lt
theorem FilO.chg {B : Nat} {w w' : World} {Z T : Nat → Prop} {v : Value} {F : Fl} (h : FilO B w Z v F) (hc : Chg w w' T) (hT : ∀ i, T i → Z i) (hZ : ∀ i, Z i → i < B) : FilO B w' Z v F := by
  obtain ⟨E, h1, h2⟩ := h
  refine ⟨E, row_chg h1 hc fun k hk ht => ?_, h2.chg hc hT⟩
  have := (h1.lt k hk).1
  have := hZ k (hT k ht)
  omega

/-! ## Acts -/
def Deed.kd : Deed → Int
  | .put _ _ _ => 0
  | .trim _ _ => 1
  | .move _ _ => 2
  | .drop _ => 3
def Deed.nm : Deed → List UInt8
  | .put k _ _ => k
  | .trim k _ => k
  | .move k _ => k
  | .drop k => k
def Deed.tt : Deed → List UInt8
  | .move _ t => t
  | _ => []
def Deed.pl : Deed → Nat
  | .put _ a _ => a
  | .trim _ n => n
  | _ => 0
def Deed.bs : Deed → List UInt8
  | .put _ _ b => b
  | _ => []
/-- One act as it lies. -/
structure Ae (w : World) (Z : Nat → Prop) (e : Ac) (d : Deed) : Prop where
  kd : e.k = d.kd
  nm : e.s.data.toList = d.nm
  tt : e.t.data.toList = d.tt
  ns : e.s.size ≤ 1000
  ts : e.t.size ≤ 1000
  pl : e.a = (d.pl : Int)
  by_ : By w (.slice e.p e.n e.c) d.bs
  off : d.bs = [] ∨ ∀ k, (Value.slice e.p e.n e.c).ownBlock = some k → ¬ Z k
theorem Ae.chg {w w' : World} {Z T : Nat → Prop} {e : Ac} {d : Deed} (h : Ae w Z e d) (hc : Chg w w' T) (hT : ∀ i, T i → Z i) : Ae w' Z e d :=
  ⟨h.kd, h.nm, h.tt, h.ns, h.ts, h.pl, h.by_.chg hc (h.off.imp id fun h1 k hk ht => h1 k hk (hT k ht)), h.off⟩
theorem Ae.re {w : World} {Z Z' : Nat → Prop} {e : Ac} {d : Deed} (h : Ae w Z e d) (hZ : ∀ i, Z' i → Z i ∨ w.heap.size ≤ i) : Ae w Z' e d := by
  refine ⟨h.kd, h.nm, h.tt, h.ns, h.ts, h.pl, h.by_, ?_⟩
  by_cases h0 : d.bs = []
  · exact .inl h0
  · refine .inr fun k hk hz => ?_
    rcases hZ k hz with h1 | h1
    · rcases h.off with h2 | h2
      · exact h0 h2
      · exact h2 k hk h1
    · have := h.by_.lt_of h0 k hk
      omega
def ActD (w : World) (Z : Nat → Prop) (E : List Ac) (D : List Deed) : Prop := E.length = D.length ∧ ∀ (k : Nat) e d, E[k]? = some e → D[k]? = some d → Ae w Z e d
theorem ActD.nil (w : World) (Z : Nat → Prop) : ActD w Z [] [] := ⟨rfl, by simp⟩
theorem ActD.chg {w w' : World} {Z T : Nat → Prop} {E : List Ac} {D : List Deed} (h : ActD w Z E D) (hc : Chg w w' T) (hT : ∀ i, T i → Z i) : ActD w' Z E D := ⟨h.1, fun k e x h1 h2 => (h.2 k e x h1 h2).chg hc hT⟩
theorem ActD.re {w : World} {Z Z' : Nat → Prop} {E : List Ac} {D : List Deed} (h : ActD w Z E D) (hZ : ∀ i, Z' i → Z i ∨ w.heap.size ≤ i) : ActD w Z' E D := ⟨h.1, fun k e x h1 h2 => (h.2 k e x h1 h2).re hZ⟩
theorem ActD.push {w : World} {Z : Nat → Prop} {E : List Ac} {D : List Deed} (h : ActD w Z E D) {e : Ac} {d : Deed} (he : Ae w Z e d) : ActD w Z (E ++ [e]) (D ++ [d]) := by
  refine ⟨by rw [List.length_append, List.length_append, h.1]; rfl, fun k e' x' h1 h2 => ?_⟩
  by_cases hk : k < E.length
  · rw [List.getElem?_append_left hk] at h1
    rw [List.getElem?_append_left (by rw [← h.1]; exact hk)] at h2
    exact h.2 k e' x' h1 h2
  · rw [List.getElem?_append_right (by omega)] at h1
    rw [List.getElem?_append_right (by rw [← h.1]; omega)] at h2
    have h0 : k - E.length = 0 := by
      have := (List.getElem?_eq_some_iff.1 h1).1
      simp at this
      omega
    rw [h0] at h1
    rw [← h.1, h0] at h2
    simp at h1 h2
    subst h1 h2
    exact he
/-- The slice v, a row of one's own in R or nil, reads as the acts D. -/
def ActR (w : World) (Z R : Nat → Prop) (v : Value) (D : List Deed) : Prop := ∃ E, OwnAc 0 w v E ∧ ActD w Z E D ∧ ∀ k, v.ownBlock = some k → R k
theorem ActR.nil (w : World) (Z R : Nat → Prop) : ActR w Z R (.slice none 0 0) [] := ⟨[], OwnAc.nil _ _, ActD.nil w Z, fun k hk => by cases hk⟩
theorem ActR.sl {w : World} {Z R : Nat → Prop} {v : Value} {D : List Deed} (h : ActR w Z R v D) : ∃ p n c, v = .slice p n c := h.elim fun E h => h.1.acs.sl
theorem ActR.len {w : World} {Z R : Nat → Prop} {p : Option Addr} {n c : Nat} {D : List Deed} (h : ActR w Z R (.slice p n c) D) : n = D.length ∧ n ≤ c ∧ c ≤ maxLen := by
  obtain ⟨E, h1, h2, _⟩ := h
  obtain ⟨a, b, d⟩ := h1.acs.len
  exact ⟨by rw [a, h2.1], b, d⟩
theorem ActR.chg {w w' : World} {Z R T : Nat → Prop} {v : Value} {D : List Deed} (h : ActR w Z R v D) (hc : Chg w w' T) (hT : ∀ i, T i → Z i) (hR : ∀ i, R i → ¬ T i) : ActR w' Z R v D := by
  obtain ⟨E, h1, h2, h3⟩ := h
  exact ⟨E, row_chg h1 hc fun k hk => hR k (h3 k hk), h2.chg hc hT, h3⟩
theorem ActR.re {w : World} {Z Z' R R' : Nat → Prop} {v : Value} {D : List Deed} (h : ActR w Z R v D) (hZ : ∀ i, Z' i → Z i ∨ w.heap.size ≤ i) (hR : ∀ i, R i → R' i) : ActR w Z' R' v D := by
  obtain ⟨E, h1, h2, h3⟩ := h
  exact ⟨E, h1, h2.re hZ, fun k hk => hR k (h3 k hk)⟩
theorem ActR.at_ {w : World} {Z R : Nat → Prop} {p : Option Addr} {n c : Nat} {D : List Deed} (h : ActR w Z R (.slice p n c) D) {k : Nat} {d : Deed} (hd : D[k]? = some d) :
    ∃ g o e, p = some ⟨g, o, none⟩ ∧ AcAt w g (o + k * 5) e ∧ Ae w Z e d ∧ R g := by
  obtain ⟨E, h1, h2, h3⟩ := h
  have hl := (List.getElem?_eq_some_iff.1 hd).1
  have he := List.getElem?_eq_getElem (l := E) (i := k) (by rw [h2.1]; exact hl)
  obtain ⟨g, o, hp, hat⟩ := h1.acs.at_ (by rw [h1.acs.len.1]; have := h2.1; omega)
  exact ⟨g, o, _, hp, hat k _ he, h2.2 k _ d he hd, h3 g (by rw [hp]; rfl)⟩

/-! ## The disk -/
def rdC (st : Dk) (vl va : Value) (kp tr : Int) : Array Value := #[.int .i64 (st.room : Nat), vl, va, .bool st.down, .int .i64 (st.fn : Nat), .int .i64 kp, .int .i64 tr]
def Rh (w : World) (g : Nat) (st : Dk) (vl va : Value) (kp tr : Int) : Prop := w.heap[g]? = some (.cells (rdC st vl va kp tr) 60 (0, 0))
section
variable {w : World} {g : Nat} {st : Dk} {vl va : Value} {kp tr : Int}
theorem Rh.c0 (h : Rh w g st vl va kp tr) : w.cell? ⟨g, 0, none⟩ = some (.int .i64 (st.room : Nat)) := by rw [cell_of_row w g 0 _ 60 (0, 0) h]; rfl
theorem Rh.c1 (h : Rh w g st vl va kp tr) : w.cell? ⟨g, 1, none⟩ = some vl := by rw [cell_of_row w g 1 _ 60 (0, 0) h]; rfl
theorem Rh.c2 (h : Rh w g st vl va kp tr) : w.cell? ⟨g, 2, none⟩ = some va := by rw [cell_of_row w g 2 _ 60 (0, 0) h]; rfl
theorem Rh.c3 (h : Rh w g st vl va kp tr) : w.cell? ⟨g, 3, none⟩ = some (.bool st.down) := by rw [cell_of_row w g 3 _ 60 (0, 0) h]; rfl
theorem Rh.c4 (h : Rh w g st vl va kp tr) : w.cell? ⟨g, 4, none⟩ = some (.int .i64 (st.fn : Nat)) := by rw [cell_of_row w g 4 _ 60 (0, 0) h]; rfl
theorem Rh.c5 (h : Rh w g st vl va kp tr) : w.cell? ⟨g, 5, none⟩ = some (.int .i64 kp) := by rw [cell_of_row w g 5 _ 60 (0, 0) h]; rfl
theorem Rh.c6 (h : Rh w g st vl va kp tr) : w.cell? ⟨g, 6, none⟩ = some (.int .i64 tr) := by rw [cell_of_row w g 6 _ 60 (0, 0) h]; rfl
theorem Rh.fr (h : Rh w g st vl va kp tr) (i : Nat) : w.frozen? ⟨g, i, none⟩ = false := frozen_of_row w g i _ 60 h
theorem Rh.lt (h : Rh w g st vl va kp tr) : g < w.heap.size := lt_of_cell h.c0
theorem Rh.chg {w' : World} {T : Nat → Prop} (h : Rh w g st vl va kp tr) (hc : Chg w w' T) (hg : ¬ T g) : Rh w' g st vl va kp tr := (hc.block g h.lt hg).trans h
end
/-- The document's disk in the block g: R is what its calls may change, Z what others may. -/
structure RdIs (w : World) (Z R : Nat → Prop) (g : Nat) (st : Dk) : Prop where
  in_ : R g
  rap : ∀ i, R i → i < w.heap.size
  zap : ∀ i, Z i → i < w.heap.size
  sep : ∀ i, R i → ¬ Z i
  parts : ∃ vl va kp tr, Rh w g st vl va kp tr ∧ (st.fn = 0 ∨ (kp = st.keep ∧ tr = st.tear)) ∧ Fil w (fun i => Z i ∨ R i) vl st.last ∧ ActR w (fun i => Z i ∨ R i) (fun i => R i ∧ i ≠ g) va st.acts
/-- What a call of it leaves. -/
def RPost (w : World) (Z R : Nat → Prop) (g : Nat) (st : Dk) (w' : World) : Prop := ∃ R', RdIs w' Z R' g st ∧ Chg w w' R ∧ ∀ i, R' i → R i ∨ w.heap.size ≤ i
/-- Others changed what is theirs. -/
theorem RdIs.chg {w w' : World} {Z Z' R T : Nat → Prop} {g : Nat} {st : Dk} (h : RdIs w Z R g st) (hc : Chg w w' T) (hT : ∀ i, T i → Z i) (hZ : ∀ i, Z' i → Z i ∨ (w.heap.size ≤ i ∧ i < w'.heap.size)) : RdIs w' Z' R g st := by
  obtain ⟨vl, va, kp, tr, h1, h2, h3, h4⟩ := h.parts
  have hY : ∀ i, ((Z i ∨ Z' i) ∨ R i) → (Z i ∨ R i) ∨ w.heap.size ≤ i := fun i hi => by
    rcases hi with (hi | hi) | hi
    · exact .inl (.inl hi)
    · rcases hZ i hi with h1 | h1
      · exact .inl (.inl h1)
      · exact .inr h1.1
    · exact .inl (.inr hi)
  have hX : ∀ i, (Z' i ∨ R i) → ((Z i ∨ Z' i) ∨ R i) ∨ w'.heap.size ≤ i := fun i hi => .inl (hi.imp .inr id)
  have hTY : ∀ i, T i → ((Z i ∨ Z' i) ∨ R i) := fun i hi => .inl (.inl (hT i hi))
  refine ⟨h.in_, fun i hi => Nat.lt_of_lt_of_le (h.rap i hi) hc.size, fun i hi => ?_, fun i hi hz => ?_, vl, va, kp, tr, h1.chg hc fun ht => h.sep g h.in_ (hT g ht), h2, ((h3.re hY).chg hc hTY).re hX, ((h4.re hY fun i hi => hi).chg hc hTY fun i hi ht => h.sep i hi.1 (hT i ht)).re hX fun i hi => hi⟩
  · rcases hZ i hi with h1 | h1
    · exact Nat.lt_of_lt_of_le (h.zap i h1) hc.size
    · exact h1.2
  · rcases hZ i hz with h1 | h1
    · exact h.sep i hi h1
    · have := h.rap i hi
      omega
end Go.Proofs.Ytdghkmpcjjmlfaa
