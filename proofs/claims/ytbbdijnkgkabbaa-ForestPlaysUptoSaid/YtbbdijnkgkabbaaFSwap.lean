/- Spans of a slice, each at its place, laid over. -/
import Derived.Test.YtbbdijnkgkabbaaFLight
namespace Go.Proofs.Ytbbdijnkgkabbaa
set_option linter.unusedVariables false
set_option linter.unusedSimpArgs false
open Go.RowKit

theorem gtransF {a b c : World} {row : Option Nat} (h : a.grownBy b row) (h' : b.grownBy c row) : a.grownBy c row :=
  ⟨h'.os.trans h.os, h'.tape.trans h.tape, h'.output.trans h.output, Nat.le_trans h.size h'.size, fun k hk hne => (h'.block k (Nat.lt_of_lt_of_le hk h.size) hne).trans (h.block k hk hne)⟩
/-- The slice v reads as the numbers zs. -/
def Ints (w : World) (v : Value) (zs : List Int) : Prop :=
  ∃ (p : Option Addr) (c : Nat), v = .slice p zs.length c ∧ zs.length ≤ maxLen ∧ ∀ (i : Nat) z, zs[i]? = some z → -9223372036854775808 ≤ z ∧ z ≤ 9223372036854775807 ∧ ∃ g o, p = some ⟨g, o, none⟩ ∧ w.cell? ⟨g, o + i, none⟩ = some (.int .i64 z)

theorem sps_at {B : Nat} {w : World} {g n c : Nat} {l : List Sp} (h : OwnS B w (.slice (some ⟨g, 0, none⟩) n c) l) : ∀ (i : Nat) x, l[i]? = some x → SpAt w g (i * 6) x := fun i x hi => by
  have h1 := h.sps
  have hn := h1.len.1
  obtain ⟨g', o', e, hx⟩ := h1.at_ (by have := (List.getElem?_eq_some_iff.1 hi).1; omega)
  injection e with e
  injection e with e1 e2
  subst e1 e2
  have := hx i x hi
  rwa [Nat.zero_add] at this
theorem swap_perm {l : List Sp} {a b : Nat} {x y : Sp} (hx : l[a]? = some x) (hy : l[b]? = some y) : ((l.set a y).set b x).Perm l := by
  obtain ⟨ha, rfl⟩ := List.getElem?_eq_some_iff.1 hx
  obtain ⟨hb, rfl⟩ := List.getElem?_eq_some_iff.1 hy
  by_cases hab : a = b
  · subst hab
    rw [List.set_set]
    simp
  · rw [List.perm_iff_count]
    intro z
    rw [List.count_set (by simpa using hb), List.count_set ha, List.getElem_set_ne hab]
    have h1 : l[a] = z → 0 < l.count z := fun e => List.count_pos_iff.2 (e ▸ List.getElem_mem ha)
    by_cases e1 : l[a] = z <;> by_cases e2 : l[b] = z <;> simp [e1, e2]
    all_goals (have := h1 e1; omega)
theorem flat_set : ∀ (l : List Sp) (i : Nat) (y : Sp), i < l.length →
    (((((((l.flatMap spC).set (i * 6) (.int .i64 y.t)).set (i * 6 + 1) (.int .i64 y.i)).set (i * 6 + 2) (.int .i64 y.p)).set (i * 6 + 3) (.int .i64 y.s)).set (i * 6 + 4) (.int .i64 y.e)).set (i * 6 + 5) (.string y.n)) = (l.set i y).flatMap spC
  | [], i, y, h => by simp at h
  | x :: r, 0, y, h => by simp [spC]
  | x :: r, i + 1, y, h => by
    have ih := flat_set r i y (by simpa using h)
    rw [List.set_cons_succ, List.flatMap_cons, List.flatMap_cons, ← ih]
    have e0 : (i + 1) * 6 = i * 6 + 6 := by omega
    simp only [e0, spC, List.cons_append, List.nil_append, List.set_cons_succ]
/-- A span laid over six cells. -/
def put6 (w : World) (g o : Nat) (y : Sp) : World := (((((w.setCell ⟨g, o, none⟩ (.int .i64 y.t)).setCell ⟨g, o + 1, none⟩ (.int .i64 y.i)).setCell ⟨g, o + 2, none⟩ (.int .i64 y.p)).setCell ⟨g, o + 3, none⟩ (.int .i64 y.s)).setCell ⟨g, o + 4, none⟩ (.int .i64 y.e)).setCell ⟨g, o + 5, none⟩ (.string y.n)
theorem own_put6 {B : Nat} {w : World} {g n c : Nat} {l : List Sp} (h : OwnS B w (.slice (some ⟨g, 0, none⟩) n c) l) {i : Nat} (hi : i < l.length) (y : Sp) :
    OwnS B (put6 w g (i * 6) y) (.slice (some ⟨g, 0, none⟩) n c) (l.set i y) ∧ w.grownBy (put6 w g (i * 6) y) (some g) := by
  have hn : n = l.length := h.sps.len.1
  subst hn
  obtain ⟨h1, g1⟩ := World.ownsRow.stored h (i * 6) (.int .i64 y.t)
  obtain ⟨h2, g2⟩ := World.ownsRow.stored h1 (i * 6 + 1) (.int .i64 y.i)
  obtain ⟨h3, g3⟩ := World.ownsRow.stored h2 (i * 6 + 2) (.int .i64 y.p)
  obtain ⟨h4, g4⟩ := World.ownsRow.stored h3 (i * 6 + 3) (.int .i64 y.s)
  obtain ⟨h5, g5⟩ := World.ownsRow.stored h4 (i * 6 + 4) (.int .i64 y.e)
  obtain ⟨h6, g6⟩ := World.ownsRow.stored h5 (i * 6 + 5) (.string y.n)
  refine ⟨?_, gtransF (gtransF (gtransF (gtransF (gtrans g1 g2) g3) g4) g5) g6⟩
  rw [flat_set l i y hi] at h6
  unfold OwnS
  rw [List.length_set]
  exact h6
structure FrSix (w : World) (g o : Nat) : Prop where
  f0 : w.frozen? ⟨g, o, none⟩ = false
  f1 : w.frozen? ⟨g, o + 1, none⟩ = false
  f2 : w.frozen? ⟨g, o + 2, none⟩ = false
  f3 : w.frozen? ⟨g, o + 3, none⟩ = false
  f4 : w.frozen? ⟨g, o + 4, none⟩ = false
  f5 : w.frozen? ⟨g, o + 5, none⟩ = false
theorem fr_six {B : Nat} {w : World} {g n c : Nat} {l : List Sp} (h : OwnS B w (.slice (some ⟨g, 0, none⟩) n c) l) (o : Nat) : FrSix w g o := by
  have hn : n = l.length := h.sps.len.1
  subst hn
  exact ⟨World.ownsRow.frozenAt h _, World.ownsRow.frozenAt h _, World.ownsRow.frozenAt h _, World.ownsRow.frozenAt h _, World.ownsRow.frozenAt h _, World.ownsRow.frozenAt h _⟩

structure SpSix (w : World) (g o : Nat) (x : Sp) : Prop where
  d0 : w.cell? ⟨g, o, none⟩ = some (.int .i64 x.t)
  d1 : w.cell? ⟨g, o + 1, none⟩ = some (.int .i64 x.i)
  d2 : w.cell? ⟨g, o + 2, none⟩ = some (.int .i64 x.p)
  d3 : w.cell? ⟨g, o + 3, none⟩ = some (.int .i64 x.s)
  d4 : w.cell? ⟨g, o + 4, none⟩ = some (.int .i64 x.e)
  d5 : w.cell? ⟨g, o + 5, none⟩ = some (.string x.n)
theorem SpAt.six {w : World} {g o : Nat} {x : Sp} (h : SpAt w g o x) : SpSix w g o x := ⟨h.c0, h.c1, h.c2, h.c3, h.c4, h.c5⟩


end Go.Proofs.Ytbbdijnkgkabbaa
