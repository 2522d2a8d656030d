/- The document's Keep. -/
import Derived.Test.YtfbndbmhnpleoaaTRef4
import Derived.Test.YtfbndbmhnpleoaaTRef1
import Derived.Deep.RegionHeld3
import Derived.StillTailTactics
namespace Go.Proofs.Ytfbndbmhnpleoaa
set_option linter.unusedVariables false
set_option linter.unusedSimpArgs false
open Go.RowKit

set_option maxRecDepth 20000 in
theorem flat_set11 : ∀ (l : List St) (i : Nat) (y : St), i < l.length →
    ((((((((((((l.flatMap stC).set (i * 11) (.int .i64 y.s)).set (i * 11 + 1) (.int .i64 y.q)).set (i * 11 + 2) (.int .i64 y.a)).set (i * 11 + 3) (.int .i64 y.r.er)).set (i * 11 + 4) (.int .i64 y.r.rs)).set (i * 11 + 5) (.int .i64 y.r.gn)).set (i * 11 + 6) (.int .i64 y.r.ad)).set (i * 11 + 7) (.int .i64 y.r.sa)).set (i * 11 + 8) (.int .i64 y.r.ot)).set (i * 11 + 9) (.int .i64 y.r.cy)).set (i * 11 + 10) (.int .i64 y.r.fu)) = (l.set i y).flatMap stC
  | [], i, y, h => by simp at h
  | x :: r, 0, y, h => by simp [stC]
  | x :: r, i + 1, y, h => by
    have ih := flat_set11 r i y (by simpa using h)
    rw [List.set_cons_succ, List.flatMap_cons, List.flatMap_cons, ← ih]
    have e0 : (i + 1) * 11 = i * 11 + 11 := by omega
    simp only [e0, stC, List.cons_append, List.nil_append, List.set_cons_succ]
/-- A session laid over eleven cells. -/
def put11 (w : World) (g o : Nat) (y : St) : World := (((((((((((w.setCell ⟨g, o, none⟩ (.int .i64 y.s)).setCell ⟨g, o + 1, none⟩ (.int .i64 y.q)).setCell ⟨g, o + 2, none⟩ (.int .i64 y.a)).setCell ⟨g, o + 3, none⟩ (.int .i64 y.r.er)).setCell ⟨g, o + 4, none⟩ (.int .i64 y.r.rs)).setCell ⟨g, o + 5, none⟩ (.int .i64 y.r.gn)).setCell ⟨g, o + 6, none⟩ (.int .i64 y.r.ad)).setCell ⟨g, o + 7, none⟩ (.int .i64 y.r.sa)).setCell ⟨g, o + 8, none⟩ (.int .i64 y.r.ot)).setCell ⟨g, o + 9, none⟩ (.int .i64 y.r.cy)).setCell ⟨g, o + 10, none⟩ (.int .i64 y.r.fu))
theorem own_put11 {B : Nat} {w : World} {g n c : Nat} {l : List St} (h : OwnT B w (.slice (some ⟨g, 0, none⟩) n c) l) {i : Nat} (hi : i < l.length) (y : St) :
    OwnT B (put11 w g (i * 11) y) (.slice (some ⟨g, 0, none⟩) n c) (l.set i y) ∧ w.grownBy (put11 w g (i * 11) y) (some g) := by
  have hn : n = l.length := h.sts.len.1
  subst hn
  obtain ⟨h1, g1⟩ := World.ownsRow.stored h (i * 11) (.int .i64 y.s)
  obtain ⟨h2, g2⟩ := World.ownsRow.stored h1 (i * 11 + 1) (.int .i64 y.q)
  obtain ⟨h3, g3⟩ := World.ownsRow.stored h2 (i * 11 + 2) (.int .i64 y.a)
  obtain ⟨h4, g4⟩ := World.ownsRow.stored h3 (i * 11 + 3) (.int .i64 y.r.er)
  obtain ⟨h5, g5⟩ := World.ownsRow.stored h4 (i * 11 + 4) (.int .i64 y.r.rs)
  obtain ⟨h6, g6⟩ := World.ownsRow.stored h5 (i * 11 + 5) (.int .i64 y.r.gn)
  obtain ⟨h7, g7⟩ := World.ownsRow.stored h6 (i * 11 + 6) (.int .i64 y.r.ad)
  obtain ⟨h8, g8⟩ := World.ownsRow.stored h7 (i * 11 + 7) (.int .i64 y.r.sa)
  obtain ⟨h9, g9⟩ := World.ownsRow.stored h8 (i * 11 + 8) (.int .i64 y.r.ot)
  obtain ⟨h10, g10⟩ := World.ownsRow.stored h9 (i * 11 + 9) (.int .i64 y.r.cy)
  obtain ⟨h11, g11⟩ := World.ownsRow.stored h10 (i * 11 + 10) (.int .i64 y.r.fu)
  refine ⟨?_, (gtrans (gtrans (gtrans (gtrans (gtrans (gtrans (gtrans (gtrans (gtrans (gtrans g1 g2) g3) g4) g5) g6) g7) g8) g9) g10) g11)⟩
  rw [flat_set11 l i y hi] at h11
  unfold OwnT
  rw [List.length_set]
  exact h11
theorem fr_el {B : Nat} {w : World} {g n c : Nat} {l : List St} (h : OwnT B w (.slice (some ⟨g, 0, none⟩) n c) l) (o : Nat) : w.frozen? ⟨g, o, none⟩ = false := by
  have hn : n = l.length := h.sts.len.1
  subst hn
  exact World.ownsRow.frozenAt h _
theorem sts_at {B : Nat} {w : World} {g n c : Nat} {l : List St} (h : OwnT B w (.slice (some ⟨g, 0, none⟩) n c) l) (i : Nat) (x : St) (hi : l[i]? = some x) : StAt w g (i * 11) x := by
  have h1 := h.sts
  have hn := h1.len.1
  obtain ⟨g', o', e, hx⟩ := h1.at_ (by have := (List.getElem?_eq_some_iff.1 hi).1; omega)
  injection e with e
  injection e with e1 e2
  subst e1 e2
  have := hx i x hi
  rwa [Nat.zero_add] at this
theorem insT_set : ∀ {L : List St} {k : Nat} {x y : St}, RisesT L → L[k]? = some y → y.s = x.s → insT L x = L.set k x
  | [], k, x, y, _, h, _ => by simp at h
  | z :: r, 0, x, y, hr, h, hs => by
    simp only [List.getElem?_cons_zero, Option.some.injEq] at h
    subst h
    unfold insT
    rw [if_neg (by omega), if_pos hs.symm]
    rfl
  | z :: r, k + 1, x, y, hr, h, hs => by
    rw [List.getElem?_cons_succ] at h
    obtain ⟨h1, h2⟩ := List.pairwise_cons.1 hr
    have := h1 y (List.mem_of_getElem? h)
    unfold insT
    rw [if_neg (by omega), if_neg (by omega), insT_set h2 h hs]
    rfl

end Go.Proofs.Ytfbndbmhnpleoaa
