/- What stands while a ledger's own changes. -/
import Derived.Test.YtmalhdiholblgaaLMgdP
namespace Go.Proofs.Ytmalhdiholblgaa
set_option linter.unusedVariables false
set_option linter.unusedSimpArgs false
open Go.RowKit

theorem OwnEns.window {B : Nat} {w w' : World} {v : Value} {L : List En} (h : OwnEns B w v L) (hk : ∀ k, B ≤ k → k < w.heap.size → w'.heap[k]? = w.heap[k]?) : OwnEns B w' v L := by
  obtain ⟨E, hE, hD⟩ := h
  refine ⟨E, ?_, hD.1, fun k e y h1 h2 => ?_⟩
  · obtain ⟨hl, ⟨e, h0⟩ | ⟨g', cap, cur, e, hB, hh, hr2⟩⟩ := hE
    · exact ⟨hl, .inl ⟨e, h0⟩⟩
    · exact ⟨hl, .inr ⟨g', cap, cur, e, hB, (hk g' hB (Array.getElem?_eq_some_iff.1 hh).1).trans hh, hr2⟩⟩
  · obtain ⟨a, b, ho, f, d⟩ := hD.2 k e y h1 h2
    refine ⟨a, b, ?_, f, d⟩
    rcases ho with ⟨e1, e2⟩ | ⟨gb, cb, e1, hB, hl, hm, hc, hs2, hf⟩
    · exact .inl ⟨e1, e2⟩
    · by_cases h0 : cb = 0
      · subst h0
        exact .inr ⟨gb, 0, e1, hB, hl, hm, fun i y hy => by have := (List.getElem?_eq_some_iff.1 hy).1; omega, fun i hi => by omega, fun i hi => by omega⟩
      · obtain ⟨u, hu⟩ := Option.isSome_iff_exists.1 (hs2 0 (by omega))
        have hbb := hk gb hB (lt_of_cell hu)
        have q1 : ∀ i, w'.cell? ⟨gb, i, none⟩ = w.cell? ⟨gb, i, none⟩ := fun i => by unfold World.cell?; simp only [hbb]
        have q2 : ∀ i, w'.frozen? ⟨gb, i, none⟩ = w.frozen? ⟨gb, i, none⟩ := fun i => by unfold World.frozen?; simp only [hbb]
        exact .inr ⟨gb, cb, e1, hB, hl, hm, fun i y hy => by rw [q1]; exact hc i y hy, fun i hi => by rw [q1]; exact hs2 i hi, fun i hi => by rw [q2]; exact hf i hi⟩
theorem LgOwn.rb_old {B : Nat} {w w' : World} {g : Nat} {x : Lg} (h : LgOwn B w g x) (hb : Below w.heap.size w w') {k : Nat} (hk : k = g ∨ Rb w' g k) : B ≤ k ∧ k < w.heap.size := by
  obtain ⟨p, n, c, E, hr⟩ := h.row
  rcases hk with rfl | hk
  · exact ⟨h.hB, lt_of_cell h.c0⟩
  · exact hr.own.lt k ((hr.below hb).rb.1 hk)
/-- What was made behind a ledger stands when the ledger's own changes. -/
theorem OwnEns.frame {B : Nat} {w w3 w4 : World} {g : Nat} {x : Lg} {v : Value} {L : List En} (hl : LgOwn B w g x) (hb : Below w.heap.size w w3) (hf : Fr g w3 w4) (h : OwnEns w.heap.size w3 v L) : OwnEns w.heap.size w4 v L :=
  h.window fun k h1 h2 => hf.chg.block k h2 fun h3 => by have := (hl.rb_old hb h3).2; omega
end Go.Proofs.Ytmalhdiholblgaa
