/- The document's table in memory; place, Ask. -/
import Derived.Test.YtfbndbmhnpleoaaTLawEnds
namespace Go.Proofs.Ytfbndbmhnpleoaa
set_option linter.unusedVariables false
set_option linter.unusedSimpArgs false
open Go.RowKit

/-- The document's table in the block gx, its sessions in the slice v. -/
structure RtAt (w : World) (gx : Nat) (v : Value) (L : List St) : Prop where
  row : w.heap[gx]? = some (.cells #[v] 62 (0, 0))
  own : OwnT (gx + 1) w v L
theorem RtAt.lt {w : World} {gx : Nat} {v : Value} {L : List St} (h : RtAt w gx v L) : gx < w.heap.size := (Array.getElem?_eq_some_iff.1 h.row).1
theorem RtAt.below {w w' : World} {gx : Nat} {v : Value} {L : List St} (h : RtAt w gx v L) (hb : Below w.heap.size w w') : RtAt w' gx v L :=
  ⟨(hb.block gx h.lt).trans h.row, h.own.below hb⟩
theorem RtAt.c0 {w : World} {gx : Nat} {v : Value} {L : List St} (h : RtAt w gx v L) : w.cell? ⟨gx, 0, none⟩ = some v := by
  rw [cell_of_row w gx 0 _ 62 (0, 0) h.row]
  rfl
theorem RtAt.f0 {w : World} {gx : Nat} {v : Value} {L : List St} (h : RtAt w gx v L) : w.frozen? ⟨gx, 0, none⟩ = false := frozen_of_row w gx 0 _ 62 h.row

/-- Where a session stands. -/
def plcT (L : List St) (n : Int) : Int := if (fndT L n).isSome then ((L.findIdx fun x => x.s == n : Nat) : Int) else -1
theorem plcT_at {L : List St} {n : Int} {k : Nat} {x : St} (hk : L[k]? = some x) (hx : x.s = n) (h : ∀ j y, j < k → L[j]? = some y → y.s ≠ n) : plcT L n = k := by
  obtain ⟨hlt, rfl⟩ := List.getElem?_eq_some_iff.1 hk
  have hs : (fndT L n).isSome = true := by
    cases hf : fndT L n with
    | none => exact absurd hx (fndT_none.1 hf _ (List.getElem_mem hlt))
    | some _ => rfl
  unfold plcT
  rw [if_pos hs]
  congr 1
  refine (List.findIdx_eq hlt).2 ⟨by simpa using hx, fun j hj => ?_⟩
  have := h j _ hj (List.getElem?_eq_getElem (by omega))
  simpa using this
theorem plcT_none {L : List St} {n : Int} (h : ∀ j y, j < L.length → L[j]? = some y → y.s ≠ n) : plcT L n = -1 ∧ fndT L n = none := by
  have hf : fndT L n = none := fndT_none.2 fun x hx => by
    obtain ⟨j, hj, rfl⟩ := List.getElem_of_mem hx
    exact h j _ hj (List.getElem?_eq_getElem hj)
  exact ⟨by unfold plcT; rw [hf]; rfl, hf⟩
theorem plcT_some {L : List St} (hL : RisesT L) {n : Int} {x : St} (h : fndT L n = some x) : ∃ k, plcT L n = (k : Nat) ∧ L[k]? = some x := by
  obtain ⟨hm, hs⟩ := fndT_mem h
  obtain ⟨k, hk, rfl⟩ := List.getElem_of_mem hm
  refine ⟨k, plcT_at (List.getElem?_eq_getElem hk) hs fun j y hj hy => ?_, List.getElem?_eq_getElem hk⟩
  obtain ⟨hjl, rfl⟩ := List.getElem?_eq_some_iff.1 hy
  have := List.pairwise_iff_getElem.1 hL j k hjl hk hj
  omega
theorem plcT_no {L : List St} {n : Int} (h : fndT L n = none) : plcT L n = -1 := by unfold plcT; rw [h]; rfl

end Go.Proofs.Ytfbndbmhnpleoaa
