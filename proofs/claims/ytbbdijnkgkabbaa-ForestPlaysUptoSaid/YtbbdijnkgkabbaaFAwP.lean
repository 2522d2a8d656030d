/- The example of the laws, plainly. -/
import Derived.Test.YtbbdijnkgkabbaaFPlain
namespace Go.Proofs.Ytbbdijnkgkabbaa
set_option linter.unusedVariables false
set_option linter.unusedSimpArgs false
open Go.RowKit

/-- A span of trace 1. -/
def ofP (i p : Int) : Sp := ⟨1, i, p, 0, 0, ⟨#[97]⟩⟩
theorem ofP_ok {i p : Int} (h1 : 1 ≤ i) (h2 : i ≤ 1099511627776) (h3 : 0 ≤ p) (h4 : p ≤ 1099511627776) (h5 : p ≠ i) : (ofP i p).ok = true :=
  (Sp.ok_iff _).2 ⟨by show (1 : Int) ≤ 1; decide, by show (1 : Int) ≤ 1099511627776; decide, h1, h2, h3, h4, by show (0 : Int) ≤ 0; decide, by show (0 : Int) ≤ 0; decide, by show (0 : Int) ≤ 1099511627776; decide, h5, by show 1 ≤ [(97 : UInt8)].length; decide, by show [(97 : UInt8)].length ≤ 32; decide, by show [(97 : UInt8)].all okByte = true; decide⟩
def three : List Sp := [ofP 2 0, ofP 3 2, ofP 4 9]
theorem three_ok : FoOk 1 three := by
  refine ⟨by unfold three ofP; simp, ⟨fun k => if k = 3 then 1 else 0, fun x hx u hu => ?_⟩, fun x hx => ?_, by decide⟩
  · unfold three at hx
    simp only [List.mem_cons, List.not_mem_nil, or_false] at hx
    rcases hx with rfl | rfl | rfl
    · exfalso
      rw [show fnd three (ofP 2 0).p = none by decide] at hu
      cases hu
    · rw [show fnd three (ofP 3 2).p = some (ofP 2 0) by decide] at hu
      injection hu with hu
      subst hu
      decide
    · exfalso
      rw [show fnd three (ofP 4 9).p = none by decide] at hu
      cases hu
  · unfold three at hx
    simp only [List.mem_cons, List.not_mem_nil, or_false] at hx
    rcases hx with rfl | rfl | rfl <;> exact ⟨ofP_ok (by decide) (by decide) (by decide) (by decide) (by decide), rfl⟩
theorem three_all : three.all (fun x => x.ok && decide (x.t = 1)) = true := by
  rw [List.all_eq_true]
  intro x hx
  have := three_ok.ok x hx
  rw [this.1, decide_eq_true this.2]
  rfl
theorem three_add : putsP [] cn0 three = (three, ⟨3, 0, 0, 0, 0⟩) := adds_all three [] cn0 three_ok
theorem nine_ok : (ofP 9 4).ok = true := ofP_ok (by decide) (by decide) (by decide) (by decide) (by decide)
theorem nine_add : putsP three cn0 [ofP 9 4] = (three, ⟨0, 0, 0, 1, 0⟩) := by
  have h1 : fnd three (ofP 9 4).i = none := by decide
  have h2 : ring three (ofP 9 4).i (ofP 9 4).p = true := ring_hit (u := ofP 4 9) (by decide) (by decide)
  unfold putsP
  unfold putP
  rw [h1]
  simp only
  rw [if_neg (by decide), if_pos h2]
  rfl
theorem three_sort : sortS three = three := by
  refine sorted_one (sortS_pair _) ?_ (sortS_perm _)
  unfold three
  refine List.Pairwise.cons (fun y hy => ?_) (List.Pairwise.cons (fun y hy => ?_) (List.Pairwise.cons (fun y hy => by simp at hy) List.Pairwise.nil))
  · simp only [List.mem_cons, List.not_mem_nil, or_false] at hy
    rcases hy with rfl | rfl <;> decide
  · simp only [List.mem_cons, List.not_mem_nil, or_false] at hy
    subst hy
    decide
theorem three_brs : brs three = [⟨0, false, ofP 2 0⟩, ⟨1, false, ofP 3 2⟩, ⟨0, true, ofP 4 9⟩] := by decide
end Go.Proofs.Ytbbdijnkgkabbaa
