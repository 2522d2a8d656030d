/- Numbers that came in as a slice. -/
import Derived.Test.YtokmmmpijcbknaaSpArg
import Derived.Test.YtokmmmpijcbknaaFSwap
namespace Go.Proofs.Ytokmmmpijcbknaa
set_option linter.unusedVariables false
set_option linter.unusedSimpArgs false
open Go.RowKit Go.Deep Go.ChangeShapes

theorem ints_of_arg {H : Type} {enc : TypeId × Value → H} {W : World} {a0 : Option Addr} {len cap : Nat} {d0 : DataW H} {p0 : List MemPlace}
    (h : DataW.Trod enc Try.prog W 0 (fun _ => true) true 54 (.slice a0 len cap) d0 p0) : ∃ l : List Int, l.length = len ∧ Ints W (.slice a0 len cap) l := by
  obtain ⟨fuel, hf⟩ := h
  rcases open_ints Try.underlying54 Try.underlying3 Try.cells3 hf with ⟨hcs, _⟩ | ⟨x, l, c, zs, hcs, _, hl, hm, hz, _, hcell, hwz⟩
  · simp [Value.cells] at hcs
    obtain ⟨rfl, rfl, rfl⟩ := hcs
    exact ⟨[], rfl, none, 0, rfl, by decide, fun i z hi => by simp at hi⟩
  · simp [Value.cells] at hcs
    obtain ⟨rfl, rfl, rfl⟩ := hcs
    have hzl : zs.length = cap := by simpa using hz
    refine ⟨zs.take len, by rw [List.length_take]; omega, some x, cap, by rw [List.length_take, Nat.min_eq_left (by omega)], by rw [List.length_take]; omega, fun i z hi => ?_⟩
    have hil := (List.getElem?_eq_some_iff.1 hi).1
    rw [List.length_take] at hil
    rw [List.getElem?_take_of_lt (by omega)] at hi
    have hi' : i < zs.length := by omega
    have hw := hwz z (List.mem_of_getElem? hi)
    have h1 : IntKind.i64.min = -9223372036854775808 := rfl
    have h2 : IntKind.i64.max = 9223372036854775807 := rfl
    simp only [Lit.wf, Bool.and_eq_true, decide_eq_true_eq] at hw
    have hc := hcell i hi'
    have hg : zs.getD i 0 = z := by simp [List.getD, hi]
    rw [hg] at hc
    have hsp := World.cell?_spot (hcell 0 (by omega))
    obtain ⟨b, o, spot⟩ := x
    have hsp0 : spot = none := by
      unfold Addr.add at hsp
      rw [if_pos rfl] at hsp
      exact hsp
    subst hsp0
    rw [add_lit0] at hc
    exact ⟨by omega, by omega, b, o, rfl, hc⟩
end Go.Proofs.Ytokmmmpijcbknaa
