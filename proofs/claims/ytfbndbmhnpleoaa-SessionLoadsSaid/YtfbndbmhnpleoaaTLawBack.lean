/- The law SessionBack. -/
import Derived.Test.YtfbndbmhnpleoaaTLoad
import Derived.Test.YtfbndbmhnpleoaaTLawEnds
namespace Go.Proofs.Ytfbndbmhnpleoaa
set_option linter.unusedVariables false
set_option linter.unusedSimpArgs false
open Go.RowKit Go.Deep Go.ChangeShapes

theorem Try.cells5 : Try.prog.cellsOf 5 = 1 := by kernel_rfl
theorem by_of_arg {H : Type} {enc : TypeId × Value → H} {W : World} {a0 : Option Addr} {len cap : Nat} {d0 : DataW H} {p0 : List MemPlace}
    (h : DataW.Trod enc Try.prog W 0 (fun _ => true) true 22 (.slice a0 len cap) d0 p0) : ∃ l : List UInt8, l.length = len ∧ By W (.slice a0 len cap) l := by
  obtain ⟨fuel, hf⟩ := h
  rcases open_ints Try.underlying22 Try.underlying5 Try.cells5 hf with ⟨hcs, _⟩ | ⟨x, l, c, zs, hcs, _, hl, hm, hz, _, hcell, hwz⟩
  · simp [Value.cells] at hcs
    obtain ⟨rfl, rfl, rfl⟩ := hcs
    exact by_of_row (zs := []) (.inl ⟨rfl, rfl, rfl, rfl⟩)
  · simp [Value.cells] at hcs
    obtain ⟨rfl, rfl, rfl⟩ := hcs
    exact by_of_row (.inr ⟨_, rfl, hl, hm, by simpa using hz, hcell, hwz⟩)

end Go.Proofs.Ytfbndbmhnpleoaa
