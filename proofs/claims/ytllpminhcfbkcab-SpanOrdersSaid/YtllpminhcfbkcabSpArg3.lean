/- How large a slice of spans that came in may be. -/
import Derived.Test.YtllpminhcfbkcabSpArg2
import Derived.SizedLaws
namespace Go.Proofs.Ytllpminhcfbkcab
set_option linter.unusedVariables false
set_option linter.unusedSimpArgs false
open Go.RowKit Go.Deep Go.ChangeShapes

theorem Try.bytesSp : Try.prog.bytesOf 23 = 56 := by kernel_rfl
theorem sps_size {H : Type} {enc : TypeId × Value → H} {W : World} {a0 : Option Addr} {len cap : Nat} {d0 : DataW H} {p0 : List MemPlace}
    (h : DataW.Trod enc Try.prog W 0 (fun _ => true) true 25 (.slice a0 len cap) d0 p0) (hz : ∀ n ∈ d0.weights Try.prog 25, n ≤ reachBytes) : len * 56 ≤ 140737488351232 := by
  obtain ⟨fuel, hf⟩ := h
  rcases DataW.trod_slice Try.underlying25 hf with ⟨hcs, _⟩ | ⟨a, len', cap', elems, rest, n, hx0, hcs, hd, _, hl, hm, hel, hx, -, -⟩
  · simp [Value.cells] at hcs
    obtain ⟨rfl, rfl, rfl⟩ := hcs
    omega
  · simp [Value.cells] at hcs
    obtain ⟨rfl, rfl, rfl⟩ := hcs
    simp only [Prod.mk.injEq] at hd
    obtain ⟨rfl, _⟩ := hd
    have := hz _ (by simp only [DataW.weights, Try.underlying25, List.mem_cons]; exact .inl rfl)
    rw [Try.bytesSp, List.length_map] at this
    unfold reachBytes at this
    have h1 : len * 56 ≤ (elems.length + (rest.map fun x => x.fst).length) * 56 := Nat.mul_le_mul_right 56 (by omega)
    omega
end Go.Proofs.Ytllpminhcfbkcab
