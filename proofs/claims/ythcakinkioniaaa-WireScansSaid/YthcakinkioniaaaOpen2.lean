/- A slice of asks that came in as an argument. -/
import Derived.Test.YthcakinkioniaaaOpen
import Derived.Test.YthcakinkioniaaaLawScans
import Derived.Deep.SlicePairs
namespace Go.Proofs.Ythcakinkioniaaa
open Go.RowKit Go.Deep Go.ChangeShapes

theorem Try.cells3 : Try.prog.cellsOf 3 = 1 := by kernel_rfl
theorem Try.cells52 : Try.prog.cellsOf 52 = 2 := by kernel_rfl

theorem asks_of_arg {H : Type} {enc : TypeId × Value → H} {W : World} {a0 : Option Addr} {len cap : Nat} {d0 : DataW H} {p0 : List MemPlace}
    (h : DataW.Trod enc Try.prog W 0 (fun _ => true) true 45 (.slice a0 len cap) d0 p0) : ∃ ls : List (Int × Int), ls.length = len ∧ Asks W (.slice a0 len cap) ls := by
  obtain ⟨fuel, hf⟩ := h
  rcases open_slice_pairs Try.underlying45 Try.underlying52 Try.cells52 rfl rfl Try.cells3 Try.cells3 hf with ⟨hcs, _⟩ | ⟨a, len', cap', m, n, V0, V1, D0, D1, P0, P1, hcs, _, hl, hm, hmm, _, hx⟩
  · simp [Value.cells] at hcs
    obtain ⟨rfl, rfl, rfl⟩ := hcs
    exact ⟨[], rfl, none, 0, rfl, by decide, fun i hi => by simp at hi⟩
  · simp [Value.cells] at hcs
    obtain ⟨rfl, rfl, rfl⟩ := hcs
    have hlm : len ≤ m := by rw [hmm]; split <;> omega
    have each : ∀ i, i < len → ∃ q : Int × Int, W.cell? (a.add (i * 2)) = some (.int .i64 q.1) ∧ W.cell? (a.add (i * 2 + 1)) = some (.int .i64 q.2) ∧ -9223372036854775808 ≤ q.2 ∧ q.2 ≤ 9223372036854775807 := fun i hi => by
      obtain ⟨h0, h1, t0, t1⟩ := hx i (by omega)
      obtain ⟨x, e0, _, _⟩ := DataW.trod_int Try.underlying3 t0
      obtain ⟨y, e1, _, w1⟩ := DataW.trod_int Try.underlying3 t1
      injection e0 with e0
      injection e1 with e1
      rw [e0] at h0
      rw [e1] at h1
      simp only [Lit.wf, Bool.and_eq_true, decide_eq_true_eq] at w1
      exact ⟨(x, y), h0, h1, w1⟩
    refine ⟨(List.range len).map fun i => if h : i < len then (each i h).choose else (0, 0), by simp, some a, cap, by simp, by simp only [List.length_map, List.length_range]; unfold maxLen at hm; omega, fun i hi => ?_⟩
    simp only [List.length_map, List.length_range] at hi
    obtain ⟨g0, g1, g2, g3⟩ := (each i hi).choose_spec
    obtain ⟨z0, _⟩ := (each 0 (by omega)).choose_spec
    obtain ⟨b, o, spot⟩ := a
    have hsp : spot = none := by
      have h2 := World.cell?_spot z0
      unfold Addr.add at h2
      rw [if_pos (by omega)] at h2
      exact h2
    subst hsp
    have at0 : ∀ (x : Option Value) (k : Nat), W.cell? ((⟨b, o, none⟩ : Addr).add k) = x → W.cell? ⟨b, o + k, none⟩ = x := fun x k h => by
      rw [add_lit0] at h
      exact h
    exact ⟨b, o, _, _, rfl, by rw [List.getElem?_map, List.getElem?_range hi, Option.map_some, dif_pos hi], at0 _ _ g0, at0 _ _ g1, g2, g3⟩
end Go.Proofs.Ythcakinkioniaaa
