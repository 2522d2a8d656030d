/- A slice of byte slices that came in as an argument, read as lists of bytes. -/
import Derived.Test.YthcakinkioniaaaCat
import Derived.Deep.Matrix
import Derived.SizedLaws
import Derived.ProofKit
import Derived.OpenShut
import Derived.ChangeOld
namespace Go.Proofs.Ythcakinkioniaaa
open Go.RowKit Go.Deep

theorem Try.cells22 : Try.prog.cellsOf 22 = 1 := by kernel_rfl
theorem Try.cells5 : Try.prog.cellsOf 5 = 1 := by kernel_rfl
theorem Try.bytes5 : Try.prog.bytesOf 5 = 1 := by kernel_rfl

theorem weightsAll_mem {H : Type} {P : Program} {e : TypeId} : ∀ {l : List (DataW H)} {d : DataW H}, d ∈ l → ∀ n ∈ d.weights P e, n ∈ DataW.weightsAll P e l
  | d0 :: r, d, hd, n, hn => by
    rw [DataW.weightsAll, List.mem_append]
    rcases List.mem_cons.1 hd with rfl | h
    · exact .inl hn
    · exact .inr (weightsAll_mem h n hn)
  | [], _, hd, _, _ => by cases hd

theorem bss_of_arg {H : Type} {enc : TypeId × Value → H} {W : World} {a0 : Option Addr} {len cap : Nat} {d0 : DataW H} {p0 : List MemPlace}
    (h : DataW.Trod enc Try.prog W 0 (fun _ => true) true 30 (.slice a0 len cap) d0 p0) (hz : ∀ n ∈ d0.weights Try.prog 30, n ≤ reachBytes) :
    ∃ ls : List (List UInt8), ls.length = len ∧ Bss W (.slice a0 len cap) ls ∧ ∀ l ∈ ls, l.length ≤ 140737488351232 := by
  obtain ⟨fuel, hf⟩ := h
  rcases open_int_rows Try.underlying30 Try.underlying22 Try.underlying5 Try.cells22 Try.cells5 hf with ⟨hcs, _⟩ | ⟨a, len', cap', A, L, C, Z, hcs, _, hl, hm, hx, hr⟩
  · simp [Value.cells] at hcs
    obtain ⟨rfl, rfl, rfl⟩ := hcs
    exact ⟨[], rfl, Bss.nil W, fun l hl => by cases hl⟩
  · simp [Value.cells] at hcs
    obtain ⟨rfl, rfl, rfl⟩ := hcs
    simp only [Prod.mk.injEq] at hx
    obtain ⟨rfl, rfl⟩ := hx
    have each : ∀ r, r < len → ∃ l : List UInt8, By W (.slice (A r) (L r) (C r)) l ∧ l.length ≤ 140737488351232 := fun r hr' => by
      obtain ⟨hcell, hLC, hCm, hZ, hwf, hnone, hsome⟩ := hr r (by omega)
      have row : (A r = none ∧ L r = 0 ∧ C r = 0 ∧ Z r = []) ∨ ∃ x, A r = some x ∧ L r ≤ C r ∧ C r ≤ maxLen ∧ (Z r).length = C r ∧ (∀ i, i < (Z r).length → W.cell? (x.add i) = some (.int .u8 ((Z r).getD i 0))) ∧ ∀ n ∈ Z r, (Lit.int .u8 n).wf = true := by
        rcases hA : A r with _ | x
        · have := hnone hA
          exact .inl ⟨rfl, by omega, this, List.eq_nil_of_length_eq_zero (by omega)⟩
        · exact .inr ⟨x, rfl, hLC, hCm, hZ, fun i hi => (hsome x hA).2 i (by omega), hwf⟩
      obtain ⟨l, hll, hb⟩ := by_of_row row
      refine ⟨l, hb, ?_⟩
      rw [hll]
      rcases hA : A r with _ | x
      · have := hnone hA
        omega
      · have hin : ((L r + (C r - L r)) * 1) ∈ (DataW.slice (H := H) ((List.range len).map fun r => intRow .u8 (A r) (L r) (Z r)) ((List.range (cap - len)).map fun j => intRow .u8 (A (len + j)) (L (len + j)) (Z (len + j)))).weights Try.prog 30 := by
          simp only [DataW.weights, Try.underlying30, List.mem_cons, List.mem_append]
          refine .inr (.inl (weightsAll_mem (d := intRow .u8 (A r) (L r) (Z r)) (List.mem_map.2 ⟨r, List.mem_range.2 hr', rfl⟩) _ ?_))
          unfold intRow
          rw [hA]
          simp only [DataW.weights, Try.underlying22, List.mem_cons, Try.bytes5, ChangeShapes.lits, List.length_map, List.length_take, List.length_drop]
          exact .inl (by omega)
        have := hz _ hin
        unfold reachBytes at this
        omega
    refine ⟨(List.range len).map fun r => if h : r < len then (each r h).choose else [], by simp, ?_, ?_⟩
    · refine ⟨some a, cap, by simp, by simpa using hl, hm, (fun e => by cases e), fun b e i l hi => ?_⟩
      injection e with e
      subst e
      have hil : i < len := by have := (List.getElem?_eq_some_iff.1 hi).1; simpa using this
      simp only [List.getElem?_map, List.getElem?_range hil, Option.map_some, Option.some.injEq, dif_pos hil] at hi
      subst hi
      exact ⟨_, (hr i (by omega)).1, (each i hil).choose_spec.1⟩
    · intro l hl'
      obtain ⟨r, hr', rfl⟩ := List.mem_map.1 hl'
      have hrl := List.mem_range.1 hr'
      simp only [dif_pos hrl]
      exact (each r hrl).choose_spec.2

open Go.ChangeShapes in
theorem by_of_arg {H : Type} {enc : TypeId × Value → H} {W : World} {a0 : Option Addr} {len cap : Nat} {d0 : DataW H} {p0 : List MemPlace}
    (h : DataW.Trod enc Try.prog W 0 (fun _ => true) true 22 (.slice a0 len cap) d0 p0) : ∃ l : List UInt8, l.length = len ∧ By W (.slice a0 len cap) l := by
  obtain ⟨fuel, hf⟩ := h
  rcases open_ints Try.underlying22 Try.underlying5 Try.cells5 hf with ⟨hcs, _⟩ | ⟨x, l, c, zs, hcs, _, hl, hm, hz, _, hcell, hwz⟩
  · simp [Value.cells] at hcs
    obtain ⟨rfl, rfl, rfl⟩ := hcs
    exact by_of_row (zs := []) (.inl ⟨rfl, rfl, rfl, rfl⟩)
  · simp [Value.cells] at hcs
    obtain ⟨rfl, rfl, rfl⟩ := hcs
    exact by_of_row (.inr ⟨_, rfl, hl, hm, by simpa using hz, hcell, hwz⟩)
end Go.Proofs.Ythcakinkioniaaa
