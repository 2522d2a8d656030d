/- How many voters a command may have that came in as an argument. -/
import Derived.Test.YtionbmlicmibgaaGreatDoorMcArg
import Derived.SizedLaws
namespace Go.Proofs.YtionbmlicmibgaaGreatDoor
set_option linter.unusedVariables false
set_option linter.unusedSimpArgs false
open Go.RowKit Go.Deep Go.ChangeShapes

theorem Tryz.bytes3 : Tryz.prog.bytesOf 3 = 8 := by kernel_rfl
theorem ints_size {H : Type} {enc : TypeId × Value → H} {W : World} {p : Option Addr} {n c : Nat} {fuel : Nat} {x : DataW H × List MemPlace} (h : DataW.trod enc Tryz.prog W 0 (fun _ => true) true fuel 23 [.slice p n c] = some x) (hz : ∀ m ∈ x.1.weights Tryz.prog 23, m ≤ reachBytes) : n * 8 ≤ 140737488351232 := by
 rcases DataW.trod_slice Tryz.underlying23 h with ⟨hcs, _⟩ | ⟨a, len, cap, elems, rest, n0, hx0, hcs, hd, hb0, hl, hm, hel, hx, -, -⟩
 ·simp at hcs
  obtain ⟨_, rfl, _⟩ := hcs
  omega
 ·simp at hcs
  obtain ⟨_, rfl, _⟩ := hcs
  rw [hd] at hz
  have := hz _ (by simp only [DataW.weights, Tryz.underlying23, List.mem_cons]; exact .inl rfl)
  rw [Tryz.bytes3, List.length_map] at this
  unfold reachBytes at this
  have h1 : n * 8 ≤ (elems.length + (rest.map fun x => x.fst).length) * 8 := Nat.mul_le_mul_right 8 (by omega)
  omega
set_option maxRecDepth 200000 in
theorem cm_size {H : Type} {enc : TypeId × Value → H} {W : World} {d0 : DataW H} {p0 : List MemPlace} {c0 c1 c2 c3 c4 : Value} {p : Option Addr} {n c : Nat}
  (h : DataW.Trod enc Tryz.prog W 0 (fun _ => true) true 25 (.agg #[c0, c1, c2, c3, c4, .slice p n c]) d0 p0) (hz : ∀ m ∈ d0.weights Tryz.prog 25, m ≤ reachBytes) : n * 8 ≤ 140737488351232 := by
 obtain ⟨fuel, hf⟩ := h
 have hf' : DataW.trod enc Tryz.prog W 0 (fun _ => true) true fuel 25 [c0, c1, c2, c3, c4, .slice p n c] = some (d0, p0) := hf
 obtain ⟨xs, n0, hd0, hd1, hd2, hxl, hx⟩ := DataW.trod_struct Tryz.underlying25 hf'
 obtain ⟨y0, y1, y2, y3, y4, y5, rfl⟩ : ∃ y0 y1 y2 y3 y4 y5, xs = [y0, y1, y2, y3, y4, y5] := by
  rcases xs with _ | ⟨c0, _ | ⟨c1, _ | ⟨c2, _ | ⟨c3, _ | ⟨c4, _ | ⟨c5, _ | ⟨c6, r⟩⟩⟩⟩⟩⟩⟩
  all_goals first | (exfalso; simp at hxl; done) | exact ⟨_, _, _, _, _, _, rfl⟩
 have q5 : DataW.trod enc Tryz.prog W 0 (fun _ => true) true n0 23 (List.take (Tryz.prog.cellsOf 23) [.slice p n c]) = some y5 := hx 5 _ rfl
 rw [Tryz.cellsIns] at q5
 refine ints_size q5 fun m hm => hz m ?_
 simp only [Prod.mk.injEq] at hd1
 rw [hd1.1]
 simp only [DataW.weights, Tryz.underlying25, List.map_cons, List.map_nil, DataW.weightsEach, List.mem_append]
 simp [hm]
end Go.Proofs.YtionbmlicmibgaaGreatDoor
