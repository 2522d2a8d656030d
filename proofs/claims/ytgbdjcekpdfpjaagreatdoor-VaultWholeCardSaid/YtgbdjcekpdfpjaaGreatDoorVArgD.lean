/- How many voters a Do's state can have: its weight. -/
import Derived.Test.YtgbdjcekpdfpjaaGreatDoorVk
namespace Go.Proofs.YtgbdjcekpdfpjaaGreatDoor
set_option linter.unusedVariables false
set_option linter.unusedSimpArgs false
open Go.RowKit

theorem ns_size {H : Type} {enc : TypeId × Value → H} {W : World} {fuel : Nat} {p : Option Addr} {n c : Nat} {x : DataW H × List MemPlace}
    (h : DataW.trod enc Tryz.prog W 0 (fun _ => true) true fuel 39 [.slice p n c] = some x) (hz : ∀ m ∈ x.1.weights Tryz.prog 39, m ≤ reachBytes) : n * 8 ≤ 140737488351232 := by
  have hbz : 8 ≤ Tryz.prog.bytesOf 3 := by decide +kernel
  rcases DataW.trod_slice Tryz.underlying39 h with ⟨hcs, _⟩ | ⟨a, len', cap', elems, rest, n1, hx0, hcs, hd, -, hl, hm, hel, hx, -, -⟩
  · injection hcs with hcs
    injection hcs with _ hcs _
    omega
  · injection hcs with hcs
    injection hcs with _ hcs _
    subst hd
    have := hz ((elems.length + rest.length) * Tryz.prog.bytesOf 3) (by simp only [DataW.weights, Tryz.underlying39, List.mem_cons, List.length_map]; exact .inl trivial)
    unfold reachBytes at this
    have h2 : (elems.length + rest.length) * 8 ≤ (elems.length + rest.length) * Tryz.prog.bytesOf 3 := Nat.mul_le_mul_left _ hbz
    omega
set_option maxRecDepth 200000 in
theorem snv_size {H : Type} {enc : TypeId × Value → H} {W : World} {cs : List Value} {fuel : Nat} {x : DataW H × List MemPlace}
    (h : DataW.trod enc Tryz.prog W 0 (fun _ => true) true fuel 42 cs = some x) (hz : ∀ m ∈ x.1.weights Tryz.prog 42, m ≤ reachBytes) {p : Option Addr} {n c : Nat} {a b e : Value} (h3 : cs = [a, b, .slice p n c, e]) : n * 8 ≤ 140737488351232 := by
  subst h3
  obtain ⟨xs, n0, -, hd1, -, hxl, hx⟩ := DataW.trod_struct Tryz.underlying42 h
  obtain ⟨y0, y1, y2, y3, rfl⟩ : ∃ y0 y1 y2 y3, xs = [y0, y1, y2, y3] := by
    rcases xs with _ | ⟨c0, _ | ⟨c1, _ | ⟨c2, _ | ⟨c3, _ | ⟨c4, r⟩⟩⟩⟩⟩
    all_goals first | (exfalso; simp at hxl; done) | exact ⟨_, _, _, _, rfl⟩
  have q2 : DataW.trod enc Tryz.prog W 0 (fun _ => true) true n0 39 (List.take (Tryz.prog.cellsOf 39) [.slice p n c, e]) = some y2 := hx 2 _ rfl
  rw [Tryz.cellsIns] at q2
  refine ns_size (show DataW.trod enc Tryz.prog W 0 (fun _ => true) true n0 39 [.slice p n c] = _ from q2) fun m hm => hz m ?_
  subst hd1
  simp only [DataW.weights, Tryz.underlying42]
  exact DataW.weights_mem_each (j := 2) (t := 39) (by rfl) (by rfl) m hm
set_option maxRecDepth 200000 in
theorem do_size {H : Type} {enc : TypeId × Value → H} {W : World} {d : Ddo} {d0 : DataW H} {p0 : List MemPlace} (hn : d.nsv = d.sv.length)
    (h : DataW.Trod enc Tryz.prog W 0 (fun _ => true) true 44 (.agg (doC d).toArray) d0 p0) (hz : ∀ m ∈ d0.weights Tryz.prog 44, m ≤ reachBytes) : d.sv.length * 8 ≤ 140737488351232 := by
  obtain ⟨fuel, hf⟩ := h
  have hf' : DataW.trod enc Tryz.prog W 0 (fun _ => true) true fuel 44 (doC d) = some (d0, p0) := by
    have : (Value.agg (doC d).toArray).cells.toList = doC d := by simp [Value.cells]
    rw [← this]
    exact hf
  obtain ⟨xs, n0, -, hd1, -, hxl, hx⟩ := DataW.trod_struct Tryz.underlying44 hf'
  have hl6 : xs.length = 6 := by simpa using hxl
  obtain ⟨y0, y1, y2, y3, y4, y5, rfl⟩ : ∃ y0 y1 y2 y3 y4 y5, xs = [y0, y1, y2, y3, y4, y5] := by
    rcases xs with _ | ⟨c0, _ | ⟨c1, _ | ⟨c2, _ | ⟨c3, _ | ⟨c4, _ | ⟨c5, _ | ⟨c6, r⟩⟩⟩⟩⟩⟩⟩
    all_goals first | (exfalso; simp at hl6; done) | exact ⟨_, _, _, _, _, _, rfl⟩
  have q1 : DataW.trod enc Tryz.prog W 0 (fun _ => true) true n0 42 (List.take (Tryz.prog.cellsOf 42) (List.drop 1 (doC d))) = some y1 := hx 1 _ rfl
  rw [Tryz.cellsSn] at q1
  rw [← hn]
  refine snv_size q1 (fun m hm => hz m ?_) (a := .int .i64 d.six) (b := .int .i64 d.stm) (e := .slice d.psd d.nsd d.dsd) (p := d.psv) (c := d.dsv) (by rfl)
  have he : d0 = .agg ([y0, y1, y2, y3, y4, y5].map (·.1)) := (Prod.ext_iff.1 hd1).1
  rw [he]
  simp only [DataW.weights, Tryz.underlying44]
  exact DataW.weights_mem_each (j := 1) (t := 42) (by rfl) (by rfl) m hm
end Go.Proofs.YtgbdjcekpdfpjaaGreatDoor
