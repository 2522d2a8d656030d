/- How long the bytes of a piece can be: its weight. -/
import Derived.Test.YtgbdjcekpdfpjaaGreatDoorVh
import Derived.SizedLaws
namespace Go.Proofs.YtgbdjcekpdfpjaaGreatDoor
set_option linter.unusedVariables false
set_option linter.unusedSimpArgs false
open Go.RowKit

theorem vweightsAll_mem {H : Type} {P : Program} {e : TypeId} : ∀ {l : List (DataW H)} {d : DataW H}, d ∈ l → ∀ n ∈ d.weights P e, n ∈ DataW.weightsAll P e l
  | d' :: r, d, hd, n, hn => by
    simp only [DataW.weightsAll, List.mem_append]
    rcases List.mem_cons.1 hd with rfl | h
    · exact Or.inl hn
    · exact Or.inr (vweightsAll_mem h n hn)
theorem by_size {H : Type} {enc : TypeId × Value → H} {W : World} {fuel : Nat} {p : Option Addr} {n c : Nat} {x : DataW H × List MemPlace}
    (h : DataW.trod enc Tryz.prog W 0 (fun _ => true) true fuel 40 [.slice p n c] = some x) (hz : ∀ m ∈ x.1.weights Tryz.prog 40, m ≤ reachBytes) : n ≤ 140737488351232 := by
  have hbz : 1 ≤ Tryz.prog.bytesOf 5 := by decide +kernel
  rcases DataW.trod_slice Tryz.underlying40 h with ⟨hcs, _⟩ | ⟨a, len', cap', elems, rest, n1, hx0, hcs, hd, -, hl, hm, hel, hx, -, -⟩
  · injection hcs with hcs
    injection hcs with _ hcs _
    omega
  · injection hcs with hcs
    injection hcs with _ hcs _
    subst hd
    have := hz ((elems.length + rest.length) * Tryz.prog.bytesOf 5) (by simp only [DataW.weights, Tryz.underlying40, List.mem_cons, List.length_map]; exact .inl trivial)
    unfold reachBytes at this
    have h2 : elems.length + rest.length ≤ (elems.length + rest.length) * Tryz.prog.bytesOf 5 := Nat.le_mul_of_pos_right _ (by omega)
    omega
set_option maxRecDepth 200000 in
theorem pt_size {H : Type} {enc : TypeId × Value → H} {W : World} {cs : List Value} {fuel : Nat} {x : DataW H × List MemPlace} (hcs : cs.length = 5)
    (h : DataW.trod enc Tryz.prog W 0 (fun _ => true) true fuel 79 cs = some x) (hz : ∀ m ∈ x.1.weights Tryz.prog 79, m ≤ reachBytes) {p : Option Addr} {n c : Nat} (h3 : cs[3]? = some (.slice p n c)) : n ≤ 140737488351232 := by
  obtain ⟨xs, n0, -, hd1, -, hxl, hx⟩ := DataW.trod_struct Tryz.underlying79 h
  obtain ⟨c0, c1, c2, c3, c4, rfl⟩ : ∃ c0 c1 c2 c3 c4, cs = [c0, c1, c2, c3, c4] := by
    rcases cs with _ | ⟨c0, _ | ⟨c1, _ | ⟨c2, _ | ⟨c3, _ | ⟨c4, _ | ⟨c5, r⟩⟩⟩⟩⟩⟩
    all_goals first | (exfalso; simp at hcs; done) | exact ⟨_, _, _, _, _, rfl⟩
  obtain ⟨y0, y1, y2, y3, y4, rfl⟩ : ∃ y0 y1 y2 y3 y4, xs = [y0, y1, y2, y3, y4] := by
    rcases xs with _ | ⟨c0, _ | ⟨c1, _ | ⟨c2, _ | ⟨c3, _ | ⟨c4, _ | ⟨c5, r⟩⟩⟩⟩⟩⟩
    all_goals first | (exfalso; simp at hxl; done) | exact ⟨_, _, _, _, _, rfl⟩
  have q3 : DataW.trod enc Tryz.prog W 0 (fun _ => true) true n0 40 (List.take (Tryz.prog.cellsOf 40) [c3, c4]) = some y3 := hx 3 _ rfl
  rw [Tryz.cellsBys] at q3
  obtain rfl : c3 = .slice p n c := by simpa using h3
  refine by_size (show DataW.trod enc Tryz.prog W 0 (fun _ => true) true n0 40 [.slice p n c] = _ from q3) fun m hm => hz m ?_
  subst hd1
  simp only [DataW.weights, Tryz.underlying79]
  exact DataW.weights_mem_each (j := 3) (t := 40) (by rfl) (by rfl) m hm
theorem pts_size {H : Type} {enc : TypeId × Value → H} {W : World} {v : Value} {d0 : DataW H} {p0 : List MemPlace} {D : List Dpt} (hD : Dpts W v D)
    (h : DataW.Trod enc Tryz.prog W 0 (fun _ => true) true 77 v d0 p0) (hz : ∀ m ∈ d0.weights Tryz.prog 77, m ≤ reachBytes) : ∀ (k : Nat) d, D[k]? = some d → d.b.length ≤ 140737488351232 := by
  obtain ⟨p, c, rfl, h1, h2, h3⟩ := hD
  obtain ⟨fuel, hf⟩ := h
  intro k d hk
  have hkl := (List.getElem?_eq_some_iff.1 hk).1
  rcases DataW.trod_slice Tryz.underlying77 hf with ⟨hcs, _⟩ | ⟨a, len', cap', elems, rest, n, hx0, hcs, hd, -, hl, hm, hel, hx, -, -⟩
  · simp only [Value.cells, List.cons.injEq, Value.slice.injEq] at hcs
    omega
  · simp only [Value.cells, List.cons.injEq, Value.slice.injEq] at hcs
    obtain ⟨⟨rfl, rfl, rfl⟩, -⟩ := hcs
    rw [Tryz.cellsPt] at hx
    have g1 := hx k hkl
    rw [List.getElem?_eq_getElem (by omega)] at g1
    obtain ⟨cs, g2, g3⟩ := Option.bind_eq_some_iff.1 g1
    obtain ⟨hb, hcl, hcell⟩ := World.cells?_some g2
    obtain ⟨g, o, e, hin, hc⟩ := h3 k d hk
    injection e with e
    subst e
    have h4 := hcell 3 (by omega)
    rw [add_lit0, add_lit0, hc 3 _ rfl] at h4
    have := pt_size hcl g3 (fun m hm => hz m (by
      have he : d0 = .slice (elems.map (·.1)) (rest.map (·.1)) := (Prod.ext_iff.1 hd).1
      rw [he]
      simp only [DataW.weights, Tryz.underlying77, List.mem_cons, List.mem_append]
      exact .inr (.inl (vweightsAll_mem (List.mem_map.2 ⟨elems[k]'(by omega), List.getElem_mem _, rfl⟩) m hm)))) h4.symm
    have hb' := hin.h3.len.1
    omega
end Go.Proofs.YtgbdjcekpdfpjaaGreatDoor
