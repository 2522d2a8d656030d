/- Calls of a bag that came in as an argument. -/
import Derived.Test.YtiiollgipfggmaaNArg2
import Derived.Test.YtiiollgipfggmaaNShortS
namespace Go.Proofs.Ytiiollgipfggmaa
set_option linter.unusedVariables false
set_option linter.unusedSimpArgs false
open Go.RowKit Go.Deep Go.ChangeShapes

instance : Inhabited Dn := ⟨⟨0, 0, none, 0, 0, []⟩⟩
theorem dnC_length (d : Dn) : (dnC d).length = 3 := rfl
set_option maxRecDepth 200000 in
theorem dn_of_cells {H : Type} {enc : TypeId × Value → H} {W : World} {cs : List Value} {fuel : Nat} {x : DataW H × List MemPlace} (hcs : cs.length = 3)
    (h : DataW.trod enc Try.prog W 0 (fun _ => true) true fuel 52 cs = some x) : ∃ d : Dn, cs = dnC d ∧ Mss W (.slice d.p d.n d.c) d.L := by
  obtain ⟨xs, n0, hd0, hd1, hd2, hxl, hx⟩ := DataW.trod_struct Try.underlying52 h
  obtain ⟨c0, c1, c2, rfl⟩ : ∃ c0 c1 c2, cs = [c0, c1, c2] := by
    rcases cs with _ | ⟨c0, _ | ⟨c1, _ | ⟨c2, _ | ⟨c3, r⟩⟩⟩⟩
    all_goals first | (exfalso; simp at hcs; done) | exact ⟨_, _, _, rfl⟩
  obtain ⟨y0, y1, y2, rfl⟩ : ∃ y0 y1 y2, xs = [y0, y1, y2] := by
    rcases xs with _ | ⟨c0, _ | ⟨c1, _ | ⟨c2, _ | ⟨c3, r⟩⟩⟩⟩
    all_goals first | (exfalso; simp at hxl; done) | exact ⟨_, _, _, rfl⟩
  have q0 : DataW.trod enc Try.prog W 0 (fun _ => true) true n0 3 (List.take (Try.prog.cellsOf 3) [c0, c1, c2]) = some y0 := hx 0 _ rfl
  rw [Try.cells3] at q0
  have q1 : DataW.trod enc Try.prog W 0 (fun _ => true) true n0 3 (List.take (Try.prog.cellsOf 3) [c1, c2]) = some y1 := hx 1 _ rfl
  rw [Try.cells3] at q1
  have q2 : DataW.trod enc Try.prog W 0 (fun _ => true) true n0 28 (List.take (Try.prog.cellsOf 28) [c2]) = some y2 := hx 2 _ rfl
  rw [Try.cellsMl] at q2
  obtain ⟨a0, e0, -, w0⟩ := DataW.trod_int Try.underlying3 q0
  obtain ⟨a1, e1, -, w1⟩ := DataW.trod_int Try.underlying3 q1
  obtain ⟨p, n, c, L, eL, hE⟩ := msgs_of_trod q2
  simp at e0 e1 eL
  subst e0 e1 eL
  exact ⟨⟨a0, a1, p, n, c, L⟩, rfl, hE⟩
set_option maxRecDepth 200000 in
theorem dns_of_arg {H : Type} {enc : TypeId × Value → H} {W : World} {a0 : Option Addr} {len cap : Nat} {d0 : DataW H} {p0 : List MemPlace}
    (h : DataW.Trod enc Try.prog W 0 (fun _ => true) true 44 (.slice a0 len cap) d0 p0) : ∃ D : List Dn, D.length = len ∧ Dns W (.slice a0 len cap) D := by
  obtain ⟨fuel, hf⟩ := h
  rcases DataW.trod_slice Try.underlying44 hf with ⟨hcs, _⟩ | ⟨a, len', cap', elems, rest, n, hx0, hcs, hd, -, hl, hm, hel, hx, -, -⟩
  · simp [Value.cells] at hcs
    obtain ⟨rfl, rfl, rfl⟩ := hcs
    exact ⟨[], rfl, none, 0, rfl, Nat.le_refl _, by simp [maxLen], fun i d hd => by simp at hd⟩
  · simp [Value.cells] at hcs
    obtain ⟨rfl, rfl, rfl⟩ := hcs
    rw [Try.cellsDo] at hx
    have each0 : ∀ i, (hi : i < len) → ∃ d : Dn, (∀ k, k < 3 → W.cell? ((a.add (i * 3)).add k) = (dnC d)[k]?) ∧ Mss W (.slice d.p d.n d.c) d.L := fun i hi => by
      have h1 := hx i hi
      rw [List.getElem?_eq_getElem (by omega)] at h1
      obtain ⟨cs, h2, h3⟩ := Option.bind_eq_some_iff.1 h1
      obtain ⟨hb, hcl, hcell⟩ := World.cells?_some h2
      obtain ⟨d, rfl, hw⟩ := dn_of_cells hcl h3
      exact ⟨d, fun k hk => hcell k hk, hw⟩
    rcases Nat.eq_zero_or_pos len with h0 | h0
    · subst h0
      exact ⟨[], rfl, some a, cap, rfl, hl, hm, fun i d hd => by simp at hd⟩
    have hsp : a.spot = none := by
      obtain ⟨d, hc, _⟩ := each0 0 h0
      have z0 := World.cell?_spot (show W.cell? _ = some (.int .i64 d.op) from hc 0 (by omega))
      simp [Addr.add] at z0
      exact z0
    obtain ⟨g, o, spot⟩ := a
    obtain rfl : spot = none := hsp
    have each : ∀ i, i < len → ∃ d : Dn, (∀ k u, (dnC d)[k]? = some u → W.cell? ⟨g, o + i * 3 + k, none⟩ = some u) ∧ Mss W (.slice d.p d.n d.c) d.L := fun i hi => by
      obtain ⟨d, hc, h2⟩ := each0 i hi
      refine ⟨d, fun k u hk => ?_, h2⟩
      have hk4 : k < 3 := by
        have := (List.getElem?_eq_some_iff.1 hk).1
        rwa [dnC_length] at this
      have := hc k hk4
      rw [add_lit0, add_lit0] at this
      rw [this]
      exact hk
    refine ⟨(List.range len).map fun i => if h : i < len then (each i h).choose else default, by simp, some ⟨g, o, none⟩, cap, by simp, by simpa using hl, hm, fun i d hi => ?_⟩
    have hlt : i < len := by
      have := (List.getElem?_eq_some_iff.1 hi).1
      simpa using this
    rw [List.getElem?_map, List.getElem?_range hlt, Option.map_some, dif_pos hlt] at hi
    injection hi with hi
    subst hi
    exact ⟨g, o, rfl, (each i hlt).choose_spec.2, (each i hlt).choose_spec.1⟩
end Go.Proofs.Ytiiollgipfggmaa
