import Derived.Test.YtionbmlicmibgaaGreatDoorS2
import Derived.Deep.Matrix
import Derived.Deep.Fields
import Derived.ChangeOld
import Derived.OpenShut
namespace Go.Proofs.YtionbmlicmibgaaGreatDoor
set_option linter.unusedVariables false
set_option linter.unusedSimpArgs false
open Go.RowKit Go.Deep Go.ChangeShapes
theorem Tryz.cells5 : Tryz.prog.cellsOf 5 = 1 := by kernel_rfl
theorem Tryz.cells3 : Tryz.prog.cellsOf 3 = 1 := by kernel_rfl
theorem Tryz.cells9 : Tryz.prog.cellsOf 9 = 1 := by kernel_rfl
theorem Tryz.cellsSp : Tryz.prog.cellsOf 30 = 6 := by kernel_rfl
theorem by_of_arg {H : Type} {enc : TypeId × Value → H} {W : World} {a0 : Option Addr} {len cap : Nat} {d0 : DataW H} {p0 : List MemPlace}
  (h : DataW.Trod enc Tryz.prog W 0 (fun _ => true) true 32 (.slice a0 len cap) d0 p0) : ∃ l : List UInt8, l.length = len ∧ By W (.slice a0 len cap) l := by
 obtain ⟨fuel, hf⟩ := h
 rcases open_ints Tryz.underlying32 Tryz.underlying5 Tryz.cells5 hf with ⟨hcs, _⟩ | ⟨x, l, c, zs, hcs, _, hl, hm, hz, _, hcell, hwz⟩
 ·simp [Value.cells] at hcs
  obtain ⟨rfl, rfl, rfl⟩ := hcs
  exact by_of_row (zs := []) (.inl ⟨rfl, rfl, rfl, rfl⟩)
 ·simp [Value.cells] at hcs
  obtain ⟨rfl, rfl, rfl⟩ := hcs
  exact by_of_row (.inr ⟨_, rfl, hl, hm, by simpa using hz, hcell, hwz⟩)
set_option maxRecDepth 200000 in
theorem sp_of_cells {H : Type} {enc : TypeId × Value → H} {W : World} {cs : List Value} {fuel : Nat} {x : DataW H × List MemPlace} (hcs : cs.length = 6)
  (h : DataW.trod enc Tryz.prog W 0 (fun _ => true) true fuel 30 cs = some x) : ∃ y : Sp, cs = spC y ∧ y.n.size ≤ maxLen ∧ (Lit.int .i64 y.t).wf = true ∧ (Lit.int .i64 y.i).wf = true ∧ (Lit.int .i64 y.p).wf = true ∧ (Lit.int .i64 y.s).wf = true ∧ (Lit.int .i64 y.e).wf = true := by
 obtain ⟨xs, n0, -, -, -, hxl, hx⟩ := DataW.trod_struct Tryz.underlying30 h
 obtain ⟨c0, c1, c2, c3, c4, c5, rfl⟩ : ∃ c0 c1 c2 c3 c4 c5, cs = [c0, c1, c2, c3, c4, c5] := by
  rcases cs with _ | ⟨c0, _ | ⟨c1, _ | ⟨c2, _ | ⟨c3, _ | ⟨c4, _ | ⟨c5, _ | ⟨c6, r⟩⟩⟩⟩⟩⟩⟩
  all_goals first | (exfalso; simp at hcs; done) | exact ⟨_, _, _, _, _, _, rfl⟩
 obtain ⟨y0, y1, y2, y3, y4, y5, rfl⟩ : ∃ y0 y1 y2 y3 y4 y5, xs = [y0, y1, y2, y3, y4, y5] := by
  rcases xs with _ | ⟨c0, _ | ⟨c1, _ | ⟨c2, _ | ⟨c3, _ | ⟨c4, _ | ⟨c5, _ | ⟨c6, r⟩⟩⟩⟩⟩⟩⟩
  all_goals first | (exfalso; simp at hxl; done) | exact ⟨_, _, _, _, _, _, rfl⟩
 have q0 : DataW.trod enc Tryz.prog W 0 (fun _ => true) true n0 3 (List.take (Tryz.prog.cellsOf 3) [c0, c1, c2, c3, c4, c5]) = some y0 := hx 0 _ rfl
 rw [Tryz.cells3] at q0
 have q1 : DataW.trod enc Tryz.prog W 0 (fun _ => true) true n0 3 (List.take (Tryz.prog.cellsOf 3) [c1, c2, c3, c4, c5]) = some y1 := hx 1 _ rfl
 rw [Tryz.cells3] at q1
 have q2 : DataW.trod enc Tryz.prog W 0 (fun _ => true) true n0 3 (List.take (Tryz.prog.cellsOf 3) [c2, c3, c4, c5]) = some y2 := hx 2 _ rfl
 rw [Tryz.cells3] at q2
 have q3 : DataW.trod enc Tryz.prog W 0 (fun _ => true) true n0 3 (List.take (Tryz.prog.cellsOf 3) [c3, c4, c5]) = some y3 := hx 3 _ rfl
 rw [Tryz.cells3] at q3
 have q4 : DataW.trod enc Tryz.prog W 0 (fun _ => true) true n0 3 (List.take (Tryz.prog.cellsOf 3) [c4, c5]) = some y4 := hx 4 _ rfl
 rw [Tryz.cells3] at q4
 have q5 : DataW.trod enc Tryz.prog W 0 (fun _ => true) true n0 9 (List.take (Tryz.prog.cellsOf 9) [c5]) = some y5 := hx 5 _ rfl
 rw [Tryz.cells9] at q5
 obtain ⟨t, e0, -, w0⟩ := DataW.trod_int Tryz.underlying3 q0
 obtain ⟨i, e1, -, w1⟩ := DataW.trod_int Tryz.underlying3 q1
 obtain ⟨p, e2, -, w2⟩ := DataW.trod_int Tryz.underlying3 q2
 obtain ⟨s, e3, -, w3⟩ := DataW.trod_int Tryz.underlying3 q3
 obtain ⟨e, e4, -, w4⟩ := DataW.trod_int Tryz.underlying3 q4
 obtain ⟨n, e5, -, w5⟩ := DataW.trod_string Tryz.underlying9 q5
 simp at e0 e1 e2 e3 e4 e5
 subst e0 e1 e2 e3 e4 e5
 exact ⟨⟨t, i, p, s, e, n⟩, rfl, w5, w0, w1, w2, w3, w4⟩
set_option maxRecDepth 200000 in
theorem sps_of_arg {H : Type} {enc : TypeId × Value → H} {W : World} {a0 : Option Addr} {len cap : Nat} {d0 : DataW H} {p0 : List MemPlace}
  (h : DataW.Trod enc Tryz.prog W 0 (fun _ => true) true 22 (.slice a0 len cap) d0 p0) : ∃ l : List Sp, Sps W (.slice a0 len cap) l ∧ ∀ y ∈ l, y.n.size ≤ maxLen := by
 obtain ⟨fuel, hf⟩ := h
 rcases DataW.trod_slice Tryz.underlying22 hf with ⟨hcs, _⟩ | ⟨a, len', cap', elems, rest, n, -, hcs, -, -, hl, hm, hel, hx, -, -⟩
 ·simp [Value.cells] at hcs
  obtain ⟨rfl, rfl, rfl⟩ := hcs
  exact ⟨[], Sps.nil W, fun y hy => by cases hy⟩
 ·simp [Value.cells] at hcs
  obtain ⟨rfl, rfl, rfl⟩ := hcs
  rw [Tryz.cellsSp] at hx
  rcases Nat.eq_zero_or_pos len with h0 | h0
  ·subst h0
   exact ⟨[], Sps.none_ W _ _ hm (fun e => by cases e), fun y hy => by cases hy⟩
  have hsp : a.spot = none := by
   have h1 := hx 0 h0
   rw [List.getElem?_eq_getElem (by omega)] at h1
   obtain ⟨cs, h2, h3⟩ := Option.bind_eq_some_iff.1 h1
   obtain ⟨hb, hcl, hcell⟩ := World.cells?_some h2
   obtain ⟨y, rfl, _⟩ := sp_of_cells hcl h3
   have z0 := World.cell?_spot (show W.cell? _ = some (.int .i64 y.t) from hcell 0 (by omega))
   simp [Addr.add] at z0
   exact z0
  obtain ⟨g, o, spot⟩ := a
  obtain rfl : spot = none := hsp
  have each : ∀ i, i < len → ∃ x : Sp, SpAt W g (o + i * 6) x ∧ x.n.size ≤ maxLen := fun i hi => by
   have h1 := hx i hi
   rw [List.getElem?_eq_getElem (by omega)] at h1
   obtain ⟨cs, h2, h3⟩ := Option.bind_eq_some_iff.1 h1
   obtain ⟨hb, hcl, hcell⟩ := World.cells?_some h2
   obtain ⟨y, rfl, hd, _⟩ := sp_of_cells hcl h3
   refine ⟨y, fun k u hk => ?_, hd⟩
   have hk6 : k < 6 := by
    have := (List.getElem?_eq_some_iff.1 hk).1
    rwa [spC_length] at this
   have := hcell k hk6
   rw [add_lit0, add_lit0] at this
   rw [this]
   exact hk
  refine ⟨(List.range len).map fun i => if h : i < len then (each i h).choose else default, ⟨_, cap, by simp, by simpa using hl, hm, (fun e => by cases e), fun _ => ⟨g, o, rfl, fun i x hi => ?_⟩⟩, fun y hy => ?_⟩
  ·have hlt : i < len := by
    have := (List.getElem?_eq_some_iff.1 hi).1
    simpa using this
   rw [List.getElem?_map, List.getElem?_range hlt, Option.map_some, dif_pos hlt] at hi
   injection hi with hi
   subst hi
   exact (each i hlt).choose_spec.1
  ·obtain ⟨i, hi, rfl⟩ := List.mem_map.1 hy
   have hlt : i < len := List.mem_range.1 hi
   rw [dif_pos hlt]
   exact (each i hlt).choose_spec.2
end Go.Proofs.YtionbmlicmibgaaGreatDoor
