/- Calls of a bag that came in as arguments. -/
import Derived.Test.YtiiollgipfggmaaNNobT
import Derived.Test.YtiiollgipfggmaaNShort
namespace Go.Proofs.Ytiiollgipfggmaa
set_option linter.unusedVariables false
set_option linter.unusedSimpArgs false
open Go.RowKit Go.Deep Go.ChangeShapes

set_option maxRecDepth 200000 in
theorem msg_of_cells {H : Type} {enc : TypeId × Value → H} {W : World} {cs : List Value} {fuel : Nat} {x : DataW H × List MemPlace} (hcs : cs.length = 13)
    (h : DataW.trod enc Try.prog W 0 (fun _ => true) true fuel 26 cs = some x) : ∃ m ve vv vd, cs = msC m ve vv vd ∧ MsV W m ve vv vd := by
  obtain ⟨xs, n0, hd0, hd1, hd2, hxl, hx⟩ := DataW.trod_struct Try.underlying26 h
  obtain ⟨c0, c1, c2, c3, c4, c5, c6, c7, c8, c9, c10, c11, c12, rfl⟩ : ∃ c0 c1 c2 c3 c4 c5 c6 c7 c8 c9 c10 c11 c12, cs = [c0, c1, c2, c3, c4, c5, c6, c7, c8, c9, c10, c11, c12] := by
    rcases cs with _ | ⟨c0, _ | ⟨c1, _ | ⟨c2, _ | ⟨c3, _ | ⟨c4, _ | ⟨c5, _ | ⟨c6, _ | ⟨c7, _ | ⟨c8, _ | ⟨c9, _ | ⟨c10, _ | ⟨c11, _ | ⟨c12, _ | ⟨c13, r⟩⟩⟩⟩⟩⟩⟩⟩⟩⟩⟩⟩⟩⟩
    all_goals first | (exfalso; simp at hcs; done) | exact ⟨_, _, _, _, _, _, _, _, _, _, _, _, _, rfl⟩
  obtain ⟨y0, y1, y2, y3, y4, y5, y6, y7, y8, y9, y10, y11, y12, rfl⟩ : ∃ y0 y1 y2 y3 y4 y5 y6 y7 y8 y9 y10 y11 y12, xs = [y0, y1, y2, y3, y4, y5, y6, y7, y8, y9, y10, y11, y12] := by
    rcases xs with _ | ⟨y0, _ | ⟨y1, _ | ⟨y2, _ | ⟨y3, _ | ⟨y4, _ | ⟨y5, _ | ⟨y6, _ | ⟨y7, _ | ⟨y8, _ | ⟨y9, _ | ⟨y10, _ | ⟨y11, _ | ⟨y12, _ | ⟨y13, r⟩⟩⟩⟩⟩⟩⟩⟩⟩⟩⟩⟩⟩⟩
    all_goals first | (exfalso; simp at hxl; done) | exact ⟨_, _, _, _, _, _, _, _, _, _, _, _, _, rfl⟩
  have q0 : DataW.trod enc Try.prog W 0 (fun _ => true) true n0 3 (List.take (Try.prog.cellsOf 3) [c0, c1, c2, c3, c4, c5, c6, c7, c8, c9, c10, c11, c12]) = some y0 := hx 0 _ rfl
  rw [Try.cells3] at q0
  have q1 : DataW.trod enc Try.prog W 0 (fun _ => true) true n0 3 (List.take (Try.prog.cellsOf 3) [c1, c2, c3, c4, c5, c6, c7, c8, c9, c10, c11, c12]) = some y1 := hx 1 _ rfl
  rw [Try.cells3] at q1
  have q2 : DataW.trod enc Try.prog W 0 (fun _ => true) true n0 3 (List.take (Try.prog.cellsOf 3) [c2, c3, c4, c5, c6, c7, c8, c9, c10, c11, c12]) = some y2 := hx 2 _ rfl
  rw [Try.cells3] at q2
  have q3 : DataW.trod enc Try.prog W 0 (fun _ => true) true n0 3 (List.take (Try.prog.cellsOf 3) [c3, c4, c5, c6, c7, c8, c9, c10, c11, c12]) = some y3 := hx 3 _ rfl
  rw [Try.cells3] at q3
  have q4 : DataW.trod enc Try.prog W 0 (fun _ => true) true n0 3 (List.take (Try.prog.cellsOf 3) [c4, c5, c6, c7, c8, c9, c10, c11, c12]) = some y4 := hx 4 _ rfl
  rw [Try.cells3] at q4
  have q5 : DataW.trod enc Try.prog W 0 (fun _ => true) true n0 3 (List.take (Try.prog.cellsOf 3) [c5, c6, c7, c8, c9, c10, c11, c12]) = some y5 := hx 5 _ rfl
  rw [Try.cells3] at q5
  have q6 : DataW.trod enc Try.prog W 0 (fun _ => true) true n0 3 (List.take (Try.prog.cellsOf 3) [c6, c7, c8, c9, c10, c11, c12]) = some y6 := hx 6 _ rfl
  rw [Try.cells3] at q6
  have q7 : DataW.trod enc Try.prog W 0 (fun _ => true) true n0 3 (List.take (Try.prog.cellsOf 3) [c7, c8, c9, c10, c11, c12]) = some y7 := hx 7 _ rfl
  rw [Try.cells3] at q7
  have q8 : DataW.trod enc Try.prog W 0 (fun _ => true) true n0 4 (List.take (Try.prog.cellsOf 4) [c8, c9, c10, c11, c12]) = some y8 := hx 8 _ rfl
  rw [Try.cellsBo] at q8
  have q9 : DataW.trod enc Try.prog W 0 (fun _ => true) true n0 4 (List.take (Try.prog.cellsOf 4) [c9, c10, c11, c12]) = some y9 := hx 9 _ rfl
  rw [Try.cellsBo] at q9
  have q10 : DataW.trod enc Try.prog W 0 (fun _ => true) true n0 22 (List.take (Try.prog.cellsOf 22) [c10, c11, c12]) = some y10 := hx 10 _ rfl
  rw [Try.cellsSl] at q10
  have q11 : DataW.trod enc Try.prog W 0 (fun _ => true) true n0 23 (List.take (Try.prog.cellsOf 23) [c11, c12]) = some y11 := hx 11 _ rfl
  rw [Try.cellsIs] at q11
  have q12 : DataW.trod enc Try.prog W 0 (fun _ => true) true n0 24 (List.take (Try.prog.cellsOf 24) [c12]) = some y12 := hx 12 _ rfl
  rw [Try.cellsBy] at q12
  obtain ⟨a0, e0, -, w0⟩ := DataW.trod_int Try.underlying3 q0
  obtain ⟨a1, e1, -, w1⟩ := DataW.trod_int Try.underlying3 q1
  obtain ⟨a2, e2, -, w2⟩ := DataW.trod_int Try.underlying3 q2
  obtain ⟨a3, e3, -, w3⟩ := DataW.trod_int Try.underlying3 q3
  obtain ⟨a4, e4, -, w4⟩ := DataW.trod_int Try.underlying3 q4
  obtain ⟨a5, e5, -, w5⟩ := DataW.trod_int Try.underlying3 q5
  obtain ⟨a6, e6, -, w6⟩ := DataW.trod_int Try.underlying3 q6
  obtain ⟨a7, e7, -, w7⟩ := DataW.trod_int Try.underlying3 q7
  obtain ⟨a8, e8, -⟩ := DataW.trod_bool Try.underlying4 q8
  obtain ⟨a9, e9, -⟩ := DataW.trod_bool Try.underlying4 q9
  obtain ⟨pe, ne, ce, L, e10, hE, -⟩ := ens_of_trod q10
  obtain ⟨pv, nv, cv, lv, e11, hV⟩ := ns_of_cell q11
  obtain ⟨pd, nd, cd, ld, e12, hD⟩ := data_of_cell q12
  simp at e0 e1 e2 e3 e4 e5 e6 e7 e8 e9 e10
  subst e0 e1 e2 e3 e4 e5 e6 e7 e8 e9 e10 e11 e12
  refine ⟨⟨a0, a1, a2, a3, a4, a5, a6, a7, a8, a9, L, lv, ld⟩, .slice pe ne ce, .slice pv nv cv, .slice pd nd cd, ?_, hE, hV, hD, ?_⟩
  · rfl
  · intro x hx
    simp only [Ms.nums, List.mem_cons, List.not_mem_nil, or_false] at hx
    rcases hx with rfl | rfl | rfl | rfl | rfl | rfl | rfl | rfl
    · exact fits_wf w0
    · exact fits_wf w1
    · exact fits_wf w2
    · exact fits_wf w3
    · exact fits_wf w4
    · exact fits_wf w5
    · exact fits_wf w6
    · exact fits_wf w7

theorem msgs_of_trod {H : Type} {enc : TypeId × Value → H} {W : World} {cs : List Value} {fuel : Nat} {x : DataW H × List MemPlace}
    (h : DataW.trod enc Try.prog W 0 (fun _ => true) true fuel 28 cs = some x) : ∃ p n c L, cs = [.slice p n c] ∧ Mss W (.slice p n c) L := by
  rcases DataW.trod_slice Try.underlying28 h with ⟨hcs, hx0⟩ | ⟨a, len, cap, elems, rest, n, hx0, hcs, hd, hb0, hl, hm, hel, hx, -, -⟩
  · exact ⟨none, 0, 0, [], hcs, none, 0, rfl, Nat.le_refl _, by decide, fun k m hk => by simp at hk⟩
  · rw [Try.cellsMs] at hx
    rcases Nat.eq_zero_or_pos len with h0 | h0
    · subst h0
      exact ⟨some a, 0, cap, [], hcs, some a, cap, rfl, by simp, hm, fun k m hk => by simp at hk⟩
    have hsp : a.spot = none := by
      have h1 := hx 0 h0
      rw [List.getElem?_eq_getElem (by omega)] at h1
      obtain ⟨cs, h2, h3⟩ := Option.bind_eq_some_iff.1 h1
      obtain ⟨hb, hcl, hcell⟩ := World.cells?_some h2
      obtain ⟨m, ve, vv, vd, rfl, _⟩ := msg_of_cells hcl h3
      have z0 := World.cell?_spot (show W.cell? _ = some (.int .i64 m.k) from hcell 0 (by omega))
      simp [Addr.add] at z0
      exact z0
    obtain ⟨g, o, spot⟩ := a
    obtain rfl : spot = none := hsp
    have each : ∀ i, i < len → ∃ y : Ms × Value × Value × Value, MsV W y.1 y.2.1 y.2.2.1 y.2.2.2 ∧ ∀ (j : Nat) u, (msC y.1 y.2.1 y.2.2.1 y.2.2.2)[j]? = some u → W.cell? ⟨g, o + i * 13 + j, none⟩ = some u := fun i hi => by
      have h1 := hx i hi
      rw [List.getElem?_eq_getElem (by omega)] at h1
      obtain ⟨cs, h2, h3⟩ := Option.bind_eq_some_iff.1 h1
      obtain ⟨hb, hcl, hcell⟩ := World.cells?_some h2
      obtain ⟨m, ve, vv, vd, rfl, hv⟩ := msg_of_cells hcl h3
      refine ⟨(m, ve, vv, vd), hv, fun k u hk => ?_⟩
      have hk6 : k < 13 := (List.getElem?_eq_some_iff.1 hk).1
      have := hcell k hk6
      rw [add_lit0, add_lit0] at this
      rw [this]
      exact hk
    let pr : Nat → Ms × Value × Value × Value := fun i => if h : i < len then (each i h).choose else (ms0, .slice none 0 0, .slice none 0 0, .slice none 0 0)
    have hpr : ∀ i, (h : i < len) → pr i = (each i h).choose := fun i h => by simp only [pr, dif_pos h]
    refine ⟨some ⟨g, o, none⟩, len, cap, (List.range len).map fun i => (pr i).1, hcs, some ⟨g, o, none⟩, cap, by simp, by simpa using hl, hm, fun k m hk => ?_⟩
    have hlt : k < len := by
      have := (List.getElem?_eq_some_iff.1 hk).1
      simpa using this
    rw [List.getElem?_map, List.getElem?_range hlt, Option.map_some] at hk
    injection hk with hk
    subst hk
    have hs := (each k hlt).choose_spec
    rw [← hpr k hlt] at hs
    exact ⟨g, o, _, _, _, rfl, hs.1, hs.2⟩
theorem Try.cellsMl : Try.prog.cellsOf 28 = 1 := by kernel_rfl
theorem Try.cellsDo : Try.prog.cellsOf 52 = 3 := by kernel_rfl
set_option maxRecDepth 200000 in
theorem do_of_arg {H : Type} {enc : TypeId × Value → H} {W : World} {base : Nat} {v : Value} {d0 : DataW H} {p0 : List MemPlace} (hv : Value.okWide Try.prog W .any base 52 v)
    (h : DataW.Trod enc Try.prog W 0 (fun _ => true) true 52 v d0 p0) : ∃ a0 a1 p n c L, v = .agg #[.int .i64 a0, .int .i64 a1, .slice p n c] ∧ Mss W (.slice p n c) L := by
  unfold Value.okWide at hv
  rw [Try.underlying52] at hv
  obtain ⟨cs, rfl, hsz, _⟩ := hv
  obtain ⟨fuel, hf⟩ := h
  have hf' : DataW.trod enc Try.prog W 0 (fun _ => true) true fuel 52 cs.toList = some (d0, p0) := hf
  have hcs : cs.toList.length = 3 := by rw [Array.length_toList, hsz, Try.cellsDo]
  obtain ⟨xs, n0, hd0, hd1, hd2, hxl, hx⟩ := DataW.trod_struct Try.underlying52 hf'
  obtain ⟨l, hl⟩ : ∃ l, cs.toList = l := ⟨_, rfl⟩
  rw [hl] at hcs hx
  obtain ⟨c0, c1, c2, rfl⟩ : ∃ c0 c1 c2, l = [c0, c1, c2] := by
    rcases l with _ | ⟨c0, _ | ⟨c1, _ | ⟨c2, _ | ⟨c3, r⟩⟩⟩⟩
    all_goals first | (exfalso; simp at hcs; done) | exact ⟨_, _, _, rfl⟩
  obtain ⟨y0, y1, y2, rfl⟩ : ∃ y0 y1 y2, xs = [y0, y1, y2] := by
    rcases xs with _ | ⟨c0, _ | ⟨c1, _ | ⟨c2, _ | ⟨c3, r⟩⟩⟩⟩
    all_goals first | (exfalso; simp at hxl; done) | exact ⟨_, _, _, rfl⟩
  have q0 : DataW.trod enc Try.prog W 0 (fun _ => true) true n0 3 (List.take (Try.prog.cellsOf 3) [c0, c1, c2]) = some y0 := hx 0 _ rfl
  rw [Try.cells3] at q0
  have q1 : DataW.trod enc Try.prog W 0 (fun _ => true) true n0 3 (List.take (Try.prog.cellsOf 3) [c1, c2]) = some y1 := hx 1 _ rfl
  rw [Try.cells3] at q1
  have q2 : DataW.trod enc Try.prog W 0 (fun _ => true) true n0 28 (List.take (Try.prog.cellsOf 28) [c2]) = some y2 := hx 2 _ rfl
  rw [Try.cellsMl] at q2
  obtain ⟨a0, e0, -, w0⟩ := DataW.trod_int Try.underlying3 q0
  obtain ⟨a1, e1, -, w1⟩ := DataW.trod_int Try.underlying3 q1
  obtain ⟨p, n, c, L, eL, hE⟩ := msgs_of_trod q2
  simp at e0 e1 eL
  subst e0 e1 eL
  refine ⟨a0, a1, p, n, c, L, ?_, hE⟩
  congr 1
  exact Array.toList_inj.1 (by rw [hl])
end Go.Proofs.Ytiiollgipfggmaa
