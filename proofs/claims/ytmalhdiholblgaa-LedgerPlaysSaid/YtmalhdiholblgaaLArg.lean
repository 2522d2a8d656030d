/- Entries, bases and calls that came in as arguments. -/
import Derived.Test.YtmalhdiholblgaaLMade
import Derived.Deep.Matrix
import Derived.Deep.Fields
import Derived.ChangeOld
import Derived.OpenShut
import Derived.SizedLaws
namespace Go.Proofs.Ytmalhdiholblgaa
set_option linter.unusedVariables false
set_option linter.unusedSimpArgs false
open Go.RowKit Go.Deep Go.ChangeShapes

theorem Try.cells5 : Try.prog.cellsOf 5 = 1 := by kernel_rfl
theorem Try.cells3 : Try.prog.cellsOf 3 = 1 := by kernel_rfl
theorem Try.cellsBy : Try.prog.cellsOf 46 = 1 := by kernel_rfl
theorem Try.cellsSl : Try.prog.cellsOf 22 = 1 := by kernel_rfl
theorem Try.cellsEn : Try.prog.cellsOf 48 = 3 := by kernel_rfl
theorem Try.cellsBa : Try.prog.cellsOf 24 = 3 := by kernel_rfl
theorem Try.cellsDo : Try.prog.cellsOf 34 = 4 := by kernel_rfl
theorem Try.bytesEn : Try.prog.bytesOf 48 = 40 := by kernel_rfl
theorem by_of_row {w : World} {a : Option Addr} {len cap : Nat} {zs : List Int}
    (h : (a = none ∧ len = 0 ∧ cap = 0 ∧ zs = []) ∨ ∃ x, a = some x ∧ len ≤ cap ∧ cap ≤ maxLen ∧ zs.length = cap ∧ (∀ i, i < zs.length → w.cell? (x.add i) = some (.int .u8 (zs.getD i 0))) ∧ ∀ n ∈ zs, (Lit.int .u8 n).wf = true) :
    ∃ l : List UInt8, l.length = len ∧ By w (.slice a len cap) l := by
  rcases h with ⟨rfl, rfl, rfl, rfl⟩ | ⟨x, rfl, hl, hm, hz, hc, hw⟩
  · exact ⟨[], rfl, By.nil w⟩
  · have hln : (Lib.bytesOf (zs.take len)).length = len := by simp [Lib.bytesOf]; omega
    refine ⟨Lib.bytesOf (zs.take len), hln, some x, cap, by rw [hln], by rw [hln]; exact hl, hm, (fun e => by cases e), fun b e i y hy => ?_⟩
    injection e with e
    subst e
    have hi : i < len := by rw [← hln]; exact (List.getElem?_eq_some_iff.1 hy).1
    rw [hc i (by omega)]
    have hiz : i < zs.length := by omega
    simp only [Lib.bytesOf, List.getElem?_map, List.getElem?_take, hi, if_true, List.getElem?_eq_getElem hiz, Option.map_some, Option.some.injEq] at hy
    have hwf := hw zs[i] (List.getElem_mem hiz)
    have h1 : IntKind.u8.min = 0 := rfl
    have h2 : IntKind.u8.max = 255 := rfl
    simp only [Lit.wf, Bool.and_eq_true, decide_eq_true_eq] at hwf
    simp only [List.getD, List.getElem?_eq_getElem hiz, Option.getD_some, Option.some.injEq, bv, Value.int.injEq, true_and]
    rw [← hy]
    simp
    omega
theorem data_of_cell {H : Type} {enc : TypeId × Value → H} {W : World} {c : Value} {fuel : Nat} {x : DataW H × List MemPlace} (h : DataW.trod enc Try.prog W 0 (fun _ => true) true fuel 46 [c] = some x) : ∃ p n cp d, c = .slice p n cp ∧ By W (.slice p n cp) d := by
  rcases open_ints Try.underlying46 Try.underlying5 Try.cells5 h with ⟨hcs, _⟩ | ⟨a, len, cap, zs, hcs, _, hl, hm, hz, _, hcell, hwz⟩
  · simp at hcs
    exact ⟨none, 0, 0, [], hcs, By.nil W⟩
  · simp at hcs
    obtain ⟨l, hll, hb⟩ := by_of_row (w := W) (a := some a) (len := len) (cap := cap) (zs := zs) (.inr ⟨_, rfl, hl, hm, by simpa using hz, hcell, hwz⟩)
    exact ⟨some a, len, cap, l, hcs, hb⟩
theorem fits_wf {x : Int} (h : (Lit.int .i64 x).wf = true) : fits x := by
  have h1 : IntKind.i64.min = -9223372036854775808 := rfl
  have h2 : IntKind.i64.max = 9223372036854775807 := rfl
  simp only [Lit.wf, Bool.and_eq_true, decide_eq_true_eq] at h
  unfold fits
  omega
set_option maxRecDepth 200000 in
theorem en_of_cells {H : Type} {enc : TypeId × Value → H} {W : World} {cs : List Value} {fuel : Nat} {x : DataW H × List MemPlace} (hcs : cs.length = 3)
    (h : DataW.trod enc Try.prog W 0 (fun _ => true) true fuel 48 cs = some x) : ∃ (y : Ec) (z : En), cs = ecC y ∧ y.i = z.i ∧ y.t = z.t ∧ By W (.slice y.p y.n y.c) z.d ∧ z.fits := by
  obtain ⟨xs, n0, -, -, -, hxl, hx⟩ := DataW.trod_struct Try.underlying48 h
  obtain ⟨c0, c1, c2, rfl⟩ : ∃ c0 c1 c2, cs = [c0, c1, c2] := by
    rcases cs with _ | ⟨c0, _ | ⟨c1, _ | ⟨c2, _ | ⟨c3, r⟩⟩⟩⟩
    all_goals first | (exfalso; simp at hcs; done) | exact ⟨_, _, _, rfl⟩
  obtain ⟨y0, y1, y2, rfl⟩ : ∃ y0 y1 y2, xs = [y0, y1, y2] := by
    rcases xs with _ | ⟨c0, _ | ⟨c1, _ | ⟨c2, _ | ⟨c3, r⟩⟩⟩⟩
    all_goals first | (exfalso; simp at hxl; done) | exact ⟨_, _, _, rfl⟩
  have q0 : DataW.trod enc Try.prog W 0 (fun _ => true) true n0 3 (List.take (Try.prog.cellsOf 3) [c0, c1, c2]) = some y0 := hx 0 _ rfl
  rw [Try.cells3] at q0
  have q1 : DataW.trod enc Try.prog W 0 (fun _ => true) true n0 3 (List.take (Try.prog.cellsOf 3) [c1, c2]) = some y1 := hx 1 _ rfl
  rw [Try.cells3] at q1
  have q2 : DataW.trod enc Try.prog W 0 (fun _ => true) true n0 46 (List.take (Try.prog.cellsOf 46) [c2]) = some y2 := hx 2 _ rfl
  rw [Try.cellsBy] at q2
  obtain ⟨i, e0, -, w0⟩ := DataW.trod_int Try.underlying3 q0
  obtain ⟨t, e1, -, w1⟩ := DataW.trod_int Try.underlying3 q1
  obtain ⟨p, n, cp, d, e2, hb⟩ := data_of_cell q2
  simp at e0 e1
  subst e0 e1 e2
  exact ⟨⟨i, t, p, n, cp⟩, ⟨i, t, d⟩, rfl, rfl, rfl, hb, fits_wf w0, fits_wf w1⟩
instance : Inhabited En := ⟨⟨0, 0, []⟩⟩
set_option maxRecDepth 200000 in
theorem ens_of_trod {H : Type} {enc : TypeId × Value → H} {W : World} {cs : List Value} {fuel : Nat} {x : DataW H × List MemPlace}
    (h : DataW.trod enc Try.prog W 0 (fun _ => true) true fuel 22 cs = some x) : ∃ p n c L, cs = [.slice p n c] ∧ Ens W (.slice p n c) L ∧ ((∀ m ∈ x.1.weights Try.prog 22, m ≤ reachBytes) → L.length * 40 ≤ 140737488351232) := by
  rcases DataW.trod_slice Try.underlying22 h with ⟨hcs, hx0⟩ | ⟨a, len, cap, elems, rest, n, hx0, hcs, hd, hb0, hl, hm, hel, hx, -, -⟩
  · exact ⟨none, 0, 0, [], hcs, Ens.nil W, fun _ => by simp⟩
  · rw [Try.cellsEn] at hx
    have hsize : (∀ m ∈ x.1.weights Try.prog 22, m ≤ reachBytes) → len * 40 ≤ 140737488351232 := fun hz => by
      rw [hd] at hz
      have := hz _ (by simp only [DataW.weights, Try.underlying22, List.mem_cons]; exact .inl rfl)
      rw [Try.bytesEn, List.length_map] at this
      unfold reachBytes at this
      have h1 : len * 40 ≤ (elems.length + (rest.map fun x => x.fst).length) * 40 := Nat.mul_le_mul_right 40 (by omega)
      omega
    rcases Nat.eq_zero_or_pos len with h0 | h0
    · subst h0
      exact ⟨some a, 0, cap, [], hcs, ⟨[], Ecs.none_ W _ _ hm (fun e => by cases e), Dat.nil W⟩, fun _ => by simp⟩
    have hsp : a.spot = none := by
      have h1 := hx 0 h0
      rw [List.getElem?_eq_getElem (by omega)] at h1
      obtain ⟨cs, h2, h3⟩ := Option.bind_eq_some_iff.1 h1
      obtain ⟨hb, hcl, hcell⟩ := World.cells?_some h2
      obtain ⟨y, z, rfl, _⟩ := en_of_cells hcl h3
      have z0 := World.cell?_spot (show W.cell? _ = some (.int .i64 y.i) from hcell 0 (by omega))
      simp [Addr.add] at z0
      exact z0
    obtain ⟨g, o, spot⟩ := a
    obtain rfl : spot = none := hsp
    have each : ∀ i, i < len → ∃ yz : Ec × En, EcAt W g (o + i * 3) yz.1 ∧ yz.1.i = yz.2.i ∧ yz.1.t = yz.2.t ∧ By W (.slice yz.1.p yz.1.n yz.1.c) yz.2.d ∧ yz.2.fits := fun i hi => by
      have h1 := hx i hi
      rw [List.getElem?_eq_getElem (by omega)] at h1
      obtain ⟨cs, h2, h3⟩ := Option.bind_eq_some_iff.1 h1
      obtain ⟨hb, hcl, hcell⟩ := World.cells?_some h2
      obtain ⟨y, z, rfl, hd⟩ := en_of_cells hcl h3
      refine ⟨(y, z), fun k u hk => ?_, hd⟩
      have hk6 : k < 3 := by
        have := (List.getElem?_eq_some_iff.1 hk).1
        rwa [ecC_length] at this
      have := hcell k hk6
      rw [add_lit0, add_lit0] at this
      rw [this]
      exact hk
    let pr : Nat → Ec × En := fun i => if h : i < len then (each i h).choose else (default, default)
    have hpr : ∀ i, (h : i < len) → pr i = (each i h).choose := fun i h => by simp only [pr, dif_pos h]
    have get1 : ∀ (i : Nat) (y : Ec), ((List.range len).map fun i => (pr i).1)[i]? = some y → i < len ∧ y = (pr i).1 := fun i y hi => by
      have hlt : i < len := by
        have := (List.getElem?_eq_some_iff.1 hi).1
        simpa using this
      rw [List.getElem?_map, List.getElem?_range hlt, Option.map_some] at hi
      injection hi with hi
      exact ⟨hlt, hi.symm⟩
    have get2 : ∀ (i : Nat) (y : En), ((List.range len).map fun i => (pr i).2)[i]? = some y → i < len ∧ y = (pr i).2 := fun i y hi => by
      have hlt : i < len := by
        have := (List.getElem?_eq_some_iff.1 hi).1
        simpa using this
      rw [List.getElem?_map, List.getElem?_range hlt, Option.map_some] at hi
      injection hi with hi
      exact ⟨hlt, hi.symm⟩
    refine ⟨some ⟨g, o, none⟩, len, cap, (List.range len).map fun i => (pr i).2, hcs, ⟨(List.range len).map fun i => (pr i).1, ⟨_, cap, by simp, by simpa using hl, hm, (fun e => by cases e), fun _ => ⟨g, o, rfl, fun i y hi => ?_⟩⟩, by simp, fun k e z h1 h2 => ?_⟩, fun hz => by simpa using hsize hz⟩
    · obtain ⟨hlt, rfl⟩ := get1 i y hi
      rw [hpr i hlt]
      exact (each i hlt).choose_spec.1
    · obtain ⟨hlt, rfl⟩ := get1 k e h1
      obtain ⟨_, rfl⟩ := get2 k z h2
      rw [hpr k hlt]
      exact (each k hlt).choose_spec.2

set_option maxRecDepth 200000 in
theorem base_of_arg {H : Type} {enc : TypeId × Value → H} {W : World} {base : Nat} {v : Value} {d0 : DataW H} {p0 : List MemPlace} (hv : Value.okWide Try.prog W .any base 24 v)
    (h : DataW.Trod enc Try.prog W 0 (fun _ => true) true 24 v d0 p0) : ∃ a0 a1 p n c L, v = .agg #[.int .i64 a0, .int .i64 a1, .slice p n c] ∧ Ens W (.slice p n c) L ∧ fits a0 ∧ fits a1 ∧ ((∀ m ∈ d0.weights Try.prog 24, m ≤ reachBytes) → L.length * 40 ≤ 140737488351232) := by
  unfold Value.okWide at hv
  rw [Try.underlying24] at hv
  obtain ⟨cs, rfl, hsz, _⟩ := hv
  obtain ⟨fuel, hf⟩ := h
  have hf' : DataW.trod enc Try.prog W 0 (fun _ => true) true fuel 24 cs.toList = some (d0, p0) := hf
  have hcs : cs.toList.length = 3 := by rw [Array.length_toList, hsz, Try.cellsBa]
  obtain ⟨xs, n0, hd0, hd1, hd2, hxl, hx⟩ := DataW.trod_struct Try.underlying24 hf'
  obtain ⟨l, hl⟩ : ∃ l, cs.toList = l := ⟨_, rfl⟩
  rw [hl] at hcs hx
  obtain ⟨c0, c1, c2, rfl⟩ : ∃ c0 c1 c2, l = [c0, c1, c2] := by
    rcases l with _ | ⟨c0, _ | ⟨c1, _ | ⟨c2, _ | ⟨c3, r⟩⟩⟩⟩
    all_goals first | (exfalso; simp at hcs; done) | exact ⟨_, _, _, rfl⟩
  obtain ⟨y0, y1, y2, rfl⟩ : ∃ y0 y1 y2, xs = [y0, y1, y2] := by
    rcases xs with _ | ⟨c0, _ | ⟨c1, _ | ⟨c2, _ | ⟨c3, r⟩⟩⟩⟩
    all_goals first | (exfalso; simp at hxl; done) | exact ⟨_, _, _, rfl⟩
  have q0 : DataW.trod enc Try.prog W 0 (fun _ => true) true n0 3 (List.take (Try.prog.cellsOf 3) [c0, c1, c2]) = some y0 := hx 0 _ rfl
  rw [Try.cells3] at q0
  have q1 : DataW.trod enc Try.prog W 0 (fun _ => true) true n0 3 (List.take (Try.prog.cellsOf 3) [c1, c2]) = some y1 := hx 1 _ rfl
  rw [Try.cells3] at q1
  have q2 : DataW.trod enc Try.prog W 0 (fun _ => true) true n0 22 (List.take (Try.prog.cellsOf 22) [c2]) = some y2 := hx 2 _ rfl
  rw [Try.cellsSl] at q2
  obtain ⟨a0, e0, -, w0⟩ := DataW.trod_int Try.underlying3 q0
  obtain ⟨a1, e1, -, w1⟩ := DataW.trod_int Try.underlying3 q1
  obtain ⟨p, n, c, L, eL, hE, hW⟩ := ens_of_trod q2
  simp at e0 e1 eL
  subst e0 e1 eL
  refine ⟨a0, a1, p, n, c, L, ?_, hE, fits_wf w0, fits_wf w1, fun hz => hW fun m hm => hz m ?_⟩
  · congr 1
    exact Array.toList_inj.1 (by rw [hl])
  · simp only [Prod.mk.injEq] at hd1
    rw [hd1.1]
    simp only [DataW.weights, Try.underlying24, List.map_cons, List.map_nil, DataW.weightsEach, List.mem_append]
    simp [hm]

set_option maxRecDepth 200000 in
theorem do_of_arg {H : Type} {enc : TypeId × Value → H} {W : World} {base : Nat} {v : Value} {d0 : DataW H} {p0 : List MemPlace} (hv : Value.okWide Try.prog W .any base 34 v)
    (h : DataW.Trod enc Try.prog W 0 (fun _ => true) true 34 v d0 p0) : ∃ a0 a1 a2 p n c L, v = .agg #[.int .i64 a0, .int .i64 a1, .int .i64 a2, .slice p n c] ∧ Ens W (.slice p n c) L ∧ fits a0 ∧ fits a1 ∧ fits a2 ∧ ((∀ m ∈ d0.weights Try.prog 34, m ≤ reachBytes) → L.length * 40 ≤ 140737488351232) := by
  unfold Value.okWide at hv
  rw [Try.underlying34] at hv
  obtain ⟨cs, rfl, hsz, _⟩ := hv
  obtain ⟨fuel, hf⟩ := h
  have hf' : DataW.trod enc Try.prog W 0 (fun _ => true) true fuel 34 cs.toList = some (d0, p0) := hf
  have hcs : cs.toList.length = 4 := by rw [Array.length_toList, hsz, Try.cellsDo]
  obtain ⟨xs, n0, hd0, hd1, hd2, hxl, hx⟩ := DataW.trod_struct Try.underlying34 hf'
  obtain ⟨l, hl⟩ : ∃ l, cs.toList = l := ⟨_, rfl⟩
  rw [hl] at hcs hx
  obtain ⟨c0, c1, c2, c3, rfl⟩ : ∃ c0 c1 c2 c3, l = [c0, c1, c2, c3] := by
    rcases l with _ | ⟨c0, _ | ⟨c1, _ | ⟨c2, _ | ⟨c3, _ | ⟨c4, r⟩⟩⟩⟩⟩
    all_goals first | (exfalso; simp at hcs; done) | exact ⟨_, _, _, _, rfl⟩
  obtain ⟨y0, y1, y2, y3, rfl⟩ : ∃ y0 y1 y2 y3, xs = [y0, y1, y2, y3] := by
    rcases xs with _ | ⟨c0, _ | ⟨c1, _ | ⟨c2, _ | ⟨c3, _ | ⟨c4, r⟩⟩⟩⟩⟩
    all_goals first | (exfalso; simp at hxl; done) | exact ⟨_, _, _, _, rfl⟩
  have q0 : DataW.trod enc Try.prog W 0 (fun _ => true) true n0 3 (List.take (Try.prog.cellsOf 3) [c0, c1, c2, c3]) = some y0 := hx 0 _ rfl
  rw [Try.cells3] at q0
  have q1 : DataW.trod enc Try.prog W 0 (fun _ => true) true n0 3 (List.take (Try.prog.cellsOf 3) [c1, c2, c3]) = some y1 := hx 1 _ rfl
  rw [Try.cells3] at q1
  have q2 : DataW.trod enc Try.prog W 0 (fun _ => true) true n0 3 (List.take (Try.prog.cellsOf 3) [c2, c3]) = some y2 := hx 2 _ rfl
  rw [Try.cells3] at q2
  have q3 : DataW.trod enc Try.prog W 0 (fun _ => true) true n0 22 (List.take (Try.prog.cellsOf 22) [c3]) = some y3 := hx 3 _ rfl
  rw [Try.cellsSl] at q3
  obtain ⟨a0, e0, -, w0⟩ := DataW.trod_int Try.underlying3 q0
  obtain ⟨a1, e1, -, w1⟩ := DataW.trod_int Try.underlying3 q1
  obtain ⟨a2, e2, -, w2⟩ := DataW.trod_int Try.underlying3 q2
  obtain ⟨p, n, c, L, eL, hE, hW⟩ := ens_of_trod q3
  simp at e0 e1 e2 eL
  subst e0 e1 e2 eL
  refine ⟨a0, a1, a2, p, n, c, L, ?_, hE, fits_wf w0, fits_wf w1, fits_wf w2, fun hz => hW fun m hm => hz m ?_⟩
  · congr 1
    exact Array.toList_inj.1 (by rw [hl])
  · simp only [Prod.mk.injEq] at hd1
    rw [hd1.1]
    simp only [DataW.weights, Try.underlying34, List.map_cons, List.map_nil, DataW.weightsEach, List.mem_append]
    simp [hm]
end Go.Proofs.Ytmalhdiholblgaa
