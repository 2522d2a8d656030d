/- Calls that came in as an argument. -/
import Derived.Test.YtmalhdiholblgaaLRefR
import Derived.Test.YtmalhdiholblgaaLRefMF
import Derived.Test.YtmalhdiholblgaaLLaw
import Derived.Deep.Matrix
import Derived.Deep.Fields
import Derived.ChangeOld
import Derived.OpenShut
namespace Go.Proofs.Ytmalhdiholblgaa
set_option linter.unusedVariables false
set_option linter.unusedSimpArgs false
open Go.RowKit Go.Deep Go.ChangeShapes

/-- A call. -/
structure Dp where
  op : Int
  n : Int
  t : Int
  p : Option Go.Addr
  nl : Nat
  c : Nat
  l : List En
instance : Inhabited Dp := ⟨⟨0, 0, 0, none, 0, 0, []⟩⟩
def dpC (d : Dp) : List Go.Value := [.int .i64 d.op, .int .i64 d.n, .int .i64 d.t, .slice d.p d.nl d.c]
theorem dpC_length (d : Dp) : (dpC d).length = 4 := rfl
def DpAt (w : World) (g o : Nat) (d : Dp) : Prop := ∀ (k : Nat) u, (dpC d)[k]? = some u → w.cell? ⟨g, o + k, none⟩ = some u
structure Dp.Ok (w : World) (d : Dp) : Prop where
  ens : Ens w (.slice d.p d.nl d.c) d.l
  f0 : fits d.op
  f1 : fits d.n
  f2 : fits d.t
/-- The slice reads as these calls. -/
def Dts (w : World) (p : Option Addr) (n c : Nat) (D : List Dp) : Prop :=
  n = D.length ∧ n ≤ c ∧ c ≤ maxLen ∧ (∀ (i : Nat) d, D[i]? = some d → ∃ g o, p = some ⟨g, o, none⟩ ∧ DpAt w g (o + i * 4) d) ∧ ∀ d ∈ D, d.Ok w
theorem DpAt.below {w w' : World} {g o : Nat} {d : Dp} (h : DpAt w g o d) (hb : Below w.heap.size w w') : DpAt w' g o d := fun k u hk => (hb.cell (lt_of_cell (h k u hk))).trans (h k u hk)
theorem Dts.below {w w' : World} {p : Option Addr} {n c : Nat} {D : List Dp} (h : Dts w p n c D) (hb : Below w.heap.size w w') : Dts w' p n c D := ⟨h.1, h.2.1, h.2.2.1, fun i d hd => by
  obtain ⟨g, o, e, ha⟩ := h.2.2.2.1 i d hd
  exact ⟨g, o, e, ha.below hb⟩, fun d hd => by
  obtain ⟨a, b, c, e⟩ := h.2.2.2.2 d hd
  exact ⟨a.below hb, b, c, e⟩⟩
theorem weightsAll_in {H : Type} {P : Program} {e : TypeId} : ∀ {l : List (DataW H)} {d : DataW H}, d ∈ l → ∀ n ∈ d.weights P e, n ∈ DataW.weightsAll P e l
  | [], d, h, n, hn => by cases h
  | a :: r, d, h, n, hn => by
    unfold DataW.weightsAll
    rw [List.mem_append]
    rcases List.mem_cons.1 h with rfl | h
    · exact .inl hn
    · exact .inr (weightsAll_in h n hn)

set_option maxRecDepth 200000 in
theorem do_of_cells {H : Type} {enc : TypeId × Value → H} {W : World} {cs : List Value} {fuel : Nat} {x : DataW H × List MemPlace} (hcs : cs.length = 4)
    (h : DataW.trod enc Try.prog W 0 (fun _ => true) true fuel 34 cs = some x) : ∃ d : Dp, cs = dpC d ∧ d.Ok W ∧ ((∀ m ∈ x.1.weights Try.prog 34, m ≤ reachBytes) → d.l.length * 40 ≤ 140737488351232) := by
  obtain ⟨xs, n0, hd0, hd1, hd2, hxl, hx⟩ := DataW.trod_struct Try.underlying34 h
  obtain ⟨c0, c1, c2, c3, rfl⟩ : ∃ c0 c1 c2 c3, cs = [c0, c1, c2, c3] := by
    rcases cs with _ | ⟨c0, _ | ⟨c1, _ | ⟨c2, _ | ⟨c3, _ | ⟨c4, r⟩⟩⟩⟩⟩
    all_goals first | (exfalso; simp at hcs; done) | exact ⟨_, _, _, _, rfl⟩
  obtain ⟨y0, y1, y2, y3, rfl⟩ : ∃ y0 y1 y2 y3, xs = [y0, y1, y2, y3] := by
    rcases xs with _ | ⟨c0, _ | ⟨c1, _ | ⟨c2, _ | ⟨c3, _ | ⟨c4, r⟩⟩⟩⟩⟩
    all_goals first | (exfalso; simp at hxl; done) | exact ⟨_, _, _, _, rfl⟩
  have q0 : DataW.trod enc Try.prog W 0 (fun _ => true) true n0 3 (List.take (Try.prog.cellsOf 3) [c0, c1, c2, c3]) = some y0 := hx 0 _ rfl
  rw [Try.cells3] at q0
  have q1 : DataW.trod enc Try.prog W 0 (fun _ => true) true n0 3 (List.take (Try.prog.cellsOf 3) [c1, c2, c3]) = some y1 := hx 1 _ rfl
  rw [Try.cells3] at q1
  have q2 : DataW.trod enc Try.prog W 0 (fun _ => true) true n0 3 (List.take (Try.prog.cellsOf 3) [c2, c3]) = some y2 := hx 2 _ rfl
  rw [Try.cells3] at q2
  have q3 : DataW.trod enc Try.prog W 0 (fun _ => true) true n0 22 (List.take (Try.prog.cellsOf 22) [c3]) = some y3 := hx 3 _ rfl
  rw [Try.cellsSl] at q3
  obtain ⟨a0, e0, -, w0⟩ := DataW.trod_int Try.underlying3 q0
  obtain ⟨a1, e1, -, w1⟩ := DataW.trod_int Try.underlying3 q1
  obtain ⟨a2, e2, -, w2⟩ := DataW.trod_int Try.underlying3 q2
  obtain ⟨p, n, c, L, eL, hE, hW⟩ := ens_of_trod q3
  simp at e0 e1 e2 eL
  subst e0 e1 e2 eL
  refine ⟨⟨a0, a1, a2, p, n, c, L⟩, rfl, ⟨hE, fits_wf w0, fits_wf w1, fits_wf w2⟩, fun hz => hW fun m hm => hz m ?_⟩
  rw [hd1]
  simp only [DataW.weights, Try.underlying34, List.map_cons, List.map_nil, DataW.weightsEach, List.mem_append]
  simp [hm]

set_option maxRecDepth 200000 in
theorem dos_of_arg {H : Type} {enc : TypeId × Value → H} {W : World} {a0 : Option Addr} {len cap : Nat} {d0 : DataW H} {p0 : List MemPlace}
    (h : DataW.Trod enc Try.prog W 0 (fun _ => true) true 25 (.slice a0 len cap) d0 p0) : ∃ D : List Dp, Dts W a0 len cap D ∧ ((∀ m ∈ d0.weights Try.prog 25, m ≤ reachBytes) → ∀ d ∈ D, d.l.length * 40 ≤ 140737488351232) := by
  obtain ⟨fuel, hf⟩ := h
  rcases DataW.trod_slice Try.underlying25 hf with ⟨hcs, _⟩ | ⟨a, len', cap', elems, rest, n, hx0, hcs, hd, -, hl, hm, hel, hx, -, -⟩
  · simp [Value.cells] at hcs
    obtain ⟨rfl, rfl, rfl⟩ := hcs
    exact ⟨[], ⟨rfl, Nat.le_refl _, by decide, fun i d hd => by simp at hd, fun x hx => by cases hx⟩, fun _ d hd => by cases hd⟩
  · simp [Value.cells] at hcs
    obtain ⟨rfl, rfl, rfl⟩ := hcs
    rw [Try.cellsDo] at hx
    have each0 : ∀ i, (hi : i < len) → ∃ d : Dp, (∀ k, k < 4 → W.cell? ((a.add (i * 4)).add k) = (dpC d)[k]?) ∧ d.Ok W ∧ ((∀ m ∈ d0.weights Try.prog 25, m ≤ reachBytes) → d.l.length * 40 ≤ 140737488351232) := fun i hi => by
      have h1 := hx i hi
      rw [List.getElem?_eq_getElem (by omega)] at h1
      obtain ⟨cs, h2, h3⟩ := Option.bind_eq_some_iff.1 h1
      obtain ⟨hb, hcl, hcell⟩ := World.cells?_some h2
      obtain ⟨d, rfl, hw, hz⟩ := do_of_cells hcl h3
      refine ⟨d, fun k hk => hcell k hk, hw, fun hz0 => hz fun m hm' => hz0 m ?_⟩
      have hd1 := congrArg Prod.fst hd
      dsimp only at hd1
      rw [hd1]
      simp only [DataW.weights, Try.underlying25, List.mem_cons, List.mem_append]
      exact .inr (.inl (weightsAll_in (List.mem_map.2 ⟨_, List.getElem_mem (by omega), rfl⟩) m hm'))
    rcases Nat.eq_zero_or_pos len with h0 | h0
    · subst h0
      exact ⟨[], ⟨rfl, hl, hm, fun i d hd => by simp at hd, fun x hx => by cases hx⟩, fun _ d hd => by cases hd⟩
    have hsp : a.spot = none := by
      obtain ⟨d, hc, _⟩ := each0 0 h0
      have z0 := World.cell?_spot (show W.cell? _ = some (.int .i64 d.op) from hc 0 (by omega))
      simp [Addr.add] at z0
      exact z0
    obtain ⟨g, o, spot⟩ := a
    obtain rfl : spot = none := hsp
    have each : ∀ i, i < len → ∃ d : Dp, DpAt W g (o + i * 4) d ∧ d.Ok W ∧ ((∀ m ∈ d0.weights Try.prog 25, m ≤ reachBytes) → d.l.length * 40 ≤ 140737488351232) := fun i hi => by
      obtain ⟨d, hc, h2⟩ := each0 i hi
      refine ⟨d, fun k u hk => ?_, h2⟩
      have hk4 : k < 4 := by
        have := (List.getElem?_eq_some_iff.1 hk).1
        rwa [dpC_length] at this
      have := hc k hk4
      rw [add_lit0, add_lit0] at this
      rw [this]
      exact hk
    refine ⟨(List.range len).map fun i => if h : i < len then (each i h).choose else default, ⟨by simp, hl, hm, fun i d hi => ?_, fun y hy => ?_⟩, fun hz y hy => ?_⟩
    · have hlt : i < len := by
        have := (List.getElem?_eq_some_iff.1 hi).1
        simpa using this
      rw [List.getElem?_map, List.getElem?_range hlt, Option.map_some, dif_pos hlt] at hi
      injection hi with hi
      subst hi
      exact ⟨g, o, rfl, (each i hlt).choose_spec.1⟩
    · obtain ⟨i, hi, rfl⟩ := List.mem_map.1 hy
      have hlt : i < len := List.mem_range.1 hi
      rw [dif_pos hlt]
      exact (each i hlt).choose_spec.2.1
    · obtain ⟨i, hi, rfl⟩ := List.mem_map.1 hy
      have hlt : i < len := List.mem_range.1 hi
      rw [dif_pos hlt]
      exact (each i hlt).choose_spec.2.2 hz
end Go.Proofs.Ytmalhdiholblgaa
