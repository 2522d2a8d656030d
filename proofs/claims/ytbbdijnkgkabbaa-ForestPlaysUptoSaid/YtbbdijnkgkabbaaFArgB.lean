/- Slices of spans that came in as an argument, with the bound of the second form. -/
import Derived.Test.YtbbdijnkgkabbaaSpArg
import Derived.Test.YtbbdijnkgkabbaaFConcat
import Derived.Test.YtbbdijnkgkabbaaRows
namespace Go.Proofs.Ytbbdijnkgkabbaa
set_option linter.unusedVariables false
set_option linter.unusedSimpArgs false
open Go.RowKit Go.Deep Go.ChangeShapes

theorem bulk_one {H : Type} (d : DataW H) : 1 ≤ Rows.uptoBulk d := by
  cases d with
  | lit l => cases l <;> simp [Rows.uptoBulk]
  | nil => simp [Rows.uptoBulk]
  | ptr d => simp [Rows.uptoBulk]
  | slice elems spare => simp [Rows.uptoBulk]
  | agg parts => simp [Rows.uptoBulk]
  | iface t d => simp [Rows.uptoBulk]
  | map entries => simp [Rows.uptoBulk]
  | held h => simp [Rows.uptoBulk]
theorem bulk_part {H : Type} {d : DataW H} {l : List (DataW H)} (h : d ∈ l) : Rows.uptoBulk d ≤ Rows.uptoBulkAll l := by
  induction l with
  | nil => cases h
  | cons x r ih =>
    simp only [Rows.uptoBulkAll]
    cases List.mem_cons.1 h with
    | inl e => subst e; omega
    | inr e => have := ih e; omega
theorem bulk_two {H : Type} : ∀ (l : List (DataW H)), (∀ d ∈ l, 2 ≤ Rows.uptoBulk d) → 2 * l.length ≤ Rows.uptoBulkAll l
  | [], _ => by simp [Rows.uptoBulkAll]
  | x :: r, h => by
    have h1 := h x (by simp)
    have h2 := bulk_two r fun d hd => h d (by simp [hd])
    simp only [Rows.uptoBulkAll, List.length_cons]
    omega
set_option maxRecDepth 200000 in
theorem sp_of_cellsB {H : Type} {enc : TypeId × Value → H} {W : World} {cs : List Value} {fuel : Nat} {x : DataW H × List MemPlace} (hcs : cs.length = 6)
    (h : DataW.trod enc Try.prog W 0 (fun _ => true) true fuel 33 cs = some x) : ∃ y : Sp, cs = spC y ∧ y.n.size + 2 ≤ Rows.uptoBulk x.1 := by
  obtain ⟨y, hy, _⟩ := sp_of_cells hcs h
  refine ⟨y, hy, ?_⟩
  obtain ⟨xs, n0, -, hd1, -, hxl, hx⟩ := DataW.trod_struct Try.underlying33 h
  subst hy
  obtain ⟨y0, y1, y2, y3, y4, y5, rfl⟩ : ∃ y0 y1 y2 y3 y4 y5, xs = [y0, y1, y2, y3, y4, y5] := by
    rcases xs with _ | ⟨c0, _ | ⟨c1, _ | ⟨c2, _ | ⟨c3, _ | ⟨c4, _ | ⟨c5, _ | ⟨c6, r⟩⟩⟩⟩⟩⟩⟩
    all_goals first | (exfalso; simp at hxl; done) | exact ⟨_, _, _, _, _, _, rfl⟩
  have q5 : DataW.trod enc Try.prog W 0 (fun _ => true) true n0 9 (List.take (Try.prog.cellsOf 9) [.string y.n]) = some y5 := hx 5 _ rfl
  rw [Try.cells9] at q5
  obtain ⟨n, e5, d5, w5⟩ := DataW.trod_string Try.underlying9 q5
  simp at e5
  subst e5
  rw [hd1, d5]
  have hl : y.n.data.toList.length = y.n.size := by rw [Array.length_toList]; rfl
  simp only [List.map_cons, List.map_nil, Rows.uptoBulk, Rows.uptoBulkAll]
  have := bulk_one y0.1
  omega

set_option maxRecDepth 200000 in
theorem sps_of_trodB {H : Type} {enc : TypeId × Value → H} {W : World} {cs : List Value} {fuel : Nat} {x : DataW H × List MemPlace}
    (h : DataW.trod enc Try.prog W 0 (fun _ => true) true fuel 27 cs = some x) : ∃ p n c l, cs = [.slice p n c] ∧ Sps W (.slice p n c) l ∧ (∀ y ∈ l, y.n.size ≤ Rows.uptoBulk x.1) ∧ 2 * l.length ≤ Rows.uptoBulk x.1 := by
  rcases DataW.trod_slice Try.underlying27 h with ⟨hcs, hx0⟩ | ⟨a, len, cap, elems, rest, n, -, hcs, hd, -, hl, hm, hel, hx, -, -⟩
  · exact ⟨none, 0, 0, [], hcs, Sps.nil W, (fun y hy => by cases hy), by simp⟩
  · rw [Try.cellsSp] at hx
    have hbk : Rows.uptoBulkAll (elems.map (·.1)) ≤ Rows.uptoBulk x.1 := by
      rw [hd]
      simp only [Rows.uptoBulk]
      omega
    rcases Nat.eq_zero_or_pos len with h0 | h0
    · subst h0
      exact ⟨some a, 0, cap, [], hcs, Sps.none_ W _ _ hm (fun e => by cases e), (fun y hy => by cases hy), by simp⟩
    have each0 : ∀ i, (hi : i < len) → ∃ y : Sp, (∀ k, k < 6 → W.cell? ((a.add (i * 6)).add k) = (spC y)[k]?) ∧ y.n.size + 2 ≤ Rows.uptoBulk (elems[i]'(by omega)).1 := fun i hi => by
      have h1 := hx i hi
      rw [List.getElem?_eq_getElem (by omega)] at h1
      obtain ⟨cs, h2, h3⟩ := Option.bind_eq_some_iff.1 h1
      obtain ⟨hb, hcl, hcell⟩ := World.cells?_some h2
      obtain ⟨y, rfl, hz⟩ := sp_of_cellsB hcl h3
      exact ⟨y, fun k hk => hcell k hk, hz⟩
    have hsp : a.spot = none := by
      obtain ⟨y, hc, _⟩ := each0 0 h0
      have z0 := World.cell?_spot (show W.cell? _ = some (.int .i64 y.t) from hc 0 (by omega))
      simp [Addr.add] at z0
      exact z0
    obtain ⟨g, o, spot⟩ := a
    obtain rfl : spot = none := hsp
    have each : ∀ i, i < len → ∃ y : Sp, SpAt W g (o + i * 6) y ∧ y.n.size ≤ Rows.uptoBulk x.1 := fun i hi => by
      obtain ⟨y, hc, hz⟩ := each0 i hi
      refine ⟨y, fun k u hk => ?_, ?_⟩
      · have hk6 : k < 6 := by
          have := (List.getElem?_eq_some_iff.1 hk).1
          rwa [spC_length] at this
        have := hc k hk6
        rw [add_lit0, add_lit0] at this
        rw [this]
        exact hk
      · have := bulk_part (List.mem_map.2 ⟨elems[i]'(by omega), List.getElem_mem _, rfl⟩ : (elems[i]'(by omega)).1 ∈ elems.map (·.1))
        omega
    have htwo : 2 * len ≤ Rows.uptoBulkAll (elems.map (·.1)) := by
      have h9 := bulk_two (elems.map (·.1)) (fun d hd2 => by
        obtain ⟨e, he, rfl⟩ := List.mem_map.1 hd2
        obtain ⟨i, hi, rfl⟩ := List.getElem_of_mem he
        obtain ⟨_, _, hz⟩ := each0 i (by omega)
        omega)
      rw [List.length_map, hel] at h9
      exact h9
    refine ⟨_, len, cap, (List.range len).map fun i => if h : i < len then (each i h).choose else default, hcs, ⟨_, cap, by simp, by simpa using hl, hm, (fun e => by cases e), fun _ => ⟨g, o, rfl, fun i y hi => ?_⟩⟩, fun y hy => ?_, by simp; omega⟩
    · have hlt : i < len := by
        have := (List.getElem?_eq_some_iff.1 hi).1
        simpa using this
      rw [List.getElem?_map, List.getElem?_range hlt, Option.map_some, dif_pos hlt] at hi
      injection hi with hi
      subst hi
      exact (each i hlt).choose_spec.1
    · obtain ⟨i, hi, rfl⟩ := List.mem_map.1 hy
      have hlt : i < len := List.mem_range.1 hi
      rw [dif_pos hlt]
      exact (each i hlt).choose_spec.2

theorem Try.cellsSps : Try.prog.cellsOf 27 = 1 := by kernel_rfl
theorem sum_bulk {H : Type} : ∀ (l : List (DataW H × List MemPlace)) (ls : List (List Sp)), l.length = ls.length → (∀ (i : Nat) d m, l[i]? = some d → ls[i]? = some m → 2 * m.length ≤ Rows.uptoBulk d.1) → 2 * lensS ls ≤ Rows.uptoBulkAll (l.map (·.1))
  | [], [], _, _ => by simp [lensS, Rows.uptoBulkAll]
  | d :: r, [], h, _ => by simp at h
  | [], m :: s, h, _ => by simp at h
  | d :: r, m :: s, h, hx => by
    have h1 := hx 0 d m rfl rfl
    have h2 := sum_bulk r s (by simpa using h) fun i d' m' a b => hx (i + 1) d' m' (by simpa using a) (by simpa using b)
    unfold lensS at h2 ⊢
    simp only [List.map_cons, List.sum_cons, Rows.uptoBulkAll]
    omega
set_option maxRecDepth 200000 in
theorem spss_of_arg {H : Type} {enc : TypeId × Value → H} {W : World} {a0 : Option Addr} {len cap : Nat} {d0 : DataW H} {p0 : List MemPlace}
    (h : DataW.Trod enc Try.prog W 0 (fun _ => true) true 22 (.slice a0 len cap) d0 p0) : ∃ ls : List (List Sp), Sss W (.slice a0 len cap) ls ∧ 2 * lensS ls ≤ Rows.uptoBulk d0 ∧ ∀ x ∈ ls.flatten, x.n.size ≤ Rows.uptoBulk d0 := by
  obtain ⟨fuel, hf⟩ := h
  rcases DataW.trod_slice Try.underlying22 hf with ⟨hcs, _⟩ | ⟨a, len', cap', elems, rest, n, -, hcs, hd, -, hl, hm, hel, hx, -, -⟩
  · simp [Value.cells] at hcs
    obtain ⟨rfl, rfl, rfl⟩ := hcs
    exact ⟨[], Sss.nil W, by simp [lensS], fun x hx => by simp at hx⟩
  · simp [Value.cells] at hcs
    obtain ⟨rfl, rfl, rfl⟩ := hcs
    rw [Try.cellsSps] at hx
    have hd0 : d0 = .slice (elems.map (·.1)) (rest.map (·.1)) := congrArg Prod.fst hd
    have hbk : Rows.uptoBulkAll (elems.map (·.1)) ≤ Rows.uptoBulk d0 := by
      rw [hd0]
      simp only [Rows.uptoBulk]
      omega
    have each : ∀ i, (hi : i < len) → ∃ ul : Value × List Sp, W.cell? (a.add i) = some ul.1 ∧ Sps W ul.1 ul.2 ∧ (∀ y ∈ ul.2, y.n.size ≤ Rows.uptoBulk (elems[i]'(by omega)).1) ∧ 2 * ul.2.length ≤ Rows.uptoBulk (elems[i]'(by omega)).1 := fun i hi => by
      have h1 := hx i hi
      rw [List.getElem?_eq_getElem (by omega)] at h1
      obtain ⟨cs, h2, h3⟩ := Option.bind_eq_some_iff.1 h1
      obtain ⟨hb, hcl, hcell⟩ := World.cells?_some h2
      obtain ⟨p, n', c, l, rfl, hs, hn, hl2⟩ := sps_of_trodB h3
      refine ⟨(.slice p n' c, l), ?_, hs, hn, hl2⟩
      have := hcell 0 (by omega)
      rw [Nat.mul_one] at this
      rw [show (a.add i).add 0 = a.add i by unfold Addr.add; split <;> simp_all] at this
      exact this
    let pr : Nat → Value × List Sp := fun i => if h : i < len then (each i h).choose else default
    have hpr : ∀ i, (h : i < len) → pr i = (each i h).choose := fun i h => by simp only [pr, dif_pos h]
    have get1 : ∀ (i : Nat) (m : List Sp), ((List.range len).map fun i => (pr i).2)[i]? = some m → ∃ h : i < len, m = (each i h).choose.2 := fun i m hi => by
      have hlt : i < len := by
        have := (List.getElem?_eq_some_iff.1 hi).1
        simpa using this
      rw [List.getElem?_map, List.getElem?_range hlt, Option.map_some] at hi
      injection hi with hi
      exact ⟨hlt, by rw [← hpr i hlt]; exact hi.symm⟩
    refine ⟨(List.range len).map fun i => (pr i).2, ⟨some a, cap, by simp, by simpa using hl, hm, (fun e => by cases e), fun a' e i l hi => ?_⟩, ?_, fun x hx2 => ?_⟩
    · injection e with e
      subst e
      obtain ⟨hlt, rfl⟩ := get1 i l hi
      exact ⟨_, (each i hlt).choose_spec.1, (each i hlt).choose_spec.2.1⟩
    · refine Nat.le_trans (sum_bulk elems _ (by simp [hel]) fun i d m h1 h2 => ?_) hbk
      obtain ⟨hlt, rfl⟩ := get1 i m h2
      obtain ⟨hi2, rfl⟩ := List.getElem?_eq_some_iff.1 h1
      exact (each i hlt).choose_spec.2.2.2
    · obtain ⟨m, hm2, hxm⟩ := List.mem_flatten.1 hx2
      obtain ⟨i, hi⟩ := List.mem_iff_getElem?.1 hm2
      obtain ⟨hlt, rfl⟩ := get1 i m hi
      have h1 := (each i hlt).choose_spec.2.2.1 x hxm
      have h2 := bulk_part (List.mem_map.2 ⟨elems[i]'(by omega), List.getElem_mem _, rfl⟩ : (elems[i]'(by omega)).1 ∈ elems.map (·.1))
      omega
end Go.Proofs.Ytbbdijnkgkabbaa
