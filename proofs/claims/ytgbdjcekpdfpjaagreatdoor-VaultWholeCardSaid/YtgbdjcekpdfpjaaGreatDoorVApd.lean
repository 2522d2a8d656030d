/- append([]Do{k}, l...). -/
import Derived.Test.YtgbdjcekpdfpjaaGreatDoorVSaveB
import Derived.Test.YtgbdjcekpdfpjaaGreatDoorVArgD
import Derived.Deep.AppendSrc
import Derived.Deep.Upon
import Derived.Deep.AppendLies
namespace Go.Proofs.YtgbdjcekpdfpjaaGreatDoor
set_option linter.unusedVariables false
set_option linter.unusedSimpArgs false
open Go.RowKit

theorem Tryz.infoDo : (Tryz.prog.info? 44).map (fun i => (i.zero, i.size, i.bytes)) = some (some (.agg #[.int .i64 0, .int .i64 0, .int .i64 0, .slice none 0 0, .slice none 0 0, .int .i64 0, .int .i64 0, .int .i64 0, .int .i64 0]), 9, 104) := by kernel_rfl
theorem flat9 : ∀ (D : List Ddo) (j : Nat), ((D.map doC).flatten)[j]? = (D[j / 9]?).bind fun d => (doC d)[j % 9]?
  | [], j => by simp
  | d :: r, j => by
    simp only [List.map_cons, List.flatten_cons]
    by_cases h : j < 9
    · rw [List.getElem?_append_left (by rw [doC_length]; exact h), Nat.div_eq_of_lt h, Nat.mod_eq_of_lt h]
      rfl
    · rw [List.getElem?_append_right (by rw [doC_length]; omega), doC_length, flat9 r (j - 9)]
      have e1 : j / 9 = (j - 9) / 9 + 1 := by omega
      have e2 : j % 9 = (j - 9) % 9 := by omega
      rw [e1, e2, List.getElem?_cons_succ]
theorem flat9_len (D : List Ddo) : ((D.map doC).flatten).length = D.length * 9 := by
  induction D with
  | nil => rfl
  | cons d r ih => simp only [List.map_cons, List.flatten_cons, List.length_append, doC_length, ih, List.length_cons]; omega
theorem doC_one {d : Ddo} : ∀ u ∈ doC d, u.oneCell' = true := fun u hu => by
  unfold doC at hu
  simp only [List.mem_cons, List.not_mem_nil, or_false] at hu
  rcases hu with rfl | rfl | rfl | rfl | rfl | rfl | rfl | rfl | rfl <;> rfl


set_option maxRecDepth 100000 in
theorem dos_append {w X : World} {g : Nat} {d : Ddo} {v : Value} {D : List Ddo} (hb : Below w.heap.size w X) (hrow : X.ownsRow w.heap.size 44 9 (.slice (some ⟨g, 0, none⟩) 1 1) 1 (doC d)) (hd : DdoIn w d) (hD : Ddos w v D) (hlen : (D.length + 1) * 104 ≤ 140737488355328) :
    ∃ p n c w', (Builtin.append_ #[22, 22] 22 #[.slice (some ⟨g, 0, none⟩) 1 1, v]).run Tryz.prog X = .ok (.slice p n c) w' ∧ Ddos w' (.slice p n c) (d :: D) ∧ Below w.heap.size w w' ∧ Chg X w' (fun i => i = g) := by
  obtain ⟨i0, hi0, hz0, hz1, hz2⟩ := info_parts Tryz.infoDo
  have hgl := hrow.lt g rfl
  obtain ⟨p, c, rfl, h1, h2, h3⟩ := id hD
  have fin : ∀ w' v', w'.ownsRow w.heap.size 44 9 v' (1 + D.length) (doC d ++ (D.map doC).flatten) → X.grownBy w' (some g) → ∃ p n c, v' = .slice p n c ∧ Ddos w' (.slice p n c) (d :: D) ∧ Below w.heap.size w w' ∧ Chg X w' (fun i => i = g) := fun w' v' hr hg => by
    have hcx : Chg X w' (fun i => i = g) := Chg.of_grown hg (fun i => i = g) fun k hk => .inl (Option.some.inj hk).symm
    have hbw : Below w.heap.size w w' := Chg.to_below hb hcx fun k hk => by omega
    obtain ⟨g', cap, rfl, hg1, hg2⟩ := hr.form (by omega)
    have hcm : 1 + D.length ≤ cap ∧ cap ≤ maxLen := by
      rcases hr.2 with ⟨e, _⟩ | ⟨g2, cap2, cur, e, _, _, hc1, hc2, _⟩
      · cases e
      · injection e with _ _ e
        subst e
        exact ⟨hc1, hc2⟩
    refine ⟨some ⟨g', 0, none⟩, 1 + D.length, cap, rfl, ⟨some ⟨g', 0, none⟩, cap, by rw [List.length_cons, Nat.add_comm], by rw [List.length_cons]; omega, hcm.2, fun k x hk => ⟨g', 0, rfl, ?_, fun j y hj => ?_⟩⟩, hbw, hcx⟩
    · cases k with
      | zero => simp at hk; exact hk ▸ hd.below hbw
      | succ k =>
        obtain ⟨_, _, _, hx, _⟩ := h3 k x (by simpa using hk)
        exact hx.below hbw
    · have hj9 : j < 9 := by
        have := (List.getElem?_eq_some_iff.1 hj).1
        rwa [doC_length] at this
      have e : doC d ++ (D.map doC).flatten = ((d :: D).map doC).flatten := by simp
      rw [e] at hr
      have := hr.cells (g := g') rfl (k * 9 + j) y (by
        rw [flat9, show (k * 9 + j) / 9 = k by omega, show (k * 9 + j) % 9 = j by omega, hk]
        exact hj)
      rw [add_lit0] at this
      rw [Nat.zero_add] at this ⊢
      exact this
  by_cases h0 : D.length = 0
  · have hD0 : D = [] := List.eq_nil_of_length_eq_zero h0
    subst hD0
    have hr0 : X.ownsRow w.heap.size 44 9 (.slice (some ⟨g, 0, none⟩) 1 1) (1 + ([] : List Ddo).length) (doC d ++ (([] : List Ddo).map doC).flatten) := by simpa using hrow
    obtain ⟨p', n', c', e, k1, k2, k3⟩ := fin X _ hr0 ⟨rfl, rfl, rfl, Nat.le_refl _, fun _ _ _ => rfl⟩
    injection e with e1 e2 e3
    subst e1 e2 e3
    refine ⟨_, _, _, X, ?_, k1, k2, k3⟩
    cases p with
    | none => exact run_append_nothing X _ _ _ 44 i0 Tryz.underlying22 hi0 _ _ _ (Nat.le_refl _) _ (Src.ofNil _ Tryz.underlying22 c)
    | some a => exact run_append_nothing X _ _ _ 44 i0 Tryz.underlying22 hi0 _ _ _ (Nat.le_refl _) _ (Src.ofSlice _ Tryz.underlying22 a 0 c [] (by simp) (by simp) (by simp))
  · obtain ⟨x, hx⟩ : ∃ x, D[0]? = some x := ⟨_, List.getElem?_eq_getElem (by omega)⟩
    obtain ⟨gl, o, rfl, _, _⟩ := h3 0 x hx
    obtain ⟨v', w', hr, k1, k2, _⟩ := Go.run_append_own (P := Tryz.prog) X w.heap.size 22 22 44 i0 _ 9 104 Tryz.underlying22 hi0 hz0 hz1 hz2 rfl (by omega) _ 1 (doC d) hrow ⟨gl, o, none⟩ D.length c ((D.map doC).flatten) (flat9_len D) (fun j u hj => by
      rw [flat9] at hj
      obtain ⟨y, hy, hyj⟩ := Option.bind_eq_some_iff.1 hj
      obtain ⟨g2, o2, e, _, hc⟩ := h3 _ y hy
      injection e with e
      injection e with e1 e2
      subst e1 e2
      have := hc _ u hyj
      rw [add_lit0]
      rw [show o + j = o + j / 9 * 9 + j % 9 by omega]
      exact (hb.cell (lt_of_cell this)).trans this) (fun u hu => by
      obtain ⟨l, hl, hu⟩ := List.mem_flatten.1 hu
      obtain ⟨y, _, rfl⟩ := List.mem_map.1 hl
      exact doC_one u hu) (by unfold maxLen; omega) (by omega) hb.size
    obtain ⟨p', n', c', rfl, q1, q2, q3⟩ := fin w' v' k1 k2
    exact ⟨p', n', c', w', hr, q1, q2, q3⟩
set_option maxRecDepth 200000 in
/-- How many Dos a list can have: its weight. -/
theorem dos_len {H : Type} {enc : TypeId × Value → H} {W : World} {v : Value} {d0 : DataW H} {p0 : List MemPlace} {D : List Ddo} (hD : Ddos W v D)
    (h : DataW.Trod enc Tryz.prog W 0 (fun _ => true) true 22 v d0 p0) (hz : ∀ m ∈ d0.weights Tryz.prog 22, m ≤ reachBytes) : (D.length + 1) * 104 ≤ 140737488355328 := by
  obtain ⟨p, c, rfl, h1, h2, h3⟩ := hD
  obtain ⟨fuel, hf⟩ := h
  have hbz : 104 ≤ Tryz.prog.bytesOf 44 := by decide +kernel
  rcases DataW.trod_slice Tryz.underlying22 hf with ⟨hcs, _⟩ | ⟨a, len', cap', elems, rest, n, hx0, hcs, hd, -, hl, hm, hel, hx, -, -⟩
  · simp only [Value.cells, List.cons.injEq, Value.slice.injEq] at hcs
    omega
  · simp only [Value.cells, List.cons.injEq, Value.slice.injEq] at hcs
    obtain ⟨⟨rfl, rfl, rfl⟩, -⟩ := hcs
    have he : d0 = .slice (elems.map (·.1)) (rest.map (·.1)) := (Prod.ext_iff.1 hd).1
    have := hz ((elems.length + rest.length) * Tryz.prog.bytesOf 44) (by
      rw [he]
      simp only [DataW.weights, Tryz.underlying22, List.mem_cons, List.length_map]; exact .inl trivial)
    unfold reachBytes at this
    have h4 : (elems.length + rest.length) * 104 ≤ (elems.length + rest.length) * Tryz.prog.bytesOf 44 := Nat.mul_le_mul_left _ hbz
    omega
end Go.Proofs.YtgbdjcekpdfpjaaGreatDoor
