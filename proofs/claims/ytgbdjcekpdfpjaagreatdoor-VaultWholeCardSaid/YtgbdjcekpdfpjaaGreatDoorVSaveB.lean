/- Save: of a state that may not be kept, of any size; at a vault that none made. How many voters the states of many Dos can have. -/
import Derived.Test.YtgbdjcekpdfpjaaGreatDoorVf
import Derived.Test.YtgbdjcekpdfpjaaGreatDoorVArgD
namespace Go.Proofs.YtgbdjcekpdfpjaaGreatDoor
set_option linter.unusedVariables false
set_option linter.unusedSimpArgs false
open Go.RowKit

set_option maxRecDepth 100000 in
set_option maxHeartbeats 4000000 in
theorem vsave_bad {w : World} {b g : Nat} {vo da : Value} {s k : Sn} {kv : Value} (h : Vt w b vo da s g) (hk : SnV w kv k) (hc : k.chk ≠ 0) :
    Calls Tryz.prog 22 #[.pointer (some ⟨b, 0, none⟩), kv] w fun e w' => e = .returned (.int .i64 (k.chk : Nat)) ∧ Below w.heap.size w w' := by
  obtain ⟨kvo, kda, rfl, hkn, hkb, hk0, hk1⟩ := hk
  obtain ⟨pv, nv, cv, rfl⟩ := hkn.sl
  obtain ⟨pd, nd, cd, rfl⟩ := hkb.sl
  obtain ⟨W1, hW1⟩ : ∃ W1, w.alloc (.cells #[.int .i64 k.ix, .int .i64 k.tm, .slice pv nv cv, .slice pd nd cd] 42) = W1 := ⟨_, rfl⟩
  have hb1 : Below w.heap.size w W1 := by rw [← hW1]; exact balloc (Below.refl _ _) _
  have hr1 : W1.heap[w.heap.size]? = some (.cells #[.int .i64 k.ix, .int .i64 k.tm, .slice pv nv cv, .slice pd nd cd] 42 (0, 0)) := by rw [← hW1]; exact Array.getElem?_push_size
  have HV := hide (h.below hb1)
  have z4 := HV.out.c4
  have k0 : W1.cell? ⟨w.heap.size, 0, none⟩ = some (.int .i64 k.ix) := by rw [cell_of_row W1 _ 0 _ _ (0, 0) hr1]; rfl
  have k1 : W1.cell? ⟨w.heap.size, 1, none⟩ = some (.int .i64 k.tm) := by rw [cell_of_row W1 _ 1 _ _ (0, 0) hr1]; rfl
  have k2 : W1.cell? ⟨w.heap.size, 2, none⟩ = some (.slice pv nv cv) := by rw [cell_of_row W1 _ 2 _ _ (0, 0) hr1]; rfl
  have k3 : W1.cell? ⟨w.heap.size, 3, none⟩ = some (.slice pd nd cd) := by rw [cell_of_row W1 _ 3 _ _ (0, 0) hr1]; rfl
  have HCK := hide (check_any' (show SnV W1 (.agg #[.int .i64 k.ix, .int .i64 k.tm, .slice pv nv cv, .slice pd nd cd]) k from ⟨_, _, rfl, hkn.below hb1, hkb.below hb1, hk0, hk1⟩))
  have HB1 := hide hb1
  obtain ⟨ck, hck⟩ : ∃ ck, k.chk = ck := ⟨_, rfl⟩
  rw [hck] at hc ⊢
  unfold ChP at HCK
  rw [hck] at HCK
  have ec : ((ck : Int) != 0) = true := by simpa using hc
  clear h hb1 hr1 hkn hkb hck
  go_enter Tryz.func22, Tryz.ntmps22
  go_wp2_with (first
    | (go_at_call 57; refine (vmade_any z4).mono ?_; rintro e w2 ⟨rfl, hw⟩; subst w2)
    | (go_at_call 31; refine HCK.out.mono ?_; rintro e w2 ⟨rfl, hb2⟩; have HB2 := hide hb2; clear hb2))
  go_ret
  exact ⟨rfl, HB1.out.trans (HB2.out.mono HB1.out.size)⟩
set_option maxRecDepth 100000 in
set_option maxHeartbeats 4000000 in
theorem vsave_no {w : World} {v kv : Value} {k : Sn} (h : NoV w v) (hk : SnV w kv k) : Calls Tryz.prog 22 #[v, kv] w fun e w' => e = .returned (.int .i64 6) ∧ Below w.heap.size w w' := by
  obtain ⟨kvo, kda, rfl, hkn, hkb, hk0, hk1⟩ := hk
  obtain ⟨pv, nv, cv, rfl⟩ := hkn.sl
  obtain ⟨pd, nd, cd, rfl⟩ := hkb.sl
  have HW := hide (balloc (Below.refl w.heap.size w) (.cells #[.int .i64 k.ix, .int .i64 k.tm, .slice pv nv cv, .slice pd nd cd] 42))
  have H := hide h
  clear h hkn hkb
  go_enter Tryz.func22, Tryz.ntmps22
  go_wp2_with (go_at_call 57; refine (vmade_no (H.out.below HW.out)).mono ?_; rintro e w1 ⟨rfl, rfl⟩)
  go_ret
  exact ⟨rfl, HW.out⟩
/-- A list of Dos as an argument: sizes of the voters. -/
theorem dos_size {H : Type} {enc : TypeId × Value → H} {W : World} {v : Value} {d0 : DataW H} {p0 : List MemPlace} {D : List Ddo} (hD : Ddos W v D)
    (h : DataW.Trod enc Tryz.prog W 0 (fun _ => true) true 22 v d0 p0) (hz : ∀ m ∈ d0.weights Tryz.prog 22, m ≤ reachBytes) : ∀ (k : Nat) d, D[k]? = some d → d.sv.length * 8 ≤ 140737488351232 := by
  obtain ⟨p, c, rfl, h1, h2, h3⟩ := hD
  obtain ⟨fuel, hf⟩ := h
  intro k d hk
  have hkl := (List.getElem?_eq_some_iff.1 hk).1
  rcases DataW.trod_slice Tryz.underlying22 hf with ⟨hcs, _⟩ | ⟨a, len', cap', elems, rest, n, hx0, hcs, hd, -, hl, hm, hel, hx, -, -⟩
  · simp only [Value.cells, List.cons.injEq, Value.slice.injEq] at hcs
    omega
  · simp only [Value.cells, List.cons.injEq, Value.slice.injEq] at hcs
    obtain ⟨⟨rfl, rfl, rfl⟩, -⟩ := hcs
    rw [Tryz.cellsDo] at hx
    have g1 := hx k hkl
    rw [List.getElem?_eq_getElem (by omega)] at g1
    obtain ⟨cs, g2, g3⟩ := Option.bind_eq_some_iff.1 g1
    obtain ⟨hb, hcl, hcell⟩ := World.cells?_some g2
    obtain ⟨g, o, e, hin, hc⟩ := h3 k d hk
    injection e with e
    subst e
    have hcs : cs = doC d := by
      apply List.ext_getElem?
      intro i
      by_cases hi : i < 9
      · have h4 := hcell i hi
        rw [add_lit0, add_lit0] at h4
        have h5 : ∃ u, (doC d)[i]? = some u := ⟨_, List.getElem?_eq_getElem (by rw [doC_length]; exact hi)⟩
        obtain ⟨u, hu⟩ := h5
        rw [hc i u hu] at h4
        rw [← h4, hu]
      · rw [List.getElem?_eq_none (by omega), List.getElem?_eq_none (by rw [doC_length]; omega)]
    subst hcs
    refine do_size (W := W) (enc := enc) (d0 := elems[k].1) (p0 := elems[k].2) hin.h1.len.1 ⟨n, ?_⟩ fun m hm => hz m ?_
    · have : (Value.agg (doC d).toArray).cells.toList = doC d := by simp [Value.cells]
      rw [this]
      exact g3
    · have he : d0 = .slice (elems.map (·.1)) (rest.map (·.1)) := (Prod.ext_iff.1 hd).1
      rw [he]
      simp only [DataW.weights, Tryz.underlying22, List.mem_cons, List.mem_append]
      exact .inr (.inl (vweightsAll_mem (List.mem_map.2 ⟨elems[k]'(by omega), List.getElem_mem _, rfl⟩) m hm))
end Go.Proofs.YtgbdjcekpdfpjaaGreatDoor
