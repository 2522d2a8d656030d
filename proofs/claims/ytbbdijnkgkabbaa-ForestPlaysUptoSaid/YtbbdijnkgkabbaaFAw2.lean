/- The example of the laws: awake. -/
import Derived.Test.YtbbdijnkgkabbaaFAw
namespace Go.Proofs.Ytbbdijnkgkabbaa
set_option linter.unusedVariables false
set_option linter.unusedSimpArgs false
open Go.RowKit

theorem sps_lit3 (w : World) (x y z : Sp) : Sps (w.alloc (.cells #[.int .i64 x.t, .int .i64 x.i, .int .i64 x.p, .int .i64 x.s, .int .i64 x.e, .string x.n, .int .i64 y.t, .int .i64 y.i, .int .i64 y.p, .int .i64 y.s, .int .i64 y.e, .string y.n, .int .i64 z.t, .int .i64 z.i, .int .i64 z.p, .int .i64 z.s, .int .i64 z.e, .string z.n] 33)) (.slice (some ⟨w.heap.size, 0, none⟩) 3 3) [x, y, z] := by
  refine ⟨_, 3, rfl, by simp, by simp [maxLen], (fun e => by cases e), fun _ => ⟨w.heap.size, 0, rfl, fun i u hi k v hk => ?_⟩⟩
  have hk6 : k < 6 := by
    have := (List.getElem?_eq_some_iff.1 hk).1
    rwa [spC_length] at this
  rw [Nat.zero_add, cell_of_row _ w.heap.size (i * 6 + k) _ 33 (0, 0) (heap_alloc_new w _)]
  have h1 := flat_at [x, y, z] i k hi hk6
  rw [hk] at h1
  rw [← h1]
  simp [spC, List.getElem?_toArray]
theorem sps_lit1 (w : World) (x : Sp) : Sps (w.alloc (.cells #[.int .i64 x.t, .int .i64 x.i, .int .i64 x.p, .int .i64 x.s, .int .i64 x.e, .string x.n] 33)) (.slice (some ⟨w.heap.size, 0, none⟩) 1 1) [x] := by
  refine ⟨_, 1, rfl, by simp, by simp [maxLen], (fun e => by cases e), fun _ => ⟨w.heap.size, 0, rfl, fun i u hi => ?_⟩⟩
  have h0 : i = 0 := by
    have := (List.getElem?_eq_some_iff.1 hi).1
    simp at this
    exact this
  subst h0
  simp at hi
  subst hi
  exact spAt_new w x
theorem addV_three : addV 1 [] three = .tuple #[.agg #[.int .i64 3, .int .i64 0, .int .i64 0, .int .i64 0, .int .i64 0], .int .i64 0] := by
  unfold addV
  rw [if_pos three_all, three_add]
  rfl
theorem addP_three : addP 1 [] three = three := by
  unfold addP
  rw [if_pos three_all, three_add]
theorem nine_all : [ofP 9 4].all (fun x => x.ok && decide (x.t = 1)) = true := by
  simp only [List.all_cons, List.all_nil, Bool.and_true, nine_ok, Bool.true_and]
  exact decide_eq_true rfl
theorem addV_nine : addV 1 three [ofP 9 4] = .tuple #[.agg #[.int .i64 0, .int .i64 0, .int .i64 0, .int .i64 1, .int .i64 0], .int .i64 0] := by
  unfold addV
  rw [if_pos nine_all, nine_add]
  rfl
theorem addP_nine : addP 1 three [ofP 9 4] = three := by
  unfold addP
  rw [if_pos nine_all, nine_add]
theorem of_size (i p : Int) : (ofP i p).n.size ≤ 1000000 := by
  show (1 : Nat) ≤ 1000000
  decide

set_option maxRecDepth 200000 in
set_option maxHeartbeats 1000000 in
theorem awake_any (w : World) : Calls Try.prog 5 #[] w fun e w' => e = .returned (.bool true) ∧ Below w.heap.size w w' := by
  have HOF := hide of_any
  go_enter Try.func5, Try.ntmps5
  go_wp2_with fail
  refine (new_any (tr := 1) (by decide) (by decide)).mono ?_
  rintro e1 w1 ⟨rfl, hf1, hb1⟩
  have HF1 := hide hf1
  have HB1 := hide hb1
  clear hf1 hb1
  go_wp2_with fail
  refine (HOF.out 2 0 _).mono ?_
  rintro e2 w2 ⟨rfl, hb2⟩
  have HB2 := hide (HB1.out.trans (hb2.mono HB1.out.size))
  have HF2 := hide (HF1.out.below hb2)
  clear hb2
  unfold spV ofP
  dsimp only
  go_wp2_with fail
  refine (HOF.out 3 2 _).mono ?_
  rintro e3 w3 ⟨rfl, hb3⟩
  have HB3 := hide (HB2.out.trans (hb3.mono HB2.out.size))
  have HF3 := hide (HF2.out.below hb3)
  clear hb3
  unfold spV ofP
  dsimp only
  go_wp2_with fail
  refine (HOF.out 4 9 _).mono ?_
  rintro e4 w4 ⟨rfl, hb4⟩
  have HB4 := hide (HB3.out.trans (hb4.mono HB3.out.size))
  have HF4 := hide (HF3.out.below hb4)
  clear hb4
  unfold spV ofP
  dsimp only
  go_wp2_with fail
  have hnm3 : ∀ x ∈ [ofP 2 0, ofP 3 2, ofP 4 9], x.n.size ≤ 1000000 := fun x hx => by
    simp only [List.mem_cons, List.not_mem_nil, or_false] at hx
    rcases hx with rfl | rfl | rfl <;> exact of_size _ _
  have hadd := add_any (HF4.out.below ((Below.refl _ _).alloc (Nat.le_refl _) (.cells #[.int .i64 1, .int .i64 2, .int .i64 0, .int .i64 0, .int .i64 0, .string ⟨#[97]⟩, .int .i64 1, .int .i64 3, .int .i64 2, .int .i64 0, .int .i64 0, .string ⟨#[97]⟩, .int .i64 1, .int .i64 4, .int .i64 9, .int .i64 0, .int .i64 0, .string ⟨#[97]⟩] 33))) (sps_lit3 w4 (ofP 2 0) (ofP 3 2) (ofP 4 9)) (by decide) hnm3
  have HB5 := hide (HB4.out.alloc HB4.out.size (.cells #[.int .i64 1, .int .i64 2, .int .i64 0, .int .i64 0, .int .i64 0, .string ⟨#[97]⟩, .int .i64 1, .int .i64 3, .int .i64 2, .int .i64 0, .int .i64 0, .string ⟨#[97]⟩, .int .i64 1, .int .i64 4, .int .i64 9, .int .i64 0, .int .i64 0, .string ⟨#[97]⟩] 33))
  refine hadd.mono ?_
  clear hadd hnm3
  rintro e5 w5 ⟨he5, hf5, hc5⟩
  obtain rfl : e5 = .returned (.tuple #[.agg #[.int .i64 3, .int .i64 0, .int .i64 0, .int .i64 0, .int .i64 0], .int .i64 0]) := he5.trans (congrArg Ending.returned addV_three)
  have hf5' : FoIs w5 (w.heap.size + 1) w.heap.size 1 three := by
    have h := hf5
    rw [show addP 1 [] [ofP 2 0, ofP 3 2, ofP 4 9] = three from addP_three] at h
    exact h
  have HB6 := hide (Chg.to_below HB5.out hc5 (fun k hk => by omega))
  have hB7 := HB6.out.alloc HB6.out.size (.cells #[.int .i64 3, .int .i64 0, .int .i64 0, .int .i64 0, .int .i64 0] 36)
  have hF7 := hf5'.below ((Below.refl _ _).alloc (Nat.le_refl _) (.cells #[.int .i64 3, .int .i64 0, .int .i64 0, .int .i64 0, .int .i64 0] 36))
  have hrowN := heap_alloc_new w5 (.cells #[.int .i64 3, .int .i64 0, .int .i64 0, .int .i64 0, .int .i64 0] 36)
  clear he5 hf5 hc5 hf5'
  go_wp2_with fail
  obtain ⟨W5, hW5⟩ : ∃ W5, w5.alloc (.cells #[.int .i64 3, .int .i64 0, .int .i64 0, .int .i64 0, .int .i64 0] 36) = W5 := ⟨_, rfl⟩
  obtain ⟨gn, hgn⟩ : ∃ gn, w5.heap.size = gn := ⟨_, rfl⟩
  have hgnw : w.heap.size < gn := by
    obtain ⟨D, hD⟩ := hF7.bag
    have h1 := lt_of_cell hF7.c0
    have h2 : w.heap.size + 1 < (w5.alloc (.cells #[.int .i64 3, .int .i64 0, .int .i64 0, .int .i64 0, .int .i64 0] 36)).heap.size := h1
    simp at h2
    omega
  rw [hW5] at hB7 hF7 hrowN ⊢
  rw [hgn] at hrowN ⊢
  have HB7 := hide hB7
  have HF7 := hide hF7
  have HRN := hide hrowN
  have HGN := hide hgnw
  clear hB7 hF7 hrowN hW5 hgn hgnw HB1 HB2 HB3 HB4 HB5 HB6 HF1 HF2 HF3 HF4
  refine (HOF.out 9 4 _).mono ?_
  rintro e8 w8 ⟨rfl, hb8⟩
  have HB8 := hide (HB7.out.trans (hb8.mono HB7.out.size))
  have HF8 := hide (HF7.out.below hb8)
  have HRN8 := hide ((hb8.block gn (Array.getElem?_eq_some_iff.1 HRN.out).1).trans HRN.out)
  clear hb8
  unfold spV ofP
  dsimp only
  go_wp2_with fail
  have hadd := add_any (HF8.out.below ((Below.refl _ _).alloc (Nat.le_refl _) (.cells #[.int .i64 1, .int .i64 9, .int .i64 4, .int .i64 0, .int .i64 0, .string ⟨#[97]⟩] 33))) (sps_lit1 w8 (ofP 9 4)) (by decide) (fun x hx => by
    simp only [List.mem_cons, List.not_mem_nil, or_false] at hx
    subst hx
    exact of_size _ _)
  have hb9 := (Below.refl w8.heap.size w8).alloc (Nat.le_refl _) (.cells #[.int .i64 1, .int .i64 9, .int .i64 4, .int .i64 0, .int .i64 0, .string ⟨#[97]⟩] 33)
  have HB9 := hide (HB8.out.trans (hb9.mono HB8.out.size))
  have HRN9 := hide ((hb9.block gn (Array.getElem?_eq_some_iff.1 HRN8.out).1).trans HRN8.out)
  clear hb9
  refine hadd.mono ?_
  clear hadd
  rintro e10 w10 ⟨he10, hf10, hc10⟩
  obtain rfl : e10 = .returned (.tuple #[.agg #[.int .i64 0, .int .i64 0, .int .i64 0, .int .i64 1, .int .i64 0], .int .i64 0]) := he10.trans (congrArg Ending.returned addV_nine)
  have hf10' : FoIs w10 (w.heap.size + 1) w.heap.size 1 three := by
    have h := hf10
    rw [addP_nine] at h
    exact h
  have HB10 := hide (Chg.to_below HB9.out hc10 (fun k hk => by omega))
  have hrn10 := (hc10.block gn (Array.getElem?_eq_some_iff.1 HRN9.out).1 (by have := HGN.out; omega)).trans HRN9.out
  have hba := (Below.refl w10.heap.size w10).alloc (Nat.le_refl _) (.cells #[.int .i64 0, .int .i64 0, .int .i64 0, .int .i64 1, .int .i64 0] 36)
  have hrowM := heap_alloc_new w10 (.cells #[.int .i64 0, .int .i64 0, .int .i64 0, .int .i64 1, .int .i64 0] 36)
  have HF11 := hide (hf10'.below hba)
  have HB11 := hide (HB10.out.trans (hba.mono HB10.out.size))
  have HRN11 := hide ((hba.block gn (Array.getElem?_eq_some_iff.1 hrn10).1).trans hrn10)
  have HRM11 := hide hrowM
  clear he10 hf10 hc10 hf10' hrn10 hba hrowM
  go_wp2_with fail
  refine (branches_any HF11.out).mono ?_
  rintro e12 w12 ⟨v12, rfl, ho12, hb12⟩
  obtain ⟨p12, n12, c12, rfl⟩ := ho12.brs.sl
  rw [three_sort, three_brs] at ho12
  obtain rfl : n12 = 3 := ho12.brs.len.1
  obtain ⟨gb, ob, rfl, hx⟩ := ho12.brs.at_ (by omega)
  have h1 := hx 1 _ rfl
  have h2 := hx 2 _ rfl
  have hrn := (hb12.block gn (Array.getElem?_eq_some_iff.1 HRN11.out).1).trans HRN11.out
  have hrm := (hb12.block w10.heap.size (Array.getElem?_eq_some_iff.1 HRM11.out).1).trans HRM11.out
  have HB12 := hide (HB11.out.trans (hb12.mono HB11.out.size))
  clear ho12 hb12 hx
  obtain ⟨gm, hgm⟩ : ∃ gm, w10.heap.size = gm := ⟨_, rfl⟩
  rw [hgm] at hrm ⊢
  have s0 : w12.cell? ⟨gn, 0, none⟩ = some (.int .i64 3) := cell_of_row w12 gn 0 _ 36 (0, 0) hrn
  have s1 : w12.cell? ⟨gn, 1, none⟩ = some (.int .i64 0) := cell_of_row w12 gn 1 _ 36 (0, 0) hrn
  have s2 : w12.cell? ⟨gn, 2, none⟩ = some (.int .i64 0) := cell_of_row w12 gn 2 _ 36 (0, 0) hrn
  have s3 : w12.cell? ⟨gn, 3, none⟩ = some (.int .i64 0) := cell_of_row w12 gn 3 _ 36 (0, 0) hrn
  have s4 : w12.cell? ⟨gn, 4, none⟩ = some (.int .i64 0) := cell_of_row w12 gn 4 _ 36 (0, 0) hrn
  have s5 : w12.cell? ⟨gm, 0, none⟩ = some (.int .i64 0) := cell_of_row w12 gm 0 _ 36 (0, 0) hrm
  have s6 : w12.cell? ⟨gm, 1, none⟩ = some (.int .i64 0) := cell_of_row w12 gm 1 _ 36 (0, 0) hrm
  have s7 : w12.cell? ⟨gm, 2, none⟩ = some (.int .i64 0) := cell_of_row w12 gm 2 _ 36 (0, 0) hrm
  have s8 : w12.cell? ⟨gm, 3, none⟩ = some (.int .i64 1) := cell_of_row w12 gm 3 _ 36 (0, 0) hrm
  have s9 : w12.cell? ⟨gm, 4, none⟩ = some (.int .i64 0) := cell_of_row w12 gm 4 _ 36 (0, 0) hrm
  have s10 : w12.cell? ⟨gb, ob + 8, none⟩ = some (.int .i64 1) := h1 0 _ rfl
  have s11 : w12.cell? ⟨gb, ob + 9, none⟩ = some (.bool false) := h1 1 _ rfl
  have s12 : w12.cell? ⟨gb, ob + 10, none⟩ = some (.int .i64 1) := h1 2 _ rfl
  have s13 : w12.cell? ⟨gb, ob + 11, none⟩ = some (.int .i64 3) := h1 3 _ rfl
  have s14 : w12.cell? ⟨gb, ob + 12, none⟩ = some (.int .i64 2) := h1 4 _ rfl
  have s15 : w12.cell? ⟨gb, ob + 13, none⟩ = some (.int .i64 0) := h1 5 _ rfl
  have s16 : w12.cell? ⟨gb, ob + 14, none⟩ = some (.int .i64 0) := h1 6 _ rfl
  have s17 : w12.cell? ⟨gb, ob + 15, none⟩ = some (.string ⟨#[97]⟩) := h1 7 _ rfl
  have s18 : w12.cell? ⟨gb, ob + 17, none⟩ = some (.bool true) := h2 1 _ rfl
  have KEEP : Hid (∀ q w7, Below (w12.drewN q).heap.size (w12.drewN q) w7 → w7.cell? ⟨gn, 0, none⟩ = some (.int .i64 3) ∧ w7.cell? ⟨gn, 1, none⟩ = some (.int .i64 0) ∧ w7.cell? ⟨gn, 2, none⟩ = some (.int .i64 0) ∧ w7.cell? ⟨gn, 3, none⟩ = some (.int .i64 0) ∧ w7.cell? ⟨gn, 4, none⟩ = some (.int .i64 0) ∧ w7.cell? ⟨gm, 0, none⟩ = some (.int .i64 0) ∧ w7.cell? ⟨gm, 1, none⟩ = some (.int .i64 0) ∧ w7.cell? ⟨gm, 2, none⟩ = some (.int .i64 0) ∧ w7.cell? ⟨gm, 3, none⟩ = some (.int .i64 1) ∧ w7.cell? ⟨gm, 4, none⟩ = some (.int .i64 0) ∧ w7.cell? ⟨gb, ob + 8, none⟩ = some (.int .i64 1) ∧ w7.cell? ⟨gb, ob + 9, none⟩ = some (.bool false) ∧ w7.cell? ⟨gb, ob + 10, none⟩ = some (.int .i64 1) ∧ w7.cell? ⟨gb, ob + 11, none⟩ = some (.int .i64 3) ∧ w7.cell? ⟨gb, ob + 12, none⟩ = some (.int .i64 2) ∧ w7.cell? ⟨gb, ob + 13, none⟩ = some (.int .i64 0) ∧ w7.cell? ⟨gb, ob + 14, none⟩ = some (.int .i64 0) ∧ w7.cell? ⟨gb, ob + 15, none⟩ = some (.string ⟨#[97]⟩) ∧ w7.cell? ⟨gb, ob + 17, none⟩ = some (.bool true)) := hide (fun q w7 hb7 => ⟨(hb7.cell (lt_of_cell s0)).trans s0, (hb7.cell (lt_of_cell s1)).trans s1, (hb7.cell (lt_of_cell s2)).trans s2, (hb7.cell (lt_of_cell s3)).trans s3, (hb7.cell (lt_of_cell s4)).trans s4, (hb7.cell (lt_of_cell s5)).trans s5, (hb7.cell (lt_of_cell s6)).trans s6, (hb7.cell (lt_of_cell s7)).trans s7, (hb7.cell (lt_of_cell s8)).trans s8, (hb7.cell (lt_of_cell s9)).trans s9, (hb7.cell (lt_of_cell s10)).trans s10, (hb7.cell (lt_of_cell s11)).trans s11, (hb7.cell (lt_of_cell s12)).trans s12, (hb7.cell (lt_of_cell s13)).trans s13, (hb7.cell (lt_of_cell s14)).trans s14, (hb7.cell (lt_of_cell s15)).trans s15, (hb7.cell (lt_of_cell s16)).trans s16, (hb7.cell (lt_of_cell s17)).trans s17, (hb7.cell (lt_of_cell s18)).trans s18⟩)
  clear hrn hrm h1 h2 hgm HRN11 HRM11 HF11 HB11
  go_wp2_with fail
  go_region_held3 (fun W => W.cell? ⟨gn, 0, none⟩ = some (.int .i64 3) ∧ W.cell? ⟨gn, 1, none⟩ = some (.int .i64 0) ∧ W.cell? ⟨gn, 2, none⟩ = some (.int .i64 0) ∧ W.cell? ⟨gn, 3, none⟩ = some (.int .i64 0) ∧ W.cell? ⟨gn, 4, none⟩ = some (.int .i64 0) ∧ W.cell? ⟨gm, 0, none⟩ = some (.int .i64 0) ∧ W.cell? ⟨gm, 1, none⟩ = some (.int .i64 0) ∧ W.cell? ⟨gm, 2, none⟩ = some (.int .i64 0) ∧ W.cell? ⟨gm, 3, none⟩ = some (.int .i64 1) ∧ W.cell? ⟨gm, 4, none⟩ = some (.int .i64 0) ∧ W.cell? ⟨gb, ob + 8, none⟩ = some (.int .i64 1) ∧ W.cell? ⟨gb, ob + 9, none⟩ = some (.bool false) ∧ W.cell? ⟨gb, ob + 10, none⟩ = some (.int .i64 1) ∧ W.cell? ⟨gb, ob + 11, none⟩ = some (.int .i64 3) ∧ W.cell? ⟨gb, ob + 12, none⟩ = some (.int .i64 2) ∧ W.cell? ⟨gb, ob + 13, none⟩ = some (.int .i64 0) ∧ W.cell? ⟨gb, ob + 14, none⟩ = some (.int .i64 0) ∧ W.cell? ⟨gb, ob + 15, none⟩ = some (.string ⟨#[97]⟩) ∧ W.cell? ⟨gb, ob + 17, none⟩ = some (.bool true)) (first | go_keep | exact KEEP.out 1 _ hb7 | exact KEEP.out 0 _ hb7) ((go_at_call 14; refine (HOF.out 3 2 _).mono ?_; rintro e7 w7 ⟨rfl, hb7⟩; unfold spV ofP; dsimp only))
  have HB13 : Hid (Below w.heap.size w w7) := hide (HB12.out.trans (((show Below w12.heap.size w12 w12.drew from bdrew w12 1).trans hb7).mono HB12.out.size))
  clear hb7
  go_wp2
  go_ret
  exact ⟨rfl, HB13.out⟩
end Go.Proofs.Ytbbdijnkgkabbaa
