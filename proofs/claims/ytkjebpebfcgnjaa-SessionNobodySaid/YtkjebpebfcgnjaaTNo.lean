/- Calls of a table that no call made. -/
import Derived.Test.YtkjebpebfcgnjaaTAwake
namespace Go.Proofs.Ytkjebpebfcgnjaa
set_option linter.unusedVariables false
set_option linter.unusedSimpArgs false
open Go.RowKit

/-- A table that no call made. -/
def NoT (w : World) (v : Value) : Prop := v = .pointer none ∨ ∃ g, v = .pointer (some ⟨g, 0, none⟩) ∧ w.cell? ⟨g, 0, none⟩ = some (.map none)
theorem NoT.below {w w' : World} {v : Value} (h : NoT w v) (hb : Below w.heap.size w w') : NoT w' v := by
  rcases h with h | ⟨g, h, hc⟩
  · exact .inl h
  · exact .inr ⟨g, h, (hb.cell (lt_of_cell hc)).trans hc⟩
theorem NoT.alloc {w : World} {v : Value} (h : NoT w v) (o : Obj) : NoT (w.alloc o) v := h.below ((Below.refl _ _).alloc (Nat.le_refl _) o)
def NoPost (w : World) (v : Value) (e : Ending) (w' : World) : Prop := e = .returned v ∧ Below w.heap.size w w'
theorem Chg.bel {w w' : World} (h : Chg w w' fun _ => False) : Below w.heap.size w w' := Chg.to_below (Below.refl _ _) h fun k e => e.elim

theorem made_no {w : World} {v : Value} (h : NoT w v) : Calls Try.prog 33 #[v] w fun e w' => e = .returned (.bool false) ∧ Chg w w' (fun _ => False) := by
  rcases h with rfl | ⟨g, rfl, hc⟩
  · exact made_none w
  · exact made_empty hc

set_option maxRecDepth 200000 in
set_option maxHeartbeats 1000000 in
theorem open_no {w : World} {v : Value} (h : NoT w v) (n : Int) : Calls Try.prog 13 #[v, .int .i64 n] w (NoPost w (.int .i64 6)) := by
  have HM := hide (made_no h)
  clear h
  go_enter Try.func13, Try.ntmps13
  go_wp2_with fail
  refine HM.out.mono ?_
  rintro e X ⟨rfl, hcX⟩
  have HC := hide hcX
  clear hcX
  go_wp2
  go_ret
  exact ⟨by rfl, HC.out.bel⟩
set_option maxRecDepth 200000 in
set_option maxHeartbeats 1000000 in
theorem expire_no {w : World} {v : Value} (h : NoT w v) (n : Int) : Calls Try.prog 17 #[v, .int .i64 n] w (NoPost w (.int .i64 0)) := by
  have HM := hide (made_no h)
  clear h
  go_enter Try.func17, Try.ntmps17
  go_wp2_with fail
  refine HM.out.mono ?_
  rintro e X ⟨rfl, hcX⟩
  have HC := hide hcX
  clear hcX
  go_wp2
  go_ret
  exact ⟨by rfl, HC.out.bel⟩
set_option maxRecDepth 200000 in
set_option maxHeartbeats 1000000 in
theorem seats_no {w : World} {v : Value} (h : NoT w v) : Calls Try.prog 30 #[v] w (NoPost w (.slice none 0 0)) := by
  have HM := hide (made_no h)
  clear h
  go_enter Try.func30, Try.ntmps30
  go_wp2_with fail
  refine HM.out.mono ?_
  rintro e X ⟨rfl, hcX⟩
  have HC := hide hcX
  clear hcX
  go_wp2
  go_ret
  exact ⟨by rfl, HC.out.bel⟩
set_option maxRecDepth 200000 in
set_option maxHeartbeats 1000000 in
theorem image_no {w : World} {v : Value} (h : NoT w v) : Calls Try.prog 31 #[v] w (NoPost w (.slice none 0 0)) := by
  have HM := hide (made_no h)
  clear h
  go_enter Try.func31, Try.ntmps31
  go_wp2_with fail
  refine HM.out.mono ?_
  rintro e X ⟨rfl, hcX⟩
  have HC := hide hcX
  clear hcX
  go_wp2
  go_ret
  exact ⟨by rfl, HC.out.bel⟩
set_option maxRecDepth 200000 in
set_option maxHeartbeats 1000000 in
theorem clone_no {w : World} {v : Value} (h : NoT w v) : Calls Try.prog 19 #[v] w (NoPost w (.pointer none)) := by
  have HM := hide (made_no h)
  clear h
  go_enter Try.func19, Try.ntmps19
  go_wp2_with fail
  refine HM.out.mono ?_
  rintro e X ⟨rfl, hcX⟩
  have HC := hide hcX
  clear hcX
  go_wp2
  go_ret
  exact ⟨by rfl, HC.out.bel⟩
set_option maxRecDepth 200000 in
set_option maxHeartbeats 2000000 in
theorem ask_no {w : World} {v : Value} (h : NoT w v) (n m : Int) : Calls Try.prog 15 #[v, .int .i64 n, .int .i64 m] w (NoPost w (.tuple #[rpV rp0, .bool false, .int .i64 6])) := by
  obtain ⟨A, hA⟩ : ∃ A, w.alloc (.cells #[.int .i64 0, .int .i64 0, .int .i64 0, .int .i64 0, .int .i64 0, .int .i64 0, .int .i64 0, .int .i64 0] 34) = A := ⟨_, rfl⟩
  have hrA : A.heap[w.heap.size]? = some (.cells #[.int .i64 0, .int .i64 0, .int .i64 0, .int .i64 0, .int .i64 0, .int .i64 0, .int .i64 0, .int .i64 0] 34) := by rw [← hA]; exact heap_alloc_new w _
  have hA' : NoT A v := by rw [← hA]; exact h.alloc _
  have hbA : Below w.heap.size w A := by rw [← hA]; exact (Below.refl _ _).alloc (Nat.le_refl _) _
  have HM := hide (made_no hA')
  have HRA := hide hrA
  have HBA := hide hbA
  have HA := hide hA
  clear h hA' hrA hbA hA
  go_enter Try.func15, Try.ntmps15
  go_wp2_with fail
  rw [HA.out]
  refine HM.out.mono ?_
  rintro e Y ⟨rfl, hcX⟩
  have hrY : Y.heap[w.heap.size]? = some (.cells #[.int .i64 0, .int .i64 0, .int .i64 0, .int .i64 0, .int .i64 0, .int .i64 0, .int .i64 0, .int .i64 0] 34) := (hcX.block _ (Array.getElem?_eq_some_iff.1 HRA.out).1 (fun e => e)).trans HRA.out
  have hbY : Below w.heap.size w Y := Chg.to_below HBA.out hcX (fun k e => e.elim)
  have m0 := cell_of_row Y w.heap.size 0 _ 34 (0, 0) hrY
  have m1 := cell_of_row Y w.heap.size 1 _ 34 (0, 0) hrY
  have m2 := cell_of_row Y w.heap.size 2 _ 34 (0, 0) hrY
  have m3 := cell_of_row Y w.heap.size 3 _ 34 (0, 0) hrY
  have m4 := cell_of_row Y w.heap.size 4 _ 34 (0, 0) hrY
  have m5 := cell_of_row Y w.heap.size 5 _ 34 (0, 0) hrY
  have m6 := cell_of_row Y w.heap.size 6 _ 34 (0, 0) hrY
  have m7 := cell_of_row Y w.heap.size 7 _ 34 (0, 0) hrY
  have f0 := frozen_of_row Y w.heap.size 0 _ 34 hrY
  have f1 := frozen_of_row Y w.heap.size 1 _ 34 hrY
  have f2 := frozen_of_row Y w.heap.size 2 _ 34 hrY
  have f3 := frozen_of_row Y w.heap.size 3 _ 34 hrY
  have f4 := frozen_of_row Y w.heap.size 4 _ 34 hrY
  have f5 := frozen_of_row Y w.heap.size 5 _ 34 hrY
  have f6 := frozen_of_row Y w.heap.size 6 _ 34 hrY
  have f7 := frozen_of_row Y w.heap.size 7 _ 34 hrY
  simp at m0 m1 m2 m3 m4 m5 m6 m7
  have HRY := hide hrY
  have HBY := hide hbY
  clear hrY hbY hcX
  go_wp2
  have hs8 := set8 Y w.heap.size 34 _ _ _ _ _ _ _ _ (.int .i64 0) (.int .i64 0) (.int .i64 0) (.int .i64 0) (.int .i64 0) (.int .i64 0) (.int .i64 0) (.int .i64 0) HRY.out
  have hb8 := bset8 (.int .i64 0) (.int .i64 0) (.int .i64 0) (.int .i64 0) (.int .i64 0) (.int .i64 0) (.int .i64 0) (.int .i64 0) HBY.out (Nat.le_refl _)
  obtain ⟨W9, hW9⟩ : ∃ W9, ((((((((Y.setCell ⟨w.heap.size, 0, none⟩ (.int .i64 0)).setCell ⟨w.heap.size, 1, none⟩ (.int .i64 0)).setCell ⟨w.heap.size, 2, none⟩ (.int .i64 0)).setCell ⟨w.heap.size, 3, none⟩ (.int .i64 0)).setCell ⟨w.heap.size, 4, none⟩ (.int .i64 0)).setCell ⟨w.heap.size, 5, none⟩ (.int .i64 0)).setCell ⟨w.heap.size, 6, none⟩ (.int .i64 0)).setCell ⟨w.heap.size, 7, none⟩ (.int .i64 0)) = W9 := ⟨_, rfl⟩
  rw [hW9] at hs8 hb8 ⊢
  clear hW9
  have n0 : W9.cell? ⟨w.heap.size, 0, none⟩ = some (.int .i64 0) := cell_of_row W9 w.heap.size 0 _ 34 (0, 0) hs8
  have n1 : W9.cell? ⟨w.heap.size, 1, none⟩ = some (.int .i64 0) := cell_of_row W9 w.heap.size 1 _ 34 (0, 0) hs8
  have n2 : W9.cell? ⟨w.heap.size, 2, none⟩ = some (.int .i64 0) := cell_of_row W9 w.heap.size 2 _ 34 (0, 0) hs8
  have n3 : W9.cell? ⟨w.heap.size, 3, none⟩ = some (.int .i64 0) := cell_of_row W9 w.heap.size 3 _ 34 (0, 0) hs8
  have n4 : W9.cell? ⟨w.heap.size, 4, none⟩ = some (.int .i64 0) := cell_of_row W9 w.heap.size 4 _ 34 (0, 0) hs8
  have n5 : W9.cell? ⟨w.heap.size, 5, none⟩ = some (.int .i64 0) := cell_of_row W9 w.heap.size 5 _ 34 (0, 0) hs8
  have n6 : W9.cell? ⟨w.heap.size, 6, none⟩ = some (.int .i64 0) := cell_of_row W9 w.heap.size 6 _ 34 (0, 0) hs8
  have n7 : W9.cell? ⟨w.heap.size, 7, none⟩ = some (.int .i64 0) := cell_of_row W9 w.heap.size 7 _ 34 (0, 0) hs8
  have hz9 : w.heap.size < W9.heap.size := lt_of_cell n0
  clear hs8
  refine bodyPost_ret (v := .tuple #[.agg #[.int .i64 0, .int .i64 0, .int .i64 0, .int .i64 0, .int .i64 0, .int .i64 0, .int .i64 0, .int .i64 0], .bool false, .int .i64 6]) (by simp [results, Try.results15, go_sem, n0, n1, n2, n3, n4, n5, n6, n7, hz9]) rfl ⟨rfl, hb8⟩
set_option maxRecDepth 200000 in
set_option maxHeartbeats 1000000 in
theorem keep_no {w : World} {v : Value} (h : NoT w v) (n m a : Int) (r : Rp) : Calls Try.prog 20 #[v, .int .i64 n, .int .i64 m, .int .i64 a, rpV r] w (NoPost w (.int .i64 6)) := by
  obtain ⟨e1, e2, e3, e4, e5, e6, e7, e8⟩ := r
  have HM := fun (o : Obj) => ask_no (h.alloc o) n m
  have hb := fun (o : Obj) => (Below.refl w.heap.size w).alloc (Nat.le_refl _) o
  have HB := hide hb
  unfold rpV rp0 at *
  dsimp only at *
  clear h hb
  go_enter Try.func20, Try.ntmps20
  go_wp2_with fail
  refine (HM _).mono ?_
  rintro e X ⟨rfl, hbX⟩
  have HC := hide ((HB.out _).trans (hbX.mono (by simp)))
  clear hbX
  go_wp2
  go_ret
  exact ⟨by rfl, HC.out.alloc HC.out.size _⟩
end Go.Proofs.Ytkjebpebfcgnjaa
