/- The example of the laws: awake. -/
import Derived.Test.YtbbdijnkgkabbaaFObj
import Derived.Test.YtbbdijnkgkabbaaFAwP
namespace Go.Proofs.Ytbbdijnkgkabbaa
set_option linter.unusedVariables false
set_option linter.unusedSimpArgs false
open Go.RowKit

set_option maxHeartbeats 2000000 in
/-- A span laid into a box of a zero span, cell by cell. -/
theorem six_set {W : World} {r : Nat} (hA : W.heap[r]? = some (.cells #[.int .i64 0, .int .i64 0, .int .i64 0, .int .i64 0, .int .i64 0, .string ⟨#[]⟩] 33)) (x : Sp) : SpAt ((((((W.setCell ⟨r, 0, none⟩ (.int .i64 x.t)).setCell ⟨r, 1, none⟩ (.int .i64 x.i)).setCell ⟨r, 2, none⟩ (.int .i64 x.p)).setCell ⟨r, 3, none⟩ (.int .i64 x.s)).setCell ⟨r, 4, none⟩ (.int .i64 x.e)).setCell ⟨r, 5, none⟩ (.string x.n)) r 0 x := by
  have q0 := heap_setCell_same W r 0 _ 33 (.int .i64 x.t) hA
  have q1 := heap_setCell_same _ r 1 _ 33 (.int .i64 x.i) q0
  have q2 := heap_setCell_same _ r 2 _ 33 (.int .i64 x.p) q1
  have q3 := heap_setCell_same _ r 3 _ 33 (.int .i64 x.s) q2
  have q4 := heap_setCell_same _ r 4 _ 33 (.int .i64 x.e) q3
  have q5 := heap_setCell_same _ r 5 _ 33 (.string x.n) q4
  intro k u hk
  have hk6 : k < 6 := by
    have := List.getElem?_eq_some_iff.1 hk
    obtain ⟨h, _⟩ := this
    simpa [spC] using h
  have hq := cell_of_row _ r (0 + k) _ 33 (0, 0) q5
  rw [hq, Nat.zero_add, ← hk]
  clear hq q0 q1 q2 q3 q4 q5 hA hk
  rcases k with _ | _ | _ | _ | _ | _ | k
  all_goals first | rfl | omega

set_option maxRecDepth 200000 in
set_option maxHeartbeats 1000000 in
theorem of_any (i p : Int) (w : World) : Calls Try.prog 14 #[.int .i64 i, .int .i64 p] w fun e w' => e = .returned (spV (ofP i p)) ∧ Below w.heap.size w w' := by
  have hrow := heap_alloc_new w (.cells #[.int .i64 0, .int .i64 0, .int .i64 0, .int .i64 0, .int .i64 0, .string ⟨#[]⟩] 33)
  have hb := (Below.refl w.heap.size w).alloc (Nat.le_refl _) (.cells #[.int .i64 0, .int .i64 0, .int .i64 0, .int .i64 0, .int .i64 0, .string ⟨#[]⟩] 33)
  obtain ⟨W, hW⟩ : ∃ W, w.alloc (.cells #[.int .i64 0, .int .i64 0, .int .i64 0, .int .i64 0, .int .i64 0, .string ⟨#[]⟩] 33) = W := ⟨_, rfl⟩
  rw [hW] at hrow hb
  have f0 := frozen_of_row W w.heap.size 0 _ 33 hrow
  have f1 := frozen_of_row W w.heap.size 1 _ 33 hrow
  have f2 := frozen_of_row W w.heap.size 2 _ 33 hrow
  have f3 := frozen_of_row W w.heap.size 3 _ 33 hrow
  have f4 := frozen_of_row W w.heap.size 4 _ 33 hrow
  have f5 := frozen_of_row W w.heap.size 5 _ 33 hrow
  have b0 := cell_of_row W w.heap.size 0 _ 33 (0, 0) hrow
  have b1 := cell_of_row W w.heap.size 1 _ 33 (0, 0) hrow
  have b2 := cell_of_row W w.heap.size 2 _ 33 (0, 0) hrow
  have b3 := cell_of_row W w.heap.size 3 _ 33 (0, 0) hrow
  have b4 := cell_of_row W w.heap.size 4 _ 33 (0, 0) hrow
  have b5 := cell_of_row W w.heap.size 5 _ 33 (0, 0) hrow
  have HR := hide hrow
  have HB := hide hb
  clear hrow hb
  go_enter Try.func14, Try.ntmps14
  go_wp2
  have h6 := six_set HR.out (ofP i p)
  have hbel := (bset (bset (bset (bset (bset (bset HB.out (Nat.le_refl w.heap.size) (i := 0) (x := .int .i64 (ofP i p).t)) (Nat.le_refl _) (i := 1) (x := .int .i64 (ofP i p).i)) (Nat.le_refl _) (i := 2) (x := .int .i64 (ofP i p).p)) (Nat.le_refl _) (i := 3) (x := .int .i64 (ofP i p).s)) (Nat.le_refl _) (i := 4) (x := .int .i64 (ofP i p).e)) (Nat.le_refl _) (i := 5) (x := .string (ofP i p).n))
  refine bodyPost_ret (v := spV (ofP i p)) (by
    clear hbel
    unfold ofP at h6
    dsimp only at h6
    generalize ((((((W.setCell ⟨w.heap.size, 0, none⟩ (.int .i64 1)).setCell ⟨w.heap.size, 1, none⟩ (.int .i64 i)).setCell ⟨w.heap.size, 2, none⟩ (.int .i64 p)).setCell ⟨w.heap.size, 3, none⟩ (.int .i64 0)).setCell ⟨w.heap.size, 4, none⟩ (.int .i64 0)).setCell ⟨w.heap.size, 5, none⟩ (.string ⟨#[97]⟩)) = W9 at h6 ⊢
    obtain ⟨m0, m1, m2, m3, m4, m5⟩ := h6.z
    have hz9 : w.heap.size < W9.heap.size := h6.lt
    clear h6
    unfold spV ofP
    simp [results, Try.results14, go_sem, m0, m1, m2, m3, m4, m5, hz9]) rfl ⟨rfl, hbel⟩
end Go.Proofs.Ytbbdijnkgkabbaa
