/- A forest in memory: made, Len, Find. -/
import Derived.Test.YtbbdijnkgkabbaaFPut
namespace Go.Proofs.Ytbbdijnkgkabbaa
set_option linter.unusedVariables false
set_option linter.unusedSimpArgs false
open Go.RowKit

/-- What the spans of a forest keep. -/
structure FoOk (tr : Int) (L : List Sp) : Prop where
  ids : L.Pairwise fun x y => x.i ≠ y.i
  rises : NoRing L
  ok : ∀ x ∈ L, x.ok = true ∧ x.t = tr
  len : L.length ≤ 64
/-- A forest in the block g, its bag in b. -/
structure FoIs (w : World) (g b : Nat) (tr : Int) (L : List Sp) : Prop where
  c0 : w.cell? ⟨g, 0, none⟩ = some (.map (some b))
  c1 : w.cell? ⟨g, 1, none⟩ = some (.int .i64 tr)
  ne : g ≠ b
  bag : ∃ D, BagIs w b L D
  ok : FoOk tr L

theorem FoIs.below {w w' : World} {g b : Nat} {tr : Int} {L : List Sp} (h : FoIs w g b tr L) (hb : Below w.heap.size w w') : FoIs w' g b tr L :=
  ⟨(hb.cell (lt_of_cell h.c0)).trans h.c0, (hb.cell (lt_of_cell h.c1)).trans h.c1, h.ne, by obtain ⟨D, hD⟩ := h.bag; exact ⟨D, hD.below hb⟩, h.ok⟩
theorem FoIs.drewN {w : World} {g b : Nat} {tr : Int} {L : List Sp} (h : FoIs w g b tr L) (q : Nat) : FoIs (w.drewN q) g b tr L :=
  ⟨h.c0, h.c1, h.ne, by obtain ⟨D, hD⟩ := h.bag; exact ⟨D, hD.drewN q⟩, h.ok⟩

theorem bdrew {B : Nat} (w : World) (q : Nat) : Below B w (w.drewN q) := ⟨rfl, rfl, rfl, Nat.le_refl _, fun _ _ => rfl⟩
theorem bset {B : Nat} {w V : World} (h : Below B w V) {g i : Nat} {x : Value} (hB : B ≤ g) : Below B w (V.setCell ⟨g, i, none⟩ x) :=
  ⟨h.os, h.tape, h.output, by have := h.size; simpa [World.setCell] using this, fun k hk => (heap_setCell_other V ⟨g, i, none⟩ k _ (by simp; omega)).trans (h.block k hk)⟩
theorem run_some_map (b : Nat) (w : World) : (binOp .neq 47 (.map (some b)) (.map none)).run Try.prog w = .ok (.bool true) w := by
  kernel_rfl

set_option maxRecDepth 200000 in
set_option maxHeartbeats 1000000 in
theorem made_any {w : World} {g b : Nat} {tr : Int} {L : List Sp} (h : FoIs w g b tr L) : Calls Try.prog 17 #[.pointer (some ⟨g, 0, none⟩)] w fun e w' => e = .returned (.bool true) ∧ ∃ q, w' = w.drewN q := by
  have c0 := h.c0
  clear h
  have hneq := run_some_map b
  go_enter Try.func17, Try.ntmps17
  go_wp2
  go_ret
  exact ⟨rfl, 0, rfl⟩

set_option maxRecDepth 200000 in
set_option maxHeartbeats 1000000 in
theorem len_any {w : World} {g b : Nat} {tr : Int} {L : List Sp} (h : FoIs w g b tr L) : Calls Try.prog 23 #[.pointer (some ⟨g, 0, none⟩)] w fun e w' => e = .returned (.int .i64 (L.length : Nat)) ∧ ∃ q, w' = w.drewN q := by
  have HM := hide (made_any h)
  have c0 := h.c0
  obtain ⟨D, hD⟩ := h.bag
  have hlen := fun q => (hD.drewN q).map.len Try.underlying47 3
  rw [hD.size] at hlen
  clear h hD
  go_enter Try.func23, Try.ntmps23
  go_wp2_with fail
  refine HM.out.mono ?_
  rintro e1 w1 ⟨rfl, q, rfl⟩
  have hlen1 := hlen q
  go_wp2
  go_ret
  exact ⟨rfl, q, rfl⟩

set_option maxRecDepth 200000 in
set_option maxHeartbeats 1000000 in
theorem find_any {w : World} {g b : Nat} {tr : Int} {L : List Sp} (h : FoIs w g b tr L) {k : Int} (hk : (Lit.int .i64 k).wf = true) : Calls Try.prog 12 #[.pointer (some ⟨g, 0, none⟩), .int .i64 k] w fun e w' => e = .returned (.tuple #[spV ((fnd L k).getD sp0), .bool (fnd L k).isSome]) ∧ Below w.heap.size w w' := by
  have HM := hide (made_any (h.below (w' := w.alloc (.cells #[.int .i64 0, .int .i64 0, .int .i64 0, .int .i64 0, .int .i64 0, .string ByteArray.empty] 33)) ((Below.refl _ _).alloc (Nat.le_refl _) _)))
  have c0 := h.c0
  have hg := lt_of_cell c0
  have hgn : g ≠ w.heap.size := by simp only at hg; omega
  obtain ⟨D, hD0⟩ := h.bag
  have hD := hD0.grown (World.grownBy_alloc w (.cells #[.int .i64 0, .int .i64 0, .int .i64 0, .int .i64 0, .int .i64 0, .string ByteArray.empty] 33) none) (by simp)
  have hl := fun q => (hD.look hk q).1
  obtain ⟨u, hu⟩ : ∃ u, (fnd L k).getD sp0 = u := ⟨_, rfl⟩
  rw [hu] at hl ⊢
  unfold spV at *
  clear h hD hD0
  go_enter Try.func12, Try.ntmps12
  go_wp2_with fail
  refine HM.out.mono ?_
  rintro e1 w1 ⟨rfl, q, rfl⟩
  have hl1 := hl q
  have hA : ((w.alloc (.cells #[.int .i64 0, .int .i64 0, .int .i64 0, .int .i64 0, .int .i64 0, .string ByteArray.empty] 33)).drewN q).heap[w.heap.size]? = some (.cells #[.int .i64 0, .int .i64 0, .int .i64 0, .int .i64 0, .int .i64 0, .string ByteArray.empty] 33) := by
    show (w.heap.push _)[w.heap.size]? = some _
    exact Array.getElem?_push_size
  go_wp2
  refine bodyPost_ret (v := .tuple #[.agg #[.int .i64 u.t, .int .i64 u.i, .int .i64 u.p, .int .i64 u.s, .int .i64 u.e, .string u.n], .bool (fnd L k).isSome]) (by
    have q0 := heap_setCell_same ((w.alloc (.cells #[.int .i64 0, .int .i64 0, .int .i64 0, .int .i64 0, .int .i64 0, .string ByteArray.empty] 33)).drewN q) w.heap.size 0 _ 33 (.int .i64 u.t) hA
    have q1 := heap_setCell_same _ w.heap.size 1 _ 33 (.int .i64 u.i) q0
    have q2 := heap_setCell_same _ w.heap.size 2 _ 33 (.int .i64 u.p) q1
    have q3 := heap_setCell_same _ w.heap.size 3 _ 33 (.int .i64 u.s) q2
    have q4 := heap_setCell_same _ w.heap.size 4 _ 33 (.int .i64 u.e) q3
    have q5 := heap_setCell_same _ w.heap.size 5 _ 33 (.string u.n) q4
    generalize ((((((((w.alloc (.cells #[.int .i64 0, .int .i64 0, .int .i64 0, .int .i64 0, .int .i64 0, .string ByteArray.empty] 33)).drewN q).setCell ⟨w.heap.size, 0, none⟩ (.int .i64 u.t)).setCell ⟨w.heap.size, 1, none⟩ (.int .i64 u.i)).setCell ⟨w.heap.size, 2, none⟩ (.int .i64 u.p)).setCell ⟨w.heap.size, 3, none⟩ (.int .i64 u.s)).setCell ⟨w.heap.size, 4, none⟩ (.int .i64 u.e)).setCell ⟨w.heap.size, 5, none⟩ (.string u.n)) = W9 at q5 ⊢
    have m0 : W9.cell? ⟨w.heap.size, 0, none⟩ = some (.int .i64 u.t) := cell_of_row W9 w.heap.size 0 _ 33 (0, 0) q5
    have m1 : W9.cell? ⟨w.heap.size, 1, none⟩ = some (.int .i64 u.i) := cell_of_row W9 w.heap.size 1 _ 33 (0, 0) q5
    have m2 : W9.cell? ⟨w.heap.size, 2, none⟩ = some (.int .i64 u.p) := cell_of_row W9 w.heap.size 2 _ 33 (0, 0) q5
    have m3 : W9.cell? ⟨w.heap.size, 3, none⟩ = some (.int .i64 u.s) := cell_of_row W9 w.heap.size 3 _ 33 (0, 0) q5
    have m4 : W9.cell? ⟨w.heap.size, 4, none⟩ = some (.int .i64 u.e) := cell_of_row W9 w.heap.size 4 _ 33 (0, 0) q5
    have m5 : W9.cell? ⟨w.heap.size, 5, none⟩ = some (.string u.n) := cell_of_row W9 w.heap.size 5 _ 33 (0, 0) q5
    have hz9 : w.heap.size < W9.heap.size := lt_of_cell m0
    clear q0 q1 q2 q3 q4 q5
    simp [results, Try.results12, go_sem, m0, m1, m2, m3, m4, m5, hz9]) rfl ⟨rfl, ?_⟩
  have hbel : Below w.heap.size w ((((((((w.alloc (.cells #[.int .i64 0, .int .i64 0, .int .i64 0, .int .i64 0, .int .i64 0, .string ByteArray.empty] 33)).drewN q).setCell ⟨w.heap.size, 0, none⟩ (.int .i64 u.t)).setCell ⟨w.heap.size, 1, none⟩ (.int .i64 u.i)).setCell ⟨w.heap.size, 2, none⟩ (.int .i64 u.p)).setCell ⟨w.heap.size, 3, none⟩ (.int .i64 u.s)).setCell ⟨w.heap.size, 4, none⟩ (.int .i64 u.e)).setCell ⟨w.heap.size, 5, none⟩ (.string u.n)) := (bset (bset (bset (bset (bset (bset (((Below.refl w.heap.size w).alloc (Nat.le_refl _) (.cells #[.int .i64 0, .int .i64 0, .int .i64 0, .int .i64 0, .int .i64 0, .string ByteArray.empty] 33)).trans (bdrew _ q)) (Nat.le_refl _)) (Nat.le_refl _)) (Nat.le_refl _)) (Nat.le_refl _)) (Nat.le_refl _)) (Nat.le_refl _))
  exact hbel.alloc hbel.size _
end Go.Proofs.Ytbbdijnkgkabbaa
