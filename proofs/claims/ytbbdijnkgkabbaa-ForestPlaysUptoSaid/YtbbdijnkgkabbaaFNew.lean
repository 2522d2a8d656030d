/- New. -/
import Derived.Test.YtbbdijnkgkabbaaFForest
namespace Go.Proofs.Ytbbdijnkgkabbaa
set_option linter.unusedVariables false
set_option linter.unusedSimpArgs false
open Go.RowKit

theorem run_makeBag (w : World) : (Instr.makeMap 47 none).run Try.prog w = .ok (.map (some w.heap.size)) (w.alloc (.map #[] 0)) := by
  kernel_rfl

set_option maxRecDepth 200000 in
set_option maxHeartbeats 1000000 in
theorem new_any {w : World} {tr : Int} (h1 : 1 ≤ tr) (h2 : tr ≤ 1099511627776) : Calls Try.prog 4 #[.int .i64 tr] w fun e w' => e = .returned (.pointer (some ⟨w.heap.size + 1, 0, none⟩)) ∧ FoIs w' (w.heap.size + 1) w.heap.size tr [] ∧ Below w.heap.size w w' := by
  have hmk := fun q => run_makeBag (w.drewN q)
  have hmk0 := run_makeBag w
  go_enter Try.func4, Try.ntmps4
  go_wp2
  go_ret
  have hs : (w.alloc (.map #[] 0)).heap.size = w.heap.size + 1 := by simp
  have b1 := (Below.refl w.heap.size w).alloc (Nat.le_refl _) (.map #[] 0)
  refine ⟨rfl, ⟨?_, ?_, by omega, ⟨_, (bag_new w).grown (World.grownBy_alloc _ _ none) (by simp)⟩, ⟨List.Pairwise.nil, noRing_nil, fun x hx => by simp at hx, by simp⟩⟩, b1.alloc b1.size _⟩
  · rw [← hs]
    exact cell_of_row _ _ 0 _ 49 (0, 0) (heap_alloc_new (w.alloc (.map #[] 0)) _)
  · rw [← hs]
    exact cell_of_row _ _ 1 _ 49 (0, 0) (heap_alloc_new (w.alloc (.map #[] 0)) _)
set_option maxRecDepth 200000 in
set_option maxHeartbeats 1000000 in
theorem new_none {w : World} {tr : Int} (h : tr < 1 ∨ 1099511627776 < tr) : Calls Try.prog 4 #[.int .i64 tr] w fun e w' => e = .returned (.pointer none) ∧ w' = w := by
  by_cases h1 : tr < 1
  · clear h
    go_enter Try.func4, Try.ntmps4
    go_wp2
    go_ret
    exact ⟨rfl, rfl⟩
  · have h2 : 1099511627776 < tr := by omega
    clear h
    go_enter Try.func4, Try.ntmps4
    go_wp2
    go_ret
    exact ⟨rfl, rfl⟩
end Go.Proofs.Ytbbdijnkgkabbaa
