/- A machine's image. -/
import Derived.Test.YtionbmlicmibgaaGreatDoorMcNew
namespace Go.Proofs.YtionbmlicmibgaaGreatDoor
set_option linter.unusedVariables false
set_option linter.unusedSimpArgs false
open Go.RowKit

theorem ns_three (w : World) (a b c : Int) (ha : fits a) (hb : fits b) (hc : fits c) : Ns (w.alloc (.cells #[.int .i64 a, .int .i64 b, .int .i64 c] 3)) (.slice (some ⟨w.heap.size, 0, none⟩) 3 3) [a, b, c] := by
  refine ⟨_, 3, rfl, Nat.le_refl _, by simp [maxLen], (fun e => by cases e), (by simpa using ⟨ha, hb, hc⟩), fun _ => ⟨w.heap.size, 0, rfl, fun i x hx => ?_⟩⟩
  have h := cell_of_row _ w.heap.size i _ 3 (0, 0) (heap_alloc_new w (.cells #[.int .i64 a, .int .i64 b, .int .i64 c] 3))
  rw [Nat.zero_add, h]
  match i, hx with
  | 0, hx => simpa using hx
  | 1, hx => simpa using hx
  | 2, hx => simpa using hx
  | i + 3, hx => simp at hx
end Go.Proofs.YtionbmlicmibgaaGreatDoor
