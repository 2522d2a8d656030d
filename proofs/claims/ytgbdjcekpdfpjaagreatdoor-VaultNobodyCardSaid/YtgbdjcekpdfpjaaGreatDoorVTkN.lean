/- No intake. -/
import Derived.Test.YtgbdjcekpdfpjaaGreatDoorVk
namespace Go.Proofs.YtgbdjcekpdfpjaaGreatDoor
set_option linter.unusedVariables false
set_option linter.unusedSimpArgs false
open Go.RowKit

theorem vhave_nil (w : World) (ix tm : Int) : Calls Tryz.prog 37 #[.pointer none, .int .i64 ix, .int .i64 tm] w fun e w' => e = .returned (.int .i64 0) ∧ w' = w := by
  go_enter Tryz.func37, Tryz.ntmps37
  go_wp2
  go_ret
  exact ⟨rfl, rfl⟩
theorem vtake_nil (w : World) (ix tm at_ : Int) (pv : Value) (d : Bool) : Calls Tryz.prog 38 #[.pointer none, .int .i64 ix, .int .i64 tm, .int .i64 at_, pv, .bool d] w fun e w' => e = .returned (.tuple #[.slice none 0 0, .bool false, .int .i64 6]) ∧ w' = w := by
  go_enter Tryz.func38, Tryz.ntmps38
  go_wp2
  refine bodyPost_ret (v := .tuple #[.slice none 0 0, .bool false, .int .i64 6]) (by simp [results, Tryz.results38, go_sem]) rfl ?_
  exact ⟨rfl, rfl⟩
end Go.Proofs.YtgbdjcekpdfpjaaGreatDoor
