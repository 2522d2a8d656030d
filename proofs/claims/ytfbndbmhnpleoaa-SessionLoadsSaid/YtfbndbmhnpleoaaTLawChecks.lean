/- The law SessionChecks. -/
import Derived.Test.YtfbndbmhnpleoaaTAwake
import Derived.Test.YtfbndbmhnpleoaaTRef1
import Derived.Deep.RegionHeld3
namespace Go.Proofs.Ytfbndbmhnpleoaa
set_option linter.unusedVariables false
set_option linter.unusedSimpArgs false
open Go.RowKit

/-- What a law says. -/
def LawPost (w : World) (e : Ending) (w' : World) : Prop := e = .returned (.bool true) ∧ Below w.heap.size w w'
theorem belY {Y : World} (q : Nat) : Hid (Below Y.heap.size Y (Y.drewN q)) := hide (bdrew Y q)

end Go.Proofs.Ytfbndbmhnpleoaa
