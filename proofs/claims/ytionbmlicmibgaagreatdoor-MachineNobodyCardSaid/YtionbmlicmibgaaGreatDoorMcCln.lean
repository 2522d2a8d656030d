/- A machine copied. -/
import Derived.Test.YtionbmlicmibgaaGreatDoorMcImg
import Derived.Test.YtionbmlicmibgaaGreatDoorX2c
namespace Go.Proofs.YtionbmlicmibgaaGreatDoor
set_option linter.unusedVariables false
set_option linter.unusedSimpArgs false
open Go.RowKit

end Go.Proofs.YtionbmlicmibgaaGreatDoor
