import Derived.Test.YtionbmlicmibgaaGreatDoorMcArg
import Derived.SizedLaws
namespace Go.Proofs.YtionbmlicmibgaaGreatDoor
set_option linter.unusedVariables false
set_option linter.unusedSimpArgs false
open Go.RowKit Go.Deep Go.ChangeShapes
end Go.Proofs.YtionbmlicmibgaaGreatDoor
