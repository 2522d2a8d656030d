import Derived.Test.YtionbmlicmibgaaGreatDoorX2
namespace Go.Proofs.YtionbmlicmibgaaGreatDoor
set_option linter.unusedVariables false
set_option linter.unusedSimpArgs false
open Go.RowKit
end Go.Proofs.YtionbmlicmibgaaGreatDoor
