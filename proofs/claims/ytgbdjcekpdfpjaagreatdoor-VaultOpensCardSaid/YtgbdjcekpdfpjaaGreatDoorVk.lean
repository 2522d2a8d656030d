import Derived.Test.YtgbdjcekpdfpjaaGreatDoorVh
import Derived.SizedLaws
set_option linter.unusedVariables false
set_option linter.unusedSimpArgs false
namespace Go.Proofs.YtgbdjcekpdfpjaaGreatDoor
open Go.RowKit
end Go.Proofs.YtgbdjcekpdfpjaaGreatDoor
