import Derived.Test.YtgbdjcekpdfpjaaGreatDoorDc
import Derived.Lib.SlBytesConst
set_option linter.unusedVariables false
set_option linter.unusedSimpArgs false
namespace Go.Proofs.YtgbdjcekpdfpjaaGreatDoor
open Go.RowKit
end Go.Proofs.YtgbdjcekpdfpjaaGreatDoor
