/- The document's Expire. -/
import Derived.Test.YtfbndbmhnpleoaaTRef3
namespace Go.Proofs.Ytfbndbmhnpleoaa
set_option linter.unusedVariables false
set_option linter.unusedSimpArgs false
open Go.RowKit

end Go.Proofs.Ytfbndbmhnpleoaa
