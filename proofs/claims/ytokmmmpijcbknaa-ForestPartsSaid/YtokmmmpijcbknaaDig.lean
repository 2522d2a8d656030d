/- The document's own digits of a number, and a number, a text and a flag put behind bytes, by the document and by the program. -/
import Derived.Test.YtokmmmpijcbknaaNum
import Derived.Deep.AppendLies
namespace Go.Proofs.Ytokmmmpijcbknaa
open Go.RowKit

theorem lim_le {N : Nat} (h : N < lim) : (N : Int) ≤ 9223372036854775807 := by unfold lim at h; omega

end Go.Proofs.Ytokmmmpijcbknaa
