/- Which message may be: the document. -/
import Derived.Test.YtiiollgipfggmaaNRefChkB
import Derived.Test.YtiiollgipfggmaaNRefChk3
import Derived.Test.YtiiollgipfggmaaNRefChk5
import Derived.Test.YtiiollgipfggmaaNRefChkN
namespace Go.Proofs.Ytiiollgipfggmaa
open Go.RowKit
theorem refCheckM_any {w : World} {m : Ms} {ve vv vd : Value} (h : MsV w m ve vv vd) : Calls Try.prog 45 #[msA m ve vv vd] w fun e w' => e = .returned (.int .i64 (chkM m)) ∧ Below w.heap.size w w' := by
  by_cases h1 : m.k = 1 ∨ m.k = 2 ∨ m.k = 4 ∨ m.k = 6
  · exact refCheckB_any h h1
  · by_cases h3 : m.k = 3
    · exact refCheck3_any h h3
    · by_cases h5 : m.k = 5
      · exact refCheck5_any h h5
      · exact refCheckN_any h ⟨h1, h3, h5⟩
end Go.Proofs.Ytiiollgipfggmaa
