/- play. -/
import Derived.Test.YtfedkjaollioaaaGreatSoDo
namespace Go.Proofs.YtfedkjaollioaaaGreat
set_option linter.unusedVariables false
set_option linter.unusedSimpArgs false
open Go.RowKit

/-- Whether a call is Retain. -/
def isRet (op : Int) : Bool := wrap64 ((IntKind.u64.wrap op).tmod 5) == 3
noncomputable def play1 (S : List Pl) (d : Dn) : List Pl := if isRet d.op = true then retS S d.z else ingS S d.L
noncomputable def playF (S : List Pl) (D : List Dn) : List Pl := D.foldl play1 S
noncomputable def playS (D : List Dn) : List Pl := playF [] D
theorem playF_snoc (S : List Pl) (D : List Dn) (d : Dn) : playF S (D ++ [d]) = play1 (playF S D) d := by simp [playF]
theorem play1_ok {S : List Pl} (h : SoOk S) (d : Dn) : SoOk (play1 S d) := by
  unfold play1
  split
  · exact retS_ok h _
  · exact ingS_ok h _
theorem playF_ok {S : List Pl} (h : SoOk S) (D : List Dn) : SoOk (playF S D) := by
  unfold playF
  induction D generalizing S with
  | nil => exact h
  | cons d r ih => exact ih (play1_ok h d)
theorem playS_ok (D : List Dn) : SoOk (playS D) := playF_ok SoOk.nil D
end Go.Proofs.YtfedkjaollioaaaGreat
