/- Session: TLdPure TNext TLoad. -/
import Derived.Test.YtionbmlicmibgaaGreatDoorX2
import Derived.Test.YtionbmlicmibgaaGreatDoorS14
import Derived.Test.YtionbmlicmibgaaGreatDoorS15
/- What bytes tell of a table, plainly. -/
namespace Go.Proofs.YtionbmlicmibgaaGreatDoor
set_option linter.unusedVariables false
set_option linter.unusedSimpArgs false

end Go.Proofs.YtionbmlicmibgaaGreatDoor
/- The session whose bytes come next. -/
namespace Go.Proofs.YtionbmlicmibgaaGreatDoor
set_option linter.unusedVariables false
set_option linter.unusedSimpArgs false
open Go.RowKit

end Go.Proofs.YtionbmlicmibgaaGreatDoor
/- Load. -/
namespace Go.Proofs.YtionbmlicmibgaaGreatDoor
set_option linter.unusedVariables false
set_option linter.unusedSimpArgs false
open Go.RowKit

theorem TbOwn.grown {w0 w w' : World} {g b k : Nat} {L : List St} (h : TbOwn w0 g b w L) (hg : w.grownBy w' (some k)) (h1 : k ≠ g) (h2 : k ≠ b) (hk : w0.heap.size ≤ k) : TbOwn w0 g b w' L :=
 have hc : Chg w w' (fun j => j = k) := Chg.of_grown hg _ (fun j e => by injection e with e; exact .inl e.symm)
 ⟨h.tb.chg hc (fun e => h1 e.symm) (fun e => h2 e.symm), h.gl, h.bl, Chg.to_below h.below hc (fun j e => by rw [e]; exact hk)⟩
end Go.Proofs.YtionbmlicmibgaaGreatDoor
