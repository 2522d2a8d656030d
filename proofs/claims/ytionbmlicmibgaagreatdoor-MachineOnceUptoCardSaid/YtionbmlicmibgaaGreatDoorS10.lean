import Derived.Test.YtionbmlicmibgaaGreatDoorS9
namespace Go.Proofs.YtionbmlicmibgaaGreatDoor
set_option linter.unusedVariables false
set_option linter.unusedSimpArgs false
open Go.RowKit
theorem tr_fst (R : List Tr) : R.map (·.t) = (R.map Tr.pl).map Prod.fst := by rw [List.map_map]; rfl
section
variable {w w' : World} {gs bm : Nat} {R R' : List Tr}
end
end Go.Proofs.YtionbmlicmibgaaGreatDoor
namespace Go.Proofs.YtionbmlicmibgaaGreatDoor
set_option linter.unusedVariables false
set_option linter.unusedSimpArgs false
open Go.RowKit
def modOfB (m : Nat) (x : Int) : Nat := (wrap64 ((IntKind.u64.wrap x).tmod m)).toNat
theorem modOfB_ok {m : Nat} (h0 : 0 < m) (hm : m ≤ 1048576) (x : Int) : (modOfB m x : Int) = wrap64 ((IntKind.u64.wrap x).tmod m) ∧ modOfB m x < m := by
 obtain ⟨y, hy⟩ : ∃ y : Nat, IntKind.u64.wrap x = y := ⟨(IntKind.u64.wrap x).toNat, by
  have h1 : 0 ≤ IntKind.u64.wrap x := by
   rw [IntKind.wrap_u64]
   omega
  omega⟩
 have h2 : (IntKind.u64.wrap x).tmod m = ((y % m : Nat) : Int) := by
  rw [hy]
  exact Int.ofNat_tmod y m
 have h4 : y % m < m := Nat.mod_lt _ h0
 have h3 : wrap64 ((y % m : Nat) : Int) = ((y % m : Nat) : Int) := by
  unfold wrap64
  omega
 unfold modOfB
 rw [h2, h3]
 omega
end Go.Proofs.YtionbmlicmibgaaGreatDoor
namespace Go.Proofs.YtionbmlicmibgaaGreatDoor
set_option linter.unusedVariables false
set_option linter.unusedSimpArgs false
def nm (y : Pl) : Pl := (y.1, sortS y.2)
end Go.Proofs.YtionbmlicmibgaaGreatDoor
