import Derived.Test.YtionbmlicmibgaaGreatDoorMcApp
namespace Go.Proofs.YtionbmlicmibgaaGreatDoor
set_option linter.unusedVariables false
set_option linter.unusedSimpArgs false
open Go.RowKit
theorem mindex_any {w : World} {gm : Nat} {P : Pm} {m : Mp} (h : MkIs w gm P m) : Calls Tryz.prog 40 #[.pointer (some ⟨gm, 0, none⟩)] w fun e w' => e = .returned (.int .i64 m.ix) ∧ w' = w := by
 have h0 := h.cell
 have h1 := h.is.row.c2
 have HM := hide h
 clear h
 go_enter Tryz.func40, Tryz.ntmps40
 go_wp2_with fail
 refine (mmade_any HM.out).mono ?_
 rintro e w2 ⟨rfl, rfl⟩
 go_wp2_with fail
 go_ret
 exact ⟨rfl, rfl⟩
theorem mterm_any {w : World} {gm : Nat} {P : Pm} {m : Mp} (h : MkIs w gm P m) : Calls Tryz.prog 41 #[.pointer (some ⟨gm, 0, none⟩)] w fun e w' => e = .returned (.int .i64 m.tm) ∧ w' = w := by
 have h0 := h.cell
 have h1 := h.is.row.c3
 have HM := hide h
 clear h
 go_enter Tryz.func41, Tryz.ntmps41
 go_wp2_with fail
 refine (mmade_any HM.out).mono ?_
 rintro e w2 ⟨rfl, rfl⟩
 go_wp2_with fail
 go_ret
 exact ⟨rfl, rfl⟩
theorem mtraces_tell {w : World} {gm : Nat} {P : Pm} {m : Mp} (h : MkIs w gm P m) : Calls Tryz.prog 42 #[.pointer (some ⟨gm, 0, none⟩)] w (TracesPost w P.R) := by
 have h0 := h.cell
 have h1 := h.is.row.c0
 have HM := hide h
 have HC := hide (straces_any h.is.so)
 clear h
 go_enter Tryz.func42, Tryz.ntmps42
 go_wp2_with fail
 refine (mmade_any HM.out).mono ?_
 rintro e w2 ⟨rfl, rfl⟩
 go_wp2_with fail
 refine HC.out.mono ?_
 rintro e w3 ⟨v', rfl, ho, hb⟩
 go_wp2_with fail
 go_ret
 exact ⟨_, rfl, ho, hb⟩
end Go.Proofs.YtionbmlicmibgaaGreatDoor
