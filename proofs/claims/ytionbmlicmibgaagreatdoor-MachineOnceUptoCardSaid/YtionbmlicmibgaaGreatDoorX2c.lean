import Derived.Test.YtionbmlicmibgaaGreatDoorX2
namespace Go.Proofs.YtionbmlicmibgaaGreatDoor
set_option linter.unusedVariables false
set_option linter.unusedSimpArgs false
open Go.RowKit
def TClonePost (w : World) (L : List St) (e : Ending) (w' : World) : Prop := ∃ g b, e = .returned (.pointer (some ⟨g, 0, none⟩)) ∧ TbIs w' g b L ∧ w.heap.size ≤ g ∧ w.heap.size ≤ b ∧ Below w.heap.size w w'
theorem below_of_chg {w w' : World} (h : Chg w w' fun _ => False) : Below w.heap.size w w' := ⟨h.os, h.tape, h.output, h.size, fun k hk => h.block k hk fun e => e⟩
set_option maxRecDepth 200000 in
set_option maxHeartbeats 2000000 in
theorem tclone_any {w : World} {g b : Nat} {L : List St} (h : TbIs w g b L) : Calls Tryz.prog 131 #[.pointer (some ⟨g, 0, none⟩)] w (TClonePost w L) := by
 have HM := hide (ses_made_any h.c0)
 have HH := hide h
 obtain ⟨D, hD⟩ := h.map
 have HD := hide hD
 clear h hD
 go_enter Tryz.func131, Tryz.ntmps131
 go_wp2_with fail
 refine HM.out.mono ?_
 rintro e1 X ⟨rfl, hc1⟩
 have HX := hide hc1
 have HY := hide (HH.out.chg hc1 (fun e => e) (fun e => e))
 have HDX := hide (HD.out.chg hc1 (fun e => e))
 clear hc1 HM
 have HT := hide (AnyW.maps_Clone_owns Tryz.cloneTb 3 heldA b L.length D X HDX.out.map)
 have c0 := HY.out.c0
 go_wp2_with fail
 refine HT.out.mono ?_
 rintro e7 w7 ⟨rfl, hm7, _, hb7⟩
 have HM7 := hide hm7
 have HB7 := hide hb7
 clear hm7 hb7 HT c0
 go_wp2
 go_ret
 have hlt := HM7.out.lt
 have hA := heap_alloc_new w7 (.cells #[.map (some X.heap.size)] 173)
 refine ⟨w7.heap.size, X.heap.size, rfl, ⟨cell_of_row _ _ 0 _ 173 (0, 0) hA, by omega, ⟨D, ?_⟩, HY.out.ok⟩, ?_, HX.out.size, ?_⟩
 ·exact (⟨HM7.out, HDX.out.rd⟩ : TmIs w7 X.heap.size L D).below ((Below.refl _ _).alloc (Nat.le_refl _) _)
 ·have := HB7.out.size; have := HX.out.size; omega
 ·have h2 := (below_of_chg HX.out).trans (HB7.out.mono HX.out.size)
  exact h2.alloc h2.size _
end Go.Proofs.YtionbmlicmibgaaGreatDoor
