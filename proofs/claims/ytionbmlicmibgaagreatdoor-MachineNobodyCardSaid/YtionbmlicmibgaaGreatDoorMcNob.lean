/- A machine that no call made. -/
import Derived.Test.YtionbmlicmibgaaGreatDoorMcCln
namespace Go.Proofs.YtionbmlicmibgaaGreatDoor
set_option linter.unusedVariables false
set_option linter.unusedSimpArgs false
open Go.RowKit

/-- No machine. -/
def NoM (w : World) (v : Value) : Prop := v = .pointer none ∨ ∃ g, v = .pointer (some ⟨g, 0, none⟩) ∧ w.cell? ⟨g, 0, none⟩ = some (.pointer none)
theorem NoM.below {w w' : World} {v : Value} (h : NoM w v) (hb : Below w.heap.size w w') : NoM w' v := by
  rcases h with rfl | ⟨g, rfl, hc⟩
  · exact .inl rfl
  · exact .inr ⟨g, rfl, (hb.cell (lt_of_cell hc)).trans hc⟩
set_option maxRecDepth 200000 in
set_option maxHeartbeats 1000000 in
theorem mmade_no {w : World} {v : Value} (h : NoM w v) : Calls Tryz.prog 76 #[v] w fun e w' => e = .returned (.bool false) ∧ w' = w := by
  rcases h with rfl | ⟨g, rfl, c0⟩
  · go_enter Tryz.func76, Tryz.ntmps76
    go_wp2
    go_ret
    exact ⟨rfl, rfl⟩
  · go_enter Tryz.func76, Tryz.ntmps76
    go_wp2
    go_ret
    exact ⟨rfl, rfl⟩
set_option maxRecDepth 200000 in
set_option maxHeartbeats 1000000 in
theorem mindex_no {w : World} {v : Value} (h : NoM w v) : Calls Tryz.prog 40 #[v] w fun e w' => e = .returned (.int .i64 0) ∧ w' = w := by
  have HM := hide (mmade_no h)
  clear h
  go_enter Tryz.func40, Tryz.ntmps40
  go_wp2_with fail
  refine HM.out.mono ?_
  rintro e1 w1 ⟨rfl, rfl⟩
  go_wp2
  go_ret
  exact ⟨rfl, rfl⟩
set_option maxRecDepth 200000 in
set_option maxHeartbeats 1000000 in
theorem mterm_no {w : World} {v : Value} (h : NoM w v) : Calls Tryz.prog 41 #[v] w fun e w' => e = .returned (.int .i64 0) ∧ w' = w := by
  have HM := hide (mmade_no h)
  clear h
  go_enter Tryz.func41, Tryz.ntmps41
  go_wp2_with fail
  refine HM.out.mono ?_
  rintro e1 w1 ⟨rfl, rfl⟩
  go_wp2
  go_ret
  exact ⟨rfl, rfl⟩
set_option maxRecDepth 200000 in
set_option maxHeartbeats 1000000 in
theorem mvoters_no {w : World} {v : Value} (h : NoM w v) : Calls Tryz.prog 50 #[v] w fun e w' => e = .returned (.slice none 0 0) ∧ w' = w := by
  have HM := hide (mmade_no h)
  clear h
  go_enter Tryz.func50, Tryz.ntmps50
  go_wp2_with fail
  refine HM.out.mono ?_
  rintro e1 w1 ⟨rfl, rfl⟩
  go_wp2
  go_ret
  exact ⟨rfl, rfl⟩
set_option maxRecDepth 200000 in
set_option maxHeartbeats 1000000 in
theorem mlookup_no {w : World} {v : Value} (h : NoM w v) (k : Int) : Calls Tryz.prog 47 #[v, .int .i64 k] w fun e w' => e = .returned (.slice none 0 0) ∧ w' = w := by
  have HM := hide (mmade_no h)
  clear h
  go_enter Tryz.func47, Tryz.ntmps47
  go_wp2_with fail
  refine HM.out.mono ?_
  rintro e1 w1 ⟨rfl, rfl⟩
  go_wp2
  go_ret
  exact ⟨rfl, rfl⟩
set_option maxRecDepth 200000 in
set_option maxHeartbeats 1000000 in
theorem mtraces_no {w : World} {v : Value} (h : NoM w v) : Calls Tryz.prog 42 #[v] w fun e w' => e = .returned (.slice none 0 0) ∧ w' = w := by
  have HM := hide (mmade_no h)
  clear h
  go_enter Tryz.func42, Tryz.ntmps42
  go_wp2_with fail
  refine HM.out.mono ?_
  rintro e1 w1 ⟨rfl, rfl⟩
  go_wp2
  go_ret
  exact ⟨rfl, rfl⟩
set_option maxRecDepth 200000 in
set_option maxHeartbeats 1000000 in
theorem mseats_no {w : World} {v : Value} (h : NoM w v) : Calls Tryz.prog 44 #[v] w fun e w' => e = .returned (.slice none 0 0) ∧ w' = w := by
  have HM := hide (mmade_no h)
  clear h
  go_enter Tryz.func44, Tryz.ntmps44
  go_wp2_with fail
  refine HM.out.mono ?_
  rintro e1 w1 ⟨rfl, rfl⟩
  go_wp2
  go_ret
  exact ⟨rfl, rfl⟩
set_option maxRecDepth 200000 in
set_option maxHeartbeats 1000000 in
theorem mimage_no {w : World} {v : Value} (h : NoM w v) : Calls Tryz.prog 39 #[v] w fun e w' => e = .returned (.slice none 0 0) ∧ w' = w := by
  have HM := hide (mmade_no h)
  clear h
  go_enter Tryz.func39, Tryz.ntmps39
  go_wp2_with fail
  refine HM.out.mono ?_
  rintro e1 w1 ⟨rfl, rfl⟩
  go_wp2
  go_ret
  exact ⟨rfl, rfl⟩
set_option maxRecDepth 200000 in
set_option maxHeartbeats 1000000 in
theorem mclone_no {w : World} {v : Value} (h : NoM w v) : Calls Tryz.prog 43 #[v] w fun e w' => e = .returned (.pointer none) ∧ w' = w := by
  have HM := hide (mmade_no h)
  clear h
  go_enter Tryz.func43, Tryz.ntmps43
  go_wp2_with fail
  refine HM.out.mono ?_
  rintro e1 w1 ⟨rfl, rfl⟩
  go_wp2
  go_ret
  exact ⟨rfl, rfl⟩
set_option maxRecDepth 200000 in
set_option maxHeartbeats 4000000 in
theorem mapply_no {w : World} {v : Value} (h : NoM w v) (ix tm : Int) (p : Option Addr) (n c : Nat) : Calls Tryz.prog 32 #[v, .agg #[.int .i64 ix, .int .i64 tm, .slice p n c]] w fun e w' => e = .returned (.tuple #[.agg #[.int .i64 0, .int .i64 0, .int .i64 0, .int .i64 0, .int .i64 0, .int .i64 0, .int .i64 0, .int .i64 0], .int .i64 6]) ∧ Below w.heap.size w w' := by
  have hA := (Below.refl w.heap.size w).alloc (Nat.le_refl _) (.cells #[.int .i64 ix, .int .i64 tm, .slice p n c] 55)
  have hB := hA.alloc (o := .cells #[.int .i64 0, .int .i64 0, .int .i64 0, .int .i64 0, .int .i64 0, .int .i64 0, .int .i64 0, .int .i64 0] 66) hA.size
  have HM := hide (mmade_no (h.below hB))
  have hr := RowR.new (w.alloc (.cells #[.int .i64 ix, .int .i64 tm, .slice p n c] 55)) rp0
  have hrs : (w.alloc (.cells #[.int .i64 ix, .int .i64 tm, .slice p n c] 55)).heap.size = w.heap.size + 1 := by simp
  rw [hrs] at hr
  have HB := hide hB
  have HR := hide hr
  clear h hA hB hr hrs
  go_enter Tryz.func32, Tryz.ntmps32
  go_wp2_with fail
  refine HM.out.mono ?_
  rintro e1 w1 ⟨rfl, e⟩
  obtain ⟨X, hX⟩ : ∃ X, (w.alloc (.cells #[.int .i64 ix, .int .i64 tm, .slice p n c] 55)).alloc (.cells #[.int .i64 0, .int .i64 0, .int .i64 0, .int .i64 0, .int .i64 0, .int .i64 0, .int .i64 0, .int .i64 0] 66) = X := ⟨_, rfl⟩
  have HB1 : Hid (Below w.heap.size w X) := hide (by rw [← hX]; exact HB.out)
  have HR1 : Hid (RowR X (w.heap.size + 1) rp0) := hide (by rw [← hX]; exact HR.out)
  rw [hX] at e
  subst e
  clear hX HB HR HM
  obtain ⟨r, hr⟩ : ∃ r, w.heap.size + 1 = r := ⟨_, rfl⟩
  have HRW : Hid (w.heap.size ≤ r) := hide (by omega)
  rw [hr] at HR1 ⊢
  clear hr
  obtain ⟨z0, z1, z2, z3, z4, z5, z6, z7⟩ := HR1.out.z
  obtain ⟨f0, f1, f2, f3, f4, f5, f6, f7⟩ := HR1.out.f
  go_wp2_with fail
  have hst := setR_row HR1.out rp0
  have hcs := setR_chg w1 r rp0
  unfold setR rp0 at hst hcs
  try dsimp only at hst hcs
  refine bodyPost_ret (v := .tuple #[.agg #[.int .i64 0, .int .i64 0, .int .i64 0, .int .i64 0, .int .i64 0, .int .i64 0, .int .i64 0, .int .i64 0], .int .i64 6]) (by
    generalize World.setCell (World.setCell (World.setCell (World.setCell (World.setCell (World.setCell (World.setCell (World.setCell w1 ⟨r, 0, none⟩ (.int .i64 0)) ⟨r, 1, none⟩ (.int .i64 0)) ⟨r, 2, none⟩ (.int .i64 0)) ⟨r, 3, none⟩ (.int .i64 0)) ⟨r, 4, none⟩ (.int .i64 0)) ⟨r, 5, none⟩ (.int .i64 0)) ⟨r, 6, none⟩ (.int .i64 0)) ⟨r, 7, none⟩ (.int .i64 0) = W9 at hst ⊢
    obtain ⟨m0, m1, m2, m3, m4, m5, m6, m7⟩ := hst.z
    try dsimp only at m0 m1 m2 m3 m4 m5 m6 m7
    simp [results, Tryz.results32, go_sem, m0, m1, m2, m3, m4, m5, m6, m7]) rfl ?_
  exact ⟨rfl, Chg.to_below HB1.out hcs (fun k e => by rw [e]; exact HRW.out)⟩
end Go.Proofs.YtionbmlicmibgaaGreatDoor
