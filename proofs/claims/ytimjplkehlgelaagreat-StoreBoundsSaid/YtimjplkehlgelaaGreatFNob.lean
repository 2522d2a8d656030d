/- A forest that New did not make: nil, or a plain one. -/
import Derived.Test.YtimjplkehlgelaaGreatFRange
import Derived.Test.YtimjplkehlgelaaGreatFBr
namespace Go.Proofs.YtimjplkehlgelaaGreat
set_option linter.unusedVariables false
set_option linter.unusedSimpArgs false
open Go.RowKit

/-- Counts as a value. -/
def cnV (c : Cn) : Value := .agg #[.int .i64 (c.add : Nat), .int .i64 (c.same : Nat), .int .i64 (c.other : Nat), .int .i64 (c.cyc : Nat), .int .i64 (c.full : Nat)]
/-- A forest that New did not make. -/
def NoF (w : World) (v : Value) : Prop := v = .pointer none ∨ ∃ g, v = .pointer (some ⟨g, 0, none⟩) ∧ w.cell? ⟨g, 0, none⟩ = some (.map none)
theorem NoF.below {w w' : World} {v : Value} (h : NoF w v) (hb : Below w.heap.size w w') : NoF w' v := by
  rcases h with h | ⟨g, h, hc⟩
  · exact .inl h
  · exact .inr ⟨g, h, (hb.cell (lt_of_cell hc)).trans hc⟩
theorem run_none_map (w : World) : (binOp .neq 103 (.map none) (.map none)).run Tryz.prog w = .ok (.bool false) w := by
  kernel_rfl

set_option maxRecDepth 200000 in
set_option maxHeartbeats 1000000 in
theorem made_no {w : World} {v : Value} (h : NoF w v) : Calls Tryz.prog 60 #[v] w fun e w' => e = .returned (.bool false) ∧ ∃ q, w' = w.drewN q := by
  rcases h with rfl | ⟨g, rfl, c0⟩
  · go_enter Tryz.func60, Tryz.ntmps60
    go_wp2
    go_ret
    exact ⟨rfl, 0, rfl⟩
  · have hneq := run_none_map
    go_enter Tryz.func60, Tryz.ntmps60
    go_wp2
    go_ret
    exact ⟨rfl, 0, rfl⟩

set_option maxRecDepth 200000 in
set_option maxHeartbeats 1000000 in
theorem end_no {w : World} {v : Value} (h : NoF w v) : Calls Tryz.prog 31 #[v] w fun e w' => e = .returned (.int .i64 0) ∧ Below w.heap.size w w' := by
  have HM := hide (made_no h)
  clear h
  go_enter Tryz.func31, Tryz.ntmps31
  go_wp2_with fail
  refine HM.out.mono ?_
  rintro e1 w1 ⟨rfl, q, rfl⟩
  go_wp2
  go_ret
  exact ⟨rfl, bdrew _ q⟩
set_option maxRecDepth 200000 in
set_option maxHeartbeats 1000000 in
theorem spans_no {w : World} {v : Value} (h : NoF w v) : Calls Tryz.prog 54 #[v] w fun e w' => e = .returned (.slice none 0 0) ∧ Below w.heap.size w w' := by
  have HM := hide (made_no h)
  clear h
  go_enter Tryz.func54, Tryz.ntmps54
  go_wp2_with fail
  refine HM.out.mono ?_
  rintro e1 w1 ⟨rfl, q, rfl⟩
  go_wp2
  go_ret
  exact ⟨rfl, bdrew _ q⟩
set_option maxRecDepth 200000 in
set_option maxHeartbeats 1000000 in
theorem branches_no {w : World} {v : Value} (h : NoF w v) : Calls Tryz.prog 57 #[v] w fun e w' => e = .returned (.slice none 0 0) ∧ Below w.heap.size w w' := by
  have HM := hide (made_no h)
  clear h
  go_enter Tryz.func57, Tryz.ntmps57
  go_wp2_with fail
  refine HM.out.mono ?_
  rintro e1 w1 ⟨rfl, q, rfl⟩
  go_wp2
  go_ret
  exact ⟨rfl, bdrew _ q⟩
set_option maxRecDepth 200000 in
set_option maxHeartbeats 1000000 in
theorem clone_no {w : World} {v : Value} (h : NoF w v) : Calls Tryz.prog 33 #[v] w fun e w' => e = .returned (.pointer none) ∧ Below w.heap.size w w' := by
  have HM := hide (made_no h)
  clear h
  go_enter Tryz.func33, Tryz.ntmps33
  go_wp2_with fail
  refine HM.out.mono ?_
  rintro e1 w1 ⟨rfl, q, rfl⟩
  go_wp2
  go_ret
  exact ⟨rfl, bdrew _ q⟩
end Go.Proofs.YtimjplkehlgelaaGreat
