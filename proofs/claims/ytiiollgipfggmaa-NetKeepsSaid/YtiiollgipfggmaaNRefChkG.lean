/- Which message may be: the document. -/
import Derived.Test.YtiiollgipfggmaaNChk
import Derived.Deep.DeepCutAuto
namespace Go.Proofs.Ytiiollgipfggmaa
set_option linter.unusedVariables false
set_option linter.unusedSimpArgs false
open Go.RowKit

set_option maxRecDepth 200000 in
set_option maxHeartbeats 4000000 in
theorem good12_any (n lo : Int) (w : World) : Calls Try.prog 73 #[.int .i64 n, .int .i64 lo] w fun e w' => e = .returned (.bool (goodI n lo)) ∧ w = w' := by
  have HG : Hid (goodI n lo = (decide (lo ≤ n) && decide (n ≤ 1099511627776))) := hide rfl
  obtain ⟨g, hg⟩ : ∃ g, goodI n lo = g := ⟨_, rfl⟩
  rw [hg] at HG ⊢
  clear hg
  go_enter Try.func73, Try.ntmps73
  rcases Bool.eq_false_or_eq_true (decide (lo ≤ n)) with t0 | t0
  · rcases Bool.eq_false_or_eq_true (decide (n ≤ 1099511627776)) with t1 | t1
    all_goals
      go_wp2
      go_ret
      exact ⟨ret_b (by rw [HG.out, t0, t1]; rfl), rfl⟩
  · go_wp2
    go_ret
    exact ⟨ret_b (by rw [HG.out, t0]; rfl), rfl⟩

end Go.Proofs.Ytiiollgipfggmaa
