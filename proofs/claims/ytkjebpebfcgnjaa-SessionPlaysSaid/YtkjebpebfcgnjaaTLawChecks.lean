/- The law SessionChecks. -/
import Derived.Test.YtkjebpebfcgnjaaTAwake
import Derived.Test.YtkjebpebfcgnjaaTRef1
import Derived.Deep.RegionHeld3
namespace Go.Proofs.Ytkjebpebfcgnjaa
set_option linter.unusedVariables false
set_option linter.unusedSimpArgs false
open Go.RowKit

/-- What a law says. -/
def LawPost (w : World) (e : Ending) (w' : World) : Prop := e = .returned (.bool true) ∧ Below w.heap.size w w'
theorem belY {Y : World} (q : Nat) : Hid (Below Y.heap.size Y (Y.drewN q)) := hide (bdrew Y q)

set_option maxRecDepth 200000 in
set_option maxHeartbeats 4000000 in
theorem lawChecks_any (w : World) (r : Rp) : Calls Try.prog 4 #[rpV r] w (LawPost w) := by
  obtain ⟨e1, e2, e3, e4, e5, e6, e7, e8⟩ := r
  obtain ⟨Y, hY⟩ : ∃ Y, w.alloc (.cells #[.int .i64 e1, .int .i64 e2, .int .i64 e3, .int .i64 e4, .int .i64 e5, .int .i64 e6, .int .i64 e7, .int .i64 e8] 34) = Y := ⟨_, rfl⟩
  have hbY : Below w.heap.size w Y := by rw [← hY]; exact (Below.refl _ _).alloc (Nat.le_refl _) _
  have hwY : w.heap.size < Y.heap.size := by rw [← hY]; simp
  have hcY : ∀ i v, #[Value.int .i64 e1, .int .i64 e2, .int .i64 e3, .int .i64 e4, .int .i64 e5, .int .i64 e6, .int .i64 e7, .int .i64 e8][i]? = some v → Y.cell? ⟨w.heap.size, i, none⟩ = some v := fun i v hi => by rw [← hY, World.cell?_alloc_new]; exact hi
  have HSA : Hid (∀ V, Hid (Below Y.heap.size Y V) → V.cell? ⟨w.heap.size, 0, none⟩ = some (.int .i64 e1) ∧ V.cell? ⟨w.heap.size, 1, none⟩ = some (.int .i64 e2) ∧ V.cell? ⟨w.heap.size, 2, none⟩ = some (.int .i64 e3) ∧ V.cell? ⟨w.heap.size, 3, none⟩ = some (.int .i64 e4) ∧ V.cell? ⟨w.heap.size, 4, none⟩ = some (.int .i64 e5) ∧ V.cell? ⟨w.heap.size, 5, none⟩ = some (.int .i64 e6) ∧ V.cell? ⟨w.heap.size, 6, none⟩ = some (.int .i64 e7) ∧ V.cell? ⟨w.heap.size, 7, none⟩ = some (.int .i64 e8)) := hide fun V hV => by
    have cc : ∀ i v, #[Value.int .i64 e1, .int .i64 e2, .int .i64 e3, .int .i64 e4, .int .i64 e5, .int .i64 e6, .int .i64 e7, .int .i64 e8][i]? = some v → V.cell? ⟨w.heap.size, i, none⟩ = some v := fun i v hi => (hV.out.cell (p := ⟨w.heap.size, i, none⟩) hwY).trans (hcY i v hi)
    exact ⟨cc 0 _ rfl, cc 1 _ rfl, cc 2 _ rfl, cc 3 _ rfl, cc 4 _ rfl, cc 5 _ rfl, cc 6 _ rfl, cc 7 _ rfl⟩
  obtain ⟨n, hn⟩ : ∃ n : Int, (if (⟨e1, e2, e3, e4, e5, e6, e7, e8⟩ : Rp).ok then (0 : Int) else 1) = n := ⟨_, rfl⟩
  have HC1 : Hid (∀ V, Hid (Below Y.heap.size Y V) → Calls Try.prog 23 #[.agg #[.int .i64 e1, .int .i64 e2, .int .i64 e3, .int .i64 e4, .int .i64 e5, .int .i64 e6, .int .i64 e7, .int .i64 e8]] V fun e w' => e = .returned (.int .i64 n) ∧ Hid (Below Y.heap.size Y w')) := hide fun V hV =>
    (check_any V ⟨e1, e2, e3, e4, e5, e6, e7, e8⟩).mono fun e w' ⟨he, hb⟩ => ⟨by rw [he, hn], hide (hV.out.trans (hb.mono hV.out.size))⟩
  have HC2 : Hid (∀ V, Hid (Below Y.heap.size Y V) → Calls Try.prog 24 #[.agg #[.int .i64 e1, .int .i64 e2, .int .i64 e3, .int .i64 e4, .int .i64 e5, .int .i64 e6, .int .i64 e7, .int .i64 e8]] V fun e w' => e = .returned (.int .i64 n) ∧ Hid (Below Y.heap.size Y w')) := hide fun V hV =>
    (refCheck_any V ⟨e1, e2, e3, e4, e5, e6, e7, e8⟩).mono fun e w' ⟨he, hb⟩ => ⟨by rw [he, hn], hide (hV.out.trans (hb.mono hV.out.size))⟩
  have HC3 : Hid (∀ V, Hid (Below Y.heap.size Y V) → Calls Try.prog 11 #[] V fun e w' => e = .returned (.bool true) ∧ Hid (Below Y.heap.size Y w')) := hide fun V hV =>
    (awake_any V).mono fun e w' ⟨he, hb⟩ => ⟨he, hide (hV.out.trans (hb.mono hV.out.size))⟩
  have HBY := hide hbY
  have HY := hide hY
  clear hcY hY hbY hn
  unfold rpV
  dsimp only
  go_enter Try.func4, Try.ntmps4
  go_wp2_with fail
  rw [HY.out]
  go_region_held3 (fun V => V.cell? ⟨w.heap.size, 0, none⟩ = some (.int .i64 e1) ∧ V.cell? ⟨w.heap.size, 1, none⟩ = some (.int .i64 e2) ∧ V.cell? ⟨w.heap.size, 2, none⟩ = some (.int .i64 e3) ∧ V.cell? ⟨w.heap.size, 3, none⟩ = some (.int .i64 e4) ∧ V.cell? ⟨w.heap.size, 4, none⟩ = some (.int .i64 e5) ∧ V.cell? ⟨w.heap.size, 5, none⟩ = some (.int .i64 e6) ∧ V.cell? ⟨w.heap.size, 6, none⟩ = some (.int .i64 e7) ∧ V.cell? ⟨w.heap.size, 7, none⟩ = some (.int .i64 e8)) (first | exact HSA.out _ hA | exact HSA.out _ hB | exact HSA.out _ hC | exact HSA.out _ (belY 1) | exact HSA.out _ (belY 0)) (first | (go_at_call 23; refine (HC1.out _ (by first | exact hB | exact belY 1 | exact belY 0)).mono ?_; rintro e7 w7 ⟨rfl, hA⟩) | (go_at_call 24; refine (HC2.out _ (by first | exact hA | exact belY 1 | exact belY 0)).mono ?_; rintro e7 w7 ⟨rfl, hB⟩) | (go_at_call 11; refine (HC3.out _ (by first | exact hA | exact hB)).mono ?_; rintro e7 w7 ⟨rfl, hC⟩))
  all_goals
    have HX := hide hC.out
    go_wp2
    go_ret
    exact ⟨by rfl, HBY.out.trans (HX.out.mono HBY.out.size)⟩
end Go.Proofs.Ytkjebpebfcgnjaa
