/- A ledger that no call made. -/
import Derived.Test.YtmalhdiholblgaaLTells
namespace Go.Proofs.Ytmalhdiholblgaa
set_option linter.unusedVariables false
set_option linter.unusedSimpArgs false
open Go.RowKit

/-- Nobody's ledger: nil, or one that no call made. -/
def Nob (w : World) (v : Value) : Prop := v = .pointer none ∨ ∃ g, v = .pointer (some ⟨g, 0, none⟩) ∧ w.cell? ⟨g, 3, none⟩ = some (.bool false)
theorem Nob.below {w w' : World} {v : Value} (h : Nob w v) (hb : Below w.heap.size w w') : Nob w' v := by
  rcases h with h | ⟨g, h1, h2⟩
  · exact .inl h
  · exact .inr ⟨g, h1, (hb.cell (lt_of_cell h2)).trans h2⟩
set_option maxRecDepth 200000 in
theorem noMade_any {w : World} {v : Value} (h : Nob w v) : Calls Try.prog 27 #[v] w fun e w' => e = .returned (.bool false) ∧ w = w' := by
  rcases h with rfl | ⟨g, rfl, h2⟩
  · go_enter Try.func27, Try.ntmps27
    go_wp2
    go_ret
    exact ⟨rfl, rfl⟩
  · go_enter Try.func27, Try.ntmps27
    go_wp2
    go_ret
    exact ⟨rfl, rfl⟩
set_option maxRecDepth 200000 in
theorem noBase_any {w : World} {v : Value} (h : Nob w v) : Calls Try.prog 45 #[v] w fun e w' => e = .returned (.tuple #[.int .i64 0, .int .i64 0]) ∧ Below w.heap.size w w' := by
  have HM := hide (noMade_any h)
  have HB := hide (Below.refl w.heap.size w)
  clear h
  go_enter Try.func45, Try.ntmps45
  go_wp2_with fail
  refine HM.out.mono ?_
  rintro e w9 ⟨rfl, rfl⟩
  go_wp2
  exact bodyPost_ret (v := .tuple #[.int .i64 0, .int .i64 0]) (by simp [results, Try.results45, go_sem]) rfl ⟨rfl, HB.out⟩
set_option maxRecDepth 200000 in
theorem noLast_any {w : World} {v : Value} (h : Nob w v) : Calls Try.prog 46 #[v] w fun e w' => e = .returned (.tuple #[.int .i64 0, .int .i64 0]) ∧ Below w.heap.size w w' := by
  have HM := hide (noMade_any h)
  have HB := hide (Below.refl w.heap.size w)
  clear h
  go_enter Try.func46, Try.ntmps46
  go_wp2_with fail
  refine HM.out.mono ?_
  rintro e w9 ⟨rfl, rfl⟩
  go_wp2
  exact bodyPost_ret (v := .tuple #[.int .i64 0, .int .i64 0]) (by simp [results, Try.results46, go_sem]) rfl ⟨rfl, HB.out⟩
set_option maxRecDepth 200000 in
theorem noTerm_any {w : World} {v : Value} (h : Nob w v) (i : Int) : Calls Try.prog 21 #[v, .int .i64 i] w fun e w' => e = .returned (.tuple #[.int .i64 0, .bool false]) ∧ Below w.heap.size w w' := by
  have HM := hide (noMade_any h)
  have HB := hide (Below.refl w.heap.size w)
  clear h
  go_enter Try.func21, Try.ntmps21
  go_wp2_with fail
  refine HM.out.mono ?_
  rintro e w9 ⟨rfl, rfl⟩
  go_wp2
  exact bodyPost_ret (v := .tuple #[.int .i64 0, .bool false]) (by simp [results, Try.results21, go_sem]) rfl ⟨rfl, HB.out⟩
set_option maxHeartbeats 4000000 in
set_option maxRecDepth 200000 in
theorem noMerge_any {w : World} {v : Value} (h : Nob w v) (i t : Int) (u : Value) : Calls Try.prog 14 #[v, .int .i64 i, .int .i64 t, u] w fun e w' => e = .returned (.tuple #[.int .i64 0, .slice none 0 0, .bool false]) ∧ Below w.heap.size w w' := by
  rcases id h with rfl | ⟨g, rfl, h2⟩
  · have b1 : Below w.heap.size w (w.alloc (.cells #[.pointer none] 29)) := (Below.refl _ _).alloc (Nat.le_refl _) _
    have hX : (w.alloc (.cells #[.pointer none] 29)).cell? ⟨w.heap.size, 0, none⟩ = some (.pointer none) := by
      rw [cell_of_row _ w.heap.size _ _ _ (0, 0) (heap_alloc_new w _)]
      rfl
    have HM := hide (noMade_any (h.below b1))
    obtain ⟨Y, hY⟩ : ∃ Y, w.alloc (.cells #[.pointer none] 29) = Y := ⟨_, rfl⟩
    rw [hY] at b1 hX HM
    have HB := hide b1
    clear h b1
    go_enter Try.func14, Try.ntmps14
    go_wp2_with fail
    refine HM.out.mono ?_
    rintro e w9 ⟨rfl, rfl⟩
    go_wp2
    exact bodyPost_ret (v := .tuple #[.int .i64 0, .slice none 0 0, .bool false]) (by simp [results, Try.results14, go_sem]) rfl ⟨rfl, HB.out⟩
  · have b1 : Below w.heap.size w (w.alloc (.cells #[.pointer (some ⟨g, 0, none⟩)] 29)) := (Below.refl _ _).alloc (Nat.le_refl _) _
    have hX : (w.alloc (.cells #[.pointer (some ⟨g, 0, none⟩)] 29)).cell? ⟨w.heap.size, 0, none⟩ = some (.pointer (some ⟨g, 0, none⟩)) := by
      rw [cell_of_row _ w.heap.size _ _ _ (0, 0) (heap_alloc_new w _)]
      rfl
    have HM := hide (noMade_any (h.below b1))
    obtain ⟨Y, hY⟩ : ∃ Y, w.alloc (.cells #[.pointer (some ⟨g, 0, none⟩)] 29) = Y := ⟨_, rfl⟩
    rw [hY] at b1 hX HM
    have HB := hide b1
    clear h b1
    go_enter Try.func14, Try.ntmps14
    go_wp2_with fail
    refine HM.out.mono ?_
    rintro e w9 ⟨rfl, rfl⟩
    go_wp2
    exact bodyPost_ret (v := .tuple #[.int .i64 0, .slice none 0 0, .bool false]) (by simp [results, Try.results14, go_sem]) rfl ⟨rfl, HB.out⟩
set_option maxRecDepth 200000 in
theorem noFrom_any {w : World} {v : Value} (h : Nob w v) (i t : Int) : Calls Try.prog 47 #[v, .int .i64 i, .int .i64 t] w fun e w' => e = .returned (.slice none 0 0) ∧ Below w.heap.size w w' := by
  have HM := hide (noMade_any h)
  have HB := hide (Below.refl w.heap.size w)
  clear h
  go_enter Try.func47, Try.ntmps47
  go_wp2_with fail
  refine HM.out.mono ?_
  rintro e w9 ⟨rfl, rfl⟩
  go_wp2
  go_ret
  exact ⟨rfl, HB.out⟩
set_option maxRecDepth 200000 in
theorem noFresh_any {w : World} {v : Value} (h : Nob w v) (i t : Int) : Calls Try.prog 26 #[v, .int .i64 i, .int .i64 t] w fun e w' => e = .returned (.bool false) ∧ Below w.heap.size w w' := by
  have HM := hide (noMade_any h)
  have HB := hide (Below.refl w.heap.size w)
  clear h
  go_enter Try.func26, Try.ntmps26
  go_wp2_with fail
  refine HM.out.mono ?_
  rintro e w9 ⟨rfl, rfl⟩
  go_wp2
  go_ret
  exact ⟨rfl, HB.out⟩
set_option maxRecDepth 200000 in
theorem noHint_any {w : World} {v : Value} (h : Nob w v) (i : Int) : Calls Try.prog 25 #[v, .int .i64 i] w fun e w' => e = .returned (.int .i64 1) ∧ Below w.heap.size w w' := by
  have HM := hide (noMade_any h)
  have HB := hide (Below.refl w.heap.size w)
  clear h
  go_enter Try.func25, Try.ntmps25
  go_wp2_with fail
  refine HM.out.mono ?_
  rintro e w9 ⟨rfl, rfl⟩
  go_wp2
  go_ret
  exact ⟨rfl, HB.out⟩
set_option maxRecDepth 200000 in
theorem noClone_any {w : World} {v : Value} (h : Nob w v) : Calls Try.prog 19 #[v] w fun e w' => e = .returned (.pointer none) ∧ Below w.heap.size w w' := by
  have HM := hide (noMade_any h)
  have HB := hide (Below.refl w.heap.size w)
  clear h
  go_enter Try.func19, Try.ntmps19
  go_wp2_with fail
  refine HM.out.mono ?_
  rintro e w9 ⟨rfl, rfl⟩
  go_wp2
  go_ret
  exact ⟨rfl, HB.out⟩
set_option maxRecDepth 200000 in
theorem noAdd_any {w : World} {v : Value} (h : Nob w v) (u : Value) : Calls Try.prog 17 #[v, u] w fun e w' => e = .returned (.int .i64 6) ∧ Below w.heap.size w w' := by
  have HM := hide (noMade_any h)
  have HB := hide (Below.refl w.heap.size w)
  clear h
  go_enter Try.func17, Try.ntmps17
  go_wp2_with fail
  refine HM.out.mono ?_
  rintro e w9 ⟨rfl, rfl⟩
  go_wp2
  go_ret
  exact ⟨rfl, HB.out⟩
set_option maxRecDepth 200000 in
theorem noCut_any {w : World} {v : Value} (h : Nob w v) (i : Int) : Calls Try.prog 10 #[v, .int .i64 i] w fun e w' => e = .returned (.int .i64 6) ∧ Below w.heap.size w w' := by
  have HM := hide (noMade_any h)
  have HB := hide (Below.refl w.heap.size w)
  clear h
  go_enter Try.func10, Try.ntmps10
  go_wp2_with fail
  refine HM.out.mono ?_
  rintro e w9 ⟨rfl, rfl⟩
  go_wp2
  go_ret
  exact ⟨rfl, HB.out⟩
set_option maxRecDepth 200000 in
theorem noRebase_any {w : World} {v : Value} (h : Nob w v) (i t : Int) : Calls Try.prog 12 #[v, .int .i64 i, .int .i64 t] w fun e w' => e = .returned (.int .i64 6) ∧ Below w.heap.size w w' := by
  have b1 : Below w.heap.size w (w.alloc (.cells #[.int .i64 i, .int .i64 t] 66)) := (Below.refl _ _).alloc (Nat.le_refl _) _
  have HM := hide (noMade_any (h.below b1))
  obtain ⟨Y, hY⟩ : ∃ Y, w.alloc (.cells #[.int .i64 i, .int .i64 t] 66) = Y := ⟨_, rfl⟩
  rw [hY] at b1 HM
  have HB := hide b1
  clear h b1
  go_enter Try.func12, Try.ntmps12
  go_wp2_with fail
  refine HM.out.mono ?_
  rintro e w9 ⟨rfl, rfl⟩
  go_wp2
  go_ret
  exact ⟨rfl, HB.out⟩
end Go.Proofs.Ytmalhdiholblgaa
