/- A bag that no call made. -/
import Derived.Test.YtiiollgipfggmaaNAwake
namespace Go.Proofs.Ytiiollgipfggmaa
set_option linter.unusedVariables false
set_option linter.unusedSimpArgs false
open Go.RowKit

/-- None, or one that New did not make. -/
def NobB (w : World) (v : Value) : Prop := v = .pointer none ∨ ∃ g, v = .pointer (some ⟨g, 0, none⟩) ∧ w.cell? ⟨g, 0, none⟩ = some (.bool false)
theorem NobB.below {w w' : World} {v : Value} (h : NobB w v) (hb : Below w.heap.size w w') : NobB w' v := by
  rcases h with rfl | ⟨g, rfl, hc⟩
  · exact .inl rfl
  · exact .inr ⟨g, rfl, (hb.cell (lt_of_cell hc)).trans hc⟩
theorem NobB.pt {w : World} {v : Value} (h : NobB w v) : ∃ a, v = .pointer a := by
  rcases h with rfl | ⟨g, rfl, hc⟩
  · exact ⟨_, rfl⟩
  · exact ⟨_, rfl⟩
set_option maxRecDepth 200000 in
set_option maxHeartbeats 4000000 in
theorem ok_nob {w : World} {v : Value} (h : NobB w v) : Calls Try.prog 62 #[v] w fun e w' => e = .returned (.bool false) ∧ w = w' := by
  rcases h with rfl | ⟨g, rfl, hc⟩
  · go_enter Try.func62, Try.ntmps62
    go_wp2
    go_ret
    exact ⟨rfl, rfl⟩
  · go_enter Try.func62, Try.ntmps62
    go_wp2
    go_ret
    exact ⟨rfl, rfl⟩
set_option maxRecDepth 200000 in
set_option maxHeartbeats 4000000 in
theorem find_nob {w : World} {v : Value} (h : NobB w v) (id : Int) : Calls Try.prog 57 #[v, .int .i64 id] w fun e w' => e = .returned (.tuple #[.int .i64 0, .int .i64 6]) ∧ Below w.heap.size w w' := by
  have hb := (Below.refl w.heap.size w).alloc (Nat.le_refl _) (.cells #[.int .i64 id] 3)
  have HO := hide (ok_nob (h.below hb))
  have HB := hide hb
  obtain ⟨a, rfl⟩ := h.pt
  clear h hb
  go_enter Try.func57, Try.ntmps57
  go_wp2_with fail
  refine HO.out.mono ?_
  rintro e w' ⟨rfl, rfl⟩
  go_wp2
  go_ret2
  exact ⟨rfl, HB.out⟩
set_option maxRecDepth 200000 in
set_option maxHeartbeats 4000000 in
theorem lose_nob {w : World} {v : Value} (h : NobB w v) (id : Int) : Calls Try.prog 26 #[v, .int .i64 id] w fun e w' => e = .returned (.int .i64 6) ∧ Below w.heap.size w w' := by
  have HF := hide (find_nob h id)
  obtain ⟨a, rfl⟩ := h.pt
  clear h
  go_enter Try.func26, Try.ntmps26
  go_wp2_with fail
  refine HF.out.mono ?_
  rintro e w2 ⟨rfl, hb2⟩
  have HB2 := hide hb2
  clear hb2
  go_wp2
  go_ret
  exact ⟨rfl, HB2.out⟩
set_option maxRecDepth 200000 in
set_option maxHeartbeats 4000000 in
theorem double_nob {w : World} {v : Value} (h : NobB w v) (id : Int) : Calls Try.prog 28 #[v, .int .i64 id] w fun e w' => e = .returned (.int .i64 6) ∧ Below w.heap.size w w' := by
  have HF := hide (find_nob h id)
  obtain ⟨a, rfl⟩ := h.pt
  clear h
  go_enter Try.func28, Try.ntmps28
  go_wp2_with fail
  refine HF.out.mono ?_
  rintro e w2 ⟨rfl, hb2⟩
  have HB2 := hide hb2
  clear hb2
  go_wp2
  go_ret
  exact ⟨rfl, HB2.out⟩
set_option maxRecDepth 200000 in
set_option maxHeartbeats 4000000 in
theorem list_nob {w : World} {v : Value} (h : NobB w v) : Calls Try.prog 33 #[v] w fun e w' => e = .returned (.slice none 0 0) ∧ w = w' := by
  have HO := hide (ok_nob h)
  obtain ⟨a, rfl⟩ := h.pt
  clear h
  go_enter Try.func33, Try.ntmps33
  go_wp2_with fail
  refine HO.out.mono ?_
  rintro e w' ⟨rfl, rfl⟩
  go_wp2
  go_ret
  exact ⟨rfl, rfl⟩
set_option maxRecDepth 200000 in
set_option maxHeartbeats 4000000 in
theorem send_nob {w : World} {v : Value} (h : NobB w v) (p : Option Addr) (n c : Nat) : Calls Try.prog 30 #[v, .slice p n c] w fun e w' => e = .returned (.int .i64 0) ∧ w = w' := by
  have HO := hide (ok_nob h)
  obtain ⟨a, rfl⟩ := h.pt
  clear h
  go_enter Try.func30, Try.ntmps30
  go_wp2_with fail
  refine HO.out.mono ?_
  rintro e w' ⟨rfl, rfl⟩
  go_wp2
  go_ret
  exact ⟨rfl, rfl⟩
set_option maxRecDepth 200000 in
set_option maxHeartbeats 4000000 in
theorem peek_nob {w : World} {v : Value} (h : NobB w v) (id : Int) : Calls Try.prog 22 #[v, .int .i64 id] w (PeekPost w (ms0, 6)) := by
  obtain ⟨X, hX⟩ : ∃ X, w.alloc (.cells #[.int .i64 0, .int .i64 0, .int .i64 0, .int .i64 0, .int .i64 0, .int .i64 0, .int .i64 0, .int .i64 0, .bool false, .bool false, .slice none 0 0, .slice none 0 0, .slice none 0 0] 26) = X := ⟨_, rfl⟩
  have hrX : X.heap[w.heap.size]? = some (.cells #[.int .i64 0, .int .i64 0, .int .i64 0, .int .i64 0, .int .i64 0, .int .i64 0, .int .i64 0, .int .i64 0, .bool false, .bool false, .slice none 0 0, .slice none 0 0, .slice none 0 0] 26 (0, 0)) := by rw [← hX]; exact heap_alloc_new w _
  have hbX : Below w.heap.size w X := by rw [← hX]; exact (Below.refl _ _).alloc (Nat.le_refl _) _
  have hwX : w.heap.size < X.heap.size := (Array.getElem?_eq_some_iff.1 hrX).1
  have HF := hide (find_nob (h.below hbX) id)
  have HRX := hide hrX
  have HBX := hide hbX
  have HWX := hide hwX
  have HX := hide hX
  obtain ⟨a, rfl⟩ := h.pt
  clear h hrX hbX hwX hX
  go_enter Try.func22, Try.ntmps22
  go_wp2_with fail
  rw [HX.out]
  refine HF.out.mono ?_
  rintro e w2 ⟨rfl, hb2⟩
  have hR2 := (hb2.block _ HWX.out).trans HRX.out
  have HB2 := hide (HBX.out.trans (hb2.mono HBX.out.size))
  have m0 := cell_of_row w2 w.heap.size 0 _ 26 (0, 0) hR2
  have mf0 := frozen_of_row w2 w.heap.size 0 _ 26 hR2
  have m1 := cell_of_row w2 w.heap.size 1 _ 26 (0, 0) hR2
  have mf1 := frozen_of_row w2 w.heap.size 1 _ 26 hR2
  have m2 := cell_of_row w2 w.heap.size 2 _ 26 (0, 0) hR2
  have mf2 := frozen_of_row w2 w.heap.size 2 _ 26 hR2
  have m3 := cell_of_row w2 w.heap.size 3 _ 26 (0, 0) hR2
  have mf3 := frozen_of_row w2 w.heap.size 3 _ 26 hR2
  have m4 := cell_of_row w2 w.heap.size 4 _ 26 (0, 0) hR2
  have mf4 := frozen_of_row w2 w.heap.size 4 _ 26 hR2
  have m5 := cell_of_row w2 w.heap.size 5 _ 26 (0, 0) hR2
  have mf5 := frozen_of_row w2 w.heap.size 5 _ 26 hR2
  have m6 := cell_of_row w2 w.heap.size 6 _ 26 (0, 0) hR2
  have mf6 := frozen_of_row w2 w.heap.size 6 _ 26 hR2
  have m7 := cell_of_row w2 w.heap.size 7 _ 26 (0, 0) hR2
  have mf7 := frozen_of_row w2 w.heap.size 7 _ 26 hR2
  have m8 := cell_of_row w2 w.heap.size 8 _ 26 (0, 0) hR2
  have mf8 := frozen_of_row w2 w.heap.size 8 _ 26 hR2
  have m9 := cell_of_row w2 w.heap.size 9 _ 26 (0, 0) hR2
  have mf9 := frozen_of_row w2 w.heap.size 9 _ 26 hR2
  have m10 := cell_of_row w2 w.heap.size 10 _ 26 (0, 0) hR2
  have mf10 := frozen_of_row w2 w.heap.size 10 _ 26 hR2
  have m11 := cell_of_row w2 w.heap.size 11 _ 26 (0, 0) hR2
  have mf11 := frozen_of_row w2 w.heap.size 11 _ 26 hR2
  have m12 := cell_of_row w2 w.heap.size 12 _ 26 (0, 0) hR2
  have mf12 := frozen_of_row w2 w.heap.size 12 _ 26 hR2
  simp only [List.getElem?_toArray, List.getElem?_cons_succ, List.getElem?_cons_zero] at m0 m1 m2 m3 m4 m5 m6 m7 m8 m9 m10 m11 m12
  have RVH := hide hR2
  clear hR2 hb2
  go_wp2
  have hs9 := set13 w2 w.heap.size 26 _ _ _ _ _ _ _ _ _ _ _ _ _ (.int .i64 0) (.int .i64 0) (.int .i64 0) (.int .i64 0) (.int .i64 0) (.int .i64 0) (.int .i64 0) (.int .i64 0) (.bool false) (.bool false) (.slice none 0 0) (.slice none 0 0) (.slice none 0 0) RVH.out
  have hG9 : w2.grownBy (((((((((((((w2.setCell ⟨w.heap.size, 0, none⟩ (.int .i64 0)).setCell ⟨w.heap.size, 1, none⟩ (.int .i64 0)).setCell ⟨w.heap.size, 2, none⟩ (.int .i64 0)).setCell ⟨w.heap.size, 3, none⟩ (.int .i64 0)).setCell ⟨w.heap.size, 4, none⟩ (.int .i64 0)).setCell ⟨w.heap.size, 5, none⟩ (.int .i64 0)).setCell ⟨w.heap.size, 6, none⟩ (.int .i64 0)).setCell ⟨w.heap.size, 7, none⟩ (.int .i64 0)).setCell ⟨w.heap.size, 8, none⟩ (.bool false)).setCell ⟨w.heap.size, 9, none⟩ (.bool false)).setCell ⟨w.heap.size, 10, none⟩ (.slice none 0 0)).setCell ⟨w.heap.size, 11, none⟩ (.slice none 0 0)).setCell ⟨w.heap.size, 12, none⟩ (.slice none 0 0)) (some w.heap.size) := gtrans (gtrans (gtrans (gtrans (gtrans (gtrans (gtrans (gtrans (gtrans (gtrans (gtrans (gtrans (grown_set w2 w.heap.size 0 (.int .i64 0)) (grown_set _ w.heap.size 1 (.int .i64 0))) (grown_set _ w.heap.size 2 (.int .i64 0))) (grown_set _ w.heap.size 3 (.int .i64 0))) (grown_set _ w.heap.size 4 (.int .i64 0))) (grown_set _ w.heap.size 5 (.int .i64 0))) (grown_set _ w.heap.size 6 (.int .i64 0))) (grown_set _ w.heap.size 7 (.int .i64 0))) (grown_set _ w.heap.size 8 (.bool false))) (grown_set _ w.heap.size 9 (.bool false))) (grown_set _ w.heap.size 10 (.slice none 0 0))) (grown_set _ w.heap.size 11 (.slice none 0 0))) (grown_set _ w.heap.size 12 (.slice none 0 0))
  obtain ⟨W9, hW9⟩ : ∃ W9, (((((((((((((w2.setCell ⟨w.heap.size, 0, none⟩ (.int .i64 0)).setCell ⟨w.heap.size, 1, none⟩ (.int .i64 0)).setCell ⟨w.heap.size, 2, none⟩ (.int .i64 0)).setCell ⟨w.heap.size, 3, none⟩ (.int .i64 0)).setCell ⟨w.heap.size, 4, none⟩ (.int .i64 0)).setCell ⟨w.heap.size, 5, none⟩ (.int .i64 0)).setCell ⟨w.heap.size, 6, none⟩ (.int .i64 0)).setCell ⟨w.heap.size, 7, none⟩ (.int .i64 0)).setCell ⟨w.heap.size, 8, none⟩ (.bool false)).setCell ⟨w.heap.size, 9, none⟩ (.bool false)).setCell ⟨w.heap.size, 10, none⟩ (.slice none 0 0)).setCell ⟨w.heap.size, 11, none⟩ (.slice none 0 0)).setCell ⟨w.heap.size, 12, none⟩ (.slice none 0 0)) = W9 := ⟨_, rfl⟩
  rw [hW9] at hs9 hG9 ⊢
  clear hW9
  have n0_ := cell_of_row W9 w.heap.size 0 _ 26 (0, 0) hs9
  have n1_ := cell_of_row W9 w.heap.size 1 _ 26 (0, 0) hs9
  have n2_ := cell_of_row W9 w.heap.size 2 _ 26 (0, 0) hs9
  have n3_ := cell_of_row W9 w.heap.size 3 _ 26 (0, 0) hs9
  have n4_ := cell_of_row W9 w.heap.size 4 _ 26 (0, 0) hs9
  have n5_ := cell_of_row W9 w.heap.size 5 _ 26 (0, 0) hs9
  have n6_ := cell_of_row W9 w.heap.size 6 _ 26 (0, 0) hs9
  have n7_ := cell_of_row W9 w.heap.size 7 _ 26 (0, 0) hs9
  have n8_ := cell_of_row W9 w.heap.size 8 _ 26 (0, 0) hs9
  have n9_ := cell_of_row W9 w.heap.size 9 _ 26 (0, 0) hs9
  have n10_ := cell_of_row W9 w.heap.size 10 _ 26 (0, 0) hs9
  have n11_ := cell_of_row W9 w.heap.size 11 _ 26 (0, 0) hs9
  have n12_ := cell_of_row W9 w.heap.size 12 _ 26 (0, 0) hs9
  simp only [List.getElem?_toArray, List.getElem?_cons_succ, List.getElem?_cons_zero] at n0_ n1_ n2_ n3_ n4_ n5_ n6_ n7_ n8_ n9_ n10_ n11_ n12_
  have hz9 : w.heap.size < W9.heap.size := lt_of_cell n0_
  refine bodyPost_ret (v := .tuple #[.agg #[.int .i64 0, .int .i64 0, .int .i64 0, .int .i64 0, .int .i64 0, .int .i64 0, .int .i64 0, .int .i64 0, .bool false, .bool false, .slice none 0 0, .slice none 0 0, .slice none 0 0], .int .i64 6]) (by simp [results, Try.results22, go_sem, n0_, n1_, n2_, n3_, n4_, n5_, n6_, n7_, n8_, n9_, n10_, n11_, n12_, hz9]) rfl ⟨.slice none 0 0, .slice none 0 0, .slice none 0 0, rfl, MsO.zero _ _, HB2.out.grown hG9 HB2.out.size fun k hk => by injection hk with hk; omega⟩
end Go.Proofs.Ytiiollgipfggmaa
