/- Ask. -/
import Derived.Test.YtfbndbmhnpleoaaTOpen
namespace Go.Proofs.Ytfbndbmhnpleoaa
set_option linter.unusedVariables false
set_option linter.unusedSimpArgs false
open Go.RowKit

/-- What Ask says. -/
def AskPost (w : World) (p : Rp × Bool × Int) (e : Ending) (w' : World) : Prop := e = .returned (.tuple #[rpV p.1, .bool p.2.1, .int .i64 p.2.2]) ∧ Below w.heap.size w w'

/-- A box of eight, written anew. -/
theorem set8 (Y : World) (r : Nat) (t : TypeId) (v0 v1 v2 v3 v4 v5 v6 v7 x0 x1 x2 x3 x4 x5 x6 x7 : Value) (h : Y.heap[r]? = some (.cells #[v0, v1, v2, v3, v4, v5, v6, v7] t)) :
    ((((((((Y.setCell ⟨r, 0, none⟩ x0).setCell ⟨r, 1, none⟩ x1).setCell ⟨r, 2, none⟩ x2).setCell ⟨r, 3, none⟩ x3).setCell ⟨r, 4, none⟩ x4).setCell ⟨r, 5, none⟩ x5).setCell ⟨r, 6, none⟩ x6).setCell ⟨r, 7, none⟩ x7).heap[r]? = some (.cells #[x0, x1, x2, x3, x4, x5, x6, x7] t) := by
  have q0 := heap_setCell_same Y r 0 _ t x0 h
  have q1 := heap_setCell_same _ r 1 _ t x1 q0
  have q2 := heap_setCell_same _ r 2 _ t x2 q1
  have q3 := heap_setCell_same _ r 3 _ t x3 q2
  have q4 := heap_setCell_same _ r 4 _ t x4 q3
  have q5 := heap_setCell_same _ r 5 _ t x5 q4
  have q6 := heap_setCell_same _ r 6 _ t x6 q5
  have q7 := heap_setCell_same _ r 7 _ t x7 q6
  simp only [List.setIfInBounds_toArray, List.set_cons_succ, List.set_cons_zero] at q7
  exact q7
theorem bset3 {B : Nat} {w Y : World} {r : Nat} (x0 x1 x2 : Value) (h : Below B w Y) (hB : B ≤ r) : Below B w (((Y.setCell ⟨r, 0, none⟩ x0).setCell ⟨r, 1, none⟩ x1).setCell ⟨r, 2, none⟩ x2) := by
  have step : ∀ (V : World) (i : Nat) (x : Value), Below B w V → Below B w (V.setCell ⟨r, i, none⟩ x) := fun V i x hV => bset hV hB
  exact step _ _ _ (step _ _ _ (step _ _ _ h))
theorem bset4 {B : Nat} {w Y : World} {r : Nat} (x0 x1 x2 x3 : Value) (h : Below B w Y) (hB : B ≤ r) : Below B w ((((Y.setCell ⟨r, 0, none⟩ x0).setCell ⟨r, 1, none⟩ x1).setCell ⟨r, 2, none⟩ x2).setCell ⟨r, 3, none⟩ x3) := by
  have step : ∀ (V : World) (i : Nat) (x : Value), Below B w V → Below B w (V.setCell ⟨r, i, none⟩ x) := fun V i x hV => bset hV hB
  exact step _ _ _ (bset3 x0 x1 x2 h hB)
theorem bset8 {B : Nat} {w Y : World} {r : Nat} (x0 x1 x2 x3 x4 x5 x6 x7 : Value) (h : Below B w Y) (hB : B ≤ r) : Below B w ((((((((Y.setCell ⟨r, 0, none⟩ x0).setCell ⟨r, 1, none⟩ x1).setCell ⟨r, 2, none⟩ x2).setCell ⟨r, 3, none⟩ x3).setCell ⟨r, 4, none⟩ x4).setCell ⟨r, 5, none⟩ x5).setCell ⟨r, 6, none⟩ x6).setCell ⟨r, 7, none⟩ x7) := by
  have step : ∀ (V : World) (i : Nat) (x : Value), Below B w V → Below B w (V.setCell ⟨r, i, none⟩ x) := fun V i x hV => bset hV hB
  have h4 := bset4 x0 x1 x2 x3 h hB
  have h5 := step _ 4 x4 h4
  have h6 := step _ 5 x5 h5
  have h7 := step _ 6 x6 h6
  have h8 := step _ 7 x7 h7
  exact h8

set_option maxRecDepth 200000 in
set_option maxHeartbeats 2000000 in
theorem ask_any {w : World} {g b : Nat} {L : List St} (h : TbIs w g b L) {n m : Int} (hk : (Lit.int .i64 n).wf = true) (hm0 : -9223372036854775808 ≤ m) (hm1 : m ≤ 9223372036854775807) : Calls Try.prog 13 #[.pointer (some ⟨g, 0, none⟩), .int .i64 n, .int .i64 m] w (AskPost w (askT L n m)) := by
  obtain ⟨A, hA⟩ : ∃ A, w.alloc (.cells #[.int .i64 0, .int .i64 0, .int .i64 0, .int .i64 0, .int .i64 0, .int .i64 0, .int .i64 0, .int .i64 0] 41) = A := ⟨_, rfl⟩
  have hrA : A.heap[w.heap.size]? = some (.cells #[.int .i64 0, .int .i64 0, .int .i64 0, .int .i64 0, .int .i64 0, .int .i64 0, .int .i64 0, .int .i64 0] 41) := by rw [← hA]; exact heap_alloc_new w _
  have hA' : TbIs A g b L := by rw [← hA]; exact h.alloc _
  have hbA : Below w.heap.size w A := by rw [← hA]; exact (Below.refl _ _).alloc (Nat.le_refl _) _
  have HM := hide (made_any hA'.c0)
  have HH := hide hA'
  have HK := hide hk
  have HRA := hide hrA
  have HBA := hide hbA
  have HOKS := hide h.ok.ok
  obtain ⟨u, hu⟩ : ∃ u, (fndT L n).getD st0 = u := ⟨_, rfl⟩
  obtain ⟨th, hth⟩ : ∃ th, (fndT L n).isSome = th := ⟨_, rfl⟩
  have HU := hide hu
  have HTH := hide hth
  have hgw : g ≠ w.heap.size := by have := h.gl; omega
  have HA := hide hA
  clear h hk hu hth hA' hrA hbA hA
  go_enter Try.func13, Try.ntmps13
  go_wp2_with fail
  rw [HA.out]
  refine HM.out.mono ?_
  rintro e X ⟨rfl, hcX⟩
  have hX := HH.out.chg hcX (fun e => e) (fun e => e)
  have c0 := hX.c0
  obtain ⟨D, hD⟩ := hX.map
  have hl : (Instr.lookup 54 (.map (some b)) (.int .i64 n) true).run Try.prog X = .ok (.tuple #[stV u, .bool th]) X := by
    have := (hD.look HK.out 0).1
    rwa [HU.out, HTH.out] at this
  have hrX : X.heap[w.heap.size]? = some (.cells #[.int .i64 0, .int .i64 0, .int .i64 0, .int .i64 0, .int .i64 0, .int .i64 0, .int .i64 0, .int .i64 0] 41) := (hcX.block _ (Array.getElem?_eq_some_iff.1 HRA.out).1 (fun e => e)).trans HRA.out
  have hwX : w.heap.size < X.heap.size := (Array.getElem?_eq_some_iff.1 hrX).1
  have hbX : Below w.heap.size w X := Chg.to_below HBA.out hcX (fun k e => e.elim)
  have HX := hide hX
  clear hX hD hcX
  have hun : th = true → fndT L n = some u ∧ 0 ≤ u.q ∧ u.q ≤ 1099511627776 := by
    intro e
    have h1 := HTH.out
    rw [e] at h1
    obtain ⟨y, hf⟩ := Option.isSome_iff_exists.1 h1
    have h2 := HU.out
    rw [hf] at h2
    simp at h2
    subst h2
    have := (St.ok_iff.1 (HOKS.out y (fndT_mem hf).1)).2.1
    exact ⟨hf, this.1, this.2⟩
  obtain ⟨s, q, a, ⟨e1, e2, e3, e4, e5, e6, e7, e8⟩⟩ := u
  unfold stV at hl
  dsimp only at hl hun
  have hgX := HX.out.gl
  have hgn : g ≠ X.heap.size := by omega
  obtain ⟨Y, hY⟩ : ∃ Y, X.alloc (.cells #[.int .i64 s, .int .i64 q, .int .i64 a, .int .i64 e1, .int .i64 e2, .int .i64 e3, .int .i64 e4, .int .i64 e5, .int .i64 e6, .int .i64 e7, .int .i64 e8] 51) = Y := ⟨_, rfl⟩
  have hrY : Y.heap[w.heap.size]? = some (.cells #[.int .i64 0, .int .i64 0, .int .i64 0, .int .i64 0, .int .i64 0, .int .i64 0, .int .i64 0, .int .i64 0] 41) := by
    rw [← hY]
    exact (Below.heap_alloc X _ _ hwX).trans hrX
  have hbY : Below w.heap.size w Y := by rw [← hY]; exact hbX.alloc hbX.size _
  have hcY : ∀ i v, #[Value.int .i64 s, .int .i64 q, .int .i64 a, .int .i64 e1, .int .i64 e2, .int .i64 e3, .int .i64 e4, .int .i64 e5, .int .i64 e6, .int .i64 e7, .int .i64 e8][i]? = some v → Y.cell? ⟨X.heap.size, i, none⟩ = some v := fun i v hi => by rw [← hY, World.cell?_alloc_new]; exact hi
  have y1 : Y.cell? ⟨X.heap.size, 1, none⟩ = some (.int .i64 q) := hcY 1 _ rfl
  have y3 : Y.cell? ⟨X.heap.size, 3, none⟩ = some (.int .i64 e1) := hcY 3 _ rfl
  have y4 : Y.cell? ⟨X.heap.size, 4, none⟩ = some (.int .i64 e2) := hcY 4 _ rfl
  have y5 : Y.cell? ⟨X.heap.size, 5, none⟩ = some (.int .i64 e3) := hcY 5 _ rfl
  have y6 : Y.cell? ⟨X.heap.size, 6, none⟩ = some (.int .i64 e4) := hcY 6 _ rfl
  have y7 : Y.cell? ⟨X.heap.size, 7, none⟩ = some (.int .i64 e5) := hcY 7 _ rfl
  have y8 : Y.cell? ⟨X.heap.size, 8, none⟩ = some (.int .i64 e6) := hcY 8 _ rfl
  have y9 : Y.cell? ⟨X.heap.size, 9, none⟩ = some (.int .i64 e7) := hcY 9 _ rfl
  have y10 : Y.cell? ⟨X.heap.size, 10, none⟩ = some (.int .i64 e8) := hcY 10 _ rfl
  have m0 := cell_of_row Y w.heap.size 0 _ 41 (0, 0) hrY
  have m1 := cell_of_row Y w.heap.size 1 _ 41 (0, 0) hrY
  have m2 := cell_of_row Y w.heap.size 2 _ 41 (0, 0) hrY
  have m3 := cell_of_row Y w.heap.size 3 _ 41 (0, 0) hrY
  have m4 := cell_of_row Y w.heap.size 4 _ 41 (0, 0) hrY
  have m5 := cell_of_row Y w.heap.size 5 _ 41 (0, 0) hrY
  have m6 := cell_of_row Y w.heap.size 6 _ 41 (0, 0) hrY
  have m7 := cell_of_row Y w.heap.size 7 _ 41 (0, 0) hrY
  have f0 := frozen_of_row Y w.heap.size 0 _ 41 hrY
  have f1 := frozen_of_row Y w.heap.size 1 _ 41 hrY
  have f2 := frozen_of_row Y w.heap.size 2 _ 41 hrY
  have f3 := frozen_of_row Y w.heap.size 3 _ 41 hrY
  have f4 := frozen_of_row Y w.heap.size 4 _ 41 hrY
  have f5 := frozen_of_row Y w.heap.size 5 _ 41 hrY
  have f6 := frozen_of_row Y w.heap.size 6 _ 41 hrY
  have f7 := frozen_of_row Y w.heap.size 7 _ 41 hrY
  simp at m0 m1 m2 m3 m4 m5 m6 m7
  have HRY := hide hrY
  have HBY := hide hbY
  clear hcY hrY hbY hrX hbX
  cases th
  · have HR : Hid (askT L n m = (rp0, false, 80)) := hide (by have hf : fndT L n = none := by have := HTH.out; simpa using this
                                                              unfold askT; rw [hf])
    clear hun
    go_wp2
    have hs8 := set8 Y w.heap.size 41 _ _ _ _ _ _ _ _ (.int .i64 0) (.int .i64 0) (.int .i64 0) (.int .i64 0) (.int .i64 0) (.int .i64 0) (.int .i64 0) (.int .i64 0) HRY.out
    have hb8 := bset8 (.int .i64 0) (.int .i64 0) (.int .i64 0) (.int .i64 0) (.int .i64 0) (.int .i64 0) (.int .i64 0) (.int .i64 0) HBY.out (Nat.le_refl _)
    obtain ⟨W9, hW9⟩ : ∃ W9, ((((((((Y.setCell ⟨w.heap.size, 0, none⟩ (.int .i64 0)).setCell ⟨w.heap.size, 1, none⟩ (.int .i64 0)).setCell ⟨w.heap.size, 2, none⟩ (.int .i64 0)).setCell ⟨w.heap.size, 3, none⟩ (.int .i64 0)).setCell ⟨w.heap.size, 4, none⟩ (.int .i64 0)).setCell ⟨w.heap.size, 5, none⟩ (.int .i64 0)).setCell ⟨w.heap.size, 6, none⟩ (.int .i64 0)).setCell ⟨w.heap.size, 7, none⟩ (.int .i64 0)) = W9 := ⟨_, rfl⟩
    rw [hW9] at hs8 hb8 ⊢
    clear hW9
    have n0 : W9.cell? ⟨w.heap.size, 0, none⟩ = some (.int .i64 0) := cell_of_row W9 w.heap.size 0 _ 41 (0, 0) hs8
    have n1 : W9.cell? ⟨w.heap.size, 1, none⟩ = some (.int .i64 0) := cell_of_row W9 w.heap.size 1 _ 41 (0, 0) hs8
    have n2 : W9.cell? ⟨w.heap.size, 2, none⟩ = some (.int .i64 0) := cell_of_row W9 w.heap.size 2 _ 41 (0, 0) hs8
    have n3 : W9.cell? ⟨w.heap.size, 3, none⟩ = some (.int .i64 0) := cell_of_row W9 w.heap.size 3 _ 41 (0, 0) hs8
    have n4 : W9.cell? ⟨w.heap.size, 4, none⟩ = some (.int .i64 0) := cell_of_row W9 w.heap.size 4 _ 41 (0, 0) hs8
    have n5 : W9.cell? ⟨w.heap.size, 5, none⟩ = some (.int .i64 0) := cell_of_row W9 w.heap.size 5 _ 41 (0, 0) hs8
    have n6 : W9.cell? ⟨w.heap.size, 6, none⟩ = some (.int .i64 0) := cell_of_row W9 w.heap.size 6 _ 41 (0, 0) hs8
    have n7 : W9.cell? ⟨w.heap.size, 7, none⟩ = some (.int .i64 0) := cell_of_row W9 w.heap.size 7 _ 41 (0, 0) hs8
    have hz9 : w.heap.size < W9.heap.size := lt_of_cell n0
    clear hs8
    rw [HR.out]
    refine bodyPost_ret (v := .tuple #[.agg #[.int .i64 0, .int .i64 0, .int .i64 0, .int .i64 0, .int .i64 0, .int .i64 0, .int .i64 0, .int .i64 0], .bool false, .int .i64 80]) (by simp [results, Try.results13, go_sem, n0, n1, n2, n3, n4, n5, n6, n7, hz9]) rfl ⟨rfl, hb8⟩
  · obtain ⟨hf, hq0, hq1⟩ := hun rfl
    have HF := hide hf
    clear hun hf
    by_cases h1 : m < q
    · have HR : Hid (askT L n m = (rp0, false, 81)) := hide (by unfold askT; rw [HF.out]; dsimp only; rw [if_pos (.inl h1)])
      go_wp2
      have hs8 := set8 Y w.heap.size 41 _ _ _ _ _ _ _ _ (.int .i64 0) (.int .i64 0) (.int .i64 0) (.int .i64 0) (.int .i64 0) (.int .i64 0) (.int .i64 0) (.int .i64 0) HRY.out
      have hb8 := bset8 (.int .i64 0) (.int .i64 0) (.int .i64 0) (.int .i64 0) (.int .i64 0) (.int .i64 0) (.int .i64 0) (.int .i64 0) HBY.out (Nat.le_refl _)
      obtain ⟨W9, hW9⟩ : ∃ W9, ((((((((Y.setCell ⟨w.heap.size, 0, none⟩ (.int .i64 0)).setCell ⟨w.heap.size, 1, none⟩ (.int .i64 0)).setCell ⟨w.heap.size, 2, none⟩ (.int .i64 0)).setCell ⟨w.heap.size, 3, none⟩ (.int .i64 0)).setCell ⟨w.heap.size, 4, none⟩ (.int .i64 0)).setCell ⟨w.heap.size, 5, none⟩ (.int .i64 0)).setCell ⟨w.heap.size, 6, none⟩ (.int .i64 0)).setCell ⟨w.heap.size, 7, none⟩ (.int .i64 0)) = W9 := ⟨_, rfl⟩
      rw [hW9] at hs8 hb8 ⊢
      clear hW9
      have n0 : W9.cell? ⟨w.heap.size, 0, none⟩ = some (.int .i64 0) := cell_of_row W9 w.heap.size 0 _ 41 (0, 0) hs8
      have n1 : W9.cell? ⟨w.heap.size, 1, none⟩ = some (.int .i64 0) := cell_of_row W9 w.heap.size 1 _ 41 (0, 0) hs8
      have n2 : W9.cell? ⟨w.heap.size, 2, none⟩ = some (.int .i64 0) := cell_of_row W9 w.heap.size 2 _ 41 (0, 0) hs8
      have n3 : W9.cell? ⟨w.heap.size, 3, none⟩ = some (.int .i64 0) := cell_of_row W9 w.heap.size 3 _ 41 (0, 0) hs8
      have n4 : W9.cell? ⟨w.heap.size, 4, none⟩ = some (.int .i64 0) := cell_of_row W9 w.heap.size 4 _ 41 (0, 0) hs8
      have n5 : W9.cell? ⟨w.heap.size, 5, none⟩ = some (.int .i64 0) := cell_of_row W9 w.heap.size 5 _ 41 (0, 0) hs8
      have n6 : W9.cell? ⟨w.heap.size, 6, none⟩ = some (.int .i64 0) := cell_of_row W9 w.heap.size 6 _ 41 (0, 0) hs8
      have n7 : W9.cell? ⟨w.heap.size, 7, none⟩ = some (.int .i64 0) := cell_of_row W9 w.heap.size 7 _ 41 (0, 0) hs8
      have hz9 : w.heap.size < W9.heap.size := lt_of_cell n0
      clear hs8
      rw [HR.out]
      refine bodyPost_ret (v := .tuple #[.agg #[.int .i64 0, .int .i64 0, .int .i64 0, .int .i64 0, .int .i64 0, .int .i64 0, .int .i64 0, .int .i64 0], .bool false, .int .i64 81]) (by simp [results, Try.results13, go_sem, n0, n1, n2, n3, n4, n5, n6, n7, hz9]) rfl ⟨rfl, hb8⟩
    · by_cases h2 : m < 1
      · have HR : Hid (askT L n m = (rp0, false, 81)) := hide (by unfold askT; rw [HF.out]; dsimp only; rw [if_pos (.inr h2)])
        go_wp2
        have hs8 := set8 Y w.heap.size 41 _ _ _ _ _ _ _ _ (.int .i64 0) (.int .i64 0) (.int .i64 0) (.int .i64 0) (.int .i64 0) (.int .i64 0) (.int .i64 0) (.int .i64 0) HRY.out
        have hb8 := bset8 (.int .i64 0) (.int .i64 0) (.int .i64 0) (.int .i64 0) (.int .i64 0) (.int .i64 0) (.int .i64 0) (.int .i64 0) HBY.out (Nat.le_refl _)
        obtain ⟨W9, hW9⟩ : ∃ W9, ((((((((Y.setCell ⟨w.heap.size, 0, none⟩ (.int .i64 0)).setCell ⟨w.heap.size, 1, none⟩ (.int .i64 0)).setCell ⟨w.heap.size, 2, none⟩ (.int .i64 0)).setCell ⟨w.heap.size, 3, none⟩ (.int .i64 0)).setCell ⟨w.heap.size, 4, none⟩ (.int .i64 0)).setCell ⟨w.heap.size, 5, none⟩ (.int .i64 0)).setCell ⟨w.heap.size, 6, none⟩ (.int .i64 0)).setCell ⟨w.heap.size, 7, none⟩ (.int .i64 0)) = W9 := ⟨_, rfl⟩
        rw [hW9] at hs8 hb8 ⊢
        clear hW9
        have n0 : W9.cell? ⟨w.heap.size, 0, none⟩ = some (.int .i64 0) := cell_of_row W9 w.heap.size 0 _ 41 (0, 0) hs8
        have n1 : W9.cell? ⟨w.heap.size, 1, none⟩ = some (.int .i64 0) := cell_of_row W9 w.heap.size 1 _ 41 (0, 0) hs8
        have n2 : W9.cell? ⟨w.heap.size, 2, none⟩ = some (.int .i64 0) := cell_of_row W9 w.heap.size 2 _ 41 (0, 0) hs8
        have n3 : W9.cell? ⟨w.heap.size, 3, none⟩ = some (.int .i64 0) := cell_of_row W9 w.heap.size 3 _ 41 (0, 0) hs8
        have n4 : W9.cell? ⟨w.heap.size, 4, none⟩ = some (.int .i64 0) := cell_of_row W9 w.heap.size 4 _ 41 (0, 0) hs8
        have n5 : W9.cell? ⟨w.heap.size, 5, none⟩ = some (.int .i64 0) := cell_of_row W9 w.heap.size 5 _ 41 (0, 0) hs8
        have n6 : W9.cell? ⟨w.heap.size, 6, none⟩ = some (.int .i64 0) := cell_of_row W9 w.heap.size 6 _ 41 (0, 0) hs8
        have n7 : W9.cell? ⟨w.heap.size, 7, none⟩ = some (.int .i64 0) := cell_of_row W9 w.heap.size 7 _ 41 (0, 0) hs8
        have hz9 : w.heap.size < W9.heap.size := lt_of_cell n0
        clear hs8
        rw [HR.out]
        refine bodyPost_ret (v := .tuple #[.agg #[.int .i64 0, .int .i64 0, .int .i64 0, .int .i64 0, .int .i64 0, .int .i64 0, .int .i64 0, .int .i64 0], .bool false, .int .i64 81]) (by simp [results, Try.results13, go_sem, n0, n1, n2, n3, n4, n5, n6, n7, hz9]) rfl ⟨rfl, hb8⟩
      · by_cases h3 : m = q
        · have HR : Hid (askT L n m = (⟨e1, e2, e3, e4, e5, e6, e7, e8⟩, true, 0)) := hide (by unfold askT; rw [HF.out]; dsimp only; rw [if_neg (by omega), if_pos h3])
          subst h3
          go_wp2
          have hs8 := set8 Y w.heap.size 41 _ _ _ _ _ _ _ _ (.int .i64 e1) (.int .i64 e2) (.int .i64 e3) (.int .i64 e4) (.int .i64 e5) (.int .i64 e6) (.int .i64 e7) (.int .i64 e8) HRY.out
          have hb8 := bset8 (.int .i64 e1) (.int .i64 e2) (.int .i64 e3) (.int .i64 e4) (.int .i64 e5) (.int .i64 e6) (.int .i64 e7) (.int .i64 e8) HBY.out (Nat.le_refl _)
          obtain ⟨W9, hW9⟩ : ∃ W9, ((((((((Y.setCell ⟨w.heap.size, 0, none⟩ (.int .i64 e1)).setCell ⟨w.heap.size, 1, none⟩ (.int .i64 e2)).setCell ⟨w.heap.size, 2, none⟩ (.int .i64 e3)).setCell ⟨w.heap.size, 3, none⟩ (.int .i64 e4)).setCell ⟨w.heap.size, 4, none⟩ (.int .i64 e5)).setCell ⟨w.heap.size, 5, none⟩ (.int .i64 e6)).setCell ⟨w.heap.size, 6, none⟩ (.int .i64 e7)).setCell ⟨w.heap.size, 7, none⟩ (.int .i64 e8)) = W9 := ⟨_, rfl⟩
          rw [hW9] at hs8 hb8 ⊢
          clear hW9
          have n0 : W9.cell? ⟨w.heap.size, 0, none⟩ = some (.int .i64 e1) := cell_of_row W9 w.heap.size 0 _ 41 (0, 0) hs8
          have n1 : W9.cell? ⟨w.heap.size, 1, none⟩ = some (.int .i64 e2) := cell_of_row W9 w.heap.size 1 _ 41 (0, 0) hs8
          have n2 : W9.cell? ⟨w.heap.size, 2, none⟩ = some (.int .i64 e3) := cell_of_row W9 w.heap.size 2 _ 41 (0, 0) hs8
          have n3 : W9.cell? ⟨w.heap.size, 3, none⟩ = some (.int .i64 e4) := cell_of_row W9 w.heap.size 3 _ 41 (0, 0) hs8
          have n4 : W9.cell? ⟨w.heap.size, 4, none⟩ = some (.int .i64 e5) := cell_of_row W9 w.heap.size 4 _ 41 (0, 0) hs8
          have n5 : W9.cell? ⟨w.heap.size, 5, none⟩ = some (.int .i64 e6) := cell_of_row W9 w.heap.size 5 _ 41 (0, 0) hs8
          have n6 : W9.cell? ⟨w.heap.size, 6, none⟩ = some (.int .i64 e7) := cell_of_row W9 w.heap.size 6 _ 41 (0, 0) hs8
          have n7 : W9.cell? ⟨w.heap.size, 7, none⟩ = some (.int .i64 e8) := cell_of_row W9 w.heap.size 7 _ 41 (0, 0) hs8
          have hz9 : w.heap.size < W9.heap.size := lt_of_cell n0
          clear hs8
          rw [HR.out]
          refine bodyPost_ret (v := .tuple #[.agg #[.int .i64 e1, .int .i64 e2, .int .i64 e3, .int .i64 e4, .int .i64 e5, .int .i64 e6, .int .i64 e7, .int .i64 e8], .bool true, .int .i64 0]) (by simp [results, Try.results13, go_sem, n0, n1, n2, n3, n4, n5, n6, n7, hz9]) rfl ⟨rfl, hb8⟩
        · by_cases h4 : q + 1 < m
          · have HR : Hid (askT L n m = (rp0, false, 82)) := hide (by unfold askT; rw [HF.out]; dsimp only; rw [if_neg (by omega), if_neg h3, if_pos h4])
            go_wp2
            have hs8 := set8 Y w.heap.size 41 _ _ _ _ _ _ _ _ (.int .i64 0) (.int .i64 0) (.int .i64 0) (.int .i64 0) (.int .i64 0) (.int .i64 0) (.int .i64 0) (.int .i64 0) HRY.out
            have hb8 := bset8 (.int .i64 0) (.int .i64 0) (.int .i64 0) (.int .i64 0) (.int .i64 0) (.int .i64 0) (.int .i64 0) (.int .i64 0) HBY.out (Nat.le_refl _)
            obtain ⟨W9, hW9⟩ : ∃ W9, ((((((((Y.setCell ⟨w.heap.size, 0, none⟩ (.int .i64 0)).setCell ⟨w.heap.size, 1, none⟩ (.int .i64 0)).setCell ⟨w.heap.size, 2, none⟩ (.int .i64 0)).setCell ⟨w.heap.size, 3, none⟩ (.int .i64 0)).setCell ⟨w.heap.size, 4, none⟩ (.int .i64 0)).setCell ⟨w.heap.size, 5, none⟩ (.int .i64 0)).setCell ⟨w.heap.size, 6, none⟩ (.int .i64 0)).setCell ⟨w.heap.size, 7, none⟩ (.int .i64 0)) = W9 := ⟨_, rfl⟩
            rw [hW9] at hs8 hb8 ⊢
            clear hW9
            have n0 : W9.cell? ⟨w.heap.size, 0, none⟩ = some (.int .i64 0) := cell_of_row W9 w.heap.size 0 _ 41 (0, 0) hs8
            have n1 : W9.cell? ⟨w.heap.size, 1, none⟩ = some (.int .i64 0) := cell_of_row W9 w.heap.size 1 _ 41 (0, 0) hs8
            have n2 : W9.cell? ⟨w.heap.size, 2, none⟩ = some (.int .i64 0) := cell_of_row W9 w.heap.size 2 _ 41 (0, 0) hs8
            have n3 : W9.cell? ⟨w.heap.size, 3, none⟩ = some (.int .i64 0) := cell_of_row W9 w.heap.size 3 _ 41 (0, 0) hs8
            have n4 : W9.cell? ⟨w.heap.size, 4, none⟩ = some (.int .i64 0) := cell_of_row W9 w.heap.size 4 _ 41 (0, 0) hs8
            have n5 : W9.cell? ⟨w.heap.size, 5, none⟩ = some (.int .i64 0) := cell_of_row W9 w.heap.size 5 _ 41 (0, 0) hs8
            have n6 : W9.cell? ⟨w.heap.size, 6, none⟩ = some (.int .i64 0) := cell_of_row W9 w.heap.size 6 _ 41 (0, 0) hs8
            have n7 : W9.cell? ⟨w.heap.size, 7, none⟩ = some (.int .i64 0) := cell_of_row W9 w.heap.size 7 _ 41 (0, 0) hs8
            have hz9 : w.heap.size < W9.heap.size := lt_of_cell n0
            clear hs8
            rw [HR.out]
            refine bodyPost_ret (v := .tuple #[.agg #[.int .i64 0, .int .i64 0, .int .i64 0, .int .i64 0, .int .i64 0, .int .i64 0, .int .i64 0, .int .i64 0], .bool false, .int .i64 82]) (by simp [results, Try.results13, go_sem, n0, n1, n2, n3, n4, n5, n6, n7, hz9]) rfl ⟨rfl, hb8⟩
          · have HR : Hid (askT L n m = (rp0, false, 0)) := hide (by unfold askT; rw [HF.out]; dsimp only; rw [if_neg (by omega), if_neg h3, if_neg h4])
            go_wp2
            have hs8 := set8 Y w.heap.size 41 _ _ _ _ _ _ _ _ (.int .i64 0) (.int .i64 0) (.int .i64 0) (.int .i64 0) (.int .i64 0) (.int .i64 0) (.int .i64 0) (.int .i64 0) HRY.out
            have hb8 := bset8 (.int .i64 0) (.int .i64 0) (.int .i64 0) (.int .i64 0) (.int .i64 0) (.int .i64 0) (.int .i64 0) (.int .i64 0) HBY.out (Nat.le_refl _)
            obtain ⟨W9, hW9⟩ : ∃ W9, ((((((((Y.setCell ⟨w.heap.size, 0, none⟩ (.int .i64 0)).setCell ⟨w.heap.size, 1, none⟩ (.int .i64 0)).setCell ⟨w.heap.size, 2, none⟩ (.int .i64 0)).setCell ⟨w.heap.size, 3, none⟩ (.int .i64 0)).setCell ⟨w.heap.size, 4, none⟩ (.int .i64 0)).setCell ⟨w.heap.size, 5, none⟩ (.int .i64 0)).setCell ⟨w.heap.size, 6, none⟩ (.int .i64 0)).setCell ⟨w.heap.size, 7, none⟩ (.int .i64 0)) = W9 := ⟨_, rfl⟩
            rw [hW9] at hs8 hb8 ⊢
            clear hW9
            have n0 : W9.cell? ⟨w.heap.size, 0, none⟩ = some (.int .i64 0) := cell_of_row W9 w.heap.size 0 _ 41 (0, 0) hs8
            have n1 : W9.cell? ⟨w.heap.size, 1, none⟩ = some (.int .i64 0) := cell_of_row W9 w.heap.size 1 _ 41 (0, 0) hs8
            have n2 : W9.cell? ⟨w.heap.size, 2, none⟩ = some (.int .i64 0) := cell_of_row W9 w.heap.size 2 _ 41 (0, 0) hs8
            have n3 : W9.cell? ⟨w.heap.size, 3, none⟩ = some (.int .i64 0) := cell_of_row W9 w.heap.size 3 _ 41 (0, 0) hs8
            have n4 : W9.cell? ⟨w.heap.size, 4, none⟩ = some (.int .i64 0) := cell_of_row W9 w.heap.size 4 _ 41 (0, 0) hs8
            have n5 : W9.cell? ⟨w.heap.size, 5, none⟩ = some (.int .i64 0) := cell_of_row W9 w.heap.size 5 _ 41 (0, 0) hs8
            have n6 : W9.cell? ⟨w.heap.size, 6, none⟩ = some (.int .i64 0) := cell_of_row W9 w.heap.size 6 _ 41 (0, 0) hs8
            have n7 : W9.cell? ⟨w.heap.size, 7, none⟩ = some (.int .i64 0) := cell_of_row W9 w.heap.size 7 _ 41 (0, 0) hs8
            have hz9 : w.heap.size < W9.heap.size := lt_of_cell n0
            clear hs8
            rw [HR.out]
            refine bodyPost_ret (v := .tuple #[.agg #[.int .i64 0, .int .i64 0, .int .i64 0, .int .i64 0, .int .i64 0, .int .i64 0, .int .i64 0, .int .i64 0], .bool false, .int .i64 0]) (by simp [results, Try.results13, go_sem, n0, n1, n2, n3, n4, n5, n6, n7, hz9]) rfl ⟨rfl, hb8⟩
end Go.Proofs.Ytfbndbmhnpleoaa
