/- The document's Find. -/
import Derived.Test.YtbbdijnkgkabbaaFSwap
import Derived.Test.YtbbdijnkgkabbaaSpRefCheck
import Derived.Test.YtbbdijnkgkabbaaSpRefSort
namespace Go.Proofs.Ytbbdijnkgkabbaa
set_option linter.unusedVariables false
set_option linter.unusedSimpArgs false
open Go.RowKit

theorem six_below {B : Nat} {w W : World} (h : Below B w W) {r : Nat} (hr : B ≤ r) (v0 v1 v2 v3 v4 v5 : Value) : Below B w ((((((W.setCell ⟨r, 0, none⟩ v0).setCell ⟨r, 1, none⟩ v1).setCell ⟨r, 2, none⟩ v2).setCell ⟨r, 3, none⟩ v3).setCell ⟨r, 4, none⟩ v4).setCell ⟨r, 5, none⟩ v5) :=
  bset (bset (bset (bset (bset (bset h hr) hr) hr) hr) hr) hr

/-- The document's forest in the block g: its spans are L. -/
def RfIs (w : World) (g : Nat) (tr : Int) (L : List Sp) : Prop := w.cell? ⟨g, 0, none⟩ = some (.int .i64 tr) ∧ ∃ v, w.cell? ⟨g, 1, none⟩ = some v ∧ Sps w v L

set_option maxRecDepth 200000 in
set_option maxHeartbeats 1000000 in
theorem refFind_any {w : World} {g : Nat} {tr : Int} {L : List Sp} (h : RfIs w g tr L) (k : Int) : Calls Try.prog 21 #[.pointer (some ⟨g, 0, none⟩), .int .i64 k] w fun e w' => e = .returned (.tuple #[spV ((fnd L k).getD sp0), .bool (fnd L k).isSome]) ∧ Below w.heap.size w w' := by
  obtain ⟨c0, v, c1, hv⟩ := h
  obtain ⟨p, n, c, rfl⟩ := hv.sl
  have hgw := lt_of_cell c0
  have hgn : g ≠ w.heap.size := by simp only at hgw; omega
  have hnm : (n : Int) ≤ 9223372036854775807 := by have := hv.len; unfold maxLen at this; omega
  have HV := hide hv
  clear hv
  go_enter Try.func21, Try.ntmps21
  go_wp2_with fail
  obtain ⟨w1, hw1⟩ : ∃ w1, w.alloc (.cells #[.int .i64 0, .int .i64 0, .int .i64 0, .int .i64 0, .int .i64 0, .string ⟨#[]⟩] 33) = w1 := ⟨_, rfl⟩
  rw [hw1]
  have hrow : w1.heap[w.heap.size]? = some (.cells #[.int .i64 0, .int .i64 0, .int .i64 0, .int .i64 0, .int .i64 0, .string ⟨#[]⟩] 33) := by rw [← hw1]; exact heap_alloc_new w _
  have hb1 : Below w.heap.size w w1 := by rw [← hw1]; exact (Below.refl _ _).alloc (Nat.le_refl _) _
  have hsz1 : w1.heap.size = w.heap.size + 1 := by rw [← hw1]; simp
  have HROW := hide hrow
  have HB1 := hide hb1
  have HSZ := hide hsz1
  clear hrow hb1 hsz1 hw1
  go_loopw [7, 13] (fun _ i wr => ∃ j : Nat, j ≤ n ∧ i = .int .i64 j ∧ Hid (Below w1.heap.size w1 wr ∧ fnd L k = fnd (L.drop j) k)) (fun _ i _ => n - (intOf i).toNat)
  case atStart => exact ⟨0, Nat.zero_le _, rfl, hide ⟨Below.refl _ _, by rw [List.drop_zero]⟩⟩
  case round =>
    obtain ⟨j, hj, rfl, hrel⟩ := hrel
    obtain ⟨hbel, hfn⟩ := hrel.out
    have hrow : wr.heap[w.heap.size]? = some (.cells #[.int .i64 0, .int .i64 0, .int .i64 0, .int .i64 0, .int .i64 0, .string ⟨#[]⟩] 33) := (hbel.block w.heap.size (by have := HSZ.out; omega)).trans HROW.out
    have hgr : w.heap.size < wr.heap.size := by have := hbel.size; have := HSZ.out; omega
    have hgrn : w.heap.size ≠ wr.heap.size := by omega
    have b0 := cell_of_row wr w.heap.size 0 _ 33 (0, 0) hrow
    have b1 := cell_of_row wr w.heap.size 1 _ 33 (0, 0) hrow
    have b2 := cell_of_row wr w.heap.size 2 _ 33 (0, 0) hrow
    have b3 := cell_of_row wr w.heap.size 3 _ 33 (0, 0) hrow
    have b4 := cell_of_row wr w.heap.size 4 _ 33 (0, 0) hrow
    have b5 := cell_of_row wr w.heap.size 5 _ 33 (0, 0) hrow
    have f0 := frozen_of_row wr w.heap.size 0 _ 33 hrow
    have f1 := frozen_of_row wr w.heap.size 1 _ 33 hrow
    have f2 := frozen_of_row wr w.heap.size 2 _ 33 hrow
    have f3 := frozen_of_row wr w.heap.size 3 _ 33 hrow
    have f4 := frozen_of_row wr w.heap.size 4 _ 33 hrow
    have f5 := frozen_of_row wr w.heap.size 5 _ 33 hrow
    have HRW := hide hrow
    have HBL := hide hbel
    have HFN := hide hfn
    clear hrow hbel hfn hrel
    by_cases hjn : (j : Int) < (n : Int)
    · obtain ⟨gs, o, rfl, hat⟩ := HV.out.at_ (by omega)
      have hn := HV.out.len.1
      obtain ⟨x, hx⟩ : ∃ x, L[j]? = some x := ⟨_, List.getElem?_eq_getElem (by omega)⟩
      have hsx := (((hat j x hx).below HB1.out).below HBL.out)
      have e0 := hsx.c0
      have e1 := hsx.c1
      have e2 := hsx.c2
      have e3 := hsx.c3
      have e4 := hsx.c4
      have e5 := hsx.c5
      have hdrop : L.drop j = x :: L.drop (j + 1) := List.drop_eq_getElem?_toList_append.trans (by rw [hx]; rfl)
      have HD := hide hdrop
      have HX := hide hx
      clear hat hx hsx hdrop
      by_cases hk : x.i = k
      · subst hk
        have hres : fnd L x.i = some x := by rw [HFN.out, HD.out]; unfold fnd; simp
        have HRES := hide hres
        clear hres
        go_wp2
        have h6 := six_set HRW.out x
        have hbel6 := six_below (HB1.out.trans (HBL.out.mono (by have := HSZ.out; omega))) (Nat.le_refl w.heap.size) (.int .i64 x.t) (.int .i64 x.i) (.int .i64 x.p) (.int .i64 x.s) (.int .i64 x.e) (.string x.n)
        refine bodyPost_ret (v := .tuple #[spV x, .bool true]) (by
          clear hbel6
          generalize ((((((wr.setCell ⟨w.heap.size, 0, none⟩ (.int .i64 x.t)).setCell ⟨w.heap.size, 1, none⟩ (.int .i64 x.i)).setCell ⟨w.heap.size, 2, none⟩ (.int .i64 x.p)).setCell ⟨w.heap.size, 3, none⟩ (.int .i64 x.s)).setCell ⟨w.heap.size, 4, none⟩ (.int .i64 x.e)).setCell ⟨w.heap.size, 5, none⟩ (.string x.n)) = W9 at h6 ⊢
          obtain ⟨m0, m1, m2, m3, m4, m5⟩ := h6.z
          have hz9 : w.heap.size < W9.heap.size := h6.lt
          clear h6
          unfold spV
          simp [results, Try.results21, go_sem, m0, m1, m2, m3, m4, m5, hz9]) rfl ⟨by rw [HRES.out]; rfl, hbel6.alloc hbel6.size _⟩
      · have hnx : fnd L k = fnd (L.drop (j + 1)) k := by
          rw [HFN.out, HD.out]
          unfold fnd
          rw [List.find?_cons, beq_eq_false_iff_ne.2 hk]
        have HNX := hide hnx
        clear hnx
        go_wp2
        go_roundw
        case rel => exact ⟨j + 1, by omega, by go_num, hide ⟨HBL.out.alloc HBL.out.size _, HNX.out⟩⟩
        case measure => simp [intOf]; omega
    · have hres : fnd L k = none := by
        have hn := HV.out.len.1
        rw [HFN.out, List.drop_eq_nil_of_le (by omega)]
        rfl
      have HRES := hide hres
      clear hres
      go_wp2
      have h6 := six_set HRW.out ⟨0, 0, 0, 0, 0, ⟨#[]⟩⟩
      dsimp only at h6
      have hbel6 := six_below (HB1.out.trans (HBL.out.mono (by have := HSZ.out; omega))) (Nat.le_refl w.heap.size) (.int .i64 0) (.int .i64 0) (.int .i64 0) (.int .i64 0) (.int .i64 0) (.string ⟨#[]⟩)
      refine bodyPost_ret (v := .tuple #[.agg #[.int .i64 0, .int .i64 0, .int .i64 0, .int .i64 0, .int .i64 0, .string ⟨#[]⟩], .bool false]) (by
        clear hbel6
        generalize ((((((wr.setCell ⟨w.heap.size, 0, none⟩ (.int .i64 0)).setCell ⟨w.heap.size, 1, none⟩ (.int .i64 0)).setCell ⟨w.heap.size, 2, none⟩ (.int .i64 0)).setCell ⟨w.heap.size, 3, none⟩ (.int .i64 0)).setCell ⟨w.heap.size, 4, none⟩ (.int .i64 0)).setCell ⟨w.heap.size, 5, none⟩ (.string ⟨#[]⟩)) = W9 at h6 ⊢
        obtain ⟨m0, m1, m2, m3, m4, m5⟩ := h6.z
        have hz9 : w.heap.size < W9.heap.size := h6.lt
        clear h6
        simp [results, Try.results21, go_sem, m0, m1, m2, m3, m4, m5, hz9]) rfl ⟨by rw [HRES.out]; rfl, hbel6⟩
end Go.Proofs.Ytbbdijnkgkabbaa
