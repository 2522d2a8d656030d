/- The law ForestNobody. -/
import Derived.Test.YtokmmmpijcbknaaFLight
namespace Go.Proofs.Ytokmmmpijcbknaa
set_option linter.unusedVariables false
set_option linter.unusedSimpArgs false
open Go.RowKit

set_option maxRecDepth 200000 in
set_option maxHeartbeats 4000000 in
theorem lawFoNobody_any {w : World} {v : Value} {l : List Sp} (k : Int) (hv : Sps w v l) (hn9 : ∀ x ∈ l, x.n.size ≤ maxLen) : Calls Try.prog 11 #[v, .int .i64 k] w fun e w' => e = .returned (.bool true) ∧ Below w.heap.size w w' := by
  obtain ⟨p, n, c, rfl⟩ := hv.sl
  have HL := hide (light_any hv hn9)
  have HA := hide awake_any
  clear hv hn9
  cases hl : lightL l with
  | false =>
    rw [hl] at HL
    go_enter Try.func11, Try.ntmps11
    go_wp2_with fail
    refine HL.out.mono ?_
    rintro e1 w1 ⟨rfl, hw⟩
    have hw := hw.symm
    subst hw
    go_wp2_with fail
    refine (HA.out _).mono ?_
    rintro e2 w2 ⟨rfl, hb2⟩
    have HB2 := hide hb2
    clear hb2
    go_wp2
    go_ret
    exact ⟨rfl, HB2.out⟩
  | true =>
    rw [hl] at HL
    have hr1 := heap_alloc_new w (.cells #[.map none, .int .i64 0] 65)
    have hb1 := (Below.refl w.heap.size w).alloc (Nat.le_refl _) (.cells #[.map none, .int .i64 0] 65)
    have hr2 := heap_alloc_new (w.alloc (.cells #[.map none, .int .i64 0] 65)) (.cells #[.pointer none, .pointer (some ⟨w.heap.size, 0, none⟩)] 23)
    have hb2 := (Below.refl (w.alloc (.cells #[.map none, .int .i64 0] 65)).heap.size (w.alloc (.cells #[.map none, .int .i64 0] 65))).alloc (Nat.le_refl _) (.cells #[.pointer none, .pointer (some ⟨w.heap.size, 0, none⟩)] 23)
    have hr3 := (hb2.block w.heap.size (by simp)).trans hr1
    have hs : (w.alloc (.cells #[.map none, .int .i64 0] 65)).heap.size = w.heap.size + 1 := by simp
    have hb3 := hb1.trans (hb2.mono (by simp))
    rw [hs] at hr2
    have HS := hide (And.intro hr3 (And.intro hr2 hb3))
    clear hr1 hb1 hr2 hb2 hr3 hs hb3
    go_enter Try.func11, Try.ntmps11
    go_wp2_with fail
    refine HL.out.mono ?_
    rintro e1 w1 ⟨rfl, hw⟩
    have hw := hw.symm
    subst hw
    go_wp2_with fail
    obtain ⟨Y, hY⟩ : ∃ Y, (w.alloc (.cells #[.map none, .int .i64 0] 65)).alloc (.cells #[.pointer none, .pointer (some ⟨w.heap.size, 0, none⟩)] 23) = Y := ⟨_, rfl⟩
    rw [hY] at HS
    rw [hY]
    clear hY
    go_loopw [6, 7, 8, 9, 10, 19] (fun _ _ _ _ _ ix wr => ∃ j : Nat, j ≤ 2 ∧ ix = .int .i64 j ∧ Hid (Below Y.heap.size Y wr)) (fun _ _ _ _ _ ix _ => 2 - (intOf ix).toNat)
    case atStart => exact ⟨0, by omega, rfl, hide (Below.refl _ _)⟩
    case round =>
      obtain ⟨j, hj, rfl, HR⟩ := hrel
      have q1 := (HR.out.block (w.heap.size + 1) (Array.getElem?_eq_some_iff.1 HS.out.2.1).1).trans HS.out.2.1
      have q0 := (HR.out.block w.heap.size (Array.getElem?_eq_some_iff.1 HS.out.1).1).trans HS.out.1
      have p0 := cell_of_row wr (w.heap.size + 1) 0 _ 23 (0, 0) q1
      have p1 := cell_of_row wr (w.heap.size + 1) 1 _ 23 (0, 0) q1
      have m0 := cell_of_row wr w.heap.size 0 _ 65 (0, 0) q0
      have HM0 := hide m0
      clear q1 q0 m0
      rcases j with _ | _ | _ | j
      · have HNOF : Hid (∀ W, Below wr.heap.size wr W → NoF W (.pointer none)) := hide (fun W _ => .inl rfl)
        go_wp2_with fail
        refine (add_no (HNOF.out _ (Below.refl _ _))).mono ?_
        rintro e1 w1 ⟨rfl, hb1⟩
        have hb1' := hb1.alloc hb1.size (.cells #[.int .i64 0, .int .i64 0, .int .i64 0, .int .i64 0, .int .i64 0] 36)
        have hn1 := heap_alloc_new w1 (.cells #[.int .i64 0, .int .i64 0, .int .i64 0, .int .i64 0, .int .i64 0] 36)
        have HB1 := hide hb1'
        have HN1 := hide hn1
        clear hb1 hb1' hn1
        go_wp2_with fail
        refine (find_no _ (HNOF.out _ HB1.out)).mono ?_
        rintro e2 w2 ⟨rfl, hb2⟩
        have hnn := (hb2.block w1.heap.size (Array.getElem?_eq_some_iff.1 HN1.out).1).trans HN1.out
        have hbb := HB1.out.trans (hb2.mono HB1.out.size)
        have hba := (Below.refl w2.heap.size w2).alloc (Nat.le_refl _) (.cells #[.int .i64 0, .int .i64 0, .int .i64 0, .int .i64 0, .int .i64 0, .string ⟨#[]⟩] 33)
        have hns := heap_alloc_new w2 (.cells #[.int .i64 0, .int .i64 0, .int .i64 0, .int .i64 0, .int .i64 0, .string ⟨#[]⟩] 33)
        have hnn2 := (hba.block w1.heap.size (Array.getElem?_eq_some_iff.1 hnn).1).trans hnn
        have hbv := hbb.trans (hba.mono hbb.size)
        have HH := hide (And.intro hnn2 (And.intro hns hbv))
        clear hb2 hnn hbb hba hns hnn2 hbv
        have n0 := cell_of_row (w2.alloc (.cells #[.int .i64 0, .int .i64 0, .int .i64 0, .int .i64 0, .int .i64 0, .string ⟨#[]⟩] 33)) w1.heap.size 0 _ 36 (0, 0) HH.out.1
        have n1 := cell_of_row (w2.alloc (.cells #[.int .i64 0, .int .i64 0, .int .i64 0, .int .i64 0, .int .i64 0, .string ⟨#[]⟩] 33)) w1.heap.size 1 _ 36 (0, 0) HH.out.1
        have n2 := cell_of_row (w2.alloc (.cells #[.int .i64 0, .int .i64 0, .int .i64 0, .int .i64 0, .int .i64 0, .string ⟨#[]⟩] 33)) w1.heap.size 2 _ 36 (0, 0) HH.out.1
        have n3 := cell_of_row (w2.alloc (.cells #[.int .i64 0, .int .i64 0, .int .i64 0, .int .i64 0, .int .i64 0, .string ⟨#[]⟩] 33)) w1.heap.size 3 _ 36 (0, 0) HH.out.1
        have n4 := cell_of_row (w2.alloc (.cells #[.int .i64 0, .int .i64 0, .int .i64 0, .int .i64 0, .int .i64 0, .string ⟨#[]⟩] 33)) w1.heap.size 4 _ 36 (0, 0) HH.out.1
        have hw12 : w1.heap.size < (w2.alloc (.cells #[.int .i64 0, .int .i64 0, .int .i64 0, .int .i64 0, .int .i64 0, .string ⟨#[]⟩] 33)).heap.size := lt_of_cell n0
        have HB := hide HH.out.2.2
        go_wp2_with fail
        refine (len_no (HNOF.out _ HB.out)).mono ?_
        rintro e10 w10 ⟨rfl, hb10⟩
        have HB10 := hide (HB.out.trans (hb10.mono HB.out.size))
        clear hb10
        go_wp2_with fail
        refine (end_no (HNOF.out _ HB10.out)).mono ?_
        rintro e11 w11 ⟨rfl, hb11⟩
        have HB11 := hide (HB10.out.trans (hb11.mono HB10.out.size))
        clear hb11
        go_wp2_with fail
        refine (spans_no (HNOF.out _ HB11.out)).mono ?_
        rintro e12 w12 ⟨rfl, hb12⟩
        have HB12 := hide (HB11.out.trans (hb12.mono HB11.out.size))
        clear hb12
        go_wp2_with fail
        refine (branches_no (HNOF.out _ HB12.out)).mono ?_
        rintro e13 w13 ⟨rfl, hb13⟩
        have HB13 := hide (HB12.out.trans (hb13.mono HB12.out.size))
        clear hb13
        go_wp2_with fail
        refine (clone_no (HNOF.out _ HB13.out)).mono ?_
        rintro e14 w14 ⟨rfl, hb14⟩
        have HB14 := hide (HB13.out.trans (hb14.mono HB13.out.size))
        clear hb14
        go_wp2
        go_roundw
        case rel => exact ⟨1, by omega, by first | rfl | go_num, hide (HR.out.trans (HB14.out.mono HR.out.size))⟩
        case measure => simp [intOf]
      · have HNOF : Hid (∀ W, Below wr.heap.size wr W → NoF W (.pointer (some ⟨w.heap.size, 0, none⟩))) := hide (fun W hb => .inr ⟨_, rfl, (hb.cell (lt_of_cell HM0.out)).trans HM0.out⟩)
        go_wp2_with fail
        refine (add_no (HNOF.out _ (Below.refl _ _))).mono ?_
        rintro e1 w1 ⟨rfl, hb1⟩
        have hb1' := hb1.alloc hb1.size (.cells #[.int .i64 0, .int .i64 0, .int .i64 0, .int .i64 0, .int .i64 0] 36)
        have hn1 := heap_alloc_new w1 (.cells #[.int .i64 0, .int .i64 0, .int .i64 0, .int .i64 0, .int .i64 0] 36)
        have HB1 := hide hb1'
        have HN1 := hide hn1
        clear hb1 hb1' hn1
        go_wp2_with fail
        refine (find_no _ (HNOF.out _ HB1.out)).mono ?_
        rintro e2 w2 ⟨rfl, hb2⟩
        have hnn := (hb2.block w1.heap.size (Array.getElem?_eq_some_iff.1 HN1.out).1).trans HN1.out
        have hbb := HB1.out.trans (hb2.mono HB1.out.size)
        have hba := (Below.refl w2.heap.size w2).alloc (Nat.le_refl _) (.cells #[.int .i64 0, .int .i64 0, .int .i64 0, .int .i64 0, .int .i64 0, .string ⟨#[]⟩] 33)
        have hns := heap_alloc_new w2 (.cells #[.int .i64 0, .int .i64 0, .int .i64 0, .int .i64 0, .int .i64 0, .string ⟨#[]⟩] 33)
        have hnn2 := (hba.block w1.heap.size (Array.getElem?_eq_some_iff.1 hnn).1).trans hnn
        have hbv := hbb.trans (hba.mono hbb.size)
        have HH := hide (And.intro hnn2 (And.intro hns hbv))
        clear hb2 hnn hbb hba hns hnn2 hbv
        have n0 := cell_of_row (w2.alloc (.cells #[.int .i64 0, .int .i64 0, .int .i64 0, .int .i64 0, .int .i64 0, .string ⟨#[]⟩] 33)) w1.heap.size 0 _ 36 (0, 0) HH.out.1
        have n1 := cell_of_row (w2.alloc (.cells #[.int .i64 0, .int .i64 0, .int .i64 0, .int .i64 0, .int .i64 0, .string ⟨#[]⟩] 33)) w1.heap.size 1 _ 36 (0, 0) HH.out.1
        have n2 := cell_of_row (w2.alloc (.cells #[.int .i64 0, .int .i64 0, .int .i64 0, .int .i64 0, .int .i64 0, .string ⟨#[]⟩] 33)) w1.heap.size 2 _ 36 (0, 0) HH.out.1
        have n3 := cell_of_row (w2.alloc (.cells #[.int .i64 0, .int .i64 0, .int .i64 0, .int .i64 0, .int .i64 0, .string ⟨#[]⟩] 33)) w1.heap.size 3 _ 36 (0, 0) HH.out.1
        have n4 := cell_of_row (w2.alloc (.cells #[.int .i64 0, .int .i64 0, .int .i64 0, .int .i64 0, .int .i64 0, .string ⟨#[]⟩] 33)) w1.heap.size 4 _ 36 (0, 0) HH.out.1
        have hw12 : w1.heap.size < (w2.alloc (.cells #[.int .i64 0, .int .i64 0, .int .i64 0, .int .i64 0, .int .i64 0, .string ⟨#[]⟩] 33)).heap.size := lt_of_cell n0
        have HB := hide HH.out.2.2
        go_wp2_with fail
        refine (len_no (HNOF.out _ HB.out)).mono ?_
        rintro e10 w10 ⟨rfl, hb10⟩
        have HB10 := hide (HB.out.trans (hb10.mono HB.out.size))
        clear hb10
        go_wp2_with fail
        refine (end_no (HNOF.out _ HB10.out)).mono ?_
        rintro e11 w11 ⟨rfl, hb11⟩
        have HB11 := hide (HB10.out.trans (hb11.mono HB10.out.size))
        clear hb11
        go_wp2_with fail
        refine (spans_no (HNOF.out _ HB11.out)).mono ?_
        rintro e12 w12 ⟨rfl, hb12⟩
        have HB12 := hide (HB11.out.trans (hb12.mono HB11.out.size))
        clear hb12
        go_wp2_with fail
        refine (branches_no (HNOF.out _ HB12.out)).mono ?_
        rintro e13 w13 ⟨rfl, hb13⟩
        have HB13 := hide (HB12.out.trans (hb13.mono HB12.out.size))
        clear hb13
        go_wp2_with fail
        refine (clone_no (HNOF.out _ HB13.out)).mono ?_
        rintro e14 w14 ⟨rfl, hb14⟩
        have HB14 := hide (HB13.out.trans (hb14.mono HB13.out.size))
        clear hb14
        go_wp2
        go_roundw
        case rel => exact ⟨2, by omega, by first | rfl | go_num, hide (HR.out.trans (HB14.out.mono HR.out.size))⟩
        case measure => simp [intOf]
      · go_wp2_with fail
        refine (HA.out _).mono ?_
        rintro e2 w2 ⟨rfl, hb2⟩
        have HB2 := hide ((HS.out.2.2.trans (HR.out.mono HS.out.2.2.size)).trans (hb2.mono (HS.out.2.2.trans (HR.out.mono HS.out.2.2.size)).size))
        clear hb2
        go_wp2
        go_ret
        exact ⟨rfl, HB2.out⟩
      · omega
end Go.Proofs.Ytokmmmpijcbknaa
