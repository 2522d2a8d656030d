/- The law StoreNobody. -/
import Derived.Test.YtimjplkehlgelaaSoAwL
namespace Go.Proofs.Ytimjplkehlgelaa
set_option linter.unusedVariables false
set_option linter.unusedSimpArgs false
open Go.RowKit

set_option maxRecDepth 200000 in
set_option maxHeartbeats 4000000 in
theorem lawStNobody_any {w : World} {v : Value} {l : List Sp} (k : Int) (hv : Sps w v l) (hn9 : ∀ x ∈ l, x.n.size ≤ maxLen) : Calls Try.prog 7 #[v, .int .i64 k] w fun e w' => e = .returned (.bool true) ∧ Below w.heap.size w w' := by
  obtain ⟨p, n, c, rfl⟩ := hv.sl
  have HL := hide (slight_any hv hn9)
  have HA := hide sawake_any
  clear hv hn9
  cases hl : lightL l with
  | false =>
    rw [hl] at HL
    go_enter Try.func7, Try.ntmps7
    go_wp2_with fail
    refine HL.out.mono ?_
    rintro e1 w1 ⟨rfl, hw⟩
    have hw := hw.symm
    subst hw
    go_wp2_with fail
    refine (HA.out _).mono ?_
    rintro e2 w2 ⟨rfl, hb2⟩
    have HB2 := hide hb2
    clear hb2
    go_wp2
    go_ret
    exact ⟨rfl, HB2.out⟩
  | true =>
    rw [hl] at HL
    have hr1 := heap_alloc_new w (.cells #[.map none] 58)
    have hb1 := (Below.refl w.heap.size w).alloc (Nat.le_refl _) (.cells #[.map none] 58)
    have hr2 := heap_alloc_new (w.alloc (.cells #[.map none] 58)) (.cells #[.pointer none, .pointer (some ⟨w.heap.size, 0, none⟩)] 27)
    have hb2 := (Below.refl (w.alloc (.cells #[.map none] 58)).heap.size (w.alloc (.cells #[.map none] 58))).alloc (Nat.le_refl _) (.cells #[.pointer none, .pointer (some ⟨w.heap.size, 0, none⟩)] 27)
    have hr3 := (hb2.block w.heap.size (by simp)).trans hr1
    have hs : (w.alloc (.cells #[.map none] 58)).heap.size = w.heap.size + 1 := by simp
    have hb3 := hb1.trans (hb2.mono (by simp))
    rw [hs] at hr2
    have HS := hide (And.intro hr3 (And.intro hr2 hb3))
    clear hr1 hb1 hr2 hb2 hr3 hs hb3
    go_enter Try.func7, Try.ntmps7
    go_wp2_with fail
    refine HL.out.mono ?_
    rintro e1 w1 ⟨rfl, hw⟩
    have hw := hw.symm
    subst hw
    go_wp2_with fail
    obtain ⟨Y, hY⟩ : ∃ Y, (w.alloc (.cells #[.map none] 58)).alloc (.cells #[.pointer none, .pointer (some ⟨w.heap.size, 0, none⟩)] 27) = Y := ⟨_, rfl⟩
    rw [hY] at HS
    rw [hY]
    clear hY
    go_loopw [6, 7, 8, 17] (fun _ _ _ ix wr => ∃ j : Nat, j ≤ 2 ∧ ix = .int .i64 j ∧ Hid (Below Y.heap.size Y wr)) (fun _ _ _ ix _ => 2 - (intOf ix).toNat)
    case atStart => exact ⟨0, by omega, rfl, hide (Below.refl _ _)⟩
    case round =>
      obtain ⟨j, hj, rfl, HR⟩ := hrel
      have q1 := (HR.out.block (w.heap.size + 1) (Array.getElem?_eq_some_iff.1 HS.out.2.1).1).trans HS.out.2.1
      have q0 := (HR.out.block w.heap.size (Array.getElem?_eq_some_iff.1 HS.out.1).1).trans HS.out.1
      have p0 := cell_of_row wr (w.heap.size + 1) 0 _ 27 (0, 0) q1
      have p1 := cell_of_row wr (w.heap.size + 1) 1 _ 27 (0, 0) q1
      have m0 := cell_of_row wr w.heap.size 0 _ 58 (0, 0) q0
      have HM0 := hide m0
      clear q1 q0 m0
      rcases j with _ | _ | _ | j
      · have HNOF : Hid (∀ W, Below wr.heap.size wr W → NoSo W (.pointer none)) := hide (fun W _ => .inl rfl)
        go_wp2_with fail
        refine (singest_no (HNOF.out _ (Below.refl _ _))).mono ?_
        rintro e1 w1 ⟨rfl, hb1⟩
        have hb1' := hb1.alloc hb1.size (.cells #[.int .i64 0, .int .i64 0, .int .i64 0, .int .i64 0, .int .i64 0] 33)
        have hn1 := heap_alloc_new w1 (.cells #[.int .i64 0, .int .i64 0, .int .i64 0, .int .i64 0, .int .i64 0] 33)
        have HB1 := hide hb1'
        have HN1 := hide hn1
        obtain ⟨Y1, hY1⟩ : ∃ Y1, w1.alloc (.cells #[.int .i64 0, .int .i64 0, .int .i64 0, .int .i64 0, .int .i64 0] 33) = Y1 := ⟨_, rfl⟩
        have n0 := cell_of_row (w1.alloc (.cells #[.int .i64 0, .int .i64 0, .int .i64 0, .int .i64 0, .int .i64 0] 33)) w1.heap.size 0 _ 33 (0, 0) hn1
        have n1 := cell_of_row (w1.alloc (.cells #[.int .i64 0, .int .i64 0, .int .i64 0, .int .i64 0, .int .i64 0] 33)) w1.heap.size 1 _ 33 (0, 0) hn1
        have n2 := cell_of_row (w1.alloc (.cells #[.int .i64 0, .int .i64 0, .int .i64 0, .int .i64 0, .int .i64 0] 33)) w1.heap.size 2 _ 33 (0, 0) hn1
        have n3 := cell_of_row (w1.alloc (.cells #[.int .i64 0, .int .i64 0, .int .i64 0, .int .i64 0, .int .i64 0] 33)) w1.heap.size 3 _ 33 (0, 0) hn1
        have n4 := cell_of_row (w1.alloc (.cells #[.int .i64 0, .int .i64 0, .int .i64 0, .int .i64 0, .int .i64 0] 33)) w1.heap.size 4 _ 33 (0, 0) hn1
        clear hb1 hb1' hn1 hY1
        go_wp2_with fail
        refine (sretain_no (HNOF.out _ HB1.out) _).mono ?_
        rintro e20 w20 ⟨rfl, hb20⟩
        have HB20 := hide (HB1.out.trans (hb20.mono HB1.out.size))
        clear hb20
        go_wp2_with fail
        refine (slookup_no (HNOF.out _ HB20.out) _).mono ?_
        rintro e21 w21 ⟨rfl, hb21⟩
        have HB21 := hide (HB20.out.trans (hb21.mono HB20.out.size))
        clear hb21
        go_wp2_with fail
        refine (straces_no (HNOF.out _ HB21.out)).mono ?_
        rintro e22 w22 ⟨rfl, hb22⟩
        have HB22 := hide (HB21.out.trans (hb22.mono HB21.out.size))
        clear hb22
        go_wp2_with fail
        refine (simage_no (HNOF.out _ HB22.out)).mono ?_
        rintro e23 w23 ⟨rfl, hb23⟩
        have HB23 := hide (HB22.out.trans (hb23.mono HB22.out.size))
        clear hb23
        go_wp2_with fail
        refine (sclone_no (HNOF.out _ HB23.out)).mono ?_
        rintro e24 w24 ⟨rfl, hb24⟩
        have HB24 := hide (HB23.out.trans (hb24.mono HB23.out.size))
        clear hb24
        go_wp2
        go_roundw
        case rel => exact ⟨1, by omega, by first | rfl | go_num, hide (HR.out.trans (HB24.out.mono HR.out.size))⟩
        case measure => simp [intOf]
      · have HNOF : Hid (∀ W, Below wr.heap.size wr W → NoSo W (.pointer (some ⟨w.heap.size, 0, none⟩))) := hide (fun W hb => .inr ⟨_, rfl, (hb.cell (lt_of_cell HM0.out)).trans HM0.out⟩)
        go_wp2_with fail
        refine (singest_no (HNOF.out _ (Below.refl _ _))).mono ?_
        rintro e1 w1 ⟨rfl, hb1⟩
        have hb1' := hb1.alloc hb1.size (.cells #[.int .i64 0, .int .i64 0, .int .i64 0, .int .i64 0, .int .i64 0] 33)
        have hn1 := heap_alloc_new w1 (.cells #[.int .i64 0, .int .i64 0, .int .i64 0, .int .i64 0, .int .i64 0] 33)
        have HB1 := hide hb1'
        have HN1 := hide hn1
        obtain ⟨Y1, hY1⟩ : ∃ Y1, w1.alloc (.cells #[.int .i64 0, .int .i64 0, .int .i64 0, .int .i64 0, .int .i64 0] 33) = Y1 := ⟨_, rfl⟩
        have n0 := cell_of_row (w1.alloc (.cells #[.int .i64 0, .int .i64 0, .int .i64 0, .int .i64 0, .int .i64 0] 33)) w1.heap.size 0 _ 33 (0, 0) hn1
        have n1 := cell_of_row (w1.alloc (.cells #[.int .i64 0, .int .i64 0, .int .i64 0, .int .i64 0, .int .i64 0] 33)) w1.heap.size 1 _ 33 (0, 0) hn1
        have n2 := cell_of_row (w1.alloc (.cells #[.int .i64 0, .int .i64 0, .int .i64 0, .int .i64 0, .int .i64 0] 33)) w1.heap.size 2 _ 33 (0, 0) hn1
        have n3 := cell_of_row (w1.alloc (.cells #[.int .i64 0, .int .i64 0, .int .i64 0, .int .i64 0, .int .i64 0] 33)) w1.heap.size 3 _ 33 (0, 0) hn1
        have n4 := cell_of_row (w1.alloc (.cells #[.int .i64 0, .int .i64 0, .int .i64 0, .int .i64 0, .int .i64 0] 33)) w1.heap.size 4 _ 33 (0, 0) hn1
        clear hb1 hb1' hn1 hY1
        go_wp2_with fail
        refine (sretain_no (HNOF.out _ HB1.out) _).mono ?_
        rintro e20 w20 ⟨rfl, hb20⟩
        have HB20 := hide (HB1.out.trans (hb20.mono HB1.out.size))
        clear hb20
        go_wp2_with fail
        refine (slookup_no (HNOF.out _ HB20.out) _).mono ?_
        rintro e21 w21 ⟨rfl, hb21⟩
        have HB21 := hide (HB20.out.trans (hb21.mono HB20.out.size))
        clear hb21
        go_wp2_with fail
        refine (straces_no (HNOF.out _ HB21.out)).mono ?_
        rintro e22 w22 ⟨rfl, hb22⟩
        have HB22 := hide (HB21.out.trans (hb22.mono HB21.out.size))
        clear hb22
        go_wp2_with fail
        refine (simage_no (HNOF.out _ HB22.out)).mono ?_
        rintro e23 w23 ⟨rfl, hb23⟩
        have HB23 := hide (HB22.out.trans (hb23.mono HB22.out.size))
        clear hb23
        go_wp2_with fail
        refine (sclone_no (HNOF.out _ HB23.out)).mono ?_
        rintro e24 w24 ⟨rfl, hb24⟩
        have HB24 := hide (HB23.out.trans (hb24.mono HB23.out.size))
        clear hb24
        go_wp2
        go_roundw
        case rel => exact ⟨2, by omega, by first | rfl | go_num, hide (HR.out.trans (HB24.out.mono HR.out.size))⟩
        case measure => simp [intOf]
      · go_wp2_with fail
        refine (HA.out _).mono ?_
        rintro e2 w2 ⟨rfl, hb2⟩
        have HB2 := hide ((HS.out.2.2.trans (HR.out.mono HS.out.2.2.size)).trans (hb2.mono (HS.out.2.2.trans (HR.out.mono HS.out.2.2.size)).size))
        clear hb2
        go_wp2
        go_ret
        exact ⟨rfl, HB2.out⟩
      · omega
end Go.Proofs.Ytimjplkehlgelaa
