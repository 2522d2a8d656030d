/- The document's Hint. -/
import Derived.Test.YtfbkgnkgpbpphaaLMade
namespace Go.Proofs.Ytfbkgnkgpbpphaa
set_option linter.unusedVariables false
set_option linter.unusedSimpArgs false
open Go.RowKit

theorem at_get {x : Lg} (ho : x.Ok) {k : Nat} {e : En} (he : x.l[k]? = some e) : x.at_ (x.ix + k + 1) = (e.t, true) := by
  have hb := good_le ho.good
  have hi := goOn_get ho.on hb.1 hb.2.1 k e he
  rw [← hi.1]
  exact at_hit ho he (by omega)
set_option maxRecDepth 200000 in
set_option maxHeartbeats 4000000 in
theorem refHint_any {w : World} {g : Nat} {x : Lg} (h : RgIs w g x) (index : Int) (hif : fits index) : Calls Try.prog 39 #[.pointer (some ⟨g, 0, none⟩), .int .i64 index] w fun e w' => e = .returned (.int .i64 (hintI x index)) ∧ Below w.heap.size w w' := by
  have HE := hide (refLast_any h)
  have hend := Lg.end_1 h.ok
  have hbd := good_le h.ok.good
  have hfew := h.few
  rw [hend] at HE
  obtain ⟨b, hb⟩ : ∃ b, x.end_.2 = b := ⟨_, rfl⟩
  rw [hb] at HE
  obtain ⟨n, hn⟩ : ∃ n, x.l.length = n := ⟨_, rfl⟩
  obtain ⟨a, ha⟩ : ∃ a, x.ix + (n : Int) = a := ⟨_, rfl⟩
  obtain ⟨ix, hix⟩ : ∃ ix, x.ix = ix := ⟨_, rfl⟩
  have HX : Hid (hintI x index = if a < index ∨ n = 0 then a + 1 else ix + back x.l (max index (ix + 1) - ix - 1).toNat + 1) := hide (by unfold hintI; rw [hn, ha, hix])
  rw [hn, ha] at HE
  have HW := hide h
  have HN := hide hn
  have HIX := hide hix
  rw [hix] at ha hbd
  obtain ⟨b0, b1, _, _⟩ := hbd
  have HA := hide ha
  have a0 : 0 ≤ a := by omega
  have a1 : a ≤ 1099512627776 := by omega
  have hn9 : n ≤ 100000 := by omega
  clear h hend hb hn hif hix ha hfew
  go_enter Try.func39, Try.ntmps39
  go_wp2_with fail
  refine HE.out.mono ?_
  rintro e w2 ⟨rfl, hb2⟩
  have HB2 := hide hb2
  have HW2 := hide (HW.out.below hb2)
  have d0 := HW2.out.c0
  rw [HIX.out] at d0
  clear hb2 HE
  by_cases h1 : a < index
  · have e1 : decide (a < index) = true := by simpa using h1
    have HX2 : Hid (hintI x index = a + 1) := hide (by rw [HX.out, if_pos (.inl h1)])
    clear HX h1
    go_wp2
    go_ret
    exact ⟨ret_i HX2.out, HB2.out⟩
  · have e1 : decide (a < index) = false := by simpa using h1
    obtain ⟨mx, hmx⟩ : ∃ mx, max index (ix + 1) = mx := ⟨_, rfl⟩
    have m0 : ix + 1 ≤ mx := by omega
    have m1 : mx ≤ 1099512627777 := by omega
    have HAT := hide (refAt_any HW2.out mx)
    by_cases h2 : n = 0
    · have HX2 : Hid (hintI x index = mx) := hide (by
        rw [HX.out, if_pos (.inr h2)]
        have := HA.out
        omega)
      have HAQ : Hid (x.at_ mx = (0, false)) := hide (at_miss HW2.out.ok (by rw [HIX.out]; omega) fun k e he => by
        have := (List.getElem?_eq_some_iff.1 he).1
        rw [HN.out] at this
        omega)
      rw [HAQ.out] at HAT
      clear HX h1 h2
      go_wp2_with fail
      refine HAT.out.mono ?_
      rintro e w3 ⟨rfl, hb3⟩
      have HB3 := hide (HB2.out.trans (hb3.mono HB2.out.size))
      clear hb3
      go_wp2_with fail
      go_loopw [7, 10, 11] (fun t _ _ wr => t = .int .i64 mx ∧ Hid (wr = w3)) (fun _ _ _ _ => 0)
      case atStart => exact ⟨rfl, hide rfl⟩
      case round =>
        obtain ⟨rfl, HR⟩ := hrel
        have hw := HR.out
        subst wr
        go_wp2
        go_ret
        exact ⟨ret_i HX2.out, HB3.out⟩
    · obtain ⟨k0, hk0⟩ : ∃ k0 : Nat, mx - ix - 1 = (k0 : Int) := ⟨(mx - ix - 1).toNat, by omega⟩
      have hkn : k0 < n := by have := HA.out; omega
      have HX2 : Hid (hintI x index = ix + back x.l k0 + 1) := hide (by rw [HX.out, if_neg (by omega), hmx, hk0, Int.toNat_natCast])
      obtain ⟨e0, he0⟩ : ∃ e, x.l[k0]? = some e := ⟨_, List.getElem?_eq_getElem (by rw [HN.out]; exact hkn)⟩
      have HMX : Hid (mx = ix + k0 + 1) := hide (by omega)
      have HAQ : Hid (x.at_ mx = (e0.t, true)) := hide (by
        have := at_get HW2.out.ok he0
        rwa [HIX.out, ← HMX.out] at this)
      rw [HAQ.out] at HAT
      have HE0 := hide he0
      obtain ⟨tm, htm⟩ : ∃ tm, e0.t = tm := ⟨_, rfl⟩
      rw [htm] at HAT
      have HTM := hide htm
      have HMX2 := hide hmx
      have HKN := hide hkn
      clear HX h1 h2 hk0 he0 htm hkn
      go_wp2_with fail
      refine HAT.out.mono ?_
      rintro e w3 ⟨rfl, hb3⟩
      have HB3 : Hid (Below w2.heap.size w2 w3) := hide hb3
      clear hb3 hmx
      have d0 := (HB3.out.cell (lt_of_cell d0)).trans d0
      have HD0 := hide d0
      go_wp2_with fail
      go_loopw [7, 10, 11] (fun t _ _ wr => ∃ (j : Nat) (A : Int), j ≤ k0 ∧ t = .int .i64 A ∧ ix + 1 ≤ A ∧ A ≤ 1099512627777 ∧ Hid (A = ix + j + 1 ∧ back x.l k0 = back x.l j ∧ (∃ e, x.l[j]? = some e ∧ e.t = tm) ∧ Below w3.heap.size w3 wr)) (fun t _ _ _ => (intOf t - ix).toNat)
      case atStart => exact ⟨k0, mx, Nat.le_refl _, rfl, m0, m1, hide ⟨HMX.out, rfl, ⟨e0, HE0.out, HTM.out⟩, Below.refl _ _⟩⟩
      case round =>
        obtain ⟨j, A, hj, rfl, hA0, hA1, HR⟩ := hrel
        have y0 := (HR.out.2.2.2.cell (lt_of_cell HD0.out)).trans HD0.out
        have HBR : Hid (Below w2.heap.size w2 wr) := hide (HB3.out.trans (HR.out.2.2.2.mono HB3.out.size))
        have HBRW : Hid (Below w.heap.size w wr) := hide (HB2.out.trans (HBR.out.mono HB2.out.size))
        cases j with
        | zero =>
          have hA : A = ix + 1 := by have := HR.out.1; omega
          have e2 : decide (ix + 1 < A) = false := decide_eq_false (by omega)
          have HX3 : Hid (hintI x index = A) := hide (by rw [HX2.out, HR.out.2.1, hA]; simp [back])
          clear hA
          go_wp2
          go_ret
          exact ⟨ret_i HX3.out, HBRW.out⟩
        | succ i =>
          have e2 : decide (ix + 1 < A) = true := decide_eq_true (by have := HR.out.1; omega)
          obtain ⟨e3, he3⟩ : ∃ e, x.l[i]? = some e := ⟨_, List.getElem?_eq_getElem (by rw [HN.out]; have := HKN.out; omega)⟩
          have HAT2 := hide (refAt_any (HW2.out.below HBR.out) (A - 1))
          have hq3 : x.at_ (A - 1) = (e3.t, true) := by
            have := at_get HW2.out.ok he3
            rw [HIX.out] at this
            have h3 := HR.out.1
            rwa [show A - 1 = ix + i + 1 by omega]
          rw [hq3] at HAT2
          obtain ⟨t2, ht2⟩ : ∃ t2, e3.t = t2 := ⟨_, rfl⟩
          rw [ht2] at HAT2
          have HE3 := hide (And.intro he3 ht2)
          obtain ⟨e4, he4, ht4⟩ := HR.out.2.2.1
          have HE4 := hide (And.intro he4 ht4)
          clear hq3 he3 ht2 he4 ht4
          go_wp2_with fail
          refine HAT2.out.mono ?_
          rintro e w4 ⟨rfl, hb4⟩
          have HB4 : Hid (Below w3.heap.size w3 w4) := hide (HR.out.2.2.2.trans (hb4.mono HR.out.2.2.2.size))
          have HB4W : Hid (Below w.heap.size w w4) := hide (HBRW.out.trans (hb4.mono HBRW.out.size))
          clear hb4 y0
          by_cases hq : t2 = tm
          · have HX3 : Hid (back x.l (i + 1) = back x.l i) := hide (by
              conv => lhs; unfold back
              rw [if_pos (by rw [HE3.out.1, HE4.out.1]; simp [HE3.out.2, HE4.out.2, hq])])
            have HE5 : Hid (∃ e, x.l[i]? = some e ∧ e.t = tm) := hide ⟨e3, HE3.out.1, HE3.out.2.trans hq⟩
            have e5 : (t2 != tm) = false := by simpa using hq
            clear hq
            go_wp2
            go_roundw
            case rel => exact ⟨i, A - 1, by omega, rfl, by have := HR.out.1; omega, by omega, hide ⟨by have := HR.out.1; omega, HR.out.2.1.trans HX3.out, HE5.out, HB4.out⟩⟩
            case measure => simp [intOf]; omega
          · have e5 : (t2 != tm) = true := by simpa using hq
            have HX3 : Hid (hintI x index = A) := hide (by
              have : back x.l (i + 1) = i + 1 := by
                conv => lhs; unfold back
                rw [if_neg (by rw [HE3.out.1, HE4.out.1]; simp [HE3.out.2, HE4.out.2, hq])]
              rw [HX2.out, HR.out.2.1, HR.out.1, this])
            clear hq
            go_wp2
            go_ret
            exact ⟨ret_i HX3.out, HB4W.out⟩
end Go.Proofs.Ytfbkgnkgpbpphaa
