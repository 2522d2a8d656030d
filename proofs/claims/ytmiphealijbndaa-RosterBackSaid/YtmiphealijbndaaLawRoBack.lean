/- The law RosterBack. -/
import Derived.Test.YtmiphealijbndaaRLaw
import Derived.Test.YtmiphealijbndaaRBackP
namespace Go.Proofs.Ytmiphealijbndaa
set_option linter.unusedVariables false
set_option linter.unusedSimpArgs false
open Go.RowKit

set_option maxRecDepth 200000 in
set_option maxHeartbeats 4000000 in
theorem lawBack_any {w : World} {v : Value} {Lv : List Int} (hv : Ns w v Lv) (n : Int) (hn : fits n) : Calls Try.prog 10 #[v, .int .i64 n] w (Good w) := by
  have HAW := hide awake_any
  obtain ⟨pv, nv, cv, rfl⟩ := hv.sl
  have b1 : Below w.heap.size w (w.alloc (.cells #[.slice pv nv cv] 22)) := (Below.refl _ _).alloc (Nat.le_refl _) _
  have HL := hide (light1 hv)
  have HNv := hide (hv.below b1)
  have HFn := hide hn
  have HB := hide b1
  obtain ⟨Y, hY⟩ : ∃ Y, w.alloc (.cells #[.slice pv nv cv] 22) = Y := ⟨_, rfl⟩
  obtain ⟨q, hq⟩ : ∃ q, lightN [Lv] = q := ⟨_, rfl⟩
  rw [hY] at HL HB HNv
  rw [hq] at HL
  have HQ := hide hq
  clear b1 hq hv hn
  go_enter Try.func10, Try.ntmps10
  cases q
  · go_wp2_with fail
    refine HL.out.mono ?_
    rintro e w9 ⟨rfl, rfl⟩
    go_wp2_with fail
    refine (HAW.out _).mono ?_
    rintro e wz ⟨rfl, hbz⟩
    have HBZ := hide (HB.out.trans (hbz.mono HB.out.size))
    clear hbz
    go_wp2
    go_ret
    exact ⟨rfl, HBZ.out⟩
  · go_wp2_with fail
    refine HL.out.mono ?_
    rintro e w9 ⟨rfl, rfl⟩
    have HL9 : Hid (Lv.length ≤ 300) := hide (lightN_of HQ.out (by simp))
    have HCK := hide (check_any HNv.out)
    unfold Chk at HCK
    obtain ⟨c1, hc1⟩ : ∃ q, okR Lv = q := ⟨_, rfl⟩
    rw [chkI_of hc1] at HCK
    have HOK := hide hc1
    clear hc1
    cases c1
    · simp only [Bool.false_eq_true, if_false] at HCK
      go_wp2_with fail
      refine HCK.out.mono ?_
      rintro e w9 ⟨rfl, rfl⟩
      go_wp2_with fail
      refine (HAW.out _).mono ?_
      rintro e wz ⟨rfl, hbz⟩
      have HBZ := hide (HB.out.trans (hbz.mono HB.out.size))
      clear hbz
      go_wp2
      go_ret
      exact ⟨rfl, HBZ.out⟩
    · simp only [if_true] at HCK
      go_wp2_with fail
      refine HCK.out.mono ?_
      rintro e w9 ⟨rfl, rfl⟩
      by_cases hn0 : n < 0
      · have e0 : decide (n < 0) = true := by simpa using hn0
        go_wp2_with fail
        refine (HAW.out _).mono ?_
        rintro e wz ⟨rfl, hbz⟩
        have HBZ := hide (HB.out.trans (hbz.mono HB.out.size))
        clear hbz
        go_wp2
        go_ret
        exact ⟨rfl, HBZ.out⟩
      · have e0 : decide (n < 0) = false := by simpa using hn0
        by_cases hn6 : 6 < n
        · have e1 : decide (6 < n) = true := by simpa using hn6
          go_wp2_with fail
          refine (HAW.out _).mono ?_
          rintro e wz ⟨rfl, hbz⟩
          have HBZ := hide (HB.out.trans (hbz.mono HB.out.size))
          clear hbz
          go_wp2
          go_ret
          exact ⟨rfl, HBZ.out⟩
        · have e1 : decide (6 < n) = false := by simpa using hn6
          have HNN : Hid (0 ≤ n ∧ n < 7) := hide ⟨by omega, by omega⟩
          have HV := hide (votes_any (n := n) HNv.out)
          unfold Vts at HV
          obtain ⟨s, hs⟩ : ∃ s, hasN Lv n = s := ⟨_, rfl⟩
          rw [hs] at HV
          have HHS := hide hs
          clear hs hn0 hn6
          cases s
          · go_wp2_with fail
            refine HV.out.mono ?_
            rintro e w9 ⟨rfl, rfl⟩
            have HLV := hide (join_any HNv.out (Nat.le_trans HL9.out (by decide)) HFn.out)
            go_wp2_with fail
            refine HLV.out.mono ?_
            rintro e w2 ⟨v2, rfl, ho2, hb2⟩
            obtain ⟨p2, n2, c2, rfl⟩ := ho2.ns.sl
            have HO2 := hide ho2.ns
            have HB2 := hide hb2
            have HBW := hide (HB.out.trans (hb2.mono HB.out.size))
            have HL2 : Hid ((joinN Lv n).length ≤ 301) := hide (by rw [join_len HHS.out]; have := HL9.out; omega)
            have HVL := hide (votes_any (n := n) HO2.out)
            unfold Vts at HVL
            rw [hasN_join HHS.out] at HVL
            have HMV := hide (may_join HOK.out HHS.out HNN.out)
            have HM1 := hide (fun w' => fun hb : Below w2.heap.size w2 w' => may_any ((HNv.out.below HB2.out).below hb) (HO2.out.below hb) (Nat.le_trans HL9.out (by decide)) (Nat.le_trans HL2.out (by decide)))
            have HM2 := hide (fun w' => fun hb : Below w2.heap.size w2 w' => may_any (HO2.out.below hb) ((HNv.out.below HB2.out).below hb) (Nat.le_trans HL2.out (by decide)) (Nat.le_trans HL9.out (by decide)))
            clear ho2 hb2
            go_wp2_with fail
            refine HVL.out.mono ?_
            rintro e w9 ⟨rfl, rfl⟩
            have HB4 := hide (Below.refl w2.heap.size w2)
            go_wp2_with fail
            refine (HM1.out _ HB4.out).mono ?_
            unfold MayPost
            rw [HMV.out.1]
            rintro e w5 ⟨rfl, hb5⟩
            have HB5 := hide (HB4.out.trans (hb5.mono HB4.out.size))
            clear hb5
            go_wp2_with fail
            refine (HM2.out _ HB5.out).mono ?_
            unfold MayPost
            rw [HMV.out.2]
            rintro e w6 ⟨rfl, hb6⟩
            have HB6 := hide (HB5.out.trans (hb6.mono HB5.out.size))
            have HB7 := hide (HBW.out.trans (HB6.out.mono HBW.out.size))
            clear hb6
            have HLE := hide (leave_any (HO2.out.below HB6.out) (Nat.le_trans HL2.out (by decide)) HFn.out)
            rw [leave_join (okR_rise HOK.out) HHS.out] at HLE
            go_wp2_with fail
            refine HLE.out.mono ?_
            rintro e w8 ⟨v8, rfl, ho8, hb8⟩
            obtain ⟨p8, n8, c8, rfl⟩ := ho8.ns.sl
            have HB8 := hide (HB6.out.trans (hb8.mono HB6.out.size))
            have HE := hide (equalN_any ho8.ns ((HNv.out.below HB2.out).below HB8.out))
            simp only [beq_self_eq_true] at HE
            clear ho8 hb8
            go_wp2_with fail
            refine HE.out.mono ?_
            rintro e w10 ⟨rfl, q10, hw10⟩
            have HB10 : Hid (Below w.heap.size w w10) := hide (by rw [hw10]; exact bel_drewN (HBW.out.trans (HB8.out.mono HBW.out.size)) q10)
            clear hw10
            go_wp2_with fail
            refine (HAW.out _).mono ?_
            rintro e wz ⟨rfl, hbz⟩
            have HBZ := hide (HB10.out.trans (hbz.mono HB10.out.size))
            clear hbz
            go_wp2
            go_ret
            exact ⟨rfl, HBZ.out⟩
          · go_wp2_with fail
            refine HV.out.mono ?_
            rintro e w9 ⟨rfl, rfl⟩
            have HLV := hide (leave_any HNv.out (Nat.le_trans HL9.out (by decide)) HFn.out)
            go_wp2_with fail
            refine HLV.out.mono ?_
            rintro e w2 ⟨v2, rfl, ho2, hb2⟩
            obtain ⟨p2, n2, c2, rfl⟩ := ho2.ns.sl
            have HO2 := hide ho2.ns
            have HB2 := hide hb2
            have HBW := hide (HB.out.trans (hb2.mono HB.out.size))
            have HL2 : Hid ((leaveN Lv n).length ≤ 300) := hide (Nat.le_trans (List.length_filter_le _ _) HL9.out)
            have HN2 := hide ho2.ns.len.1
            have hn2 : (n2 : Int) ≤ 300 := by have := HN2.out; have := HL2.out; omega
            have HVL := hide (votes_any (n := n) HO2.out)
            unfold Vts at HVL
            rw [hasN_leave] at HVL
            have HJ := hide (join_any HO2.out (Nat.le_trans HL2.out (by decide)) HFn.out)
            rw [join_leave (okR_rise HOK.out) HHS.out] at HJ
            clear ho2 hb2
            go_wp2_with fail
            refine HVL.out.mono ?_
            rintro e w9 ⟨rfl, rfl⟩
            go_wp2_with fail
            refine HJ.out.mono ?_
            rintro e w3 ⟨v3, rfl, ho3, hb3⟩
            obtain ⟨p3, n3, c3, rfl⟩ := ho3.ns.sl
            have HB3 := hide hb3
            have HE := hide (equalN_any ho3.ns ((HNv.out.below HB2.out).below hb3))
            simp only [beq_self_eq_true] at HE
            clear ho3 hb3
            go_wp2_with fail
            refine HE.out.mono ?_
            rintro e w4 ⟨rfl, q4, hw4⟩
            have HB4 : Hid (Below w2.heap.size w2 w4) := hide (by rw [hw4]; exact bel_drewN HB3.out q4)
            clear hw4
            by_cases h0 : n2 = 0
            · subst h0
              have HB7 := hide (HBW.out.trans (HB4.out.mono HBW.out.size))
              go_wp2_with fail
              refine (HAW.out _).mono ?_
              rintro e wz ⟨rfl, hbz⟩
              have HBZ := hide (HB7.out.trans (hbz.mono HB7.out.size))
              clear hbz
              go_wp2
              go_ret
              exact ⟨rfl, HBZ.out⟩
            · have e0 : ((n2 : Int) == 0) = false := by simpa using h0
              have HMV := hide (may_leave HOK.out HHS.out (by have := HN2.out; omega))
              have HM1 := hide (fun w' => fun hb : Below w2.heap.size w2 w' => may_any ((HNv.out.below HB2.out).below hb) (HO2.out.below hb) (Nat.le_trans HL9.out (by decide)) (Nat.le_trans HL2.out (by decide)))
              have HM2 := hide (fun w' => fun hb : Below w2.heap.size w2 w' => may_any (HO2.out.below hb) ((HNv.out.below HB2.out).below hb) (Nat.le_trans HL2.out (by decide)) (Nat.le_trans HL9.out (by decide)))
              clear h0
              go_wp2_with fail
              refine (HM1.out _ HB4.out).mono ?_
              unfold MayPost
              rw [HMV.out.1]
              rintro e w5 ⟨rfl, hb5⟩
              have HB5 := hide (HB4.out.trans (hb5.mono HB4.out.size))
              clear hb5
              go_wp2_with fail
              refine (HM2.out _ HB5.out).mono ?_
              unfold MayPost
              rw [HMV.out.2]
              rintro e w6 ⟨rfl, hb6⟩
              have HB6 := hide (HB5.out.trans (hb6.mono HB5.out.size))
              have HB7 := hide (HBW.out.trans (HB6.out.mono HBW.out.size))
              clear hb6
              go_wp2_with fail
              refine (HAW.out _).mono ?_
              rintro e wz ⟨rfl, hbz⟩
              have HBZ := hide (HB7.out.trans (hbz.mono HB7.out.size))
              clear hbz
              go_wp2
              go_ret
              exact ⟨rfl, HBZ.out⟩
end Go.Proofs.Ytmiphealijbndaa
