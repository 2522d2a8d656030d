/- The law RosterChecks. -/
import Derived.Test.YtmiphealijbndaaRLaw
namespace Go.Proofs.Ytmiphealijbndaa
set_option linter.unusedVariables false
set_option linter.unusedSimpArgs false
open Go.RowKit

set_option maxRecDepth 200000 in
set_option maxHeartbeats 4000000 in
theorem lawChecks_any {w : World} {v : Value} {Lv : List Int} (hv : Ns w v Lv) (n : Int) (hn : fits n) : Calls Try.prog 3 #[v, .int .i64 n] w (Good w) := by
  have HAW := hide awake_any
  obtain ⟨pv, nv, cv, rfl⟩ := hv.sl
  have b1 : Below w.heap.size w (w.alloc (.cells #[.slice pv nv cv] 22)) := (Below.refl _ _).alloc (Nat.le_refl _) _
  have HL := hide (light1 hv)
  have HNv := hide (hv.below b1)
  have HFn := hide hn
  have HB := hide b1
  obtain ⟨Y, hY⟩ : ∃ Y, w.alloc (.cells #[.slice pv nv cv] 22) = Y := ⟨_, rfl⟩
  obtain ⟨q, hq⟩ : ∃ q, lightN [Lv] = q := ⟨_, rfl⟩
  rw [hY] at HL HB HNv
  rw [hq] at HL
  have HQ := hide hq
  clear b1 hq hv hn
  go_enter Try.func3, Try.ntmps3
  cases q
  · go_wp2_with fail
    refine HL.out.mono ?_
    rintro e w9 ⟨rfl, rfl⟩
    go_wp2_with fail
    refine (HAW.out _).mono ?_
    rintro e wz ⟨rfl, hbz⟩
    have HBZ := hide (HB.out.trans (hbz.mono HB.out.size))
    clear hbz
    go_wp2
    go_ret
    exact ⟨rfl, HBZ.out⟩
  · go_wp2_with fail
    refine HL.out.mono ?_
    rintro e w9 ⟨rfl, rfl⟩
    have HC := hide (cloneN_any HNv.out (by have := lightN_of HQ.out (l := Lv) (by simp); omega))
    go_wp2_with fail
    refine HC.out.mono ?_
    rintro e w2 ⟨v2, rfl, ho2, hb2⟩
    obtain ⟨p2, n2, c2, rfl⟩ := ho2.ns.sl
    have HO2 := hide ho2.ns
    have HB2 := hide hb2
    have HV2 := hide (HNv.out.below hb2)
    have HC1 := hide (check_any HO2.out)
    have HC2 := hide (refCheck_any HV2.out)
    have HV1 := hide (votes_any (n := n) HO2.out)
    have HV3 := hide (refVotes_any (n := n) HV2.out)
    have HE := hide (equalN_any HO2.out HV2.out)
    simp only [beq_self_eq_true] at HE
    unfold Chk at HC1 HC2
    unfold Vts at HV1 HV3
    obtain ⟨r, hr⟩ : ∃ r, chkI Lv = r := ⟨_, rfl⟩
    obtain ⟨s, hs⟩ : ∃ s, hasN Lv n = s := ⟨_, rfl⟩
    rw [hr] at HC1 HC2
    rw [hs] at HV1 HV3
    clear hr hs ho2 hb2
    go_wp2_with fail
    refine HC1.out.mono ?_
    rintro e w9 ⟨rfl, rfl⟩
    go_wp2_with fail
    refine HC2.out.mono ?_
    rintro e w9 ⟨rfl, rfl⟩
    go_wp2_with fail
    refine HV1.out.mono ?_
    rintro e w9 ⟨rfl, rfl⟩
    go_wp2_with fail
    refine HV3.out.mono ?_
    rintro e w9 ⟨rfl, rfl⟩
    cases s
    all_goals
      go_wp2_with fail
      refine HE.out.mono ?_
      rintro e w5 ⟨rfl, q5, hw5⟩
      have HB5 : Hid (Below w.heap.size w w5) := hide (by
        rw [hw5]
        exact bel_drewN (HB.out.trans (HB2.out.mono HB.out.size)) q5)
      clear hw5
      go_wp2_with fail
      refine (HAW.out _).mono ?_
      rintro e wz ⟨rfl, hbz⟩
      have HBZ := hide (HB5.out.trans (hbz.mono HB5.out.size))
      clear hbz
      go_wp2
      go_ret
      exact ⟨rfl, HBZ.out⟩
end Go.Proofs.Ytmiphealijbndaa
