/- The law RosterAgreed. -/
import Derived.Test.YtmiphealijbndaaRLaw
namespace Go.Proofs.Ytmiphealijbndaa
set_option linter.unusedVariables false
set_option linter.unusedSimpArgs false
open Go.RowKit

set_option maxRecDepth 200000 in
set_option maxHeartbeats 4000000 in
theorem lawAgreed_any {w : World} {v : Value} {Lv : List Int} (hv : Ns w v Lv) {u : Value} {Lu : List Int} (hu : Ns w u Lu) : Calls Try.prog 7 #[v, u] w (Good w) := by
  have HAW := hide awake_any
  obtain ⟨pv, nv, cv, rfl⟩ := hv.sl
  obtain ⟨pu, nu, cu, rfl⟩ := hu.sl
  have b1 : Below w.heap.size w (w.alloc (.cells #[.slice pv nv cv, .slice pu nu cu] 22)) := (Below.refl _ _).alloc (Nat.le_refl _) _
  have HL := hide (light2 hv hu)
  have HNv := hide (hv.below b1)
  have HNu := hide (hu.below b1)
  have HB := hide b1
  obtain ⟨Y, hY⟩ : ∃ Y, w.alloc (.cells #[.slice pv nv cv, .slice pu nu cu] 22) = Y := ⟨_, rfl⟩
  obtain ⟨q, hq⟩ : ∃ q, lightN [Lv, Lu] = q := ⟨_, rfl⟩
  rw [hY] at HL HB HNv HNu
  rw [hq] at HL
  have HQ := hide hq
  clear b1 hq hv hu
  go_enter Try.func7, Try.ntmps7
  cases q
  · go_wp2_with fail
    refine HL.out.mono ?_
    rintro e w9 ⟨rfl, rfl⟩
    go_wp2_with fail
    refine (HAW.out _).mono ?_
    rintro e wz ⟨rfl, hbz⟩
    have HBZ := hide (HB.out.trans (hbz.mono HB.out.size))
    clear hbz
    go_wp2
    go_ret
    exact ⟨rfl, HBZ.out⟩
  · go_wp2_with fail
    refine HL.out.mono ?_
    rintro e w9 ⟨rfl, rfl⟩
    have HC := hide (cloneN_any HNu.out (by have := lightN_of HQ.out (l := Lu) (by simp); omega))
    have HM2 := hide (fun w' => fun hb : Below Y.heap.size Y w' => refAgreed_any (HNv.out.below hb) (HNu.out.below hb))
    go_wp2_with fail
    refine HC.out.mono ?_
    rintro e w2 ⟨v2, rfl, ho2, hb2⟩
    obtain ⟨p2, n2, c2, rfl⟩ := ho2.ns.sl
    have HO2 := hide ho2.ns
    have HB2 := hide hb2
    have HM1 := hide (agreed_any (HNv.out.below hb2) ho2.ns)
    obtain ⟨r, hr⟩ : ∃ r, agrV Lv Lu = r := ⟨_, rfl⟩
    rw [hr] at HM1 HM2
    clear hr ho2 hb2
    go_wp2_with fail
    refine HM1.out.mono ?_
    rintro e w3 ⟨rfl, hb3⟩
    have HO3 := hide (HO2.out.below hb3)
    have HB3 := hide (HB2.out.trans (hb3.mono HB2.out.size))
    clear hb3
    go_wp2_with fail
    refine (HM2.out _ HB3.out).mono ?_
    rintro e w4 ⟨rfl, hb4⟩
    have HO4 := hide (HO3.out.below hb4)
    have HB4 := hide (HB3.out.trans (hb4.mono HB3.out.size))
    have HE := hide (equalN_any HO4.out (HNu.out.below HB4.out))
    clear hb4
    simp only [beq_self_eq_true] at HE
    go_wp2_with fail
    refine HE.out.mono ?_
    rintro e w5 ⟨rfl, q5, hw5⟩
    have HB5 : Hid (Below w.heap.size w w5) := hide (by
      rw [hw5]
      exact bel_drewN (HB.out.trans (HB4.out.mono HB.out.size)) q5)
    clear hw5
    go_wp2_with fail
    refine (HAW.out _).mono ?_
    rintro e wz ⟨rfl, hbz⟩
    have HBZ := hide (HB5.out.trans (hbz.mono HB5.out.size))
    clear hbz
    go_wp2
    go_ret
    exact ⟨rfl, HBZ.out⟩
end Go.Proofs.Ytmiphealijbndaa
