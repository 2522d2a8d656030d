/- The law RosterMajorities. -/
import Derived.Test.YtmiphealijbndaaRLaw
namespace Go.Proofs.Ytmiphealijbndaa
set_option linter.unusedVariables false
set_option linter.unusedSimpArgs false
open Go.RowKit

set_option maxRecDepth 200000 in
set_option maxHeartbeats 4000000 in
theorem lawMajorities_any {w : World} {v : Value} {Lv : List Int} (hv : Ns w v Lv) {u : Value} {Lu : List Int} (hu : Ns w u Lu) : Calls Try.prog 4 #[v, u] w (Good w) := by
  have HAW := hide awake_any
  obtain ⟨pv, nv, cv, rfl⟩ := hv.sl
  obtain ⟨pu, nu, cu, rfl⟩ := hu.sl
  have b1 : Below w.heap.size w (w.alloc (.cells #[.slice pv nv cv, .slice pu nu cu] 22)) := (Below.refl _ _).alloc (Nat.le_refl _) _
  have HL := hide (light2 hv hu)
  have HNv := hide (hv.below b1)
  have HNu := hide (hu.below b1)
  have HB := hide b1
  obtain ⟨Y, hY⟩ : ∃ Y, w.alloc (.cells #[.slice pv nv cv, .slice pu nu cu] 22) = Y := ⟨_, rfl⟩
  obtain ⟨q, hq⟩ : ∃ q, lightN [Lv, Lu] = q := ⟨_, rfl⟩
  rw [hY] at HL HB HNv HNu
  rw [hq] at HL
  have HQ := hide hq
  clear b1 hq hv hu
  go_enter Try.func4, Try.ntmps4
  cases q
  · go_wp2_with fail
    refine HL.out.mono ?_
    rintro e w9 ⟨rfl, rfl⟩
    go_wp2_with fail
    refine (HAW.out _).mono ?_
    rintro e wz ⟨rfl, hbz⟩
    have HBZ := hide (HB.out.trans (hbz.mono HB.out.size))
    clear hbz
    go_wp2
    go_ret
    exact ⟨rfl, HBZ.out⟩
  · go_wp2_with fail
    refine HL.out.mono ?_
    rintro e w9 ⟨rfl, rfl⟩
    have HM1 := hide (majority_any HNv.out HNu.out)
    have HM2 := hide (refMajority_any HNv.out HNu.out)
    unfold Maj at HM1 HM2
    obtain ⟨r, hr⟩ : ∃ r, maj Lv Lu = r := ⟨_, rfl⟩
    rw [hr] at HM1 HM2
    clear hr
    go_wp2_with fail
    refine HM1.out.mono ?_
    rintro e w9 ⟨rfl, rfl⟩
    go_wp2_with fail
    refine HM2.out.mono ?_
    rintro e w9 ⟨rfl, rfl⟩
    cases r
    all_goals
      go_wp2_with fail
      refine (HAW.out _).mono ?_
      rintro e wz ⟨rfl, hbz⟩
      have HBZ := hide (HB.out.trans (hbz.mono HB.out.size))
      clear hbz
      go_wp2
      go_ret
      exact ⟨rfl, HBZ.out⟩
end Go.Proofs.Ytmiphealijbndaa
