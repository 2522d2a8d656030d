/- The law RosterChanges. -/
import Derived.Test.YtmiphealijbndaaRLaw
namespace Go.Proofs.Ytmiphealijbndaa
set_option linter.unusedVariables false
set_option linter.unusedSimpArgs false
open Go.RowKit

set_option maxRecDepth 200000 in
set_option maxHeartbeats 4000000 in
theorem lawChanges_any {w : World} {v : Value} {Lv : List Int} (hv : Ns w v Lv) {u : Value} {Lu : List Int} (hu : Ns w u Lu) : Calls Try.prog 5 #[v, u] w (Good w) := by
  have HAW := hide awake_any
  obtain ⟨pv, nv, cv, rfl⟩ := hv.sl
  obtain ⟨pu, nu, cu, rfl⟩ := hu.sl
  have b1 : Below w.heap.size w (w.alloc (.cells #[.slice pv nv cv, .slice pu nu cu] 22)) := (Below.refl _ _).alloc (Nat.le_refl _) _
  have HL := hide (light2 hv hu)
  have HNv := hide (hv.below b1)
  have HNu := hide (hu.below b1)
  have HB := hide b1
  obtain ⟨Y, hY⟩ : ∃ Y, w.alloc (.cells #[.slice pv nv cv, .slice pu nu cu] 22) = Y := ⟨_, rfl⟩
  obtain ⟨q, hq⟩ : ∃ q, lightN [Lv, Lu] = q := ⟨_, rfl⟩
  rw [hY] at HL HB HNv HNu
  rw [hq] at HL
  have HQ := hide hq
  clear b1 hq hv hu
  go_enter Try.func5, Try.ntmps5
  cases q
  · go_wp2_with fail
    refine HL.out.mono ?_
    rintro e w9 ⟨rfl, rfl⟩
    go_wp2_with fail
    refine (HAW.out _).mono ?_
    rintro e wz ⟨rfl, hbz⟩
    have HBZ := hide (HB.out.trans (hbz.mono HB.out.size))
    clear hbz
    go_wp2
    go_ret
    exact ⟨rfl, HBZ.out⟩
  · go_wp2_with fail
    refine HL.out.mono ?_
    rintro e w9 ⟨rfl, rfl⟩
    have HM1 := hide (may_any HNv.out HNu.out (Nat.le_trans (lightN_of HQ.out (by simp)) (by decide)) (Nat.le_trans (lightN_of HQ.out (by simp)) (by decide)))
    have HM2 := hide (fun w' => fun hb : Below Y.heap.size Y w' => refMay_any (HNv.out.below hb) (HNu.out.below hb))
    unfold MayPost at HM1
    obtain ⟨r, hr⟩ : ∃ r, mayI Lv Lu = r := ⟨_, rfl⟩
    rw [hr] at HM1 HM2
    clear hr
    go_wp2_with fail
    refine HM1.out.mono ?_
    rintro e w2 ⟨rfl, hb2⟩
    have HB2 := hide hb2
    have HB3 := hide (HB.out.trans (hb2.mono HB.out.size))
    clear hb2
    go_wp2_with fail
    refine (HM2.out _ HB2.out).mono ?_
    rintro e w9 ⟨rfl, rfl⟩
    go_wp2_with fail
    refine (HAW.out _).mono ?_
    rintro e wz ⟨rfl, hbz⟩
    have HBZ := hide (HB3.out.trans (hbz.mono HB3.out.size))
    clear hbz
    go_wp2
    go_ret
    exact ⟨rfl, HBZ.out⟩
end Go.Proofs.Ytmiphealijbndaa
