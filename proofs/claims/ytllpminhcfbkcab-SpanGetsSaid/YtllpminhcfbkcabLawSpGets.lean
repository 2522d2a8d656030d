/- The law SpanGets. -/
import Derived.Test.YtllpminhcfbkcabSpRefGet
namespace Go.Proofs.Ytllpminhcfbkcab
set_option linter.unusedVariables false
set_option linter.unusedSimpArgs false
open Go.RowKit

set_option maxRecDepth 200000 in
set_option maxHeartbeats 4000000 in
theorem lawGets_any {w : World} {v : Value} {B : List UInt8} (hv : By w v B) : Calls Try.prog 5 #[v] w fun e w' => e = .returned (.bool true) ∧ Below w.heap.size w w' := by
  obtain ⟨q3, m3, c3, rfl⟩ := hv.sl
  have HA := hide awake_any
  have HO3 := hide hv
  have HM3 := hide hv.len.1
  have hmm := hv.lenMax
  clear hv
  by_cases hbig : (65536 : Int) < (m3 : Int)
  · go_enter Try.func5, Try.ntmps5
    go_wp2_with fail
    refine (HA.out _).mono ?_
    rintro e2 w2 ⟨rfl, hb2⟩
    have HB2 := hide hb2
    clear hb2
    go_wp2
    go_ret
    exact ⟨rfl, HB2.out⟩
  · obtain ⟨l, E, hP⟩ : ∃ l E, getP B = (l, E) := ⟨_, _, rfl⟩
    obtain ⟨l', E', hQ⟩ : ∃ l E, refP B = (l, E) := ⟨_, _, rfl⟩
    have h1 := getP_is B
    have h2 := refP_is B
    rw [hP] at h1
    rw [hQ] at h2
    have hlB : B.length ≤ 65536 := by have := HM3.out; omega
    obtain ⟨e1, e2⟩ := h1.one h2 (by have := get_len h1 encL_len; omega) (by have := get_len h2 encL_len; omega)
    subst e1 e2
    have HP := hide hP
    have HQ := hide hQ
    clear hP hQ h1 h2
    go_enter Try.func5, Try.ntmps5
    go_wp2_with fail
    refine (sclone_any HO3.out (by omega)).mono ?_
    rintro e2 w2 ⟨v2, rfl, ho2, hb2⟩
    obtain ⟨q2, m2, c2, rfl⟩ := ho2.by_.sl
    have HO2 := hide ho2.by_
    have HB2 := hide hb2
    clear ho2 hb2
    go_wp2_with fail
    refine (get_any HO2.out (by omega) HP.out).mono ?_
    rintro e4 w4 ⟨v4, rfl, ho4, hb4⟩
    obtain ⟨p4, n4, c4, rfl⟩ := ho4.sps.sl
    have HO4 := hide ho4.sps
    have HB4 := hide hb4
    clear ho4 hb4
    go_wp2_with fail
    refine (refGet_any ((HO3.out.below HB2.out).below HB4.out) hlB HQ.out).mono ?_
    rintro e5 w5 ⟨v5, rfl, ho5, hb5⟩
    obtain ⟨p5, n5, c5, rfl⟩ := ho5.sps.sl
    have HO5 := hide ho5.sps
    have HB5 := hide hb5
    clear ho5 hb5
    go_wp2_with fail
    refine (equalSp_any (HO4.out.below HB5.out) HO5.out).mono ?_
    rintro e6 w6 ⟨rfl, q6, rfl⟩
    rw [decide_eq_true rfl]
    go_wp2_with fail
    refine (equal_any (((HO2.out.below HB4.out).below HB5.out).drewN q6) ((((HO3.out.below HB2.out).below HB4.out).below HB5.out).drewN q6)).mono ?_
    rintro e7 w7 ⟨rfl, rfl⟩
    rw [beq_self_eq_true]
    go_wp2_with fail
    refine (HA.out _).mono ?_
    rintro e8 w8 ⟨rfl, hb8⟩
    have HB8 := hide hb8
    clear hb8
    go_wp2
    go_ret
    exact ⟨rfl, bt (bt (bt (bt HB2.out HB4.out) HB5.out) (bel_drewN (Below.refl _ _) q6)) HB8.out⟩
end Go.Proofs.Ytllpminhcfbkcab
