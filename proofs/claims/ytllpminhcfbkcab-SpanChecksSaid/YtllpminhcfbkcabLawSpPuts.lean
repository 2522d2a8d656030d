/- The law SpanPuts. -/
import Derived.Test.YtllpminhcfbkcabSpAwake
import Derived.Test.YtllpminhcfbkcabSpRefPut
namespace Go.Proofs.Ytllpminhcfbkcab
set_option linter.unusedVariables false
set_option linter.unusedSimpArgs false
open Go.RowKit

theorem bt {w a b : World} (h : Below w.heap.size w a) (h' : Below a.heap.size a b) : Below w.heap.size w b := h.trans (h'.mono h.size)
theorem le_sum_of_mem : ∀ {l : List Nat} {a : Nat}, a ∈ l → a ≤ l.sum
  | x :: r, a, h => by
    rw [List.sum_cons]
    rcases List.mem_cons.1 h with rfl | h
    · omega
    · have := le_sum_of_mem h
      omega
theorem light_names {l : List Sp} (h : lightL l = true) : l.length ≤ 200 ∧ ∀ x ∈ l, x.n.size ≤ 65536 := by
  unfold lightL at h
  rw [Bool.and_eq_true, decide_eq_true_eq, decide_eq_true_eq] at h
  refine ⟨h.1, fun x hx => ?_⟩
  have h2 := h.2
  rw [List.take_of_length_le (by omega)] at h2
  have : min x.n.size 65537 ≤ namesN l := by
    unfold namesN
    exact le_sum_of_mem (List.mem_map.2 ⟨x, hx, rfl⟩)
  omega

set_option maxRecDepth 200000 in
set_option maxHeartbeats 4000000 in
theorem lawPuts_any {w : World} {v : Value} {l : List Sp} (hv : Sps w v l) (hn9 : ∀ x ∈ l, x.n.size ≤ maxLen) : Calls Try.prog 4 #[v] w fun e w' => e = .returned (.bool true) ∧ Below w.heap.size w w' := by
  obtain ⟨p, n, c, rfl⟩ := hv.sl
  have HL := hide (light_any hv hn9)
  have HA := hide awake_any
  have HV := hide hv
  cases hl : lightL l
  · rw [hl] at HL
    go_enter Try.func4, Try.ntmps4
    go_wp2_with fail
    refine HL.out.mono ?_
    rintro e1 w1 ⟨rfl, rfl⟩
    go_wp2_with fail
    refine (HA.out _).mono ?_
    rintro e2 w2 ⟨rfl, hb2⟩
    have HB2 := hide hb2
    clear hb2
    go_wp2
    go_ret
    exact ⟨rfl, HB2.out⟩
  · rw [hl] at HL
    obtain ⟨hln, hnm⟩ := light_names hl
    have HNM := hide hnm
    clear hl hnm hv hn9
    go_enter Try.func4, Try.ntmps4
    go_wp2_with fail
    refine HL.out.mono ?_
    rintro e1 w1 ⟨rfl, rfl⟩
    go_wp2_with fail
    refine (cloneSp_any HV.out (by omega)).mono ?_
    rintro e2 w2 ⟨v2, rfl, ho2, hb2⟩
    obtain ⟨q2, m2, c2, rfl⟩ := ho2.sps.sl
    have HO2 := hide ho2.sps
    have HB2 := hide hb2
    clear ho2 hb2
    obtain ⟨B, E, hP⟩ : ∃ B E, putB l = (B, E) := ⟨_, _, rfl⟩
    have HP := hide hP
    clear hP
    go_wp2_with fail
    refine (put_any HO2.out (by omega) (fun x hx => by have := HNM.out x hx; omega) HP.out).mono ?_
    rintro e3 w3 ⟨v3, rfl, ho3, hb3⟩
    obtain ⟨q3, m3, c3, rfl⟩ := ho3.by_.sl
    have HO3 := hide ho3.by_
    have HB3 := hide hb3
    clear ho3 hb3
    go_wp2_with fail
    refine (refPut_any ((HV.out.below HB2.out).below HB3.out) (by omega) (fun x hx => by have := HNM.out x hx; omega) HP.out).mono ?_
    rintro e4 w4 ⟨v4, rfl, ho4, hb4⟩
    obtain ⟨q4, m4, c4, rfl⟩ := ho4.by_.sl
    have HO4 := hide ho4.by_
    have HB4 := hide hb4
    clear ho4 hb4
    go_wp2_with fail
    refine (equal_any (HO3.out.below HB4.out) HO4.out).mono ?_
    rintro e5 w5 ⟨rfl, rfl⟩
    rw [beq_self_eq_true]
    go_wp2_with fail
    refine (equalSp_any ((HO2.out.below HB3.out).below HB4.out) (((HV.out.below HB2.out).below HB3.out).below HB4.out)).mono ?_
    rintro e6 w6 ⟨rfl, q6, rfl⟩
    rw [decide_eq_true rfl]
    go_wp2_with fail
    refine (HA.out _).mono ?_
    rintro e7 w7 ⟨rfl, hb7⟩
    have HB7 := hide hb7
    clear hb7
    go_wp2
    go_ret
    exact ⟨rfl, bt (bt (bt (bt HB2.out HB3.out) HB4.out) (bel_drewN (Below.refl _ _) q6)) HB7.out⟩
end Go.Proofs.Ytllpminhcfbkcab
