/- The law StoreLoads. -/
import Derived.Test.YtfedkjaollioaaaGreatS15
import Derived.Test.YtfedkjaollioaaaGreatSoTel
import Derived.Test.YtfedkjaollioaaaGreatSoAw
import Derived.Test.YtfedkjaollioaaaGreatS14
namespace Go.Proofs.YtfedkjaollioaaaGreat
set_option linter.unusedVariables false
set_option linter.unusedSimpArgs false
open Go.RowKit

set_option maxRecDepth 200000 in
set_option maxHeartbeats 4000000 in
theorem lawStLoads_any {w : World} {v : Value} {l : List UInt8} (hv : By w v l) : Calls Tryz.prog 4 #[v] w fun e w' => e = .returned (.bool true) ∧ Below w.heap.size w w' := by
  obtain ⟨q3, m3, c3, rfl⟩ := hv.sl
  have HA := hide sawake_any
  have HO3 := hide hv
  have HM3 := hide hv.len.1
  have hmm := hv.lenMax
  clear hv
  by_cases hbig : (65536 : Int) < (m3 : Int)
  · go_enter Tryz.func4, Tryz.ntmps4
    go_wp2_with fail
    refine (HA.out _).mono ?_
    rintro e2 w2 ⟨rfl, hb2⟩
    have HB2 := hide hb2
    clear hb2
    go_wp2
    go_ret
    exact ⟨rfl, HB2.out⟩
  · have CL := hide (cloneB_any HO3.out (by have := HM3.out; omega))
    go_enter Tryz.func4, Tryz.ntmps4
    go_wp2_with fail
    refine CL.out.mono ?_
    rintro e w1 ⟨p1, n1, c1, rfl, ho1, hw1⟩
    have hb1 := ho1.by_
    have HO1 := hide hb1
    have HB1 := hide hw1
    clear ho1
    have LD := hide (sload_any hb1 (by have := HM3.out; omega))
    clear hb1 hw1 CL
    go_wp2_with fail
    refine LD.out.mono ?_
    intro e w2 hp
    have hb12 : Below w1.heap.size w1 w2 := by
      rcases hp with ⟨hi, gs, bm, R, rfl, k1, k2, k3, k4⟩ | ⟨hi, rfl, hb1⟩
      · exact k4
      · exact hb1
    have HB2 := hide (HB1.out.trans (hb12.mono HB1.out.size))
    have HO2 := hide (HO1.out.below hb12)
    have RL := hide (rload_any (HO3.out.below HB2.out) (by have := HM3.out; omega))
    clear hb12 LD
    rcases hp with ⟨hi, gs, bm, R, rfl, k1, k2, k3, k4⟩ | ⟨hi, rfl, hb1⟩
    · obtain ⟨j1, j2⟩ := ld_one (by rw [← k2]; exact k1.ok) hi
      have HK := hide (And.intro k1 (And.intro k2 (And.intro j1 j2)))
      clear k1 k2 k3 k4 hi j1 j2
      go_wp2_with fail
      refine RL.out.mono ?_
      intro e w3 hp
      rcases hp with ⟨hi, gx, R2, rfl, k1, k2, k3, k4⟩ | ⟨hi, _⟩
      · have TL := hide (tells_any (HK.out.1.below k4) k1 (by rw [k2, HK.out.2.1, HK.out.2.2.2]))
        have HB3 := hide (HB2.out.trans (k4.mono HB2.out.size))
        have HO4 := hide (HO2.out.below k4)
        clear k1 k2 k3 k4 hi RL
        go_wp2_with fail
        refine TL.out.mono ?_
        rintro e w4 ⟨rfl, hb4⟩
        have HB4 := hide (HB3.out.trans (hb4.mono HB3.out.size))
        have EQ := hide (equal_any (HO4.out.below hb4) (HO3.out.below HB4.out))
        rw [show (l == l) = true by simp] at EQ
        clear hb4 TL
        go_wp2_with fail
        refine EQ.out.mono ?_
        rintro e w5 ⟨rfl, rfl⟩
        clear EQ
        go_wp2_with fail
        refine (HA.out _).mono ?_
        rintro e8 w8 ⟨rfl, hb8⟩
        have HB8 := hide (HB4.out.trans (hb8.mono HB4.out.size))
        clear hb8
        go_wp2
        go_ret
        exact ⟨rfl, HB8.out⟩
      · exact absurd HK.out.2.2.1 hi
    · have HI := hide hi
      clear hi hb1
      go_wp2_with fail
      refine RL.out.mono ?_
      intro e w3 hp
      rcases hp with ⟨hi, gx, R2, rfl, k1, k2, k3, k4⟩ | ⟨hi, rfl, k4⟩
      · exact absurd (ld_two (by rw [← k2]; exact k1.ok) hi) HI.out
      · have HB4 := hide (HB2.out.trans (k4.mono HB2.out.size))
        have EQ := hide (equal_any (HO2.out.below k4) (HO3.out.below HB4.out))
        rw [show (l == l) = true by simp] at EQ
        clear k4 RL hi
        go_wp2_with fail
        refine EQ.out.mono ?_
        rintro e w5 ⟨rfl, rfl⟩
        clear EQ
        go_wp2_with fail
        refine (HA.out _).mono ?_
        rintro e8 w8 ⟨rfl, hb8⟩
        have HB8 := hide (HB4.out.trans (hb8.mono HB4.out.size))
        clear hb8
        go_wp2
        go_ret
        exact ⟨rfl, HB8.out⟩
end Go.Proofs.YtfedkjaollioaaaGreat
