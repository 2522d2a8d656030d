/- The law StoreForm. -/
import Derived.Test.YtimjplkehlgelaaGreatSoLoad
import Derived.Test.YtimjplkehlgelaaGreatSoAw
namespace Go.Proofs.YtimjplkehlgelaaGreat
set_option linter.unusedVariables false
set_option linter.unusedSimpArgs false
open Go.RowKit

set_option maxRecDepth 200000 in
set_option maxHeartbeats 4000000 in
theorem lawStForm_any {w : World} {v : Value} {l : List UInt8} (hv : By w v l) : Calls Tryz.prog 6 #[v] w fun e w' => e = .returned (.bool true) ∧ Below w.heap.size w w' := by
  obtain ⟨q3, m3, c3, rfl⟩ := hv.sl
  have HA := hide sawake_any
  have HO3 := hide hv
  have HM3 := hide hv.len.1
  have hmm := hv.lenMax
  clear hv
  by_cases hbig : (65536 : Int) < (m3 : Int)
  · go_enter Tryz.func6, Tryz.ntmps6
    go_wp2_with fail
    refine (HA.out _).mono ?_
    rintro e2 w2 ⟨rfl, hb2⟩
    have HB2 := hide hb2
    clear hb2
    go_wp2
    go_ret
    exact ⟨rfl, HB2.out⟩
  · have LD := hide (sload_any HO3.out (by have := HM3.out; omega))
    go_enter Tryz.func6, Tryz.ntmps6
    go_wp2_with fail
    refine LD.out.mono ?_
    intro e w1 hp
    rcases hp with ⟨hi, gs, bm, R, rfl, k1, k2, k3, k4⟩ | ⟨hi, rfl, hb1⟩
    · have IM := hide (simage_any k1)
      rw [k2, hi] at IM
      have HB1 := hide k4
      clear k1 k2 k3 k4 hi LD
      go_wp2_with fail
      refine IM.out.mono ?_
      intro e w4 hp
      obtain ⟨v4, rfl, ho4, hb4⟩ := hp
      obtain ⟨p4, n4, c4, rfl⟩ := ho4.by_.sl
      have HB4 := hide (HB1.out.trans (hb4.mono HB1.out.size))
      have EQ := hide (equal_any ho4.by_ (HO3.out.below HB4.out))
      rw [show (l == l) = true by simp] at EQ
      clear ho4 hb4 IM
      go_wp2_with fail
      refine EQ.out.mono ?_
      rintro e w5 ⟨rfl, rfl⟩
      clear EQ
      go_wp2_with fail
      refine (HA.out _).mono ?_
      rintro e8 w8 ⟨rfl, hb8⟩
      have HB8 := hide (HB4.out.trans (hb8.mono HB4.out.size))
      clear hb8
      go_wp2
      go_ret
      exact ⟨rfl, HB8.out⟩
    · have HB1 := hide hb1
      clear hb1 hi LD
      go_wp2_with fail
      refine (HA.out _).mono ?_
      rintro e8 w8 ⟨rfl, hb8⟩
      have HB8 := hide (HB1.out.trans (hb8.mono HB1.out.size))
      clear hb8
      go_wp2
      go_ret
      exact ⟨rfl, HB8.out⟩
end Go.Proofs.YtimjplkehlgelaaGreat
