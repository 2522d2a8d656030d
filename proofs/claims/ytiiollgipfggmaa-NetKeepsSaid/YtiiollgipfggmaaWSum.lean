/- Slices of byte slices in memory; the sum of parts, and all parts joined. -/
import Derived.Test.YtiiollgipfggmaaWCrc
namespace Go.Proofs.Ytiiollgipfggmaa
set_option linter.unusedVariables false
set_option linter.unusedSimpArgs false
open Go.RowKit

set_option maxRecDepth 200000 in
set_option maxHeartbeats 1000000 in
/-- wire.Sum. -/
theorem wireSum_any {w : World} {v : Value} {ls : List (List UInt8)} (hv : Bss w v ls) :
    Calls Try.prog 68 #[v] w fun e w' => e = .returned (.int .u32 (crc ls.flatten : Nat)) ∧ w = w' := by
  obtain ⟨p, n, c, rfl⟩ := hv.sl
  obtain ⟨hn, hm, _⟩ := hv.len
  have hm' : (n : Int) ≤ 9223372036854775807 := by unfold maxLen at hm; omega
  clear hm
  have HV := hide hv
  have HN := hide hn
  clear hv hn
  go_enter Try.func68, Try.ntmps68
  go_wp2
  go_loop [3, 5, 7, 10, 14, 15, 16] (fun a _ _ i _ _ _ => ∃ k v : Nat, k ≤ n ∧ i = .int .i64 k ∧ a = .int .u32 v ∧ v < 4294967296 ∧ v = crcF 4294967295 (ls.take k).flatten) (fun _ _ _ i _ _ _ => n - (intOf i).toNat)
  case atStart => exact ⟨0, 4294967295, by omega, rfl, rfl, by omega, by rw [List.take_zero]; rfl⟩
  case round =>
    obtain ⟨k, v, hk, rfl, rfl, hv, hvk⟩ := hrel
    have HK := hide hvk
    clear hvk
    by_cases hkn : (k : Int) < (n : Int)
    · obtain ⟨b, o, q, m, d, l, rfl, hx, hcell, hby⟩ := HV.out.cellAt (k := k) (by omega)
      have hmm := hby.lenMax
      obtain ⟨hml, _⟩ := hby.len
      have HML := hide hml
      have HX := hide hx
      have HBY := hide hby
      clear hx hby hml
      go_wp2
      clear hcell
      go_loop [3, 7, 16] (fun a _ i => ∃ j u : Nat, j ≤ m ∧ i = .int .i64 j ∧ a = .int .u32 u ∧ u < 4294967296 ∧ u = crcF v (l.take j)) (fun _ _ i => m - (intOf i).toNat)
      case atStart => exact ⟨0, v, by omega, rfl, rfl, hv, by rw [List.take_zero]; rfl⟩
      case round =>
        obtain ⟨j, u, hj, rfl, rfl, hu, huj⟩ := hrel
        have HU := hide huj
        clear huj
        by_cases hjm : (j : Int) < (m : Int)
        · obtain ⟨b2, o2, x, rfl, hxj, hcellj⟩ := HBY.out.cellAt (k := j) (by omega)
          have HXJ := hide hxj
          clear hxj
          go_wp2_with fail
          refine (sumByte_any u hu x _).mono ?_
          rintro e w2 ⟨rfl, rfl⟩
          have hlt := stepB_lt hu x
          obtain ⟨z, hz⟩ : ∃ z, stepB u x = z := ⟨_, rfl⟩
          rw [hz] at hlt ⊢
          have HZ := hide hz
          clear hz hcellj
          go_wp2
          go_round
          case rel =>
            refine ⟨j + 1, z, by omega, by go_num, rfl, hlt, ?_⟩
            rw [List.take_add_one, HXJ.out, Option.toList_some, crcF_append, ← HU.out, crcF_cons, HZ.out]
            rfl
          case measure => simp [intOf]; omega
        · obtain rfl : j = m := by omega
          go_wp2
          go_round
          case rel =>
            refine ⟨k + 1, u, by omega, by go_num, rfl, hu, ?_⟩
            rw [List.take_add_one, HX.out, Option.toList_some, List.flatten_append, crcF_append, ← HK.out, HU.out, HML.out, List.take_length]
            simp
          case measure => simp [intOf]; omega
    · obtain rfl : k = n := by omega
      go_wp2
      go_ret
      have e : v = crc ls.flatten := by
        rw [HK.out, HN.out, List.take_length]
        rfl
      rw [e]
      exact ⟨rfl, rfl⟩
end Go.Proofs.Ytiiollgipfggmaa
