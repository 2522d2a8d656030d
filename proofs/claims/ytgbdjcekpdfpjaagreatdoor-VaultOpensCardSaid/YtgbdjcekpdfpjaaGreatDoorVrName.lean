import Derived.Test.YtgbdjcekpdfpjaaGreatDoorVg
import Derived.Test.YtgbdjcekpdfpjaaGreatDoorVc
import Derived.Test.YtgbdjcekpdfpjaaGreatDoorRb
set_option linter.unusedVariables false
set_option linter.unusedSimpArgs false
namespace Go.Proofs.YtgbdjcekpdfpjaaGreatDoor
open Go.RowKit
theorem padN_cons : ∀ (j N : Nat), padN (j + 1) N = UInt8.ofNat (48 + N / 10 ^ j % 10) :: padN j N
 | 0, N => by simp [padN]
 | j + 1, N => by
  have h := padN_cons j (N / 10)
  rw [show padN (j + 1 + 1) N = padN (j + 1) (N / 10) ++ [UInt8.ofNat (48 + N % 10)] from rfl, h]
  rw [show padN (j + 1) N = padN j (N / 10) ++ [UInt8.ofNat (48 + N % 10)] from rfl, Nat.div_div_eq_div_mul, ← Nat.pow_succ']
  rfl
theorem bytes_len (t : ByteArray) : t.data.toList.length = t.size := by rw [Array.length_toList]; rfl
theorem hasPrefix_take {s : ByteArray} (h : 5 ≤ s.size) : ((s.extract 0 5).toList == [115, 110, 97, 112, 46]) = isV s.data.toList := by
 have e1 : ([115, 110, 97, 112, 46] : List UInt8) = (⟨#[115, 110, 97, 112, 46]⟩ : ByteArray).toList := by decide +kernel
 rw [e1, tl_beq]
 have e2 : (s.extract 0 5).data.toList = s.data.toList.take 5 := by simp [ByteArray.data_extract, List.extract]
 rw [e2]
 unfold isV Lib.hasPrefix
 rw [Bool.eq_iff_iff, decide_eq_true_eq, List.isPrefixOf_iff_prefix, List.prefix_iff_eq_take]
 exact ⟨fun h => h.symm, fun h => h.symm⟩
theorem rsnap_any (s : ByteArray) (w : World) : Calls Tryz.prog 49 #[.string s] w fun e w' => e = .returned (.bool (isV s.data.toList)) ∧ w' = w := by
 by_cases h : (5 : Int) ≤ (s.size : Int)
 ·have h5 := hide (hasPrefix_take (s := s) (by omega))
  go_enter Tryz.func49, Tryz.ntmps49
  go_wp2
  go_ret
  exact ⟨congrArg (fun b => Ending.returned (.bool b)) h5.out, rfl⟩
 ·have h5 : Hid (isV s.data.toList = false) := hide (by
   unfold isV Lib.hasPrefix
   rw [Bool.eq_false_iff, ne_eq, List.isPrefixOf_iff_prefix]
   intro hp
   have := hp.length_le
   have e := bytes_len s
   have e2 : pre.length = 5 := rfl
   omega)
  go_enter Tryz.func49, Tryz.ntmps49
  go_wp2
  go_ret
  exact ⟨congrArg (fun b => Ending.returned (.bool b)) h5.out.symm, rfl⟩
set_option maxRecDepth 100000 in
theorem rname6_any {w : World} {ix : Int} (h0 : 0 ≤ ix) (h1 : ix ≤ 1099511627776) : Calls Tryz.prog 50 #[.int .i64 ix] w fun e w' => ∃ s : ByteArray, e = .returned (.string s) ∧ s.data.toList = nameL ix ∧ Below w.heap.size w w' := by
 have HP := hide (nameL_pad h0 h1)
 obtain ⟨N, hN⟩ : ∃ N : Nat, ix = (N : Int) := ⟨ix.toNat, by omega⟩
 subst hN
 have hlt : N < 10000000000000 := by omega
 go_enter Tryz.func50, Tryz.ntmps50
 go_wp2_with fail
 go_loopw [0, 3, 4] (fun n s i wr => ∃ (j : Nat) (t : ByteArray) (M : Nat), j ≤ 13 ∧ i = .int .i64 j ∧ n = .int .i64 (M : Int) ∧ s = .string t ∧ Hid (M = N / 10 ^ j ∧ t.data.toList = padN j N ∧ Below w.heap.size w wr)) (fun _ _ i _ => 13 - (intOf i).toNat)
 case atStart => exact ⟨0, ⟨#[]⟩, N, by omega, rfl, rfl, rfl, hide ⟨by rw [Nat.pow_zero, Nat.div_one], rfl, Below.refl _ _⟩⟩
 case round =>
  obtain ⟨j, t, M, hj, rfl, rfl, rfl, hrel⟩ := hrel
  by_cases hjn : (j : Int) < 13
  ·have hMl : M < 10000000000000 := by rw [hrel.out.1]; exact Nat.lt_of_le_of_lt (Nat.div_le_self _ _) hlt
   have HR := hide hrel.out
   obtain ⟨y, hy⟩ : ∃ y : UInt8, UInt8.ofNat (48 + M % 10) = y := ⟨_, rfl⟩
   have hyn : (48 + (M : Int) % 10) = (y.toNat : Int) := by
    rw [← hy, UInt8.toNat_ofNat']
    omega
   have hcv := conv_at (by_one wr y)
   have hq : (M : Int).tdiv 10 = ((M / 10 : Nat) : Int) := by
    rw [Int.tdiv_eq_ediv_of_nonneg (by omega)]; simp
   have HY := hide hy
   rw [← hyn] at hcv
   have hts : t.size = j := by
    have h1 := congrArg List.length hrel.out.2.1
    rw [padN_len, bytes_len] at h1
    exact h1
   have hsz : ¬ 9223372036854775807 < (str [y]).size + t.size := by rw [str_size, hts]; simp; omega
   clear hrel hy hyn hts
   go_wp2
   refine ⟨⟨j + 1, str [y] ++ t, M / 10, by omega, by go_num, by simp, rfl, hide ⟨?_, ?_, HR.out.2.2.trans (balloc (Below.refl _ _) _ |>.mono HR.out.2.2.size)⟩⟩, by simp [intOf]; omega⟩
   ·rw [HR.out.1, Nat.div_div_eq_div_mul, ← Nat.pow_succ]
   ·rw [ByteArray.data_append, Array.toList_append, str_list, HR.out.2.1, padN_cons, ← HR.out.1, HY.out]
    rfl
  ·obtain rfl : j = 13 := by omega
   have HR := hide hrel.out
   have hts : t.size = 13 := by
    have h1 := congrArg List.length hrel.out.2.1
    rw [padN_len, bytes_len] at h1
    exact h1
   have hsz : ¬ 9223372036854775807 < (({ data := #[115, 110, 97, 112, 46] } : ByteArray)).size + t.size := by rw [hts, show (({ data := #[115, 110, 97, 112, 46] } : ByteArray)).size = 5 from rfl]; omega
   clear hrel hts
   go_wp2
   go_ret
   refine ⟨_, rfl, ?_, HR.out.2.2⟩
   rw [ByteArray.data_append, Array.toList_append, HR.out.2.1, HP.out]
   rfl
end Go.Proofs.YtgbdjcekpdfpjaaGreatDoor
