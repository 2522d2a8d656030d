/- The sum of bytes: the same number by the program and by the document. -/
import Derived.Test.YtiiollgipfggmaaWir
import Derived.LoopTactic
namespace Go.Proofs.Ytiiollgipfggmaa
set_option linter.unusedVariables false
set_option linter.unusedSimpArgs false
open Go.RowKit

/-- One bit. -/
def step1 (c : Nat) : Nat := if c < 2147483648 then 2 * c else (2 * c - 4294967296) ^^^ 79764919
def it : Nat → Nat → Nat
  | 0, c => c
  | k + 1, c => step1 (it k c)
/-- One byte. -/
def stepB (c : Nat) (x : UInt8) : Nat := it 8 (c ^^^ (x.toNat * 16777216))
/-- All bytes. -/
def crcF (c : Nat) (l : List UInt8) : Nat := l.foldl stepB c
def crc (l : List UInt8) : Nat := crcF 4294967295 l

theorem step1_lt {c : Nat} (h : c < 4294967296) : step1 c < 4294967296 := by
  unfold step1
  split
  · omega
  · exact Nat.xor_lt_two_pow (n := 32) (by omega) (by decide)

theorem it_lt {c : Nat} (h : c < 4294967296) : ∀ k, it k c < 4294967296
  | 0 => h
  | k + 1 => step1_lt (it_lt h k)

theorem start_lt {c : Nat} (h : c < 4294967296) (x : UInt8) : c ^^^ (x.toNat * 16777216) < 4294967296 :=
  Nat.xor_lt_two_pow (n := 32) h (by have := x.toNat_lt; omega)

theorem stepB_lt {c : Nat} (h : c < 4294967296) (x : UInt8) : stepB c x < 4294967296 := it_lt (start_lt h x) 8

theorem crcF_cons (c : Nat) (x : UInt8) (l : List UInt8) : crcF c (x :: l) = crcF (stepB c x) l := by
  unfold crcF
  rw [List.foldl_cons]

theorem crcF_lt {c : Nat} (h : c < 4294967296) (l : List UInt8) : crcF c l < 4294967296 := by
  induction l generalizing c with
  | nil => exact h
  | cons x l ih => rw [crcF_cons]; exact ih (stepB_lt h x)

theorem crc_lt (l : List UInt8) : crc l < 4294967296 := by
  unfold crc
  have h : (4294967295 : Nat) < 4294967296 := by omega
  exact crcF_lt h l

theorem crcF_append (c : Nat) (l m : List UInt8) : crcF c (l ++ m) = crcF (crcF c l) m := by unfold crcF; rw [List.foldl_append]

set_option maxRecDepth 200000 in
set_option maxHeartbeats 400000 in
theorem sumByte_any (c : Nat) (hc : c < 4294967296) (x : UInt8) (w : World) :
    Calls Try.prog 93 #[.int .u32 c, .int .u8 (x.toNat : Int)] w fun e w' => e = .returned (.int .u32 (stepB c x : Nat)) ∧ w = w' := by
  have hx := x.toNat_lt
  go_enter Try.func93, Try.ntmps93
  go_wp2
  have e0 : bits BinOp.xor IntKind.u32 (c : Int) ((x.toNat : Int) * 16777216) = ((c ^^^ (x.toNat * 16777216) : Nat) : Int) := by
    have := u32_xor_nat c (x.toNat * 16777216) hc (by omega)
    rw [← this]
    simp
  rw [e0]
  have hlt := start_lt hc x
  obtain ⟨s, hs⟩ : ∃ s, c ^^^ (x.toNat * 16777216) = s := ⟨_, rfl⟩
  rw [hs] at hlt ⊢
  have HS := hide hs
  clear hs e0
  go_loop [0, 5, 11] (fun a b i => ∃ k v : Nat, k ≤ 8 ∧ i = .int .i64 k ∧ a = .int .u32 v ∧ v < 4294967296 ∧ v = it k s) (fun _ _ i => 8 - (intOf i).toNat)
  case atStart => exact ⟨0, s, by omega, rfl, rfl, hlt, rfl⟩
  case round =>
    obtain ⟨k, v, hk, rfl, rfl, hv, hvk⟩ := hrel
    have HK := hide hvk
    clear hvk
    by_cases hk8 : (k : Int) < 8
    · by_cases hbit : v < 2147483648
      · have h1 : ((v : Int) / 2147483648 == 1) = false := by simp; omega
        have hst : step1 v = 2 * v := by unfold step1; rw [if_pos hbit]
        have HST := hide hst
        clear hst
        go_wp2
        go_round
        case rel =>
          refine ⟨k + 1, 2 * v, by omega, by go_num, ?_, by omega, ?_⟩
          · have : (v : Int) * 2 = ((2 * v : Nat) : Int) := by omega
            rw [this]
          · rw [← HST.out, HK.out]; rfl
        case measure => simp [intOf]; omega
      · have h1 : ((v : Int) / 2147483648 == 1) = true := by simp; omega
        have hst : step1 v = (2 * v - 4294967296) ^^^ 79764919 := by unfold step1; rw [if_neg hbit]
        have hlt2 := step1_lt hv
        have e2 : bits BinOp.xor IntKind.u32 ((v : Int) * 2 % 4294967296) 79764919 = ((step1 v : Nat) : Int) := by
          have := u32_xor_nat (2 * v - 4294967296) 79764919 (by omega) (by omega)
          have e3 : (v : Int) * 2 % 4294967296 = ((2 * v - 4294967296 : Nat) : Int) := by omega
          rw [e3, hst, ← this]
          rfl
        have HST := hide hst
        have H2 := hide e2
        clear hst e2
        go_wp2
        go_round
        case rel =>
          refine ⟨k + 1, step1 v, by omega, by go_num, by rw [H2.out], hlt2, ?_⟩
          rw [HK.out]
          rfl
        case measure => simp [intOf]; omega
    · obtain rfl : k = 8 := by omega
      go_wp2
      go_ret
      have e : v = stepB c x := by rw [HK.out]; unfold stepB; rw [HS.out]
      rw [e]
      exact ⟨rfl, rfl⟩

theorem i64_xor_nat (a b : Nat) (ha : a < 4294967296) (hb : b < 4294967296) : bits .xor .i64 (a : Int) (b : Int) = ((a ^^^ b : Nat) : Int) := by
  have hx : a ^^^ b < 4294967296 := Nat.xor_lt_two_pow (n := 32) ha hb
  show IntKind.i64.wrap ((BitVec.ofInt 64 (a : Int) ^^^ BitVec.ofInt 64 (b : Int)).toNat : Int) = _
  rw [BitVec.toNat_xor, BitVec.ofInt_natCast, BitVec.ofInt_natCast, BitVec.toNat_ofNat, BitVec.toNat_ofNat, Nat.mod_eq_of_lt (by omega), Nat.mod_eq_of_lt (by omega), IntKind.wrap_i64]
  omega

set_option maxRecDepth 200000 in
set_option maxHeartbeats 400000 in
/-- The document's Sum. -/
theorem refSum_any {w : World} {v : Value} {l : List UInt8} (hv : By w v l) :
    Calls Try.prog 77 #[v] w fun e w' => e = .returned (.int .u32 (crc l : Nat)) ∧ w = w' := by
  obtain ⟨p, n, c, rfl⟩ := hv.sl
  obtain ⟨hn, _⟩ := hv.len
  have hm : n ≤ maxLen := by
    obtain ⟨p', c', e, hl, hm, _⟩ := hv
    injection e with _ e2 e3
    omega
  have hm' : (n : Int) ≤ 9223372036854775807 := by unfold maxLen at hm; omega
  clear hm
  have HV := hide hv
  have HN := hide hn
  clear hv hn
  go_enter Try.func77, Try.ntmps77
  go_wp2
  go_loop [3, 5, 8, 17] (fun a _ i _ => ∃ k v : Nat, k ≤ n ∧ i = .int .i64 k ∧ a = .int .i64 v ∧ v < 4294967296 ∧ v = crcF 4294967295 (l.take k)) (fun _ _ i _ => n - (intOf i).toNat)
  case atStart => exact ⟨0, 4294967295, by omega, rfl, rfl, by omega, by rw [List.take_zero]; rfl⟩
  case round =>
    obtain ⟨k, v, hk, rfl, rfl, hv, hvk⟩ := hrel
    have HK := hide hvk
    clear hvk
    by_cases hkn : (k : Int) < (n : Int)
    · obtain ⟨b, o, x, rfl, hx, hcell⟩ := HV.out.cellAt (k := k) (by omega)
      have HX := hide hx
      clear hx
      have hxl := x.toNat_lt
      go_wp2
      have e0 := i64_xor_nat v (x.toNat * 16777216) hv (by omega)
      rw [Int.natCast_mul, show ((16777216 : Nat) : Int) = 16777216 from rfl] at e0
      rw [e0]
      have hlt := start_lt hv x
      obtain ⟨s, hs⟩ : ∃ s, v ^^^ (x.toNat * 16777216) = s := ⟨_, rfl⟩
      rw [hs] at hlt ⊢
      have HS := hide hs
      clear hs e0 hcell hxl
      go_loop [3, 17] (fun a i => ∃ j u : Nat, j ≤ 8 ∧ i = .int .i64 j ∧ a = .int .i64 u ∧ u < 4294967296 ∧ u = it j s) (fun _ i => 8 - (intOf i).toNat)
      case atStart => exact ⟨0, s, by omega, rfl, rfl, hlt, rfl⟩
      case round =>
        obtain ⟨j, u, hj, rfl, rfl, hu, huj⟩ := hrel
        have HU := hide huj
        clear huj
        by_cases hj8 : (j : Int) < 8
        · by_cases hbit : u < 2147483648
          · have hst : step1 u = 2 * u := by unfold step1; rw [if_pos hbit]
            have HST := hide hst
            clear hst
            have hdec : decide ((4294967296 : Int) ≤ 2 * (u : Int)) = false := decide_eq_false (by omega)
            go_wp2
            go_round
            case rel =>
              refine ⟨j + 1, 2 * u, by omega, by go_num, by go_num, by omega, ?_⟩
              rw [← HST.out, HU.out]
              rfl
            case measure => simp [intOf]; omega
          · have hst : step1 u = (2 * u - 4294967296) ^^^ 79764919 := by unfold step1; rw [if_neg hbit]
            have hlt2 := step1_lt hu
            have e2 : bits BinOp.xor IntKind.i64 (2 * (u : Int) - 4294967296) 79764919 = ((step1 u : Nat) : Int) := by
              have := i64_xor_nat (2 * u - 4294967296) 79764919 (by omega) (by omega)
              have e3 : 2 * (u : Int) - 4294967296 = ((2 * u - 4294967296 : Nat) : Int) := by omega
              rw [e3, hst, ← this]
              rfl
            have HST := hide hst
            have H2 := hide e2
            clear hst e2
            have hdec : decide ((4294967296 : Int) ≤ 2 * (u : Int)) = true := decide_eq_true (by omega)
            go_wp2
            go_round
            case rel =>
              refine ⟨j + 1, step1 u, by omega, by go_num, by rw [H2.out], hlt2, ?_⟩
              rw [HU.out]
              rfl
            case measure => simp [intOf]; omega
        · obtain rfl : j = 8 := by omega
          go_wp2
          go_round
          case rel =>
            refine ⟨k + 1, u, by omega, by go_num, rfl, hu, ?_⟩
            rw [List.take_add_one, HX.out, Option.toList_some, crcF_append, ← HK.out, crcF_cons, HU.out]
            unfold stepB
            rw [HS.out]
            rfl
          case measure => simp [intOf]; omega
    · obtain rfl : k = n := by omega
      go_wp2
      go_ret
      have e : v = crc l := by
        rw [HK.out, HN.out, List.take_length]
        rfl
      rw [e]
      exact ⟨rfl, rfl⟩
end Go.Proofs.Ytiiollgipfggmaa
