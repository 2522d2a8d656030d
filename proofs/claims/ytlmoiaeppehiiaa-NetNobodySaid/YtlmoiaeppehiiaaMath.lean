/- Plain facts on numbers as groups of seven bits: no program, no memory. -/
import Derived.Laws.BitsAllLaws
namespace Go.Proofs.Ytlmoiaeppehiiaa

/-- m's groups of seven bits, the highest one first, each with the highest bit set; of nought none. -/
def hi (m : Nat) : List UInt8 := if _h : m = 0 then [] else hi (m / 128) ++ [UInt8.ofNat (m % 128 + 128)]
termination_by m
decreasing_by omega

/-- A number's bytes. -/
def digits (n : Nat) : List UInt8 := hi (n / 128) ++ [UInt8.ofNat (n % 128)]

theorem hi_zero : hi 0 = [] := by rw [hi]; simp
theorem hi_pos {m : Nat} (h : m ≠ 0) : hi m = hi (m / 128) ++ [UInt8.ofNat (m % 128 + 128)] := by rw [hi]; simp [h]

theorem hi_length (m f : Nat) (h : m < 128 ^ f) : (hi m).length ≤ f := by
  induction f generalizing m with
  | zero => simp at h; subst h; rw [hi_zero]; simp
  | succ f ih =>
    by_cases h0 : m = 0
    · subst h0; rw [hi_zero]; simp
    · rw [hi_pos h0]
      have := ih (m / 128) (by rw [Nat.pow_succ] at h; omega)
      simp
      omega

theorem digits_length (n : Nat) (h : n < 9223372036854775808) : (digits n).length ≤ 9 := by
  unfold digits
  have := hi_length (n / 128) 8 (by omega)
  simp
  omega

theorem digits_pos (n : Nat) : 0 < (digits n).length := by simp [digits]

theorem digits_small {n : Nat} (h : n < 128) : digits n = [UInt8.ofNat n] := by
  unfold digits
  rw [Nat.div_eq_of_lt h, hi_zero, Nat.mod_eq_of_lt h]
  rfl

/-- A number of two groups or more: those of its high part, the last one marked, and its own last one. -/
theorem digits_high {n : Nat} (h : 128 ≤ n) : digits n = hi (n / 128 / 128) ++ [UInt8.ofNat (n / 128 % 128 + 128)] ++ [UInt8.ofNat (n % 128)] := by
  unfold digits
  rw [hi_pos (by omega)]

theorem shift_succ (N k : Nat) : N / 2 ^ (7 * (k + 1)) = N / 2 ^ (7 * k) / 128 := by
  rw [Nat.mul_add, Nat.pow_add, Nat.div_div_eq_div_mul]

theorem shift_anti (N : Nat) {j k : Nat} (h : j ≤ k) : N / 2 ^ (7 * k) ≤ N / 2 ^ (7 * j) :=
  Nat.div_le_div_left (Nat.pow_le_pow_right (by decide) (by omega)) (Nat.two_pow_pos _)

/-- One more group. -/
theorem hi_step (N k q : Nat) (hq : q < k) (hk : 1 ≤ N / 2 ^ (7 * k)) :
    hi (N / 2 ^ (7 * (k + 1 - q))) ++ [UInt8.ofNat (N / 2 ^ (7 * (k - q)) % 128 + 128)] = hi (N / 2 ^ (7 * (k + 1 - (q + 1)))) := by
  have e : k + 1 - q = (k - q) + 1 := by omega
  have e2 : k + 1 - (q + 1) = k - q := by omega
  rw [e, e2, shift_succ, ← hi_pos]
  have := shift_anti N (show k - q ≤ k by omega)
  omega

theorem hi_start (N k : Nat) (h : N / 2 ^ (7 * k) < 128) : hi (N / 2 ^ (7 * (k + 1 - 0))) = [] := by
  rw [Nat.sub_zero, shift_succ, Nat.div_eq_of_lt h, hi_zero]

theorem hi_end (N k : Nat) : hi (N / 2 ^ (7 * (k + 1 - k))) = hi (N / 128) := by
  rw [show k + 1 - k = 1 by omega]

theorem count_le (N k : Nat) (hN : N < 9223372036854775808) (h : 1 ≤ N / 2 ^ (7 * k)) : k ≤ 8 := by
  by_cases hk : k ≤ 8
  · exact hk
  · have := shift_anti N (show 9 ≤ k by omega)
    have h9 : N / 2 ^ (7 * 9) = 0 := Nat.div_eq_of_lt (by simpa using hN)
    omega

theorem or_all : ∀ y : Fin 256, bits BinOp.or IntKind.u8 ((y.val : Nat) : Int) 128 = ((y.val % 128 + 128 : Nat) : Int) := by decide +kernel
theorem and_all : ∀ y : Fin 256, bits BinOp.and IntKind.u8 ((y.val : Nat) : Int) 127 = ((y.val % 128 : Nat) : Int) := by decide +kernel

theorem or_byte (X : Nat) : bits BinOp.or IntKind.u8 ((X : Int) % 256) 128 = ((UInt8.ofNat (X % 128 + 128)).toNat : Int) := by
  have h := or_all ⟨X % 256, Nat.mod_lt _ (by decide)⟩
  have e : ((X : Int) % 256) = ((X % 256 : Nat) : Int) := by simp
  rw [e, h]
  simp
  omega

theorem and_byte (X : Nat) : bits BinOp.and IntKind.u8 ((X : Int) % 256) 127 = ((UInt8.ofNat (X % 128)).toNat : Int) := by
  have h := and_all ⟨X % 256, Nat.mod_lt _ (by decide)⟩
  have e : ((X : Int) % 256) = ((X % 256 : Nat) : Int) := by simp
  rw [e, h]
  simp
  omega
end Go.Proofs.Ytlmoiaeppehiiaa
