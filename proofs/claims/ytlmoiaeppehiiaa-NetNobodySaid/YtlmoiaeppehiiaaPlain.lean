/- Plain facts on numbers read and records picked: what is read, put again, is the same. -/
import Derived.Test.YtlmoiaeppehiiaaRead
namespace Go.Proofs.Ytlmoiaeppehiiaa

theorem rd_cons (x : UInt8) (r : List UInt8) (i n : Nat) :
    rd (x :: r) i n = if i = 0 ∧ x.toNat = 128 then (0, 0, 10) else if i = 9 then (0, 0, 5) else if x.toNat < 128 then (n * 128 + x.toNat % 128, i + 1, 0) else rd r (i + 1) (n * 128 + x.toNat % 128) := rfl

theorem u8_eq {x : UInt8} {k : Nat} (h : k < 256) (e : x.toNat = k) : x = UInt8.ofNat k := by
  apply UInt8.toNat_inj.1
  rw [e]
  simp
  omega

theorem ofNat_toNat {k : Nat} (h : k < 256) : (UInt8.ofNat k).toNat = k := by simp; omega

/-- What is read is the number's own form. -/
theorem rd_form : ∀ (l : List UInt8) (i z : Nat), i ≤ 9 → (z = 0 ↔ i = 0) → z < 128 ^ i → ∀ {n k : Nat}, rd l i z = (n, k, 0) → i ≤ k ∧ k ≤ 9 ∧ k - i ≤ l.length ∧ hi z ++ l.take (k - i) = digits n ∧ n < 128 ^ k
  | [], i, z, _, _, _, n, k, h => by simp [rd] at h
  | x :: r, i, z, hi9, hz, hb, n, k, h => by
    rw [rd_cons] at h
    have hxl := x.toNat_lt
    split at h
    · simp at h
    · rename_i hno
      split at h
      · simp at h
      · rename_i h9
        split at h
        · rename_i hlt
          simp only [Prod.mk.injEq, and_true] at h
          obtain ⟨rfl, rfl⟩ := h
          refine ⟨by omega, by omega, by simp, ?_, ?_⟩
          · rw [show i + 1 - i = 1 by omega]
            unfold digits
            have e1 : (z * 128 + x.toNat % 128) / 128 = z := by omega
            have e2 : (z * 128 + x.toNat % 128) % 128 = x.toNat := by omega
            rw [e1, e2, ← u8_eq (by omega) rfl]
            rfl
          · rw [Nat.pow_succ]; omega
        · rename_i hge
          have e1 : (z * 128 + x.toNat % 128) / 128 = z := by omega
          have e2 : (z * 128 + x.toNat % 128) % 128 + 128 = x.toNat := by omega
          have hz' : z * 128 + x.toNat % 128 ≠ 0 := by
            intro h0
            have hz0 : z = 0 := by omega
            exact hno ⟨hz.1 hz0, by omega⟩
          obtain ⟨g1, g2, g3, g4, g5⟩ := rd_form r (i + 1) (z * 128 + x.toNat % 128) (by omega) ⟨fun h => absurd h hz', fun h => by omega⟩ (by rw [Nat.pow_succ]; omega) h
          refine ⟨by omega, g2, by simp; omega, ?_, g5⟩
          rw [hi_pos hz', e1, e2, ← u8_eq (by omega) rfl] at g4
          rw [show k - i = (k - (i + 1)) + 1 by omega, List.take_succ_cons, ← g4]
          simp

theorem readNum_form {l : List UInt8} {n k : Nat} (h : readNum l = (n, k, 0)) : k ≤ l.length ∧ k ≤ 9 ∧ l.take k = digits n ∧ n < 128 ^ k := by
  obtain ⟨_, g2, g3, g4, g5⟩ := rd_form l 0 0 (by omega) ⟨fun _ => rfl, fun _ => rfl⟩ (by decide) h
  rw [hi_zero, Nat.sub_zero] at g4
  exact ⟨by omega, g2, by simpa using g4, g5⟩

/-- The marked groups are gone through. -/
theorem rd_hi : ∀ (m : Nat) (s : List UInt8), (hi m).length ≤ 9 → rd (hi m ++ s) 0 0 = rd s (hi m).length m := by
  intro m
  induction m using Nat.strongRecOn with
  | _ m ih =>
    intro s hl
    by_cases h0 : m = 0
    · subst h0
      rw [hi_zero]
      rfl
    · have hp := hi_pos h0
      have hlen : (hi m).length = (hi (m / 128)).length + 1 := by rw [hp]; simp
      rw [hp, List.append_assoc, ih (m / 128) (by omega) _ (by omega), List.singleton_append, rd_cons]
      have hx : (UInt8.ofNat (m % 128 + 128)).toNat = m % 128 + 128 := ofNat_toNat (by omega)
      rw [hx, if_neg, if_neg (by omega), if_neg (by omega)]
      · have e : m / 128 * 128 + (m % 128 + 128) % 128 = m := by omega
        rw [e, ← hp, hlen]
      · rintro ⟨h1, h2⟩
        have : m / 128 = 0 := by
          by_cases hq : m / 128 = 0
          · exact hq
          · have := hi_pos hq
            rw [this] at h1
            simp at h1
        omega

theorem hi_len8 {n : Nat} (h : n < 9223372036854775808) : (hi (n / 128)).length ≤ 8 := hi_length (n / 128) 8 (by omega)

theorem readNum_digits {n : Nat} (h : n < 9223372036854775808) (r : List UInt8) : readNum (digits n ++ r) = (n, (digits n).length, 0) := by
  have h8 := hi_len8 h
  unfold readNum digits
  rw [List.append_assoc, rd_hi _ _ (by omega), List.singleton_append, rd_cons]
  have hx : (UInt8.ofNat (n % 128)).toNat = n % 128 := ofNat_toNat (by omega)
  rw [hx, if_neg (by omega), if_neg (by omega), if_pos (by omega)]
  have e : n / 128 * 128 + n % 128 % 128 = n := by omega
  rw [e]
  simp

theorem hi_take : ∀ (m j : Nat), j ≤ (hi m).length → ∃ m', (hi m).take j = hi m' := by
  intro m
  induction m using Nat.strongRecOn with
  | _ m ih =>
    intro j hj
    by_cases h0 : m = 0
    · subst h0
      rw [hi_zero] at hj ⊢
      exact ⟨0, by rw [hi_zero]; simp⟩
    · have hp := hi_pos h0
      have hlen : (hi m).length = (hi (m / 128)).length + 1 := by rw [hp]; simp
      by_cases hjl : j = (hi m).length
      · exact ⟨m, by rw [hjl, List.take_length]⟩
      · obtain ⟨m', hm'⟩ := ih (m / 128) (by omega) j (by omega)
        exact ⟨m', by rw [hp, List.take_append_of_le_length (by omega)]; exact hm'⟩

/-- Of a number that is cut off too little is left. -/
theorem readNum_cut {n : Nat} (h : n < 9223372036854775808) {j : Nat} (hj : j < (digits n).length) : readNum ((digits n).take j) = (0, 0, 2) := by
  have h8 := hi_len8 h
  have hl : (digits n).length = (hi (n / 128)).length + 1 := by unfold digits; simp
  have e : (digits n).take j = (hi (n / 128)).take j := by
    unfold digits
    rw [List.take_append_of_le_length (by omega)]
  obtain ⟨m', hm'⟩ := hi_take (n / 128) j (by omega)
  have hlm : (hi m').length = j := by rw [← hm', List.length_take]; omega
  rw [e, hm']
  unfold readNum
  have := rd_hi m' [] (by omega)
  rw [List.append_nil] at this
  rw [this]
  rfl

end Go.Proofs.Ytlmoiaeppehiiaa
