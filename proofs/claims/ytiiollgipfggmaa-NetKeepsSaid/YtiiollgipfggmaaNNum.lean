/- Numbers, texts, flags behind a place, plainly. -/
import Derived.Test.YtiiollgipfggmaaWFlag
namespace Go.Proofs.Ytiiollgipfggmaa
set_option linter.unusedVariables false
set_option linter.unusedSimpArgs false

theorem rd_bad0 : ∀ (l : List UInt8) (i z : Nat) {n k e : Nat}, rd l i z = (n, k, e) → e ≠ 0 → n = 0
  | [], i, z, n, k, e, h, he => by simp only [rd, Prod.mk.injEq] at h; omega
  | x :: r, i, z, n, k, e, h, he => by
    rw [rd_cons] at h
    split at h
    · simp only [Prod.mk.injEq] at h; omega
    · split at h
      · simp only [Prod.mk.injEq] at h; omega
      · split at h
        · simp only [Prod.mk.injEq] at h; omega
        · exact rd_bad0 r _ _ h he
theorem readNum_bad0 {l : List UInt8} {n k e : Nat} (h : readNum l = (n, k, e)) (he : e ≠ 0) : n = 0 := rd_bad0 l 0 0 h he

/-- A number behind a place, if there is no error so far: it, the place behind, the error. -/
def nx (l : List UInt8) (st : Nat × Nat) : Nat × Nat × Nat :=
  if st.2 ≠ 0 then (0, st.1, st.2) else ((readNum (l.drop st.1)).1, st.1 + (readNum (l.drop st.1)).2.1, (readNum (l.drop st.1)).2.2)
theorem nx_digits {l : List UInt8} {a n : Nat} {r : List UInt8} (hn : n < 9223372036854775808) (h : l.drop a = digits n ++ r) : nx l (a, 0) = (n, a + (digits n).length, 0) := by
  unfold nx
  rw [if_neg (by simp), h, readNum_digits hn]
theorem drop_more {l : List UInt8} {a : Nat} {x r : List UInt8} (h : l.drop a = x ++ r) : l.drop (a + x.length) = r := by
  rw [← List.drop_drop, h, List.drop_left]
theorem nx_le {l : List UInt8} {st : Nat × Nat} (h : st.1 ≤ l.length) : (nx l st).2.1 ≤ l.length ∧ (nx l st).1 < 9223372036854775808 := by
  unfold nx
  split
  · exact ⟨h, by show (0 : Nat) < _; decide⟩
  · obtain ⟨n, k, e, hR⟩ : ∃ n k e, readNum (l.drop st.1) = (n, k, e) := ⟨_, _, _, rfl⟩
    rw [hR]
    have := readNum_any hR
    rw [List.length_drop] at this
    dsimp only
    omega
/-- A flag behind a place. -/
def fx (l : List UInt8) (st : Nat × Nat) : Bool × Nat × Nat := if st.2 ≠ 0 then (false, st.1, st.2) else flagP l st.1
theorem fx_digits {l : List UInt8} {a : Nat} {y : Bool} {r : List UInt8} (h : l.drop a = digits y.toNat ++ r) : fx l (a, 0) = (y, a + (digits y.toNat).length, 0) := by
  unfold fx flagP flagB
  have hy : y.toNat < 9223372036854775808 := by cases y <;> decide
  rw [if_neg (by simp), h, readNum_digits hy]
  cases y <;> rfl
theorem fx_le {l : List UInt8} {st : Nat × Nat} (h : st.1 ≤ l.length) : (fx l st).2.1 ≤ l.length := by
  unfold fx flagP flagB
  split
  · exact h
  · obtain ⟨n, k, e, hR⟩ : ∃ n k e, readNum (l.drop st.1) = (n, k, e) := ⟨_, _, _, rfl⟩
    rw [hR]
    have := readNum_any hR
    rw [List.length_drop] at this
    dsimp only
    split
    · exact h
    · dsimp only; omega
/-- A text behind a place, of at most so many bytes. -/
def tx (l : List UInt8) (most : Nat) (st : Nat × Nat) : List UInt8 × Nat × Nat := if st.2 ≠ 0 then ([], st.1, st.2) else textP l st.1 most
theorem tx_le {l : List UInt8} {most : Nat} {st : Nat × Nat} (h : st.1 ≤ l.length) : (tx l most st).2.1 ≤ l.length ∧ (tx l most st).1.length ≤ l.length := by
  unfold tx textP textB
  split
  · exact ⟨h, by simp⟩
  · obtain ⟨n, k, e, hR⟩ : ∃ n k e, readNum (l.drop st.1) = (n, k, e) := ⟨_, _, _, rfl⟩
    rw [hR]
    have := readNum_any hR
    rw [List.length_drop] at this
    dsimp only
    repeat' split
    all_goals first
      | exact ⟨h, by simp⟩
      | (dsimp only; refine ⟨by omega, ?_⟩; simp only [List.length_take, List.length_drop]; omega)
      | (dsimp only; omega)
theorem tx_digits {l : List UInt8} {most a : Nat} {x r : List UInt8} (hx : x.length ≤ most) (hl : l.length ≤ 1000000) (ha : a ≤ l.length) (h : l.drop a = digits x.length ++ (x ++ r)) : tx l most (a, 0) = (x, a + (digits x.length).length + x.length, 0) := by
  have hlen := congrArg List.length h
  rw [List.length_drop, List.length_append, List.length_append] at hlen
  unfold tx textP textB
  rw [if_neg (by simp)]
  dsimp only
  rw [h, readNum_digits (by omega)]
  dsimp only
  have hd := drop_more h
  simp only [hd]
  rw [if_neg (by simp), if_neg (by omega), if_neg (by omega)]
  simp
end Go.Proofs.Ytiiollgipfggmaa
