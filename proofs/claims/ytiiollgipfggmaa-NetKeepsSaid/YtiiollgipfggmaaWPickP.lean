/- The record with which bytes begin, plainly. -/
import Derived.Test.YtiiollgipfggmaaWir
import Derived.Test.YtiiollgipfggmaaWRec
namespace Go.Proofs.Ytiiollgipfggmaa
set_option linter.unusedVariables false
set_option linter.unusedSimpArgs false

/-- The record with which bytes begin, whose payload's length was read: its payload, how many bytes it has, the error. -/
def pickB (b r : List UInt8) (n k e : Nat) : List UInt8 × Nat × Nat :=
  if e ≠ 0 then ([], 0, e) else if 65536 < n then ([], 0, 4) else if b.length < 1 + k + n + 4 then ([], 0, 2) else
    if (b.drop (1 + k + n)).take 4 = tailL (crc (b.take (1 + k + n))) then ((r.drop k).take n, 1 + k + n + 4, 0) else ([], 0, 11)
def pickL : List UInt8 → List UInt8 × Nat × Nat
  | [] => ([], 0, 2)
  | x :: r => if x.toNat ≠ 93 then ([], 0, 10) else pickB (x :: r) r (readNum r).1 (readNum r).2.1 (readNum r).2.2

theorem pickL_cons (x : UInt8) (r : List UInt8) : pickL (x :: r) = if x.toNat ≠ 93 then ([], 0, 10) else pickB (x :: r) r (readNum r).1 (readNum r).2.1 (readNum r).2.2 := rfl

theorem tailL_length (c : Nat) : (tailL c).length = 4 := rfl

theorem front_length (l : List UInt8) : (front l).length = 1 + (digits l.length).length + l.length := by
  unfold front
  simp
  omega

/-- A record's bytes, taken apart. -/
theorem rec_parts {r : List UInt8} {n k : Nat} (h : readNum r = (n, k, 0)) (hn : n ≤ r.length - k) :
    ((93 : UInt8) :: r).take (1 + k + n) = front ((r.drop k).take n) ∧ ((r.drop k).take n).length = n := by
  obtain ⟨_, _, h3, _⟩ := readNum_form h
  have hl : ((r.drop k).take n).length = n := by rw [List.length_take, List.length_drop]; omega
  refine ⟨?_, hl⟩
  unfold front
  rw [hl, ← h3, show 1 + k + n = (k + n) + 1 by omega, List.take_succ_cons, List.take_add]
  rfl

theorem u8_93 {x : UInt8} (h : x.toNat = 93) : x = 93 := by
  have := u8_eq (by omega) h
  exact this

theorem pick_ok {b : List UInt8} {p : List UInt8} {k : Nat} (h : pickL b = (p, k, 0)) : k ≤ b.length ∧ b.take k = recL p ∧ p.length ≤ 65536 ∧ k = (recL p).length := by
  cases b with
  | nil => simp [pickL] at h
  | cons x r =>
    rw [pickL_cons] at h
    by_cases hx : x.toNat ≠ 93
    · rw [if_pos hx] at h
      simp at h
    · rw [if_neg hx] at h
      have hx' : x = 93 := u8_93 (by omega)
      subst hx'
      obtain ⟨n, kk, e, hr⟩ : ∃ n kk e, readNum r = (n, kk, e) := ⟨_, _, _, rfl⟩
      rw [hr] at h
      dsimp only at h
      unfold pickB at h
      by_cases he : e ≠ 0
      · rw [if_pos he] at h
        simp only [Prod.mk.injEq] at h
        omega
      · rw [if_neg he] at h
        have he0 : e = 0 := by omega
        subst he0
        by_cases hbig : 65536 < n
        · rw [if_pos hbig] at h
          simp at h
        · rw [if_neg hbig] at h
          by_cases hlen : ((93 : UInt8) :: r).length < 1 + kk + n + 4
          · rw [if_pos hlen] at h
            simp at h
          · rw [if_neg hlen] at h
            by_cases ht : (((93 : UInt8) :: r).drop (1 + kk + n)).take 4 = tailL (crc (((93 : UInt8) :: r).take (1 + kk + n)))
            · rw [if_pos ht] at h
              simp only [Prod.mk.injEq, and_true] at h
              obtain ⟨rfl, rfl⟩ := h
              obtain ⟨hkl, _, _, _⟩ := readNum_form hr
              have hlen' : 1 + kk + n + 4 ≤ r.length + 1 := by rw [List.length_cons] at hlen; omega
              obtain ⟨g1, g2⟩ := rec_parts hr (by omega)
              have e1 : ((93 : UInt8) :: r).take (1 + kk + n + 4) = recL ((r.drop kk).take n) := by
                rw [List.take_add, ht, g1]
                rfl
              refine ⟨by rw [List.length_cons]; omega, e1, by omega, ?_⟩
              rw [← e1, List.length_take, List.length_cons]
              omega
            · rw [if_neg ht] at h
              simp at h

theorem pick_rec (p : List UInt8) (hp : p.length ≤ 65536) (s : List UInt8) : pickL (recL p ++ s) = (p, (recL p).length, 0) := by
  have hd := digits_length p.length (by omega)
  have e0 : recL p ++ s = (93 : UInt8) :: (digits p.length ++ (p ++ (tailL (crc (front p)) ++ s))) := by
    unfold recL front
    simp
  have hfl := front_length p
  have hrl : (recL p).length = (front p).length + 4 := by unfold recL; rw [List.length_append, tailL_length]
  have eT : ((93 : UInt8) :: (digits p.length ++ (p ++ (tailL (crc (front p)) ++ s)))).take (1 + (digits p.length).length + p.length) = front p := by
    rw [← e0]
    unfold recL
    rw [← hfl, List.append_assoc, List.take_left]
  have eD : (((93 : UInt8) :: (digits p.length ++ (p ++ (tailL (crc (front p)) ++ s)))).drop (1 + (digits p.length).length + p.length)).take 4 = tailL (crc (front p)) := by
    rw [← e0]
    unfold recL
    rw [← hfl, List.append_assoc, List.drop_left, ← tailL_length (crc (front p)), List.take_left]
  have e1 : ((digits p.length ++ (p ++ (tailL (crc (front p)) ++ s))).drop (digits p.length).length).take p.length = p := by
    rw [List.drop_left, List.take_left]
  have hlen : ((93 : UInt8) :: (digits p.length ++ (p ++ (tailL (crc (front p)) ++ s)))).length = (recL p).length + s.length := by
    rw [← e0, List.length_append]
  rw [e0, pickL_cons, if_neg (by decide), readNum_digits (show p.length < 9223372036854775808 by omega)]
  dsimp only
  unfold pickB
  rw [if_neg (by simp), if_neg (by omega), if_neg (by rw [hlen]; omega), eT, eD, if_pos rfl, e1, hrl, hfl]
end Go.Proofs.Ytiiollgipfggmaa
