/- Cuts of slices; a number read off the beginning of bytes, plainly. -/
import Derived.Test.YtlmoiaeppehiiaaJoin
namespace Go.Proofs.Ytlmoiaeppehiiaa
open Go.RowKit

theorem elemB : Try.prog.elem 24 = 5 := by simp [Program.elem, Try.underlying24]
theorem underB' : Try.prog.underlying 24 = some (.slice (Try.prog.elem 24)) := by rw [elemB]; exact Try.underlying24

/-- 's[k:]'. -/
theorem cut_from {w : World} {p : Option Addr} {n c : Nat} {l : List UInt8} (h : By w (.slice p n c) l) {k : Nat} (hk : k ≤ n) :
    ∃ q, (∀ W : World, (Instr.slice 24 (.slice p n c) (some (.int .i64 (k : Int))) none none).run Try.prog W = .ok (.slice q (n - k) (c - k)) W) ∧ By w (.slice q (n - k) (c - k)) (l.drop k) := by
  have hn := h.len
  obtain ⟨p', c', e, hl, hm, hno, hc⟩ := h
  injection e with e1 e2 e3
  subst e1 e3
  refine ⟨if c = k then p else p.map (·.add k), fun W => ?_, ?_⟩
  · rw [run_slice_l W 24 _ _ _ underB' .i64 _ (by omega) (by omega), elemB, Try.sizeOf5]
    have e4 : ((k : Int)).toNat = k := by omega
    simp only [e4, Result.andThen, sliced, Nat.mul_one]
  · refine ⟨if c = k then p else p.map (·.add k), c - k, ?_, by rw [List.length_drop]; omega, by omega, ?_, fun a ea i x hx => ?_⟩
    · rw [List.length_drop, hn.1]
    · intro hq
      split at hq
      · rename_i hck
        omega
      · rcases p with _ | a
        · have := hno rfl
          omega
        · simp at hq
    · rw [List.getElem?_drop] at hx
      have hlt := (List.getElem?_eq_some_iff.1 hx).1
      rw [if_neg (by omega)] at ea
      rcases p with _ | a0
      · simp at ea
      · simp only [Option.map_some, Option.some.injEq] at ea
        subst ea
        have hadd : (a0.add k).add i = a0.add (k + i) := by
          unfold Addr.add
          by_cases hk0 : k = 0 <;> by_cases hi : i = 0 <;> simp [hk0, hi, Nat.add_assoc]
        rw [hadd]
        exact hc a0 rfl _ x hx

/-- 's[:k]'. -/
theorem cut_to {w : World} {p : Option Addr} {n c : Nat} {l : List UInt8} (h : By w (.slice p n c) l) {k : Nat} (hk : k ≤ n) : By w (.slice p k c) (l.take k) := by
  have hn := h.len
  obtain ⟨p', c', e, hl, hm, hno, hc⟩ := h
  injection e with e1 e2 e3
  subst e1 e3
  have hlk : (l.take k).length = k := by rw [List.length_take]; omega
  refine ⟨p, c, by rw [hlk], by omega, hm, hno, fun a ea i x hx => hc a ea i x ?_⟩
  rw [List.getElem?_take] at hx
  split at hx
  · exact hx
  · cases hx

theorem run_cut_to (W : World) (p : Option Addr) (n c k : Nat) (hk : k ≤ c) : (Instr.slice 24 (.slice p n c) none (some (.int .i64 (k : Int))) none).run Try.prog W = .ok (.slice p k c) W := by
  rw [run_slice_h W 24 _ _ _ underB' .i64 _ (by omega) (by omega), elemB, Try.sizeOf5]
  have e4 : ((k : Int)).toNat = k := by omega
  rcases p with _ | a
  · simp [Result.andThen, sliced, e4]
  · by_cases hc : c = 0
    · simp [Result.andThen, sliced, e4, hc]
    · simp [Result.andThen, sliced, e4, Addr.add]

/-- 's[j:k]'. -/
theorem cut_mid {w : World} {p : Option Addr} {n c : Nat} {l : List UInt8} (h : By w (.slice p n c) l) {j k : Nat} (hjk : j ≤ k) (hk : k ≤ n) :
    ∃ q, (∀ W : World, (Instr.slice 24 (.slice p n c) (some (.int .i64 (j : Int))) (some (.int .i64 (k : Int))) none).run Try.prog W = .ok (.slice q (k - j) (c - j)) W) ∧ By w (.slice q (k - j) (c - j)) ((l.take k).drop j) := by
  have hn := h.len
  obtain ⟨q, hr, hb⟩ := cut_from (cut_to h hk) hjk
  refine ⟨if c = j then p else p.map (·.add j), fun W => ?_, ?_⟩
  · rw [run_slice_lh W 24 _ _ _ underB' .i64 .i64 _ _ (by omega) (by omega) (by omega), elemB, Try.sizeOf5]
    have e4 : ((j : Int)).toNat = j := by omega
    have e5 : ((k : Int)).toNat = k := by omega
    simp only [e4, e5, Result.andThen, sliced, Nat.mul_one]
  · have h2 := hr w
    rw [run_slice_l w 24 _ _ _ underB' .i64 _ (by omega) (by omega), elemB, Try.sizeOf5] at h2
    have e4 : ((j : Int)).toNat = j := by omega
    simp only [e4, Result.andThen, sliced, Nat.mul_one, Result.ok.injEq, Value.slice.injEq, and_true] at h2
    rw [h2]
    exact hb
end Go.Proofs.Ytlmoiaeppehiiaa
