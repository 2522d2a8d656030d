/- Acts on two disks, plainly. -/
import Derived.Test.YthcakinkioniaabDDoes2
namespace Go.Proofs.Ythcakinkioniaab
open Go.RowKit

/-- The remainder that a law takes. -/
def modOf (m : Nat) (x : Int) : Nat := (wrap64 ((IntKind.u64.wrap x).tmod m)).toNat
theorem modOf_ok {m : Nat} (h0 : 0 < m) (hm : m ≤ 1048576) (x : Int) : (modOf m x : Int) = wrap64 ((IntKind.u64.wrap x).tmod m) ∧ modOf m x < m := by
  obtain ⟨y, hy⟩ : ∃ y : Nat, IntKind.u64.wrap x = y := ⟨(IntKind.u64.wrap x).toNat, by
    have h1 : 0 ≤ IntKind.u64.wrap x := by
      rw [IntKind.wrap_u64]
      omega
    omega⟩
  have h2 : (IntKind.u64.wrap x).tmod m = ((y % m : Nat) : Int) := by
    rw [hy]
    exact Int.ofNat_tmod y m
  have h4 : y % m < m := Nat.mod_lt _ h0
  have h3 : wrap64 ((y % m : Nat) : Int) = ((y % m : Nat) : Int) := by
    unfold wrap64
    omega
  unfold modOf
  rw [h2, h3]
  omega

theorem write_act {s : Dk} (hd : s.down = false) (hf : s.fn = 0) (k : List UInt8) (a : Int) (b : List UInt8) : ((s.write k a b).1 = 0 ∧ ∃ d, s.write k a b = (0, s.act d)) ∨ ((s.write k a b).1 ≠ 0 ∧ (s.write k a b).1 ≠ 22 ∧ (s.write k a b).2 = s) := by
  unfold Dk.write
  rw [hd, rdy_on]
  by_cases hk : okN k = true
  · rw [if_neg (by simp [hk])]
    split
    · split
      · exact .inr ⟨by simp, by simp, rfl⟩
      · split
        · exact .inr ⟨by simp, by simp, rfl⟩
        · split
          · exact .inr ⟨by simp, by simp, rfl⟩
          · rw [perf_zero hf]
            exact .inl ⟨rfl, _, rfl⟩
    · split
      · exact .inr ⟨by simp, by simp, rfl⟩
      · split
        · exact .inr ⟨by simp, by simp, rfl⟩
        · rw [perf_zero hf]
          exact .inl ⟨rfl, _, rfl⟩
  · rw [if_pos (by simp [hk])]
    exact .inr ⟨by simp [hk], by simp [hk], rfl⟩
theorem trim_act {s : Dk} (hd : s.down = false) (hf : s.fn = 0) (k : List UInt8) (a : Int) : ((s.trim k a).1 = 0 ∧ ∃ d, s.trim k a = (0, s.act d)) ∨ ((s.trim k a).1 ≠ 0 ∧ (s.trim k a).1 ≠ 22 ∧ (s.trim k a).2 = s) := by
  unfold Dk.trim
  rw [hd, rdy_on]
  by_cases hk : okN k = true
  · rw [if_neg (by simp [hk])]
    split
    · exact .inr ⟨by simp, by simp, rfl⟩
    · split
      · exact .inr ⟨by simp, by simp, rfl⟩
      · rw [perf_zero hf]
        exact .inl ⟨rfl, _, rfl⟩
  · rw [if_pos (by simp [hk])]
    exact .inr ⟨by simp [hk], by simp [hk], rfl⟩
theorem move_act {s : Dk} (hd : s.down = false) (hf : s.fn = 0) (k t : List UInt8) : ((s.move k t).1 = 0 ∧ ∃ d, s.move k t = (0, s.act d)) ∨ ((s.move k t).1 ≠ 0 ∧ (s.move k t).1 ≠ 22 ∧ (s.move k t).2 = s) := by
  unfold Dk.move
  rw [hd, rdy_on]
  by_cases hk : okN k = true
  · rw [if_neg (by simp [hk])]
    split
    · exact .inr ⟨by simp, by simp, rfl⟩
    · split
      · exact .inr ⟨by simp, by simp, rfl⟩
      · rw [perf_zero hf]
        exact .inl ⟨rfl, _, rfl⟩
  · rw [if_pos (by simp [hk])]
    exact .inr ⟨by simp [hk], by simp [hk], rfl⟩
theorem drop_act {s : Dk} (hd : s.down = false) (hf : s.fn = 0) (k : List UInt8) : ((s.drop k).1 = 0 ∧ ∃ d, s.drop k = (0, s.act d)) ∨ ((s.drop k).1 ≠ 0 ∧ (s.drop k).1 ≠ 22 ∧ (s.drop k).2 = s) := by
  unfold Dk.drop
  rw [hd, rdy_on]
  by_cases hk : okN k = true
  · rw [if_neg (by simp [hk])]
    split
    · exact .inr ⟨by simp, by simp, rfl⟩
    · rw [perf_zero hf]
      exact .inl ⟨rfl, _, rfl⟩
  · rw [if_pos (by simp [hk])]
    exact .inr ⟨by simp [hk], by simp [hk], rfl⟩
/-- An act is done or refused. -/
theorem step_act {s : Dk} (hd : s.down = false) (hf : s.fn = 0) {x : Rec} (hk : kind x.op < 6) : ((s.step x).1 = 0 ∧ ∃ d, s.step x = (0, s.act d)) ∨ ((s.step x).1 ≠ 0 ∧ (s.step x).1 ≠ 22 ∧ (s.step x).2 = s) := by
  unfold Dk.step Dk.doer
  split
  · exact trim_act hd hf _ _
  · split
    · exact move_act hd hf _ _
    · split
      · exact drop_act hd hf _
      · rw [if_neg (by simp; omega), if_neg (by simp; omega), if_neg (by simp; omega), if_neg (by simp; omega)]
        exact write_act hd hf _ _ _

/-- A disk on which all but the first acts were never done. -/
def Dk.cut (s : Dk) (k : Nat) : Dk := { s with acts := s.acts.take k }
theorem cut_all {s : Dk} {k : Nat} (h : s.acts.length ≤ k) : s.cut k = s := by
  unfold Dk.cut
  rw [List.take_of_length_le h]
theorem cut_act {s : Dk} (hf : s.fn = 0) {k : Nat} (h : k ≤ s.acts.length) (d : Deed) : (s.act d).cut k = s.cut k := by
  unfold Dk.cut Dk.act
  simp only [List.take_append_of_le_length h]
  rw [hf]
theorem act_len (s : Dk) (d : Deed) : (s.act d).acts.length = s.acts.length + 1 := by simp [Dk.act]
theorem settleF_zero (F : Fl) (ds : List Deed) {K : Nat} (hK : K ≤ ds.length) : settleF F ds K 0 = runs F (ds.take K) := by
  have h := settleF_all F (ds.take K)
  have hl : (ds.take K).length = K := by rw [List.length_take]; omega
  rw [hl] at h
  rw [← h]
  unfold settleF
  by_cases h0 : K = 0
  · rw [if_pos h0, if_pos h0]
  · rw [if_neg h0, if_neg h0, List.getElem?_take, if_pos (by omega)]
    rcases ds[K - 1]? with _ | d
    · rfl
    · simp only
      rw [List.take_take, show min (K - 1) K = K - 1 from by omega]
theorem Dk.CalmN.act {s : Dk} {i : Nat} (h : s.CalmN i) (d : Deed) : (s.act d).CalmN (i + 1) := ⟨h.k, h.t, by rw [act_len]; have := h.few; omega⟩
theorem Dk.CalmN.cut {s : Dk} {i : Nat} (h : s.CalmN i) (k : Nat) : (s.cut k).CalmN i := ⟨h.k, h.t, by
  show (s.acts.take k).length ≤ i
  have := h.few
  rw [List.length_take]
  omega⟩
theorem Dk.Named.cut {s : Dk} (h : s.Named) (k : Nat) : (s.cut k).Named := ⟨h.last, fun d hd => h.acts d (List.mem_of_mem_take hd)⟩
end Go.Proofs.Ythcakinkioniaab
