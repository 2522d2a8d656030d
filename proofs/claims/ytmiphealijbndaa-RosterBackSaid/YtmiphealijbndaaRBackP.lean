/- Whoever joins and leaves: plainly. -/
import Derived.Test.YtmiphealijbndaaRJoin
namespace Go.Proofs.Ytmiphealijbndaa
set_option linter.unusedVariables false
set_option linter.unusedSimpArgs false
open Go.RowKit

theorem strict_of {l : List Int} (h : l.Pairwise (· ≤ ·)) (hn : l.Nodup) : l.Pairwise (· < ·) := by
  have := List.Pairwise.and h hn
  exact this.imp fun ⟨a, b⟩ => by omega
theorem nodup_of {l : List Int} (h : l.Pairwise (· < ·)) : l.Nodup := h.imp fun a e => by omega
theorem leave_mem {l : List Int} {n x : Int} : x ∈ leaveN l n ↔ x ∈ l ∧ x ≠ n := by
  unfold leaveN
  rw [List.mem_filter]
  simp
theorem leave_rise {l : List Int} {n : Int} (h : l.Pairwise (· < ·)) : (leaveN l n).Pairwise (· < ·) := h.sublist List.filter_sublist
theorem hasN_iff {l : List Int} {n : Int} : hasN l n = true ↔ n ∈ l := by
  unfold hasN
  exact List.contains_iff_mem
theorem hasN_leave (l : List Int) (n : Int) : hasN (leaveN l n) n = false := by
  rw [Bool.eq_false_iff]
  intro h
  exact (leave_mem.1 (hasN_iff.1 h)).2 rfl
theorem put_rise {l : List Int} {n : Int} (h : l.Pairwise (· < ·)) (hn : n ∉ l) : (sortN (l ++ [n])).Pairwise (· < ·) := by
  refine strict_of (sortN_rise _) ((sortN_perm _).nodup_iff.2 ?_)
  rw [List.nodup_append]
  exact ⟨nodup_of h, by simp, fun a ha b hb => by
    have : b = n := by simpa using hb
    intro e
    exact hn (by rw [← this, ← e]; exact ha)⟩
theorem put_mem {l : List Int} {n x : Int} : x ∈ sortN (l ++ [n]) ↔ x ∈ l ∨ x = n := by
  rw [(sortN_perm _).mem_iff, List.mem_append]
  simp
theorem join_leave {l : List Int} {n : Int} (h : l.Pairwise (· < ·)) (hn : hasN l n = true) : joinN (leaveN l n) n = l := by
  have h0 := hasN_leave l n
  unfold joinN
  rw [h0]
  simp only [Bool.false_eq_true, if_false]
  have h1 : n ∉ leaveN l n := fun hh => (leave_mem.1 hh).2 rfl
  refine rise_ext (put_rise (leave_rise h) h1) h fun x => ?_
  rw [put_mem, leave_mem]
  have := hasN_iff.1 hn
  constructor
  · rintro (⟨a, _⟩ | rfl)
    · exact a
    · exact this
  · intro hx
    by_cases e : x = n
    · exact .inr e
    · exact .inl ⟨hx, e⟩
theorem leave_join {l : List Int} {n : Int} (h : l.Pairwise (· < ·)) (hn : hasN l n = false) : leaveN (joinN l n) n = l := by
  have h1 : n ∉ l := fun hh => by rw [hasN_iff.2 hh] at hn; cases hn
  unfold joinN
  rw [hn]
  simp only [Bool.false_eq_true, if_false]
  refine rise_ext (leave_rise (put_rise h h1)) h fun x => ?_
  rw [leave_mem, put_mem]
  constructor
  · rintro ⟨a | a, b⟩
    · exact a
    · exact absurd a b
  · intro hx
    exact ⟨.inl hx, fun e => h1 (e ▸ hx)⟩
theorem join_len {l : List Int} {n : Int} (hn : hasN l n = false) : (joinN l n).length = l.length + 1 := by
  unfold joinN
  rw [hn]
  simp only [Bool.false_eq_true, if_false]
  rw [sortN_length, List.length_append]
  rfl
theorem hasN_join {l : List Int} {n : Int} (hn : hasN l n = false) : hasN (joinN l n) n = true := by
  rw [hasN_iff]
  unfold joinN
  rw [hn]
  simp only [Bool.false_eq_true, if_false]
  exact put_mem.2 (.inr rfl)
theorem may_more {a b : List Int} (ha : okR a = true) (hb : okR b = true) (hsub : ∀ x ∈ a, x ∈ b) (hl : b.length = a.length + 1) : mayI a b = 0 ∧ mayI b a = 0 := by
  have h : oneM a b = true := by
    unfold oneM
    rw [Bool.and_eq_true, decide_eq_true_eq]
    exact ⟨List.all_eq_true.2 fun x hx => List.contains_iff_mem.2 (hsub x hx), hl⟩
  unfold mayI
  rw [ha, hb, h]
  simp
theorem may_join {l : List Int} {n : Int} (h : okR l = true) (hn : hasN l n = false) (h0 : 0 ≤ n ∧ n < 7) : mayI l (joinN l n) = 0 ∧ mayI (joinN l n) l = 0 := by
  have h1 : n ∉ l := fun hh => by rw [hasN_iff.2 hh] at hn; cases hn
  have e : joinN l n = sortN (l ++ [n]) := by
    unfold joinN
    rw [hn]
    simp
  refine may_more h (okR_iff.2 ⟨by rw [join_len hn]; omega, by rw [e]; exact put_rise (okR_rise h) h1, fun x hx => ?_⟩) (fun x hx => ?_) (join_len hn)
  · rw [e] at hx
    rcases put_mem.1 hx with hx | rfl
    · exact okR_mem h x hx
    · exact h0
  · rw [e]
    exact put_mem.2 (.inl hx)
theorem may_leave {l : List Int} {n : Int} (h : okR l = true) (hn : hasN l n = true) (h0 : 0 < (leaveN l n).length) : mayI l (leaveN l n) = 0 ∧ mayI (leaveN l n) l = 0 := by
  have hl := join_len (hasN_leave l n)
  rw [join_leave (okR_rise h) hn] at hl
  have := may_more (a := leaveN l n) (b := l) (okR_iff.2 ⟨h0, leave_rise (okR_rise h), fun x hx => okR_mem h x (leave_mem.1 hx).1⟩) h (fun x hx => (leave_mem.1 hx).1) hl
  exact ⟨this.2, this.1⟩
end Go.Proofs.Ytmiphealijbndaa
