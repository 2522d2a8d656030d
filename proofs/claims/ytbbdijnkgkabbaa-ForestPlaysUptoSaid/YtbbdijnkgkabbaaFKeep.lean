/- What putting a span into a forest keeps. -/
import Derived.Test.YtbbdijnkgkabbaaFForest
namespace Go.Proofs.Ytbbdijnkgkabbaa
set_option linter.unusedVariables false
set_option linter.unusedSimpArgs false
open Go.RowKit

theorem putP_sum (L : List Sp) (c : Cn) (x : Sp) : (putP L c x).2.sum = c.sum + 1 := by
  unfold putP Cn.sum
  cases fnd L x.i with
  | none => simp only; repeat' split
            all_goals simp only <;> omega
  | some o => simp only; split
              all_goals simp only <;> omega
theorem putP_same {L : List Sp} {c : Cn} {x : Sp} : (putP L c x).1 = L ∨ (fnd L x.i = none ∧ ¬ 64 ≤ L.length ∧ ring L x.i x.p = false ∧ (putP L c x).1 = L ++ [x]) := by
  unfold putP
  cases hf : fnd L x.i with
  | some o => simp only; split <;> exact .inl rfl
  | none =>
    simp only
    by_cases h1 : 64 ≤ L.length
    · rw [if_pos h1]; exact .inl rfl
    · rw [if_neg h1]
      by_cases h2 : ring L x.i x.p = true
      · rw [if_pos h2]; exact .inl rfl
      · rw [if_neg h2]
        exact .inr ⟨trivial, h1, by simpa using h2, rfl⟩
theorem putP_ok {tr : Int} {L : List Sp} {c : Cn} {x : Sp} (h : FoOk tr L) (hx : x.ok = true) (hp : x.p ≠ x.i) (ht : x.t = tr) : FoOk tr (putP L c x).1 := by
  rcases putP_same (L := L) (c := c) (x := x) with e | ⟨h1, h2, h3, e⟩
  · rw [e]; exact h
  · rw [e]
    refine ⟨?_, noRing_add h.ids h.rises h1 h3 hp, fun y hy => ?_, by rw [List.length_append, List.length_singleton]; omega⟩
    · rw [List.pairwise_append]
      refine ⟨h.ids, List.pairwise_singleton _ _, fun a ha y hy => ?_⟩
      simp only [List.mem_cons, List.not_mem_nil, or_false] at hy
      subst hy
      exact fnd_none.1 h1 a ha
    · rcases List.mem_append.1 hy with hy | hy
      · exact h.ok y hy
      · simp only [List.mem_cons, List.not_mem_nil, or_false] at hy
        subst hy
        exact ⟨hx, ht⟩
/-- Many put, one behind the other. -/
noncomputable def putsP : List Sp → Cn → List Sp → List Sp × Cn
  | L, c, [] => (L, c)
  | L, c, x :: r => putsP (putP L c x).1 (putP L c x).2 r
theorem putsP_snoc : ∀ (l : List Sp) (L : List Sp) (c : Cn) (x : Sp), putsP L c (l ++ [x]) = putP (putsP L c l).1 (putsP L c l).2 x
  | [], L, c, x => rfl
  | y :: r, L, c, x => by
    rw [List.cons_append]
    unfold putsP
    exact putsP_snoc r _ _ x
theorem putsP_app : ∀ (l m : List Sp) (L : List Sp) (c : Cn), putsP L c (l ++ m) = putsP (putsP L c l).1 (putsP L c l).2 m
  | [], m, L, c => rfl
  | y :: r, m, L, c => by
    rw [List.cons_append]
    conv => lhs; unfold putsP
    conv => rhs; rw [show putsP L c (y :: r) = putsP (putP L c y).1 (putP L c y).2 r from rfl]
    exact putsP_app r m _ _
theorem putsP_sum : ∀ (l : List Sp) (L : List Sp) (c : Cn), (putsP L c l).2.sum = c.sum + l.length
  | [], L, c => rfl
  | y :: r, L, c => by
    unfold putsP
    rw [putsP_sum r, putP_sum, List.length_cons]
    omega
theorem putsP_ok {tr : Int} : ∀ (l : List Sp) {L : List Sp} {c : Cn}, FoOk tr L → (∀ x ∈ l, x.ok = true ∧ x.p ≠ x.i ∧ x.t = tr) → FoOk tr (putsP L c l).1
  | [], L, c, h, _ => h
  | y :: r, L, c, h, hl => by
    have hy := hl y (List.mem_cons_self ..)
    exact putsP_ok r (putP_ok h hy.1 hy.2.1 hy.2.2) fun x hx => hl x (List.mem_cons_of_mem _ hx)
end Go.Proofs.Ytbbdijnkgkabbaa
