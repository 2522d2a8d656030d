/- A span that would stand above itself, with no word of ranks; and what adding one that does not keeps. -/
import Derived.Test.YtbbdijnkgkabbaaFUp
namespace Go.Proofs.Ytbbdijnkgkabbaa
set_option linter.unusedVariables false
set_option linter.unusedSimpArgs false
open Go.RowKit

/-- From a place up, does one stand beneath id? -/
noncomputable def ring (L : List Sp) (id a : Int) : Bool := by
  classical exact decide (∃ n, upw L id n a = true)
theorem ring_iff {L : List Sp} {id a : Int} : ring L id a = true ↔ ∃ n, upw L id n a = true := by
  unfold ring
  simp
theorem upw_mono {L : List Sp} {id : Int} : ∀ {n m : Nat} {a : Int}, n ≤ m → upw L id n a = true → upw L id m a = true
  | 0, _, _, _, h => by cases h
  | n + 1, 0, _, hm, _ => by omega
  | n + 1, m + 1, a, hm, h => by
    unfold upw at h ⊢
    cases hf : fnd L a with
    | none => rw [hf] at h; exact h
    | some u =>
      rw [hf] at h
      simp only at h ⊢
      by_cases hp : u.p = id
      · rw [if_pos hp]
      · rw [if_neg hp] at h ⊢
        exact upw_mono (by omega) h
theorem ups_ring {L : List Sp} {r : Int → Nat} (hr : Ranks L r) (id a : Int) : ups L r id a = ring L id a := by
  have key : ∀ m, rk L r a ≤ m → upw L id (rk L r a) a = upw L id m a := fun m hm => upw_more hr id _ _ _ fun u hu => by
    rw [rk_some hu] at *
    omega
  rw [Bool.eq_iff_iff, ring_iff]
  constructor
  · intro h
    exact ⟨_, h⟩
  · rintro ⟨n, hn⟩
    unfold ups
    rw [key (max n (rk L r a)) (by omega)]
    exact upw_mono (by omega) hn
theorem ring_out {L : List Sp} {id a : Int} (h : fnd L a = none) : ring L id a = false := by
  rw [Bool.eq_false_iff, ne_eq, ring_iff]
  rintro ⟨n, hn⟩
  cases n with
  | zero => cases hn
  | succ n => unfold upw at hn; rw [h] at hn; cases hn
theorem ring_hit {L : List Sp} {id a : Int} {u : Sp} (h : fnd L a = some u) (hu : u.p = id) : ring L id a = true := by
  rw [ring_iff]
  refine ⟨1, ?_⟩
  unfold upw
  rw [h]
  simp [hu]
theorem ring_on {L : List Sp} {id a : Int} {u : Sp} (h : fnd L a = some u) (hu : u.p ≠ id) : ring L id a = ring L id u.p := by
  rw [Bool.eq_iff_iff, ring_iff, ring_iff]
  constructor
  · rintro ⟨n, hn⟩
    cases n with
    | zero => cases hn
    | succ n =>
      unfold upw at hn
      rw [h] at hn
      simp only [if_neg hu] at hn
      exact ⟨n, hn⟩
  · rintro ⟨n, hn⟩
    refine ⟨n + 1, ?_⟩
    unfold upw
    rw [h]
    simp only [if_neg hu]
    exact hn

/-- No span stands above itself. -/
def NoRing (L : List Sp) : Prop := ∃ r, Ranks L r
theorem noRing_nil : NoRing [] := ⟨fun _ => 0, fun x hx => by simp at hx⟩
theorem noRing_add {L : List Sp} (hid : L.Pairwise fun x y => x.i ≠ y.i) (h : NoRing L) {x : Sp} (hn : fnd L x.i = none) (hr : ring L x.i x.p = false) (hp : x.p ≠ x.i) : NoRing (L ++ [x]) := by
  obtain ⟨r, hR⟩ := h
  refine ⟨fun k => if k = x.i then rk L r x.p else if ring L x.i k = true then r k + (rk L r x.p + 1) else r k, fun y hy u hu => ?_⟩
  rw [fnd_add] at hu
  have ne_of : ∀ {k v}, fnd L k = some v → v.i ≠ x.i := fun {k v} hv => fnd_none.1 hn v (fnd_mem hv).1
  simp only
  rcases List.mem_append.1 hy with hy | hy
  · have hyi : y.i ≠ x.i := fnd_none.1 hn y hy
    have hfy := fnd_of hid hy
    rw [if_neg hyi]
    cases hf : fnd L y.p with
    | some v =>
      rw [hf] at hu
      simp only [Option.some_or, Option.some.injEq] at hu
      subst hu
      have hvi := ne_of hf
      have hvp := (fnd_mem hf).2
      rw [if_neg hvi]
      have hyp : y.p ≠ x.i := fun e => hvi (hvp.trans e)
      rw [ring_on hfy hyp, ← hvp]
      have := hR y hy v hf
      split <;> omega
    | none =>
      rw [hf] at hu
      simp only [Option.none_or] at hu
      by_cases e : x.i = y.p
      · rw [if_pos e] at hu
        injection hu with hu
        subst hu
        rw [if_pos rfl, if_pos (ring_hit hfy e.symm)]
        omega
      · rw [if_neg e] at hu
        cases hu
  · simp only [List.mem_cons, List.not_mem_nil, or_false] at hy
    subst hy
    rw [if_pos rfl]
    cases hf : fnd L y.p with
    | some v =>
      rw [hf] at hu
      simp only [Option.some_or, Option.some.injEq] at hu
      subst hu
      have hvi := ne_of hf
      have hvp := (fnd_mem hf).2
      rw [if_neg hvi, if_neg (by rw [hvp, hr]; simp), rk_some hf]
      omega
    | none =>
      rw [hf] at hu
      simp only [Option.none_or] at hu
      by_cases e : y.i = y.p
      · exact absurd e.symm hp
      · rw [if_neg e] at hu
        cases hu
end Go.Proofs.Ytbbdijnkgkabbaa
