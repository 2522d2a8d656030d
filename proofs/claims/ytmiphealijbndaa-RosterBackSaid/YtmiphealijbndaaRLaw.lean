/- What the laws of roster share. -/
import Derived.Test.YtmiphealijbndaaRAw
namespace Go.Proofs.Ytmiphealijbndaa
set_option linter.unusedVariables false
set_option linter.unusedSimpArgs false
open Go.RowKit

/-- A law answers true, and leaves all that was there. -/
def Good (w : World) (e : Ending) (w' : World) : Prop := e = .returned (.bool true) ∧ Below w.heap.size w w'
theorem nss_lit (w : World) (vs : List Value) (L : List (List Int)) (c : Nat) (hl : vs.length = L.length) (h9 : L.length ≤ 9) (h : ∀ (i : Nat) v l, vs[i]? = some v → L[i]? = some l → Ns w v l) :
    Nss (w.alloc (.cells vs.toArray 22)) (.slice (some ⟨w.heap.size, 0, none⟩) L.length c) L := by
  refine ⟨_, c, rfl, h9, fun i l hi => ?_⟩
  have hil := (List.getElem?_eq_some_iff.1 hi).1
  have hv := List.getElem?_eq_getElem (l := vs) (i := i) (by omega)
  refine ⟨_, 0, vs[i], rfl, ?_, (h i _ l hv hi).below ((Below.refl _ _).alloc (Nat.le_refl _) _)⟩
  rw [Nat.zero_add, cell_of_row _ w.heap.size i _ _ (0, 0) (heap_alloc_new w _)]
  first | (simp; done) | simpa using hv
theorem light1 {w : World} {v : Value} {l : List Int} (h : Ns w v l) : Calls Try.prog 11 #[.slice (some ⟨w.heap.size, 0, none⟩) 1 1] (w.alloc (.cells #[v] 22)) fun e w' => e = .returned (.bool (lightN [l])) ∧ w.alloc (.cells #[v] 22) = w' :=
  light_any (nss_lit w [v] [l] 1 rfl (by simp) fun i v' l' h1 h2 => by
    match i with
    | 0 => simp at h1 h2; rw [← h1, ← h2]; exact h
    | i + 1 => simp at h1)
theorem light2 {w : World} {v u : Value} {l m : List Int} (h : Ns w v l) (h' : Ns w u m) : Calls Try.prog 11 #[.slice (some ⟨w.heap.size, 0, none⟩) 2 2] (w.alloc (.cells #[v, u] 22)) fun e w' => e = .returned (.bool (lightN [l, m])) ∧ w.alloc (.cells #[v, u] 22) = w' :=
  light_any (nss_lit w [v, u] [l, m] 2 rfl (by simp) fun i v' l' h1 h2 => by
    match i with
    | 0 => simp at h1 h2; rw [← h1, ← h2]; exact h
    | 1 => simp at h1 h2; rw [← h1, ← h2]; exact h'
    | i + 2 => simp at h1)
theorem light4 {w : World} {v u x y : Value} {l m n o : List Int} (h : Ns w v l) (h' : Ns w u m) (h2 : Ns w x n) (h3 : Ns w y o) : Calls Try.prog 11 #[.slice (some ⟨w.heap.size, 0, none⟩) 4 4] (w.alloc (.cells #[v, u, x, y] 22)) fun e w' => e = .returned (.bool (lightN [l, m, n, o])) ∧ w.alloc (.cells #[v, u, x, y] 22) = w' :=
  light_any (nss_lit w [v, u, x, y] [l, m, n, o] 4 rfl (by simp) fun i v' l' q1 q2 => by
    match i with
    | 0 => simp at q1 q2; rw [← q1, ← q2]; exact h
    | 1 => simp at q1 q2; rw [← q1, ← q2]; exact h'
    | 2 => simp at q1 q2; rw [← q1, ← q2]; exact h2
    | 3 => simp at q1 q2; rw [← q1, ← q2]; exact h3
    | i + 4 => simp at q1)
theorem lightN_of {l : List Int} {L : List (List Int)} (h : lightN L = true) (hl : l ∈ L) : l.length ≤ 300 := by
  unfold lightN at h
  have := List.all_eq_true.1 h l hl
  simpa using this
theorem fits_of_wf {x : Int} (h : (Lit.int .i64 x).wf = true) : fits x := by
  have h1 : IntKind.i64.min = -9223372036854775808 := rfl
  have h2 : IntKind.i64.max = 9223372036854775807 := rfl
  simp only [Lit.wf, Bool.and_eq_true, decide_eq_true_eq] at h
  unfold fits
  omega
end Go.Proofs.Ytmiphealijbndaa
