/- What the laws of ledger share. -/
import Derived.Test.YtmalhdiholblgaaLArg
namespace Go.Proofs.Ytmalhdiholblgaa
set_option linter.unusedVariables false
set_option linter.unusedSimpArgs false
open Go.RowKit

def Good (w : World) (e : Ending) (w' : World) : Prop := e = .returned (.bool true) ∧ Below w.heap.size w w'
theorem enss_lit (w : World) (vs : List Value) (L : List (List En)) (c : Nat) (hl : vs.length = L.length) (h9 : L.length ≤ 9) (h : ∀ (i : Nat) v l, vs[i]? = some v → L[i]? = some l → Ens w v l) :
    Enss (w.alloc (.cells vs.toArray 22)) (.slice (some ⟨w.heap.size, 0, none⟩) L.length c) L := by
  refine ⟨_, c, rfl, by omega, fun i l hi => ?_⟩
  have hil := (List.getElem?_eq_some_iff.1 hi).1
  have hv := List.getElem?_eq_getElem (l := vs) (i := i) (by omega)
  refine ⟨_, 0, vs[i], rfl, ?_, (h i _ l hv hi).below ((Below.refl _ _).alloc (Nat.le_refl _) _)⟩
  rw [Nat.zero_add, cell_of_row _ w.heap.size i _ _ (0, 0) (heap_alloc_new w _)]
  simp
theorem light1 {w : World} {v : Value} {l : List En} (h : Ens w v l) (hs : l.length * 40 ≤ 140737488351232) : Calls Try.prog 6 #[.slice (some ⟨w.heap.size, 0, none⟩) 1 1] (w.alloc (.cells #[v] 22)) fun e w' => e = .returned (.bool (lightL [l])) ∧ w.alloc (.cells #[v] 22) = w' :=
  light_any (enss_lit w [v] [l] 1 rfl (by simp) fun i v' l' h1 h2 => by
    match i with
    | 0 => simp at h1 h2; rw [← h1, ← h2]; exact h
    | i + 1 => simp at h1) (fun y hy => by simp at hy; subst hy; omega)
theorem light2 {w : World} {v u : Value} {l m : List En} (h : Ens w v l) (h' : Ens w u m) (hs : l.length * 40 ≤ 140737488351232) (hs' : m.length * 40 ≤ 140737488351232) : Calls Try.prog 6 #[.slice (some ⟨w.heap.size, 0, none⟩) 2 2] (w.alloc (.cells #[v, u] 22)) fun e w' => e = .returned (.bool (lightL [l, m])) ∧ w.alloc (.cells #[v, u] 22) = w' :=
  light_any (enss_lit w [v, u] [l, m] 2 rfl (by simp) fun i v' l' h1 h2 => by
    match i with
    | 0 => simp at h1 h2; rw [← h1, ← h2]; exact h
    | 1 => simp at h1 h2; rw [← h1, ← h2]; exact h'
    | i + 2 => simp at h1) (fun y hy => by
      simp at hy
      rcases hy with rfl | rfl <;> omega)
theorem light3 {w : World} {v u x : Value} {l m n : List En} (h : Ens w v l) (h' : Ens w u m) (h2 : Ens w x n) (hs : l.length * 40 ≤ 140737488351232) (hs' : m.length * 40 ≤ 140737488351232) (hs2 : n.length * 40 ≤ 140737488351232) : Calls Try.prog 6 #[.slice (some ⟨w.heap.size, 0, none⟩) 3 3] (w.alloc (.cells #[v, u, x] 22)) fun e w' => e = .returned (.bool (lightL [l, m, n])) ∧ w.alloc (.cells #[v, u, x] 22) = w' :=
  light_any (enss_lit w [v, u, x] [l, m, n] 3 rfl (by simp) fun i v' l' h1 h2' => by
    match i with
    | 0 => simp at h1 h2'; rw [← h1, ← h2']; exact h
    | 1 => simp at h1 h2'; rw [← h1, ← h2']; exact h'
    | 2 => simp at h1 h2'; rw [← h1, ← h2']; exact h2
    | i + 3 => simp at h1) (fun y hy => by
      simp at hy
      rcases hy with rfl | rfl | rfl <;> omega)
/-- The cells of a base's box. -/
theorem box3 (w : World) (a b c : Value) (T : Nat) : (w.alloc (.cells #[a, b, c] T)).cell? ⟨w.heap.size, 0, none⟩ = some a ∧ (w.alloc (.cells #[a, b, c] T)).cell? ⟨w.heap.size, 1, none⟩ = some b ∧ (w.alloc (.cells #[a, b, c] T)).cell? ⟨w.heap.size, 2, none⟩ = some c := by
  have h : ∀ i u, #[a, b, c][i]? = some u → (w.alloc (.cells #[a, b, c] T)).cell? ⟨w.heap.size, i, none⟩ = some u := fun i u h => by
    rw [cell_of_row _ w.heap.size _ _ _ (0, 0) (heap_alloc_new w _)]
    exact h
  exact ⟨h 0 _ rfl, h 1 _ rfl, h 2 _ rfl⟩
end Go.Proofs.Ytmalhdiholblgaa
