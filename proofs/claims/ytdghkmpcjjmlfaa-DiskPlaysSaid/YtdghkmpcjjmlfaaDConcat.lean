/- Slices of byte slices, and Go's Concat. -/
import Derived.Test.YtdghkmpcjjmlfaaDKeep
import Derived.Lib.AppendZeros
namespace Go.Proofs.Ytdghkmpcjjmlfaa
open Go.RowKit

/-- The value v is a slice of slices that read as the lists ls. -/
def Bss (w : World) (v : Value) (ls : List (List UInt8)) : Prop :=
  ∃ (p : Option Addr) (c : Nat), v = .slice p ls.length c ∧ ls.length ≤ c ∧ c ≤ maxLen ∧ (p = none → c = 0) ∧
    ∀ a, p = some a → ∀ (i : Nat) l, ls[i]? = some l → ∃ u, w.cell? (a.add i) = some u ∧ By w u l

theorem Bss.nil (w : World) : Bss w (.slice none 0 0) [] := ⟨none, 0, rfl, by simp, by simp [maxLen], fun _ => rfl, fun a h => by cases h⟩

theorem Bss.below {w w' : World} {v : Value} {ls : List (List UInt8)} (h : Bss w v ls) (hb : Below w.heap.size w w') : Bss w' v ls := by
  obtain ⟨p, c, rfl, hl, hm, hn, hc⟩ := h
  refine ⟨p, c, rfl, hl, hm, hn, fun a e i l hi => ?_⟩
  obtain ⟨u, hu, hbu⟩ := hc a e i l hi
  exact ⟨u, (hb.cell (lt_of_cell hu)).trans hu, hbu.below hb⟩

theorem Bss.sl {w : World} {v : Value} {ls : List (List UInt8)} (h : Bss w v ls) : ∃ p n c, v = .slice p n c := by
  obtain ⟨p, c, e, _⟩ := h
  exact ⟨p, _, c, e⟩

theorem Bss.len {w : World} {p : Option Addr} {n c : Nat} {ls : List (List UInt8)} (h : Bss w (.slice p n c) ls) : n = ls.length ∧ n ≤ maxLen ∧ n ≤ c := by
  obtain ⟨p', c', e, hl, hm, _⟩ := h
  injection e with _ e2 e3
  omega

/-- The cells of a slice of slices, one by one. -/
theorem Bss.cellAt {w : World} {p : Option Addr} {n c : Nat} {ls : List (List UInt8)} (h : Bss w (.slice p n c) ls) {k : Nat} (hk : k < n) :
    ∃ (b o : Nat) (q : Option Addr) (m d : Nat) (l : List UInt8), p = some ⟨b, o, none⟩ ∧ ls[k]? = some l ∧ w.cell? ⟨b, o + k, none⟩ = some (.slice q m d) ∧ By w (.slice q m d) l := by
  have hn := h.len.1
  obtain ⟨p', c', e, hl, hm, hn', hc⟩ := h
  injection e with e1 e2 e3
  subst e1 e3
  rcases p with _ | a
  · have := hn' rfl
    omega
  · have hkl : k < ls.length := by omega
    obtain ⟨u, h1, hb⟩ := hc a rfl k ls[k] (List.getElem?_eq_getElem hkl)
    obtain ⟨u0, h00, _⟩ := hc a rfl 0 ls[0] (List.getElem?_eq_getElem (by omega))
    obtain ⟨b, o, spot⟩ := a
    have hsp : spot = none := by
      have h2 := World.cell?_spot h00
      unfold Addr.add at h2
      rw [if_pos rfl] at h2
      exact h2
    subst hsp
    obtain ⟨q, m, d, rfl⟩ := hb.sl
    exact ⟨b, o, q, m, d, ls[k], rfl, List.getElem?_eq_getElem hkl, by rw [add_lit0] at h1; exact h1, hb⟩

theorem Bss.of_parts {w : World} {b o n c : Nat} {vs : List Value} {ls : List (List UInt8)} (hn : n = ls.length) (hc : n ≤ c) (hm : c ≤ maxLen) (hl : vs.length = ls.length)
    (hcell : ∀ (i : Nat) v, vs[i]? = some v → w.cell? ⟨b, o + i, none⟩ = some v) (h : ∀ (i : Nat) v l, vs[i]? = some v → ls[i]? = some l → By w v l) : Bss w (.slice (some ⟨b, o, none⟩) n c) ls := by
  subst hn
  refine ⟨_, c, rfl, hc, hm, (fun e => by cases e), fun a e i l hi => ?_⟩
  injection e with e
  subst e
  have hil : i < vs.length := by rw [hl]; exact (List.getElem?_eq_some_iff.1 hi).1
  exact ⟨vs[i], by rw [add_lit0]; exact hcell i _ (List.getElem?_eq_getElem hil), h i _ l (List.getElem?_eq_getElem hil) hi⟩

theorem Bss.new {w : World} {t : TypeId} {n : Nat} {vs : List Value} {ls : List (List UInt8)} (hn : n = ls.length) (hm : n ≤ maxLen) (hl : vs.length = ls.length) (h : ∀ (i : Nat) v l, vs[i]? = some v → ls[i]? = some l → By w v l) :
    Bss (w.alloc (.cells vs.toArray t)) (.slice (some ⟨w.heap.size, 0, none⟩) n n) ls := by
  refine Bss.of_parts hn (Nat.le_refl _) hm hl (fun i v hv => ?_) fun i v l hv hl' => (h i v l hv hl').alloc _
  rw [Nat.zero_add, cell_of_row _ _ i vs.toArray t (0, 0) (heap_alloc_new w _)]
  simpa using hv


theorem lens_take_le' (ls : List (List UInt8)) (k : Nat) : Lib.lens (ls.take k) ≤ Lib.lens ls := Lib.lens_take_le ls k

theorem flatten_length (ls : List (List UInt8)) : ls.flatten.length = Lib.lens ls := by
  rw [List.length_flatten]
  rfl

theorem two_parts {w : World} {v u : Value} {l m : List UInt8} (h : By w v l) (h2 : By w u m) : Bss (w.alloc (.cells #[v, u] 32)) (.slice (some ⟨w.heap.size, 0, none⟩) 2 2) [l, m] :=
  Bss.new (vs := [v, u]) rfl (by decide) rfl fun i u m hu hm => by
    match i, hu, hm with
    | 0, hu, hm => simp at hu hm; subst hu hm; exact h
    | 1, hu, hm => simp at hu hm; subst hu hm; exact h2



end Go.Proofs.Ytdghkmpcjjmlfaa
