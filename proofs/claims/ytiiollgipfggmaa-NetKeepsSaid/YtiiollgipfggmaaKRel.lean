/- A bag, and beside it what was put into it: in memory, and plainly. -/
import Derived.Test.YtiiollgipfggmaaKSt
import Derived.Test.YtiiollgipfggmaaKArg
namespace Go.Proofs.Ytiiollgipfggmaa
set_option linter.unusedVariables false
set_option linter.unusedSimpArgs false
open Go.RowKit

/-- Messages' lists lie in the world w0. -/
def McV (w0 : World) (y : Mc) : Prop := MsV w0 y.m (.slice y.pe y.ne y.ce) (.slice y.pv y.nv y.cv) (.slice y.pd y.nd y.cd)
/-- A bag, messages and numbers in memory. -/
structure Kq (w0 w : World) (B2 g : Nat) (vb vt vi : Value) (x : Bg) (T : List Mc) (I : List Int) : Prop where
  bag : BgIs w0.heap.size w g vb x
  mt : OwnM B2 w vt T
  it : OwnN B2 w vi I
  tv : ∀ y ∈ T, McV w0 y
  bel : Below w0.heap.size w0 w
  gB : g < B2
  bB : B2 ≤ w.heap.size
section
variable {w0 w w' : World} {B2 g : Nat} {vb vb' vt vi vt' vi' : Value} {x x' : Bg} {T T' : List Mc} {I I' : List Int}
theorem Kq.apart (h : Kq w0 w B2 g vb vt vi x T I) : (∀ k, vt.ownBlock = some k → ¬ BgS g vb k) ∧ ∀ k, vi.ownBlock = some k → ¬ BgS g vb k := by
  obtain ⟨E, hE, _⟩ := h.bag.row
  have h1 := h.mt.lt
  have h2 := h.it.lt
  have h3 := h.gB
  refine ⟨fun k hk => ?_, fun k hk => ?_⟩
  · rintro (e | e)
    · have := h1 k hk; omega
    · exact kinds_apart h.mt hE (by decide) hk e
  · rintro (e | e)
    · have := h2 k hk; omega
    · exact kinds_apart h.it.1 hE (by decide) hk e
theorem Kq.call (h : Kq w0 w B2 g vb vt vi x T I) (hb : BgIs w0.heap.size w' g vb' x') (hc : Chg w w' (BgS g vb)) : Kq w0 w' B2 g vb' vt vi x' T I :=
  ⟨hb, ownsRow_chgN h.mt hc h.apart.1, ⟨ownsRow_chgN h.it.1 hc h.apart.2, h.it.2⟩, h.tv, hc.to_below h.bel (fun k hk => (h.bag.S k hk).1), h.gB, Nat.le_trans h.bB hc.size⟩
theorem Kq.below (h : Kq w0 w B2 g vb vt vi x T I) (hb : Below w.heap.size w w') : Kq w0 w' B2 g vb vt vi x T I :=
  ⟨h.bag.below hb, h.mt.below hb, h.it.below hb, h.tv, h.bel.trans (hb.mono h.bel.size), h.gB, Nat.le_trans h.bB hb.size⟩
theorem Kq.rows (h : Kq w0 w B2 g vb vt vi x T I) (hm : OwnM B2 w vt' T') (hi : OwnN B2 w vi' I') (ht : ∀ y ∈ T', McV w0 y) : Kq w0 w B2 g vb vt' vi' x T' I' := ⟨h.bag, hm, hi, ht, h.bel, h.gB, h.bB⟩
end
/-- What the lists say of the bag. -/
structure Kr (x : Bg) (T : List Mc) (I : List Int) : Prop where
  tm : T.map (·.m) = x.ps.map (·.2)
  im : I = x.ps.map (·.1)
  up : I.Pairwise (· < ·)
  le : ∀ i ∈ I, i ≤ x.last
theorem Kr.lens {x : Bg} {T : List Mc} {I : List Int} (h : Kr x T I) : T.length = x.ps.length ∧ I.length = x.ps.length := by
  refine ⟨?_, by rw [h.im, List.length_map]⟩
  have := congrArg List.length h.tm
  simpa using this
theorem Kr.nil : Kr ⟨0, []⟩ [] [] := ⟨rfl, rfl, List.Pairwise.nil, by simp⟩
theorem map_eraseIdx' {α β : Type} (f : α → β) : ∀ (l : List α) (k : Nat), (l.eraseIdx k).map f = (l.map f).eraseIdx k
  | [], k => by simp
  | a :: r, 0 => rfl
  | a :: r, k + 1 => by simp only [List.eraseIdx_cons_succ, List.map_cons, map_eraseIdx' f r k]
theorem Kr.lose {x : Bg} {T : List Mc} {I : List Int} (h : Kr x T I) {id : Int} {k : Nat} (hk : findI x id = some k) : Kr (loseI x id) (T.eraseIdx k) (I.eraseIdx k) := by
  unfold loseI
  rw [hk]
  dsimp only
  exact ⟨by rw [map_eraseIdx', map_eraseIdx', h.tm], by rw [map_eraseIdx', h.im], h.up.sublist (List.eraseIdx_sublist _ _), fun i hi => h.le i (List.mem_of_mem_eraseIdx hi)⟩
theorem lose_none {x : Bg} {id : Int} (hk : findI x id = none) : loseI x id = x := by unfold loseI; rw [hk]
theorem Kr.add {x : Bg} {T : List Mc} {I : List Int} (h : Kr x T I) (y : Mc) : Kr ⟨x.last + 1, x.ps ++ [(x.last + 1, y.m)]⟩ (T ++ [y]) (I ++ [x.last + 1]) := by
  refine ⟨by simp [h.tm], by simp [h.im], ?_, fun i hi => ?_⟩
  · refine List.pairwise_append.2 ⟨h.up, by simp, fun a ha b hb => ?_⟩
    simp at hb
    have := h.le a ha
    omega
  · rcases List.mem_append.1 hi with hi | hi
    · have := h.le i hi; dsimp only; omega
    · simp at hi; dsimp only; omega
theorem Kr.idx {x : Bg} {T : List Mc} {I : List Int} (h : Kr x T I) (id : Int) : Lib.idxOf I id = match findI x id with | none => -1 | some k => (k : Int) := by
  unfold Lib.idxOf findI
  rw [h.im, idx_find id x.ps 0]
  cases x.ps.findIdx? (fun y => y.1 == id) with
  | none => rfl
  | some k => show ((0 + k : Nat) : Int) = (k : Int); omega
theorem Kr.get {x : Bg} {T : List Mc} {I : List Int} (h : Kr x T I) {k : Nat} {y : Mc} (hy : T[k]? = some y) : ∃ p, x.ps[k]? = some p ∧ p.2 = y.m := by
  have hl := h.lens.1
  have hk := (List.getElem?_eq_some_iff.1 hy).1
  obtain ⟨p, hp⟩ : ∃ p, x.ps[k]? = some p := ⟨_, List.getElem?_eq_getElem (by omega)⟩
  refine ⟨p, hp, ?_⟩
  have h1 : (T.map (·.m))[k]? = some y.m := by rw [List.getElem?_map, hy]; rfl
  rw [h.tm, List.getElem?_map, hp] at h1
  simpa using h1
theorem Kr.peek {x : Bg} {T : List Mc} {I : List Int} (h : Kr x T I) {id : Int} {k : Nat} {y : Mc} (hk : findI x id = some k) (hy : T[k]? = some y) : peekI x id = (y.m, 0) := by
  obtain ⟨p, hp, he⟩ := h.get hy
  unfold peekI
  rw [hk]
  dsimp only
  rw [hp]
  dsimp only
  rw [he]
/-- A number of the list is found at its place: no two are the same. -/
theorem Kr.find {x : Bg} {T : List Mc} {I : List Int} (h : Kr x T I) {id : Int} {k : Nat} (hk : I[k]? = some id) : findI x id = some k := by
  have hkl := (List.getElem?_eq_some_iff.1 hk).1
  have hl := h.lens.2
  unfold findI
  rw [List.findIdx?_eq_some_iff_getElem]
  have hg : ∀ (j : Nat) (hj : j < x.ps.length), I[j]? = some (x.ps[j].1) := fun j hj => by
    rw [h.im, List.getElem?_map, List.getElem?_eq_getElem hj]
    rfl
  refine ⟨by omega, ?_, fun j hj => ?_⟩
  · have := hg k (by omega)
    rw [hk] at this
    injection this with this
    simp [this]
  · have h1 := hg j (by omega)
    have h2 := List.pairwise_iff_getElem.1 h.up j k (by omega) hkl hj
    rw [List.getElem?_eq_getElem (by omega)] at h1 hk
    injection h1 with h1
    injection hk with hk
    rw [h1, hk] at h2
    simp
    omega
end Go.Proofs.Ytiiollgipfggmaa
