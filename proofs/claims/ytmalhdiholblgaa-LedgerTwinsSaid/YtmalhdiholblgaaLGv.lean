/- Entries that the law lays itself: make, and a copy of each. -/
import Derived.Test.YtmalhdiholblgaaLRgO
import Derived.Test.YtmalhdiholblgaaLLight
import Derived.Test.YtmalhdiholblgaaLTells
namespace Go.Proofs.Ytmalhdiholblgaa
set_option linter.unusedVariables false
set_option linter.unusedSimpArgs false
open Go.RowKit

def ec0 : Ec := ⟨0, 0, none, 0, 0⟩
theorem made_flat (n : Nat) : (madeCells (Value.agg #[.int .i64 0, .int .i64 0, .slice none 0 0]).cells (n * 3)).toList = (List.replicate n ec0).flatMap ecC := by
  apply List.ext_getElem?
  intro i
  by_cases hi : i < n * 3
  · have h3 : i % 3 < 3 := Nat.mod_lt _ (by omega)
    have hr := eflat_at (List.replicate n ec0) (i / 3) (i % 3) (x := ec0) (by rw [List.getElem?_replicate, if_pos (by omega)]) h3
    rw [show i / 3 * 3 + i % 3 = i by omega] at hr
    rw [hr]
    simp only [madeCells, Value.cells, Array.getElem?_toList, Array.getElem?_map, Array.getElem?_range, hi, if_true, Option.map_some, ecC, ec0]
    have : i % 3 = 0 ∨ i % 3 = 1 ∨ i % 3 = 2 := by omega
    rcases this with h | h | h <;> (simp [h])
  · rw [List.getElem?_eq_none (by rw [Array.length_toList, size_madeCells]; omega), List.getElem?_eq_none (by rw [eflat_len, List.length_replicate]; omega)]
theorem rowSet {w : World} {B g n cap j : Nat} {T : TypeId} {xs : List Value} {u : Value} (h : w.ownsRow B T 3 (.slice (some ⟨g, 0, none⟩) n cap) n xs) : (w.setCell ⟨g, j, none⟩ u).ownsRow B T 3 (.slice (some ⟨g, 0, none⟩) n cap) n (xs.set j u) := by
  obtain ⟨hl, ⟨h1, _⟩ | ⟨g', cap', cur, e, hB, hh, hc, hm, hs, ht⟩⟩ := h
  · cases h1
  · injection e with e1 e2 e3
    injection e1 with e1
    injection e1 with e1 _ _
    subst e1 e3
    exact ⟨by rw [List.length_set]; exact hl, .inr ⟨g, cap, cur.setIfInBounds j u, rfl, hB, Go.heap_setCell_same w g j cur _ u hh, hc, hm, by rw [Array.size_setIfInBounds]; exact hs, by rw [Array.toList_setIfInBounds, List.take_set, ht]⟩⟩
theorem eflat_set : ∀ (E : List Ec) (k : Nat) (e : Ec), k < E.length → (((E.flatMap ecC).set (k * 3) (.int .i64 e.i)).set (k * 3 + 1) (.int .i64 e.t)).set (k * 3 + 2) (.slice e.p e.n e.c) = (E.set k e).flatMap ecC
  | [], k, e, h => by simp at h
  | x :: r, 0, e, _ => by simp [ecC]
  | x :: r, k + 1, e, h => by
    rw [List.set_cons_succ, List.flatMap_cons, List.flatMap_cons, ← eflat_set r k e (by simpa using h)]
    rw [show (k + 1) * 3 = k * 3 + 1 + 1 + 1 by omega, show k * 3 + 1 + 1 + 1 + 1 = (k * 3 + 1) + 1 + 1 + 1 by omega, show k * 3 + 1 + 1 + 1 + 2 = (k * 3 + 2) + 1 + 1 + 1 by omega]
    simp only [ecC, List.cons_append, List.nil_append, List.set_cons_succ]
theorem eflat_set2 : ∀ (E : List Ec) (k : Nat) {e : Ec} (p : Option Addr) (n c : Nat), E[k]? = some e → (E.flatMap ecC).set (k * 3 + 2) (.slice p n c) = (E.set k ⟨e.i, e.t, p, n, c⟩).flatMap ecC
  | [], k, e, p, n, c, h => by simp at h
  | x :: r, 0, e, p, n, c, h => by
    simp at h
    subst h
    simp [ecC]
  | x :: r, k + 1, e, p, n, c, h => by
    rw [List.set_cons_succ, List.flatMap_cons, List.flatMap_cons, ← eflat_set2 r k p n c (by simpa using h)]
    rw [show (k + 1) * 3 + 2 = (k * 3 + 2) + 1 + 1 + 1 by omega]
    simp only [ecC, List.cons_append, List.nil_append, List.set_cons_succ]
/-- A slice of N entries of one's own, the first k of them those of L. -/
structure Gv (B : Nat) (w : World) (g N : Nat) (E : List Ec) (L : List En) (k : Nat) : Prop where
  own : OwnE B w (.slice (some ⟨g, 0, none⟩) N N) E
  len : E.length = N
  at_ : ∀ (i : Nat) e x, i < k → E[i]? = some e → L[i]? = some x → e.i = x.i ∧ e.t = x.t ∧ Own B w (.slice e.p e.n e.c) x.d ∧ Far e (.slice (some ⟨g, 0, none⟩) N N) ∧ x.fits
theorem Gv.done {B : Nat} {w : World} {g N : Nat} {E : List Ec} {L : List En} (h : Gv B w g N E L N) (hN : L.length = N) : OwnEns B w (.slice (some ⟨g, 0, none⟩) N N) L :=
  ⟨E, h.own, by rw [h.len, hN], fun k e x h1 h2 => h.at_ k e x (by have := (List.getElem?_eq_some_iff.1 h1).1; rw [h.len] at this; exact this) h1 h2⟩
theorem Gv.below {B : Nat} {w w' : World} {g N : Nat} {E : List Ec} {L : List En} {k : Nat} (h : Gv B w g N E L k) (hb : Below w.heap.size w w') : Gv B w' g N E L k := ⟨h.own.below hb, h.len, fun i e x h0 h1 h2 => by
  obtain ⟨a, b, c, d, f⟩ := h.at_ i e x h0 h1 h2
  exact ⟨a, b, c.below hb, d, f⟩⟩
theorem Gv.put {B : Nat} {w : World} {g N : Nat} {E : List Ec} {L : List En} {k : Nat} (h : Gv B w g N E L k) (hk : k < N) (e : Ec) :
    Gv B (((w.setCell ⟨g, k * 3, none⟩ (.int .i64 e.i)).setCell ⟨g, k * 3 + 1, none⟩ (.int .i64 e.t)).setCell ⟨g, k * 3 + 2, none⟩ (.slice e.p e.n e.c)) g N (E.set k e) L k := by
  have hl := h.len
  refine ⟨?_, by rw [List.length_set]; exact hl, fun i e' x h0 h1 h2 => ?_⟩
  · have h1 := h.own
    unfold OwnE at h1 ⊢
    rw [List.length_set, ← eflat_set E k e (by omega)]
    rw [hl] at h1 ⊢
    exact rowSet (rowSet (rowSet h1))
  · rw [List.getElem?_set_ne (by omega)] at h1
    obtain ⟨a, b, c, d, f⟩ := h.at_ i e' x h0 h1 h2
    exact ⟨a, b, c.grown (gtrans (gtrans (grown_set w g _ _) (grown_set _ g _ _)) (grown_set _ g _ _)) d, d, f⟩
theorem Gv.data {B : Nat} {w : World} {g N : Nat} {E : List Ec} {L : List En} {k : Nat} (h : Gv B w g N E L k) {e : Ec} (he : E[k]? = some e) {x : En} (hx : L[k]? = some x) (hi : e.i = x.i) (ht : e.t = x.t) (hf : x.fits) {p : Option Addr} {n c : Nat} (ho : Own B w (.slice p n c) x.d) (hfar : Far ⟨e.i, e.t, p, n, c⟩ (.slice (some ⟨g, 0, none⟩) N N)) :
    Gv B (w.setCell ⟨g, k * 3 + 2, none⟩ (.slice p n c)) g N (E.set k ⟨e.i, e.t, p, n, c⟩) L (k + 1) := by
  have hl := h.len
  have hkl := (List.getElem?_eq_some_iff.1 he).1
  refine ⟨?_, by rw [List.length_set]; exact hl, fun i e' y h0 h1 h2 => ?_⟩
  · have h1 := h.own
    unfold OwnE at h1 ⊢
    rw [List.length_set, ← eflat_set2 E k p n c he]
    rw [hl] at h1 ⊢
    exact rowSet h1
  · by_cases hik : i = k
    · subst hik
      rw [List.getElem?_set_self hkl] at h1
      injection h1 with h1
      rw [hx] at h2
      injection h2 with h2
      subst h1 h2
      exact ⟨hi, ht, ho.grown (grown_set w g _ _) hfar, hfar, hf⟩
    · rw [List.getElem?_set_ne (by omega)] at h1
      obtain ⟨a, b, c, d, f⟩ := h.at_ i e' y (by omega) h1 h2
      exact ⟨a, b, c.grown (grown_set w g _ _) d, d, f⟩
/-- The cells of one that is laid. -/
theorem Gv.cells {B : Nat} {w : World} {g N : Nat} {E : List Ec} {L : List En} {k : Nat} (h : Gv B w g N E L k) {i : Nat} (hi : i < N) : ∃ e, E[i]? = some e ∧ w.cell? ⟨g, i * 3, none⟩ = some (.int .i64 e.i) ∧ w.cell? ⟨g, i * 3 + 1, none⟩ = some (.int .i64 e.t) ∧ w.cell? ⟨g, i * 3 + 2, none⟩ = some (.slice e.p e.n e.c) ∧ ∀ j, w.frozen? ⟨g, j, none⟩ = false := by
  have he := List.getElem?_eq_getElem (l := E) (i := i) (by rw [h.len]; exact hi)
  obtain ⟨g', o', e1, hat⟩ := h.own.ecs.at_ (by omega)
  injection e1 with e1
  injection e1 with e1 e2
  subst e1 e2
  have ha := hat i _ he
  rw [Nat.zero_add] at ha
  exact ⟨_, he, ha.c0, ha.c1, ha.c2, fun j => by
    have ho := h.own
    unfold OwnE at ho
    rw [h.len] at ho
    exact World.ownsRow.frozenAt ho _⟩
theorem nat_le_sum : ∀ (l : List Nat) (x : Nat), x ∈ l → x ≤ l.sum
  | a :: r, x, h => by
    rw [List.sum_cons]
    rcases List.mem_cons.1 h with rfl | h
    · omega
    · have := nat_le_sum r x h
      omega
theorem lightF_data : ∀ {m n : Int} {L : List (List En)}, 0 ≤ m → 0 ≤ n → lightF m n L = true → ∀ l ∈ L, ∀ y ∈ l, y.d.length ≤ 65536
  | m, n, [], _, _, _, l, hl, _, _ => by cases hl
  | m, n, x :: r, h0, h1, h, l, hl, y, hy => by
    unfold lightF at h
    by_cases hc : 200 < m + x.length ∨ 65536 < n + bsum x (min x.length 201)
    · rw [if_pos hc] at h
      cases h
    · rw [if_neg hc] at h
      rcases List.mem_cons.1 hl with rfl | hl
      · have hm : min l.length 201 = l.length := by omega
        rw [hm] at hc
        have h2 : bsum l l.length = (l.map fun e => min e.d.length 65537).sum := by
          unfold bsum
          rw [List.take_of_length_le (Nat.le_refl _)]
        have h3 := nat_le_sum (l.map fun e => min e.d.length 65537) (min y.d.length 65537) (List.mem_map.2 ⟨y, hy, rfl⟩)
        omega
      · exact lightF_data (by omega) (by omega) h l hl y hy
theorem lightL_data {L : List (List En)} (h : lightL L = true) {l : List En} (hl : l ∈ L) {y : En} (hy : y ∈ l) : y.d.length ≤ 65536 := lightF_data (Int.le_refl _) (Int.le_refl _) h l hl y hy
theorem Mut.below {B : Nat} {w w' : World} {ge : Nat} {E : List Ec} (h : Mut B w ge E) (hb : Below w.heap.size w w') : Mut B w' ge E := ⟨h.1, fun k e he => by
  obtain ⟨⟨t9, c0⟩, f0, ⟨t, c1⟩, c2, fr, dt⟩ := h.2 k e he
  have hg : ge < w.heap.size := lt_of_cell c0
  refine ⟨⟨t9, (hb.cell hg).trans c0⟩, (hb.frozen (p := ⟨ge, _, none⟩) hg).trans f0, ⟨t, (hb.cell hg).trans c1⟩, (hb.cell hg).trans c2, (hb.frozen (p := ⟨ge, _, none⟩) hg).trans fr, fun j hj => ?_⟩
  obtain ⟨gb, e1, e2, e3, ⟨y, hy⟩, hf⟩ := dt j hj
  have hgb : gb < w.heap.size := lt_of_cell hy
  exact ⟨gb, e1, e2, e3, ⟨y, (hb.cell hgb).trans hy⟩, (hb.frozen (p := ⟨gb, _, none⟩) hgb).trans hf⟩⟩
theorem Mut.of2 {B : Nat} {w : World} {b n c : Nat} {L : List En} (h : OwnEns B w (.slice (some ⟨b, 0, none⟩) n c) L) (hB : B ≤ b) : ∃ E, E.length = L.length ∧ Mut B w b E ∧ (∀ (k : Nat) e, E[k]? = some e → (e.n : Int) ≤ 9223372036854775807) ∧ ∀ (k : Nat) e gb, E[k]? = some e → e.p = some ⟨gb, 0, none⟩ → 0 < e.n → gb < w.heap.size := by
  rcases Mut.of h with rfl | ⟨ge, ce, E, hv, hl, hm, hn⟩
  · exact ⟨[], rfl, ⟨hB, fun k e he => by simp at he⟩, fun k e he => by simp at he, fun k e gb he => by simp at he⟩
  · injection hv with h1 h2 h3
    injection h1 with h1
    injection h1 with h1 _ _
    subst h1
    refine ⟨E, hl, hm, hn, fun k e gb he hp h0 => ?_⟩
    obtain ⟨gb', e1, _, _, ⟨y, hy⟩, _⟩ := (hm.2 k e he).dt 0 h0
    rw [hp] at e1
    injection e1 with e1
    injection e1 with e1 _ _
    subst e1
    exact lt_of_cell hy
end Go.Proofs.Ytmalhdiholblgaa
