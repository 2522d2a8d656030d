/- Entries and a ledger in memory. -/
import Derived.Test.YtlmoiaeppehiiaaLSl
import Derived.Test.YtlmoiaeppehiiaaApp
namespace Go.Proofs.Ytlmoiaeppehiiaa
set_option linter.unusedVariables false
set_option linter.unusedSimpArgs false
open Go.RowKit

/-- Entries as they lie, and what they read as. -/
def Dat (w : World) (E : List Ec) (L : List En) : Prop :=
  E.length = L.length ∧ ∀ (k : Nat) e x, E[k]? = some e → L[k]? = some x → e.i = x.i ∧ e.t = x.t ∧ By w (.slice e.p e.n e.c) x.d ∧ x.fits
theorem Dat.nil (w : World) : Dat w [] [] := ⟨rfl, by simp⟩
theorem Dat.below {w w' : World} {E : List Ec} {L : List En} (h : Dat w E L) (hb : Below w.heap.size w w') : Dat w' E L :=
  ⟨h.1, fun k e x h1 h2 => by
    obtain ⟨a, b, c, d⟩ := h.2 k e x h1 h2
    exact ⟨a, b, c.below hb, d⟩⟩
theorem Dat.get {w : World} {E : List Ec} {L : List En} (h : Dat w E L) {k : Nat} {x : En} (hx : L[k]? = some x) : ∃ e, E[k]? = some e ∧ e.i = x.i ∧ e.t = x.t ∧ By w (.slice e.p e.n e.c) x.d ∧ x.fits := by
  have hl := (List.getElem?_eq_some_iff.1 hx).1
  have he := List.getElem?_eq_getElem (l := E) (i := k) (by rw [h.1]; exact hl)
  exact ⟨_, he, h.2 k _ x he hx⟩
theorem Dat.push {w : World} {E : List Ec} {L : List En} (h : Dat w E L) {e : Ec} {x : En} (hi : e.i = x.i) (ht : e.t = x.t) (hb : By w (.slice e.p e.n e.c) x.d) (hf : x.fits) : Dat w (E ++ [e]) (L ++ [x]) := by
  refine ⟨by rw [List.length_append, List.length_append, h.1]; rfl, fun k e' x' h1 h2 => ?_⟩
  by_cases hk : k < E.length
  · rw [List.getElem?_append_left hk] at h1
    rw [List.getElem?_append_left (by rw [← h.1]; exact hk)] at h2
    exact h.2 k e' x' h1 h2
  · rw [List.getElem?_append_right (by omega)] at h1
    rw [List.getElem?_append_right (by rw [← h.1]; omega)] at h2
    have h0 : k - E.length = 0 := by
      have := (List.getElem?_eq_some_iff.1 h1).1
      simp at this
      omega
    rw [h0] at h1
    rw [← h.1, h0] at h2
    simp at h1 h2
    subst h1 h2
    exact ⟨hi, ht, hb, hf⟩
theorem Dat.take {w : World} {E : List Ec} {L : List En} (h : Dat w E L) (k : Nat) : Dat w (E.take k) (L.take k) :=
  ⟨by rw [List.length_take, List.length_take, h.1], fun j e x h1 h2 => by
    have hj : j < k := by
      have := (List.getElem?_eq_some_iff.1 h1).1
      rw [List.length_take] at this
      omega
    rw [List.getElem?_take_of_lt hj] at h1 h2
    exact h.2 j e x h1 h2⟩
theorem Dat.drop {w : World} {E : List Ec} {L : List En} (h : Dat w E L) (k : Nat) : Dat w (E.drop k) (L.drop k) :=
  ⟨by rw [List.length_drop, List.length_drop, h.1], fun j e x h1 h2 => by
    rw [List.getElem?_drop] at h1 h2
    exact h.2 _ e x h1 h2⟩
/-- The slice v reads as the entries L. -/
def Ens (w : World) (v : Value) (L : List En) : Prop := ∃ E, Ecs w v E ∧ Dat w E L
theorem Ens.nil (w : World) : Ens w (.slice none 0 0) [] := ⟨[], Ecs.nil w, Dat.nil w⟩
theorem Ens.sl {w : World} {v : Value} {L : List En} (h : Ens w v L) : ∃ p n c, v = .slice p n c := h.elim fun E h => h.1.sl
theorem Ens.len {w : World} {p : Option Addr} {n c : Nat} {L : List En} (h : Ens w (.slice p n c) L) : n = L.length ∧ n ≤ c ∧ c ≤ maxLen := by
  obtain ⟨E, h1, h2⟩ := h
  obtain ⟨a, b, d⟩ := h1.len
  exact ⟨by rw [a, h2.1], b, d⟩
theorem Ens.below {w w' : World} {v : Value} {L : List En} (h : Ens w v L) (hb : Below w.heap.size w w') : Ens w' v L := h.elim fun E h => ⟨E, h.1.below hb, h.2.below hb⟩
theorem Ens.fits {w : World} {v : Value} {L : List En} (h : Ens w v L) : ∀ x ∈ L, x.fits := by
  intro x hx
  obtain ⟨k, hk⟩ := List.mem_iff_getElem?.1 hx
  obtain ⟨E, _, h2⟩ := h
  obtain ⟨e, _, _, _, _, hf⟩ := h2.get hk
  exact hf
/-- One entry of a slice. -/
theorem Ens.at_ {w : World} {p : Option Addr} {n c : Nat} {L : List En} (h : Ens w (.slice p n c) L) {k : Nat} {x : En} (hx : L[k]? = some x) :
    ∃ g o pd nd cd, p = some ⟨g, o, none⟩ ∧ EcAt w g (o + k * 3) ⟨x.i, x.t, pd, nd, cd⟩ ∧ By w (.slice pd nd cd) x.d ∧ nd = x.d.length := by
  obtain ⟨E, h1, h2⟩ := h
  obtain ⟨e, he, hi, ht, hb, hf⟩ := h2.get hx
  have hl := (List.getElem?_eq_some_iff.1 he).1
  obtain ⟨g, o, hp, hat⟩ := h1.at_ (by rw [h1.len.1]; omega)
  have := hat k e he
  obtain ⟨ei, et, ep, en, ec⟩ := e
  dsimp only at hi ht hb
  subst hi ht
  refine ⟨g, o, ep, en, ec, hp, this, hb, ?_⟩
  obtain ⟨q, cap, e1, _⟩ := hb
  injection e1
/-- A ledger at a block. -/
structure LgIs (w : World) (g : Nat) (x : Lg) : Prop where
  c0 : w.cell? ⟨g, 0, none⟩ = some (.int .i64 x.ix)
  c1 : w.cell? ⟨g, 1, none⟩ = some (.int .i64 x.tm)
  c2 : ∃ p n c, w.cell? ⟨g, 2, none⟩ = some (.slice p n c) ∧ Ens w (.slice p n c) x.l
  c3 : w.cell? ⟨g, 3, none⟩ = some (.bool true)
  ok : x.Ok
  few : x.l.length ≤ 1000000
theorem LgIs.below {w w' : World} {g : Nat} {x : Lg} (h : LgIs w g x) (hb : Below w.heap.size w w') : LgIs w' g x := by
  obtain ⟨p, n, c, hc, he⟩ := h.c2
  exact ⟨(hb.cell (lt_of_cell h.c0)).trans h.c0, (hb.cell (lt_of_cell h.c1)).trans h.c1, ⟨p, n, c, (hb.cell (lt_of_cell hc)).trans hc, he.below hb⟩, (hb.cell (lt_of_cell h.c3)).trans h.c3, h.ok, h.few⟩
theorem bel_drewN {B : Nat} {w V : World} (h : Below B w V) (q : Nat) : Below B w (V.drewN q) := ⟨h.os, h.tape, h.output, h.size, h.block⟩
theorem nxt_wrap {x : Int} (h : fits x) : IntKind.i64.wrap (x + 1) = nxt x := by
  unfold fits at h
  unfold nxt
  rw [IntKind.wrap_i64]
  by_cases e : x = 9223372036854775807
  · rw [if_pos e, e]
    rfl
  · rw [if_neg e]
    omega
end Go.Proofs.Ytlmoiaeppehiiaa
