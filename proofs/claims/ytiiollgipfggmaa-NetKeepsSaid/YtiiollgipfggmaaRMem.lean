/- Numbers in memory: a slice that reads as a list. -/
import Derived.Test.YtiiollgipfggmaaRPure
import Derived.Test.YtiiollgipfggmaaBase
import Derived.Test.YtiiollgipfggmaaChg
import Derived.Laws.OwnMore
import Derived.Maps.AppendAt
namespace Go.Proofs.Ytiiollgipfggmaa
set_option linter.unusedVariables false
set_option linter.unusedSimpArgs false
open Go.RowKit

/-- A number that fits. -/
def fits (x : Int) : Prop := -9223372036854775808 ≤ x ∧ x ≤ 9223372036854775807
/-- The slice v reads as the numbers l. -/
def Ns (w : World) (v : Value) (l : List Int) : Prop :=
  ∃ (p : Option Addr) (c : Nat), v = .slice p l.length c ∧ l.length ≤ c ∧ c ≤ maxLen ∧ (p = none → c = 0) ∧ (∀ x ∈ l, fits x) ∧
    (0 < l.length → ∃ g o, p = some ⟨g, o, none⟩ ∧ ∀ (i : Nat) x, l[i]? = some x → w.cell? ⟨g, o + i, none⟩ = some (.int .i64 x))
theorem Ns.nil (w : World) : Ns w (.slice none 0 0) [] := ⟨none, 0, rfl, Nat.le_refl _, by simp [maxLen], fun _ => rfl, by simp, fun h => absurd h (Nat.lt_irrefl _)⟩
theorem Ns.sl {w : World} {v : Value} {l : List Int} (h : Ns w v l) : ∃ p n c, v = .slice p n c := by
  obtain ⟨p, c, e, _⟩ := h
  exact ⟨p, _, c, e⟩
theorem Ns.len {w : World} {p : Option Addr} {n c : Nat} {l : List Int} (h : Ns w (.slice p n c) l) : n = l.length ∧ n ≤ c ∧ c ≤ maxLen := by
  obtain ⟨p', c', e, hl, hm, _⟩ := h
  injection e with _ e2 e3
  subst e2 e3
  exact ⟨rfl, hl, hm⟩
theorem Ns.at_ {w : World} {p : Option Addr} {n c : Nat} {l : List Int} (h : Ns w (.slice p n c) l) (hn : 0 < n) : ∃ g o, p = some ⟨g, o, none⟩ ∧ ∀ (i : Nat) x, l[i]? = some x → w.cell? ⟨g, o + i, none⟩ = some (.int .i64 x) := by
  obtain ⟨p', c', e, _, _, _, _, hx⟩ := h
  injection e with e1 e2 e3
  subst e1 e2
  exact hx hn
theorem Ns.fits {w : World} {v : Value} {l : List Int} (h : Ns w v l) : ∀ x ∈ l, fits x := by
  obtain ⟨_, _, _, _, _, _, hf, _⟩ := h
  exact hf
theorem Ns.below {w w' : World} {v : Value} {l : List Int} (h : Ns w v l) (hb : Below w.heap.size w w') : Ns w' v l := by
  obtain ⟨p, c, rfl, hl, hm, hn, hf, hx⟩ := h
  refine ⟨p, c, rfl, hl, hm, hn, hf, fun h0 => ?_⟩
  obtain ⟨g, o, e, hx⟩ := hx h0
  exact ⟨g, o, e, fun i x hi => (hb.cell (lt_of_cell (hx i x hi))).trans (hx i x hi)⟩
theorem Ns.drewN {w : World} {v : Value} {l : List Int} (h : Ns w v l) (n : Nat) : Ns (w.drewN n) v l := h
theorem Ns.grown {w w' : World} {v : Value} {l : List Int} {row : Option Nat} (h : Ns w v l) (hg : w.grownBy w' row) (hne : l = [] ∨ ∀ k, v.ownBlock = some k → row ≠ some k) : Ns w' v l := by
  obtain ⟨p, c, rfl, hl, hm, hn, hf, hx⟩ := h
  refine ⟨p, c, rfl, hl, hm, hn, hf, fun h0 => ?_⟩
  obtain ⟨g, o, e, hx⟩ := hx h0
  refine ⟨g, o, e, fun i x hi => hg.cell (hx i x hi) ?_⟩
  rcases hne with rfl | hne
  · simp at h0
  · intro e'
    exact hne g (by rw [e]; rfl) e'.symm

/-- The slice v reads as the numbers l, in a block of its own from B on; or it is nil. -/
def OwnN (B : Nat) (w : World) (v : Value) (l : List Int) : Prop := w.ownsRow B 3 1 v l.length (l.map (Value.int .i64)) ∧ ∀ x ∈ l, Go.Proofs.Ytiiollgipfggmaa.fits x
theorem OwnN.nil (B : Nat) (w : World) : OwnN B w (.slice none 0 0) [] := ⟨World.ownsRow_nil _ _ _ _, by simp⟩
theorem OwnN.ns {B : Nat} {w : World} {v : Value} {l : List Int} (h : OwnN B w v l) : Ns w v l := by
  obtain ⟨⟨hl, ⟨rfl, h0⟩ | ⟨g, cap, cur, rfl, hB, hh, hc, hm, hs, ht⟩⟩, hf⟩ := h
  · obtain rfl : l = [] := List.eq_nil_of_length_eq_zero h0
    exact Ns.nil w
  · refine ⟨_, cap, rfl, hc, hm, (fun e => by cases e), hf, fun _ => ⟨g, 0, rfl, fun i x hi => ?_⟩⟩
    have hil := (List.getElem?_eq_some_iff.1 hi).1
    have h1 : (l.map (Value.int .i64))[i]? = some (.int .i64 x) := by rw [List.getElem?_map, hi]; rfl
    rw [← ht, List.getElem?_take_of_lt (by omega), Array.getElem?_toList] at h1
    rw [Nat.zero_add, cell_of_row w g i cur _ (0, 0) hh]
    exact h1
theorem OwnN.lt {B : Nat} {w : World} {v : Value} {l : List Int} (h : OwnN B w v l) : ∀ k, v.ownBlock = some k → B ≤ k ∧ k < w.heap.size := World.ownsRow.lt h.1
theorem OwnN.below {B : Nat} {w w' : World} {v : Value} {l : List Int} (h : OwnN B w v l) (hb : Below w.heap.size w w') : OwnN B w' v l := ⟨World.ownsRow.kept (row := none) h.1 ⟨hb.os, hb.tape, hb.output, hb.size, fun k hk _ => hb.block k hk⟩ (by cases v.ownBlock <;> simp), h.2⟩
theorem OwnN.mono {B B' : Nat} {w : World} {v : Value} {l : List Int} (h : OwnN B w v l) (hB : B' ≤ B) : OwnN B' w v l := ⟨⟨h.1.1, h.1.2.imp id fun ⟨g, cap, cur, e, hb, r⟩ => ⟨g, cap, cur, e, Nat.le_trans hB hb, r⟩⟩, h.2⟩
theorem OwnN.grown {B : Nat} {w w' : World} {v : Value} {l : List Int} {row : Option Nat} (h : OwnN B w v l) (hg : w.grownBy w' row) (hne : v.ownBlock = none ∨ v.ownBlock ≠ row) : OwnN B w' v l := ⟨World.ownsRow.kept h.1 hg hne, h.2⟩
end Go.Proofs.Ytiiollgipfggmaa
