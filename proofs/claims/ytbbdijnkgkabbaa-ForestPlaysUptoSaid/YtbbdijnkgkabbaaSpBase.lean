/- Spans in memory: one as a value, many as a slice. -/
import Derived.Test.YtbbdijnkgkabbaaSpPure
import Derived.Test.YtbbdijnkgkabbaaScan
import Derived.Maps.AppendAt
import Derived.Laws.OwnMore
namespace Go.Proofs.Ytbbdijnkgkabbaa
set_option linter.unusedVariables false
set_option linter.unusedSimpArgs false
open Go.RowKit

/-- A span's cells, and the span as a value. -/
def spC (x : Sp) : List Value := [.int .i64 x.t, .int .i64 x.i, .int .i64 x.p, .int .i64 x.s, .int .i64 x.e, .string x.n]
def spV (x : Sp) : Value := .agg #[.int .i64 x.t, .int .i64 x.i, .int .i64 x.p, .int .i64 x.s, .int .i64 x.e, .string x.n]
theorem spV_eq (x : Sp) : spV x = .agg (spC x).toArray := rfl
theorem spC_length (x : Sp) : (spC x).length = 6 := rfl
theorem spC_one (x : Sp) : ∀ v ∈ spC x, v.oneCell' = true := by
  intro v hv
  simp only [spC, List.mem_cons, List.not_mem_nil, or_false] at hv
  rcases hv with rfl | rfl | rfl | rfl | rfl | rfl <;> rfl
theorem spC_inj {x y : Sp} (h : spC x = spC y) : x = y := by
  obtain ⟨a, b, c, d, e, f⟩ := x
  obtain ⟨a', b', c', d', e', f'⟩ := y
  simp only [spC, List.cons.injEq, Value.int.injEq, Value.string.injEq, true_and, and_true] at h
  obtain ⟨rfl, rfl, rfl, rfl, rfl, rfl⟩ := h
  rfl

theorem flat_len (l : List Sp) : (l.flatMap spC).length = l.length * 6 := by
  induction l with
  | nil => rfl
  | cons x r ih => rw [List.flatMap_cons, List.length_append, ih, spC_length, List.length_cons]; omega
theorem flat_at : ∀ (l : List Sp) (i k : Nat) {x : Sp}, l[i]? = some x → k < 6 → (l.flatMap spC)[i * 6 + k]? = (spC x)[k]?
  | [], i, k, x, h, _ => by simp at h
  | y :: r, 0, k, x, h, hk => by
    simp only [List.getElem?_cons_zero, Option.some.injEq] at h
    subst h
    rw [List.flatMap_cons, Nat.zero_mul, Nat.zero_add, List.getElem?_append_left (by rw [spC_length]; exact hk)]
  | y :: r, i + 1, k, x, h, hk => by
    rw [List.getElem?_cons_succ] at h
    rw [List.flatMap_cons, List.getElem?_append_right (by rw [spC_length]; omega), spC_length, show (i + 1) * 6 + k - 6 = i * 6 + k by omega]
    exact flat_at r i k h hk

/-- A span's cells at a place. -/
def SpAt (w : World) (g o : Nat) (x : Sp) : Prop := ∀ (k : Nat) u, (spC x)[k]? = some u → w.cell? ⟨g, o + k, none⟩ = some u
theorem SpAt.c0 {w : World} {g o : Nat} {x : Sp} (h : SpAt w g o x) : w.cell? ⟨g, o, none⟩ = some (.int .i64 x.t) := h 0 _ rfl
theorem SpAt.c1 {w : World} {g o : Nat} {x : Sp} (h : SpAt w g o x) : w.cell? ⟨g, o + 1, none⟩ = some (.int .i64 x.i) := h 1 _ rfl
theorem SpAt.c2 {w : World} {g o : Nat} {x : Sp} (h : SpAt w g o x) : w.cell? ⟨g, o + 2, none⟩ = some (.int .i64 x.p) := h 2 _ rfl
theorem SpAt.c3 {w : World} {g o : Nat} {x : Sp} (h : SpAt w g o x) : w.cell? ⟨g, o + 3, none⟩ = some (.int .i64 x.s) := h 3 _ rfl
theorem SpAt.c4 {w : World} {g o : Nat} {x : Sp} (h : SpAt w g o x) : w.cell? ⟨g, o + 4, none⟩ = some (.int .i64 x.e) := h 4 _ rfl
theorem SpAt.c5 {w : World} {g o : Nat} {x : Sp} (h : SpAt w g o x) : w.cell? ⟨g, o + 5, none⟩ = some (.string x.n) := h 5 _ rfl
theorem SpAt.lt {w : World} {g o : Nat} {x : Sp} (h : SpAt w g o x) : g < w.heap.size := lt_of_cell h.c0
theorem SpAt.below {w w' : World} {g o : Nat} {x : Sp} (h : SpAt w g o x) (hb : Below w.heap.size w w') : SpAt w' g o x := fun k u hk => (hb.cell (lt_of_cell (h k u hk))).trans (h k u hk)
theorem SpAt.grown {w w' : World} {g o : Nat} {x : Sp} {row : Option Nat} (h : SpAt w g o x) (hg : w.grownBy w' row) (hne : row ≠ some g) : SpAt w' g o x := fun k u hk => hg.cell (h k u hk) fun e => hne e.symm
theorem SpAt.drewN {w : World} {g o : Nat} {x : Sp} (h : SpAt w g o x) (n : Nat) : SpAt (w.drewN n) g o x := h
theorem SpAt.one {w : World} {g o : Nat} {x y : Sp} (h : SpAt w g o x) (h' : SpAt w g o y) : x = y := by
  obtain ⟨a, b, c, d, e, f⟩ := x
  obtain ⟨a', b', c', d', e', f'⟩ := y
  have q0 := h.c0.symm.trans h'.c0
  have q1 := h.c1.symm.trans h'.c1
  have q2 := h.c2.symm.trans h'.c2
  have q3 := h.c3.symm.trans h'.c3
  have q4 := h.c4.symm.trans h'.c4
  have q5 := h.c5.symm.trans h'.c5
  simp only [Option.some.injEq, Value.int.injEq, Value.string.injEq, true_and] at q0 q1 q2 q3 q4 q5
  subst q0 q1 q2 q3 q4 q5
  rfl

/-- The slice v reads as the spans l. -/
def Sps (w : World) (v : Value) (l : List Sp) : Prop :=
  ∃ (p : Option Addr) (cap : Nat), v = .slice p l.length cap ∧ l.length ≤ cap ∧ cap ≤ maxLen ∧ (p = none → cap = 0) ∧
    (0 < l.length → ∃ g o, p = some ⟨g, o, none⟩ ∧ ∀ (i : Nat) x, l[i]? = some x → SpAt w g (o + i * 6) x)
theorem Sps.nil (w : World) : Sps w (.slice none 0 0) [] := ⟨none, 0, rfl, Nat.le_refl _, by simp [maxLen], fun _ => rfl, fun h => absurd h (Nat.lt_irrefl _)⟩
theorem Sps.none_ (w : World) (p : Option Addr) (c : Nat) (hc : c ≤ maxLen) (hp : p = none → c = 0) : Sps w (.slice p 0 c) [] := ⟨p, c, rfl, Nat.zero_le _, hc, hp, fun h => absurd h (Nat.lt_irrefl _)⟩
theorem Sps.sl {w : World} {v : Value} {l : List Sp} (h : Sps w v l) : ∃ p n c, v = .slice p n c := by
  obtain ⟨p, c, e, _⟩ := h
  exact ⟨p, _, c, e⟩
theorem Sps.len {w : World} {p : Option Addr} {n c : Nat} {l : List Sp} (h : Sps w (.slice p n c) l) : n = l.length ∧ n ≤ c ∧ c ≤ maxLen := by
  obtain ⟨p', c', e, hl, hm, _⟩ := h
  injection e with _ e2 e3
  subst e2 e3
  exact ⟨rfl, hl, hm⟩
theorem Sps.at_ {w : World} {p : Option Addr} {n c : Nat} {l : List Sp} (h : Sps w (.slice p n c) l) (hn : 0 < n) : ∃ g o, p = some ⟨g, o, none⟩ ∧ ∀ (i : Nat) x, l[i]? = some x → SpAt w g (o + i * 6) x := by
  obtain ⟨p', c', e, _, _, _, hx⟩ := h
  injection e with e1 e2 e3
  subst e1 e2
  exact hx hn
theorem Sps.below {w w' : World} {v : Value} {l : List Sp} (h : Sps w v l) (hb : Below w.heap.size w w') : Sps w' v l := by
  obtain ⟨p, c, rfl, hl, hm, hn, hx⟩ := h
  refine ⟨p, c, rfl, hl, hm, hn, fun h0 => ?_⟩
  obtain ⟨g, o, e, hx⟩ := hx h0
  exact ⟨g, o, e, fun i x hi => (hx i x hi).below hb⟩
theorem Sps.grown {w w' : World} {v : Value} {l : List Sp} {row : Option Nat} (h : Sps w v l) (hg : w.grownBy w' row) (hne : l = [] ∨ ∀ k, v.ownBlock = some k → row ≠ some k) : Sps w' v l := by
  obtain ⟨p, c, rfl, hl, hm, hn, hx⟩ := h
  refine ⟨p, c, rfl, hl, hm, hn, fun h0 => ?_⟩
  obtain ⟨g, o, e, hx⟩ := hx h0
  refine ⟨g, o, e, fun i x hi => (hx i x hi).grown hg ?_⟩
  rcases hne with rfl | hne
  · simp at h0
  · exact hne g (by rw [e]; rfl)
theorem Sps.drewN {w : World} {v : Value} {l : List Sp} (h : Sps w v l) (n : Nat) : Sps (w.drewN n) v l := h
theorem Sps.one {w : World} {v : Value} {l m : List Sp} (h : Sps w v l) (h' : Sps w v m) : l = m := by
  obtain ⟨p, c, rfl, _, _, _, hx⟩ := h
  obtain ⟨p', c', e, _, _, _, hx'⟩ := h'
  injection e with e1 e2 e3
  subst e1
  apply List.ext_getElem? 
  intro i
  by_cases hi : i < l.length
  · have h0 : 0 < l.length := by omega
    obtain ⟨g, o, e, hx⟩ := hx h0
    obtain ⟨g', o', e', hx'⟩ := hx' (by omega)
    rw [e] at e'
    injection e' with e'
    injection e' with e1 e2
    subst e1 e2
    have hi' : i < m.length := by omega
    have q1 := List.getElem?_eq_getElem hi
    have q2 := List.getElem?_eq_getElem hi'
    rw [q1, q2, (hx i _ q1).one (hx' i _ q2)]
  · rw [List.getElem?_eq_none (by omega), List.getElem?_eq_none (by omega)]

/-- The slice v reads as the spans l, in a block of its own from B on; or it is nil. -/
def OwnS (B : Nat) (w : World) (v : Value) (l : List Sp) : Prop := w.ownsRow B 33 6 v l.length (l.flatMap spC)
theorem OwnS.nil (B : Nat) (w : World) : OwnS B w (.slice none 0 0) [] := World.ownsRow_nil _ _ _ _
theorem OwnS.sps {B : Nat} {w : World} {v : Value} {l : List Sp} (h : OwnS B w v l) : Sps w v l := by
  obtain ⟨hl, ⟨rfl, h0⟩ | ⟨g, cap, cur, rfl, hB, hh, hc, hm, hs, ht⟩⟩ := h
  · obtain rfl : l = [] := List.eq_nil_of_length_eq_zero h0
    exact Sps.nil w
  · refine ⟨_, cap, rfl, hc, hm, (fun e => by cases e), fun _ => ⟨g, 0, rfl, fun i x hi k u hk => ?_⟩⟩
    have hk6 : k < 6 := by
      have := (List.getElem?_eq_some_iff.1 hk).1
      rwa [spC_length] at this
    have hil := (List.getElem?_eq_some_iff.1 hi).1
    have h1 := flat_at l i k hi hk6
    rw [hk, ← ht, List.getElem?_take_of_lt (by omega), Array.getElem?_toList] at h1
    rw [cell_of_row w g (0 + i * 6 + k) cur _ (0, 0) hh, Nat.zero_add]
    exact h1
theorem OwnS.lt {B : Nat} {w : World} {v : Value} {l : List Sp} (h : OwnS B w v l) : ∀ k, v.ownBlock = some k → B ≤ k ∧ k < w.heap.size := World.ownsRow.lt h
theorem OwnS.below {B : Nat} {w w' : World} {v : Value} {l : List Sp} (h : OwnS B w v l) (hb : Below w.heap.size w w') : OwnS B w' v l := World.ownsRow.kept (row := none) h ⟨hb.os, hb.tape, hb.output, hb.size, fun k hk _ => hb.block k hk⟩ (by cases v.ownBlock <;> simp)
theorem OwnS.mono {B B' : Nat} {w : World} {v : Value} {l : List Sp} (h : OwnS B w v l) (hB : B' ≤ B) : OwnS B' w v l := ⟨h.1, h.2.imp id fun ⟨g, cap, cur, e, hb, r⟩ => ⟨g, cap, cur, e, Nat.le_trans hB hb, r⟩⟩
theorem OwnS.grown {B : Nat} {w w' : World} {v : Value} {l : List Sp} {row : Option Nat} (h : OwnS B w v l) (hg : w.grownBy w' row) (hne : v.ownBlock = none ∨ v.ownBlock ≠ row) : OwnS B w' v l := World.ownsRow.kept h hg hne
end Go.Proofs.Ytbbdijnkgkabbaa
