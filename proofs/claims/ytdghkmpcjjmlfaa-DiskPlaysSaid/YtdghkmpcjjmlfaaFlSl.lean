/- Files of the document as they lie, as a slice. -/
import Derived.Test.YtdghkmpcjjmlfaaDMem
import Derived.Maps.AppendAt
import Derived.Laws.OwnMore
namespace Go.Proofs.Ytdghkmpcjjmlfaa
set_option linter.unusedVariables false
set_option linter.unusedSimpArgs false
open Go.RowKit

/-- A file's cells as they lie. -/
structure Fc where
  s : ByteArray
  p : Option Go.Addr
  n : Nat
  c : Nat
def fcC (x : Fc) : List Go.Value := [.string x.s, .slice x.p x.n x.c]
theorem fcC_inj {x y : Fc} (h : fcC x = fcC y) : x = y := by
  obtain ⟨a, b, c, d⟩ := x
  obtain ⟨a', b', c', d'⟩ := y
  simp only [fcC, List.cons.injEq, Go.Value.string.injEq, Go.Value.slice.injEq, true_and, and_true] at h
  obtain ⟨rfl, rfl, rfl, rfl⟩ := h
  rfl
theorem fcC_length (x : Fc) : (fcC x).length = 2 := rfl
theorem fcC_one (x : Fc) : ∀ v ∈ fcC x, v.oneCell' = true := by
  intro v hv
  simp only [fcC, List.mem_cons, List.not_mem_nil, or_false] at hv
  rcases hv with rfl | rfl <;> rfl
theorem fflat_len (l : List Fc) : (l.flatMap fcC).length = l.length * 2 := by
  induction l with
  | nil => rfl
  | cons x r ih => rw [List.flatMap_cons, List.length_append, ih, fcC_length, List.length_cons]; omega
theorem fflat_at : ∀ (l : List Fc) (i k : Nat) {x : Fc}, l[i]? = some x → k < 2 → (l.flatMap fcC)[i * 2 + k]? = (fcC x)[k]?
  | [], i, k, x, h, _ => by simp at h
  | y :: r, 0, k, x, h, hk => by
    simp only [List.getElem?_cons_zero, Option.some.injEq] at h
    subst h
    rw [List.flatMap_cons, Nat.zero_mul, Nat.zero_add, List.getElem?_append_left (by rw [fcC_length]; exact hk)]
  | y :: r, i + 1, k, x, h, hk => by
    rw [List.getElem?_cons_succ] at h
    rw [List.flatMap_cons, List.getElem?_append_right (by rw [fcC_length]; omega), fcC_length, show (i + 1) * 2 + k - 2 = i * 2 + k by omega]
    exact fflat_at r i k h hk

/-- A span's cells at a place. -/
def FcAt (w : World) (g o : Nat) (x : Fc) : Prop := ∀ (k : Nat) u, (fcC x)[k]? = some u → w.cell? ⟨g, o + k, none⟩ = some u
theorem FcAt.c0 {w : World} {g o : Nat} {x : Fc} (h : FcAt w g o x) : w.cell? ⟨g, o, none⟩ = some (.string x.s) := h 0 _ rfl
theorem FcAt.c1 {w : World} {g o : Nat} {x : Fc} (h : FcAt w g o x) : w.cell? ⟨g, o + 1, none⟩ = some (.slice x.p x.n x.c) := h 1 _ rfl
theorem FcAt.lt {w : World} {g o : Nat} {x : Fc} (h : FcAt w g o x) : g < w.heap.size := lt_of_cell h.c0
theorem FcAt.below {w w' : World} {g o : Nat} {x : Fc} (h : FcAt w g o x) (hb : Below w.heap.size w w') : FcAt w' g o x := fun k u hk => (hb.cell (lt_of_cell (h k u hk))).trans (h k u hk)
theorem FcAt.grown {w w' : World} {g o : Nat} {x : Fc} {row : Option Nat} (h : FcAt w g o x) (hg : w.grownBy w' row) (hne : row ≠ some g) : FcAt w' g o x := fun k u hk => hg.cell (h k u hk) fun e => hne e.symm
theorem FcAt.drewN {w : World} {g o : Nat} {x : Fc} (h : FcAt w g o x) (n : Nat) : FcAt (w.drewN n) g o x := h
theorem FcAt.one {w : World} {g o : Nat} {x y : Fc} (h : FcAt w g o x) (h' : FcAt w g o y) : x = y := by
  refine fcC_inj ?_
  apply List.ext_getElem?
  intro k
  by_cases hk : k < 2
  · have q1 := List.getElem?_eq_getElem (l := fcC x) (i := k) (by rw [fcC_length]; exact hk)
    have q2 := List.getElem?_eq_getElem (l := fcC y) (i := k) (by rw [fcC_length]; exact hk)
    have e := (h k _ q1).symm.trans (h' k _ q2)
    injection e with e
    rw [q1, q2, e]
  · rw [List.getElem?_eq_none (by rw [fcC_length]; omega), List.getElem?_eq_none (by rw [fcC_length]; omega)]

/-- The slice v reads as the spans l. -/
def Fcs (w : World) (v : Value) (l : List Fc) : Prop :=
  ∃ (p : Option Addr) (cap : Nat), v = .slice p l.length cap ∧ l.length ≤ cap ∧ cap ≤ maxLen ∧ (p = none → cap = 0) ∧
    (0 < l.length → ∃ g o, p = some ⟨g, o, none⟩ ∧ ∀ (i : Nat) x, l[i]? = some x → FcAt w g (o + i * 2) x)
theorem Fcs.nil (w : World) : Fcs w (.slice none 0 0) [] := ⟨none, 0, rfl, Nat.le_refl _, by simp [maxLen], fun _ => rfl, fun h => absurd h (Nat.lt_irrefl _)⟩
theorem Fcs.none_ (w : World) (p : Option Addr) (c : Nat) (hc : c ≤ maxLen) (hp : p = none → c = 0) : Fcs w (.slice p 0 c) [] := ⟨p, c, rfl, Nat.zero_le _, hc, hp, fun h => absurd h (Nat.lt_irrefl _)⟩
theorem Fcs.sl {w : World} {v : Value} {l : List Fc} (h : Fcs w v l) : ∃ p n c, v = .slice p n c := by
  obtain ⟨p, c, e, _⟩ := h
  exact ⟨p, _, c, e⟩
theorem Fcs.len {w : World} {p : Option Addr} {n c : Nat} {l : List Fc} (h : Fcs w (.slice p n c) l) : n = l.length ∧ n ≤ c ∧ c ≤ maxLen := by
  obtain ⟨p', c', e, hl, hm, _⟩ := h
  injection e with _ e2 e3
  subst e2 e3
  exact ⟨rfl, hl, hm⟩
theorem Fcs.at_ {w : World} {p : Option Addr} {n c : Nat} {l : List Fc} (h : Fcs w (.slice p n c) l) (hn : 0 < n) : ∃ g o, p = some ⟨g, o, none⟩ ∧ ∀ (i : Nat) x, l[i]? = some x → FcAt w g (o + i * 2) x := by
  obtain ⟨p', c', e, _, _, _, hx⟩ := h
  injection e with e1 e2 e3
  subst e1 e2
  exact hx hn
theorem Fcs.below {w w' : World} {v : Value} {l : List Fc} (h : Fcs w v l) (hb : Below w.heap.size w w') : Fcs w' v l := by
  obtain ⟨p, c, rfl, hl, hm, hn, hx⟩ := h
  refine ⟨p, c, rfl, hl, hm, hn, fun h0 => ?_⟩
  obtain ⟨g, o, e, hx⟩ := hx h0
  exact ⟨g, o, e, fun i x hi => (hx i x hi).below hb⟩
theorem Fcs.grown {w w' : World} {v : Value} {l : List Fc} {row : Option Nat} (h : Fcs w v l) (hg : w.grownBy w' row) (hne : l = [] ∨ ∀ k, v.ownBlock = some k → row ≠ some k) : Fcs w' v l := by
  obtain ⟨p, c, rfl, hl, hm, hn, hx⟩ := h
  refine ⟨p, c, rfl, hl, hm, hn, fun h0 => ?_⟩
  obtain ⟨g, o, e, hx⟩ := hx h0
  refine ⟨g, o, e, fun i x hi => (hx i x hi).grown hg ?_⟩
  rcases hne with rfl | hne
  · simp at h0
  · exact hne g (by rw [e]; rfl)
theorem Fcs.drewN {w : World} {v : Value} {l : List Fc} (h : Fcs w v l) (n : Nat) : Fcs (w.drewN n) v l := h
theorem Fcs.one {w : World} {v : Value} {l m : List Fc} (h : Fcs w v l) (h' : Fcs w v m) : l = m := by
  obtain ⟨p, c, rfl, _, _, _, hx⟩ := h
  obtain ⟨p', c', e, _, _, _, hx'⟩ := h'
  injection e with e1 e2 e3
  subst e1
  apply List.ext_getElem? 
  intro i
  by_cases hi : i < l.length
  · have h0 : 0 < l.length := by omega
    obtain ⟨g, o, e, hx⟩ := hx h0
    obtain ⟨g', o', e', hx'⟩ := hx' (by omega)
    rw [e] at e'
    injection e' with e'
    injection e' with e1 e2
    subst e1 e2
    have hi' : i < m.length := by omega
    have q1 := List.getElem?_eq_getElem hi
    have q2 := List.getElem?_eq_getElem hi'
    rw [q1, q2, (hx i _ q1).one (hx' i _ q2)]
  · rw [List.getElem?_eq_none (by omega), List.getElem?_eq_none (by omega)]

/-- The slice v reads as the spans l, in a block of its own from B on; or it is nil. -/
def OwnFc (B : Nat) (w : World) (v : Value) (l : List Fc) : Prop := w.ownsRow B 74 2 v l.length (l.flatMap fcC)
theorem OwnFc.nil (B : Nat) (w : World) : OwnFc B w (.slice none 0 0) [] := World.ownsRow_nil _ _ _ _
theorem OwnFc.fcs {B : Nat} {w : World} {v : Value} {l : List Fc} (h : OwnFc B w v l) : Fcs w v l := by
  obtain ⟨hl, ⟨rfl, h0⟩ | ⟨g, cap, cur, rfl, hB, hh, hc, hm, hs, ht⟩⟩ := h
  · obtain rfl : l = [] := List.eq_nil_of_length_eq_zero h0
    exact Fcs.nil w
  · refine ⟨_, cap, rfl, hc, hm, (fun e => by cases e), fun _ => ⟨g, 0, rfl, fun i x hi k u hk => ?_⟩⟩
    have hk6 : k < 2 := by
      have := (List.getElem?_eq_some_iff.1 hk).1
      rwa [fcC_length] at this
    have hil := (List.getElem?_eq_some_iff.1 hi).1
    have h1 := fflat_at l i k hi hk6
    rw [hk, ← ht, List.getElem?_take_of_lt (by omega), Array.getElem?_toList] at h1
    rw [cell_of_row w g (0 + i * 2 + k) cur _ (0, 0) hh, Nat.zero_add]
    exact h1
theorem OwnFc.lt {B : Nat} {w : World} {v : Value} {l : List Fc} (h : OwnFc B w v l) : ∀ k, v.ownBlock = some k → B ≤ k ∧ k < w.heap.size := World.ownsRow.lt h
theorem OwnFc.below {B : Nat} {w w' : World} {v : Value} {l : List Fc} (h : OwnFc B w v l) (hb : Below w.heap.size w w') : OwnFc B w' v l := World.ownsRow.kept (row := none) h ⟨hb.os, hb.tape, hb.output, hb.size, fun k hk _ => hb.block k hk⟩ (by cases v.ownBlock <;> simp)
theorem OwnFc.mono {B B' : Nat} {w : World} {v : Value} {l : List Fc} (h : OwnFc B w v l) (hB : B' ≤ B) : OwnFc B' w v l := ⟨h.1, h.2.imp id fun ⟨g, cap, cur, e, hb, r⟩ => ⟨g, cap, cur, e, Nat.le_trans hB hb, r⟩⟩
theorem OwnFc.grown {B : Nat} {w w' : World} {v : Value} {l : List Fc} {row : Option Nat} (h : OwnFc B w v l) (hg : w.grownBy w' row) (hne : v.ownBlock = none ∨ v.ownBlock ≠ row) : OwnFc B w' v l := World.ownsRow.kept h hg hne


theorem Try.infoFc : (Try.prog.info? 74).map (fun i => (i.zero, i.size, i.bytes)) = some (some (.agg #[.string ⟨#[]⟩, .slice none 0 0]), 2, 40) := by kernel_rfl

theorem run_pushFc {B : Nat} {w : World} {v : Value} {l : List Fc} (h : OwnFc B w v l) (x : Fc) (hB : B ≤ w.heap.size) (hs : l.length ≤ 1000000) :
    ∃ v' w', (Builtin.append_ #[57, 57] 57 #[v, .slice (some ⟨w.heap.size, 0, none⟩) 1 1]).run Try.prog (w.alloc (.cells #[.string x.s, .slice x.p x.n x.c] 74)) = .ok v' w' ∧ OwnFc B w' v' (l ++ [x]) ∧ Below B w w' ∧ w.grownBy w' v.ownBlock ∧ (v'.ownBlock = v.ownBlock ∨ v'.ownBlock = some (w.heap.size + 1)) := by
  obtain ⟨i0, hi0, hz0, hz1, hz2⟩ := info_parts Try.infoFc
  have ho' := World.ownsRow.alloc h (.cells #[.string x.s, .slice x.p x.n x.c] 74)
  obtain ⟨v', w', hr, h1, h2, _, h4⟩ := run_append_own_at (P := Try.prog) (w.alloc (.cells #[.string x.s, .slice x.p x.n x.c] 74)) B 57 57 74 i0 _ 2 40 Try.underlying57 hi0 hz0 hz1 hz2 rfl (by decide) v l.length (l.flatMap fcC) ho' ⟨w.heap.size, 0, none⟩ 1 1 (fcC x) rfl
    (fun j u hj => by
      rw [add_lit0, Nat.zero_add, cell_of_row _ w.heap.size j _ 74 (0, 0) (heap_alloc_new w _)]
      simpa [fcC] using hj)
    (fcC_one x) (by simp only [maxLen]; omega) (by omega) (by simp; omega)
  have hb0 : Below B w (w.alloc (.cells #[.string x.s, .slice x.p x.n x.c] 74)) := (Below.refl _ _).alloc hB _
  refine ⟨v', w', hr, ?_, hb0.grown h2 (by simp; omega) fun k hk => (World.ownsRow.lt h k hk).1, ?_, ?_⟩
  · have : (l ++ [x]).flatMap fcC = l.flatMap fcC ++ fcC x := by simp
    unfold OwnFc
    rw [this, List.length_append]
    exact h1
  · refine ⟨h2.os, h2.tape, h2.output, ?_, fun k hk hne => ?_⟩
    · have := h2.size
      simp at this
      omega
    · rw [h2.block k (by simp; omega) hne]
      exact heap_alloc_old _ _ hk
  · simpa using h4

theorem fflat_get2 {l : List Fc} {j : Nat} {u : Value} (h : (l.flatMap fcC)[j]? = some u) : ∃ x, l[j / 2]? = some x ∧ (fcC x)[j % 2]? = some u := by
  have hj := (List.getElem?_eq_some_iff.1 h).1
  rw [fflat_len] at hj
  have hx : l[j / 2]? = some (l[j / 2]'(by omega)) := List.getElem?_eq_getElem _
  refine ⟨_, hx, ?_⟩
  rw [← fflat_at l (j / 2) (j % 2) hx (Nat.mod_lt _ (by omega)), show j / 2 * 2 + j % 2 = j by omega]
  exact h

theorem run_pushFc_none {w : World} {v : Value} {l : List Fc} {B : Nat} (hv : OwnFc B w v l) (p : Option Addr) (c : Nat) : (Builtin.append_ #[57, 57] 57 #[v, .slice p 0 c]).run Try.prog w = .ok v w := by
  obtain ⟨i0, hi0, hz0, hz1, hz2⟩ := info_parts Try.infoFc
  obtain ⟨_, ⟨rfl, _⟩ | ⟨g, cap, cur, rfl, _, _, hl, _⟩⟩ := hv
  · cases p <;> simp [Builtin.append_, run_underlying Try.underlying57, Go.sizeOf, typeInfo, hi0, Builtin.lenOf, Builtin.firstCells, loadCells, loadCellsFrom]
  · cases p <;> simp [Builtin.append_, run_underlying Try.underlying57, Go.sizeOf, typeInfo, hi0, Builtin.lenOf, Builtin.firstCells, hl, storeCells, loadCells, loadCellsFrom]

theorem run_pushesFc {B : Nat} {w : World} {v u : Value} {l m : List Fc} (h : OwnFc B w v l) (hu : Fcs w u m) (hB : B ≤ w.heap.size) (hs : (l.length + m.length) * 40 ≤ 140737488355328) :
    ∃ v' w', (Builtin.append_ #[57, 57] 57 #[v, u]).run Try.prog w = .ok v' w' ∧ OwnFc B w' v' (l ++ m) ∧ Below B w w' ∧ w.grownBy w' v.ownBlock := by
  obtain ⟨i0, hi0, hz0, hz1, hz2⟩ := info_parts Try.infoFc
  obtain ⟨p, n, c, rfl⟩ := hu.sl
  have hn := hu.len.1
  by_cases h0 : n = 0
  · subst h0
    obtain rfl : m = [] := List.eq_nil_of_length_eq_zero hn.symm
    exact ⟨v, w, run_pushFc_none h p c, by rw [List.append_nil]; exact h, Below.refl _ _, World.grownBy.refl _ _⟩
  · obtain ⟨g, o, rfl, hx⟩ := hu.at_ (by omega)
    obtain ⟨v', w', hr, h1, h2, _, h4⟩ := run_append_own_at (P := Try.prog) w B 57 57 74 i0 _ 2 40 Try.underlying57 hi0 hz0 hz1 hz2 rfl (by decide) v l.length (l.flatMap fcC) h ⟨g, o, none⟩ n c (m.flatMap fcC) (by rw [fflat_len, hn])
      (fun j u hj => by
        obtain ⟨x, hxj, hk⟩ := fflat_get2 hj
        have := hx (j / 2) x hxj (j % 2) u hk
        rw [show o + j / 2 * 2 + j % 2 = o + j by omega] at this
        rw [add_lit0]
        exact this)
      (fun u hu => by
        obtain ⟨x, _, hx⟩ := List.mem_flatMap.1 hu
        exact fcC_one x u hx) (by simp only [maxLen]; omega) (by omega) hB
    refine ⟨v', w', hr, ?_, (Below.refl _ _).grown h2 hB fun k hk => (World.ownsRow.lt h k hk).1, h2⟩
    unfold OwnFc
    rw [List.flatMap_append, List.length_append, ← hn]
    exact h1
theorem wpList_pushesFc {w : World} {ops : Array Oper} {rest : List Oper} {o : Oper} {a : Act} {Q : Exit → Act → World → Prop} (hgd : o.guard = none) (s t : Operand)
    (ho : o.op = .call { callee := .builtin .append, args := #[s, t], argTypes := #[57, 57] }) (hty : o.type = 57) {B : Nat} {v u : Value} {l m : List Fc}
    (hs : a.eval s = v) (ht : a.eval t = u) (h : OwnFc B w v l) (hu : Fcs w u m) (hB : B ≤ w.heap.size) (hn : (l.length + m.length) * 40 ≤ 140737488355328)
    (hK : ∀ v' w', OwnFc B w' v' (l ++ m) → Below B w w' → w.grownBy w' v.ownBlock → wpList Try.prog ops Q rest (a.put o.dst v') w') : wpList Try.prog ops Q (o :: rest) a w := by
  obtain ⟨v', w', hr, h1, h2, h3⟩ := run_pushesFc h hu hB hn
  exact Lib.wpList_append_run_sl _ hgd s t 57 ho v _ hs ht (by rw [hty]; exact hr) (hK v' w' h1 h2 h3)
theorem wpList_pushFc {w : World} {ops : Array Oper} {rest : List Oper} {o : Oper} {a : Act} {Q : Exit → Act → World → Prop} (hgd : o.guard = none) (s t : Operand)
    (ho : o.op = .call { callee := .builtin .append, args := #[s, t], argTypes := #[57, 57] }) (hty : o.type = 57) {B : Nat} {v : Value} {l : List Fc} (x : Fc) {H : Nat}
    (hs : a.eval s = v) (ht : a.eval t = .slice (some ⟨H, 0, none⟩) 1 1) (hH : H = w.heap.size) (h : OwnFc B w v l) (hB : B ≤ w.heap.size) (hn : l.length ≤ 1000000)
    (hK : ∀ v' w', OwnFc B w' v' (l ++ [x]) → Below B w w' → w.grownBy w' v.ownBlock → wpList Try.prog ops Q rest (a.put o.dst v') w') : wpList Try.prog ops Q (o :: rest) a (w.alloc (.cells #[.string x.s, .slice x.p x.n x.c] 74)) := by
  subst hH
  obtain ⟨v', w', hr, h1, h2, h3, _⟩ := run_pushFc h x hB hn
  exact Lib.wpList_append_run_sl _ hgd s t 57 ho v _ hs ht (by rw [hty]; exact hr) (hK v' w' h1 h2 h3)
end Go.Proofs.Ytdghkmpcjjmlfaa
