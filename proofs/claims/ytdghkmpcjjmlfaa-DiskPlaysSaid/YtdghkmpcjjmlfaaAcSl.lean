/- Acts of the document as they lie, as a slice. -/
import Derived.Test.YtdghkmpcjjmlfaaDMem
import Derived.Maps.AppendAt
import Derived.Laws.OwnMore
namespace Go.Proofs.Ytdghkmpcjjmlfaa
set_option linter.unusedVariables false
set_option linter.unusedSimpArgs false
open Go.RowKit

/-- An act's cells as they lie. -/
structure Ac where
  k : Int
  s : ByteArray
  t : ByteArray
  a : Int
  p : Option Go.Addr
  n : Nat
  c : Nat
def acC (x : Ac) : List Go.Value := [.int .i64 x.k, .string x.s, .string x.t, .int .i64 x.a, .slice x.p x.n x.c]
theorem acC_inj {x y : Ac} (h : acC x = acC y) : x = y := by
  obtain ⟨a, b, c, d, e, f, g⟩ := x
  obtain ⟨a', b', c', d', e', f', g'⟩ := y
  simp only [acC, List.cons.injEq, Go.Value.int.injEq, Go.Value.string.injEq, Go.Value.slice.injEq, true_and, and_true] at h
  obtain ⟨rfl, rfl, rfl, rfl, rfl, rfl, rfl⟩ := h
  rfl
theorem acC_length (x : Ac) : (acC x).length = 5 := rfl
theorem acC_one (x : Ac) : ∀ v ∈ acC x, v.oneCell' = true := by
  intro v hv
  simp only [acC, List.mem_cons, List.not_mem_nil, or_false] at hv
  rcases hv with rfl | rfl | rfl | rfl | rfl <;> rfl
theorem aflat_len (l : List Ac) : (l.flatMap acC).length = l.length * 5 := by
  induction l with
  | nil => rfl
  | cons x r ih => rw [List.flatMap_cons, List.length_append, ih, acC_length, List.length_cons]; omega
theorem aflat_at : ∀ (l : List Ac) (i k : Nat) {x : Ac}, l[i]? = some x → k < 5 → (l.flatMap acC)[i * 5 + k]? = (acC x)[k]?
  | [], i, k, x, h, _ => by simp at h
  | y :: r, 0, k, x, h, hk => by
    simp only [List.getElem?_cons_zero, Option.some.injEq] at h
    subst h
    rw [List.flatMap_cons, Nat.zero_mul, Nat.zero_add, List.getElem?_append_left (by rw [acC_length]; exact hk)]
  | y :: r, i + 1, k, x, h, hk => by
    rw [List.getElem?_cons_succ] at h
    rw [List.flatMap_cons, List.getElem?_append_right (by rw [acC_length]; omega), acC_length, show (i + 1) * 5 + k - 5 = i * 5 + k by omega]
    exact aflat_at r i k h hk

/-- A span's cells at a place. -/
def AcAt (w : World) (g o : Nat) (x : Ac) : Prop := ∀ (k : Nat) u, (acC x)[k]? = some u → w.cell? ⟨g, o + k, none⟩ = some u
theorem AcAt.c0 {w : World} {g o : Nat} {x : Ac} (h : AcAt w g o x) : w.cell? ⟨g, o, none⟩ = some (.int .i64 x.k) := h 0 _ rfl
theorem AcAt.c1 {w : World} {g o : Nat} {x : Ac} (h : AcAt w g o x) : w.cell? ⟨g, o + 1, none⟩ = some (.string x.s) := h 1 _ rfl
theorem AcAt.c2 {w : World} {g o : Nat} {x : Ac} (h : AcAt w g o x) : w.cell? ⟨g, o + 2, none⟩ = some (.string x.t) := h 2 _ rfl
theorem AcAt.c3 {w : World} {g o : Nat} {x : Ac} (h : AcAt w g o x) : w.cell? ⟨g, o + 3, none⟩ = some (.int .i64 x.a) := h 3 _ rfl
theorem AcAt.c4 {w : World} {g o : Nat} {x : Ac} (h : AcAt w g o x) : w.cell? ⟨g, o + 4, none⟩ = some (.slice x.p x.n x.c) := h 4 _ rfl
theorem AcAt.lt {w : World} {g o : Nat} {x : Ac} (h : AcAt w g o x) : g < w.heap.size := lt_of_cell h.c0
theorem AcAt.below {w w' : World} {g o : Nat} {x : Ac} (h : AcAt w g o x) (hb : Below w.heap.size w w') : AcAt w' g o x := fun k u hk => (hb.cell (lt_of_cell (h k u hk))).trans (h k u hk)
theorem AcAt.grown {w w' : World} {g o : Nat} {x : Ac} {row : Option Nat} (h : AcAt w g o x) (hg : w.grownBy w' row) (hne : row ≠ some g) : AcAt w' g o x := fun k u hk => hg.cell (h k u hk) fun e => hne e.symm
theorem AcAt.drewN {w : World} {g o : Nat} {x : Ac} (h : AcAt w g o x) (n : Nat) : AcAt (w.drewN n) g o x := h
theorem AcAt.one {w : World} {g o : Nat} {x y : Ac} (h : AcAt w g o x) (h' : AcAt w g o y) : x = y := by
  refine acC_inj ?_
  apply List.ext_getElem?
  intro k
  by_cases hk : k < 5
  · have q1 := List.getElem?_eq_getElem (l := acC x) (i := k) (by rw [acC_length]; exact hk)
    have q2 := List.getElem?_eq_getElem (l := acC y) (i := k) (by rw [acC_length]; exact hk)
    have e := (h k _ q1).symm.trans (h' k _ q2)
    injection e with e
    rw [q1, q2, e]
  · rw [List.getElem?_eq_none (by rw [acC_length]; omega), List.getElem?_eq_none (by rw [acC_length]; omega)]

/-- The slice v reads as the spans l. -/
def Acs (w : World) (v : Value) (l : List Ac) : Prop :=
  ∃ (p : Option Addr) (cap : Nat), v = .slice p l.length cap ∧ l.length ≤ cap ∧ cap ≤ maxLen ∧ (p = none → cap = 0) ∧
    (0 < l.length → ∃ g o, p = some ⟨g, o, none⟩ ∧ ∀ (i : Nat) x, l[i]? = some x → AcAt w g (o + i * 5) x)
theorem Acs.nil (w : World) : Acs w (.slice none 0 0) [] := ⟨none, 0, rfl, Nat.le_refl _, by simp [maxLen], fun _ => rfl, fun h => absurd h (Nat.lt_irrefl _)⟩
theorem Acs.none_ (w : World) (p : Option Addr) (c : Nat) (hc : c ≤ maxLen) (hp : p = none → c = 0) : Acs w (.slice p 0 c) [] := ⟨p, c, rfl, Nat.zero_le _, hc, hp, fun h => absurd h (Nat.lt_irrefl _)⟩
theorem Acs.sl {w : World} {v : Value} {l : List Ac} (h : Acs w v l) : ∃ p n c, v = .slice p n c := by
  obtain ⟨p, c, e, _⟩ := h
  exact ⟨p, _, c, e⟩
theorem Acs.len {w : World} {p : Option Addr} {n c : Nat} {l : List Ac} (h : Acs w (.slice p n c) l) : n = l.length ∧ n ≤ c ∧ c ≤ maxLen := by
  obtain ⟨p', c', e, hl, hm, _⟩ := h
  injection e with _ e2 e3
  subst e2 e3
  exact ⟨rfl, hl, hm⟩
theorem Acs.at_ {w : World} {p : Option Addr} {n c : Nat} {l : List Ac} (h : Acs w (.slice p n c) l) (hn : 0 < n) : ∃ g o, p = some ⟨g, o, none⟩ ∧ ∀ (i : Nat) x, l[i]? = some x → AcAt w g (o + i * 5) x := by
  obtain ⟨p', c', e, _, _, _, hx⟩ := h
  injection e with e1 e2 e3
  subst e1 e2
  exact hx hn
theorem Acs.below {w w' : World} {v : Value} {l : List Ac} (h : Acs w v l) (hb : Below w.heap.size w w') : Acs w' v l := by
  obtain ⟨p, c, rfl, hl, hm, hn, hx⟩ := h
  refine ⟨p, c, rfl, hl, hm, hn, fun h0 => ?_⟩
  obtain ⟨g, o, e, hx⟩ := hx h0
  exact ⟨g, o, e, fun i x hi => (hx i x hi).below hb⟩
theorem Acs.grown {w w' : World} {v : Value} {l : List Ac} {row : Option Nat} (h : Acs w v l) (hg : w.grownBy w' row) (hne : l = [] ∨ ∀ k, v.ownBlock = some k → row ≠ some k) : Acs w' v l := by
  obtain ⟨p, c, rfl, hl, hm, hn, hx⟩ := h
  refine ⟨p, c, rfl, hl, hm, hn, fun h0 => ?_⟩
  obtain ⟨g, o, e, hx⟩ := hx h0
  refine ⟨g, o, e, fun i x hi => (hx i x hi).grown hg ?_⟩
  rcases hne with rfl | hne
  · simp at h0
  · exact hne g (by rw [e]; rfl)
theorem Acs.drewN {w : World} {v : Value} {l : List Ac} (h : Acs w v l) (n : Nat) : Acs (w.drewN n) v l := h
theorem Acs.one {w : World} {v : Value} {l m : List Ac} (h : Acs w v l) (h' : Acs w v m) : l = m := by
  obtain ⟨p, c, rfl, _, _, _, hx⟩ := h
  obtain ⟨p', c', e, _, _, _, hx'⟩ := h'
  injection e with e1 e2 e3
  subst e1
  apply List.ext_getElem? 
  intro i
  by_cases hi : i < l.length
  · have h0 : 0 < l.length := by omega
    obtain ⟨g, o, e, hx⟩ := hx h0
    obtain ⟨g', o', e', hx'⟩ := hx' (by omega)
    rw [e] at e'
    injection e' with e'
    injection e' with e1 e2
    subst e1 e2
    have hi' : i < m.length := by omega
    have q1 := List.getElem?_eq_getElem hi
    have q2 := List.getElem?_eq_getElem hi'
    rw [q1, q2, (hx i _ q1).one (hx' i _ q2)]
  · rw [List.getElem?_eq_none (by omega), List.getElem?_eq_none (by omega)]

/-- The slice v reads as the spans l, in a block of its own from B on; or it is nil. -/
def OwnAc (B : Nat) (w : World) (v : Value) (l : List Ac) : Prop := w.ownsRow B 66 5 v l.length (l.flatMap acC)
theorem OwnAc.nil (B : Nat) (w : World) : OwnAc B w (.slice none 0 0) [] := World.ownsRow_nil _ _ _ _
theorem OwnAc.acs {B : Nat} {w : World} {v : Value} {l : List Ac} (h : OwnAc B w v l) : Acs w v l := by
  obtain ⟨hl, ⟨rfl, h0⟩ | ⟨g, cap, cur, rfl, hB, hh, hc, hm, hs, ht⟩⟩ := h
  · obtain rfl : l = [] := List.eq_nil_of_length_eq_zero h0
    exact Acs.nil w
  · refine ⟨_, cap, rfl, hc, hm, (fun e => by cases e), fun _ => ⟨g, 0, rfl, fun i x hi k u hk => ?_⟩⟩
    have hk6 : k < 5 := by
      have := (List.getElem?_eq_some_iff.1 hk).1
      rwa [acC_length] at this
    have hil := (List.getElem?_eq_some_iff.1 hi).1
    have h1 := aflat_at l i k hi hk6
    rw [hk, ← ht, List.getElem?_take_of_lt (by omega), Array.getElem?_toList] at h1
    rw [cell_of_row w g (0 + i * 5 + k) cur _ (0, 0) hh, Nat.zero_add]
    exact h1
theorem OwnAc.lt {B : Nat} {w : World} {v : Value} {l : List Ac} (h : OwnAc B w v l) : ∀ k, v.ownBlock = some k → B ≤ k ∧ k < w.heap.size := World.ownsRow.lt h
theorem OwnAc.below {B : Nat} {w w' : World} {v : Value} {l : List Ac} (h : OwnAc B w v l) (hb : Below w.heap.size w w') : OwnAc B w' v l := World.ownsRow.kept (row := none) h ⟨hb.os, hb.tape, hb.output, hb.size, fun k hk _ => hb.block k hk⟩ (by cases v.ownBlock <;> simp)
theorem OwnAc.mono {B B' : Nat} {w : World} {v : Value} {l : List Ac} (h : OwnAc B w v l) (hB : B' ≤ B) : OwnAc B' w v l := ⟨h.1, h.2.imp id fun ⟨g, cap, cur, e, hb, r⟩ => ⟨g, cap, cur, e, Nat.le_trans hB hb, r⟩⟩
theorem OwnAc.grown {B : Nat} {w w' : World} {v : Value} {l : List Ac} {row : Option Nat} (h : OwnAc B w v l) (hg : w.grownBy w' row) (hne : v.ownBlock = none ∨ v.ownBlock ≠ row) : OwnAc B w' v l := World.ownsRow.kept h hg hne


theorem Try.infoAc : (Try.prog.info? 66).map (fun i => (i.zero, i.size, i.bytes)) = some (some (.agg #[.int .i64 0, .string ⟨#[]⟩, .string ⟨#[]⟩, .int .i64 0, .slice none 0 0]), 5, 72) := by kernel_rfl

theorem run_pushAc {B : Nat} {w : World} {v : Value} {l : List Ac} (h : OwnAc B w v l) (x : Ac) (hB : B ≤ w.heap.size) (hs : l.length ≤ 1000000) :
    ∃ v' w', (Builtin.append_ #[58, 58] 58 #[v, .slice (some ⟨w.heap.size, 0, none⟩) 1 1]).run Try.prog (w.alloc (.cells #[.int .i64 x.k, .string x.s, .string x.t, .int .i64 x.a, .slice x.p x.n x.c] 66)) = .ok v' w' ∧ OwnAc B w' v' (l ++ [x]) ∧ Below B w w' ∧ w.grownBy w' v.ownBlock ∧ (v'.ownBlock = v.ownBlock ∨ v'.ownBlock = some (w.heap.size + 1)) := by
  obtain ⟨i0, hi0, hz0, hz1, hz2⟩ := info_parts Try.infoAc
  have ho' := World.ownsRow.alloc h (.cells #[.int .i64 x.k, .string x.s, .string x.t, .int .i64 x.a, .slice x.p x.n x.c] 66)
  obtain ⟨v', w', hr, h1, h2, _, h4⟩ := run_append_own_at (P := Try.prog) (w.alloc (.cells #[.int .i64 x.k, .string x.s, .string x.t, .int .i64 x.a, .slice x.p x.n x.c] 66)) B 58 58 66 i0 _ 5 72 Try.underlying58 hi0 hz0 hz1 hz2 rfl (by decide) v l.length (l.flatMap acC) ho' ⟨w.heap.size, 0, none⟩ 1 1 (acC x) rfl
    (fun j u hj => by
      rw [add_lit0, Nat.zero_add, cell_of_row _ w.heap.size j _ 66 (0, 0) (heap_alloc_new w _)]
      simpa [acC] using hj)
    (acC_one x) (by simp only [maxLen]; omega) (by omega) (by simp; omega)
  have hb0 : Below B w (w.alloc (.cells #[.int .i64 x.k, .string x.s, .string x.t, .int .i64 x.a, .slice x.p x.n x.c] 66)) := (Below.refl _ _).alloc hB _
  refine ⟨v', w', hr, ?_, hb0.grown h2 (by simp; omega) fun k hk => (World.ownsRow.lt h k hk).1, ?_, ?_⟩
  · have : (l ++ [x]).flatMap acC = l.flatMap acC ++ acC x := by simp
    unfold OwnAc
    rw [this, List.length_append]
    exact h1
  · refine ⟨h2.os, h2.tape, h2.output, ?_, fun k hk hne => ?_⟩
    · have := h2.size
      simp at this
      omega
    · rw [h2.block k (by simp; omega) hne]
      exact heap_alloc_old _ _ hk
  · simpa using h4

theorem aflat_get2 {l : List Ac} {j : Nat} {u : Value} (h : (l.flatMap acC)[j]? = some u) : ∃ x, l[j / 5]? = some x ∧ (acC x)[j % 5]? = some u := by
  have hj := (List.getElem?_eq_some_iff.1 h).1
  rw [aflat_len] at hj
  have hx : l[j / 5]? = some (l[j / 5]'(by omega)) := List.getElem?_eq_getElem _
  refine ⟨_, hx, ?_⟩
  rw [← aflat_at l (j / 5) (j % 5) hx (Nat.mod_lt _ (by omega)), show j / 5 * 5 + j % 5 = j by omega]
  exact h

theorem run_pushAc_none {w : World} {v : Value} {l : List Ac} {B : Nat} (hv : OwnAc B w v l) (p : Option Addr) (c : Nat) : (Builtin.append_ #[58, 58] 58 #[v, .slice p 0 c]).run Try.prog w = .ok v w := by
  obtain ⟨i0, hi0, hz0, hz1, hz2⟩ := info_parts Try.infoAc
  obtain ⟨_, ⟨rfl, _⟩ | ⟨g, cap, cur, rfl, _, _, hl, _⟩⟩ := hv
  · cases p <;> simp [Builtin.append_, run_underlying Try.underlying58, Go.sizeOf, typeInfo, hi0, Builtin.lenOf, Builtin.firstCells, loadCells, loadCellsFrom]
  · cases p <;> simp [Builtin.append_, run_underlying Try.underlying58, Go.sizeOf, typeInfo, hi0, Builtin.lenOf, Builtin.firstCells, hl, storeCells, loadCells, loadCellsFrom]

theorem run_pushesAc {B : Nat} {w : World} {v u : Value} {l m : List Ac} (h : OwnAc B w v l) (hu : Acs w u m) (hB : B ≤ w.heap.size) (hs : (l.length + m.length) * 72 ≤ 140737488355328) :
    ∃ v' w', (Builtin.append_ #[58, 58] 58 #[v, u]).run Try.prog w = .ok v' w' ∧ OwnAc B w' v' (l ++ m) ∧ Below B w w' ∧ w.grownBy w' v.ownBlock := by
  obtain ⟨i0, hi0, hz0, hz1, hz2⟩ := info_parts Try.infoAc
  obtain ⟨p, n, c, rfl⟩ := hu.sl
  have hn := hu.len.1
  by_cases h0 : n = 0
  · subst h0
    obtain rfl : m = [] := List.eq_nil_of_length_eq_zero hn.symm
    exact ⟨v, w, run_pushAc_none h p c, by rw [List.append_nil]; exact h, Below.refl _ _, World.grownBy.refl _ _⟩
  · obtain ⟨g, o, rfl, hx⟩ := hu.at_ (by omega)
    obtain ⟨v', w', hr, h1, h2, _, h4⟩ := run_append_own_at (P := Try.prog) w B 58 58 66 i0 _ 5 72 Try.underlying58 hi0 hz0 hz1 hz2 rfl (by decide) v l.length (l.flatMap acC) h ⟨g, o, none⟩ n c (m.flatMap acC) (by rw [aflat_len, hn])
      (fun j u hj => by
        obtain ⟨x, hxj, hk⟩ := aflat_get2 hj
        have := hx (j / 5) x hxj (j % 5) u hk
        rw [show o + j / 5 * 5 + j % 5 = o + j by omega] at this
        rw [add_lit0]
        exact this)
      (fun u hu => by
        obtain ⟨x, _, hx⟩ := List.mem_flatMap.1 hu
        exact acC_one x u hx) (by simp only [maxLen]; omega) (by omega) hB
    refine ⟨v', w', hr, ?_, (Below.refl _ _).grown h2 hB fun k hk => (World.ownsRow.lt h k hk).1, h2⟩
    unfold OwnAc
    rw [List.flatMap_append, List.length_append, ← hn]
    exact h1
theorem wpList_pushesAc {w : World} {ops : Array Oper} {rest : List Oper} {o : Oper} {a : Act} {Q : Exit → Act → World → Prop} (hgd : o.guard = none) (s t : Operand)
    (ho : o.op = .call { callee := .builtin .append, args := #[s, t], argTypes := #[58, 58] }) (hty : o.type = 58) {B : Nat} {v u : Value} {l m : List Ac}
    (hs : a.eval s = v) (ht : a.eval t = u) (h : OwnAc B w v l) (hu : Acs w u m) (hB : B ≤ w.heap.size) (hn : (l.length + m.length) * 72 ≤ 140737488355328)
    (hK : ∀ v' w', OwnAc B w' v' (l ++ m) → Below B w w' → w.grownBy w' v.ownBlock → wpList Try.prog ops Q rest (a.put o.dst v') w') : wpList Try.prog ops Q (o :: rest) a w := by
  obtain ⟨v', w', hr, h1, h2, h3⟩ := run_pushesAc h hu hB hn
  exact Lib.wpList_append_run_sl _ hgd s t 58 ho v _ hs ht (by rw [hty]; exact hr) (hK v' w' h1 h2 h3)
theorem wpList_pushAc {w : World} {ops : Array Oper} {rest : List Oper} {o : Oper} {a : Act} {Q : Exit → Act → World → Prop} (hgd : o.guard = none) (s t : Operand)
    (ho : o.op = .call { callee := .builtin .append, args := #[s, t], argTypes := #[58, 58] }) (hty : o.type = 58) {B : Nat} {v : Value} {l : List Ac} (x : Ac) {H : Nat}
    (hs : a.eval s = v) (ht : a.eval t = .slice (some ⟨H, 0, none⟩) 1 1) (hH : H = w.heap.size) (h : OwnAc B w v l) (hB : B ≤ w.heap.size) (hn : l.length ≤ 1000000)
    (hK : ∀ v' w', OwnAc B w' v' (l ++ [x]) → Below B w w' → w.grownBy w' v.ownBlock → wpList Try.prog ops Q rest (a.put o.dst v') w') : wpList Try.prog ops Q (o :: rest) a (w.alloc (.cells #[.int .i64 x.k, .string x.s, .string x.t, .int .i64 x.a, .slice x.p x.n x.c] 66)) := by
  subst hH
  obtain ⟨v', w', hr, h1, h2, h3, _⟩ := run_pushAc h x hB hn
  exact Lib.wpList_append_run_sl _ hgd s t 58 ho v _ hs ht (by rw [hty]; exact hr) (hK v' w' h1 h2 h3)
end Go.Proofs.Ytdghkmpcjjmlfaa
