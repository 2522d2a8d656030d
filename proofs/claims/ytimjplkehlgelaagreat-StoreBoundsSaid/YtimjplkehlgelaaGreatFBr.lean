/- Branches in memory: many as a slice; one more behind others. -/
import Derived.Test.YtimjplkehlgelaaGreatFUnder
import Derived.Test.YtimjplkehlgelaaGreatSp1
namespace Go.Proofs.YtimjplkehlgelaaGreat
set_option linter.unusedVariables false
set_option linter.unusedSimpArgs false
open Go.RowKit

/-- A branch's cells. -/
def brC (x : Br) : List Value := [.int .i64 x.d, .bool x.o, .int .i64 x.s.t, .int .i64 x.s.i, .int .i64 x.s.p, .int .i64 x.s.s, .int .i64 x.s.e, .string x.s.n]
theorem brC_length (x : Br) : (brC x).length = 8 := rfl
theorem brC_one (x : Br) : ∀ v ∈ brC x, v.oneCell' = true := by
  intro v hv
  simp only [brC, List.mem_cons, List.not_mem_nil, or_false] at hv
  rcases hv with rfl | rfl | rfl | rfl | rfl | rfl | rfl | rfl <;> rfl
theorem bflat_len (l : List Br) : (l.flatMap brC).length = l.length * 8 := by
  induction l with
  | nil => rfl
  | cons x r ih => rw [List.flatMap_cons, List.length_append, ih, brC_length, List.length_cons]; omega
theorem bflat_at : ∀ (l : List Br) (i k : Nat) {x : Br}, l[i]? = some x → k < 8 → (l.flatMap brC)[i * 8 + k]? = (brC x)[k]?
  | [], i, k, x, h, _ => by simp at h
  | y :: r, 0, k, x, h, hk => by
    simp only [List.getElem?_cons_zero, Option.some.injEq] at h
    subst h
    rw [List.flatMap_cons, Nat.zero_mul, Nat.zero_add, List.getElem?_append_left (by rw [brC_length]; exact hk)]
  | y :: r, i + 1, k, x, h, hk => by
    rw [List.getElem?_cons_succ] at h
    rw [List.flatMap_cons, List.getElem?_append_right (by rw [brC_length]; omega), brC_length, show (i + 1) * 8 + k - 8 = i * 8 + k by omega]
    exact bflat_at r i k h hk

/-- A span's cells at a place. -/
def BrAt (w : World) (g o : Nat) (x : Br) : Prop := ∀ (k : Nat) u, (brC x)[k]? = some u → w.cell? ⟨g, o + k, none⟩ = some u
theorem BrAt.c0 {w : World} {g o : Nat} {x : Br} (h : BrAt w g o x) : w.cell? ⟨g, o, none⟩ = some (.int .i64 x.d) := h 0 _ rfl
theorem BrAt.c1 {w : World} {g o : Nat} {x : Br} (h : BrAt w g o x) : w.cell? ⟨g, o + 1, none⟩ = some (.bool x.o) := h 1 _ rfl
theorem BrAt.c2 {w : World} {g o : Nat} {x : Br} (h : BrAt w g o x) : w.cell? ⟨g, o + 2, none⟩ = some (.int .i64 x.s.t) := h 2 _ rfl
theorem BrAt.c3 {w : World} {g o : Nat} {x : Br} (h : BrAt w g o x) : w.cell? ⟨g, o + 3, none⟩ = some (.int .i64 x.s.i) := h 3 _ rfl
theorem BrAt.c4 {w : World} {g o : Nat} {x : Br} (h : BrAt w g o x) : w.cell? ⟨g, o + 4, none⟩ = some (.int .i64 x.s.p) := h 4 _ rfl
theorem BrAt.c5 {w : World} {g o : Nat} {x : Br} (h : BrAt w g o x) : w.cell? ⟨g, o + 5, none⟩ = some (.int .i64 x.s.s) := h 5 _ rfl
theorem BrAt.c6 {w : World} {g o : Nat} {x : Br} (h : BrAt w g o x) : w.cell? ⟨g, o + 6, none⟩ = some (.int .i64 x.s.e) := h 6 _ rfl
theorem BrAt.c7 {w : World} {g o : Nat} {x : Br} (h : BrAt w g o x) : w.cell? ⟨g, o + 7, none⟩ = some (.string x.s.n) := h 7 _ rfl
theorem BrAt.lt {w : World} {g o : Nat} {x : Br} (h : BrAt w g o x) : g < w.heap.size := lt_of_cell h.c0
theorem BrAt.below {w w' : World} {g o : Nat} {x : Br} (h : BrAt w g o x) (hb : Below w.heap.size w w') : BrAt w' g o x := fun k u hk => (hb.cell (lt_of_cell (h k u hk))).trans (h k u hk)
theorem BrAt.grown {w w' : World} {g o : Nat} {x : Br} {row : Option Nat} (h : BrAt w g o x) (hg : w.grownBy w' row) (hne : row ≠ some g) : BrAt w' g o x := fun k u hk => hg.cell (h k u hk) fun e => hne e.symm
theorem BrAt.drewN {w : World} {g o : Nat} {x : Br} (h : BrAt w g o x) (n : Nat) : BrAt (w.drewN n) g o x := h
theorem BrAt.one {w : World} {g o : Nat} {x y : Br} (h : BrAt w g o x) (h' : BrAt w g o y) : x = y := by
  obtain ⟨dd, oo, a, b, c, d, e, f⟩ := x
  obtain ⟨dd', oo', a', b', c', d', e', f'⟩ := y
  have q0 := h.c0.symm.trans h'.c0
  have q1 := h.c1.symm.trans h'.c1
  have q2 := h.c2.symm.trans h'.c2
  have q3 := h.c3.symm.trans h'.c3
  have q4 := h.c4.symm.trans h'.c4
  have q5 := h.c5.symm.trans h'.c5
  have q6 := h.c6.symm.trans h'.c6
  have q7 := h.c7.symm.trans h'.c7
  simp only [Option.some.injEq, Value.int.injEq, Value.string.injEq, Value.bool.injEq, true_and] at q0 q1 q2 q3 q4 q5 q6 q7
  subst q0 q1 q2 q3 q4 q5 q6 q7
  rfl

/-- The slice v reads as the spans l. -/
def Brs (w : World) (v : Value) (l : List Br) : Prop :=
  ∃ (p : Option Addr) (cap : Nat), v = .slice p l.length cap ∧ l.length ≤ cap ∧ cap ≤ maxLen ∧ (p = none → cap = 0) ∧
    (0 < l.length → ∃ g o, p = some ⟨g, o, none⟩ ∧ ∀ (i : Nat) x, l[i]? = some x → BrAt w g (o + i * 8) x)
theorem Brs.nil (w : World) : Brs w (.slice none 0 0) [] := ⟨none, 0, rfl, Nat.le_refl _, by simp [maxLen], fun _ => rfl, fun h => absurd h (Nat.lt_irrefl _)⟩
theorem Brs.none_ (w : World) (p : Option Addr) (c : Nat) (hc : c ≤ maxLen) (hp : p = none → c = 0) : Brs w (.slice p 0 c) [] := ⟨p, c, rfl, Nat.zero_le _, hc, hp, fun h => absurd h (Nat.lt_irrefl _)⟩
theorem Brs.sl {w : World} {v : Value} {l : List Br} (h : Brs w v l) : ∃ p n c, v = .slice p n c := by
  obtain ⟨p, c, e, _⟩ := h
  exact ⟨p, _, c, e⟩
theorem Brs.len {w : World} {p : Option Addr} {n c : Nat} {l : List Br} (h : Brs w (.slice p n c) l) : n = l.length ∧ n ≤ c ∧ c ≤ maxLen := by
  obtain ⟨p', c', e, hl, hm, _⟩ := h
  injection e with _ e2 e3
  subst e2 e3
  exact ⟨rfl, hl, hm⟩
theorem Brs.at_ {w : World} {p : Option Addr} {n c : Nat} {l : List Br} (h : Brs w (.slice p n c) l) (hn : 0 < n) : ∃ g o, p = some ⟨g, o, none⟩ ∧ ∀ (i : Nat) x, l[i]? = some x → BrAt w g (o + i * 8) x := by
  obtain ⟨p', c', e, _, _, _, hx⟩ := h
  injection e with e1 e2 e3
  subst e1 e2
  exact hx hn
theorem Brs.below {w w' : World} {v : Value} {l : List Br} (h : Brs w v l) (hb : Below w.heap.size w w') : Brs w' v l := by
  obtain ⟨p, c, rfl, hl, hm, hn, hx⟩ := h
  refine ⟨p, c, rfl, hl, hm, hn, fun h0 => ?_⟩
  obtain ⟨g, o, e, hx⟩ := hx h0
  exact ⟨g, o, e, fun i x hi => (hx i x hi).below hb⟩
theorem Brs.grown {w w' : World} {v : Value} {l : List Br} {row : Option Nat} (h : Brs w v l) (hg : w.grownBy w' row) (hne : l = [] ∨ ∀ k, v.ownBlock = some k → row ≠ some k) : Brs w' v l := by
  obtain ⟨p, c, rfl, hl, hm, hn, hx⟩ := h
  refine ⟨p, c, rfl, hl, hm, hn, fun h0 => ?_⟩
  obtain ⟨g, o, e, hx⟩ := hx h0
  refine ⟨g, o, e, fun i x hi => (hx i x hi).grown hg ?_⟩
  rcases hne with rfl | hne
  · simp at h0
  · exact hne g (by rw [e]; rfl)
theorem Brs.drewN {w : World} {v : Value} {l : List Br} (h : Brs w v l) (n : Nat) : Brs (w.drewN n) v l := h
theorem Brs.one {w : World} {v : Value} {l m : List Br} (h : Brs w v l) (h' : Brs w v m) : l = m := by
  obtain ⟨p, c, rfl, _, _, _, hx⟩ := h
  obtain ⟨p', c', e, _, _, _, hx'⟩ := h'
  injection e with e1 e2 e3
  subst e1
  apply List.ext_getElem? 
  intro i
  by_cases hi : i < l.length
  · have h0 : 0 < l.length := by omega
    obtain ⟨g, o, e, hx⟩ := hx h0
    obtain ⟨g', o', e', hx'⟩ := hx' (by omega)
    rw [e] at e'
    injection e' with e'
    injection e' with e1 e2
    subst e1 e2
    have hi' : i < m.length := by omega
    have q1 := List.getElem?_eq_getElem hi
    have q2 := List.getElem?_eq_getElem hi'
    rw [q1, q2, (hx i _ q1).one (hx' i _ q2)]
  · rw [List.getElem?_eq_none (by omega), List.getElem?_eq_none (by omega)]

/-- The slice v reads as the spans l, in a block of its own from B on; or it is nil. -/
def OwnB (B : Nat) (w : World) (v : Value) (l : List Br) : Prop := w.ownsRow B 67 8 v l.length (l.flatMap brC)
theorem OwnB.nil (B : Nat) (w : World) : OwnB B w (.slice none 0 0) [] := World.ownsRow_nil _ _ _ _
theorem OwnB.brs {B : Nat} {w : World} {v : Value} {l : List Br} (h : OwnB B w v l) : Brs w v l := by
  obtain ⟨hl, ⟨rfl, h0⟩ | ⟨g, cap, cur, rfl, hB, hh, hc, hm, hs, ht⟩⟩ := h
  · obtain rfl : l = [] := List.eq_nil_of_length_eq_zero h0
    exact Brs.nil w
  · refine ⟨_, cap, rfl, hc, hm, (fun e => by cases e), fun _ => ⟨g, 0, rfl, fun i x hi k u hk => ?_⟩⟩
    have hk6 : k < 8 := by
      have := (List.getElem?_eq_some_iff.1 hk).1
      rwa [brC_length] at this
    have hil := (List.getElem?_eq_some_iff.1 hi).1
    have h1 := bflat_at l i k hi hk6
    rw [hk, ← ht, List.getElem?_take_of_lt (by omega), Array.getElem?_toList] at h1
    rw [cell_of_row w g (0 + i * 8 + k) cur _ (0, 0) hh, Nat.zero_add]
    exact h1
theorem OwnB.lt {B : Nat} {w : World} {v : Value} {l : List Br} (h : OwnB B w v l) : ∀ k, v.ownBlock = some k → B ≤ k ∧ k < w.heap.size := World.ownsRow.lt h
theorem OwnB.below {B : Nat} {w w' : World} {v : Value} {l : List Br} (h : OwnB B w v l) (hb : Below w.heap.size w w') : OwnB B w' v l := World.ownsRow.kept (row := none) h ⟨hb.os, hb.tape, hb.output, hb.size, fun k hk _ => hb.block k hk⟩ (by cases v.ownBlock <;> simp)
theorem OwnB.mono {B B' : Nat} {w : World} {v : Value} {l : List Br} (h : OwnB B w v l) (hB : B' ≤ B) : OwnB B' w v l := ⟨h.1, h.2.imp id fun ⟨g, cap, cur, e, hb, r⟩ => ⟨g, cap, cur, e, Nat.le_trans hB hb, r⟩⟩
theorem OwnB.grown {B : Nat} {w w' : World} {v : Value} {l : List Br} {row : Option Nat} (h : OwnB B w v l) (hg : w.grownBy w' row) (hne : v.ownBlock = none ∨ v.ownBlock ≠ row) : OwnB B w' v l := World.ownsRow.kept h hg hne


theorem Tryz.infoBr : (Tryz.prog.info? 67).map (fun i => (i.zero, i.size, i.bytes)) = some (some (.agg #[.int .i64 0, .bool false, .int .i64 0, .int .i64 0, .int .i64 0, .int .i64 0, .int .i64 0, .string ⟨#[]⟩]), 8, 72) := by kernel_rfl

theorem run_pushB {B : Nat} {w : World} {v : Value} {l : List Br} (h : OwnB B w v l) (x : Br) (hB : B ≤ w.heap.size) (hs : l.length ≤ 1000000) :
    ∃ v' w', (Builtin.append_ #[59, 59] 59 #[v, .slice (some ⟨w.heap.size, 0, none⟩) 1 1]).run Tryz.prog (w.alloc (.cells #[.int .i64 x.d, .bool x.o, .int .i64 x.s.t, .int .i64 x.s.i, .int .i64 x.s.p, .int .i64 x.s.s, .int .i64 x.s.e, .string x.s.n] 67)) = .ok v' w' ∧ OwnB B w' v' (l ++ [x]) ∧ Below B w w' ∧ w.grownBy w' v.ownBlock ∧ (v'.ownBlock = v.ownBlock ∨ v'.ownBlock = some (w.heap.size + 1)) := by
  obtain ⟨i0, hi0, hz0, hz1, hz2⟩ := info_parts Tryz.infoBr
  have ho' := World.ownsRow.alloc h (.cells #[.int .i64 x.d, .bool x.o, .int .i64 x.s.t, .int .i64 x.s.i, .int .i64 x.s.p, .int .i64 x.s.s, .int .i64 x.s.e, .string x.s.n] 67)
  obtain ⟨v', w', hr, h1, h2, _, h4⟩ := run_append_own_at (P := Tryz.prog) (w.alloc (.cells #[.int .i64 x.d, .bool x.o, .int .i64 x.s.t, .int .i64 x.s.i, .int .i64 x.s.p, .int .i64 x.s.s, .int .i64 x.s.e, .string x.s.n] 67)) B 59 59 67 i0 _ 8 72 Tryz.underlying59 hi0 hz0 hz1 hz2 rfl (by decide) v l.length (l.flatMap brC) ho' ⟨w.heap.size, 0, none⟩ 1 1 (brC x) rfl
    (fun j u hj => by
      rw [add_lit0, Nat.zero_add, cell_of_row _ w.heap.size j _ 67 (0, 0) (heap_alloc_new w _)]
      simpa [brC] using hj)
    (brC_one x) (by simp only [maxLen]; omega) (by omega) (by simp; omega)
  have hb0 : Below B w (w.alloc (.cells #[.int .i64 x.d, .bool x.o, .int .i64 x.s.t, .int .i64 x.s.i, .int .i64 x.s.p, .int .i64 x.s.s, .int .i64 x.s.e, .string x.s.n] 67)) := (Below.refl _ _).alloc hB _
  refine ⟨v', w', hr, ?_, hb0.grown h2 (by simp; omega) fun k hk => (World.ownsRow.lt h k hk).1, ?_, ?_⟩
  · have : (l ++ [x]).flatMap brC = l.flatMap brC ++ brC x := by simp
    unfold OwnB
    rw [this, List.length_append]
    exact h1
  · refine ⟨h2.os, h2.tape, h2.output, ?_, fun k hk hne => ?_⟩
    · have := h2.size
      simp at this
      omega
    · rw [h2.block k (by simp; omega) hne]
      exact heap_alloc_old _ _ hk
  · simpa using h4

theorem bflat_get2 {l : List Br} {j : Nat} {u : Value} (h : (l.flatMap brC)[j]? = some u) : ∃ x, l[j / 8]? = some x ∧ (brC x)[j % 8]? = some u := by
  have hj := (List.getElem?_eq_some_iff.1 h).1
  rw [bflat_len] at hj
  have hx : l[j / 8]? = some (l[j / 8]'(by omega)) := List.getElem?_eq_getElem _
  refine ⟨_, hx, ?_⟩
  rw [← bflat_at l (j / 8) (j % 8) hx (Nat.mod_lt _ (by omega)), show j / 8 * 8 + j % 8 = j by omega]
  exact h

theorem run_pushB_none {w : World} {v : Value} {l : List Br} {B : Nat} (hv : OwnB B w v l) (p : Option Addr) (c : Nat) : (Builtin.append_ #[59, 59] 59 #[v, .slice p 0 c]).run Tryz.prog w = .ok v w := by
  obtain ⟨i0, hi0, hz0, hz1, hz2⟩ := info_parts Tryz.infoBr
  obtain ⟨_, ⟨rfl, _⟩ | ⟨g, cap, cur, rfl, _, _, hl, _⟩⟩ := hv
  · cases p <;> simp [Builtin.append_, run_underlying Tryz.underlying59, Go.sizeOf, typeInfo, hi0, Builtin.lenOf, Builtin.firstCells, loadCells, loadCellsFrom]
  · cases p <;> simp [Builtin.append_, run_underlying Tryz.underlying59, Go.sizeOf, typeInfo, hi0, Builtin.lenOf, Builtin.firstCells, hl, storeCells, loadCells, loadCellsFrom]

theorem run_pushesB {B : Nat} {w : World} {v u : Value} {l m : List Br} (h : OwnB B w v l) (hu : Brs w u m) (hB : B ≤ w.heap.size) (hs : (l.length + m.length) * 72 ≤ 140737488355328) :
    ∃ v' w', (Builtin.append_ #[59, 59] 59 #[v, u]).run Tryz.prog w = .ok v' w' ∧ OwnB B w' v' (l ++ m) ∧ Below B w w' ∧ w.grownBy w' v.ownBlock := by
  obtain ⟨i0, hi0, hz0, hz1, hz2⟩ := info_parts Tryz.infoBr
  obtain ⟨p, n, c, rfl⟩ := hu.sl
  have hn := hu.len.1
  by_cases h0 : n = 0
  · subst h0
    obtain rfl : m = [] := List.eq_nil_of_length_eq_zero hn.symm
    exact ⟨v, w, run_pushB_none h p c, by rw [List.append_nil]; exact h, Below.refl _ _, World.grownBy.refl _ _⟩
  · obtain ⟨g, o, rfl, hx⟩ := hu.at_ (by omega)
    obtain ⟨v', w', hr, h1, h2, _, h4⟩ := run_append_own_at (P := Tryz.prog) w B 59 59 67 i0 _ 8 72 Tryz.underlying59 hi0 hz0 hz1 hz2 rfl (by decide) v l.length (l.flatMap brC) h ⟨g, o, none⟩ n c (m.flatMap brC) (by rw [bflat_len, hn])
      (fun j u hj => by
        obtain ⟨x, hxj, hk⟩ := bflat_get2 hj
        have := hx (j / 8) x hxj (j % 8) u hk
        rw [show o + j / 8 * 8 + j % 8 = o + j by omega] at this
        rw [add_lit0]
        exact this)
      (fun u hu => by
        obtain ⟨x, _, hx⟩ := List.mem_flatMap.1 hu
        exact brC_one x u hx) (by simp only [maxLen]; omega) (by omega) hB
    refine ⟨v', w', hr, ?_, (Below.refl _ _).grown h2 hB fun k hk => (World.ownsRow.lt h k hk).1, h2⟩
    unfold OwnB
    rw [List.flatMap_append, List.length_append, ← hn]
    exact h1
theorem wpList_pushesB {w : World} {ops : Array Oper} {rest : List Oper} {o : Oper} {a : Act} {Q : Exit → Act → World → Prop} (hgd : o.guard = none) (s t : Operand)
    (ho : o.op = .call { callee := .builtin .append, args := #[s, t], argTypes := #[59, 59] }) (hty : o.type = 59) {B : Nat} {v u : Value} {l m : List Br}
    (hs : a.eval s = v) (ht : a.eval t = u) (h : OwnB B w v l) (hu : Brs w u m) (hB : B ≤ w.heap.size) (hn : (l.length + m.length) * 72 ≤ 140737488355328)
    (hK : ∀ v' w', OwnB B w' v' (l ++ m) → Below B w w' → w.grownBy w' v.ownBlock → wpList Tryz.prog ops Q rest (a.put o.dst v') w') : wpList Tryz.prog ops Q (o :: rest) a w := by
  obtain ⟨v', w', hr, h1, h2, h3⟩ := run_pushesB h hu hB hn
  exact Lib.wpList_append_run_sl _ hgd s t 59 ho v _ hs ht (by rw [hty]; exact hr) (hK v' w' h1 h2 h3)
end Go.Proofs.YtimjplkehlgelaaGreat
