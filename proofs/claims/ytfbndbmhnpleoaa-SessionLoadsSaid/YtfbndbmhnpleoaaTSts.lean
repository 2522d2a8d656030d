/- Sessions as a slice. -/
import Derived.Test.YtfbndbmhnpleoaaTMem
import Derived.Maps.AppendAt
import Derived.Laws.OwnMore
namespace Go.Proofs.Ytfbndbmhnpleoaa
set_option linter.unusedVariables false
set_option linter.unusedSimpArgs false
open Go.RowKit

theorem sflat_len (l : List St) : (l.flatMap stC).length = l.length * 11 := by
  induction l with
  | nil => rfl
  | cons x r ih => rw [List.flatMap_cons, List.length_append, ih, stC_length, List.length_cons]; omega
theorem sflat_at : ∀ (l : List St) (i k : Nat) {x : St}, l[i]? = some x → k < 11 → (l.flatMap stC)[i * 11 + k]? = (stC x)[k]?
  | [], i, k, x, h, _ => by simp at h
  | y :: r, 0, k, x, h, hk => by
    simp only [List.getElem?_cons_zero, Option.some.injEq] at h
    subst h
    rw [List.flatMap_cons, Nat.zero_mul, Nat.zero_add, List.getElem?_append_left (by rw [stC_length]; exact hk)]
  | y :: r, i + 1, k, x, h, hk => by
    rw [List.getElem?_cons_succ] at h
    rw [List.flatMap_cons, List.getElem?_append_right (by rw [stC_length]; omega), stC_length, show (i + 1) * 11 + k - 11 = i * 11 + k by omega]
    exact sflat_at r i k h hk

/-- A span's cells at a place. -/
def StAt (w : World) (g o : Nat) (x : St) : Prop := ∀ (k : Nat) u, (stC x)[k]? = some u → w.cell? ⟨g, o + k, none⟩ = some u
theorem StAt.c0 {w : World} {g o : Nat} {x : St} (h : StAt w g o x) : w.cell? ⟨g, o, none⟩ = some (.int .i64 x.s) := h 0 _ rfl
theorem StAt.c1 {w : World} {g o : Nat} {x : St} (h : StAt w g o x) : w.cell? ⟨g, o + 1, none⟩ = some (.int .i64 x.q) := h 1 _ rfl
theorem StAt.c2 {w : World} {g o : Nat} {x : St} (h : StAt w g o x) : w.cell? ⟨g, o + 2, none⟩ = some (.int .i64 x.a) := h 2 _ rfl
theorem StAt.c3 {w : World} {g o : Nat} {x : St} (h : StAt w g o x) : w.cell? ⟨g, o + 3, none⟩ = some (.int .i64 x.r.er) := h 3 _ rfl
theorem StAt.c4 {w : World} {g o : Nat} {x : St} (h : StAt w g o x) : w.cell? ⟨g, o + 4, none⟩ = some (.int .i64 x.r.rs) := h 4 _ rfl
theorem StAt.c5 {w : World} {g o : Nat} {x : St} (h : StAt w g o x) : w.cell? ⟨g, o + 5, none⟩ = some (.int .i64 x.r.gn) := h 5 _ rfl
theorem StAt.c6 {w : World} {g o : Nat} {x : St} (h : StAt w g o x) : w.cell? ⟨g, o + 6, none⟩ = some (.int .i64 x.r.ad) := h 6 _ rfl
theorem StAt.c7 {w : World} {g o : Nat} {x : St} (h : StAt w g o x) : w.cell? ⟨g, o + 7, none⟩ = some (.int .i64 x.r.sa) := h 7 _ rfl
theorem StAt.c8 {w : World} {g o : Nat} {x : St} (h : StAt w g o x) : w.cell? ⟨g, o + 8, none⟩ = some (.int .i64 x.r.ot) := h 8 _ rfl
theorem StAt.c9 {w : World} {g o : Nat} {x : St} (h : StAt w g o x) : w.cell? ⟨g, o + 9, none⟩ = some (.int .i64 x.r.cy) := h 9 _ rfl
theorem StAt.c10 {w : World} {g o : Nat} {x : St} (h : StAt w g o x) : w.cell? ⟨g, o + 10, none⟩ = some (.int .i64 x.r.fu) := h 10 _ rfl
theorem StAt.lt {w : World} {g o : Nat} {x : St} (h : StAt w g o x) : g < w.heap.size := lt_of_cell h.c0
theorem StAt.below {w w' : World} {g o : Nat} {x : St} (h : StAt w g o x) (hb : Below w.heap.size w w') : StAt w' g o x := fun k u hk => (hb.cell (lt_of_cell (h k u hk))).trans (h k u hk)
theorem StAt.grown {w w' : World} {g o : Nat} {x : St} {row : Option Nat} (h : StAt w g o x) (hg : w.grownBy w' row) (hne : row ≠ some g) : StAt w' g o x := fun k u hk => hg.cell (h k u hk) fun e => hne e.symm
theorem StAt.drewN {w : World} {g o : Nat} {x : St} (h : StAt w g o x) (n : Nat) : StAt (w.drewN n) g o x := h
theorem StAt.one {w : World} {g o : Nat} {x y : St} (h : StAt w g o x) (h' : StAt w g o y) : x = y := by
  refine stC_inj ?_
  apply List.ext_getElem?
  intro k
  by_cases hk : k < 11
  · have q1 := List.getElem?_eq_getElem (l := stC x) (i := k) (by rw [stC_length]; exact hk)
    have q2 := List.getElem?_eq_getElem (l := stC y) (i := k) (by rw [stC_length]; exact hk)
    have e := (h k _ q1).symm.trans (h' k _ q2)
    injection e with e
    rw [q1, q2, e]
  · rw [List.getElem?_eq_none (by rw [stC_length]; omega), List.getElem?_eq_none (by rw [stC_length]; omega)]

/-- The slice v reads as the spans l. -/
def Sts (w : World) (v : Value) (l : List St) : Prop :=
  ∃ (p : Option Addr) (cap : Nat), v = .slice p l.length cap ∧ l.length ≤ cap ∧ cap ≤ maxLen ∧ (p = none → cap = 0) ∧
    (0 < l.length → ∃ g o, p = some ⟨g, o, none⟩ ∧ ∀ (i : Nat) x, l[i]? = some x → StAt w g (o + i * 11) x)
theorem Sts.nil (w : World) : Sts w (.slice none 0 0) [] := ⟨none, 0, rfl, Nat.le_refl _, by simp [maxLen], fun _ => rfl, fun h => absurd h (Nat.lt_irrefl _)⟩
theorem Sts.none_ (w : World) (p : Option Addr) (c : Nat) (hc : c ≤ maxLen) (hp : p = none → c = 0) : Sts w (.slice p 0 c) [] := ⟨p, c, rfl, Nat.zero_le _, hc, hp, fun h => absurd h (Nat.lt_irrefl _)⟩
theorem Sts.sl {w : World} {v : Value} {l : List St} (h : Sts w v l) : ∃ p n c, v = .slice p n c := by
  obtain ⟨p, c, e, _⟩ := h
  exact ⟨p, _, c, e⟩
theorem Sts.len {w : World} {p : Option Addr} {n c : Nat} {l : List St} (h : Sts w (.slice p n c) l) : n = l.length ∧ n ≤ c ∧ c ≤ maxLen := by
  obtain ⟨p', c', e, hl, hm, _⟩ := h
  injection e with _ e2 e3
  subst e2 e3
  exact ⟨rfl, hl, hm⟩
theorem Sts.at_ {w : World} {p : Option Addr} {n c : Nat} {l : List St} (h : Sts w (.slice p n c) l) (hn : 0 < n) : ∃ g o, p = some ⟨g, o, none⟩ ∧ ∀ (i : Nat) x, l[i]? = some x → StAt w g (o + i * 11) x := by
  obtain ⟨p', c', e, _, _, _, hx⟩ := h
  injection e with e1 e2 e3
  subst e1 e2
  exact hx hn
theorem Sts.below {w w' : World} {v : Value} {l : List St} (h : Sts w v l) (hb : Below w.heap.size w w') : Sts w' v l := by
  obtain ⟨p, c, rfl, hl, hm, hn, hx⟩ := h
  refine ⟨p, c, rfl, hl, hm, hn, fun h0 => ?_⟩
  obtain ⟨g, o, e, hx⟩ := hx h0
  exact ⟨g, o, e, fun i x hi => (hx i x hi).below hb⟩
theorem Sts.grown {w w' : World} {v : Value} {l : List St} {row : Option Nat} (h : Sts w v l) (hg : w.grownBy w' row) (hne : l = [] ∨ ∀ k, v.ownBlock = some k → row ≠ some k) : Sts w' v l := by
  obtain ⟨p, c, rfl, hl, hm, hn, hx⟩ := h
  refine ⟨p, c, rfl, hl, hm, hn, fun h0 => ?_⟩
  obtain ⟨g, o, e, hx⟩ := hx h0
  refine ⟨g, o, e, fun i x hi => (hx i x hi).grown hg ?_⟩
  rcases hne with rfl | hne
  · simp at h0
  · exact hne g (by rw [e]; rfl)
theorem Sts.drewN {w : World} {v : Value} {l : List St} (h : Sts w v l) (n : Nat) : Sts (w.drewN n) v l := h
theorem Sts.one {w : World} {v : Value} {l m : List St} (h : Sts w v l) (h' : Sts w v m) : l = m := by
  obtain ⟨p, c, rfl, _, _, _, hx⟩ := h
  obtain ⟨p', c', e, _, _, _, hx'⟩ := h'
  injection e with e1 e2 e3
  subst e1
  apply List.ext_getElem? 
  intro i
  by_cases hi : i < l.length
  · have h0 : 0 < l.length := by omega
    obtain ⟨g, o, e, hx⟩ := hx h0
    obtain ⟨g', o', e', hx'⟩ := hx' (by omega)
    rw [e] at e'
    injection e' with e'
    injection e' with e1 e2
    subst e1 e2
    have hi' : i < m.length := by omega
    have q1 := List.getElem?_eq_getElem hi
    have q2 := List.getElem?_eq_getElem hi'
    rw [q1, q2, (hx i _ q1).one (hx' i _ q2)]
  · rw [List.getElem?_eq_none (by omega), List.getElem?_eq_none (by omega)]

/-- The slice v reads as the spans l, in a block of its own from B on; or it is nil. -/
def OwnT (B : Nat) (w : World) (v : Value) (l : List St) : Prop := w.ownsRow B 51 11 v l.length (l.flatMap stC)
theorem OwnT.nil (B : Nat) (w : World) : OwnT B w (.slice none 0 0) [] := World.ownsRow_nil _ _ _ _
theorem OwnT.sts {B : Nat} {w : World} {v : Value} {l : List St} (h : OwnT B w v l) : Sts w v l := by
  obtain ⟨hl, ⟨rfl, h0⟩ | ⟨g, cap, cur, rfl, hB, hh, hc, hm, hs, ht⟩⟩ := h
  · obtain rfl : l = [] := List.eq_nil_of_length_eq_zero h0
    exact Sts.nil w
  · refine ⟨_, cap, rfl, hc, hm, (fun e => by cases e), fun _ => ⟨g, 0, rfl, fun i x hi k u hk => ?_⟩⟩
    have hk6 : k < 11 := by
      have := (List.getElem?_eq_some_iff.1 hk).1
      rwa [stC_length] at this
    have hil := (List.getElem?_eq_some_iff.1 hi).1
    have h1 := sflat_at l i k hi hk6
    rw [hk, ← ht, List.getElem?_take_of_lt (by omega), Array.getElem?_toList] at h1
    rw [cell_of_row w g (0 + i * 11 + k) cur _ (0, 0) hh, Nat.zero_add]
    exact h1
theorem OwnT.lt {B : Nat} {w : World} {v : Value} {l : List St} (h : OwnT B w v l) : ∀ k, v.ownBlock = some k → B ≤ k ∧ k < w.heap.size := World.ownsRow.lt h
theorem OwnT.below {B : Nat} {w w' : World} {v : Value} {l : List St} (h : OwnT B w v l) (hb : Below w.heap.size w w') : OwnT B w' v l := World.ownsRow.kept (row := none) h ⟨hb.os, hb.tape, hb.output, hb.size, fun k hk _ => hb.block k hk⟩ (by cases v.ownBlock <;> simp)
theorem OwnT.mono {B B' : Nat} {w : World} {v : Value} {l : List St} (h : OwnT B w v l) (hB : B' ≤ B) : OwnT B' w v l := ⟨h.1, h.2.imp id fun ⟨g, cap, cur, e, hb, r⟩ => ⟨g, cap, cur, e, Nat.le_trans hB hb, r⟩⟩
theorem OwnT.grown {B : Nat} {w w' : World} {v : Value} {l : List St} {row : Option Nat} (h : OwnT B w v l) (hg : w.grownBy w' row) (hne : v.ownBlock = none ∨ v.ownBlock ≠ row) : OwnT B w' v l := World.ownsRow.kept h hg hne


theorem Try.infoSt : (Try.prog.info? 51).map (fun i => (i.zero, i.size, i.bytes)) = some (some (.agg #[.int .i64 0, .int .i64 0, .int .i64 0, .int .i64 0, .int .i64 0, .int .i64 0, .int .i64 0, .int .i64 0, .int .i64 0, .int .i64 0, .int .i64 0]), 11, 88) := by kernel_rfl

theorem run_pushT {B : Nat} {w : World} {v : Value} {l : List St} (h : OwnT B w v l) (x : St) (hB : B ≤ w.heap.size) (hs : l.length ≤ 1000000) :
    ∃ v' w', (Builtin.append_ #[45, 45] 45 #[v, .slice (some ⟨w.heap.size, 0, none⟩) 1 1]).run Try.prog (w.alloc (.cells #[.int .i64 x.s, .int .i64 x.q, .int .i64 x.a, .int .i64 x.r.er, .int .i64 x.r.rs, .int .i64 x.r.gn, .int .i64 x.r.ad, .int .i64 x.r.sa, .int .i64 x.r.ot, .int .i64 x.r.cy, .int .i64 x.r.fu] 51)) = .ok v' w' ∧ OwnT B w' v' (l ++ [x]) ∧ Below B w w' ∧ w.grownBy w' v.ownBlock ∧ (v'.ownBlock = v.ownBlock ∨ v'.ownBlock = some (w.heap.size + 1)) := by
  obtain ⟨i0, hi0, hz0, hz1, hz2⟩ := info_parts Try.infoSt
  have ho' := World.ownsRow.alloc h (.cells #[.int .i64 x.s, .int .i64 x.q, .int .i64 x.a, .int .i64 x.r.er, .int .i64 x.r.rs, .int .i64 x.r.gn, .int .i64 x.r.ad, .int .i64 x.r.sa, .int .i64 x.r.ot, .int .i64 x.r.cy, .int .i64 x.r.fu] 51)
  obtain ⟨v', w', hr, h1, h2, _, h4⟩ := run_append_own_at (P := Try.prog) (w.alloc (.cells #[.int .i64 x.s, .int .i64 x.q, .int .i64 x.a, .int .i64 x.r.er, .int .i64 x.r.rs, .int .i64 x.r.gn, .int .i64 x.r.ad, .int .i64 x.r.sa, .int .i64 x.r.ot, .int .i64 x.r.cy, .int .i64 x.r.fu] 51)) B 45 45 51 i0 _ 11 88 Try.underlying45 hi0 hz0 hz1 hz2 rfl (by decide) v l.length (l.flatMap stC) ho' ⟨w.heap.size, 0, none⟩ 1 1 (stC x) rfl
    (fun j u hj => by
      rw [add_lit0, Nat.zero_add, cell_of_row _ w.heap.size j _ 51 (0, 0) (heap_alloc_new w _)]
      simpa [stC] using hj)
    (stC_one x) (by simp only [maxLen]; omega) (by omega) (by simp; omega)
  have hb0 : Below B w (w.alloc (.cells #[.int .i64 x.s, .int .i64 x.q, .int .i64 x.a, .int .i64 x.r.er, .int .i64 x.r.rs, .int .i64 x.r.gn, .int .i64 x.r.ad, .int .i64 x.r.sa, .int .i64 x.r.ot, .int .i64 x.r.cy, .int .i64 x.r.fu] 51)) := (Below.refl _ _).alloc hB _
  refine ⟨v', w', hr, ?_, hb0.grown h2 (by simp; omega) fun k hk => (World.ownsRow.lt h k hk).1, ?_, ?_⟩
  · have : (l ++ [x]).flatMap stC = l.flatMap stC ++ stC x := by simp
    unfold OwnT
    rw [this, List.length_append]
    exact h1
  · refine ⟨h2.os, h2.tape, h2.output, ?_, fun k hk hne => ?_⟩
    · have := h2.size
      simp at this
      omega
    · rw [h2.block k (by simp; omega) hne]
      exact heap_alloc_old _ _ hk
  · simpa using h4

theorem sflat_get2 {l : List St} {j : Nat} {u : Value} (h : (l.flatMap stC)[j]? = some u) : ∃ x, l[j / 11]? = some x ∧ (stC x)[j % 11]? = some u := by
  have hj := (List.getElem?_eq_some_iff.1 h).1
  rw [sflat_len] at hj
  have hx : l[j / 11]? = some (l[j / 11]'(by omega)) := List.getElem?_eq_getElem _
  refine ⟨_, hx, ?_⟩
  rw [← sflat_at l (j / 11) (j % 11) hx (Nat.mod_lt _ (by omega)), show j / 11 * 11 + j % 11 = j by omega]
  exact h

theorem run_pushT_none {w : World} {v : Value} {l : List St} {B : Nat} (hv : OwnT B w v l) (p : Option Addr) (c : Nat) : (Builtin.append_ #[45, 45] 45 #[v, .slice p 0 c]).run Try.prog w = .ok v w := by
  obtain ⟨i0, hi0, hz0, hz1, hz2⟩ := info_parts Try.infoSt
  obtain ⟨_, ⟨rfl, _⟩ | ⟨g, cap, cur, rfl, _, _, hl, _⟩⟩ := hv
  · cases p <;> simp [Builtin.append_, run_underlying Try.underlying45, Go.sizeOf, typeInfo, hi0, Builtin.lenOf, Builtin.firstCells, loadCells, loadCellsFrom]
  · cases p <;> simp [Builtin.append_, run_underlying Try.underlying45, Go.sizeOf, typeInfo, hi0, Builtin.lenOf, Builtin.firstCells, hl, storeCells, loadCells, loadCellsFrom]

theorem run_pushesT {B : Nat} {w : World} {v u : Value} {l m : List St} (h : OwnT B w v l) (hu : Sts w u m) (hB : B ≤ w.heap.size) (hs : (l.length + m.length) * 88 ≤ 140737488355328) :
    ∃ v' w', (Builtin.append_ #[45, 45] 45 #[v, u]).run Try.prog w = .ok v' w' ∧ OwnT B w' v' (l ++ m) ∧ Below B w w' ∧ w.grownBy w' v.ownBlock := by
  obtain ⟨i0, hi0, hz0, hz1, hz2⟩ := info_parts Try.infoSt
  obtain ⟨p, n, c, rfl⟩ := hu.sl
  have hn := hu.len.1
  by_cases h0 : n = 0
  · subst h0
    obtain rfl : m = [] := List.eq_nil_of_length_eq_zero hn.symm
    exact ⟨v, w, run_pushT_none h p c, by rw [List.append_nil]; exact h, Below.refl _ _, World.grownBy.refl _ _⟩
  · obtain ⟨g, o, rfl, hx⟩ := hu.at_ (by omega)
    obtain ⟨v', w', hr, h1, h2, _, h4⟩ := run_append_own_at (P := Try.prog) w B 45 45 51 i0 _ 11 88 Try.underlying45 hi0 hz0 hz1 hz2 rfl (by decide) v l.length (l.flatMap stC) h ⟨g, o, none⟩ n c (m.flatMap stC) (by rw [sflat_len, hn])
      (fun j u hj => by
        obtain ⟨x, hxj, hk⟩ := sflat_get2 hj
        have := hx (j / 11) x hxj (j % 11) u hk
        rw [show o + j / 11 * 11 + j % 11 = o + j by omega] at this
        rw [add_lit0]
        exact this)
      (fun u hu => by
        obtain ⟨x, _, hx⟩ := List.mem_flatMap.1 hu
        exact stC_one x u hx) (by simp only [maxLen]; omega) (by omega) hB
    refine ⟨v', w', hr, ?_, (Below.refl _ _).grown h2 hB fun k hk => (World.ownsRow.lt h k hk).1, h2⟩
    unfold OwnT
    rw [List.flatMap_append, List.length_append, ← hn]
    exact h1
theorem wpList_pushesT {w : World} {ops : Array Oper} {rest : List Oper} {o : Oper} {a : Act} {Q : Exit → Act → World → Prop} (hgd : o.guard = none) (s t : Operand)
    (ho : o.op = .call { callee := .builtin .append, args := #[s, t], argTypes := #[45, 45] }) (hty : o.type = 45) {B : Nat} {v u : Value} {l m : List St}
    (hs : a.eval s = v) (ht : a.eval t = u) (h : OwnT B w v l) (hu : Sts w u m) (hB : B ≤ w.heap.size) (hn : (l.length + m.length) * 88 ≤ 140737488355328)
    (hK : ∀ v' w', OwnT B w' v' (l ++ m) → Below B w w' → w.grownBy w' v.ownBlock → wpList Try.prog ops Q rest (a.put o.dst v') w') : wpList Try.prog ops Q (o :: rest) a w := by
  obtain ⟨v', w', hr, h1, h2, h3⟩ := run_pushesT h hu hB hn
  exact Lib.wpList_append_run_sl _ hgd s t 45 ho v _ hs ht (by rw [hty]; exact hr) (hK v' w' h1 h2 h3)
theorem wpList_pushT {w : World} {ops : Array Oper} {rest : List Oper} {o : Oper} {a : Act} {Q : Exit → Act → World → Prop} (hgd : o.guard = none) (s t : Operand)
    (ho : o.op = .call { callee := .builtin .append, args := #[s, t], argTypes := #[45, 45] }) (hty : o.type = 45) {B : Nat} {v : Value} {l : List St} (x : St) {H : Nat}
    (hs : a.eval s = v) (ht : a.eval t = .slice (some ⟨H, 0, none⟩) 1 1) (hH : H = w.heap.size) (h : OwnT B w v l) (hB : B ≤ w.heap.size) (hn : l.length ≤ 1000000)
    (hK : ∀ v' w', OwnT B w' v' (l ++ [x]) → Below B w w' → w.grownBy w' v.ownBlock → wpList Try.prog ops Q rest (a.put o.dst v') w') : wpList Try.prog ops Q (o :: rest) a (w.alloc (.cells #[.int .i64 x.s, .int .i64 x.q, .int .i64 x.a, .int .i64 x.r.er, .int .i64 x.r.rs, .int .i64 x.r.gn, .int .i64 x.r.ad, .int .i64 x.r.sa, .int .i64 x.r.ot, .int .i64 x.r.cy, .int .i64 x.r.fu] 51)) := by
  subst hH
  obtain ⟨v', w', hr, h1, h2, h3, _⟩ := run_pushT h x hB hn
  exact Lib.wpList_append_run_sl _ hgd s t 45 ho v _ hs ht (by rw [hty]; exact hr) (hK v' w' h1 h2 h3)
end Go.Proofs.Ytfbndbmhnpleoaa
