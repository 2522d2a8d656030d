/- Entries as they lie, as a slice. -/
import Derived.Test.YtlmoiaeppehiiaaLPure
import Derived.Test.YtlmoiaeppehiiaaBase
import Derived.Test.YtlmoiaeppehiiaaChg
import Derived.Maps.AppendAt
import Derived.Laws.OwnMore
namespace Go.Proofs.Ytlmoiaeppehiiaa
set_option linter.unusedVariables false
set_option linter.unusedSimpArgs false
open Go.RowKit

theorem ecC_length (x : Ec) : (ecC x).length = 3 := rfl
theorem ecC_one (x : Ec) : ∀ v ∈ ecC x, v.oneCell' = true := by
  intro v hv
  simp only [ecC, List.mem_cons, List.not_mem_nil, or_false] at hv
  rcases hv with rfl | rfl | rfl <;> rfl
theorem eflat_len (l : List Ec) : (l.flatMap ecC).length = l.length * 3 := by
  induction l with
  | nil => rfl
  | cons x r ih => rw [List.flatMap_cons, List.length_append, ih, ecC_length, List.length_cons]; omega
theorem eflat_at : ∀ (l : List Ec) (i k : Nat) {x : Ec}, l[i]? = some x → k < 3 → (l.flatMap ecC)[i * 3 + k]? = (ecC x)[k]?
  | [], i, k, x, h, _ => by simp at h
  | y :: r, 0, k, x, h, hk => by
    simp only [List.getElem?_cons_zero, Option.some.injEq] at h
    subst h
    rw [List.flatMap_cons, Nat.zero_mul, Nat.zero_add, List.getElem?_append_left (by rw [ecC_length]; exact hk)]
  | y :: r, i + 1, k, x, h, hk => by
    rw [List.getElem?_cons_succ] at h
    rw [List.flatMap_cons, List.getElem?_append_right (by rw [ecC_length]; omega), ecC_length, show (i + 1) * 3 + k - 3 = i * 3 + k by omega]
    exact eflat_at r i k h hk

/-- A span's cells at a place. -/
def EcAt (w : World) (g o : Nat) (x : Ec) : Prop := ∀ (k : Nat) u, (ecC x)[k]? = some u → w.cell? ⟨g, o + k, none⟩ = some u
theorem EcAt.c0 {w : World} {g o : Nat} {x : Ec} (h : EcAt w g o x) : w.cell? ⟨g, o, none⟩ = some (.int .i64 x.i) := h 0 _ rfl
theorem EcAt.c1 {w : World} {g o : Nat} {x : Ec} (h : EcAt w g o x) : w.cell? ⟨g, o + 1, none⟩ = some (.int .i64 x.t) := h 1 _ rfl
theorem EcAt.c2 {w : World} {g o : Nat} {x : Ec} (h : EcAt w g o x) : w.cell? ⟨g, o + 2, none⟩ = some (.slice x.p x.n x.c) := h 2 _ rfl
theorem EcAt.lt {w : World} {g o : Nat} {x : Ec} (h : EcAt w g o x) : g < w.heap.size := lt_of_cell h.c0
theorem EcAt.below {w w' : World} {g o : Nat} {x : Ec} (h : EcAt w g o x) (hb : Below w.heap.size w w') : EcAt w' g o x := fun k u hk => (hb.cell (lt_of_cell (h k u hk))).trans (h k u hk)
theorem EcAt.grown {w w' : World} {g o : Nat} {x : Ec} {row : Option Nat} (h : EcAt w g o x) (hg : w.grownBy w' row) (hne : row ≠ some g) : EcAt w' g o x := fun k u hk => hg.cell (h k u hk) fun e => hne e.symm
theorem EcAt.drewN {w : World} {g o : Nat} {x : Ec} (h : EcAt w g o x) (n : Nat) : EcAt (w.drewN n) g o x := h
theorem EcAt.one {w : World} {g o : Nat} {x y : Ec} (h : EcAt w g o x) (h' : EcAt w g o y) : x = y := by
  refine ecC_inj ?_
  apply List.ext_getElem?
  intro k
  by_cases hk : k < 3
  · have q1 := List.getElem?_eq_getElem (l := ecC x) (i := k) (by rw [ecC_length]; exact hk)
    have q2 := List.getElem?_eq_getElem (l := ecC y) (i := k) (by rw [ecC_length]; exact hk)
    have e := (h k _ q1).symm.trans (h' k _ q2)
    injection e with e
    rw [q1, q2, e]
  · rw [List.getElem?_eq_none (by rw [ecC_length]; omega), List.getElem?_eq_none (by rw [ecC_length]; omega)]

/-- The slice v reads as the spans l. -/
def Ecs (w : World) (v : Value) (l : List Ec) : Prop :=
  ∃ (p : Option Addr) (cap : Nat), v = .slice p l.length cap ∧ l.length ≤ cap ∧ cap ≤ maxLen ∧ (p = none → cap = 0) ∧
    (0 < l.length → ∃ g o, p = some ⟨g, o, none⟩ ∧ ∀ (i : Nat) x, l[i]? = some x → EcAt w g (o + i * 3) x)
theorem Ecs.nil (w : World) : Ecs w (.slice none 0 0) [] := ⟨none, 0, rfl, Nat.le_refl _, by simp [maxLen], fun _ => rfl, fun h => absurd h (Nat.lt_irrefl _)⟩
theorem Ecs.none_ (w : World) (p : Option Addr) (c : Nat) (hc : c ≤ maxLen) (hp : p = none → c = 0) : Ecs w (.slice p 0 c) [] := ⟨p, c, rfl, Nat.zero_le _, hc, hp, fun h => absurd h (Nat.lt_irrefl _)⟩
theorem Ecs.sl {w : World} {v : Value} {l : List Ec} (h : Ecs w v l) : ∃ p n c, v = .slice p n c := by
  obtain ⟨p, c, e, _⟩ := h
  exact ⟨p, _, c, e⟩
theorem Ecs.len {w : World} {p : Option Addr} {n c : Nat} {l : List Ec} (h : Ecs w (.slice p n c) l) : n = l.length ∧ n ≤ c ∧ c ≤ maxLen := by
  obtain ⟨p', c', e, hl, hm, _⟩ := h
  injection e with _ e2 e3
  subst e2 e3
  exact ⟨rfl, hl, hm⟩
theorem Ecs.at_ {w : World} {p : Option Addr} {n c : Nat} {l : List Ec} (h : Ecs w (.slice p n c) l) (hn : 0 < n) : ∃ g o, p = some ⟨g, o, none⟩ ∧ ∀ (i : Nat) x, l[i]? = some x → EcAt w g (o + i * 3) x := by
  obtain ⟨p', c', e, _, _, _, hx⟩ := h
  injection e with e1 e2 e3
  subst e1 e2
  exact hx hn
theorem Ecs.below {w w' : World} {v : Value} {l : List Ec} (h : Ecs w v l) (hb : Below w.heap.size w w') : Ecs w' v l := by
  obtain ⟨p, c, rfl, hl, hm, hn, hx⟩ := h
  refine ⟨p, c, rfl, hl, hm, hn, fun h0 => ?_⟩
  obtain ⟨g, o, e, hx⟩ := hx h0
  exact ⟨g, o, e, fun i x hi => (hx i x hi).below hb⟩
theorem Ecs.grown {w w' : World} {v : Value} {l : List Ec} {row : Option Nat} (h : Ecs w v l) (hg : w.grownBy w' row) (hne : l = [] ∨ ∀ k, v.ownBlock = some k → row ≠ some k) : Ecs w' v l := by
  obtain ⟨p, c, rfl, hl, hm, hn, hx⟩ := h
  refine ⟨p, c, rfl, hl, hm, hn, fun h0 => ?_⟩
  obtain ⟨g, o, e, hx⟩ := hx h0
  refine ⟨g, o, e, fun i x hi => (hx i x hi).grown hg ?_⟩
  rcases hne with rfl | hne
  · simp at h0
  · exact hne g (by rw [e]; rfl)
theorem Ecs.drewN {w : World} {v : Value} {l : List Ec} (h : Ecs w v l) (n : Nat) : Ecs (w.drewN n) v l := h
theorem Ecs.one {w : World} {v : Value} {l m : List Ec} (h : Ecs w v l) (h' : Ecs w v m) : l = m := by
  obtain ⟨p, c, rfl, _, _, _, hx⟩ := h
  obtain ⟨p', c', e, _, _, _, hx'⟩ := h'
  injection e with e1 e2 e3
  subst e1
  apply List.ext_getElem? 
  intro i
  by_cases hi : i < l.length
  · have h0 : 0 < l.length := by omega
    obtain ⟨g, o, e, hx⟩ := hx h0
    obtain ⟨g', o', e', hx'⟩ := hx' (by omega)
    rw [e] at e'
    injection e' with e'
    injection e' with e1 e2
    subst e1 e2
    have hi' : i < m.length := by omega
    have q1 := List.getElem?_eq_getElem hi
    have q2 := List.getElem?_eq_getElem hi'
    rw [q1, q2, (hx i _ q1).one (hx' i _ q2)]
  · rw [List.getElem?_eq_none (by omega), List.getElem?_eq_none (by omega)]

/-- The slice v reads as the spans l, in a block of its own from B on; or it is nil. -/
def OwnE (B : Nat) (w : World) (v : Value) (l : List Ec) : Prop := w.ownsRow B 70 3 v l.length (l.flatMap ecC)
theorem OwnE.nil (B : Nat) (w : World) : OwnE B w (.slice none 0 0) [] := World.ownsRow_nil _ _ _ _
theorem OwnE.ecs {B : Nat} {w : World} {v : Value} {l : List Ec} (h : OwnE B w v l) : Ecs w v l := by
  obtain ⟨hl, ⟨rfl, h0⟩ | ⟨g, cap, cur, rfl, hB, hh, hc, hm, hs, ht⟩⟩ := h
  · obtain rfl : l = [] := List.eq_nil_of_length_eq_zero h0
    exact Ecs.nil w
  · refine ⟨_, cap, rfl, hc, hm, (fun e => by cases e), fun _ => ⟨g, 0, rfl, fun i x hi k u hk => ?_⟩⟩
    have hk6 : k < 3 := by
      have := (List.getElem?_eq_some_iff.1 hk).1
      rwa [ecC_length] at this
    have hil := (List.getElem?_eq_some_iff.1 hi).1
    have h1 := eflat_at l i k hi hk6
    rw [hk, ← ht, List.getElem?_take_of_lt (by omega), Array.getElem?_toList] at h1
    rw [cell_of_row w g (0 + i * 3 + k) cur _ (0, 0) hh, Nat.zero_add]
    exact h1
theorem OwnE.lt {B : Nat} {w : World} {v : Value} {l : List Ec} (h : OwnE B w v l) : ∀ k, v.ownBlock = some k → B ≤ k ∧ k < w.heap.size := World.ownsRow.lt h
theorem OwnE.below {B : Nat} {w w' : World} {v : Value} {l : List Ec} (h : OwnE B w v l) (hb : Below w.heap.size w w') : OwnE B w' v l := World.ownsRow.kept (row := none) h ⟨hb.os, hb.tape, hb.output, hb.size, fun k hk _ => hb.block k hk⟩ (by cases v.ownBlock <;> simp)
theorem OwnE.mono {B B' : Nat} {w : World} {v : Value} {l : List Ec} (h : OwnE B w v l) (hB : B' ≤ B) : OwnE B' w v l := ⟨h.1, h.2.imp id fun ⟨g, cap, cur, e, hb, r⟩ => ⟨g, cap, cur, e, Nat.le_trans hB hb, r⟩⟩
theorem OwnE.grown {B : Nat} {w w' : World} {v : Value} {l : List Ec} {row : Option Nat} (h : OwnE B w v l) (hg : w.grownBy w' row) (hne : v.ownBlock = none ∨ v.ownBlock ≠ row) : OwnE B w' v l := World.ownsRow.kept h hg hne


theorem Try.infoEc : (Try.prog.info? 70).map (fun i => (i.zero, i.size, i.bytes)) = some (some (.agg #[.int .i64 0, .int .i64 0, .slice none 0 0]), 3, 40) := by kernel_rfl

theorem run_pushE {B : Nat} {w : World} {v : Value} {l : List Ec} (h : OwnE B w v l) (x : Ec) (hB : B ≤ w.heap.size) (hs : l.length ≤ 1000000) :
    ∃ v' w', (Builtin.append_ #[22, 22] 22 #[v, .slice (some ⟨w.heap.size, 0, none⟩) 1 1]).run Try.prog (w.alloc (.cells #[.int .i64 x.i, .int .i64 x.t, .slice x.p x.n x.c] 70)) = .ok v' w' ∧ OwnE B w' v' (l ++ [x]) ∧ Below B w w' ∧ w.grownBy w' v.ownBlock ∧ (v'.ownBlock = v.ownBlock ∨ v'.ownBlock = some (w.heap.size + 1)) := by
  obtain ⟨i0, hi0, hz0, hz1, hz2⟩ := info_parts Try.infoEc
  have ho' := World.ownsRow.alloc h (.cells #[.int .i64 x.i, .int .i64 x.t, .slice x.p x.n x.c] 70)
  obtain ⟨v', w', hr, h1, h2, _, h4⟩ := run_append_own_at (P := Try.prog) (w.alloc (.cells #[.int .i64 x.i, .int .i64 x.t, .slice x.p x.n x.c] 70)) B 22 22 70 i0 _ 3 40 Try.underlying22 hi0 hz0 hz1 hz2 rfl (by decide) v l.length (l.flatMap ecC) ho' ⟨w.heap.size, 0, none⟩ 1 1 (ecC x) rfl
    (fun j u hj => by
      rw [add_lit0, Nat.zero_add, cell_of_row _ w.heap.size j _ 70 (0, 0) (heap_alloc_new w _)]
      simpa [ecC] using hj)
    (ecC_one x) (by simp only [maxLen]; omega) (by omega) (by simp; omega)
  have hb0 : Below B w (w.alloc (.cells #[.int .i64 x.i, .int .i64 x.t, .slice x.p x.n x.c] 70)) := (Below.refl _ _).alloc hB _
  refine ⟨v', w', hr, ?_, hb0.grown h2 (by simp; omega) fun k hk => (World.ownsRow.lt h k hk).1, ?_, ?_⟩
  · have : (l ++ [x]).flatMap ecC = l.flatMap ecC ++ ecC x := by simp
    unfold OwnE
    rw [this, List.length_append]
    exact h1
  · refine ⟨h2.os, h2.tape, h2.output, ?_, fun k hk hne => ?_⟩
    · have := h2.size
      simp at this
      omega
    · rw [h2.block k (by simp; omega) hne]
      exact heap_alloc_old _ _ hk
  · simpa using h4

theorem eflat_get2 {l : List Ec} {j : Nat} {u : Value} (h : (l.flatMap ecC)[j]? = some u) : ∃ x, l[j / 3]? = some x ∧ (ecC x)[j % 3]? = some u := by
  have hj := (List.getElem?_eq_some_iff.1 h).1
  rw [eflat_len] at hj
  have hx : l[j / 3]? = some (l[j / 3]'(by omega)) := List.getElem?_eq_getElem _
  refine ⟨_, hx, ?_⟩
  rw [← eflat_at l (j / 3) (j % 3) hx (Nat.mod_lt _ (by omega)), show j / 3 * 3 + j % 3 = j by omega]
  exact h

theorem run_pushE_none {w : World} {v : Value} {l : List Ec} {B : Nat} (hv : OwnE B w v l) (p : Option Addr) (c : Nat) : (Builtin.append_ #[22, 22] 22 #[v, .slice p 0 c]).run Try.prog w = .ok v w := by
  obtain ⟨i0, hi0, hz0, hz1, hz2⟩ := info_parts Try.infoEc
  obtain ⟨_, ⟨rfl, _⟩ | ⟨g, cap, cur, rfl, _, _, hl, _⟩⟩ := hv
  · cases p <;> simp [Builtin.append_, run_underlying Try.underlying22, Go.sizeOf, typeInfo, hi0, Builtin.lenOf, Builtin.firstCells, loadCells, loadCellsFrom]
  · cases p <;> simp [Builtin.append_, run_underlying Try.underlying22, Go.sizeOf, typeInfo, hi0, Builtin.lenOf, Builtin.firstCells, hl, storeCells, loadCells, loadCellsFrom]

theorem run_pushesE {B : Nat} {w : World} {v u : Value} {l m : List Ec} (h : OwnE B w v l) (hu : Ecs w u m) (hB : B ≤ w.heap.size) (hs : (l.length + m.length) * 40 ≤ 140737488355328) :
    ∃ v' w', (Builtin.append_ #[22, 22] 22 #[v, u]).run Try.prog w = .ok v' w' ∧ OwnE B w' v' (l ++ m) ∧ Below B w w' ∧ w.grownBy w' v.ownBlock := by
  obtain ⟨i0, hi0, hz0, hz1, hz2⟩ := info_parts Try.infoEc
  obtain ⟨p, n, c, rfl⟩ := hu.sl
  have hn := hu.len.1
  by_cases h0 : n = 0
  · subst h0
    obtain rfl : m = [] := List.eq_nil_of_length_eq_zero hn.symm
    exact ⟨v, w, run_pushE_none h p c, by rw [List.append_nil]; exact h, Below.refl _ _, World.grownBy.refl _ _⟩
  · obtain ⟨g, o, rfl, hx⟩ := hu.at_ (by omega)
    obtain ⟨v', w', hr, h1, h2, _, h4⟩ := run_append_own_at (P := Try.prog) w B 22 22 70 i0 _ 3 40 Try.underlying22 hi0 hz0 hz1 hz2 rfl (by decide) v l.length (l.flatMap ecC) h ⟨g, o, none⟩ n c (m.flatMap ecC) (by rw [eflat_len, hn])
      (fun j u hj => by
        obtain ⟨x, hxj, hk⟩ := eflat_get2 hj
        have := hx (j / 3) x hxj (j % 3) u hk
        rw [show o + j / 3 * 3 + j % 3 = o + j by omega] at this
        rw [add_lit0]
        exact this)
      (fun u hu => by
        obtain ⟨x, _, hx⟩ := List.mem_flatMap.1 hu
        exact ecC_one x u hx) (by simp only [maxLen]; omega) (by omega) hB
    refine ⟨v', w', hr, ?_, (Below.refl _ _).grown h2 hB fun k hk => (World.ownsRow.lt h k hk).1, h2⟩
    unfold OwnE
    rw [List.flatMap_append, List.length_append, ← hn]
    exact h1
theorem wpList_pushesE {w : World} {ops : Array Oper} {rest : List Oper} {o : Oper} {a : Act} {Q : Exit → Act → World → Prop} (hgd : o.guard = none) (s t : Operand)
    (ho : o.op = .call { callee := .builtin .append, args := #[s, t], argTypes := #[22, 22] }) (hty : o.type = 22) {B : Nat} {v u : Value} {l m : List Ec}
    (hs : a.eval s = v) (ht : a.eval t = u) (h : OwnE B w v l) (hu : Ecs w u m) (hB : B ≤ w.heap.size) (hn : (l.length + m.length) * 40 ≤ 140737488355328)
    (hK : ∀ v' w', OwnE B w' v' (l ++ m) → Below B w w' → w.grownBy w' v.ownBlock → wpList Try.prog ops Q rest (a.put o.dst v') w') : wpList Try.prog ops Q (o :: rest) a w := by
  obtain ⟨v', w', hr, h1, h2, h3⟩ := run_pushesE h hu hB hn
  exact Lib.wpList_append_run_sl _ hgd s t 22 ho v _ hs ht (by rw [hty]; exact hr) (hK v' w' h1 h2 h3)
theorem wpList_pushE {w : World} {ops : Array Oper} {rest : List Oper} {o : Oper} {a : Act} {Q : Exit → Act → World → Prop} (hgd : o.guard = none) (s t : Operand)
    (ho : o.op = .call { callee := .builtin .append, args := #[s, t], argTypes := #[22, 22] }) (hty : o.type = 22) {B : Nat} {v : Value} {l : List Ec} (x : Ec) {H : Nat}
    (hs : a.eval s = v) (ht : a.eval t = .slice (some ⟨H, 0, none⟩) 1 1) (hH : H = w.heap.size) (h : OwnE B w v l) (hB : B ≤ w.heap.size) (hn : l.length ≤ 1000000)
    (hK : ∀ v' w', OwnE B w' v' (l ++ [x]) → Below B w w' → w.grownBy w' v.ownBlock → wpList Try.prog ops Q rest (a.put o.dst v') w') : wpList Try.prog ops Q (o :: rest) a (w.alloc (.cells #[.int .i64 x.i, .int .i64 x.t, .slice x.p x.n x.c] 70)) := by
  subst hH
  obtain ⟨v', w', hr, h1, h2, h3, _⟩ := run_pushE h x hB hn
  exact Lib.wpList_append_run_sl _ hgd s t 22 ho v _ hs ht (by rw [hty]; exact hr) (hK v' w' h1 h2 h3)
end Go.Proofs.Ytlmoiaeppehiiaa
