/- Messages in memory, as rows. -/
import Derived.Test.YtiiollgipfggmaaNCode
import Derived.Deep.RegionLaw
import Derived.Deep.RegionHeld3
import Derived.Maps.AppendAt
namespace Go.Proofs.Ytiiollgipfggmaa
set_option linter.unusedVariables false
set_option linter.unusedSimpArgs false
open Go.RowKit

/-- A message as it lies. -/
structure Mc where
  m : Ms
  pe : Option Go.Addr
  ne : Nat
  ce : Nat
  pv : Option Go.Addr
  nv : Nat
  cv : Nat
  pd : Option Go.Addr
  nd : Nat
  cd : Nat
def mcC (x : Mc) : List Value := [.int .i64 x.m.k, .int .i64 x.m.f, .int .i64 x.m.t, .int .i64 x.m.tm, .int .i64 x.m.ix, .int .i64 x.m.lt, .int .i64 x.m.cm, .int .i64 x.m.rd, .bool x.m.ys, .bool x.m.dn, .slice x.pe x.ne x.ce, .slice x.pv x.nv x.cv, .slice x.pd x.nd x.cd]
theorem mcC_length (x : Mc) : (mcC x).length = 13 := rfl
theorem mcC_one (x : Mc) : ∀ v ∈ mcC x, v.oneCell' = true := by
  intro v hv
  simp only [mcC, List.mem_cons, List.not_mem_nil, or_false] at hv
  rcases hv with rfl | rfl | rfl | rfl | rfl | rfl | rfl | rfl | rfl | rfl | rfl | rfl | rfl <;> rfl
theorem mflat_len (l : List Mc) : (l.flatMap mcC).length = l.length * 13 := by
  induction l with
  | nil => rfl
  | cons x r ih => rw [List.flatMap_cons, List.length_append, ih, mcC_length, List.length_cons]; omega
theorem mflat_at : ∀ (l : List Mc) (i k : Nat) {x : Mc}, l[i]? = some x → k < 13 → (l.flatMap mcC)[i * 13 + k]? = (mcC x)[k]?
  | [], i, k, x, h, _ => by simp at h
  | y :: r, 0, k, x, h, hk => by
    simp only [List.getElem?_cons_zero, Option.some.injEq] at h
    subst h
    rw [List.flatMap_cons, List.getElem?_append_left (by rw [mcC_length]; omega), Nat.zero_mul, Nat.zero_add]
  | y :: r, i + 1, k, x, h, hk => by
    rw [List.getElem?_cons_succ] at h
    have ih := mflat_at r i k h hk
    rw [List.flatMap_cons, List.getElem?_append_right (by rw [mcC_length]; omega), mcC_length, ← ih]
    congr 1
    omega
/-- Messages in a row of their own from B on; or nil. -/
def OwnM (B : Nat) (w : World) (v : Value) (l : List Mc) : Prop := w.ownsRow B 26 13 v l.length (l.flatMap mcC)
theorem OwnM.nil (B : Nat) (w : World) : OwnM B w (.slice none 0 0) [] := World.ownsRow_nil _ _ _ _
theorem OwnM.lt {B : Nat} {w : World} {v : Value} {l : List Mc} (h : OwnM B w v l) : ∀ k, v.ownBlock = some k → B ≤ k ∧ k < w.heap.size := World.ownsRow.lt h
theorem OwnM.below {B : Nat} {w w' : World} {v : Value} {l : List Mc} (h : OwnM B w v l) (hb : Below w.heap.size w w') : OwnM B w' v l := World.ownsRow.kept (row := none) h ⟨hb.os, hb.tape, hb.output, hb.size, fun k hk _ => hb.block k hk⟩ (by cases v.ownBlock <;> simp)
theorem OwnM.grown {B : Nat} {w w' : World} {v : Value} {l : List Mc} {row : Option Nat} (h : OwnM B w v l) (hg : w.grownBy w' row) (hne : v.ownBlock = none ∨ v.ownBlock ≠ row) : OwnM B w' v l := World.ownsRow.kept h hg hne
theorem OwnM.sl {B : Nat} {w : World} {v : Value} {l : List Mc} (h : OwnM B w v l) : ∃ p c, v = .slice p l.length c ∧ l.length ≤ c ∧ c ≤ maxLen := by
  obtain ⟨_, ⟨rfl, h0⟩ | ⟨g, cap, cur, rfl, _, _, h1, h2, _⟩⟩ := h
  · exact ⟨none, 0, by rw [h0], by omega, by simp [maxLen]⟩
  · exact ⟨_, cap, rfl, h1, h2⟩
theorem OwnM.at_ {B : Nat} {w : World} {p : Option Addr} {n c : Nat} {l : List Mc} (h : OwnM B w (.slice p n c) l) (hn : 0 < n) : ∃ g, p = some ⟨g, 0, none⟩ ∧ B ≤ g ∧ ∀ (i : Nat) x, l[i]? = some x → ∀ (k : Nat) u, (mcC x)[k]? = some u → w.cell? ⟨g, i * 13 + k, none⟩ = some u := by
  obtain ⟨h0, ⟨e, h1⟩ | ⟨g, cap, cur, e, hB, hh, hc, hm, hs, ht⟩⟩ := h
  · injection e with _ e2 _
    omega
  · injection e with e1 e2 e3
    subst e1 e2 e3
    refine ⟨g, rfl, hB, fun i x hi k u hu => ?_⟩
    have hil := (List.getElem?_eq_some_iff.1 hi).1
    have hk : k < 13 := by have := (List.getElem?_eq_some_iff.1 hu).1; rw [mcC_length] at this; exact this
    have h1 := mflat_at l i k hi hk
    rw [hu, ← ht, List.getElem?_take_of_lt (by omega), Array.getElem?_toList] at h1
    rw [cell_of_row w g _ cur _ (0, 0) hh]
    exact h1
theorem Try.infoMc : (Try.prog.info? 26).map (fun i => (i.zero, i.size, i.bytes)) = some (some (.agg #[.int .i64 0, .int .i64 0, .int .i64 0, .int .i64 0, .int .i64 0, .int .i64 0, .int .i64 0, .int .i64 0, .bool false, .bool false, .slice none 0 0, .slice none 0 0, .slice none 0 0]), 13, 144) := by kernel_rfl
theorem run_pushM {B : Nat} {w : World} {v : Value} {l : List Mc} (h : OwnM B w v l) (x : Mc) (hB : B ≤ w.heap.size) (hs : l.length ≤ 1000000) :
    ∃ v' w', (Builtin.append_ #[28, 28] 28 #[v, .slice (some ⟨w.heap.size, 0, none⟩) 1 1]).run Try.prog (w.alloc (.cells #[.int .i64 x.m.k, .int .i64 x.m.f, .int .i64 x.m.t, .int .i64 x.m.tm, .int .i64 x.m.ix, .int .i64 x.m.lt, .int .i64 x.m.cm, .int .i64 x.m.rd, .bool x.m.ys, .bool x.m.dn, .slice x.pe x.ne x.ce, .slice x.pv x.nv x.cv, .slice x.pd x.nd x.cd] 26)) = .ok v' w' ∧ OwnM B w' v' (l ++ [x]) ∧ w.grownBy w' v.ownBlock ∧ (v'.ownBlock = v.ownBlock ∨ v'.ownBlock = some (w.heap.size + 1)) := by
  obtain ⟨i0, hi0, hz0, hz1, hz2⟩ := info_parts Try.infoMc
  have ho' := World.ownsRow.alloc h (.cells #[.int .i64 x.m.k, .int .i64 x.m.f, .int .i64 x.m.t, .int .i64 x.m.tm, .int .i64 x.m.ix, .int .i64 x.m.lt, .int .i64 x.m.cm, .int .i64 x.m.rd, .bool x.m.ys, .bool x.m.dn, .slice x.pe x.ne x.ce, .slice x.pv x.nv x.cv, .slice x.pd x.nd x.cd] 26)
  obtain ⟨v', w', hr, h1, h2, _, h4⟩ := run_append_own_at (P := Try.prog) (w.alloc (.cells #[.int .i64 x.m.k, .int .i64 x.m.f, .int .i64 x.m.t, .int .i64 x.m.tm, .int .i64 x.m.ix, .int .i64 x.m.lt, .int .i64 x.m.cm, .int .i64 x.m.rd, .bool x.m.ys, .bool x.m.dn, .slice x.pe x.ne x.ce, .slice x.pv x.nv x.cv, .slice x.pd x.nd x.cd] 26)) B 28 28 26 i0 _ 13 144 Try.underlying28 hi0 hz0 hz1 hz2 rfl (by decide) v l.length (l.flatMap mcC) ho' ⟨w.heap.size, 0, none⟩ 1 1 (mcC x) rfl
    (fun j u hj => by
      rw [add_lit0, Nat.zero_add, cell_of_row _ w.heap.size j _ 26 (0, 0) (heap_alloc_new w _)]
      simpa [mcC] using hj)
    (mcC_one x) (by simp only [maxLen]; omega) (by omega) (by simp; omega)
  refine ⟨v', w', hr, ?_, ?_, by simpa using h4⟩
  · have : (l ++ [x]).flatMap mcC = l.flatMap mcC ++ mcC x := by simp
    unfold OwnM
    rw [this, List.length_append]
    exact h1
  · refine ⟨h2.os, h2.tape, h2.output, ?_, fun k hk hne => ?_⟩
    · have := h2.size
      simp at this
      omega
    · rw [h2.block k (by simp; omega) hne]
      exact heap_alloc_old _ _ hk
theorem step_pushM1 {w : World} {ops : Array Oper} {o : Oper} {a : Act} {K : Act → World → Prop} {Q : Exit → Act → World → Prop} {E : Prop} (hgd : o.guard = none) (s x : Operand)
    (ho : o.op = .call { callee := .builtin .append, args := #[s, x], argTypes := #[28, 28] }) (hty : o.type = 28) {B : Nat} {v : Value} {l : List Mc} (y : Mc) {H : Nat}
    (hs : a.eval s = v) (hx : a.eval x = .slice (some ⟨H, 0, none⟩) 1 1) (hH : H = w.heap.size) (h : OwnM B w v l) (hB : B ≤ w.heap.size) (hn : l.length ≤ 1000000)
    (hK : ∀ v' w', OwnM B w' v' (l ++ [y]) → w.grownBy w' v.ownBlock → (v'.ownBlock = v.ownBlock ∨ v'.ownBlock = some (w.heap.size + 1)) → K (a.put o.dst v') w') : if Region.wanted o (yielded ops a.tmps) = true then Oper.wp Try.prog o a (w.alloc (.cells #[.int .i64 y.m.k, .int .i64 y.m.f, .int .i64 y.m.t, .int .i64 y.m.tm, .int .i64 y.m.ix, .int .i64 y.m.lt, .int .i64 y.m.cm, .int .i64 y.m.rd, .bool y.m.ys, .bool y.m.dn, .slice y.pe y.ne y.ce, .slice y.pv y.nv y.cv, .slice y.pd y.nd y.cd] 26)) K Q else E := by
  subst hH
  obtain ⟨v', w', hr, h1, h2, h3⟩ := run_pushM h y hB hn
  have hw : Region.wanted o (yielded ops a.tmps) = true := by simp [Region.wanted, hgd]
  rw [if_pos hw]
  exact Lib.wp_append_run_sl _ s x 28 ho v _ hs hx (by rw [hty]; exact hr) (hK v' w' h1 h2 h3)

/-! ## slices.Delete of one -/
theorem zeroM_toList : (Builtin.zeroCells #[.int .i64 0, .int .i64 0, .int .i64 0, .int .i64 0, .int .i64 0, .int .i64 0, .int .i64 0, .int .i64 0, .bool false, .bool false, .slice none 0 0, .slice none 0 0, .slice none 0 0] 1).toList = [.int .i64 0, .int .i64 0, .int .i64 0, .int .i64 0, .int .i64 0, .int .i64 0, .int .i64 0, .int .i64 0, .bool false, .bool false, .slice none 0 0, .slice none 0 0, .slice none 0 0] := by kernel_rfl
theorem run_clearM (w : World) (ty : TypeId) (b o c : Nat) (hc : ∀ j, j < 13 → (w.cell? ⟨b, o + j, none⟩).isSome = true) (hf : ∀ j, j < 13 → w.frozen? ⟨b, o + j, none⟩ = false) :
    (Builtin.clear_ #[28] ty #[.slice (some ⟨b, o, none⟩) 1 c]).run Try.prog w = .ok (.tuple #[]) (w.setCells b o [.int .i64 0, .int .i64 0, .int .i64 0, .int .i64 0, .int .i64 0, .int .i64 0, .int .i64 0, .int .i64 0, .bool false, .bool false, .slice none 0 0, .slice none 0 0, .slice none 0 0]) := by
  obtain ⟨i0, hi0, hz0, hz1, hz2⟩ := info_parts Try.infoMc
  have hv : ∀ w, (zeroValue 26).run Try.prog w = .ok (.agg #[.int .i64 0, .int .i64 0, .int .i64 0, .int .i64 0, .int .i64 0, .int .i64 0, .int .i64 0, .int .i64 0, .bool false, .bool false, .slice none 0 0, .slice none 0 0, .slice none 0 0]) w := fun w => by
    simp [zeroValue, typeInfo, hi0, hz0]
  have hst := run_storeCells_cells (P := Try.prog) b o (Builtin.zeroCells #[.int .i64 0, .int .i64 0, .int .i64 0, .int .i64 0, .int .i64 0, .int .i64 0, .int .i64 0, .int .i64 0, .bool false, .bool false, .slice none 0 0, .slice none 0 0, .slice none 0 0] 1).toList 0 w (by rw [zeroM_toList]; simpa using hc) (by rw [zeroM_toList]; simpa using hf) (by rw [zeroM_toList]; intro v hv; simp at hv; rcases hv with rfl | rfl | rfl <;> rfl)
  simp only [Nat.add_zero] at hst
  rw [zeroM_toList] at hst
  simp [Builtin.clear_, run_underlying Try.underlying28, hv, Value.cells, zeroM_toList, hst]
/-- What the row is behind a deletion. -/
theorem OwnM.del {B : Nat} {w : World} {g cap : Nat} {E : List Mc} (h : OwnM B w (.slice (some ⟨g, 0, none⟩) E.length cap) E) {k : Nat} (hk : k < E.length) :
    ∃ w1, (∀ (a : Addr) c, (a = ⟨g, (k + 1) * 13, none⟩ ∨ E.length = k + 1) → (Builtin.append_ #[28, 28] 28 #[.slice (some ⟨g, 0, none⟩) k cap, .slice (some a) (E.length - (k + 1)) c]).run Try.prog w = .ok (.slice (some ⟨g, 0, none⟩) (E.length - 1) cap) w1) ∧
      (∀ j, j < cap * 13 → (w1.cell? ⟨g, j, none⟩).isSome = true) ∧ (∀ j, j < cap * 13 → w1.frozen? ⟨g, j, none⟩ = false) ∧ w.grownBy w1 (some g) ∧ (E.length = k + 1 → w1 = w) ∧
      ∀ w2, w2 = w1.setCells g ((E.length - 1) * 13) [.int .i64 0, .int .i64 0, .int .i64 0, .int .i64 0, .int .i64 0, .int .i64 0, .int .i64 0, .int .i64 0, .bool false, .bool false, .slice none 0 0, .slice none 0 0, .slice none 0 0] → OwnM B w2 (.slice (some ⟨g, 0, none⟩) (E.length - 1) cap) (E.eraseIdx k) ∧ w.grownBy w2 (some g) := by
  obtain ⟨h0, ⟨e, h1⟩ | ⟨g', cap', cur, e, hB, hh, hc, hm, hs, ht⟩⟩ := h
  · injection e with _ e2 _
    omega
  · injection e with e1 e2 e3
    injection e1 with e1
    injection e1 with e1 _ _
    subst e1 e3
    obtain ⟨i0, hi0, hz0, hz1, hz2⟩ := info_parts Try.infoMc
    have hfl := mflat_len E
    have hsp : E.flatMap mcC = (E.take k).flatMap mcC ++ (E.drop k).flatMap mcC := by rw [← List.flatMap_append, List.take_append_drop]
    have hsp2 : E.flatMap mcC = (E.take (k + 1)).flatMap mcC ++ (E.drop (k + 1)).flatMap mcC := by rw [← List.flatMap_append, List.take_append_drop]
    have hl1 : ((E.take k).flatMap mcC).length = k * 13 := by rw [mflat_len, List.length_take]; omega
    have hl2 : ((E.drop (k + 1)).flatMap mcC).length = (E.length - (k + 1)) * 13 := by rw [mflat_len, List.length_drop]
    have hl3 : ((E.take (k + 1)).flatMap mcC).length = (k + 1) * 13 := by rw [mflat_len, List.length_take]; omega
    have htk : cur.toList.take (k * 13) = (E.take k).flatMap mcC := by
      have : cur.toList.take (k * 13) = (cur.toList.take (E.length * 13)).take (k * 13) := by rw [List.take_take, Nat.min_eq_left (by omega)]
      rw [this, ht, hsp, ← hl1, List.take_left]
    have hcs : cur.toList.length = cap * 13 := by rw [Array.length_toList]; exact hs
    have hcell : ∀ a : Addr, (a = ⟨g, (k + 1) * 13, none⟩ ∨ E.length = k + 1) → ∀ (j : Nat) u, ((E.drop (k + 1)).flatMap mcC)[j]? = some u → w.cell? (a.add j) = some u := fun a ha j u hj => by
      have hjl := (List.getElem?_eq_some_iff.1 hj).1
      rcases ha with rfl | ha
      rotate_left
      · rw [hl2] at hjl
        omega
      rw [add_lit0, cell_of_row w g _ cur _ (0, 0) hh]
      have : cur.toList[(k + 1) * 13 + j]? = some u := by
        have h2 : (cur.toList.take (E.length * 13))[(k + 1) * 13 + j]? = cur.toList[(k + 1) * 13 + j]? := List.getElem?_take_of_lt (by omega)
        rw [← h2, ht, hsp2, List.getElem?_append_right (by omega), hl3, Nat.add_sub_cancel_left]
        exact hj
      rw [Array.getElem?_toList] at this
      exact this
    have hrun := fun (a : Addr) c (ha : a = ⟨g, (k + 1) * 13, none⟩ ∨ E.length = k + 1) => run_append_room (P := Try.prog) (w := w) 28 28 26 i0 Try.underlying28 hi0 g k cap cur hh a (E.length - (k + 1)) c ((E.drop (k + 1)).flatMap mcC) (by rw [hl2, hz1]) (hcell a ha) (fun u hu => by
      obtain ⟨x, _, hx⟩ := List.mem_flatMap.1 hu
      exact mcC_one x u hx) (by omega) (by rw [hz1, hl2, hs]; omega)
    obtain ⟨cur1, hcur1⟩ : ∃ c, (cur.toList.take (k * i0.size) ++ (E.drop (k + 1)).flatMap mcC ++ cur.toList.drop (k * i0.size + ((E.drop (k + 1)).flatMap mcC).length)).toArray = c := ⟨_, rfl⟩
    rw [hz1] at hcur1
    rw [hz1] at hrun
    rw [hcur1] at hrun
    have hs1 : cur1.size = cap * 13 := by
      rw [← hcur1]
      simp only [List.size_toArray, List.length_append, List.length_take, List.length_drop, hl2, hcs]
      omega
    have hh1 := setRow_heap w g cur cur1 26 (0, 0) hh
    have ht1 : cur1.toList.take ((E.length - 1) * 13) = (E.eraseIdx k).flatMap mcC := by
      rw [← hcur1, htk]
      have e1 : (E.eraseIdx k).flatMap mcC = (E.take k).flatMap mcC ++ (E.drop (k + 1)).flatMap mcC := by
        rw [List.eraseIdx_eq_take_drop_succ, List.flatMap_append]
      rw [e1]
      simp only []
      rw [List.take_append_of_le_length (by rw [List.length_append, hl1, hl2]; omega), List.take_of_length_le (by rw [List.length_append, hl1, hl2]; omega)]
    have hge : w.grownBy (w.setRow g cur1) (some g) := by
      refine ⟨rfl, rfl, rfl, by simp, fun j hj hne => ?_⟩
      unfold World.setRow
      rw [Array.getElem?_modify, if_neg (fun e => hne (congrArg some e.symm))]
    refine ⟨w.setRow g cur1, fun a c ha => ?_, fun j hj => ?_, fun j hj => ?_, hge, fun he => ?_, fun w2 hw2 => ?_⟩
    · rw [hrun a c ha, show k + (E.length - (k + 1)) = E.length - 1 by omega]
    · obtain ⟨u, hu⟩ : ∃ u, cur1[j]? = some u := ⟨_, Array.getElem?_eq_getElem (by omega)⟩
      rw [cell_of_row _ g j _ _ (0, 0) hh1, hu]
      rfl
    · exact frozen_of_row _ g j _ _ hh1
    · have e1 : cur1 = cur := by
        rw [← hcur1, List.drop_eq_nil_of_le (by omega)]
        simp
      rw [e1]
      exact setRow_self w g cur _ _ hh
    · have q1 := heap_setCell_same (w.setRow g cur1) g ((E.length - 1) * 13) _ 26 (.int .i64 0) hh1
      have q2 := heap_setCell_same _ g ((E.length - 1) * 13 + 1) _ 26 (.int .i64 0) q1
      have q3 := heap_setCell_same _ g ((E.length - 1) * 13 + 2) _ 26 (.int .i64 0) q2
      have q4 := heap_setCell_same _ g ((E.length - 1) * 13 + 3) _ 26 (.int .i64 0) q3
      have q5 := heap_setCell_same _ g ((E.length - 1) * 13 + 4) _ 26 (.int .i64 0) q4
      have q6 := heap_setCell_same _ g ((E.length - 1) * 13 + 5) _ 26 (.int .i64 0) q5
      have q7 := heap_setCell_same _ g ((E.length - 1) * 13 + 6) _ 26 (.int .i64 0) q6
      have q8 := heap_setCell_same _ g ((E.length - 1) * 13 + 7) _ 26 (.int .i64 0) q7
      have q9 := heap_setCell_same _ g ((E.length - 1) * 13 + 8) _ 26 (.bool false) q8
      have q10 := heap_setCell_same _ g ((E.length - 1) * 13 + 9) _ 26 (.bool false) q9
      have q11 := heap_setCell_same _ g ((E.length - 1) * 13 + 10) _ 26 (.slice none 0 0) q10
      have q12 := heap_setCell_same _ g ((E.length - 1) * 13 + 11) _ 26 (.slice none 0 0) q11
      have q13 := heap_setCell_same _ g ((E.length - 1) * 13 + 12) _ 26 (.slice none 0 0) q12
      have e2 : w2 = (((((((((((((w.setRow g cur1).setCell ⟨g, (E.length - 1) * 13, none⟩ (.int .i64 0)).setCell ⟨g, (E.length - 1) * 13 + 1, none⟩ (.int .i64 0)).setCell ⟨g, (E.length - 1) * 13 + 2, none⟩ (.int .i64 0)).setCell ⟨g, (E.length - 1) * 13 + 3, none⟩ (.int .i64 0)).setCell ⟨g, (E.length - 1) * 13 + 4, none⟩ (.int .i64 0)).setCell ⟨g, (E.length - 1) * 13 + 5, none⟩ (.int .i64 0)).setCell ⟨g, (E.length - 1) * 13 + 6, none⟩ (.int .i64 0)).setCell ⟨g, (E.length - 1) * 13 + 7, none⟩ (.int .i64 0)).setCell ⟨g, (E.length - 1) * 13 + 8, none⟩ (.bool false)).setCell ⟨g, (E.length - 1) * 13 + 9, none⟩ (.bool false)).setCell ⟨g, (E.length - 1) * 13 + 10, none⟩ (.slice none 0 0)).setCell ⟨g, (E.length - 1) * 13 + 11, none⟩ (.slice none 0 0)).setCell ⟨g, (E.length - 1) * 13 + 12, none⟩ (.slice none 0 0) := by rw [hw2]; rfl
      have hel : (E.eraseIdx k).length = E.length - 1 := List.length_eraseIdx_of_lt hk
      refine ⟨?_, ?_⟩
      · unfold OwnM
        rw [hel]
        refine ⟨by rw [mflat_len, hel], .inr ⟨g, cap, _, rfl, hB, by rw [e2]; exact q13, by omega, hm, by simp [hs1], ?_⟩⟩
        rw [← ht1]
        simp only [Array.toList_setIfInBounds]
        rw [List.take_set_of_le (by omega), List.take_set_of_le (by omega), List.take_set_of_le (by omega), List.take_set_of_le (by omega), List.take_set_of_le (by omega), List.take_set_of_le (by omega), List.take_set_of_le (by omega), List.take_set_of_le (by omega), List.take_set_of_le (by omega), List.take_set_of_le (by omega), List.take_set_of_le (by omega), List.take_set_of_le (by omega), List.take_set_of_le (by omega)]
      · rw [e2]
        exact gtrans (gtrans (gtrans (gtrans (gtrans (gtrans (gtrans (gtrans (gtrans (gtrans (gtrans (gtrans (gtrans (hge) (grown_set _ _ _ _)) (grown_set _ _ _ _)) (grown_set _ _ _ _)) (grown_set _ _ _ _)) (grown_set _ _ _ _)) (grown_set _ _ _ _)) (grown_set _ _ _ _)) (grown_set _ _ _ _)) (grown_set _ _ _ _)) (grown_set _ _ _ _)) (grown_set _ _ _ _)) (grown_set _ _ _ _)) (grown_set _ _ _ _)
/-- The slice v reads as the messages l. -/
def Mcs (w : World) (v : Value) (l : List Mc) : Prop :=
  ∃ (p : Option Addr) (cap : Nat), v = .slice p l.length cap ∧ l.length ≤ cap ∧ cap ≤ maxLen ∧ (p = none → cap = 0) ∧
    (0 < l.length → ∃ g o, p = some ⟨g, o, none⟩ ∧ ∀ (i : Nat) x, l[i]? = some x → ∀ (k : Nat) u, (mcC x)[k]? = some u → w.cell? ⟨g, o + i * 13 + k, none⟩ = some u)
theorem Mcs.none_ (w : World) (p : Option Addr) (c : Nat) (hc : c ≤ maxLen) (hp : p = none → c = 0) : Mcs w (.slice p 0 c) [] := ⟨p, c, rfl, Nat.zero_le _, hc, hp, fun h => absurd h (Nat.lt_irrefl _)⟩
theorem Mcs.sl {w : World} {v : Value} {l : List Mc} (h : Mcs w v l) : ∃ p n c, v = .slice p n c := by
  obtain ⟨p, c, e, _⟩ := h
  exact ⟨p, _, c, e⟩
theorem Mcs.len {w : World} {p : Option Addr} {n c : Nat} {l : List Mc} (h : Mcs w (.slice p n c) l) : n = l.length ∧ n ≤ c ∧ c ≤ maxLen := by
  obtain ⟨p', c', e, h1, h2, _⟩ := h
  injection e with _ e2 e3
  subst e2 e3
  exact ⟨rfl, h1, h2⟩
theorem Mcs.at_ {w : World} {p : Option Addr} {n c : Nat} {l : List Mc} (h : Mcs w (.slice p n c) l) (hn : 0 < n) : ∃ g o, p = some ⟨g, o, none⟩ ∧ ∀ (i : Nat) x, l[i]? = some x → ∀ (k : Nat) u, (mcC x)[k]? = some u → w.cell? ⟨g, o + i * 13 + k, none⟩ = some u := by
  obtain ⟨p', c', e, _, _, _, h1⟩ := h
  injection e with e1 e2 _
  subst e1
  exact h1 (by omega)
theorem Mcs.below {w w' : World} {v : Value} {l : List Mc} (h : Mcs w v l) (hb : Below w.heap.size w w') : Mcs w' v l := by
  obtain ⟨p, c, rfl, h1, h2, h3, h4⟩ := h
  refine ⟨p, c, rfl, h1, h2, h3, fun h0 => ?_⟩
  obtain ⟨g, o, e, hx⟩ := h4 h0
  exact ⟨g, o, e, fun i x hi k u hk => (hb.cell (lt_of_cell (hx i x hi k u hk))).trans (hx i x hi k u hk)⟩
theorem Mcs.chg {w w' : World} {v : Value} {l : List Mc} {S : Nat → Prop} (h : Mcs w v l) (hc : Chg w w' S) (hS : ∀ k, v.ownBlock = some k → ¬ S k) : Mcs w' v l := by
  obtain ⟨p, c, rfl, h1, h2, h3, h4⟩ := h
  refine ⟨p, c, rfl, h1, h2, h3, fun h0 => ?_⟩
  obtain ⟨g, o, e, hx⟩ := h4 h0
  refine ⟨g, o, e, fun i x hi k u hk => hc.cell (hx i x hi k u hk) (hS _ ?_)⟩
  rw [e]
  rfl
theorem OwnM.mono {B B' : Nat} {w : World} {v : Value} {l : List Mc} (h : OwnM B w v l) (hB : B' ≤ B) : OwnM B' w v l := ⟨h.1, h.2.imp id fun ⟨g, cap, cur, e, hb, r⟩ => ⟨g, cap, cur, e, Nat.le_trans hB hb, r⟩⟩
theorem OwnM.mcs {B : Nat} {w : World} {v : Value} {l : List Mc} (h : OwnM B w v l) : Mcs w v l := by
  obtain ⟨p, c, rfl, h1, h2⟩ := h.sl
  refine ⟨p, c, rfl, h1, h2, fun e => ?_, fun h0 => ?_⟩
  · rcases h.2 with ⟨e1, _⟩ | ⟨g, cap, cur, e1, _⟩
    · injection e1
    · injection e1 with e1
      rw [e] at e1
      cases e1
  · obtain ⟨g, e, _, hx⟩ := h.at_ h0
    exact ⟨g, 0, e, fun i x hi k u hk => by rw [Nat.zero_add]; exact hx i x hi k u hk⟩
theorem Mcs.nil (w : World) : Mcs w (.slice none 0 0) [] := Mcs.none_ w none 0 (Nat.zero_le _) fun _ => rfl
theorem mflat_get2 {l : List Mc} {j : Nat} {u : Value} (h : (l.flatMap mcC)[j]? = some u) : ∃ x, l[j / 13]? = some x ∧ (mcC x)[j % 13]? = some u := by
  have hj := (List.getElem?_eq_some_iff.1 h).1
  rw [mflat_len] at hj
  have hx : l[j / 13]? = some (l[j / 13]'(by omega)) := List.getElem?_eq_getElem _
  refine ⟨_, hx, ?_⟩
  rw [← mflat_at l (j / 13) (j % 13) hx (Nat.mod_lt _ (by omega)), show j / 13 * 13 + j % 13 = j by omega]
  exact h

theorem run_pushM_none {w : World} {v : Value} {l : List Mc} {B : Nat} (hv : OwnM B w v l) (p : Option Addr) (c : Nat) : (Builtin.append_ #[28, 28] 28 #[v, .slice p 0 c]).run Try.prog w = .ok v w := by
  obtain ⟨i0, hi0, hz0, hz1, hz2⟩ := info_parts Try.infoMc
  obtain ⟨_, ⟨rfl, _⟩ | ⟨g, cap, cur, rfl, _, _, hl, _⟩⟩ := hv
  · cases p <;> simp [Builtin.append_, run_underlying Try.underlying28, Go.sizeOf, typeInfo, hi0, Builtin.lenOf, Builtin.firstCells, loadCells, loadCellsFrom]
  · cases p <;> simp [Builtin.append_, run_underlying Try.underlying28, Go.sizeOf, typeInfo, hi0, Builtin.lenOf, Builtin.firstCells, hl, storeCells, loadCells, loadCellsFrom]

theorem run_pushesM {B : Nat} {w : World} {v u : Value} {l m : List Mc} (h : OwnM B w v l) (hu : Mcs w u m) (hB : B ≤ w.heap.size) (hs : (l.length + m.length) * 144 ≤ 140737488355328) :
    ∃ v' w', (Builtin.append_ #[28, 28] 28 #[v, u]).run Try.prog w = .ok v' w' ∧ OwnM B w' v' (l ++ m) ∧ Below B w w' ∧ w.grownBy w' v.ownBlock := by
  obtain ⟨i0, hi0, hz0, hz1, hz2⟩ := info_parts Try.infoMc
  obtain ⟨p, n, c, rfl⟩ := hu.sl
  have hn := hu.len.1
  by_cases h0 : n = 0
  · subst h0
    obtain rfl : m = [] := List.eq_nil_of_length_eq_zero hn.symm
    exact ⟨v, w, run_pushM_none h p c, by rw [List.append_nil]; exact h, Below.refl _ _, World.grownBy.refl _ _⟩
  · obtain ⟨g, o, rfl, hx⟩ := hu.at_ (by omega)
    obtain ⟨v', w', hr, h1, h2, _, h4⟩ := run_append_own_at (P := Try.prog) w B 28 28 26 i0 _ 13 144 Try.underlying28 hi0 hz0 hz1 hz2 rfl (by decide) v l.length (l.flatMap mcC) h ⟨g, o, none⟩ n c (m.flatMap mcC) (by rw [mflat_len, hn])
      (fun j u hj => by
        obtain ⟨x, hxj, hk⟩ := mflat_get2 hj
        have := hx (j / 13) x hxj (j % 13) u hk
        rw [show o + j / 13 * 13 + j % 13 = o + j by omega] at this
        rw [add_lit0]
        exact this)
      (fun u hu => by
        obtain ⟨x, _, hx⟩ := List.mem_flatMap.1 hu
        exact mcC_one x u hx) (by simp only [maxLen]; omega) (by omega) hB
    refine ⟨v', w', hr, ?_, (Below.refl _ _).grown h2 hB fun k hk => (World.ownsRow.lt h k hk).1, h2⟩
    unfold OwnM
    rw [List.flatMap_append, List.length_append, ← hn]
    exact h1
theorem wpList_pushesM {w : World} {ops : Array Oper} {rest : List Oper} {o : Oper} {a : Act} {Q : Exit → Act → World → Prop} (hgd : o.guard = none) (s t : Operand)
    (ho : o.op = .call { callee := .builtin .append, args := #[s, t], argTypes := #[28, 28] }) (hty : o.type = 28) {B : Nat} {v u : Value} {l m : List Mc}
    (hs : a.eval s = v) (ht : a.eval t = u) (h : OwnM B w v l) (hu : Mcs w u m) (hB : B ≤ w.heap.size) (hn : (l.length + m.length) * 144 ≤ 140737488355328)
    (hK : ∀ v' w', OwnM B w' v' (l ++ m) → Below B w w' → w.grownBy w' v.ownBlock → wpList Try.prog ops Q rest (a.put o.dst v') w') : wpList Try.prog ops Q (o :: rest) a w := by
  obtain ⟨v', w', hr, h1, h2, h3⟩ := run_pushesM h hu hB hn
  exact Lib.wpList_append_run_sl _ hgd s t 28 ho v _ hs ht (by rw [hty]; exact hr) (hK v' w' h1 h2 h3)
end Go.Proofs.Ytiiollgipfggmaa
