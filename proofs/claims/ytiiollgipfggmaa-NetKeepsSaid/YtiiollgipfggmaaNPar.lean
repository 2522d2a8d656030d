/- Parcels in memory. -/
import Derived.Test.YtiiollgipfggmaaNRdA
import Derived.Test.YtiiollgipfggmaaShelfB
import Derived.Deep.RegionLaw
import Derived.Deep.RegionHeld3
import Derived.Maps.AppendAt
namespace Go.Proofs.Ytiiollgipfggmaa
set_option linter.unusedVariables false
set_option linter.unusedSimpArgs false
open Go.RowKit

/-- A parcel as it lies. -/
structure Pc where
  i : Int
  p : Option Go.Addr
  n : Nat
  c : Nat
deriving Inhabited
def pcC (x : Pc) : List Value := [.int .i64 x.i, .slice x.p x.n x.c]
theorem pcC_length (x : Pc) : (pcC x).length = 2 := rfl
theorem pcC_one (x : Pc) : ∀ v ∈ pcC x, v.oneCell' = true := by
  intro v hv
  simp only [pcC, List.mem_cons, List.not_mem_nil, or_false] at hv
  rcases hv with rfl | rfl <;> rfl
theorem pflat_len (l : List Pc) : (l.flatMap pcC).length = l.length * 2 := by
  induction l with
  | nil => rfl
  | cons x r ih => rw [List.flatMap_cons, List.length_append, ih, pcC_length, List.length_cons]; omega
theorem pflat_at : ∀ (l : List Pc) (i k : Nat) {x : Pc}, l[i]? = some x → k < 2 → (l.flatMap pcC)[i * 2 + k]? = (pcC x)[k]?
  | [], i, k, x, h, _ => by simp at h
  | y :: r, 0, k, x, h, hk => by
    simp only [List.getElem?_cons_zero, Option.some.injEq] at h
    subst h
    rw [List.flatMap_cons, List.getElem?_append_left (by rw [pcC_length]; omega), Nat.zero_mul, Nat.zero_add]
  | y :: r, i + 1, k, x, h, hk => by
    rw [List.getElem?_cons_succ] at h
    have ih := pflat_at r i k h hk
    rw [List.flatMap_cons, List.getElem?_append_right (by rw [pcC_length]; omega), pcC_length, ← ih]
    congr 1
    omega
/-- Parcels in a row of their own from B on; or nil. -/
def OwnP (B : Nat) (w : World) (v : Value) (l : List Pc) : Prop := w.ownsRow B 91 2 v l.length (l.flatMap pcC)
theorem OwnP.nil (B : Nat) (w : World) : OwnP B w (.slice none 0 0) [] := World.ownsRow_nil _ _ _ _
theorem OwnP.lt {B : Nat} {w : World} {v : Value} {l : List Pc} (h : OwnP B w v l) : ∀ k, v.ownBlock = some k → B ≤ k ∧ k < w.heap.size := World.ownsRow.lt h
theorem OwnP.below {B : Nat} {w w' : World} {v : Value} {l : List Pc} (h : OwnP B w v l) (hb : Below w.heap.size w w') : OwnP B w' v l := World.ownsRow.kept (row := none) h ⟨hb.os, hb.tape, hb.output, hb.size, fun k hk _ => hb.block k hk⟩ (by cases v.ownBlock <;> simp)
theorem OwnP.grown {B : Nat} {w w' : World} {v : Value} {l : List Pc} {row : Option Nat} (h : OwnP B w v l) (hg : w.grownBy w' row) (hne : v.ownBlock = none ∨ v.ownBlock ≠ row) : OwnP B w' v l := World.ownsRow.kept h hg hne
theorem OwnP.sl {B : Nat} {w : World} {v : Value} {l : List Pc} (h : OwnP B w v l) : ∃ p c, v = .slice p l.length c ∧ l.length ≤ c ∧ c ≤ maxLen := by
  obtain ⟨_, ⟨rfl, h0⟩ | ⟨g, cap, cur, rfl, _, _, h1, h2, _⟩⟩ := h
  · exact ⟨none, 0, by rw [h0], by omega, by simp [maxLen]⟩
  · exact ⟨_, cap, rfl, h1, h2⟩
theorem OwnP.at_ {B : Nat} {w : World} {p : Option Addr} {n c : Nat} {l : List Pc} (h : OwnP B w (.slice p n c) l) (hn : 0 < n) : ∃ g, p = some ⟨g, 0, none⟩ ∧ B ≤ g ∧ ∀ (i : Nat) x, l[i]? = some x → ∀ (k : Nat) u, (pcC x)[k]? = some u → w.cell? ⟨g, i * 2 + k, none⟩ = some u := by
  obtain ⟨h0, ⟨e, h1⟩ | ⟨g, cap, cur, e, hB, hh, hc, hm, hs, ht⟩⟩ := h
  · injection e with _ e2 _
    omega
  · injection e with e1 e2 e3
    subst e1 e2 e3
    refine ⟨g, rfl, hB, fun i x hi k u hu => ?_⟩
    have hil := (List.getElem?_eq_some_iff.1 hi).1
    have hk : k < 2 := by have := (List.getElem?_eq_some_iff.1 hu).1; rw [pcC_length] at this; exact this
    have h1 := pflat_at l i k hi hk
    rw [hu, ← ht, List.getElem?_take_of_lt (by omega), Array.getElem?_toList] at h1
    rw [cell_of_row w g _ cur _ (0, 0) hh]
    exact h1
theorem Try.infoPc : (Try.prog.info? 91).map (fun i => (i.zero, i.size, i.bytes)) = some (some (.agg #[.int .i64 0, .slice none 0 0]), 2, 32) := by kernel_rfl
theorem run_pushP {B : Nat} {w : World} {v : Value} {l : List Pc} (h : OwnP B w v l) (x : Pc) (hB : B ≤ w.heap.size) (hs : l.length ≤ 1000000) :
    ∃ v' w', (Builtin.append_ #[64, 64] 64 #[v, .slice (some ⟨w.heap.size, 0, none⟩) 1 1]).run Try.prog (w.alloc (.cells #[.int .i64 x.i, .slice x.p x.n x.c] 91)) = .ok v' w' ∧ OwnP B w' v' (l ++ [x]) ∧ w.grownBy w' v.ownBlock ∧ (v'.ownBlock = v.ownBlock ∨ v'.ownBlock = some (w.heap.size + 1)) := by
  obtain ⟨i0, hi0, hz0, hz1, hz2⟩ := info_parts Try.infoPc
  have ho' := World.ownsRow.alloc h (.cells #[.int .i64 x.i, .slice x.p x.n x.c] 91)
  obtain ⟨v', w', hr, h1, h2, _, h4⟩ := run_append_own_at (P := Try.prog) (w.alloc (.cells #[.int .i64 x.i, .slice x.p x.n x.c] 91)) B 64 64 91 i0 _ 2 32 Try.underlying64 hi0 hz0 hz1 hz2 rfl (by decide) v l.length (l.flatMap pcC) ho' ⟨w.heap.size, 0, none⟩ 1 1 (pcC x) rfl
    (fun j u hj => by
      rw [add_lit0, Nat.zero_add, cell_of_row _ w.heap.size j _ 91 (0, 0) (heap_alloc_new w _)]
      simpa [pcC] using hj)
    (pcC_one x) (by simp only [maxLen]; omega) (by omega) (by simp; omega)
  refine ⟨v', w', hr, ?_, ?_, by simpa using h4⟩
  · have : (l ++ [x]).flatMap pcC = l.flatMap pcC ++ pcC x := by simp
    unfold OwnP
    rw [this, List.length_append]
    exact h1
  · refine ⟨h2.os, h2.tape, h2.output, ?_, fun k hk hne => ?_⟩
    · have := h2.size
      simp at this
      omega
    · rw [h2.block k (by simp; omega) hne]
      exact heap_alloc_old _ _ hk
theorem step_pushP1 {w : World} {ops : Array Oper} {o : Oper} {a : Act} {K : Act → World → Prop} {Q : Exit → Act → World → Prop} {E : Prop} (hgd : o.guard = none) (s x : Operand)
    (ho : o.op = .call { callee := .builtin .append, args := #[s, x], argTypes := #[64, 64] }) (hty : o.type = 64) {B : Nat} {v : Value} {l : List Pc} (y : Pc) {H : Nat}
    (hs : a.eval s = v) (hx : a.eval x = .slice (some ⟨H, 0, none⟩) 1 1) (hH : H = w.heap.size) (h : OwnP B w v l) (hB : B ≤ w.heap.size) (hn : l.length ≤ 1000000)
    (hK : ∀ v' w', OwnP B w' v' (l ++ [y]) → w.grownBy w' v.ownBlock → (v'.ownBlock = v.ownBlock ∨ v'.ownBlock = some (w.heap.size + 1)) → K (a.put o.dst v') w') : if Region.wanted o (yielded ops a.tmps) = true then Oper.wp Try.prog o a (w.alloc (.cells #[.int .i64 y.i, .slice y.p y.n y.c] 91)) K Q else E := by
  subst hH
  obtain ⟨v', w', hr, h1, h2, h3⟩ := run_pushP h y hB hn
  have hw : Region.wanted o (yielded ops a.tmps) = true := by simp [Region.wanted, hgd]
  rw [if_pos hw]
  exact Lib.wp_append_run_sl _ s x 64 ho v _ hs hx (by rw [hty]; exact hr) (hK v' w' h1 h2 h3)

/-! ## slices.Delete of one -/
theorem zeroP_toList : (Builtin.zeroCells #[.int .i64 0, .slice none 0 0] 1).toList = [.int .i64 0, .slice none 0 0] := by kernel_rfl
theorem run_clearP (w : World) (ty : TypeId) (b o c : Nat) (hc : ∀ j, j < 2 → (w.cell? ⟨b, o + j, none⟩).isSome = true) (hf : ∀ j, j < 2 → w.frozen? ⟨b, o + j, none⟩ = false) :
    (Builtin.clear_ #[64] ty #[.slice (some ⟨b, o, none⟩) 1 c]).run Try.prog w = .ok (.tuple #[]) (w.setCells b o [.int .i64 0, .slice none 0 0]) := by
  obtain ⟨i0, hi0, hz0, hz1, hz2⟩ := info_parts Try.infoPc
  have hv : ∀ w, (zeroValue 91).run Try.prog w = .ok (.agg #[.int .i64 0, .slice none 0 0]) w := fun w => by
    simp [zeroValue, typeInfo, hi0, hz0]
  have hst := run_storeCells_cells (P := Try.prog) b o (Builtin.zeroCells #[.int .i64 0, .slice none 0 0] 1).toList 0 w (by rw [zeroP_toList]; simpa using hc) (by rw [zeroP_toList]; simpa using hf) (by rw [zeroP_toList]; intro v hv; simp at hv; rcases hv with rfl | rfl <;> rfl)
  simp only [Nat.add_zero] at hst
  rw [zeroP_toList] at hst
  simp [Builtin.clear_, run_underlying Try.underlying64, hv, Value.cells, zeroP_toList, hst]
/-- What the row is behind a deletion. -/
theorem OwnP.del {B : Nat} {w : World} {g cap : Nat} {E : List Pc} (h : OwnP B w (.slice (some ⟨g, 0, none⟩) E.length cap) E) {k : Nat} (hk : k < E.length) :
    ∃ w1, (∀ (a : Addr) c, (a = ⟨g, (k + 1) * 2, none⟩ ∨ E.length = k + 1) → (Builtin.append_ #[64, 64] 64 #[.slice (some ⟨g, 0, none⟩) k cap, .slice (some a) (E.length - (k + 1)) c]).run Try.prog w = .ok (.slice (some ⟨g, 0, none⟩) (E.length - 1) cap) w1) ∧
      (∀ j, j < cap * 2 → (w1.cell? ⟨g, j, none⟩).isSome = true) ∧ (∀ j, j < cap * 2 → w1.frozen? ⟨g, j, none⟩ = false) ∧ w.grownBy w1 (some g) ∧ (E.length = k + 1 → w1 = w) ∧
      ∀ w2, w2 = w1.setCells g ((E.length - 1) * 2) [.int .i64 0, .slice none 0 0] → OwnP B w2 (.slice (some ⟨g, 0, none⟩) (E.length - 1) cap) (E.eraseIdx k) ∧ w.grownBy w2 (some g) := by
  obtain ⟨h0, ⟨e, h1⟩ | ⟨g', cap', cur, e, hB, hh, hc, hm, hs, ht⟩⟩ := h
  · injection e with _ e2 _
    omega
  · injection e with e1 e2 e3
    injection e1 with e1
    injection e1 with e1 _ _
    subst e1 e3
    obtain ⟨i0, hi0, hz0, hz1, hz2⟩ := info_parts Try.infoPc
    have hfl := pflat_len E
    have hsp : E.flatMap pcC = (E.take k).flatMap pcC ++ (E.drop k).flatMap pcC := by rw [← List.flatMap_append, List.take_append_drop]
    have hsp2 : E.flatMap pcC = (E.take (k + 1)).flatMap pcC ++ (E.drop (k + 1)).flatMap pcC := by rw [← List.flatMap_append, List.take_append_drop]
    have hl1 : ((E.take k).flatMap pcC).length = k * 2 := by rw [pflat_len, List.length_take]; omega
    have hl2 : ((E.drop (k + 1)).flatMap pcC).length = (E.length - (k + 1)) * 2 := by rw [pflat_len, List.length_drop]
    have hl3 : ((E.take (k + 1)).flatMap pcC).length = (k + 1) * 2 := by rw [pflat_len, List.length_take]; omega
    have htk : cur.toList.take (k * 2) = (E.take k).flatMap pcC := by
      have : cur.toList.take (k * 2) = (cur.toList.take (E.length * 2)).take (k * 2) := by rw [List.take_take, Nat.min_eq_left (by omega)]
      rw [this, ht, hsp, ← hl1, List.take_left]
    have hcs : cur.toList.length = cap * 2 := by rw [Array.length_toList]; exact hs
    have hcell : ∀ a : Addr, (a = ⟨g, (k + 1) * 2, none⟩ ∨ E.length = k + 1) → ∀ (j : Nat) u, ((E.drop (k + 1)).flatMap pcC)[j]? = some u → w.cell? (a.add j) = some u := fun a ha j u hj => by
      have hjl := (List.getElem?_eq_some_iff.1 hj).1
      rcases ha with rfl | ha
      rotate_left
      · rw [hl2] at hjl
        omega
      rw [add_lit0, cell_of_row w g _ cur _ (0, 0) hh]
      have : cur.toList[(k + 1) * 2 + j]? = some u := by
        have h2 : (cur.toList.take (E.length * 2))[(k + 1) * 2 + j]? = cur.toList[(k + 1) * 2 + j]? := List.getElem?_take_of_lt (by omega)
        rw [← h2, ht, hsp2, List.getElem?_append_right (by omega), hl3, Nat.add_sub_cancel_left]
        exact hj
      rw [Array.getElem?_toList] at this
      exact this
    have hrun := fun (a : Addr) c (ha : a = ⟨g, (k + 1) * 2, none⟩ ∨ E.length = k + 1) => run_append_room (P := Try.prog) (w := w) 64 64 91 i0 Try.underlying64 hi0 g k cap cur hh a (E.length - (k + 1)) c ((E.drop (k + 1)).flatMap pcC) (by rw [hl2, hz1]) (hcell a ha) (fun u hu => by
      obtain ⟨x, _, hx⟩ := List.mem_flatMap.1 hu
      exact pcC_one x u hx) (by omega) (by rw [hz1, hl2, hs]; omega)
    obtain ⟨cur1, hcur1⟩ : ∃ c, (cur.toList.take (k * i0.size) ++ (E.drop (k + 1)).flatMap pcC ++ cur.toList.drop (k * i0.size + ((E.drop (k + 1)).flatMap pcC).length)).toArray = c := ⟨_, rfl⟩
    rw [hz1] at hcur1
    rw [hz1] at hrun
    rw [hcur1] at hrun
    have hs1 : cur1.size = cap * 2 := by
      rw [← hcur1]
      simp only [List.size_toArray, List.length_append, List.length_take, List.length_drop, hl2, hcs]
      omega
    have hh1 := setRow_heap w g cur cur1 91 (0, 0) hh
    have ht1 : cur1.toList.take ((E.length - 1) * 2) = (E.eraseIdx k).flatMap pcC := by
      rw [← hcur1, htk]
      have e1 : (E.eraseIdx k).flatMap pcC = (E.take k).flatMap pcC ++ (E.drop (k + 1)).flatMap pcC := by
        rw [List.eraseIdx_eq_take_drop_succ, List.flatMap_append]
      rw [e1]
      simp only []
      rw [List.take_append_of_le_length (by rw [List.length_append, hl1, hl2]; omega), List.take_of_length_le (by rw [List.length_append, hl1, hl2]; omega)]
    have hge : w.grownBy (w.setRow g cur1) (some g) := by
      refine ⟨rfl, rfl, rfl, by simp, fun j hj hne => ?_⟩
      unfold World.setRow
      rw [Array.getElem?_modify, if_neg (fun e => hne (congrArg some e.symm))]
    refine ⟨w.setRow g cur1, fun a c ha => ?_, fun j hj => ?_, fun j hj => ?_, hge, fun he => ?_, fun w2 hw2 => ?_⟩
    · rw [hrun a c ha, show k + (E.length - (k + 1)) = E.length - 1 by omega]
    · obtain ⟨u, hu⟩ : ∃ u, cur1[j]? = some u := ⟨_, Array.getElem?_eq_getElem (by omega)⟩
      rw [cell_of_row _ g j _ _ (0, 0) hh1, hu]
      rfl
    · exact frozen_of_row _ g j _ _ hh1
    · have e1 : cur1 = cur := by
        rw [← hcur1, List.drop_eq_nil_of_le (by omega)]
        simp
      rw [e1]
      exact setRow_self w g cur _ _ hh
    · have q1 := heap_setCell_same (w.setRow g cur1) g ((E.length - 1) * 2) _ 91 (.int .i64 0) hh1
      have q2 := heap_setCell_same _ g ((E.length - 1) * 2 + 1) _ 91 (.slice none 0 0) q1
      have e2 : w2 = ((w.setRow g cur1).setCell ⟨g, (E.length - 1) * 2, none⟩ (.int .i64 0)).setCell ⟨g, (E.length - 1) * 2 + 1, none⟩ (.slice none 0 0) := by rw [hw2]; rfl
      have hel : (E.eraseIdx k).length = E.length - 1 := List.length_eraseIdx_of_lt hk
      refine ⟨?_, ?_⟩
      · unfold OwnP
        rw [hel]
        refine ⟨by rw [pflat_len, hel], .inr ⟨g, cap, _, rfl, hB, by rw [e2]; exact q2, by omega, hm, by simp [hs1], ?_⟩⟩
        rw [← ht1]
        simp only [Array.toList_setIfInBounds]
        rw [List.take_set_of_le (by omega), List.take_set_of_le (by omega)]
      · rw [e2]
        exact gtrans (gtrans hge (grown_set _ _ _ _)) (grown_set _ _ _ _)
end Go.Proofs.Ytiiollgipfggmaa
