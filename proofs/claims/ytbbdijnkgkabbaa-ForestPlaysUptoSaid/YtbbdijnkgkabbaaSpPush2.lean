/- Spans behind others: append of many. -/
import Derived.Test.YtbbdijnkgkabbaaSpPush
namespace Go.Proofs.Ytbbdijnkgkabbaa
set_option linter.unusedVariables false
set_option linter.unusedSimpArgs false
open Go.RowKit

theorem flat_get2 {l : List Sp} {j : Nat} {u : Value} (h : (l.flatMap spC)[j]? = some u) : ∃ x, l[j / 6]? = some x ∧ (spC x)[j % 6]? = some u := by
  have hj := (List.getElem?_eq_some_iff.1 h).1
  rw [flat_len] at hj
  have hx : l[j / 6]? = some (l[j / 6]'(by omega)) := List.getElem?_eq_getElem _
  refine ⟨_, hx, ?_⟩
  rw [← flat_at l (j / 6) (j % 6) hx (Nat.mod_lt _ (by omega)), show j / 6 * 6 + j % 6 = j by omega]
  exact h

theorem run_push_none {w : World} {v : Value} {l : List Sp} {B : Nat} (hv : OwnS B w v l) (p : Option Addr) (c : Nat) : (Builtin.append_ #[27, 27] 27 #[v, .slice p 0 c]).run Try.prog w = .ok v w := by
  obtain ⟨i0, hi0, hz0, hz1, hz2⟩ := info_parts Try.infoSp
  obtain ⟨_, ⟨rfl, _⟩ | ⟨g, cap, cur, rfl, _, _, hl, _⟩⟩ := hv
  · cases p <;> simp [Builtin.append_, run_underlying Try.underlying27, Go.sizeOf, typeInfo, hi0, Builtin.lenOf, Builtin.firstCells, loadCells, loadCellsFrom]
  · cases p <;> simp [Builtin.append_, run_underlying Try.underlying27, Go.sizeOf, typeInfo, hi0, Builtin.lenOf, Builtin.firstCells, hl, storeCells, loadCells, loadCellsFrom]

theorem run_pushes {B : Nat} {w : World} {v u : Value} {l m : List Sp} (h : OwnS B w v l) (hu : Sps w u m) (hB : B ≤ w.heap.size) (hs : (l.length + m.length) * 56 ≤ 140737488355328) :
    ∃ v' w', (Builtin.append_ #[27, 27] 27 #[v, u]).run Try.prog w = .ok v' w' ∧ OwnS B w' v' (l ++ m) ∧ Below B w w' ∧ w.grownBy w' v.ownBlock := by
  obtain ⟨i0, hi0, hz0, hz1, hz2⟩ := info_parts Try.infoSp
  obtain ⟨p, n, c, rfl⟩ := hu.sl
  have hn := hu.len.1
  by_cases h0 : n = 0
  · subst h0
    obtain rfl : m = [] := List.eq_nil_of_length_eq_zero hn.symm
    exact ⟨v, w, run_push_none h p c, by rw [List.append_nil]; exact h, Below.refl _ _, World.grownBy.refl _ _⟩
  · obtain ⟨g, o, rfl, hx⟩ := hu.at_ (by omega)
    obtain ⟨v', w', hr, h1, h2, _, h4⟩ := run_append_own_at (P := Try.prog) w B 27 27 33 i0 _ 6 56 Try.underlying27 hi0 hz0 hz1 hz2 rfl (by decide) v l.length (l.flatMap spC) h ⟨g, o, none⟩ n c (m.flatMap spC) (by rw [flat_len, hn])
      (fun j u hj => by
        obtain ⟨x, hxj, hk⟩ := flat_get2 hj
        have := hx (j / 6) x hxj (j % 6) u hk
        rw [show o + j / 6 * 6 + j % 6 = o + j by omega] at this
        rw [add_lit0]
        exact this)
      (fun u hu => by
        obtain ⟨x, _, hx⟩ := List.mem_flatMap.1 hu
        exact spC_one x u hx) (by simp only [maxLen]; omega) (by omega) hB
    refine ⟨v', w', hr, ?_, (Below.refl _ _).grown h2 hB fun k hk => (World.ownsRow.lt h k hk).1, h2⟩
    unfold OwnS
    rw [List.flatMap_append, List.length_append, ← hn]
    exact h1
theorem wpList_pushes {w : World} {ops : Array Oper} {rest : List Oper} {o : Oper} {a : Act} {Q : Exit → Act → World → Prop} (hgd : o.guard = none) (s t : Operand)
    (ho : o.op = .call { callee := .builtin .append, args := #[s, t], argTypes := #[27, 27] }) (hty : o.type = 27) {B : Nat} {v u : Value} {l m : List Sp}
    (hs : a.eval s = v) (ht : a.eval t = u) (h : OwnS B w v l) (hu : Sps w u m) (hB : B ≤ w.heap.size) (hn : (l.length + m.length) * 56 ≤ 140737488355328)
    (hK : ∀ v' w', OwnS B w' v' (l ++ m) → Below B w w' → w.grownBy w' v.ownBlock → wpList Try.prog ops Q rest (a.put o.dst v') w') : wpList Try.prog ops Q (o :: rest) a w := by
  obtain ⟨v', w', hr, h1, h2, h3⟩ := run_pushes h hu hB hn
  exact Lib.wpList_append_run_sl _ hgd s t 27 ho v _ hs ht (by rw [hty]; exact hr) (hK v' w' h1 h2 h3)
end Go.Proofs.Ytbbdijnkgkabbaa
