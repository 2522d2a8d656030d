/- Words on bytes and numbers, out of several texts made one. -/
import Derived.Test.YtimjplkehlgelaaGreatFPut
/- A forest in memory: made, Len, Find. -/
namespace Go.Proofs.YtimjplkehlgelaaGreat
set_option linter.unusedVariables false
set_option linter.unusedSimpArgs false
open Go.RowKit

/-- What the spans of a forest keep. -/
structure FoOk (tr : Int) (L : List Sp) : Prop where
  ids : L.Pairwise fun x y => x.i ≠ y.i
  rises : NoRing L
  ok : ∀ x ∈ L, x.ok = true ∧ x.t = tr
  len : L.length ≤ 64
/-- A forest in the block g, its bag in b. -/
structure FoIs (w : World) (g b : Nat) (tr : Int) (L : List Sp) : Prop where
  c0 : w.cell? ⟨g, 0, none⟩ = some (.map (some b))
  c1 : w.cell? ⟨g, 1, none⟩ = some (.int .i64 tr)
  ne : g ≠ b
  bag : ∃ D, BagIs w b L D
  ok : FoOk tr L

theorem FoIs.below {w w' : World} {g b : Nat} {tr : Int} {L : List Sp} (h : FoIs w g b tr L) (hb : Below w.heap.size w w') : FoIs w' g b tr L :=
  ⟨(hb.cell (lt_of_cell h.c0)).trans h.c0, (hb.cell (lt_of_cell h.c1)).trans h.c1, h.ne, by obtain ⟨D, hD⟩ := h.bag; exact ⟨D, hD.below hb⟩, h.ok⟩
theorem FoIs.drewN {w : World} {g b : Nat} {tr : Int} {L : List Sp} (h : FoIs w g b tr L) (q : Nat) : FoIs (w.drewN q) g b tr L :=
  ⟨h.c0, h.c1, h.ne, by obtain ⟨D, hD⟩ := h.bag; exact ⟨D, hD.drewN q⟩, h.ok⟩

theorem bdrew {B : Nat} (w : World) (q : Nat) : Below B w (w.drewN q) := ⟨rfl, rfl, rfl, Nat.le_refl _, fun _ _ => rfl⟩
theorem bset {B : Nat} {w V : World} (h : Below B w V) {g i : Nat} {x : Value} (hB : B ≤ g) : Below B w (V.setCell ⟨g, i, none⟩ x) :=
  ⟨h.os, h.tape, h.output, by have := h.size; simpa [World.setCell] using this, fun k hk => (heap_setCell_other V ⟨g, i, none⟩ k _ (by simp; omega)).trans (h.block k hk)⟩
theorem run_some_map (b : Nat) (w : World) : (binOp .neq 103 (.map (some b)) (.map none)).run Tryz.prog w = .ok (.bool true) w := by
  kernel_rfl

set_option maxRecDepth 200000 in
set_option maxHeartbeats 1000000 in
theorem made_any {w : World} {g b : Nat} {tr : Int} {L : List Sp} (h : FoIs w g b tr L) : Calls Tryz.prog 60 #[.pointer (some ⟨g, 0, none⟩)] w fun e w' => e = .returned (.bool true) ∧ ∃ q, w' = w.drewN q := by
  have c0 := h.c0
  clear h
  have hneq := run_some_map b
  go_enter Tryz.func60, Tryz.ntmps60
  go_wp2
  go_ret
  exact ⟨rfl, 0, rfl⟩

end Go.Proofs.YtimjplkehlgelaaGreat
/- New. -/
namespace Go.Proofs.YtimjplkehlgelaaGreat
set_option linter.unusedVariables false
set_option linter.unusedSimpArgs false
open Go.RowKit

theorem run_makeBag (w : World) : (Instr.makeMap 103 none).run Tryz.prog w = .ok (.map (some w.heap.size)) (w.alloc (.map #[] 0)) := by
  kernel_rfl

set_option maxRecDepth 200000 in
set_option maxHeartbeats 1000000 in
theorem new_any {w : World} {tr : Int} (h1 : 1 ≤ tr) (h2 : tr ≤ 1099511627776) : Calls Tryz.prog 66 #[.int .i64 tr] w fun e w' => e = .returned (.pointer (some ⟨w.heap.size + 1, 0, none⟩)) ∧ FoIs w' (w.heap.size + 1) w.heap.size tr [] ∧ Below w.heap.size w w' := by
  have hmk := fun q => run_makeBag (w.drewN q)
  have hmk0 := run_makeBag w
  go_enter Tryz.func66, Tryz.ntmps66
  go_wp2
  go_ret
  have hs : (w.alloc (.map #[] 0)).heap.size = w.heap.size + 1 := by simp
  have b1 := (Below.refl w.heap.size w).alloc (Nat.le_refl _) (.map #[] 0)
  refine ⟨rfl, ⟨?_, ?_, by omega, ⟨_, (bag_new w).grown (World.grownBy_alloc _ _ none) (by simp)⟩, ⟨List.Pairwise.nil, noRing_nil, fun x hx => by simp at hx, by simp⟩⟩, b1.alloc b1.size _⟩
  · rw [← hs]
    exact cell_of_row _ _ 0 _ 105 (0, 0) (heap_alloc_new (w.alloc (.map #[] 0)) _)
  · rw [← hs]
    exact cell_of_row _ _ 1 _ 105 (0, 0) (heap_alloc_new (w.alloc (.map #[] 0)) _)
set_option maxRecDepth 200000 in
set_option maxHeartbeats 1000000 in
theorem new_none {w : World} {tr : Int} (h : tr < 1 ∨ 1099511627776 < tr) : Calls Tryz.prog 66 #[.int .i64 tr] w fun e w' => e = .returned (.pointer none) ∧ w' = w := by
  by_cases h1 : tr < 1
  · clear h
    go_enter Tryz.func66, Tryz.ntmps66
    go_wp2
    go_ret
    exact ⟨rfl, rfl⟩
  · have h2 : 1099511627776 < tr := by omega
    clear h
    go_enter Tryz.func66, Tryz.ntmps66
    go_wp2
    go_ret
    exact ⟨rfl, rfl⟩
end Go.Proofs.YtimjplkehlgelaaGreat
/- What putting a span into a forest keeps. -/
namespace Go.Proofs.YtimjplkehlgelaaGreat
set_option linter.unusedVariables false
set_option linter.unusedSimpArgs false
open Go.RowKit

theorem putP_sum (L : List Sp) (c : Cn) (x : Sp) : (putP L c x).2.sum = c.sum + 1 := by
  unfold putP Cn.sum
  cases fnd L x.i with
  | none => simp only; repeat' split
            all_goals simp only <;> omega
  | some o => simp only; split
              all_goals simp only <;> omega
theorem putP_same {L : List Sp} {c : Cn} {x : Sp} : (putP L c x).1 = L ∨ (fnd L x.i = none ∧ ¬ 64 ≤ L.length ∧ ring L x.i x.p = false ∧ (putP L c x).1 = L ++ [x]) := by
  unfold putP
  cases hf : fnd L x.i with
  | some o => simp only; split <;> exact .inl rfl
  | none =>
    simp only
    by_cases h1 : 64 ≤ L.length
    · rw [if_pos h1]; exact .inl rfl
    · rw [if_neg h1]
      by_cases h2 : ring L x.i x.p = true
      · rw [if_pos h2]; exact .inl rfl
      · rw [if_neg h2]
        exact .inr ⟨trivial, h1, by simpa using h2, rfl⟩
theorem putP_ok {tr : Int} {L : List Sp} {c : Cn} {x : Sp} (h : FoOk tr L) (hx : x.ok = true) (hp : x.p ≠ x.i) (ht : x.t = tr) : FoOk tr (putP L c x).1 := by
  rcases putP_same (L := L) (c := c) (x := x) with e | ⟨h1, h2, h3, e⟩
  · rw [e]; exact h
  · rw [e]
    refine ⟨?_, noRing_add h.ids h.rises h1 h3 hp, fun y hy => ?_, by rw [List.length_append, List.length_singleton]; omega⟩
    · rw [List.pairwise_append]
      refine ⟨h.ids, List.pairwise_singleton _ _, fun a ha y hy => ?_⟩
      simp only [List.mem_cons, List.not_mem_nil, or_false] at hy
      subst hy
      exact fnd_none.1 h1 a ha
    · rcases List.mem_append.1 hy with hy | hy
      · exact h.ok y hy
      · simp only [List.mem_cons, List.not_mem_nil, or_false] at hy
        subst hy
        exact ⟨hx, ht⟩
/-- Many put, one behind the other. -/
noncomputable def putsP : List Sp → Cn → List Sp → List Sp × Cn
  | L, c, [] => (L, c)
  | L, c, x :: r => putsP (putP L c x).1 (putP L c x).2 r
theorem putsP_snoc : ∀ (l : List Sp) (L : List Sp) (c : Cn) (x : Sp), putsP L c (l ++ [x]) = putP (putsP L c l).1 (putsP L c l).2 x
  | [], L, c, x => rfl
  | y :: r, L, c, x => by
    rw [List.cons_append]
    unfold putsP
    exact putsP_snoc r _ _ x
theorem putsP_app : ∀ (l m : List Sp) (L : List Sp) (c : Cn), putsP L c (l ++ m) = putsP (putsP L c l).1 (putsP L c l).2 m
  | [], m, L, c => rfl
  | y :: r, m, L, c => by
    rw [List.cons_append]
    conv => lhs; unfold putsP
    conv => rhs; rw [show putsP L c (y :: r) = putsP (putP L c y).1 (putP L c y).2 r from rfl]
    exact putsP_app r m _ _
theorem putsP_sum : ∀ (l : List Sp) (L : List Sp) (c : Cn), (putsP L c l).2.sum = c.sum + l.length
  | [], L, c => rfl
  | y :: r, L, c => by
    unfold putsP
    rw [putsP_sum r, putP_sum, List.length_cons]
    omega
theorem putsP_ok {tr : Int} : ∀ (l : List Sp) {L : List Sp} {c : Cn}, FoOk tr L → (∀ x ∈ l, x.ok = true ∧ x.p ≠ x.i ∧ x.t = tr) → FoOk tr (putsP L c l).1
  | [], L, c, h, _ => h
  | y :: r, L, c, h, hl => by
    have hy := hl y (List.mem_cons_self ..)
    exact putsP_ok r (putP_ok h hy.1 hy.2.1 hy.2.2) fun x hx => hl x (List.mem_cons_of_mem _ hx)
end Go.Proofs.YtimjplkehlgelaaGreat
