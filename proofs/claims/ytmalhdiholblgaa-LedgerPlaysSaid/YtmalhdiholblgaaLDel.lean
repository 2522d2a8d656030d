/- slices.Delete of all entries from one on: what of the world stays. -/
import Derived.Test.YtmalhdiholblgaaLAddW
namespace Go.Proofs.Ytmalhdiholblgaa
set_option linter.unusedVariables false
set_option linter.unusedSimpArgs false
open Go.RowKit

theorem zeroCells_one {n : Nat} : ∀ v ∈ (Builtin.zeroCells #[.int .i64 0, .int .i64 0, .slice none 0 0] n).toList, v.oneCell' = true := by
  intro v hv
  unfold Builtin.zeroCells at hv
  simp at hv
  obtain ⟨i, _, rfl⟩ := hv
  have : i % 3 = 0 ∨ i % 3 = 1 ∨ i % 3 = 2 := by omega
  rcases this with h | h | h <;> (rw [h]; rfl)
theorem zeroCells_len {n : Nat} : (Builtin.zeroCells #[.int .i64 0, .int .i64 0, .slice none 0 0] n).toList.length = n * 3 := by
  unfold Builtin.zeroCells
  simp
theorem run_clear_ec (w : World) (ty : TypeId) (b o n c : Nat) (hn : 0 < n) (hc : ∀ j, j < n * 3 → (w.cell? ⟨b, o + j, none⟩).isSome = true) (hf : ∀ j, j < n * 3 → w.frozen? ⟨b, o + j, none⟩ = false) :
    (Builtin.clear_ #[22] ty #[.slice (some ⟨b, o, none⟩) n c]).run Try.prog w = .ok (.tuple #[]) (w.setCells b o (Builtin.zeroCells #[.int .i64 0, .int .i64 0, .slice none 0 0] n).toList) := by
  obtain ⟨i0, hi0, hz0, hz1, hz2⟩ := info_parts Try.infoEc
  have hv : ∀ w, (zeroValue 48).run Try.prog w = .ok (.agg #[.int .i64 0, .int .i64 0, .slice none 0 0]) w := fun w => by
    simp [zeroValue, typeInfo, hi0, hz0]
  have hst := run_storeCells_cells (P := Try.prog) b o (Builtin.zeroCells #[.int .i64 0, .int .i64 0, .slice none 0 0] n).toList 0 w (by rw [zeroCells_len]; simpa using hc) (by rw [zeroCells_len]; simpa using hf) zeroCells_one
  simp only [Nat.add_zero] at hst
  obtain ⟨m, rfl⟩ : ∃ m, n = m + 1 := ⟨n - 1, by omega⟩
  simp [Builtin.clear_, run_underlying Try.underlying22, hv, Value.cells, hst]
theorem OwnE.front {B : Nat} {w : World} {g cap : Nat} {E : List Ec} (h : OwnE B w (.slice (some ⟨g, 0, none⟩) E.length cap) E) {k : Nat} (hk : k ≤ E.length) : OwnE B w (.slice (some ⟨g, 0, none⟩) k cap) (E.take k) := by
  obtain ⟨h0, ⟨h1, _⟩ | ⟨g', cap', cur, e, h1, h2, h3, h4, h5, h6⟩⟩ := h
  · cases h1
  · injection e with e1 e2 e3
    injection e1 with e1
    injection e1 with e1 _ _
    subst e1 e3
    have hl : (E.take k).length = k := by rw [List.length_take]; omega
    refine ⟨by rw [eflat_len], .inr ⟨g, cap, cur, by rw [hl], h1, h2, by omega, h4, h5, ?_⟩⟩
    rw [hl]
    have h7 : cur.toList.take (k * 3) = (cur.toList.take (E.length * 3)).take (k * 3) := by rw [List.take_take, Nat.min_eq_left (by omega)]
    rw [h7, h6]
    have h8 : E.flatMap ecC = (E.take k).flatMap ecC ++ (E.drop k).flatMap ecC := by rw [← List.flatMap_append, List.take_append_drop]
    rw [h8, List.take_append_of_le_length (by rw [eflat_len, hl]; exact Nat.le_refl _), List.take_of_length_le (by rw [eflat_len, hl]; exact Nat.le_refl _)]
theorem OwnE.room {B : Nat} {w : World} {g cap : Nat} {E : List Ec} (h : OwnE B w (.slice (some ⟨g, 0, none⟩) E.length cap) E) : B ≤ g ∧ E.length ≤ cap ∧ cap ≤ maxLen ∧ (∀ j, j < cap * 3 → (w.cell? ⟨g, j, none⟩).isSome = true) ∧ (∀ j, j < cap * 3 → w.frozen? ⟨g, j, none⟩ = false) := by
  obtain ⟨h0, ⟨h1, _⟩ | ⟨g', cap', cur, e, h1, h2, h3, h4, h5, h6⟩⟩ := h
  · cases h1
  · injection e with e1 e2 e3
    injection e1 with e1
    injection e1 with e1 _ _
    subst e1 e3
    refine ⟨h1, h3, h4, fun j hj => ?_, fun j hj => ?_⟩
    · rw [cell_of_row _ g j _ _ (0, 0) h2, Array.getElem?_eq_getElem (by omega)]
      rfl
    · unfold World.frozen?
      simp [h2]
set_option maxRecDepth 200000 in
set_option maxHeartbeats 4000000 in
theorem deleteW_any {B : Nat} {w : World} {g cap : Nat} {E : List Ec} (h : OwnE B w (.slice (some ⟨g, 0, none⟩) E.length cap) E) {k : Nat} (hk : k < E.length) (hB : B ≤ w.heap.size) : Calls Try.prog 29 #[.slice (some ⟨g, 0, none⟩) E.length cap, .int .i64 k, .int .i64 E.length] w fun e w' => e = .returned (.slice (some ⟨g, 0, none⟩) k cap) ∧ Below B w w' ∧ w.grownBy w' (some g) := by
  obtain ⟨r1, r2, r3, r4, r5⟩ := h.room
  have hpre := h.front (Nat.le_of_lt hk)
  obtain ⟨n, hn⟩ : ∃ n, E.length = n := ⟨_, rfl⟩
  rw [hn] at hk r2 ⊢
  have HAP : Hid (∀ p c, (Builtin.append_ #[22, 22] 22 #[.slice (some ⟨g, 0, none⟩) k cap, .slice p 0 c]).run Try.prog w.drew = .ok (.slice (some ⟨g, 0, none⟩) k cap) w.drew) := hide fun p c => run_pushE_none (World.ownsRow.drew hpre) p c
  have HCL : Hid (∀ ty c, (Builtin.clear_ #[22] ty #[.slice (some ⟨g, k * 3, none⟩) (n - k) c]).run Try.prog w.drew = .ok (.tuple #[]) (w.drew.setCells g (k * 3) (Builtin.zeroCells #[.int .i64 0, .int .i64 0, .slice none 0 0] (n - k)).toList)) := hide fun ty c => run_clear_ec w.drew ty g (k * 3) (n - k) c (by omega) (fun j hj => r4 _ (by omega)) (fun j hj => r5 _ (by omega))
  have hkn : ((k : Int) == (n : Int)) = false := by simp; omega
  have hkc : k ≤ cap := by omega
  have hck : ¬ cap = k := by omega
  have hm : cap ≤ 9223372036854775807 := by unfold maxLen at r3; omega
  obtain ⟨W9, hW9⟩ : ∃ W9, w.drew.setCells g (k * 3) (Builtin.zeroCells #[.int .i64 0, .int .i64 0, .slice none 0 0] (n - k)).toList = W9 := ⟨_, rfl⟩
  have HZ : Hid (Below B w W9 ∧ w.grownBy W9 (some g)) := hide (by
    rw [← hW9]
    exact ⟨below_setCells' r1 _ _ ⟨rfl, rfl, rfl, Nat.le_refl _, fun _ _ => rfl⟩, gtrans (b := w.drew) ⟨rfl, rfl, rfl, Nat.le_refl _, fun _ _ _ => rfl⟩ (grown_setCells g _ _ w.drew)⟩)
  rw [hW9] at HCL
  clear h hpre hn r4 r5 r3 hW9
  go_enter Try.func29, Try.ntmps29
  go_wp2_with fail
  go_region_law (refine step_append_runE (by rfl) _ _ (by rfl) (by rfl) (by rfl) (by rfl) (HAP.out _ _) ?_)
  have hcl := fun c => HCL.out 0 c
  go_wp2
  all_goals
    go_ret
    exact ⟨rfl, HZ.out⟩
end Go.Proofs.Ytmalhdiholblgaa
