/- append(s, make([]byte, n)...): noughts behind what is there. -/
import Derived.Test.YtgbdjcekpdfpjaaGreatDoorVh
import Derived.Lib.AppendZerosOnto
import Derived.Lib.AppendZeros
namespace Go.Proofs.YtgbdjcekpdfpjaaGreatDoor
set_option linter.unusedVariables false
set_option linter.unusedSimpArgs false
open Go.RowKit

theorem zeros_list (n : Nat) : (Builtin.zeroCells (Value.int .u8 0).cells n).toList = (List.replicate n (0 : UInt8)).map bv := by
  apply List.ext_getElem (by simp [Builtin.zeroCells, Value.cells])
  intro i h1 h2
  simp [Builtin.zeroCells, Value.cells, bv, Nat.mod_one]
theorem run_append_zeros {w : World} {B : Nat} {v : Value} {l : List UInt8} (hv : Own B w v l) (k : Nat) (hs : l.length + k ≤ 140737488355328) (hB : B ≤ w.heap.size) :
    ∃ v' w', (Builtin.append_ #[40, 3] 40 #[v, .int .i64 (k : Int)]).run Tryz.prog w = .ok v' w' ∧ Own B w' v' (l ++ List.replicate k 0) ∧ Below B w w' := by
  obtain ⟨i0, hi0, hz0, hz1, hz2⟩ := info_parts Tryz.info5
  have hw : IntKind.i64.wrap (k : Int) = k := by rw [IntKind.wrap_i64]; omega
  have hneg : ¬ ((k : Int) < 0) := by omega
  have h48i : ¬ (281474976710656 < (k : Int) * (i0.bytes : Int)) := by rw [hz2]; omega
  rcases Nat.eq_zero_or_pos k with h0 | h0
  · subst h0
    refine ⟨v, w, ?_, by simpa using hv, Below.refl _ _⟩
    have hw0 : IntKind.i64.wrap 0 = 0 := by rw [IntKind.wrap_i64]; rfl
    rcases hv with ⟨rfl, rfl⟩ | ⟨g, cap, rfl, _, hl, _⟩
    · simp [Builtin.append_, run_underlying Tryz.underlying40, run_underlying Tryz.underlying3, Go.sizeOf, typeInfo, hi0, asInt, asIntOf, hw0]
    · simp [Builtin.append_, run_underlying Tryz.underlying40, run_underlying Tryz.underlying3, Go.sizeOf, typeInfo, hi0, asInt, asIntOf, hw0, hl, storeCells]
  · have hns : ¬ (k * i0.size = 0) := Nat.mul_ne_zero (by omega) (by omega)
    rcases hv with ⟨rfl, rfl⟩ | ⟨g, cap, rfl, hBg, hl, hcm, hcell, hsome, hfr⟩
    · have hr := Lib.run_append_nil_zeros (P := Tryz.prog) w 40 3 40 5 i0 (.int .u8 0) .i64 .i64 Tryz.underlying40 Tryz.underlying3 hi0 hz0 k h0 (by omega) (by omega) (by rw [hz2]; omega)
      have hge := grownCap_ge w k 0 5
      have hcm : grownCap w k 0 5 ≤ maxLen := grownCap_le_maxLen w k 0 5 (by unfold maxLen; omega)
      refine ⟨_, _, hr, ?_, ⟨rfl, rfl, rfl, by simp, fun j hj => heap_alloc_old w.drew _ (by have : w.drew.heap.size = w.heap.size := rfl; omega)⟩⟩
      have hrow : (w.drew.alloc (.cells (Builtin.zeroCells (Value.int .u8 0).cells k ++ Builtin.zeroCells (Value.int .u8 0).cells (grownCap w k 0 5 - k)) 5)).ownsRow w.heap.size 5 1 (.slice (some ⟨w.heap.size, 0, none⟩) k (grownCap w k 0 5)) k ((List.replicate k (0 : UInt8)).map bv) := by
        refine ⟨by simp, .inr ⟨w.heap.size, _, _, rfl, Nat.le_refl _, heap_alloc_new w.drew _, hge, hcm, ?_, ?_⟩⟩
        · simp only [Array.size_append, size_zeroCells, Value.cells]
          simp
          omega
        · rw [Array.toList_append, zeros_list]
          rw [show k * 1 = ((List.replicate k (0 : UInt8)).map bv).length by simp]
          exact List.take_left
      exact (Own.of_row (by simpa using hrow)).mono hB
    · by_cases hroom : l.length + k ≤ cap
      · have hlen : (l ++ List.replicate k (0 : UInt8)).length = l.length + k := by simp
        have hzl : ((List.replicate k (0 : UInt8)).map bv).length = k := by simp
        have hst := run_storeCells_cells (P := Tryz.prog) g l.length ((List.replicate k (0 : UInt8)).map bv) 0 w (fun j hj => by simp only [Nat.add_zero]; exact hsome _ (by rw [hzl] at hj; omega)) (fun j hj => by simp only [Nat.add_zero]; exact hfr _ (by rw [hzl] at hj; omega)) (oneCell_bytes _)
        simp only [Nat.add_zero] at hst
        rw [← zeros_list k] at hst
        have hr : (Builtin.append_ #[40, 3] 40 #[.slice (some ⟨g, 0, none⟩) l.length cap, .int .i64 (k : Int)]).run Tryz.prog w = .ok (.slice (some ⟨g, 0, none⟩) (l.length + k) cap) (w.setCells g l.length (Builtin.zeroCells (Value.int .u8 0).cells k).toList) := by
          simp [Builtin.append_, run_underlying Tryz.underlying40, run_underlying Tryz.underlying3, Go.sizeOf, typeInfo, zeroValue, hi0, hz0, hz1, asInt, asIntOf, hw, hneg, h48i, hroom, Addr.add_lit, hst, show k ≠ 0 by omega]
        rw [zeros_list] at hr
        refine ⟨_, _, hr, .inr ⟨g, cap, by rw [hlen], hBg, by omega, hcm, ?_, ?_, ?_⟩, below_setCells' hBg _ _ (Below.refl _ _)⟩
        · intro i y hy
          by_cases hi : i < l.length
          · rw [List.getElem?_append_left hi] at hy
            rw [World.cell?_setCells_out g _ _ _ _ (fun _ _ => .inl hi)]
            exact hcell i y hy
          · rw [List.getElem?_append_right (by omega)] at hy
            have hj := (List.getElem?_eq_some_iff.1 hy).1
            simp at hj
            have h := World.cell?_setCells_in g ((List.replicate k (0 : UInt8)).map bv) l.length w (fun j hj => hsome _ (by rw [hzl] at hj; omega)) (i - l.length) (by simp; omega)
            rw [show l.length + (i - l.length) = i by omega] at h
            rw [h, List.getElem_map]
            have := (List.getElem?_eq_some_iff.1 hy).2
            rw [this]
        · intro i hi
          exact World.isSome_setCells g _ _ _ _ (hsome i hi)
        · intro i hi
          rw [World.frozen?_setCells]
          exact hfr i hi
      · have hold : (Builtin.firstCells i0.size l.length (.slice (some ⟨g, 0, none⟩) l.length cap)).run Tryz.prog w.drew = .ok (l.map bv).toArray w.drew := by
          refine run_firstCells_some (P := Tryz.prog) w.drew i0.size l.length ⟨g, 0, none⟩ l.length cap (l.map bv) (by rw [hz1]; simp) (fun j u hj => ?_)
          rw [List.getElem?_map] at hj
          obtain ⟨y, hy, rfl⟩ := Option.map_eq_some_iff.1 hj
          rw [add_lit0, Nat.zero_add]
          exact hcell j y hy
        have hr := Lib.run_append_grow_zeros (P := Tryz.prog) w 40 3 40 5 i0 (.int .u8 0) .i64 .i64 Tryz.underlying40 Tryz.underlying3 hi0 hz0 (some ⟨g, 0, none⟩) l.length cap (l.map bv) hold k h0 (by omega) (by omega) (by omega) (by rw [hz2]; omega) (growslice_fits (by omega) (by rw [hz2]; omega))
        have hge := grownCap_ge w (l.length + k) cap 5
        have hcm : grownCap w (l.length + k) cap 5 ≤ maxLen := grownCap_le_maxLen w (l.length + k) cap 5 (by unfold maxLen; omega)
        refine ⟨_, _, hr, ?_, ⟨rfl, rfl, rfl, by simp, fun j hj => heap_alloc_old w.drew _ (by have : w.drew.heap.size = w.heap.size := rfl; omega)⟩⟩
        have hrow : (w.drew.alloc (.cells ((l.map bv).toArray ++ Builtin.zeroCells (Value.int .u8 0).cells k ++ Builtin.zeroCells (Value.int .u8 0).cells (grownCap w (l.length + k) cap 5 - (l.length + k))) 5)).ownsRow w.heap.size 5 1 (.slice (some ⟨w.heap.size, 0, none⟩) (l.length + k) (grownCap w (l.length + k) cap 5)) (l.length + k) ((l ++ List.replicate k (0 : UInt8)).map bv) := by
          refine ⟨by simp, .inr ⟨w.heap.size, _, _, rfl, Nat.le_refl _, heap_alloc_new w.drew _, hge, hcm, ?_, ?_⟩⟩
          · simp only [Array.size_append, size_zeroCells, Value.cells]
            simp
            omega
          · rw [Array.toList_append, Array.toList_append, zeros_list]
            rw [show (l.length + k) * 1 = ((l.map bv).toArray.toList ++ (List.replicate k (0 : UInt8)).map bv).length by simp, List.take_left]
            simp
        exact (Own.of_row (l := l ++ List.replicate k 0) (by simpa using hrow)).mono hB
theorem wpList_append_zeros {w : World} {ops : Array Oper} {rest : List Oper} {o : Oper} {a : Act} {Q : Exit → Act → World → Prop} (hgd : o.guard = none) (s x : Operand)
    (ho : o.op = .call { callee := .builtin .append, args := #[s, x], argTypes := #[40, 3] }) (hty : o.type = 40) {B : Nat} {v : Value} {l : List UInt8} {k : Nat}
    (hs : a.eval s = v) (hy : a.eval x = .int .i64 (k : Int)) (hv : Own B w v l) (hl : l.length + k ≤ 140737488355328) (hB : B ≤ w.heap.size)
    (h : ∀ v' w', Own B w' v' (l ++ List.replicate k 0) → Below B w w' → wpList Tryz.prog ops Q rest (a.put o.dst v') w') : wpList Tryz.prog ops Q (o :: rest) a w := by
  obtain ⟨v', w', hr, h1, h2⟩ := run_append_zeros hv k hl hB
  exact Lib.wpList_append_run w hgd s x 40 3 ho v _ hs hy v' w' (by rw [hty]; exact hr) (h v' w' h1 h2)
end Go.Proofs.YtgbdjcekpdfpjaaGreatDoor
