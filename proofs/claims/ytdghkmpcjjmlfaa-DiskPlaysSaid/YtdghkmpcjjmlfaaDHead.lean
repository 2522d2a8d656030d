/- A disk's own block. -/
import Derived.Test.YtdghkmpcjjmlfaaDRange
namespace Go.Proofs.Ytdghkmpcjjmlfaa
open Go.RowKit

/-- The cells of a disk. -/
def diskC (room used : Int) (down : Bool) (l s : Value) (a : Value) (n keep tear : Int) : Array Value :=
  #[.int .i64 room, .int .i64 used, .bool down, l, s, a, .int .i64 n, .int .i64 keep, .int .i64 tear]
def Hd (w : World) (g : Nat) (room used : Int) (down : Bool) (l s : Value) (a : Value) (n keep tear : Int) : Prop := w.heap[g]? = some (.cells (diskC room used down l s a n keep tear) 56 (0, 0))

section
variable {w : World} {g : Nat} {room used : Int} {down : Bool} {l s a : Value} {n keep tear : Int}
theorem Hd.c0 (h : Hd w g room used down l s a n keep tear) : w.cell? ⟨g, 0, none⟩ = some (.int .i64 room) := by rw [cell_of_row w g 0 _ 56 (0, 0) h]; rfl
theorem Hd.c1 (h : Hd w g room used down l s a n keep tear) : w.cell? ⟨g, 1, none⟩ = some (.int .i64 used) := by rw [cell_of_row w g 1 _ 56 (0, 0) h]; rfl
theorem Hd.c2 (h : Hd w g room used down l s a n keep tear) : w.cell? ⟨g, 2, none⟩ = some (.bool down) := by rw [cell_of_row w g 2 _ 56 (0, 0) h]; rfl
theorem Hd.c3 (h : Hd w g room used down l s a n keep tear) : w.cell? ⟨g, 3, none⟩ = some l := by rw [cell_of_row w g 3 _ 56 (0, 0) h]; rfl
theorem Hd.c4 (h : Hd w g room used down l s a n keep tear) : w.cell? ⟨g, 4, none⟩ = some s := by rw [cell_of_row w g 4 _ 56 (0, 0) h]; rfl
theorem Hd.c5 (h : Hd w g room used down l s a n keep tear) : w.cell? ⟨g, 5, none⟩ = some a := by rw [cell_of_row w g 5 _ 56 (0, 0) h]; rfl
theorem Hd.c6 (h : Hd w g room used down l s a n keep tear) : w.cell? ⟨g, 6, none⟩ = some (.int .i64 n) := by rw [cell_of_row w g 6 _ 56 (0, 0) h]; rfl
theorem Hd.c7 (h : Hd w g room used down l s a n keep tear) : w.cell? ⟨g, 7, none⟩ = some (.int .i64 keep) := by rw [cell_of_row w g 7 _ 56 (0, 0) h]; rfl
theorem Hd.c8 (h : Hd w g room used down l s a n keep tear) : w.cell? ⟨g, 8, none⟩ = some (.int .i64 tear) := by rw [cell_of_row w g 8 _ 56 (0, 0) h]; rfl
theorem Hd.fr (h : Hd w g room used down l s a n keep tear) (i : Nat) : w.frozen? ⟨g, i, none⟩ = false := frozen_of_row w g i _ 56 h
theorem Hd.lt (h : Hd w g room used down l s a n keep tear) : g < w.heap.size := World.block_lt_of_cell? w _ h.c0
theorem Hd.chg {w' : World} {S : Nat → Prop} (h : Hd w g room used down l s a n keep tear) (hc : Chg w w' S) (hg : ¬ S g) : Hd w' g room used down l s a n keep tear := (hc.block g h.lt hg).trans h
end

/-- The power: 0, or why nothing can be asked. -/
def pow (down : Bool) : Nat := if down then 22 else 0

theorem neq_nilMap (w : World) (b : Nat) : (binOp .neq 51 (.map (some b)) (.map none)).run Try.prog w = .ok (.bool true) w := by kernel_rfl
theorem neq_nilMap0 (w : World) : (binOp .neq 51 (.map none) (.map none)).run Try.prog w = .ok (.bool false) w := by kernel_rfl

set_option maxRecDepth 200000 in
set_option maxHeartbeats 400000 in
theorem made_any {w : World} {g b : Nat} (h3 : w.cell? ⟨g, 3, none⟩ = some (.map (some b))) : Calls Try.prog 53 #[.pointer (some ⟨g, 0, none⟩)] w fun e w' => e = .returned (.bool true) ∧ w = w' := by
  go_enter Try.func53, Try.ntmps53
  have hne := neq_nilMap w b
  go_wp2
  go_ret
  exact ⟨rfl, rfl⟩

set_option maxRecDepth 200000 in
set_option maxHeartbeats 400000 in
theorem power_any {w : World} {g b : Nat} {down : Bool} (h2 : w.cell? ⟨g, 2, none⟩ = some (.bool down)) (h3 : w.cell? ⟨g, 3, none⟩ = some (.map (some b))) : Calls Try.prog 48 #[.pointer (some ⟨g, 0, none⟩)] w fun e w' => e = .returned (.int .i64 (pow down : Nat)) ∧ w = w' := by
  cases down
  all_goals
    go_enter Try.func48, Try.ntmps48
    go_wp2_with fail
    refine (made_any h3).mono ?_
    rintro e w1 ⟨rfl, rfl⟩
    go_wp2
    go_ret
    exact ⟨rfl, rfl⟩

/-- Why nothing can be asked of a name. -/
def rdy (down : Bool) (k : List UInt8) : Nat := if down then 22 else if okN k then 0 else 20

set_option maxRecDepth 200000 in
set_option maxHeartbeats 400000 in
theorem ready_any {w : World} {g b : Nat} {down : Bool} (h2 : w.cell? ⟨g, 2, none⟩ = some (.bool down)) (h3 : w.cell? ⟨g, 3, none⟩ = some (.map (some b))) (s : ByteArray) : Calls Try.prog 38 #[.pointer (some ⟨g, 0, none⟩), .string s] w fun e w' => e = .returned (.int .i64 (rdy down s.data.toList : Nat)) ∧ w = w' := by
  cases down
  · cases hk : okN s.data.toList
    all_goals
      go_enter Try.func38, Try.ntmps38
      go_wp2_with fail
      refine (power_any h2 h3).mono ?_
      rintro e w1 ⟨rfl, rfl⟩
      rw [show ((pow false : Nat) : Int) = 0 from rfl]
      go_wp2_with fail
      refine (named_any s w).mono ?_
      rintro e w1 ⟨rfl, rfl⟩
      rw [hk]
      go_wp2
      go_ret
      exact ⟨by unfold rdy; rw [hk]; rfl, rfl⟩
  · go_enter Try.func38, Try.ntmps38
    go_wp2_with fail
    refine (power_any h2 h3).mono ?_
    rintro e w1 ⟨rfl, rfl⟩
    rw [show ((pow true : Nat) : Int) = 22 from rfl]
    go_wp2
    go_ret
    exact ⟨rfl, rfl⟩

theorem Hd.set {w : World} {g : Nat} {cs : Array Value} (h : w.heap[g]? = some (.cells cs 56 (0, 0))) (i : Nat) (x : Value) : (w.setCell ⟨g, i, none⟩ x).heap[g]? = some (.cells (cs.setIfInBounds i x) 56 (0, 0)) := heap_setCell_same w g i cs 56 x h

set_option maxRecDepth 200000 in
set_option maxHeartbeats 400000 in
theorem struck_any {w : World} {g : Nat} {room used : Int} {down : Bool} {l s a : Value} {n : Nat} {keep tear : Int} (h : Hd w g room used down l s a n keep tear) (hn : (n : Int) ≤ 9223372036854775807) :
    Calls Try.prog 49 #[.pointer (some ⟨g, 0, none⟩)] w fun e w' => e = .returned (.bool (n == 1)) ∧ Hd w' g room used down l s a ((n - 1 : Nat) : Int) keep tear ∧ w.grownBy w' (some g) := by
  have h6 := h.c6
  have f6 := h.fr 6
  have H := hide h
  clear h
  by_cases h0 : n = 0
  · subst h0
    replace h6 : w.cell? ⟨g, 6, none⟩ = some (.int .i64 0) := h6
    go_enter Try.func49, Try.ntmps49
    go_wp2
    go_ret
    exact ⟨rfl, H.out, World.grownBy.refl _ _⟩
  · have g0 : ((n : Int) == 0) = false := ieq_false (by omega)
    have HE1 := hide (show (n : Int) - 1 = ((n - 1 : Nat) : Int) by omega)
    have hn1 : (1 : Int) ≤ (n : Int) := by omega
    have e2 : (((n : Int) - 1) == 0) = (n == 1) := by
      rw [Bool.eq_iff_iff, beq_iff_eq, beq_iff_eq]
      omega
    go_enter Try.func49, Try.ntmps49
    go_wp2
    go_ret
    refine ⟨rfl, ?_, grown_set _ _ _ _⟩
    have := Hd.set H.out 6 (.int .i64 ((n : Int) - 1))
    rw [HE1.out] at this ⊢
    exact this
end Go.Proofs.Ytdghkmpcjjmlfaa
