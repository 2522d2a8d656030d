/- A new disk, and a clone. -/
import Derived.Test.YtdghkmpcjjmlfaaDMore
namespace Go.Proofs.Ytdghkmpcjjmlfaa
open Go.RowKit

def Dk.new (room : Nat) : Dk := { room := room, down := false, last := [], acts := [], fn := 0, keep := 0, tear := 0 }
theorem Dk.Ok.new {room : Nat} (h : room ≤ 16777216) : (Dk.new room).Ok := by
  refine ⟨List.Pairwise.nil, fun i d h => by simp [Dk.new] at h, fun i hi => ?_, by simp [Dk.new, Dk.used, total, sizes], h, fun _ => rfl, by simp [Dk.new], by simp [Dk.new]⟩
  simp [Dk.new, runs]

theorem heap_new (w : World) (o : Obj) : (w.alloc o).heap[w.heap.size]? = some o := by
  unfold World.alloc
  simp

/-- A fresh disk. -/
def Fresh (w : World) (st : Dk) (e : Ending) (w' : World) : Prop := ∃ g S, e = .returned (.tuple #[.pointer (some ⟨g, 0, none⟩), .int .i64 0]) ∧ DiskIs w' S (fun _ => False) g st ∧ (∀ i, S i → w.heap.size ≤ i) ∧ Below w.heap.size w w'

set_option maxRecDepth 200000 in
set_option maxHeartbeats 4000000 in
theorem new_bad (w : World) {room : Int} (h : room < 0 ∨ 16777216 < room) : Calls Try.prog 4 #[.int .i64 room] w fun e w' => e = .returned (.tuple #[.pointer none, .int .i64 1]) ∧ w = w' := by
  rcases h with h | h
  all_goals
    go_enter Try.func4, Try.ntmps4
    go_wp2
    go_ret2
    exact ⟨rfl, rfl⟩

theorem run_makeMap_none (w : World) : (Instr.makeMap 51 none).run Try.prog w = .ok (.map (some w.heap.size)) (w.alloc (.map #[] 0)) := by
  simp [Instr.makeMap]

set_option maxRecDepth 200000 in
set_option maxHeartbeats 4000000 in
theorem new_any (w : World) {room : Nat} (h : room ≤ 16777216) : Calls Try.prog 4 #[.int .i64 (room : Nat)] w (Fresh w (Dk.new room)) := by
  have h1 : ¬ (room : Int) < 0 := by omega
  have h2 : (room : Int) ≤ 16777216 := by omega
  have hmk := run_makeMap_none
  go_enter Try.func4, Try.ntmps4
  go_wp2_with fail
  go_ret2
  obtain ⟨B, hB⟩ : ∃ B, B = w.heap.size := ⟨_, rfl⟩
  obtain ⟨w1, hw1⟩ : ∃ w1, w1 = w.alloc (.map #[] 0) := ⟨_, rfl⟩
  obtain ⟨w2, hw2⟩ : ∃ w2, w2 = w1.alloc (.map #[] 0) := ⟨_, rfl⟩
  obtain ⟨W, hW⟩ : ∃ W, W = w2.alloc (.cells (diskC (room : Nat) 0 false (.map (some B)) (.map (some (B + 1))) (.slice none 0 0) 0 0 0) 56) := ⟨_, rfl⟩
  have z1 : w1.heap.size = B + 1 := by rw [hw1, size_alloc', hB]
  have z2 : w2.heap.size = B + 2 := by rw [hw2, size_alloc', z1]
  have z3 : W.heap.size = B + 3 := by rw [hW, size_alloc', z2]
  have c1 : Chg w w1 (fun _ => False) := hw1 ▸ Chg.of_below (balloc (Below.refl _ _) _) _
  have c2 : Chg w1 w2 (fun _ => False) := hw2 ▸ Chg.of_below (balloc (Below.refl _ _) _) _
  have c3 : Chg w2 W (fun _ => False) := hW ▸ Chg.of_below (balloc (Below.refl _ _) _) _
  have m1 : w1.ownsMap Try.prog 9 held B 0 (.map []) := by rw [hw1, hB]; exact World.ownsMap_made w Try.prog 9 held
  have m2 : w2.ownsMap Try.prog 9 held (B + 1) 0 (.map []) := by rw [hw2, ← z1]; exact World.ownsMap_made w1 Try.prog 9 held
  have hb : Below w.heap.size w W := by rw [hW, hw2, hw1]; exact balloc (balloc (balloc (Below.refl _ _) _) _) _
  have m1' := map_chg (map_chg m1 c2 fun h => h) c3 fun h => h
  have m2' := map_chg m2 c3 fun h => h
  have hd : Hd W (B + 2) (room : Nat) 0 false (.map (some B)) (.map (some (B + 1))) (.slice none 0 0) 0 0 0 := by
    show W.heap[B + 2]? = _
    rw [hW, ← z2]
    exact heap_new w2 _
  have hWW : (((w.alloc (.map #[] 0)).alloc (.map #[] 0)).alloc (.cells #[.int .i64 room, .int .i64 0, .bool false, .map (some w.heap.size), .map (some (w.heap.size + 1)), .slice none 0 0, .int .i64 0, .int .i64 0, .int .i64 0] 56)) = W := by
    rw [hW, hw2, hw1, hB]
    rfl
  rw [hWW]
  refine ⟨B + 2, fun i => B ≤ i ∧ i < B + 3, by rw [hB]; rfl, ⟨Dk.Ok.new h, fun i hi => hi.elim, fun i hi => by omega, fun i _ hi => hi, by omega, fun i => i = B + 1, fun i => i = B, B + 1, B, .slice none 0 0, [], fun _ => .slice none 0 0, fun _ => .slice none 0 0, _, _, hd, FilesIs.none_ m2' rfl, FilesIs.none_ m1' rfl, ActsIs.nil _ _, fun i hi => ⟨by omega, by omega, by omega, fun h => by cases h⟩, fun i hi => ⟨by omega, by omega, fun h => by cases h⟩, fun i hi => by cases hi⟩, fun i hi => by omega, hb⟩
end Go.Proofs.Ytdghkmpcjjmlfaa
