/- Awake: a write that is torn. -/
import Derived.Test.YtgbdjcekpdfpjaaGreatDoorDc
import Derived.Lib.SlBytesConst
namespace Go.Proofs.YtgbdjcekpdfpjaaGreatDoor
open Go.RowKit

theorem cell_marked (w : World) (C : Array Value) (t : TypeId) (fr : Nat × Nat) (j : Nat) : (w.alloc (.cells C t fr)).cell? ⟨w.heap.size, j, none⟩ = C[j]? := by
  unfold World.cell?
  rw [heap_new]
  rfl

theorem by_two (w : World) (x y : UInt8) : By (w.alloc (.cells #[.int .u8 x.toNat, .int .u8 y.toNat] 5 (2, 3))) (.slice (some ⟨w.heap.size, 0, none⟩) 2 2) [x, y] := by
  refine ⟨some ⟨w.heap.size, 0, none⟩, 2, rfl, by simp, by unfold maxLen; omega, (fun h => by cases h), fun a e i z hz => ?_⟩
  injection e with e
  subst e
  match i, hz with
  | 0, hz => simp at hz; subst hz; rw [Addr.add_lit, cell_marked]; rfl
  | 1, hz => simp at hz; subst hz; rw [Addr.add_lit, cell_marked]; rfl
  | (j + 2), hz => simp at hz

def aw0 : Dk := Dk.new 100
def aw1 : Dk := (aw0.write [97] 0 [120, 121]).2
def aw2 : Dk := aw1.sync.2
def aw3 : Dk := (aw2.write [97] 2 [122, 119]).2
def aw4 : Dk := (aw3.crash 1 1).2
def aw5 : Dk := aw4.start
theorem aw_codes : (aw0.write [97] 0 [120, 121]).1 = 0 ∧ aw1.sync.1 = 0 ∧ (aw2.write [97] 2 [122, 119]).1 = 0 ∧ (aw3.crash 1 1).1 = 0 ∧ aw5.readE [97] = 0 ∧ aw5.readB [97] = [120, 121, 122] := by
  refine ⟨?_, ?_, ?_, ?_, ?_, ?_⟩
  all_goals kernel_rfl
theorem aw_calm0 : aw0.Calm := ⟨by decide, by decide, by decide, by decide, by decide⟩
theorem aw_calm1 : aw1.Calm := ⟨by decide, by decide, by decide, by decide, by decide⟩
theorem aw_calm2 : aw2.Calm := ⟨by decide, by decide, by decide, by decide, by decide⟩

end Go.Proofs.YtgbdjcekpdfpjaaGreatDoor
