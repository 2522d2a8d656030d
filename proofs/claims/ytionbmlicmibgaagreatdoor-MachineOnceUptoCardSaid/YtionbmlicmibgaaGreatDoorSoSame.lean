import Derived.Test.YtionbmlicmibgaaGreatDoorS10
namespace Go.Proofs.YtionbmlicmibgaaGreatDoor
set_option linter.unusedVariables false
set_option linter.unusedSimpArgs false
open Go.RowKit
theorem eqI_any {w : World} {B B' n : Nat} {v u : Value} {l : List Int} (hv : w.ownsRow B 3 1 v n (l.map (Value.int .i64))) (hu : w.ownsRow B' 3 1 u n (l.map (Value.int .i64))) : Calls Tryz.prog 30 #[v, u] w fun e w' => e = .returned (.bool true) ∧ Below w.heap.size w w' := by
 obtain ⟨p, c, rfl, hn, hm, hcl⟩ := ints_row hv
 obtain ⟨q, d, rfl, _, _, hcl2⟩ := ints_row hu
 have hmx : maxLen = 9223372036854775807 := rfl
 by_cases h0 : 0 < n
 ·obtain ⟨g, rfl, _, hc⟩ := hcl h0
  obtain ⟨g', rfl, _, hc'⟩ := hcl2 h0
  have e1 : ∀ j, (hj : j < l.length) → l.getD j 0 = l[j] := fun j hj => by simp [List.getD, hj]
  refine (Tryz.slices_Equal_int g 0 n c g' 0 n d l l w (by omega) (by omega) (by omega) (by omega) (fun j hj => by rw [e1 j hj, Nat.zero_add]; exact hc j _ (List.getElem?_eq_getElem hj)) (fun j hj => by rw [e1 j hj, Nat.zero_add]; exact hc' j _ (List.getElem?_eq_getElem hj))).mono fun e w' ⟨he, q, hw⟩ => ⟨?_, by rw [hw]; exact bdrew w q⟩
  rw [he]
  simp
 ·obtain rfl : n = 0 := by omega
  refine (Tryz.slices_Equal_int_empty p q c 0 d w (by omega)).mono fun e w' ⟨he, hw⟩ => ⟨?_, by rw [hw]; exact Below.refl _ _⟩
  rw [he]
  rfl
end Go.Proofs.YtionbmlicmibgaaGreatDoor
