import Derived.Test.YtionbmlicmibgaaGreatDoorMcPut2
namespace Go.Proofs.YtionbmlicmibgaaGreatDoor
set_option linter.unusedVariables false
set_option linter.unusedSimpArgs false
open Go.RowKit
noncomputable def pB (c : Cm) : List UInt8 := if c.ok = true then c.bytes else []
theorem putP_is {w : World} {f : FuncId} {args : Array Value} {c : Cm} (h : Calls Tryz.prog f args w (PutP w c)) : Calls Tryz.prog f args w fun e w' => ∃ p n d, e = .returned (.tuple #[.slice p n d, .int .i64 (eno c.ok 90)]) ∧ Own w.heap.size w' (.slice p n d) (pB c) ∧ Below w.heap.size w w' := h.mono fun e w' hp => by
 rcases hp with ⟨h1, p, n, d, rfl, ho, hb⟩ | ⟨h1, rfl, hb⟩
 ·exact ⟨p, n, d, by rw [h1]; rfl, by unfold pB; rw [if_pos h1]; exact ho, hb⟩
 ·exact ⟨none, 0, 0, by rw [h1]; rfl, by unfold pB; rw [if_neg (by rw [h1]; simp)]; exact Own.nil _ _, hb⟩
theorem Own.byOff {B r : Nat} {w w' : World} {v : Value} {l : List UInt8} (h : Own B w v l) (hc : Chg w w' fun k => k = r) (hr : r < B) : By w' v l := by
 rcases h with ⟨rfl, rfl⟩ | ⟨g, cap, rfl, hB, hl, hm, hx, _, _⟩
 ·exact By.nil _
 ·refine ⟨some ⟨g, 0, none⟩, cap, rfl, hl, hm, (fun e => by cases e), fun a ha i x hi => ?_⟩
  injection ha with ha
  subst ha
  rw [add_lit0, Nat.zero_add]
  exact hc.cell (hx i x hi) (fun (e : g = r) => by omega)
end Go.Proofs.YtionbmlicmibgaaGreatDoor
