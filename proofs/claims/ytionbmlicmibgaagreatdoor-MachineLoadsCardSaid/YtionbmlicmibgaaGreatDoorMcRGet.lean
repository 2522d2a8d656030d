import Derived.Test.YtionbmlicmibgaaGreatDoorS14d
import Derived.Test.YtionbmlicmibgaaGreatDoorMcRChk
import Derived.Test.YtionbmlicmibgaaGreatDoorMcGetG
set_option linter.unusedVariables false
set_option linter.unusedSimpArgs false
namespace Go.Proofs.YtionbmlicmibgaaGreatDoor
open Go.RowKit
theorem By.aau {w w' : World} {S : Nat → Prop} {v : Value} {l : List UInt8} (h : By w v l) (hc : ak w w' S) (aN : l = [] ∨ ∀ k, v.ownBlock = some k → ¬ S k) : By w' v l := by
 obtain ⟨p, c, e, h1, h2, h3, h4⟩ := h;refine ⟨p, c, e, h1, h2, h3, fun a ha i x hx => ?_⟩;refine hc.cell (h4 a ha i x hx) ?_;subst e;rcases aN with rfl | aN
 ·simp at hx
 ·rw [block_add];exact aN _ (by rw [ha]; rfl)
section
variable {w W W' : World} {r g b : Nat} {v : Value} {l : List UInt8} {st st' : Nat × Nat} {k se sq a k' DL DN a' : Int} {vs vv Vg Ov : Value}
end
theorem Vh {B : Nat} {w w' : World} {S : Nat → Prop} {v : Value} {l : List Sp} (h : aI B w v l) (hc : ak w w' S) (hS : ∀ k, S k → k < B) : aI B w' v l :=
 fM h hc fun k hk e => by have h1 := (adA h k hk).1; have := hS k e; omega
theorem qm {B : Nat} {w w' : World} {S : Nat → Prop} {v : Value} {l : List Int} (h : bJ B w v l) (hc : ak w w' S) (hS : ∀ k, S k → k < B) : bJ B w' v l :=
 ⟨fM h.1 hc fun k hk e => by have h1 := (adA h.1 k hk).1; have := hS k e; omega, h.2⟩
theorem zk {V : World} {ops : Array Oper} {o : Oper} {a : Act} {K : Act → World → Prop} {Q : Exit → Act → World → Prop} {E : Prop} (kS : o.guard = none) (s x : Operand)
  (ho : o.op = .call { callee := .builtin .append, args := #[s, x], argTypes := #[23, 23] }) (hty : o.type = 23) {B : Nat} {v u : Value} {l m : List Int}
  (hs : a.eval s = v) (hx : a.eval x = u) (h : bJ B V v l) (hu : Ns V u m) (hB : B ≤ V.heap.size) (hn : (l.length + m.length) * 8 ≤ 140737488355328)
  (hK : ∀ v' V', bJ B V' v' (l ++ m) → Below B V V' → V.grownBy V' v.ownBlock → K (a.put o.dst v') V') : if Region.wanted o (yielded ops a.tmps) = true then Oper.wp Tryz.prog o a V K Q else E := by
 obtain ⟨v', w', hr, h1, h2, h3⟩ := Bg h hu hB hn;have hw : Region.wanted o (yielded ops a.tmps) = true := by simp [Region.wanted, kS]
 rw [acW hw];exact Lib.wp_append_run_sl V s x 23 ho v u hs hx (by rw [hty]; exact hr) (hK v' w' h1 h2 h3)
end Go.Proofs.YtionbmlicmibgaaGreatDoor
