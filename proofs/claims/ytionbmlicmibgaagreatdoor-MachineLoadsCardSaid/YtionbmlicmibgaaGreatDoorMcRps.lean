import Derived.Test.YtionbmlicmibgaaGreatDoorMcApp
set_option linter.unusedVariables false
set_option linter.unusedSimpArgs false
namespace Go.Proofs.YtionbmlicmibgaaGreatDoor
open Go.Proofs.Tryz
open Go.RowKit
theorem ji (x : Rp) : (vU x).length = 8 := rfl
theorem OE (x : Rp) : ∀ u ∈ vU x, u.oneCell' = true := by
 intro u hu;simp [vU] at hu;rcases hu with rfl | rfl | rfl | rfl | rfl | rfl | rfl | rfl <;> rfl
theorem Iw (l : List Rp) : (l.flatMap vU).length = l.length * 8 := by
 induction l with
 | nil => rfl
 | cons x r ih => rw [adw, acH, ih, ji, acZ]; omega
theorem Bu : ∀ (l : List Rp) (i k : Nat) {x : Rp}, l[i]? = some x → k < 8 → (l.flatMap vU)[i * 8 + k]? = (vU x)[k]?
 | [], i, k, x, h, _ => by simp at h
 | y :: r, 0, k, x, h, hk => by
  simp only [ad2, adp] at h;subst h;rw [adw, Nat.zero_mul, ac2, aea (by rw [ji]; exact hk)]
 | y :: r, i + 1, k, x, h, hk => by
  rw [aeh] at h;rw [adw, ad6 (by rw [ji]; omega), ji, show (i + 1) * 8 + k - 8 = i * 8 + k by omega];exact Bu r i k h hk
def aaA (w : World) (g o : Nat) (x : Rp) : Prop := ∀ (k : Nat) u, (vU x)[k]? = some u → w.cell? ⟨g, o + k, none⟩ = some u
def QT (w : World) (v : Value) (l : List Rp) : Prop :=
 ∃ (p : Option Addr) (cap : Nat), v = .slice p l.length cap ∧ l.length ≤ cap ∧ cap ≤ maxLen ∧ (p = none → cap = 0) ∧
  (0 < l.length → ∃ g o, p = some ⟨g, o, none⟩ ∧ ∀ (i : Nat) x, l[i]? = some x → aaA w g (o + i * 8) x)
theorem QT.nil (w : World) : QT w (.slice none 0 0) [] := ⟨none, 0, rfl, acE _, by simp [maxLen], fun _ => rfl, fun h => absurd h (aez _)⟩
theorem QT.sl {w : World} {v : Value} {l : List Rp} (h : QT w v l) : ∃ p n c, v = .slice p n c := by
 obtain ⟨p, c, e, _⟩ := h;exact ⟨p, _, c, e⟩
theorem QT.len {w : World} {p : Option Addr} {n c : Nat} {l : List Rp} (h : QT w (.slice p n c) l) : n = l.length ∧ n ≤ c ∧ c ≤ maxLen := by
 obtain ⟨p', c', e, hl, hm, _⟩ := h;injection e with _ e2 e3;subst e2 e3;exact ⟨rfl, hl, hm⟩
def eE (B : Nat) (w : World) (v : Value) (l : List Rp) : Prop := w.ownsRow B 66 8 v l.length (l.flatMap vU)
theorem eE.nP {B : Nat} {w : World} {v : Value} {l : List Rp} (h : eE B w v l) : QT w v l := by
 obtain ⟨hl, ⟨rfl, h0⟩ | ⟨g, cap, cur, rfl, hB, hh, hc, hm, hs, ht⟩⟩ := h
 ·obtain rfl : l = [] := acP h0;exact QT.nil w
 ·refine ⟨_, cap, rfl, hc, hm, (fun e => by cases e), fun _ => ⟨g, 0, rfl, fun i x hi k u hk => ?_⟩⟩;have QU : k < 8 := by
   have := (acL.1 hk).1
   rwa [ji] at this
  have Ix := (acL.1 hi).1;have h1 := Bu l i k hi QU;rw [hk, ← ht, adQ (by omega), adZ] at h1;rw [acC w g (0 + i * 8 + k) cur _ (0, 0) hh, ac2];exact h1
theorem eE.lt {B : Nat} {w : World} {v : Value} {l : List Rp} (h : eE B w v l) : ∀ k, v.ownBlock = some k → B ≤ k ∧ k < w.heap.size := adA h
theorem eE.below {B : Nat} {w w' : World} {v : Value} {l : List Rp} (h : eE B w v l) (hb : Below w.heap.size w w') : eE B w' v l := adV (row := none) h ⟨hb.os, hb.tape, hb.output, hb.size, fun k hk _ => hb.block k hk⟩ (by cases v.ownBlock <;> simp)
theorem Tryz.infoRp : (Tryz.prog.info? 66).map (fun i => (i.zero, i.size, i.bytes)) = some (some (.agg #[.int .i64 0, .int .i64 0, .int .i64 0, .int .i64 0, .int .i64 0, .int .i64 0, .int .i64 0, .int .i64 0]), 8, 64) := by kernel_rfl
theorem EB {B : Nat} {w : World} {v : Value} {l : List Rp} (h : eE B w v l) (x : Rp) (hB : B ≤ w.heap.size) (hs : l.length ≤ 1100000) :
  ∃ v' w', (Builtin.append_ #[102, 102] 102 #[v, .slice (some ⟨w.heap.size, 0, none⟩) 1 1]).run prog (w.alloc (.cells #[.int .i64 x.er, .int .i64 x.rs, .int .i64 x.gn, .int .i64 x.ad, .int .i64 x.sa, .int .i64 x.ot, .int .i64 x.cy, .int .i64 x.fu] 66)) = .ok v' w' ∧ eE B w' v' (l ++ [x]) ∧ Below B w w' ∧ w.grownBy w' v.ownBlock ∧ (v'.ownBlock = v.ownBlock ∨ v'.ownBlock = some (w.heap.size + 1)) := by
 obtain ⟨i0, eV, gu, fC, fD⟩ := adM Tryz.infoRp;have xC := ady h (.cells #[.int .i64 x.er, .int .i64 x.rs, .int .i64 x.gn, .int .i64 x.ad, .int .i64 x.sa, .int .i64 x.ot, .int .i64 x.cy, .int .i64 x.fu] 66);obtain ⟨v', w', hr, h1, h2, _, h4⟩ := adK (P := prog) (w.alloc (.cells #[.int .i64 x.er, .int .i64 x.rs, .int .i64 x.gn, .int .i64 x.ad, .int .i64 x.sa, .int .i64 x.ot, .int .i64 x.cy, .int .i64 x.fu] 66)) B 102 102 66 i0 _ 8 64 underlying102 eV gu fC fD rfl (by decide) v l.length (l.flatMap vU) xC ⟨w.heap.size, 0, none⟩ 1 1 (vU x) rfl
  (fun j u hj => by
   rw [bq, ac2, acC _ w.heap.size j _ 66 (0, 0) (acQ w _)]
   simpa [vU] using hj)
  (OE x) (by simp only [maxLen]; omega) (by omega) (by simp; omega)
 have fA : Below B w (w.alloc (.cells #[.int .i64 x.er, .int .i64 x.rs, .int .i64 x.gn, .int .i64 x.ad, .int .i64 x.sa, .int .i64 x.ot, .int .i64 x.cy, .int .i64 x.fu] 66)) := (acG _ _).alloc hB _;refine ⟨v', w', hr, ?_, fA.grown h2 (by simp; omega) fun k hk => (adA h k hk).1, ?_, ?_⟩
 ·have : (l ++ [x]).flatMap vU = l.flatMap vU ++ vU x := by simp
  unfold eE;rw [this, acH];exact h1
 ·refine ⟨h2.os, h2.tape, h2.output, ?_, fun k hk aN => ?_⟩
  ·have := h2.size;simp at this;omega
  ·rw [h2.block k (by simp; omega) aN];exact aeN _ _ hk
 ·simpa using h4
theorem vT {w : World} {ops : Array Oper} {rest : List Oper} {o : Oper} {a : Act} {Q : Exit → Act → World → Prop} (kS : o.guard = none) (s t : Operand)
  (ho : o.op = .call { callee := .builtin .append, args := #[s, t], argTypes := #[102, 102] }) (hty : o.type = 102) {B : Nat} {v : Value} {l : List Rp} (x : Rp) {H : Nat}
  (hs : a.eval s = v) (ht : a.eval t = .slice (some ⟨H, 0, none⟩) 1 1) (hH : H = w.heap.size) (h : eE B w v l) (hB : B ≤ w.heap.size) (hn : l.length ≤ 1100000)
  (hK : ∀ v' w', eE B w' v' (l ++ [x]) → Below B w w' → w.grownBy w' v.ownBlock → (v'.ownBlock = v.ownBlock ∨ v'.ownBlock = some (w.heap.size + 1)) → wpList prog ops Q rest (a.put o.dst v') w') : wpList prog ops Q (o :: rest) a (w.alloc (.cells #[.int .i64 x.er, .int .i64 x.rs, .int .i64 x.gn, .int .i64 x.ad, .int .i64 x.sa, .int .i64 x.ot, .int .i64 x.cy, .int .i64 x.fu] 66)) := by
 subst hH;obtain ⟨v', w', hr, h1, h2, h3, h4⟩ := EB h x hB hn;exact adC _ kS s t 102 ho v _ hs ht (by rw [hty]; exact hr) (hK v' w' h1 h2 h3 h4)
theorem eE.cells {B : Nat} {w : World} {p : Option Addr} {n c : Nat} {l : List Rp} (h : eE B w (.slice p n c) l) (h0 : 0 < l.length) : n = l.length ∧ ∃ g, p = some ⟨g, 0, none⟩ ∧ ∀ i u, (l.flatMap vU)[i]? = some u → w.cell? ⟨g, i, none⟩ = some u := by
 have hn := h.nP.len.1;obtain ⟨hl, ⟨e, h1⟩ | ⟨g, cap, cur, e, hB, hh, hc, hm, hs, ht⟩⟩ := h
 ·omega
 ·injection e with e1 e2 e3;subst e1;refine ⟨hn, g, rfl, fun i u hi => ?_⟩;have Ix := (acL.1 hi).1;rw [Iw] at Ix;rw [← ht, adQ (by omega), adZ] at hi;rw [acC w g i cur _ (0, 0) hh];exact hi
end Go.Proofs.YtionbmlicmibgaaGreatDoor
