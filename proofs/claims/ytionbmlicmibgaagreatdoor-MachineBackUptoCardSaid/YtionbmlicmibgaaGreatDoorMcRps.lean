import Derived.Test.YtionbmlicmibgaaGreatDoorMcApp
import Derived.Maps.AppendAt
import Derived.Laws.OwnMore
namespace Go.Proofs.YtionbmlicmibgaaGreatDoor
set_option linter.unusedVariables false
set_option linter.unusedSimpArgs false
open Go.RowKit
theorem rpC_length (x : Rp) : (rpC x).length = 8 := rfl
theorem rpC_one (x : Rp) : ∀ u ∈ rpC x, u.oneCell' = true := by
 intro u hu
 simp [rpC] at hu
 rcases hu with rfl | rfl | rfl | rfl | rfl | rfl | rfl | rfl <;> rfl
theorem rflat_len (l : List Rp) : (l.flatMap rpC).length = l.length * 8 := by
 induction l with
 | nil => rfl
 | cons x r ih => rw [List.flatMap_cons, List.length_append, ih, rpC_length, List.length_cons]; omega
theorem rflat_at : ∀ (l : List Rp) (i k : Nat) {x : Rp}, l[i]? = some x → k < 8 → (l.flatMap rpC)[i * 8 + k]? = (rpC x)[k]?
 | [], i, k, x, h, _ => by simp at h
 | y :: r, 0, k, x, h, hk => by
  simp only [List.getElem?_cons_zero, Option.some.injEq] at h
  subst h
  rw [List.flatMap_cons, Nat.zero_mul, Nat.zero_add, List.getElem?_append_left (by rw [rpC_length]; exact hk)]
 | y :: r, i + 1, k, x, h, hk => by
  rw [List.getElem?_cons_succ] at h
  rw [List.flatMap_cons, List.getElem?_append_right (by rw [rpC_length]; omega), rpC_length, show (i + 1) * 8 + k - 8 = i * 8 + k by omega]
  exact rflat_at r i k h hk
def RpAt (w : World) (g o : Nat) (x : Rp) : Prop := ∀ (k : Nat) u, (rpC x)[k]? = some u → w.cell? ⟨g, o + k, none⟩ = some u
def Rps (w : World) (v : Value) (l : List Rp) : Prop :=
 ∃ (p : Option Addr) (cap : Nat), v = .slice p l.length cap ∧ l.length ≤ cap ∧ cap ≤ maxLen ∧ (p = none → cap = 0) ∧
  (0 < l.length → ∃ g o, p = some ⟨g, o, none⟩ ∧ ∀ (i : Nat) x, l[i]? = some x → RpAt w g (o + i * 8) x)
theorem Rps.nil (w : World) : Rps w (.slice none 0 0) [] := ⟨none, 0, rfl, Nat.le_refl _, by simp [maxLen], fun _ => rfl, fun h => absurd h (Nat.lt_irrefl _)⟩
theorem Rps.sl {w : World} {v : Value} {l : List Rp} (h : Rps w v l) : ∃ p n c, v = .slice p n c := by
 obtain ⟨p, c, e, _⟩ := h
 exact ⟨p, _, c, e⟩
theorem Rps.len {w : World} {p : Option Addr} {n c : Nat} {l : List Rp} (h : Rps w (.slice p n c) l) : n = l.length ∧ n ≤ c ∧ c ≤ maxLen := by
 obtain ⟨p', c', e, hl, hm, _⟩ := h
 injection e with _ e2 e3
 subst e2 e3
 exact ⟨rfl, hl, hm⟩
def OwnRp (B : Nat) (w : World) (v : Value) (l : List Rp) : Prop := w.ownsRow B 66 8 v l.length (l.flatMap rpC)
theorem OwnRp.sts {B : Nat} {w : World} {v : Value} {l : List Rp} (h : OwnRp B w v l) : Rps w v l := by
 obtain ⟨hl, ⟨rfl, h0⟩ | ⟨g, cap, cur, rfl, hB, hh, hc, hm, hs, ht⟩⟩ := h
 ·obtain rfl : l = [] := List.eq_nil_of_length_eq_zero h0
  exact Rps.nil w
 ·refine ⟨_, cap, rfl, hc, hm, (fun e => by cases e), fun _ => ⟨g, 0, rfl, fun i x hi k u hk => ?_⟩⟩
  have hk6 : k < 8 := by
   have := (List.getElem?_eq_some_iff.1 hk).1
   rwa [rpC_length] at this
  have hil := (List.getElem?_eq_some_iff.1 hi).1
  have h1 := rflat_at l i k hi hk6
  rw [hk, ← ht, List.getElem?_take_of_lt (by omega), Array.getElem?_toList] at h1
  rw [cell_of_row w g (0 + i * 8 + k) cur _ (0, 0) hh, Nat.zero_add]
  exact h1
theorem OwnRp.lt {B : Nat} {w : World} {v : Value} {l : List Rp} (h : OwnRp B w v l) : ∀ k, v.ownBlock = some k → B ≤ k ∧ k < w.heap.size := World.ownsRow.lt h
theorem OwnRp.below {B : Nat} {w w' : World} {v : Value} {l : List Rp} (h : OwnRp B w v l) (hb : Below w.heap.size w w') : OwnRp B w' v l := World.ownsRow.kept (row := none) h ⟨hb.os, hb.tape, hb.output, hb.size, fun k hk _ => hb.block k hk⟩ (by cases v.ownBlock <;> simp)
theorem Tryz.infoRp : (Tryz.prog.info? 66).map (fun i => (i.zero, i.size, i.bytes)) = some (some (.agg #[.int .i64 0, .int .i64 0, .int .i64 0, .int .i64 0, .int .i64 0, .int .i64 0, .int .i64 0, .int .i64 0]), 8, 64) := by kernel_rfl
theorem run_pushRp {B : Nat} {w : World} {v : Value} {l : List Rp} (h : OwnRp B w v l) (x : Rp) (hB : B ≤ w.heap.size) (hs : l.length ≤ 1100000) :
  ∃ v' w', (Builtin.append_ #[102, 102] 102 #[v, .slice (some ⟨w.heap.size, 0, none⟩) 1 1]).run Tryz.prog (w.alloc (.cells #[.int .i64 x.er, .int .i64 x.rs, .int .i64 x.gn, .int .i64 x.ad, .int .i64 x.sa, .int .i64 x.ot, .int .i64 x.cy, .int .i64 x.fu] 66)) = .ok v' w' ∧ OwnRp B w' v' (l ++ [x]) ∧ Below B w w' ∧ w.grownBy w' v.ownBlock ∧ (v'.ownBlock = v.ownBlock ∨ v'.ownBlock = some (w.heap.size + 1)) := by
 obtain ⟨i0, hi0, hz0, hz1, hz2⟩ := info_parts Tryz.infoRp
 have ho' := World.ownsRow.alloc h (.cells #[.int .i64 x.er, .int .i64 x.rs, .int .i64 x.gn, .int .i64 x.ad, .int .i64 x.sa, .int .i64 x.ot, .int .i64 x.cy, .int .i64 x.fu] 66)
 obtain ⟨v', w', hr, h1, h2, _, h4⟩ := run_append_own_at (P := Tryz.prog) (w.alloc (.cells #[.int .i64 x.er, .int .i64 x.rs, .int .i64 x.gn, .int .i64 x.ad, .int .i64 x.sa, .int .i64 x.ot, .int .i64 x.cy, .int .i64 x.fu] 66)) B 102 102 66 i0 _ 8 64 Tryz.underlying102 hi0 hz0 hz1 hz2 rfl (by decide) v l.length (l.flatMap rpC) ho' ⟨w.heap.size, 0, none⟩ 1 1 (rpC x) rfl
  (fun j u hj => by
   rw [add_lit0, Nat.zero_add, cell_of_row _ w.heap.size j _ 66 (0, 0) (heap_alloc_new w _)]
   simpa [rpC] using hj)
  (rpC_one x) (by simp only [maxLen]; omega) (by omega) (by simp; omega)
 have hb0 : Below B w (w.alloc (.cells #[.int .i64 x.er, .int .i64 x.rs, .int .i64 x.gn, .int .i64 x.ad, .int .i64 x.sa, .int .i64 x.ot, .int .i64 x.cy, .int .i64 x.fu] 66)) := (Below.refl _ _).alloc hB _
 refine ⟨v', w', hr, ?_, hb0.grown h2 (by simp; omega) fun k hk => (World.ownsRow.lt h k hk).1, ?_, ?_⟩
 ·have : (l ++ [x]).flatMap rpC = l.flatMap rpC ++ rpC x := by simp
  unfold OwnRp
  rw [this, List.length_append]
  exact h1
 ·refine ⟨h2.os, h2.tape, h2.output, ?_, fun k hk hne => ?_⟩
  ·have := h2.size
   simp at this
   omega
  ·rw [h2.block k (by simp; omega) hne]
   exact heap_alloc_old _ _ hk
 ·simpa using h4
theorem wpList_pushRp {w : World} {ops : Array Oper} {rest : List Oper} {o : Oper} {a : Act} {Q : Exit → Act → World → Prop} (hgd : o.guard = none) (s t : Operand)
  (ho : o.op = .call { callee := .builtin .append, args := #[s, t], argTypes := #[102, 102] }) (hty : o.type = 102) {B : Nat} {v : Value} {l : List Rp} (x : Rp) {H : Nat}
  (hs : a.eval s = v) (ht : a.eval t = .slice (some ⟨H, 0, none⟩) 1 1) (hH : H = w.heap.size) (h : OwnRp B w v l) (hB : B ≤ w.heap.size) (hn : l.length ≤ 1100000)
  (hK : ∀ v' w', OwnRp B w' v' (l ++ [x]) → Below B w w' → w.grownBy w' v.ownBlock → (v'.ownBlock = v.ownBlock ∨ v'.ownBlock = some (w.heap.size + 1)) → wpList Tryz.prog ops Q rest (a.put o.dst v') w') : wpList Tryz.prog ops Q (o :: rest) a (w.alloc (.cells #[.int .i64 x.er, .int .i64 x.rs, .int .i64 x.gn, .int .i64 x.ad, .int .i64 x.sa, .int .i64 x.ot, .int .i64 x.cy, .int .i64 x.fu] 66)) := by
 subst hH
 obtain ⟨v', w', hr, h1, h2, h3, h4⟩ := run_pushRp h x hB hn
 exact Lib.wpList_append_run_sl _ hgd s t 102 ho v _ hs ht (by rw [hty]; exact hr) (hK v' w' h1 h2 h3 h4)
theorem OwnRp.cells {B : Nat} {w : World} {p : Option Addr} {n c : Nat} {l : List Rp} (h : OwnRp B w (.slice p n c) l) (h0 : 0 < l.length) : n = l.length ∧ ∃ g, p = some ⟨g, 0, none⟩ ∧ ∀ i u, (l.flatMap rpC)[i]? = some u → w.cell? ⟨g, i, none⟩ = some u := by
 have hn := h.sts.len.1
 obtain ⟨hl, ⟨e, h1⟩ | ⟨g, cap, cur, e, hB, hh, hc, hm, hs, ht⟩⟩ := h
 ·omega
 ·injection e with e1 e2 e3
  subst e1
  refine ⟨hn, g, rfl, fun i u hi => ?_⟩
  have hil := (List.getElem?_eq_some_iff.1 hi).1
  rw [rflat_len] at hil
  rw [← ht, List.getElem?_take_of_lt (by omega), Array.getElem?_toList] at hi
  rw [cell_of_row w g i cur _ (0, 0) hh]
  exact hi
end Go.Proofs.YtionbmlicmibgaaGreatDoor
