/- Appends onto rows, of what lies anywhere. -/
import Derived.Test.YtiiollgipfggmaaKRel
namespace Go.Proofs.Ytiiollgipfggmaa
set_option linter.unusedVariables false
set_option linter.unusedSimpArgs false
open Go.RowKit

/-- A message's cells as an object. -/
abbrev objY (y : Mc) : Obj := .cells #[.int .i64 y.m.k, .int .i64 y.m.f, .int .i64 y.m.t, .int .i64 y.m.tm, .int .i64 y.m.ix, .int .i64 y.m.lt, .int .i64 y.m.cm, .int .i64 y.m.rd, .bool y.m.ys, .bool y.m.dn, .slice y.pe y.ne y.ce, .slice y.pv y.nv y.cv, .slice y.pd y.nd y.cd] 26
theorem step_pushesM {w : World} {ops : Array Oper} {o : Oper} {a : Act} {K : Act → World → Prop} {Q : Exit → Act → World → Prop} {E : Prop} (hgd : o.guard = none) (s t : Operand)
    (ho : o.op = .call { callee := .builtin .append, args := #[s, t], argTypes := #[28, 28] }) (hty : o.type = 28) {B : Nat} {v u : Value} {l m : List Mc}
    (hs : a.eval s = v) (ht : a.eval t = u) (h : OwnM B w v l) (hu : Mcs w u m) (hB : B ≤ w.heap.size) (hn : (l.length + m.length) * 144 ≤ 140737488355328)
    (hK : ∀ v' w', OwnM B w' v' (l ++ m) → Below B w w' → w.grownBy w' v.ownBlock → K (a.put o.dst v') w') : if Region.wanted o (yielded ops a.tmps) = true then Oper.wp Try.prog o a w K Q else E := by
  obtain ⟨v', w', hr, h1, h2, h3⟩ := run_pushesM h hu hB hn
  have hw : Region.wanted o (yielded ops a.tmps) = true := by simp [Region.wanted, hgd]
  rw [if_pos hw]
  exact Lib.wp_append_run_sl _ s t 28 ho v _ hs ht (by rw [hty]; exact hr) (hK v' w' h1 h2 h3)
theorem run_pushN_at {B : Nat} {w : World} {v : Value} {l : List Int} (h : OwnN B w v l) (x : Int) (hx : fits x) (hB : B ≤ w.heap.size) (hs : l.length ≤ 1000000) {H : Nat} (hc : w.cell? ⟨H, 0, none⟩ = some (.int .i64 x)) :
    ∃ v' w', (Builtin.append_ #[23, 23] 23 #[v, .slice (some ⟨H, 0, none⟩) 1 1]).run Try.prog w = .ok v' w' ∧ OwnN B w' v' (l ++ [x]) ∧ w.grownBy w' v.ownBlock ∧ Below B w w' := by
  obtain ⟨i0, hi0, hz0, hz1, hz2⟩ := info_parts Try.infoInt
  obtain ⟨v', w', hr, h1, h2, _, h4⟩ := run_append_own_at (P := Try.prog) w B 23 23 3 i0 _ 1 8 Try.underlying23 hi0 hz0 hz1 hz2 rfl (by decide) v l.length (l.map (Value.int .i64)) h.1 ⟨H, 0, none⟩ 1 1 [.int .i64 x] rfl
    (fun j u hj => by
      rw [add_lit0, Nat.zero_add]
      match j, hj with
      | 0, hj => simp at hj; subst hj; exact hc
      | j + 1, hj => simp at hj)
    (by intro u hu; simp at hu; subst hu; rfl) (by simp only [maxLen]; omega) (by omega) hB
  refine ⟨v', w', hr, ⟨?_, ?_⟩, h2, (Below.refl _ _).grown h2 hB fun k hk => (World.ownsRow.lt h.1 k hk).1⟩
  · have : (l ++ [x]).map (Value.int .i64) = l.map (Value.int .i64) ++ [.int .i64 x] := by simp
    rw [this, List.length_append]
    exact h1
  · intro y hy
    rcases List.mem_append.1 hy with hy | hy
    · exact h.2 y hy
    · simp at hy
      subst hy
      exact hx
theorem step_pushN_at {w : World} {ops : Array Oper} {o : Oper} {a : Act} {K : Act → World → Prop} {Q : Exit → Act → World → Prop} {E : Prop} (hgd : o.guard = none) (s x : Operand)
    (ho : o.op = .call { callee := .builtin .append, args := #[s, x], argTypes := #[23, 23] }) (hty : o.type = 23) {B : Nat} {v : Value} {l : List Int} (y : Int) {H : Nat}
    (hs : a.eval s = v) (hx : a.eval x = .slice (some ⟨H, 0, none⟩) 1 1) (hc : w.cell? ⟨H, 0, none⟩ = some (.int .i64 y)) (h : OwnN B w v l) (hy : fits y) (hB : B ≤ w.heap.size) (hn : l.length ≤ 1000000)
    (hK : ∀ v' w', OwnN B w' v' (l ++ [y]) → w.grownBy w' v.ownBlock → Below B w w' → K (a.put o.dst v') w') : if Region.wanted o (yielded ops a.tmps) = true then Oper.wp Try.prog o a w K Q else E := by
  obtain ⟨v', w', hr, h1, h2, h3⟩ := run_pushN_at h y hy hB hn hc
  have hw : Region.wanted o (yielded ops a.tmps) = true := by simp [Region.wanted, hgd]
  rw [if_pos hw]
  exact Lib.wp_append_run_sl _ s x 23 ho v _ hs hx (by rw [hty]; exact hr) (hK v' w' h1 h2 h3)
theorem mcs_lit (V : World) (y : Mc) : Mcs (V.alloc (.cells #[.int .i64 y.m.k, .int .i64 y.m.f, .int .i64 y.m.t, .int .i64 y.m.tm, .int .i64 y.m.ix, .int .i64 y.m.lt, .int .i64 y.m.cm, .int .i64 y.m.rd, .bool y.m.ys, .bool y.m.dn, .slice y.pe y.ne y.ce, .slice y.pv y.nv y.cv, .slice y.pd y.nd y.cd] 26)) (.slice (some ⟨V.heap.size, 0, none⟩) 1 1) [y] := by
  refine ⟨_, 1, rfl, Nat.le_refl _, by decide, (fun e => by cases e), fun _ => ⟨_, 0, rfl, fun i x hi k u hk => ?_⟩⟩
  match i, hi with
  | 0, hi =>
    simp at hi
    subst hi
    rw [cell_of_row _ V.heap.size _ _ _ (0, 0) (heap_alloc_new V _)]
    rw [show 0 + 0 * 13 + k = k by omega]
    simpa [mcC] using hk
  | i + 1, hi => simp at hi
theorem bel_ad (V : World) (o : Obj) : Below V.drew.heap.size V.drew (V.alloc o).drew := by
  have h := (Below.refl V.heap.size V).alloc (Nat.le_refl _) o
  exact ⟨h.os, h.tape, h.output, h.size, h.block⟩
theorem bel_al (V : World) (o : Obj) : Below V.heap.size V (V.alloc o) := (Below.refl V.heap.size V).alloc (Nat.le_refl _) o
theorem ownN_lit (V : World) (x : Int) (hx : fits x) : OwnN 0 (V.alloc (.cells #[.int .i64 x] 3)) (.slice (some ⟨V.heap.size, 0, none⟩) 1 1) [x] :=
  ⟨World.ownsRow_lit V #[.int .i64 x] 1 (Nat.zero_le _) (by decide) rfl, by intro y hy; simp at hy; subst hy; exact hx⟩
theorem OwnN.lit_cell {B H : Nat} {V : World} {x : Int} (h : OwnN B V (.slice (some ⟨H, 0, none⟩) 1 1) [x]) : V.cell? ⟨H, 0, none⟩ = some (.int .i64 x) := by
  obtain ⟨g, o, e, hc⟩ := h.ns.at_ (by decide)
  injection e with e
  injection e with e1 e2 _
  subst e1 e2
  exact hc 0 x rfl
theorem OwnM.grown' {B B' : Nat} {w w' : World} {v u : Value} {l : List Mc} {I : List Int} (h : OwnM B w v l) (hu : OwnN B' w u I) (hg : w.grownBy w' u.ownBlock) : OwnM B w' v l := by
  refine h.grown hg ?_
  cases hv : v.ownBlock with
  | none => exact .inl rfl
  | some k => exact .inr fun e => kinds_apart h hu.1 (by decide) hv e.symm
theorem OwnN.grown' {B B' : Nat} {w w' : World} {v u : Value} {l : List Mc} {I : List Int} (h : OwnN B w v I) (hu : OwnM B' w u l) (hg : w.grownBy w' u.ownBlock) : OwnN B w' v I := by
  refine h.grown hg ?_
  cases hv : v.ownBlock with
  | none => exact .inl rfl
  | some k => exact .inr fun e => kinds_apart h.1 hu (by decide) hv e.symm
theorem mss_of_mcs {w W : World} {v : Value} {y : Mc} (h : Mcs W v [y]) (hy : McV w y) (hb : Below w.heap.size w W) : Mss W v [y.m] := by
  obtain ⟨p, c, rfl, h1, h2, h3, h4⟩ := h
  obtain ⟨g, o, rfl, hx⟩ := h4 (by simp)
  refine ⟨_, c, rfl, h1, h2, fun k m hk => ?_⟩
  match k, hk with
  | 0, hk =>
    simp at hk
    subst hk
    exact ⟨g, o, _, _, _, rfl, hy.below hb, fun j x hj => hx 0 y rfl j x hj⟩
  | k + 1, hk => simp at hk
theorem Box13.chg {W W' : World} {g : Nat} {a0 a1 a2 a3 a4 a5 a6 a7 a8 a9 a10 a11 a12 : Value} {S : Nat → Prop} (h : Box13 W g a0 a1 a2 a3 a4 a5 a6 a7 a8 a9 a10 a11 a12) (hc : Chg W W' S) (hS : ¬ S g) : Box13 W' g a0 a1 a2 a3 a4 a5 a6 a7 a8 a9 a10 a11 a12 :=
  ⟨hc.cell h.c0 hS, hc.cell h.c1 hS, hc.cell h.c2 hS, hc.cell h.c3 hS, hc.cell h.c4 hS, hc.cell h.c5 hS, hc.cell h.c6 hS, hc.cell h.c7 hS, hc.cell h.c8 hS, hc.cell h.c9 hS, hc.cell h.c10 hS, hc.cell h.c11 hS, hc.cell h.c12 hS⟩
end Go.Proofs.Ytiiollgipfggmaa
