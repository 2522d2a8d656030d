/- The document's rounds over the bytes of a table, plainly; what they need of the world. -/
import Derived.Test.YtfbndbmhnpleoaaTLoad
import Derived.Test.YtfbndbmhnpleoaaTRef2
namespace Go.Proofs.Ytfbndbmhnpleoaa
set_option linter.unusedVariables false
set_option linter.unusedSimpArgs false
open Go.RowKit

/-- So many rounds went well. -/
structure RlOk (l : List UInt8) (i : Nat) (L : List St) (st : Nat × Nat) : Prop where
  len : L.length = i
  rises : RisesT L
  ok : ∀ x ∈ L, x.ok = true
  at_ : st.1 ≤ l.length
  ld : i ≤ 8 → ldT l i = some (L, st)
theorem RlOk.zero (l : List UInt8) : RlOk l 0 [] (nx l (0, 0)).2 := ⟨rfl, List.Pairwise.nil, (fun x hx => by cases hx), (nx_le (st := (0, 0)) (Nat.zero_le _)).1, fun _ => rfl⟩
theorem RlOk.next {l : List UInt8} {i : Nat} {L : List St} {st : Nat × Nat} (h : RlOk l i L st) (hi : i ≤ 8) (hx : (nextT l st).1.ok = true) (hs : ∀ y ∈ L, y.s < (nextT l st).1.s) : RlOk l (i + 1) (L ++ [(nextT l st).1]) (nextT l st).2 := by
  refine ⟨by simp [h.len], ?_, ?_, nextT_le h.at_, fun h8 => ?_⟩
  · exact List.pairwise_append.2 ⟨h.rises, List.pairwise_singleton _ _, fun a ha b hb => by
      rw [List.mem_singleton] at hb
      subst hb
      exact hs a ha⟩
  · intro x hm
    rcases List.mem_append.1 hm with hm | hm
    · exact h.ok x hm
    · rw [List.mem_singleton] at hm
      subst hm
      exact hx
  · have hl := h.len
    rw [ldT_succ (h.ld (by omega)), if_pos (by simp [hx]; omega), insT_last hs]
theorem RlOk.refuse {l : List UInt8} {i : Nat} {L : List St} {st : Nat × Nat} (h : RlOk l i L st) (hi : i < ldN l) (h8 : i ≤ 8) (hno : ¬ ((nextT l st).1.ok = true ∧ ∀ y ∈ L, y.s < (nextT l st).1.s)) : loadT l = none := by
  cases hld : loadT l with
  | none => rfl
  | some L' =>
    exfalso
    obtain ⟨himg, hok⟩ := loadT_img hld
    obtain ⟨h1, h2⟩ := ldT_put hok himg.symm
    obtain ⟨a, ha, hd⟩ := h2 i (by omega)
    rw [h.ld h8] at ha
    injection ha with ha
    injection ha with e1 e2
    subst e1 e2
    obtain ⟨x, hx⟩ : ∃ x, L'[i]? = some x := ⟨_, List.getElem?_eq_getElem (by omega)⟩
    have hxo := hok.ok x (List.mem_of_getElem? hx)
    have hcons : L'.drop i = x :: L'.drop (i + 1) := by
      obtain ⟨hlt, rfl⟩ := List.getElem?_eq_some_iff.1 hx
      exact List.drop_eq_getElem_cons hlt
    rw [hcons, List.flatMap_cons] at hd
    obtain ⟨hnx, _⟩ := nextT_put hxo hd
    rw [hnx] at hno
    refine hno ⟨hxo, fun y hy => ?_⟩
    obtain ⟨j, hj, rfl⟩ := List.getElem_of_mem hy
    rw [List.length_take] at hj
    rw [List.getElem_take]
    obtain ⟨hlt, rfl⟩ := List.getElem?_eq_some_iff.1 hx
    exact List.pairwise_iff_getElem.1 hok.rises j i (by omega) hlt (by omega)
theorem load_full {l : List UInt8} (h : 9 ≤ ldN l) : loadT l = none := by
  cases hld : loadT l with
  | none => rfl
  | some L' =>
    obtain ⟨himg, hok⟩ := loadT_img hld
    obtain ⟨h1, _⟩ := ldT_put hok himg.symm
    have := hok.len
    omega
theorem RlOk.done {l : List UInt8} {L : List St} {st : Nat × Nat} (h : RlOk l (ldN l) L st) (h8 : ldN l ≤ 8) : (loadT l = if imgT L = l then some L else none) ∧ TbOk L := ⟨loadT_of (h.ld h8), (ldT_ok (h.ld h8)).1⟩
theorem rises_last {L : List St} (h : RisesT L) {j : Nat} {y : St} (hy : L[j]? = some y) (hj : L.length = j + 1) {n : Int} (hn : y.s < n) : ∀ z ∈ L, z.s < n := fun z hz => by
  obtain ⟨i, hi, rfl⟩ := List.getElem_of_mem hz
  obtain ⟨hlt, rfl⟩ := List.getElem?_eq_some_iff.1 hy
  by_cases e : i = j
  · subst e
    exact hn
  · have := List.pairwise_iff_getElem.1 h i j hi hlt (by omega)
    omega

/-! ## In the world -/
/-- A scan, a table and a session's box. -/
structure Rd (w0 : World) (g gx z : Nat) (vs v : Value) (L : List St) (at_ E : Nat) (cs : Array Value) (w : World) : Prop where
  s : Sr w g vs at_ E
  x : RtAt w gx v L
  zz : w.heap[z]? = some (.cells cs 51 (0, 0))
  b : Below w0.heap.size w0 w
  gx_ : g ≠ gx
  gz : g ≠ z
  xz : gx ≠ z
  gl : w0.heap.size ≤ g
  zl : w0.heap.size ≤ z
  vg : v.ownBlock ≠ some g
  vz : v.ownBlock ≠ some z
theorem RtAt.grown {w w' : World} {gx k : Nat} {v : Value} {L : List St} (h : RtAt w gx v L) (hg : w.grownBy w' (some k)) (h1 : gx ≠ k) (h2 : v.ownBlock ≠ some k) : RtAt w' gx v L :=
  ⟨(hg.block gx h.lt (fun e => h1 (by injection e))).trans h.row, h.own.grown hg (.inr h2)⟩
theorem Rd.call {w0 w : World} {g gx z : Nat} {p : Option Addr} {n c : Nat} {v : Value} {L : List St} {at_ E : Nat} {cs : Array Value} (h : Rd w0 g gx z (.slice p n c) v L at_ E cs w) {l : List UInt8} (hv : By w0 (.slice p n c) l) (hat : at_ ≤ l.length) {N A E' : Nat} (hT : nx l (at_, E) = (N, A, E')) :
    Calls Try.prog 21 #[.pointer (some ⟨g, 0, none⟩)] w fun e w' => e = .returned (.int .i64 N) ∧ Rd w0 g gx z (.slice p n c) v L A E' cs w' := by
  refine (refScanNumber_any h.s (hv.below h.b) (by have := hv.len.1; omega) (N := N) (A := A) (E := E') hT).mono ?_
  rintro e w' ⟨rfl, hs, hg⟩
  exact ⟨rfl, hs, h.x.grown hg (fun e => h.gx_ e.symm) h.vg, (hg.block z (Array.getElem?_eq_some_iff.1 h.zz).1 (fun e => h.gz (by injection e with e; exact e.symm))).trans h.zz, h.b.grown hg h.b.size (fun k hk => by injection hk with hk; rw [← hk]; exact h.gl), h.gx_, h.gz, h.xz, h.gl, h.zl, h.vg, h.vz⟩
theorem Rd.put {w0 w : World} {g gx z : Nat} {vs v : Value} {L : List St} {at_ E : Nat} {cs : Array Value} (h : Rd w0 g gx z vs v L at_ E cs w) (i : Nat) (u : Value) : Rd w0 g gx z vs v L at_ E (cs.setIfInBounds i u) (w.setCell ⟨z, i, none⟩ u) := by
  have hg := grown_set w z i u
  refine ⟨?_, h.x.grown hg h.xz h.vz, heap_setCell_same w z i cs 51 u h.zz, h.b.grown hg h.b.size (fun k hk => by injection hk with hk; rw [← hk]; exact h.zl), h.gx_, h.gz, h.xz, h.gl, h.zl, h.vg, h.vz⟩
  exact (hg.block g h.s.lt (fun e => h.gz (by injection e))).trans h.s
theorem Rd.bel {w0 w w' : World} {g gx z : Nat} {vs v : Value} {L : List St} {at_ E : Nat} {cs : Array Value} (h : Rd w0 g gx z vs v L at_ E cs w) (hb : Below w.heap.size w w') : Rd w0 g gx z vs v L at_ E cs w' :=
  ⟨(hb.block g h.s.lt).trans h.s, h.x.below hb, (hb.block z (Array.getElem?_eq_some_iff.1 h.zz).1).trans h.zz, h.b.trans (hb.mono h.b.size), h.gx_, h.gz, h.xz, h.gl, h.zl, h.vg, h.vz⟩
theorem sts_one {w : World} {b : Nat} {x : St} (h : StAt w b 0 x) : Sts w (.slice (some ⟨b, 0, none⟩) 1 1) [x] := ⟨_, 1, rfl, Nat.le_refl _, by simp [maxLen], (fun e => by cases e), fun _ => ⟨b, 0, rfl, fun i y hi => by
  cases i with
  | zero =>
    simp only [List.getElem?_cons_zero, Option.some.injEq] at hi
    subst hi
    simpa using h
  | succ i => simp at hi⟩⟩
theorem step_pushesT {V : World} {ops : Array Oper} {o : Oper} {a : Act} {K : Act → World → Prop} {Q : Exit → Act → World → Prop} {E : Prop} (hgd : o.guard = none) (s x : Operand)
    (ho : o.op = .call { callee := .builtin .append, args := #[s, x], argTypes := #[45, 45] }) (hty : o.type = 45) {B : Nat} {v u : Value} {l m : List St}
    (hs : a.eval s = v) (hx : a.eval x = u) (h : OwnT B V v l) (hu : Sts V u m) (hB : B ≤ V.heap.size) (hn : (l.length + m.length) * 88 ≤ 140737488355328)
    (hK : ∀ v' V', OwnT B V' v' (l ++ m) → Below B V V' → V.grownBy V' v.ownBlock → K (a.put o.dst v') V') : if Region.wanted o (yielded ops a.tmps) = true then Oper.wp Try.prog o a V K Q else E := by
  obtain ⟨v', w', hr, h1, h2, h3⟩ := run_pushesT h hu hB hn
  have hw : Region.wanted o (yielded ops a.tmps) = true := by simp [Region.wanted, hgd]
  rw [if_pos hw]
  exact Lib.wp_append_run_sl V s x 45 ho v u hs hx (by rw [hty]; exact hr) (hK v' w' h1 h2 h3)
theorem Rd.push {w0 w A V9 : World} {g gx z : Nat} {vs v : Value} {L L9 : List St} {at_ E : Nat} {cs : Array Value} {p9 : Option Addr} {n9 c9 : Nat} (h : Rd w0 g gx z vs v L at_ E cs w) (hgx : w0.heap.size ≤ gx) (hA : Below w.heap.size w A) (h9 : OwnT (gx + 1) V9 (.slice p9 n9 c9) L9) (hg : A.grownBy V9 v.ownBlock) :
    Sr (V9.setCell ⟨gx, 0, none⟩ (.slice p9 n9 c9)) g vs at_ E ∧ RtAt (V9.setCell ⟨gx, 0, none⟩ (.slice p9 n9 c9)) gx (.slice p9 n9 c9) L9 ∧ Below w0.heap.size w0 (V9.setCell ⟨gx, 0, none⟩ (.slice p9 n9 c9)) ∧ V9.cell? ⟨gx, 0, none⟩ = some v ∧ V9.frozen? ⟨gx, 0, none⟩ = false := by
  have hvx : some gx ≠ v.ownBlock := fun e => by
    have := (h.x.own.lt gx e.symm).1
    omega
  have hxl : gx < A.heap.size := Nat.lt_of_lt_of_le h.x.lt hA.size
  have hrow : V9.heap[gx]? = some (.cells #[v] 62 (0, 0)) := (hg.block gx hxl hvx).trans ((hA.block gx h.x.lt).trans h.x.row)
  have hs := grown_set V9 gx 0 (.slice p9 n9 c9)
  refine ⟨?_, ⟨?_, h9.grown hs (.inr fun e => by have := (h9.lt gx e).1; omega)⟩, ?_, ?_, frozen_of_row V9 gx 0 _ 62 hrow⟩
  · have h1 : V9.heap[g]? = w.heap[g]? := (hg.block g (Nat.lt_of_lt_of_le h.s.lt hA.size) (fun e => h.vg e.symm)).trans (hA.block g h.s.lt)
    exact (hs.block g (Nat.lt_of_lt_of_le h.s.lt (Nat.le_trans hA.size hg.size)) (fun e => h.gx_ (by injection e))).trans (h1.trans h.s)
  · have h2 := heap_setCell_same V9 gx 0 #[v] 62 (.slice p9 n9 c9) hrow
    exact h2
  · refine ((h.b.trans (hA.mono h.b.size)).grown hg (Nat.le_trans h.b.size hA.size) fun k hk => ?_).grown hs (Nat.le_trans h.b.size (Nat.le_trans hA.size hg.size)) fun k hk => by cases hk; exact hgx
    have := (h.x.own.lt k hk).1
    omega
  · rw [cell_of_row V9 gx 0 _ _ (0, 0) hrow]
    rfl
end Go.Proofs.Ytfbndbmhnpleoaa
