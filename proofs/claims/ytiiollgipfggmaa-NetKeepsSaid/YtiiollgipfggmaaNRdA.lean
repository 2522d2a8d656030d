/- A message is read: its state. -/
import Derived.Test.YtiiollgipfggmaaNText
import Derived.Test.YtiiollgipfggmaaLed
import Derived.Test.YtiiollgipfggmaaRMem
namespace Go.Proofs.Ytiiollgipfggmaa
set_option linter.unusedVariables false
set_option linter.unusedSimpArgs false
open Go.RowKit

theorem Own.grownLt {B : Nat} {w w' : World} {v : Value} {l : List UInt8} (h : Own B w v l) {k : Nat} (hg : w.grownBy w' (some k)) (hk : k < B) : Own B w' v l := by
  obtain ⟨p, n, c, rfl⟩ := h.by_.sl
  refine h.grown hg ?_
  rcases h.far with h0 | ⟨g, hp, hB, _⟩
  · exact .inl h0
  · refine .inr fun j hj e => ?_
    rw [hp] at hj
    injection hj with hj
    injection e with e
    have : (⟨g, 0, none⟩ : Addr).block = g := rfl
    omega
theorem DatO.grownLt {B : Nat} {w w' : World} {v : Value} {E : List Ec} {L : List En} (h : DatO B w v E L) {k : Nat} (hg : w.grownBy w' (some k)) (hk : k < B) : DatO B w' v E L := ⟨h.1, fun i e x h1 h2 => by
  obtain ⟨a, b, c, f, d⟩ := h.2 i e x h1 h2
  exact ⟨a, b, c.grownLt hg hk, f, d⟩⟩
theorem OwnEns.grownLt {B : Nat} {w w' : World} {v : Value} {L : List En} (h : OwnEns B w v L) {k : Nat} (hg : w.grownBy w' (some k)) (hk : k < B) : OwnEns B w' v L := by
  obtain ⟨E, h1, h2⟩ := h
  refine ⟨E, h1.grown hg ?_, h2.grownLt hg hk⟩
  by_cases e : v.ownBlock = none
  · exact .inl e
  · refine .inr fun e2 => ?_
    have := h1.lt _ e2
    omega
theorem OwnN.grownLt {B : Nat} {w w' : World} {v : Value} {L : List Int} (h : OwnN B w v L) {k : Nat} (hg : w.grownBy w' (some k)) (hk : k < B) : OwnN B w' v L := by
  refine h.grown hg ?_
  by_cases e : v.ownBlock = none
  · exact .inl e
  · refine .inr fun e2 => ?_
    have := h.lt _ e2
    omega
/-- A message of a call's own, from B on. -/
structure MsO (B : Nat) (w : World) (m : Ms) (ve vv vd : Value) : Prop where
  es : OwnEns B w ve m.es
  vs : OwnN B w vv m.vs
  d : Own B w vd m.d
  fits : m.Fits
theorem MsO.v {B : Nat} {w : World} {m : Ms} {ve vv vd : Value} (h : MsO B w m ve vv vd) : MsV w m ve vv vd := ⟨h.es.ens, h.vs.ns, h.d.by_, h.fits⟩
theorem MsO.below {B : Nat} {w w' : World} {m : Ms} {ve vv vd : Value} (h : MsO B w m ve vv vd) (hb : Below w.heap.size w w') : MsO B w' m ve vv vd := ⟨h.es.below hb, h.vs.below hb, h.d.below hb, h.fits⟩
theorem MsO.mono {B B' : Nat} {w : World} {m : Ms} {ve vv vd : Value} (h : MsO B w m ve vv vd) (hB : B' ≤ B) : MsO B' w m ve vv vd := ⟨h.es.mono hB, h.vs.mono hB, h.d.mono hB, h.fits⟩
theorem MsO.grownLt {B : Nat} {w w' : World} {m : Ms} {ve vv vd : Value} (h : MsO B w m ve vv vd) {k : Nat} (hg : w.grownBy w' (some k)) (hk : k < B) : MsO B w' m ve vv vd := ⟨h.es.grownLt hg hk, h.vs.grownLt hg hk, h.d.grownLt hg hk, h.fits⟩
theorem grown_new {W a b : World} {g : Nat} {row : Option Nat} (h : W.grownBy a (some g)) (h2 : a.grownBy b row) (hr : ∀ k, row = some k → W.heap.size ≤ k) : W.grownBy b (some g) :=
  ⟨h2.os.trans h.os, h2.tape.trans h.tape, h2.output.trans h.output, Nat.le_trans h.size h2.size, fun k hk hne => (h2.block k (Nat.lt_of_lt_of_le hk h.size) (fun e => by have := hr k e.symm; omega)).trans (h.block k hk hne)⟩
theorem step_pushE1 {w : World} {ops : Array Oper} {o : Oper} {a : Act} {K : Act → World → Prop} {Q : Exit → Act → World → Prop} {E : Prop} (hgd : o.guard = none) (s x : Operand)
    (ho : o.op = .call { callee := .builtin .append, args := #[s, x], argTypes := #[22, 22] }) (hty : o.type = 22) {B : Nat} {v : Value} {l : List Ec} (y : Ec) {H : Nat}
    (hs : a.eval s = v) (hx : a.eval x = .slice (some ⟨H, 0, none⟩) 1 1) (hH : H = w.heap.size) (h : OwnE B w v l) (hB : B ≤ w.heap.size) (hn : l.length ≤ 1000000)
    (hK : ∀ v' w', OwnE B w' v' (l ++ [y]) → w.grownBy w' v.ownBlock → (v'.ownBlock = v.ownBlock ∨ v'.ownBlock = some (w.heap.size + 1)) → K (a.put o.dst v') w') : if Region.wanted o (yielded ops a.tmps) = true then Oper.wp Try.prog o a (w.alloc (.cells #[.int .i64 y.i, .int .i64 y.t, .slice y.p y.n y.c] 70)) K Q else E := by
  subst hH
  obtain ⟨v', w', hr, h1, h2, h3, h4⟩ := run_pushE h y hB hn
  have hw : Region.wanted o (yielded ops a.tmps) = true := by simp [Region.wanted, hgd]
  rw [if_pos hw]
  exact Lib.wp_append_run_sl _ s x 22 ho v _ hs hx (by rw [hty]; exact hr) (hK v' w' h1 h3 h4)
theorem Own.chg {B : Nat} {w w' : World} {v : Value} {l : List UInt8} {S : Nat → Prop} (h : Own B w v l) (hc : Chg w w' S) (hS : ∀ k, S k → k < B) : Own B w' v l := by
  rcases h with h | ⟨g, cap, e, hB, hl, hm, hx, hs, hf⟩
  · exact .inl h
  · refine .inr ⟨g, cap, e, hB, hl, hm, ?_⟩
    by_cases h0 : cap = 0
    · subst h0
      exact ⟨fun i x hi => by have := (List.getElem?_eq_some_iff.1 hi).1; omega, fun i hi => by omega, fun i hi => by omega⟩
    · have hlt : g < w.heap.size := by
        obtain ⟨u, hu⟩ := Option.isSome_iff_exists.1 (hs 0 (by omega))
        exact lt_of_cell hu
      have hb := hc.block g hlt (fun hk => by have := hS g hk; omega)
      have hcell : ∀ i, w'.cell? ⟨g, i, none⟩ = w.cell? ⟨g, i, none⟩ := fun i => by unfold World.cell?; simp only [hb]
      have hfro : ∀ i, w'.frozen? ⟨g, i, none⟩ = w.frozen? ⟨g, i, none⟩ := fun i => by unfold World.frozen?; simp only [hb]
      exact ⟨fun i x hi => by rw [hcell]; exact hx i x hi, fun i hi => by rw [hcell]; exact hs i hi, fun i hi => by rw [hfro]; exact hf i hi⟩
theorem ownsRow_chg {w w' : World} {B n z : Nat} {e : TypeId} {v : Value} {xs : List Value} {S : Nat → Prop} (h : w.ownsRow B e z v n xs) (hc : Chg w w' S) (hS : ∀ k, S k → k < B) : w'.ownsRow B e z v n xs := by
  obtain ⟨h0, h1 | ⟨g, cap, cur, e1, hB, hh, r⟩⟩ := h
  · exact ⟨h0, .inl h1⟩
  · have hlt : g < w.heap.size := (Array.getElem?_eq_some_iff.1 hh).1
    exact ⟨h0, .inr ⟨g, cap, cur, e1, hB, (hc.block g hlt (fun hk => by have := hS g hk; omega)).trans hh, r⟩⟩
theorem OwnEns.chg {B : Nat} {w w' : World} {v : Value} {L : List En} {S : Nat → Prop} (h : OwnEns B w v L) (hc : Chg w w' S) (hS : ∀ k, S k → k < B) : OwnEns B w' v L := by
  obtain ⟨E, h1, h2⟩ := h
  refine ⟨E, ownsRow_chg h1 hc hS, h2.1, fun i e x a b => ?_⟩
  obtain ⟨p, q, r, f, d⟩ := h2.2 i e x a b
  exact ⟨p, q, r.chg hc hS, f, d⟩
theorem OwnN.chg {B : Nat} {w w' : World} {v : Value} {L : List Int} {S : Nat → Prop} (h : OwnN B w v L) (hc : Chg w w' S) (hS : ∀ k, S k → k < B) : OwnN B w' v L := ⟨ownsRow_chg h.1 hc hS, h.2⟩
/-- While a message's entries are read: the scan in the block g, the box behind the world W. -/
structure RdAt (W w : World) (g : Nat) (u : Value) (st : Nat × Nat) (H : Ms) (ve : Value) (L : List En) : Prop where
  gl : g < W.heap.size
  sc : Sc w g u st.1 st.2
  gr : W.grownBy w (some g)
  row : w.heap[W.heap.size]? = some (.cells #[.int .i64 H.k, .int .i64 H.f, .int .i64 H.t, .int .i64 H.tm, .int .i64 H.ix, .int .i64 H.lt, .int .i64 H.cm, .int .i64 H.rd, .bool H.ys, .bool H.dn, ve, .slice none 0 0, .slice none 0 0] 26 (0, 0))
  es : OwnEns (W.heap.size + 1) w ve L
section
variable {W w w' : World} {g : Nat} {u : Value} {st st' : Nat × Nat} {H : Ms} {ve vv : Value} {L : List En} {V : List Int}
theorem RdAt.lt (h : RdAt W w g u st H ve L) : W.heap.size < w.heap.size := (Array.getElem?_eq_some_iff.1 h.row).1
theorem RdAt.call (h : RdAt W w g u st H ve L) (hs : Sc w' g u st'.1 st'.2) (hg : w.grownBy w' (some g)) : RdAt W w' g u st' H ve L :=
  ⟨h.gl, hs, gtrans h.gr hg, (hg.block _ h.lt (fun e => by have := h.gl; injection e with e; omega)).trans h.row, h.es.grownLt hg (by have := h.gl; omega)⟩
theorem RdAt.cell (h : RdAt W w g u st H ve L) (i : Nat) {x : Value} (hx : #[.int .i64 H.k, .int .i64 H.f, .int .i64 H.t, .int .i64 H.tm, .int .i64 H.ix, .int .i64 H.lt, .int .i64 H.cm, .int .i64 H.rd, .bool H.ys, .bool H.dn, ve, .slice none 0 0, .slice none 0 0][i]? = some x) : w.cell? ⟨W.heap.size, i, none⟩ = some x := (cell_of_row w _ i _ 26 (0, 0) h.row).trans hx
theorem RdAt.fr (h : RdAt W w g u st H ve L) (i : Nat) : w.frozen? ⟨W.heap.size, i, none⟩ = false := frozen_of_row w _ i _ 26 h.row
theorem RdAt.drewN (h : RdAt W w g u st H ve L) (q : Nat) : RdAt W (w.drewN q) g u st H ve L := h.call h.sc (grown_drewN (World.grownBy.refl _ _) q)
/-- Behind an append to the entries. -/
theorem RdAt.put (h : RdAt W w g u st H ve L) {v' : Value} {L' : List En} (hg : w.grownBy w' ve.ownBlock) (he : OwnEns (W.heap.size + 1) w' v' L') :
    RdAt W (w'.setCell ⟨W.heap.size, 10, none⟩ v') g u st H v' L' := by
  obtain ⟨E, hE, _⟩ := h.es
  have hk : ∀ k, ve.ownBlock = some k → W.heap.size + 1 ≤ k := fun k e => (hE.lt k e).1
  have h0 := h.gl
  have hrow : w'.heap[W.heap.size]? = some (.cells #[.int .i64 H.k, .int .i64 H.f, .int .i64 H.t, .int .i64 H.tm, .int .i64 H.ix, .int .i64 H.lt, .int .i64 H.cm, .int .i64 H.rd, .bool H.ys, .bool H.dn, ve, .slice none 0 0, .slice none 0 0] 26 (0, 0)) := (hg.block _ h.lt (fun e => by have := hk _ e.symm; omega)).trans h.row
  have hsc : Sc w' g u st.1 st.2 := (hg.block _ h.sc.lt (fun e => by have := hk _ e.symm; omega)).trans h.sc
  have hset := heap_setCell_same w' W.heap.size 10 _ 26 v' hrow
  simp only [List.setIfInBounds_toArray, List.set_cons_succ, List.set_cons_zero] at hset
  refine ⟨h0, ?_, ?_, hset, he.grownLt (grown_set _ _ _ _) (by omega)⟩
  · unfold Sc
    rw [heap_setCell_other w' ⟨W.heap.size, 10, none⟩ g _ (by simp; omega)]
    exact hsc
  · exact grown_new (grown_new h.gr hg (fun k e => by have := hk k e; omega)) (grown_set w' W.heap.size 10 v') (fun k e => by injection e with e; omega)
theorem RdAt.cellPut (h : RdAt W w g u st H ve L) (hg : w.grownBy w' ve.ownBlock) : w'.cell? ⟨W.heap.size, 10, none⟩ = some ve ∧ w'.frozen? ⟨W.heap.size, 10, none⟩ = false := by
  obtain ⟨E, hE, _⟩ := h.es
  have hk : ∀ k, ve.ownBlock = some k → W.heap.size + 1 ≤ k := fun k e => (hE.lt k e).1
  have hrow := (hg.block _ h.lt (fun e => by have := hk _ e.symm; omega)).trans h.row
  exact ⟨cell_of_row w' _ 10 _ 26 (0, 0) hrow, frozen_of_row w' _ 10 _ 26 hrow⟩
/-- While its voters are read: W2 is the world in which that began. -/
structure RdBt (W W2 w : World) (g : Nat) (u : Value) (st : Nat × Nat) (H : Ms) (ve vv : Value) (L : List En) (V : List Int) : Prop where
  gl : g < W.heap.size
  w2 : W.heap.size < W2.heap.size
  sc : Sc w g u st.1 st.2
  gr : W.grownBy w (some g)
  ch : Chg W2 w (fun k => k = g ∨ k = W.heap.size)
  row : w.heap[W.heap.size]? = some (.cells #[.int .i64 H.k, .int .i64 H.f, .int .i64 H.t, .int .i64 H.tm, .int .i64 H.ix, .int .i64 H.lt, .int .i64 H.cm, .int .i64 H.rd, .bool H.ys, .bool H.dn, ve, vv, .slice none 0 0] 26 (0, 0))
  es : OwnEns (W.heap.size + 1) W2 ve L
  vs : OwnN W2.heap.size w vv V
theorem RdAt.next (h : RdAt W w g u st H ve L) : RdBt W w w g u st H ve (.slice none 0 0) L [] := ⟨h.gl, h.lt, h.sc, h.gr, Chg.refl _ _, h.row, h.es, OwnN.nil _ _⟩
variable {W2 : World}
theorem RdBt.lt (h : RdBt W W2 w g u st H ve vv L V) : W.heap.size < w.heap.size := (Array.getElem?_eq_some_iff.1 h.row).1
theorem RdBt.call (h : RdBt W W2 w g u st H ve vv L V) (hs : Sc w' g u st'.1 st'.2) (hg : w.grownBy w' (some g)) : RdBt W W2 w' g u st' H ve vv L V :=
  ⟨h.gl, h.w2, hs, gtrans h.gr hg, h.ch.trans (Chg.of_grown hg (fun k => k = g) (fun k e => by injection e with e; exact .inl e.symm)) (fun k e => .inl (.inl e)), (hg.block _ h.lt (fun e => by have := h.gl; injection e with e; omega)).trans h.row, h.es, h.vs.grownLt hg (by have := h.gl; have := h.w2; omega)⟩
theorem RdBt.cell (h : RdBt W W2 w g u st H ve vv L V) (i : Nat) {x : Value} (hx : #[.int .i64 H.k, .int .i64 H.f, .int .i64 H.t, .int .i64 H.tm, .int .i64 H.ix, .int .i64 H.lt, .int .i64 H.cm, .int .i64 H.rd, .bool H.ys, .bool H.dn, ve, vv, .slice none 0 0][i]? = some x) : w.cell? ⟨W.heap.size, i, none⟩ = some x := (cell_of_row w _ i _ 26 (0, 0) h.row).trans hx
theorem RdBt.fr (h : RdBt W W2 w g u st H ve vv L V) (i : Nat) : w.frozen? ⟨W.heap.size, i, none⟩ = false := frozen_of_row w _ i _ 26 h.row
theorem RdBt.drewN (h : RdBt W W2 w g u st H ve vv L V) (q : Nat) : RdBt W W2 (w.drewN q) g u st H ve vv L V := h.call h.sc (grown_drewN (World.grownBy.refl _ _) q)
theorem RdBt.put (h : RdBt W W2 w g u st H ve vv L V) {v' : Value} {V' : List Int} (hg : w.grownBy w' vv.ownBlock) (he : OwnN W2.heap.size w' v' V') :
    RdBt W W2 (w'.setCell ⟨W.heap.size, 11, none⟩ v') g u st H ve v' L V' := by
  have hk : ∀ k, vv.ownBlock = some k → W2.heap.size ≤ k := fun k e => (h.vs.lt k e).1
  have h0 := h.gl
  have h2 := h.w2
  have hrow : w'.heap[W.heap.size]? = some (.cells #[.int .i64 H.k, .int .i64 H.f, .int .i64 H.t, .int .i64 H.tm, .int .i64 H.ix, .int .i64 H.lt, .int .i64 H.cm, .int .i64 H.rd, .bool H.ys, .bool H.dn, ve, vv, .slice none 0 0] 26 (0, 0)) := (hg.block _ h.lt (fun e => by have := hk _ e.symm; omega)).trans h.row
  have hsc : Sc w' g u st.1 st.2 := (hg.block _ h.sc.lt (fun e => by have := hk _ e.symm; omega)).trans h.sc
  have hset := heap_setCell_same w' W.heap.size 11 _ 26 v' hrow
  simp only [List.setIfInBounds_toArray, List.set_cons_succ, List.set_cons_zero] at hset
  refine ⟨h0, h2, ?_, ?_, ?_, hset, h.es, he.grownLt (grown_set _ _ _ _) h2⟩
  · unfold Sc
    rw [heap_setCell_other w' ⟨W.heap.size, 11, none⟩ g _ (by simp; omega)]
    exact hsc
  · exact grown_new (grown_new h.gr hg (fun k e => by have := hk k e; omega)) (grown_set w' W.heap.size 11 v') (fun k e => by injection e with e; omega)
  · exact Chg.set (h.ch.trans (Chg.of_grown hg (fun k => W2.heap.size ≤ k) (fun k e => .inl (hk k e))) (fun k e => .inr e)) v' (.inl (.inr rfl))
theorem RdBt.cellPut (h : RdBt W W2 w g u st H ve vv L V) (hg : w.grownBy w' vv.ownBlock) : w'.cell? ⟨W.heap.size, 11, none⟩ = some vv ∧ w'.frozen? ⟨W.heap.size, 11, none⟩ = false := by
  have hk : ∀ k, vv.ownBlock = some k → W2.heap.size ≤ k := fun k e => (h.vs.lt k e).1
  have hrow := (hg.block _ h.lt (fun e => by have := hk _ e.symm; have := h.w2; omega)).trans h.row
  exact ⟨cell_of_row w' _ 11 _ 26 (0, 0) hrow, frozen_of_row w' _ 11 _ 26 hrow⟩
theorem RdBt.ens (h : RdBt W W2 w g u st H ve vv L V) : OwnEns (W.heap.size + 1) w ve L := h.es.chg h.ch (fun k e => by have := h.gl; omega)
end
theorem Try.infoInt : (Try.prog.info? 3).map (fun i => (i.zero, i.size, i.bytes)) = some (some (.int .i64 0), 1, 8) := by kernel_rfl
theorem run_pushN {B : Nat} {w : World} {v : Value} {l : List Int} (h : OwnN B w v l) (x : Int) (hx : fits x) (hB : B ≤ w.heap.size) (hs : l.length ≤ 1000000) :
    ∃ v' w', (Builtin.append_ #[23, 23] 23 #[v, .slice (some ⟨w.heap.size, 0, none⟩) 1 1]).run Try.prog (w.alloc (.cells #[.int .i64 x] 3)) = .ok v' w' ∧ OwnN B w' v' (l ++ [x]) ∧ w.grownBy w' v.ownBlock ∧ Below B w w' := by
  obtain ⟨i0, hi0, hz0, hz1, hz2⟩ := info_parts Try.infoInt
  have ho' := World.ownsRow.alloc h.1 (.cells #[.int .i64 x] 3)
  obtain ⟨v', w', hr, h1, h2, _, h4⟩ := run_append_own_at (P := Try.prog) (w.alloc (.cells #[.int .i64 x] 3)) B 23 23 3 i0 _ 1 8 Try.underlying23 hi0 hz0 hz1 hz2 rfl (by decide) v l.length (l.map (Value.int .i64)) ho' ⟨w.heap.size, 0, none⟩ 1 1 [.int .i64 x] rfl
    (fun j u hj => by
      rw [add_lit0, Nat.zero_add, cell_of_row _ w.heap.size j _ 3 (0, 0) (heap_alloc_new w _)]
      simpa using hj)
    (by intro u hu; simp at hu; subst hu; rfl) (by simp only [maxLen]; omega) (by omega) (by simp; omega)
  have hb0 : Below B w (w.alloc (.cells #[.int .i64 x] 3)) := (Below.refl _ _).alloc hB _
  refine ⟨v', w', hr, ⟨?_, ?_⟩, ?_, hb0.grown h2 (by simp; omega) fun k hk => (World.ownsRow.lt h.1 k hk).1⟩
  · have : (l ++ [x]).map (Value.int .i64) = l.map (Value.int .i64) ++ [.int .i64 x] := by simp
    rw [this, List.length_append]
    exact h1
  · intro y hy
    rcases List.mem_append.1 hy with hy | hy
    · exact h.2 y hy
    · simp at hy
      subst hy
      exact hx
  · refine ⟨h2.os, h2.tape, h2.output, ?_, fun k hk hne => ?_⟩
    · have := h2.size
      simp at this
      omega
    · rw [h2.block k (by simp; omega) hne]
      exact heap_alloc_old _ _ hk
theorem step_pushN1 {w : World} {ops : Array Oper} {o : Oper} {a : Act} {K : Act → World → Prop} {Q : Exit → Act → World → Prop} {E : Prop} (hgd : o.guard = none) (s x : Operand)
    (ho : o.op = .call { callee := .builtin .append, args := #[s, x], argTypes := #[23, 23] }) (hty : o.type = 23) {B : Nat} {v : Value} {l : List Int} (y : Int) {H : Nat}
    (hs : a.eval s = v) (hx : a.eval x = .slice (some ⟨H, 0, none⟩) 1 1) (hH : H = w.heap.size) (h : OwnN B w v l) (hy : fits y) (hB : B ≤ w.heap.size) (hn : l.length ≤ 1000000)
    (hK : ∀ v' w', OwnN B w' v' (l ++ [y]) → w.grownBy w' v.ownBlock → K (a.put o.dst v') w') : if Region.wanted o (yielded ops a.tmps) = true then Oper.wp Try.prog o a (w.alloc (.cells #[.int .i64 y] 3)) K Q else E := by
  subst hH
  obtain ⟨v', w', hr, h1, h2, _⟩ := run_pushN h y hy hB hn
  have hw : Region.wanted o (yielded ops a.tmps) = true := by simp [Region.wanted, hgd]
  rw [if_pos hw]
  exact Lib.wp_append_run_sl _ s x 23 ho v _ hs hx (by rw [hty]; exact hr) (hK v' w' h1 h2)
end Go.Proofs.Ytiiollgipfggmaa
