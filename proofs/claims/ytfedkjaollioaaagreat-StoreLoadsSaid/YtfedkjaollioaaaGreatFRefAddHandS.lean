/- The document's Add. -/
import Derived.Test.YtfedkjaollioaaaGreatS6
import Derived.Test.YtfedkjaollioaaaGreatS5
namespace Go.Proofs.YtfedkjaollioaaaGreat
set_option linter.unusedVariables false
set_option linter.unusedSimpArgs false
open Go.RowKit

/-- The document's forest, as one may write it: what its spans lie in is none of T. -/
structure RfX (T : Nat → Prop) (w : World) (g : Nat) (tr : Int) (L : List Sp) : Prop where
  c0 : w.cell? ⟨g, 0, none⟩ = some (.int .i64 tr)
  fr : w.frozen? ⟨g, 1, none⟩ = false
  l : ∃ v, w.cell? ⟨g, 1, none⟩ = some v ∧ Sps w v L ∧ (L = [] ∨ ∀ k, v.ownBlock = some k → ¬ T k)
theorem RfX.is {T : Nat → Prop} {w : World} {g : Nat} {tr : Int} {L : List Sp} (h : RfX T w g tr L) : RfIs w g tr L := ⟨h.c0, let ⟨v, a, b, _⟩ := h.l; ⟨v, a, b⟩⟩
theorem RfX.below {T : Nat → Prop} {w w' : World} {g : Nat} {tr : Int} {L : List Sp} (h : RfX T w g tr L) (hb : Below w.heap.size w w') : RfX T w' g tr L := by
  obtain ⟨v, a, b, c⟩ := h.l
  have hg : g < w.heap.size := lt_of_cell h.c0
  exact ⟨(hb.cell (p := ⟨g, 0, none⟩) hg).trans h.c0, (hb.frozen (p := ⟨g, 1, none⟩) hg).trans h.fr, v, (hb.cell (p := ⟨g, 1, none⟩) hg).trans a, b.below hb, c⟩
theorem RfX.grown {T : Nat → Prop} {w w' : World} {g r : Nat} {tr : Int} {L : List Sp} (h : RfX T w g tr L) (hg : w.grownBy w' (some r)) (hr : T r) (hne : r ≠ g) : RfX T w' g tr L := by
  obtain ⟨v, a, b, c⟩ := h.l
  have hgl : g < w.heap.size := lt_of_cell h.c0
  have hb : w'.heap[g]? = w.heap[g]? := hg.block g hgl (fun e => hne (by injection e with e; exact e.symm))
  exact ⟨(World.cell?_of_block (a := ⟨g, 0, none⟩) hb).trans h.c0, (World.frozen?_of_block (a := ⟨g, 1, none⟩) hb).trans h.fr, v, (World.cell?_of_block (a := ⟨g, 1, none⟩) hb).trans a, b.grown hg (c.imp id fun hc k hk e => hc k hk (by injection e with e; exact e ▸ hr)), c⟩
theorem RfX.chg {T : Nat → Prop} {w w' : World} {g : Nat} {tr : Int} {L : List Sp} (h : RfX T w g tr L) (hc : Chg w w' fun _ => False) : RfX T w' g tr L :=
  h.below ⟨hc.os, hc.tape, hc.output, hc.size, fun k hk => hc.block k hk (fun e => e)⟩
theorem RfX.weak {T T' : Nat → Prop} {w : World} {g : Nat} {tr : Int} {L : List Sp} (h : RfX T w g tr L) (hT : ∀ k, T' k → T k) : RfX T' w g tr L := by
  obtain ⟨a, b, v, d, e, f⟩ := h
  exact ⟨a, b, v, d, e, f.imp id fun h k hk hh => h k hk (hT k hh)⟩
theorem RfX.more {T P : Nat → Prop} {w w' : World} {g : Nat} {tr : Int} {L : List Sp} (h : RfX T w g tr L) (hb : Below w.heap.size w w') (hgc : ∀ k, P k → w.heap.size ≤ k) : RfX (fun k => T k ∨ P k) w' g tr L := by
  obtain ⟨v, a, b, c⟩ := h.l
  obtain ⟨c0, fr, _⟩ := h.below hb
  have hg : g < w.heap.size := lt_of_cell h.c0
  refine ⟨c0, fr, v, (hb.cell (p := ⟨g, 1, none⟩) hg).trans a, b.below hb, ?_⟩
  obtain ⟨p, n, cc, rfl⟩ := b.sl
  by_cases hL : L = []
  · exact .inl hL
  · refine .inr fun k hk => ?_
    obtain ⟨x, r, rfl⟩ : ∃ x r, L = x :: r := List.exists_cons_of_ne_nil hL
    obtain rfl : n = (x :: r).length := b.len.1
    obtain ⟨gv, ov, rfl, hx⟩ := b.at_ (by simp)
    have hlt := (hx 0 x rfl).lt
    rcases c with c | c
    · cases c
    · rintro (h1 | h1)
      · exact c k hk h1
      · have hk2 : gv = k := by injection hk
        have := hgc k h1
        omega

theorem step_append_run {w : World} {ops : Array Oper} {o : Oper} {a : Act} {K : Act → World → Prop} {Q : Exit → Act → World → Prop} {E : Prop} (hgd : o.guard = none) (s x : Operand)
    (ho : o.op = .call { callee := .builtin .append, args := #[s, x], argTypes := #[31, 31] }) (hty : o.type = 31) {v u v' : Value} {w' : World}
    (hs : a.eval s = v) (hx : a.eval x = u) (hr : (Builtin.append_ #[31, 31] 31 #[v, u]).run Tryz.prog w = .ok v' w')
    (h : K (a.put o.dst v') w') : if Region.wanted o (yielded ops a.tmps) = true then Oper.wp Tryz.prog o a w K Q else E := by
  have hw : Region.wanted o (yielded ops a.tmps) = true := by simp [Region.wanted, hgd]
  rw [if_pos hw]
  exact Lib.wp_append_run_sl w s x 31 ho v u hs hx (by rw [hty]; exact hr) h
theorem step_pushes {V : World} {ops : Array Oper} {o : Oper} {a : Act} {K : Act → World → Prop} {Q : Exit → Act → World → Prop} {E : Prop} (hgd : o.guard = none) (s x : Operand)
    (ho : o.op = .call { callee := .builtin .append, args := #[s, x], argTypes := #[31, 31] }) (hty : o.type = 31) {B : Nat} {v u : Value} {l m : List Sp}
    (hs : a.eval s = v) (hx : a.eval x = u) (h : OwnS B V v l) (hu : Sps V u m) (hB : B ≤ V.heap.size) (hn : (l.length + m.length) * 56 ≤ 140737488355328)
    (hK : ∀ v' V', OwnS B V' v' (l ++ m) → Below B V V' → V.grownBy V' v.ownBlock → K (a.put o.dst v') V') : if Region.wanted o (yielded ops a.tmps) = true then Oper.wp Tryz.prog o a V K Q else E := by
  obtain ⟨v', w', hr, h1, h2, h3⟩ := run_pushes h hu hB hn
  exact step_append_run hgd s x ho hty hs hx hr (hK v' w' h1 h2 h3)
theorem sps_one {V : World} {b : Nat} {x : Sp} (h : SpAt V b 0 x) : Sps V (.slice (some ⟨b, 0, none⟩) 1 1) [x] := ⟨_, 1, rfl, Nat.le_refl _, by simp [maxLen], (fun e => by cases e), fun _ => ⟨b, 0, rfl, fun i y hi => by
  cases i with
  | zero =>
    obtain rfl : x = y := by simpa using hi
    simpa using h
  | succ n => simp at hi⟩⟩
theorem RfX.put {T : Nat → Prop} {w V : World} {g : Nat} {tr : Int} {L M : List Sp} (h : RfX T w g tr L) (hb : Below w.heap.size w V) {v : Value} (ho : OwnS w.heap.size V v M) (hT : ∀ k, T k → k < w.heap.size) : RfX T (V.setCell ⟨g, 1, none⟩ v) g tr M := by
  obtain ⟨c0, fr, v0, c1, _⟩ := h.below hb
  have hg : g < w.heap.size := lt_of_cell h.c0
  refine ⟨?_, ?_, v, World.cell?_setCell_same _ _ _ c1, ?_, .inr fun k hk hh => ?_⟩
  · rw [World.cell?_setCell_other _ _ _ _ (by simp)]; exact c0
  · rw [World.frozen?_setCell]; exact fr
  · exact ho.sps.grown (grown_set _ _ _ _) (.inr fun k hk e => by
      have := (ho.lt k hk).1
      injection e with e
      omega)
  · have := (ho.lt k hk).1
    have := hT k hh
    omega

set_option maxRecDepth 200000 in
set_option maxHeartbeats 1000000 in
theorem refAdd_any {w : World} {g : Nat} {tr : Int} {L l : List Sp} {v : Value} (h : RfX (fun k => k = g) w g tr L) (hok : FoOk tr L) (hv : Sps w v l) (hl : l.length ≤ 100000) (hnm : ∀ x ∈ l, x.n.size ≤ 1000000) (hne : l = [] ∨ v.ownBlock ≠ some g) :
    Calls Tryz.prog 35 #[.pointer (some ⟨g, 0, none⟩), v] w fun e w' => e = .returned (addV tr L l) ∧ RfX (fun k => k = g) w' g tr (addP tr L l) ∧ Chg w w' fun k => k = g := by
  obtain ⟨p, n, c, rfl⟩ := hv.sl
  obtain rfl : n = l.length := hv.len.1
  have HV := hide (And.intro hv hne)
  have HNM := hide hnm
  have HF := hide h
  have c0 := h.c0
  clear hv hnm h
  go_enter Tryz.func35, Tryz.ntmps35
  go_wp2_with fail
  obtain ⟨X, hX⟩ : ∃ X, (w.alloc (.cells #[.int .i64 0, .int .i64 0, .int .i64 0, .int .i64 0, .int .i64 0] 40)).alloc (.cells #[.int .i64 0, .int .i64 0, .int .i64 0, .int .i64 0, .int .i64 0] 40) = X := ⟨_, rfl⟩
  have HB1 : Hid (Below w.heap.size w X) := hide (by rw [← hX]; exact ((Below.refl w.heap.size w).alloc (Nat.le_refl _) _).alloc (by simp) _)
  have HROW1 : Hid (X.heap[w.heap.size]? = some (.cells #[.int .i64 0, .int .i64 0, .int .i64 0, .int .i64 0, .int .i64 0] 40) ∧ X.heap[w.heap.size + 1]? = some (.cells #[.int .i64 0, .int .i64 0, .int .i64 0, .int .i64 0, .int .i64 0] 40) ∧ CnAt X (w.heap.size + 1) cn0) := hide (by
    have h1 := heap_alloc_new w (.cells #[.int .i64 0, .int .i64 0, .int .i64 0, .int .i64 0, .int .i64 0] 40)
    have h2 := heap_alloc_new (w.alloc (.cells #[.int .i64 0, .int .i64 0, .int .i64 0, .int .i64 0, .int .i64 0] 40)) (.cells #[.int .i64 0, .int .i64 0, .int .i64 0, .int .i64 0, .int .i64 0] 40)
    have hb := (Below.refl (w.alloc (.cells #[.int .i64 0, .int .i64 0, .int .i64 0, .int .i64 0, .int .i64 0] 40)).heap.size (w.alloc (.cells #[.int .i64 0, .int .i64 0, .int .i64 0, .int .i64 0, .int .i64 0] 40))).alloc (Nat.le_refl _) (.cells #[.int .i64 0, .int .i64 0, .int .i64 0, .int .i64 0, .int .i64 0] 40)
    have hs : (w.alloc (.cells #[.int .i64 0, .int .i64 0, .int .i64 0, .int .i64 0, .int .i64 0] 40)).heap.size = w.heap.size + 1 := by simp
    rw [← hX]
    rw [hs] at h2 hb
    have h3 := cnAt_new (w.alloc (.cells #[.int .i64 0, .int .i64 0, .int .i64 0, .int .i64 0, .int .i64 0] 40))
    rw [hs] at h3
    exact ⟨(hb.block w.heap.size (by omega)).trans h1, h2, h3⟩)
  have hXs : X.heap.size = w.heap.size + 2 := by rw [← hX]; simp
  have HXS := hide hXs
  rw [hX]
  clear hX hXs
  go_loopw [8, 16] (fun _ ix wr => ∃ k : Nat, k ≤ l.length ∧ ix = .int .i64 k ∧ Hid (Below X.heap.size X wr ∧ (l.take k).all (fun x => x.ok && decide (x.t = tr)) = true)) (fun _ ix _ => l.length - (intOf ix).toNat)
  case atStart => exact ⟨0, by omega, rfl, hide ⟨Below.refl _ _, rfl⟩⟩
  case round =>
    obtain ⟨k, hk, rfl, HR⟩ := hrel
    by_cases hlt : (k : Int) < (l.length : Int)
    · obtain ⟨gv, ov, rfl, hx⟩ := HV.out.1.at_ (by omega)
      obtain ⟨x, hxk⟩ : ∃ x, l[k]? = some x := ⟨_, List.getElem?_eq_getElem (by omega)⟩
      have hbw : Below w.heap.size w wr := HB1.out.trans (HR.out.1.mono (by have := HXS.out; omega))
      have hat := (hx k x hxk).below hbw
      obtain ⟨oo, hoo⟩ : ∃ oo, ov + k * 6 = oo := ⟨_, rfl⟩
      rw [hoo] at hat
      have z0 := hat.c0
      have z1 := hat.c1
      have z2 := hat.c2
      have z3 := hat.c3
      have z4 := hat.c4
      have z5 := hat.c5
      have hxn := HNM.out x (List.mem_of_getElem? hxk)
      have HCK := hide (refCheck_any x hxn)
      have hnew := spAt_new wr x
      have hfr := HF.out.below hbw
      obtain ⟨Y, hY⟩ : ∃ Y, wr.alloc (.cells #[.int .i64 x.t, .int .i64 x.i, .int .i64 x.p, .int .i64 x.s, .int .i64 x.e, .string x.n] 38) = Y := ⟨_, rfl⟩
      have hbY : Below wr.heap.size wr Y := by rw [← hY]; exact (Below.refl _ _).alloc (Nat.le_refl _) _
      have hfY := hfr.below hbY
      rw [hY] at hnew
      have yg := hfY.c0
      obtain ⟨y0, y1, y2, y3, y4, y5⟩ := hnew.z
      have HYD := hide hY
      have HXK := hide hxk
      have HBY : Hid (Below X.heap.size X Y) := hide (HR.out.1.trans (hbY.mono HR.out.1.size))
      have hgY := lt_of_cell yg
      have hwY := hnew.lt
      have KEEP : Hid (∀ q w7, Below (Y.drewN q).heap.size (Y.drewN q) w7 → w7.cell? ⟨wr.heap.size, 0, none⟩ = some (.int .i64 x.t) ∧ w7.cell? ⟨wr.heap.size, 1, none⟩ = some (.int .i64 x.i) ∧ w7.cell? ⟨wr.heap.size, 2, none⟩ = some (.int .i64 x.p) ∧ w7.cell? ⟨wr.heap.size, 3, none⟩ = some (.int .i64 x.s) ∧ w7.cell? ⟨wr.heap.size, 4, none⟩ = some (.int .i64 x.e) ∧ w7.cell? ⟨wr.heap.size, 5, none⟩ = some (.string x.n) ∧ w7.cell? ⟨g, 0, none⟩ = some (.int .i64 tr)) := hide (fun q w7 hb7 =>
        ⟨(hb7.cell (p := ⟨wr.heap.size, 0, none⟩) hwY).trans y0, (hb7.cell (p := ⟨wr.heap.size, 1, none⟩) hwY).trans y1, (hb7.cell (p := ⟨wr.heap.size, 2, none⟩) hwY).trans y2, (hb7.cell (p := ⟨wr.heap.size, 3, none⟩) hwY).trans y3, (hb7.cell (p := ⟨wr.heap.size, 4, none⟩) hwY).trans y4, (hb7.cell (p := ⟨wr.heap.size, 5, none⟩) hwY).trans y5, (hb7.cell (p := ⟨g, 0, none⟩) hgY).trans yg⟩)
      clear hx hxk hat hxn hnew hfr hbY hfY hY hbw hgY hwY
      obtain ⟨t, i, p', s, en, nm⟩ := x
      dsimp only at *
      unfold spV at *
      dsimp only at *
      by_cases hok2 : Sp.ok ⟨t, i, p', s, en, nm⟩ = true
      · rw [if_pos hok2] at HCK
        have HOK2 := hide hok2
        clear hok2
        by_cases htr : t = tr
        · subst htr
          go_wp2_with fail
          rw [HYD.out]
          go_region_held3 (fun W => W.cell? ⟨wr.heap.size, 0, none⟩ = some (.int .i64 t) ∧ W.cell? ⟨wr.heap.size, 1, none⟩ = some (.int .i64 i) ∧ W.cell? ⟨wr.heap.size, 2, none⟩ = some (.int .i64 p') ∧ W.cell? ⟨wr.heap.size, 3, none⟩ = some (.int .i64 s) ∧ W.cell? ⟨wr.heap.size, 4, none⟩ = some (.int .i64 en) ∧ W.cell? ⟨wr.heap.size, 5, none⟩ = some (.string nm) ∧ W.cell? ⟨g, 0, none⟩ = some (.int .i64 t)) (first | go_keep | exact KEEP.out 1 _ hb7 | exact KEEP.out 0 _ hb7) (first | (go_at_call 32; refine (HCK.out _).mono ?_; rintro e7 w7 ⟨rfl, hb7⟩))
          have HB7 : Hid (Below X.heap.size X w7) := hide (HBY.out.trans (((show Below Y.heap.size Y Y.drew from bdrew Y 1).trans hb7).mono HBY.out.size))
          clear hb7
          go_wp2
          go_roundw
          case rel =>
            refine ⟨k + 1, by omega, by go_num, hide ⟨HB7.out, ?_⟩⟩
            have h1 : l.take (k + 1) = l.take k ++ [⟨t, i, p', s, en, nm⟩] := by rw [List.take_add_one, HXK.out]; rfl
            rw [h1, List.all_append, HR.out.2]
            simp only [List.all_cons, List.all_nil, Bool.and_true, Bool.true_and, decide_true]
            exact HOK2.out
          case measure => simp [intOf]; omega
        · have HBAD : Hid (¬ l.all (fun x => x.ok && decide (x.t = tr)) = true) := hide (fun hall => htr (by
            have := List.all_eq_true.1 hall _ (List.mem_of_getElem? HXK.out)
            rw [Bool.and_eq_true, decide_eq_true_eq] at this
            exact this.2))
          have hb : (t == tr) = false := beq_eq_false_iff_ne.2 htr
          have hb2 : (t != tr) = true := by simp [htr]
          go_wp2_with fail
          rw [HYD.out]
          go_region_held3 (fun W => W.cell? ⟨wr.heap.size, 0, none⟩ = some (.int .i64 t) ∧ W.cell? ⟨wr.heap.size, 1, none⟩ = some (.int .i64 i) ∧ W.cell? ⟨wr.heap.size, 2, none⟩ = some (.int .i64 p') ∧ W.cell? ⟨wr.heap.size, 3, none⟩ = some (.int .i64 s) ∧ W.cell? ⟨wr.heap.size, 4, none⟩ = some (.int .i64 en) ∧ W.cell? ⟨wr.heap.size, 5, none⟩ = some (.string nm) ∧ W.cell? ⟨g, 0, none⟩ = some (.int .i64 tr)) (first | go_keep | exact KEEP.out 1 _ hb7 | exact KEEP.out 0 _ hb7) (first | (go_at_call 32; refine (HCK.out _).mono ?_; rintro e7 w7 ⟨rfl, hb7⟩))
          have HB7 : Hid (Below X.heap.size X w7) := hide (HBY.out.trans (((show Below Y.heap.size Y Y.drew from bdrew Y 1).trans hb7).mono HBY.out.size))
          clear hb7
          have hrw : w7.heap[w.heap.size]? = some (.cells #[.int .i64 0, .int .i64 0, .int .i64 0, .int .i64 0, .int .i64 0] 40) := ((HB7.out.block w.heap.size (by have := HXS.out; omega)).trans HROW1.out.1)
          have hrw2 : w7.heap[w.heap.size + 1]? = some (.cells #[.int .i64 0, .int .i64 0, .int .i64 0, .int .i64 0, .int .i64 0] 40) := ((HB7.out.block (w.heap.size + 1) (by have := HXS.out; omega)).trans HROW1.out.2.1)
          have hbw9 : Below w.heap.size w w7 := HB1.out.trans (HB7.out.mono (by have := HXS.out; omega))
          have cb0 := cell_of_row w7 w.heap.size 0 _ 40 (0, 0) hrw
          have cb1 := cell_of_row w7 w.heap.size 1 _ 40 (0, 0) hrw
          have cb2 := cell_of_row w7 w.heap.size 2 _ 40 (0, 0) hrw
          have cb3 := cell_of_row w7 w.heap.size 3 _ 40 (0, 0) hrw
          have cb4 := cell_of_row w7 w.heap.size 4 _ 40 (0, 0) hrw
          have cf0 := frozen_of_row w7 w.heap.size 0 _ 40 hrw
          have cf1 := frozen_of_row w7 w.heap.size 1 _ 40 hrw
          have cf2 := frozen_of_row w7 w.heap.size 2 _ 40 hrw
          have cf3 := frozen_of_row w7 w.heap.size 3 _ 40 hrw
          have cf4 := frozen_of_row w7 w.heap.size 4 _ 40 hrw
          have cc0 := cell_of_row w7 (w.heap.size + 1) 0 _ 40 (0, 0) hrw2
          have cc1 := cell_of_row w7 (w.heap.size + 1) 1 _ 40 (0, 0) hrw2
          have cc2 := cell_of_row w7 (w.heap.size + 1) 2 _ 40 (0, 0) hrw2
          have cc3 := cell_of_row w7 (w.heap.size + 1) 3 _ 40 (0, 0) hrw2
          have cc4 := cell_of_row w7 (w.heap.size + 1) 4 _ 40 (0, 0) hrw2
          have HRW := hide hrw
          have HBW9 := hide hbw9
          clear hrw hrw2 hbw9
          go_wp2
          refine bodyPost_ret (v := .tuple #[cnV cn0, .int .i64 30]) (by
            have q5 := five_set HRW.out (.int .i64 0) (.int .i64 0) (.int .i64 0) (.int .i64 0) (.int .i64 0)
            generalize (((((w7.setCell ⟨w.heap.size, 0, none⟩ (.int .i64 0)).setCell ⟨w.heap.size, 1, none⟩ (.int .i64 0)).setCell ⟨w.heap.size, 2, none⟩ (.int .i64 0)).setCell ⟨w.heap.size, 3, none⟩ (.int .i64 0)).setCell ⟨w.heap.size, 4, none⟩ (.int .i64 0)) = W9 at q5 ⊢
            have m0 := cell_of_row W9 w.heap.size 0 _ 40 (0, 0) q5
            have m1 := cell_of_row W9 w.heap.size 1 _ 40 (0, 0) q5
            have m2 := cell_of_row W9 w.heap.size 2 _ 40 (0, 0) q5
            have m3 := cell_of_row W9 w.heap.size 3 _ 40 (0, 0) q5
            have m4 := cell_of_row W9 w.heap.size 4 _ 40 (0, 0) q5
            have hz9 : w.heap.size < W9.heap.size := by have := (Array.getElem?_eq_some_iff.1 q5).1; exact this
            clear q5
            unfold cnV
            simp at m0 m1 m2 m3 m4
            simp [results, Tryz.results35, go_sem, m0, m1, m2, m3, m4, hz9, cn0]) rfl ⟨by unfold addV; rw [if_neg HBAD.out], ?_, ?_⟩
          · have hc9 := five_chg (Chg.of_below HBW9.out (fun _ => False)) (.inr (Nat.le_refl w.heap.size)) (.int .i64 0) (.int .i64 0) (.int .i64 0) (.int .i64 0) (.int .i64 0)
            rw [addP, if_neg HBAD.out]
            exact HF.out.chg hc9
          · exact (five_chg (Chg.of_below HBW9.out (fun _ => False)) (.inr (Nat.le_refl w.heap.size)) (.int .i64 0) (.int .i64 0) (.int .i64 0) (.int .i64 0) (.int .i64 0)).mono (fun k hk => hk.elim)
      · have HBAD : Hid (¬ l.all (fun x => x.ok && decide (x.t = tr)) = true) := hide (fun hall => hok2 (by
          have := List.all_eq_true.1 hall _ (List.mem_of_getElem? HXK.out)
          rw [Bool.and_eq_true] at this
          exact this.1))
        rw [if_neg hok2] at HCK
        clear hok2
        go_wp2_with fail
        rw [HYD.out]
        refine wp_region_held_drew (S := fun W => W.cell? ⟨wr.heap.size, 0, none⟩ = some (.int .i64 t) ∧ W.cell? ⟨wr.heap.size, 1, none⟩ = some (.int .i64 i) ∧ W.cell? ⟨wr.heap.size, 2, none⟩ = some (.int .i64 p') ∧ W.cell? ⟨wr.heap.size, 3, none⟩ = some (.int .i64 s) ∧ W.cell? ⟨wr.heap.size, 4, none⟩ = some (.int .i64 en) ∧ W.cell? ⟨wr.heap.size, 5, none⟩ = some (.string nm) ∧ W.cell? ⟨g, 0, none⟩ = some (.int .i64 tr)) (by kernel_rfl) ?_ (fun hHeld => ?_)
        · first | exact KEEP.out 1 _ (Below.refl _ _) | exact KEEP.out 0 _ (Below.refl _ _)
        refine wpAnyH_take (i := 0) (oi := { dst := some 20, op := Op.load 38 (Operand.tmp 8), type := 38, pos := "ref.go:51", after := #[], guard := none }) (v := ?_) rfl (by kernel_rfl) (by kernel_rfl) (by kernel_rfl) (fun _ _ _ h => h) (Or.inl ⟨by rfl, ?_⟩) (by assumption) ?_
        rotate_left
        · intro w hSw
          (try dsimp only at hSw)
          go_simp
          try with_reducible rfl
        try simp only [Act.put, List.setIfInBounds_toArray, List.set_cons_zero, List.set_cons_succ]
        refine wpAnyH_ready (rs := [1]) (by kernel_rfl) (by simp) ?_
        refine AllReadyH.cons (o := { dst := some 21, op := Op.call { callee := Callee.value (Operand.func 32), args := #[Operand.tmp 20], argTypes := #[38] }, type := 41, pos := "ref.go:51", after := #[{ on := 0, ground := Ground.data }], guard := none }) rfl (fun K hK => ?_) AllReadyH.nil
        go_simp
        go_at_call 32
        refine (HCK.out _).mono ?_
        rintro e7 w7 ⟨rfl, hb7⟩
        first
          | refine hK.out _ _ ?_ (fun hHeld => ?_)
          | (go_wp2_with fail; refine hK.out _ _ ?_ (fun hHeld => ?_))
        · (first | exact KEEP.out 1 _ hb7 | exact KEEP.out 0 _ hb7)
        clear hK K
        try simp only [Act.put, List.setIfInBounds_toArray, List.set_cons_zero, List.set_cons_succ]
        refine wpAnyH_take (i := 2) (oi := { dst := some 22, op := Op.binOp BinOp.neq 41 (Operand.tmp 21) (Operand.const (Value.int IntKind.i64 0)) 41, type := 4, pos := "ref.go:51", after := #[{ on := 1, ground := Ground.data }], guard := none }) (v := (.bool true)) rfl (by kernel_rfl) (by kernel_rfl) (by kernel_rfl) (fun _ _ _ h => h) (Or.inl ⟨by rfl, ?_⟩) (by assumption) ?_
        · intro w hSw
          (try dsimp only at hSw)
          go_simp
          try with_reducible rfl
        try simp only [Act.put, List.setIfInBounds_toArray, List.set_cons_zero, List.set_cons_succ]
        refine wpAnyH_take (i := 3) (oi := { dst := some 23, op := Op.move (Operand.tmp 22), type := 4, pos := "ref.go:51", after := #[{ on := 2, ground := Ground.data }, { on := 1, ground := Ground.chain }], guard := none }) (v := ?_) rfl (by kernel_rfl) (by kernel_rfl) (by kernel_rfl) (fun _ _ _ h => h) (Or.inl ⟨by rfl, ?_⟩) (by assumption) ?_
        rotate_left
        · intro w hSw
          (try dsimp only at hSw)
          go_simp
          try with_reducible rfl
        try simp only [Act.put, List.setIfInBounds_toArray, List.set_cons_zero, List.set_cons_succ]
        refine wpAnyH_take (i := 4) (oi := { dst := some 24, op := Op.fieldAddr 38 (Operand.tmp 8) 0, type := 0, pos := "ref.go:51", after := #[{ on := 3, ground := Ground.guard }], guard := some (3, false) }) (v := undef) rfl (by kernel_rfl) (by kernel_rfl) (by kernel_rfl) (fun _ _ _ h => h) (Or.inr ⟨by rfl, rfl⟩) (by assumption) ?_
        try simp only [Act.put, List.setIfInBounds_toArray, List.set_cons_zero, List.set_cons_succ]
        refine wpAnyH_take (i := 5) (oi := { dst := some 25, op := Op.load 3 (Operand.tmp 24), type := 3, pos := "ref.go:51", after := #[{ on := 4, ground := Ground.data }, { on := 3, ground := Ground.guard }], guard := some (3, false) }) (v := undef) rfl (by kernel_rfl) (by kernel_rfl) (by kernel_rfl) (fun _ _ _ h => h) (Or.inr ⟨by rfl, rfl⟩) (by assumption) ?_
        try simp only [Act.put, List.setIfInBounds_toArray, List.set_cons_zero, List.set_cons_succ]
        refine wpAnyH_take (i := 6) (oi := { dst := some 26, op := Op.move (Operand.tmp 0), type := 69, pos := "ref.go:51", after := #[{ on := 3, ground := Ground.guard }], guard := some (3, false) }) (v := undef) rfl (by kernel_rfl) (by kernel_rfl) (by kernel_rfl) (fun _ _ _ h => h) (Or.inr ⟨by rfl, rfl⟩) (by assumption) ?_
        try simp only [Act.put, List.setIfInBounds_toArray, List.set_cons_zero, List.set_cons_succ]
        refine wpAnyH_take (i := 7) (oi := { dst := some 27, op := Op.nilCheck (Operand.tmp 26), type := 0, pos := "ref.go:51", after := #[{ on := 6, ground := Ground.data }, { on := 3, ground := Ground.guard }], guard := some (3, false) }) (v := undef) rfl (by kernel_rfl) (by kernel_rfl) (by kernel_rfl) (fun _ _ _ h => h) (Or.inr ⟨by rfl, rfl⟩) (by assumption) ?_
        try simp only [Act.put, List.setIfInBounds_toArray, List.set_cons_zero, List.set_cons_succ]
        refine wpAnyH_take (i := 8) (oi := { dst := some 28, op := Op.fieldAddr 103 (Operand.tmp 27) 0, type := 0, pos := "ref.go:51", after := #[{ on := 7, ground := Ground.data }, { on := 3, ground := Ground.guard }], guard := some (3, false) }) (v := undef) rfl (by kernel_rfl) (by kernel_rfl) (by kernel_rfl) (fun _ _ _ h => h) (Or.inr ⟨by rfl, rfl⟩) (by assumption) ?_
        try simp only [Act.put, List.setIfInBounds_toArray, List.set_cons_zero, List.set_cons_succ]
        refine wpAnyH_take (i := 9) (oi := { dst := some 29, op := Op.load 3 (Operand.tmp 28), type := 3, pos := "ref.go:51", after := #[{ on := 8, ground := Ground.data }, { on := 3, ground := Ground.guard }], guard := some (3, false) }) (v := undef) rfl (by kernel_rfl) (by kernel_rfl) (by kernel_rfl) (fun _ _ _ h => h) (Or.inr ⟨by rfl, rfl⟩) (by assumption) ?_
        try simp only [Act.put, List.setIfInBounds_toArray, List.set_cons_zero, List.set_cons_succ]
        refine wpAnyH_take (i := 10) (oi := { dst := some 30, op := Op.binOp BinOp.neq 3 (Operand.tmp 25) (Operand.tmp 29) 3, type := 4, pos := "ref.go:51", after := #[{ on := 5, ground := Ground.data }, { on := 9, ground := Ground.data }, { on := 3, ground := Ground.guard }], guard := some (3, false) }) (v := undef) rfl (by kernel_rfl) (by kernel_rfl) (by kernel_rfl) (fun _ _ _ h => h) (Or.inr ⟨by rfl, rfl⟩) (by assumption) ?_
        try simp only [Act.put, List.setIfInBounds_toArray, List.set_cons_zero, List.set_cons_succ]
        refine wpAnyH_take (i := 11) (oi := { dst := some 31, op := Op.pick (Operand.tmp 23) (Operand.const (Value.bool true)) (Operand.tmp 30), type := 4, pos := "ref.go:51", after := #[{ on := 3, ground := Ground.data }, { on := 10, ground := Ground.data }], guard := none }) (v := ?_) rfl (by kernel_rfl) (by kernel_rfl) (by kernel_rfl) (fun _ _ _ h => h) (Or.inl ⟨by rfl, ?_⟩) (by assumption) ?_
        rotate_left
        · intro w hSw
          (try dsimp only at hSw)
          go_simp
          try with_reducible rfl
        try simp only [Act.put, List.setIfInBounds_toArray, List.set_cons_zero, List.set_cons_succ]
        refine wpAnyH_done (by kernel_rfl) ?_ _
        have HB7 : Hid (Below X.heap.size X w7) := hide (HBY.out.trans (((show Below Y.heap.size Y Y.drew from bdrew Y 1).trans hb7).mono HBY.out.size))
        clear hb7
        have hrw : w7.heap[w.heap.size]? = some (.cells #[.int .i64 0, .int .i64 0, .int .i64 0, .int .i64 0, .int .i64 0] 40) := ((HB7.out.block w.heap.size (by have := HXS.out; omega)).trans HROW1.out.1)
        have hrw2 : w7.heap[w.heap.size + 1]? = some (.cells #[.int .i64 0, .int .i64 0, .int .i64 0, .int .i64 0, .int .i64 0] 40) := ((HB7.out.block (w.heap.size + 1) (by have := HXS.out; omega)).trans HROW1.out.2.1)
        have hbw9 : Below w.heap.size w w7 := HB1.out.trans (HB7.out.mono (by have := HXS.out; omega))
        have cb0 := cell_of_row w7 w.heap.size 0 _ 40 (0, 0) hrw
        have cb1 := cell_of_row w7 w.heap.size 1 _ 40 (0, 0) hrw
        have cb2 := cell_of_row w7 w.heap.size 2 _ 40 (0, 0) hrw
        have cb3 := cell_of_row w7 w.heap.size 3 _ 40 (0, 0) hrw
        have cb4 := cell_of_row w7 w.heap.size 4 _ 40 (0, 0) hrw
        have cf0 := frozen_of_row w7 w.heap.size 0 _ 40 hrw
        have cf1 := frozen_of_row w7 w.heap.size 1 _ 40 hrw
        have cf2 := frozen_of_row w7 w.heap.size 2 _ 40 hrw
        have cf3 := frozen_of_row w7 w.heap.size 3 _ 40 hrw
        have cf4 := frozen_of_row w7 w.heap.size 4 _ 40 hrw
        have cc0 := cell_of_row w7 (w.heap.size + 1) 0 _ 40 (0, 0) hrw2
        have cc1 := cell_of_row w7 (w.heap.size + 1) 1 _ 40 (0, 0) hrw2
        have cc2 := cell_of_row w7 (w.heap.size + 1) 2 _ 40 (0, 0) hrw2
        have cc3 := cell_of_row w7 (w.heap.size + 1) 3 _ 40 (0, 0) hrw2
        have cc4 := cell_of_row w7 (w.heap.size + 1) 4 _ 40 (0, 0) hrw2
        have HRW := hide hrw
        have HBW9 := hide hbw9
        clear hrw hrw2 hbw9
        go_wp2
        refine bodyPost_ret (v := .tuple #[cnV cn0, .int .i64 30]) (by
          have q5 := five_set HRW.out (.int .i64 0) (.int .i64 0) (.int .i64 0) (.int .i64 0) (.int .i64 0)
          generalize (((((w7.setCell ⟨w.heap.size, 0, none⟩ (.int .i64 0)).setCell ⟨w.heap.size, 1, none⟩ (.int .i64 0)).setCell ⟨w.heap.size, 2, none⟩ (.int .i64 0)).setCell ⟨w.heap.size, 3, none⟩ (.int .i64 0)).setCell ⟨w.heap.size, 4, none⟩ (.int .i64 0)) = W9 at q5 ⊢
          have m0 := cell_of_row W9 w.heap.size 0 _ 40 (0, 0) q5
          have m1 := cell_of_row W9 w.heap.size 1 _ 40 (0, 0) q5
          have m2 := cell_of_row W9 w.heap.size 2 _ 40 (0, 0) q5
          have m3 := cell_of_row W9 w.heap.size 3 _ 40 (0, 0) q5
          have m4 := cell_of_row W9 w.heap.size 4 _ 40 (0, 0) q5
          have hz9 : w.heap.size < W9.heap.size := by have := (Array.getElem?_eq_some_iff.1 q5).1; exact this
          clear q5
          unfold cnV
          simp at m0 m1 m2 m3 m4
          simp [results, Tryz.results35, go_sem, m0, m1, m2, m3, m4, hz9, cn0]) rfl ⟨by unfold addV; rw [if_neg HBAD.out], ?_, ?_⟩
        · have hc9 := five_chg (Chg.of_below HBW9.out (fun _ => False)) (.inr (Nat.le_refl w.heap.size)) (.int .i64 0) (.int .i64 0) (.int .i64 0) (.int .i64 0) (.int .i64 0)
          rw [addP, if_neg HBAD.out]
          exact HF.out.chg hc9
        · exact (five_chg (Chg.of_below HBW9.out (fun _ => False)) (.inr (Nat.le_refl w.heap.size)) (.int .i64 0) (.int .i64 0) (.int .i64 0) (.int .i64 0) (.int .i64 0)).mono (fun k hk => hk.elim)
    · have hkn : k = l.length := by omega
      subst hkn
      have hall : l.all (fun x => x.ok && decide (x.t = tr)) = true := by
        have := HR.out.2
        rwa [List.take_length] at this
      have hlok : ∀ x ∈ l, x.ok = true ∧ x.p ≠ x.i ∧ x.t = tr := fun x hx => by
        have := List.all_eq_true.1 hall x hx
        rw [Bool.and_eq_true, decide_eq_true_eq] at this
        exact ⟨this.1, ok_ne this.1, this.2⟩
      have hwr : Below w.heap.size w wr := HB1.out.trans (HR.out.1.mono (by have := HXS.out; omega))
      have hcn : CnAt wr (w.heap.size + 1) cn0 := HROW1.out.2.2.below HR.out.1
      have hrowZ : wr.heap[w.heap.size]? = some (.cells #[.int .i64 0, .int .i64 0, .int .i64 0, .int .i64 0, .int .i64 0] 40) := (HR.out.1.block w.heap.size (by have := HXS.out; omega)).trans HROW1.out.1
      have hws : w.heap.size + 2 ≤ wr.heap.size := by have := HR.out.1.size; have := HXS.out; omega
      have hfZ : RfX (fun k => k = g ∨ k = w.heap.size + 1 ∨ k = w.heap.size) wr g tr L := HF.out.more (P := fun k => k = w.heap.size + 1 ∨ k = w.heap.size) hwr (by omega)
      have HALL := hide (And.intro hall hlok)
      clear hall hlok HR
      go_wp2_with fail
      obtain ⟨gc, hgc⟩ : ∃ gc, w.heap.size + 1 = gc := ⟨_, rfl⟩
      rw [hgc] at hcn hfZ
      rw [hgc]
      have hgw : g < w.heap.size := lt_of_cell c0
      have hgg : gc ≠ g := by omega
      have hgcl : w.heap.size < gc ∧ gc < wr.heap.size := by omega
      have HZ := hide (And.intro hcn (And.intro hwr (And.intro hrowZ (And.intro hfZ (And.intro hgg hgcl)))))
      have HOKL := hide hok
      clear hgc hcn hwr hrowZ hfZ hgw hgg hgcl hws hok
      obtain ⟨Z, hZ⟩ : ∃ Z, Z = wr := ⟨_, rfl⟩
      subst hZ
      go_loopw [10, 11, 12, 36] (fun _ _ _ ix wz => ∃ j : Nat, j ≤ l.length ∧ ix = .int .i64 j ∧ Hid (RfX (fun k => k = g ∨ k = gc ∨ k = w.heap.size) wz g tr (putsP L cn0 (l.take j)).1 ∧ CnAt wz gc (putsP L cn0 (l.take j)).2 ∧ Chg Z wz (fun k => k = g ∨ k = gc))) (fun _ _ _ ix _ => l.length - (intOf ix).toNat)
      case atStart => exact ⟨0, by omega, rfl, hide ⟨HZ.out.2.2.2.1, HZ.out.1, Chg.refl _ _⟩⟩
      case round =>
        obtain ⟨j, hj, rfl, HJ⟩ := hrel
        have hokj : FoOk tr (putsP L cn0 (l.take j)).1 := putsP_ok _ HOKL.out fun x hx => HALL.out.2 x (List.mem_of_mem_take hx)
        have hsum : (putsP L cn0 (l.take j)).2.sum ≤ 1000000 := by
          rw [putsP_sum, List.length_take]
          show 0 + 0 + 0 + 0 + 0 + _ ≤ _
          omega
        have hsn := putsP_snoc (l.take j) L cn0
        obtain ⟨M, hM⟩ : ∃ M, (putsP L cn0 (l.take j)).1 = M := ⟨_, rfl⟩
        obtain ⟨C, hC⟩ : ∃ C, (putsP L cn0 (l.take j)).2 = C := ⟨_, rfl⟩
        rw [hM, hC] at HJ hsn
        rw [hM] at hokj
        rw [hC] at hsum
        have HMC := hide (And.intro hM hC)
        clear hM hC
        by_cases hlt : (j : Int) < (l.length : Int)
        · obtain ⟨gv, ov, rfl, hx⟩ := HV.out.1.at_ (by omega)
          obtain ⟨x, hxk⟩ : ∃ x, l[j]? = some x := ⟨_, List.getElem?_eq_getElem (by omega)⟩
          have hgvw := (hx j x hxk).lt
          have hgvg : gv ≠ g := fun e => (HV.out.2.resolve_left (fun e2 => by rw [e2] at hxk; simp at hxk)) (by rw [e]; rfl)
          have hat : SpAt wr gv (ov + j * 6) x := fun i u hu => HJ.out.2.2.cell (((hx j x hxk).below HZ.out.2.1) i u hu) (by
            rintro (h1 | h1)
            · exact hgvg h1
            · have := HZ.out.2.2.2.2.2.1
              simp only at h1
              omega)
          obtain ⟨oo, hoo⟩ : ∃ oo, ov + j * 6 = oo := ⟨_, rfl⟩
          rw [hoo] at hat
          have z0 := hat.c0
          have z1 := hat.c1
          have z2 := hat.c2
          have z3 := hat.c3
          have z4 := hat.c4
          have z5 := hat.c5
          have htk : l.take (j + 1) = l.take j ++ [x] := by rw [List.take_add_one, hxk]; rfl
          have hne3 : x.p ≠ x.i := (HALL.out.2 x (List.mem_of_getElem? hxk)).2.1
          have hnew := spAt_new wr x
          have hbx := (Below.refl wr.heap.size wr).alloc (Nat.le_refl _) (.cells #[.int .i64 x.t, .int .i64 x.i, .int .i64 x.p, .int .i64 x.s, .int .i64 x.e, .string x.n] 38)
          have hFD := refFind_any (HJ.out.1.below hbx).is x.i
          have HX := hide (And.intro hnew (And.intro hbx hne3))
          have HFD := hide hFD
          have HNX : Hid (putsP L cn0 (l.take (j + 1)) = putP M C x) := hide (by rw [htk, hsn])
          have HOKJ := hide hokj
          have hm64 := hokj.len
          clear hx hxk hat hgvw hgvg htk hnew hbx hFD hokj hne3 hsn
          obtain ⟨t, i, q, s, en, nn⟩ := x
          obtain ⟨na, ns, no, ny, nf⟩ := C
          unfold Cn.sum at hsum
          dsimp only at *
          have hna : (na : Int) ≤ 1000000 := by omega
          have hns : (ns : Int) ≤ 1000000 := by omega
          have hno : (no : Int) ≤ 1000000 := by omega
          have hny : (ny : Int) ≤ 1000000 := by omega
          have hnf : (nf : Int) ≤ 1000000 := by omega
          go_wp2_with fail
          refine HFD.out.mono ?_
          rintro e3 w3 ⟨rfl, hb3⟩
          obtain ⟨u, hu⟩ : ∃ u, (fnd M i).getD sp0 = u := ⟨_, rfl⟩
          have heq := sp_eql u ⟨t, i, q, s, en, nn⟩
          rw [hu]
          have hb4 := (Below.refl w3.heap.size w3).alloc (Nat.le_refl _) (.cells #[.int .i64 u.t, .int .i64 u.i, .int .i64 u.p, .int .i64 u.s, .int .i64 u.e, .string u.n] 38)
          have hx4 := (HX.out.1.below hb3).below hb4
          have hr4 := ((HJ.out.1.below HX.out.2.1).below hb3).below hb4
          have hc4 := ((HJ.out.2.1.below HX.out.2.1).below hb3).below hb4
          have hg4 := ((HJ.out.2.2.belowed HX.out.2.1).belowed hb3).belowed hb4
          obtain ⟨W4, hW4⟩ : ∃ W, w3.alloc (.cells #[.int .i64 u.t, .int .i64 u.i, .int .i64 u.p, .int .i64 u.s, .int .i64 u.e, .string u.n] 38) = W := ⟨_, rfl⟩
          have hu4 := spAt_new w3 u
          rw [hW4] at hx4 hr4 hc4 hg4 hu4
          obtain ⟨x0, x1, x2, x3, x4, x5⟩ := hx4.z
          obtain ⟨v0, v1, v2, v3, v4, v5⟩ := hu4.z
          dsimp only [Nat.zero_add] at x1 x2 x0 x3 x4 x5
          obtain ⟨k0, k1, k2, k3, k4, kf⟩ := hc4
          have kf0 := kf 0 (by omega)
          have kf1 := kf 1 (by omega)
          have kf2 := kf 2 (by omega)
          have kf3 := kf 3 (by omega)
          have kf4 := kf 4 (by omega)
          have H4X := hide hx4
          have H4 : Hid (RfX (fun k => k = g ∨ k = gc ∨ k = w.heap.size) W4 g tr M ∧ CnAt W4 gc ⟨na, ns, no, ny, nf⟩ ∧ Chg Z W4 (fun k => k = g ∨ k = gc)) := hide ⟨hr4, ⟨k0, k1, k2, k3, k4, kf⟩, hg4⟩
          have hRG := refRing_any hr4.is HOKJ.out ⟨t, i, q, s, en, nn⟩ HX.out.2.2
          have HRG := hide hRG
          obtain ⟨vM, m1, hsM, hoM⟩ := hr4.l
          have m0 := hr4.fr
          obtain ⟨pM, nM, cM, rfl⟩ := hsM.sl
          obtain rfl : nM = M.length := hsM.len.1
          have HSM := hide (And.intro hsM hoM)
          dsimp only at k0 k1 k2 k3 k4
          clear hb3 hb4 hx4 hr4 hg4 hu4 kf hsM hoM hRG
          unfold spV
          unfold spC at heq
          dsimp only at heq
          obtain ⟨b, hb⟩ : ∃ b, (fnd M i).isSome = b := ⟨_, rfl⟩
          rw [hb]
          cases b
          · have hf : fnd M i = none := by simpa using hb
            clear heq hu hb
            by_cases h64 : (M.length : Int) = 64
            · have hres : putP M ⟨na, ns, no, ny, nf⟩ ⟨t, i, q, s, en, nn⟩ = (M, ⟨na, ns, no, ny, nf + 1⟩) := by
                unfold putP
                simp only [hf, if_pos (show 64 ≤ M.length by omega)]
              have HRES := hide hres
              have hb64 : ((M.length : Int) == 64) = true := by simp [h64]
              have hd64 : decide ((M.length : Int) = 64) = true := decide_eq_true h64
              clear hres hf h64
              go_wp2
              go_roundw
              case rel =>
                refine ⟨j + 1, by omega, by go_num, hide ?_⟩
                rw [HNX.out, HRES.out]
                exact ⟨H4.out.1.grown (grown_set _ _ _ _) (.inr (.inl rfl)) HZ.out.2.2.2.2.1, H4.out.2.1.s4, H4.out.2.2.set _ (.inl (.inr rfl))⟩
              case measure => simp [intOf]; omega
            · have hb64 : ((M.length : Int) == 64) = false := beq_eq_false_iff_ne.2 h64
              have hd64 : decide ((M.length : Int) = 64) = false := decide_eq_false h64
              have hlt64 : ¬ 64 ≤ M.length := by omega
              have HL64 := hide hlt64
              clear h64 hlt64
              cases hri : ring M i q
              · have hres : putP M ⟨na, ns, no, ny, nf⟩ ⟨t, i, q, s, en, nn⟩ = (M ++ [⟨t, i, q, s, en, nn⟩], ⟨na + 1, ns, no, ny, nf⟩) := by
                  unfold putP
                  simp only [hf, if_neg HL64.out, hri]
                  simp
                have HRES := hide hres
                rw [hri] at HRG
                clear hres hf hri
                go_wp2_with fail
                refine HRG.out.mono ?_
                rintro e5 w5 ⟨rfl, hb5⟩
                have hx5 := (H4X.out).below hb5
                have HX5 := hide hx5
                obtain ⟨x0, x1, x2, x3, x4, x5⟩ := hx5.z
                dsimp only [Nat.zero_add] at x0 x1 x2 x3 x4 x5
                clear hx5
                have H5 : Hid (RfX (fun k => k = g ∨ k = gc ∨ k = w.heap.size) w5 g tr M ∧ CnAt w5 gc ⟨na, ns, no, ny, nf⟩ ∧ Chg Z w5 (fun k => k = g ∨ k = gc)) := hide ⟨H4.out.1.below hb5, H4.out.2.1.below hb5, H4.out.2.2.belowed hb5⟩
                clear hb5
                go_wp2_with fail
                obtain ⟨vM5, m5, hs5, ho5⟩ := H5.out.1.l
                have mf5 := H5.out.1.fr
                obtain ⟨pM5, nM5, cM5, rfl⟩ := hs5.sl
                obtain rfl : nM5 = M.length := hs5.len.1
                have HS5 := hide (And.intro hs5 ho5)
                clear hs5 ho5
                have q1 : ∀ o, (w5.alloc o).cell? ⟨g, 1, none⟩ = some (.slice pM5 M.length cM5) := fun o => Lib.cell?_alloc_some _ m5
                have q2 : ∀ o o', ((w5.alloc o).alloc o').cell? ⟨g, 1, none⟩ = some (.slice pM5 M.length cM5) := fun o o' => Lib.cell?_alloc_some _ (q1 o)
                have q0d : w5.drew.cell? ⟨g, 1, none⟩ = some (.slice pM5 M.length cM5) := m5
                have q1d : ∀ o, (w5.alloc o).drew.cell? ⟨g, 1, none⟩ = some (.slice pM5 M.length cM5) := fun o => q1 o
                have q1e : ∀ o, (w5.drew.alloc o).cell? ⟨g, 1, none⟩ = some (.slice pM5 M.length cM5) := fun o => Lib.cell?_alloc_some _ q0d
                have q2d : ∀ o o', ((w5.alloc o).alloc o').drew.cell? ⟨g, 1, none⟩ = some (.slice pM5 M.length cM5) := fun o o' => q2 o o'
                have q2e : ∀ o o', ((w5.drew.alloc o).alloc o').cell? ⟨g, 1, none⟩ = some (.slice pM5 M.length cM5) := fun o o' => Lib.cell?_alloc_some _ (q1e o)
                have hsps : ∀ V, Below w5.heap.size w5 V → Sps V (.slice pM5 M.length cM5) M := fun V hV => HS5.out.1.below hV
                have HSPS := hide hsps
                have hkeep : ∀ V, Below w5.heap.size w5 V → V.cell? ⟨wr.heap.size, 0, none⟩ = some (.int .i64 t) ∧ V.cell? ⟨wr.heap.size, 1, none⟩ = some (.int .i64 i) ∧ V.cell? ⟨wr.heap.size, 2, none⟩ = some (.int .i64 q) ∧ V.cell? ⟨wr.heap.size, 3, none⟩ = some (.int .i64 s) ∧ V.cell? ⟨wr.heap.size, 4, none⟩ = some (.int .i64 en) ∧ V.cell? ⟨wr.heap.size, 5, none⟩ = some (.string nn) := fun V hV => by
                  obtain ⟨a0, a1, a2, a3, a4, a5⟩ := (HX5.out.below hV).z
                  exact ⟨a0, a1, a2, a3, a4, a5⟩
                have hwg : wr.heap.size ≠ g := by
                  have h1 : g < wr.heap.size := lt_of_cell HJ.out.1.c0
                  omega
                have hkeep2 : ∀ V u, Below w5.heap.size w5 V → (fun V => V.cell? ⟨wr.heap.size, 0, none⟩ = some (.int .i64 t) ∧ V.cell? ⟨wr.heap.size, 1, none⟩ = some (.int .i64 i) ∧ V.cell? ⟨wr.heap.size, 2, none⟩ = some (.int .i64 q) ∧ V.cell? ⟨wr.heap.size, 3, none⟩ = some (.int .i64 s) ∧ V.cell? ⟨wr.heap.size, 4, none⟩ = some (.int .i64 en) ∧ V.cell? ⟨wr.heap.size, 5, none⟩ = some (.string nn)) (V.setCell ⟨g, 1, none⟩ u) := fun V u hV => by
                  obtain ⟨a0, a1, a2, a3, a4, a5⟩ := hkeep V hV
                  refine ⟨?_, ?_, ?_, ?_, ?_, ?_⟩ <;> (rw [World.cell?_setCell_other _ _ _ _ (by simp [Ne.symm hwg, hwg])]; assumption)
                have KEEP := hide (And.intro hkeep hkeep2)
                have g5 : ∀ V, Below w5.heap.size w5 V → V.cell? ⟨g, 1, none⟩ = some (.slice pM5 M.length cM5) ∧ V.frozen? ⟨g, 1, none⟩ = false := fun V hV =>
                  ⟨(hV.cell (p := ⟨g, 1, none⟩) (show g < w5.heap.size from lt_of_cell m5)).trans m5, (hV.frozen (p := ⟨g, 1, none⟩) (show g < w5.heap.size from lt_of_cell m5)).trans mf5⟩
                have G5 := hide g5
                have bE := (Below.refl w5.heap.size w5).alloc (Nat.le_refl _) (.cells #[] 38)
                have bS := (Below.refl w5.heap.size w5).alloc (Nat.le_refl _) (.cells #[.int .i64 t, .int .i64 i, .int .i64 q, .int .i64 s, .int .i64 en, .string nn] 38)
                have bES := bE.alloc bE.size (.cells #[.int .i64 t, .int .i64 i, .int .i64 q, .int .i64 s, .int .i64 en, .string nn] 38)
                have bSE := bS.alloc bS.size (.cells #[] 38)
                have oE : OwnS w5.heap.size (w5.alloc (.cells #[] 38)) (.slice (some ⟨w5.heap.size, 0, none⟩) 0 0) [] := World.ownsRow_lit w5 #[] 0 (Nat.le_refl _) (by decide) rfl
                have hsz1 : ∀ o : Obj, (w5.alloc o).heap.size = w5.heap.size + 1 := fun o => by simp
                have oSE : OwnS w5.heap.size ((w5.alloc (.cells #[.int .i64 t, .int .i64 i, .int .i64 q, .int .i64 s, .int .i64 en, .string nn] 38)).alloc (.cells #[] 38)) (.slice (some ⟨w5.heap.size + 1, 0, none⟩) 0 0) [] := by
                  have := World.ownsRow_lit (base := w5.heap.size) (e := 38) (size := 6) (w5.alloc (.cells #[.int .i64 t, .int .i64 i, .int .i64 q, .int .i64 s, .int .i64 en, .string nn] 38)) #[] 0 (by simp) (by decide) rfl
                  rw [hsz1] at this
                  exact this
                have dr : ∀ V, Below w5.heap.size w5 V → Below w5.heap.size w5 V.drew := fun V h => ⟨h.os, h.tape, h.output, h.size, h.block⟩
                have HB5 := hide (And.intro (dr _ bE) (And.intro (dr _ bES) (dr _ bSE)))
                have oES : OwnS w5.heap.size ((w5.alloc (.cells #[] 38)).alloc (.cells #[.int .i64 t, .int .i64 i, .int .i64 q, .int .i64 s, .int .i64 en, .string nn] 38)) (.slice (some ⟨w5.heap.size, 0, none⟩) 0 0) [] := World.ownsRow.alloc oE _
                have HO5 : Hid (OwnS w5.heap.size (w5.alloc (.cells #[] 38)).drew (.slice (some ⟨w5.heap.size, 0, none⟩) 0 0) [] ∧ OwnS w5.heap.size ((w5.alloc (.cells #[] 38)).alloc (.cells #[.int .i64 t, .int .i64 i, .int .i64 q, .int .i64 s, .int .i64 en, .string nn] 38)).drew (.slice (some ⟨w5.heap.size, 0, none⟩) 0 0) [] ∧ OwnS w5.heap.size ((w5.alloc (.cells #[.int .i64 t, .int .i64 i, .int .i64 q, .int .i64 s, .int .i64 en, .string nn] 38)).alloc (.cells #[] 38)).drew (.slice (some ⟨w5.heap.size + 1, 0, none⟩) 0 0) []) := hide ⟨World.ownsRow.drew oE, World.ownsRow.drew oES, World.ownsRow.drew oSE⟩
                have sES : SpAt ((w5.alloc (.cells #[] 38)).alloc (.cells #[.int .i64 t, .int .i64 i, .int .i64 q, .int .i64 s, .int .i64 en, .string nn] 38)).drew (w5.heap.size + 1) 0 ⟨t, i, q, s, en, nn⟩ := by
                  have := spAt_new (w5.alloc (.cells #[] 38)) ⟨t, i, q, s, en, nn⟩
                  rw [hsz1] at this
                  exact this
                have sSE : SpAt ((w5.alloc (.cells #[.int .i64 t, .int .i64 i, .int .i64 q, .int .i64 s, .int .i64 en, .string nn] 38)).alloc (.cells #[] 38)).drew w5.heap.size 0 ⟨t, i, q, s, en, nn⟩ := by
                  have h1 := spAt_new w5 ⟨t, i, q, s, en, nn⟩
                  have h2 := h1.below ((Below.refl (w5.alloc (.cells #[.int .i64 t, .int .i64 i, .int .i64 q, .int .i64 s, .int .i64 en, .string nn] 38)).heap.size (w5.alloc (.cells #[.int .i64 t, .int .i64 i, .int .i64 q, .int .i64 s, .int .i64 en, .string nn] 38))).alloc (Nat.le_refl _) (.cells #[] 38))
                  exact fun a b hb => h2 a b hb
                have HSA := hide (And.intro sES sSE)
                have HM64 : Hid (M.length ≤ 64) := hide hm64
                clear hsps hkeep hkeep2 g5 bE bS bES bSE oE oSE oES sES sSE hsz1 hwg dr
                refine wp_region_held_drew (S := fun V => V.cell? ⟨wr.heap.size, 0, none⟩ = some (.int .i64 t) ∧ V.cell? ⟨wr.heap.size, 1, none⟩ = some (.int .i64 i) ∧ V.cell? ⟨wr.heap.size, 2, none⟩ = some (.int .i64 q) ∧ V.cell? ⟨wr.heap.size, 3, none⟩ = some (.int .i64 s) ∧ V.cell? ⟨wr.heap.size, 4, none⟩ = some (.int .i64 en) ∧ V.cell? ⟨wr.heap.size, 5, none⟩ = some (.string nn)) (by kernel_rfl) ?_ (fun hHeld => ?_)
                · (try dsimp only)
                  first | go_keep | exact KEEP.out.1 _ ((Below.refl _ _))
                refine wpAnyH_take (i := 0) (oi := { dst := some 47, op := Op.move (Operand.tmp 0), type := 69, pos := "ref.go:67", after := #[], guard := none }) (v := ?_) rfl (by kernel_rfl) (by kernel_rfl) (by kernel_rfl) (fun _ _ _ h => h) (Or.inl ⟨by rfl, ?_⟩) (by assumption) ?_
                rotate_left
                · intro w hSw
                  (try dsimp only at hSw)
                  go_simp
                  try with_reducible rfl
                try simp only [Act.put, List.setIfInBounds_toArray, List.set_cons_zero, List.set_cons_succ]
                refine wpAnyH_take (i := 2) (oi := { dst := some 49, op := Op.move (Operand.tmp 0), type := 69, pos := "ref.go:67", after := #[], guard := none }) (v := ?_) rfl (by kernel_rfl) (by kernel_rfl) (by kernel_rfl) (fun _ _ _ h => h) (Or.inl ⟨by rfl, ?_⟩) (by assumption) ?_
                rotate_left
                · intro w hSw
                  (try dsimp only at hSw)
                  go_simp
                  try with_reducible rfl
                try simp only [Act.put, List.setIfInBounds_toArray, List.set_cons_zero, List.set_cons_succ]
                refine wpAnyH_take (i := 3) (oi := { dst := some 50, op := Op.nilCheck (Operand.tmp 49), type := 0, pos := "ref.go:67", after := #[{ on := 2, ground := Ground.data }], guard := none }) (v := ?_) rfl (by kernel_rfl) (by kernel_rfl) (by kernel_rfl) (fun _ _ _ h => h) (Or.inl ⟨by rfl, ?_⟩) (by assumption) ?_
                rotate_left
                · intro w hSw
                  (try dsimp only at hSw)
                  go_simp
                  try with_reducible rfl
                try simp only [Act.put, List.setIfInBounds_toArray, List.set_cons_zero, List.set_cons_succ]
                refine wpAnyH_take (i := 4) (oi := { dst := some 51, op := Op.fieldAddr 103 (Operand.tmp 50) 1, type := 0, pos := "ref.go:67", after := #[{ on := 3, ground := Ground.data }], guard := none }) (v := ?_) rfl (by kernel_rfl) (by kernel_rfl) (by kernel_rfl) (fun _ _ _ h => h) (Or.inl ⟨by rfl, ?_⟩) (by assumption) ?_
                rotate_left
                · intro w hSw
                  (try dsimp only at hSw)
                  go_simp
                  try with_reducible rfl
                try simp only [Act.put, List.setIfInBounds_toArray, List.set_cons_zero, List.set_cons_succ]
                refine wpAnyH_take (i := 7) (oi := { dst := some 54, op := Op.load 38 (Operand.tmp 10), type := 38, pos := "ref.go:67", after := #[], guard := none }) (v := ?_) rfl (by kernel_rfl) (by kernel_rfl) (by kernel_rfl) (fun _ _ _ h => h) (Or.inl ⟨by rfl, ?_⟩) (by assumption) ?_
                rotate_left
                · intro w hSw
                  (try dsimp only at hSw)
                  go_simp
                  try with_reducible rfl
                try simp only [Act.put, List.setIfInBounds_toArray, List.set_cons_zero, List.set_cons_succ]
                refine wpAnyH_ready (rs := [1, 5, 8]) (by kernel_rfl) (by simp) ?_
                refine AllReadyH.cons (o := { dst := some 48, op := Op.buildSlice 31 0 #[], type := 31, pos := "ref.go:67", after := #[], guard := none }) rfl (fun K hK => ?_) ?_
                · go_simp
                  first
                    | refine hK.out _ _ ?_ (fun hHeld => ?_)
                    | (go_wp2_with fail; refine hK.out _ _ ?_ (fun hHeld => ?_))
                  · (try dsimp only)
                    first | go_keep | exact KEEP.out.1 _ hbt | exact KEEP.out.2 _ _ hbt
                  clear hK K
                  try simp only [Act.put, List.setIfInBounds_toArray, List.set_cons_zero, List.set_cons_succ]
                  refine wpAnyH_ready (rs := [5, 8]) (by kernel_rfl) (by simp) ?_
                  refine AllReadyH.cons (o := { dst := some 52, op := Op.load 31 (Operand.tmp 51), type := 31, pos := "ref.go:67", after := #[{ on := 4, ground := Ground.data }], guard := none }) rfl (fun K hK => ?_) ?_
                  · go_simp
                    first
                      | refine hK.out _ _ ?_ (fun hHeld => ?_)
                      | (go_wp2_with fail; refine hK.out _ _ ?_ (fun hHeld => ?_))
                    · (try dsimp only)
                      first | go_keep | exact KEEP.out.1 _ hbt | exact KEEP.out.2 _ _ hbt
                    clear hK K
                    try simp only [Act.put, List.setIfInBounds_toArray, List.set_cons_zero, List.set_cons_succ]
                    refine wpAnyH_ready (rs := [6, 8]) (by kernel_rfl) (by simp) ?_
                    refine AllReadyH.cons (o := { dst := some 53, op := Op.call { callee := Callee.builtin Builtin.append, args := #[Operand.tmp 48, Operand.tmp 52], argTypes := #[31, 31] }, type := 31, pos := "ref.go:67", after := #[{ on := 1, ground := Ground.data }, { on := 5, ground := Ground.data }], guard := none }) rfl (fun K hK => ?_) ?_
                    · (first | (refine step_pushes (by rfl) _ _ (by rfl) (by rfl) (by rfl) (by rfl) HO5.out.1 (HSPS.out _ HB5.out.1) HB5.out.1.size (by have := HM64.out; simp; omega) ?_; intro v6 V6 ho6 hb6 hg6; obtain ⟨p6, n6, c6, rfl⟩ := ho6.sps.sl; have hbt := HB5.out.1.trans hb6; rw [List.nil_append] at ho6; have H6 := hide (And.intro ho6 (And.intro hbt hg6)); clear ho6 hb6 hg6) | (refine step_pushes (by rfl) _ _ (by rfl) (by rfl) (by rfl) (by rfl) HO5.out.2.1 (HSPS.out _ HB5.out.2.1) HB5.out.2.1.size (by have := HM64.out; simp; omega) ?_; intro v6 V6 ho6 hb6 hg6; obtain ⟨p6, n6, c6, rfl⟩ := ho6.sps.sl; have hbt := HB5.out.2.1.trans hb6; rw [List.nil_append] at ho6; have HS6 : Hid (SpAt V6 (w5.heap.size + 1) 0 ⟨t, i, q, s, en, nn⟩) := hide (fun a b hb => hg6.cell (HSA.out.1 a b hb) (by simp [Value.ownBlock])); have H6 := hide (And.intro ho6 (And.intro hbt hg6)); clear ho6 hb6 hg6) | (refine step_pushes (by rfl) _ _ (by rfl) (by rfl) (by rfl) (by rfl) HO5.out.2.2 (HSPS.out _ HB5.out.2.2) HB5.out.2.2.size (by have := HM64.out; simp; omega) ?_; intro v6 V6 ho6 hb6 hg6; obtain ⟨p6, n6, c6, rfl⟩ := ho6.sps.sl; have hbt := HB5.out.2.2.trans hb6; rw [List.nil_append] at ho6; have HS6 : Hid (SpAt V6 w5.heap.size 0 ⟨t, i, q, s, en, nn⟩) := hide (fun a b hb => hg6.cell (HSA.out.2 a b hb) (by simp [Value.ownBlock])); have H6 := hide (And.intro ho6 (And.intro hbt hg6)); clear ho6 hb6 hg6) | (refine step_pushes (by rfl) _ _ (by rfl) (by rfl) (by rfl) (by rfl) (show OwnS w5.heap.size (V6.alloc _) (.slice p6 n6 c6) M from World.ownsRow.alloc H6.out.1 _) (sps_one (spAt_new V6 ⟨t, i, q, s, en, nn⟩)) (by have := H6.out.2.1.size; simp; omega) (by have := HM64.out; simp; omega) ?_; intro v9 V9 ho9 hb9 hg9; obtain ⟨p9, n9, c9, rfl⟩ := ho9.sps.sl; have hbt := (H6.out.2.1.alloc H6.out.2.1.size _).trans hb9; have g1 := (G5.out _ hbt).1; have g2 := (G5.out _ hbt).2; have H9 := hide (And.intro ho9 hbt); clear ho9 hb9 hg9) | (refine step_pushes (by rfl) _ _ (by rfl) (by rfl) (by rfl) (by rfl) H6.out.1 (sps_one HS6.out) H6.out.2.1.size (by have := HM64.out; simp; omega) ?_; intro v9 V9 ho9 hb9 hg9; obtain ⟨p9, n9, c9, rfl⟩ := ho9.sps.sl; have hbt := H6.out.2.1.trans hb9; have g1 := (G5.out _ hbt).1; have g2 := (G5.out _ hbt).2; have H9 := hide (And.intro ho9 hbt); clear ho9 hb9 hg9))
                      refine hK.out _ _ ?_ (fun hHeld => ?_)
                      · (try dsimp only)
                        first | go_keep | exact KEEP.out.1 _ hbt | exact KEEP.out.2 _ _ hbt
                      clear hK K
                      try simp only [Act.put, List.setIfInBounds_toArray, List.set_cons_zero, List.set_cons_succ]
                      refine wpAnyH_ready (rs := [8]) (by kernel_rfl) (by simp) ?_
                      refine AllReadyH.cons (o := { dst := some 55, op := Op.buildSlice 31 1 #[(0, Operand.tmp 54)], type := 31, pos := "ref.go:67", after := #[{ on := 7, ground := Ground.data }], guard := none }) rfl (fun K hK => ?_) ?_
                      · go_simp
                        first
                          | refine hK.out _ _ ?_ (fun hHeld => ?_)
                          | (go_wp2_with fail; refine hK.out _ _ ?_ (fun hHeld => ?_))
                        · (try dsimp only)
                          first | go_keep | exact KEEP.out.1 _ hbt | exact KEEP.out.2 _ _ hbt
                        clear hK K
                        try simp only [Act.put, List.setIfInBounds_toArray, List.set_cons_zero, List.set_cons_succ]
                        refine wpAnyH_ready (rs := [9]) (by kernel_rfl) (by simp) ?_
                        refine AllReadyH.cons (o := { dst := some 56, op := Op.call { callee := Callee.builtin Builtin.append, args := #[Operand.tmp 53, Operand.tmp 55], argTypes := #[31, 31] }, type := 31, pos := "ref.go:67", after := #[{ on := 6, ground := Ground.data }, { on := 8, ground := Ground.data }, { on := 6, ground := Ground.chain }], guard := none }) rfl (fun K hK => ?_) ?_
                        · (first | (refine step_pushes (by rfl) _ _ (by rfl) (by rfl) (by rfl) (by rfl) HO5.out.1 (HSPS.out _ HB5.out.1) HB5.out.1.size (by have := HM64.out; simp; omega) ?_; intro v6 V6 ho6 hb6 hg6; obtain ⟨p6, n6, c6, rfl⟩ := ho6.sps.sl; have hbt := HB5.out.1.trans hb6; rw [List.nil_append] at ho6; have H6 := hide (And.intro ho6 (And.intro hbt hg6)); clear ho6 hb6 hg6) | (refine step_pushes (by rfl) _ _ (by rfl) (by rfl) (by rfl) (by rfl) HO5.out.2.1 (HSPS.out _ HB5.out.2.1) HB5.out.2.1.size (by have := HM64.out; simp; omega) ?_; intro v6 V6 ho6 hb6 hg6; obtain ⟨p6, n6, c6, rfl⟩ := ho6.sps.sl; have hbt := HB5.out.2.1.trans hb6; rw [List.nil_append] at ho6; have HS6 : Hid (SpAt V6 (w5.heap.size + 1) 0 ⟨t, i, q, s, en, nn⟩) := hide (fun a b hb => hg6.cell (HSA.out.1 a b hb) (by simp [Value.ownBlock])); have H6 := hide (And.intro ho6 (And.intro hbt hg6)); clear ho6 hb6 hg6) | (refine step_pushes (by rfl) _ _ (by rfl) (by rfl) (by rfl) (by rfl) HO5.out.2.2 (HSPS.out _ HB5.out.2.2) HB5.out.2.2.size (by have := HM64.out; simp; omega) ?_; intro v6 V6 ho6 hb6 hg6; obtain ⟨p6, n6, c6, rfl⟩ := ho6.sps.sl; have hbt := HB5.out.2.2.trans hb6; rw [List.nil_append] at ho6; have HS6 : Hid (SpAt V6 w5.heap.size 0 ⟨t, i, q, s, en, nn⟩) := hide (fun a b hb => hg6.cell (HSA.out.2 a b hb) (by simp [Value.ownBlock])); have H6 := hide (And.intro ho6 (And.intro hbt hg6)); clear ho6 hb6 hg6) | (refine step_pushes (by rfl) _ _ (by rfl) (by rfl) (by rfl) (by rfl) (show OwnS w5.heap.size (V6.alloc _) (.slice p6 n6 c6) M from World.ownsRow.alloc H6.out.1 _) (sps_one (spAt_new V6 ⟨t, i, q, s, en, nn⟩)) (by have := H6.out.2.1.size; simp; omega) (by have := HM64.out; simp; omega) ?_; intro v9 V9 ho9 hb9 hg9; obtain ⟨p9, n9, c9, rfl⟩ := ho9.sps.sl; have hbt := (H6.out.2.1.alloc H6.out.2.1.size _).trans hb9; have g1 := (G5.out _ hbt).1; have g2 := (G5.out _ hbt).2; have H9 := hide (And.intro ho9 hbt); clear ho9 hb9 hg9) | (refine step_pushes (by rfl) _ _ (by rfl) (by rfl) (by rfl) (by rfl) H6.out.1 (sps_one HS6.out) H6.out.2.1.size (by have := HM64.out; simp; omega) ?_; intro v9 V9 ho9 hb9 hg9; obtain ⟨p9, n9, c9, rfl⟩ := ho9.sps.sl; have hbt := H6.out.2.1.trans hb9; have g1 := (G5.out _ hbt).1; have g2 := (G5.out _ hbt).2; have H9 := hide (And.intro ho9 hbt); clear ho9 hb9 hg9))
                          refine hK.out _ _ ?_ (fun hHeld => ?_)
                          · (try dsimp only)
                            first | go_keep | exact KEEP.out.1 _ hbt | exact KEEP.out.2 _ _ hbt
                          clear hK K
                          try simp only [Act.put, List.setIfInBounds_toArray, List.set_cons_zero, List.set_cons_succ]
                          refine wpAnyH_take (i := 10) (oi := { dst := some 57, op := Op.nilCheck (Operand.tmp 47), type := 0, pos := "ref.go:67", after := #[{ on := 0, ground := Ground.data }, { on := 0, ground := Ground.phase }, { on := 1, ground := Ground.phase }, { on := 2, ground := Ground.phase }, { on := 3, ground := Ground.phase }, { on := 4, ground := Ground.phase }, { on := 5, ground := Ground.phase }, { on := 6, ground := Ground.phase }, { on := 7, ground := Ground.phase }, { on := 8, ground := Ground.phase }, { on := 9, ground := Ground.phase }], guard := none }) (v := ?_) rfl (by kernel_rfl) (by kernel_rfl) (by kernel_rfl) (fun _ _ _ h => h) (Or.inl ⟨by rfl, ?_⟩) (by assumption) ?_
                          rotate_left
                          · intro w hSw
                            (try dsimp only at hSw)
                            go_simp
                            try with_reducible rfl
                          try simp only [Act.put, List.setIfInBounds_toArray, List.set_cons_zero, List.set_cons_succ]
                          refine wpAnyH_take (i := 11) (oi := { dst := some 58, op := Op.fieldAddr 103 (Operand.tmp 57) 1, type := 0, pos := "ref.go:67", after := #[{ on := 10, ground := Ground.data }, { on := 0, ground := Ground.phase }, { on := 1, ground := Ground.phase }, { on := 2, ground := Ground.phase }, { on := 3, ground := Ground.phase }, { on := 4, ground := Ground.phase }, { on := 5, ground := Ground.phase }, { on := 6, ground := Ground.phase }, { on := 7, ground := Ground.phase }, { on := 8, ground := Ground.phase }, { on := 9, ground := Ground.phase }], guard := none }) (v := ?_) rfl (by kernel_rfl) (by kernel_rfl) (by kernel_rfl) (fun _ _ _ h => h) (Or.inl ⟨by rfl, ?_⟩) (by assumption) ?_
                          rotate_left
                          · intro w hSw
                            (try dsimp only at hSw)
                            go_simp
                            try with_reducible rfl
                          try simp only [Act.put, List.setIfInBounds_toArray, List.set_cons_zero, List.set_cons_succ]
                          refine wpAnyH_ready (rs := [12]) (by kernel_rfl) (by simp) ?_
                          refine AllReadyH.cons (o := { dst := none, op := Op.store 31 (Operand.tmp 58) (Operand.tmp 56), type := 0, pos := "ref.go:67", after := #[{ on := 11, ground := Ground.data }, { on := 9, ground := Ground.data }, { on := 9, ground := Ground.chain }, { on := 0, ground := Ground.phase }, { on := 1, ground := Ground.phase }, { on := 2, ground := Ground.phase }, { on := 3, ground := Ground.phase }, { on := 4, ground := Ground.phase }, { on := 5, ground := Ground.phase }, { on := 6, ground := Ground.phase }, { on := 7, ground := Ground.phase }, { on := 8, ground := Ground.phase }, { on := 9, ground := Ground.phase }], guard := none }) rfl (fun K hK => ?_) ?_
                          · go_simp
                            first
                              | refine hK.out _ _ ?_ (fun hHeld => ?_)
                              | (go_wp2_with fail; refine hK.out _ _ ?_ (fun hHeld => ?_))
                            · (try dsimp only)
                              first | go_keep | exact KEEP.out.1 _ hbt | exact KEEP.out.2 _ _ hbt
                            clear hK K
                            try simp only [Act.put, List.setIfInBounds_toArray, List.set_cons_zero, List.set_cons_succ]
                            refine wpAnyH_done (by kernel_rfl) ?_ _
                            have hc9 : CnAt (V9.setCell ⟨g, 1, none⟩ (.slice p9 n9 c9)) gc ⟨na, ns, no, ny, nf⟩ := (H5.out.2.1.below H9.out.2).grown (grown_set _ _ _ _) (fun e => HZ.out.2.2.2.2.1 (by injection e with e; exact e.symm))
                            have hr9 : RfX (fun k => k = g ∨ k = gc ∨ k = w.heap.size) (V9.setCell ⟨g, 1, none⟩ (.slice p9 n9 c9)) g tr (M ++ [⟨t, i, q, s, en, nn⟩]) := H5.out.1.put H9.out.2 H9.out.1 (fun k hk => by
                              have h1 : g < w5.heap.size := lt_of_cell H5.out.1.c0
                              have h2 : gc < w5.heap.size := lt_of_cell H5.out.2.1.c0
                              have h3 := HZ.out.2.2.2.2.2
                              omega)
                            have hg9 : Chg Z (V9.setCell ⟨g, 1, none⟩ (.slice p9 n9 c9)) (fun k => k = g ∨ k = gc) := (H5.out.2.2.belowed H9.out.2).set _ (.inl (.inl rfl))
                            obtain ⟨j0, j1, j2, j3, j4, jf⟩ := hc9
                            have jf0 := jf 0 (by omega)
                            dsimp only at j0
                            have HF9 := hide (And.intro hr9 (And.intro (CnAt.mk j0 j1 j2 j3 j4 jf : CnAt (V9.setCell ⟨g, 1, none⟩ (.slice p9 n9 c9)) gc ⟨na, ns, no, ny, nf⟩) hg9))
                            clear jf hr9 hg9
                            go_wp2
                            go_roundw
                            case rel =>
                              refine ⟨j + 1, by omega, by go_num, hide ?_⟩
                              rw [HNX.out, HRES.out]
                              exact ⟨HF9.out.1.grown (grown_set _ _ _ _) (.inr (.inl rfl)) HZ.out.2.2.2.2.1, HF9.out.2.1.s0, HF9.out.2.2.set _ (.inl (.inr rfl))⟩
                            case measure => simp [intOf]; omega
                          exact AllReadyH.nil
                        exact AllReadyH.nil
                      exact AllReadyH.nil
                    refine AllReadyH.cons (o := { dst := some 55, op := Op.buildSlice 31 1 #[(0, Operand.tmp 54)], type := 31, pos := "ref.go:67", after := #[{ on := 7, ground := Ground.data }], guard := none }) rfl (fun K hK => ?_) ?_
                    · go_simp
                      first
                        | refine hK.out _ _ ?_ (fun hHeld => ?_)
                        | (go_wp2_with fail; refine hK.out _ _ ?_ (fun hHeld => ?_))
                      · (try dsimp only)
                        first | go_keep | exact KEEP.out.1 _ hbt | exact KEEP.out.2 _ _ hbt
                      clear hK K
                      try simp only [Act.put, List.setIfInBounds_toArray, List.set_cons_zero, List.set_cons_succ]
                      refine wpAnyH_ready (rs := [6]) (by kernel_rfl) (by simp) ?_
                      refine AllReadyH.cons (o := { dst := some 53, op := Op.call { callee := Callee.builtin Builtin.append, args := #[Operand.tmp 48, Operand.tmp 52], argTypes := #[31, 31] }, type := 31, pos := "ref.go:67", after := #[{ on := 1, ground := Ground.data }, { on := 5, ground := Ground.data }], guard := none }) rfl (fun K hK => ?_) ?_
                      · (first | (refine step_pushes (by rfl) _ _ (by rfl) (by rfl) (by rfl) (by rfl) HO5.out.1 (HSPS.out _ HB5.out.1) HB5.out.1.size (by have := HM64.out; simp; omega) ?_; intro v6 V6 ho6 hb6 hg6; obtain ⟨p6, n6, c6, rfl⟩ := ho6.sps.sl; have hbt := HB5.out.1.trans hb6; rw [List.nil_append] at ho6; have H6 := hide (And.intro ho6 (And.intro hbt hg6)); clear ho6 hb6 hg6) | (refine step_pushes (by rfl) _ _ (by rfl) (by rfl) (by rfl) (by rfl) HO5.out.2.1 (HSPS.out _ HB5.out.2.1) HB5.out.2.1.size (by have := HM64.out; simp; omega) ?_; intro v6 V6 ho6 hb6 hg6; obtain ⟨p6, n6, c6, rfl⟩ := ho6.sps.sl; have hbt := HB5.out.2.1.trans hb6; rw [List.nil_append] at ho6; have HS6 : Hid (SpAt V6 (w5.heap.size + 1) 0 ⟨t, i, q, s, en, nn⟩) := hide (fun a b hb => hg6.cell (HSA.out.1 a b hb) (by simp [Value.ownBlock])); have H6 := hide (And.intro ho6 (And.intro hbt hg6)); clear ho6 hb6 hg6) | (refine step_pushes (by rfl) _ _ (by rfl) (by rfl) (by rfl) (by rfl) HO5.out.2.2 (HSPS.out _ HB5.out.2.2) HB5.out.2.2.size (by have := HM64.out; simp; omega) ?_; intro v6 V6 ho6 hb6 hg6; obtain ⟨p6, n6, c6, rfl⟩ := ho6.sps.sl; have hbt := HB5.out.2.2.trans hb6; rw [List.nil_append] at ho6; have HS6 : Hid (SpAt V6 w5.heap.size 0 ⟨t, i, q, s, en, nn⟩) := hide (fun a b hb => hg6.cell (HSA.out.2 a b hb) (by simp [Value.ownBlock])); have H6 := hide (And.intro ho6 (And.intro hbt hg6)); clear ho6 hb6 hg6) | (refine step_pushes (by rfl) _ _ (by rfl) (by rfl) (by rfl) (by rfl) (show OwnS w5.heap.size (V6.alloc _) (.slice p6 n6 c6) M from World.ownsRow.alloc H6.out.1 _) (sps_one (spAt_new V6 ⟨t, i, q, s, en, nn⟩)) (by have := H6.out.2.1.size; simp; omega) (by have := HM64.out; simp; omega) ?_; intro v9 V9 ho9 hb9 hg9; obtain ⟨p9, n9, c9, rfl⟩ := ho9.sps.sl; have hbt := (H6.out.2.1.alloc H6.out.2.1.size _).trans hb9; have g1 := (G5.out _ hbt).1; have g2 := (G5.out _ hbt).2; have H9 := hide (And.intro ho9 hbt); clear ho9 hb9 hg9) | (refine step_pushes (by rfl) _ _ (by rfl) (by rfl) (by rfl) (by rfl) H6.out.1 (sps_one HS6.out) H6.out.2.1.size (by have := HM64.out; simp; omega) ?_; intro v9 V9 ho9 hb9 hg9; obtain ⟨p9, n9, c9, rfl⟩ := ho9.sps.sl; have hbt := H6.out.2.1.trans hb9; have g1 := (G5.out _ hbt).1; have g2 := (G5.out _ hbt).2; have H9 := hide (And.intro ho9 hbt); clear ho9 hb9 hg9))
                        refine hK.out _ _ ?_ (fun hHeld => ?_)
                        · (try dsimp only)
                          first | go_keep | exact KEEP.out.1 _ hbt | exact KEEP.out.2 _ _ hbt
                        clear hK K
                        try simp only [Act.put, List.setIfInBounds_toArray, List.set_cons_zero, List.set_cons_succ]
                        refine wpAnyH_ready (rs := [9]) (by kernel_rfl) (by simp) ?_
                        refine AllReadyH.cons (o := { dst := some 56, op := Op.call { callee := Callee.builtin Builtin.append, args := #[Operand.tmp 53, Operand.tmp 55], argTypes := #[31, 31] }, type := 31, pos := "ref.go:67", after := #[{ on := 6, ground := Ground.data }, { on := 8, ground := Ground.data }, { on := 6, ground := Ground.chain }], guard := none }) rfl (fun K hK => ?_) ?_
                        · (first | (refine step_pushes (by rfl) _ _ (by rfl) (by rfl) (by rfl) (by rfl) HO5.out.1 (HSPS.out _ HB5.out.1) HB5.out.1.size (by have := HM64.out; simp; omega) ?_; intro v6 V6 ho6 hb6 hg6; obtain ⟨p6, n6, c6, rfl⟩ := ho6.sps.sl; have hbt := HB5.out.1.trans hb6; rw [List.nil_append] at ho6; have H6 := hide (And.intro ho6 (And.intro hbt hg6)); clear ho6 hb6 hg6) | (refine step_pushes (by rfl) _ _ (by rfl) (by rfl) (by rfl) (by rfl) HO5.out.2.1 (HSPS.out _ HB5.out.2.1) HB5.out.2.1.size (by have := HM64.out; simp; omega) ?_; intro v6 V6 ho6 hb6 hg6; obtain ⟨p6, n6, c6, rfl⟩ := ho6.sps.sl; have hbt := HB5.out.2.1.trans hb6; rw [List.nil_append] at ho6; have HS6 : Hid (SpAt V6 (w5.heap.size + 1) 0 ⟨t, i, q, s, en, nn⟩) := hide (fun a b hb => hg6.cell (HSA.out.1 a b hb) (by simp [Value.ownBlock])); have H6 := hide (And.intro ho6 (And.intro hbt hg6)); clear ho6 hb6 hg6) | (refine step_pushes (by rfl) _ _ (by rfl) (by rfl) (by rfl) (by rfl) HO5.out.2.2 (HSPS.out _ HB5.out.2.2) HB5.out.2.2.size (by have := HM64.out; simp; omega) ?_; intro v6 V6 ho6 hb6 hg6; obtain ⟨p6, n6, c6, rfl⟩ := ho6.sps.sl; have hbt := HB5.out.2.2.trans hb6; rw [List.nil_append] at ho6; have HS6 : Hid (SpAt V6 w5.heap.size 0 ⟨t, i, q, s, en, nn⟩) := hide (fun a b hb => hg6.cell (HSA.out.2 a b hb) (by simp [Value.ownBlock])); have H6 := hide (And.intro ho6 (And.intro hbt hg6)); clear ho6 hb6 hg6) | (refine step_pushes (by rfl) _ _ (by rfl) (by rfl) (by rfl) (by rfl) (show OwnS w5.heap.size (V6.alloc _) (.slice p6 n6 c6) M from World.ownsRow.alloc H6.out.1 _) (sps_one (spAt_new V6 ⟨t, i, q, s, en, nn⟩)) (by have := H6.out.2.1.size; simp; omega) (by have := HM64.out; simp; omega) ?_; intro v9 V9 ho9 hb9 hg9; obtain ⟨p9, n9, c9, rfl⟩ := ho9.sps.sl; have hbt := (H6.out.2.1.alloc H6.out.2.1.size _).trans hb9; have g1 := (G5.out _ hbt).1; have g2 := (G5.out _ hbt).2; have H9 := hide (And.intro ho9 hbt); clear ho9 hb9 hg9) | (refine step_pushes (by rfl) _ _ (by rfl) (by rfl) (by rfl) (by rfl) H6.out.1 (sps_one HS6.out) H6.out.2.1.size (by have := HM64.out; simp; omega) ?_; intro v9 V9 ho9 hb9 hg9; obtain ⟨p9, n9, c9, rfl⟩ := ho9.sps.sl; have hbt := H6.out.2.1.trans hb9; have g1 := (G5.out _ hbt).1; have g2 := (G5.out _ hbt).2; have H9 := hide (And.intro ho9 hbt); clear ho9 hb9 hg9))
                          refine hK.out _ _ ?_ (fun hHeld => ?_)
                          · (try dsimp only)
                            first | go_keep | exact KEEP.out.1 _ hbt | exact KEEP.out.2 _ _ hbt
                          clear hK K
                          try simp only [Act.put, List.setIfInBounds_toArray, List.set_cons_zero, List.set_cons_succ]
                          refine wpAnyH_take (i := 10) (oi := { dst := some 57, op := Op.nilCheck (Operand.tmp 47), type := 0, pos := "ref.go:67", after := #[{ on := 0, ground := Ground.data }, { on := 0, ground := Ground.phase }, { on := 1, ground := Ground.phase }, { on := 2, ground := Ground.phase }, { on := 3, ground := Ground.phase }, { on := 4, ground := Ground.phase }, { on := 5, ground := Ground.phase }, { on := 6, ground := Ground.phase }, { on := 7, ground := Ground.phase }, { on := 8, ground := Ground.phase }, { on := 9, ground := Ground.phase }], guard := none }) (v := ?_) rfl (by kernel_rfl) (by kernel_rfl) (by kernel_rfl) (fun _ _ _ h => h) (Or.inl ⟨by rfl, ?_⟩) (by assumption) ?_
                          rotate_left
                          · intro w hSw
                            (try dsimp only at hSw)
                            go_simp
                            try with_reducible rfl
                          try simp only [Act.put, List.setIfInBounds_toArray, List.set_cons_zero, List.set_cons_succ]
                          refine wpAnyH_take (i := 11) (oi := { dst := some 58, op := Op.fieldAddr 103 (Operand.tmp 57) 1, type := 0, pos := "ref.go:67", after := #[{ on := 10, ground := Ground.data }, { on := 0, ground := Ground.phase }, { on := 1, ground := Ground.phase }, { on := 2, ground := Ground.phase }, { on := 3, ground := Ground.phase }, { on := 4, ground := Ground.phase }, { on := 5, ground := Ground.phase }, { on := 6, ground := Ground.phase }, { on := 7, ground := Ground.phase }, { on := 8, ground := Ground.phase }, { on := 9, ground := Ground.phase }], guard := none }) (v := ?_) rfl (by kernel_rfl) (by kernel_rfl) (by kernel_rfl) (fun _ _ _ h => h) (Or.inl ⟨by rfl, ?_⟩) (by assumption) ?_
                          rotate_left
                          · intro w hSw
                            (try dsimp only at hSw)
                            go_simp
                            try with_reducible rfl
                          try simp only [Act.put, List.setIfInBounds_toArray, List.set_cons_zero, List.set_cons_succ]
                          refine wpAnyH_ready (rs := [12]) (by kernel_rfl) (by simp) ?_
                          refine AllReadyH.cons (o := { dst := none, op := Op.store 31 (Operand.tmp 58) (Operand.tmp 56), type := 0, pos := "ref.go:67", after := #[{ on := 11, ground := Ground.data }, { on := 9, ground := Ground.data }, { on := 9, ground := Ground.chain }, { on := 0, ground := Ground.phase }, { on := 1, ground := Ground.phase }, { on := 2, ground := Ground.phase }, { on := 3, ground := Ground.phase }, { on := 4, ground := Ground.phase }, { on := 5, ground := Ground.phase }, { on := 6, ground := Ground.phase }, { on := 7, ground := Ground.phase }, { on := 8, ground := Ground.phase }, { on := 9, ground := Ground.phase }], guard := none }) rfl (fun K hK => ?_) ?_
                          · go_simp
                            first
                              | refine hK.out _ _ ?_ (fun hHeld => ?_)
                              | (go_wp2_with fail; refine hK.out _ _ ?_ (fun hHeld => ?_))
                            · (try dsimp only)
                              first | go_keep | exact KEEP.out.1 _ hbt | exact KEEP.out.2 _ _ hbt
                            clear hK K
                            try simp only [Act.put, List.setIfInBounds_toArray, List.set_cons_zero, List.set_cons_succ]
                            refine wpAnyH_done (by kernel_rfl) ?_ _
                            have hc9 : CnAt (V9.setCell ⟨g, 1, none⟩ (.slice p9 n9 c9)) gc ⟨na, ns, no, ny, nf⟩ := (H5.out.2.1.below H9.out.2).grown (grown_set _ _ _ _) (fun e => HZ.out.2.2.2.2.1 (by injection e with e; exact e.symm))
                            have hr9 : RfX (fun k => k = g ∨ k = gc ∨ k = w.heap.size) (V9.setCell ⟨g, 1, none⟩ (.slice p9 n9 c9)) g tr (M ++ [⟨t, i, q, s, en, nn⟩]) := H5.out.1.put H9.out.2 H9.out.1 (fun k hk => by
                              have h1 : g < w5.heap.size := lt_of_cell H5.out.1.c0
                              have h2 : gc < w5.heap.size := lt_of_cell H5.out.2.1.c0
                              have h3 := HZ.out.2.2.2.2.2
                              omega)
                            have hg9 : Chg Z (V9.setCell ⟨g, 1, none⟩ (.slice p9 n9 c9)) (fun k => k = g ∨ k = gc) := (H5.out.2.2.belowed H9.out.2).set _ (.inl (.inl rfl))
                            obtain ⟨j0, j1, j2, j3, j4, jf⟩ := hc9
                            have jf0 := jf 0 (by omega)
                            dsimp only at j0
                            have HF9 := hide (And.intro hr9 (And.intro (CnAt.mk j0 j1 j2 j3 j4 jf : CnAt (V9.setCell ⟨g, 1, none⟩ (.slice p9 n9 c9)) gc ⟨na, ns, no, ny, nf⟩) hg9))
                            clear jf hr9 hg9
                            go_wp2
                            go_roundw
                            case rel =>
                              refine ⟨j + 1, by omega, by go_num, hide ?_⟩
                              rw [HNX.out, HRES.out]
                              exact ⟨HF9.out.1.grown (grown_set _ _ _ _) (.inr (.inl rfl)) HZ.out.2.2.2.2.1, HF9.out.2.1.s0, HF9.out.2.2.set _ (.inl (.inr rfl))⟩
                            case measure => simp [intOf]; omega
                          exact AllReadyH.nil
                        exact AllReadyH.nil
                      exact AllReadyH.nil
                    exact AllReadyH.nil
                  refine AllReadyH.cons (o := { dst := some 55, op := Op.buildSlice 31 1 #[(0, Operand.tmp 54)], type := 31, pos := "ref.go:67", after := #[{ on := 7, ground := Ground.data }], guard := none }) rfl (fun K hK => ?_) ?_
                  · go_simp
                    first
                      | refine hK.out _ _ ?_ (fun hHeld => ?_)
                      | (go_wp2_with fail; refine hK.out _ _ ?_ (fun hHeld => ?_))
                    · (try dsimp only)
                      first | go_keep | exact KEEP.out.1 _ hbt | exact KEEP.out.2 _ _ hbt
                    clear hK K
                    try simp only [Act.put, List.setIfInBounds_toArray, List.set_cons_zero, List.set_cons_succ]
                    refine wpAnyH_ready (rs := [5]) (by kernel_rfl) (by simp) ?_
                    refine AllReadyH.cons (o := { dst := some 52, op := Op.load 31 (Operand.tmp 51), type := 31, pos := "ref.go:67", after := #[{ on := 4, ground := Ground.data }], guard := none }) rfl (fun K hK => ?_) ?_
                    · go_simp
                      first
                        | refine hK.out _ _ ?_ (fun hHeld => ?_)
                        | (go_wp2_with fail; refine hK.out _ _ ?_ (fun hHeld => ?_))
                      · (try dsimp only)
                        first | go_keep | exact KEEP.out.1 _ hbt | exact KEEP.out.2 _ _ hbt
                      clear hK K
                      try simp only [Act.put, List.setIfInBounds_toArray, List.set_cons_zero, List.set_cons_succ]
                      refine wpAnyH_ready (rs := [6]) (by kernel_rfl) (by simp) ?_
                      refine AllReadyH.cons (o := { dst := some 53, op := Op.call { callee := Callee.builtin Builtin.append, args := #[Operand.tmp 48, Operand.tmp 52], argTypes := #[31, 31] }, type := 31, pos := "ref.go:67", after := #[{ on := 1, ground := Ground.data }, { on := 5, ground := Ground.data }], guard := none }) rfl (fun K hK => ?_) ?_
                      · (first | (refine step_pushes (by rfl) _ _ (by rfl) (by rfl) (by rfl) (by rfl) HO5.out.1 (HSPS.out _ HB5.out.1) HB5.out.1.size (by have := HM64.out; simp; omega) ?_; intro v6 V6 ho6 hb6 hg6; obtain ⟨p6, n6, c6, rfl⟩ := ho6.sps.sl; have hbt := HB5.out.1.trans hb6; rw [List.nil_append] at ho6; have H6 := hide (And.intro ho6 (And.intro hbt hg6)); clear ho6 hb6 hg6) | (refine step_pushes (by rfl) _ _ (by rfl) (by rfl) (by rfl) (by rfl) HO5.out.2.1 (HSPS.out _ HB5.out.2.1) HB5.out.2.1.size (by have := HM64.out; simp; omega) ?_; intro v6 V6 ho6 hb6 hg6; obtain ⟨p6, n6, c6, rfl⟩ := ho6.sps.sl; have hbt := HB5.out.2.1.trans hb6; rw [List.nil_append] at ho6; have HS6 : Hid (SpAt V6 (w5.heap.size + 1) 0 ⟨t, i, q, s, en, nn⟩) := hide (fun a b hb => hg6.cell (HSA.out.1 a b hb) (by simp [Value.ownBlock])); have H6 := hide (And.intro ho6 (And.intro hbt hg6)); clear ho6 hb6 hg6) | (refine step_pushes (by rfl) _ _ (by rfl) (by rfl) (by rfl) (by rfl) HO5.out.2.2 (HSPS.out _ HB5.out.2.2) HB5.out.2.2.size (by have := HM64.out; simp; omega) ?_; intro v6 V6 ho6 hb6 hg6; obtain ⟨p6, n6, c6, rfl⟩ := ho6.sps.sl; have hbt := HB5.out.2.2.trans hb6; rw [List.nil_append] at ho6; have HS6 : Hid (SpAt V6 w5.heap.size 0 ⟨t, i, q, s, en, nn⟩) := hide (fun a b hb => hg6.cell (HSA.out.2 a b hb) (by simp [Value.ownBlock])); have H6 := hide (And.intro ho6 (And.intro hbt hg6)); clear ho6 hb6 hg6) | (refine step_pushes (by rfl) _ _ (by rfl) (by rfl) (by rfl) (by rfl) (show OwnS w5.heap.size (V6.alloc _) (.slice p6 n6 c6) M from World.ownsRow.alloc H6.out.1 _) (sps_one (spAt_new V6 ⟨t, i, q, s, en, nn⟩)) (by have := H6.out.2.1.size; simp; omega) (by have := HM64.out; simp; omega) ?_; intro v9 V9 ho9 hb9 hg9; obtain ⟨p9, n9, c9, rfl⟩ := ho9.sps.sl; have hbt := (H6.out.2.1.alloc H6.out.2.1.size _).trans hb9; have g1 := (G5.out _ hbt).1; have g2 := (G5.out _ hbt).2; have H9 := hide (And.intro ho9 hbt); clear ho9 hb9 hg9) | (refine step_pushes (by rfl) _ _ (by rfl) (by rfl) (by rfl) (by rfl) H6.out.1 (sps_one HS6.out) H6.out.2.1.size (by have := HM64.out; simp; omega) ?_; intro v9 V9 ho9 hb9 hg9; obtain ⟨p9, n9, c9, rfl⟩ := ho9.sps.sl; have hbt := H6.out.2.1.trans hb9; have g1 := (G5.out _ hbt).1; have g2 := (G5.out _ hbt).2; have H9 := hide (And.intro ho9 hbt); clear ho9 hb9 hg9))
                        refine hK.out _ _ ?_ (fun hHeld => ?_)
                        · (try dsimp only)
                          first | go_keep | exact KEEP.out.1 _ hbt | exact KEEP.out.2 _ _ hbt
                        clear hK K
                        try simp only [Act.put, List.setIfInBounds_toArray, List.set_cons_zero, List.set_cons_succ]
                        refine wpAnyH_ready (rs := [9]) (by kernel_rfl) (by simp) ?_
                        refine AllReadyH.cons (o := { dst := some 56, op := Op.call { callee := Callee.builtin Builtin.append, args := #[Operand.tmp 53, Operand.tmp 55], argTypes := #[31, 31] }, type := 31, pos := "ref.go:67", after := #[{ on := 6, ground := Ground.data }, { on := 8, ground := Ground.data }, { on := 6, ground := Ground.chain }], guard := none }) rfl (fun K hK => ?_) ?_
                        · (first | (refine step_pushes (by rfl) _ _ (by rfl) (by rfl) (by rfl) (by rfl) HO5.out.1 (HSPS.out _ HB5.out.1) HB5.out.1.size (by have := HM64.out; simp; omega) ?_; intro v6 V6 ho6 hb6 hg6; obtain ⟨p6, n6, c6, rfl⟩ := ho6.sps.sl; have hbt := HB5.out.1.trans hb6; rw [List.nil_append] at ho6; have H6 := hide (And.intro ho6 (And.intro hbt hg6)); clear ho6 hb6 hg6) | (refine step_pushes (by rfl) _ _ (by rfl) (by rfl) (by rfl) (by rfl) HO5.out.2.1 (HSPS.out _ HB5.out.2.1) HB5.out.2.1.size (by have := HM64.out; simp; omega) ?_; intro v6 V6 ho6 hb6 hg6; obtain ⟨p6, n6, c6, rfl⟩ := ho6.sps.sl; have hbt := HB5.out.2.1.trans hb6; rw [List.nil_append] at ho6; have HS6 : Hid (SpAt V6 (w5.heap.size + 1) 0 ⟨t, i, q, s, en, nn⟩) := hide (fun a b hb => hg6.cell (HSA.out.1 a b hb) (by simp [Value.ownBlock])); have H6 := hide (And.intro ho6 (And.intro hbt hg6)); clear ho6 hb6 hg6) | (refine step_pushes (by rfl) _ _ (by rfl) (by rfl) (by rfl) (by rfl) HO5.out.2.2 (HSPS.out _ HB5.out.2.2) HB5.out.2.2.size (by have := HM64.out; simp; omega) ?_; intro v6 V6 ho6 hb6 hg6; obtain ⟨p6, n6, c6, rfl⟩ := ho6.sps.sl; have hbt := HB5.out.2.2.trans hb6; rw [List.nil_append] at ho6; have HS6 : Hid (SpAt V6 w5.heap.size 0 ⟨t, i, q, s, en, nn⟩) := hide (fun a b hb => hg6.cell (HSA.out.2 a b hb) (by simp [Value.ownBlock])); have H6 := hide (And.intro ho6 (And.intro hbt hg6)); clear ho6 hb6 hg6) | (refine step_pushes (by rfl) _ _ (by rfl) (by rfl) (by rfl) (by rfl) (show OwnS w5.heap.size (V6.alloc _) (.slice p6 n6 c6) M from World.ownsRow.alloc H6.out.1 _) (sps_one (spAt_new V6 ⟨t, i, q, s, en, nn⟩)) (by have := H6.out.2.1.size; simp; omega) (by have := HM64.out; simp; omega) ?_; intro v9 V9 ho9 hb9 hg9; obtain ⟨p9, n9, c9, rfl⟩ := ho9.sps.sl; have hbt := (H6.out.2.1.alloc H6.out.2.1.size _).trans hb9; have g1 := (G5.out _ hbt).1; have g2 := (G5.out _ hbt).2; have H9 := hide (And.intro ho9 hbt); clear ho9 hb9 hg9) | (refine step_pushes (by rfl) _ _ (by rfl) (by rfl) (by rfl) (by rfl) H6.out.1 (sps_one HS6.out) H6.out.2.1.size (by have := HM64.out; simp; omega) ?_; intro v9 V9 ho9 hb9 hg9; obtain ⟨p9, n9, c9, rfl⟩ := ho9.sps.sl; have hbt := H6.out.2.1.trans hb9; have g1 := (G5.out _ hbt).1; have g2 := (G5.out _ hbt).2; have H9 := hide (And.intro ho9 hbt); clear ho9 hb9 hg9))
                          refine hK.out _ _ ?_ (fun hHeld => ?_)
                          · (try dsimp only)
                            first | go_keep | exact KEEP.out.1 _ hbt | exact KEEP.out.2 _ _ hbt
                          clear hK K
                          try simp only [Act.put, List.setIfInBounds_toArray, List.set_cons_zero, List.set_cons_succ]
                          refine wpAnyH_take (i := 10) (oi := { dst := some 57, op := Op.nilCheck (Operand.tmp 47), type := 0, pos := "ref.go:67", after := #[{ on := 0, ground := Ground.data }, { on := 0, ground := Ground.phase }, { on := 1, ground := Ground.phase }, { on := 2, ground := Ground.phase }, { on := 3, ground := Ground.phase }, { on := 4, ground := Ground.phase }, { on := 5, ground := Ground.phase }, { on := 6, ground := Ground.phase }, { on := 7, ground := Ground.phase }, { on := 8, ground := Ground.phase }, { on := 9, ground := Ground.phase }], guard := none }) (v := ?_) rfl (by kernel_rfl) (by kernel_rfl) (by kernel_rfl) (fun _ _ _ h => h) (Or.inl ⟨by rfl, ?_⟩) (by assumption) ?_
                          rotate_left
                          · intro w hSw
                            (try dsimp only at hSw)
                            go_simp
                            try with_reducible rfl
                          try simp only [Act.put, List.setIfInBounds_toArray, List.set_cons_zero, List.set_cons_succ]
                          refine wpAnyH_take (i := 11) (oi := { dst := some 58, op := Op.fieldAddr 103 (Operand.tmp 57) 1, type := 0, pos := "ref.go:67", after := #[{ on := 10, ground := Ground.data }, { on := 0, ground := Ground.phase }, { on := 1, ground := Ground.phase }, { on := 2, ground := Ground.phase }, { on := 3, ground := Ground.phase }, { on := 4, ground := Ground.phase }, { on := 5, ground := Ground.phase }, { on := 6, ground := Ground.phase }, { on := 7, ground := Ground.phase }, { on := 8, ground := Ground.phase }, { on := 9, ground := Ground.phase }], guard := none }) (v := ?_) rfl (by kernel_rfl) (by kernel_rfl) (by kernel_rfl) (fun _ _ _ h => h) (Or.inl ⟨by rfl, ?_⟩) (by assumption) ?_
                          rotate_left
                          · intro w hSw
                            (try dsimp only at hSw)
                            go_simp
                            try with_reducible rfl
                          try simp only [Act.put, List.setIfInBounds_toArray, List.set_cons_zero, List.set_cons_succ]
                          refine wpAnyH_ready (rs := [12]) (by kernel_rfl) (by simp) ?_
                          refine AllReadyH.cons (o := { dst := none, op := Op.store 31 (Operand.tmp 58) (Operand.tmp 56), type := 0, pos := "ref.go:67", after := #[{ on := 11, ground := Ground.data }, { on := 9, ground := Ground.data }, { on := 9, ground := Ground.chain }, { on := 0, ground := Ground.phase }, { on := 1, ground := Ground.phase }, { on := 2, ground := Ground.phase }, { on := 3, ground := Ground.phase }, { on := 4, ground := Ground.phase }, { on := 5, ground := Ground.phase }, { on := 6, ground := Ground.phase }, { on := 7, ground := Ground.phase }, { on := 8, ground := Ground.phase }, { on := 9, ground := Ground.phase }], guard := none }) rfl (fun K hK => ?_) ?_
                          · go_simp
                            first
                              | refine hK.out _ _ ?_ (fun hHeld => ?_)
                              | (go_wp2_with fail; refine hK.out _ _ ?_ (fun hHeld => ?_))
                            · (try dsimp only)
                              first | go_keep | exact KEEP.out.1 _ hbt | exact KEEP.out.2 _ _ hbt
                            clear hK K
                            try simp only [Act.put, List.setIfInBounds_toArray, List.set_cons_zero, List.set_cons_succ]
                            refine wpAnyH_done (by kernel_rfl) ?_ _
                            have hc9 : CnAt (V9.setCell ⟨g, 1, none⟩ (.slice p9 n9 c9)) gc ⟨na, ns, no, ny, nf⟩ := (H5.out.2.1.below H9.out.2).grown (grown_set _ _ _ _) (fun e => HZ.out.2.2.2.2.1 (by injection e with e; exact e.symm))
                            have hr9 : RfX (fun k => k = g ∨ k = gc ∨ k = w.heap.size) (V9.setCell ⟨g, 1, none⟩ (.slice p9 n9 c9)) g tr (M ++ [⟨t, i, q, s, en, nn⟩]) := H5.out.1.put H9.out.2 H9.out.1 (fun k hk => by
                              have h1 : g < w5.heap.size := lt_of_cell H5.out.1.c0
                              have h2 : gc < w5.heap.size := lt_of_cell H5.out.2.1.c0
                              have h3 := HZ.out.2.2.2.2.2
                              omega)
                            have hg9 : Chg Z (V9.setCell ⟨g, 1, none⟩ (.slice p9 n9 c9)) (fun k => k = g ∨ k = gc) := (H5.out.2.2.belowed H9.out.2).set _ (.inl (.inl rfl))
                            obtain ⟨j0, j1, j2, j3, j4, jf⟩ := hc9
                            have jf0 := jf 0 (by omega)
                            dsimp only at j0
                            have HF9 := hide (And.intro hr9 (And.intro (CnAt.mk j0 j1 j2 j3 j4 jf : CnAt (V9.setCell ⟨g, 1, none⟩ (.slice p9 n9 c9)) gc ⟨na, ns, no, ny, nf⟩) hg9))
                            clear jf hr9 hg9
                            go_wp2
                            go_roundw
                            case rel =>
                              refine ⟨j + 1, by omega, by go_num, hide ?_⟩
                              rw [HNX.out, HRES.out]
                              exact ⟨HF9.out.1.grown (grown_set _ _ _ _) (.inr (.inl rfl)) HZ.out.2.2.2.2.1, HF9.out.2.1.s0, HF9.out.2.2.set _ (.inl (.inr rfl))⟩
                            case measure => simp [intOf]; omega
                          exact AllReadyH.nil
                        exact AllReadyH.nil
                      exact AllReadyH.nil
                    exact AllReadyH.nil
                  exact AllReadyH.nil
                refine AllReadyH.cons (o := { dst := some 52, op := Op.load 31 (Operand.tmp 51), type := 31, pos := "ref.go:67", after := #[{ on := 4, ground := Ground.data }], guard := none }) rfl (fun K hK => ?_) ?_
                · go_simp
                  first
                    | refine hK.out _ _ ?_ (fun hHeld => ?_)
                    | (go_wp2_with fail; refine hK.out _ _ ?_ (fun hHeld => ?_))
                  · (try dsimp only)
                    first | go_keep | exact KEEP.out.1 _ hbt | exact KEEP.out.2 _ _ hbt
                  clear hK K
                  try simp only [Act.put, List.setIfInBounds_toArray, List.set_cons_zero, List.set_cons_succ]
                  refine wpAnyH_ready (rs := [1, 8]) (by kernel_rfl) (by simp) ?_
                  refine AllReadyH.cons (o := { dst := some 48, op := Op.buildSlice 31 0 #[], type := 31, pos := "ref.go:67", after := #[], guard := none }) rfl (fun K hK => ?_) ?_
                  · go_simp
                    first
                      | refine hK.out _ _ ?_ (fun hHeld => ?_)
                      | (go_wp2_with fail; refine hK.out _ _ ?_ (fun hHeld => ?_))
                    · (try dsimp only)
                      first | go_keep | exact KEEP.out.1 _ hbt | exact KEEP.out.2 _ _ hbt
                    clear hK K
                    try simp only [Act.put, List.setIfInBounds_toArray, List.set_cons_zero, List.set_cons_succ]
                    refine wpAnyH_ready (rs := [6, 8]) (by kernel_rfl) (by simp) ?_
                    refine AllReadyH.cons (o := { dst := some 53, op := Op.call { callee := Callee.builtin Builtin.append, args := #[Operand.tmp 48, Operand.tmp 52], argTypes := #[31, 31] }, type := 31, pos := "ref.go:67", after := #[{ on := 1, ground := Ground.data }, { on := 5, ground := Ground.data }], guard := none }) rfl (fun K hK => ?_) ?_
                    · (first | (refine step_pushes (by rfl) _ _ (by rfl) (by rfl) (by rfl) (by rfl) HO5.out.1 (HSPS.out _ HB5.out.1) HB5.out.1.size (by have := HM64.out; simp; omega) ?_; intro v6 V6 ho6 hb6 hg6; obtain ⟨p6, n6, c6, rfl⟩ := ho6.sps.sl; have hbt := HB5.out.1.trans hb6; rw [List.nil_append] at ho6; have H6 := hide (And.intro ho6 (And.intro hbt hg6)); clear ho6 hb6 hg6) | (refine step_pushes (by rfl) _ _ (by rfl) (by rfl) (by rfl) (by rfl) HO5.out.2.1 (HSPS.out _ HB5.out.2.1) HB5.out.2.1.size (by have := HM64.out; simp; omega) ?_; intro v6 V6 ho6 hb6 hg6; obtain ⟨p6, n6, c6, rfl⟩ := ho6.sps.sl; have hbt := HB5.out.2.1.trans hb6; rw [List.nil_append] at ho6; have HS6 : Hid (SpAt V6 (w5.heap.size + 1) 0 ⟨t, i, q, s, en, nn⟩) := hide (fun a b hb => hg6.cell (HSA.out.1 a b hb) (by simp [Value.ownBlock])); have H6 := hide (And.intro ho6 (And.intro hbt hg6)); clear ho6 hb6 hg6) | (refine step_pushes (by rfl) _ _ (by rfl) (by rfl) (by rfl) (by rfl) HO5.out.2.2 (HSPS.out _ HB5.out.2.2) HB5.out.2.2.size (by have := HM64.out; simp; omega) ?_; intro v6 V6 ho6 hb6 hg6; obtain ⟨p6, n6, c6, rfl⟩ := ho6.sps.sl; have hbt := HB5.out.2.2.trans hb6; rw [List.nil_append] at ho6; have HS6 : Hid (SpAt V6 w5.heap.size 0 ⟨t, i, q, s, en, nn⟩) := hide (fun a b hb => hg6.cell (HSA.out.2 a b hb) (by simp [Value.ownBlock])); have H6 := hide (And.intro ho6 (And.intro hbt hg6)); clear ho6 hb6 hg6) | (refine step_pushes (by rfl) _ _ (by rfl) (by rfl) (by rfl) (by rfl) (show OwnS w5.heap.size (V6.alloc _) (.slice p6 n6 c6) M from World.ownsRow.alloc H6.out.1 _) (sps_one (spAt_new V6 ⟨t, i, q, s, en, nn⟩)) (by have := H6.out.2.1.size; simp; omega) (by have := HM64.out; simp; omega) ?_; intro v9 V9 ho9 hb9 hg9; obtain ⟨p9, n9, c9, rfl⟩ := ho9.sps.sl; have hbt := (H6.out.2.1.alloc H6.out.2.1.size _).trans hb9; have g1 := (G5.out _ hbt).1; have g2 := (G5.out _ hbt).2; have H9 := hide (And.intro ho9 hbt); clear ho9 hb9 hg9) | (refine step_pushes (by rfl) _ _ (by rfl) (by rfl) (by rfl) (by rfl) H6.out.1 (sps_one HS6.out) H6.out.2.1.size (by have := HM64.out; simp; omega) ?_; intro v9 V9 ho9 hb9 hg9; obtain ⟨p9, n9, c9, rfl⟩ := ho9.sps.sl; have hbt := H6.out.2.1.trans hb9; have g1 := (G5.out _ hbt).1; have g2 := (G5.out _ hbt).2; have H9 := hide (And.intro ho9 hbt); clear ho9 hb9 hg9))
                      refine hK.out _ _ ?_ (fun hHeld => ?_)
                      · (try dsimp only)
                        first | go_keep | exact KEEP.out.1 _ hbt | exact KEEP.out.2 _ _ hbt
                      clear hK K
                      try simp only [Act.put, List.setIfInBounds_toArray, List.set_cons_zero, List.set_cons_succ]
                      refine wpAnyH_ready (rs := [8]) (by kernel_rfl) (by simp) ?_
                      refine AllReadyH.cons (o := { dst := some 55, op := Op.buildSlice 31 1 #[(0, Operand.tmp 54)], type := 31, pos := "ref.go:67", after := #[{ on := 7, ground := Ground.data }], guard := none }) rfl (fun K hK => ?_) ?_
                      · go_simp
                        first
                          | refine hK.out _ _ ?_ (fun hHeld => ?_)
                          | (go_wp2_with fail; refine hK.out _ _ ?_ (fun hHeld => ?_))
                        · (try dsimp only)
                          first | go_keep | exact KEEP.out.1 _ hbt | exact KEEP.out.2 _ _ hbt
                        clear hK K
                        try simp only [Act.put, List.setIfInBounds_toArray, List.set_cons_zero, List.set_cons_succ]
                        refine wpAnyH_ready (rs := [9]) (by kernel_rfl) (by simp) ?_
                        refine AllReadyH.cons (o := { dst := some 56, op := Op.call { callee := Callee.builtin Builtin.append, args := #[Operand.tmp 53, Operand.tmp 55], argTypes := #[31, 31] }, type := 31, pos := "ref.go:67", after := #[{ on := 6, ground := Ground.data }, { on := 8, ground := Ground.data }, { on := 6, ground := Ground.chain }], guard := none }) rfl (fun K hK => ?_) ?_
                        · (first | (refine step_pushes (by rfl) _ _ (by rfl) (by rfl) (by rfl) (by rfl) HO5.out.1 (HSPS.out _ HB5.out.1) HB5.out.1.size (by have := HM64.out; simp; omega) ?_; intro v6 V6 ho6 hb6 hg6; obtain ⟨p6, n6, c6, rfl⟩ := ho6.sps.sl; have hbt := HB5.out.1.trans hb6; rw [List.nil_append] at ho6; have H6 := hide (And.intro ho6 (And.intro hbt hg6)); clear ho6 hb6 hg6) | (refine step_pushes (by rfl) _ _ (by rfl) (by rfl) (by rfl) (by rfl) HO5.out.2.1 (HSPS.out _ HB5.out.2.1) HB5.out.2.1.size (by have := HM64.out; simp; omega) ?_; intro v6 V6 ho6 hb6 hg6; obtain ⟨p6, n6, c6, rfl⟩ := ho6.sps.sl; have hbt := HB5.out.2.1.trans hb6; rw [List.nil_append] at ho6; have HS6 : Hid (SpAt V6 (w5.heap.size + 1) 0 ⟨t, i, q, s, en, nn⟩) := hide (fun a b hb => hg6.cell (HSA.out.1 a b hb) (by simp [Value.ownBlock])); have H6 := hide (And.intro ho6 (And.intro hbt hg6)); clear ho6 hb6 hg6) | (refine step_pushes (by rfl) _ _ (by rfl) (by rfl) (by rfl) (by rfl) HO5.out.2.2 (HSPS.out _ HB5.out.2.2) HB5.out.2.2.size (by have := HM64.out; simp; omega) ?_; intro v6 V6 ho6 hb6 hg6; obtain ⟨p6, n6, c6, rfl⟩ := ho6.sps.sl; have hbt := HB5.out.2.2.trans hb6; rw [List.nil_append] at ho6; have HS6 : Hid (SpAt V6 w5.heap.size 0 ⟨t, i, q, s, en, nn⟩) := hide (fun a b hb => hg6.cell (HSA.out.2 a b hb) (by simp [Value.ownBlock])); have H6 := hide (And.intro ho6 (And.intro hbt hg6)); clear ho6 hb6 hg6) | (refine step_pushes (by rfl) _ _ (by rfl) (by rfl) (by rfl) (by rfl) (show OwnS w5.heap.size (V6.alloc _) (.slice p6 n6 c6) M from World.ownsRow.alloc H6.out.1 _) (sps_one (spAt_new V6 ⟨t, i, q, s, en, nn⟩)) (by have := H6.out.2.1.size; simp; omega) (by have := HM64.out; simp; omega) ?_; intro v9 V9 ho9 hb9 hg9; obtain ⟨p9, n9, c9, rfl⟩ := ho9.sps.sl; have hbt := (H6.out.2.1.alloc H6.out.2.1.size _).trans hb9; have g1 := (G5.out _ hbt).1; have g2 := (G5.out _ hbt).2; have H9 := hide (And.intro ho9 hbt); clear ho9 hb9 hg9) | (refine step_pushes (by rfl) _ _ (by rfl) (by rfl) (by rfl) (by rfl) H6.out.1 (sps_one HS6.out) H6.out.2.1.size (by have := HM64.out; simp; omega) ?_; intro v9 V9 ho9 hb9 hg9; obtain ⟨p9, n9, c9, rfl⟩ := ho9.sps.sl; have hbt := H6.out.2.1.trans hb9; have g1 := (G5.out _ hbt).1; have g2 := (G5.out _ hbt).2; have H9 := hide (And.intro ho9 hbt); clear ho9 hb9 hg9))
                          refine hK.out _ _ ?_ (fun hHeld => ?_)
                          · (try dsimp only)
                            first | go_keep | exact KEEP.out.1 _ hbt | exact KEEP.out.2 _ _ hbt
                          clear hK K
                          try simp only [Act.put, List.setIfInBounds_toArray, List.set_cons_zero, List.set_cons_succ]
                          refine wpAnyH_take (i := 10) (oi := { dst := some 57, op := Op.nilCheck (Operand.tmp 47), type := 0, pos := "ref.go:67", after := #[{ on := 0, ground := Ground.data }, { on := 0, ground := Ground.phase }, { on := 1, ground := Ground.phase }, { on := 2, ground := Ground.phase }, { on := 3, ground := Ground.phase }, { on := 4, ground := Ground.phase }, { on := 5, ground := Ground.phase }, { on := 6, ground := Ground.phase }, { on := 7, ground := Ground.phase }, { on := 8, ground := Ground.phase }, { on := 9, ground := Ground.phase }], guard := none }) (v := ?_) rfl (by kernel_rfl) (by kernel_rfl) (by kernel_rfl) (fun _ _ _ h => h) (Or.inl ⟨by rfl, ?_⟩) (by assumption) ?_
                          rotate_left
                          · intro w hSw
                            (try dsimp only at hSw)
                            go_simp
                            try with_reducible rfl
                          try simp only [Act.put, List.setIfInBounds_toArray, List.set_cons_zero, List.set_cons_succ]
                          refine wpAnyH_take (i := 11) (oi := { dst := some 58, op := Op.fieldAddr 103 (Operand.tmp 57) 1, type := 0, pos := "ref.go:67", after := #[{ on := 10, ground := Ground.data }, { on := 0, ground := Ground.phase }, { on := 1, ground := Ground.phase }, { on := 2, ground := Ground.phase }, { on := 3, ground := Ground.phase }, { on := 4, ground := Ground.phase }, { on := 5, ground := Ground.phase }, { on := 6, ground := Ground.phase }, { on := 7, ground := Ground.phase }, { on := 8, ground := Ground.phase }, { on := 9, ground := Ground.phase }], guard := none }) (v := ?_) rfl (by kernel_rfl) (by kernel_rfl) (by kernel_rfl) (fun _ _ _ h => h) (Or.inl ⟨by rfl, ?_⟩) (by assumption) ?_
                          rotate_left
                          · intro w hSw
                            (try dsimp only at hSw)
                            go_simp
                            try with_reducible rfl
                          try simp only [Act.put, List.setIfInBounds_toArray, List.set_cons_zero, List.set_cons_succ]
                          refine wpAnyH_ready (rs := [12]) (by kernel_rfl) (by simp) ?_
                          refine AllReadyH.cons (o := { dst := none, op := Op.store 31 (Operand.tmp 58) (Operand.tmp 56), type := 0, pos := "ref.go:67", after := #[{ on := 11, ground := Ground.data }, { on := 9, ground := Ground.data }, { on := 9, ground := Ground.chain }, { on := 0, ground := Ground.phase }, { on := 1, ground := Ground.phase }, { on := 2, ground := Ground.phase }, { on := 3, ground := Ground.phase }, { on := 4, ground := Ground.phase }, { on := 5, ground := Ground.phase }, { on := 6, ground := Ground.phase }, { on := 7, ground := Ground.phase }, { on := 8, ground := Ground.phase }, { on := 9, ground := Ground.phase }], guard := none }) rfl (fun K hK => ?_) ?_
                          · go_simp
                            first
                              | refine hK.out _ _ ?_ (fun hHeld => ?_)
                              | (go_wp2_with fail; refine hK.out _ _ ?_ (fun hHeld => ?_))
                            · (try dsimp only)
                              first | go_keep | exact KEEP.out.1 _ hbt | exact KEEP.out.2 _ _ hbt
                            clear hK K
                            try simp only [Act.put, List.setIfInBounds_toArray, List.set_cons_zero, List.set_cons_succ]
                            refine wpAnyH_done (by kernel_rfl) ?_ _
                            have hc9 : CnAt (V9.setCell ⟨g, 1, none⟩ (.slice p9 n9 c9)) gc ⟨na, ns, no, ny, nf⟩ := (H5.out.2.1.below H9.out.2).grown (grown_set _ _ _ _) (fun e => HZ.out.2.2.2.2.1 (by injection e with e; exact e.symm))
                            have hr9 : RfX (fun k => k = g ∨ k = gc ∨ k = w.heap.size) (V9.setCell ⟨g, 1, none⟩ (.slice p9 n9 c9)) g tr (M ++ [⟨t, i, q, s, en, nn⟩]) := H5.out.1.put H9.out.2 H9.out.1 (fun k hk => by
                              have h1 : g < w5.heap.size := lt_of_cell H5.out.1.c0
                              have h2 : gc < w5.heap.size := lt_of_cell H5.out.2.1.c0
                              have h3 := HZ.out.2.2.2.2.2
                              omega)
                            have hg9 : Chg Z (V9.setCell ⟨g, 1, none⟩ (.slice p9 n9 c9)) (fun k => k = g ∨ k = gc) := (H5.out.2.2.belowed H9.out.2).set _ (.inl (.inl rfl))
                            obtain ⟨j0, j1, j2, j3, j4, jf⟩ := hc9
                            have jf0 := jf 0 (by omega)
                            dsimp only at j0
                            have HF9 := hide (And.intro hr9 (And.intro (CnAt.mk j0 j1 j2 j3 j4 jf : CnAt (V9.setCell ⟨g, 1, none⟩ (.slice p9 n9 c9)) gc ⟨na, ns, no, ny, nf⟩) hg9))
                            clear jf hr9 hg9
                            go_wp2
                            go_roundw
                            case rel =>
                              refine ⟨j + 1, by omega, by go_num, hide ?_⟩
                              rw [HNX.out, HRES.out]
                              exact ⟨HF9.out.1.grown (grown_set _ _ _ _) (.inr (.inl rfl)) HZ.out.2.2.2.2.1, HF9.out.2.1.s0, HF9.out.2.2.set _ (.inl (.inr rfl))⟩
                            case measure => simp [intOf]; omega
                          exact AllReadyH.nil
                        exact AllReadyH.nil
                      exact AllReadyH.nil
                    refine AllReadyH.cons (o := { dst := some 55, op := Op.buildSlice 31 1 #[(0, Operand.tmp 54)], type := 31, pos := "ref.go:67", after := #[{ on := 7, ground := Ground.data }], guard := none }) rfl (fun K hK => ?_) ?_
                    · go_simp
                      first
                        | refine hK.out _ _ ?_ (fun hHeld => ?_)
                        | (go_wp2_with fail; refine hK.out _ _ ?_ (fun hHeld => ?_))
                      · (try dsimp only)
                        first | go_keep | exact KEEP.out.1 _ hbt | exact KEEP.out.2 _ _ hbt
                      clear hK K
                      try simp only [Act.put, List.setIfInBounds_toArray, List.set_cons_zero, List.set_cons_succ]
                      refine wpAnyH_ready (rs := [6]) (by kernel_rfl) (by simp) ?_
                      refine AllReadyH.cons (o := { dst := some 53, op := Op.call { callee := Callee.builtin Builtin.append, args := #[Operand.tmp 48, Operand.tmp 52], argTypes := #[31, 31] }, type := 31, pos := "ref.go:67", after := #[{ on := 1, ground := Ground.data }, { on := 5, ground := Ground.data }], guard := none }) rfl (fun K hK => ?_) ?_
                      · (first | (refine step_pushes (by rfl) _ _ (by rfl) (by rfl) (by rfl) (by rfl) HO5.out.1 (HSPS.out _ HB5.out.1) HB5.out.1.size (by have := HM64.out; simp; omega) ?_; intro v6 V6 ho6 hb6 hg6; obtain ⟨p6, n6, c6, rfl⟩ := ho6.sps.sl; have hbt := HB5.out.1.trans hb6; rw [List.nil_append] at ho6; have H6 := hide (And.intro ho6 (And.intro hbt hg6)); clear ho6 hb6 hg6) | (refine step_pushes (by rfl) _ _ (by rfl) (by rfl) (by rfl) (by rfl) HO5.out.2.1 (HSPS.out _ HB5.out.2.1) HB5.out.2.1.size (by have := HM64.out; simp; omega) ?_; intro v6 V6 ho6 hb6 hg6; obtain ⟨p6, n6, c6, rfl⟩ := ho6.sps.sl; have hbt := HB5.out.2.1.trans hb6; rw [List.nil_append] at ho6; have HS6 : Hid (SpAt V6 (w5.heap.size + 1) 0 ⟨t, i, q, s, en, nn⟩) := hide (fun a b hb => hg6.cell (HSA.out.1 a b hb) (by simp [Value.ownBlock])); have H6 := hide (And.intro ho6 (And.intro hbt hg6)); clear ho6 hb6 hg6) | (refine step_pushes (by rfl) _ _ (by rfl) (by rfl) (by rfl) (by rfl) HO5.out.2.2 (HSPS.out _ HB5.out.2.2) HB5.out.2.2.size (by have := HM64.out; simp; omega) ?_; intro v6 V6 ho6 hb6 hg6; obtain ⟨p6, n6, c6, rfl⟩ := ho6.sps.sl; have hbt := HB5.out.2.2.trans hb6; rw [List.nil_append] at ho6; have HS6 : Hid (SpAt V6 w5.heap.size 0 ⟨t, i, q, s, en, nn⟩) := hide (fun a b hb => hg6.cell (HSA.out.2 a b hb) (by simp [Value.ownBlock])); have H6 := hide (And.intro ho6 (And.intro hbt hg6)); clear ho6 hb6 hg6) | (refine step_pushes (by rfl) _ _ (by rfl) (by rfl) (by rfl) (by rfl) (show OwnS w5.heap.size (V6.alloc _) (.slice p6 n6 c6) M from World.ownsRow.alloc H6.out.1 _) (sps_one (spAt_new V6 ⟨t, i, q, s, en, nn⟩)) (by have := H6.out.2.1.size; simp; omega) (by have := HM64.out; simp; omega) ?_; intro v9 V9 ho9 hb9 hg9; obtain ⟨p9, n9, c9, rfl⟩ := ho9.sps.sl; have hbt := (H6.out.2.1.alloc H6.out.2.1.size _).trans hb9; have g1 := (G5.out _ hbt).1; have g2 := (G5.out _ hbt).2; have H9 := hide (And.intro ho9 hbt); clear ho9 hb9 hg9) | (refine step_pushes (by rfl) _ _ (by rfl) (by rfl) (by rfl) (by rfl) H6.out.1 (sps_one HS6.out) H6.out.2.1.size (by have := HM64.out; simp; omega) ?_; intro v9 V9 ho9 hb9 hg9; obtain ⟨p9, n9, c9, rfl⟩ := ho9.sps.sl; have hbt := H6.out.2.1.trans hb9; have g1 := (G5.out _ hbt).1; have g2 := (G5.out _ hbt).2; have H9 := hide (And.intro ho9 hbt); clear ho9 hb9 hg9))
                        refine hK.out _ _ ?_ (fun hHeld => ?_)
                        · (try dsimp only)
                          first | go_keep | exact KEEP.out.1 _ hbt | exact KEEP.out.2 _ _ hbt
                        clear hK K
                        try simp only [Act.put, List.setIfInBounds_toArray, List.set_cons_zero, List.set_cons_succ]
                        refine wpAnyH_ready (rs := [9]) (by kernel_rfl) (by simp) ?_
                        refine AllReadyH.cons (o := { dst := some 56, op := Op.call { callee := Callee.builtin Builtin.append, args := #[Operand.tmp 53, Operand.tmp 55], argTypes := #[31, 31] }, type := 31, pos := "ref.go:67", after := #[{ on := 6, ground := Ground.data }, { on := 8, ground := Ground.data }, { on := 6, ground := Ground.chain }], guard := none }) rfl (fun K hK => ?_) ?_
                        · (first | (refine step_pushes (by rfl) _ _ (by rfl) (by rfl) (by rfl) (by rfl) HO5.out.1 (HSPS.out _ HB5.out.1) HB5.out.1.size (by have := HM64.out; simp; omega) ?_; intro v6 V6 ho6 hb6 hg6; obtain ⟨p6, n6, c6, rfl⟩ := ho6.sps.sl; have hbt := HB5.out.1.trans hb6; rw [List.nil_append] at ho6; have H6 := hide (And.intro ho6 (And.intro hbt hg6)); clear ho6 hb6 hg6) | (refine step_pushes (by rfl) _ _ (by rfl) (by rfl) (by rfl) (by rfl) HO5.out.2.1 (HSPS.out _ HB5.out.2.1) HB5.out.2.1.size (by have := HM64.out; simp; omega) ?_; intro v6 V6 ho6 hb6 hg6; obtain ⟨p6, n6, c6, rfl⟩ := ho6.sps.sl; have hbt := HB5.out.2.1.trans hb6; rw [List.nil_append] at ho6; have HS6 : Hid (SpAt V6 (w5.heap.size + 1) 0 ⟨t, i, q, s, en, nn⟩) := hide (fun a b hb => hg6.cell (HSA.out.1 a b hb) (by simp [Value.ownBlock])); have H6 := hide (And.intro ho6 (And.intro hbt hg6)); clear ho6 hb6 hg6) | (refine step_pushes (by rfl) _ _ (by rfl) (by rfl) (by rfl) (by rfl) HO5.out.2.2 (HSPS.out _ HB5.out.2.2) HB5.out.2.2.size (by have := HM64.out; simp; omega) ?_; intro v6 V6 ho6 hb6 hg6; obtain ⟨p6, n6, c6, rfl⟩ := ho6.sps.sl; have hbt := HB5.out.2.2.trans hb6; rw [List.nil_append] at ho6; have HS6 : Hid (SpAt V6 w5.heap.size 0 ⟨t, i, q, s, en, nn⟩) := hide (fun a b hb => hg6.cell (HSA.out.2 a b hb) (by simp [Value.ownBlock])); have H6 := hide (And.intro ho6 (And.intro hbt hg6)); clear ho6 hb6 hg6) | (refine step_pushes (by rfl) _ _ (by rfl) (by rfl) (by rfl) (by rfl) (show OwnS w5.heap.size (V6.alloc _) (.slice p6 n6 c6) M from World.ownsRow.alloc H6.out.1 _) (sps_one (spAt_new V6 ⟨t, i, q, s, en, nn⟩)) (by have := H6.out.2.1.size; simp; omega) (by have := HM64.out; simp; omega) ?_; intro v9 V9 ho9 hb9 hg9; obtain ⟨p9, n9, c9, rfl⟩ := ho9.sps.sl; have hbt := (H6.out.2.1.alloc H6.out.2.1.size _).trans hb9; have g1 := (G5.out _ hbt).1; have g2 := (G5.out _ hbt).2; have H9 := hide (And.intro ho9 hbt); clear ho9 hb9 hg9) | (refine step_pushes (by rfl) _ _ (by rfl) (by rfl) (by rfl) (by rfl) H6.out.1 (sps_one HS6.out) H6.out.2.1.size (by have := HM64.out; simp; omega) ?_; intro v9 V9 ho9 hb9 hg9; obtain ⟨p9, n9, c9, rfl⟩ := ho9.sps.sl; have hbt := H6.out.2.1.trans hb9; have g1 := (G5.out _ hbt).1; have g2 := (G5.out _ hbt).2; have H9 := hide (And.intro ho9 hbt); clear ho9 hb9 hg9))
                          refine hK.out _ _ ?_ (fun hHeld => ?_)
                          · (try dsimp only)
                            first | go_keep | exact KEEP.out.1 _ hbt | exact KEEP.out.2 _ _ hbt
                          clear hK K
                          try simp only [Act.put, List.setIfInBounds_toArray, List.set_cons_zero, List.set_cons_succ]
                          refine wpAnyH_take (i := 10) (oi := { dst := some 57, op := Op.nilCheck (Operand.tmp 47), type := 0, pos := "ref.go:67", after := #[{ on := 0, ground := Ground.data }, { on := 0, ground := Ground.phase }, { on := 1, ground := Ground.phase }, { on := 2, ground := Ground.phase }, { on := 3, ground := Ground.phase }, { on := 4, ground := Ground.phase }, { on := 5, ground := Ground.phase }, { on := 6, ground := Ground.phase }, { on := 7, ground := Ground.phase }, { on := 8, ground := Ground.phase }, { on := 9, ground := Ground.phase }], guard := none }) (v := ?_) rfl (by kernel_rfl) (by kernel_rfl) (by kernel_rfl) (fun _ _ _ h => h) (Or.inl ⟨by rfl, ?_⟩) (by assumption) ?_
                          rotate_left
                          · intro w hSw
                            (try dsimp only at hSw)
                            go_simp
                            try with_reducible rfl
                          try simp only [Act.put, List.setIfInBounds_toArray, List.set_cons_zero, List.set_cons_succ]
                          refine wpAnyH_take (i := 11) (oi := { dst := some 58, op := Op.fieldAddr 103 (Operand.tmp 57) 1, type := 0, pos := "ref.go:67", after := #[{ on := 10, ground := Ground.data }, { on := 0, ground := Ground.phase }, { on := 1, ground := Ground.phase }, { on := 2, ground := Ground.phase }, { on := 3, ground := Ground.phase }, { on := 4, ground := Ground.phase }, { on := 5, ground := Ground.phase }, { on := 6, ground := Ground.phase }, { on := 7, ground := Ground.phase }, { on := 8, ground := Ground.phase }, { on := 9, ground := Ground.phase }], guard := none }) (v := ?_) rfl (by kernel_rfl) (by kernel_rfl) (by kernel_rfl) (fun _ _ _ h => h) (Or.inl ⟨by rfl, ?_⟩) (by assumption) ?_
                          rotate_left
                          · intro w hSw
                            (try dsimp only at hSw)
                            go_simp
                            try with_reducible rfl
                          try simp only [Act.put, List.setIfInBounds_toArray, List.set_cons_zero, List.set_cons_succ]
                          refine wpAnyH_ready (rs := [12]) (by kernel_rfl) (by simp) ?_
                          refine AllReadyH.cons (o := { dst := none, op := Op.store 31 (Operand.tmp 58) (Operand.tmp 56), type := 0, pos := "ref.go:67", after := #[{ on := 11, ground := Ground.data }, { on := 9, ground := Ground.data }, { on := 9, ground := Ground.chain }, { on := 0, ground := Ground.phase }, { on := 1, ground := Ground.phase }, { on := 2, ground := Ground.phase }, { on := 3, ground := Ground.phase }, { on := 4, ground := Ground.phase }, { on := 5, ground := Ground.phase }, { on := 6, ground := Ground.phase }, { on := 7, ground := Ground.phase }, { on := 8, ground := Ground.phase }, { on := 9, ground := Ground.phase }], guard := none }) rfl (fun K hK => ?_) ?_
                          · go_simp
                            first
                              | refine hK.out _ _ ?_ (fun hHeld => ?_)
                              | (go_wp2_with fail; refine hK.out _ _ ?_ (fun hHeld => ?_))
                            · (try dsimp only)
                              first | go_keep | exact KEEP.out.1 _ hbt | exact KEEP.out.2 _ _ hbt
                            clear hK K
                            try simp only [Act.put, List.setIfInBounds_toArray, List.set_cons_zero, List.set_cons_succ]
                            refine wpAnyH_done (by kernel_rfl) ?_ _
                            have hc9 : CnAt (V9.setCell ⟨g, 1, none⟩ (.slice p9 n9 c9)) gc ⟨na, ns, no, ny, nf⟩ := (H5.out.2.1.below H9.out.2).grown (grown_set _ _ _ _) (fun e => HZ.out.2.2.2.2.1 (by injection e with e; exact e.symm))
                            have hr9 : RfX (fun k => k = g ∨ k = gc ∨ k = w.heap.size) (V9.setCell ⟨g, 1, none⟩ (.slice p9 n9 c9)) g tr (M ++ [⟨t, i, q, s, en, nn⟩]) := H5.out.1.put H9.out.2 H9.out.1 (fun k hk => by
                              have h1 : g < w5.heap.size := lt_of_cell H5.out.1.c0
                              have h2 : gc < w5.heap.size := lt_of_cell H5.out.2.1.c0
                              have h3 := HZ.out.2.2.2.2.2
                              omega)
                            have hg9 : Chg Z (V9.setCell ⟨g, 1, none⟩ (.slice p9 n9 c9)) (fun k => k = g ∨ k = gc) := (H5.out.2.2.belowed H9.out.2).set _ (.inl (.inl rfl))
                            obtain ⟨j0, j1, j2, j3, j4, jf⟩ := hc9
                            have jf0 := jf 0 (by omega)
                            dsimp only at j0
                            have HF9 := hide (And.intro hr9 (And.intro (CnAt.mk j0 j1 j2 j3 j4 jf : CnAt (V9.setCell ⟨g, 1, none⟩ (.slice p9 n9 c9)) gc ⟨na, ns, no, ny, nf⟩) hg9))
                            clear jf hr9 hg9
                            go_wp2
                            go_roundw
                            case rel =>
                              refine ⟨j + 1, by omega, by go_num, hide ?_⟩
                              rw [HNX.out, HRES.out]
                              exact ⟨HF9.out.1.grown (grown_set _ _ _ _) (.inr (.inl rfl)) HZ.out.2.2.2.2.1, HF9.out.2.1.s0, HF9.out.2.2.set _ (.inl (.inr rfl))⟩
                            case measure => simp [intOf]; omega
                          exact AllReadyH.nil
                        exact AllReadyH.nil
                      exact AllReadyH.nil
                    exact AllReadyH.nil
                  refine AllReadyH.cons (o := { dst := some 55, op := Op.buildSlice 31 1 #[(0, Operand.tmp 54)], type := 31, pos := "ref.go:67", after := #[{ on := 7, ground := Ground.data }], guard := none }) rfl (fun K hK => ?_) ?_
                  · go_simp
                    first
                      | refine hK.out _ _ ?_ (fun hHeld => ?_)
                      | (go_wp2_with fail; refine hK.out _ _ ?_ (fun hHeld => ?_))
                    · (try dsimp only)
                      first | go_keep | exact KEEP.out.1 _ hbt | exact KEEP.out.2 _ _ hbt
                    clear hK K
                    try simp only [Act.put, List.setIfInBounds_toArray, List.set_cons_zero, List.set_cons_succ]
                    refine wpAnyH_ready (rs := [1]) (by kernel_rfl) (by simp) ?_
                    refine AllReadyH.cons (o := { dst := some 48, op := Op.buildSlice 31 0 #[], type := 31, pos := "ref.go:67", after := #[], guard := none }) rfl (fun K hK => ?_) ?_
                    · go_simp
                      first
                        | refine hK.out _ _ ?_ (fun hHeld => ?_)
                        | (go_wp2_with fail; refine hK.out _ _ ?_ (fun hHeld => ?_))
                      · (try dsimp only)
                        first | go_keep | exact KEEP.out.1 _ hbt | exact KEEP.out.2 _ _ hbt
                      clear hK K
                      try simp only [Act.put, List.setIfInBounds_toArray, List.set_cons_zero, List.set_cons_succ]
                      refine wpAnyH_ready (rs := [6]) (by kernel_rfl) (by simp) ?_
                      refine AllReadyH.cons (o := { dst := some 53, op := Op.call { callee := Callee.builtin Builtin.append, args := #[Operand.tmp 48, Operand.tmp 52], argTypes := #[31, 31] }, type := 31, pos := "ref.go:67", after := #[{ on := 1, ground := Ground.data }, { on := 5, ground := Ground.data }], guard := none }) rfl (fun K hK => ?_) ?_
                      · (first | (refine step_pushes (by rfl) _ _ (by rfl) (by rfl) (by rfl) (by rfl) HO5.out.1 (HSPS.out _ HB5.out.1) HB5.out.1.size (by have := HM64.out; simp; omega) ?_; intro v6 V6 ho6 hb6 hg6; obtain ⟨p6, n6, c6, rfl⟩ := ho6.sps.sl; have hbt := HB5.out.1.trans hb6; rw [List.nil_append] at ho6; have H6 := hide (And.intro ho6 (And.intro hbt hg6)); clear ho6 hb6 hg6) | (refine step_pushes (by rfl) _ _ (by rfl) (by rfl) (by rfl) (by rfl) HO5.out.2.1 (HSPS.out _ HB5.out.2.1) HB5.out.2.1.size (by have := HM64.out; simp; omega) ?_; intro v6 V6 ho6 hb6 hg6; obtain ⟨p6, n6, c6, rfl⟩ := ho6.sps.sl; have hbt := HB5.out.2.1.trans hb6; rw [List.nil_append] at ho6; have HS6 : Hid (SpAt V6 (w5.heap.size + 1) 0 ⟨t, i, q, s, en, nn⟩) := hide (fun a b hb => hg6.cell (HSA.out.1 a b hb) (by simp [Value.ownBlock])); have H6 := hide (And.intro ho6 (And.intro hbt hg6)); clear ho6 hb6 hg6) | (refine step_pushes (by rfl) _ _ (by rfl) (by rfl) (by rfl) (by rfl) HO5.out.2.2 (HSPS.out _ HB5.out.2.2) HB5.out.2.2.size (by have := HM64.out; simp; omega) ?_; intro v6 V6 ho6 hb6 hg6; obtain ⟨p6, n6, c6, rfl⟩ := ho6.sps.sl; have hbt := HB5.out.2.2.trans hb6; rw [List.nil_append] at ho6; have HS6 : Hid (SpAt V6 w5.heap.size 0 ⟨t, i, q, s, en, nn⟩) := hide (fun a b hb => hg6.cell (HSA.out.2 a b hb) (by simp [Value.ownBlock])); have H6 := hide (And.intro ho6 (And.intro hbt hg6)); clear ho6 hb6 hg6) | (refine step_pushes (by rfl) _ _ (by rfl) (by rfl) (by rfl) (by rfl) (show OwnS w5.heap.size (V6.alloc _) (.slice p6 n6 c6) M from World.ownsRow.alloc H6.out.1 _) (sps_one (spAt_new V6 ⟨t, i, q, s, en, nn⟩)) (by have := H6.out.2.1.size; simp; omega) (by have := HM64.out; simp; omega) ?_; intro v9 V9 ho9 hb9 hg9; obtain ⟨p9, n9, c9, rfl⟩ := ho9.sps.sl; have hbt := (H6.out.2.1.alloc H6.out.2.1.size _).trans hb9; have g1 := (G5.out _ hbt).1; have g2 := (G5.out _ hbt).2; have H9 := hide (And.intro ho9 hbt); clear ho9 hb9 hg9) | (refine step_pushes (by rfl) _ _ (by rfl) (by rfl) (by rfl) (by rfl) H6.out.1 (sps_one HS6.out) H6.out.2.1.size (by have := HM64.out; simp; omega) ?_; intro v9 V9 ho9 hb9 hg9; obtain ⟨p9, n9, c9, rfl⟩ := ho9.sps.sl; have hbt := H6.out.2.1.trans hb9; have g1 := (G5.out _ hbt).1; have g2 := (G5.out _ hbt).2; have H9 := hide (And.intro ho9 hbt); clear ho9 hb9 hg9))
                        refine hK.out _ _ ?_ (fun hHeld => ?_)
                        · (try dsimp only)
                          first | go_keep | exact KEEP.out.1 _ hbt | exact KEEP.out.2 _ _ hbt
                        clear hK K
                        try simp only [Act.put, List.setIfInBounds_toArray, List.set_cons_zero, List.set_cons_succ]
                        refine wpAnyH_ready (rs := [9]) (by kernel_rfl) (by simp) ?_
                        refine AllReadyH.cons (o := { dst := some 56, op := Op.call { callee := Callee.builtin Builtin.append, args := #[Operand.tmp 53, Operand.tmp 55], argTypes := #[31, 31] }, type := 31, pos := "ref.go:67", after := #[{ on := 6, ground := Ground.data }, { on := 8, ground := Ground.data }, { on := 6, ground := Ground.chain }], guard := none }) rfl (fun K hK => ?_) ?_
                        · (first | (refine step_pushes (by rfl) _ _ (by rfl) (by rfl) (by rfl) (by rfl) HO5.out.1 (HSPS.out _ HB5.out.1) HB5.out.1.size (by have := HM64.out; simp; omega) ?_; intro v6 V6 ho6 hb6 hg6; obtain ⟨p6, n6, c6, rfl⟩ := ho6.sps.sl; have hbt := HB5.out.1.trans hb6; rw [List.nil_append] at ho6; have H6 := hide (And.intro ho6 (And.intro hbt hg6)); clear ho6 hb6 hg6) | (refine step_pushes (by rfl) _ _ (by rfl) (by rfl) (by rfl) (by rfl) HO5.out.2.1 (HSPS.out _ HB5.out.2.1) HB5.out.2.1.size (by have := HM64.out; simp; omega) ?_; intro v6 V6 ho6 hb6 hg6; obtain ⟨p6, n6, c6, rfl⟩ := ho6.sps.sl; have hbt := HB5.out.2.1.trans hb6; rw [List.nil_append] at ho6; have HS6 : Hid (SpAt V6 (w5.heap.size + 1) 0 ⟨t, i, q, s, en, nn⟩) := hide (fun a b hb => hg6.cell (HSA.out.1 a b hb) (by simp [Value.ownBlock])); have H6 := hide (And.intro ho6 (And.intro hbt hg6)); clear ho6 hb6 hg6) | (refine step_pushes (by rfl) _ _ (by rfl) (by rfl) (by rfl) (by rfl) HO5.out.2.2 (HSPS.out _ HB5.out.2.2) HB5.out.2.2.size (by have := HM64.out; simp; omega) ?_; intro v6 V6 ho6 hb6 hg6; obtain ⟨p6, n6, c6, rfl⟩ := ho6.sps.sl; have hbt := HB5.out.2.2.trans hb6; rw [List.nil_append] at ho6; have HS6 : Hid (SpAt V6 w5.heap.size 0 ⟨t, i, q, s, en, nn⟩) := hide (fun a b hb => hg6.cell (HSA.out.2 a b hb) (by simp [Value.ownBlock])); have H6 := hide (And.intro ho6 (And.intro hbt hg6)); clear ho6 hb6 hg6) | (refine step_pushes (by rfl) _ _ (by rfl) (by rfl) (by rfl) (by rfl) (show OwnS w5.heap.size (V6.alloc _) (.slice p6 n6 c6) M from World.ownsRow.alloc H6.out.1 _) (sps_one (spAt_new V6 ⟨t, i, q, s, en, nn⟩)) (by have := H6.out.2.1.size; simp; omega) (by have := HM64.out; simp; omega) ?_; intro v9 V9 ho9 hb9 hg9; obtain ⟨p9, n9, c9, rfl⟩ := ho9.sps.sl; have hbt := (H6.out.2.1.alloc H6.out.2.1.size _).trans hb9; have g1 := (G5.out _ hbt).1; have g2 := (G5.out _ hbt).2; have H9 := hide (And.intro ho9 hbt); clear ho9 hb9 hg9) | (refine step_pushes (by rfl) _ _ (by rfl) (by rfl) (by rfl) (by rfl) H6.out.1 (sps_one HS6.out) H6.out.2.1.size (by have := HM64.out; simp; omega) ?_; intro v9 V9 ho9 hb9 hg9; obtain ⟨p9, n9, c9, rfl⟩ := ho9.sps.sl; have hbt := H6.out.2.1.trans hb9; have g1 := (G5.out _ hbt).1; have g2 := (G5.out _ hbt).2; have H9 := hide (And.intro ho9 hbt); clear ho9 hb9 hg9))
                          refine hK.out _ _ ?_ (fun hHeld => ?_)
                          · (try dsimp only)
                            first | go_keep | exact KEEP.out.1 _ hbt | exact KEEP.out.2 _ _ hbt
                          clear hK K
                          try simp only [Act.put, List.setIfInBounds_toArray, List.set_cons_zero, List.set_cons_succ]
                          refine wpAnyH_take (i := 10) (oi := { dst := some 57, op := Op.nilCheck (Operand.tmp 47), type := 0, pos := "ref.go:67", after := #[{ on := 0, ground := Ground.data }, { on := 0, ground := Ground.phase }, { on := 1, ground := Ground.phase }, { on := 2, ground := Ground.phase }, { on := 3, ground := Ground.phase }, { on := 4, ground := Ground.phase }, { on := 5, ground := Ground.phase }, { on := 6, ground := Ground.phase }, { on := 7, ground := Ground.phase }, { on := 8, ground := Ground.phase }, { on := 9, ground := Ground.phase }], guard := none }) (v := ?_) rfl (by kernel_rfl) (by kernel_rfl) (by kernel_rfl) (fun _ _ _ h => h) (Or.inl ⟨by rfl, ?_⟩) (by assumption) ?_
                          rotate_left
                          · intro w hSw
                            (try dsimp only at hSw)
                            go_simp
                            try with_reducible rfl
                          try simp only [Act.put, List.setIfInBounds_toArray, List.set_cons_zero, List.set_cons_succ]
                          refine wpAnyH_take (i := 11) (oi := { dst := some 58, op := Op.fieldAddr 103 (Operand.tmp 57) 1, type := 0, pos := "ref.go:67", after := #[{ on := 10, ground := Ground.data }, { on := 0, ground := Ground.phase }, { on := 1, ground := Ground.phase }, { on := 2, ground := Ground.phase }, { on := 3, ground := Ground.phase }, { on := 4, ground := Ground.phase }, { on := 5, ground := Ground.phase }, { on := 6, ground := Ground.phase }, { on := 7, ground := Ground.phase }, { on := 8, ground := Ground.phase }, { on := 9, ground := Ground.phase }], guard := none }) (v := ?_) rfl (by kernel_rfl) (by kernel_rfl) (by kernel_rfl) (fun _ _ _ h => h) (Or.inl ⟨by rfl, ?_⟩) (by assumption) ?_
                          rotate_left
                          · intro w hSw
                            (try dsimp only at hSw)
                            go_simp
                            try with_reducible rfl
                          try simp only [Act.put, List.setIfInBounds_toArray, List.set_cons_zero, List.set_cons_succ]
                          refine wpAnyH_ready (rs := [12]) (by kernel_rfl) (by simp) ?_
                          refine AllReadyH.cons (o := { dst := none, op := Op.store 31 (Operand.tmp 58) (Operand.tmp 56), type := 0, pos := "ref.go:67", after := #[{ on := 11, ground := Ground.data }, { on := 9, ground := Ground.data }, { on := 9, ground := Ground.chain }, { on := 0, ground := Ground.phase }, { on := 1, ground := Ground.phase }, { on := 2, ground := Ground.phase }, { on := 3, ground := Ground.phase }, { on := 4, ground := Ground.phase }, { on := 5, ground := Ground.phase }, { on := 6, ground := Ground.phase }, { on := 7, ground := Ground.phase }, { on := 8, ground := Ground.phase }, { on := 9, ground := Ground.phase }], guard := none }) rfl (fun K hK => ?_) ?_
                          · go_simp
                            first
                              | refine hK.out _ _ ?_ (fun hHeld => ?_)
                              | (go_wp2_with fail; refine hK.out _ _ ?_ (fun hHeld => ?_))
                            · (try dsimp only)
                              first | go_keep | exact KEEP.out.1 _ hbt | exact KEEP.out.2 _ _ hbt
                            clear hK K
                            try simp only [Act.put, List.setIfInBounds_toArray, List.set_cons_zero, List.set_cons_succ]
                            refine wpAnyH_done (by kernel_rfl) ?_ _
                            have hc9 : CnAt (V9.setCell ⟨g, 1, none⟩ (.slice p9 n9 c9)) gc ⟨na, ns, no, ny, nf⟩ := (H5.out.2.1.below H9.out.2).grown (grown_set _ _ _ _) (fun e => HZ.out.2.2.2.2.1 (by injection e with e; exact e.symm))
                            have hr9 : RfX (fun k => k = g ∨ k = gc ∨ k = w.heap.size) (V9.setCell ⟨g, 1, none⟩ (.slice p9 n9 c9)) g tr (M ++ [⟨t, i, q, s, en, nn⟩]) := H5.out.1.put H9.out.2 H9.out.1 (fun k hk => by
                              have h1 : g < w5.heap.size := lt_of_cell H5.out.1.c0
                              have h2 : gc < w5.heap.size := lt_of_cell H5.out.2.1.c0
                              have h3 := HZ.out.2.2.2.2.2
                              omega)
                            have hg9 : Chg Z (V9.setCell ⟨g, 1, none⟩ (.slice p9 n9 c9)) (fun k => k = g ∨ k = gc) := (H5.out.2.2.belowed H9.out.2).set _ (.inl (.inl rfl))
                            obtain ⟨j0, j1, j2, j3, j4, jf⟩ := hc9
                            have jf0 := jf 0 (by omega)
                            dsimp only at j0
                            have HF9 := hide (And.intro hr9 (And.intro (CnAt.mk j0 j1 j2 j3 j4 jf : CnAt (V9.setCell ⟨g, 1, none⟩ (.slice p9 n9 c9)) gc ⟨na, ns, no, ny, nf⟩) hg9))
                            clear jf hr9 hg9
                            go_wp2
                            go_roundw
                            case rel =>
                              refine ⟨j + 1, by omega, by go_num, hide ?_⟩
                              rw [HNX.out, HRES.out]
                              exact ⟨HF9.out.1.grown (grown_set _ _ _ _) (.inr (.inl rfl)) HZ.out.2.2.2.2.1, HF9.out.2.1.s0, HF9.out.2.2.set _ (.inl (.inr rfl))⟩
                            case measure => simp [intOf]; omega
                          exact AllReadyH.nil
                        exact AllReadyH.nil
                      exact AllReadyH.nil
                    exact AllReadyH.nil
                  exact AllReadyH.nil
                refine AllReadyH.cons (o := { dst := some 55, op := Op.buildSlice 31 1 #[(0, Operand.tmp 54)], type := 31, pos := "ref.go:67", after := #[{ on := 7, ground := Ground.data }], guard := none }) rfl (fun K hK => ?_) ?_
                · go_simp
                  first
                    | refine hK.out _ _ ?_ (fun hHeld => ?_)
                    | (go_wp2_with fail; refine hK.out _ _ ?_ (fun hHeld => ?_))
                  · (try dsimp only)
                    first | go_keep | exact KEEP.out.1 _ hbt | exact KEEP.out.2 _ _ hbt
                  clear hK K
                  try simp only [Act.put, List.setIfInBounds_toArray, List.set_cons_zero, List.set_cons_succ]
                  refine wpAnyH_ready (rs := [1, 5]) (by kernel_rfl) (by simp) ?_
                  refine AllReadyH.cons (o := { dst := some 48, op := Op.buildSlice 31 0 #[], type := 31, pos := "ref.go:67", after := #[], guard := none }) rfl (fun K hK => ?_) ?_
                  · go_simp
                    first
                      | refine hK.out _ _ ?_ (fun hHeld => ?_)
                      | (go_wp2_with fail; refine hK.out _ _ ?_ (fun hHeld => ?_))
                    · (try dsimp only)
                      first | go_keep | exact KEEP.out.1 _ hbt | exact KEEP.out.2 _ _ hbt
                    clear hK K
                    try simp only [Act.put, List.setIfInBounds_toArray, List.set_cons_zero, List.set_cons_succ]
                    refine wpAnyH_ready (rs := [5]) (by kernel_rfl) (by simp) ?_
                    refine AllReadyH.cons (o := { dst := some 52, op := Op.load 31 (Operand.tmp 51), type := 31, pos := "ref.go:67", after := #[{ on := 4, ground := Ground.data }], guard := none }) rfl (fun K hK => ?_) ?_
                    · go_simp
                      first
                        | refine hK.out _ _ ?_ (fun hHeld => ?_)
                        | (go_wp2_with fail; refine hK.out _ _ ?_ (fun hHeld => ?_))
                      · (try dsimp only)
                        first | go_keep | exact KEEP.out.1 _ hbt | exact KEEP.out.2 _ _ hbt
                      clear hK K
                      try simp only [Act.put, List.setIfInBounds_toArray, List.set_cons_zero, List.set_cons_succ]
                      refine wpAnyH_ready (rs := [6]) (by kernel_rfl) (by simp) ?_
                      refine AllReadyH.cons (o := { dst := some 53, op := Op.call { callee := Callee.builtin Builtin.append, args := #[Operand.tmp 48, Operand.tmp 52], argTypes := #[31, 31] }, type := 31, pos := "ref.go:67", after := #[{ on := 1, ground := Ground.data }, { on := 5, ground := Ground.data }], guard := none }) rfl (fun K hK => ?_) ?_
                      · (first | (refine step_pushes (by rfl) _ _ (by rfl) (by rfl) (by rfl) (by rfl) HO5.out.1 (HSPS.out _ HB5.out.1) HB5.out.1.size (by have := HM64.out; simp; omega) ?_; intro v6 V6 ho6 hb6 hg6; obtain ⟨p6, n6, c6, rfl⟩ := ho6.sps.sl; have hbt := HB5.out.1.trans hb6; rw [List.nil_append] at ho6; have H6 := hide (And.intro ho6 (And.intro hbt hg6)); clear ho6 hb6 hg6) | (refine step_pushes (by rfl) _ _ (by rfl) (by rfl) (by rfl) (by rfl) HO5.out.2.1 (HSPS.out _ HB5.out.2.1) HB5.out.2.1.size (by have := HM64.out; simp; omega) ?_; intro v6 V6 ho6 hb6 hg6; obtain ⟨p6, n6, c6, rfl⟩ := ho6.sps.sl; have hbt := HB5.out.2.1.trans hb6; rw [List.nil_append] at ho6; have HS6 : Hid (SpAt V6 (w5.heap.size + 1) 0 ⟨t, i, q, s, en, nn⟩) := hide (fun a b hb => hg6.cell (HSA.out.1 a b hb) (by simp [Value.ownBlock])); have H6 := hide (And.intro ho6 (And.intro hbt hg6)); clear ho6 hb6 hg6) | (refine step_pushes (by rfl) _ _ (by rfl) (by rfl) (by rfl) (by rfl) HO5.out.2.2 (HSPS.out _ HB5.out.2.2) HB5.out.2.2.size (by have := HM64.out; simp; omega) ?_; intro v6 V6 ho6 hb6 hg6; obtain ⟨p6, n6, c6, rfl⟩ := ho6.sps.sl; have hbt := HB5.out.2.2.trans hb6; rw [List.nil_append] at ho6; have HS6 : Hid (SpAt V6 w5.heap.size 0 ⟨t, i, q, s, en, nn⟩) := hide (fun a b hb => hg6.cell (HSA.out.2 a b hb) (by simp [Value.ownBlock])); have H6 := hide (And.intro ho6 (And.intro hbt hg6)); clear ho6 hb6 hg6) | (refine step_pushes (by rfl) _ _ (by rfl) (by rfl) (by rfl) (by rfl) (show OwnS w5.heap.size (V6.alloc _) (.slice p6 n6 c6) M from World.ownsRow.alloc H6.out.1 _) (sps_one (spAt_new V6 ⟨t, i, q, s, en, nn⟩)) (by have := H6.out.2.1.size; simp; omega) (by have := HM64.out; simp; omega) ?_; intro v9 V9 ho9 hb9 hg9; obtain ⟨p9, n9, c9, rfl⟩ := ho9.sps.sl; have hbt := (H6.out.2.1.alloc H6.out.2.1.size _).trans hb9; have g1 := (G5.out _ hbt).1; have g2 := (G5.out _ hbt).2; have H9 := hide (And.intro ho9 hbt); clear ho9 hb9 hg9) | (refine step_pushes (by rfl) _ _ (by rfl) (by rfl) (by rfl) (by rfl) H6.out.1 (sps_one HS6.out) H6.out.2.1.size (by have := HM64.out; simp; omega) ?_; intro v9 V9 ho9 hb9 hg9; obtain ⟨p9, n9, c9, rfl⟩ := ho9.sps.sl; have hbt := H6.out.2.1.trans hb9; have g1 := (G5.out _ hbt).1; have g2 := (G5.out _ hbt).2; have H9 := hide (And.intro ho9 hbt); clear ho9 hb9 hg9))
                        refine hK.out _ _ ?_ (fun hHeld => ?_)
                        · (try dsimp only)
                          first | go_keep | exact KEEP.out.1 _ hbt | exact KEEP.out.2 _ _ hbt
                        clear hK K
                        try simp only [Act.put, List.setIfInBounds_toArray, List.set_cons_zero, List.set_cons_succ]
                        refine wpAnyH_ready (rs := [9]) (by kernel_rfl) (by simp) ?_
                        refine AllReadyH.cons (o := { dst := some 56, op := Op.call { callee := Callee.builtin Builtin.append, args := #[Operand.tmp 53, Operand.tmp 55], argTypes := #[31, 31] }, type := 31, pos := "ref.go:67", after := #[{ on := 6, ground := Ground.data }, { on := 8, ground := Ground.data }, { on := 6, ground := Ground.chain }], guard := none }) rfl (fun K hK => ?_) ?_
                        · (first | (refine step_pushes (by rfl) _ _ (by rfl) (by rfl) (by rfl) (by rfl) HO5.out.1 (HSPS.out _ HB5.out.1) HB5.out.1.size (by have := HM64.out; simp; omega) ?_; intro v6 V6 ho6 hb6 hg6; obtain ⟨p6, n6, c6, rfl⟩ := ho6.sps.sl; have hbt := HB5.out.1.trans hb6; rw [List.nil_append] at ho6; have H6 := hide (And.intro ho6 (And.intro hbt hg6)); clear ho6 hb6 hg6) | (refine step_pushes (by rfl) _ _ (by rfl) (by rfl) (by rfl) (by rfl) HO5.out.2.1 (HSPS.out _ HB5.out.2.1) HB5.out.2.1.size (by have := HM64.out; simp; omega) ?_; intro v6 V6 ho6 hb6 hg6; obtain ⟨p6, n6, c6, rfl⟩ := ho6.sps.sl; have hbt := HB5.out.2.1.trans hb6; rw [List.nil_append] at ho6; have HS6 : Hid (SpAt V6 (w5.heap.size + 1) 0 ⟨t, i, q, s, en, nn⟩) := hide (fun a b hb => hg6.cell (HSA.out.1 a b hb) (by simp [Value.ownBlock])); have H6 := hide (And.intro ho6 (And.intro hbt hg6)); clear ho6 hb6 hg6) | (refine step_pushes (by rfl) _ _ (by rfl) (by rfl) (by rfl) (by rfl) HO5.out.2.2 (HSPS.out _ HB5.out.2.2) HB5.out.2.2.size (by have := HM64.out; simp; omega) ?_; intro v6 V6 ho6 hb6 hg6; obtain ⟨p6, n6, c6, rfl⟩ := ho6.sps.sl; have hbt := HB5.out.2.2.trans hb6; rw [List.nil_append] at ho6; have HS6 : Hid (SpAt V6 w5.heap.size 0 ⟨t, i, q, s, en, nn⟩) := hide (fun a b hb => hg6.cell (HSA.out.2 a b hb) (by simp [Value.ownBlock])); have H6 := hide (And.intro ho6 (And.intro hbt hg6)); clear ho6 hb6 hg6) | (refine step_pushes (by rfl) _ _ (by rfl) (by rfl) (by rfl) (by rfl) (show OwnS w5.heap.size (V6.alloc _) (.slice p6 n6 c6) M from World.ownsRow.alloc H6.out.1 _) (sps_one (spAt_new V6 ⟨t, i, q, s, en, nn⟩)) (by have := H6.out.2.1.size; simp; omega) (by have := HM64.out; simp; omega) ?_; intro v9 V9 ho9 hb9 hg9; obtain ⟨p9, n9, c9, rfl⟩ := ho9.sps.sl; have hbt := (H6.out.2.1.alloc H6.out.2.1.size _).trans hb9; have g1 := (G5.out _ hbt).1; have g2 := (G5.out _ hbt).2; have H9 := hide (And.intro ho9 hbt); clear ho9 hb9 hg9) | (refine step_pushes (by rfl) _ _ (by rfl) (by rfl) (by rfl) (by rfl) H6.out.1 (sps_one HS6.out) H6.out.2.1.size (by have := HM64.out; simp; omega) ?_; intro v9 V9 ho9 hb9 hg9; obtain ⟨p9, n9, c9, rfl⟩ := ho9.sps.sl; have hbt := H6.out.2.1.trans hb9; have g1 := (G5.out _ hbt).1; have g2 := (G5.out _ hbt).2; have H9 := hide (And.intro ho9 hbt); clear ho9 hb9 hg9))
                          refine hK.out _ _ ?_ (fun hHeld => ?_)
                          · (try dsimp only)
                            first | go_keep | exact KEEP.out.1 _ hbt | exact KEEP.out.2 _ _ hbt
                          clear hK K
                          try simp only [Act.put, List.setIfInBounds_toArray, List.set_cons_zero, List.set_cons_succ]
                          refine wpAnyH_take (i := 10) (oi := { dst := some 57, op := Op.nilCheck (Operand.tmp 47), type := 0, pos := "ref.go:67", after := #[{ on := 0, ground := Ground.data }, { on := 0, ground := Ground.phase }, { on := 1, ground := Ground.phase }, { on := 2, ground := Ground.phase }, { on := 3, ground := Ground.phase }, { on := 4, ground := Ground.phase }, { on := 5, ground := Ground.phase }, { on := 6, ground := Ground.phase }, { on := 7, ground := Ground.phase }, { on := 8, ground := Ground.phase }, { on := 9, ground := Ground.phase }], guard := none }) (v := ?_) rfl (by kernel_rfl) (by kernel_rfl) (by kernel_rfl) (fun _ _ _ h => h) (Or.inl ⟨by rfl, ?_⟩) (by assumption) ?_
                          rotate_left
                          · intro w hSw
                            (try dsimp only at hSw)
                            go_simp
                            try with_reducible rfl
                          try simp only [Act.put, List.setIfInBounds_toArray, List.set_cons_zero, List.set_cons_succ]
                          refine wpAnyH_take (i := 11) (oi := { dst := some 58, op := Op.fieldAddr 103 (Operand.tmp 57) 1, type := 0, pos := "ref.go:67", after := #[{ on := 10, ground := Ground.data }, { on := 0, ground := Ground.phase }, { on := 1, ground := Ground.phase }, { on := 2, ground := Ground.phase }, { on := 3, ground := Ground.phase }, { on := 4, ground := Ground.phase }, { on := 5, ground := Ground.phase }, { on := 6, ground := Ground.phase }, { on := 7, ground := Ground.phase }, { on := 8, ground := Ground.phase }, { on := 9, ground := Ground.phase }], guard := none }) (v := ?_) rfl (by kernel_rfl) (by kernel_rfl) (by kernel_rfl) (fun _ _ _ h => h) (Or.inl ⟨by rfl, ?_⟩) (by assumption) ?_
                          rotate_left
                          · intro w hSw
                            (try dsimp only at hSw)
                            go_simp
                            try with_reducible rfl
                          try simp only [Act.put, List.setIfInBounds_toArray, List.set_cons_zero, List.set_cons_succ]
                          refine wpAnyH_ready (rs := [12]) (by kernel_rfl) (by simp) ?_
                          refine AllReadyH.cons (o := { dst := none, op := Op.store 31 (Operand.tmp 58) (Operand.tmp 56), type := 0, pos := "ref.go:67", after := #[{ on := 11, ground := Ground.data }, { on := 9, ground := Ground.data }, { on := 9, ground := Ground.chain }, { on := 0, ground := Ground.phase }, { on := 1, ground := Ground.phase }, { on := 2, ground := Ground.phase }, { on := 3, ground := Ground.phase }, { on := 4, ground := Ground.phase }, { on := 5, ground := Ground.phase }, { on := 6, ground := Ground.phase }, { on := 7, ground := Ground.phase }, { on := 8, ground := Ground.phase }, { on := 9, ground := Ground.phase }], guard := none }) rfl (fun K hK => ?_) ?_
                          · go_simp
                            first
                              | refine hK.out _ _ ?_ (fun hHeld => ?_)
                              | (go_wp2_with fail; refine hK.out _ _ ?_ (fun hHeld => ?_))
                            · (try dsimp only)
                              first | go_keep | exact KEEP.out.1 _ hbt | exact KEEP.out.2 _ _ hbt
                            clear hK K
                            try simp only [Act.put, List.setIfInBounds_toArray, List.set_cons_zero, List.set_cons_succ]
                            refine wpAnyH_done (by kernel_rfl) ?_ _
                            have hc9 : CnAt (V9.setCell ⟨g, 1, none⟩ (.slice p9 n9 c9)) gc ⟨na, ns, no, ny, nf⟩ := (H5.out.2.1.below H9.out.2).grown (grown_set _ _ _ _) (fun e => HZ.out.2.2.2.2.1 (by injection e with e; exact e.symm))
                            have hr9 : RfX (fun k => k = g ∨ k = gc ∨ k = w.heap.size) (V9.setCell ⟨g, 1, none⟩ (.slice p9 n9 c9)) g tr (M ++ [⟨t, i, q, s, en, nn⟩]) := H5.out.1.put H9.out.2 H9.out.1 (fun k hk => by
                              have h1 : g < w5.heap.size := lt_of_cell H5.out.1.c0
                              have h2 : gc < w5.heap.size := lt_of_cell H5.out.2.1.c0
                              have h3 := HZ.out.2.2.2.2.2
                              omega)
                            have hg9 : Chg Z (V9.setCell ⟨g, 1, none⟩ (.slice p9 n9 c9)) (fun k => k = g ∨ k = gc) := (H5.out.2.2.belowed H9.out.2).set _ (.inl (.inl rfl))
                            obtain ⟨j0, j1, j2, j3, j4, jf⟩ := hc9
                            have jf0 := jf 0 (by omega)
                            dsimp only at j0
                            have HF9 := hide (And.intro hr9 (And.intro (CnAt.mk j0 j1 j2 j3 j4 jf : CnAt (V9.setCell ⟨g, 1, none⟩ (.slice p9 n9 c9)) gc ⟨na, ns, no, ny, nf⟩) hg9))
                            clear jf hr9 hg9
                            go_wp2
                            go_roundw
                            case rel =>
                              refine ⟨j + 1, by omega, by go_num, hide ?_⟩
                              rw [HNX.out, HRES.out]
                              exact ⟨HF9.out.1.grown (grown_set _ _ _ _) (.inr (.inl rfl)) HZ.out.2.2.2.2.1, HF9.out.2.1.s0, HF9.out.2.2.set _ (.inl (.inr rfl))⟩
                            case measure => simp [intOf]; omega
                          exact AllReadyH.nil
                        exact AllReadyH.nil
                      exact AllReadyH.nil
                    exact AllReadyH.nil
                  refine AllReadyH.cons (o := { dst := some 52, op := Op.load 31 (Operand.tmp 51), type := 31, pos := "ref.go:67", after := #[{ on := 4, ground := Ground.data }], guard := none }) rfl (fun K hK => ?_) ?_
                  · go_simp
                    first
                      | refine hK.out _ _ ?_ (fun hHeld => ?_)
                      | (go_wp2_with fail; refine hK.out _ _ ?_ (fun hHeld => ?_))
                    · (try dsimp only)
                      first | go_keep | exact KEEP.out.1 _ hbt | exact KEEP.out.2 _ _ hbt
                    clear hK K
                    try simp only [Act.put, List.setIfInBounds_toArray, List.set_cons_zero, List.set_cons_succ]
                    refine wpAnyH_ready (rs := [1]) (by kernel_rfl) (by simp) ?_
                    refine AllReadyH.cons (o := { dst := some 48, op := Op.buildSlice 31 0 #[], type := 31, pos := "ref.go:67", after := #[], guard := none }) rfl (fun K hK => ?_) ?_
                    · go_simp
                      first
                        | refine hK.out _ _ ?_ (fun hHeld => ?_)
                        | (go_wp2_with fail; refine hK.out _ _ ?_ (fun hHeld => ?_))
                      · (try dsimp only)
                        first | go_keep | exact KEEP.out.1 _ hbt | exact KEEP.out.2 _ _ hbt
                      clear hK K
                      try simp only [Act.put, List.setIfInBounds_toArray, List.set_cons_zero, List.set_cons_succ]
                      refine wpAnyH_ready (rs := [6]) (by kernel_rfl) (by simp) ?_
                      refine AllReadyH.cons (o := { dst := some 53, op := Op.call { callee := Callee.builtin Builtin.append, args := #[Operand.tmp 48, Operand.tmp 52], argTypes := #[31, 31] }, type := 31, pos := "ref.go:67", after := #[{ on := 1, ground := Ground.data }, { on := 5, ground := Ground.data }], guard := none }) rfl (fun K hK => ?_) ?_
                      · (first | (refine step_pushes (by rfl) _ _ (by rfl) (by rfl) (by rfl) (by rfl) HO5.out.1 (HSPS.out _ HB5.out.1) HB5.out.1.size (by have := HM64.out; simp; omega) ?_; intro v6 V6 ho6 hb6 hg6; obtain ⟨p6, n6, c6, rfl⟩ := ho6.sps.sl; have hbt := HB5.out.1.trans hb6; rw [List.nil_append] at ho6; have H6 := hide (And.intro ho6 (And.intro hbt hg6)); clear ho6 hb6 hg6) | (refine step_pushes (by rfl) _ _ (by rfl) (by rfl) (by rfl) (by rfl) HO5.out.2.1 (HSPS.out _ HB5.out.2.1) HB5.out.2.1.size (by have := HM64.out; simp; omega) ?_; intro v6 V6 ho6 hb6 hg6; obtain ⟨p6, n6, c6, rfl⟩ := ho6.sps.sl; have hbt := HB5.out.2.1.trans hb6; rw [List.nil_append] at ho6; have HS6 : Hid (SpAt V6 (w5.heap.size + 1) 0 ⟨t, i, q, s, en, nn⟩) := hide (fun a b hb => hg6.cell (HSA.out.1 a b hb) (by simp [Value.ownBlock])); have H6 := hide (And.intro ho6 (And.intro hbt hg6)); clear ho6 hb6 hg6) | (refine step_pushes (by rfl) _ _ (by rfl) (by rfl) (by rfl) (by rfl) HO5.out.2.2 (HSPS.out _ HB5.out.2.2) HB5.out.2.2.size (by have := HM64.out; simp; omega) ?_; intro v6 V6 ho6 hb6 hg6; obtain ⟨p6, n6, c6, rfl⟩ := ho6.sps.sl; have hbt := HB5.out.2.2.trans hb6; rw [List.nil_append] at ho6; have HS6 : Hid (SpAt V6 w5.heap.size 0 ⟨t, i, q, s, en, nn⟩) := hide (fun a b hb => hg6.cell (HSA.out.2 a b hb) (by simp [Value.ownBlock])); have H6 := hide (And.intro ho6 (And.intro hbt hg6)); clear ho6 hb6 hg6) | (refine step_pushes (by rfl) _ _ (by rfl) (by rfl) (by rfl) (by rfl) (show OwnS w5.heap.size (V6.alloc _) (.slice p6 n6 c6) M from World.ownsRow.alloc H6.out.1 _) (sps_one (spAt_new V6 ⟨t, i, q, s, en, nn⟩)) (by have := H6.out.2.1.size; simp; omega) (by have := HM64.out; simp; omega) ?_; intro v9 V9 ho9 hb9 hg9; obtain ⟨p9, n9, c9, rfl⟩ := ho9.sps.sl; have hbt := (H6.out.2.1.alloc H6.out.2.1.size _).trans hb9; have g1 := (G5.out _ hbt).1; have g2 := (G5.out _ hbt).2; have H9 := hide (And.intro ho9 hbt); clear ho9 hb9 hg9) | (refine step_pushes (by rfl) _ _ (by rfl) (by rfl) (by rfl) (by rfl) H6.out.1 (sps_one HS6.out) H6.out.2.1.size (by have := HM64.out; simp; omega) ?_; intro v9 V9 ho9 hb9 hg9; obtain ⟨p9, n9, c9, rfl⟩ := ho9.sps.sl; have hbt := H6.out.2.1.trans hb9; have g1 := (G5.out _ hbt).1; have g2 := (G5.out _ hbt).2; have H9 := hide (And.intro ho9 hbt); clear ho9 hb9 hg9))
                        refine hK.out _ _ ?_ (fun hHeld => ?_)
                        · (try dsimp only)
                          first | go_keep | exact KEEP.out.1 _ hbt | exact KEEP.out.2 _ _ hbt
                        clear hK K
                        try simp only [Act.put, List.setIfInBounds_toArray, List.set_cons_zero, List.set_cons_succ]
                        refine wpAnyH_ready (rs := [9]) (by kernel_rfl) (by simp) ?_
                        refine AllReadyH.cons (o := { dst := some 56, op := Op.call { callee := Callee.builtin Builtin.append, args := #[Operand.tmp 53, Operand.tmp 55], argTypes := #[31, 31] }, type := 31, pos := "ref.go:67", after := #[{ on := 6, ground := Ground.data }, { on := 8, ground := Ground.data }, { on := 6, ground := Ground.chain }], guard := none }) rfl (fun K hK => ?_) ?_
                        · (first | (refine step_pushes (by rfl) _ _ (by rfl) (by rfl) (by rfl) (by rfl) HO5.out.1 (HSPS.out _ HB5.out.1) HB5.out.1.size (by have := HM64.out; simp; omega) ?_; intro v6 V6 ho6 hb6 hg6; obtain ⟨p6, n6, c6, rfl⟩ := ho6.sps.sl; have hbt := HB5.out.1.trans hb6; rw [List.nil_append] at ho6; have H6 := hide (And.intro ho6 (And.intro hbt hg6)); clear ho6 hb6 hg6) | (refine step_pushes (by rfl) _ _ (by rfl) (by rfl) (by rfl) (by rfl) HO5.out.2.1 (HSPS.out _ HB5.out.2.1) HB5.out.2.1.size (by have := HM64.out; simp; omega) ?_; intro v6 V6 ho6 hb6 hg6; obtain ⟨p6, n6, c6, rfl⟩ := ho6.sps.sl; have hbt := HB5.out.2.1.trans hb6; rw [List.nil_append] at ho6; have HS6 : Hid (SpAt V6 (w5.heap.size + 1) 0 ⟨t, i, q, s, en, nn⟩) := hide (fun a b hb => hg6.cell (HSA.out.1 a b hb) (by simp [Value.ownBlock])); have H6 := hide (And.intro ho6 (And.intro hbt hg6)); clear ho6 hb6 hg6) | (refine step_pushes (by rfl) _ _ (by rfl) (by rfl) (by rfl) (by rfl) HO5.out.2.2 (HSPS.out _ HB5.out.2.2) HB5.out.2.2.size (by have := HM64.out; simp; omega) ?_; intro v6 V6 ho6 hb6 hg6; obtain ⟨p6, n6, c6, rfl⟩ := ho6.sps.sl; have hbt := HB5.out.2.2.trans hb6; rw [List.nil_append] at ho6; have HS6 : Hid (SpAt V6 w5.heap.size 0 ⟨t, i, q, s, en, nn⟩) := hide (fun a b hb => hg6.cell (HSA.out.2 a b hb) (by simp [Value.ownBlock])); have H6 := hide (And.intro ho6 (And.intro hbt hg6)); clear ho6 hb6 hg6) | (refine step_pushes (by rfl) _ _ (by rfl) (by rfl) (by rfl) (by rfl) (show OwnS w5.heap.size (V6.alloc _) (.slice p6 n6 c6) M from World.ownsRow.alloc H6.out.1 _) (sps_one (spAt_new V6 ⟨t, i, q, s, en, nn⟩)) (by have := H6.out.2.1.size; simp; omega) (by have := HM64.out; simp; omega) ?_; intro v9 V9 ho9 hb9 hg9; obtain ⟨p9, n9, c9, rfl⟩ := ho9.sps.sl; have hbt := (H6.out.2.1.alloc H6.out.2.1.size _).trans hb9; have g1 := (G5.out _ hbt).1; have g2 := (G5.out _ hbt).2; have H9 := hide (And.intro ho9 hbt); clear ho9 hb9 hg9) | (refine step_pushes (by rfl) _ _ (by rfl) (by rfl) (by rfl) (by rfl) H6.out.1 (sps_one HS6.out) H6.out.2.1.size (by have := HM64.out; simp; omega) ?_; intro v9 V9 ho9 hb9 hg9; obtain ⟨p9, n9, c9, rfl⟩ := ho9.sps.sl; have hbt := H6.out.2.1.trans hb9; have g1 := (G5.out _ hbt).1; have g2 := (G5.out _ hbt).2; have H9 := hide (And.intro ho9 hbt); clear ho9 hb9 hg9))
                          refine hK.out _ _ ?_ (fun hHeld => ?_)
                          · (try dsimp only)
                            first | go_keep | exact KEEP.out.1 _ hbt | exact KEEP.out.2 _ _ hbt
                          clear hK K
                          try simp only [Act.put, List.setIfInBounds_toArray, List.set_cons_zero, List.set_cons_succ]
                          refine wpAnyH_take (i := 10) (oi := { dst := some 57, op := Op.nilCheck (Operand.tmp 47), type := 0, pos := "ref.go:67", after := #[{ on := 0, ground := Ground.data }, { on := 0, ground := Ground.phase }, { on := 1, ground := Ground.phase }, { on := 2, ground := Ground.phase }, { on := 3, ground := Ground.phase }, { on := 4, ground := Ground.phase }, { on := 5, ground := Ground.phase }, { on := 6, ground := Ground.phase }, { on := 7, ground := Ground.phase }, { on := 8, ground := Ground.phase }, { on := 9, ground := Ground.phase }], guard := none }) (v := ?_) rfl (by kernel_rfl) (by kernel_rfl) (by kernel_rfl) (fun _ _ _ h => h) (Or.inl ⟨by rfl, ?_⟩) (by assumption) ?_
                          rotate_left
                          · intro w hSw
                            (try dsimp only at hSw)
                            go_simp
                            try with_reducible rfl
                          try simp only [Act.put, List.setIfInBounds_toArray, List.set_cons_zero, List.set_cons_succ]
                          refine wpAnyH_take (i := 11) (oi := { dst := some 58, op := Op.fieldAddr 103 (Operand.tmp 57) 1, type := 0, pos := "ref.go:67", after := #[{ on := 10, ground := Ground.data }, { on := 0, ground := Ground.phase }, { on := 1, ground := Ground.phase }, { on := 2, ground := Ground.phase }, { on := 3, ground := Ground.phase }, { on := 4, ground := Ground.phase }, { on := 5, ground := Ground.phase }, { on := 6, ground := Ground.phase }, { on := 7, ground := Ground.phase }, { on := 8, ground := Ground.phase }, { on := 9, ground := Ground.phase }], guard := none }) (v := ?_) rfl (by kernel_rfl) (by kernel_rfl) (by kernel_rfl) (fun _ _ _ h => h) (Or.inl ⟨by rfl, ?_⟩) (by assumption) ?_
                          rotate_left
                          · intro w hSw
                            (try dsimp only at hSw)
                            go_simp
                            try with_reducible rfl
                          try simp only [Act.put, List.setIfInBounds_toArray, List.set_cons_zero, List.set_cons_succ]
                          refine wpAnyH_ready (rs := [12]) (by kernel_rfl) (by simp) ?_
                          refine AllReadyH.cons (o := { dst := none, op := Op.store 31 (Operand.tmp 58) (Operand.tmp 56), type := 0, pos := "ref.go:67", after := #[{ on := 11, ground := Ground.data }, { on := 9, ground := Ground.data }, { on := 9, ground := Ground.chain }, { on := 0, ground := Ground.phase }, { on := 1, ground := Ground.phase }, { on := 2, ground := Ground.phase }, { on := 3, ground := Ground.phase }, { on := 4, ground := Ground.phase }, { on := 5, ground := Ground.phase }, { on := 6, ground := Ground.phase }, { on := 7, ground := Ground.phase }, { on := 8, ground := Ground.phase }, { on := 9, ground := Ground.phase }], guard := none }) rfl (fun K hK => ?_) ?_
                          · go_simp
                            first
                              | refine hK.out _ _ ?_ (fun hHeld => ?_)
                              | (go_wp2_with fail; refine hK.out _ _ ?_ (fun hHeld => ?_))
                            · (try dsimp only)
                              first | go_keep | exact KEEP.out.1 _ hbt | exact KEEP.out.2 _ _ hbt
                            clear hK K
                            try simp only [Act.put, List.setIfInBounds_toArray, List.set_cons_zero, List.set_cons_succ]
                            refine wpAnyH_done (by kernel_rfl) ?_ _
                            have hc9 : CnAt (V9.setCell ⟨g, 1, none⟩ (.slice p9 n9 c9)) gc ⟨na, ns, no, ny, nf⟩ := (H5.out.2.1.below H9.out.2).grown (grown_set _ _ _ _) (fun e => HZ.out.2.2.2.2.1 (by injection e with e; exact e.symm))
                            have hr9 : RfX (fun k => k = g ∨ k = gc ∨ k = w.heap.size) (V9.setCell ⟨g, 1, none⟩ (.slice p9 n9 c9)) g tr (M ++ [⟨t, i, q, s, en, nn⟩]) := H5.out.1.put H9.out.2 H9.out.1 (fun k hk => by
                              have h1 : g < w5.heap.size := lt_of_cell H5.out.1.c0
                              have h2 : gc < w5.heap.size := lt_of_cell H5.out.2.1.c0
                              have h3 := HZ.out.2.2.2.2.2
                              omega)
                            have hg9 : Chg Z (V9.setCell ⟨g, 1, none⟩ (.slice p9 n9 c9)) (fun k => k = g ∨ k = gc) := (H5.out.2.2.belowed H9.out.2).set _ (.inl (.inl rfl))
                            obtain ⟨j0, j1, j2, j3, j4, jf⟩ := hc9
                            have jf0 := jf 0 (by omega)
                            dsimp only at j0
                            have HF9 := hide (And.intro hr9 (And.intro (CnAt.mk j0 j1 j2 j3 j4 jf : CnAt (V9.setCell ⟨g, 1, none⟩ (.slice p9 n9 c9)) gc ⟨na, ns, no, ny, nf⟩) hg9))
                            clear jf hr9 hg9
                            go_wp2
                            go_roundw
                            case rel =>
                              refine ⟨j + 1, by omega, by go_num, hide ?_⟩
                              rw [HNX.out, HRES.out]
                              exact ⟨HF9.out.1.grown (grown_set _ _ _ _) (.inr (.inl rfl)) HZ.out.2.2.2.2.1, HF9.out.2.1.s0, HF9.out.2.2.set _ (.inl (.inr rfl))⟩
                            case measure => simp [intOf]; omega
                          exact AllReadyH.nil
                        exact AllReadyH.nil
                      exact AllReadyH.nil
                    exact AllReadyH.nil
                  exact AllReadyH.nil
                exact AllReadyH.nil
              · have hres : putP M ⟨na, ns, no, ny, nf⟩ ⟨t, i, q, s, en, nn⟩ = (M, ⟨na, ns, no, ny + 1, nf⟩) := by
                  unfold putP
                  simp only [hf, if_neg HL64.out, hri, if_true]
                have HRES := hide hres
                rw [hri] at HRG
                clear hres hf hri
                go_wp2_with fail
                refine HRG.out.mono ?_
                rintro e5 w5 ⟨rfl, hb5⟩
                have H5 : Hid (RfX (fun k => k = g ∨ k = gc ∨ k = w.heap.size) w5 g tr M ∧ CnAt w5 gc ⟨na, ns, no, ny, nf⟩ ∧ Chg Z w5 (fun k => k = g ∨ k = gc)) := hide ⟨H4.out.1.below hb5, H4.out.2.1.below hb5, H4.out.2.2.belowed hb5⟩
                clear hb5
                obtain ⟨j0, j1, j2, j3, j4, jf⟩ := H5.out.2.1
                have jf3 := jf 3 (by omega)
                dsimp only at j3
                clear jf
                go_wp2
                go_roundw
                case rel =>
                  refine ⟨j + 1, by omega, by go_num, hide ?_⟩
                  rw [HNX.out, HRES.out]
                  exact ⟨H5.out.1.grown (grown_set _ _ _ _) (.inr (.inl rfl)) HZ.out.2.2.2.2.1, H5.out.2.1.s3, H5.out.2.2.set _ (.inl (.inr rfl))⟩
                case measure => simp [intOf]; omega
          · obtain ⟨o, hf⟩ : ∃ o, fnd M i = some o := Option.isSome_iff_exists.1 hb
            rw [hf, Option.getD_some] at hu
            subst hu
            by_cases hux : o = ⟨t, i, q, s, en, nn⟩
            · have hres : putP M ⟨na, ns, no, ny, nf⟩ ⟨t, i, q, s, en, nn⟩ = (M, ⟨na, ns + 1, no, ny, nf⟩) := by
                unfold putP
                simp only [hf, if_pos hux]
              have HRES := hide hres
              rw [decide_eq_true hux] at heq
              subst hux
              clear hres hf hb
              dsimp only at *
              go_wp2
              go_roundw
              case rel =>
                refine ⟨j + 1, by omega, by go_num, hide ?_⟩
                rw [HNX.out, HRES.out]
                exact ⟨H4.out.1.grown (grown_set _ _ _ _) (.inr (.inl rfl)) HZ.out.2.2.2.2.1, H4.out.2.1.s1, H4.out.2.2.set _ (.inl (.inr rfl))⟩
              case measure => simp [intOf]; omega
            · have hres : putP M ⟨na, ns, no, ny, nf⟩ ⟨t, i, q, s, en, nn⟩ = (M, ⟨na, ns, no + 1, ny, nf⟩) := by
                unfold putP
                simp only [hf, if_neg hux]
              have HRES := hide hres
              have hoi := (fnd_mem hf).2
              obtain ⟨t', i', p', s', e', nm'⟩ := o
              dsimp only at *
              subst hoi
              have hbe : t' ≠ t ∨ (t' = t ∧ p' ≠ q) ∨ (t' = t ∧ p' = q ∧ s' ≠ s) ∨ (t' = t ∧ p' = q ∧ s' = s ∧ e' ≠ en) ∨ (t' = t ∧ p' = q ∧ s' = s ∧ e' = en ∧ nm'.toList ≠ nn.toList) := by
                have hb := sp_beq ⟨t', i', p', s', e', nm'⟩ ⟨t, i', q, s, en, nn⟩
                rw [decide_eq_false hux] at hb
                by_cases h1 : t' = t
                · by_cases h2 : p' = q
                  · by_cases h3 : s' = s
                    · by_cases h4 : e' = en
                      · refine .inr (.inr (.inr (.inr ⟨h1, h2, h3, h4, fun h5 => ?_⟩)))
                        simp [h1, h2, h3, h4, h5] at hb
                      · exact .inr (.inr (.inr (.inl ⟨h1, h2, h3, h4⟩)))
                    · exact .inr (.inr (.inl ⟨h1, h2, h3⟩))
                  · exact .inr (.inl ⟨h1, h2⟩)
                · exact .inl h1
              clear hres hf hb hux heq
              rcases hbe with h1 | ⟨rfl, h1⟩ | ⟨rfl, rfl, h1⟩ | ⟨rfl, rfl, rfl, h1⟩ | ⟨rfl, rfl, rfl, rfl, h1⟩
              all_goals
                go_wp2
                go_roundw
                case rel =>
                  refine ⟨j + 1, by omega, by go_num, hide ?_⟩
                  rw [HNX.out, HRES.out]
                  exact ⟨H4.out.1.grown (grown_set _ _ _ _) (.inr (.inl rfl)) HZ.out.2.2.2.2.1, H4.out.2.1.s2, H4.out.2.2.set _ (.inl (.inr rfl))⟩
                case measure => simp [intOf]; omega
        · have hjl : j = l.length := by omega
          subst hjl
          have hf : (putsP L cn0 l).1 = M ∧ (putsP L cn0 l).2 = C := by
            have := HMC.out
            rwa [List.take_length] at this
          have hgl := HZ.out.2.2.2.2.2
          have hrw : wr.heap[w.heap.size]? = some (.cells #[.int .i64 0, .int .i64 0, .int .i64 0, .int .i64 0, .int .i64 0] 40) := (HJ.out.2.2.block w.heap.size (by omega) (by
            have : g < w.heap.size := lt_of_cell c0
            omega)).trans HZ.out.2.2.1
          obtain ⟨k0, k1, k2, k3, k4, kf⟩ := HJ.out.2.1
          have hchg : Chg w wr (fun i => i = g) := (Chg.of_below HZ.out.2.1 (fun i => i = g)).trans HJ.out.2.2 (fun i hi => by
            rcases hi with h1 | h1
            · exact .inl h1
            · exact .inr (by omega))
          have hrf := HJ.out.1
          have cb0 := cell_of_row wr w.heap.size 0 _ 40 (0, 0) hrw
          have cb1 := cell_of_row wr w.heap.size 1 _ 40 (0, 0) hrw
          have cb2 := cell_of_row wr w.heap.size 2 _ 40 (0, 0) hrw
          have cb3 := cell_of_row wr w.heap.size 3 _ 40 (0, 0) hrw
          have cb4 := cell_of_row wr w.heap.size 4 _ 40 (0, 0) hrw
          have cf0 := frozen_of_row wr w.heap.size 0 _ 40 hrw
          have cf1 := frozen_of_row wr w.heap.size 1 _ 40 hrw
          have cf2 := frozen_of_row wr w.heap.size 2 _ 40 hrw
          have cf3 := frozen_of_row wr w.heap.size 3 _ 40 hrw
          have cf4 := frozen_of_row wr w.heap.size 4 _ 40 hrw
          have HRW := hide hrw
          have HFN := hide (And.intro hrf (And.intro hchg hf))
          have hneg : w.heap.size ≠ g := by
            have : g < w.heap.size := lt_of_cell c0
            omega
          have HNEG := hide hneg
          clear hf hrw hrf hchg kf hsn hgl hokj hneg
          go_wp2
          refine bodyPost_ret (v := .tuple #[cnV C, .int .i64 0]) (by
            have q5 := five_set HRW.out (.int .i64 (C.add : Nat)) (.int .i64 (C.same : Nat)) (.int .i64 (C.other : Nat)) (.int .i64 (C.cyc : Nat)) (.int .i64 (C.full : Nat))
            generalize (((((wr.setCell ⟨w.heap.size, 0, none⟩ (.int .i64 (C.add : Nat))).setCell ⟨w.heap.size, 1, none⟩ (.int .i64 (C.same : Nat))).setCell ⟨w.heap.size, 2, none⟩ (.int .i64 (C.other : Nat))).setCell ⟨w.heap.size, 3, none⟩ (.int .i64 (C.cyc : Nat))).setCell ⟨w.heap.size, 4, none⟩ (.int .i64 (C.full : Nat))) = W9 at q5 ⊢
            have m0 := cell_of_row W9 w.heap.size 0 _ 40 (0, 0) q5
            have m1 := cell_of_row W9 w.heap.size 1 _ 40 (0, 0) q5
            have m2 := cell_of_row W9 w.heap.size 2 _ 40 (0, 0) q5
            have m3 := cell_of_row W9 w.heap.size 3 _ 40 (0, 0) q5
            have m4 := cell_of_row W9 w.heap.size 4 _ 40 (0, 0) q5
            have hz9 : w.heap.size < W9.heap.size := by have := (Array.getElem?_eq_some_iff.1 q5).1; exact this
            clear q5
            unfold cnV
            simp at m0 m1 m2 m3 m4
            simp [results, Tryz.results35, go_sem, m0, m1, m2, m3, m4, hz9, cn0]) rfl ⟨by unfold addV; rw [if_pos HALL.out.1, HFN.out.2.2.2], ?_, ?_⟩
          · rw [addP, if_pos HALL.out.1, HFN.out.2.2.1]
            exact (((((HFN.out.1.grown (grown_set _ _ _ _) (.inr (.inr rfl)) HNEG.out).grown (grown_set _ _ _ _) (.inr (.inr rfl)) HNEG.out).grown (grown_set _ _ _ _) (.inr (.inr rfl)) HNEG.out).grown (grown_set _ _ _ _) (.inr (.inr rfl)) HNEG.out).grown (grown_set _ _ _ _) (.inr (.inr rfl)) HNEG.out).weak (fun k hk => .inl hk)
          · exact five_chg HFN.out.2.1 (.inr (Nat.le_refl w.heap.size)) (.int .i64 (C.add : Nat)) (.int .i64 (C.same : Nat)) (.int .i64 (C.other : Nat)) (.int .i64 (C.cyc : Nat)) (.int .i64 (C.full : Nat))
end Go.Proofs.YtfedkjaollioaaaGreat
