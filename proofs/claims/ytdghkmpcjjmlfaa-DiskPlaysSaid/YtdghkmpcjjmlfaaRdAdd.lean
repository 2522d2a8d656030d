/- The document's disk: an act is added. -/
import Derived.Test.YtdghkmpcjjmlfaaRdFall
namespace Go.Proofs.Ytdghkmpcjjmlfaa
set_option linter.unusedVariables false
set_option linter.unusedSimpArgs false
open Go.RowKit

theorem RPost.after {w W w' : World} {Z R R' : Nat → Prop} {g : Nat} {st : Dk} (h : RPost W Z R' g st w') (hc : Chg w W R) (hR : ∀ i, R' i → R i ∨ w.heap.size ≤ i) : RPost w Z R g st w' := by
  obtain ⟨R2, h1, h2, h3⟩ := h
  refine ⟨R2, h1, hc.trans h2 hR, fun i hi => ?_⟩
  rcases h3 i hi with h | h
  · exact hR i h
  · exact .inr (Nat.le_trans hc.size h)
theorem acs_one (w : World) (y : Ac) : Acs (w.alloc (.cells #[.int .i64 y.k, .string y.s, .string y.t, .int .i64 y.a, .slice y.p y.n y.c] 66)) (.slice (some ⟨w.heap.size, 0, none⟩) 1 1) [y] := by
  refine ⟨some ⟨w.heap.size, 0, none⟩, 1, rfl, Nat.le_refl _, by unfold maxLen; omega, (fun h => by cases h), fun _ => ⟨w.heap.size, 0, rfl, fun i x hi k u hk => ?_⟩⟩
  match i, hi with
  | 0, hi =>
    simp at hi
    subst hi
    rw [cell_of_row _ w.heap.size _ _ 66 (0, 0) (heap_alloc_new w _)]
    simpa [acC] using hk
  | (j + 1), hi => simp at hi
theorem run_pushA {w : World} {v u : Value} {l : List Ac} {y : Ac} (h : OwnAc 0 w v l) (hu : Acs w u [y]) (hs : l.length ≤ 1000000) :
    ∃ v' w', (Builtin.append_ #[58, 58] 58 #[v, u]).run Try.prog w = .ok v' w' ∧ OwnAc 0 w' v' (l ++ [y]) ∧ w.grownBy w' v.ownBlock ∧ (v'.ownBlock = v.ownBlock ∨ ∃ k, w.heap.size ≤ k ∧ v'.ownBlock = some k) := by
  obtain ⟨i0, hi0, hz0, hz1, hz2⟩ := info_parts Try.infoAc
  obtain ⟨p, n, c, rfl⟩ := hu.sl
  have hn := hu.len.1
  obtain ⟨g, o, rfl, hx⟩ := hu.at_ (by rw [hn]; simp)
  obtain ⟨v', w', hr, h1, h2, _, h4⟩ := run_append_own_at (P := Try.prog) w 0 58 58 66 i0 _ 5 72 Try.underlying58 hi0 hz0 hz1 hz2 rfl (by decide) v l.length (l.flatMap acC) h ⟨g, o, none⟩ n c ([y].flatMap acC) (by rw [hn]; rfl)
    (fun j u hj => by
      obtain ⟨x, hxj, hk⟩ := aflat_get2 hj
      have := hx (j / 5) x hxj (j % 5) u hk
      rw [show o + j / 5 * 5 + j % 5 = o + j by omega] at this
      rw [add_lit0]
      exact this)
    (fun u hu => by
      obtain ⟨x, _, hx⟩ := List.mem_flatMap.1 hu
      exact acC_one x u hx) (by simp only [maxLen, hn]; simp; omega) (by rw [hn]; simp; omega) (Nat.zero_le _)
  refine ⟨v', w', hr, ?_, h2, ?_⟩
  · unfold OwnAc
    rw [List.flatMap_append, List.length_append, ← hn]
    exact h1
  · rcases h4 with h4 | h4
    · exact .inl h4
    · exact .inr ⟨_, Nat.le_refl _, h4⟩
theorem step_pushA {w : World} {ops : Array Oper} {o : Oper} {a : Act} {K : Act → World → Prop} {Q : Exit → Act → World → Prop} {E : Prop} (hgd : o.guard = none) (s x : Operand)
    (ho : o.op = .call { callee := .builtin .append, args := #[s, x], argTypes := #[58, 58] }) (hty : o.type = 58) {v u : Value} {l : List Ac} {y : Ac}
    (hs : a.eval s = v) (hx : a.eval x = u) (h : OwnAc 0 w v l) (hu : Acs w u [y]) (hn : l.length ≤ 1000000)
    (hK : ∀ v' w', OwnAc 0 w' v' (l ++ [y]) → w.grownBy w' v.ownBlock → (v'.ownBlock = v.ownBlock ∨ ∃ k, w.heap.size ≤ k ∧ v'.ownBlock = some k) → K (a.put o.dst v') w') : if Region.wanted o (yielded ops a.tmps) = true then Oper.wp Try.prog o a w K Q else E := by
  have hw : Region.wanted o (yielded ops a.tmps) = true := by simp [Region.wanted, hgd]
  obtain ⟨v', w', hr, h1, h2, h3⟩ := run_pushA h hu hn
  rw [if_pos hw]
  exact Lib.wp_append_run_sl w s x 58 ho v u hs hx (by rw [hty]; exact hr) (hK v' w' h1 h2 h3)

set_option maxRecDepth 200000 in
set_option maxHeartbeats 8000000 in
theorem radd_any {w : World} {Z R : Nat → Prop} {g : Nat} {st : Dk} (h : RdIs w Z R g st) {d : Deed} (ok : (st.act d).Ok) (hmany : st.acts.length < 1000000) (hfu : (st.fn : Int) ≤ 9223372036854775807) {e : Ac} (he : Ae w (fun i => Z i ∨ R i) e d)
    (hk : st.keep ≤ 9223372036854775807) (hk' : -9223372036854775808 ≤ st.keep) (ht : st.tear ≤ 9223372036854775807) (ht' : -9223372036854775808 ≤ st.tear) :
    Calls Try.prog 33 #[.pointer (some ⟨g, 0, none⟩), acV e] w fun r w' => r = .returned (.int .i64 ((st.perf d).1 : Nat)) ∧ RPost w Z R g (st.perf d).2 w' := by
  have h9 := h
  obtain ⟨vl, va, kp, tr, hh, hkt, hl, E, ho, hd, hra⟩ := h.parts
  obtain ⟨pa, na, ca, rfl⟩ := ho.acs.sl
  have hEl : E.length ≤ 1000000 := by have := hd.1; omega
  obtain ⟨ek, es, et, ea, ep, en, ec⟩ := e
  obtain ⟨W, hW⟩ : ∃ W, W = w.alloc (.cells #[.int .i64 ek, .string es, .string et, .int .i64 ea, .slice ep en ec] 66) := ⟨_, rfl⟩
  have hcW : Chg w W (fun _ => False) := hW ▸ chgA _ _
  have hgW : g < W.heap.size := Nat.lt_of_lt_of_le hh.lt hcW.size
  have hbx : W.heap[w.heap.size]? = some (.cells #[.int .i64 ek, .string es, .string et, .int .i64 ea, .slice ep en ec] 66) := hW ▸ heap_alloc_new w _
  have hhW := hh.chg hcW fun h => h
  have hoW := row_chg ho hcW fun _ _ h => h
  -- the world behind the slice literal
  have H2 := hide (show ∀ V, Below W.heap.size W V → V.cell? ⟨g, 2, none⟩ = some (.slice pa na ca) ∧ V.frozen? ⟨g, 2, none⟩ = false ∧ OwnAc 0 V (.slice pa na ca) E from fun V hV => by
    have hcV : Chg W V (fun _ => False) := Chg.of_below hV _
    have hr := hhW.chg hcV fun h => h
    exact ⟨hr.c2, hr.fr 2, row_chg hoW hcV fun _ _ h => h⟩)
  have b0 := cell_of_row W w.heap.size 0 _ 66 (0, 0) hbx
  have b1 := cell_of_row W w.heap.size 1 _ 66 (0, 0) hbx
  have b2 := cell_of_row W w.heap.size 2 _ 66 (0, 0) hbx
  have b3 := cell_of_row W w.heap.size 3 _ 66 (0, 0) hbx
  have b4 := cell_of_row W w.heap.size 4 _ 66 (0, 0) hbx
  have HAO := hide (acs_one W ⟨ek, es, et, ea, ep, en, ec⟩)
  have HBL := hide (bel_al W (.cells #[.int .i64 ek, .string es, .string et, .int .i64 ea, .slice ep en ec] 66))
  obtain ⟨k1, kf1, _⟩ := H2.out W (Below.refl _ _)
  obtain ⟨k1d, _, _⟩ := H2.out W.drew (bel_drewN (Below.refl _ _) 1)
  obtain ⟨k1e, _, _⟩ := H2.out _ HBL.out
  obtain ⟨k1f, _, _⟩ := H2.out _ (bel_drewN HBL.out 1)
  have hva : ∀ k, (Value.slice pa na ca).ownBlock = some k → R k ∧ k ≠ g := hra
  have HVA := hide hva
  have HEL := hide hEl
  have HUP : Hid (∀ (V1 V2 : World) (p' : Option Addr) (n' c' : Nat), Below W.heap.size W V1 → OwnAc 0 V2 (.slice p' n' c') (E ++ [⟨ek, es, et, ea, ep, en, ec⟩]) → V1.grownBy V2 (Value.slice pa na ca).ownBlock → ((Value.slice p' n' c').ownBlock = (Value.slice pa na ca).ownBlock ∨ ∃ k, V1.heap.size ≤ k ∧ (Value.slice p' n' c').ownBlock = some k) →
      V2.cell? ⟨g, 2, none⟩ = some (.slice pa na ca) ∧ V2.frozen? ⟨g, 2, none⟩ = false ∧ ∃ R' : Nat → Prop, Chg w (V2.setCell ⟨g, 2, none⟩ (.slice p' n' c')) R ∧ (∀ i, R' i → R i ∨ w.heap.size ≤ i) ∧ (∀ i, R i → R' i) ∧ (∀ i, R' i → ¬ Z i) ∧ (∀ i, R' i → i < (V2.setCell ⟨g, 2, none⟩ (.slice p' n' c')).heap.size) ∧
        Rh (V2.setCell ⟨g, 2, none⟩ (.slice p' n' c')) g st vl (.slice p' n' c') kp tr ∧ Fil (V2.setCell ⟨g, 2, none⟩ (.slice p' n' c')) (fun i => Z i ∨ R' i) vl st.last ∧ ActR (V2.setCell ⟨g, 2, none⟩ (.slice p' n' c')) (fun i => Z i ∨ R' i) (fun i => R' i ∧ i ≠ g) (.slice p' n' c') (st.acts ++ [d])) := hide fun V1 V2 p' n' c' hV1 ho2 hg2 hbk => by
    have hc1 : Chg w V1 (fun _ => False) := hcW.trans (Chg.of_below hV1 _) fun _ h => .inl h
    have hgne : (Value.slice pa na ca).ownBlock ≠ some g := fun e => (hva g e).2 rfl
    have hc2 : Chg V1 V2 (fun i => (Value.slice pa na ca).ownBlock = some i) := Chg.of_grown hg2 _ fun k hk => .inl hk
    have hc12 : Chg w V2 (fun i => (Value.slice pa na ca).ownBlock = some i) := (hc1.mono fun _ h => h.elim).trans hc2 fun _ h => .inl h
    have hr2 := hh.chg hc12 hgne
    have hcs := rchg_set V2 g 2 (.slice p' n' c')
    have hw1 : w.heap.size ≤ V1.heap.size := hc1.size
    have hca : Chg w (V2.setCell ⟨g, 2, none⟩ (.slice p' n' c')) (fun i => i = g ∨ (Value.slice pa na ca).ownBlock = some i) := (hc12.mono fun _ h => .inr h).trans hcs fun _ h => .inl (.inl h)
    have hTR : ∀ i, (i = g ∨ (Value.slice pa na ca).ownBlock = some i) → R i := fun i hi => hi.elim (fun h => h ▸ h9.in_) fun h => (hva i h).1
    have hsz : V2.heap.size ≤ (V2.setCell ⟨g, 2, none⟩ (.slice p' n' c')).heap.size := hcs.size
    have hlt2 : ∀ k, (Value.slice p' n' c').ownBlock = some k → k < V2.heap.size := fun k hk => (ho2.lt k hk).2
    have hY : ∀ i, (Z i ∨ (R i ∨ (Value.slice p' n' c').ownBlock = some i)) → (Z i ∨ R i) ∨ w.heap.size ≤ i := fun i hi => by
      rcases hi with hi | hi | hi
      · exact .inl (.inl hi)
      · exact .inl (.inr hi)
      · rcases hbk with hb | ⟨k, hk, hb⟩
        · rw [hb] at hi
          exact .inl (.inr (hva i hi).1)
        · rw [hb] at hi
          injection hi with hi
          exact .inr (by omega)
    refine ⟨hr2.c2, hr2.fr 2, fun i => R i ∨ (Value.slice p' n' c').ownBlock = some i, hca.mono hTR, fun i hi => ?_, fun i hi => .inl hi, fun i hi hz => ?_, fun i hi => ?_, ?_, (hl.re hY).chg hca fun i hi => .inr (.inl (hTR i hi)), E ++ [(⟨ek, es, et, ea, ep, en, ec⟩ : Ac)], row_chg ho2 hcs fun k hk e => ?_, ((hd.push he).re hY).chg hca fun i hi => .inr (.inl (hTR i hi)), fun k hk => ⟨.inr hk, fun e => ?_⟩⟩
    · rcases hY i (.inr hi) with (h | h) | h
      · rcases hi with hi | hi
        · exact .inl hi
        · rcases hbk with hb | ⟨k, hk, hb⟩
          · rw [hb] at hi
            exact .inl (hva i hi).1
          · rw [hb] at hi
            injection hi with hi
            exact .inr (by omega)
      · exact .inl h
      · exact .inr h
    · rcases hi with hi | hi
      · exact h9.sep i hi hz
      · rcases hbk with hb | ⟨k, hk, hb⟩
        · rw [hb] at hi
          exact h9.sep i (hva i hi).1 hz
        · rw [hb] at hi
          injection hi with hi
          have := h9.zap i hz
          omega
    · rcases hi with hi | hi
      · have := h9.rap i hi
        have := hca.size
        omega
      · exact Nat.lt_of_lt_of_le (hlt2 i hi) hsz
    · unfold Rh
      rw [hr2.set 2]
      unfold rdC
      simp only [List.setIfInBounds_toArray, List.set_cons_succ, List.set_cons_zero]
    · subst e
      rcases hbk with hb | ⟨k', hk', hb⟩
      · rw [hb] at hk
        exact (hva k hk).2 rfl
      · rw [hb] at hk
        injection hk with hk
        have := hh.lt
        omega
    · subst e
      rcases hbk with hb | ⟨k', hk', hb⟩
      · rw [hb] at hk
        exact (hva k hk).2 rfl
      · rw [hb] at hk
        injection hk with hk
        have := hh.lt
        omega
  have hst : ∀ (W3 : World) (R' : Nat → Prop) (p' : Option Addr) (n' c' : Nat) (V : World), Chg w V R → (∀ i, R' i → R i ∨ w.heap.size ≤ i) → (∀ i, R i → R' i) → (∀ i, R' i → ¬ Z i) → (∀ i, R' i → i < V.heap.size) → Fil V (fun i => Z i ∨ R' i) vl st.last → ActR V (fun i => Z i ∨ R' i) (fun i => R' i ∧ i ≠ g) (.slice p' n' c') (st.acts ++ [d]) → Chg V W3 (fun i => i = g) → Rh W3 g { st with fn := st.fn - 1 } vl (.slice p' n' c') kp tr → RdIs W3 Z R' g (st.act d) ∧ Chg w W3 R := fun W3 R' p' n' c' V hc hR1 hR2 hR3 hR4 hf ha hc3 hr3 => by
    have hgR : R' g := hR2 g h9.in_
    have hca := hc.trans hc3 fun i hi => .inl (hi ▸ h9.in_)
    refine ⟨⟨hgR, fun i hi => Nat.lt_of_lt_of_le (hR4 i hi) hc3.size, fun i hi => Nat.lt_of_lt_of_le (h9.zap i hi) hca.size, hR3, vl, .slice p' n' c', kp, tr, hr3, ?_, hf.chg hc3 fun i hi => .inr (hi ▸ hgR), ha.chg hc3 (fun i hi => .inr (hi ▸ hgR)) fun i hi => hi.2⟩, hca⟩
    rcases hkt with h | h
    · exact .inl (by show st.fn - 1 = 0; omega)
    · exact .inr h
  have HST := hide hst
  have HKT := hide hkt
  have HOK := hide ok
  clear hst hkt ok he hra hva hd ho hl hh h9 h hhW hoW hbx hEl
  unfold acV
  dsimp only
  have hW9 := hW.symm
  clear hW
  go_enter Try.func33, Try.ntmps33
  go_wp2_with fail
  rename_i K hK
  go_region_law (refine step_pushA (by rfl) _ _ (by rfl) (by rfl) (v := .slice pa na ca) (u := .slice (some ⟨W.heap.size, 0, none⟩) 1 1) (l := E) (y := ⟨ek, es, et, ea, ep, en, ec⟩) (by rfl) (by rfl) (H2.out _ (by first | exact HBL.out | exact bel_drewN HBL.out 1)).2.2 HAO.out HEL.out ?_; intro v5 V5 ho5 hg5 hb5; obtain ⟨p5, n5, c5, rfl⟩ := ho5.acs.sl; have HU := hide (HUP.out _ _ _ _ _ (by first | exact HBL.out | exact bel_drewN HBL.out 1) ho5 hg5 hb5); obtain ⟨x2, xf2, _⟩ := HU.out; clear ho5 hg5 hb5)
  all_goals
    refine hK _ _ ?_
    clear hK
    obtain ⟨_, _, R', u1, u2, u3, u4, u5, u6, u7, u8⟩ := HU.out
    have HHIT := hide (rhit_any u6 hfu)
    have HU2 := hide (fun W3 hc3 hr3 => HST.out W3 R' _ _ _ _ u1 u2 u3 u4 u5 u7 u8 hc3 hr3)
    have HU3 := hide u2
    clear x2 xf2 u1 u2 u3 u4 u5 u6 u7 u8 HU HUP H2 k1 kf1 k1d k1e k1f b0 b1 b2 b3 b4 HST hW9
    go_wp2_with fail
    refine HHIT.out.mono ?_
    rintro r w3 ⟨rfl, hr3, hc3⟩
    obtain ⟨hD3, hc03⟩ := HU2.out _ hc3 hr3
    by_cases hfn : st.fn = 1
    · rw [show (st.fn == 1) = true from beq_iff_eq.2 hfn]
      have hkp : kp = st.keep ∧ tr = st.tear := by
        rcases HKT.out with h | h
        · omega
        · exact h
      obtain ⟨hkp1, hkp2⟩ := hkp
      have z5 := hr3.c5
      have z6 := hr3.c6
      rw [hkp1] at z5
      rw [hkp2] at z6
      have hDd : RdIs w3.drew Z R' g (st.act d) := hD3.chg (T := fun _ => False) (Z' := Z) ((Chg.refl w3 _).drewN 1) (fun _ h => h.elim) fun i hi => .inl hi
      have hcd : Chg w w3.drew R := hc03.drewN 1
      have HFD := hide (show Calls Try.prog 36 #[.pointer (some ⟨g, 0, none⟩), .int .i64 st.keep, .int .i64 st.tear] w3.drew fun e w' => e = .returned (.tuple #[]) ∧ RPost w Z R g ((st.act d).fall st.keep st.tear) w' from
        (rfall_any hDd HOK.out hk hk' ht ht').mono fun e w' hp => ⟨hp.1, hp.2.after hcd HU3.out⟩)
      have e1 : st.perf d = (22, (st.act d).fall st.keep st.tear) := by unfold Dk.perf; rw [if_pos hfn]
      have E1 := hide e1
      clear hD3 hDd hcd hc03 hr3 hc3 e1 hkp1 hkp2 hfn HHIT HU2
      go_wp2_with fail
      go_region_law (go_simp; refine HFD.out.mono ?_; rintro r w4 ⟨rfl, hp4⟩; have HP4 := hide hp4; clear hp4)
      all_goals
        go_wp2
        go_ret
        rw [E1.out]
        exact ⟨rfl, HP4.out⟩
    · rw [show (st.fn == 1) = false from beq_eq_false_iff_ne.2 hfn]
      have e1 : st.perf d = (0, st.act d) := by unfold Dk.perf; rw [if_neg hfn]
      have E1 := hide e1
      have HX := hide (show RPost w Z R g (st.act d) w3 from ⟨R', hD3, hc03, HU3.out⟩)
      clear hD3 hc03 hr3 hc3 e1 HHIT HU2
      go_wp2
      go_ret
      rw [E1.out]
      exact ⟨rfl, HX.out⟩
end Go.Proofs.Ytdghkmpcjjmlfaa
