/- Add, where there is no error: what of the world stays. -/
import Derived.Test.YtmalhdiholblgaaLErr
namespace Go.Proofs.Ytmalhdiholblgaa
set_option linter.unusedVariables false
set_option linter.unusedSimpArgs false
open Go.RowKit

theorem step_append_runE {w : World} {ops : Array Oper} {o : Oper} {a : Act} {K : Act → World → Prop} {Q : Exit → Act → World → Prop} {E : Prop} (hgd : o.guard = none) (s x : Operand)
    (ho : o.op = .call { callee := .builtin .append, args := #[s, x], argTypes := #[22, 22] }) (hty : o.type = 22) {v u v' : Value} {w' : World}
    (hs : a.eval s = v) (hx : a.eval x = u) (hr : (Builtin.append_ #[22, 22] 22 #[v, u]).run Try.prog w = .ok v' w')
    (h : K (a.put o.dst v') w') : if Region.wanted o (yielded ops a.tmps) = true then Oper.wp Try.prog o a w K Q else E := by
  have hw : Region.wanted o (yielded ops a.tmps) = true := by simp [Region.wanted, hgd]
  rw [if_pos hw]
  exact Lib.wp_append_run_sl w s x 22 ho v u hs hx (by rw [hty]; exact hr) h
theorem step_pushesE {V : World} {ops : Array Oper} {o : Oper} {a : Act} {K : Act → World → Prop} {Q : Exit → Act → World → Prop} {E : Prop} (hgd : o.guard = none) (s x : Operand)
    (ho : o.op = .call { callee := .builtin .append, args := #[s, x], argTypes := #[22, 22] }) (hty : o.type = 22) {B : Nat} {v u : Value} {l m : List Ec}
    (hs : a.eval s = v) (hx : a.eval x = u) (h : OwnE B V v l) (hu : Ecs V u m) (hB : B ≤ V.heap.size) (hn : (l.length + m.length) * 40 ≤ 140737488355328)
    (hK : ∀ v' V', OwnE B V' v' (l ++ m) → Below B V V' → V.grownBy V' v.ownBlock → K (a.put o.dst v') V') : if Region.wanted o (yielded ops a.tmps) = true then Oper.wp Try.prog o a V K Q else E := by
  obtain ⟨v', w', hr, h1, h2, h3⟩ := run_pushesE h hu hB hn
  exact step_append_runE hgd s x ho hty hs hx hr (hK v' w' h1 h2 h3)
set_option maxRecDepth 200000 in
set_option maxHeartbeats 4000000 in
theorem addOk_any {B : Nat} {w : World} {g : Nat} {x : Lg} (h : LgOwn B w g x) {v : Value} {L : List En} (hv : Ens w v L) (hq : goOn x.end_.1 x.end_.2 L = true) (hf : fits x.end_.1) (hL : L.length ≤ 100000) (hB : B ≤ w.heap.size) : Calls Try.prog 17 #[.pointer (some ⟨g, 0, none⟩), v] w fun e w' => e = .returned (.int .i64 0) ∧ Below B w w' := by
  obtain ⟨p, n, c, rfl⟩ := hv.sl
  have HM := hide (made_any h.is)
  have HE := hide (end_any h.is)
  have HV := hide hv
  have HD := hide (goOn_data hq)
  have HLL := hide hL
  have HBB := hide hB
  have HG := hide (fun W (hW : Below w.heap.size w W) => mayGoOn_any (tm := x.end_.2) (hv.below hW) hf)
  rw [hq] at HG
  obtain ⟨a, ha⟩ : ∃ a, x.end_.1 = a := ⟨_, rfl⟩
  obtain ⟨b, hb⟩ : ∃ b, x.end_.2 = b := ⟨_, rfl⟩
  rw [ha, hb] at HE
  rw [ha, hb] at HG
  have HGB := hide h.hB
  obtain ⟨p0, n0, c0, E0, k2, hE0, hD0, hne, _⟩ := h.c2
  have hfr := h.fr 2 (by omega)
  have hlen : E0.length ≤ 100000 := by rw [hD0.1]; exact h.few
  have hgl : g < w.heap.size := lt_of_cell k2
  have kp : ∀ V, Below w.heap.size w V → V.cell? ⟨g, 2, none⟩ = some (.slice p0 n0 c0) ∧ V.frozen? ⟨g, 2, none⟩ = false := fun V hV => ⟨(hV.cell (lt_of_cell k2)).trans k2, (hV.frozen (p := ⟨g, 2, none⟩) hgl).trans hfr⟩
  have KEEP := hide kp
  have HE0 := hide (And.intro hE0 (And.intro hlen hne))
  have HGL := hide hgl
  clear h hv hq hf ha hb hL hB k2 hE0 hD0 hne hfr hlen hgl kp
  go_enter Try.func17, Try.ntmps17
  go_wp2_with fail
  refine HM.out.mono ?_
  rintro e w9 ⟨rfl, rfl⟩
  go_wp2_with fail
  refine HE.out.mono ?_
  rintro e w2 ⟨rfl, hb2⟩
  have HB2 := hide hb2
  clear hb2
  go_wp2_with fail
  refine (HG.out _ HB2.out).mono ?_
  rintro e w3 ⟨rfl, hb3⟩
  have HB3 := hide (HB2.out.trans (hb3.mono HB2.out.size))
  clear hb3
  obtain ⟨k2, kf⟩ := KEEP.out _ HB3.out
  have HOW := hide (fun V (hV : Below w3.heap.size w3 V) => own_any ((HV.out.below HB3.out).below hV) HLL.out HD.out)
  clear HE HG HM
  go_wp2_with fail
  go_region_law
    (first
      | (refine step_pushesE (by rfl) _ _ (by rfl) (by rfl) (by rfl) (by rfl) (HE0.out.1.below HBW.out) HO5.out.1.ecs (Nat.le_trans HBB.out HBW.out.size) (by have := HE0.out.2.1; have h1 := HO5.out.2.1; have h2 := HLL.out; omega) ?_; intro v9 V9 ho9 hb9 hg9; obtain ⟨p9, n9, c9, rfl⟩ := ho9.ecs.sl; have hgg : V9.cell? ⟨g, 2, none⟩ = some (.slice p0 n0 c0) := hg9.cell k5 (fun e => HE0.out.2.2 (by simpa using Eq.symm e)); have g2 : V9.frozen? ⟨g, 2, none⟩ = false := (by have hb := hg9.block g (Nat.lt_of_lt_of_le HGL.out HBW.out.size) (fun e => HE0.out.2.2 e.symm); unfold World.frozen? at f5 ⊢; simp only [hb]; exact f5); have H9 := hide (And.intro ho9 hb9); clear ho9 hb9 hg9)
      | (go_simp; (refine (HOW.out _ (by first | exact Below.refl _ _ | exact bel_drewN (Below.refl _ _) _ | exact bel_drewN (Below.refl _ _) 1)).mono ?_); rintro e w5 ⟨v5, rfl, ho5, hb5⟩; obtain ⟨E5, hE5, hD5⟩ := ho5; obtain ⟨p5, n5, c5, rfl⟩ := hE5.ecs.sl; have HO5 := hide (And.intro hE5 hD5); have HBO : Hid (Below w3.heap.size w3 w5) := hide ((bel_drewN (Below.refl _ w3) 1).trans hb5); have HBW := hide (HB3.out.trans (HBO.out.mono HB3.out.size)); have k5 := (KEEP.out _ HBW.out).1; have f5 := (KEEP.out _ HBW.out).2; clear hE5 hD5 hb5))
  all_goals
    have HZ : Hid (Below B w (V9.setCell ⟨g, 2, none⟩ (.slice p9 n9 c9))) := hide (((HBW.out.mono HBB.out).trans H9.out.2).grown (grown_set _ _ _ _) (Nat.le_trans HBB.out (Nat.le_trans HBW.out.size H9.out.2.size)) fun b hb => by cases hb; exact HGB.out)
    go_wp2
    go_ret
    exact ⟨rfl, HZ.out⟩
end Go.Proofs.Ytmalhdiholblgaa
