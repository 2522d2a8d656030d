/- Add: the whole post. -/
import Derived.Test.YtmalhdiholblgaaLWh
import Derived.Test.YtmalhdiholblgaaLRefM
namespace Go.Proofs.Ytmalhdiholblgaa
set_option linter.unusedVariables false
set_option linter.unusedSimpArgs false
open Go.RowKit

theorem LgRow.added {B B5 : Nat} {w w5 V9 : World} {g : Nat} {x : Lg} {p0 : Option Addr} {n0 c0 : Nat} {E0 : List Ec} {v5 : Value} {E5 : List Ec} {L : List En} {p9 : Option Addr} {n9 c9 : Nat} (hr : LgRow B w g x (.slice p0 n0 c0) E0) (hb : Below w.heap.size w w5) (hw : w.heap.size ≤ B5) (hD5 : DatO B5 w5 v5 E5 L) (hB : B ≤ w.heap.size)
    (ho9 : OwnE B V9 (.slice p9 n9 c9) (E0 ++ E5)) (hg9 : w5.grownBy V9 (Value.slice p0 n0 c0).ownBlock) (he9 : (Value.slice p9 n9 c9).ownBlock = (Value.slice p0 n0 c0).ownBlock ∨ (Value.slice p9 n9 c9).ownBlock = some w5.heap.size) (hq : goOn x.end_.1 x.end_.2 L = true) (hL : x.l.length + L.length ≤ 100000) :
    LgOwn B (V9.setCell ⟨g, 2, none⟩ (.slice p9 n9 c9)) g ⟨x.ix, x.tm, x.l ++ L⟩ ∧ Fr g w (V9.setCell ⟨g, 2, none⟩ (.slice p9 n9 c9)) := by
  have hr5 := hr.below hb
  have hgl : g < w.heap.size := lt_of_cell hr.c0
  have hlate := hD5.late (B := B) (v := .slice p0 n0 c0) (Nat.le_trans hB hw) (fun k hk => Nat.lt_of_lt_of_le (hr.own.lt k hk).2 hw)
  have hD := DatO.pushes hr5.dat hlate hg9 he9
  have hne9 : (Value.slice p9 n9 c9).ownBlock ≠ some g := by
    rcases he9 with h | h
    · rw [h]
      exact hr.ne
    · rw [h]
      intro e
      injection e with e
      have := hb.size
      omega
  have hs := hr5.swap hg9 hr.ne ho9 hD hne9 (fun e he => ?_) (hr.ok.add hq) (by rw [List.length_append]; exact hL)
  · refine ⟨hs.lg, Fr.push hr.own.ecs hs.own.ecs (fun e he => ?_) hr.c2 hb hg9 hr.ne he9⟩
    rcases List.mem_append.1 he with h | h
    · exact .inl h
    · rcases hD5.far h with h0 | ⟨k, hk, h1, _⟩
      · exact .inr (.inl h0)
      · exact .inr (.inr ⟨k, hk, Nat.le_trans hw h1⟩)
  · rcases List.mem_append.1 he with h | h
    · exact hr.nd e h
    · rcases hD5.far h with h0 | ⟨k, hk, h1, _⟩
      · exact .inl h0
      · refine .inr fun e2 => ?_
        rw [hk] at e2
        injection e2 with e2
        omega
def RetF (B g : Nat) (R : Int × Lg) (w : World) (e : Ending) (w' : World) : Prop := e = .returned (.int .i64 R.1) ∧ LgOwn B w' g R.2 ∧ Fr g w w'
theorem RetF.mk {B g : Nat} {R : Int × Lg} {w w' : World} {c : Int} {y : Lg} (hR : R = (c, y)) (h : LgOwn B w' g y ∧ Fr g w w') : RetF B g R w (.returned (.int .i64 c)) w' := by
  subst hR
  exact ⟨rfl, h.1, h.2⟩

set_option maxRecDepth 200000 in
set_option maxHeartbeats 4000000 in
theorem addOkF {B : Nat} {w : World} {g : Nat} {x : Lg} (h : LgOwn B w g x) {v : Value} {L : List En} (hv : Ens w v L) (hq : goOn x.end_.1 x.end_.2 L = true) (hf : fits x.end_.1) (hL : x.l.length + L.length ≤ 100000) (hB : B ≤ w.heap.size) : Calls Try.prog 17 #[.pointer (some ⟨g, 0, none⟩), v] w (RetF B g (0, ⟨x.ix, x.tm, x.l ++ L⟩) w) := by
  obtain ⟨p, n, c, rfl⟩ := hv.sl
  have HM := hide (made_any h.is)
  have HE := hide (end_any h.is)
  have HV := hide hv
  have HD := hide (goOn_data hq)
  have HLL := hide hL
  have HQ := hide hq
  have HBB := hide hB
  have HG := hide (fun W (hW : Below w.heap.size w W) => mayGoOn_any (tm := x.end_.2) (hv.below hW) hf)
  rw [hq] at HG
  obtain ⟨p0, n0, c0, E0, hr⟩ := h.row
  have HR := hide hr
  have k2 := hr.c2
  have hfr := hr.fr 2 (by omega)
  have hlen : E0.length + L.length ≤ 100000 := by rw [hr.dat.1]; exact hL
  have hgl : g < w.heap.size := lt_of_cell k2
  have kp : ∀ V, Below w.heap.size w V → V.cell? ⟨g, 2, none⟩ = some (.slice p0 n0 c0) ∧ V.frozen? ⟨g, 2, none⟩ = false := fun V hV => ⟨(hV.cell (lt_of_cell k2)).trans k2, (hV.frozen (p := ⟨g, 2, none⟩) hgl).trans hfr⟩
  have KEEP := hide kp
  have HE0 := hide (And.intro hr.own (And.intro hlen hr.ne))
  have HGL := hide hgl
  obtain ⟨R, hR⟩ : ∃ R : Int × Lg, ((0 : Int), (⟨x.ix, x.tm, x.l ++ L⟩ : Lg)) = R := ⟨_, rfl⟩
  rw [hR]
  have HRR := hide hR.symm
  obtain ⟨a, ha⟩ : ∃ a, x.end_.1 = a := ⟨_, rfl⟩
  obtain ⟨b, hb⟩ : ∃ b, x.end_.2 = b := ⟨_, rfl⟩
  rw [ha, hb] at HE
  rw [ha, hb] at HG
  clear h hv hq hf ha hb hL hB k2 hr hfr hlen hgl kp hR
  go_enter Try.func17, Try.ntmps17
  go_wp2_with fail
  refine HM.out.mono ?_
  rintro e w9 ⟨rfl, rfl⟩
  go_wp2_with fail
  refine HE.out.mono ?_
  rintro e w2 ⟨rfl, hb2⟩
  have HB2 := hide hb2
  clear hb2
  go_wp2_with fail
  refine (HG.out _ HB2.out).mono ?_
  rintro e w3 ⟨rfl, hb3⟩
  have HB3 := hide (HB2.out.trans (hb3.mono HB2.out.size))
  clear hb3
  obtain ⟨k2, kf⟩ := KEEP.out _ HB3.out
  have HOW := hide (fun V (hV : Below w3.heap.size w3 V) => own_any ((HV.out.below HB3.out).below hV) (by have := HLL.out; omega) HD.out)
  clear HE HG HM
  go_wp2_with fail
  go_region_law
    (first
      | (refine step_pushesE2 (by rfl) _ _ (by rfl) (by rfl) (by rfl) (by rfl) (HE0.out.1.below HBW.out) HO5.out.1.ecs (Nat.le_trans HBB.out HBW.out.size) (by have := HE0.out.2.1; have h1 := HO5.out.2.1; omega) ?_; intro v9 V9 ho9 hb9 hg9 he9; obtain ⟨p9, n9, c9, rfl⟩ := ho9.ecs.sl; have hgg : V9.cell? ⟨g, 2, none⟩ = some (.slice p0 n0 c0) := hg9.cell k5 (fun e => HE0.out.2.2 (by simpa using Eq.symm e)); have g2 : V9.frozen? ⟨g, 2, none⟩ = false := (by have hb := hg9.block g (Nat.lt_of_lt_of_le HGL.out HBW.out.size) (fun e => HE0.out.2.2 e.symm); unfold World.frozen? at f5 ⊢; simp only [hb]; exact f5); have H9 := hide (And.intro ho9 (And.intro hg9 he9)); clear ho9 hb9 hg9 he9)
      | (go_simp; (refine (HOW.out _ (by first | exact Below.refl _ _ | exact bel_drewN (Below.refl _ _) _ | exact bel_drewN (Below.refl _ _) 1)).mono ?_); rintro e w5 ⟨v5, rfl, ho5, hb5⟩; obtain ⟨E5, hE5, hD5⟩ := ho5; obtain ⟨p5, n5, c5, rfl⟩ := hE5.ecs.sl; have HO5 := hide (And.intro hE5 hD5); have HBO : Hid (Below w3.heap.size w3 w5) := hide ((bel_drewN (Below.refl _ w3) 1).trans hb5); have HBW := hide (HB3.out.trans (HBO.out.mono HB3.out.size)); have k5 := (KEEP.out _ HBW.out).1; have f5 := (KEEP.out _ HBW.out).2; clear hE5 hD5 hb5))
  all_goals
    have HZ := hide (HR.out.added (g := g) HBW.out HB3.out.size HO5.out.2 HBB.out H9.out.1 H9.out.2.1 H9.out.2.2 HQ.out HLL.out)
    go_wp2
    go_ret
    exact RetF.mk HRR.out HZ.out
theorem end_fits {x : Lg} (h : x.Ok) : fits x.end_.1 := by
  rw [Lg.end_1 h]
  have := good_le h.good
  have := end_far h
  unfold fits
  omega
theorem addF_any {B : Nat} {w : World} {g : Nat} {x : Lg} (h : LgOwn B w g x) {v : Value} {L : List En} (hv : Ens w v L) (hL : x.l.length + L.length ≤ 100000) (hB : B ≤ w.heap.size) : Calls Try.prog 17 #[.pointer (some ⟨g, 0, none⟩), v] w (RetF B g (addR x L) w) := by
  cases hq : goOn x.end_.1 x.end_.2 L
  · refine (addErr_any h.is hv hq (end_fits h.ok)).mono ?_
    rintro e w' ⟨rfl, hb⟩
    exact RetF.mk (by unfold addR; rw [if_neg (by rw [hq]; simp)]) ⟨h.below hb, Fr.of_below hb (lt_of_cell h.c0)⟩
  · have := addOkF h hv hq (end_fits h.ok) hL hB
    unfold addR
    rw [if_pos hq]
    exact this
end Go.Proofs.Ytmalhdiholblgaa
