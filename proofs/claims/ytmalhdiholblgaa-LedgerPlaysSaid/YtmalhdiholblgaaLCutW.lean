/- Cut and Rebase, where there is no error: what of the world stays. -/
import Derived.Test.YtmalhdiholblgaaLDel
namespace Go.Proofs.Ytmalhdiholblgaa
set_option linter.unusedVariables false
set_option linter.unusedSimpArgs false
open Go.RowKit

theorem OwnE.some {B : Nat} {w : World} {p : Option Addr} {n c : Nat} {E : List Ec} (h : OwnE B w (.slice p n c) E) (h0 : 0 < E.length) : n = E.length ∧ ∃ g, p = some ⟨g, 0, none⟩ := by
  obtain ⟨_, ⟨h1, h2⟩ | ⟨g', cap', cur, e, h1, h2, h3, h4, h5, h6⟩⟩ := h
  · omega
  · injection e with e1 e2 e3
    exact ⟨e2, g', e1⟩
set_option maxRecDepth 200000 in
set_option maxHeartbeats 4000000 in
theorem cutOk_any {B : Nat} {w : World} {g : Nat} {x : Lg} (h : LgOwn B w g x) {i : Int} (hq : hasI x i = true) (hB : B ≤ w.heap.size) : Calls Try.prog 10 #[.pointer (some ⟨g, 0, none⟩), .int .i64 i] w fun e w' => e = .returned (.int .i64 0) ∧ Below B w w' := by
  have HM := hide (made_any h.is)
  have HH := hide (has_any h.is i)
  have HLG := hide h
  rw [hq] at HH
  simp only [hasI, Bool.and_eq_true, decide_eq_true_eq] at hq
  obtain ⟨h1, h2⟩ := hq
  obtain ⟨k, hk⟩ : ∃ k : Nat, i - x.ix - 1 = (k : Int) := ⟨(i - x.ix - 1).toNat, by omega⟩
  have hkl : k < x.l.length := by omega
  have HPL : Hid (∀ V, Below w.heap.size w V → Calls Try.prog 30 #[.pointer (some ⟨g, 0, none⟩), .int .i64 i] V fun e w' => e = .returned (.int .i64 (k : Int)) ∧ V = w') := hide fun V hV => by
    rw [← hk]
    exact place_any (HLG.out.below hV).is i h1 h2
  have HBB := hide hB
  have HGB := hide h.hB
  obtain ⟨p0, n0, c0, E0, k2, hE0, hD0, hne, _⟩ := h.c2
  have hfr := h.fr 2 (by omega)
  have hEl := hD0.1
  obtain ⟨rfl, g2, rfl⟩ := hE0.some (by omega)
  have hgl : g < w.heap.size := lt_of_cell k2
  have hgg : g2 ≠ g := fun e => hne (by rw [e]; rfl)
  have HKEEP : Hid (∀ V, Below w.heap.size w V → V.cell? ⟨g, 2, none⟩ = some (.slice (some ⟨g2, 0, none⟩) E0.length c0) ∧ V.frozen? ⟨g, 2, none⟩ = false) := hide fun V hV => ⟨(hV.cell (lt_of_cell k2)).trans k2, (hV.frozen (p := ⟨g, 2, none⟩) hgl).trans hfr⟩
  have HDE : Hid (∀ V, Below w.heap.size w V → Calls Try.prog 29 #[.slice (some ⟨g2, 0, none⟩) E0.length c0, .int .i64 k, .int .i64 E0.length] V fun e w' => e = .returned (.slice (some ⟨g2, 0, none⟩) k c0) ∧ Below B V w' ∧ V.grownBy w' (some g2)) := hide fun V hV => deleteW_any (hE0.below hV) (by omega) (Nat.le_trans hB hV.size)
  have HGL := hide hgl
  have HGG := hide hgg
  obtain ⟨n, hn⟩ : ∃ n, E0.length = n := ⟨_, rfl⟩
  rw [hn] at HKEEP HDE
  clear h HLG h1 h2 hk hkl hB k2 hE0 hD0 hne hfr hgl hgg hEl hn
  go_enter Try.func10, Try.ntmps10
  go_wp2_with fail
  refine HM.out.mono ?_
  rintro e w9 ⟨rfl, rfl⟩
  go_wp2_with fail
  refine HH.out.mono ?_
  rintro e w2 ⟨rfl, hb2⟩
  have HB2 := hide hb2
  clear hb2
  obtain ⟨k2, kf⟩ := HKEEP.out _ HB2.out
  go_wp2_with fail
  go_region_law
    (first
      | (go_simp; refine (HPL.out _ (bel_drewN HB2.out 1)).mono ?_; rintro e w3 ⟨rfl, rfl⟩)
      | (go_simp; refine (HDE.out _ (bel_drewN HB2.out 1)).mono ?_; rintro e w5 ⟨rfl, hb5, hg5⟩; have g5 : w5.cell? ⟨g, 2, none⟩ = some (.slice (some ⟨g2, 0, none⟩) n c0) := hg5.cell k2 (fun e => HGG.out (by injection (Eq.symm e))); have f5 : w5.frozen? ⟨g, 2, none⟩ = false := (by have hb := hg5.block g (Nat.lt_of_lt_of_le HGL.out HB2.out.size) (fun e => HGG.out (by injection (Eq.symm e))); unfold World.frozen? at kf ⊢; simp only [hb]; exact kf); have H9 := hide hb5; clear hb5 hg5))
  all_goals
    have HZ : Hid (Below B w (w5.setCell ⟨g, 2, none⟩ (.slice (some ⟨g2, 0, none⟩) k c0))) := hide ((((bel_drewN HB2.out 1).mono HBB.out).trans H9.out).grown (grown_set _ _ _ _) (Nat.le_trans HBB.out (Nat.le_trans HB2.out.size H9.out.size)) fun b hb => by cases hb; exact HGB.out)
    go_wp2
    go_ret
    exact ⟨rfl, HZ.out⟩
end Go.Proofs.Ytmalhdiholblgaa
