/- Cut: the whole post. -/
import Derived.Test.YtmalhdiholblgaaLAddF
namespace Go.Proofs.Ytmalhdiholblgaa
set_option linter.unusedVariables false
set_option linter.unusedSimpArgs false
open Go.RowKit

theorem ownE_spare {B g cap k : Nat} {E : List Ec} (hk : E.length = k) : ∀ (vs : List Value) (j : Nat) {w : World}, k * 3 ≤ j → OwnE B w (.slice (some ⟨g, 0, none⟩) k cap) E → OwnE B (w.setCells g j vs) (.slice (some ⟨g, 0, none⟩) k cap) E
  | [], _, _, _, h => h
  | u :: vs, j, w, hj, h => by
    refine ownE_spare hk vs (j + 1) (by omega) ?_
    obtain ⟨hl, ⟨h1, _⟩ | ⟨g', cap', cur, e, h1, h2, h3, h4, h5, h6⟩⟩ := h
    · cases h1
    · injection e with e1 e2 e3
      injection e1 with e1
      injection e1 with e1 _ _
      subst e1 e3
      refine ⟨hl, .inr ⟨g, cap, cur.setIfInBounds j u, by rw [hk], h1, Go.heap_setCell_same w g j cur _ u h2, h3, h4, by rw [Array.size_setIfInBounds]; exact h5, ?_⟩⟩
      rw [Array.toList_setIfInBounds, List.take_set_of_le (by rw [hk]; exact hj)]
      exact h6
set_option maxRecDepth 200000 in
set_option maxHeartbeats 4000000 in
theorem deleteF_any {B : Nat} {w : World} {g cap : Nat} {E : List Ec} (h : OwnE B w (.slice (some ⟨g, 0, none⟩) E.length cap) E) {k : Nat} (hk : k < E.length) (hB : B ≤ w.heap.size) : Calls Try.prog 29 #[.slice (some ⟨g, 0, none⟩) E.length cap, .int .i64 k, .int .i64 E.length] w fun e w' => e = .returned (.slice (some ⟨g, 0, none⟩) k cap) ∧ w.grownBy w' (some g) ∧ OwnE B w' (.slice (some ⟨g, 0, none⟩) k cap) (E.take k) := by
  obtain ⟨r1, r2, r3, r4, r5⟩ := h.room
  have hpre := h.front (Nat.le_of_lt hk)
  have hsp := ownE_spare (by rw [List.length_take]; omega) (Builtin.zeroCells #[.int .i64 0, .int .i64 0, .slice none 0 0] (E.length - k)).toList (k * 3) (Nat.le_refl _) (World.ownsRow.drew hpre)
  obtain ⟨n, hn⟩ : ∃ n, E.length = n := ⟨_, rfl⟩
  rw [hn] at hk r2 hsp ⊢
  have HAP : Hid (∀ p c, (Builtin.append_ #[22, 22] 22 #[.slice (some ⟨g, 0, none⟩) k cap, .slice p 0 c]).run Try.prog w.drew = .ok (.slice (some ⟨g, 0, none⟩) k cap) w.drew) := hide fun p c => run_pushE_none (World.ownsRow.drew hpre) p c
  have HCL : Hid (∀ ty c, (Builtin.clear_ #[22] ty #[.slice (some ⟨g, k * 3, none⟩) (n - k) c]).run Try.prog w.drew = .ok (.tuple #[]) (w.drew.setCells g (k * 3) (Builtin.zeroCells #[.int .i64 0, .int .i64 0, .slice none 0 0] (n - k)).toList)) := hide fun ty c => run_clear_ec w.drew ty g (k * 3) (n - k) c (by omega) (fun j hj => r4 _ (by omega)) (fun j hj => r5 _ (by omega))
  have hkn : ((k : Int) == (n : Int)) = false := by simp; omega
  have hkc : k ≤ cap := by omega
  have hck : ¬ cap = k := by omega
  have hm : cap ≤ 9223372036854775807 := by unfold maxLen at r3; omega
  obtain ⟨W9, hW9⟩ : ∃ W9, w.drew.setCells g (k * 3) (Builtin.zeroCells #[.int .i64 0, .int .i64 0, .slice none 0 0] (n - k)).toList = W9 := ⟨_, rfl⟩
  have HZ : Hid (w.grownBy W9 (some g) ∧ OwnE B W9 (.slice (some ⟨g, 0, none⟩) k cap) (E.take k)) := hide (by
    rw [← hW9]
    exact ⟨gtrans (b := w.drew) ⟨rfl, rfl, rfl, Nat.le_refl _, fun _ _ _ => rfl⟩ (grown_setCells g _ _ w.drew), hsp⟩)
  rw [hW9] at HCL
  clear h hpre hn r4 r5 r3 hW9 hsp
  go_enter Try.func29, Try.ntmps29
  go_wp2_with fail
  go_region_law (refine step_append_runE (by rfl) _ _ (by rfl) (by rfl) (by rfl) (by rfl) (HAP.out _ _) ?_)
  have hcl := fun c => HCL.out 0 c
  go_wp2
  all_goals
    go_ret
    first
      | exact ⟨rfl, HZ.out⟩
      | (have hc : cap = n := by assumption
         have hz := HZ.out
         rw [hc] at hz
         exact ⟨rfl, hz⟩)
theorem LgRow.cutted {B : Nat} {w w2 V9 : World} {g : Nat} {x : Lg} {g2 n0 c0 : Nat} {E0 : List Ec} {k : Nat} (hr : LgRow B w g x (.slice (some ⟨g2, 0, none⟩) n0 c0) E0) (hb : Below w.heap.size w w2) (hg9 : w2.grownBy V9 (some g2)) (hE : OwnE B V9 (.slice (some ⟨g2, 0, none⟩) k c0) (E0.take k)) :
    LgOwn B (V9.setCell ⟨g, 2, none⟩ (.slice (some ⟨g2, 0, none⟩) k c0)) g ⟨x.ix, x.tm, x.l.take k⟩ ∧ Fr g w (V9.setCell ⟨g, 2, none⟩ (.slice (some ⟨g2, 0, none⟩) k c0)) := by
  have hr2 := hr.below hb
  have hD := hr2.dat.take k
  have hD9 : DatO B V9 (.slice (some ⟨g2, 0, none⟩) k c0) (E0.take k) (x.l.take k) := (hD.grown hg9 fun e he => by
    obtain ⟨_, _, hf⟩ := hD.mem he
    exact hf).to fun e he => by
    obtain ⟨_, _, hf⟩ := hD.mem he
    exact hf
  have hs := hr2.swap hg9 hr.ne hE hD9 hr.ne (fun e he => hr.nd e (List.mem_of_mem_take he)) (hr.ok.cut k) (by
    have := hr.few
    rw [List.length_take]
    omega)
  exact ⟨hs.lg, Fr.push hr.own.ecs hs.own.ecs (fun e he => .inl (List.mem_of_mem_take he)) hr.c2 hb hg9 hr.ne (.inl rfl)⟩
set_option maxRecDepth 200000 in
set_option maxHeartbeats 4000000 in
theorem cutOkF {B : Nat} {w : World} {g : Nat} {x : Lg} (h : LgOwn B w g x) {i : Int} (hq : hasI x i = true) (hB : B ≤ w.heap.size) : Calls Try.prog 10 #[.pointer (some ⟨g, 0, none⟩), .int .i64 i] w (RetF B g (0, ⟨x.ix, x.tm, x.l.take (i - x.ix - 1).toNat⟩) w) := by
  have HM := hide (made_any h.is)
  have HH := hide (has_any h.is i)
  have HLG := hide h
  rw [hq] at HH
  simp only [hasI, Bool.and_eq_true, decide_eq_true_eq] at hq
  obtain ⟨h1, h2⟩ := hq
  obtain ⟨k, hk⟩ : ∃ k : Nat, i - x.ix - 1 = (k : Int) := ⟨(i - x.ix - 1).toNat, by omega⟩
  have hkl : k < x.l.length := by omega
  have HPL : Hid (∀ V, Below w.heap.size w V → Calls Try.prog 30 #[.pointer (some ⟨g, 0, none⟩), .int .i64 i] V fun e w' => e = .returned (.int .i64 (k : Int)) ∧ V = w') := hide fun V hV => by
    rw [← hk]
    exact place_any (HLG.out.below hV).is i h1 h2
  obtain ⟨R, hR⟩ : ∃ R : Int × Lg, ((0 : Int), (⟨x.ix, x.tm, x.l.take (i - x.ix - 1).toNat⟩ : Lg)) = R := ⟨_, rfl⟩
  rw [hR]
  have HRR : Hid (R = (0, ⟨x.ix, x.tm, x.l.take k⟩)) := hide (by rw [← hR, hk]; rfl)
  obtain ⟨p0, n0, c0, E0, hr⟩ := h.row
  have k2 := hr.c2
  have hE0 := hr.own
  have hne := hr.ne
  have hfr := hr.fr 2 (by omega)
  have hEl := hr.dat.1
  obtain ⟨rfl, g2, rfl⟩ := hE0.some (by omega)
  have HR := hide hr
  have hgl : g < w.heap.size := lt_of_cell k2
  have hgg : g2 ≠ g := fun e => hne (by rw [e]; rfl)
  have HKEEP : Hid (∀ V, Below w.heap.size w V → V.cell? ⟨g, 2, none⟩ = some (.slice (some ⟨g2, 0, none⟩) E0.length c0) ∧ V.frozen? ⟨g, 2, none⟩ = false) := hide fun V hV => ⟨(hV.cell (lt_of_cell k2)).trans k2, (hV.frozen (p := ⟨g, 2, none⟩) hgl).trans hfr⟩
  have HDE : Hid (∀ V, Below w.heap.size w V → Calls Try.prog 29 #[.slice (some ⟨g2, 0, none⟩) E0.length c0, .int .i64 k, .int .i64 E0.length] V fun e w' => e = .returned (.slice (some ⟨g2, 0, none⟩) k c0) ∧ V.grownBy w' (some g2) ∧ OwnE B w' (.slice (some ⟨g2, 0, none⟩) k c0) (E0.take k)) := hide fun V hV => deleteF_any (hE0.below hV) (by omega) (Nat.le_trans hB hV.size)
  have HGL := hide hgl
  have HGG := hide hgg
  obtain ⟨n, hn⟩ : ∃ n, E0.length = n := ⟨_, rfl⟩
  rw [hn] at HKEEP HDE HR
  clear h HLG h1 h2 hk hkl hB k2 hE0 hne hfr hgl hgg hEl hn hr hR
  go_enter Try.func10, Try.ntmps10
  go_wp2_with fail
  refine HM.out.mono ?_
  rintro e w9 ⟨rfl, rfl⟩
  go_wp2_with fail
  refine HH.out.mono ?_
  rintro e w2 ⟨rfl, hb2⟩
  have HB2 := hide hb2
  clear hb2
  obtain ⟨k2, kf⟩ := HKEEP.out _ HB2.out
  go_wp2_with fail
  go_region_law
    (first
      | (go_simp; refine (HPL.out _ (bel_drewN HB2.out 1)).mono ?_; rintro e w3 ⟨rfl, rfl⟩)
      | (go_simp; refine (HDE.out _ (bel_drewN HB2.out 1)).mono ?_; rintro e w5 ⟨rfl, hg5, ho5⟩; have g5 : w5.cell? ⟨g, 2, none⟩ = some (.slice (some ⟨g2, 0, none⟩) n c0) := hg5.cell k2 (fun e => HGG.out (by injection (Eq.symm e))); have f5 : w5.frozen? ⟨g, 2, none⟩ = false := (by have hb := hg5.block g (Nat.lt_of_lt_of_le HGL.out HB2.out.size) (fun e => HGG.out (by injection (Eq.symm e))); unfold World.frozen? at kf ⊢; simp only [hb]; exact kf); have H9 := hide (And.intro hg5 ho5); clear hg5 ho5))
  all_goals
    have HZ := hide (HR.out.cutted (g := g) (bel_drewN HB2.out 1) H9.out.1 H9.out.2)
    go_wp2
    go_ret
    exact RetF.mk HRR.out HZ.out
theorem cutF_any {B : Nat} {w : World} {g : Nat} {x : Lg} (h : LgOwn B w g x) (i : Int) (hB : B ≤ w.heap.size) : Calls Try.prog 10 #[.pointer (some ⟨g, 0, none⟩), .int .i64 i] w (RetF B g (cutR x i) w) := by
  cases hq : hasI x i
  · refine (cutErr_any h.is hq).mono ?_
    rintro e w' ⟨rfl, hb⟩
    exact RetF.mk (by unfold cutR; rw [if_neg (by rw [hq]; simp)]) ⟨h.below hb, Fr.of_below hb (lt_of_cell h.c0)⟩
  · have := cutOkF h hq hB
    unfold cutR
    rw [if_pos hq]
    exact this
end Go.Proofs.Ytmalhdiholblgaa
