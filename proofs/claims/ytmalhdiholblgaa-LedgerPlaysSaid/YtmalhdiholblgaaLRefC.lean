/- The document's Cut and Rebase. -/
import Derived.Test.YtmalhdiholblgaaLRefA
import Derived.Test.YtmalhdiholblgaaLLaw
namespace Go.Proofs.Ytmalhdiholblgaa
set_option linter.unusedVariables false
set_option linter.unusedSimpArgs false
open Go.RowKit

set_option maxRecDepth 200000 in
set_option maxHeartbeats 4000000 in
theorem refCutF_any {w0 : World} {B : Nat} {w : World} {g : Nat} {x : Lg} (h : RgOwn w0 B w g x) (hb0 : Below w0.heap.size w0 w) (i : Int) : Calls Try.prog 11 #[.pointer (some ⟨g, 0, none⟩), .int .i64 i] w (RetG w0 B g (cutR x i) w) := by
  have his := h.is hb0
  have hon : ∀ (k : Nat) e, x.l[k]? = some e → e.i = x.ix + k + 1 := fun k e he => (goOn_get h.ok.on (good_le h.ok.good).1 (good_le h.ok.good).2.1 k e he).1
  have HON := hide hon
  have h9 : (x.l.length : Int) ≤ 100000 := by have := h.few; omega
  obtain ⟨p, n, c, E, k2, hE, hD, hne⟩ := h.c2
  have hEl : E.length = x.l.length := hD.1
  have hn := hE.ecs.len.1
  rw [hEl] at hn
  subst hn
  have hens : Ens w (.slice p x.l.length c) x.l := ⟨E, hE.ecs, hD.below hb0⟩
  have HLG := hide h
  have HEN := hide hens
  have HB := hide (Below.refl w.heap.size w)
  have HK2 := hide k2
  have HF2 := hide (h.fr 2 (by omega))
  have HOE := hide (And.intro hE (And.intro hD hne))
  have hgw : g < w.heap.size := lt_of_cell k2
  have HKEEP : Hid (∀ V, Below w.heap.size w V → V.cell? ⟨g, 2, none⟩ = some (.slice p x.l.length c) ∧ V.frozen? ⟨g, 2, none⟩ = false) := hide fun V hV => ⟨(hV.cell hgw).trans HK2.out, (hV.frozen (p := ⟨g, 2, none⟩) hgw).trans HF2.out⟩
  obtain ⟨R, hR⟩ : ∃ R, cutR x i = R := ⟨_, rfl⟩
  rw [hR]
  have HR0 := hide hR
  clear h hens his hon hb0 hE hD hne hgw hR hEl
  go_enter Try.func11, Try.ntmps11
  go_wp2_with fail
  clear k2
  go_loopw [5, 6, 12] (fun _ _ j wr => ∃ k : Nat, k ≤ x.l.length ∧ j = .int .i64 k ∧ Hid ((∀ (m : Nat) e, m < k → x.l[m]? = some e → e.i ≠ i) ∧ Below w.heap.size w wr)) (fun _ _ j _ => x.l.length - (intOf j).toNat)
  case atStart => exact ⟨0, by omega, rfl, hide ⟨fun j e hj => by omega, HB.out⟩⟩
  case round =>
    obtain ⟨k, hk, rfl, HR⟩ := hrel
    by_cases hlt : k < x.l.length
    · obtain ⟨e, he⟩ : ∃ e, x.l[k]? = some e := ⟨_, List.getElem?_eq_getElem hlt⟩
      have hei := HON.out k e he
      obtain ⟨hn2, g3, hp3⟩ := HOE.out.1.some (by rw [HOE.out.2.1.1]; omega)
      subst hp3
      obtain ⟨g2, o, pd, nd, cd, hp2, hat, hby, hnd⟩ := (HEN.out.below HR.out.2).at_ he
      injection hp2 with hp2
      injection hp2 with hp2 ho2 _
      subst hp2 ho2
      obtain ⟨kk, hkk⟩ : ∃ kk, k * 3 = kk := ⟨_, rfl⟩
      rw [hkk, Nat.zero_add] at hat
      have c0 := hat.c0
      have c1 := hat.c1
      have c2 := hat.c2
      dsimp only at c0 c1 c2
      have HE := hide he
      obtain ⟨ei, hee⟩ : ∃ ei, e.i = ei := ⟨_, rfl⟩
      obtain ⟨et, het⟩ : ∃ et, e.t = et := ⟨_, rfl⟩
      rw [hee] at c0 hei
      rw [het] at c1
      have bN : Below wr.heap.size wr (wr.alloc (.cells #[.int .i64 ei, .int .i64 et, .slice pd nd cd] 48)) := (Below.refl _ _).alloc (Nat.le_refl _) _
      have hB3 := box3 wr (.int .i64 ei) (.int .i64 et) (.slice pd nd cd) 48
      obtain ⟨Z, hZ⟩ : ∃ Z, wr.alloc (.cells #[.int .i64 ei, .int .i64 et, .slice pd nd cd] 48) = Z := ⟨_, rfl⟩
      rw [hZ] at bN hB3
      obtain ⟨z0, z1, z2⟩ := hB3
      have HBZ : Hid (Below w.heap.size w Z) := hide (HR.out.2.trans (bN.mono HR.out.2.size))
      obtain ⟨k2, kf⟩ := HKEEP.out Z HBZ.out
      have hkc : k ≤ c := by
        have := HOE.out.1.ecs.len
        omega
      have hcm : (c : Int) ≤ 9223372036854775807 := by
        have := HOE.out.1.ecs.len
        unfold maxLen at this
        omega
      have HEE := hide hee
      have HEI := hide hei
      clear he hat hby hnd het bN hn2 hee hei
      by_cases hq : ei = i
      · have e1 : (ei == i) = true := by simpa using hq
        have HQ := hide hq
        have HX : Hid (R = (0, ⟨x.ix, x.tm, x.l.take k⟩)) := hide (by
          have h1 := HEI.out
          rw [← HR0.out]
          unfold cutR
          rw [if_pos (by
            unfold hasI
            rw [Bool.and_eq_true]
            exact ⟨decide_eq_true (by omega), decide_eq_true (by omega)⟩), show (i - x.ix - 1).toNat = k by omega])
        clear hq
        go_wp2
        go_ret
        exact RetG.mk HX.out (HLG.out.swap HBZ.out (by
          have h1 := HOE.out.1
          have h2 : E.length = x.l.length := HOE.out.2.1.1
          rw [← h2] at h1
          exact (h1.front (k := k) (by omega)).below HBZ.out) (HOE.out.2.1.take k) HOE.out.2.2 (HLG.out.ok.cut k) (by rw [List.length_take]; have := HLG.out.few; omega) (fun k' hk' => .inl ⟨_, _, _, HK2.out, hk'⟩))
      · have e1 : (ei == i) = false := by simpa using hq
        have HX : Hid (∀ (m : Nat) e, m < k + 1 → x.l[m]? = some e → e.i ≠ i) := hide fun j e' hj h1 => by
          by_cases ej : j = k
          · subst ej
            have := HE.out.symm.trans h1
            injection this with this
            subst this
            rw [HEE.out]
            exact hq
          · exact HR.out.1 j e' (by omega) h1
        clear hq
        go_wp2
        go_roundw
        case rel => exact ⟨k + 1, by omega, by go_num, hide ⟨HX.out, HBZ.out⟩⟩
        case measure => simp [intOf]; omega
    · have HX : Hid (R = (51, x)) := hide (by
        rw [← HR0.out]
        unfold cutR
        rw [if_neg (fun hh => ?_)]
        simp only [hasI, Bool.and_eq_true, decide_eq_true_eq] at hh
        have he := List.getElem?_eq_getElem (l := x.l) (i := (i - x.ix - 1).toNat) (by omega)
        have h1 := HON.out _ _ he
        exact HR.out.1 _ _ (by omega) he (by omega))
      go_wp2
      go_ret
      exact RetG.mk HX.out (HLG.out.refused HR.out.2)
end Go.Proofs.Ytmalhdiholblgaa
