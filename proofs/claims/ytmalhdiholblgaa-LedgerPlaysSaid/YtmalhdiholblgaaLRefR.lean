/- The document's Rebase. -/
import Derived.Test.YtmalhdiholblgaaLRefC
namespace Go.Proofs.Ytmalhdiholblgaa
set_option linter.unusedVariables false
set_option linter.unusedSimpArgs false
open Go.RowKit

theorem RgOwn.swap3 {w0 : World} {B B' : Nat} {w w1 : World} {g : Nat} {x : Lg} {p : Option Addr} {n c : Nat} {E : List Ec} {L : List En} {i t : Int} (h : RgOwn w0 B w g x) (hb : Below w.heap.size w w1) (hB : B ≤ B') (hw : w.heap.size ≤ B') (hE : OwnE B' w1 (.slice p n c) E) (hD : Dat w0 E L) (hok : (Lg.mk i t L).Ok) (hfew : L.length ≤ 100000) :
    RgOwn w0 B (((w1.setCell ⟨g, 0, none⟩ (.int .i64 i)).setCell ⟨g, 1, none⟩ (.int .i64 t)).setCell ⟨g, 2, none⟩ (.slice p n c)) g ⟨i, t, L⟩ ∧ Chg w (((w1.setCell ⟨g, 0, none⟩ (.int .i64 i)).setCell ⟨g, 1, none⟩ (.int .i64 t)).setCell ⟨g, 2, none⟩ (.slice p n c)) (fun k => k = g) ∧ ∀ k, Rb (((w1.setCell ⟨g, 0, none⟩ (.int .i64 i)).setCell ⟨g, 1, none⟩ (.int .i64 t)).setCell ⟨g, 2, none⟩ (.slice p n c)) g k → Rb w g k ∨ w.heap.size ≤ k := by
  have h1 := h.below hb
  have hgl : g < w.heap.size := lt_of_cell h.c0
  obtain ⟨p', n', c', E', k2, _⟩ := h1.c2
  have hne : (Value.slice p n c).ownBlock ≠ some g := fun e => by
    have := (hE.lt _ e).1
    omega
  have hs := gtrans (gtrans (grown_set w1 g 0 (.int .i64 i)) (grown_set _ g 1 (.int .i64 t))) (grown_set _ g 2 (.slice p n c))
  have hst : ∀ (W : World) (j k : Nat) u, j ≠ k → (W.setCell ⟨g, j, none⟩ u).cell? ⟨g, k, none⟩ = W.cell? ⟨g, k, none⟩ := fun W j k u hjk => World.cell?_setCell_other _ _ _ _ (by simp <;> omega)
  refine ⟨⟨h.hB, ?_, ?_, ⟨p, n, c, E, ?_, (hE.mono hB).grown hs (.inr hne), hD, hne⟩, fun i hi => ?_, hok, hfew⟩, (((Chg.of_below hb (fun k => k = g)).set _ (.inl rfl)).set _ (.inl rfl)).set _ (.inl rfl), fun k ⟨p1, n1, c1, e1, hk⟩ => ?_⟩
  · rw [hst _ _ _ _ (by omega), hst _ _ _ _ (by omega)]
    exact World.cell?_setCell_same _ _ _ h1.c0
  · rw [hst _ _ _ _ (by omega)]
    exact World.cell?_setCell_same _ _ _ (by rw [hst _ _ _ _ (by omega)]; exact h1.c1)
  · exact World.cell?_setCell_same _ _ _ (by rw [hst _ _ _ _ (by omega), hst _ _ _ _ (by omega)]; exact k2)
  · rw [World.frozen?_setCell, World.frozen?_setCell, World.frozen?_setCell]
    exact h1.fr i hi
  · rw [World.cell?_setCell_same _ _ _ (by rw [hst _ _ _ _ (by omega), hst _ _ _ _ (by omega)]; exact k2)] at e1
    injection e1 with e1
    rw [← e1] at hk
    exact .inr (by have := (hE.lt k hk).1; omega)
theorem restK {α : Type} {E : List α} {k K : Nat} {e : α} (he : E[k]? = some e) : (E.take (k + 1)).drop K = if K ≤ k then (E.take k).drop K ++ [e] else [] := by
  have hl := (List.getElem?_eq_some_iff.1 he).1
  have h1 : E.take (k + 1) = E.take k ++ [e] := by rw [List.take_add_one, he]; rfl
  by_cases h : K ≤ k
  · rw [if_pos h, h1, List.drop_append_of_le_length (by rw [List.length_take]; omega)]
  · rw [if_neg h]
    exact List.drop_eq_nil_of_le (by rw [List.length_take]; omega)
set_option maxRecDepth 200000 in
set_option maxHeartbeats 4000000 in
theorem refRebF_any {w0 : World} {B : Nat} {w : World} {g : Nat} {x : Lg} (h : RgOwn w0 B w g x) (hb0 : Below w0.heap.size w0 w) (hB : B ≤ w.heap.size) (i t : Int) : Calls Try.prog 13 #[.pointer (some ⟨g, 0, none⟩), .int .i64 i, .int .i64 t] w (RetG w0 B g (rebR x i t) w) := by
  have his := h.is hb0
  have HG := hide (refGood_any (w := w) i t)
  have HAT := hide (refAt_any his i)
  have hon : ∀ (k : Nat) e, x.l[k]? = some e → e.i = x.ix + k + 1 := fun k e he => (goOn_get h.ok.on (good_le h.ok.good).1 (good_le h.ok.good).2.1 k e he).1
  have HON := hide hon
  have h9 : (x.l.length : Int) ≤ 100000 := by have := h.few; omega
  obtain ⟨p, n, c, E, k2, hE, hD, hne⟩ := h.c2
  have hEl : E.length = x.l.length := hD.1
  have hn := hE.ecs.len.1
  rw [hEl] at hn
  subst hn
  have hens : Ens w (.slice p x.l.length c) x.l := ⟨E, hE.ecs, hD.below hb0⟩
  have HLG := hide h
  have HEN := hide hens
  have HB := hide (Below.refl w.heap.size w)
  have HBB := hide hB
  have c0 := h.c0
  have c1 := h.c1
  have HOE := hide (And.intro hE (And.intro hD hne))
  have HKEEP : Hid (∀ V, Below w.heap.size w V → V.cell? ⟨g, 0, none⟩ = some (.int .i64 x.ix) ∧ V.cell? ⟨g, 1, none⟩ = some (.int .i64 x.tm) ∧ V.cell? ⟨g, 2, none⟩ = some (.slice p x.l.length c) ∧ (V.frozen? ⟨g, 0, none⟩ = false ∧ V.frozen? ⟨g, 1, none⟩ = false ∧ V.frozen? ⟨g, 2, none⟩ = false)) := hide fun V hV => by
    have h2 := h.below hV
    exact ⟨h2.c0, h2.c1, (hV.cell (lt_of_cell k2)).trans k2, h2.fr 0 (by omega), h2.fr 1 (by omega), h2.fr 2 (by omega)⟩
  obtain ⟨R, hR⟩ : ∃ R, rebR x i t = R := ⟨_, rfl⟩
  rw [hR]
  have HR0 := hide hR
  have HAG : Hid (agreesI x i t = ((x.at_ i).2 && ((x.at_ i).1 == t))) := hide rfl
  obtain ⟨q1, hq1⟩ : ∃ q, good i t = q := ⟨_, rfl⟩
  rw [hq1] at HG
  have HQ1 := hide hq1
  obtain ⟨at1, hat1⟩ : ∃ a, (x.at_ i).1 = a := ⟨_, rfl⟩
  obtain ⟨at2, hat2⟩ : ∃ a, (x.at_ i).2 = a := ⟨_, rfl⟩
  rw [hat1, hat2] at HAT HAG
  clear h hens his hon hb0 hE hD hne hR hEl hB hq1 hat1 hat2
  obtain ⟨ix, hix⟩ : ∃ ix, x.ix = ix := ⟨_, rfl⟩
  rw [hix] at c0
  have HIX := hide hix
  clear hix
  go_enter Try.func13, Try.ntmps13
  go_wp2_with fail
  refine HG.out.mono ?_
  rintro e w9 ⟨rfl, rfl⟩
  cases q1
  · have HX : Hid (R = (110, x)) := hide (by rw [← HR0.out]; unfold rebR; rw [if_neg (by rw [HQ1.out]; simp)])
    go_wp2
    go_ret
    exact RetG.mk HX.out (HLG.out.refused HB.out)
  · by_cases hlt : i < ix
    · have e1 : decide (i < ix) = true := decide_eq_true hlt
      have HX : Hid (R = (110, x)) := hide (by
        rw [← HR0.out]
        unfold rebR
        rw [if_neg (fun hh => ?_)]
        rw [Bool.and_eq_true] at hh
        have h1 : x.ix ≤ i := by simpa using hh.2
        have := HIX.out
        omega)
      go_wp2
      go_ret
      exact RetG.mk HX.out (HLG.out.refused HB.out)
    · have e1 : decide (i < ix) = false := decide_eq_false hlt
      go_wp2_with fail
      refine HAT.out.mono ?_
      rintro e w2 ⟨rfl, hb2⟩
      have HB2 := hide hb2
      obtain ⟨_, _, k2', _⟩ := HKEEP.out w2 hb2
      clear hb2 k2 c0 c1
      obtain ⟨K, hK⟩ : ∃ K : Nat, K = if agreesI x i t = true then (i - x.ix).toNat else E.length := ⟨_, rfl⟩
      have HK := hide hK
      have HCB : Hid (∀ (k : Nat) ei, k < E.length → ei = x.ix + k + 1 → (at2 && (at1 == t) && decide (i < ei)) = decide (K ≤ k)) := hide fun k ei hk he => by
        have h0 := HIX.out
        by_cases ha : agreesI x i t = true
        · have h1 := HAG.out
          rw [ha] at h1
          rw [if_pos ha] at hK
          rw [← h1, Bool.true_and]
          by_cases h2 : i < ei
          · rw [decide_eq_true h2, decide_eq_true (by omega)]
          · rw [decide_eq_false h2, decide_eq_false (by omega)]
        · have h1 := HAG.out
          rw [Bool.eq_false_iff.2 ha] at h1
          rw [if_neg ha] at hK
          rw [← h1, Bool.false_and, decide_eq_false (by omega)]
      have HRES : Hid (E.drop K = (if agreesI x i t = true then E.drop (i - x.ix).toNat else []) ∧ x.l.drop K = (if agreesI x i t = true then x.l.drop (i - x.ix).toNat else [])) := hide (by
        by_cases ha : agreesI x i t = true
        · rw [if_pos ha] at hK
          rw [if_pos ha, if_pos ha, hK]
          exact ⟨rfl, rfl⟩
        · rw [if_neg ha] at hK
          rw [if_neg ha, if_neg ha, hK]
          exact ⟨List.drop_eq_nil_of_le (Nat.le_refl _), List.drop_eq_nil_of_le (by have := HOE.out.2.1.1; omega)⟩)
      have HEl : Hid (E.length = x.l.length) := hide HOE.out.2.1.1
      clear hK
      go_wp2_with fail
      clear k2'
      go_loopw [9, 11, 35] (fun u _ j wr => ∃ k : Nat, k ≤ x.l.length ∧ j = .int .i64 k ∧ (∃ p n c, u = .slice p n c) ∧ Hid (OwnE w2.heap.size wr u ((E.take k).drop K) ∧ Below w2.heap.size w2 wr)) (fun _ _ j _ => x.l.length - (intOf j).toNat)
      case atStart => exact ⟨0, by omega, rfl, ⟨_, _, _, rfl⟩, hide ⟨by simp only [List.take_zero, List.drop_nil]; exact OwnE.nil _ _, Below.refl _ _⟩⟩
      case round =>
        obtain ⟨k, hk, rfl, ⟨pu, nu, cu, rfl⟩, HR⟩ := hrel
        by_cases hlt2 : k < x.l.length
        · obtain ⟨e, he⟩ : ∃ e, x.l[k]? = some e := ⟨_, List.getElem?_eq_getElem hlt2⟩
          have hei := HON.out k e he
          obtain ⟨ec, hec⟩ : ∃ ec, E[k]? = some ec := ⟨_, List.getElem?_eq_getElem (by rw [HEl.out]; exact hlt2)⟩
          obtain ⟨hen, het0, _, _⟩ := HOE.out.2.1.2 k ec e hec he
          have hwb : Below w.heap.size w wr := HB2.out.trans (HR.out.2.mono HB2.out.size)
          obtain ⟨g2, o, hp2, hat⟩ := (HOE.out.1.ecs.below hwb).at_ (by omega)
          have hatk := hat k ec hec
          subst hp2
          obtain ⟨kk, hkk⟩ : ∃ kk, k * 3 = kk := ⟨_, rfl⟩
          rw [hkk] at hatk
          obtain ⟨oo, hoo⟩ : ∃ oo, o + kk = oo := ⟨_, rfl⟩
          rw [hoo] at hatk
          obtain ⟨ei, et, pd, nd, cd⟩ := ec
          dsimp only at hen het0
          have c0 := hatk.c0
          have c1 := hatk.c1
          have c2 := hatk.c2
          dsimp only at c0 c1 c2
          have hcb := HCB.out k ei (by rw [HEl.out]; exact hlt2) (by omega)
          have HEC := hide hec
          have bN : Below wr.heap.size wr (wr.alloc (.cells #[.int .i64 ei, .int .i64 et, .slice pd nd cd] 48)) := (Below.refl _ _).alloc (Nat.le_refl _) _
          have hB3 := box3 wr (.int .i64 ei) (.int .i64 et) (.slice pd nd cd) 48
          obtain ⟨Z, hZ⟩ : ∃ Z, wr.alloc (.cells #[.int .i64 ei, .int .i64 et, .slice pd nd cd] 48) = Z := ⟨_, rfl⟩
          rw [hZ] at bN hB3
          obtain ⟨bz, hbz⟩ : ∃ bz, wr.heap.size = bz := ⟨_, rfl⟩
          have HBZ2 : Hid (Below w2.heap.size w2 Z) := hide (HR.out.2.trans (bN.mono HR.out.2.size))
          have HOZ := hide (HR.out.1.below bN)
          rw [hbz] at hB3
          obtain ⟨z0, z1, z2⟩ := hB3
          have HLN : Hid (((E.take k).drop K).length ≤ 1000000) := hide (by rw [List.length_drop, List.length_take]; omega)
          have HRK := hide (restK (K := K) hec)
          clear he hat hatk hen het0 hwb bN hec hei
          by_cases hKk : K ≤ k
          · have HKK : Hid ((E.take (k + 1)).drop K = (E.take k).drop K ++ [⟨ei, et, pd, nd, cd⟩]) := hide (by rw [HRK.out, if_pos hKk])
            rw [decide_eq_true hKk, Bool.and_eq_true, Bool.and_eq_true] at hcb
            obtain ⟨⟨h1, h2⟩, h3⟩ := hcb
            subst h1
            have h4 : at1 = t := by simpa using h2
            subst h4
            have e5 : (at1 == at1) = true := by simp
            clear hKk h2
            go_wp2_with (at_builtin; go_loud (refine wpList_pushE2 (w := Z) (v := .slice pu nu cu) (l := (E.take k).drop K) (B := w2.heap.size) (H := Z.heap.size) rfl (.tmp 51) (.tmp 53) rfl rfl ⟨ei, et, pd, nd, cd⟩ rfl rfl rfl HOZ.out HBZ2.out.size HLN.out ?_); intro v6 w6 ho6 hb6 hg6 he6; obtain ⟨p6, n6, c6, rfl⟩ := ho6.ecs.sl; have HO6 := hide ho6; have HB6 := hide (HBZ2.out.trans hb6); clear ho6 hb6 hg6 he6)
            go_roundw
            case rel => exact ⟨k + 1, by omega, by go_num, ⟨_, _, _, rfl⟩, hide ⟨by rw [HKK.out]; exact HO6.out, HB6.out⟩⟩
            case measure => simp [intOf]; omega
          · have HKK : Hid ((E.take (k + 1)).drop K = (E.take k).drop K) := hide (by
              rw [HRK.out, if_neg hKk]
              symm
              exact List.drop_eq_nil_of_le (by rw [List.length_take]; omega))
            rw [decide_eq_false hKk] at hcb
            clear hKk
            cases at2
            · clear hcb
              go_wp2_with fail
              go_roundw
              case rel => exact ⟨k + 1, by omega, by go_num, ⟨_, _, _, rfl⟩, hide ⟨by rw [HKK.out]; exact HOZ.out, HBZ2.out⟩⟩
              case measure => simp [intOf]; omega
            · cases h6 : (at1 == t)
              · clear hcb
                go_wp2_with fail
                go_roundw
                case rel => exact ⟨k + 1, by omega, by go_num, ⟨_, _, _, rfl⟩, hide ⟨by rw [HKK.out]; exact HOZ.out, HBZ2.out⟩⟩
                case measure => simp [intOf]; omega
              · rw [h6] at hcb
                have h7 : decide (i < ei) = false := by simpa using hcb
                clear hcb
                go_wp2_with fail
                go_roundw
                case rel => exact ⟨k + 1, by omega, by go_num, ⟨_, _, _, rfl⟩, hide ⟨by rw [HKK.out]; exact HOZ.out, HBZ2.out⟩⟩
                case measure => simp [intOf]; omega
        · have hkx : E.take k = E := List.take_of_length_le (by rw [HEl.out]; omega)
          have hwb : Below w.heap.size w wr := HB2.out.trans (HR.out.2.mono HB2.out.size)
          obtain ⟨d0, d1, d2, f0, f1, f2⟩ := HKEEP.out wr hwb
          have HWB := hide hwb
          have HEND : Hid (OwnE w2.heap.size wr (.slice pu nu cu) (E.drop K)) := hide (by have h := HR.out.1; rw [hkx] at h; exact h)
          have HX : Hid (R = (0, ⟨i, t, x.l.drop K⟩)) := hide (by
            rw [← HR0.out]
            unfold rebR
            have h0 := HIX.out
            rw [if_pos (by rw [Bool.and_eq_true]; exact ⟨HQ1.out, decide_eq_true (by omega)⟩), HRES.out.2])
          have HOK : Hid ((Lg.mk i t (x.l.drop K)).Ok) := hide (by
            have h0 := HIX.out
            have h1 := HLG.out.ok.reb (i := i) (t := t) (by rw [Bool.and_eq_true]; exact ⟨HQ1.out, decide_eq_true (by omega)⟩)
            rw [HRES.out.2]
            exact h1)
          clear hkx hwb
          go_wp2
          go_ret
          exact RetG.mk HX.out (HLG.out.swap3 HWB.out (Nat.le_trans HBB.out HB2.out.size) HB2.out.size HEND.out (HOE.out.2.1.drop K) HOK.out (by rw [List.length_drop]; have := HLG.out.few; omega))
end Go.Proofs.Ytmalhdiholblgaa
