/- The law ForestRings. -/
import Derived.Test.YtokmmmpijcbknaaFLight
namespace Go.Proofs.Ytokmmmpijcbknaa
set_option linter.unusedVariables false
set_option linter.unusedSimpArgs false
open Go.RowKit

theorem six_row {W : World} {r : Nat} {a0 a1 a2 a3 a4 a5 : Value} (hA : W.heap[r]? = some (.cells [a0, a1, a2, a3, a4, a5].toArray 33)) (v0 v1 v2 v3 v4 v5 : Value) : ((((((W.setCell ⟨r, 0, none⟩ v0).setCell ⟨r, 1, none⟩ v1).setCell ⟨r, 2, none⟩ v2).setCell ⟨r, 3, none⟩ v3).setCell ⟨r, 4, none⟩ v4).setCell ⟨r, 5, none⟩ v5).heap[r]? = some (.cells #[v0, v1, v2, v3, v4, v5] 33) := by
  have q0 := heap_setCell_same W r 0 _ 33 v0 hA
  have q1 := heap_setCell_same _ r 1 _ 33 v1 q0
  have q2 := heap_setCell_same _ r 2 _ 33 v2 q1
  have q3 := heap_setCell_same _ r 3 _ 33 v3 q2
  have q4 := heap_setCell_same _ r 4 _ 33 v4 q3
  exact heap_setCell_same _ r 5 _ 33 v5 q4
theorem six_at {W : World} {r g o : Nat} {x : Sp} (h : SpAt W g o x) (hne : g ≠ r) (v0 v1 v2 v3 v4 v5 : Value) : SpAt ((((((W.setCell ⟨r, 0, none⟩ v0).setCell ⟨r, 1, none⟩ v1).setCell ⟨r, 2, none⟩ v2).setCell ⟨r, 3, none⟩ v3).setCell ⟨r, 4, none⟩ v4).setCell ⟨r, 5, none⟩ v5) g o x :=
  have hn : some r ≠ some g := fun e => hne (by injection e with e; exact e.symm)
  (((((h.grown (grown_set _ r 0 v0) hn).grown (grown_set _ r 1 v1) hn).grown (grown_set _ r 2 v2) hn).grown (grown_set _ r 3 v3) hn).grown (grown_set _ r 4 v4) hn).grown (grown_set _ r 5 v5) hn

/-- How far up the walk has come, for a loop's measure. -/
def upM (n : Nat) (v7 v8 : Value) : Nat := match v7 with
  | .bool true => n + 2 - (intOf v8).toNat
  | _ => 0

set_option maxRecDepth 200000 in
set_option maxHeartbeats 4000000 in
theorem lawFoRings_any {w : World} {v1 : Value} {l1 : List Sp} (hv1 : Sps w v1 l1) (hn1 : ∀ x ∈ l1, x.n.size ≤ maxLen) : Calls Try.prog 5 #[v1] w fun e w' => e = .returned (.bool true) ∧ Below w.heap.size w w' := by
  obtain ⟨q1, m1, c1, rfl⟩ := hv1.sl
  have HL1 := hide (light_any hv1 hn1)
  have HA := hide awake_any
  have HS1 := hide hv1
  clear hv1 hn1
  cases h1 : lightL l1 with
  | false =>
    rw [h1] at HL1
    go_enter Try.func5, Try.ntmps5
    go_wp2_with fail
    refine HL1.out.mono ?_
    rintro e1 w1 ⟨rfl, hw1⟩
    have hw1 := hw1.symm
    subst hw1
    go_wp2_with fail
    refine (HA.out _).mono ?_
    rintro e2 w2 ⟨rfl, hb2⟩
    have HBf := hide ((Below.refl w.heap.size w).trans (hb2.mono (Below.refl w.heap.size w).size))
    clear hb2
    go_wp2
    go_ret
    exact ⟨rfl, HBf.out⟩
  | true =>
    rw [h1] at HL1
    have HG1 := hide (light_len h1)
    clear h1
    go_enter Try.func5, Try.ntmps5
    go_wp2_with fail
    refine HL1.out.mono ?_
    rintro e1 w1 ⟨rfl, hw1⟩
    have hw1 := hw1.symm
    subst hw1
    go_wp2_with fail
    refine (grown_any HS1.out (by have := HG1.out.1; omega) HG1.out.2).mono ?_
    rintro e2 w2 ⟨gf, bf, rfl, hf2, hg2, hbb2, hb2⟩
    have hlt2 : gf < w2.heap.size ∧ bf < w2.heap.size := ⟨lt_of_cell hf2.c0, by obtain ⟨D, hD⟩ := hf2.bag; exact hD.map.lt⟩
    have HOf := hide (And.intro hg2 (And.intro hbb2 hlt2))
    have HZf : Hid (w.heap.size ≤ gf ∧ w.heap.size ≤ bf) := hide (by have := (Below.refl w.heap.size w).size; omega)
    have HB3 : Hid (RowKit.Below w.heap.size w w2) := hide ((Below.refl w.heap.size w).trans (hb2.mono (Below.refl w.heap.size w).size))
    have HS1_3 := hide (HS1.out.below hb2)
    have HFf := hide hf2
    clear hf2 hb2 hg2 hbb2 hlt2
    go_wp2_with fail
    refine (spans_any HFf.out).mono ?_
    rintro e4 w4 ⟨v4, rfl, ho4, hb4⟩
    obtain ⟨pm, nm, cm, rfl⟩ := ho4.sps.sl
    have HB5 : Hid (RowKit.Below w.heap.size w w4) := hide (HB3.out.trans (hb4.mono HB3.out.size))
    have HFf_5 := hide (HFf.out.below hb4)
    have HS1_5 := hide (HS1_3.out.below hb4)
    have HSm := hide ho4.sps
    have HOWNm := hide ho4
    clear ho4 hb4
    have HF := HFf_5
    have HSN := HSm
    have HB := HB5
    go_wp2_with fail
    obtain ⟨G, hG⟩ : ∃ G, growP l1 = G := ⟨_, rfl⟩
    have hok : FoOk 1 G := by rw [← hG]; exact growP_ok l1
    rw [hG] at HF HSN
    obtain ⟨r, hr⟩ := hok.rises
    have hGl := hok.len
    have hnm : nm = G.length := by have := HSN.out.len.1; rw [sortS_length] at this; exact this
    have HOK := hide (And.intro hok hr)
    have HNM := hide hnm
    have hnm64 : nm ≤ 64 := by omega
    clear hG hok hr hnm
    obtain ⟨X, hX⟩ : ∃ X, w4 = X := ⟨_, rfl⟩
    rw [hX]
    have HBX := HB
    have HFX := HF
    have HSX := HSN
    rw [hX] at HBX HFX HSX
    clear hX
    go_loopw [5, 6, 7, 8, 18] (fun _ _ _ _ ix wr => ∃ k : Nat, k ≤ nm ∧ ix = .int .i64 k ∧ Hid (RowKit.Below X.heap.size X wr)) (fun _ _ _ _ ix _ => nm - (intOf ix).toNat)
    case atStart => exact ⟨0, by omega, rfl, hide (Below.refl _ _)⟩
    case round =>
      obtain ⟨k, hk, rfl, HR⟩ := hrel
      by_cases hlt : (k : Int) < (nm : Int)
      · obtain ⟨gv, ov, rfl, hx⟩ := HSX.out.at_ (by omega)
        obtain ⟨x, hxk⟩ : ∃ x, (sortS G)[k]? = some x := ⟨_, List.getElem?_eq_getElem (by rw [sortS_length]; have := HNM.out; omega)⟩
        have hat := (hx k x hxk).below HR.out
        obtain ⟨oo, hoo⟩ : ∃ oo, ov + k * 6 = oo := ⟨_, rfl⟩
        rw [hoo] at hat
        have z0 := hat.c0
        have z1 := hat.c1
        have z2 := hat.c2
        have z3 := hat.c3
        have z4 := hat.c4
        have z5 := hat.c5
        have hxG : x ∈ G := (sortS_perm G).mem_iff.1 (List.mem_of_getElem? hxk)
        have hwfp := (spans_wf HOK.out.1 hxG).2
        have hbox := (Below.refl wr.heap.size wr).alloc (Nat.le_refl _) (.cells #[.int .i64 x.t, .int .i64 x.i, .int .i64 x.p, .int .i64 x.s, .int .i64 x.e, .string x.n] 33)
        have hnew := spAt_new wr x
        have HFD := hide (find_any ((HFX.out.below HR.out).below hbox) hwfp)
        have HXG := hide hxG
        have HNEW := hide (And.intro hnew (HR.out.trans (hbox.mono HR.out.size)))
        clear hx hxk hat hxG hwfp hbox hnew
        obtain ⟨t, i, q, s, en, nn⟩ := x
        dsimp only at *
        go_wp2_with fail
        refine HFD.out.mono ?_
        rintro e5 w5 ⟨rfl, hb5⟩
        have hx5 := HNEW.out.1.below hb5
        have hbx5 := HNEW.out.2.trans (hb5.mono HNEW.out.2.size)
        obtain ⟨u, hu⟩ : ∃ u, (fnd G q).getD sp0 = u := ⟨_, rfl⟩
        obtain ⟨th, hth⟩ : ∃ th, (fnd G q).isSome = th := ⟨_, rfl⟩
        rw [hu, hth]
        have hb6 := (Below.refl w5.heap.size w5).alloc (Nat.le_refl _) (.cells #[.int .i64 u.t, .int .i64 u.i, .int .i64 u.p, .int .i64 u.s, .int .i64 u.e, .string u.n] 33)
        have hu6 := heap_alloc_new w5 (.cells #[.int .i64 u.t, .int .i64 u.i, .int .i64 u.p, .int .i64 u.s, .int .i64 u.e, .string u.n] 33)
        have hx6 := hx5.below hb6
        have H6 := hide (And.intro hx6 (And.intro (hbx5.trans (hb6.mono hbx5.size)) hu6))
        have HU := hide (And.intro hu hth)
        have hgw5 : wr.heap.size < w5.heap.size := hx5.lt
        have HGW := hide hgw5
        clear hb5 hx5 hbx5 hb6 hu6 hx6 hu hth hgw5
        unfold spV
        go_wp2_with fail
        obtain ⟨Y, hY⟩ : ∃ Y, w5.alloc (.cells #[.int .i64 u.t, .int .i64 u.i, .int .i64 u.p, .int .i64 u.s, .int .i64 u.e, .string u.n] 33) = Y := ⟨_, rfl⟩
        obtain ⟨gx, hgx⟩ : ∃ g, wr.heap.size = g := ⟨_, rfl⟩
        obtain ⟨gu, hgu⟩ : ∃ g, w5.heap.size = g := ⟨_, rfl⟩
        rw [hY, hgu, hgx] at H6
        rw [hgu, hgx] at HGW
        have hXs : X.heap.size ≤ gx := by rw [← hgx]; exact HR.out.size
        have HXS := hide hXs
        rw [hY, hgu, hgx]
        clear hY hgx hgu hXs HR HNEW
        go_loopw [7, 8] (fun vb vn wr => ∃ (m : Nat) (a : Int) (th : Bool), vb = .bool th ∧ vn = .int .i64 m ∧ Hid ((fnd G a).isSome = th ∧ SpAt wr gx 0 ⟨t, i, q, s, en, nn⟩ ∧ RowKit.Below X.heap.size X wr ∧ (∃ cs, wr.heap[gu]? = some (.cells cs 33) ∧ cs = (spC ((fnd G a).getD sp0)).toArray) ∧ gx < gu ∧ (∀ u, fnd G a = some u → r u.i < r i ∧ m + cntB G r (r u.i) ≤ G.length))) (fun vb vn _ => upM nm vb vn)
        case atStart =>
          refine ⟨0, q, th, rfl, rfl, hide ⟨HU.out.2, H6.out.1, H6.out.2.1, ⟨_, H6.out.2.2, ?_⟩, HGW.out, fun u' hu' => ⟨HOK.out.2 _ HXG.out u' hu', by rw [Nat.zero_add]; exact List.length_filter_le _ _⟩⟩⟩
          rw [HU.out.1]
          rfl
        case round =>
          obtain ⟨m, a, th2, rfl, rfl, HR2⟩ := hrel
          cases th2 with
          | false =>
            have HBB := hide HR2.out.2.2.1
            clear HR2
            go_wp2
            go_roundw
            case rel => exact ⟨k + 1, by omega, by go_num, HBB⟩
            case measure => simp [intOf]; omega
          | true =>
            obtain ⟨hth, hxs, hbel, ⟨cs, hrow, hcs⟩, hgg, hup⟩ := HR2.out
            obtain ⟨u2, hf⟩ : ∃ u2, fnd G a = some u2 := Option.isSome_iff_exists.1 hth
            rw [hf, Option.getD_some] at hcs
            subst hcs
            obtain ⟨hr1, hr2⟩ := hup u2 hf
            have huG := (fnd_mem hf).1
            have hne : u2.i ≠ i := fun e => by rw [e] at hr1; omega
            have hbe : (u2.i == i) = false := beq_eq_false_iff_ne.2 hne
            have hwfu := (spans_wf HOK.out.1 huG).2
            have a0 := cell_of_row wr gu 0 _ 33 (0, 0) hrow
            have a1 := cell_of_row wr gu 1 _ 33 (0, 0) hrow
            have a2 := cell_of_row wr gu 2 _ 33 (0, 0) hrow
            have k1 := hxs.c1
            dsimp only [Nat.zero_add] at k1
            have hml : ¬ ((G.length : Int) < (m : Int)) := by omega
            have hm64 : (m : Int) ≤ 64 := by have := HNM.out; omega
            have hfw := HFX.out.below hbel
            have HLEN := hide (len_any hfw)
            have HFD2 := hide (fun q0 => find_any (hfw.drewN q0) hwfu)
            have HROW := hide hrow
            have HXS2 := hide (And.intro hxs (And.intro hbel hgg))
            have HUP := hide (And.intro hr1 (And.intro hr2 (And.intro huG hf)))
            clear hth hxs hbel hrow hgg hup hf hr1 hr2 huG hwfu hfw HR2 hne
            obtain ⟨ut, ui, up, us, ue, un⟩ := u2
            unfold spC at *
            simp only [List.getElem?_toArray, List.getElem?_cons_zero, List.getElem?_cons_succ] at a0 a1 a2
            dsimp only at *
            go_wp2_with fail
            refine HLEN.out.mono ?_
            rintro e7 w7 ⟨rfl, q7, rfl⟩
            have a2q : (wr.drewN q7).cell? ⟨gu, 2, none⟩ = some (.int .i64 up) := a2
            go_wp2_with fail
            refine (HFD2.out q7).mono ?_
            rintro e8 w8 ⟨rfl, hb8⟩
            have hb8' : RowKit.Below wr.heap.size wr w8 := (bdrew wr q7).trans hb8
            have hrow8 := (hb8'.block gu (Array.getElem?_eq_some_iff.1 HROW.out).1).trans HROW.out
            have hxs8 := HXS2.out.1.below hb8'
            have hbel8 := HXS2.out.2.1.trans (hb8'.mono HXS2.out.2.1.size)
            obtain ⟨v, hv⟩ : ∃ v, (fnd G up).getD sp0 = v := ⟨_, rfl⟩
            obtain ⟨th3, hth3⟩ : ∃ th, (fnd G up).isSome = th := ⟨_, rfl⟩
            rw [hv, hth3]
            have b0 := cell_of_row w8 gu 0 _ 33 (0, 0) hrow8
            have b1 := cell_of_row w8 gu 1 _ 33 (0, 0) hrow8
            have b2 := cell_of_row w8 gu 2 _ 33 (0, 0) hrow8
            have b3 := cell_of_row w8 gu 3 _ 33 (0, 0) hrow8
            have b4 := cell_of_row w8 gu 4 _ 33 (0, 0) hrow8
            have b5 := cell_of_row w8 gu 5 _ 33 (0, 0) hrow8
            have f0 := frozen_of_row w8 gu 0 _ 33 hrow8
            have f1 := frozen_of_row w8 gu 1 _ 33 hrow8
            have f2 := frozen_of_row w8 gu 2 _ 33 hrow8
            have f3 := frozen_of_row w8 gu 3 _ 33 hrow8
            have f4 := frozen_of_row w8 gu 4 _ 33 hrow8
            have f5 := frozen_of_row w8 gu 5 _ 33 hrow8
            simp only [List.getElem?_toArray, List.getElem?_cons_zero, List.getElem?_cons_succ] at b0 b1 b2 b3 b4 b5
            have HRW8 := hide hrow8
            have H8 := hide (And.intro hxs8 hbel8)
            have HV := hide (And.intro hv hth3)
            have hgXu : X.heap.size ≤ gu := by have := HXS.out; have := HXS2.out.2.2; omega
            have HGX := hide hgXu
            clear hb8 hb8' hrow8 hxs8 hbel8 hv hth3 hgXu a0 a1 a2 a2q k1
            unfold spV
            go_wp2
            go_roundw
            case rel =>
              refine ⟨m + 1, up, th3, rfl, by go_num, hide ⟨HV.out.2, ?_, ?_, ⟨_, six_row HRW8.out _ _ _ _ _ _, ?_⟩, HXS2.out.2.2, fun u' hu' => ?_⟩⟩
              · exact six_at H8.out.1 (by have := HXS2.out.2.2; omega) _ _ _ _ _ _
              · exact bset (bset (bset (bset (bset (bset H8.out.2 HGX.out) HGX.out) HGX.out) HGX.out) HGX.out) HGX.out
              · rw [HV.out.1]
              · have h1 := HOK.out.2 _ HUP.out.2.2.1 u' hu'
                have h2 := HUP.out.1
                exact ⟨by simp only at h1; omega, up_count HOK.out.2 HUP.out.2.2.1 hu' HUP.out.2.1⟩
            case measure =>
              cases th3 with
              | false => have h1 := HUP.out.2.1; have h2 := HNM.out; simp [upM, intOf]; omega
              | true => have h1 := HUP.out.2.1; have h2 := HNM.out; simp [upM, intOf]; omega
      · have HBB := hide HR.out
        go_wp2_with fail
        refine (HA.out _).mono ?_
        rintro e9 w9 ⟨rfl, hb9⟩
        have HBf := hide ((HBX.out.trans (HBB.out.mono HBX.out.size)).trans (hb9.mono (HBX.out.trans (HBB.out.mono HBX.out.size)).size))
        clear hb9
        go_wp2
        go_ret
        exact ⟨rfl, HBf.out⟩
end Go.Proofs.Ytokmmmpijcbknaa
