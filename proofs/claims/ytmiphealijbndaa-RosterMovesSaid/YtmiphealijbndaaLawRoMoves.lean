/- The law RosterMoves. -/
import Derived.Test.YtmiphealijbndaaRLaw
namespace Go.Proofs.Ytmiphealijbndaa
set_option linter.unusedVariables false
set_option linter.unusedSimpArgs false
open Go.RowKit

set_option maxRecDepth 200000 in
set_option maxHeartbeats 4000000 in
theorem lawMoves_any {w : World} {v : Value} {Lv : List Int} (hv : Ns w v Lv) (n : Int) (hn : fits n) : Calls Try.prog 6 #[v, .int .i64 n] w (Good w) := by
  have HAW := hide awake_any
  obtain ⟨pv, nv, cv, rfl⟩ := hv.sl
  have b1 : Below w.heap.size w (w.alloc (.cells #[.slice pv nv cv] 22)) := (Below.refl _ _).alloc (Nat.le_refl _) _
  have HL := hide (light1 hv)
  have HNv := hide (hv.below b1)
  have HFn := hide hn
  have HB := hide b1
  obtain ⟨Y, hY⟩ : ∃ Y, w.alloc (.cells #[.slice pv nv cv] 22) = Y := ⟨_, rfl⟩
  obtain ⟨q, hq⟩ : ∃ q, lightN [Lv] = q := ⟨_, rfl⟩
  rw [hY] at HL HB HNv
  rw [hq] at HL
  have HQ := hide hq
  clear b1 hq hv hn
  go_enter Try.func6, Try.ntmps6
  cases q
  · go_wp2_with fail
    refine HL.out.mono ?_
    rintro e w9 ⟨rfl, rfl⟩
    go_wp2_with fail
    refine (HAW.out _).mono ?_
    rintro e wz ⟨rfl, hbz⟩
    have HBZ := hide (HB.out.trans (hbz.mono HB.out.size))
    clear hbz
    go_wp2
    go_ret
    exact ⟨rfl, HBZ.out⟩
  · go_wp2_with fail
    refine HL.out.mono ?_
    rintro e w9 ⟨rfl, rfl⟩
    have hl9 : Lv.length ≤ 300 := lightN_of HQ.out (by simp)
    have HC := hide (cloneN_any HNv.out (by omega))
    have HL9 := hide hl9
    clear hl9
    go_wp2_with fail
    refine HC.out.mono ?_
    rintro e w2 ⟨v2, rfl, ho2, hb2⟩
    obtain ⟨p2, n2, c2, rfl⟩ := ho2.ns.sl
    have HO2 := hide ho2.ns
    have HV2 := hide (HNv.out.below hb2)
    have HB2 := hide (HB.out.trans (hb2.mono HB.out.size))
    have HJ := hide (join_any ho2.ns (Nat.le_trans HL9.out (by decide)) HFn.out)
    clear ho2 hb2
    go_wp2_with fail
    refine HJ.out.mono ?_
    rintro e w3 ⟨va, rfl, ho3, hb3⟩
    obtain ⟨pa, na, ca, rfl⟩ := ho3.ns.sl
    have HA3 := hide ho3
    have HB3 := hide hb3
    have HE := hide (leave_any (HO2.out.below hb3) (Nat.le_trans HL9.out (by decide)) HFn.out)
    clear ho3 hb3
    go_wp2_with fail
    refine HE.out.mono ?_
    rintro e w4 ⟨vb, rfl, ho4, hb4⟩
    obtain ⟨pb, nb, cb, rfl⟩ := ho4.ns.sl
    have HA4 := hide (HA3.out.below hb4)
    have HB4 := hide (HB3.out.trans (hb4.mono HB3.out.size))
    have HO4 := hide ho4
    have HAB : Hid (∀ g, (Value.slice pa na ca).ownBlock = some g → (Value.slice pb nb cb).ownBlock = none ∨ (Value.slice pb nb cb).ownBlock ≠ some g) := hide fun g hg => by
      rcases e1 : (Value.slice pb nb cb).ownBlock with _ | b
      · exact .inl rfl
      · refine .inr fun e2 => ?_
        injection e2 with e2
        subst e2
        have q1 := (HA3.out.lt b hg).2
        have q2 := (ho4.lt b e1).1
        omega
    have HR1 := hide (refJoin_any (HV2.out.below HB4.out) (Nat.le_trans HL9.out (by decide)) HFn.out)
    clear ho4 hb4
    go_wp2_with fail
    refine HR1.out.mono ?_
    rintro e w5 ⟨vc, rfl, ho5, hb5⟩
    obtain ⟨pc, nc, cc, rfl⟩ := ho5.sl
    have HA5 := hide (HA4.out.below hb5)
    have HB5 := hide (HB4.out.trans (hb5.mono HB4.out.size))
    have HO5 := hide (HO4.out.below hb5)
    have HE1 := hide (equalN_any HA5.out.ns ho5)
    simp only [beq_self_eq_true] at HE1
    clear ho5 hb5
    go_wp2_with fail
    refine HE1.out.mono ?_
    rintro e w6 ⟨rfl, q6, hw6⟩
    have HA6 : Hid (OwnN w2.heap.size w6 (.slice pa na ca) (joinN Lv n)) := hide (by rw [hw6]; exact (show OwnN w2.heap.size w5 _ _ from HA5.out))
    have HO6 : Hid (OwnN w3.heap.size w6 (.slice pb nb cb) (leaveN Lv n)) := hide (by rw [hw6]; exact (show OwnN w3.heap.size w5 _ _ from HO5.out))
    have HB6 : Hid (Below w2.heap.size w2 w6) := hide (by rw [hw6]; exact bel_drewN HB5.out q6)
    have HR2 := hide (refLeave_any (HV2.out.below HB6.out) (Nat.le_trans HL9.out (by decide)) HFn.out)
    clear hw6
    go_wp2_with fail
    refine HR2.out.mono ?_
    rintro e w7 ⟨vd, rfl, ho7, hb7⟩
    obtain ⟨pd, nd, cd, rfl⟩ := ho7.ns.sl
    have HA7 := hide (HA6.out.below hb7)
    have HO7 := hide (HO6.out.below hb7)
    have HB7 := hide (HB6.out.trans (hb7.mono HB6.out.size))
    have HE2 := hide (equalN_any HO7.out.ns ho7.ns)
    simp only [beq_self_eq_true] at HE2
    clear ho7 hb7
    go_wp2_with fail
    refine HE2.out.mono ?_
    rintro e w8 ⟨rfl, q8, hw8⟩
    have HA8 : Hid (OwnN w2.heap.size w8 (.slice pa na ca) (joinN Lv n)) := hide (by rw [hw8]; exact (show OwnN w2.heap.size w7 _ _ from HA7.out))
    have HO8 : Hid (OwnN w2.heap.size w8 (.slice pb nb cb) (leaveN Lv n)) := hide (by rw [hw8]; exact (show OwnN w2.heap.size w7 _ _ from HO7.out.mono HB3.out.size))
    have HB8 : Hid (Below w2.heap.size w2 w8) := hide (by rw [hw8]; exact bel_drewN HB7.out q8)
    have HNA : Hid (na = (joinN Lv n).length ∧ (na : Int) ≤ 1000) := hide (by
      have h1 := HA8.out.ns.len.1
      refine ⟨h1, ?_⟩
      have h2 : (joinN Lv n).length ≤ Lv.length + 1 := by
        unfold joinN
        split
        · omega
        · rw [sortN_length, List.length_append]
          simp
      have := HL9.out
      omega)
    have HNB : Hid (nb = (leaveN Lv n).length ∧ (nb : Int) ≤ 1000) := hide (by
      have h1 := HO8.out.ns.len.1
      refine ⟨h1, ?_⟩
      have h2 : (leaveN Lv n).length ≤ Lv.length := List.length_filter_le _ _
      have := HL9.out
      omega)
    have hna := HNA.out.2
    have hnb := HNB.out.2
    clear hw8
    go_wp2_with fail
    go_loopw [9, 38] (fun _ i wr => ∃ k : Nat, k ≤ na ∧ i = .int .i64 k ∧ Hid (∃ M : List Int, M.length = na ∧ OwnN w2.heap.size wr (.slice pa na ca) M ∧ OwnN w2.heap.size wr (.slice pb nb cb) (leaveN Lv n) ∧ Below w2.heap.size w2 wr)) (fun _ i _ => na - (intOf i).toNat)
    case atStart => exact ⟨0, by omega, rfl, hide ⟨_, HNA.out.1.symm, HA8.out, HO8.out, HB8.out⟩⟩
    case round =>
      obtain ⟨k, hk, rfl, HR⟩ := hrel
      by_cases hlt : k < na
      · obtain ⟨M, hM, h1, h2, h3'⟩ := HR.out
        have HI : Hid (OwnN w2.heap.size wr (.slice pa na ca) M ∧ OwnN w2.heap.size wr (.slice pb nb cb) (leaveN Lv n) ∧ Below w2.heap.size w2 wr) := hide ⟨h1, h2, h3'⟩
        clear h1 h2 h3' HR
        obtain ⟨gx, ox, e3, h3⟩ := HI.out.1.ns.at_ (by omega)
        have hgx : ∃ g, pa = some ⟨g, 0, none⟩ := by
          rcases HI.out.1.1.2 with ⟨e4, _⟩ | ⟨g4, c4, cur4, e4, _⟩
          · injection e4 with e4
            rw [e4] at e3
            cases e3
          · injection e4 with e4
            exact ⟨g4, e4⟩
        obtain ⟨ga, rfl⟩ := hgx
        injection e3 with e3
        injection e3 with e3 e4
        subst e3 e4
        obtain ⟨y, hy⟩ : ∃ y, M[k]? = some y := ⟨_, List.getElem?_eq_getElem (by omega)⟩
        have hcell := h3 k y hy
        rw [Nat.zero_add] at hcell
        have hfr : wr.frozen? ⟨ga, k, none⟩ = false := by
          have h1 := HI.out.1.1
          rw [hM] at h1
          exact World.ownsRow.frozenAt h1 k
        have HST := hide (own_setN HI.out.1 (i := k) (by omega) (-7) (by unfold fits; omega))
        have HSL : Hid ((M.set k (-7)).length = na) := hide (by rw [List.length_set]; exact hM)
        clear h3 hy
        clear hM
        go_wp2
        go_roundw
        case rel => exact ⟨k + 1, by omega, by go_num, hide ⟨_, HSL.out, HST.out.1, HI.out.2.1.grown HST.out.2 (HAB.out ga rfl), HI.out.2.2.grown HST.out.2 HI.out.2.2.size fun b hb => by cases hb; exact (HI.out.1.lt ga rfl).1⟩⟩
        case measure => simp [intOf]; omega
      · have HI : Hid (OwnN w2.heap.size wr (.slice pb nb cb) (leaveN Lv n) ∧ Below w2.heap.size w2 wr) := hide (by
          obtain ⟨M, hM, h1, h2, h3'⟩ := HR.out
          exact ⟨h2, h3'⟩)
        clear HR
        go_wp2_with fail
        go_loopw [10, 47] (fun _ i wi => ∃ k : Nat, k ≤ nb ∧ i = .int .i64 k ∧ Hid (∃ M : List Int, M.length = nb ∧ OwnN w2.heap.size wi (.slice pb nb cb) M ∧ Below w2.heap.size w2 wi)) (fun _ i _ => nb - (intOf i).toNat)
        case atStart => exact ⟨0, by omega, rfl, hide ⟨_, HNB.out.1.symm, HI.out.1, HI.out.2⟩⟩
        case round =>
          clear HI
          obtain ⟨k, hk, rfl, HR⟩ := hrel
          by_cases hlt : k < nb
          · obtain ⟨M, hM, h1, h3'⟩ := HR.out
            have HI : Hid (OwnN w2.heap.size wr (.slice pb nb cb) M ∧ Below w2.heap.size w2 wr) := hide ⟨h1, h3'⟩
            clear h1 h3' HR
            obtain ⟨gx, ox, e3, h3⟩ := HI.out.1.ns.at_ (by omega)
            have hgx : ∃ g, pb = some ⟨g, 0, none⟩ := by
              rcases HI.out.1.1.2 with ⟨e4, _⟩ | ⟨g4, c4, cur4, e4, _⟩
              · injection e4 with e4
                rw [e4] at e3
                cases e3
              · injection e4 with e4
                exact ⟨g4, e4⟩
            obtain ⟨ga, rfl⟩ := hgx
            injection e3 with e3
            injection e3 with e3 e4
            subst e3 e4
            obtain ⟨y, hy⟩ : ∃ y, M[k]? = some y := ⟨_, List.getElem?_eq_getElem (by omega)⟩
            have hcell := h3 k y hy
            rw [Nat.zero_add] at hcell
            have hfr : wr.frozen? ⟨ga, k, none⟩ = false := by
              have h1 := HI.out.1.1
              rw [hM] at h1
              exact World.ownsRow.frozenAt h1 k
            have HST := hide (own_setN HI.out.1 (i := k) (by omega) (-8) (by unfold fits; omega))
            have HSL : Hid ((M.set k (-8)).length = nb) := hide (by rw [List.length_set]; exact hM)
            clear h3 hy
            clear hM
            go_wp2
            go_roundw
            case rel => exact ⟨k + 1, by omega, by go_num, hide ⟨_, HSL.out, HST.out.1, HI.out.2.grown HST.out.2 HI.out.2.size fun b hb => by cases hb; exact (HI.out.1.lt ga rfl).1⟩⟩
            case measure => simp [intOf]; omega
          · have HI : Hid (Below w2.heap.size w2 wr) := hide (by
              obtain ⟨M, hM, h1, h3'⟩ := HR.out
              exact h3')
            have HE3 := hide (equalN_any (HO2.out.below HI.out) (HV2.out.below HI.out))
            simp only [beq_self_eq_true] at HE3
            clear HR
            go_wp2_with fail
            refine HE3.out.mono ?_
            rintro e w9 ⟨rfl, q9, hw9⟩
            have HB9 : Hid (Below w.heap.size w w9) := hide (by
              rw [hw9]
              exact bel_drewN (HB2.out.trans (HI.out.mono HB2.out.size)) q9)
            clear hw9
            go_wp2_with fail
            refine (HAW.out _).mono ?_
            rintro e wz ⟨rfl, hbz⟩
            have HBZ := hide (HB9.out.trans (hbz.mono HB9.out.size))
            clear hbz
            go_wp2
            go_ret
            exact ⟨rfl, HBZ.out⟩
end Go.Proofs.Ytmiphealijbndaa
