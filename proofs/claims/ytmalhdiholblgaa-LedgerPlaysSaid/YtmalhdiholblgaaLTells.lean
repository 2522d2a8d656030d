/- tells. -/
import Derived.Test.YtmalhdiholblgaaLFrom
namespace Go.Proofs.Ytmalhdiholblgaa
set_option linter.unusedVariables false
set_option linter.unusedSimpArgs false
open Go.RowKit

/-- Entries of one's own as one may write them: e's cells in block ge. -/
structure MutAt (B : Nat) (w : World) (ge k : Nat) (e : Ec) : Prop where
  c0 : ∃ t, w.cell? ⟨ge, k * 3, none⟩ = some (.int .i64 t)
  f0 : w.frozen? ⟨ge, k * 3, none⟩ = false
  c1 : ∃ t, w.cell? ⟨ge, k * 3 + 1, none⟩ = some (.int .i64 t)
  c2 : w.cell? ⟨ge, k * 3 + 2, none⟩ = some (.slice e.p e.n e.c)
  fr : w.frozen? ⟨ge, k * 3 + 1, none⟩ = false
  dt : ∀ j, j < e.n → ∃ gb, e.p = some ⟨gb, 0, none⟩ ∧ gb ≠ ge ∧ B ≤ gb ∧ (∃ z, w.cell? ⟨gb, j, none⟩ = some (.int .u8 z)) ∧ w.frozen? ⟨gb, j, none⟩ = false
def Mut (B : Nat) (w : World) (ge : Nat) (E : List Ec) : Prop := B ≤ ge ∧ ∀ (k : Nat) e, E[k]? = some e → MutAt B w ge k e
theorem Mut.of {B : Nat} {w : World} {v : Value} {L : List En} (h : OwnEns B w v L) : L = [] ∨ ∃ ge c E, v = .slice (some ⟨ge, 0, none⟩) L.length c ∧ E.length = L.length ∧ Mut B w ge E ∧ ∀ (k : Nat) e, E[k]? = some e → (e.n : Int) ≤ 9223372036854775807 := by
  obtain ⟨E, hE, hD⟩ := h
  rcases hE with ⟨hl, ⟨rfl, h0⟩ | ⟨g, cap, cur, rfl, hB, hh, hc, hm, hs, ht⟩⟩
  · refine .inl (List.eq_nil_of_length_eq_zero ?_)
    rw [← hD.1]
    exact h0
  · have hE2 : OwnE B w (.slice (some ⟨g, 0, none⟩) E.length cap) E := ⟨hl, .inr ⟨g, cap, cur, rfl, hB, hh, hc, hm, hs, ht⟩⟩
    have hmx : maxLen = 9223372036854775807 := rfl
    refine .inr ⟨g, cap, E, by rw [hD.1], hD.1, ⟨hB, fun k e he => ?_⟩, fun k e he => by
      obtain ⟨_, _, ho, _⟩ := hD.2 k e _ he (List.getElem?_eq_getElem (by rw [← hD.1]; exact (List.getElem?_eq_some_iff.1 he).1))
      obtain ⟨_, cb, e3, h3, h4, _⟩ := ho.by_
      injection e3
      omega⟩
    have hkl := (List.getElem?_eq_some_iff.1 he).1
    obtain ⟨g', o', e1, hat⟩ := hE2.ecs.at_ (by omega)
    injection e1 with e1
    injection e1 with e1 e2
    subst e1 e2
    have ha := hat k e he
    have x0 := ha.c0
    have x1 := ha.c1
    have x2 := ha.c2
    rw [Nat.zero_add] at x0 x1 x2
    obtain ⟨_, _, ho, hf, _⟩ := hD.2 k e _ he (List.getElem?_eq_getElem (by rw [← hD.1]; exact hkl))
    refine ⟨⟨_, x0⟩, World.ownsRow.frozenAt hE2 _, ⟨_, x1⟩, x2, World.ownsRow.frozenAt hE2 _, fun j hj => ?_⟩
    rcases ho with ⟨e3, _⟩ | ⟨gb, cb, e3, hBb, hlb, hmb, hcb, hsb, hfb⟩
    · injection e3 with _ e4 _
      omega
    · injection e3 with e4 e5 e6
      have hjc : j < cb := by omega
      have hx := List.getElem?_eq_getElem (l := L[k]'(by rw [← hD.1]; exact hkl) |>.d) (i := j) (by omega)
      refine ⟨gb, e4, fun e7 => ?_, hBb, ⟨_, hcb j _ hx⟩, hfb j hjc⟩
      rcases hf with h0 | hf
      · omega
      · exact hf gb (by rw [e4]; rfl) (by rw [e7]; rfl)
theorem Mut.set {B : Nat} {w : World} {ge : Nat} {E : List Ec} (h : Mut B w ge E) {g j : Nat} {u : Value} (hu : (∃ z z', w.cell? ⟨g, j, none⟩ = some (.int .u8 z) ∧ u = .int .u8 z' ∧ g ≠ ge) ∨ (∃ t t', w.cell? ⟨g, j, none⟩ = some (.int .i64 t) ∧ u = .int .i64 t' ∧ g = ge ∧ j % 3 ≠ 2)) :
    Mut B (w.setCell ⟨g, j, none⟩ u) ge E := by
  refine ⟨h.1, fun k e he => ?_⟩
  obtain ⟨⟨t9, c0⟩, f0, ⟨t, c1⟩, c2, fr, dt⟩ := h.2 k e he
  have fz : ∀ a, (w.setCell ⟨g, j, none⟩ u).frozen? a = w.frozen? a := fun a => by simp
  rcases hu with ⟨z, z', hz, rfl, hne⟩ | ⟨t0, t1, hz, rfl, rfl, hj⟩
  · refine ⟨⟨t9, ?_⟩, (fz _).trans f0, ⟨t, ?_⟩, ?_, (fz _).trans fr, fun i hi => ?_⟩
    · rw [World.cell?_setCell_other _ _ _ _ (by simp [hne])]
      exact c0
    · rw [World.cell?_setCell_other _ _ _ _ (by simp [hne])]
      exact c1
    · rw [World.cell?_setCell_other _ _ _ _ (by simp [hne])]
      exact c2
    · obtain ⟨gb, e1, e2, e3, ⟨y, hy⟩, hf⟩ := dt i hi
      refine ⟨gb, e1, e2, e3, ?_, (fz _).trans hf⟩
      by_cases hq : g = gb ∧ j = i
      · obtain ⟨rfl, rfl⟩ := hq
        exact ⟨z', World.cell?_setCell_same _ _ _ hy⟩
      · refine ⟨y, ?_⟩
        rw [World.cell?_setCell_other _ _ _ _ (by
          intro e9
          injection e9 with e9 e10
          exact hq ⟨e9, e10⟩)]
        exact hy
  · refine ⟨?_, (fz _).trans f0, ?_, ?_, (fz _).trans fr, fun i hi => ?_⟩
    · by_cases hq : j = k * 3
      · subst hq
        exact ⟨t1, World.cell?_setCell_same _ _ _ c0⟩
      · refine ⟨t9, ?_⟩
        rw [World.cell?_setCell_other _ _ _ _ (by
          intro e9
          injection e9 with e9 e10
          exact hq e10)]
        exact c0
    · by_cases hq : j = k * 3 + 1
      · subst hq
        exact ⟨t1, World.cell?_setCell_same _ _ _ c1⟩
      · refine ⟨t, ?_⟩
        rw [World.cell?_setCell_other _ _ _ _ (by
          intro e9
          injection e9 with e9 e10
          exact hq e10)]
        exact c1
    · rw [World.cell?_setCell_other _ _ _ _ (by
        intro e9
        injection e9 with e9 e10
        omega)]
      exact c2
    · obtain ⟨gb, e1, e2, e3, ⟨y, hy⟩, hf⟩ := dt i hi
      refine ⟨gb, e1, e2, e3, ⟨y, ?_⟩, (fz _).trans hf⟩
      rw [World.cell?_setCell_other _ _ _ _ (by
        intro e9
        injection e9 with e9 e10
        exact e2 e9.symm)]
      exact hy

theorem from_all {x : Lg} (h : x.l.length ≤ 12000) : x.from_ (x.ix + 1) 12000 = x.l := by
  unfold Lg.from_
  by_cases h0 : x.l = []
  · rw [if_neg (by rw [h0]; simp), h0]
  · have hp : 0 < x.l.length := List.length_pos_iff.2 h0
    rw [if_pos (by omega), show (x.ix + 1 - x.ix - 1).toNat = 0 by omega, List.drop_zero]
    exact List.take_of_length_le (by simpa using h)
set_option maxRecDepth 200000 in
set_option maxHeartbeats 4000000 in
theorem tells_any {w : World} {gl gx : Nat} {x : Lg} (h : LgIs w gl x) (hx : RgIs w gx x) (h9 : x.l.length ≤ 12000) : Calls Try.prog 20 #[.pointer (some ⟨gl, 0, none⟩), .pointer (some ⟨gx, 0, none⟩)] w fun e w' => e = .returned (.bool true) ∧ Below w.heap.size w w' := by
  have HBA := hide (base_any h)
  have HLA := hide (fun V (hV : Below w.heap.size w V) => last_any (h.below hV))
  have HRL := hide (fun V (hV : Below w.heap.size w V) => refLast_any (hx.below hV))
  have HFR := hide (fun V (hV : Below w.heap.size w V) => from_any (h.below hV) (by omega) (x.ix + 1) 12000 (by unfold fits; omega))
  have hbd := h.bounds
  simp only [from_all h9] at HFR
  have d0 := hx.c0
  have d1 := hx.c1
  obtain ⟨p, c, d2, hens⟩ := hx.c2
  have HD := hide (And.intro d0 (And.intro d1 d2))
  have HEN := hide hens
  obtain ⟨ix, hix⟩ : ∃ ix, x.ix = ix := ⟨_, rfl⟩
  obtain ⟨tm, htm⟩ : ∃ tm, x.tm = tm := ⟨_, rfl⟩
  obtain ⟨L, hL⟩ : ∃ L, x.l = L := ⟨_, rfl⟩
  obtain ⟨a, ha⟩ : ∃ a, x.end_.1 = a := ⟨_, rfl⟩
  obtain ⟨b, hb⟩ : ∃ b, x.end_.2 = b := ⟨_, rfl⟩
  simp only [hix, htm, hL, ha, hb] at HBA HLA HRL HFR HD HEN
  rw [hix] at hbd
  rw [hL] at h9
  obtain ⟨i0, i1, _, _⟩ := hbd
  clear h hx hix htm hL ha hb d0 d1 d2 hens
  go_enter Try.func20, Try.ntmps20
  go_wp2_with fail
  refine HBA.out.mono ?_
  rintro e w2 ⟨rfl, hb2⟩
  have HB2 := hide hb2
  clear hb2
  go_wp2_with fail
  refine (HLA.out _ HB2.out).mono ?_
  rintro e w3 ⟨rfl, hb3⟩
  have HB3 := hide (HB2.out.trans (hb3.mono HB2.out.size))
  clear hb3
  go_wp2_with fail
  refine (HRL.out _ HB3.out).mono ?_
  rintro e w4 ⟨rfl, hb4⟩
  have HB4 := hide (HB3.out.trans (hb4.mono HB3.out.size))
  clear hb4
  go_wp2_with fail
  refine (HFR.out _ HB4.out).mono ?_
  rintro e w5 ⟨v5, rfl, ho5, hb5⟩
  obtain ⟨p5, n5, c5, rfl⟩ := ho5.ens.sl
  have hn5 := ho5.ens.len.1
  subst hn5
  have HB5 := hide (HB4.out.trans (hb5.mono HB4.out.size))
  have HO5 := hide (ho5.mono HB4.out.size)
  have HSM := hide (same_any ho5.ens (HEN.out.below HB5.out))
  have d0 := (HB5.out.cell (lt_of_cell HD.out.1)).trans HD.out.1
  have d1 := (HB5.out.cell (lt_of_cell HD.out.2.1)).trans HD.out.2.1
  have d2 := (HB5.out.cell (lt_of_cell HD.out.2.2)).trans HD.out.2.2
  clear ho5 hb5
  go_wp2_with fail
  refine HSM.out.mono ?_
  rintro e w6 ⟨rfl, hb6⟩
  have HB6 := hide (HB5.out.trans (hb6.mono HB5.out.size))
  have HO6 := hide (HO5.out.below hb6)
  have hl9 : (L.length : Int) ≤ 12000 := by omega
  clear hb6 d0 d1 d2
  rcases Mut.of HO6.out with h0 | ⟨ge, ce, E, hv, hEl, hM, hNl⟩
  · subst h0
    go_wp2_with fail
    go_loopw [13, 68] (fun _ i wr => i = .int .i64 0 ∧ Hid (wr = w6)) (fun _ _ _ => 0)
    case atStart => exact ⟨rfl, hide rfl⟩
    case round =>
      obtain ⟨rfl, HR⟩ := hrel
      have hw := HR.out
      subst wr
      go_wp2
      go_ret
      exact ⟨rfl, HB6.out⟩
  · injection hv with hv1 hv2 hv3
    subst hv1 hv3
    have HM := hide hM
    have HEL := hide hEl
    have HNL : Hid (∀ (k : Nat) e, E[k]? = some e → (e.n : Int) ≤ 9223372036854775807) := hide fun k e he => hNl k e he
    clear hM hEl hNl
    go_wp2_with fail
    go_loopw [13, 14, 68, 77] (fun _ _ i _ wr => ∃ k : Nat, k ≤ L.length ∧ i = .int .i64 k ∧ Hid (Mut w.heap.size wr ge E ∧ Below w.heap.size w wr)) (fun _ _ i _ _ => L.length - (intOf i).toNat)
    case atStart => exact ⟨0, by omega, rfl, hide ⟨HM.out, HB6.out⟩⟩
    case round =>
      obtain ⟨k, hk, rfl, HR⟩ := hrel
      by_cases hlt : k < L.length
      · obtain ⟨e, he⟩ : ∃ e, E[k]? = some e := ⟨_, List.getElem?_eq_getElem (by rw [HEL.out]; exact hlt)⟩
        have HEK := hide he
        obtain ⟨_, _, _, x2, _, hdt⟩ := HR.out.1.2 k e he
        have HDT := hide hdt
        have hdtl : (e.n : Int) ≤ 9223372036854775807 := HNL.out k e he
        obtain ⟨ei, et, ep, en, ec⟩ := e
        dsimp only at x2 hdtl
        have j0 : (0 : Int) ≤ (k : Int) := by omega
        have j1 : (k : Int) < (L.length : Int) := by omega
        clear he hdt
        by_cases hen : en = 0
        · subst hen
          go_wp2_with fail
          go_loopw [14, 77] (fun _ i wi => i = .int .i64 0 ∧ Hid (wi = wr)) (fun _ _ _ => 0)
          case atStart => exact ⟨rfl, hide rfl⟩
          case round =>
            obtain ⟨rfl, HR3⟩ := hrel
            have hw := HR3.out
            have HR2 := HR
            subst hw
            obtain ⟨_, _, ⟨t1, x1⟩, x2, xf, _⟩ := HR2.out.1.2 k _ HEK.out
            have HT := hide (HR2.out.1.set (g := ge) (j := k * 3 + 1) (u := .int .i64 (-7)) (.inr ⟨t1, -7, x1, rfl, rfl, by omega⟩))
            have HTB : Hid (Below w.heap.size w (wr.setCell ⟨ge, k * 3 + 1, none⟩ (.int .i64 (-7)))) := hide (HR2.out.2.grown (grown_set _ _ _ _) HR2.out.2.size fun b hb => by cases hb; exact HR2.out.1.1)
            go_wp2
            go_roundw
            case rel => exact ⟨k + 1, by omega, by go_num, hide ⟨HT.out, HTB.out⟩⟩
            case measure => simp [intOf]; omega
        · obtain ⟨gb, hgb, hne, _, _, _⟩ := HDT.out 0 (by simp only; omega)
          dsimp only at hgb
          subst hgb
          have HNE := hide hne
          clear hne hen
          go_wp2_with fail
          go_loopw [14, 77] (fun _ i wi => ∃ j : Nat, j ≤ en ∧ i = .int .i64 j ∧ Hid (Mut w.heap.size wi ge E ∧ Below w.heap.size w wi)) (fun _ i _ => en - (intOf i).toNat)
          case atStart => exact ⟨0, by omega, rfl, HR⟩
          case round =>
            obtain ⟨j, hj, rfl, HR2⟩ := hrel
            by_cases hjl : j < en
            · obtain ⟨_, _, _, x2, _, hdt⟩ := HR2.out.1.2 k _ HEK.out
              obtain ⟨gb2, hgb2, _, hB2, ⟨z, hz⟩, hfz⟩ := hdt j hjl
              dsimp only at hgb2 x2
              injection hgb2 with hgb2
              injection hgb2 with hgb2 _
              subst hgb2
              have HZ := hide (fun z' => HR2.out.1.set (g := gb) (j := j) (u := .int .u8 z') (.inl ⟨z, z', hz, rfl, HNE.out⟩))
              have HZB := hide (fun z' => (HR2.out.2.grown (grown_set wr gb j (.int .u8 z')) HR2.out.2.size fun b hb => by cases hb; exact hB2 : Below w.heap.size w (wr.setCell ⟨gb, j, none⟩ (.int .u8 z'))))
              have i0 : (0 : Int) ≤ (j : Int) := by omega
              have i1 : (j : Int) < (en : Int) := by omega
              clear hdt
              go_wp2
              go_roundw
              case rel => exact ⟨j + 1, by omega, by go_num, hide ⟨HZ.out _, HZB.out _⟩⟩
              case measure => simp [intOf]; omega
            · clear x2
              obtain ⟨_, _, ⟨t1, x1⟩, x2, xf, _⟩ := HR2.out.1.2 k _ HEK.out
              have HT := hide (HR2.out.1.set (g := ge) (j := k * 3 + 1) (u := .int .i64 (-7)) (.inr ⟨t1, -7, x1, rfl, rfl, by omega⟩))
              have HTB : Hid (Below w.heap.size w (wr.setCell ⟨ge, k * 3 + 1, none⟩ (.int .i64 (-7)))) := hide (HR2.out.2.grown (grown_set _ _ _ _) HR2.out.2.size fun b hb => by cases hb; exact HR2.out.1.1)
              go_wp2
              go_roundw
              case rel => exact ⟨k + 1, by omega, by go_num, hide ⟨HT.out, HTB.out⟩⟩
              case measure => simp [intOf]; omega
      · go_wp2
        go_ret
        exact ⟨rfl, HR.out.2⟩
end Go.Proofs.Ytmalhdiholblgaa
