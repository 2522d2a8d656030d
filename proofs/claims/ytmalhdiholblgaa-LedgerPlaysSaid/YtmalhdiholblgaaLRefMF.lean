/- The document's Merge: what comes lies in an argument. -/
import Derived.Test.YtmalhdiholblgaaLRgO
namespace Go.Proofs.Ytmalhdiholblgaa
set_option linter.unusedVariables false
set_option linter.unusedSimpArgs false
open Go.RowKit

def RMrgF (w0 w : World) (R : Int × List En × Bool) (e : Ending) (w' : World) : Prop := (∃ v, e = .returned (.tuple #[.int .i64 R.1, v, .bool R.2.2]) ∧ Ens w0 v R.2.1) ∧ Below w.heap.size w w'
theorem RMrgF.mk {w0 w w' : World} {R : Int × List En × Bool} {a : Int} {v : Value} {q : Bool} {L : List En} (h : R = (a, L, q)) (ho : Ens w0 v L) (hb : Below w.heap.size w w') : RMrgF w0 w R (.returned (.tuple #[.int .i64 a, v, .bool q])) w' := by
  rw [h]
  exact ⟨⟨v, rfl, ho⟩, hb⟩
set_option maxRecDepth 200000 in
set_option maxHeartbeats 4000000 in
theorem refMergeF_any {w0 w : World} {g : Nat} {x : Lg} (h : RgIs w g x) {i t : Int} {v : Value} {L : List En} (hv0 : Ens w0 v L) (hb0 : Below w0.heap.size w0 w) (hi : fits i) (h6 : L.length ≤ 100000) : Calls Try.prog 15 #[.pointer (some ⟨g, 0, none⟩), .int .i64 i, .int .i64 t, v] w (RMrgF w0 w (mergeI x i t L)) := by
  have hv := hv0.below hb0
  obtain ⟨p, n, c, rfl⟩ := hv.sl
  have HV0 := hide hv0
  clear hv0 hb0
  have HLA := hide (refLast_any h)
  have HATI := hide (fun V (hV : Below w.heap.size w V) => refAt_any (h.below hV) i)
  have HATE := hide (fun V (hV : Below w.heap.size w V) (m : Int) => refAt_any (h.below hV) m)
  have HRI := hide (fun V (hV : Below w.heap.size w V) => refRises_any (tm := t) (hv.below hV) hi h6)
  have hend := Lg.end_1 h.ok
  have HMR := hide (meets_ref h.ok i t L)
  have hbd := good_le h.ok.good
  have d0 := h.c0
  have d1 := h.c1
  have HD := hide (And.intro d0 d1)
  have HV := hide hv
  obtain ⟨hn, hnc, hnm⟩ := hv.len
  subst hn
  rw [hend] at HLA
  obtain ⟨a, ha⟩ : ∃ a, x.ix + (x.l.length : Int) = a := ⟨_, rfl⟩
  obtain ⟨b, hb⟩ : ∃ b, x.end_.2 = b := ⟨_, rfl⟩
  obtain ⟨ta, hta⟩ : ∃ ta, (x.at_ i).1 = ta := ⟨_, rfl⟩
  obtain ⟨oa, hoa⟩ : ∃ oa, (x.at_ i).2 = oa := ⟨_, rfl⟩
  obtain ⟨qr, hqr⟩ : ∃ q, rises i t L = q := ⟨_, rfl⟩
  rw [ha, hb] at HLA
  rw [ha, hta, hqr] at HMR
  simp only [hta, hoa] at HATI
  simp only [hqr] at HRI
  obtain ⟨ix, hix⟩ : ∃ ix, x.ix = ix := ⟨_, rfl⟩
  obtain ⟨tm, htm⟩ : ∃ tm, x.tm = tm := ⟨_, rfl⟩
  rw [hix] at hbd HMR d0 HD
  rw [htm] at d1 HD
  have HII := hide (And.intro hix htm)
  obtain ⟨i0, i1, _, _⟩ := hbd
  clear h hv hend hb hta hoa hqr hix htm ha
  have h9 : (L.length : Int) ≤ 100000 := by omega
  obtain ⟨q1, e1⟩ : ∃ q, decide (a < i) = q := ⟨_, rfl⟩
  obtain ⟨q2, e2⟩ : ∃ q, decide (ix ≤ i) = q := ⟨_, rfl⟩
  obtain ⟨q3, e3⟩ : ∃ q, (ta != t) = q := ⟨_, rfl⟩
  rw [e1, e2, e3] at HMR
  go_enter Try.func15, Try.ntmps15
  go_wp2_with fail
  refine HLA.out.mono ?_
  rintro e w2 ⟨rfl, hb2⟩
  have HB2 := hide hb2
  clear hb2
  go_wp2_with fail
  refine (HATI.out _ HB2.out).mono ?_
  rintro e w3 ⟨rfl, hb3⟩
  have HB3 := hide (HB2.out.trans (hb3.mono HB2.out.size))
  clear hb3
  go_wp2_with fail
  refine (HRI.out _ HB3.out).mono ?_
  rintro e w4 ⟨rfl, hb4⟩
  have HB4 := hide (HB3.out.trans (hb4.mono HB3.out.size))
  clear hb4 d0 d1
  have d0 := (HB4.out.cell (lt_of_cell HD.out.1)).trans HD.out.1
  have d1 := (HB4.out.cell (lt_of_cell HD.out.2)).trans HD.out.2
  cases qr
  · have HX : Hid (mergeI x i t L = (0, [], false)) := hide (by unfold mergeI; rw [HMR.out]; simp)
    clear HMR
    go_wp2
    exact bodyPost_ret (v := .tuple #[.int .i64 0, .slice none 0 0, .bool false]) (by simp [results, Try.results15, go_sem]) rfl (RMrgF.mk HX.out (Ens.nil _) HB4.out)
  · cases q1
    · cases q2
      · clear e3
        have HME : Hid (meetsI x i t L = true) := hide (by rw [HMR.out]; simp)
        clear HMR
        go_wp2_with fail
        go_loopw [15, 16, 17, 18, 56] (fun _ _ _ _ j wr => ∃ k : Nat, k ≤ L.length ∧ j = .int .i64 k ∧ Hid ((∀ (j : Nat) e, j < k → L[j]? = some e → passI x e.i e.t = true) ∧ Below w.heap.size w wr)) (fun _ _ _ _ j _ => L.length - (intOf j).toNat)
        case atStart => exact ⟨0, by omega, rfl, hide ⟨fun j e hj => by omega, HB4.out⟩⟩
        case round =>
          clear d0 d1
          obtain ⟨k, hk, rfl, HR⟩ := hrel
          by_cases hlt : k < L.length
          · obtain ⟨e, he⟩ : ∃ e, L[k]? = some e := ⟨_, List.getElem?_eq_getElem hlt⟩
            have hVr := HV.out.below HR.out.2
            obtain ⟨g2, o2, pd, nd, cd, rfl, hat, hby, hnd⟩ := hVr.at_ he
            have HSUF := hide (HV0.out.suf hlt)
            obtain ⟨oo, hoo⟩ : ∃ oo, o2 + k * 3 = oo := ⟨_, rfl⟩
            rw [hoo] at hat HSUF
            have c0 := hat.c0
            have c1 := hat.c1
            have c2 := hat.c2
            dsimp only at c0 c1 c2
            have HEL := hide he
            obtain ⟨ei, hei⟩ : ∃ ei, e.i = ei := ⟨_, rfl⟩
            obtain ⟨et, het⟩ : ∃ et, e.t = et := ⟨_, rfl⟩
            rw [hei] at c0
            rw [het] at c1
            have HEE := hide (And.intro hei het)
            have bZ : Below wr.heap.size wr (wr.alloc (.cells #[.int .i64 ei, .int .i64 et, .slice pd nd cd] 48)) := (Below.refl _ _).alloc (Nat.le_refl _) _
            have hN0 : EcAt (wr.alloc (.cells #[.int .i64 ei, .int .i64 et, .slice pd nd cd] 48)) wr.heap.size 0 ⟨ei, et, pd, nd, cd⟩ := fun j u hj => by
              rw [Nat.zero_add, cell_of_row _ wr.heap.size _ _ _ (0, 0) (heap_alloc_new wr _)]
              simpa [ecC] using hj
            obtain ⟨Z, hZ⟩ : ∃ Z, wr.alloc (.cells #[.int .i64 ei, .int .i64 et, .slice pd nd cd] 48) = Z := ⟨_, rfl⟩
            rw [hZ] at bZ hN0
            have z0 := hN0.c0
            have z1 := hN0.c1
            rw [Nat.zero_add] at z1
            dsimp only at z0 z1
            have HZZ := hide (And.intro z0 z1)
            have HBZ := hide (HR.out.2.trans (bZ.mono HR.out.2.size))
            have HZR := hide bZ
            have HAT := hide (HATE.out Z HBZ.out ei)
            obtain ⟨te, hte⟩ : ∃ te, (x.at_ ei).1 = te := ⟨_, rfl⟩
            obtain ⟨oe, hoe⟩ : ∃ oe, (x.at_ ei).2 = oe := ⟨_, rfl⟩
            rw [hte, hoe] at HAT
            have hpass : passI x e.i e.t = (decide (ei ≤ ix) || (oe && (te == et))) := by
              unfold passI agreesI
              rw [hei, het, hte, hoe, HII.out.1]
            have HPASS := hide hpass
            have HOE : Hid (ix < ei → hasI x ei = oe) := hide fun hlt2 => by
              rw [← hoe, at_in, HII.out.1, decide_eq_false (by omega), Bool.false_or]
            have k0 : (0 : Int) ≤ (k : Int) := by omega
            have k1 : (k : Int) ≤ (L.length : Int) := by omega
            have k2 : (L.length : Int) ≤ (c : Int) := by omega
            have k3 : ¬ c = k := by omega
            have k4 : (c : Int) ≤ 9223372036854775807 := by unfold maxLen at hnm; omega
            clear he hat hby hnd hei het bZ hN0 hte hoe hpass hVr
            go_wp2_with fail
            refine HAT.out.mono ?_
            rintro e9 w5 ⟨rfl, hb5⟩
            have HB5 := hide (HBZ.out.trans (hb5.mono HBZ.out.size))
            have HB5R : Hid (Below wr.heap.size wr w5) := hide (HZR.out.trans (hb5.mono HZR.out.size))
            have y0 := (hb5.cell (lt_of_cell HZZ.out.1)).trans HZZ.out.1
            have y1 := (hb5.cell (lt_of_cell HZZ.out.2)).trans HZZ.out.2
            have d0 := (HB5.out.cell (lt_of_cell HD.out.1)).trans HD.out.1
            have d1 := (HB5.out.cell (lt_of_cell HD.out.2)).trans HD.out.2
            clear hb5 z0 z1 c0 c1 c2 hZ
            obtain ⟨f1, g1⟩ : ∃ q, decide (ei ≤ ix) = q := ⟨_, rfl⟩
            obtain ⟨f2, g2'⟩ : ∃ q, (te == et) = q := ⟨_, rfl⟩
            rw [g1, g2'] at HPASS
            by_cases hp : (f1 || (oe && f2)) = true
            · have HNX : Hid (∀ (j : Nat) e, j < k + 1 → L[j]? = some e → passI x e.i e.t = true) := hide fun j e' hj h1 => by
                by_cases ej : j = k
                · subst ej
                  have := HEL.out.symm.trans h1
                  injection this with this
                  subst this
                  rw [HPASS.out]
                  exact hp
                · exact HR.out.1 j e' (by omega) h1
              cases f1
              · cases oe
                · simp at hp
                · cases f2
                  · simp at hp
                  · clear hp
                    go_wp2_with fail
                    go_quiet (fail)
                    go_wp2
                    go_roundw
                    case rel => exact ⟨k + 1, by omega, by go_num, hide ⟨HNX.out, bel_drewN HB5.out _⟩⟩
                    case measure => simp [intOf]; omega
              · clear hp
                go_wp2_with fail
                go_quiet (fail)
                go_wp2
                go_roundw
                case rel => exact ⟨k + 1, by omega, by go_num, hide ⟨HNX.out, bel_drewN HB5.out _⟩⟩
                case measure => simp [intOf]; omega
            · have hf1 : f1 = false := by
                cases f1
                · rfl
                · simp at hp
              subst hf1
              have HLT : Hid (ix < ei) := hide (by
                have := of_decide_eq_false g1
                omega)
              have HFN : Hid (firstNew x L = some k) := hide (by
                unfold firstNew
                refine List.findIdx?_eq_some_iff_getElem.2 ⟨hlt, ?_, fun j hj => ?_⟩
                · have h1 := List.getElem?_eq_getElem hlt
                  rw [HEL.out] at h1
                  injection h1 with h1
                  rw [← h1, HPASS.out]
                  revert hp
                  cases oe <;> cases f2 <;> simp
                · have h1 := HR.out.1 j _ hj (List.getElem?_eq_getElem (by omega))
                  simp [h1])
              obtain ⟨f5, g5⟩ : ∃ q, (ei == ix + 1) = q := ⟨_, rfl⟩
              obtain ⟨f6, g6⟩ : ∃ q, decide (et < tm) = q := ⟨_, rfl⟩
              have HX0 : Hid (mergeI x i t L = if f5 && f6 then (0, [], false) else (if oe then ei else 0, L.drop k, true)) := hide (by
                unfold mergeI
                rw [HME.out, HFN.out]
                simp only [HEL.out, if_true]
                rw [HEE.out.1, HEE.out.2, HII.out.1, HII.out.2, HOE.out HLT.out, ← g5, ← g6]
                by_cases a1 : ei = ix + 1 <;> by_cases a2 : et < tm <;> simp [a1, a2])
              have hp2 : (oe && f2) = false := by simpa using hp
              cases f5
              · cases oe
                · have HX : Hid (mergeI x i t L = (0, L.drop k, true)) := hide (by rw [HX0.out]; rfl)
                  clear HX0 hp hp2 g6 g2'
                  go_wp2_with fail
                  go_quiet (fail)
                  go_wp2_with fail
                  go_quiet (fail)
                  go_wp2_with fail
                  go_quiet (fail)
                  go_wp2
                  exact bodyPost_ret (v := .tuple #[.int .i64 0, .slice (some ⟨g2, oo, none⟩) (L.length - k) (c - k), .bool true]) (by simp [results, Try.results15, go_sem]) rfl (RMrgF.mk HX.out HSUF.out (by first | exact bel_drewN (by first | exact bel_drewN (bel_drewN (bel_drewN HB5.out _) _) _ | exact bel_drewN (bel_drewN HB5.out _) _ | exact bel_drewN HB5.out _) _ | exact bel_drewN (bel_drewN HB5.out _) _ | exact bel_drewN HB5.out _))
                · have hf2 : f2 = false := by simpa using hp2
                  subst hf2
                  clear hp hp2
                  have HX : Hid (mergeI x i t L = (ei, L.drop k, true)) := hide (by rw [HX0.out]; rfl)
                  clear HX0 g6
                  go_wp2_with fail
                  go_quiet (fail)
                  go_wp2_with fail
                  go_quiet (fail)
                  go_wp2_with fail
                  go_quiet (fail)
                  go_wp2
                  exact bodyPost_ret (v := .tuple #[.int .i64 ei, .slice (some ⟨g2, oo, none⟩) (L.length - k) (c - k), .bool true]) (by simp [results, Try.results15, go_sem]) rfl (RMrgF.mk HX.out HSUF.out (by first | exact bel_drewN (by first | exact bel_drewN (bel_drewN (bel_drewN HB5.out _) _) _ | exact bel_drewN (bel_drewN HB5.out _) _ | exact bel_drewN HB5.out _) _ | exact bel_drewN (bel_drewN HB5.out _) _ | exact bel_drewN HB5.out _))
              · cases f6
                · cases oe
                  · have HX : Hid (mergeI x i t L = (0, L.drop k, true)) := hide (by rw [HX0.out]; rfl)
                    clear HX0 hp hp2 g2'
                    go_wp2_with fail
                    go_quiet (fail)
                    go_wp2_with fail
                    go_quiet (fail)
                    go_wp2_with fail
                    go_quiet (fail)
                    go_wp2
                    exact bodyPost_ret (v := .tuple #[.int .i64 0, .slice (some ⟨g2, oo, none⟩) (L.length - k) (c - k), .bool true]) (by simp [results, Try.results15, go_sem]) rfl (RMrgF.mk HX.out HSUF.out (by first | exact bel_drewN (by first | exact bel_drewN (bel_drewN (bel_drewN HB5.out _) _) _ | exact bel_drewN (bel_drewN HB5.out _) _ | exact bel_drewN HB5.out _) _ | exact bel_drewN (bel_drewN HB5.out _) _ | exact bel_drewN HB5.out _))
                  · have hf2 : f2 = false := by simpa using hp2
                    subst hf2
                    clear hp hp2
                    have HX : Hid (mergeI x i t L = (ei, L.drop k, true)) := hide (by rw [HX0.out]; rfl)
                    clear HX0
                    go_wp2_with fail
                    go_quiet (fail)
                    go_wp2_with fail
                    go_quiet (fail)
                    go_wp2_with fail
                    go_quiet (fail)
                    go_wp2
                    exact bodyPost_ret (v := .tuple #[.int .i64 ei, .slice (some ⟨g2, oo, none⟩) (L.length - k) (c - k), .bool true]) (by simp [results, Try.results15, go_sem]) rfl (RMrgF.mk HX.out HSUF.out (by first | exact bel_drewN (by first | exact bel_drewN (bel_drewN (bel_drewN HB5.out _) _) _ | exact bel_drewN (bel_drewN HB5.out _) _ | exact bel_drewN HB5.out _) _ | exact bel_drewN (bel_drewN HB5.out _) _ | exact bel_drewN HB5.out _))
                · have HX : Hid (mergeI x i t L = (0, [], false)) := hide (by rw [HX0.out]; rfl)
                  cases oe
                  · clear hp hp2 g2'
                    go_wp2_with fail
                    go_quiet (fail)
                    go_wp2_with fail
                    go_quiet (fail)
                    go_wp2
                    exact bodyPost_ret (v := .tuple #[.int .i64 0, .slice none 0 0, .bool false]) (by simp [results, Try.results15, go_sem]) rfl (RMrgF.mk HX.out (Ens.nil _) (by first | exact bel_drewN (bel_drewN (bel_drewN HB5.out _) _) _ | exact bel_drewN (bel_drewN HB5.out _) _ | exact bel_drewN HB5.out _))
                  · have hf2 : f2 = false := by simpa using hp2
                    subst hf2
                    clear hp hp2
                    go_wp2_with fail
                    go_quiet (fail)
                    go_wp2_with fail
                    go_quiet (fail)
                    go_wp2
                    exact bodyPost_ret (v := .tuple #[.int .i64 0, .slice none 0 0, .bool false]) (by simp [results, Try.results15, go_sem]) rfl (RMrgF.mk HX.out (Ens.nil _) (by first | exact bel_drewN (bel_drewN (bel_drewN HB5.out _) _) _ | exact bel_drewN (bel_drewN HB5.out _) _ | exact bel_drewN HB5.out _))
          · have HX : Hid (mergeI x i t L = (0, [], true)) := hide (by
              unfold mergeI
              have : firstNew x L = none := List.findIdx?_eq_none_iff.2 fun e he => by
                obtain ⟨j, hj⟩ := List.mem_iff_getElem?.1 he
                have := HR.out.1 j e (by have := (List.getElem?_eq_some_iff.1 hj).1; omega) hj
                simp [this]
              rw [HME.out, this]
              rfl)
            go_wp2
            exact bodyPost_ret (v := .tuple #[.int .i64 0, .slice none 0 0, .bool true]) (by simp [results, Try.results15, go_sem]) rfl (RMrgF.mk HX.out (Ens.nil _) HR.out.2)
      · cases q3
        · have HME : Hid (meetsI x i t L = true) := hide (by rw [HMR.out]; simp)
          clear HMR
          go_wp2_with fail
          go_loopw [15, 16, 17, 18, 56] (fun _ _ _ _ j wr => ∃ k : Nat, k ≤ L.length ∧ j = .int .i64 k ∧ Hid ((∀ (j : Nat) e, j < k → L[j]? = some e → passI x e.i e.t = true) ∧ Below w.heap.size w wr)) (fun _ _ _ _ j _ => L.length - (intOf j).toNat)
          case atStart => exact ⟨0, by omega, rfl, hide ⟨fun j e hj => by omega, HB4.out⟩⟩
          case round =>
            clear d0 d1
            obtain ⟨k, hk, rfl, HR⟩ := hrel
            by_cases hlt : k < L.length
            · obtain ⟨e, he⟩ : ∃ e, L[k]? = some e := ⟨_, List.getElem?_eq_getElem hlt⟩
              have hVr := HV.out.below HR.out.2
              obtain ⟨g2, o2, pd, nd, cd, rfl, hat, hby, hnd⟩ := hVr.at_ he
              have HSUF := hide (HV0.out.suf hlt)
              obtain ⟨oo, hoo⟩ : ∃ oo, o2 + k * 3 = oo := ⟨_, rfl⟩
              rw [hoo] at hat HSUF
              have c0 := hat.c0
              have c1 := hat.c1
              have c2 := hat.c2
              dsimp only at c0 c1 c2
              have HEL := hide he
              obtain ⟨ei, hei⟩ : ∃ ei, e.i = ei := ⟨_, rfl⟩
              obtain ⟨et, het⟩ : ∃ et, e.t = et := ⟨_, rfl⟩
              rw [hei] at c0
              rw [het] at c1
              have HEE := hide (And.intro hei het)
              have bZ : Below wr.heap.size wr (wr.alloc (.cells #[.int .i64 ei, .int .i64 et, .slice pd nd cd] 48)) := (Below.refl _ _).alloc (Nat.le_refl _) _
              have hN0 : EcAt (wr.alloc (.cells #[.int .i64 ei, .int .i64 et, .slice pd nd cd] 48)) wr.heap.size 0 ⟨ei, et, pd, nd, cd⟩ := fun j u hj => by
                rw [Nat.zero_add, cell_of_row _ wr.heap.size _ _ _ (0, 0) (heap_alloc_new wr _)]
                simpa [ecC] using hj
              obtain ⟨Z, hZ⟩ : ∃ Z, wr.alloc (.cells #[.int .i64 ei, .int .i64 et, .slice pd nd cd] 48) = Z := ⟨_, rfl⟩
              rw [hZ] at bZ hN0
              have z0 := hN0.c0
              have z1 := hN0.c1
              rw [Nat.zero_add] at z1
              dsimp only at z0 z1
              have HZZ := hide (And.intro z0 z1)
              have HBZ := hide (HR.out.2.trans (bZ.mono HR.out.2.size))
              have HZR := hide bZ
              have HAT := hide (HATE.out Z HBZ.out ei)
              obtain ⟨te, hte⟩ : ∃ te, (x.at_ ei).1 = te := ⟨_, rfl⟩
              obtain ⟨oe, hoe⟩ : ∃ oe, (x.at_ ei).2 = oe := ⟨_, rfl⟩
              rw [hte, hoe] at HAT
              have hpass : passI x e.i e.t = (decide (ei ≤ ix) || (oe && (te == et))) := by
                unfold passI agreesI
                rw [hei, het, hte, hoe, HII.out.1]
              have HPASS := hide hpass
              have HOE : Hid (ix < ei → hasI x ei = oe) := hide fun hlt2 => by
                rw [← hoe, at_in, HII.out.1, decide_eq_false (by omega), Bool.false_or]
              have k0 : (0 : Int) ≤ (k : Int) := by omega
              have k1 : (k : Int) ≤ (L.length : Int) := by omega
              have k2 : (L.length : Int) ≤ (c : Int) := by omega
              have k3 : ¬ c = k := by omega
              have k4 : (c : Int) ≤ 9223372036854775807 := by unfold maxLen at hnm; omega
              clear he hat hby hnd hei het bZ hN0 hte hoe hpass hVr
              go_wp2_with fail
              refine HAT.out.mono ?_
              rintro e9 w5 ⟨rfl, hb5⟩
              have HB5 := hide (HBZ.out.trans (hb5.mono HBZ.out.size))
              have HB5R : Hid (Below wr.heap.size wr w5) := hide (HZR.out.trans (hb5.mono HZR.out.size))
              have y0 := (hb5.cell (lt_of_cell HZZ.out.1)).trans HZZ.out.1
              have y1 := (hb5.cell (lt_of_cell HZZ.out.2)).trans HZZ.out.2
              have d0 := (HB5.out.cell (lt_of_cell HD.out.1)).trans HD.out.1
              have d1 := (HB5.out.cell (lt_of_cell HD.out.2)).trans HD.out.2
              clear hb5 z0 z1 c0 c1 c2 hZ
              obtain ⟨f1, g1⟩ : ∃ q, decide (ei ≤ ix) = q := ⟨_, rfl⟩
              obtain ⟨f2, g2'⟩ : ∃ q, (te == et) = q := ⟨_, rfl⟩
              rw [g1, g2'] at HPASS
              by_cases hp : (f1 || (oe && f2)) = true
              · have HNX : Hid (∀ (j : Nat) e, j < k + 1 → L[j]? = some e → passI x e.i e.t = true) := hide fun j e' hj h1 => by
                  by_cases ej : j = k
                  · subst ej
                    have := HEL.out.symm.trans h1
                    injection this with this
                    subst this
                    rw [HPASS.out]
                    exact hp
                  · exact HR.out.1 j e' (by omega) h1
                cases f1
                · cases oe
                  · simp at hp
                  · cases f2
                    · simp at hp
                    · clear hp
                      go_wp2_with fail
                      go_quiet (fail)
                      go_wp2
                      go_roundw
                      case rel => exact ⟨k + 1, by omega, by go_num, hide ⟨HNX.out, bel_drewN HB5.out _⟩⟩
                      case measure => simp [intOf]; omega
                · clear hp
                  go_wp2_with fail
                  go_quiet (fail)
                  go_wp2
                  go_roundw
                  case rel => exact ⟨k + 1, by omega, by go_num, hide ⟨HNX.out, bel_drewN HB5.out _⟩⟩
                  case measure => simp [intOf]; omega
              · have hf1 : f1 = false := by
                  cases f1
                  · rfl
                  · simp at hp
                subst hf1
                have HLT : Hid (ix < ei) := hide (by
                  have := of_decide_eq_false g1
                  omega)
                have HFN : Hid (firstNew x L = some k) := hide (by
                  unfold firstNew
                  refine List.findIdx?_eq_some_iff_getElem.2 ⟨hlt, ?_, fun j hj => ?_⟩
                  · have h1 := List.getElem?_eq_getElem hlt
                    rw [HEL.out] at h1
                    injection h1 with h1
                    rw [← h1, HPASS.out]
                    revert hp
                    cases oe <;> cases f2 <;> simp
                  · have h1 := HR.out.1 j _ hj (List.getElem?_eq_getElem (by omega))
                    simp [h1])
                obtain ⟨f5, g5⟩ : ∃ q, (ei == ix + 1) = q := ⟨_, rfl⟩
                obtain ⟨f6, g6⟩ : ∃ q, decide (et < tm) = q := ⟨_, rfl⟩
                have HX0 : Hid (mergeI x i t L = if f5 && f6 then (0, [], false) else (if oe then ei else 0, L.drop k, true)) := hide (by
                  unfold mergeI
                  rw [HME.out, HFN.out]
                  simp only [HEL.out, if_true]
                  rw [HEE.out.1, HEE.out.2, HII.out.1, HII.out.2, HOE.out HLT.out, ← g5, ← g6]
                  by_cases a1 : ei = ix + 1 <;> by_cases a2 : et < tm <;> simp [a1, a2])
                have hp2 : (oe && f2) = false := by simpa using hp
                cases f5
                · cases oe
                  · have HX : Hid (mergeI x i t L = (0, L.drop k, true)) := hide (by rw [HX0.out]; rfl)
                    clear HX0 hp hp2 g6 g2'
                    go_wp2_with fail
                    go_quiet (fail)
                    go_wp2_with fail
                    go_quiet (fail)
                    go_wp2_with fail
                    go_quiet (fail)
                    go_wp2
                    exact bodyPost_ret (v := .tuple #[.int .i64 0, .slice (some ⟨g2, oo, none⟩) (L.length - k) (c - k), .bool true]) (by simp [results, Try.results15, go_sem]) rfl (RMrgF.mk HX.out HSUF.out (by first | exact bel_drewN (by first | exact bel_drewN (bel_drewN (bel_drewN HB5.out _) _) _ | exact bel_drewN (bel_drewN HB5.out _) _ | exact bel_drewN HB5.out _) _ | exact bel_drewN (bel_drewN HB5.out _) _ | exact bel_drewN HB5.out _))
                  · have hf2 : f2 = false := by simpa using hp2
                    subst hf2
                    clear hp hp2
                    have HX : Hid (mergeI x i t L = (ei, L.drop k, true)) := hide (by rw [HX0.out]; rfl)
                    clear HX0 g6
                    go_wp2_with fail
                    go_quiet (fail)
                    go_wp2_with fail
                    go_quiet (fail)
                    go_wp2_with fail
                    go_quiet (fail)
                    go_wp2
                    exact bodyPost_ret (v := .tuple #[.int .i64 ei, .slice (some ⟨g2, oo, none⟩) (L.length - k) (c - k), .bool true]) (by simp [results, Try.results15, go_sem]) rfl (RMrgF.mk HX.out HSUF.out (by first | exact bel_drewN (by first | exact bel_drewN (bel_drewN (bel_drewN HB5.out _) _) _ | exact bel_drewN (bel_drewN HB5.out _) _ | exact bel_drewN HB5.out _) _ | exact bel_drewN (bel_drewN HB5.out _) _ | exact bel_drewN HB5.out _))
                · cases f6
                  · cases oe
                    · have HX : Hid (mergeI x i t L = (0, L.drop k, true)) := hide (by rw [HX0.out]; rfl)
                      clear HX0 hp hp2 g2'
                      go_wp2_with fail
                      go_quiet (fail)
                      go_wp2_with fail
                      go_quiet (fail)
                      go_wp2_with fail
                      go_quiet (fail)
                      go_wp2
                      exact bodyPost_ret (v := .tuple #[.int .i64 0, .slice (some ⟨g2, oo, none⟩) (L.length - k) (c - k), .bool true]) (by simp [results, Try.results15, go_sem]) rfl (RMrgF.mk HX.out HSUF.out (by first | exact bel_drewN (by first | exact bel_drewN (bel_drewN (bel_drewN HB5.out _) _) _ | exact bel_drewN (bel_drewN HB5.out _) _ | exact bel_drewN HB5.out _) _ | exact bel_drewN (bel_drewN HB5.out _) _ | exact bel_drewN HB5.out _))
                    · have hf2 : f2 = false := by simpa using hp2
                      subst hf2
                      clear hp hp2
                      have HX : Hid (mergeI x i t L = (ei, L.drop k, true)) := hide (by rw [HX0.out]; rfl)
                      clear HX0
                      go_wp2_with fail
                      go_quiet (fail)
                      go_wp2_with fail
                      go_quiet (fail)
                      go_wp2_with fail
                      go_quiet (fail)
                      go_wp2
                      exact bodyPost_ret (v := .tuple #[.int .i64 ei, .slice (some ⟨g2, oo, none⟩) (L.length - k) (c - k), .bool true]) (by simp [results, Try.results15, go_sem]) rfl (RMrgF.mk HX.out HSUF.out (by first | exact bel_drewN (by first | exact bel_drewN (bel_drewN (bel_drewN HB5.out _) _) _ | exact bel_drewN (bel_drewN HB5.out _) _ | exact bel_drewN HB5.out _) _ | exact bel_drewN (bel_drewN HB5.out _) _ | exact bel_drewN HB5.out _))
                  · have HX : Hid (mergeI x i t L = (0, [], false)) := hide (by rw [HX0.out]; rfl)
                    cases oe
                    · clear hp hp2 g2'
                      go_wp2_with fail
                      go_quiet (fail)
                      go_wp2_with fail
                      go_quiet (fail)
                      go_wp2
                      exact bodyPost_ret (v := .tuple #[.int .i64 0, .slice none 0 0, .bool false]) (by simp [results, Try.results15, go_sem]) rfl (RMrgF.mk HX.out (Ens.nil _) (by first | exact bel_drewN (bel_drewN (bel_drewN HB5.out _) _) _ | exact bel_drewN (bel_drewN HB5.out _) _ | exact bel_drewN HB5.out _))
                    · have hf2 : f2 = false := by simpa using hp2
                      subst hf2
                      clear hp hp2
                      go_wp2_with fail
                      go_quiet (fail)
                      go_wp2_with fail
                      go_quiet (fail)
                      go_wp2
                      exact bodyPost_ret (v := .tuple #[.int .i64 0, .slice none 0 0, .bool false]) (by simp [results, Try.results15, go_sem]) rfl (RMrgF.mk HX.out (Ens.nil _) (by first | exact bel_drewN (bel_drewN (bel_drewN HB5.out _) _) _ | exact bel_drewN (bel_drewN HB5.out _) _ | exact bel_drewN HB5.out _))
            · have HX : Hid (mergeI x i t L = (0, [], true)) := hide (by
                unfold mergeI
                have : firstNew x L = none := List.findIdx?_eq_none_iff.2 fun e he => by
                  obtain ⟨j, hj⟩ := List.mem_iff_getElem?.1 he
                  have := HR.out.1 j e (by have := (List.getElem?_eq_some_iff.1 hj).1; omega) hj
                  simp [this]
                rw [HME.out, this]
                rfl)
              go_wp2
              exact bodyPost_ret (v := .tuple #[.int .i64 0, .slice none 0 0, .bool true]) (by simp [results, Try.results15, go_sem]) rfl (RMrgF.mk HX.out (Ens.nil _) HR.out.2)
        · have HX : Hid (mergeI x i t L = (0, [], false)) := hide (by unfold mergeI; rw [HMR.out]; simp)
          clear HMR
          go_wp2
          exact bodyPost_ret (v := .tuple #[.int .i64 0, .slice none 0 0, .bool false]) (by simp [results, Try.results15, go_sem]) rfl (RMrgF.mk HX.out (Ens.nil _) HB4.out)
    · have HX : Hid (mergeI x i t L = (0, [], false)) := hide (by unfold mergeI; rw [HMR.out]; simp)
      clear HMR e2 e3
      go_wp2
      exact bodyPost_ret (v := .tuple #[.int .i64 0, .slice none 0 0, .bool false]) (by simp [results, Try.results15, go_sem]) rfl (RMrgF.mk HX.out (Ens.nil _) HB4.out)
end Go.Proofs.Ytmalhdiholblgaa
