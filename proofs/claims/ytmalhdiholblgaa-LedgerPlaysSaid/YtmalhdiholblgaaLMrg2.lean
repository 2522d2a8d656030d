/- What entries of others bring: Merge, the walk. -/
import Derived.Test.YtmalhdiholblgaaLMrg
namespace Go.Proofs.Ytmalhdiholblgaa
set_option linter.unusedVariables false
set_option linter.unusedSimpArgs false
open Go.RowKit

/-- What Merge says. -/
def MrgE (w : World) (R : Int × List En × Bool) (e : Ending) (w' : World) : Prop := ∃ v, e = .returned (.tuple #[.int .i64 R.1, v, .bool R.2.2]) ∧ OwnEns w.heap.size w' v R.2.1
def MrgPost (w : World) (R : Int × List En × Bool) (e : Ending) (w' : World) : Prop := MrgE w R e w' ∧ Below w.heap.size w w'
theorem MrgE.mk {w : World} {R : Int × List En × Bool} {a : Int} {v : Value} {q : Bool} {L : List En} {w' : World} (h : R = (a, L, q)) (ho : OwnEns w.heap.size w' v L) : MrgE w R (.returned (.tuple #[.int .i64 a, v, .bool q])) w' := by
  rw [h]
  exact ⟨v, rfl, ho⟩
theorem OwnEns.nil (B : Nat) (w : World) : OwnEns B w (.slice none 0 0) [] := ⟨[], OwnE.nil _ _, rfl, by simp⟩

set_option maxRecDepth 200000 in
set_option maxHeartbeats 4000000 in
theorem merge_any {w : World} {g : Nat} {x : Lg} (h : LgIs w g x) {i t : Int} {v : Value} {L : List En} (hv : Ens w v L) (hi : fits i) (h6 : L.length ≤ 100000) : Calls Try.prog 14 #[.pointer (some ⟨g, 0, none⟩), .int .i64 i, .int .i64 t, v] w (MrgPost w (mergeI x i t L)) := by
  obtain ⟨p, n, c, rfl⟩ := hv.sl
  have b1 : Below w.heap.size w (w.alloc (.cells #[.pointer (some ⟨g, 0, none⟩)] 29)) := (Below.refl _ _).alloc (Nat.le_refl _) _
  have hX : (w.alloc (.cells #[.pointer (some ⟨g, 0, none⟩)] 29)).cell? ⟨w.heap.size, 0, none⟩ = some (.pointer (some ⟨g, 0, none⟩)) := by
    rw [cell_of_row _ w.heap.size _ _ _ (0, 0) (heap_alloc_new w _)]
    rfl
  have h1 := h.below b1
  have hv1 := hv.below b1
  obtain ⟨Y, hY⟩ : ∃ Y, w.alloc (.cells #[.pointer (some ⟨g, 0, none⟩)] 29) = Y := ⟨_, rfl⟩
  rw [hY] at b1 hX h1 hv1
  have HB := hide b1
  have HXX := hide hX
  have HW := hide h1
  have HV := hide hv1
  have HM := hide (made_any h1)
  have HME := hide (fun V (hV : Below Y.heap.size Y V) => meets_any (i := i) (t := t) (h1.below hV) (hv1.below hV) hi)
  obtain ⟨q1, hq1⟩ : ∃ q, meetsI x i t L = q := ⟨_, rfl⟩
  rw [hq1] at HME
  have HQ1 := hide hq1
  have h1b := hide h1.bounds
  clear h h1 b1 hv hv1 hi hq1
  go_enter Try.func14, Try.ntmps14
  go_wp2_with fail
  refine HM.out.mono ?_
  rintro e w9 ⟨rfl, rfl⟩
  go_wp2_with fail
  refine (HME.out _ (Below.refl _ _)).mono ?_
  rintro e w2 ⟨rfl, hb2⟩
  have HB2 := hide hb2
  have HX2 := hide ((hb2.cell (lt_of_cell hX)).trans hX)
  clear hb2 hX HME HM
  have HBW := hide (HB.out.trans (HB2.out.mono HB.out.size))
  cases q1
  · have HX : Hid (mergeI x i t L = (0, [], false)) := hide (by unfold mergeI; rw [HQ1.out]; rfl)
    go_wp2
    exact bodyPost_ret (v := .tuple #[.int .i64 0, .slice none 0 0, .bool false]) (by simp [results, Try.results14, go_sem]) rfl ⟨MrgE.mk HX.out (OwnEns.nil _ _), HBW.out⟩
  · have HIX := hide (index_any (HW.out.below HB2.out) HX2.out (HV.out.below HB2.out))
    have x2 := HX2.out
    obtain ⟨fn, hfn⟩ : ∃ fn, firstNew x L = fn := ⟨_, rfl⟩
    rw [hfn] at HIX
    cases fn with
    | none =>
      have HX : Hid (mergeI x i t L = (0, [], true)) := hide (by
        unfold mergeI
        rw [HQ1.out, hfn]
        rfl)
      clear hfn
      go_wp2_with fail
      refine HIX.out.mono ?_
      rintro e w3 ⟨rfl, hb3⟩
      have HB3 := hide (HBW.out.trans (hb3.mono HBW.out.size))
      clear hb3
      go_wp2
      exact bodyPost_ret (v := .tuple #[.int .i64 0, .slice none 0 0, .bool true]) (by simp [results, Try.results14, go_sem]) rfl ⟨MrgE.mk HX.out (OwnEns.nil _ _), HB3.out⟩
    | some k =>
      have hkl : k < L.length := by
        obtain ⟨hk0, _⟩ := List.findIdx?_eq_some_iff_getElem.1 hfn
        exact hk0
      obtain ⟨e, he⟩ : ∃ e, L[k]? = some e := ⟨_, List.getElem?_eq_getElem hkl⟩
      have HX : Hid (mergeI x i t L = if e.i = x.ix + 1 ∧ e.t < x.tm then (0, [], false) else (if hasI x e.i then e.i else 0, L.drop k, true)) := hide (by
        unfold mergeI
        rw [HQ1.out, hfn]
        simp only [he, if_true])
      have HE := hide he
      have HKL := hide hkl
      clear hfn he hkl
      simp only at HIX
      go_wp2_with fail
      refine HIX.out.mono ?_
      rintro e9 w3 ⟨rfl, hb3⟩
      have HB3 := hide (HB2.out.trans (hb3.mono HB2.out.size))
      have HB3W := hide (HBW.out.trans (hb3.mono HBW.out.size))
      have hV3 := HV.out.below HB3.out
      obtain ⟨hn, hnc, hnm⟩ := hV3.len
      obtain ⟨g2, o2, pd, nd, cd, rfl, hat, hby, hnd⟩ := hV3.at_ HE.out
      have HV3 := hide hV3
      obtain ⟨oo, hoo⟩ : ∃ oo, o2 + k * 3 = oo := ⟨_, rfl⟩
      rw [hoo] at hat
      have c0 := hat.c0
      have c1 := hat.c1
      have c2 := hat.c2
      dsimp only at c0 c1 c2
      have kn : k < n := by have := HKL.out; omega
      have j0 : (0 : Int) ≤ (k : Int) := by omega
      have j1 : (k : Int) < (n : Int) := by omega
      have j2 : (k : Int) ≤ (n : Int) := by omega
      have j3 : (n : Int) ≤ (c : Int) := by omega
      have jm : (c : Int) ≤ 9223372036854775807 := by unfold maxLen at hnm; omega
      have jc : ¬ c = k := by omega
      have HN := hide hn
      have HDL : Hid (∀ y ∈ L.drop k, y.d.length ≤ 4096) := hide fun y hy => goOn_data (by
        have := HQ1.out
        unfold meetsI at this
        rw [Bool.and_eq_true] at this
        exact this.1) y (List.mem_of_mem_drop hy)
      have HSUF := hide (hV3.suf kn)
      rw [hoo] at HSUF
      obtain ⟨ei, hei⟩ : ∃ ei, e.i = ei := ⟨_, rfl⟩
      obtain ⟨et, het⟩ : ∃ et, e.t = et := ⟨_, rfl⟩
      rw [hei] at c0
      rw [het] at c1
      rw [hei, het] at HX
      have bZ : Below w3.heap.size w3 (w3.alloc (.cells #[.int .i64 ei, .int .i64 et, .slice pd nd cd] 48)) := (Below.refl _ _).alloc (Nat.le_refl _) _
      have hN0 : EcAt (w3.alloc (.cells #[.int .i64 ei, .int .i64 et, .slice pd nd cd] 48)) w3.heap.size 0 ⟨ei, et, pd, nd, cd⟩ := fun j u hj => by
        rw [Nat.zero_add, cell_of_row _ w3.heap.size _ _ _ (0, 0) (heap_alloc_new w3 _)]
        simpa [ecC] using hj
      obtain ⟨Z, hZ⟩ : ∃ Z, w3.alloc (.cells #[.int .i64 ei, .int .i64 et, .slice pd nd cd] 48) = Z := ⟨_, rfl⟩
      rw [hZ] at bZ hN0
      have HBZ := hide (HB3.out.trans (bZ.mono HB3.out.size))
      have HZ3 := hide bZ
      have HWZ := hide (HW.out.below HBZ.out)
      have z0 := hN0.c0
      have z1 := hN0.c1
      rw [Nat.zero_add] at z1
      dsimp only at z0 z1
      have xz := (HBZ.out.cell (lt_of_cell HXX.out)).trans HXX.out
      have d0 := HWZ.out.c0
      have d1 := HWZ.out.c1
      have hbd := h1b.out
      obtain ⟨i0, i1, i2, i3⟩ := hbd
      have HZW : Hid (Below w.heap.size w Z) := hide (HB.out.trans (HBZ.out.mono HB.out.size))
      have HHA := hide (fun q => has_any (HWZ.out.below (bel_drewN (Below.refl _ Z) q)) ei)
      obtain ⟨q5, e5⟩ : ∃ q, (ei == x.ix + 1) = q := ⟨_, rfl⟩
      obtain ⟨q6, e6⟩ : ∃ q, decide (et < x.tm) = q := ⟨_, rfl⟩
      have HX2 : Hid (mergeI x i t L = if q5 && q6 then (0, [], false) else (if hasI x ei then ei else 0, L.drop k, true)) := hide (by
        rw [HX.out, ← e5, ← e6]
        by_cases a1 : ei = x.ix + 1 <;> by_cases a2 : et < x.tm <;> simp [a1, a2])
      clear hb3 hV3 hn hnc hnm hat hby hnd kn x2 HIX hei het bZ hN0 HX
      cases q5
      · have HX3 : Hid (mergeI x i t L = (if hasI x ei then ei else 0, L.drop k, true)) := hide (by rw [HX2.out]; rfl)
        clear HX2 e6
        obtain ⟨q7, hq7⟩ : ∃ q, hasI x ei = q := ⟨_, rfl⟩
        rw [hq7] at HX3 HHA
        clear hq7
        have HZC := hide (And.intro z0 (lt_of_cell z0))
        go_wp2_with fail
        go_quiet (fail)
        go_wp2_with fail
        refine (HHA.out _).mono ?_
        rintro e9 w5 ⟨rfl, hb5⟩
        have HBZ5 : Hid (Below Z.heap.size Z w5) := hide ((bel_drewN (Below.refl _ Z) _).trans hb5)
        have HB5 : Hid (Below w3.heap.size w3 w5) := hide (HZ3.out.trans (HBZ5.out.mono HZ3.out.size))
        have HB5W : Hid (Below w.heap.size w w5) := hide (HB3W.out.trans (HB5.out.mono HB3W.out.size))
        have y0 := (HBZ5.out.cell (p := ⟨w3.heap.size, 0, none⟩) HZC.out.2).trans HZC.out.1
        have HOW := hide (own_any (HSUF.out.below HB5.out) (by rw [List.length_drop]; omega) HDL.out)
        clear hb5 z0 z1 d0 d1 xz hZ
        cases q7
        all_goals
          go_wp2_with fail
          refine HOW.out.mono ?_
          rintro e9 w6 ⟨v6, rfl, ho6, hb6⟩
          have HO6 := hide (ho6.mono HB5W.out.size)
          have HB6 := hide (HB5W.out.trans (hb6.mono HB5W.out.size))
          obtain ⟨p6, n6, c6, rfl⟩ := ho6.ens.sl
          clear ho6 hb6
          go_wp2
          first
          | exact bodyPost_ret (v := .tuple #[.int .i64 0, .slice p6 n6 c6, .bool true]) (by simp [results, Try.results14, go_sem]) rfl ⟨MrgE.mk HX3.out HO6.out, HB6.out⟩
          | exact bodyPost_ret (v := .tuple #[.int .i64 ei, .slice p6 n6 c6, .bool true]) (by simp [results, Try.results14, go_sem]) rfl ⟨MrgE.mk HX3.out HO6.out, HB6.out⟩
      · cases q6
        · have HX3 : Hid (mergeI x i t L = (if hasI x ei then ei else 0, L.drop k, true)) := hide (by rw [HX2.out]; rfl)
          clear HX2
          obtain ⟨q7, hq7⟩ : ∃ q, hasI x ei = q := ⟨_, rfl⟩
          rw [hq7] at HX3 HHA
          clear hq7
          have HZC := hide (And.intro z0 (lt_of_cell z0))
          go_wp2_with fail
          go_quiet (fail)
          go_wp2_with fail
          refine (HHA.out _).mono ?_
          rintro e9 w5 ⟨rfl, hb5⟩
          have HBZ5 : Hid (Below Z.heap.size Z w5) := hide ((bel_drewN (Below.refl _ Z) _).trans hb5)
          have HB5 : Hid (Below w3.heap.size w3 w5) := hide (HZ3.out.trans (HBZ5.out.mono HZ3.out.size))
          have HB5W : Hid (Below w.heap.size w w5) := hide (HB3W.out.trans (HB5.out.mono HB3W.out.size))
          have y0 := (HBZ5.out.cell (p := ⟨w3.heap.size, 0, none⟩) HZC.out.2).trans HZC.out.1
          have HOW := hide (own_any (HSUF.out.below HB5.out) (by rw [List.length_drop]; omega) HDL.out)
          clear hb5 z0 z1 d0 d1 xz hZ
          cases q7
          all_goals
            go_wp2_with fail
            refine HOW.out.mono ?_
            rintro e9 w6 ⟨v6, rfl, ho6, hb6⟩
            have HO6 := hide (ho6.mono HB5W.out.size)
            have HB6 := hide (HB5W.out.trans (hb6.mono HB5W.out.size))
            obtain ⟨p6, n6, c6, rfl⟩ := ho6.ens.sl
            clear ho6 hb6
            go_wp2
            first
            | exact bodyPost_ret (v := .tuple #[.int .i64 0, .slice p6 n6 c6, .bool true]) (by simp [results, Try.results14, go_sem]) rfl ⟨MrgE.mk HX3.out HO6.out, HB6.out⟩
            | exact bodyPost_ret (v := .tuple #[.int .i64 ei, .slice p6 n6 c6, .bool true]) (by simp [results, Try.results14, go_sem]) rfl ⟨MrgE.mk HX3.out HO6.out, HB6.out⟩
        · have HX3 : Hid (mergeI x i t L = (0, [], false)) := hide (by rw [HX2.out]; rfl)
          clear HX2
          go_wp2_with fail
          go_quiet (fail)
          go_wp2
          exact bodyPost_ret (v := .tuple #[.int .i64 0, .slice none 0 0, .bool false]) (by simp [results, Try.results14, go_sem]) rfl ⟨MrgE.mk HX3.out (OwnEns.nil _ _), bel_drewN HZW.out _⟩
end Go.Proofs.Ytmalhdiholblgaa
