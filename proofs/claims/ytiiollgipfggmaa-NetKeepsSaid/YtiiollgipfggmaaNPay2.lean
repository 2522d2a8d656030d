/- A message's bytes: the program's payload. -/
import Derived.Test.YtiiollgipfggmaaNPay
import Derived.Test.YtiiollgipfggmaaNRefChkG
import Derived.Deep.RegionHeld3
import Derived.Deep.DrawnRows
namespace Go.Proofs.Ytiiollgipfggmaa
set_option linter.unusedVariables false
set_option linter.unusedSimpArgs false
open Go.RowKit

theorem str_size' (l : List UInt8) : (str l).size = l.length := by rw [str_eq]; rfl
theorem str_list' (l : List UInt8) : (str l).data.toList = l := by rw [str_eq]
theorem wireTextS {w : World} {v : Value} {l : List UInt8} (hv : By w v l) (hl : l.length ≤ 1000000) (d : List UInt8) (hd : d.length ≤ 1000000) :
    Calls Try.prog 72 #[v, .string (str d)] w fun e w' => ∃ v', e = .returned v' ∧ Own w.heap.size w' v' (l ++ (digits d.length ++ d)) ∧ Below w.heap.size w w' := by
  have := wireText_any hv hl (str d) (by rw [str_size']; exact hd)
  rw [str_size', str_list', List.append_assoc] at this
  exact this
theorem wireNumberI {w : World} {v : Value} {l : List UInt8} (hv : By w v l) (hl : l.length ≤ 1000000) (n : Int) (hn : fits n) :
    Calls Try.prog 66 #[v, .int .i64 n] w fun e w' => ∃ v', e = .returned v' ∧ Own w.heap.size w' v' (l ++ numB n) ∧ Below w.heap.size w w' :=
  wireNumber_any hv (by omega) n n.toNat (by omega) (by unfold fits at hn; unfold lim; omega)

set_option maxRecDepth 200000 in
set_option maxHeartbeats 4000000 in
theorem payload_any {w : World} {m : Ms} {ve vv vd : Value} (h : MsV w m ve vv vd) (hok : okM m = true) : Calls Try.prog 44 #[msA m ve vv vd] w fun e w' => ∃ v, e = .returned v ∧ Own w.heap.size w' v (payL m) ∧ Below w.heap.size w w' := by
  obtain ⟨pe, ne, ce, rfl⟩ := h.es.sl
  obtain ⟨pv, nv, cv, rfl⟩ := h.vs.sl
  obtain ⟨pd, nd, cd, rfl⟩ := h.d.sl
  have HOK := hide (okM_ok hok)
  have hle := h.es.len
  have hlv := h.vs.len
  have hld := h.d.len
  have hmd := h.d.lenMax
  have HHB := hide (HOK.out.headB_len h.fits)
  have HEF := hide (fun e he => (h.es.fits e he).2)
  have HVF := hide h.vs.fits
  have HNF := hide h.fits
  obtain ⟨k, f, t, tm, ix, lt, cm, rd, ys, dn, es, vs, d⟩ := m
  have HM := hide h
  clear h
  unfold msA
  dsimp only
  have HB0 := hide ((Below.refl w.heap.size w).alloc (Nat.le_refl _) (.cells #[.int .i64 k, .int .i64 f, .int .i64 t, .int .i64 tm, .int .i64 ix, .int .i64 lt, .int .i64 cm, .int .i64 rd, .bool ys, .bool dn, .slice pe ne ce, .slice pv nv cv, .slice pd nd cd] 26))
  have HX0 := hide (Box13.new w 26 (.int .i64 k) (.int .i64 f) (.int .i64 t) (.int .i64 tm) (.int .i64 ix) (.int .i64 lt) (.int .i64 cm) (.int .i64 rd) (.bool ys) (.bool dn) (.slice pe ne ce) (.slice pv nv cv) (.slice pd nd cd))
  dsimp only at hle hlv hld HEF HVF HOK HHB
  obtain ⟨hne, hnec, hme⟩ := hle
  obtain ⟨hnv, -, hmv⟩ := hlv
  have hmd' := hld.1
  have HNE := hide hne
  have HNV := hide hnv
  have HND := hide hmd'
  have hne9 : (ne : Int) ≤ 9223372036854775807 := by unfold maxLen at hme; omega
  clear hne hnv hmd' hme hnec
  have b1 := HB0.out.alloc HB0.out.size (.cells #[.int .i64 k, .int .i64 f, .int .i64 t, .int .i64 tm, .int .i64 ix, .int .i64 lt, .int .i64 cm, .int .i64 rd] 3)
  have hN : Ns ((w.alloc (.cells #[.int .i64 k, .int .i64 f, .int .i64 t, .int .i64 tm, .int .i64 ix, .int .i64 lt, .int .i64 cm, .int .i64 rd, .bool ys, .bool dn, .slice pe ne ce, .slice pv nv cv, .slice pd nd cd] 26)).alloc (.cells #[.int .i64 k, .int .i64 f, .int .i64 t, .int .i64 tm, .int .i64 ix, .int .i64 lt, .int .i64 cm, .int .i64 rd] 3)) (.slice (some ⟨(w.alloc (.cells #[.int .i64 k, .int .i64 f, .int .i64 t, .int .i64 tm, .int .i64 ix, .int .i64 lt, .int .i64 cm, .int .i64 rd, .bool ys, .bool dn, .slice pe ne ce, .slice pv nv cv, .slice pd nd cd] 26)).heap.size, 0, none⟩) 8 8) [k, f, t, tm, ix, lt, cm, rd] := by
    refine ⟨_, 8, rfl, Nat.le_refl _, by decide, (fun e => by cases e), HNF.out, fun _ => ⟨_, 0, rfl, fun i x hi => ?_⟩⟩
    rw [cell_of_row _ (w.alloc (.cells #[.int .i64 k, .int .i64 f, .int .i64 t, .int .i64 tm, .int .i64 ix, .int .i64 lt, .int .i64 cm, .int .i64 rd, .bool ys, .bool dn, .slice pe ne ce, .slice pv nv cv, .slice pd nd cd] 26)).heap.size _ _ _ (0, 0) (heap_alloc_new _ _), Nat.zero_add]
    have h2 : ([k, f, t, tm, ix, lt, cm, rd].map (Value.int .i64))[i]? = some (.int .i64 x) := by rw [List.getElem?_map, hi]; rfl
    simpa using h2
  have HNN := hide hN
  have HB1 := hide b1
  have HX1 := hide (HX0.out.below ((Below.refl _ _).alloc (Nat.le_refl _) (.cells #[.int .i64 k, .int .i64 f, .int .i64 t, .int .i64 tm, .int .i64 ix, .int .i64 lt, .int .i64 cm, .int .i64 rd] 3)))
  clear b1 hN hok hld
  go_enter Try.func44, Try.ntmps44
  go_wp2_with fail
  simp only [size_alloc'] at HNN
  refine (numbers_any (By.nil _) HNN.out (by simp) (by simp)).mono ?_
  rintro e w2 ⟨v2, rfl, hy2, hb2⟩
  rw [List.nil_append] at hy2
  obtain ⟨p2, n2, c2, rfl⟩ := hy2.sl
  have HY2 := hide hy2
  have HB2 := hide (HB1.out.trans (hb2.mono HB1.out.size))
  have HX2 := hide (HX1.out.below hb2)
  clear hy2 hb2 HNN HB1 HX1
  obtain ⟨y0, y1, y2, y3, y4, y5, y6, y7, y8, y9, y10, y11, y12⟩ := HX2.out
  have KEEP := hide (show ∀ V, Below w2.heap.size w2 V → V.cell? ⟨w.heap.size, 8, none⟩ = some (.bool ys) ∧ V.cell? ⟨w.heap.size, 9, none⟩ = some (.bool dn) from fun V hV => ⟨(HX2.out.below hV).c8, (HX2.out.below hV).c9⟩)
  have HL2 : Hid ((nsB [k, f, t, tm, ix, lt, cm, rd]).length ≤ 72) := hide (nsB_len (l := [k, f, t, tm, ix, lt, cm, rd]) HNF.out)
  have HF1 := hide (fun V (hV : Below w2.heap.size w2 V) => wireFlag_any (HY2.out.below hV) (by have := HL2.out; omega) ys)
  have HF2 := hide (fun V V5 p5 n5 c5 (hV5 : Below w2.heap.size w2 V5) (hV : Below V5.heap.size V5 V) (ho : By V5 (.slice p5 n5 c5) (nsB [k, f, t, tm, ix, lt, cm, rd] ++ digits ys.toNat)) => wireFlag_any (ho.below hV) (by have := HL2.out; have := digits_length ys.toNat (by cases ys <;> decide); rw [List.length_append]; omega) dn)
  clear y0 y1 y2 y3 y4 y5 y6 y7 y10 y11 y12
  go_wp2_with fail
  go_region_held3 (fun V => V.cell? ⟨w.heap.size, 8, none⟩ = some (.bool ys) ∧ V.cell? ⟨w.heap.size, 9, none⟩ = some (.bool dn)) (first | go_keep | exact KEEP.out _ HB5.out | exact KEEP.out _ HB6.out) (first
    | (go_at_call 71; refine (HF1.out _ (by first | exact Below.refl _ _ | exact bel_drewN (Below.refl _ _) _ | exact bel_drewN (Below.refl _ _) 1)).mono ?_; rintro e w5 ⟨v5, rfl, ho5, hb5⟩; obtain ⟨p5, n5, c5, rfl⟩ := ho5.by_.sl; have HO5 := hide ho5.by_; have HB5 : Hid (Below w2.heap.size w2 w5) := hide (by first | exact hb5 | exact (bel_drewN (Below.refl _ w2) 1).trans hb5); clear ho5 hb5)
    | (go_at_call 71; refine (HF2.out _ w5 p5 n5 c5 HB5.out (by first | exact Below.refl _ _ | exact bel_drewN (Below.refl _ _) _) HO5.out).mono ?_; rintro e w6 ⟨v6, rfl, ho6, hb6⟩; obtain ⟨p6, n6, c6, rfl⟩ := ho6.by_.sl; have HO6 := hide ho6.by_; have HB6 : Hid (Below w2.heap.size w2 w6) := hide (HB5.out.trans (hb6.mono HB5.out.size)); clear ho6 hb6))
  have HX6 := hide (HX2.out.below HB6.out)
  have HBW6 := hide (HB2.out.trans (HB6.out.mono HB2.out.size))
  obtain ⟨P0, hP0⟩ : ∃ P, nsB [k, f, t, tm, ix, lt, cm, rd] ++ digits ys.toNat ++ digits dn.toNat = P := ⟨_, rfl⟩
  rw [hP0] at HO6
  have HL6 : Hid (P0.length ≤ 90) := hide (by
    have h1 := HL2.out
    have h2 := digits_length ys.toNat (by cases ys <;> decide)
    have h3 := digits_length dn.toNat (by cases dn <;> decide)
    rw [← hP0, List.length_append, List.length_append]
    omega)
  have HP0 := hide hP0
  clear hP0 y8 y9 KEEP HF1 HF2 HB5 HO5 HY2 HB2 HX2 HB6
  obtain ⟨y0, y1, y2, y3, y4, y5, y6, y7, y8, y9, y10, y11, y12⟩ := HX6.out
  go_wp2_with fail
  refine (wireNumber_any HO6.out (by have := HL6.out; omega) (ne : Int) ne (by omega) (by unfold lim; omega)).mono ?_
  rintro e w7 ⟨v7, rfl, ho7, hb7⟩
  obtain ⟨p7, n7, c7, rfl⟩ := ho7.by_.sl
  have HX7 := hide (HX6.out.below hb7)
  have HBW7 := hide (HBW6.out.trans (hb7.mono HBW6.out.size))
  obtain ⟨P1, hP1⟩ : ∃ P, P0 ++ digits ne = P := ⟨_, rfl⟩
  have hy7 := ho7.by_
  rw [hP1] at hy7
  have HY7 := hide hy7
  have HL7 : Hid (P1.length ≤ 100) := hide (by
    have h1 := HL6.out
    have h2 := digits_length ne (by omega)
    rw [← hP1, List.length_append]
    omega)
  have HP1 := hide hP1
  clear hP1 ho7 hb7 hy7 y0 y1 y2 y3 y4 y5 y6 y7 y8 y9 y10 y11 y12 HX6 HBW6 HO6
  obtain ⟨y0, y1, y2, y3, y4, y5, y6, y7, y8, y9, y10, y11, y12⟩ := HX7.out
  go_wp2_with fail
  have HES := hide (fun (wr : World) (hW : Below w.heap.size w wr) => HM.out.es.below hW)
  go_loopw [3, 5, 39] (fun s3 _ i wr => ∃ kk : Nat, kk ≤ ne ∧ i = .int .i64 kk ∧ (∃ p n c, s3 = .slice p n c) ∧ Hid (By wr s3 (P1 ++ esB (es.take kk)) ∧ Below w.heap.size w wr ∧ Box13 wr w.heap.size (.int .i64 k) (.int .i64 f) (.int .i64 t) (.int .i64 tm) (.int .i64 ix) (.int .i64 lt) (.int .i64 cm) (.int .i64 rd) (.bool ys) (.bool dn) (.slice pe ne ce) (.slice pv nv cv) (.slice pd nd cd))) (fun _ _ i _ => ne - (intOf i).toNat)
  case atStart => exact ⟨0, by omega, rfl, ⟨_, _, _, rfl⟩, hide ⟨by rw [List.take_zero]; simpa [esB] using HY7.out, HBW7.out, HX7.out⟩⟩
  case round =>
    obtain ⟨kk, hkk, rfl, ⟨p3, n3, c3, rfl⟩, HR⟩ := hrel
    clear y0 y1 y2 y3 y4 y5 y6 y7 y8 y9 y10 y11 y12
    by_cases hlt : kk < ne
    · have hlt2 : kk < es.length := by have := HNE.out; omega
      have he := List.getElem?_eq_getElem hlt2
      obtain ⟨e, hee⟩ : ∃ e, es[kk] = e := ⟨_, rfl⟩
      rw [hee] at he
      have HT : Hid (es.take (kk + 1) = es.take kk ++ [e]) := hide (by rw [List.take_add_one, he]; rfl)
      have hmem := List.mem_of_getElem? he
      have HED := hide (HOK.out.ed e hmem)
      have HEF1 := hide (HEF.out e hmem)
      have HLR : Hid ((P1 ++ esB (es.take kk)).length ≤ 40000) := hide (by
        have h1 := esB_len (l := es.take kk) (fun y hy => HEF.out y (List.mem_of_mem_take hy)) (fun y hy => HOK.out.ed y (List.mem_of_mem_take hy))
        have h2 := HL7.out
        have h3 := HOK.out.es8
        dsimp only at h3
        rw [List.length_take] at h1
        rw [List.length_append]
        omega)
      obtain ⟨g2, o2, p2', n2', c2', rfl, hat, hby, hnd⟩ := (HES.out wr HR.out.2.1).at_ he
      obtain ⟨oo, hoo⟩ : ∃ oo, o2 + kk * 3 = oo := ⟨_, rfl⟩
      rw [hoo] at hat
      have c0 := hat.c0
      have c1 := hat.c1
      have cc2 := hat.c2
      dsimp only at c0 c1 cc2 HED HEF1
      obtain ⟨ei, hei⟩ : ∃ ei, e.i = ei := ⟨_, rfl⟩
      obtain ⟨et, het⟩ : ∃ et, e.t = et := ⟨_, rfl⟩
      obtain ⟨ed, hed⟩ : ∃ ed, e.d = ed := ⟨_, rfl⟩
      rw [hei] at c0
      rw [het] at c1 HEF1
      rw [hed] at hby HED
      have HEB : Hid (enB e = numB et ++ (digits ed.length ++ ed)) := hide (by unfold enB; rw [het, hed])
      have hZ0 := (Below.refl wr.heap.size wr).alloc (Nat.le_refl _) (.cells #[.int .i64 ei, .int .i64 et, .slice p2' n2' c2'] 70)
      have hN0 : EcAt (wr.alloc (.cells #[.int .i64 ei, .int .i64 et, .slice p2' n2' c2'] 70)) wr.heap.size 0 ⟨ei, et, p2', n2', c2'⟩ := fun j u hj => by
        rw [Nat.zero_add, cell_of_row _ wr.heap.size _ _ _ (0, 0) (heap_alloc_new wr _)]
        simpa [ecC] using hj
      obtain ⟨Z, hZ⟩ : ∃ Z, wr.alloc (.cells #[.int .i64 ei, .int .i64 et, .slice p2' n2' c2'] 70) = Z := ⟨_, rfl⟩
      obtain ⟨bz, hbz⟩ : ∃ bz, wr.heap.size = bz := ⟨_, rfl⟩
      rw [hZ] at hZ0 hN0
      rw [hbz] at hN0
      have z0 := hN0.c0
      have z1 := hN0.c1
      have z2 := hN0.c2
      rw [Nat.zero_add] at z1 z2
      dsimp only at z0 z1 z2
      have zc := conv_at (hby.below hZ0)
      have zc1 : (convert 24 9 (.slice p2' n2' c2')).run Try.prog Z.drew = .ok (.string (str ed)) Z.drew := conv_by (hby.below hZ0) 1
      have KEEP := hide (show ∀ V, Below Z.heap.size Z V → V.cell? ⟨bz, 1, none⟩ = some (.int .i64 et) ∧ V.cell? ⟨bz, 2, none⟩ = some (.slice p2' n2' c2') ∧ (convert 24 9 (.slice p2' n2' c2')).run Try.prog V = .ok (.string (str ed)) V from fun V hV => ⟨(hV.cell (lt_of_cell z1)).trans z1, (hV.cell (lt_of_cell z2)).trans z2, conv_at ((hby.below hZ0).below hV)⟩)
      have HZX := hide (HR.out.2.2.below hZ0)
      have HZB := hide (HR.out.2.1.trans (hZ0.mono HR.out.2.1.size))
      have HZY := hide (HR.out.1.below hZ0)
      have HF1 := hide (fun V (hV : Below Z.heap.size Z V) => wireNumberI (HZY.out.below hV) (by have := HLR.out; omega) et HEF1.out)
      have HF2 := hide (fun V V5 p5 n5 c5 (hV : Below V5.heap.size V5 V) (ho : By V5 (.slice p5 n5 c5) (P1 ++ esB (es.take kk) ++ numB et)) => wireTextS (ho.below hV) (by have := HLR.out; have := numB_len HEF1.out; rw [List.length_append]; omega) ed (by have := HED.out; omega))
      clear hZ0 hN0 he hee hat hby hnd hei het hed hmem hlt2
      go_wp2_with fail
      go_region_held3 (fun V => V.cell? ⟨bz, 1, none⟩ = some (.int .i64 et) ∧ V.cell? ⟨bz, 2, none⟩ = some (.slice p2' n2' c2') ∧ (convert 24 9 (.slice p2' n2' c2')).run Try.prog V = .ok (.string (str ed)) V) (first | go_keep | exact KEEP.out _ (bel_drewN (Below.refl _ _) 1) | exact KEEP.out _ HB5.out | exact KEEP.out _ HB6.out) (first
        | (go_at_call 66; refine (HF1.out _ (by first | exact Below.refl _ _ | exact bel_drewN (Below.refl _ _) _ | exact bel_drewN (Below.refl _ _) 1)).mono ?_; rintro e w5 ⟨v5, rfl, ho5, hb5⟩; obtain ⟨p5, n5, c5, rfl⟩ := ho5.by_.sl; have HO5 := hide ho5.by_; have HB5 : Hid (Below Z.heap.size Z w5) := hide (by first | exact hb5 | exact (bel_drewN (Below.refl _ Z) 1).trans hb5); clear ho5 hb5)
        | (go_at_call 72; refine (HF2.out _ w5 p5 n5 c5 (by first | exact Below.refl _ _ | exact bel_drewN (Below.refl _ _) _) HO5.out).mono ?_; rintro e w6 ⟨v6, rfl, ho6, hb6⟩; obtain ⟨p6, n6, c6, rfl⟩ := ho6.by_.sl; have HO6 := hide ho6.by_; have HB6 : Hid (Below Z.heap.size Z w6) := hide (HB5.out.trans (hb6.mono HB5.out.size)); clear ho6 hb6))
      go_wp2
      go_roundw
      case rel => exact ⟨kk + 1, by omega, by go_num, ⟨_, _, _, rfl⟩, hide ⟨by have := HO6.out; rw [HT.out, esB_snoc, HEB.out]; simpa only [List.append_assoc] using this, HZB.out.trans (HB6.out.mono HZB.out.size), HZX.out.below HB6.out⟩⟩
      case measure => simp [intOf]; omega
    · have HT : Hid (es.take kk = es) := hide (List.take_of_length_le (by have := HNE.out; omega))
      have HYR := hide HR.out.1
      rw [HT.out] at HYR
      have HBR := hide HR.out.2.1
      have HXR := hide HR.out.2.2
      obtain ⟨P2, hP2⟩ : ∃ P, P1 ++ esB es = P := ⟨_, rfl⟩
      rw [hP2] at HYR
      have HL8 : Hid (P2.length ≤ 40000) := hide (by
        have h1 := esB_len (l := es) HEF.out HOK.out.ed
        have h2 := HL7.out
        have h3 := HOK.out.es8
        dsimp only at h1 h3
        rw [← hP2, List.length_append]
        omega)
      have HP2 := hide hP2
      have hvv := HNV.out
      clear hP2 HR hvv
      obtain ⟨y0, y1, y2, y3, y4, y5, y6, y7, y8, y9, y10, y11, y12⟩ := HXR.out
      have hnv9 : (nv : Int) ≤ 9223372036854775807 := by unfold maxLen at hmv; have := (HM.out.vs.len).2.1; omega
      have KEEP := hide (show ∀ V, Below wr.heap.size wr V → V.cell? ⟨w.heap.size, 11, none⟩ = some (.slice pv nv cv) from fun V hV => (HXR.out.below hV).c11)
      have HVS := hide (fun V (hV : Below wr.heap.size wr V) => HM.out.vs.below (HBR.out.trans (hV.mono HBR.out.size)))
      have HF1 := hide (fun V (hV : Below wr.heap.size wr V) => wireNumber_any (HYR.out.below hV) (by have := HL8.out; omega) (nv : Int) nv (by omega) (by unfold lim; omega))
      have HF2 := hide (fun V V5 p5 n5 c5 (hV5 : Below wr.heap.size wr V5) (hV : Below V5.heap.size V5 V) (ho : By V5 (.slice p5 n5 c5) (P2 ++ digits nv)) => numbers_any (L := vs) (ho.below hV) (HVS.out V (hV5.trans (hV.mono hV5.size))) (by have := HL8.out; have := digits_length nv (by omega); rw [List.length_append]; omega) (by have := HOK.out.vs7; dsimp only at this; omega))
      clear y0 y1 y2 y3 y4 y5 y6 y7 y8 y9 y10 y12
      go_wp2_with fail
      go_region_held3 (fun V => V.cell? ⟨w.heap.size, 11, none⟩ = some (.slice pv nv cv)) (first | go_keep | exact KEEP.out _ HB5.out | exact KEEP.out _ HB6.out | exact KEEP.out _ (bel_drewN (Below.refl _ _) 1)) (first
        | (go_at_call 66; refine (HF1.out _ (by first | exact Below.refl _ _ | exact bel_drewN (Below.refl _ _) _ | exact bel_drewN (Below.refl _ _) 1)).mono ?_; rintro e w5 ⟨v5, rfl, ho5, hb5⟩; obtain ⟨p5, n5, c5, rfl⟩ := ho5.by_.sl; have HO5 := hide ho5.by_; have HB5 : Hid (Below wr.heap.size wr w5) := hide (by first | exact hb5 | exact (bel_drewN (Below.refl _ wr) 1).trans hb5); clear ho5 hb5)
        | (go_at_call 70; refine (HF2.out _ w5 p5 n5 c5 HB5.out (by first | exact Below.refl _ _ | exact bel_drewN (Below.refl _ _) _) HO5.out).mono ?_; rintro e w6 ⟨v6, rfl, ho6, hb6⟩; obtain ⟨p6, n6, c6, rfl⟩ := ho6.sl; have HO6 := hide ho6; have HB6 : Hid (Below wr.heap.size wr w6) := hide (HB5.out.trans (hb6.mono HB5.out.size)); clear ho6 hb6))
      have HX6 := hide (HXR.out.below HB6.out)
      have HBW6 := hide (HBR.out.trans (HB6.out.mono HBR.out.size))
      obtain ⟨P3, hP3⟩ : ∃ P, P2 ++ digits nv ++ nsB vs = P := ⟨_, rfl⟩
      rw [hP3] at HO6
      have HL9 : Hid (P3.length ≤ 50000) := hide (by
        have h1 := nsB_len (l := vs) HVF.out
        have h2 := HL8.out
        have h3 := HOK.out.vs7
        have h4 := digits_length nv (by omega)
        dsimp only at h1 h3
        rw [← hP3, List.length_append, List.length_append]
        omega)
      have HP3 := hide hP3
      have y12 := HX6.out.c12
      have zc := conv_at (HM.out.d.below HBW6.out)
      dsimp only at zc
      have HTX := hide (wireTextS HO6.out (by have := HL9.out; omega) d (by have := HOK.out.d5; dsimp only at this; omega))
      clear y11 KEEP HF1 HF2 HVS hP3
      go_wp2_with fail
      refine HTX.out.mono ?_
      rintro e w9 ⟨v9, rfl, ho9, hb9⟩
      have HO9 := hide (ho9.mono HBW6.out.size)
      have HB9 := hide (HBW6.out.trans (hb9.mono HBW6.out.size))
      obtain ⟨p9, n9, c9, rfl⟩ := ho9.by_.sl
      clear ho9 hb9 zc y12
      go_wp2
      go_ret
      refine ⟨.slice p9 n9 c9, rfl, ?_, HB9.out⟩
      have hh := HO9.out
      rw [← HP3.out, ← HP2.out, ← HP1.out, ← HP0.out, HNE.out, HNV.out] at hh
      unfold payL headB Ms.nums
      simpa only [List.append_assoc] using hh
end Go.Proofs.Ytiiollgipfggmaa
