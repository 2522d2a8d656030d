/- A message's bytes: the document's Put. -/
import Derived.Test.YtiiollgipfggmaaNCode
import Derived.Test.YtiiollgipfggmaaNRefChk
namespace Go.Proofs.Ytiiollgipfggmaa
set_option linter.unusedVariables false
set_option linter.unusedSimpArgs false
open Go.RowKit

theorem refTextS {w : World} {v : Value} {l : List UInt8} (hv : By w v l) (hl : l.length ≤ 1000000) (d : List UInt8) (hd : d.length ≤ 1000000) :
    Calls Try.prog 48 #[v, .string (str d)] w fun e w' => ∃ v', e = .returned v' ∧ Own w.heap.size w' v' (l ++ (digits d.length ++ d)) ∧ Below w.heap.size w w' := by
  have := refText_any hv hl (str d) (by rw [str_size']; exact hd)
  rw [str_size', str_list', List.append_assoc] at this
  exact this
theorem refNumberN {w : World} {v : Value} {l : List UInt8} (hv : By w v l) (hl : l.length ≤ 1000000) (n : Int) (N : Nat) (hN : max n 0 = (N : Int)) (hn2 : N < lim) :
    Calls Try.prog 46 #[v, .int .i64 n] w fun e w' => ∃ v', e = .returned v' ∧ Own w.heap.size w' v' (l ++ digits N) ∧ Below w.heap.size w w' :=
  (refNumber_any hv (by omega) n N hN hn2).mono fun e w' ⟨v', he, ho, hb⟩ => ⟨v', he, Own.of_row ho, hb⟩
theorem refNumberI {w : World} {v : Value} {l : List UInt8} (hv : By w v l) (hl : l.length ≤ 1000000) (n : Int) (hn : fits n) :
    Calls Try.prog 46 #[v, .int .i64 n] w fun e w' => ∃ v', e = .returned v' ∧ Own w.heap.size w' v' (l ++ numB n) ∧ Below w.heap.size w w' :=
  refNumberN hv hl n n.toNat (by omega) (by unfold fits at hn; unfold lim; omega)

set_option maxRecDepth 200000 in
set_option maxHeartbeats 4000000 in
theorem refPutOk_any {w : World} {m : Ms} {ve vv vd : Value} (h : MsV w m ve vv vd) (hok : okM m = true) : Calls Try.prog 14 #[msA m ve vv vd] w fun e w' => ∃ v, e = .returned (.tuple #[v, .int .i64 0]) ∧ Own w.heap.size w' v (recL (payL m)) ∧ Below w.heap.size w w' := by
  have HCK := hide (fun W (hW : Below w.heap.size w W) => refCheckM_any (h.below hW))
  have HPL : Hid ((payL m).length ≤ 40000) := hide (⟨hok, h.fits, h.es.fits, h.vs.fits⟩ : MIn m).len
  unfold chkM at HCK
  rw [hok] at HCK
  simp only [if_true] at HCK
  obtain ⟨pe, ne, ce, rfl⟩ := h.es.sl
  obtain ⟨pv, nv, cv, rfl⟩ := h.vs.sl
  obtain ⟨pd, nd, cd, rfl⟩ := h.d.sl
  have HOK := hide (okM_ok hok)
  have hle := h.es.len
  have hlv := h.vs.len
  have hld := h.d.len
  have hmd := h.d.lenMax
  have HHB := hide (HOK.out.headB_len h.fits)
  have HEF := hide (fun e he => (h.es.fits e he).2)
  have HVF := hide h.vs.fits
  have HNF := hide h.fits
  obtain ⟨k, f, t, tm, ix, lt, cm, rd, ys, dn, es, vs, d⟩ := m
  have HM := hide h
  clear h
  unfold msA
  dsimp only
  have HB0 := hide ((Below.refl w.heap.size w).alloc (Nat.le_refl _) (.cells #[.int .i64 k, .int .i64 f, .int .i64 t, .int .i64 tm, .int .i64 ix, .int .i64 lt, .int .i64 cm, .int .i64 rd, .bool ys, .bool dn, .slice pe ne ce, .slice pv nv cv, .slice pd nd cd] 26))
  have HX0 := hide (Box13.new w 26 (.int .i64 k) (.int .i64 f) (.int .i64 t) (.int .i64 tm) (.int .i64 ix) (.int .i64 lt) (.int .i64 cm) (.int .i64 rd) (.bool ys) (.bool dn) (.slice pe ne ce) (.slice pv nv cv) (.slice pd nd cd))
  dsimp only at hle hlv hld HEF HVF HOK HHB
  obtain ⟨hne, hnec, hme⟩ := hle
  obtain ⟨hnv, -, hmv⟩ := hlv
  have hmd' := hld.1
  have HNE := hide hne
  have HNV := hide hnv
  have HND := hide hmd'
  have hne9 : (ne : Int) ≤ 9223372036854775807 := by unfold maxLen at hme; omega
  clear hne hnv hmd' hme hnec
  unfold msA at HCK
  dsimp only at HCK
  clear hok hld
  go_enter Try.func14, Try.ntmps14
  obtain ⟨y0, y1, y2, y3, y4, y5, y6, y7, y8, y9, y10, y11, y12⟩ := HX0.out
  go_wp2_with fail
  refine (HCK.out _ HB0.out).mono ?_
  rintro e w1 ⟨rfl, hb1⟩
  have HB1 := hide (HB0.out.trans (hb1.mono HB0.out.size))
  have HX1 := hide (HX0.out.below hb1)
  clear hb1 y0 y1 y2 y3 y4 y5 y6 y7 y8 y9 y10 y11 y12
  obtain ⟨y0, y1, y2, y3, y4, y5, y6, y7, y8, y9, y10, y11, y12⟩ := HX1.out
  have b2 := (Below.refl w1.heap.size w1).alloc (Nat.le_refl _) (.cells #[.int .i64 k, .int .i64 f, .int .i64 t, .int .i64 tm, .int .i64 ix, .int .i64 lt, .int .i64 cm, .int .i64 rd] 3)
  have hN : Ns (w1.alloc (.cells #[.int .i64 k, .int .i64 f, .int .i64 t, .int .i64 tm, .int .i64 ix, .int .i64 lt, .int .i64 cm, .int .i64 rd] 3)) (.slice (some ⟨w1.heap.size, 0, none⟩) 8 8) [k, f, t, tm, ix, lt, cm, rd] := by
    refine ⟨_, 8, rfl, Nat.le_refl _, by decide, (fun e => by cases e), HNF.out, fun _ => ⟨_, 0, rfl, fun i x hi => ?_⟩⟩
    rw [cell_of_row _ w1.heap.size _ _ _ (0, 0) (heap_alloc_new _ _), Nat.zero_add]
    have h2 : ([k, f, t, tm, ix, lt, cm, rd].map (Value.int .i64))[i]? = some (.int .i64 x) := by rw [List.getElem?_map, hi]; rfl
    simpa using h2
  have HNN := hide hN
  have HB2 := hide (HB1.out.trans (b2.mono HB1.out.size))
  have HX2 := hide (HX1.out.below b2)
  clear b2 hN
  go_wp2_with fail
  obtain ⟨LQ, hLQ⟩ : ∃ L, [k, f, t, tm, ix, lt, cm, rd] = L := ⟨_, rfl⟩
  have HLQ := hide hLQ
  have HLQ8 : Hid (LQ.length = 8) := hide (by rw [← hLQ]; rfl)
  rw [hLQ] at HNN
  obtain ⟨bq, hbq⟩ : ∃ b, w1.heap.size = b := ⟨_, rfl⟩
  obtain ⟨Y, hY⟩ : ∃ Y, w1.alloc (.cells #[.int .i64 k, .int .i64 f, .int .i64 t, .int .i64 tm, .int .i64 ix, .int .i64 lt, .int .i64 cm, .int .i64 rd] 3) = Y := ⟨_, rfl⟩
  rw [hbq] at HNN ⊢
  rw [hY] at HNN HB2 HX2 ⊢
  clear hLQ hbq hY y0 y1 y2 y3 y4 y5 y6 y7 y8 y9 y10 y11 y12
  go_loopw [4, 6, 32] (fun b _ i wr => ∃ kk : Nat, kk ≤ 8 ∧ i = .int .i64 kk ∧ (∃ p n c, b = .slice p n c) ∧ Hid (By wr b (nsB (LQ.take kk)) ∧ Below Y.heap.size Y wr)) (fun _ _ i _ => 8 - (intOf i).toNat)
  case atStart => exact ⟨0, by omega, rfl, ⟨_, _, _, rfl⟩, hide ⟨By.nil _, Below.refl _ _⟩⟩
  case round =>
    obtain ⟨kk, hkk, rfl, ⟨pb, nb, cb, rfl⟩, HR⟩ := hrel
    by_cases hlt : kk < 8
    · have hx := List.getElem?_eq_getElem (l := LQ) (i := kk) (by rw [HLQ8.out]; exact hlt)
      obtain ⟨x, hxx⟩ : ∃ x, LQ[kk]'(by rw [HLQ8.out]; exact hlt) = x := ⟨_, rfl⟩
      rw [hxx] at hx
      have HT : Hid (LQ.take (kk + 1) = LQ.take kk ++ [x]) := hide (by rw [List.take_add_one, hx]; rfl)
      have HF : Hid (fits x) := hide (HNN.out.fits x (List.mem_of_getElem? hx))
      obtain ⟨g, o, hgo, hc⟩ := HNN.out.at_ (by omega)
      injection hgo with hgo
      injection hgo with hg1 hg2 _
      subst hg1 hg2
      have c0 : wr.cell? ⟨bq, kk, none⟩ = some (.int .i64 x) := by
        have h1 := hc kk x hx
        rw [Nat.zero_add] at h1
        exact (HR.out.2.cell (lt_of_cell h1)).trans h1
      have HLN : Hid ((nsB (LQ.take kk)).length ≤ 72) := hide (by
        have h1 := nsB_len (l := LQ.take kk) fun y hy => HNN.out.fits y (List.mem_of_mem_take hy)
        rw [List.length_take] at h1
        omega)
      clear hx hxx hc
      go_wp2_with fail
      refine (refNumberI HR.out.1 (by have := HLN.out; omega) x HF.out).mono ?_
      rintro e w2 ⟨v2, rfl, ho2, hb2⟩
      have HO2 := hide ho2.by_
      have HB2' := hide (HR.out.2.trans (hb2.mono HR.out.2.size))
      obtain ⟨p2, n2, c2, rfl⟩ := ho2.by_.sl
      clear ho2 hb2 c0
      go_wp2
      go_roundw
      case rel => exact ⟨kk + 1, by omega, by go_num, ⟨_, _, _, rfl⟩, hide ⟨by rw [HT.out, nsB_snoc]; exact HO2.out, HB2'.out⟩⟩
      case measure => simp [intOf]; omega
    · have HT : Hid (LQ.take kk = LQ) := hide (List.take_of_length_le (by rw [HLQ8.out]; omega))
      have hy2 := HR.out.1
      rw [HT.out, ← HLQ.out] at hy2
      have HBR := hide (HB2.out.trans (HR.out.2.mono HB2.out.size))
      have HXR := hide (HX2.out.below HR.out.2)
      have HYR := hide hy2
      clear hy2 HR HT HB2 HX2 HNN HLQ HLQ8 HB1 HX1 HCK
      obtain ⟨w2, hw2⟩ : ∃ w2, wr = w2 := ⟨_, rfl⟩
      rw [hw2] at HBR HXR HYR ⊢
      have HB2 := HBR
      have HX2 := HXR
      have HY2 := HYR
      clear HBR HXR HYR hw2
      obtain ⟨y0, y1, y2, y3, y4, y5, y6, y7, y8, y9, y10, y11, y12⟩ := HX2.out
      have KEEP := hide (show ∀ V, Below w2.heap.size w2 V → V.cell? ⟨w.heap.size, 8, none⟩ = some (.bool ys) ∧ V.cell? ⟨w.heap.size, 9, none⟩ = some (.bool dn) from fun V hV => ⟨(HX2.out.below hV).c8, (HX2.out.below hV).c9⟩)
      have HL2 : Hid ((nsB [k, f, t, tm, ix, lt, cm, rd]).length ≤ 72) := hide (nsB_len (l := [k, f, t, tm, ix, lt, cm, rd]) HNF.out)
      have HF1 := hide (fun V (hV : Below w2.heap.size w2 V) => refFlag_any (HY2.out.below hV) (by have := HL2.out; omega) ys)
      have HF2 := hide (fun V V5 p5 n5 c5 (hV5 : Below w2.heap.size w2 V5) (hV : Below V5.heap.size V5 V) (ho : By V5 (.slice p5 n5 c5) (nsB [k, f, t, tm, ix, lt, cm, rd] ++ digits ys.toNat)) => refFlag_any (ho.below hV) (by have := HL2.out; have := digits_length ys.toNat (by cases ys <;> decide); rw [List.length_append]; omega) dn)
      clear y0 y1 y2 y3 y4 y5 y6 y7 y10 y11 y12
      go_wp2_with fail
      go_region_held3 (fun V => V.cell? ⟨w.heap.size, 8, none⟩ = some (.bool ys) ∧ V.cell? ⟨w.heap.size, 9, none⟩ = some (.bool dn)) (first | go_keep | exact KEEP.out _ HB5.out | exact KEEP.out _ HB6.out) (first
        | (go_at_call 47; refine (HF1.out _ (by first | exact Below.refl _ _ | exact bel_drewN (Below.refl _ _) _ | exact bel_drewN (Below.refl _ _) 1)).mono ?_; rintro e w5 ⟨v5, rfl, ho5, hb5⟩; obtain ⟨p5, n5, c5, rfl⟩ := ho5.by_.sl; have HO5 := hide ho5.by_; have HB5 : Hid (Below w2.heap.size w2 w5) := hide (by first | exact hb5 | exact (bel_drewN (Below.refl _ w2) 1).trans hb5); clear ho5 hb5)
        | (go_at_call 47; refine (HF2.out _ w5 p5 n5 c5 HB5.out (by first | exact Below.refl _ _ | exact bel_drewN (Below.refl _ _) _) HO5.out).mono ?_; rintro e w6 ⟨v6, rfl, ho6, hb6⟩; obtain ⟨p6, n6, c6, rfl⟩ := ho6.by_.sl; have HO6 := hide ho6.by_; have HB6 : Hid (Below w2.heap.size w2 w6) := hide (HB5.out.trans (hb6.mono HB5.out.size)); clear ho6 hb6))
      have HX6 := hide (HX2.out.below HB6.out)
      have HBW6 := hide (HB2.out.trans (HB6.out.mono HB2.out.size))
      obtain ⟨P0, hP0⟩ : ∃ P, nsB [k, f, t, tm, ix, lt, cm, rd] ++ digits ys.toNat ++ digits dn.toNat = P := ⟨_, rfl⟩
      rw [hP0] at HO6
      have HL6 : Hid (P0.length ≤ 90) := hide (by
        have h1 := HL2.out
        have h2 := digits_length ys.toNat (by cases ys <;> decide)
        have h3 := digits_length dn.toNat (by cases dn <;> decide)
        rw [← hP0, List.length_append, List.length_append]
        omega)
      have HP0 := hide hP0
      clear hP0 y8 y9 KEEP HF1 HF2 HB5 HO5 HY2 HB2 HX2 HB6
      obtain ⟨y0, y1, y2, y3, y4, y5, y6, y7, y8, y9, y10, y11, y12⟩ := HX6.out
      go_wp2_with fail
      refine (refNumberN HO6.out (by have := HL6.out; omega) (ne : Int) ne (by omega) (by unfold lim; omega)).mono ?_
      rintro e w7 ⟨v7, rfl, ho7, hb7⟩
      obtain ⟨p7, n7, c7, rfl⟩ := ho7.by_.sl
      have HX7 := hide (HX6.out.below hb7)
      have HBW7 := hide (HBW6.out.trans (hb7.mono HBW6.out.size))
      obtain ⟨P1, hP1⟩ : ∃ P, P0 ++ digits ne = P := ⟨_, rfl⟩
      have hy7 := ho7.by_
      rw [hP1] at hy7
      have HY7 := hide hy7
      have HL7 : Hid (P1.length ≤ 100) := hide (by
        have h1 := HL6.out
        have h2 := digits_length ne (by omega)
        rw [← hP1, List.length_append]
        omega)
      have HP1 := hide hP1
      clear hP1 ho7 hb7 hy7 y0 y1 y2 y3 y4 y5 y6 y7 y8 y9 y10 y11 y12 HX6 HBW6 HO6
      obtain ⟨y0, y1, y2, y3, y4, y5, y6, y7, y8, y9, y10, y11, y12⟩ := HX7.out
      go_wp2_with fail
      have HES := hide (fun (wr : World) (hW : Below w.heap.size w wr) => HM.out.es.below hW)
      go_loopw [4, 8, 55] (fun s3 _ i wr => ∃ kk : Nat, kk ≤ ne ∧ i = .int .i64 kk ∧ (∃ p n c, s3 = .slice p n c) ∧ Hid (By wr s3 (P1 ++ esB (es.take kk)) ∧ Below w.heap.size w wr ∧ Box13 wr w.heap.size (.int .i64 k) (.int .i64 f) (.int .i64 t) (.int .i64 tm) (.int .i64 ix) (.int .i64 lt) (.int .i64 cm) (.int .i64 rd) (.bool ys) (.bool dn) (.slice pe ne ce) (.slice pv nv cv) (.slice pd nd cd))) (fun _ _ i _ => ne - (intOf i).toNat)
      case atStart => exact ⟨0, by omega, rfl, ⟨_, _, _, rfl⟩, hide ⟨by rw [List.take_zero]; simpa [esB] using HY7.out, HBW7.out, HX7.out⟩⟩
      case round =>
        obtain ⟨kk, hkk, rfl, ⟨p3, n3, c3, rfl⟩, HR⟩ := hrel
        clear y0 y1 y2 y3 y4 y5 y6 y7 y8 y9 y10 y11 y12
        by_cases hlt : kk < ne
        · have hlt2 : kk < es.length := by have := HNE.out; omega
          have he := List.getElem?_eq_getElem hlt2
          obtain ⟨e, hee⟩ : ∃ e, es[kk] = e := ⟨_, rfl⟩
          rw [hee] at he
          have HT : Hid (es.take (kk + 1) = es.take kk ++ [e]) := hide (by rw [List.take_add_one, he]; rfl)
          have hmem := List.mem_of_getElem? he
          have HED := hide (HOK.out.ed e hmem)
          have HEF1 := hide (HEF.out e hmem)
          have HLR : Hid ((P1 ++ esB (es.take kk)).length ≤ 40000) := hide (by
            have h1 := esB_len (l := es.take kk) (fun y hy => HEF.out y (List.mem_of_mem_take hy)) (fun y hy => HOK.out.ed y (List.mem_of_mem_take hy))
            have h2 := HL7.out
            have h3 := HOK.out.es8
            dsimp only at h3
            rw [List.length_take] at h1
            rw [List.length_append]
            omega)
          obtain ⟨g2, o2, p2', n2', c2', rfl, hat, hby, hnd⟩ := (HES.out wr HR.out.2.1).at_ he
          obtain ⟨oo, hoo⟩ : ∃ oo, o2 + kk * 3 = oo := ⟨_, rfl⟩
          rw [hoo] at hat
          have c0 := hat.c0
          have c1 := hat.c1
          have cc2 := hat.c2
          dsimp only at c0 c1 cc2 HED HEF1
          obtain ⟨ei, hei⟩ : ∃ ei, e.i = ei := ⟨_, rfl⟩
          obtain ⟨et, het⟩ : ∃ et, e.t = et := ⟨_, rfl⟩
          obtain ⟨ed, hed⟩ : ∃ ed, e.d = ed := ⟨_, rfl⟩
          rw [hei] at c0
          rw [het] at c1 HEF1
          rw [hed] at hby HED
          have HEB : Hid (enB e = numB et ++ (digits ed.length ++ ed)) := hide (by unfold enB; rw [het, hed])
          have hZ0 := (Below.refl wr.heap.size wr).alloc (Nat.le_refl _) (.cells #[.int .i64 ei, .int .i64 et, .slice p2' n2' c2'] 70)
          have hN0 : EcAt (wr.alloc (.cells #[.int .i64 ei, .int .i64 et, .slice p2' n2' c2'] 70)) wr.heap.size 0 ⟨ei, et, p2', n2', c2'⟩ := fun j u hj => by
            rw [Nat.zero_add, cell_of_row _ wr.heap.size _ _ _ (0, 0) (heap_alloc_new wr _)]
            simpa [ecC] using hj
          obtain ⟨Z, hZ⟩ : ∃ Z, wr.alloc (.cells #[.int .i64 ei, .int .i64 et, .slice p2' n2' c2'] 70) = Z := ⟨_, rfl⟩
          obtain ⟨bz, hbz⟩ : ∃ bz, wr.heap.size = bz := ⟨_, rfl⟩
          rw [hZ] at hZ0 hN0
          rw [hbz] at hN0
          have z0 := hN0.c0
          have z1 := hN0.c1
          have z2 := hN0.c2
          rw [Nat.zero_add] at z1 z2
          dsimp only at z0 z1 z2
          have zc := conv_at (hby.below hZ0)
          have zc1 : (convert 24 9 (.slice p2' n2' c2')).run Try.prog Z.drew = .ok (.string (str ed)) Z.drew := conv_by (hby.below hZ0) 1
          have KEEP := hide (show ∀ V, Below Z.heap.size Z V → V.cell? ⟨bz, 1, none⟩ = some (.int .i64 et) ∧ V.cell? ⟨bz, 2, none⟩ = some (.slice p2' n2' c2') ∧ (convert 24 9 (.slice p2' n2' c2')).run Try.prog V = .ok (.string (str ed)) V from fun V hV => ⟨(hV.cell (lt_of_cell z1)).trans z1, (hV.cell (lt_of_cell z2)).trans z2, conv_at ((hby.below hZ0).below hV)⟩)
          have HZX := hide (HR.out.2.2.below hZ0)
          have HZB := hide (HR.out.2.1.trans (hZ0.mono HR.out.2.1.size))
          have HZY := hide (HR.out.1.below hZ0)
          have HF1 := hide (fun V (hV : Below Z.heap.size Z V) => refNumberI (HZY.out.below hV) (by have := HLR.out; omega) et HEF1.out)
          have HF2 := hide (fun V V5 p5 n5 c5 (hV : Below V5.heap.size V5 V) (ho : By V5 (.slice p5 n5 c5) (P1 ++ esB (es.take kk) ++ numB et)) => refTextS (ho.below hV) (by have := HLR.out; have := numB_len HEF1.out; rw [List.length_append]; omega) ed (by have := HED.out; omega))
          clear hZ0 hN0 he hee hat hby hnd hei het hed hmem hlt2
          go_wp2_with fail
          go_region_held3 (fun V => V.cell? ⟨bz, 1, none⟩ = some (.int .i64 et) ∧ V.cell? ⟨bz, 2, none⟩ = some (.slice p2' n2' c2') ∧ (convert 24 9 (.slice p2' n2' c2')).run Try.prog V = .ok (.string (str ed)) V) (first | go_keep | exact KEEP.out _ (bel_drewN (Below.refl _ _) 1) | exact KEEP.out _ HB5.out | exact KEEP.out _ HB6.out) (first
            | (go_at_call 46; refine (HF1.out _ (by first | exact Below.refl _ _ | exact bel_drewN (Below.refl _ _) _ | exact bel_drewN (Below.refl _ _) 1)).mono ?_; rintro e w5 ⟨v5, rfl, ho5, hb5⟩; obtain ⟨p5, n5, c5, rfl⟩ := ho5.by_.sl; have HO5 := hide ho5.by_; have HB5 : Hid (Below Z.heap.size Z w5) := hide (by first | exact hb5 | exact (bel_drewN (Below.refl _ Z) 1).trans hb5); clear ho5 hb5)
            | (go_at_call 48; refine (HF2.out _ w5 p5 n5 c5 (by first | exact Below.refl _ _ | exact bel_drewN (Below.refl _ _) _) HO5.out).mono ?_; rintro e w6 ⟨v6, rfl, ho6, hb6⟩; obtain ⟨p6, n6, c6, rfl⟩ := ho6.by_.sl; have HO6 := hide ho6.by_; have HB6 : Hid (Below Z.heap.size Z w6) := hide (HB5.out.trans (hb6.mono HB5.out.size)); clear ho6 hb6))
          go_wp2
          go_roundw
          case rel => exact ⟨kk + 1, by omega, by go_num, ⟨_, _, _, rfl⟩, hide ⟨by have := HO6.out; rw [HT.out, esB_snoc, HEB.out]; simpa only [List.append_assoc] using this, HZB.out.trans (HB6.out.mono HZB.out.size), HZX.out.below HB6.out⟩⟩
          case measure => simp [intOf]; omega
        · have HT : Hid (es.take kk = es) := hide (List.take_of_length_le (by have := HNE.out; omega))
          have HYR := hide HR.out.1
          rw [HT.out] at HYR
          have HBR := hide HR.out.2.1
          have HXR := hide HR.out.2.2
          obtain ⟨P2, hP2⟩ : ∃ P, P1 ++ esB es = P := ⟨_, rfl⟩
          rw [hP2] at HYR
          have HL8 : Hid (P2.length ≤ 40000) := hide (by
            have h1 := esB_len (l := es) HEF.out HOK.out.ed
            have h2 := HL7.out
            have h3 := HOK.out.es8
            dsimp only at h1 h3
            rw [← hP2, List.length_append]
            omega)
          have HP2 := hide hP2
          have hvv := HNV.out
          clear hP2 HR hvv
          obtain ⟨y0, y1, y2, y3, y4, y5, y6, y7, y8, y9, y10, y11, y12⟩ := HXR.out
          have hnv9 : (nv : Int) ≤ 9223372036854775807 := by unfold maxLen at hmv; have := (HM.out.vs.len).2.1; omega
          have HVS := hide (HM.out.vs.below HBR.out)
          have HN1 := hide (refNumberN HYR.out (by have := HL8.out; omega) (nv : Int) nv (by omega) (by unfold lim; omega))
          have HV7 : Hid (vs.length ≤ 7) := hide (by have := HOK.out.vs7; dsimp only at this; omega)
          have HNV2 : Hid (nv = vs.length) := hide HNV.out
          clear y0 y1 y2 y3 y4 y5 y6 y7 y8 y9 y10 y12
          go_wp2_with fail
          refine HN1.out.mono ?_
          rintro e w5 ⟨v5, rfl, ho5, hb5⟩
          obtain ⟨p5, n5, c5, rfl⟩ := ho5.by_.sl
          have HO5 := hide ho5.by_
          have HB5 := hide (HBR.out.trans (hb5.mono HBR.out.size))
          have HX5 := hide (HXR.out.below hb5)
          have HVS5 := hide (HVS.out.below hb5)
          obtain ⟨P9, hP9⟩ : ∃ P, P2 ++ digits nv = P := ⟨_, rfl⟩
          rw [hP9] at HO5
          have HL95 : Hid (P9.length ≤ 40100) := hide (by
            have h2 := HL8.out
            have h4 := digits_length nv (by omega)
            rw [← hP9, List.length_append]
            omega)
          have HP9 := hide hP9
          clear ho5 hb5 hP9 y11
          have y11 := HX5.out.c11
          go_wp2_with fail
          go_loopw [4, 10, 76] (fun s3 _ i wr => ∃ kk : Nat, kk ≤ nv ∧ i = .int .i64 kk ∧ (∃ p n c, s3 = .slice p n c) ∧ Hid (By wr s3 (P9 ++ nsB (vs.take kk)) ∧ Below w5.heap.size w5 wr)) (fun _ _ i _ => nv - (intOf i).toNat)
          case atStart => exact ⟨0, by omega, rfl, ⟨_, _, _, rfl⟩, hide ⟨by rw [List.take_zero]; simpa [nsB] using HO5.out, Below.refl _ _⟩⟩
          case round =>
            obtain ⟨kk, hkk, rfl, ⟨pb, nb, cb, rfl⟩, HRV⟩ := hrel
            by_cases hltv : kk < nv
            · have hx := List.getElem?_eq_getElem (l := vs) (i := kk) (by have := HNV.out; omega)
              obtain ⟨x, hxx⟩ : ∃ x, vs[kk]'(by have := HNV.out; omega) = x := ⟨_, rfl⟩
              rw [hxx] at hx
              have HT : Hid (vs.take (kk + 1) = vs.take kk ++ [x]) := hide (by rw [List.take_add_one, hx]; rfl)
              have HF : Hid (fits x) := hide (HVF.out x (List.mem_of_getElem? hx))
              obtain ⟨g, o, rfl, hc⟩ := HVS5.out.at_ (by omega)
              have c0 : wr.cell? ⟨g, o + kk, none⟩ = some (.int .i64 x) := (HRV.out.2.cell (lt_of_cell (hc kk x hx))).trans (hc kk x hx)
              have HLN : Hid ((P9 ++ nsB (vs.take kk)).length ≤ 50000) := hide (by
                have h1 := nsB_len (l := vs.take kk) fun y hy => HVF.out y (List.mem_of_mem_take hy)
                have h2 := HL95.out
                have h3 := HV7.out
                rw [List.length_take] at h1
                rw [List.length_append]
                omega)
              clear hx hxx hc
              go_wp2_with fail
              refine (refNumberI HRV.out.1 (by have := HLN.out; omega) x HF.out).mono ?_
              rintro e w6 ⟨v6, rfl, ho6, hb6⟩
              have HO6 := hide ho6.by_
              have HB6 := hide (HRV.out.2.trans (hb6.mono HRV.out.2.size))
              obtain ⟨p6, n6, c6, rfl⟩ := ho6.by_.sl
              clear ho6 hb6 c0
              go_wp2
              go_roundw
              case rel => exact ⟨kk + 1, by omega, by go_num, ⟨_, _, _, rfl⟩, hide ⟨by rw [HT.out, nsB_snoc, ← List.append_assoc]; exact HO6.out, HB6.out⟩⟩
              case measure => simp [intOf]; omega
            · have HT : Hid (vs.take kk = vs) := hide (List.take_of_length_le (by have := HNV.out; omega))
              have hO6 := HRV.out.1
              rw [HT.out, ← HP9.out] at hO6
              have HO6 := hide hO6
              have HB6 := hide HRV.out.2
              have HX6 := hide (HX5.out.below HB6.out)
              have HBW6 := hide (HB5.out.trans (HB6.out.mono HB5.out.size))
              clear hO6 HRV y11
              obtain ⟨P3, hP3⟩ : ∃ P, P2 ++ digits nv ++ nsB vs = P := ⟨_, rfl⟩
              rw [hP3] at HO6
              have HL9 : Hid (P3.length ≤ 50000) := hide (by
                have h1 := nsB_len (l := vs) HVF.out
                have h2 := HL8.out
                have h3 := HOK.out.vs7
                have h4 := digits_length nv (by omega)
                dsimp only at h1 h3
                rw [← hP3, List.length_append, List.length_append]
                omega)
              have HP3 := hide hP3
              have y12 := HX6.out.c12
              have zc := conv_at (HM.out.d.below HBW6.out)
              dsimp only at zc
              have HTX := hide (refTextS HO6.out (by have := HL9.out; omega) d (by have := HOK.out.d5; dsimp only at this; omega))
              clear hP3
              go_wp2_with fail
              refine HTX.out.mono ?_
              rintro e w9 ⟨v9, rfl, ho9, hb9⟩
              have HB9 := hide (HBW6.out.trans (hb9.mono HBW6.out.size))
              have hq9 : P3 ++ (digits d.length ++ d) = payL ⟨k, f, t, tm, ix, lt, cm, rd, ys, dn, es, vs, d⟩ := by
                rw [← HP3.out, ← HP2.out, ← HP1.out, ← HP0.out, HNE.out, HNV.out]
                unfold payL headB Ms.nums
                simp only [List.append_assoc]
              have hy9 := ho9.by_
              rw [hq9] at hy9
              obtain ⟨PL, hPL⟩ : ∃ P, payL ⟨k, f, t, tm, ix, lt, cm, rd, ys, dn, es, vs, d⟩ = P := ⟨_, rfl⟩
              rw [hPL] at hy9 HPL
              have HPE := hide hPL
              have HRC := hide (refRecord_any hy9 (by have := HPL.out; omega))
              obtain ⟨p9, n9, c9, rfl⟩ := ho9.by_.sl
              clear ho9 hb9 zc y12 hq9 hPL hy9
              go_wp2_with fail
              refine HRC.out.mono ?_
              rintro e w10 ⟨v10, rfl, ho10, hb10⟩
              have HO10 := hide (ho10.mono HB9.out.size)
              have HB10 := hide (HB9.out.trans (hb10.mono HB9.out.size))
              obtain ⟨p10, n10, c10, rfl⟩ := ho10.by_.sl
              clear ho10 hb10
              go_wp2
              refine bodyPost_ret (v := .tuple #[.slice p10 n10 c10, .int .i64 0]) (by simp [results, Try.results14, go_sem]) rfl ⟨_, rfl, by rw [HPE.out]; exact HO10.out, HB10.out⟩
end Go.Proofs.Ytiiollgipfggmaa
