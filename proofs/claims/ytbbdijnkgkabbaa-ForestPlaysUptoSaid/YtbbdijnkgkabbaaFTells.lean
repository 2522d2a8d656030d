/- tells. -/
import Derived.Test.YtbbdijnkgkabbaaFRefBrs
import Derived.Test.YtbbdijnkgkabbaaFObj
import Derived.Test.YtbbdijnkgkabbaaFLight
import Derived.Test.YtbbdijnkgkabbaaSpRefSort
namespace Go.Proofs.Ytbbdijnkgkabbaa
set_option linter.unusedVariables false
set_option linter.unusedSimpArgs false
open Go.RowKit

theorem rowSet8 {w : World} {B g n cap j sz : Nat} {T : TypeId} {xs : List Value} {u : Value} (h : w.ownsRow B T sz (.slice (some ⟨g, 0, none⟩) n cap) n xs) : (w.setCell ⟨g, j, none⟩ u).ownsRow B T sz (.slice (some ⟨g, 0, none⟩) n cap) n (xs.set j u) := by
  obtain ⟨hl, ⟨h1, _⟩ | ⟨g', cap', cur, e, hB, hh, hc, hm, hs, ht⟩⟩ := h
  · cases h1
  · injection e with e1 e2 e3
    injection e1 with e1
    injection e1 with e1 _ _
    subst e1 e3
    exact ⟨by rw [List.length_set]; exact hl, .inr ⟨g, cap, cur.setIfInBounds j u, rfl, hB, Go.heap_setCell_same w g j cur _ u hh, hc, hm, by rw [Array.size_setIfInBounds]; exact hs, by rw [Array.toList_setIfInBounds, List.take_set, ht]⟩⟩
theorem _root_.Go.World.ownsRow.cell8 {w : World} {B n cap k : Nat} {p : Option Addr} {T : TypeId} {xs : List Value} (h : w.ownsRow B T 8 (.slice p n cap) n xs) (hk : k < n) : ∃ g, p = some ⟨g, 0, none⟩ ∧ (∃ u, w.cell? ⟨g, k * 8, none⟩ = some u) ∧ w.frozen? ⟨g, k * 8, none⟩ = false ∧ B ≤ g := by
  obtain ⟨hl, ⟨h1, h2⟩ | ⟨g', cap', cur, e, hB, hh, hc, hm, hs, ht⟩⟩ := h
  · omega
  · injection e with e1 e2 e3
    have hlt : k * 8 < cur.size := by rw [hs]; omega
    refine ⟨g', e1, ⟨cur[k * 8]'hlt, ?_⟩, frozen_of_row w g' _ cur T hh, hB⟩
    rw [cell_of_row w g' (k * 8) cur _ (0, 0) hh]
    exact Array.getElem?_eq_getElem hlt
set_option maxRecDepth 200000 in
set_option maxHeartbeats 4000000 in
theorem tells_any {w : World} {g b gx : Nat} {tr : Int} {L : List Sp} (h : FoIs w g b tr L) (hx : RfIs w gx tr L) : Calls Try.prog 13 #[.pointer (some ⟨g, 0, none⟩), .pointer (some ⟨gx, 0, none⟩)] w fun e w' => e = .returned (.bool true) ∧ Below w.heap.size w w' := by
  have HF := hide h
  have HX := hide hx
  have HBR := hide (branches_any h)
  clear h hx
  go_enter Try.func13, Try.ntmps13
  go_wp2_with fail
  refine HBR.out.mono ?_
  rintro e w2 ⟨v2, rfl, ho2, hb2⟩
  obtain ⟨p2, n2, c2, rfl⟩ := ho2.brs.sl
  have HO2 := hide ho2
  have HB2 := hide hb2
  clear ho2 hb2
  have hfo := HF.out.below HB2.out
  have hrx := HX.out.below HB2.out
  obtain ⟨hr0, vx, hr1, hsx⟩ := hrx
  obtain ⟨px, nx, cx, rfl⟩ := hsx.sl
  have hnx := hsx.len.1
  subst hnx
  have hl64 := hfo.ok.len
  have HL64 := hide hl64
  have HOK := hide hfo.ok
  have hbd : ∀ V, Below w2.heap.size w2 V → FoIs V g b tr L ∧ RfIs V gx tr L ∧ V.cell? ⟨gx, 1, none⟩ = some (.slice px L.length cx) ∧ Sps V (.slice px L.length cx) L ∧ Brs V (.slice p2 n2 c2) (brs (sortS L)) := fun V hV => ⟨hfo.below hV, ⟨(hV.cell (lt_of_cell hr0)).trans hr0, _, (hV.cell (lt_of_cell hr1)).trans hr1, hsx.below hV⟩, (hV.cell (lt_of_cell hr1)).trans hr1, hsx.below hV, (HO2.out.below hV).brs⟩
  have HBD := hide hbd
  have eS : decide (sortS L = sortS L) = true := decide_eq_true rfl
  have eB : decide (brs (sortS L) = brs (sortS L)) = true := decide_eq_true rfl
  have C1 := hide (fun V (hV : Below w2.heap.size w2 V) => (len_any (hbd V hV).1).mono (R' := fun e w' => e = .returned (.int .i64 (L.length : Nat)) ∧ Below w2.heap.size w2 w') (fun e w' h => ⟨h.1, by obtain ⟨q, rfl⟩ := h.2; exact hV.trans (bdrew _ _)⟩))
  have C2 := hide (fun V (hV : Below w2.heap.size w2 V) => (end_any (hbd V hV).1).mono (R' := fun e w' => e = .returned (.int .i64 (endP L)) ∧ Below w2.heap.size w2 w') (fun e w' h => ⟨h.1, hV.trans (h.2.mono hV.size)⟩))
  have C3 := hide (fun V (hV : Below w2.heap.size w2 V) => (refEnd_any (hbd V hV).2.1 HOK.out).mono (R' := fun e w' => e = .returned (.int .i64 (endP L)) ∧ Below w2.heap.size w2 w') (fun e w' h => ⟨h.1, hV.trans (h.2.mono hV.size)⟩))
  have C4 := hide (fun V (hV : Below w2.heap.size w2 V) => (spans_any (hbd V hV).1).mono (R' := fun e w' => ∃ v', e = .returned v' ∧ Sps w' v' (sortS L) ∧ Below w2.heap.size w2 w' ∧ Below V.heap.size V w') (fun e w' h => by
    obtain ⟨v', h1, h2, h3⟩ := h
    exact ⟨v', h1, h2.sps, hV.trans (h3.mono hV.size), h3⟩))
  have C5 := hide (fun V (hV : Below w2.heap.size w2 V) => (refSort_any (hbd V hV).2.2.2.1 (Nat.le_trans hl64 (by decide))).mono (R' := fun e w' => ∃ v', e = .returned v' ∧ Sps w' v' (sortS L) ∧ Below w2.heap.size w2 w' ∧ Below V.heap.size V w') (fun e w' h => by
    obtain ⟨v', h1, h2, h3⟩ := h
    exact ⟨v', h1, h2.sps, hV.trans (h3.mono hV.size), h3⟩))
  have C6 := hide (fun V v u (hV : Below w2.heap.size w2 V) (h1 : Sps V v (sortS L)) (h2 : Sps V u (sortS L)) => (equalSp_any h1 h2).mono (R' := fun e w' => e = .returned (.bool true) ∧ Below w2.heap.size w2 w') (fun e w' h => ⟨by rw [h.1, eS], by obtain ⟨q, rfl⟩ := h.2; exact hV.trans (bdrew _ _)⟩))
  have C7 := hide (fun V (hV : Below w2.heap.size w2 V) => (refBranches_any (hbd V hV).2.1 HOK.out).mono (R' := fun e w' => ∃ v', e = .returned v' ∧ Brs w' v' (brs (sortS L)) ∧ Below w2.heap.size w2 w') (fun e w' h => by
    obtain ⟨v', h1, h2, h3⟩ := h
    exact ⟨v', h1, h2.brs, hV.trans (h3.mono hV.size)⟩))
  have C8 := hide (fun V u (hV : Below w2.heap.size w2 V) (h2 : Brs V u (brs (sortS L))) => (equalBr_any (hbd V hV).2.2.2.2 h2).mono (R' := fun e w' => e = .returned (.bool true) ∧ Below w2.heap.size w2 w') (fun e w' h => ⟨by rw [h.1, eB], by obtain ⟨q, rfl⟩ := h.2; exact hV.trans (bdrew _ _)⟩))
  have KS : Hid (∀ V, Below w2.heap.size w2 V → V.cell? ⟨gx, 1, none⟩ = some (.slice px L.length cx)) := hide fun V hV => (hbd V hV).2.2.1
  have D2 := hide (Below.refl w2.heap.size w2)
  have x1 := hr1
  clear hfo hr0 hr1 hsx hbd hl64 eS eB
  go_wp2_with fail
  go_region_held3 (fun V => V.cell? ⟨gx, 1, none⟩ = some (.slice px L.length cx)) (first | go_keep | exact KS.out _ D10.out | exact KS.out _ D9.out | exact KS.out _ D8.out | exact KS.out _ D7.out | exact KS.out _ D6.out | exact KS.out _ D5.out | exact KS.out _ D4.out | exact KS.out _ D3.out | exact KS.out _ D2.out | exact KS.out _ (D10.out.trans (bdrew _ _)) | exact KS.out _ (D9.out.trans (bdrew _ _)) | exact KS.out _ (D8.out.trans (bdrew _ _)) | exact KS.out _ (D7.out.trans (bdrew _ _)) | exact KS.out _ (D6.out.trans (bdrew _ _)) | exact KS.out _ (D5.out.trans (bdrew _ _)) | exact KS.out _ (D4.out.trans (bdrew _ _)) | exact KS.out _ (D3.out.trans (bdrew _ _)) | exact KS.out _ (D2.out.trans (bdrew _ _)))
    (first
      | (go_at_call 23; refine (C1.out _ (by first | exact D9.out | exact D8.out | exact D7.out | exact D6.out | exact D5.out | exact D4.out | exact D3.out | exact D2.out | exact D9.out.trans (bdrew _ _) | exact D8.out.trans (bdrew _ _) | exact D7.out.trans (bdrew _ _) | exact D6.out.trans (bdrew _ _) | exact D5.out.trans (bdrew _ _) | exact D4.out.trans (bdrew _ _) | exact D3.out.trans (bdrew _ _) | exact D2.out.trans (bdrew _ _))).mono ?_; rintro e3 w3 ⟨rfl, hb3⟩; have D3 := hide hb3; clear hb3)
      | (go_at_call 24; refine (C2.out _ (by first | exact D9.out | exact D8.out | exact D7.out | exact D6.out | exact D5.out | exact D4.out | exact D3.out | exact D2.out | exact D9.out.trans (bdrew _ _) | exact D8.out.trans (bdrew _ _) | exact D7.out.trans (bdrew _ _) | exact D6.out.trans (bdrew _ _) | exact D5.out.trans (bdrew _ _) | exact D4.out.trans (bdrew _ _) | exact D3.out.trans (bdrew _ _) | exact D2.out.trans (bdrew _ _))).mono ?_; rintro e4 w4 ⟨rfl, hb4⟩; have D4 := hide hb4; clear hb4)
      | (go_at_call 25; refine (C3.out _ (by first | exact D9.out | exact D8.out | exact D7.out | exact D6.out | exact D5.out | exact D4.out | exact D3.out | exact D2.out | exact D9.out.trans (bdrew _ _) | exact D8.out.trans (bdrew _ _) | exact D7.out.trans (bdrew _ _) | exact D6.out.trans (bdrew _ _) | exact D5.out.trans (bdrew _ _) | exact D4.out.trans (bdrew _ _) | exact D3.out.trans (bdrew _ _) | exact D2.out.trans (bdrew _ _))).mono ?_; rintro e5 w5 ⟨rfl, hb5⟩; have D5 := hide hb5; clear hb5)
      | (go_at_call 26; refine (C4.out _ (by first | exact D9.out | exact D8.out | exact D7.out | exact D6.out | exact D5.out | exact D4.out | exact D3.out | exact D2.out | exact D9.out.trans (bdrew _ _) | exact D8.out.trans (bdrew _ _) | exact D7.out.trans (bdrew _ _) | exact D6.out.trans (bdrew _ _) | exact D5.out.trans (bdrew _ _) | exact D4.out.trans (bdrew _ _) | exact D3.out.trans (bdrew _ _) | exact D2.out.trans (bdrew _ _))).mono ?_; rintro e6 w6 ⟨v6, rfl, hs6, hb6, _⟩; have D6 := hide hb6; have S6 := hide hs6; clear hb6 hs6)
      | (go_at_call 27; refine (C5.out _ (by first | exact D9.out | exact D8.out | exact D7.out | exact D6.out | exact D5.out | exact D4.out | exact D3.out | exact D2.out | exact D9.out.trans (bdrew _ _) | exact D8.out.trans (bdrew _ _) | exact D7.out.trans (bdrew _ _) | exact D6.out.trans (bdrew _ _) | exact D5.out.trans (bdrew _ _) | exact D4.out.trans (bdrew _ _) | exact D3.out.trans (bdrew _ _) | exact D2.out.trans (bdrew _ _))).mono ?_; rintro e7 w7 ⟨v7, rfl, hs7, hb7, hv7⟩; have D7 := hide hb7; have S7 := hide hs7; have S67 := hide (by first | exact S6.out.below hv7 | exact S6.out.below ((bdrew _ 1).trans hv7) : Sps w7 v6 (sortS L)); clear hb7 hs7 hv7)
      | (go_at_call 11; refine (C6.out _ _ _ (by first | exact D9.out | exact D8.out | exact D7.out | exact D6.out | exact D5.out | exact D4.out | exact D3.out | exact D2.out | exact D9.out.trans (bdrew _ _) | exact D8.out.trans (bdrew _ _) | exact D7.out.trans (bdrew _ _) | exact D6.out.trans (bdrew _ _) | exact D5.out.trans (bdrew _ _) | exact D4.out.trans (bdrew _ _) | exact D3.out.trans (bdrew _ _) | exact D2.out.trans (bdrew _ _)) (by first | exact S67.out | exact S67.out.below (bdrew _ _)) (by first | exact S7.out | exact S7.out.below (bdrew _ _))).mono ?_; rintro e8 w8 ⟨rfl, hb8⟩; have D8 := hide hb8; clear hb8)
      | (go_at_call 29; refine (C7.out _ (by first | exact D9.out | exact D8.out | exact D7.out | exact D6.out | exact D5.out | exact D4.out | exact D3.out | exact D2.out | exact D9.out.trans (bdrew _ _) | exact D8.out.trans (bdrew _ _) | exact D7.out.trans (bdrew _ _) | exact D6.out.trans (bdrew _ _) | exact D5.out.trans (bdrew _ _) | exact D4.out.trans (bdrew _ _) | exact D3.out.trans (bdrew _ _) | exact D2.out.trans (bdrew _ _))).mono ?_; rintro e9 w9 ⟨v9, rfl, hs9, hb9⟩; have D9 := hide hb9; have S9 := hide hs9; clear hb9 hs9)
      | (go_at_call 28; refine (C8.out _ _ (by first | exact D9.out | exact D8.out | exact D7.out | exact D6.out | exact D5.out | exact D4.out | exact D3.out | exact D2.out | exact D9.out.trans (bdrew _ _) | exact D8.out.trans (bdrew _ _) | exact D7.out.trans (bdrew _ _) | exact D6.out.trans (bdrew _ _) | exact D5.out.trans (bdrew _ _) | exact D4.out.trans (bdrew _ _) | exact D3.out.trans (bdrew _ _) | exact D2.out.trans (bdrew _ _)) (by first | exact S9.out | exact S9.out.below (bdrew _ _))).mono ?_; rintro e10 w10 ⟨rfl, hb10⟩; have D10 := hide hb10; clear hb10))
  have HB10 : Hid (Below w.heap.size w w10) := hide (HB2.out.trans (D10.out.mono HB2.out.size))
  have HR10 : Hid (∃ xs, w10.ownsRow w.heap.size 54 8 (.slice p2 n2 c2) n2 xs) := hide (by
    have h := HO2.out.below D10.out
    have hn := h.brs.len.1
    unfold OwnB at h
    rw [← hn] at h
    exact ⟨_, h⟩)
  have hn9 : (n2 : Int) ≤ 9223372036854775807 := by
    have := HO2.out.brs.len
    unfold maxLen at this
    omega
  clear C1 C2 C3 C4 C5 C6 C7 C8 x1
  go_wp2_with fail
  go_loopw [7, 47] (fun _ i wr => ∃ k : Nat, k ≤ n2 ∧ i = .int .i64 k ∧ Hid (Below w.heap.size w wr ∧ ∃ xs, wr.ownsRow w.heap.size 54 8 (.slice p2 n2 c2) n2 xs)) (fun _ i _ => n2 - (intOf i).toNat)
  case atStart => exact ⟨0, by omega, rfl, hide ⟨HB10.out, HR10.out⟩⟩
  case round =>
    obtain ⟨k, hk, rfl, HR⟩ := hrel
    by_cases hlt : k < n2
    · obtain ⟨xs, hxs⟩ := HR.out.2
      obtain ⟨g2, hp2, ⟨u, x0⟩, f0, hB2⟩ := hxs.cell8 hlt
      subst hp2
      have HSET : Hid (∀ u, Below w.heap.size w (wr.setCell ⟨g2, k * 8, none⟩ u) ∧ ∃ ys, (wr.setCell ⟨g2, k * 8, none⟩ u).ownsRow w.heap.size 54 8 (.slice (some ⟨g2, 0, none⟩) n2 c2) n2 ys) := hide fun u => ⟨HR.out.1.setCell (p := ⟨g2, k * 8, none⟩) hB2 u, _, rowSet8 hxs⟩
      have j0 : (0 : Int) ≤ (k : Int) := by omega
      have j1 : (k : Int) < (n2 : Int) := by omega
      clear hxs
      go_wp2
      go_roundw
      case rel => exact ⟨k + 1, by omega, by go_num, hide (HSET.out _)⟩
      case measure => simp [intOf]; omega
    · have hfo := HF.out.below HR.out.1
      obtain ⟨hr0, vx, hr1, hsx⟩ := HX.out.below HR.out.1
      obtain ⟨px', nx', cx', rfl⟩ := hsx.sl
      have hnx := hsx.len.1
      subst hnx
      have HFO := hide hfo
      have HSX := hide hsx
      have HOK2 := hide hfo.ok
      have hll : (L.length : Int) ≤ 64 := by have := hfo.ok.len; omega
      clear hfo hr0 hsx
      go_wp2_with fail
      clear hr1
      have HB0 := hide HR.out.1
      obtain ⟨W0, hW0⟩ : ∃ W, W = wr := ⟨_, rfl⟩
      subst hW0
      go_loopw [6, 9, 10, 11, 60] (fun s _ _ _ i wr => s = .bool true ∧ ∃ k : Nat, k ≤ L.length ∧ i = .int .i64 k ∧ Hid (Below W0.heap.size W0 wr)) (fun _ _ _ _ i _ => L.length - (intOf i).toNat)
      case atStart => exact ⟨rfl, 0, by omega, rfl, hide (Below.refl _ _)⟩
      case round =>
        obtain ⟨rfl, k2, hk2, rfl, HR2⟩ := hrel
        by_cases hlt2 : k2 < L.length
        · obtain ⟨x, hxk⟩ : ∃ x, L[k2]? = some x := ⟨_, List.getElem?_eq_getElem hlt2⟩
          obtain ⟨gv, ov, hpv, hx⟩ := (HSX.out.below HR2.out).at_ (by omega)
          subst hpv
          have hat := hx k2 x hxk
          obtain ⟨kk, hkk⟩ : ∃ kk, k2 * 6 = kk := ⟨_, rfl⟩
          rw [hkk] at hat
          obtain ⟨oo, hoo⟩ : ∃ oo, ov + kk = oo := ⟨_, rfl⟩
          rw [hoo] at hat
          have z0 := hat.c0
          have z1 := hat.c1
          have z2 := hat.c2
          have z3 := hat.c3
          have z4 := hat.c4
          have z5 := hat.c5
          have hmem := List.mem_of_getElem? hxk
          have hfx : fnd L x.i = some x := fnd_of HOK2.out.ids hmem
          have hwf : (Lit.int .i64 x.i).wf = true := by
            have h1 := ((Sp.ok_iff x).1 (HOK2.out.ok x hmem).1)
            have h2 := h1.i1
            have h3 := h1.i2
            simp [Lit.wf, IntKind.min, IntKind.max, IntKind.signed, IntKind.bits]
            omega
          have hnew := spAt_new wr x
          have hbY : Below wr.heap.size wr (wr.alloc (.cells #[.int .i64 x.t, .int .i64 x.i, .int .i64 x.p, .int .i64 x.s, .int .i64 x.e, .string x.n] 33)) := (Below.refl _ _).alloc (Nat.le_refl _) _
          obtain ⟨Y, hY⟩ : ∃ Y, wr.alloc (.cells #[.int .i64 x.t, .int .i64 x.i, .int .i64 x.p, .int .i64 x.s, .int .i64 x.e, .string x.n] 33) = Y := ⟨_, rfl⟩
          rw [hY] at hnew hbY
          obtain ⟨bz, hbz⟩ : ∃ bz, wr.heap.size = bz := ⟨_, rfl⟩
          rw [hbz] at hnew
          obtain ⟨y0, y1, y2, y3, y4, y5⟩ := hnew.z
          have HNW := hide hnew
          have HBY : Hid (Below W0.heap.size W0 Y) := hide (HR2.out.trans (hbY.mono HR2.out.size))
          have HFD := find_any (HFO.out.below HBY.out) hwf
          rw [hfx] at HFD
          have hqe := fun W => sp_eql x x W
          clear hx hxk hat hmem hfx hwf hnew hbY
          obtain ⟨xt, xi, xp, xs, xe, xn⟩ := x
          dsimp only at *
          have HFE : Hid (Calls Try.prog 12 #[.pointer (some ⟨g, 0, none⟩), .int .i64 xi] Y fun e w' => e = .returned (.tuple #[.agg #[.int .i64 xt, .int .i64 xi, .int .i64 xp, .int .i64 xs, .int .i64 xe, .string xn], .bool true]) ∧ Below Y.heap.size Y w') := hide HFD
          have hq1 : ∀ W, (binOp .eql 33 (.agg #[.int .i64 xt, .int .i64 xi, .int .i64 xp, .int .i64 xs, .int .i64 xe, .string xn]) (.agg #[.int .i64 xt, .int .i64 xi, .int .i64 xp, .int .i64 xs, .int .i64 xe, .string xn])).run Try.prog W = .ok (.bool true) W := fun W => by
            have h := hqe W
            rw [decide_eq_true rfl] at h
            exact h
          have HQE := hide hq1
          clear HFD hqe hq1
          go_wp2_with fail
          refine HFE.out.mono ?_
          rintro e w6 ⟨rfl, hb6⟩
          have hn6 := HNW.out.below hb6
          have hb7 : Below w6.heap.size w6 (w6.alloc (.cells #[.int .i64 xt, .int .i64 xi, .int .i64 xp, .int .i64 xs, .int .i64 xe, .string xn] 33)) := (Below.refl _ _).alloc (Nat.le_refl _) _
          have hn7 := spAt_new w6 ⟨xt, xi, xp, xs, xe, xn⟩
          dsimp only at hn7
          obtain ⟨V, hV⟩ : ∃ V, w6.alloc (.cells #[.int .i64 xt, .int .i64 xi, .int .i64 xp, .int .i64 xs, .int .i64 xe, .string xn] 33) = V := ⟨_, rfl⟩
          rw [hV] at hb7 hn7
          have hn8 := hn6.below hb7
          obtain ⟨b6, hb6e⟩ : ∃ b6, w6.heap.size = b6 := ⟨_, rfl⟩
          rw [hb6e] at hn7
          have HBV : Hid (Below W0.heap.size W0 V) := hide (HBY.out.trans ((hb6.trans (hb7.mono hb6.size)).mono HBY.out.size))
          clear y0 y1 y2 y3 y4 y5 z0 z1 z2 z3 z4 z5 hoo
          obtain ⟨y0, y1, y2, y3, y4, y5⟩ := hn8.z
          obtain ⟨z0, z1, z2, z3, z4, z5⟩ := hn7.z
          have qe := HQE.out
          clear hb6 hn6 hb7 hn7 hn8
          go_wp2_with fail
          go_roundw
          case rel => exact ⟨rfl, k2 + 1, by omega, by go_num, hide HBV.out⟩
          case measure => simp [intOf]; omega
        · have HB8 : Hid (Below w.heap.size w wr) := hide (HB0.out.trans (HR2.out.mono HB0.out.size))
          go_wp2
          go_ret
          exact ⟨rfl, HB8.out⟩
end Go.Proofs.Ytbbdijnkgkabbaa
