/- The law SessionPlays. -/
import Derived.Test.YtkjebpebfcgnjaaTLawTurns
import Derived.Test.YtkjebpebfcgnjaaTTell
namespace Go.Proofs.Ytkjebpebfcgnjaa
set_option linter.unusedVariables false
set_option linter.unusedSimpArgs false
open Go.RowKit

theorem RtAt.chg {w w' : World} {j gx : Nat} {v : Value} {L : List St} (h : RtAt w gx v L) (hc : Chg w w' (fun k => k = j)) (h1 : gx ≠ j) (h2 : v.ownBlock ≠ some j) : RtAt w' gx v L :=
  ⟨(hc.block gx h.lt h1).trans h.row, h.own.grown (row := some j) ⟨hc.os, hc.tape, hc.output, hc.size, fun k hk hne => hc.block k hk fun e => hne (by rw [e])⟩ (.inr h2)⟩
/-- A table of the program's and one of the document's. -/
structure Pl (w0 : World) (g b gx : Nat) (v : Value) (w : World) (L M : List St) : Prop where
  t : TbOwn w0 g b w L
  x : RtAt w gx v M
  ng : gx ≠ g
  nb : gx ≠ b
  vg : v.ownBlock ≠ some g
  vb : v.ownBlock ≠ some b
  gxl : w0.heap.size ≤ gx
theorem Pl.tab {w0 w w' : World} {g b gx : Nat} {v : Value} {L L' M : List St} (h : Pl w0 g b gx v w L M) (h' : TbIs w' g b L') (hc : Chg w w' (fun k => k = b)) : Pl w0 g b gx v w' L' M :=
  ⟨h.t.tab h' hc, h.x.chg hc h.nb h.vb, h.ng, h.nb, h.vg, h.vb, h.gxl⟩
theorem Pl.bel {w0 w w' : World} {g b gx : Nat} {v : Value} {L M : List St} (h : Pl w0 g b gx v w L M) (hb : Below w.heap.size w w') : Pl w0 g b gx v w' L M :=
  ⟨h.t.bel hb, h.x.below hb, h.ng, h.nb, h.vg, h.vb, h.gxl⟩
theorem Pl.ref {w0 w w' : World} {g b gx : Nat} {v : Value} {L M M' : List St} {n : Int} {e : Ending} (h : Pl w0 g b gx v w L M) (h' : RefPost w gx v n M' e w') : e = .returned (.int .i64 n) ∧ Chg w w' (fun k => k = gx) ∧ ∃ v', Pl w0 g b gx v' w' L M' := by
  obtain ⟨he, v', hx, hv, hc⟩ := h'
  refine ⟨he, hc, v', ⟨h.t.tb.chg hc (fun e => h.ng e.symm) (fun e => h.nb e.symm), h.t.gl, h.t.bl, Chg.to_below h.t.below hc (fun k e => by rw [e]; exact h.gxl)⟩, hx, h.ng, h.nb, ?_, ?_, h.gxl⟩
  · rcases hv with rfl | hv
    · exact h.vg
    · exact fun e => by have := hv _ e; have := h.t.tb.gl; omega
  · rcases hv with rfl | hv
    · exact h.vb
    · exact fun e => by have := hv _ e; have := h.t.tb.bl; omega
theorem Pl.other {w0 w w' w2 : World} {g b g' b' gx : Nat} {v : Value} {L M : List St} (h : Pl w0 g b gx v w L M) (ht : TbIs w' g' b' L) (h1 : w.heap.size ≤ g') (h2 : w.heap.size ≤ b') (hb : Below w.heap.size w w') (hc : Chg w' w2 (fun k => k = b)) : Pl w0 g' b' gx v w2 L M := by
  have hg := h.t.tb.gl
  have hbb := h.t.tb.bl
  have hx := h.x.lt
  have hs := h.t.below.size
  have hv := h.x.own.lt
  refine ⟨⟨ht.chg hc (by omega) (by omega), by omega, by omega, Chg.to_below (h.t.below.trans (hb.mono hs)) hc (fun k e => by rw [e]; exact h.t.bl)⟩, (h.x.below hb).chg hc h.nb h.vb, by omega, by omega, ?_, ?_, h.gxl⟩
  · exact fun e => by have := hv _ e; omega
  · exact fun e => by have := hv _ e; omega
theorem RtAt.new (w : World) : RtAt (w.alloc (.cells #[.slice none 0 0] 29)) w.heap.size (.slice none 0 0) [] := ⟨heap_alloc_new w _, OwnT.nil _ _⟩

set_option maxRecDepth 200000 in
set_option maxHeartbeats 8000000 in
theorem lawPlays_any {w : World} {p : Option Addr} {n c : Nat} {l : List Dt} (h : Dts w p n c l) : Calls Try.prog 3 #[.slice p n c] w (LawPost w) := by
  have hcm := h.cap_
  have hmm := h.max_
  have hn64 : (n : Int) ≤ 9223372036854775807 := by unfold maxLen at hmm; omega
  have HD := hide h
  clear hcm hmm h
  by_cases hn : 200 < n
  · have hA := awake_any w
    go_enter Try.func3, Try.ntmps3
    go_wp2_with fail
    refine hA.mono ?_
    rintro e w1 ⟨rfl, hb⟩
    go_wp2
    go_ret
    exact ⟨by rfl, hb⟩
  go_enter Try.func3, Try.ntmps3
  go_wp2_with fail
  refine (new_any w).mono ?_
  rintro e w1 ⟨rfl, h1, hb1⟩
  obtain ⟨g0, hg⟩ : ∃ g, w.heap.size + 1 = g := ⟨_, rfl⟩
  obtain ⟨b0, hb⟩ : ∃ b, w.heap.size = b := ⟨_, rfl⟩
  obtain ⟨gx, hgx⟩ : ∃ gx, w1.heap.size = gx := ⟨_, rfl⟩
  obtain ⟨w2, hw2⟩ : ∃ w2, w1.alloc (.cells #[.slice none 0 0] 29) = w2 := ⟨_, rfl⟩
  have T2 : Hid (Pl w g0 b0 gx (.slice none 0 0) w2 [] []) := hide (by
    have t1 : TbOwn w g0 b0 w1 [] := by rw [← hb, ← hg]; exact TbOwn.new h1 hb1
    rw [← hw2, ← hgx]
    exact ⟨t1.alloc _, RtAt.new w1, by have := t1.tb.gl; omega, by have := t1.tb.bl; omega, by simp [Value.ownBlock], by simp [Value.ownBlock], t1.below.size⟩)
  rw [hg]
  have HW2 := hide hw2
  have HGX := hide hgx
  clear h1 hb1 hw2 hgx hg hb
  go_wp2
  rw [HW2.out, HGX.out]
  clear HW2 HGX
  go_loopw [3, 23] (fun tv i wr => ∃ (k g b : Nat) (v : Value) (L : List St), k ≤ n ∧ i = .int .i64 k ∧ tv = .pointer (some ⟨g, 0, none⟩) ∧ Hid (Pl w g b gx v wr L L)) (fun _ i _ => n - (intOf i).toNat)
  case atStart => exact ⟨0, g0, b0, _, [], by omega, rfl, rfl, T2⟩
  case round =>
    obtain ⟨k, g, b, v, L, hk, rfl, rfl, HR⟩ := hrel
    by_cases hlt : k < n
    · have hll := HD.out.len_
      obtain ⟨y, hy⟩ : ∃ y, l[k]? = some y := ⟨_, List.getElem?_eq_getElem (by omega)⟩
      obtain ⟨gd, o, rfl, hgd, hc⟩ := HD.out.at_ (by omega)
      obtain ⟨d0, d1, d2, d3, d4, d5, d6, d7, d8, d9, d10, d11⟩ := ((hc k y hy).below HR.out.t.below).all
      have HW := hide (HD.out.wf_ y (List.mem_of_getElem? hy))
      obtain ⟨op, s, q, a, ⟨e1, e2, e3, e4, e5, e6, e7, e8⟩⟩ := y
      dsimp only at d0 d1 d2 d3 d4 d5 d6 d7 d8 d9 d10 d11
      obtain ⟨Y, hY⟩ : ∃ Y, wr.alloc (.cells #[.int .i64 op, .int .i64 s, .int .i64 q, .int .i64 a, .int .i64 e1, .int .i64 e2, .int .i64 e3, .int .i64 e4, .int .i64 e5, .int .i64 e6, .int .i64 e7, .int .i64 e8] 36) = Y := ⟨_, rfl⟩
      have PY : Hid (Pl w g b gx v Y L L) := hide (by rw [← hY]; exact HR.out.bel ((Below.refl _ _).alloc (Nat.le_refl _) _))
      have HOK := hide HR.out.t.tb.ok
      have hbr : b < wr.heap.size := HR.out.t.tb.bl
      have hxr : gx < wr.heap.size := HR.out.x.lt
      have HDY : Hid (DtAt Y wr.heap.size 0 (⟨op, s, q, a, ⟨e1, e2, e3, e4, e5, e6, e7, e8⟩⟩ : Dt)) := hide (by rw [← hY]; exact DtAt.box wr _)
      have XF : Hid (∀ V, DtAt V wr.heap.size 0 (⟨op, s, q, a, ⟨e1, e2, e3, e4, e5, e6, e7, e8⟩⟩ : Dt) → V.cell? ⟨wr.heap.size, 0, none⟩ = some (.int .i64 op) ∧ V.cell? ⟨wr.heap.size, 1, none⟩ = some (.int .i64 s) ∧ V.cell? ⟨wr.heap.size, 2, none⟩ = some (.int .i64 q) ∧ V.cell? ⟨wr.heap.size, 3, none⟩ = some (.int .i64 a) ∧ V.cell? ⟨wr.heap.size, 4, none⟩ = some (.int .i64 e1) ∧ V.cell? ⟨wr.heap.size, 5, none⟩ = some (.int .i64 e2) ∧ V.cell? ⟨wr.heap.size, 6, none⟩ = some (.int .i64 e3) ∧ V.cell? ⟨wr.heap.size, 7, none⟩ = some (.int .i64 e4) ∧ V.cell? ⟨wr.heap.size, 8, none⟩ = some (.int .i64 e5) ∧ V.cell? ⟨wr.heap.size, 9, none⟩ = some (.int .i64 e6) ∧ V.cell? ⟨wr.heap.size, 10, none⟩ = some (.int .i64 e7) ∧ V.cell? ⟨wr.heap.size, 11, none⟩ = some (.int .i64 e8)) := hide fun V hV => by
        have := hV.all
        simpa only [Nat.zero_add] using this
      have XA : Hid (∀ V, DtAt V wr.heap.size 0 (⟨op, s, q, a, ⟨e1, e2, e3, e4, e5, e6, e7, e8⟩⟩ : Dt) → V.cell? ⟨wr.heap.size, 3, none⟩ = some (.int .i64 a)) := hide fun V hV => (XF.out V hV).2.2.2.1
      have XK : Hid (∀ V, DtAt V wr.heap.size 0 (⟨op, s, q, a, ⟨e1, e2, e3, e4, e5, e6, e7, e8⟩⟩ : Dt) → V.cell? ⟨wr.heap.size, 1, none⟩ = some (.int .i64 s) ∧ V.cell? ⟨wr.heap.size, 2, none⟩ = some (.int .i64 q) ∧ V.cell? ⟨wr.heap.size, 3, none⟩ = some (.int .i64 a) ∧ V.cell? ⟨wr.heap.size, 4, none⟩ = some (.int .i64 e1) ∧ V.cell? ⟨wr.heap.size, 5, none⟩ = some (.int .i64 e2) ∧ V.cell? ⟨wr.heap.size, 6, none⟩ = some (.int .i64 e3) ∧ V.cell? ⟨wr.heap.size, 7, none⟩ = some (.int .i64 e4) ∧ V.cell? ⟨wr.heap.size, 8, none⟩ = some (.int .i64 e5) ∧ V.cell? ⟨wr.heap.size, 9, none⟩ = some (.int .i64 e6) ∧ V.cell? ⟨wr.heap.size, 10, none⟩ = some (.int .i64 e7) ∧ V.cell? ⟨wr.heap.size, 11, none⟩ = some (.int .i64 e8)) := hide fun V hV => (XF.out V hV).2
      obtain ⟨y0, y1, y2, y3, y4, y5, y6, y7, y8, y9, y10, y11⟩ := XF.out _ HDY.out
      have hw := HW.out
      have hwa := hw.wa
      have hwq := i64_bounds hw.wq
      have hws := hw.ws
      dsimp only at hwa hwq hws
      have HWA := hide hwa
      have HWS := hide hws
      have HN2 := hide hn
      have PD : Hid (Pl w g b gx v (Y.drewN 1) L L) := hide (PY.out.bel (bdrew _ _))
      have DD : Hid (DtAt (Y.drewN 1) wr.heap.size 0 (⟨op, s, q, a, ⟨e1, e2, e3, e4, e5, e6, e7, e8⟩⟩ : Dt)) := hide (HDY.out.below (bdrew _ _))
      clear hc hy hwa hws hll hw hgd
      by_cases h0 : (wrap64 ((IntKind.u64.wrap op).tmod 6) == 0) = true
      · have ho := fun V (hV : TbIs V g b L) => open_any hV HWA.out
        have hx := fun V (hV : RtAt V gx v L) => refOpen_any hV HOK.out a
        obtain ⟨e0, he0⟩ : ∃ e0, (openT L a).1 = e0 := ⟨_, rfl⟩
        obtain ⟨L3, hL3⟩ : ∃ L3, (openT L a).2 = L3 := ⟨_, rfl⟩
        rw [he0, hL3] at ho hx
        have HO := hide ho
        have HX := hide hx
        clear ho hx he0 hL3
        go_wp2_with fail
        go_region_held3 (fun W => W.cell? ⟨wr.heap.size, 3, none⟩ = some (.int .i64 a)) (first | exact XA.out _ DD.out | exact XA.out _ D7.out | exact XA.out _ D8.out)
          (first
            | (go_at_call 13; refine (HO.out _ PD.out.t.tb).mono ?_; rintro e7 w7 ⟨rfl, h7, hc7⟩; have P7 := hide (PD.out.tab h7 hc7); have D7 := hide (DD.out.chg hc7 (fun e => by omega)); clear h7 hc7)
            | (go_at_call 14; refine (HX.out _ P7.out.x).mono ?_; rintro e8 w8 h8; obtain ⟨rfl, hc8, v8, p8⟩ := P7.out.ref h8; have P8 := hide p8; have D8 := hide (D7.out.chg hc8 (fun e => by omega)); clear h8 hc8 p8))
        clear y0 y1 y2 y3 y4 y5 y6 y7 y8 y9 y10 y11
        go_wp2_with fail
        refine (tells_any P8.out.t.tb P8.out.x).mono ?_
        rintro e w9 ⟨rfl, hb9⟩
        have P9 := hide (P8.out.bel hb9)
        clear hb9
        go_wp2
        go_roundw
        case rel => exact ⟨k + 1, g, b, v8, L3, by omega, by go_num, rfl, P9⟩
        case measure => simp [intOf]; omega
      replace h0 : (wrap64 ((IntKind.u64.wrap op).tmod 6) == 0) = false := by simpa using h0
      by_cases h1 : (wrap64 ((IntKind.u64.wrap op).tmod 6) == 1) = true
      · have ha := fun V (hV : TbIs V g b L) => ask_any hV (n := s) (m := q) HWS.out hwq.1 hwq.2
        have hx := fun V (hV : RtAt V gx v L) => refAsk_any hV HOK.out (n := s) (m := q) hwq.1 hwq.2
        obtain ⟨p, hp⟩ : ∃ p, askT L s q = p := ⟨_, rfl⟩
        rw [hp] at ha hx
        obtain ⟨⟨r1, r2, r3, r4, r5, r6, r7, r8⟩, d, er⟩ := p
        unfold AskPost rpV at ha hx
        dsimp only at ha hx
        have HA := hide ha
        have HX := hide hx
        clear ha hx hp
        go_wp2_with fail
        refine (HA.out _ PY.out.t.tb).mono ?_
        rintro e w3 ⟨rfl, hb3⟩
        have P3 := hide (PY.out.bel hb3)
        have D3 := hide (HDY.out.below hb3)
        clear hb3
        clear y0 y1 y2 y3 y4 y5 y6 y7 y8 y9 y10 y11
        obtain ⟨Z, hZ⟩ : ∃ Z, w3.alloc (.cells #[.int .i64 r1, .int .i64 r2, .int .i64 r3, .int .i64 r4, .int .i64 r5, .int .i64 r6, .int .i64 r7, .int .i64 r8] 34) = Z := ⟨_, rfl⟩
        have hbZ : Below w3.heap.size w3 Z := by rw [← hZ]; exact (Below.refl _ _).alloc (Nat.le_refl _) _
        have PZ := hide (P3.out.bel hbZ)
        have DZ := hide (D3.out.below hbZ)
        have hsZ : w3.heap.size < Z.heap.size := by rw [← hZ]; simp
        have cZ : ∀ i v, #[Value.int .i64 r1, .int .i64 r2, .int .i64 r3, .int .i64 r4, .int .i64 r5, .int .i64 r6, .int .i64 r7, .int .i64 r8][i]? = some v → Z.cell? ⟨w3.heap.size, i, none⟩ = some v := fun i v hi => by rw [← hZ, World.cell?_alloc_new]; exact hi
        obtain ⟨y0, y1, y2, y3, y4, y5, y6, y7, y8, y9, y10, y11⟩ := XF.out _ DZ.out
        have HZ := hide hsZ
        have HCZ := hide cZ
        clear hbZ cZ hsZ
        go_wp2_with fail
        refine (HX.out _ PZ.out.x).mono ?_
        rintro e w4 ⟨rfl, hb4⟩
        have P4 := hide (PZ.out.bel hb4)
        have D4 := hide (DZ.out.below hb4)
        have HCW : Hid (∀ i v, #[Value.int .i64 r1, .int .i64 r2, .int .i64 r3, .int .i64 r4, .int .i64 r5, .int .i64 r6, .int .i64 r7, .int .i64 r8][i]? = some v → w4.cell? ⟨w3.heap.size, i, none⟩ = some v) := hide fun i v hi => (hb4.cell (p := ⟨w3.heap.size, i, none⟩) HZ.out).trans (HCZ.out i v hi)
        have HZ4 : Hid (w3.heap.size < w4.heap.size) := hide (by have := HZ.out; have := hb4.size; omega)
        clear hb4
        clear y0 y1 y2 y3 y4 y5 y6 y7 y8 y9 y10 y11
        obtain ⟨Y2, hY2⟩ : ∃ Y2, w4.alloc (.cells #[.int .i64 r1, .int .i64 r2, .int .i64 r3, .int .i64 r4, .int .i64 r5, .int .i64 r6, .int .i64 r7, .int .i64 r8] 34) = Y2 := ⟨_, rfl⟩
        have hbY2 : Below w4.heap.size w4 Y2 := by rw [← hY2]; exact (Below.refl _ _).alloc (Nat.le_refl _) _
        have PY2 := hide (P4.out.bel hbY2)
        have DY2 := hide (D4.out.below hbY2)
        have hsY2 : w4.heap.size < Y2.heap.size := by rw [← hY2]; simp
        have cY2 : ∀ i v, #[Value.int .i64 r1, .int .i64 r2, .int .i64 r3, .int .i64 r4, .int .i64 r5, .int .i64 r6, .int .i64 r7, .int .i64 r8][i]? = some v → Y2.cell? ⟨w4.heap.size, i, none⟩ = some v := fun i v hi => by rw [← hY2, World.cell?_alloc_new]; exact hi
        have z0 : Y2.cell? ⟨w3.heap.size, 0, none⟩ = some (.int .i64 r1) := (hbY2.cell (p := ⟨w3.heap.size, 0, none⟩) HZ4.out).trans (HCW.out 0 _ rfl)
        have z1 : Y2.cell? ⟨w3.heap.size, 1, none⟩ = some (.int .i64 r2) := (hbY2.cell (p := ⟨w3.heap.size, 1, none⟩) HZ4.out).trans (HCW.out 1 _ rfl)
        have z2 : Y2.cell? ⟨w3.heap.size, 2, none⟩ = some (.int .i64 r3) := (hbY2.cell (p := ⟨w3.heap.size, 2, none⟩) HZ4.out).trans (HCW.out 2 _ rfl)
        have z3 : Y2.cell? ⟨w3.heap.size, 3, none⟩ = some (.int .i64 r4) := (hbY2.cell (p := ⟨w3.heap.size, 3, none⟩) HZ4.out).trans (HCW.out 3 _ rfl)
        have z4 : Y2.cell? ⟨w3.heap.size, 4, none⟩ = some (.int .i64 r5) := (hbY2.cell (p := ⟨w3.heap.size, 4, none⟩) HZ4.out).trans (HCW.out 4 _ rfl)
        have z5 : Y2.cell? ⟨w3.heap.size, 5, none⟩ = some (.int .i64 r6) := (hbY2.cell (p := ⟨w3.heap.size, 5, none⟩) HZ4.out).trans (HCW.out 5 _ rfl)
        have z6 : Y2.cell? ⟨w3.heap.size, 6, none⟩ = some (.int .i64 r7) := (hbY2.cell (p := ⟨w3.heap.size, 6, none⟩) HZ4.out).trans (HCW.out 6 _ rfl)
        have z7 : Y2.cell? ⟨w3.heap.size, 7, none⟩ = some (.int .i64 r8) := (hbY2.cell (p := ⟨w3.heap.size, 7, none⟩) HZ4.out).trans (HCW.out 7 _ rfl)
        have x0 : Y2.cell? ⟨w4.heap.size, 0, none⟩ = some (.int .i64 r1) := cY2 0 _ rfl
        have x1 : Y2.cell? ⟨w4.heap.size, 1, none⟩ = some (.int .i64 r2) := cY2 1 _ rfl
        have x2 : Y2.cell? ⟨w4.heap.size, 2, none⟩ = some (.int .i64 r3) := cY2 2 _ rfl
        have x3 : Y2.cell? ⟨w4.heap.size, 3, none⟩ = some (.int .i64 r4) := cY2 3 _ rfl
        have x4 : Y2.cell? ⟨w4.heap.size, 4, none⟩ = some (.int .i64 r5) := cY2 4 _ rfl
        have x5 : Y2.cell? ⟨w4.heap.size, 5, none⟩ = some (.int .i64 r6) := cY2 5 _ rfl
        have x6 : Y2.cell? ⟨w4.heap.size, 6, none⟩ = some (.int .i64 r7) := cY2 6 _ rfl
        have x7 : Y2.cell? ⟨w4.heap.size, 7, none⟩ = some (.int .i64 r8) := cY2 7 _ rfl
        have hneq : ∀ W, (binOp .neq 34 (.agg #[.int .i64 r1, .int .i64 r2, .int .i64 r3, .int .i64 r4, .int .i64 r5, .int .i64 r6, .int .i64 r7, .int .i64 r8]) (.agg #[.int .i64 r1, .int .i64 r2, .int .i64 r3, .int .i64 r4, .int .i64 r5, .int .i64 r6, .int .i64 r7, .int .i64 r8])).run Try.prog W = .ok (.bool false) W := fun W => by
          have := rp_neqB ⟨r1, r2, r3, r4, r5, r6, r7, r8⟩ ⟨r1, r2, r3, r4, r5, r6, r7, r8⟩ W
          rw [decide_eq_true rfl] at this
          exact this
        clear hbY2 cY2 hsY2
        go_wp2_with fail
        clear z0 z1 z2 z3 z4 z5 z6 z7
        clear x0 x1 x2 x3 x4 x5 x6 x7
        refine (tells_any PY2.out.t.tb PY2.out.x).mono ?_
        rintro e w9 ⟨rfl, hb9⟩
        have P9 := hide (PY2.out.bel hb9)
        clear hb9
        go_wp2
        go_roundw
        case rel => exact ⟨k + 1, g, b, v, L, by omega, by go_num, rfl, P9⟩
        case measure => simp [intOf]; omega
      replace h1 : (wrap64 ((IntKind.u64.wrap op).tmod 6) == 1) = false := by simpa using h1
      by_cases h4 : (wrap64 ((IntKind.u64.wrap op).tmod 6) == 4) = true
      · have ho := fun V (hV : TbIs V g b L) => expire_any hV a
        have hx := fun V (hV : RtAt V gx v L) => refExpire_any hV HOK.out a
        obtain ⟨e0, he0⟩ : ∃ e0 : Int, (L.length : Int) - (expT L a).length = e0 := ⟨_, rfl⟩
        obtain ⟨L3, hL3⟩ : ∃ L3, expT L a = L3 := ⟨_, rfl⟩
        rw [he0, hL3] at ho hx
        have HO := hide ho
        have HX := hide hx
        clear ho hx he0 hL3
        go_wp2_with fail
        go_region_held3 (fun W => W.cell? ⟨wr.heap.size, 3, none⟩ = some (.int .i64 a)) (first | exact XA.out _ DD.out | exact XA.out _ D7.out | exact XA.out _ D8.out)
          (first
            | (go_at_call 17; refine (HO.out _ PD.out.t.tb).mono ?_; rintro e7 w7 ⟨rfl, h7, hc7⟩; have P7 := hide (PD.out.tab h7 hc7); have D7 := hide (DD.out.chg hc7 (fun e => by omega)); clear h7 hc7)
            | (go_at_call 18; refine (HX.out _ P7.out.x).mono ?_; rintro e8 w8 h8; obtain ⟨rfl, hc8, v8, p8⟩ := P7.out.ref h8; have P8 := hide p8; have D8 := hide (D7.out.chg hc8 (fun e => by omega)); clear h8 hc8 p8))
        clear y0 y1 y2 y3 y4 y5 y6 y7 y8 y9 y10 y11
        go_wp2_with fail
        refine (tells_any P8.out.t.tb P8.out.x).mono ?_
        rintro e w9 ⟨rfl, hb9⟩
        have P9 := hide (P8.out.bel hb9)
        clear hb9
        go_wp2
        go_roundw
        case rel => exact ⟨k + 1, g, b, v8, L3, by omega, by go_num, rfl, P9⟩
        case measure => simp [intOf]; omega
      replace h4 : (wrap64 ((IntKind.u64.wrap op).tmod 6) == 4) = false := by simpa using h4
      by_cases h5 : (wrap64 ((IntKind.u64.wrap op).tmod 6) == 5) = true
      · go_wp2_with fail
        refine (tclone_any PY.out.t.tb).mono ?_
        rintro e w3 ⟨g2, b2, rfl, ht, hg2, hb2, hbl⟩
        have HC := hide (And.intro ht (And.intro hg2 (And.intro hb2 hbl)))
        have P3 := hide (PY.out.bel hbl)
        clear ht hg2 hb2 hbl
        clear y0 y1 y2 y3 y4 y5 y6 y7 y8 y9 y10 y11
        go_wp2_with fail
        refine (expire_any P3.out.t.tb 4611686018427387904).mono ?_
        rintro e w4 ⟨rfl, h4', hc4⟩
        have P4 : Hid (Pl w g2 b2 gx v w4 L L) := hide (PY.out.other HC.out.1 HC.out.2.1 HC.out.2.2.1 HC.out.2.2.2 hc4)
        clear h4' hc4
        obtain ⟨e3, he3⟩ : ∃ e3 : Int, (L.length : Int) - (expT L 4611686018427387904).length = e3 := ⟨_, rfl⟩
        rw [he3]
        clear he3
        go_wp2_with fail
        refine (tells_any P4.out.t.tb P4.out.x).mono ?_
        rintro e w9 ⟨rfl, hb9⟩
        have P9 := hide (P4.out.bel hb9)
        clear hb9
        go_wp2
        go_roundw
        case rel => exact ⟨k + 1, g2, b2, v, L, by omega, by go_num, rfl, P9⟩
        case measure => simp [intOf]; omega
      replace h5 : (wrap64 ((IntKind.u64.wrap op).tmod 6) == 5) = false := by simpa using h5
      have ho := fun V (hV : TbIs V g b L) => keep_any hV (n := s) (m := q) (a := a) (r := ⟨e1, e2, e3, e4, e5, e6, e7, e8⟩) HWS.out hwq.1 hwq.2
      have hx := fun V (hV : RtAt V gx v L) => refKeep_any hV HOK.out (n := s) (m := q) (a := a) (r := ⟨e1, e2, e3, e4, e5, e6, e7, e8⟩) hwq.1 hwq.2
      unfold rpV at ho hx
      dsimp only at ho hx
      obtain ⟨e0, he0⟩ : ∃ e0 : Int, (keepT L s q a ⟨e1, e2, e3, e4, e5, e6, e7, e8⟩).1 = e0 := ⟨_, rfl⟩
      obtain ⟨L3, hL3⟩ : ∃ L3, (keepT L s q a ⟨e1, e2, e3, e4, e5, e6, e7, e8⟩).2 = L3 := ⟨_, rfl⟩
      rw [he0, hL3] at ho hx
      have HO := hide ho
      have HX := hide hx
      clear ho hx he0 hL3
      go_wp2_with fail
      go_region_held3 (fun W => W.cell? ⟨wr.heap.size, 1, none⟩ = some (.int .i64 s) ∧ W.cell? ⟨wr.heap.size, 2, none⟩ = some (.int .i64 q) ∧ W.cell? ⟨wr.heap.size, 3, none⟩ = some (.int .i64 a) ∧ W.cell? ⟨wr.heap.size, 4, none⟩ = some (.int .i64 e1) ∧ W.cell? ⟨wr.heap.size, 5, none⟩ = some (.int .i64 e2) ∧ W.cell? ⟨wr.heap.size, 6, none⟩ = some (.int .i64 e3) ∧ W.cell? ⟨wr.heap.size, 7, none⟩ = some (.int .i64 e4) ∧ W.cell? ⟨wr.heap.size, 8, none⟩ = some (.int .i64 e5) ∧ W.cell? ⟨wr.heap.size, 9, none⟩ = some (.int .i64 e6) ∧ W.cell? ⟨wr.heap.size, 10, none⟩ = some (.int .i64 e7) ∧ W.cell? ⟨wr.heap.size, 11, none⟩ = some (.int .i64 e8)) (first | exact XK.out _ DD.out | exact XK.out _ D7.out | exact XK.out _ D8.out)
        (first
          | (go_at_call 20; refine (HO.out _ PD.out.t.tb).mono ?_; rintro e7 w7 ⟨rfl, h7, hc7⟩; have P7 := hide (PD.out.tab h7 hc7); have D7 := hide (DD.out.chg hc7 (fun e => by omega)); clear h7 hc7)
          | (go_at_call 21; refine (HX.out _ P7.out.x).mono ?_; rintro e8 w8 h8; obtain ⟨rfl, hc8, v8, p8⟩ := P7.out.ref h8; have P8 := hide p8; have D8 := hide (D7.out.chg hc8 (fun e => by omega)); clear h8 hc8 p8))
      clear y0 y1 y2 y3 y4 y5 y6 y7 y8 y9 y10 y11
      go_wp2_with fail
      refine (tells_any P8.out.t.tb P8.out.x).mono ?_
      rintro e w9 ⟨rfl, hb9⟩
      have P9 := hide (P8.out.bel hb9)
      clear hb9
      go_wp2
      go_roundw
      case rel => exact ⟨k + 1, g, b, v8, L3, by omega, by go_num, rfl, P9⟩
      case measure => simp [intOf]; omega
    · have HA := hide (awake_any wr)
      go_wp2_with fail
      refine HA.out.mono ?_
      rintro e w8 ⟨rfl, hb8⟩
      have P8 := hide (HR.out.bel hb8)
      clear hb8
      go_wp2
      go_ret
      exact ⟨by rfl, P8.out.t.below⟩
end Go.Proofs.Ytkjebpebfcgnjaa
