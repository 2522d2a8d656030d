/- The program's base: what may be, what goes on. -/
import Derived.Test.YtlmoiaeppehiiaaLMem
import Derived.WalkKit
namespace Go.Proofs.Ytlmoiaeppehiiaa
set_option linter.unusedVariables false
set_option linter.unusedSimpArgs false
open Go.RowKit

theorem count_any {w : World} (n : Int) : Calls Try.prog 109 #[.int .i64 n] w fun e w' => e = .returned (.bool (cnt n)) ∧ w = w' := by
  by_cases h0 : 0 < n
  · have e0 : decide (0 < n) = true := by simpa using h0
    have HX : Hid (cnt n = decide (n ≤ 1099511627776)) := hide (by unfold cnt; rw [e0]; rfl)
    clear h0
    go_enter Try.func109, Try.ntmps109
    go_wp2
    go_ret
    exact ⟨ret_b HX.out, rfl⟩
  · have e0 : decide (0 < n) = false := by simpa using h0
    have HX : Hid (cnt n = false) := hide (by unfold cnt; rw [e0]; rfl)
    clear h0
    go_enter Try.func109, Try.ntmps109
    go_wp2
    go_ret
    exact ⟨ret_b HX.out, rfl⟩

set_option maxRecDepth 100000 in
set_option maxHeartbeats 1000000 in
theorem mayBe_any {w : World} (ix tm : Int) : Calls Try.prog 104 #[.agg #[.int .i64 ix, .int .i64 tm]] w fun e w' => e = .returned (.bool (good ix tm)) ∧ Below w.heap.size w w' := by
  have H1 : Hid (∀ w, Calls Try.prog 109 #[.int .i64 ix] w fun e w' => e = .returned (.bool (cnt ix)) ∧ w = w') := hide fun w => count_any ix
  have H2 : Hid (∀ w, Calls Try.prog 109 #[.int .i64 tm] w fun e w' => e = .returned (.bool (cnt tm)) ∧ w = w') := hide fun w => count_any tm
  have HB := hide ((Below.refl w.heap.size w).alloc (Nat.le_refl _) (.cells #[.int .i64 ix, .int .i64 tm] 137))
  have HX : Hid (good ix tm = ((decide (ix = 0) && decide (tm = 0)) || (cnt ix && cnt tm))) := hide rfl
  obtain ⟨q1, hq1⟩ : ∃ q, cnt ix = q := ⟨_, rfl⟩
  obtain ⟨q2, hq2⟩ : ∃ q, cnt tm = q := ⟨_, rfl⟩
  rw [hq1] at H1 HX
  rw [hq2] at H2 HX
  clear hq1 hq2
  go_enter Try.func104, Try.ntmps104
  by_cases h1 : ix = 0
  · by_cases h2 : tm = 0
    · subst h1 h2
      go_wp2
      go_ret
      exact ⟨ret_b (by rw [HX.out]; rfl), HB.out⟩
    · have e1 : (ix == 0) = true := by simpa using h1
      have e2 : (tm == 0) = false := by simpa using h2
      have HX2 : Hid (good ix tm = (q1 && q2)) := hide (by rw [HX.out]; simp [h2])
      clear HX h2 h1
      go_wp2_with fail
      refine (H1.out _).mono ?_
      rintro e w9 ⟨rfl, rfl⟩
      cases q1
      · go_wp2
        go_ret
        exact ⟨ret_b HX2.out, HB.out⟩
      · go_wp2_with fail
        refine (H2.out _).mono ?_
        rintro e w9 ⟨rfl, rfl⟩
        cases q2
        all_goals
          go_wp2
          go_ret
          exact ⟨ret_b HX2.out, HB.out⟩
  · have e1 : (ix == 0) = false := by simpa using h1
    have HX2 : Hid (good ix tm = (q1 && q2)) := hide (by rw [HX.out]; simp [h1])
    clear HX h1
    go_wp2_with fail
    refine (H1.out _).mono ?_
    rintro e w9 ⟨rfl, rfl⟩
    cases q1
    · go_wp2
      go_ret
      exact ⟨ret_b HX2.out, HB.out⟩
    · go_wp2_with fail
      refine (H2.out _).mono ?_
      rintro e w9 ⟨rfl, rfl⟩
      cases q2
      all_goals
        go_wp2
        go_ret
        exact ⟨ret_b HX2.out, HB.out⟩

theorem follow_eq (ix tm : Int) (x : En) : follow ix tm x = ((x.i == nxt ix) && decide (x.i ≤ 1099511627776) && decide (tm ≤ x.t) && cnt x.t && decide ((x.d.length : Int) ≤ 4096)) := by
  unfold follow
  congr 1
  rw [decide_eq_decide]
  omega
set_option maxRecDepth 100000 in
set_option maxHeartbeats 2000000 in
theorem mayFollow_any {w : World} {ix tm i t : Int} {p : Option Addr} {n c : Nat} {x : En} (hix : fits ix) (hi : i = x.i) (ht : t = x.t) (hn : n = x.d.length) (hm : n ≤ maxLen) :
    Calls Try.prog 110 #[.agg #[.int .i64 ix, .int .i64 tm], .agg #[.int .i64 i, .int .i64 t, .slice p n c]] w fun e w' => e = .returned (.bool (follow ix tm x)) ∧ Below w.heap.size w w' := by
  have HB := hide (((Below.refl w.heap.size w).alloc (Nat.le_refl _) (.cells #[.int .i64 ix, .int .i64 tm] 137)).alloc (by simp) (.cells #[.int .i64 i, .int .i64 t, .slice p n c] 70))
  have H2 : Hid (∀ w, Calls Try.prog 109 #[.int .i64 t] w fun e w' => e = .returned (.bool (cnt t)) ∧ w = w') := hide fun w => count_any t
  have HX0 := hide (follow_eq ix tm x)
  rw [← hi, ← ht, ← hn] at HX0
  obtain ⟨nx, hnx⟩ : ∃ nx, nxt ix = nx := ⟨_, rfl⟩
  have hwr := nxt_wrap hix
  rw [hnx] at hwr HX0
  obtain ⟨q4, hq4⟩ : ∃ q, cnt t = q := ⟨_, rfl⟩
  rw [hq4] at H2 HX0
  have hm2 : (n : Int) ≤ 9223372036854775807 := by unfold maxLen at hm; omega
  have hwx := hwr
  rw [IntKind.wrap_i64] at hwx
  have hn0 : fits nx := by unfold fits; omega
  unfold fits at hix hn0
  clear hq4 hnx hi ht hn hm hwx
  go_enter Try.func110, Try.ntmps110
  obtain ⟨q1, e1⟩ : ∃ q, (i == nx) = q := ⟨_, rfl⟩
  obtain ⟨q2, e2⟩ : ∃ q, decide (i ≤ 1099511627776) = q := ⟨_, rfl⟩
  obtain ⟨q3, e3⟩ : ∃ q, decide (tm ≤ t) = q := ⟨_, rfl⟩
  obtain ⟨q5, e5⟩ : ∃ q, decide ((n : Int) ≤ 4096) = q := ⟨_, rfl⟩
  have HX : Hid (follow ix tm x = (q1 && q2 && q3 && q4 && q5)) := hide (by rw [HX0.out, e1, e2, e3, e5])
  clear HX0
  cases q1
  · clear e2 e3 e5
    go_wp2
    go_ret
    exact ⟨ret_b HX.out, HB.out⟩
  · cases q2
    · clear e3 e5
      go_wp2
      go_ret
      exact ⟨ret_b HX.out, HB.out⟩
    · cases q3
      · clear e5
        go_wp2
        go_ret
        exact ⟨ret_b HX.out, HB.out⟩
      · go_wp2_with fail
        refine (H2.out _).mono ?_
        rintro e w9 ⟨rfl, rfl⟩
        cases q4
        · clear e5
          go_wp2
          go_ret
          exact ⟨ret_b HX.out, HB.out⟩
        · cases q5
          all_goals
            go_wp2
            go_ret
            exact ⟨ret_b HX.out, HB.out⟩

theorem endOf_any {w : World} {i t : Int} {p : Option Addr} {n c : Nat} : Calls Try.prog 111 #[.agg #[.int .i64 i, .int .i64 t, .slice p n c]] w fun e w' => e = .returned (.agg #[.int .i64 i, .int .i64 t]) ∧ Below w.heap.size w w' := by
  have HB := hide ((((Below.refl w.heap.size w).alloc (Nat.le_refl _) (.cells #[.int .i64 i, .int .i64 t, .slice p n c] 70)).alloc (by simp) (.cells #[.int .i64 i, .int .i64 t] 137)))
  go_enter Try.func111, Try.ntmps111
  go_wp2
  exact bodyPost_ret (v := .agg #[.int .i64 i, .int .i64 t]) (by simp [results, Try.results111, go_sem]) rfl ⟨rfl, HB.out⟩

/-- Two cells of a box that may be written. -/
def Box2 (w : World) (b : Nat) (x y : Int) : Prop := w.cell? ⟨b, 0, none⟩ = some (.int .i64 x) ∧ w.cell? ⟨b, 1, none⟩ = some (.int .i64 y) ∧ w.frozen? ⟨b, 0, none⟩ = false ∧ w.frozen? ⟨b, 1, none⟩ = false
theorem Box2.below {w w' : World} {b : Nat} {x y : Int} (h : Box2 w b x y) (hb : Below w.heap.size w w') : Box2 w' b x y := by
  have hl : b < w.heap.size := lt_of_cell h.1
  exact ⟨(hb.cell (p := ⟨b, 0, none⟩) hl).trans h.1, (hb.cell (p := ⟨b, 1, none⟩) hl).trans h.2.1, (hb.frozen (p := ⟨b, 0, none⟩) hl).trans h.2.2.1, (hb.frozen (p := ⟨b, 1, none⟩) hl).trans h.2.2.2⟩
theorem Box2.new (w : World) (x y : Int) (T : Nat) : Box2 (w.alloc (.cells #[.int .i64 x, .int .i64 y] T)) w.heap.size x y := by
  refine ⟨?_, ?_, ?_, ?_⟩
  · rw [cell_of_row _ w.heap.size 0 _ _ (0, 0) (heap_alloc_new w _)]
    rfl
  · rw [cell_of_row _ w.heap.size 1 _ _ (0, 0) (heap_alloc_new w _)]
    rfl
  · rw [frozen?_alloc_cells]
    simp [World.frozen?]
  · rw [frozen?_alloc_cells]
    simp [World.frozen?]
theorem Box2.set {w : World} {b : Nat} {x y : Int} (h : Box2 w b x y) (x' y' : Int) : Box2 ((w.setCell ⟨b, 0, none⟩ (.int .i64 x')).setCell ⟨b, 1, none⟩ (.int .i64 y')) b x' y' := by
  refine ⟨?_, ?_, ?_, ?_⟩
  · rw [World.cell?_setCell_other _ _ _ _ (by simp)]
    exact World.cell?_setCell_same _ _ _ h.1
  · exact World.cell?_setCell_same _ _ _ ((World.cell?_setCell_other _ _ _ _ (by simp)).trans h.2.1)
  · simpa using h.2.2.1
  · simpa using h.2.2.2

set_option maxRecDepth 200000 in
set_option maxHeartbeats 4000000 in
theorem mayGoOn_any {w : World} {ix tm : Int} {v : Value} {L : List En} (hv : Ens w v L) (hix : fits ix) :
    Calls Try.prog 105 #[.agg #[.int .i64 ix, .int .i64 tm], v] w fun e w' => e = .returned (.bool (goOn ix tm L)) ∧ Below w.heap.size w w' := by
  obtain ⟨p, n, c, rfl⟩ := hv.sl
  have hlen := hv.len
  have hn := hlen.1
  subst hn
  have hbig : (L.length : Int) ≤ 9223372036854775807 := by have := hlen.2.1; have := hlen.2.2; unfold maxLen at this; omega
  have b1 : Below w.heap.size w (w.alloc (.cells #[.int .i64 ix, .int .i64 tm] 137)) := (Below.refl _ _).alloc (Nat.le_refl _) _
  have HBX := hide (Box2.new w ix tm 137)
  have HB1 := hide b1
  have HV := hide (hv.below b1)
  have HV0 := hide hv
  have HFX := hide hix
  obtain ⟨b, hb⟩ : ∃ b, w.heap.size = b := ⟨_, rfl⟩
  obtain ⟨Y, hY⟩ : ∃ Y, w.alloc (.cells #[.int .i64 ix, .int .i64 tm] 137) = Y := ⟨_, rfl⟩
  have HBY : Hid (b < Y.heap.size) := hide (by rw [← hY, ← hb]; simp)
  rw [hY] at HBX HB1 HV
  rw [hb] at HBX HB1
  clear b1 hv hlen hix
  go_enter Try.func105, Try.ntmps105
  go_wp2_with fail
  go_loopw [6, 9] (fun _ i wr => ∃ (k : Nat) (x y : Int), k ≤ L.length ∧ i = .int .i64 k ∧ Hid (Box2 wr b x y ∧ Below b w wr ∧ Below b Y wr ∧ Ens wr (.slice p L.length c) L ∧ fits x ∧ goOn ix tm L = goOn x y (L.drop k))) (fun _ i _ => L.length - (intOf i).toNat)
  case atStart => exact ⟨0, ix, tm, by omega, rfl, hide ⟨HBX.out, HB1.out, Below.refl _ _, HV.out, HFX.out, by rw [List.drop_zero]⟩⟩
  case round =>
    obtain ⟨k, x, y, hk, rfl, HR⟩ := hrel
    by_cases hlt : k < L.length
    · have he := List.getElem?_eq_getElem hlt
      obtain ⟨e, hee⟩ : ∃ e, L[k] = e := ⟨_, rfl⟩
      have HD : Hid (L.drop k = e :: L.drop (k + 1)) := hide (by rw [← hee]; exact List.drop_eq_getElem_cons hlt)
      rw [hee] at he
      obtain ⟨g, o, pd, nd, cd, rfl, hat, hby, hnd⟩ := HR.out.2.2.2.1.at_ he
      obtain ⟨oo, hoo⟩ : ∃ oo, o + k * 3 = oo := ⟨_, rfl⟩
      rw [hoo] at hat
      have c0 := hat.c0
      have c1 := hat.c1
      have c2 := hat.c2
      dsimp only at c0 c1 c2
      have HND := hide hnd
      have HDM : Hid (nd ≤ maxLen) := hide (by
        obtain ⟨_, cap, e1, h1, h2, _⟩ := hby
        injection e1
        omega)
      have HEF : Hid (e.fits) := hide (HR.out.2.2.2.1.fits e (List.mem_of_getElem? he))
      obtain ⟨ei, hei⟩ : ∃ ei, e.i = ei := ⟨_, rfl⟩
      obtain ⟨et, het⟩ : ∃ et, e.t = et := ⟨_, rfl⟩
      rw [hei] at c0
      rw [het] at c1
      have HE := hide (And.intro hei het)
      have bN : Below wr.heap.size wr (wr.alloc (.cells #[.int .i64 ei, .int .i64 et, .slice pd nd cd] 70)) := (Below.refl _ _).alloc (Nat.le_refl _) _
      have hN0 : (wr.alloc (.cells #[.int .i64 ei, .int .i64 et, .slice pd nd cd] 70)).cell? ⟨wr.heap.size, 0, none⟩ = some (.int .i64 ei) ∧ (wr.alloc (.cells #[.int .i64 ei, .int .i64 et, .slice pd nd cd] 70)).cell? ⟨wr.heap.size, 1, none⟩ = some (.int .i64 et) ∧ (wr.alloc (.cells #[.int .i64 ei, .int .i64 et, .slice pd nd cd] 70)).cell? ⟨wr.heap.size, 2, none⟩ = some (.slice pd nd cd) := by
        refine ⟨?_, ?_, ?_⟩
        all_goals
          rw [cell_of_row _ wr.heap.size _ _ _ (0, 0) (heap_alloc_new wr _)]
          rfl
      have hzs : wr.heap.size < (wr.alloc (.cells #[.int .i64 ei, .int .i64 et, .slice pd nd cd] 70)).heap.size := by simp
      obtain ⟨Z, hZ⟩ : ∃ Z, wr.alloc (.cells #[.int .i64 ei, .int .i64 et, .slice pd nd cd] 70) = Z := ⟨_, rfl⟩
      obtain ⟨bz, hbz⟩ : ∃ bz, wr.heap.size = bz := ⟨_, rfl⟩
      rw [hZ, hbz] at hN0 hzs
      rw [hZ] at bN
      have HZS := hide hzs
      have HBN := hide bN
      have HBXZ := hide (HR.out.1.below bN)
      obtain ⟨d0, d1, f0, f1⟩ := HBXZ.out
      have HNZ := hide hN0
      obtain ⟨z0, z1, z2⟩ := hN0
      have HMF : Hid (∀ W, Calls Try.prog 110 #[.agg #[.int .i64 x, .int .i64 y], .agg #[.int .i64 ei, .int .i64 et, .slice pd nd cd]] W fun e' w' => e' = .returned (.bool (follow x y e)) ∧ Below W.heap.size W w') := hide fun W => mayFollow_any HR.out.2.2.2.2.1 HE.out.1.symm HE.out.2.symm HND.out HDM.out
      obtain ⟨q, hq⟩ : ∃ q, follow x y e = q := ⟨_, rfl⟩
      rw [hq] at HMF
      have HQ := hide hq
      clear hq he hee hat hby hnd hei het bN hzs
      cases q
      · have HX : Hid (goOn ix tm L = false) := hide (by
          rw [HR.out.2.2.2.2.2, HD.out]
          unfold goOn
          rw [HQ.out]
          rfl)
        go_wp2_with fail
        refine (HMF.out _).mono ?_
        rintro e9 w2 ⟨rfl, hb2⟩
        have HB2 := hide ((HR.out.2.1.trans (HBN.out.mono (by have := HR.out.2.1.size; omega))).trans (hb2.mono (by have := HR.out.2.1.size; have := HBN.out.size; omega)))
        clear hb2 hoo
        go_wp2
        go_ret
        exact ⟨ret_b HX.out, by rw [hb]; exact HB2.out⟩
      · have HX : Hid (goOn ix tm L = goOn ei et (L.drop (k + 1))) := hide (by
          rw [HR.out.2.2.2.2.2, HD.out, ← HE.out.1, ← HE.out.2]
          conv => lhs; unfold goOn
          rw [HQ.out]
          rfl)
        have HEI : Hid (fits ei) := hide (by rw [← HE.out.1]; exact HEF.out.1)
        go_wp2_with fail
        refine (HMF.out _).mono ?_
        rintro e9 w2 ⟨rfl, hb2⟩
        have HB22 := hide hb2
        have HB2 : Hid (Below wr.heap.size wr w2) := hide (HBN.out.trans (hb2.mono HBN.out.size))
        have HN2 : Hid (w2.cell? ⟨bz, 0, none⟩ = some (.int .i64 ei) ∧ w2.cell? ⟨bz, 1, none⟩ = some (.int .i64 et) ∧ w2.cell? ⟨bz, 2, none⟩ = some (.slice pd nd cd)) := hide (by
          exact ⟨(hb2.cell (p := ⟨bz, 0, none⟩) HZS.out).trans HNZ.out.1, (hb2.cell (p := ⟨bz, 1, none⟩) HZS.out).trans HNZ.out.2.1, (hb2.cell (p := ⟨bz, 2, none⟩) HZS.out).trans HNZ.out.2.2⟩)
        obtain ⟨m0, m1, m2⟩ := HN2.out
        clear hb2 hoo c0 c1 c2 d0 d1 f0 f1 z0 z1 z2 hZ
        have HD2 := hide (HBXZ.out.below (show Below Z.heap.size Z w2 from HB22.out))
        obtain ⟨d0, d1, f0, f1⟩ := HD2.out
        go_wp2_with fail
        refine endOf_any.mono ?_
        rintro e9 w3 ⟨rfl, hb3⟩
        have HB3 : Hid (Below wr.heap.size wr w3) := hide (HB2.out.trans (hb3.mono HB2.out.size))
        clear d0 d1 f0 f1
        have HX3 := hide (HR.out.1.below HB3.out)
        obtain ⟨d0, d1, f0, f1⟩ := HX3.out
        have HS := hide (HX3.out.set ei et)
        have HG : Hid (w3.grownBy ((w3.setCell ⟨b, 0, none⟩ (.int .i64 ei)).setCell ⟨b, 1, none⟩ (.int .i64 et)) (some b)) := hide (gtrans (grown_set _ _ _ _) (grown_set _ _ _ _))
        have HB4 : Hid (Below b w ((w3.setCell ⟨b, 0, none⟩ (.int .i64 ei)).setCell ⟨b, 1, none⟩ (.int .i64 et))) := hide ((HR.out.2.1.trans (HB3.out.mono (by have := HR.out.2.1.size; omega))).grown HG.out (by have := HR.out.2.1.size; have := HB3.out.size; omega) fun k hk => by cases hk; exact Nat.le_refl _)
        have HB5 : Hid (Below b Y ((w3.setCell ⟨b, 0, none⟩ (.int .i64 ei)).setCell ⟨b, 1, none⟩ (.int .i64 et))) := hide ((HR.out.2.2.1.trans (HB3.out.mono (by have := HR.out.2.1.size; omega))).grown HG.out (by have := HR.out.2.1.size; have := HB3.out.size; omega) fun k hk => by cases hk; exact Nat.le_refl _)
        clear hb3 m0 m1 m2
        go_wp2
        go_roundw
        case rel => exact ⟨k + 1, ei, et, by omega, by go_num, hide ⟨HS.out, HB4.out, HB5.out, HV0.out.below (by rw [hb]; exact HB4.out), HEI.out, HX.out⟩⟩
        case measure => simp [intOf]; omega
    · have HX : Hid (goOn ix tm L = true) := hide (by
        rw [HR.out.2.2.2.2.2, List.drop_eq_nil_of_le (by omega)]
        rfl)
      go_wp2
      go_ret
      exact ⟨ret_b HX.out, by rw [hb]; exact HR.out.2.1⟩
end Go.Proofs.Ytlmoiaeppehiiaa
