/- Load. -/
import Derived.Test.YtfbndbmhnpleoaaTNext
import Derived.Test.YtfbndbmhnpleoaaTAwake
namespace Go.Proofs.Ytfbndbmhnpleoaa
set_option linter.unusedVariables false
set_option linter.unusedSimpArgs false
open Go.RowKit

/-- What Load says. -/
def LoadPost (w : World) : Option (List St) → Ending → World → Prop
  | some L, e, w' => e = .returned (.tuple #[.pointer (some ⟨w.heap.size + 1, 0, none⟩), .int .i64 0]) ∧ TbOwn w (w.heap.size + 1) w.heap.size w' L
  | none, e, w' => e = .returned (.tuple #[.pointer none, .int .i64 83]) ∧ Below w.heap.size w w'
theorem TbOwn.grown {w0 w w' : World} {g b k : Nat} {L : List St} (h : TbOwn w0 g b w L) (hg : w.grownBy w' (some k)) (h1 : k ≠ g) (h2 : k ≠ b) (hk : w0.heap.size ≤ k) : TbOwn w0 g b w' L :=
  have hc : Chg w w' (fun j => j = k) := Chg.of_grown hg _ (fun j e => by injection e with e; exact .inl e.symm)
  ⟨h.tb.chg hc (fun e => h1 e.symm) (fun e => h2 e.symm), h.gl, h.bl, Chg.to_below h.below hc (fun j e => by rw [e]; exact hk)⟩
theorem Sc.below {w w' : World} {g : Nat} {v : Value} {at_ E : Nat} (h : Sc w g v at_ E) (hb : Below w.heap.size w w') : Sc w' g v at_ E := by
  have := h.lt
  unfold Sc at *
  rw [hb.block g this]
  exact h
theorem Sc.chg {w w' : World} {g : Nat} {v : Value} {at_ E : Nat} {S : Nat → Prop} (h : Sc w g v at_ E) (hc : Chg w w' S) (hn : ¬ S g) : Sc w' g v at_ E := by
  have := h.lt
  unfold Sc at *
  rw [hc.block g this hn]
  exact h

set_option maxRecDepth 200000 in
set_option maxHeartbeats 4000000 in
theorem load_any {w : World} {p : Option Addr} {n c : Nat} {l : List UInt8} (hv : By w (.slice p n c) l) (hl : l.length ≤ 1000000) : Calls Try.prog 6 #[.slice p n c] w (LoadPost w (loadT l)) := by
  have HV := hide hv
  clear hv
  go_enter Try.func6, Try.ntmps6
  go_wp2_with fail
  refine (new_any w).mono ?_
  rintro e w1 ⟨rfl, h1, hb1⟩
  have T1 := hide (TbOwn.new h1 hb1)
  have BV1 := hide (HV.out.below hb1)
  have HS1 := hide (show w.heap.size + 1 < w1.heap.size from h1.gl)
  obtain ⟨gt, hgt⟩ : ∃ gt, w.heap.size + 1 = gt := ⟨_, rfl⟩
  obtain ⟨bt, hbt⟩ : ∃ bt, w.heap.size = bt := ⟨_, rfl⟩
  have T1' : Hid (TbOwn w gt bt w1 []) := hide (by rw [← hbt, ← hgt]; exact T1.out)
  rw [hgt]
  have HG := hide (And.intro hgt hbt)
  clear T1 hgt hbt h1 hb1
  go_wp2_with fail
  refine (over_any BV1.out (by omega)).mono ?_
  rintro e w2 ⟨g, u, rfl, hg1, hS2, hO2, hne2, hb2⟩
  obtain ⟨pu, nu, cu, rfl⟩ := hO2.by_.sl
  have T2 := hide (T1'.out.bel hb2)
  have S2 := hide hS2
  have Y2 := hide hO2.by_
  have hgt' : g ≠ gt := by have := HG.out.1; have := HS1.out; omega
  have hgb' : g ≠ bt := by have := HG.out.2; have := HS1.out; omega
  have hgw : w.heap.size ≤ g := by have := HS1.out; omega
  have HNG := hide hne2
  have HNB : Hid (l = [] ∨ ∀ k, (Value.slice pu nu cu).ownBlock = some k → some bt ≠ some k) := hide (by
    rcases hO2 with ⟨_, e⟩ | ⟨gg, cap, e, hB, _⟩
    · exact .inl e
    · refine .inr fun k hk e2 => ?_
      injection e2 with e2
      rw [e] at hk
      simp [Value.ownBlock] at hk
      have := HG.out.2
      have := HS1.out
      omega)
  clear hS2 hO2 hne2 hb2 hg1
  obtain ⟨N, a0, E0, h0⟩ : ∃ n a E, nx l (0, 0) = (n, a, E) := ⟨_, _, _, rfl⟩
  have hN : ldN l = N := by unfold ldN; rw [h0]
  have hN63 : (N : Int) ≤ 9223372036854775807 := by have := ldN_lt l; rw [hN] at this; omega
  have hld0 : ldT l 0 = some ([], a0, E0) := by unfold ldT; rw [h0]
  have k1 := hide (scanNumber_any S2.out Y2.out (Nat.zero_le _) (N := N) (A := a0) (E := E0) h0)
  have HN := hide hN
  have HLD0 := hide hld0
  clear hN hld0 h0
  go_wp2_with fail
  refine k1.out.mono ?_
  rintro e w3 ⟨rfl, hs3, hg3⟩
  have T3 := hide (T2.out.grown hg3 hgt' hgb' hgw)
  have S3 := hide hs3
  have Y3 := hide (Y2.out.grown hg3 HNG.out)
  clear hs3 hg3 k1
  go_wp2
  go_loopw [12] (fun i wr => ∃ (k : Nat) (L : List St) (st : Nat × Nat), k ≤ N ∧ i = .int .i64 k ∧ Hid (ldT l k = some (L, st) ∧ TbOwn w gt bt wr L ∧ Sc wr g (.slice pu nu cu) st.1 st.2 ∧ By wr (.slice pu nu cu) l)) (fun i _ => N - (intOf i).toNat)
  case atStart => exact ⟨0, [], (a0, E0), by omega, rfl, hide ⟨HLD0.out, T3.out, S3.out, Y3.out⟩⟩
  case round =>
    obtain ⟨k, L, st, hk, rfl, HR⟩ := hrel
    by_cases hlt : k < N
    · have hst := (ldT_ok HR.out.1).2
      have hnx := hide (next_any HR.out.2.2.1 HR.out.2.2.2 HNG.out hst)
      obtain ⟨x, st', hx⟩ : ∃ x st', nextT l st = (x, st') := ⟨_, _, rfl⟩
      have HSU := hide (ldT_succ HR.out.1)
      rw [hx] at hnx HSU
      have hL8 := (ldT_ok HR.out.1).1.len
      clear hst hx
      obtain ⟨s, q, a, ⟨e1, e2, e3, e4, e5, e6, e7, e8⟩⟩ := x
      unfold stV at hnx
      dsimp only at hnx HSU
      go_wp2_with fail
      refine hnx.out.mono ?_
      rintro e w5 ⟨rfl, hs5, hg5⟩
      have T5 := hide (HR.out.2.1.grown hg5 hgt' hgb' hgw)
      have S5 := hide hs5
      have Y5 := hide (HR.out.2.2.2.grown hg5 HNG.out)
      clear hs5 hg5 hnx
      obtain ⟨Y, hY⟩ : ∃ Y, w5.alloc (.cells #[.int .i64 s, .int .i64 q, .int .i64 a, .int .i64 e1, .int .i64 e2, .int .i64 e3, .int .i64 e4, .int .i64 e5, .int .i64 e6, .int .i64 e7, .int .i64 e8] 51) = Y := ⟨_, rfl⟩
      have hbY : Below w5.heap.size w5 Y := by rw [← hY]; exact (Below.refl _ _).alloc (Nat.le_refl _) _
      have hcY : ∀ i v, (stC (⟨s, q, a, ⟨e1, e2, e3, e4, e5, e6, e7, e8⟩⟩ : St))[i]? = some v → Y.cell? ⟨w5.heap.size, i, none⟩ = some v := fun i v hi => by
        rw [← hY, World.cell?_alloc_new]
        unfold stC at hi
        simpa using hi
      have hzY : w5.heap.size < Y.heap.size := by rw [← hY]; simp
      have y0 : Y.cell? ⟨w5.heap.size, 0, none⟩ = some (.int .i64 s) := hcY 0 _ rfl
      have y1 : Y.cell? ⟨w5.heap.size, 1, none⟩ = some (.int .i64 q) := hcY 1 _ rfl
      have y2 : Y.cell? ⟨w5.heap.size, 2, none⟩ = some (.int .i64 a) := hcY 2 _ rfl
      have y3 : Y.cell? ⟨w5.heap.size, 3, none⟩ = some (.int .i64 e1) := hcY 3 _ rfl
      have y4 : Y.cell? ⟨w5.heap.size, 4, none⟩ = some (.int .i64 e2) := hcY 4 _ rfl
      have y5 : Y.cell? ⟨w5.heap.size, 5, none⟩ = some (.int .i64 e3) := hcY 5 _ rfl
      have y6 : Y.cell? ⟨w5.heap.size, 6, none⟩ = some (.int .i64 e4) := hcY 6 _ rfl
      have y7 : Y.cell? ⟨w5.heap.size, 7, none⟩ = some (.int .i64 e5) := hcY 7 _ rfl
      have y8 : Y.cell? ⟨w5.heap.size, 8, none⟩ = some (.int .i64 e6) := hcY 8 _ rfl
      have y9 : Y.cell? ⟨w5.heap.size, 9, none⟩ = some (.int .i64 e7) := hcY 9 _ rfl
      have y10 : Y.cell? ⟨w5.heap.size, 10, none⟩ = some (.int .i64 e8) := hcY 10 _ rfl
      have TY := hide (T5.out.bel hbY)
      have SY := hide (S5.out.below hbY)
      have YY := hide (Y5.out.below hbY)
      have HCY := hide hcY
      clear hcY hbY
      cases hok : (⟨s, q, a, ⟨e1, e2, e3, e4, e5, e6, e7, e8⟩⟩ : St).ok
      · have hst := fun w => stand_any w (⟨s, q, a, ⟨e1, e2, e3, e4, e5, e6, e7, e8⟩⟩ : St)
        rw [hok] at hst
        have HNO : Hid (loadT l = none) := hide (loadT_none (i := k + 1) (HSU.out.trans (if_neg (by rw [hok]; simp))) (by have := HN.out; omega))
        unfold stV at hst
        dsimp only at hst
        clear hok
        go_wp2_with fail
        refine (hst _).mono ?_
        rintro e w6 ⟨rfl, hb6⟩
        have T6 := hide (TY.out.bel hb6)
        clear hb6 hst
        go_wp2
        go_ret2
        rw [HNO.out]
        exact ⟨by rfl, T6.out.below⟩
      · have hst := fun w => stand_any w (⟨s, q, a, ⟨e1, e2, e3, e4, e5, e6, e7, e8⟩⟩ : St)
        rw [hok] at hst
        have hsb := (St.ok_iff.1 hok).1
        dsimp only at hsb
        have HOK := hide hok
        unfold stV at hst
        dsimp only at hst
        clear hok
        by_cases h8 : (8 : Int) ≤ (L.length : Int)
        · have HNO : Hid (loadT l = none) := hide (loadT_none (i := k + 1) (HSU.out.trans (if_neg (by simp; omega))) (by have := HN.out; omega))
          go_wp2_with fail
          refine (hst _).mono ?_
          rintro e w6 ⟨rfl, hb6⟩
          have T6 := hide (TY.out.bel hb6)
          have c06 := T6.out.tb.c0
          obtain ⟨D6, hD6⟩ := T6.out.tb.map
          have hlen := hD6.map.len Try.underlying54 3
          rw [hD6.rd.size] at hlen
          clear hb6 hst hD6
          go_wp2
          go_ret2
          rw [HNO.out]
          exact ⟨by rfl, T6.out.below⟩
        · have HYES : Hid (ldT l (k + 1) = some (insT L (⟨s, q, a, ⟨e1, e2, e3, e4, e5, e6, e7, e8⟩⟩ : St), st')) := hide (HSU.out.trans (if_pos (by rw [HOK.out]; simp; omega)))
          go_wp2_with fail
          refine (hst _).mono ?_
          rintro e w6 ⟨rfl, hb6⟩
          have T6 := hide (TY.out.bel hb6)
          have S6 := hide (SY.out.below hb6)
          have Y6 := hide (YY.out.below hb6)
          have hz6 : ∀ i v, (stC (⟨s, q, a, ⟨e1, e2, e3, e4, e5, e6, e7, e8⟩⟩ : St))[i]? = some v → w6.cell? ⟨w5.heap.size, i, none⟩ = some v := fun i v hi => (hb6.cell (p := ⟨w5.heap.size, i, none⟩) hzY).trans (HCY.out i v hi)
          have x0 : w6.cell? ⟨w5.heap.size, 0, none⟩ = some (.int .i64 s) := hz6 0 _ rfl
          have x1 : w6.cell? ⟨w5.heap.size, 1, none⟩ = some (.int .i64 q) := hz6 1 _ rfl
          have x2 : w6.cell? ⟨w5.heap.size, 2, none⟩ = some (.int .i64 a) := hz6 2 _ rfl
          have x3 : w6.cell? ⟨w5.heap.size, 3, none⟩ = some (.int .i64 e1) := hz6 3 _ rfl
          have x4 : w6.cell? ⟨w5.heap.size, 4, none⟩ = some (.int .i64 e2) := hz6 4 _ rfl
          have x5 : w6.cell? ⟨w5.heap.size, 5, none⟩ = some (.int .i64 e3) := hz6 5 _ rfl
          have x6 : w6.cell? ⟨w5.heap.size, 6, none⟩ = some (.int .i64 e4) := hz6 6 _ rfl
          have x7 : w6.cell? ⟨w5.heap.size, 7, none⟩ = some (.int .i64 e5) := hz6 7 _ rfl
          have x8 : w6.cell? ⟨w5.heap.size, 8, none⟩ = some (.int .i64 e6) := hz6 8 _ rfl
          have x9 : w6.cell? ⟨w5.heap.size, 9, none⟩ = some (.int .i64 e7) := hz6 9 _ rfl
          have x10 : w6.cell? ⟨w5.heap.size, 10, none⟩ = some (.int .i64 e8) := hz6 10 _ rfl
          have c06 := T6.out.tb.c0
          obtain ⟨D6, hD6⟩ := T6.out.tb.map
          have hlen := hD6.map.len Try.underlying54 3
          rw [hD6.rd.size] at hlen
          have hD' : TmIs w6.drew bt L D6 := hD6.drewN 1
          obtain ⟨w7, D7, hrun, hg7, hm7⟩ := hD'.store (x := (⟨s, q, a, ⟨e1, e2, e3, e4, e5, e6, e7, e8⟩⟩ : St)) (wf40 (by dsimp only; omega) (by dsimp only; omega)) (by simp [maxLen]; omega)
          unfold stV at hrun
          dsimp only at hrun
          have H7 := hide (And.intro hg7 hm7)
          have HTO : Hid (TbOk (insT L (⟨s, q, a, ⟨e1, e2, e3, e4, e5, e6, e7, e8⟩⟩ : St))) := hide ((ldT_ok HYES.out).1)
          clear hb6 hst hD6 hD' hz6 hg7 hm7 y0 y1 y2 y3 y4 y5 y6 y7 y8 y9 y10
          go_wp2
          go_region
          all_goals
            have hc7 : Chg w6 w7 (fun k => k = bt) := ((Chg.refl w6 (fun k => k = bt)).drewN 1).trans (show Chg w6.drew w7 (fun k => k = bt) from Chg.of_grown H7.out.1 _ (fun k e => by injection e with e; exact .inl e.symm)) fun k hk => .inl hk
            have T7 := hide (T6.out.tab (T6.out.tb.with_ hc7 H7.out.2 HTO.out) hc7)
            have S7 := hide (S6.out.chg hc7 (fun e => hgb' e))
            have Y7 := hide ((show By w6.drew (.slice pu nu cu) l from Y6.out).grown H7.out.1 HNB.out)
            clear hc7 hrun
            go_wp2
            go_roundw
            case rel => exact ⟨k + 1, _, st', by omega, by go_num, hide ⟨HYES.out, T7.out, S7.out, Y7.out⟩⟩
            case measure => simp [intOf]; omega
    · obtain rfl : k = N := by omega
      have hof := loadT_of (HN.out ▸ HR.out.1)
      have TR := hide HR.out.2.1
      have BVR := hide (HV.out.below TR.out.below)
      have HOF := hide hof
      clear hof
      go_wp2_with fail
      refine (image_any TR.out.tb).mono ?_
      rintro e w5 ⟨v5, rfl, ho5, hb5⟩
      obtain ⟨p5, n5, c5, rfl⟩ := ho5.by_.sl
      have T5 := hide (TR.out.bel hb5)
      have HE := hide (equal_any ho5.by_ (BVR.out.below hb5))
      clear ho5 hb5
      by_cases hq : imgT L = l
      · have heq : (imgT L == l) = true := by rw [hq]; simp
        rw [heq] at HE
        have HRES := hide (HOF.out.trans (if_pos hq))
        clear hq heq
        go_wp2_with fail
        refine HE.out.mono ?_
        rintro e w6 ⟨rfl, rfl⟩
        go_wp2
        go_ret2
        rw [HRES.out]
        have ht := T5.out
        rw [← HG.out.1, ← HG.out.2] at ht
        exact ⟨by rw [HG.out.1]; rfl, ht⟩
      · have heq : (imgT L == l) = false := by simpa using hq
        rw [heq] at HE
        have HRES := hide (HOF.out.trans (if_neg hq))
        clear hq heq
        go_wp2_with fail
        refine HE.out.mono ?_
        rintro e w6 ⟨rfl, rfl⟩
        go_wp2
        go_ret2
        rw [HRES.out]
        exact ⟨by rfl, T5.out.below⟩
end Go.Proofs.Ytfbndbmhnpleoaa
