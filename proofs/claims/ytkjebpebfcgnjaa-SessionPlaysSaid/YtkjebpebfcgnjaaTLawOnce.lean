/- The law SessionOnce. -/
import Derived.Test.YtkjebpebfcgnjaaTPlay
import Derived.Test.YtkjebpebfcgnjaaTLawChecks
namespace Go.Proofs.Ytkjebpebfcgnjaa
set_option linter.unusedVariables false
set_option linter.unusedSimpArgs false
open Go.RowKit

theorem DtAt.chg {w w' : World} {S : Nat → Prop} {g o : Nat} {x : Dt} (h : DtAt w g o x) (hc : Chg w w' S) (hn : ¬ S g) : DtAt w' g o x := fun k u hk => hc.cell (h k u hk) hn
theorem open_keeps {L : List St} {k : Int} {x : St} (h : fndT L k = some x) (a : Int) : fndT (openT L a).2 k = some x := by
  unfold openT
  split
  · exact h
  · rename_i h1
    split
    · exact h
    · rw [fndT_ins, if_neg (fun e => by
        dsimp only at e
        rw [e, h] at h1
        simp at h1)]
      exact h
theorem keep_keeps {L : List St} {k : Int} {x : St} (h : fndT L k = some x) {s : Int} (hs : s ≠ k) (q a : Int) (r : Rp) : fndT (keepT L s q a r).2 k = some x := by
  unfold keepT
  split
  · exact h
  · split
    · exact h
    · split
      · rw [fndT_ins, if_neg hs]
        exact h
      · exact h
theorem ask_same {L : List St} {x : St} (h : fndT L x.s = some x) (hq : 1 ≤ x.q) : askT L x.s x.q = (x.r, true, 0) := by
  unfold askT
  rw [h]
  dsimp only
  rw [if_neg (by omega), if_pos rfl]
theorem keep_same {L : List St} {x : St} (h : fndT L x.s = some x) (hq : 1 ≤ x.q) (a : Int) (r : Rp) : keepT L x.s x.q a r = (81, L) := by
  unfold keepT
  rw [ask_same h hq]
  rfl
theorem keep_first {L : List St} (hL : TbOk L) {s q a : Int} {r : Rp} (h : (keepT L s q a r).1 = 0) : fndT (keepT L s q a r).2 s = some ⟨s, q, a, r⟩ ∧ 1 ≤ q ∧ (⟨s, q, a, r⟩ : St).ok = true := by
  unfold keepT at h ⊢
  split at h
  · rename_i h1
    exact absurd h h1
  · rename_i h1
    rw [if_neg h1]
    split at h
    · simp at h
    · rename_i h2
      rw [if_neg h2]
      split at h
      · rename_i h3
        rw [if_pos h3]
        obtain ⟨y, hy, hq, _, _, h0, _⟩ := st_ok_of (L := L) (n := s) (m := q) (by omega) (by simpa using h2) hL
        exact ⟨by rw [fndT_ins, if_pos rfl], by omega, h3⟩
      · simp at h
theorem keep_next {L : List St} {x : St} (h : fndT L x.s = some x) (hq : 1 ≤ x.q) (hok : x.ok = true) {r : Rp} (hr : r.ok = true) (hlt : x.q < 1099511627776) : keepT L x.s (x.q + 1) x.a r = (0, insT L ⟨x.s, x.q + 1, x.a, r⟩) ∧ askT (insT L ⟨x.s, x.q + 1, x.a, r⟩) x.s x.q = (rp0, false, 81) := by
  have hk := St.ok_iff.1 hok
  have ha : askT L x.s (x.q + 1) = (rp0, false, 0) := by
    unfold askT
    rw [h]
    dsimp only
    rw [if_neg (by omega), if_neg (by omega), if_neg (by omega)]
  refine ⟨?_, ?_⟩
  · unfold keepT
    rw [ha]
    dsimp only
    rw [if_neg (by simp), if_neg (by simp), if_pos ((St.ok_iff (x := ⟨x.s, x.q + 1, x.a, r⟩)).2 ⟨hk.1, (by dsimp only; omega), hk.2.2.1, hr⟩)]
  · unfold askT
    rw [fndT_ins, if_pos rfl]
    dsimp only
    rw [if_pos (by omega)]
theorem keep_last {L : List St} {x : St} (h : fndT L x.s = some x) (hq : x.q = 1099511627776) (r : Rp) : keepT L x.s (x.q + 1) x.a r = (1, L) := by
  have ha : askT L x.s (x.q + 1) = (rp0, false, 0) := by
    unfold askT
    rw [h]
    dsimp only
    rw [if_neg (by omega), if_neg (by omega), if_neg (by omega)]
  unfold keepT
  rw [ha]
  dsimp only
  rw [if_neg (by simp), if_neg (by simp), if_neg (by
    rw [St.ok_iff]
    dsimp only
    omega)]

set_option maxRecDepth 200000 in
set_option maxHeartbeats 8000000 in
theorem lawOnce_any {w : World} {p : Option Addr} {n c : Nat} {l : List Dt} (h : Dts w p n c l) {p2 : Option Addr} {n2 c2 : Nat} {m : List Dt} (h2 : Dts w p2 n2 c2 m) {x : Dt} (hx : x.wf) : Calls Try.prog 6 #[.slice p n c, .slice p2 n2 c2, dtV x] w (LawPost w) := by
  obtain ⟨kop, ks, kq, ka, ⟨k1, k2, k3, k4, k5, k6, k7, k8⟩⟩ := x
  unfold dtV
  dsimp only
  have hcm := h.cap_
  have hmm := h.max_
  have hcm2 := h2.cap_
  have hmm2 := h2.max_
  unfold maxLen at hmm hmm2
  have hn64 : (n : Int) ≤ 9223372036854775807 := by omega
  have hm64 : (n2 : Int) ≤ 9223372036854775807 := by omega
  obtain ⟨A, hA⟩ : ∃ A, w.alloc (.cells #[.int .i64 kop, .int .i64 ks, .int .i64 kq, .int .i64 ka, .int .i64 k1, .int .i64 k2, .int .i64 k3, .int .i64 k4, .int .i64 k5, .int .i64 k6, .int .i64 k7, .int .i64 k8] 36) = A := ⟨_, rfl⟩
  have hbA : Below w.heap.size w A := by rw [← hA]; exact (Below.refl _ _).alloc (Nat.le_refl _) _
  have hAW := awake_any A
  have HBA := hide hbA
  have hdA : DtAt A w.heap.size 0 (⟨kop, ks, kq, ka, ⟨k1, k2, k3, k4, k5, k6, k7, k8⟩⟩ : Dt) := by rw [← hA]; exact DtAt.box w _
  have hDA := h.below hbA
  have hDA2 := h2.below hbA
  clear hcm hmm hcm2 hmm2 h h2 hbA
  by_cases hn : 200 < n
  · clear hdA hDA hDA2
    go_enter Try.func6, Try.ntmps6
    go_wp2_with fail
    refine hAW.mono ?_
    rintro e w1 ⟨rfl, hb⟩
    go_wp2
    go_ret
    exact ⟨by rfl, HBA.out.trans (hb.mono HBA.out.size)⟩
  by_cases hn2 : 200 < n2
  · clear hdA hDA hDA2
    go_enter Try.func6, Try.ntmps6
    go_wp2_with fail
    refine hAW.mono ?_
    rintro e w1 ⟨rfl, hb⟩
    go_wp2
    go_ret
    exact ⟨by rfl, HBA.out.trans (hb.mono HBA.out.size)⟩
  have HP := hide (play_any hDA (by omega))
  obtain ⟨L0, hL0⟩ : ∃ L, playT l = L := ⟨_, rfl⟩
  rw [hL0] at HP
  obtain ⟨g, hg⟩ : ∃ g, A.heap.size + 1 = g := ⟨_, rfl⟩
  obtain ⟨b, hb⟩ : ∃ b, A.heap.size = b := ⟨_, rfl⟩
  have HKF : Hid (∀ V L, TbOwn A g b V L → V.cell? ⟨w.heap.size, 0, none⟩ = some (.int .i64 kop) ∧ V.cell? ⟨w.heap.size, 1, none⟩ = some (.int .i64 ks) ∧ V.cell? ⟨w.heap.size, 2, none⟩ = some (.int .i64 kq) ∧ V.cell? ⟨w.heap.size, 3, none⟩ = some (.int .i64 ka) ∧ V.cell? ⟨w.heap.size, 4, none⟩ = some (.int .i64 k1) ∧ V.cell? ⟨w.heap.size, 5, none⟩ = some (.int .i64 k2) ∧ V.cell? ⟨w.heap.size, 6, none⟩ = some (.int .i64 k3) ∧ V.cell? ⟨w.heap.size, 7, none⟩ = some (.int .i64 k4) ∧ V.cell? ⟨w.heap.size, 8, none⟩ = some (.int .i64 k5) ∧ V.cell? ⟨w.heap.size, 9, none⟩ = some (.int .i64 k6) ∧ V.cell? ⟨w.heap.size, 10, none⟩ = some (.int .i64 k7) ∧ V.cell? ⟨w.heap.size, 11, none⟩ = some (.int .i64 k8)) := hide fun V L hT => by
    have := (hdA.below hT.below).all
    simpa only [Nat.zero_add] using this
  have hbA : b < A.heap.size + 1 := by omega
  have HM := hide hDA2
  have hkw := hide hx
  have hks : (Lit.int .i64 ks).wf = true := hx.ws
  have hkq := i64_bounds hx.wq
  dsimp only at hkq
  have HKS := hide hks
  have HG := hide (And.intro hg hb)
  clear hL0 hdA hDA hDA2 hAW hb hg hx hks
  go_enter Try.func6, Try.ntmps6
  go_wp2_with fail
  refine HP.out.mono ?_
  rintro e w1 ⟨rfl, hT⟩
  rw [HG.out.1]
  have T1 : Hid (TbOwn A g b w1 L0) := hide (by have := hT; rwa [HG.out.1, HG.out.2] at this)
  clear hT
  obtain ⟨z0, z1, z2, z3, z4, z5, z6, z7, z8, z9, z10, z11⟩ := HKF.out _ _ T1.out
  have hkp := hide (keep_any T1.out.tb (n := ks) (m := kq) (a := ka) (r := ⟨k1, k2, k3, k4, k5, k6, k7, k8⟩) HKS.out hkq.1 hkq.2)
  unfold rpV at hkp
  dsimp only at hkp
  obtain ⟨kk, hkk⟩ : ∃ kk, (keepT L0 ks kq ka ⟨k1, k2, k3, k4, k5, k6, k7, k8⟩).1 = kk := ⟨_, rfl⟩
  obtain ⟨L1, hL1⟩ : ∃ L1, (keepT L0 ks kq ka ⟨k1, k2, k3, k4, k5, k6, k7, k8⟩).2 = L1 := ⟨_, rfl⟩
  rw [hkk, hL1] at hkp
  have HKK := hide (And.intro hkk hL1)
  clear hkk hL1
  go_wp2_with fail
  refine hkp.out.mono ?_
  rintro e w2 ⟨rfl, h2, hc2⟩
  have T2 := hide (T1.out.tab h2 hc2)
  clear h2 hc2 hkp
  clear z0 z1 z2 z3 z4 z5 z6 z7 z8 z9 z10 z11
  have HA2 := hide (awake_any w2)
  by_cases hk0 : kk = 0
  · subst hk0
    have hfirst := keep_first T1.out.tb.ok HKK.out.1
    rw [HKK.out.2] at hfirst
    obtain ⟨hf1, hq1, hok1⟩ := hfirst
    have HF1 := hide hf1
    have HOK1 := hide hok1
    have hq40 := (St.ok_iff.1 hok1).2.1.2
    dsimp only at hq40
    clear hf1 hok1
    go_wp2
    go_loopw [42] (fun i wr => ∃ (k : Nat) (L : List St), k ≤ n2 ∧ i = .int .i64 k ∧ Hid (TbOwn A g b wr L ∧ fndT L ks = some (⟨ks, kq, ka, ⟨k1, k2, k3, k4, k5, k6, k7, k8⟩⟩ : St))) (fun i _ => n2 - (intOf i).toNat)
    case atStart => exact ⟨0, L1, by omega, rfl, hide ⟨T2.out, HF1.out⟩⟩
    case round =>
      obtain ⟨k, L, hk, rfl, HR⟩ := hrel
      by_cases hlt : k < n2
      · have hll := HM.out.len_
        obtain ⟨y, hy⟩ : ∃ y, m[k]? = some y := ⟨_, List.getElem?_eq_getElem (by omega)⟩
        obtain ⟨gd, o, rfl, hgd, hc⟩ := HM.out.at_ (by omega)
        obtain ⟨d0, d1, d2, d3, d4, d5, d6, d7, d8, d9, d10, d11⟩ := ((hc k y hy).below HR.out.1.below).all
        have HW := hide (HM.out.wf_ y (List.mem_of_getElem? hy))
        obtain ⟨op, s, q, a, ⟨e1, e2, e3, e4, e5, e6, e7, e8⟩⟩ := y
        dsimp only at d0 d1 d2 d3 d4 d5 d6 d7 d8 d9 d10 d11
        obtain ⟨Y, hY⟩ : ∃ Y, wr.alloc (.cells #[.int .i64 op, .int .i64 s, .int .i64 q, .int .i64 a, .int .i64 e1, .int .i64 e2, .int .i64 e3, .int .i64 e4, .int .i64 e5, .int .i64 e6, .int .i64 e7, .int .i64 e8] 36) = Y := ⟨_, rfl⟩
        have TY : Hid (TbOwn A g b Y L) := hide (by rw [← hY]; exact HR.out.1.alloc _)
        have hdY : DtAt Y wr.heap.size 0 (⟨op, s, q, a, ⟨e1, e2, e3, e4, e5, e6, e7, e8⟩⟩ : Dt) := by rw [← hY]; exact DtAt.box wr _
        have hbr : b < wr.heap.size := HR.out.1.tb.bl
        have HDY := hide hdY
        have XF : Hid (∀ V, DtAt V wr.heap.size 0 (⟨op, s, q, a, ⟨e1, e2, e3, e4, e5, e6, e7, e8⟩⟩ : Dt) → V.cell? ⟨wr.heap.size, 0, none⟩ = some (.int .i64 op) ∧ V.cell? ⟨wr.heap.size, 1, none⟩ = some (.int .i64 s) ∧ V.cell? ⟨wr.heap.size, 2, none⟩ = some (.int .i64 q) ∧ V.cell? ⟨wr.heap.size, 3, none⟩ = some (.int .i64 a) ∧ V.cell? ⟨wr.heap.size, 4, none⟩ = some (.int .i64 e1) ∧ V.cell? ⟨wr.heap.size, 5, none⟩ = some (.int .i64 e2) ∧ V.cell? ⟨wr.heap.size, 6, none⟩ = some (.int .i64 e3) ∧ V.cell? ⟨wr.heap.size, 7, none⟩ = some (.int .i64 e4) ∧ V.cell? ⟨wr.heap.size, 8, none⟩ = some (.int .i64 e5) ∧ V.cell? ⟨wr.heap.size, 9, none⟩ = some (.int .i64 e6) ∧ V.cell? ⟨wr.heap.size, 10, none⟩ = some (.int .i64 e7) ∧ V.cell? ⟨wr.heap.size, 11, none⟩ = some (.int .i64 e8)) := hide fun V hV => by
          have := hV.all
          simpa only [Nat.zero_add] using this
        have hw := HW.out
        have hwa := hw.wa
        have hwq := i64_bounds hw.wq
        have hws := hw.ws
        dsimp only at hwa hwq hws
        have HWA := hide hwa
        have HWS := hide hws
        have HFL := hide HR.out.2
        clear hc hy hwa hws hll hw hgd hdY
        by_cases h4 : (wrap64 ((IntKind.u64.wrap op).tmod 6) != 4) = true
        · by_cases hs : (s != ks) = true
          · have hsn : s ≠ ks := by simpa using hs
            have HSN := hide hsn
            obtain ⟨z0, z1, z2, z3, z4, z5, z6, z7, z8, z9, z10, z11⟩ := HKF.out _ _ TY.out
            obtain ⟨x0, x1, x2, x3, x4, x5, x6, x7, x8, x9, x10, x11⟩ := XF.out _ HDY.out
            clear hsn
            have ho := hide (open_any TY.out.tb HWA.out)
            go_wp2_with fail
            refine ho.out.mono ?_
            rintro e w3 ⟨rfl, h3, hc3⟩
            have T3 := hide (TY.out.tab h3 hc3)
            have F3 := hide (open_keeps HFL.out a)
            have D3 := hide (HDY.out.chg hc3 (fun e => by omega))
            clear h3 hc3 ho
            clear z0 z1 z2 z3 z4 z5 z6 z7 z8 z9 z10 z11 x0 x1 x2 x3 x4 x5 x6 x7 x8 x9 x10 x11
            obtain ⟨x0, x1, x2, x3, x4, x5, x6, x7, x8, x9, x10, x11⟩ := XF.out _ D3.out
            obtain ⟨L3, hL3⟩ : ∃ L3, (openT L a).2 = L3 := ⟨_, rfl⟩
            rw [hL3] at T3 F3
            clear hL3
            have hkp := hide (keep_any T3.out.tb (n := s) (m := q) (a := a) (r := ⟨e1, e2, e3, e4, e5, e6, e7, e8⟩) HWS.out hwq.1 hwq.2)
            unfold rpV at hkp
            dsimp only at hkp
            go_wp2_with fail
            refine hkp.out.mono ?_
            rintro e w4 ⟨rfl, h4', hc4⟩
            have T4 := hide (T3.out.tab h4' hc4)
            have F4 := hide (keep_keeps F3.out HSN.out q a ⟨e1, e2, e3, e4, e5, e6, e7, e8⟩)
            have D4 := hide (D3.out.chg hc4 (fun e => by omega))
            clear h4' hc4 hkp
            clear x0 x1 x2 x3 x4 x5 x6 x7 x8 x9 x10 x11
            obtain ⟨L4, hL4⟩ : ∃ L4, (keepT L3 s q a ⟨e1, e2, e3, e4, e5, e6, e7, e8⟩).2 = L4 := ⟨_, rfl⟩
            rw [hL4] at T4 F4
            clear hL4
            obtain ⟨z0, z1, z2, z3, z4, z5, z6, z7, z8, z9, z10, z11⟩ := HKF.out _ _ T4.out
            have hask := hide (ask_any T4.out.tb (n := ks) (m := kq) HKS.out hkq.1 hkq.2)
            rw [show askT L4 ks kq = (⟨k1, k2, k3, k4, k5, k6, k7, k8⟩, true, 0) from ask_same (x := (⟨ks, kq, ka, ⟨k1, k2, k3, k4, k5, k6, k7, k8⟩⟩ : St)) F4.out hq1] at hask
            unfold AskPost rpV at hask
            dsimp only at hask
            go_wp2_with fail
            refine hask.out.mono ?_
            rintro e w7 ⟨rfl, hb7⟩
            have T7 := hide (T4.out.bel hb7)
            have D7 := hide (D4.out.below hb7)
            clear hb7 hask
            clear z0 z1 z2 z3 z4 z5 z6 z7 z8 z9 z10 z11
            obtain ⟨Z, hZ⟩ : ∃ Z, w7.alloc (.cells #[.int .i64 k1, .int .i64 k2, .int .i64 k3, .int .i64 k4, .int .i64 k5, .int .i64 k6, .int .i64 k7, .int .i64 k8] 34) = Z := ⟨_, rfl⟩
            have TZ : Hid (TbOwn A g b Z L4) := hide (by rw [← hZ]; exact T7.out.alloc _)
            have DZ : Hid (DtAt Z wr.heap.size 0 (⟨op, s, q, a, ⟨e1, e2, e3, e4, e5, e6, e7, e8⟩⟩ : Dt)) := hide (by rw [← hZ]; exact D7.out.below ((Below.refl _ _).alloc (Nat.le_refl _) _))
            have hZc : ∀ i v, #[Value.int .i64 k1, .int .i64 k2, .int .i64 k3, .int .i64 k4, .int .i64 k5, .int .i64 k6, .int .i64 k7, .int .i64 k8][i]? = some v → Z.cell? ⟨w7.heap.size, i, none⟩ = some v := fun i v hi => by rw [← hZ, World.cell?_alloc_new]; exact hi
            have r0 : Z.cell? ⟨w7.heap.size, 0, none⟩ = some (.int .i64 k1) := hZc 0 _ rfl
            have r1 : Z.cell? ⟨w7.heap.size, 1, none⟩ = some (.int .i64 k2) := hZc 1 _ rfl
            have r2 : Z.cell? ⟨w7.heap.size, 2, none⟩ = some (.int .i64 k3) := hZc 2 _ rfl
            have r3 : Z.cell? ⟨w7.heap.size, 3, none⟩ = some (.int .i64 k4) := hZc 3 _ rfl
            have r4 : Z.cell? ⟨w7.heap.size, 4, none⟩ = some (.int .i64 k5) := hZc 4 _ rfl
            have r5 : Z.cell? ⟨w7.heap.size, 5, none⟩ = some (.int .i64 k6) := hZc 5 _ rfl
            have r6 : Z.cell? ⟨w7.heap.size, 6, none⟩ = some (.int .i64 k7) := hZc 6 _ rfl
            have r7 : Z.cell? ⟨w7.heap.size, 7, none⟩ = some (.int .i64 k8) := hZc 7 _ rfl
            obtain ⟨z0, z1, z2, z3, z4, z5, z6, z7, z8, z9, z10, z11⟩ := HKF.out _ _ TZ.out
            obtain ⟨x0, x1, x2, x3, x4, x5, x6, x7, x8, x9, x10, x11⟩ := XF.out _ DZ.out
            have hneq : ∀ W, (binOp .neq 34 (.agg #[.int .i64 k1, .int .i64 k2, .int .i64 k3, .int .i64 k4, .int .i64 k5, .int .i64 k6, .int .i64 k7, .int .i64 k8]) (.agg #[.int .i64 k1, .int .i64 k2, .int .i64 k3, .int .i64 k4, .int .i64 k5, .int .i64 k6, .int .i64 k7, .int .i64 k8])).run Try.prog W = .ok (.bool false) W := fun W => by
              have := rp_neqB ⟨k1, k2, k3, k4, k5, k6, k7, k8⟩ ⟨k1, k2, k3, k4, k5, k6, k7, k8⟩ W
              rw [decide_eq_true rfl] at this
              exact this
            have hkp := hide (keep_any (a := ka) (r := ⟨e1, e2, e3, e4, e5, e6, e7, e8⟩) TZ.out.tb (n := ks) (m := kq) HKS.out hkq.1 hkq.2)
            rw [show keepT L4 ks kq ka ⟨e1, e2, e3, e4, e5, e6, e7, e8⟩ = (81, L4) from keep_same (x := (⟨ks, kq, ka, ⟨k1, k2, k3, k4, k5, k6, k7, k8⟩⟩ : St)) F4.out hq1 ka _] at hkp
            unfold rpV at hkp
            dsimp only at hkp
            clear hZc
            go_wp2_with fail
            refine hkp.out.mono ?_
            rintro e w8 ⟨rfl, h8, hc8⟩
            have T8 := hide (TZ.out.tab h8 hc8)
            clear h8 hc8 hkp hZ
            clear z0 z1 z2 z3 z4 z5 z6 z7 z8 z9 z10 z11 x0 x1 x2 x3 x4 x5 x6 x7 x8 x9 x10 x11
            go_wp2
            go_roundw
            case rel => exact ⟨k + 1, L4, by omega, by go_num, hide ⟨T8.out, F4.out⟩⟩
            case measure => simp [intOf]; omega
          · replace hs : (s != ks) = false := by simpa using hs
            obtain ⟨z0, z1, z2, z3, z4, z5, z6, z7, z8, z9, z10, z11⟩ := HKF.out _ _ TY.out
            obtain ⟨x0, x1, x2, x3, x4, x5, x6, x7, x8, x9, x10, x11⟩ := XF.out _ HDY.out
            go_wp2_with fail
            clear z0 z1 z2 z3 z4 z5 z6 z7 z8 z9 z10 z11 x0 x1 x2 x3 x4 x5 x6 x7 x8 x9 x10 x11
            obtain ⟨z0, z1, z2, z3, z4, z5, z6, z7, z8, z9, z10, z11⟩ := HKF.out _ _ TY.out
            have hask := hide (ask_any TY.out.tb (n := ks) (m := kq) HKS.out hkq.1 hkq.2)
            rw [show askT L ks kq = (⟨k1, k2, k3, k4, k5, k6, k7, k8⟩, true, 0) from ask_same (x := (⟨ks, kq, ka, ⟨k1, k2, k3, k4, k5, k6, k7, k8⟩⟩ : St)) HFL.out hq1] at hask
            unfold AskPost rpV at hask
            dsimp only at hask
            go_wp2_with fail
            refine hask.out.mono ?_
            rintro e w7 ⟨rfl, hb7⟩
            have T7 := hide (TY.out.bel hb7)
            have D7 := hide (HDY.out.below hb7)
            clear hb7 hask
            clear z0 z1 z2 z3 z4 z5 z6 z7 z8 z9 z10 z11
            obtain ⟨Z, hZ⟩ : ∃ Z, w7.alloc (.cells #[.int .i64 k1, .int .i64 k2, .int .i64 k3, .int .i64 k4, .int .i64 k5, .int .i64 k6, .int .i64 k7, .int .i64 k8] 34) = Z := ⟨_, rfl⟩
            have TZ : Hid (TbOwn A g b Z L) := hide (by rw [← hZ]; exact T7.out.alloc _)
            have DZ : Hid (DtAt Z wr.heap.size 0 (⟨op, s, q, a, ⟨e1, e2, e3, e4, e5, e6, e7, e8⟩⟩ : Dt)) := hide (by rw [← hZ]; exact D7.out.below ((Below.refl _ _).alloc (Nat.le_refl _) _))
            have hZc : ∀ i v, #[Value.int .i64 k1, .int .i64 k2, .int .i64 k3, .int .i64 k4, .int .i64 k5, .int .i64 k6, .int .i64 k7, .int .i64 k8][i]? = some v → Z.cell? ⟨w7.heap.size, i, none⟩ = some v := fun i v hi => by rw [← hZ, World.cell?_alloc_new]; exact hi
            have r0 : Z.cell? ⟨w7.heap.size, 0, none⟩ = some (.int .i64 k1) := hZc 0 _ rfl
            have r1 : Z.cell? ⟨w7.heap.size, 1, none⟩ = some (.int .i64 k2) := hZc 1 _ rfl
            have r2 : Z.cell? ⟨w7.heap.size, 2, none⟩ = some (.int .i64 k3) := hZc 2 _ rfl
            have r3 : Z.cell? ⟨w7.heap.size, 3, none⟩ = some (.int .i64 k4) := hZc 3 _ rfl
            have r4 : Z.cell? ⟨w7.heap.size, 4, none⟩ = some (.int .i64 k5) := hZc 4 _ rfl
            have r5 : Z.cell? ⟨w7.heap.size, 5, none⟩ = some (.int .i64 k6) := hZc 5 _ rfl
            have r6 : Z.cell? ⟨w7.heap.size, 6, none⟩ = some (.int .i64 k7) := hZc 6 _ rfl
            have r7 : Z.cell? ⟨w7.heap.size, 7, none⟩ = some (.int .i64 k8) := hZc 7 _ rfl
            obtain ⟨z0, z1, z2, z3, z4, z5, z6, z7, z8, z9, z10, z11⟩ := HKF.out _ _ TZ.out
            obtain ⟨x0, x1, x2, x3, x4, x5, x6, x7, x8, x9, x10, x11⟩ := XF.out _ DZ.out
            have hneq : ∀ W, (binOp .neq 34 (.agg #[.int .i64 k1, .int .i64 k2, .int .i64 k3, .int .i64 k4, .int .i64 k5, .int .i64 k6, .int .i64 k7, .int .i64 k8]) (.agg #[.int .i64 k1, .int .i64 k2, .int .i64 k3, .int .i64 k4, .int .i64 k5, .int .i64 k6, .int .i64 k7, .int .i64 k8])).run Try.prog W = .ok (.bool false) W := fun W => by
              have := rp_neqB ⟨k1, k2, k3, k4, k5, k6, k7, k8⟩ ⟨k1, k2, k3, k4, k5, k6, k7, k8⟩ W
              rw [decide_eq_true rfl] at this
              exact this
            have hkp := hide (keep_any (a := ka) (r := ⟨e1, e2, e3, e4, e5, e6, e7, e8⟩) TZ.out.tb (n := ks) (m := kq) HKS.out hkq.1 hkq.2)
            rw [show keepT L ks kq ka ⟨e1, e2, e3, e4, e5, e6, e7, e8⟩ = (81, L) from keep_same (x := (⟨ks, kq, ka, ⟨k1, k2, k3, k4, k5, k6, k7, k8⟩⟩ : St)) HFL.out hq1 ka _] at hkp
            unfold rpV at hkp
            dsimp only at hkp
            clear hZc
            go_wp2_with fail
            refine hkp.out.mono ?_
            rintro e w8 ⟨rfl, h8, hc8⟩
            have T8 := hide (TZ.out.tab h8 hc8)
            clear h8 hc8 hkp hZ
            clear z0 z1 z2 z3 z4 z5 z6 z7 z8 z9 z10 z11 x0 x1 x2 x3 x4 x5 x6 x7 x8 x9 x10 x11
            go_wp2
            go_roundw
            case rel => exact ⟨k + 1, L, by omega, by go_num, hide ⟨T8.out, HFL.out⟩⟩
            case measure => simp [intOf]; omega
        · replace h4 : (wrap64 ((IntKind.u64.wrap op).tmod 6) != 4) = false := by simpa using h4
          obtain ⟨z0, z1, z2, z3, z4, z5, z6, z7, z8, z9, z10, z11⟩ := HKF.out _ _ TY.out
          obtain ⟨x0, x1, x2, x3, x4, x5, x6, x7, x8, x9, x10, x11⟩ := XF.out _ HDY.out
          go_wp2_with fail
          clear z0 z1 z2 z3 z4 z5 z6 z7 z8 z9 z10 z11 x0 x1 x2 x3 x4 x5 x6 x7 x8 x9 x10 x11
          obtain ⟨z0, z1, z2, z3, z4, z5, z6, z7, z8, z9, z10, z11⟩ := HKF.out _ _ TY.out
          have hask := hide (ask_any TY.out.tb (n := ks) (m := kq) HKS.out hkq.1 hkq.2)
          rw [show askT L ks kq = (⟨k1, k2, k3, k4, k5, k6, k7, k8⟩, true, 0) from ask_same (x := (⟨ks, kq, ka, ⟨k1, k2, k3, k4, k5, k6, k7, k8⟩⟩ : St)) HFL.out hq1] at hask
          unfold AskPost rpV at hask
          dsimp only at hask
          go_wp2_with fail
          refine hask.out.mono ?_
          rintro e w7 ⟨rfl, hb7⟩
          have T7 := hide (TY.out.bel hb7)
          have D7 := hide (HDY.out.below hb7)
          clear hb7 hask
          clear z0 z1 z2 z3 z4 z5 z6 z7 z8 z9 z10 z11
          obtain ⟨Z, hZ⟩ : ∃ Z, w7.alloc (.cells #[.int .i64 k1, .int .i64 k2, .int .i64 k3, .int .i64 k4, .int .i64 k5, .int .i64 k6, .int .i64 k7, .int .i64 k8] 34) = Z := ⟨_, rfl⟩
          have TZ : Hid (TbOwn A g b Z L) := hide (by rw [← hZ]; exact T7.out.alloc _)
          have DZ : Hid (DtAt Z wr.heap.size 0 (⟨op, s, q, a, ⟨e1, e2, e3, e4, e5, e6, e7, e8⟩⟩ : Dt)) := hide (by rw [← hZ]; exact D7.out.below ((Below.refl _ _).alloc (Nat.le_refl _) _))
          have hZc : ∀ i v, #[Value.int .i64 k1, .int .i64 k2, .int .i64 k3, .int .i64 k4, .int .i64 k5, .int .i64 k6, .int .i64 k7, .int .i64 k8][i]? = some v → Z.cell? ⟨w7.heap.size, i, none⟩ = some v := fun i v hi => by rw [← hZ, World.cell?_alloc_new]; exact hi
          have r0 : Z.cell? ⟨w7.heap.size, 0, none⟩ = some (.int .i64 k1) := hZc 0 _ rfl
          have r1 : Z.cell? ⟨w7.heap.size, 1, none⟩ = some (.int .i64 k2) := hZc 1 _ rfl
          have r2 : Z.cell? ⟨w7.heap.size, 2, none⟩ = some (.int .i64 k3) := hZc 2 _ rfl
          have r3 : Z.cell? ⟨w7.heap.size, 3, none⟩ = some (.int .i64 k4) := hZc 3 _ rfl
          have r4 : Z.cell? ⟨w7.heap.size, 4, none⟩ = some (.int .i64 k5) := hZc 4 _ rfl
          have r5 : Z.cell? ⟨w7.heap.size, 5, none⟩ = some (.int .i64 k6) := hZc 5 _ rfl
          have r6 : Z.cell? ⟨w7.heap.size, 6, none⟩ = some (.int .i64 k7) := hZc 6 _ rfl
          have r7 : Z.cell? ⟨w7.heap.size, 7, none⟩ = some (.int .i64 k8) := hZc 7 _ rfl
          obtain ⟨z0, z1, z2, z3, z4, z5, z6, z7, z8, z9, z10, z11⟩ := HKF.out _ _ TZ.out
          obtain ⟨x0, x1, x2, x3, x4, x5, x6, x7, x8, x9, x10, x11⟩ := XF.out _ DZ.out
          have hneq : ∀ W, (binOp .neq 34 (.agg #[.int .i64 k1, .int .i64 k2, .int .i64 k3, .int .i64 k4, .int .i64 k5, .int .i64 k6, .int .i64 k7, .int .i64 k8]) (.agg #[.int .i64 k1, .int .i64 k2, .int .i64 k3, .int .i64 k4, .int .i64 k5, .int .i64 k6, .int .i64 k7, .int .i64 k8])).run Try.prog W = .ok (.bool false) W := fun W => by
            have := rp_neqB ⟨k1, k2, k3, k4, k5, k6, k7, k8⟩ ⟨k1, k2, k3, k4, k5, k6, k7, k8⟩ W
            rw [decide_eq_true rfl] at this
            exact this
          have hkp := hide (keep_any (a := ka) (r := ⟨e1, e2, e3, e4, e5, e6, e7, e8⟩) TZ.out.tb (n := ks) (m := kq) HKS.out hkq.1 hkq.2)
          rw [show keepT L ks kq ka ⟨e1, e2, e3, e4, e5, e6, e7, e8⟩ = (81, L) from keep_same (x := (⟨ks, kq, ka, ⟨k1, k2, k3, k4, k5, k6, k7, k8⟩⟩ : St)) HFL.out hq1 ka _] at hkp
          unfold rpV at hkp
          dsimp only at hkp
          clear hZc
          go_wp2_with fail
          refine hkp.out.mono ?_
          rintro e w8 ⟨rfl, h8, hc8⟩
          have T8 := hide (TZ.out.tab h8 hc8)
          clear h8 hc8 hkp hZ
          clear z0 z1 z2 z3 z4 z5 z6 z7 z8 z9 z10 z11 x0 x1 x2 x3 x4 x5 x6 x7 x8 x9 x10 x11
          go_wp2
          go_roundw
          case rel => exact ⟨k + 1, L, by omega, by go_num, hide ⟨T8.out, HFL.out⟩⟩
          case measure => simp [intOf]; omega
      · have TR := hide HR.out.1
        obtain ⟨z0, z1, z2, z3, z4, z5, z6, z7, z8, z9, z10, z11⟩ := HKF.out _ _ TR.out
        have HFR := hide HR.out.2
        by_cases hq2 : kq < 1099511627776
        · have hnx := keep_next (x := (⟨ks, kq, ka, ⟨k1, k2, k3, k4, k5, k6, k7, k8⟩⟩ : St)) HFR.out hq1 HOK1.out (r := ⟨0, 0, 1, 0, 0, 0, 0, 0⟩) (by decide) hq2
          dsimp only at hnx
          have HNX := hide hnx
          have hkp := hide (keep_any TR.out.tb (n := ks) (m := kq + 1) (a := ka) (r := ⟨0, 0, 1, 0, 0, 0, 0, 0⟩) HKS.out (by omega) (by omega))
          rw [hnx.1] at hkp
          unfold rpV at hkp
          dsimp only at hkp
          clear hnx
          go_wp2_with fail
          refine hkp.out.mono ?_
          rintro e w5 ⟨rfl, h5, hc5⟩
          have T5 := hide (TR.out.tab h5 hc5)
          clear h5 hc5 hkp
          clear z0 z1 z2 z3 z4 z5 z6 z7 z8 z9 z10 z11
          obtain ⟨z0, z1, z2, z3, z4, z5, z6, z7, z8, z9, z10, z11⟩ := HKF.out _ _ T5.out
          have hask := hide (ask_any T5.out.tb (n := ks) (m := kq) HKS.out hkq.1 hkq.2)
          rw [HNX.out.2] at hask
          unfold AskPost rpV rp0 at hask
          dsimp only at hask
          go_wp2_with fail
          refine hask.out.mono ?_
          rintro e w6 ⟨rfl, hb6⟩
          have T6 := hide (T5.out.bel hb6)
          clear hb6 hask
          clear z0 z1 z2 z3 z4 z5 z6 z7 z8 z9 z10 z11
          go_wp2_with fail
          refine (awake_any _).mono ?_
          rintro e w7 ⟨rfl, hb7⟩
          have T7 := hide ((T6.out.alloc _).bel hb7)
          clear hb7
          go_wp2
          go_ret
          exact ⟨by rfl, HBA.out.trans (T7.out.below.mono HBA.out.size)⟩
        · have hkl := keep_last (x := (⟨ks, kq, ka, ⟨k1, k2, k3, k4, k5, k6, k7, k8⟩⟩ : St)) HFR.out (by dsimp only; omega) ⟨0, 0, 1, 0, 0, 0, 0, 0⟩
          dsimp only at hkl
          have hkp := hide (keep_any TR.out.tb (n := ks) (m := kq + 1) (a := ka) (r := ⟨0, 0, 1, 0, 0, 0, 0, 0⟩) HKS.out (by omega) (by omega))
          rw [hkl] at hkp
          unfold rpV at hkp
          dsimp only at hkp
          clear hkl
          obtain rfl : kq = 1099511627776 := by omega
          go_wp2_with fail
          refine hkp.out.mono ?_
          rintro e w5 ⟨rfl, h5, hc5⟩
          have T5 := hide (TR.out.tab h5 hc5)
          clear h5 hc5 hkp
          clear z0 z1 z2 z3 z4 z5 z6 z7 z8 z9 z10 z11
          obtain ⟨z0, z1, z2, z3, z4, z5, z6, z7, z8, z9, z10, z11⟩ := HKF.out _ _ T5.out
          go_wp2_with fail
          refine (awake_any _).mono ?_
          rintro e w7 ⟨rfl, hb7⟩
          have T7 := hide (T5.out.bel hb7)
          clear hb7
          go_wp2
          go_ret
          exact ⟨by rfl, HBA.out.trans (T7.out.below.mono HBA.out.size)⟩
  · go_wp2_with fail
    refine HA2.out.mono ?_
    rintro e w3 ⟨rfl, hb3⟩
    have T3 := hide (T2.out.bel hb3)
    clear hb3
    go_wp2
    go_ret
    exact ⟨by rfl, HBA.out.trans (T3.out.below.mono HBA.out.size)⟩
end Go.Proofs.Ytkjebpebfcgnjaa
