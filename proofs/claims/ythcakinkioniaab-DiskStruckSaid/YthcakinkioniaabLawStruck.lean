/- A disk that is armed is behind the struck act as one on which the power goes by itself there. -/
import Derived.Test.YthcakinkioniaabDPlain5
namespace Go.Proofs.Ythcakinkioniaab
open Go.RowKit

set_option maxRecDepth 200000 in
set_option maxHeartbeats 8000000 in
theorem struck_law {w : World} {room : Int} {p : Option Addr} {len cap : Nat} {l : List Rec} (h : Dos w p len cap l) {p2 : Option Addr} {len2 cap2 : Nat} {l2 : List Rec} (h2 : Dos w p2 len2 cap2 l2) {n keep tear : Int} (hkeep : I64 keep) (htear : I64 tear) :
    Calls Try.prog 7 #[.int .i64 room, .slice p len cap, .slice p2 len2 cap2, .int .i64 n, .int .i64 keep, .int .i64 tear] w fun e w' => e = .returned (.bool true) ∧ Below w.heap.size w w' := by
  have HM := hide (made_law (room := room) h)
  have HD2 := hide h2
  have hcap2 := h2.cap_
  have hmax2 := h2.max_
  unfold maxLen at hmax2
  obtain ⟨r1, r2⟩ := modOf_ok (m := 120) (by omega) (by omega) n
  have HR := hide r1
  clear r1 h2
  go_enter Try.func7, Try.ntmps7
  go_wp2_with fail
  refine HM.out.mono ?_
  rintro e w1 ⟨g, rfl, hd⟩
  rcases hs : isShort l with _ | _
  · have HB := hide hd.below
    clear hd
    go_wp2_with fail
    refine (awake_any w1).mono ?_
    rintro e w2 ⟨rfl, hb⟩
    go_wp2
    go_ret
    exact ⟨rfl, HB.out.trans (hb.mono HB.out.size)⟩
  have hcal := made_calm h hs (roomOf room)
  rw [if_pos hs] at hd
  go_wp2_with fail
  refine (short_any (HD2.out.chg (Chg.of_below hd.below _))).mono ?_
  rintro e w1' ⟨rfl, hc1⟩
  have hd := hd.chg hc1
  clear hc1
  rcases hs2 : isShort l2 with _ | _
  · have HB := hide hd.below
    clear hd
    go_wp2_with fail
    refine (awake_any w1').mono ?_
    rintro e w2 ⟨rfl, hb⟩
    go_wp2
    go_ret
    exact ⟨rfl, HB.out.trans (hb.mono HB.out.size)⟩
  obtain ⟨s, hse⟩ : ∃ s, s = (plays (Dk.new (roomOf room)) l).start := ⟨_, rfl⟩
  have hnm : s.Named := hse ▸ (plays_named (new_named _) l).start
  have hcs : s.CalmN 120 := hse ▸ hcal.start
  have hdn : s.down = false := by rw [hse]; rfl
  go_wp2_with fail
  refine (start_own hd).mono ?_
  rintro e w2 ⟨rfl, hd2⟩
  rw [show ((0 : Nat) : Int) = 0 from rfl]
  rw [← hse] at hd2
  clear hd hse hcal
  go_wp2_with fail
  refine (clone_two hd2).mono ?_
  rintro e w3 ⟨g', rfl, h3⟩
  obtain ⟨N, hN⟩ : ∃ N, N = modOf 120 n := ⟨_, rfl⟩
  have HNN := hide HR.out
  rw [← hN] at HNN r2
  have hlen2 : len2 ≤ 120 := by
    unfold isShort at hs2
    simp only [Bool.and_eq_true, decide_eq_true_eq] at hs2
    have := HD2.out.len_
    omega
  have HS2 := hide hs2
  have HPL := hide (And.intro hcs (And.intro hdn hnm))
  clear hd2 hN hs2 hcs hdn hnm
  go_wp2_with fail
  rw [show wrap64 ((IntKind.u64.wrap n).tmod 120) = (N : Int) from HNN.out.symm]
  obtain ⟨M, hM⟩ : ∃ M, M = N + 1 := ⟨_, rfl⟩
  have hM2 : M ≤ 120 := by omega
  have hM1 : 1 ≤ M := by omega
  rw [show wrap64 (1 + (N : Int)) = (M : Int) from by unfold wrap64; omega]
  obtain ⟨sd0, hsd0⟩ : ∃ sd0, sd0 = ({ s with fn := M, keep := keep, tear := tear } : Dk) := ⟨_, rfl⟩
  have e1 : s.arm M keep tear = (0, sd0) := by
    unfold Dk.arm
    rw [if_neg (by rw [HPL.out.2.1]; decide), hsd0, show (max (M : Int) 0).toNat = M by omega]
  have e2 : s.arm 0 0 0 = (0, sd0.woken) := by
    unfold Dk.arm
    rw [if_neg (by rw [HPL.out.2.1]; decide), hsd0]
    show (0, { s with fn := 0, keep := 0, tear := 0 }) = (0, _)
    unfold Dk.woken
    rw [← HPL.out.2.1]
  refine (h3.call fun _ _ hD => arm_call hD (n := M) (keep := keep) (tear := tear) (by omega) (by omega)).mono ?_
  rintro e w4 ⟨rfl, h4⟩
  rw [e1] at h4 ⊢
  rw [show (((0, sd0) : Nat × Dk).1 : Int) = 0 from rfl]
  have h4' : Two w w4 g sd0 g' s := h4
  have E2 := hide e2
  have hcs0 : sd0.CalmN 120 := by
    rw [hsd0]
    exact ⟨hkeep, htear, HPL.out.1.few⟩
  have hf0 : sd0.fn = M ∧ sd0.keep = keep ∧ sd0.tear = tear ∧ sd0.down = false := by
    rw [hsd0]
    exact ⟨rfl, rfl, rfl, HPL.out.2.1⟩
  have hnm0 : sd0.Named := by
    rw [hsd0]
    exact ⟨HPL.out.2.2.last, HPL.out.2.2.acts⟩
  have HPD := hide (And.intro hcs0 (And.intro hf0 hnm0))
  clear h3 h4 e1 e2 hsd0 hcs0 hf0 hnm0 hM
  go_wp2_with fail
  refine (h4'.swap.call fun _ _ hD => arm_call hD (n := 0) (keep := 0) (tear := 0) (by omega) (by omega)).mono ?_
  rintro e w5 ⟨rfl, h5⟩
  rw [E2.out] at h5 ⊢
  rw [show (((0, sd0.woken) : Nat × Dk).1 : Int) = 0 from rfl]
  have H5 := hide (show Two w w5 g sd0 g' sd0.woken from Two.swap h5)
  clear h4' h5
  go_wp2_with fail
  go_loopw [16, 53] (fun dv i wr => ∃ (k dn : Nat) (sd : Dk), k ≤ len2 ∧ i = .int .i64 k ∧ dv = .int .i64 dn ∧ dn < M ∧ sd.fn = M - dn ∧ sd.keep = keep ∧ sd.tear = tear ∧ sd.down = false ∧ sd.Named ∧ sd.CalmN (120 + k) ∧ Two w wr g sd g' sd.woken) (fun _ i _ => len2 - (intOf i).toNat)
  case atStart => exact ⟨0, 0, sd0, by omega, rfl, rfl, by omega, HPD.out.2.1.1, HPD.out.2.1.2.1, HPD.out.2.1.2.2.1, HPD.out.2.1.2.2.2, HPD.out.2.2, HPD.out.1, H5.out⟩
  case round =>
    obtain ⟨k, dn, sd, hk, rfl, rfl, hdM, hfn, hkp, htr, hdn, hnm, hcm, h6⟩ := hrel
    have hki : (k : Int) ≤ 120 := by omega
    have hdi : (dn : Int) ≤ 120 := by omega
    by_cases hkl : (k : Int) < (len2 : Int)
    · obtain ⟨a, o, rfl, hx⟩ := HD2.out.at_ (by omega)
      obtain ⟨x, hget⟩ : ∃ x, l2[k]? = some x := ⟨l2[k]'(by have := HD2.out.len_; omega), List.getElem?_eq_getElem _⟩
      obtain ⟨q, m, c, hr0⟩ := hx k x hget
      have HIS0 := hide hr0.is_
      have hr := hr0.chg (Chg.of_below h6.below (fun _ => False))
      clear hr0
      have c0 := hr.c0
      have c1 := hr.c1
      have c2 := hr.c2
      have c3 := hr.c3
      have c4 := hr.c4
      have c5 := hr.c5
      have c6 := hr.c6
      have c7 := hr.c7
      have hbl := isShort_b HS2.out hget
      obtain ⟨X, hX⟩ : ∃ X, X = wr.alloc (.cells (recC x q m c) 35) := ⟨_, rfl⟩
      have hcX : Chg wr X (fun _ => False) := hX ▸ chg_alloc _ _
      have h7 : TwoK w (fun i => i = wr.heap.size) X g sd g' sd.woken := hX ▸ h6.boxed _
      have hbx : BoxAt X wr.heap.size x q m c := hX ▸ BoxAt.new wr x q m c
      have HISX := hide (hr.is_.chg hcX)
      have HT6 := hide h7.two
      have H7 := hide h7
      have HBX := hide hbx
      have HCM := hide (And.intro hcm (And.intro hdn (And.intro hfn hnm)))
      have HKT := hide (And.intro hkp (And.intro htr hdM))
      have HBL := hide hbl
      clear hr hx hget hcX h7 hbx hcm hdn hfn hnm h6 hbl hkp htr hdM
      unfold recC at hX
      have hkk : (6 : Int) < wrap64 ((IntKind.u64.wrap x.op).tmod 10) ∨ (wrap64 ((IntKind.u64.wrap x.op).tmod 10) ≤ 6 ∧ wrap64 ((IntKind.u64.wrap x.op).tmod 10) < 6) ∨ (wrap64 ((IntKind.u64.wrap x.op).tmod 10) ≤ 6 ∧ ¬ wrap64 ((IntKind.u64.wrap x.op).tmod 10) < 6) := by omega
      rcases hkk with hbig | ⟨hle, hlt⟩ | ⟨hle, hnlt⟩
      · go_wp2_with fail
        first | rw [← hX] | skip
        exact ⟨⟨k + 1, dn, sd, by omega, by go_num, rfl, HKT.out.2.2, HCM.out.2.2.1, HKT.out.1, HKT.out.2.1, HCM.out.2.1, HCM.out.2.2.2, HCM.out.1.mono (by omega), HT6.out⟩, by simp [intOf]; omega⟩
      · have HSTEP := hide (step_woken HCM.out.2.1 (x := x) hlt)
        go_wp2_with fail
        rw [← hX]
        have hdo := does_two H7.out (HCM.out.1.calm (by omega)) HISX.out (by have := HBL.out; omega)
        unfold doV at hdo
        refine hdo.mono ?_
        rintro e X2 ⟨rfl, h9, hc9⟩
        clear hdo hX c0 c1 c2 c3 c4 c5 c6 c7
        have hb9 := HBX.out.chg hc9 (by simp)
        have HIS9 := hide (HIS0.out.chg (Chg.of_below h9.two.below (fun _ => False)))
        have z0 := hb9.c0
        have z1 := hb9.c1
        have z2 := hb9.c2
        have z3 := hb9.c3
        have z4 := hb9.c4
        have z5 := hb9.c5
        have z6 := hb9.c6
        have z7 := hb9.c7
        clear hb9 hc9
        rcases HSTEP.out with ⟨d, st1, st2⟩ | ⟨r, r1, r2, st1, st2⟩
        · have HST := hide st1
          rw [st2] at h9 ⊢
          have HNMA := hide (show (sd.act d).Named from by
            have h1 := HCM.out.2.2.2.woken.step x
            rw [st1] at h1
            exact ⟨h1.last, h1.acts⟩)
          by_cases hf1 : sd.fn = 1
          · have ep : sd.perf d = (22, (sd.act d).fall sd.keep sd.tear) := by
              unfold Dk.perf
              rw [if_pos hf1]
            rw [ep, HKT.out.1, HKT.out.2.1] at h9
            rw [ep]
            rw [show (((22, (sd.act d).fall sd.keep sd.tear) : Nat × Dk).1 : Int) = 22 from rfl]
            have h9' : TwoK w (fun i => i = wr.heap.size) X2 g ((sd.act d).fall keep tear) g' sd.woken := h9
            have H9 := hide h9'
            have hdn1 : (dn : Int) = (M : Int) - 1 := by
              have h1 := HCM.out.2.2.1
              have h2 := HKT.out.2.2
              omega
            have g2 : ((dn : Int) == (M : Int) - 1) = true := ieq_true hdn1
            have HNMF := hide (HNMA.out.fall keep tear).start
            clear h9 h9' ep st1 st2 hdn1
            go_wp2_with fail
            have hdo := does_two H9.out.swap ((HCM.out.1.woken).calm (by omega)) HIS9.out (by have := HBL.out; omega)
            rw [HST.out] at hdo
            unfold doV at hdo
            refine hdo.mono ?_
            rintro e X4 ⟨rfl, h11, _⟩
            have H11 := hide (show Two w X4 g ((sd.act d).fall keep tear) g' (sd.woken.act d) from h11.two.swap)
            clear hdo h11 z0 z1 z2 z3 z4 z5 z6 z7
            go_wp2_with fail
            refine (H11.out.swap.call fun _ _ hD => crash_call hD (keep := keep) (tear := tear) hkeep.2 hkeep.1 htear.2 htear.1).mono ?_
            rintro e X5 ⟨rfl, h20⟩
            have ec : (sd.woken.act d).crash keep tear = (0, (sd.woken.act d).fall keep tear) := by
              unfold Dk.crash
              rw [if_neg (by show ¬ false = true; decide)]
            rw [ec] at h20
            have H20 := hide (show Two w X5 g ((sd.act d).fall keep tear) g' ((sd.woken.act d).fall keep tear) from Two.swap h20)
            clear h20 ec
            go_wp2_with fail
            refine (H20.out.call fun _ _ hD => start_call hD).mono ?_
            rintro e X6 ⟨rfl, h21⟩
            rw [show ((0 : Nat) : Int) = 0 from rfl]
            have H21 := hide h21
            clear h21
            go_wp2_with fail
            refine (H21.out.swap.call fun _ _ hD => start_call hD).mono ?_
            rintro e X7 ⟨rfl, h22⟩
            rw [show ((0 : Nat) : Int) = 0 from rfl]
            have hsame := same_any h22 HNMF.out rfl (fall_last rfl rfl keep tear)
            have HSM := hide hsame
            have H22 := hide h22
            clear hsame h22
            go_wp2_with fail
            refine HSM.out.mono ?_
            rintro e X8 ⟨rfl, hc11⟩
            have HB := hide (H22.out.chg hc11).below
            clear hc11
            go_wp2_with fail
            refine (awake_any X8).mono ?_
            rintro e X9 ⟨rfl, hb⟩
            go_wp2
            go_ret
            exact ⟨rfl, HB.out.trans (hb.mono HB.out.size)⟩
          · have ep : sd.perf d = (0, sd.act d) := by
              unfold Dk.perf
              rw [if_neg hf1]
            rw [ep] at h9 ⊢
            rw [show (((0, sd.act d) : Nat × Dk).1 : Int) = 0 from rfl]
            have h9' : TwoK w (fun i => i = wr.heap.size) X2 g (sd.act d) g' sd.woken := h9
            have H9 := hide h9'
            have HF1 := hide hf1
            clear h9 h9' ep st1 st2 hf1
            go_wp2_with fail
            have hdo := does_two H9.out.swap ((HCM.out.1.woken).calm (by omega)) HIS9.out (by have := HBL.out; omega)
            rw [HST.out] at hdo
            unfold doV at hdo
            refine hdo.mono ?_
            rintro e X4 ⟨rfl, h11, _⟩
            rw [show (((0, sd.woken.act d) : Nat × Dk).1 : Int) = 0 from rfl]
            have H11 := hide (show Two w X4 g (sd.act d) g' (sd.act d).woken from h11.two.swap)
            clear hdo h11 z0 z1 z2 z3 z4 z5 z6 z7
            go_wp2
            all_goals
              go_roundw
              case rel => exact ⟨k + 1, dn + 1, sd.act d, by omega, by go_num, by go_num, by have := HKT.out.2.2; have := HCM.out.2.2.1; have := HF1.out; omega, by show sd.fn - 1 = M - (dn + 1); have := HCM.out.2.2.1; omega, HKT.out.1, HKT.out.2.1, HCM.out.2.1, HNMA.out, (HCM.out.1.act d).mono (by omega), H11.out⟩
              case measure => simp [intOf]; omega
        · have HST := hide st1
          rw [st2] at h9 ⊢
          have g1 : ((r : Int) == 22) = false := ieq_false (by omega)
          have g2 : ((r : Int) == 0) = false := ieq_false (by omega)
          have h9' : TwoK w (fun i => i = wr.heap.size) X2 g sd g' sd.woken := h9
          have H9 := hide h9'
          clear h9 h9' st1 st2 r1 r2
          go_wp2_with fail
          have hdo := does_two H9.out.swap ((HCM.out.1.woken).calm (by omega)) HIS9.out (by have := HBL.out; omega)
          rw [HST.out] at hdo
          unfold doV at hdo
          refine hdo.mono ?_
          rintro e X4 ⟨rfl, h11, _⟩
          have H11 := hide (show Two w X4 g sd g' sd.woken from h11.two.swap)
          clear hdo h11 z0 z1 z2 z3 z4 z5 z6 z7
          go_wp2
          all_goals
            go_roundw
            case rel => exact ⟨k + 1, dn, sd, by omega, by go_num, rfl, HKT.out.2.2, HCM.out.2.2.1, HKT.out.1, HKT.out.2.1, HCM.out.2.1, HCM.out.2.2.2, HCM.out.1.mono (by omega), H11.out⟩
            case measure => simp [intOf]; omega
      · have hk6 : kind x.op = 6 := by
          unfold kind
          omega
        have HSY := hide (And.intro (step_sync (s := sd) hk6) (step_sync (s := sd.woken) hk6))
        go_wp2_with fail
        rw [← hX]
        have hdo := does_two H7.out (HCM.out.1.calm (by omega)) HISX.out (by have := HBL.out; omega)
        unfold doV at hdo
        refine hdo.mono ?_
        rintro e X2 ⟨rfl, h9, hc9⟩
        clear hdo hX c0 c1 c2 c3 c4 c5 c6 c7
        have hb9 := HBX.out.chg hc9 (by simp)
        have HIS9 := hide (HIS0.out.chg (Chg.of_below h9.two.below (fun _ => False)))
        have z0 := hb9.c0
        have z1 := hb9.c1
        have z2 := hb9.c2
        have z3 := hb9.c3
        have z4 := hb9.c4
        have z5 := hb9.c5
        have z6 := hb9.c6
        have z7 := hb9.c7
        clear hb9 hc9
        rw [HSY.out.1] at h9 ⊢
        by_cases hf1 : sd.fn = 1
        · have ep : sd.sync = (22, sd.fall sd.keep sd.tear) := by
            unfold Dk.sync
            rw [if_neg (by rw [HCM.out.2.1]; decide), if_pos hf1]
          rw [ep, HKT.out.1, HKT.out.2.1] at h9
          rw [ep]
          rw [show (((22, sd.fall sd.keep sd.tear) : Nat × Dk).1 : Int) = 22 from rfl]
          have h9' : TwoK w (fun i => i = wr.heap.size) X2 g (sd.fall keep tear) g' sd.woken := h9
          have H9 := hide h9'.two
          have hdn1 : (dn : Int) = (M : Int) - 1 := by
            have h1 := HCM.out.2.2.1
            have h2 := HKT.out.2.2
            omega
          have g2 : ((dn : Int) == (M : Int) - 1) = true := ieq_true hdn1
          have HNMF := hide (HCM.out.2.2.2.woken.fall keep tear).start
          clear h9 h9' ep hdn1
          go_wp2_with fail
          refine (H9.out.swap.call fun _ _ hD => crash_call hD (keep := keep) (tear := tear) hkeep.2 hkeep.1 htear.2 htear.1).mono ?_
          rintro e X5 ⟨rfl, h20⟩
          have ec : (sd.woken).crash keep tear = (0, (sd.woken).fall keep tear) := by
            unfold Dk.crash
            rw [if_neg (by show ¬ false = true; decide)]
          rw [ec] at h20
          have H20 := hide (show Two w X5 g (sd.fall keep tear) g' ((sd.woken).fall keep tear) from Two.swap h20)
          clear h20 ec
          go_wp2_with fail
          refine (H20.out.call fun _ _ hD => start_call hD).mono ?_
          rintro e X6 ⟨rfl, h21⟩
          rw [show ((0 : Nat) : Int) = 0 from rfl]
          have H21 := hide h21
          clear h21
          go_wp2_with fail
          refine (H21.out.swap.call fun _ _ hD => start_call hD).mono ?_
          rintro e X7 ⟨rfl, h22⟩
          rw [show ((0 : Nat) : Int) = 0 from rfl]
          have hsame := same_any h22 HNMF.out rfl (fall_last rfl rfl keep tear)
          have HSM := hide hsame
          have H22 := hide h22
          clear hsame h22
          go_wp2_with fail
          refine HSM.out.mono ?_
          rintro e X8 ⟨rfl, hc11⟩
          have HB := hide (H22.out.chg hc11).below
          clear hc11
          go_wp2_with fail
          refine (awake_any X8).mono ?_
          rintro e X9 ⟨rfl, hb⟩
          go_wp2
          go_ret
          exact ⟨rfl, HB.out.trans (hb.mono HB.out.size)⟩
        · have ep : sd.sync = (0, sd.clean (sd.fn - 1)) := by
            unfold Dk.sync
            rw [if_neg (by rw [HCM.out.2.1]; decide), if_neg hf1]
            rfl
          have ep2 : sd.woken.sync = (0, sd.woken.clean 0) := sync_woken rfl rfl
          rw [ep] at h9 ⊢
          rw [show (((0, sd.clean (sd.fn - 1)) : Nat × Dk).1 : Int) = 0 from rfl]
          have h9' : TwoK w (fun i => i = wr.heap.size) X2 g (sd.clean (sd.fn - 1)) g' sd.woken := h9
          have H9 := hide h9'
          have HF1 := hide hf1
          have HE2 := hide ep2
          clear h9 h9' ep ep2 hf1
          go_wp2_with fail
          have hdo := does_two H9.out.swap ((HCM.out.1.woken).calm (by omega)) HIS9.out (by have := HBL.out; omega)
          rw [HSY.out.2, HE2.out] at hdo
          unfold doV at hdo
          refine hdo.mono ?_
          rintro e X4 ⟨rfl, h11, _⟩
          rw [show (((0, sd.woken.clean 0) : Nat × Dk).1 : Int) = 0 from rfl]
          have H11 := hide (show Two w X4 g (sd.clean (sd.fn - 1)) g' (sd.clean (sd.fn - 1)).woken from h11.two.swap)
          clear hdo h11 z0 z1 z2 z3 z4 z5 z6 z7
          go_wp2
          all_goals
            go_roundw
            case rel => exact ⟨k + 1, dn + 1, sd.clean (sd.fn - 1), by omega, by go_num, by go_num, by have := HKT.out.2.2; have := HCM.out.2.2.1; have := HF1.out; omega, by show sd.fn - 1 = M - (dn + 1); have := HCM.out.2.2.1; omega, HKT.out.1, HKT.out.2.1, HCM.out.2.1, HCM.out.2.2.2.clean _, ⟨HCM.out.1.k, HCM.out.1.t, Nat.zero_le _⟩, H11.out⟩
            case measure => simp [intOf]; omega
    · have g1 : (dn : Int) < (M : Int) := by omega
      have hsame := same_any h6.swap hnm.woken (by rw [hdn]; rfl) rfl
      have HSM := hide hsame
      have H6 := hide h6
      clear hsame h6 hnm hcm hkp htr hdn hfn
      go_wp2_with fail
      refine HSM.out.mono ?_
      rintro e w11 ⟨rfl, hc11⟩
      have HB := hide (H6.out.chg hc11).below
      clear hc11
      go_wp2_with fail
      refine (awake_any w11).mono ?_
      rintro e w12 ⟨rfl, hb⟩
      go_wp2
      go_ret
      exact ⟨rfl, HB.out.trans (hb.mono HB.out.size)⟩
end Go.Proofs.Ythcakinkioniaab
