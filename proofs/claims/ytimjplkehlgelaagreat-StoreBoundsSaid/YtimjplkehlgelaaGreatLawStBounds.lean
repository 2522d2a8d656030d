/- The law StoreBounds. -/
import Derived.Test.YtimjplkehlgelaaGreatSoBnd
import Derived.Test.YtimjplkehlgelaaGreatSoLdImg
import Derived.Test.YtimjplkehlgelaaGreatSoAw
import Derived.Test.YtimjplkehlgelaaGreatSoPlay
namespace Go.Proofs.YtimjplkehlgelaaGreat
set_option linter.unusedVariables false
set_option linter.unusedSimpArgs false
open Go.RowKit

/-- A store made since w0. -/
def OneS (w0 w : World) (gs bm : Nat) : Prop := ∃ R, SoIs w gs bm R ∧ (∀ k, SoS gs bm R k → w0.heap.size ≤ k) ∧ Below w0.heap.size w0 w
set_option maxRecDepth 200000 in
set_option maxHeartbeats 8000000 in
theorem lawStBounds_any {w : World} {v : Value} {D : List Dn} (h : Dns w v D) (tr : Int) (hwt : (Lit.int .i64 tr).wf = true) (sp : Int) (hws : (Lit.int .i64 sp).wf = true) : Calls Tryz.prog 7 #[v, .int .i64 tr, .int .i64 sp] w fun e w' => e = .returned (.bool true) ∧ Below w.heap.size w w' := by
  have HSH := hide (sshort_any h)
  have HA := hide sawake_any
  have HD := hide h
  clear h
  go_enter Tryz.func7, Tryz.ntmps7
  go_wp2_with fail
  refine HSH.out.mono ?_
  rintro e W ⟨⟨q, rfl, hq⟩, hbW⟩
  have HQ := hide hq
  have HBW := hide hbW
  clear hq hbW HSH
  cases q
  · go_wp2_with fail
    refine (HA.out _).mono ?_
    rintro e2 w2 ⟨rfl, hb2⟩
    have HB2 := hide (HBW.out.trans (hb2.mono HBW.out.size))
    clear hb2
    go_wp2
    go_ret
    exact ⟨rfl, HB2.out⟩
  · have HQD := hide (HQ.out (by simp)).2
    go_wp2_with fail
    refine (play_any (HD.out.below HBW.out) HQD.out).mono ?_
    intro e X hp
    obtain ⟨gs, bm, R, rfl, hs, hpl, hnw, hbX⟩ := hp
    have HX : Hid (OneS w X gs bm) := hide ⟨R, hs, fun k hk => Nat.le_trans HBW.out.size (hnw k hk), HBW.out.trans (hbX.mono HBW.out.size)⟩
    clear hs hpl hnw hbX HQ HQD HD
    obtain ⟨M, hM⟩ : ∃ M, M = modOfB 40 tr := ⟨_, rfl⟩
    obtain ⟨hm1, hm2⟩ := modOfB_ok (m := 40) (by decide) (by decide) tr
    obtain ⟨K, hK⟩ : ∃ K, K = modOfB 70 sp := ⟨_, rfl⟩
    obtain ⟨hk1, hk2⟩ := modOfB_ok (m := 70) (by decide) (by decide) sp
    rw [← hM] at hm1 hm2
    rw [← hK] at hk1 hk2
    go_upto_region 5 with fail
    rw [show wrap64 ((IntKind.u64.wrap tr).tmod 40) = (M : Int) from hm1.symm, show wrap64 ((IntKind.u64.wrap sp).tmod 70) = (K : Int) from hk1.symm]
    clear hm1 hM hk1 hK
    go_wp2_with fail
    go_loopw [8, 9, 10, 11, 12, 30] (fun _ _ _ _ _ i wr => ∃ (k : Nat), k ≤ M ∧ i = .int .i64 k ∧ Hid (OneS w wr gs bm)) (fun _ _ _ _ _ i _ => M - (intOf i).toNat)
    case atStart => exact ⟨0, by omega, rfl, HX⟩
    case round =>
      obtain ⟨k, hk, rfl, HR⟩ := hrel
      by_cases hlt : (k : Int) < (M : Int)
      · obtain ⟨T, hT⟩ : ∃ T : Int, 100 + (k : Int) = T := ⟨_, rfl⟩
        have HT := hide hT
        have hk0 : (0 : Int) ≤ (k : Int) := by omega
        have hk9 : (k : Int) ≤ 40 := by omega
        have hT1 : (1 : Int) ≤ T := by omega
        have hT2 : T ≤ 1000 := by omega
        clear hT
        go_wp2_with fail
        go_loopw [9, 10, 34] (fun v9 _ ix wi => ∃ (j : Nat) (p : Option Addr) (m c : Nat), v9 = .slice p m c ∧ j ≤ K ∧ ix = .int .i64 j ∧ Hid (OwnS wr.heap.size wi (.slice p m c) (wideS T j) ∧ Below wr.heap.size wr wi)) (fun _ _ ix _ => K - (intOf ix).toNat)
        case atStart => exact ⟨0, none, 0, 0, rfl, by omega, rfl, hide ⟨OwnS.nil _ _, Below.refl _ _⟩⟩
        case round =>
          obtain ⟨j, p, m, c, rfl, hj, rfl, HI⟩ := hrel
          by_cases hjt : (j : Int) < (K : Int)
          · have hj2 : (j : Int) ≤ 100 := by omega
            have hj0 : (0 : Int) ≤ (j : Int) := by omega
            have hml : (wideS T j).length ≤ 1000000 := by rw [wideS_len]; omega
            have HSZ := hide (And.intro HI.out.2.size hml)
            clear hml
            have hTk : 100 + (k : Int) = T := HT.out
            go_wp2_with (at_builtin; go_must (refine wpList_pushH (v := .slice p m c) rfl _ _ rfl rfl ⟨T, 1 + (j : Int), 0, 0, 0, ⟨#[97]⟩⟩ rfl rfl rfl HI.out.1 HSZ.out.1 HSZ.out.2 ?_); intro v5 w5 ho5 hb5 hg5; obtain ⟨p5, n5, c5, rfl⟩ := ho5.sps.sl; have H5 := hide (And.intro ho5 (HI.out.2.trans hb5)); clear ho5 hb5 hg5)
            go_roundw
            case rel =>
              refine ⟨j + 1, p5, n5, c5, rfl, by omega, by go_num, hide ⟨?_, H5.out.2⟩⟩
              rw [wideS_succ]
              exact H5.out.1
            case measure => simp [intOf]; omega
          · have hjK : j = K := by omega
            subst hjK
            obtain ⟨R', t1, t2, t3⟩ := HR.out
            have t1' := t1.below HI.out.2
            have hI := singest_any t1' HI.out.1.sps (by rw [wideS_len]; omega) wideS_size
            obtain ⟨f1, f2, f3⟩ := ing_wide t1.ok hT1 hT2 (m := j) (by omega)
            obtain ⟨S, hS⟩ : ∃ S, ingS (R'.map Tr.pl) (wideS T j) = S := ⟨_, rfl⟩
            obtain ⟨C, hC⟩ : ∃ C, ingC (R'.map Tr.pl) (wideS T j) = C := ⟨_, rfl⟩
            rw [hS, hC] at f3
            rw [hC] at f2
            unfold Cn.sum at f2
            have HT5 := hide (And.intro t1' (And.intro t2 (t3.trans (HI.out.2.mono t3.size))))
            have HSC := hide (And.intro hS (And.intro hC f1))
            have HI5 := hide hI
            have HF3 := hide f3
            have b0 : (C.add : Int) ≤ 100 := by omega
            have b1 : (C.same : Int) ≤ 100 := by omega
            have b2 : (C.other : Int) ≤ 100 := by omega
            have b3 : (C.cyc : Int) ≤ 100 := by omega
            have b4 : (C.full : Int) ≤ 100 := by omega
            have hsum : (C.add : Int) + (C.same : Int) + (C.other : Int) + (C.cyc : Int) + (C.full : Int) = (j : Int) := by omega
            have HB9 := hide (And.intro b0 (And.intro b1 (And.intro b2 (And.intro b3 (And.intro b4 hsum)))))
            clear hI hS hC f1 f2 f3 t1 t1' t2 t3 HI b0 b1 b2 b3 b4 hsum
            go_wp2_with fail
            refine HI5.out.mono ?_
            rintro e w6 hp6
            obtain ⟨he6, R6, ht6⟩ := hp6
            rw [HSC.out.2.1, HSC.out.2.2] at he6
            rw [HSC.out.1] at ht6
            subst he6
            unfold cnV
            have HR6 : Hid (SoIs w6 gs bm R6 ∧ R6.map Tr.pl = S ∧ (∀ k, SoS gs bm R6 k → w.heap.size ≤ k) ∧ Below w.heap.size w w6) := hide ⟨ht6.is, ht6.pl, fun k hk => by
              rcases ht6.new k hk with h | h
              · exact HT5.out.2.1 k h
              · have := HT5.out.2.2.size; omega, Chg.to_below HT5.out.2.2 ht6.chg fun k hk => HT5.out.2.1 k hk.sub⟩
            clear ht6 HI5 HT5
            obtain ⟨V, hV⟩ : ∃ V, w6.alloc (.cells #[.int .i64 (C.add : Nat), .int .i64 (C.same : Nat), .int .i64 (C.other : Nat), .int .i64 (C.cyc : Nat), .int .i64 (C.full : Nat)] 40) = V := ⟨_, rfl⟩
            obtain ⟨bv, hbv⟩ : ∃ b, w6.heap.size = b := ⟨_, rfl⟩
            have hbV : Below w6.heap.size w6 V := by rw [← hV]; exact (Below.refl _ _).alloc (Nat.le_refl _) _
            have hrv : V.heap[bv]? = some (.cells #[.int .i64 (C.add : Nat), .int .i64 (C.same : Nat), .int .i64 (C.other : Nat), .int .i64 (C.cyc : Nat), .int .i64 (C.full : Nat)] 40 (0, 0)) := by rw [← hV, ← hbv]; exact heap_alloc_new _ _
            have HRV : Hid (SoIs V gs bm R6 ∧ R6.map Tr.pl = S ∧ (∀ k, SoS gs bm R6 k → w.heap.size ≤ k) ∧ Below w.heap.size w V) := hide ⟨HR6.out.1.below hbV, HR6.out.2.1, HR6.out.2.2.1, HR6.out.2.2.2.trans (hbV.mono HR6.out.2.2.2.size)⟩
            have HRW := hide hrv
            clear hrv HR6
            go_upto_region 15 with fail
            clear hV hbv hbV
            have hTk : 100 + (k : Int) = T := HT.out
            obtain ⟨LN, hLN⟩ : ∃ n, (lookS S T).length = n := ⟨_, rfl⟩
            obtain ⟨SN, hSN⟩ : ∃ n, S.length = n := ⟨_, rfl⟩
            have hS0 : SoOk S := by rw [← HRV.out.2.1]; exact HRV.out.1.ok
            have hL6 : LN ≤ 64 := by rw [← hLN, (look_len hS0 T).1]; exact (look_len hS0 T).2
            have hS3 : SN ≤ 32 := by rw [← hSN]; exact hS0.len
            have hwf : (Lit.int .i64 T).wf = true := WalkArith.wf_i64 (by omega)
            have HLK : Hid (∀ U, Below V.heap.size V U → Calls Tryz.prog 26 #[.pointer (some ⟨gs, 0, none⟩), .int .i64 T] U fun e w' => ∃ p c, e = .returned (.slice p LN c) ∧ Below U.heap.size U w') := hide (fun U hU => (slookup_any (HRV.out.1.below hU) hwf).mono fun e w' hh => by
              obtain ⟨v', he, ho, hb⟩ := hh
              obtain ⟨p, m, c, rfl⟩ := ho.brs.sl
              have hl := ho.brs.len.1
              rw [HRV.out.2.1, hLN] at hl
              subst hl
              exact ⟨p, c, he, hb⟩)
            have HTC : Hid (∀ U, Below V.heap.size V U → Calls Tryz.prog 27 #[.pointer (some ⟨gs, 0, none⟩)] U fun e w' => ∃ p c, e = .returned (.slice p SN c) ∧ Below U.heap.size U w') := hide (fun U hU => (straces_any (HRV.out.1.below hU)).mono fun e w' hh => by
              obtain ⟨v', he, ho, hb⟩ := hh
              have hl : R6.length = SN := by rw [← hSN, ← HRV.out.2.1, List.length_map]
              rw [hl] at ho
              obtain ⟨p, c, rfl, _⟩ := ints_row ho
              exact ⟨p, c, he, hb⟩)
            rw [hLN, hSN] at HF3
            have HCE : Hid (∀ U, Below V.heap.size V U → U.cell? ⟨bv, 0, none⟩ = some (.int .i64 (C.add : Nat)) ∧ U.cell? ⟨bv, 1, none⟩ = some (.int .i64 (C.same : Nat)) ∧ U.cell? ⟨bv, 2, none⟩ = some (.int .i64 (C.other : Nat)) ∧ U.cell? ⟨bv, 3, none⟩ = some (.int .i64 (C.cyc : Nat)) ∧ U.cell? ⟨bv, 4, none⟩ = some (.int .i64 (C.full : Nat))) := hide (fun U hU => by
              have h0 := (hU.block bv (Array.getElem?_eq_some_iff.1 HRW.out).1).trans HRW.out
              refine ⟨?_, ?_, ?_, ?_, ?_⟩
              · have h := cell_of_row U bv 0 _ 40 (0, 0) h0; simpa using h
              · have h := cell_of_row U bv 1 _ 40 (0, 0) h0; simpa using h
              · have h := cell_of_row U bv 2 _ 40 (0, 0) h0; simpa using h
              · have h := cell_of_row U bv 3 _ 40 (0, 0) h0; simpa using h
              · have h := cell_of_row U bv 4 _ 40 (0, 0) h0; simpa using h)
            obtain ⟨b0, b1, b2, b3, b4, hsum⟩ := HB9.out
            have hL6' : (LN : Int) ≤ 64 := by omega
            have hS3' : (SN : Int) ≤ 32 := by omega
            clear hLN hSN hS0 hwf
            obtain ⟨s0, s1, s2, s3, s4⟩ := HCE.out V (Below.refl _ _)
            have hsumB : ((C.add : Int) + (C.same : Int) + (C.other : Int) + (C.cyc : Int) + (C.full : Int) != (j : Int)) = false := by rw [hsum]; simp
            go_wp2_with fail
            refine (HLK.out _ (Below.refl _ _)).mono ?_
            rintro e w7 ⟨p7, c7, rfl, hb7⟩
            have HB7 : Hid (Below V.heap.size V w7) := hide hb7
            clear hb7 s0 s1 s2 s3 s4
            go_wp2_with fail
            refine (HTC.out _ HB7.out).mono ?_
            rintro e w8 ⟨p8, c8, rfl, hb8⟩
            have HB8 : Hid (Below V.heap.size V w8) := hide (HB7.out.trans (hb8.mono HB7.out.size))
            clear hb8
            obtain ⟨s0, s1, s2, s3, s4⟩ := HCE.out _ HB8.out
            clear s0 s1 s2 s3 b0 b1 b2 b3 hsum hsumB
            by_cases hf : C.full = 0
            · rw [hf] at s4
              go_wp2_with fail
              go_roundw
              case rel => exact ⟨k + 1, by omega, by go_num, hide ⟨R6, HRV.out.1.below HB8.out, HRV.out.2.2.1, HRV.out.2.2.2.trans (HB8.out.mono HRV.out.2.2.2.size)⟩⟩
              case measure => simp [intOf]; omega
            · have hf0 : (0 : Int) < (C.full : Int) := by omega
              go_wp2_with fail
              refine (HTC.out _ HB8.out).mono ?_
              rintro e w9 ⟨p9, c9, rfl, hb9⟩
              have HB9' : Hid (Below V.heap.size V w9) := hide (HB8.out.trans (hb9.mono HB8.out.size))
              clear hb9
              by_cases hs : (SN : Int) < 32
              · have hl : ¬ (LN : Int) < 64 := by have := HF3.out; omega
                go_wp2_with fail
                refine (HLK.out _ HB9'.out).mono ?_
                rintro e w10 ⟨p10, c10, rfl, hb10⟩
                have HB10 : Hid (Below V.heap.size V w10) := hide (HB9'.out.trans (hb10.mono HB9'.out.size))
                clear hb10
                go_wp2_with fail
                go_roundw
                case rel => exact ⟨k + 1, by omega, by go_num, hide ⟨R6, HRV.out.1.below HB10.out, HRV.out.2.2.1, HRV.out.2.2.2.trans (HB10.out.mono HRV.out.2.2.2.size)⟩⟩
                case measure => simp [intOf]; omega
              · go_wp2_with fail
                go_roundw
                case rel => exact ⟨k + 1, by omega, by go_num, hide ⟨R6, HRV.out.1.below HB9'.out, HRV.out.2.2.1, HRV.out.2.2.2.trans (HB9'.out.mono HRV.out.2.2.2.size)⟩⟩
                case measure => simp [intOf]; omega
      · obtain ⟨R', t1, t2, t3⟩ := HR.out
        have IM := hide (simage_any t1)
        have HOK := hide t1.ok
        have HT3 := hide t3
        clear t1 t2 t3 HR
        go_wp2_with fail
        refine IM.out.mono ?_
        intro e w4 hp
        obtain ⟨v4, rfl, ho4, hb4⟩ := hp
        obtain ⟨p4, n4, c4, rfl⟩ := ho4.by_.sl
        have LD := hide (sload_any ho4.by_ (by have := imgS_len HOK.out; omega))
        have HB4 := hide (HT3.out.trans (hb4.mono HT3.out.size))
        clear ho4 hb4 IM
        go_wp2_with fail
        refine LD.out.mono ?_
        intro e w5 hp
        rcases hp with ⟨hi, gs2, bm2, R2, rfl, k1, k2, k3, k4⟩ | ⟨hi, _⟩
        · have HB5 := hide (HB4.out.trans (k4.mono HB4.out.size))
          clear k1 k2 k3 k4 hi LD
          go_wp2_with fail
          refine (HA.out _).mono ?_
          rintro e8 w8 ⟨rfl, hb8⟩
          have HB9 := hide (HB5.out.trans (hb8.mono HB5.out.size))
          clear hb8
          go_wp2
          go_ret
          exact ⟨rfl, HB9.out⟩
        · exact absurd (ld_img_ok HOK.out) hi
end Go.Proofs.YtimjplkehlgelaaGreat
