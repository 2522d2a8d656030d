/- The record with which bytes begin, by the document. -/
import Derived.Test.YtiiollgipfggmaaWPick
namespace Go.Proofs.Ytiiollgipfggmaa
set_option linter.unusedVariables false
set_option linter.unusedSimpArgs false
open Go.RowKit

/-- The document's test is the program's. -/
theorem rec_iff {r : List UInt8} {n k : Nat} (h : readNum r = (n, k, 0)) (hn : 1 + k + n + 4 ≤ r.length + 1) :
    recL ((r.drop k).take n) = ((93 : UInt8) :: r).take (n + k + 5) ↔ (((93 : UInt8) :: r).drop (1 + k + n)).take 4 = tailL (crc (((93 : UInt8) :: r).take (1 + k + n))) := by
  obtain ⟨g1, g2⟩ := rec_parts h (by omega)
  rw [show n + k + 5 = 1 + k + n + 4 by omega, List.take_add, g1]
  unfold recL
  rw [List.append_cancel_left_eq]
  exact eq_comm

set_option maxRecDepth 200000 in
set_option maxHeartbeats 2000000 in
/-- The document's Pick. -/
theorem refPick_any {w : World} {v : Value} {l : List UInt8} (hv : By w v l) {P : List UInt8} {K E : Nat} (hP : pickL l = (P, K, E)) :
    Calls Try.prog 53 #[v] w (PickPost w P K E) := by
  obtain ⟨p, n, c, rfl⟩ := hv.sl
  obtain ⟨hn, hnc⟩ := hv.len
  have hmm := hv.lenMax
  have HV := hide hv
  have HN := hide hn
  clear hv hn
  cases l with
  | nil =>
    have h0 : n = 0 := HN.out
    have g1 : ((n : Int) == 0) = true := by simp; omega
    simp only [pickL, Prod.mk.injEq] at hP
    obtain ⟨rfl, rfl, rfl⟩ := hP
    clear h0
    go_enter Try.func53, Try.ntmps53
    go_wp2
    go_ret3
    exact ⟨_, rfl, Own.nil _ _, Below.refl _ _⟩
  | cons x r =>
    have hn1 : n = r.length + 1 := HN.out
    have g1 : ((n : Int) == 0) = false := by simp; omega
    have hp : (0 : Int) < (n : Int) := by omega
    obtain ⟨b, o, x', rfl, hx, hcell⟩ := HV.out.cellAt (k := 0) (by omega)
    simp at hx
    subst hx
    rw [Nat.add_zero] at hcell
    rw [pickL_cons] at hP
    by_cases h93 : x.toNat ≠ 93
    · have g2 : ((x.toNat : Int) != 93) = true := by simp; omega
      rw [if_pos h93] at hP
      simp only [Prod.mk.injEq] at hP
      obtain ⟨rfl, rfl, rfl⟩ := hP
      clear h93 hn1
      go_enter Try.func53, Try.ntmps53
      go_wp2
      go_ret3
      exact ⟨_, rfl, Own.nil _ _, Below.refl _ _⟩
    · have g2 : ((x.toNat : Int) != 93) = false := by simp; omega
      rw [if_neg h93] at hP
      obtain rfl : x = 93 := u8_93 (by omega)
      obtain ⟨N, KK, e0, hr⟩ : ∃ N KK e0, readNum r = (N, KK, e0) := ⟨_, _, _, rfl⟩
      rw [hr] at hP
      dsimp only at hP
      obtain ⟨q1, hcut1, hF1⟩ := cut_from HV.out (k := 1) (by omega)
      rw [show ((1 : Nat) : Int) = 1 from rfl] at hcut1
      rw [List.drop_succ_cons, List.drop_zero] at hF1
      obtain ⟨m1, hm1⟩ : ∃ m1, n - 1 = m1 := ⟨_, rfl⟩
      obtain ⟨d1, hd1⟩ : ∃ d1, c - 1 = d1 := ⟨_, rfl⟩
      rw [hm1, hd1] at hF1
      simp only [hm1, hd1] at hcut1
      have HR := hide hr
      have HP := hide hP
      have HN1 := hide hn1
      clear hr hP hn1 h93 hm1 hd1
      go_enter Try.func53, Try.ntmps53
      go_wp2_with fail
      refine (refRead_any hF1 HR.out).mono ?_
      rintro e w1 ⟨rfl, rfl⟩
      by_cases he0 : e0 ≠ 0
      · have g3 : ((e0 : Int) != 0) = true := by simp; omega
        have hp := HP.out
        unfold pickB at hp
        rw [if_pos he0] at hp
        simp only [Prod.mk.injEq] at hp
        obtain ⟨rfl, rfl, rfl⟩ := hp
        clear he0 HP HR HN1
        go_wp2
        go_ret3
        exact ⟨_, rfl, Own.nil _ _, Below.refl _ _⟩
      · have he1 : e0 = 0 := by omega
        subst he1
        have hform := readNum_form HR.out
        have hKK := hform.1
        have hKK9 := hform.2.1
        by_cases hbig : 65536 < N
        · have g4 : (65536 : Int) < (N : Int) := by omega
          have hp := HP.out
          unfold pickB at hp
          rw [if_neg (by simp), if_pos hbig] at hp
          simp only [Prod.mk.injEq] at hp
          obtain ⟨rfl, rfl, rfl⟩ := hp
          clear he0 HP HR HN1 hbig hform
          go_wp2
          go_ret3
          exact ⟨_, rfl, Own.nil _ _, Below.refl _ _⟩
        · have g4 : ¬ (65536 : Int) < (N : Int) := by omega
          have hKn : 1 + KK ≤ n := by have := HN1.out; omega
          have hKK' : (KK : Int) ≤ 9 := by omega
          have HBIG := hide hbig
          clear he0 hform hKK hKK9 hbig
          by_cases hlen : (n : Int) - 1 - (KK : Int) - 4 < (N : Int)
          · have hp := HP.out
            unfold pickB at hp
            rw [if_neg (by simp), if_neg HBIG.out, if_pos (by have := HN1.out; rw [List.length_cons]; omega)] at hp
            simp only [Prod.mk.injEq] at hp
            obtain ⟨rfl, rfl, rfl⟩ := hp
            clear HP HR HN1
            go_wp2
            go_ret3
            exact ⟨_, rfl, Own.nil _ _, Below.refl _ _⟩
          · obtain ⟨q3, hcutM, hM⟩ := cut_mid (j := 1 + KK) (k := 1 + KK + N) HV.out (by omega) (by omega)
            have e3 : ((1 + KK : Nat) : Int) = 1 + (KK : Int) := by omega
            have e4 : ((1 + KK + N : Nat) : Int) = 1 + (KK : Int) + (N : Int) := by omega
            rw [e3, e4] at hcutM
            have e5 : (((93 : UInt8) :: r).take (1 + KK + N)).drop (1 + KK) = (r.drop KK).take N := by
              rw [List.drop_take, show 1 + KK + N - (1 + KK) = N by omega, show 1 + KK = KK + 1 by omega, List.drop_succ_cons]
            rw [e5] at hM
            obtain ⟨m3, hm3⟩ : ∃ m3, 1 + KK + N - (1 + KK) = m3 := ⟨_, rfl⟩
            obtain ⟨d3, hd3⟩ : ∃ d3, c - (1 + KK) = d3 := ⟨_, rfl⟩
            rw [hm3, hd3] at hM
            simp only [hm3, hd3] at hcutM
            have hpl : ((r.drop KK).take N).length = N := (rec_parts HR.out (by have := HN1.out; omega)).2
            have hT := cut_to HV.out (k := N + KK + 5) (by omega)
            obtain ⟨TB, hTB⟩ : ∃ TB, ((93 : UInt8) :: r).take (N + KK + 5) = TB := ⟨_, rfl⟩
            obtain ⟨RA, hRA⟩ : ∃ RA, recL ((r.drop KK).take N) = RA := ⟨_, rfl⟩
            rw [hTB] at hT
            have HTB := hide hTB
            have HRA := hide hRA
            clear hTB hRA
            have hcutT := fun W => run_cut_to W (some ⟨b, o, none⟩) n c (N + KK + 5) (by omega)
            have e6 : ((N + KK + 5 : Nat) : Int) = (N : Int) + (KK : Int) + 5 := by omega
            simp only [e6] at hcutT
            have HPL := hide hpl
            clear hm3 hd3 e3 e4 e5 e6 hpl hcell hcut1 hp
            go_wp2_with (at_builtin; go_must (refine wpList_append_row_by rfl _ _ rfl rfl rfl rfl (row_made0 w) (hM.alloc _) (by rw [HPL.out]; simp; omega) (by simp) ?_); intro v1 w1 hown1 hb1)
            have hb01 : Below w.heap.size w w1 := ((Below.refl _ _).alloc (Nat.le_refl _) _).trans hb1
            have hbs1 := hb01.size
            have HO1 := hide (Own.of_row hown1)
            rw [List.nil_append] at HO1
            obtain ⟨p1, n1, c1, rfl⟩ := HO1.out.by_.sl
            have HB01 := hide hb01
            have HTT := hide hT
            clear hown1 hb1 hb01 hM hT hcutM
            refine (refRecord_any HO1.out.by_ (by rw [HPL.out]; omega)).mono ?_
            rintro e w2 ⟨v2, rfl, ho2, hb2⟩
            rw [HRA.out] at ho2
            obtain ⟨p2, n2, c2, rfl⟩ := ho2.by_.sl
            have hb02 := HB01.out.trans (hb2.mono hbs1)
            have hcv1 := fun q => conv_by ho2.by_ q
            have hcv2 := fun q => conv_by (HTT.out.below hb02) q
            have hO1 := HO1.out.below hb2
            have HO12 := hide hO1
            have HB02 := hide hb02
            clear ho2 hb2 hb02 hO1 HO1
            have hi1 : (N : Int) + (KK : Int) + 5 ≤ (n : Int) := by omega
            have hiff := rec_iff HR.out (by have := HN1.out; omega)
            rw [HTB.out, HRA.out] at hiff
            have hp := HP.out
            unfold pickB at hp
            rw [if_neg (by simp), if_neg HBIG.out, if_neg (by have := HN1.out; rw [List.length_cons]; omega)] at hp
            clear HP
            by_cases hEq : RA = TB
            · rw [if_pos (hiff.1 hEq)] at hp
              simp only [Prod.mk.injEq] at hp
              obtain ⟨rfl, rfl, rfl⟩ := hp
              have hbe : ((str RA).toList == (str TB).toList) = true := by rw [str_beq, decide_eq_true_eq]; exact hEq
              clear hiff hEq
              go_wp2_with fail
              go_quiet (fail)
              go_wp2
              go_ret3
              exact ⟨_, ret_slice (by omega) rfl, HO12.out.mono (Nat.le_refl _), below_drewN HB02.out _⟩
            · rw [if_neg (fun h => hEq (hiff.2 h))] at hp
              simp only [Prod.mk.injEq] at hp
              obtain ⟨rfl, rfl, rfl⟩ := hp
              have hbe : ((str RA).toList == (str TB).toList) = false := by rw [str_beq, decide_eq_false_iff_not]; exact hEq
              clear hiff hEq
              go_wp2_with fail
              go_quiet (fail)
              go_wp2
              go_ret3
              exact ⟨_, rfl, Own.nil _ _, below_drewN HB02.out _⟩
end Go.Proofs.Ytiiollgipfggmaa
