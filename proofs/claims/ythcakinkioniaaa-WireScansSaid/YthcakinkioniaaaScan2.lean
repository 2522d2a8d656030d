/- A scan: the document's, and one that no call made. -/
import Derived.Test.YthcakinkioniaaaScan
namespace Go.Proofs.Ythcakinkioniaaa
open Go.RowKit

set_option maxRecDepth 200000 in
set_option maxHeartbeats 1000000 in
/-- The document's Text. -/
theorem refScanText_any {w : World} {g : Nat} {p : Option Addr} {n c at_ E0 : Nat} {l : List UInt8} (hS : Sr w g (.slice p n c) at_ E0) (hby : By w (.slice p n c) l) (hne : l = [] ∨ ∀ k, (Value.slice p n c).ownBlock = some k → some g ≠ some k) (hat : at_ ≤ n)
    (most : Int) (M : Nat) (hM : max most 0 = (M : Int)) {T : List UInt8} {A E : Nat} (hT : (if E0 ≠ 0 then ([], at_, E0) else textP l at_ M) = (T, A, E)) :
    Calls Try.prog 38 #[.pointer (some ⟨g, 0, none⟩), .int .i64 most] w (SrPost w g (.slice p n c) A E (.string (str T))) := by
  have h0 := hS.c0
  have h1 := hS.c1
  have h2 := hS.c2
  have hmm := hby.lenMax
  have hn := hby.len.1
  have HS := hide hS
  have HBY := hide hby
  have HNE := hide hne
  have HT := hide hT
  have HN := hide hn
  clear hS hby hT hn hne
  by_cases he : E0 ≠ 0
  · have g1 : ((E0 : Int) != 0) = true := by simp; omega
    have ht := HT.out
    rw [if_pos he] at ht
    simp only [Prod.mk.injEq] at ht
    obtain ⟨rfl, rfl, rfl⟩ := ht
    clear HT he
    go_enter Try.func38, Try.ntmps38
    go_wp2
    go_ret
    exact ⟨rfl, HS.out, World.grownBy.refl _ _⟩
  · obtain rfl : E0 = 0 := by omega
    have ht := HT.out
    rw [if_neg he] at ht
    obtain ⟨N, K, e0, hR⟩ : ∃ N K e0, readNum (l.drop at_) = (N, K, e0) := ⟨_, _, _, rfl⟩
    unfold textP at ht
    rw [hR] at ht
    dsimp only at ht
    have hk := readNum_any hR
    rw [List.length_drop, ← HN.out] at hk
    have hsum : (at_ : Int) + (K : Int) ≤ (n : Int) := by omega
    have hN9 : (N : Int) ≤ 9223372036854775807 := by omega
    have hat' : (at_ : Int) ≤ (n : Int) := by omega
    obtain ⟨q, hcut, hF⟩ := cut_from HBY.out hat
    obtain ⟨m1, hm1⟩ : ∃ m1, n - at_ = m1 := ⟨_, rfl⟩
    obtain ⟨d1, hd1⟩ : ∃ d1, c - at_ = d1 := ⟨_, rfl⟩
    rw [hm1, hd1] at hF
    simp only [hm1, hd1] at hcut
    have HR := hide hR
    have HF := hide hF
    have HT' := hide ht
    have f1 := HS.out.fr 1
    have f2 := HS.out.fr 2
    clear HT he hR hm1 hd1 hF hk ht
    by_cases he0 : e0 ≠ 0
    · have g1 : ((e0 : Int) != 0) = true := by simp; omega
      have ht := HT'.out
      unfold textB at ht
      rw [if_pos he0] at ht
      simp only [Prod.mk.injEq] at ht
      obtain ⟨rfl, rfl, rfl⟩ := ht
      clear HT' he0
      go_enter Try.func38, Try.ntmps38
      go_wp2_with fail
      go_quiet ((go_at_call 71; refine quiet_same (refRead_any (HF.out.drewN _) HR.out)))
      have HS1 : Hid (Sr (w.drewN nq) g (.slice p n c) at_ 0) := HS
      go_wp2
      go_ret
      exact ⟨rfl, HS1.out.set2 rfl, gtrans (grown_drewN (World.grownBy.refl _ _) _) (grown_set _ _ _ _)⟩
    · obtain rfl : e0 = 0 := by omega
      by_cases hbig : M < N
      · have ht := HT'.out
        unfold textB at ht
        rw [if_neg he0, if_pos hbig] at ht
        simp only [Prod.mk.injEq] at ht
        obtain ⟨rfl, rfl, rfl⟩ := ht
        have g4 : most < (N : Int) := by omega
        have g5 : (0 : Int) < (N : Int) := by omega
        clear HT' he0
        go_enter Try.func38, Try.ntmps38
        go_wp2_with fail
        go_quiet ((go_at_call 71; refine quiet_same (refRead_any (HF.out.drewN _) HR.out)))
        have HS1 : Hid (Sr (w.drewN nq) g (.slice p n c) at_ 0) := HS
        go_wp2
        go_ret
        exact ⟨rfl, HS1.out.set2 rfl, gtrans (grown_drewN (World.grownBy.refl _ _) _) (grown_set _ _ _ _)⟩
      · have g4 : ¬ most < (N : Int) ∨ most < (N : Int) ∧ decide ((0 : Int) < (N : Int)) = false := by
          by_cases h : most < (N : Int)
          · exact .inr ⟨h, decide_eq_false (by omega)⟩
          · exact .inl h
        clear he0
        by_cases hlen : (n : Int) - (at_ : Int) - (K : Int) < (N : Int)
        · have ht := HT'.out
          unfold textB at ht
          rw [if_neg (by simp), if_neg hbig, if_pos (by have := HN.out; omega)] at ht
          simp only [Prod.mk.injEq] at ht
          obtain ⟨rfl, rfl, rfl⟩ := ht
          clear HT'
          replace g4 : ¬ most < (N : Int) := by
            rcases g4 with g4 | ⟨g4, g5⟩
            · exact g4
            · have := of_decide_eq_false g5
              omega
          all_goals
            go_enter Try.func38, Try.ntmps38
            go_wp2_with fail
            go_quiet ((go_at_call 71; refine quiet_same (refRead_any (HF.out.drewN _) HR.out)))
            revert nq
            intro q1
            go_wp2_with fail
            go_quiet (fail)
            revert nq
            intro q2
            have HS1 : Hid (Sr (w.drewN (q1 + q2)) g (.slice p n c) at_ 0) := HS
            go_wp2
            go_ret
            exact ⟨rfl, HS1.out.set2 rfl, gtrans (grown_drewN (World.grownBy.refl _ _) _) (grown_set _ _ _ _)⟩
        · have ht := HT'.out
          unfold textB at ht
          rw [if_neg (by simp), if_neg hbig, if_neg (by have := HN.out; omega)] at ht
          simp only [Prod.mk.injEq] at ht
          obtain ⟨rfl, rfl, rfl⟩ := ht
          clear HT'
          obtain ⟨a2, ha2⟩ : ∃ a2, at_ + K = a2 := ⟨_, rfl⟩
          obtain ⟨a1, ha1⟩ : ∃ a1, at_ + K + N = a1 := ⟨_, rfl⟩
          have e1 : (at_ : Int) + ((K : Int) + (N : Int)) = (a1 : Int) := by omega
          have e2 : (a1 : Int) - (N : Int) = (a2 : Int) := by omega
          have han : (a1 : Int) ≤ (n : Int) := by omega
          have e3 : IntKind.i64.wrap (a2 : Int) = (a2 : Int) := by rw [IntKind.wrap_i64]; omega
          have hb1 : (K : Int) + (N : Int) ≤ 9223372036854775807 := by omega
          have hb2 : (at_ : Int) + ((K : Int) + (N : Int)) ≤ 9223372036854775807 := by omega
          rcases g4 with g4 | ⟨g4, g5⟩
          all_goals
            go_enter Try.func38, Try.ntmps38
            go_wp2_with fail
            go_quiet ((go_at_call 71; refine quiet_same (refRead_any (HF.out.drewN _) HR.out)))
            revert nq
            intro q1
            go_wp2_with fail
            go_quiet (fail)
            revert nq
            intro q2
            have HS1 : Hid (Sr (w.drewN (q1 + q2)) g (.slice p n c) at_ 0) := HS
            go_wp2_with fail
            have B3 := (HBY.out.drewN (q1 + q2)).grown (grown_set (w.drewN (q1 + q2)) g 1 (.int .i64 (a1 : Int))) HNE.out
            obtain ⟨q3, hcutM, hM3⟩ := cut_mid (j := a2) (k := a1) B3 (by omega) (by omega)
            obtain ⟨m3, hm3⟩ : ∃ m3, a1 - a2 = m3 := ⟨_, rfl⟩
            obtain ⟨d3, hd3⟩ : ∃ d3, c - a2 = d3 := ⟨_, rfl⟩
            rw [hm3, hd3] at hM3
            simp only [hm3, hd3] at hcutM
            rw [show (l.take a1).drop a2 = (l.drop a2).take N by rw [List.drop_take, show a1 - a2 = N by omega]] at hM3
            have hc0 := conv_at hM3
            have hc1 := fun q => conv_by hM3 q
            have HS2 := hide (HS1.out.set1 (x := (a1 : Int)) rfl)
            clear B3 hm3 hd3 hM3 HS1
            go_quiet (fail)
            go_wp2
            go_ret
            refine ⟨by rw [ha2]; rfl, by rw [ha1]; exact HS2.out, grown_drewN (gtrans (grown_drewN (World.grownBy.refl _ _) _) (grown_set _ _ _ _)) _⟩

set_option maxRecDepth 200000 in
set_option maxHeartbeats 1000000 in
/-- The document's Flag. -/
theorem refScanFlag_any {w : World} {g : Nat} {p : Option Addr} {n c at_ E0 : Nat} {l : List UInt8} (hS : Sr w g (.slice p n c) at_ E0) (hby : By w (.slice p n c) l) (hat : at_ ≤ n)
    {y : Bool} {A E : Nat} (hT : (if E0 ≠ 0 then (false, at_, E0) else flagP l at_) = (y, A, E)) :
    Calls Try.prog 40 #[.pointer (some ⟨g, 0, none⟩)] w (SrPost w g (.slice p n c) A E (.bool y)) := by
  have h0 := hS.c0
  have h1 := hS.c1
  have h2 := hS.c2
  have hmm := hby.lenMax
  have hn := hby.len.1
  have HS := hide hS
  have HBY := hide hby
  have HT := hide hT
  have HN := hide hn
  clear hS hby hT hn
  by_cases he : E0 ≠ 0
  · have g1 : ((E0 : Int) != 0) = true := by simp; omega
    have ht := HT.out
    rw [if_pos he] at ht
    simp only [Prod.mk.injEq] at ht
    obtain ⟨rfl, rfl, rfl⟩ := ht
    clear HT he
    go_enter Try.func40, Try.ntmps40
    go_wp2
    go_ret
    exact ⟨rfl, HS.out, World.grownBy.refl _ _⟩
  · obtain rfl : E0 = 0 := by omega
    have ht := HT.out
    rw [if_neg he] at ht
    obtain ⟨N, K, e0, hR⟩ : ∃ N K e0, readNum (l.drop at_) = (N, K, e0) := ⟨_, _, _, rfl⟩
    unfold flagP at ht
    rw [hR] at ht
    dsimp only at ht
    have hk := readNum_any hR
    have hbad := readNum_bad hR
    rw [List.length_drop, ← HN.out] at hk
    have hsum : (at_ : Int) + (K : Int) ≤ 9223372036854775807 := by omega
    have hat' : (at_ : Int) ≤ (n : Int) := by omega
    obtain ⟨q, hcut, hF⟩ := cut_from HBY.out hat
    obtain ⟨m1, hm1⟩ : ∃ m1, n - at_ = m1 := ⟨_, rfl⟩
    obtain ⟨d1, hd1⟩ : ∃ d1, c - at_ = d1 := ⟨_, rfl⟩
    rw [hm1, hd1] at hF
    simp only [hm1, hd1] at hcut
    have HR := hide hR
    have HF := hide hF
    have HT' := hide ht
    have HBAD := hide hbad
    have f1 := HS.out.fr 1
    have f2 := HS.out.fr 2
    clear HT he hR hm1 hd1 hF hk ht hbad
    by_cases he0 : e0 ≠ 0
    · obtain ⟨rfl, rfl⟩ := HBAD.out he0
      have g1 : ((e0 : Int) == 0) = false := by simp; omega
      have g2 : ((e0 : Int) != 0) = true := by simp; omega
      have ht := HT'.out
      unfold flagB at ht
      rw [if_neg (by omega)] at ht
      simp only [Prod.mk.injEq] at ht
      obtain ⟨rfl, rfl, rfl⟩ := ht
      clear HT' he0 HBAD
      go_enter Try.func40, Try.ntmps40
      go_wp2_with fail
      go_quiet ((go_at_call 71; refine quiet_same (refRead_any (HF.out.drewN _) HR.out)))
      have HS1 : Hid (Sr (w.drewN nq) g (.slice p n c) at_ 0) := HS
      go_wp2
      go_ret
      exact ⟨rfl, HS1.out.set2 rfl, gtrans (grown_drewN (World.grownBy.refl _ _) _) (grown_set _ _ _ _)⟩
    · obtain rfl : e0 = 0 := by omega
      have ht := HT'.out
      unfold flagB at ht
      by_cases h1N : (1 : Int) < (N : Int)
      · rw [if_pos (by omega)] at ht
        simp only [Prod.mk.injEq] at ht
        obtain ⟨rfl, rfl, rfl⟩ := ht
        clear HT' he0 HBAD
        go_enter Try.func40, Try.ntmps40
        go_wp2_with fail
        go_quiet ((go_at_call 71; refine quiet_same (refRead_any (HF.out.drewN _) HR.out)))
        have HS1 : Hid (Sr (w.drewN nq) g (.slice p n c) at_ 0) := HS
        go_wp2
        go_ret
        exact ⟨rfl, HS1.out.set2 rfl, gtrans (grown_drewN (World.grownBy.refl _ _) _) (grown_set _ _ _ _)⟩
      · rw [if_neg (by omega)] at ht
        simp only [Prod.mk.injEq] at ht
        obtain ⟨rfl, rfl, rfl⟩ := ht
        clear HT' he0 HBAD
        go_enter Try.func40, Try.ntmps40
        go_wp2_with fail
        go_quiet ((go_at_call 71; refine quiet_same (refRead_any (HF.out.drewN _) HR.out)))
        have HS1 : Hid (Sr (w.drewN nq) g (.slice p n c) at_ 0) := HS
        go_wp2
        go_ret
        exact ⟨by rw [int_beq1]; rfl, HS1.out.set1 (by omega), gtrans (grown_drewN (World.grownBy.refl _ _) _) (grown_set _ _ _ _)⟩

set_option maxRecDepth 200000 in
set_option maxHeartbeats 400000 in
/-- The document's End. -/
theorem refScanEnd_any {w : World} {g : Nat} {p : Option Addr} {n c at_ E0 : Nat} (hS : Sr w g (.slice p n c) at_ E0) {E : Nat} (hE : endE at_ n E0 = E) :
    Calls Try.prog 42 #[.pointer (some ⟨g, 0, none⟩)] w (SrPost w g (.slice p n c) at_ E (.int .i64 E)) := by
  have h0 := hS.c0
  have h1 := hS.c1
  have h2 := hS.c2
  have f2 := hS.fr 2
  have HS := hide hS
  have HE := hide hE
  clear hS hE
  by_cases he : E0 ≠ 0
  · have g1 : ((E0 : Int) == 0) = false := by simp; omega
    have hE := HE.out
    unfold endE at hE
    rw [if_pos he] at hE
    subst hE
    clear HE he
    go_enter Try.func42, Try.ntmps42
    go_wp2_with fail
    go_quiet (fail)
    go_wp2
    go_ret
    exact ⟨rfl, HS.out, grown_drewN (World.grownBy.refl _ _) _⟩
  · obtain rfl : E0 = 0 := by omega
    have hE := HE.out
    unfold endE at hE
    rw [if_neg he] at hE
    by_cases hm : (at_ : Int) < (n : Int)
    · rw [if_pos (by omega)] at hE
      subst hE
      clear HE he
      replace h2 : w.cell? ⟨g, 2, none⟩ = some (.int .i64 0) := h2
      have g1 : decide ((at_ : Int) < (n : Int)) = true := decide_eq_true hm
      go_enter Try.func42, Try.ntmps42
      go_wp2_with fail
      go_quiet (fail)
      have HS1 : Hid (Sr (w.drewN nq) g (.slice p n c) at_ 0) := HS
      go_wp2
      go_ret
      exact ⟨rfl, HS1.out.set2 rfl, gtrans (grown_drewN (World.grownBy.refl _ _) _) (grown_set _ _ _ _)⟩
    · rw [if_neg (by omega)] at hE
      subst hE
      clear HE he
      replace h2 : w.cell? ⟨g, 2, none⟩ = some (.int .i64 0) := h2
      have g1 : decide ((at_ : Int) < (n : Int)) = false := decide_eq_false hm
      go_enter Try.func42, Try.ntmps42
      go_wp2_with fail
      go_quiet (fail)
      go_wp2
      go_ret
      exact ⟨rfl, HS.out, grown_drewN (World.grownBy.refl _ _) _⟩

/-- No scan, or one that no call made. -/
def Nob (w : World) (v : Value) : Prop := v = .pointer none ∨ ∃ g, v = .pointer (some ⟨g, 0, none⟩) ∧ w.heap[g]? = some (.cells #[.slice none 0 0, .int .i64 0, .int .i64 0, .bool false] 66 (0, 0))

set_option maxRecDepth 200000 in
set_option maxHeartbeats 400000 in
theorem nob_err {w : World} {v : Value} (h : Nob w v) : Calls Try.prog 43 #[v] w fun e w' => e = .returned (.int .i64 6) ∧ w = w' := by
  rcases h with rfl | ⟨g, rfl, hg⟩
  · exact nobody_err w
  · have h3 : w.cell? ⟨g, 3, none⟩ = some (.bool false) := by rw [cell_of_row w g 3 _ 66 (0, 0) hg]; rfl
    clear hg
    go_enter Try.func43, Try.ntmps43
    go_wp2
    go_ret
    exact ⟨rfl, rfl⟩

set_option maxRecDepth 200000 in
set_option maxHeartbeats 400000 in
theorem nob_left {w : World} {v : Value} (h : Nob w v) : Calls Try.prog 44 #[v] w fun e w' => e = .returned (.int .i64 0) ∧ ∃ q, w' = w.drewN q := by
  rcases h with rfl | ⟨g, rfl, hg⟩
  · go_enter Try.func44, Try.ntmps44
    go_wp2
    go_ret
    exact ⟨rfl, 0, rfl⟩
  · have h0 : w.cell? ⟨g, 0, none⟩ = some (.slice none 0 0) := by rw [cell_of_row w g 0 _ 66 (0, 0) hg]; rfl
    have h1 : w.cell? ⟨g, 1, none⟩ = some (.int .i64 ((0 : Nat) : Int)) := by rw [cell_of_row w g 1 _ 66 (0, 0) hg]; rfl
    exact sleft_any h0 h1 (Nat.le_refl _) (by decide)

set_option maxRecDepth 200000 in
set_option maxHeartbeats 400000 in
theorem nob_number {w : World} {v : Value} (h : Nob w v) : Calls Try.prog 35 #[v] w fun e w' => e = .returned (.int .i64 0) ∧ w = w' := by
  have H := hide h
  clear h
  go_enter Try.func35, Try.ntmps35
  go_wp2_with fail
  refine (nob_err H.out).mono ?_
  rintro e w1 ⟨rfl, rfl⟩
  go_wp2
  go_ret
  exact ⟨rfl, rfl⟩

set_option maxRecDepth 200000 in
set_option maxHeartbeats 400000 in
theorem nob_text {w : World} {v : Value} (h : Nob w v) (most : Int) : Calls Try.prog 37 #[v, .int .i64 most] w fun e w' => e = .returned (.string ByteArray.empty) ∧ w = w' := by
  have H := hide h
  clear h
  go_enter Try.func37, Try.ntmps37
  go_wp2_with fail
  refine (nob_err H.out).mono ?_
  rintro e w1 ⟨rfl, rfl⟩
  go_wp2
  go_ret
  exact ⟨rfl, rfl⟩

set_option maxRecDepth 200000 in
set_option maxHeartbeats 400000 in
theorem nob_flag {w : World} {v : Value} (h : Nob w v) : Calls Try.prog 39 #[v] w fun e w' => e = .returned (.bool false) ∧ w = w' := by
  have H := hide h
  clear h
  go_enter Try.func39, Try.ntmps39
  go_wp2_with fail
  refine (nob_err H.out).mono ?_
  rintro e w1 ⟨rfl, rfl⟩
  go_wp2
  go_ret
  exact ⟨rfl, rfl⟩

set_option maxRecDepth 200000 in
set_option maxHeartbeats 400000 in
theorem nob_end {w : World} {v : Value} (h : Nob w v) : Calls Try.prog 41 #[v] w fun e w' => e = .returned (.int .i64 6) ∧ w = w' := by
  have H := hide h
  clear h
  go_enter Try.func41, Try.ntmps41
  go_wp2_with fail
  refine (nob_err H.out).mono ?_
  rintro e w1 ⟨rfl, rfl⟩
  go_wp2
  go_ret
  exact ⟨rfl, rfl⟩
end Go.Proofs.Ythcakinkioniaaa
