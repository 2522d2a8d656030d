/- Flags: put and read. -/
import Derived.Test.YtiiollgipfggmaaScan
namespace Go.Proofs.Ytiiollgipfggmaa
set_option linter.unusedVariables false
set_option linter.unusedSimpArgs false
open Go.RowKit

set_option maxRecDepth 20000 in
set_option maxHeartbeats 400000 in
/-- The document's Flag. -/
theorem refFlag_any {w : World} {v : Value} {l : List UInt8} (hv : By w v l) (hl : l.length ≤ 1000000) (y : Bool) :
    Calls Try.prog 47 #[v, .bool y] w fun e w' => ∃ v', e = .returned v' ∧ Own w.heap.size w' v' (l ++ digits y.toNat) ∧ Below w.heap.size w w' := by
  cases y
  all_goals
    go_enter Try.func47, Try.ntmps47
    go_wp2_with fail
  · refine (refNumber_any hv (by omega) _ 0 (by omega) (by decide)).mono ?_
    rintro e w1 ⟨v1, rfl, hown, hb⟩
    have HO := hide (Own.of_row hown)
    clear hown hv
    go_wp2
    go_ret
    exact ⟨v1, rfl, HO.out, hb⟩
  · refine (refNumber_any hv (by omega) _ 1 (by omega) (by decide)).mono ?_
    rintro e w1 ⟨v1, rfl, hown, hb⟩
    have HO := hide (Own.of_row hown)
    clear hown hv
    go_wp2
    go_ret
    exact ⟨v1, rfl, HO.out, hb⟩

set_option maxRecDepth 20000 in
set_option maxHeartbeats 400000 in
/-- wire.Flag. -/
theorem wireFlag_any {w : World} {v : Value} {l : List UInt8} (hv : By w v l) (hl : l.length ≤ 1000000) (y : Bool) :
    Calls Try.prog 71 #[v, .bool y] w fun e w' => ∃ v', e = .returned v' ∧ Own w.heap.size w' v' (l ++ digits y.toNat) ∧ Below w.heap.size w w' := by
  cases y
  all_goals
    go_enter Try.func71, Try.ntmps71
    go_wp2_with fail
  · refine (wireNumber_any hv (by omega) _ 0 (by omega) (by decide)).mono ?_
    rintro e w1 ⟨v1, rfl, hown, hb⟩
    have HO := hide hown
    clear hown hv
    go_wp2
    go_ret
    exact ⟨v1, rfl, HO.out, hb⟩
  · refine (wireNumber_any hv (by omega) _ 1 (by omega) (by decide)).mono ?_
    rintro e w1 ⟨v1, rfl, hown, hb⟩
    have HO := hide hown
    clear hown hv
    go_wp2
    go_ret
    exact ⟨v1, rfl, HO.out, hb⟩

/-- A yes or no at a place. -/
def flagB (at_ N K E : Nat) : Bool × Nat × Nat := if 1 < N then (false, at_, 10) else (N == 1, at_ + K, E)
def flagP (l : List UInt8) (at_ : Nat) : Bool × Nat × Nat := flagB at_ (readNum (l.drop at_)).1 (readNum (l.drop at_)).2.1 (readNum (l.drop at_)).2.2

theorem int_beq1 (N : Nat) : ((N : Int) == 1) = (N == 1) := by
  rw [Bool.eq_iff_iff, beq_iff_eq, beq_iff_eq]
  omega
set_option maxRecDepth 200000 in
set_option maxHeartbeats 1000000 in
/-- strip.flag, of a scan. -/
theorem sflag_any {w : World} {g : Nat} {p : Option Addr} {n c at_ : Nat} {l : List UInt8} (hS : Sc w g (.slice p n c) at_ 0) (hby : By w (.slice p n c) l) (hat : at_ ≤ n)
    {y : Bool} {A E : Nat} (hT : flagP l at_ = (y, A, E)) :
    Calls Try.prog 96 #[.pointer (some ⟨g, 0, none⟩)] w (ScPost w g (.slice p n c) A 0 (.tuple #[.bool y, .int .i64 E])) := by
  obtain ⟨N, K, e0, hR⟩ : ∃ N K e0, readNum (l.drop at_) = (N, K, e0) := ⟨_, _, _, rfl⟩
  unfold flagP at hT
  rw [hR] at hT
  dsimp only at hT
  have hmm := hby.lenMax
  have hn := hby.len.1
  obtain ⟨hK, hN, hK9⟩ := readNum_any hR
  rw [List.length_drop, ← hn] at hK
  have hKn : at_ + K ≤ n := by omega
  have hc1 := hS.c1
  have HT := hide hT
  have HS := hide hS
  have HBY := hide hby
  have HN := hide hn
  have HR := hide hR
  clear hT hS hby hn hR hK
  go_enter Try.func96, Try.ntmps96
  go_wp2_with fail
  refine (number_any HS.out rfl rfl HBY.out hat HR.out).mono ?_
  rintro e w1 ⟨rfl, hh, hg⟩
  have S1 : Sc w1 g (.slice p n c) (at_ + K) 0 := hh
  have d1 := S1.c1
  have f1 := S1.fr 1
  have G1 := hide hg
  have HS1 := hide S1
  clear hh hg S1 hc1
  by_cases h1 : (1 : Int) < (N : Int)
  · have ht := HT.out
    unfold flagB at ht
    rw [if_pos (by omega)] at ht
    simp only [Prod.mk.injEq] at ht
    obtain ⟨rfl, rfl, rfl⟩ := ht
    clear HT
    go_wp2
    go_ret2
    exact ⟨rfl, HS1.out.set1 rfl, gtrans G1.out (grown_set _ _ _ _)⟩
  · have ht := HT.out
    unfold flagB at ht
    rw [if_neg (by omega)] at ht
    simp only [Prod.mk.injEq] at ht
    obtain ⟨rfl, rfl, rfl⟩ := ht
    clear HT
    go_wp2
    go_ret2
    exact ⟨by rw [int_beq1]; rfl, HS1.out, G1.out⟩

set_option maxRecDepth 200000 in
set_option maxHeartbeats 400000 in
/-- Scan.Flag. -/
theorem scanFlag_any {w : World} {g : Nat} {p : Option Addr} {n c at_ E0 : Nat} {l : List UInt8} (hS : Sc w g (.slice p n c) at_ E0) (hby : By w (.slice p n c) l)  (hat : at_ ≤ n)
    {y : Bool} {A E : Nat} (hT : (if E0 ≠ 0 then (false, at_, E0) else flagP l at_) = (y, A, E)) :
    Calls Try.prog 84 #[.pointer (some ⟨g, 0, none⟩)] w (ScPost w g (.slice p n c) A E (.bool y)) := by
  have h2 := hS.c2
  have h3 := hS.c3
  have HS := hide hS
  have HBY := hide hby
  have HT := hide hT
  clear hS hby hT
  by_cases h0 : E0 ≠ 0
  · have g1 : ((E0 : Int) != 0) = true := by simp; omega
    have ht := HT.out
    rw [if_pos h0] at ht
    simp only [Prod.mk.injEq] at ht
    obtain ⟨rfl, rfl, rfl⟩ := ht
    clear HT h0
    go_enter Try.func84, Try.ntmps84
    go_wp2_with fail
    refine (err_any h2 h3).mono ?_
    rintro e w1 ⟨rfl, rfl⟩
    go_wp2
    go_ret
    exact ⟨rfl, HS.out, World.grownBy.refl _ _⟩
  · obtain rfl : E0 = 0 := by omega
    have ht := HT.out
    rw [if_neg h0] at ht
    have HT' := hide ht
    clear HT h0 ht
    go_enter Try.func84, Try.ntmps84
    go_wp2_with fail
    refine (err_any h2 h3).mono ?_
    rintro e w1 ⟨rfl, rfl⟩
    go_wp2_with fail
    refine (sflag_any HS.out HBY.out hat HT'.out).mono ?_
    rintro e w1 ⟨rfl, S1, hg⟩
    have d2 := S1.c2
    have f2 := S1.fr 2
    have G1 := hide hg
    have HS1 := hide S1
    clear hg S1 h2 h3
    go_wp2
    go_ret
    exact ⟨rfl, HS1.out.set2 rfl, gtrans G1.out (grown_set _ _ _ _)⟩

set_option maxRecDepth 200000 in
set_option maxHeartbeats 1000000 in
/-- The document's Flag. -/
theorem refScanFlag_any {w : World} {g : Nat} {p : Option Addr} {n c at_ E0 : Nat} {l : List UInt8} (hS : Sr w g (.slice p n c) at_ E0) (hby : By w (.slice p n c) l) (hat : at_ ≤ n)
    {y : Bool} {A E : Nat} (hT : (if E0 ≠ 0 then (false, at_, E0) else flagP l at_) = (y, A, E)) :
    Calls Try.prog 55 #[.pointer (some ⟨g, 0, none⟩)] w (SrPost w g (.slice p n c) A E (.bool y)) := by
  have h0 := hS.c0
  have h1 := hS.c1
  have h2 := hS.c2
  have hmm := hby.lenMax
  have hn := hby.len.1
  have HS := hide hS
  have HBY := hide hby
  have HT := hide hT
  have HN := hide hn
  clear hS hby hT hn
  by_cases he : E0 ≠ 0
  · have g1 : ((E0 : Int) != 0) = true := by simp; omega
    have ht := HT.out
    rw [if_pos he] at ht
    simp only [Prod.mk.injEq] at ht
    obtain ⟨rfl, rfl, rfl⟩ := ht
    clear HT he
    go_enter Try.func55, Try.ntmps55
    go_wp2
    go_ret
    exact ⟨rfl, HS.out, World.grownBy.refl _ _⟩
  · obtain rfl : E0 = 0 := by omega
    have ht := HT.out
    rw [if_neg he] at ht
    obtain ⟨N, K, e0, hR⟩ : ∃ N K e0, readNum (l.drop at_) = (N, K, e0) := ⟨_, _, _, rfl⟩
    unfold flagP at ht
    rw [hR] at ht
    dsimp only at ht
    have hk := readNum_any hR
    have hbad := readNum_bad hR
    rw [List.length_drop, ← HN.out] at hk
    have hsum : (at_ : Int) + (K : Int) ≤ 9223372036854775807 := by omega
    have hat' : (at_ : Int) ≤ (n : Int) := by omega
    obtain ⟨q, hcut, hF⟩ := cut_from HBY.out hat
    obtain ⟨m1, hm1⟩ : ∃ m1, n - at_ = m1 := ⟨_, rfl⟩
    obtain ⟨d1, hd1⟩ : ∃ d1, c - at_ = d1 := ⟨_, rfl⟩
    rw [hm1, hd1] at hF
    simp only [hm1, hd1] at hcut
    have HR := hide hR
    have HF := hide hF
    have HT' := hide ht
    have HBAD := hide hbad
    have f1 := HS.out.fr 1
    have f2 := HS.out.fr 2
    clear HT he hR hm1 hd1 hF hk ht hbad
    by_cases he0 : e0 ≠ 0
    · obtain ⟨rfl, rfl⟩ := HBAD.out he0
      have g1 : ((e0 : Int) == 0) = false := by simp; omega
      have g2 : ((e0 : Int) != 0) = true := by simp; omega
      have ht := HT'.out
      unfold flagB at ht
      rw [if_neg (by omega)] at ht
      simp only [Prod.mk.injEq] at ht
      obtain ⟨rfl, rfl, rfl⟩ := ht
      clear HT' he0 HBAD
      go_enter Try.func55, Try.ntmps55
      go_wp2_with fail
      go_quiet ((go_at_call 86; refine quiet_same (refRead_any (HF.out.drewN _) HR.out)))
      have HS1 : Hid (Sr (w.drewN nq) g (.slice p n c) at_ 0) := HS
      go_wp2
      go_ret
      exact ⟨rfl, HS1.out.set2 rfl, gtrans (grown_drewN (World.grownBy.refl _ _) _) (grown_set _ _ _ _)⟩
    · obtain rfl : e0 = 0 := by omega
      have ht := HT'.out
      unfold flagB at ht
      by_cases h1N : (1 : Int) < (N : Int)
      · rw [if_pos (by omega)] at ht
        simp only [Prod.mk.injEq] at ht
        obtain ⟨rfl, rfl, rfl⟩ := ht
        clear HT' he0 HBAD
        go_enter Try.func55, Try.ntmps55
        go_wp2_with fail
        go_quiet ((go_at_call 86; refine quiet_same (refRead_any (HF.out.drewN _) HR.out)))
        have HS1 : Hid (Sr (w.drewN nq) g (.slice p n c) at_ 0) := HS
        go_wp2
        go_ret
        exact ⟨rfl, HS1.out.set2 rfl, gtrans (grown_drewN (World.grownBy.refl _ _) _) (grown_set _ _ _ _)⟩
      · rw [if_neg (by omega)] at ht
        simp only [Prod.mk.injEq] at ht
        obtain ⟨rfl, rfl, rfl⟩ := ht
        clear HT' he0 HBAD
        go_enter Try.func55, Try.ntmps55
        go_wp2_with fail
        go_quiet ((go_at_call 86; refine quiet_same (refRead_any (HF.out.drewN _) HR.out)))
        have HS1 : Hid (Sr (w.drewN nq) g (.slice p n c) at_ 0) := HS
        go_wp2
        go_ret
        exact ⟨by rw [int_beq1]; rfl, HS1.out.set1 (by omega), gtrans (grown_drewN (World.grownBy.refl _ _) _) (grown_set _ _ _ _)⟩


theorem scanLeft_any {w : World} {g : Nat} {p : Option Addr} {n c at_ E0 : Nat} (hS : Sc w g (.slice p n c) at_ E0) (hat : at_ ≤ n) (hn : (n : Int) ≤ 9223372036854775807) :
    Calls Try.prog 98 #[.pointer (some ⟨g, 0, none⟩)] w fun e w' => e = .returned (.int .i64 ((n : Int) - (at_ : Int))) ∧ ∃ q, w' = w.drewN q := by
  have h0 := hS.c0
  have h1 := hS.c1
  clear hS
  go_enter Try.func98, Try.ntmps98
  go_wp2_with fail
  refine (left_any h0 h1 hat hn).mono ?_
  rintro e w1 ⟨rfl, q, rfl⟩
  go_wp2
  go_ret
  exact ⟨rfl, _, rfl⟩
end Go.Proofs.Ytiiollgipfggmaa
