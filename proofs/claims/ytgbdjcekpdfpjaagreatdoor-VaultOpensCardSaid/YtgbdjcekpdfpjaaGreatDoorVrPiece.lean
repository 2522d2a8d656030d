import Derived.Test.YtgbdjcekpdfpjaaGreatDoorVrOpen
import Derived.Test.YtgbdjcekpdfpjaaGreatDoorVc
set_option linter.unusedVariables false
set_option linter.unusedSimpArgs false
namespace Go.Proofs.YtgbdjcekpdfpjaaGreatDoor
open Go.RowKit
def Sn.piece (s : Sn) (at_ : Int) : List UInt8 × Bool × Nat :=
 if ¬ 0 < s.ix then ([], false, 60) else if at_ < 0 ∨ (s.da.length : Int) < at_ then ([], false, 61) else ((s.da.drop at_.toNat).take 512, decide (s.da.length ≤ at_.toNat + 512), 0)
def PcA (w : World) (s : Sn) (at_ : Int) (e : Ending) (w' : World) : Prop := ∃ p n c, e = .returned (.tuple #[.slice p n c, .bool (s.piece at_).2.1, .int .i64 ((s.piece at_).2.2 : Nat)]) ∧ By w' (.slice p n c) (s.piece at_).1 ∧ Below w.heap.size w w'
theorem vpiece_all {w : World} {b g : Nat} {vo da : Value} {s : Sn} (h : Vt w b vo da s g) (hl : s.da.length ≤ 1000000) (at_ : Int) : Calls Tryz.prog 36 #[.pointer (some ⟨b, 0, none⟩), .int .i64 at_] w (PcA w s at_) := by
 by_cases h0 : 0 < s.ix
 ·by_cases h1 : at_ < 0 ∨ (s.da.length : Int) < at_
  ·refine (vpiece_off h h0 h1).mono ?_
   rintro e w' ⟨rfl, rfl⟩
   have e1 : s.piece at_ = ([], false, 61) := by unfold Sn.piece; rw [if_neg (by omega), if_pos h1]
   exact ⟨none, 0, 0, by rw [e1], by rw [e1]; exact By.nil _, Below.refl _ _⟩
  ·obtain ⟨k, hk⟩ : ∃ k : Nat, at_ = (k : Int) := ⟨at_.toNat, by omega⟩
   subst hk
   refine (vpiece_any h h0 (k := k) (by omega) hl).mono ?_
   rintro e w' ⟨v, rfl, ho, hb⟩
   obtain ⟨p, n, c, rfl⟩ := ho.by_.sl
   have e1 : s.piece (k : Int) = ((s.da.drop k).take 512, decide (s.da.length ≤ k + 512), 0) := by unfold Sn.piece; rw [if_neg (by omega), if_neg h1]; rfl
   exact ⟨p, n, c, by rw [e1]; rfl, by rw [e1]; exact ho.by_, hb⟩
 ·refine (vpiece_none h h0 at_).mono ?_
  rintro e w' ⟨rfl, rfl⟩
  have e1 : s.piece at_ = ([], false, 60) := by unfold Sn.piece; rw [if_pos h0]
  exact ⟨none, 0, 0, by rw [e1], by rw [e1]; exact By.nil _, Below.refl _ _⟩
set_option maxRecDepth 100000 in
set_option maxHeartbeats 4000000 in
theorem rvpiece_all {w : World} {xb x : Nat} {vo da : Value} {s : Sn} (h : RvAt w xb x s vo da) (hl : s.da.length ≤ 1000000) (at_ : Int) : Calls Tryz.prog 72 #[.pointer (some ⟨xb, 0, none⟩), .int .i64 at_] w (PcA w s at_) := by
 obtain ⟨p, n, c, rfl⟩ := h.by_.sl
 have hn := h.by_.len
 have y4 := h.c4
 have y5 := h.c5
 by_cases h0 : 0 < s.ix
 ·rw [decide_eq_true h0] at y5
  by_cases hlt : at_ < 0
  ·have e1 : s.piece at_ = ([], false, 61) := by unfold Sn.piece; rw [if_neg (by omega), if_pos (.inl hlt)]
   have E1 := hide e1
   clear e1
   go_enter Tryz.func72, Tryz.ntmps72
   go_wp2
   refine bodyPost_ret (v := .tuple #[.slice none 0 0, .bool false, .int .i64 61]) (by simp [results, Tryz.results72, go_sem]) rfl ?_
   exact ⟨none, 0, 0, by rw [E1.out]; rfl, by rw [E1.out]; exact By.nil _, Below.refl _ _⟩
  ·by_cases hgt : (n : Int) < at_
   ·have e1 : s.piece at_ = ([], false, 61) := by unfold Sn.piece; rw [if_neg (by omega), if_pos (.inr (by omega))]
    have E1 := hide e1
    clear e1
    go_enter Tryz.func72, Tryz.ntmps72
    go_wp2
    refine bodyPost_ret (v := .tuple #[.slice none 0 0, .bool false, .int .i64 61]) (by simp [results, Tryz.results72, go_sem]) rfl ?_
    exact ⟨none, 0, 0, by rw [E1.out]; rfl, by rw [E1.out]; exact By.nil _, Below.refl _ _⟩
   ·obtain ⟨k, hk⟩ : ∃ k : Nat, at_ = (k : Int) := ⟨at_.toNat, by omega⟩
    subst hk
    have e1 : s.piece (k : Int) = ((s.da.drop k).take 512, decide (s.da.length ≤ k + 512), 0) := by unfold Sn.piece; rw [if_neg (by omega), if_neg (by omega)]; rfl
    obtain ⟨q, hcut, hF⟩ := cut_from h.by_ (k := k) (by omega)
    obtain ⟨m1, hm1⟩ : ∃ m1, n - k = m1 := ⟨_, rfl⟩
    obtain ⟨d1, hd1⟩ : ∃ d1, c - k = d1 := ⟨_, rfl⟩
    rw [hm1, hd1] at hF
    simp only [hm1, hd1] at hcut
    obtain ⟨m2, hm2⟩ : ∃ m2 : Nat, min 512 m1 = m2 := ⟨_, rfl⟩
    have hmm : min 512 (m1 : Int) = (m2 : Int) := by omega
    have hT := cut_to hF (k := m2) (by omega)
    have hrun := fun W : World => run_cut_to W q m1 d1 m2 (by omega)
    have htk : (s.da.drop k).take m2 = (s.da.drop k).take 512 := by
     by_cases hc : 512 ≤ m1
     ·rw [show m2 = 512 by omega]
     ·rw [List.take_of_length_le (by rw [List.length_drop]; omega), List.take_of_length_le (by rw [List.length_drop]; omega)]
    rw [htk] at hT
    have E1 := hide e1
    have HT := hide hT
    have HQ : Hid (decide ((m1 : Int) ≤ 512) = decide (s.da.length ≤ k + 512)) := hide (decide_eq_decide.2 (by omega))
    have hkn : ¬ (n : Int) < (k : Int) := by omega
    have hk0 : ¬ (k : Int) < 0 := by omega
    clear e1 hF hT htk hm1 hd1 hm2 hn h
    go_enter Tryz.func72, Tryz.ntmps72
    go_wp2
    refine bodyPost_ret (v := .tuple #[.slice q m2 d1, .bool (decide ((m1 : Int) ≤ 512)), .int .i64 0]) (by simp [results, Tryz.results72, go_sem]) rfl ?_
    exact ⟨q, m2, d1, by rw [E1.out, HQ.out]; rfl, by rw [E1.out]; exact HT.out, Below.refl _ _⟩
 ·rw [decide_eq_false h0] at y5
  have e1 : s.piece at_ = ([], false, 60) := by unfold Sn.piece; rw [if_pos h0]
  have E1 := hide e1
  clear e1
  go_enter Tryz.func72, Tryz.ntmps72
  go_wp2
  refine bodyPost_ret (v := .tuple #[.slice none 0 0, .bool false, .int .i64 60]) (by simp [results, Tryz.results72, go_sem]) rfl ?_
  exact ⟨none, 0, 0, by rw [E1.out]; rfl, by rw [E1.out]; exact By.nil _, Below.refl _ _⟩
end Go.Proofs.YtgbdjcekpdfpjaaGreatDoor
