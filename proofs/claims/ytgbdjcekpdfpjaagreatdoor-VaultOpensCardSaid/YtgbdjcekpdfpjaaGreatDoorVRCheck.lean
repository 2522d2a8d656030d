import Derived.Test.YtgbdjcekpdfpjaaGreatDoorVChk
import Derived.Test.YtgbdjcekpdfpjaaGreatDoorVc
set_option linter.unusedVariables false
set_option linter.unusedSimpArgs false
namespace Go.Proofs.YtgbdjcekpdfpjaaGreatDoor
open Go.RowKit
theorem chk_vo {s : Sn} (h : okR s.vo = false) : s.chk = 60 := by
 unfold Sn.chk
 rw [if_neg (by rw [h]; simp)]
theorem chk_no {s : Sn} (h : ¬ (1 ≤ s.ix ∧ s.ix ≤ 1099511627776 ∧ 1 ≤ s.tm ∧ s.tm ≤ 1099511627776)) : s.chk = 60 := by
 unfold Sn.chk
 rw [if_neg (by simp only [Bool.and_eq_true, decide_eq_true_eq]; intro hc; exact h ⟨hc.1.1.1, hc.1.1.2, hc.1.2.1, hc.1.2.2⟩)]
theorem chk_yes {s : Sn} (h : okR s.vo = true) (h1 : 1 ≤ s.ix ∧ s.ix ≤ 1099511627776 ∧ 1 ≤ s.tm ∧ s.tm ≤ 1099511627776) : s.chk = if 262144 < s.da.length then 4 else 0 := by
 unfold Sn.chk
 rw [if_pos (by simp only [Bool.and_eq_true, decide_eq_true_eq]; exact ⟨⟨⟨h1.1, h1.2.1⟩, h1.2.2.1, h1.2.2.2⟩, h⟩)]
set_option maxRecDepth 100000 in
set_option maxHeartbeats 4000000 in
theorem vrcheck_any {w : World} {v : Value} {s : Sn} (h : SnV w v s) : Calls Tryz.prog 32 #[v] w (ChP w s) := by
 obtain ⟨vo, da, rfl, hv, hd, _, _⟩ := h
 obtain ⟨p, n, c, rfl⟩ := hd.sl
 have hnn := hd.len.1
 have hnb := hd.lenMax
 obtain ⟨p1, n1, c1, rfl⟩ := hv.sl
 have hnl := hv.len.1
 have hbig : n1 ≤ maxLen := Nat.le_trans hv.len.2.1 hv.len.2.2
 unfold maxLen at hbig
 subst hnl
 obtain ⟨X, hX⟩ : ∃ X, w.alloc (.cells #[.int .i64 s.ix, .int .i64 s.tm, .slice p1 s.vo.length c1, .slice p n c] 42) = X := ⟨_, rfl⟩
 have hbX : Below w.heap.size w X := by rw [← hX]; exact balloc (Below.refl _ _) _
 have hrX : X.heap[w.heap.size]? = some (.cells #[.int .i64 s.ix, .int .i64 s.tm, .slice p1 s.vo.length c1, .slice p n c] 42 (0, 0)) := by rw [← hX]; exact Array.getElem?_push_size
 have x0 : X.cell? ⟨w.heap.size, 0, none⟩ = some (.int .i64 s.ix) := by rw [cell_of_row X _ 0 _ _ (0, 0) hrX]; rfl
 have x1 : X.cell? ⟨w.heap.size, 1, none⟩ = some (.int .i64 s.tm) := by rw [cell_of_row X _ 1 _ _ (0, 0) hrX]; rfl
 have x2 : X.cell? ⟨w.heap.size, 2, none⟩ = some (.slice p1 s.vo.length c1) := by rw [cell_of_row X _ 2 _ _ (0, 0) hrX]; rfl
 have x3 : X.cell? ⟨w.heap.size, 3, none⟩ = some (.slice p n c) := by rw [cell_of_row X _ 3 _ _ (0, 0) hrX]; rfl
 have HN := hide hnn
 have HBX := hide hbX
 have HC := hide (fun h0 : 0 < s.vo.length => (hv.below hbX).at_ h0)
 clear hv hd hnn hbX hrX
 -- behind the loop
 by_cases h0 : 0 < s.vo.length
 ·obtain ⟨g, o, rfl, hc⟩ := HC.out h0
  have HC2 := hide hc
  have HOK : Hid (okR s.vo = okFrom 0 s.vo) := hide (by
   cases hl : s.vo with
   | nil => rw [hl] at h0; simp at h0
   | cons x r => rfl)
  clear hc HC
  go_enter Tryz.func32, Tryz.ntmps32
  go_wp2
  go_loop [3, 9] (fun lo i => ∃ (k : Nat) (z : Int), k ≤ s.vo.length ∧ 0 ≤ z ∧ z ≤ 7 ∧ (0 < k → 1 ≤ z) ∧ i = .int .i64 k ∧ lo = .int .i64 (z - 1) ∧ Hid (okFrom 0 s.vo = okFrom z (s.vo.drop k))) (fun _ i => s.vo.length - (intOf i).toNat)
  case atStart => exact ⟨0, 0, by omega, by omega, by omega, by omega, rfl, rfl, hide (by rw [List.drop_zero])⟩
  case round =>
   obtain ⟨k, z, hk, hz0, hz7, hz1, rfl, rfl, HR⟩ := hrel
   by_cases hlt : k < s.vo.length
   ·have hx := List.getElem?_eq_getElem hlt
    have hcell := HC2.out k _ hx
    have HD : Hid (s.vo.drop k = s.vo[k] :: s.vo.drop (k + 1)) := hide (List.drop_eq_getElem_cons hlt)
    obtain ⟨x, hxx⟩ : ∃ x, s.vo[k] = x := ⟨_, rfl⟩
    rw [hxx] at hcell HD
    clear hx hxx
    have e0 : decide ((k : Int) < (s.vo.length : Int)) = true := by simpa using hlt
    have HF : Hid (okFrom z (x :: s.vo.drop (k + 1)) = (decide (z ≤ x) && decide (x < 7) && okFrom (x + 1) (s.vo.drop (k + 1)))) := hide rfl
    by_cases hzx : x ≤ z - 1
    ·have e1 : decide (x ≤ z - 1) = true := by simpa using hzx
     have HX : Hid (s.chk = 60) := hide (chk_vo (by
      rw [HOK.out, HR.out, HD.out, HF.out, decide_eq_false (by omega : ¬ z ≤ x)]
      rfl))
     clear HF HD HR HOK
     go_wp2
     go_ret
     exact ⟨by rw [HX.out]; rfl, HBX.out⟩
    ·have e1 : decide (x ≤ z - 1) = false := by simpa using hzx
     by_cases hx7 : 6 < x
     ·have e2 : decide (6 < x) = true := by simpa using hx7
      have HX : Hid (s.chk = 60) := hide (chk_vo (by
       rw [HOK.out, HR.out, HD.out, HF.out, decide_eq_true (by omega : z ≤ x), decide_eq_false (by omega : ¬ x < 7)]
       rfl))
      clear HF HD HR HOK
      go_wp2
      go_ret
      exact ⟨by rw [HX.out]; rfl, HBX.out⟩
     ·have e2 : decide (6 < x) = false := by simpa using hx7
      have HX : Hid (okFrom 0 s.vo = okFrom (x + 1) (s.vo.drop (k + 1))) := hide (by
       rw [HR.out, HD.out, HF.out, decide_eq_true (by omega : z ≤ x), decide_eq_true (by omega : x < 7)]
       rfl)
      clear HF HD HR
      go_wp2
      go_round
      case rel => exact ⟨k + 1, x + 1, by omega, by omega, by omega, by omega, by go_num, by go_num, HX⟩
      case measure => simp [intOf]; omega
   ·obtain rfl : k = s.vo.length := by omega
    have HX : Hid (okR s.vo = true) := hide (by rw [HOK.out, HR.out, List.drop_length]; rfl)
    have hz := hz1 h0
    clear HR HOK
    have e0 : decide ((s.vo.length : Int) < (s.vo.length : Int)) = false := by simp
    have e1 : decide (z - 1 < 0) = false := by simp; omega
    by_cases hc : 1 ≤ s.ix ∧ s.ix ≤ 1099511627776 ∧ 1 ≤ s.tm ∧ s.tm ≤ 1099511627776
    ·have d1 : decide (s.ix < 1) = false := by simp; omega
     have d2 : decide (1099511627776 < s.ix) = false := by simp; omega
     have d3 : decide (s.tm < 1) = false := by simp; omega
     have d4 : decide (1099511627776 < s.tm) = false := by simp; omega
     have HY := hide (chk_yes HX.out hc)
     by_cases hl : 262144 < s.da.length
     ·have d5 : decide ((262144 : Int) < (n : Int)) = true := by have := HN.out; simp; omega
      have d5' : 262144 < n := by have := HN.out; omega
      have HZ : Hid (s.chk = 4) := hide (by rw [HY.out, if_pos hl])
      clear hc hl HY
      go_wp2
      go_ret
      exact ⟨by rw [HZ.out]; rfl, HBX.out⟩
     ·have d5 : decide ((262144 : Int) < (n : Int)) = false := by have := HN.out; simp; omega
      have d5' : ¬ 262144 < n := by have := HN.out; omega
      have HZ : Hid (s.chk = 0) := hide (by rw [HY.out, if_neg hl])
      clear hc hl HY
      go_wp2
      go_ret
      exact ⟨by rw [HZ.out]; rfl, HBX.out⟩
    ·have HZ := hide (chk_no hc)
     by_cases c1 : s.ix < 1
     ·have d1 : decide (s.ix < 1) = true := by simpa using c1
      clear hc
      go_wp2
      go_ret
      exact ⟨by rw [HZ.out]; rfl, HBX.out⟩
     ·have d1 : decide (s.ix < 1) = false := by simpa using c1
      by_cases c2 : 1099511627776 < s.ix
      ·have d2 : decide (1099511627776 < s.ix) = true := by simpa using c2
       clear hc
       go_wp2
       go_ret
       exact ⟨by rw [HZ.out]; rfl, HBX.out⟩
      ·have d2 : decide (1099511627776 < s.ix) = false := by simpa using c2
       by_cases c3 : s.tm < 1
       ·have d3 : decide (s.tm < 1) = true := by simpa using c3
        clear hc
        go_wp2
        go_ret
        exact ⟨by rw [HZ.out]; rfl, HBX.out⟩
       ·have d3 : decide (s.tm < 1) = false := by simpa using c3
        have c4 : 1099511627776 < s.tm := by omega
        have d4 : decide (1099511627776 < s.tm) = true := by simpa using c4
        clear hc
        go_wp2
        go_ret
        exact ⟨by rw [HZ.out]; rfl, HBX.out⟩
 ·have hvz : s.vo.length = 0 := by omega
  have HX : Hid (s.chk = 60) := hide (chk_vo (by rw [List.eq_nil_of_length_eq_zero hvz]; rfl))
  rw [hvz] at hX x2
  clear HC h0 hbig
  go_enter Tryz.func32, Tryz.ntmps32
  rw [hvz]
  go_wp2
  go_loop [3, 9] (fun lo i => i = .int .i64 0 ∧ lo = .int .i64 (-1)) (fun _ _ => 0)
  case atStart => exact ⟨rfl, rfl⟩
  case round =>
   obtain ⟨rfl, rfl⟩ := hrel
   go_wp2
   go_ret
   exact ⟨by rw [HX.out]; rfl, HBX.out⟩
end Go.Proofs.YtgbdjcekpdfpjaaGreatDoor
