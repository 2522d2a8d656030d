import Derived.Test.YtgbdjcekpdfpjaaGreatDoorVa
set_option linter.unusedVariables false
set_option linter.unusedSimpArgs false
namespace Go.Proofs.YtgbdjcekpdfpjaaGreatDoor
set_option maxRecDepth 100000
set_option maxHeartbeats 2000000
open Go.RowKit
def SnV (w : World) (v : Value) (s : Sn) : Prop :=
 ∃ vo da, v = .agg #[.int .i64 s.ix, .int .i64 s.tm, vo, da] ∧ Ns w vo s.vo ∧ By w da s.da ∧ Go.Proofs.YtgbdjcekpdfpjaaGreatDoor.fits s.ix ∧ Go.Proofs.YtgbdjcekpdfpjaaGreatDoor.fits s.tm
theorem SnV.below {w w' : World} {v : Value} {s : Sn} (h : SnV w v s) (hb : Below w.heap.size w w') : SnV w' v s := by
 obtain ⟨vo, da, rfl, h1, h2, h3⟩ := h
 exact ⟨vo, da, rfl, h1.below hb, h2.below hb, h3⟩
def cnt (n : Int) : Bool := decide (1 ≤ n) && decide (n ≤ 1099511627776)
theorem cnt_iff {n : Int} : cnt n = true ↔ 1 ≤ n ∧ n ≤ 1099511627776 := by unfold cnt; simp
theorem mayCount_any (n : Int) (w : World) : Calls Tryz.prog 82 #[.int .i64 n] w fun e w' => e = .returned (.bool (cnt n)) ∧ w' = w := by
 by_cases h1 : 1 ≤ n
 ·by_cases h2 : n ≤ 1099511627776
  ·have HX := hide (cnt_iff.2 ⟨h1, h2⟩)
   have e1 : decide (1 ≤ n) = true := by simpa using h1
   have e2 : decide (n ≤ 1099511627776) = true := by simpa using h2
   go_enter Tryz.func82, Tryz.ntmps82
   go_wp2
   go_ret
   exact ⟨by rw [HX.out]; rfl, rfl⟩
  ·have HX : Hid (cnt n = false) := hide (by unfold cnt; simp; omega)
   have e1 : decide (1 ≤ n) = true := by simpa using h1
   have e2 : decide (n ≤ 1099511627776) = false := by simpa using h2
   go_enter Tryz.func82, Tryz.ntmps82
   go_wp2
   go_ret
   exact ⟨by rw [HX.out]; rfl, rfl⟩
 ·have HX : Hid (cnt n = false) := hide (by unfold cnt; simp; omega)
  have e1 : decide (1 ≤ n) = false := by simpa using h1
  go_enter Tryz.func82, Tryz.ntmps82
  go_wp2
  go_ret
  exact ⟨by rw [HX.out]; rfl, rfl⟩
def VoP (w : World) (l : List Int) (e : Ending) (w' : World) : Prop := e = .returned (.bool (okR l)) ∧ w' = w
theorem mayVote_any {w : World} {v : Value} {l : List Int} (h : Ns w v l) : Calls Tryz.prog 83 #[v] w (VoP w l) := by
 obtain ⟨p, n, c, rfl⟩ := h.sl
 have hn := h.len
 have hnl := hn.1
 subst hnl
 have hbig : l.length ≤ maxLen := Nat.le_trans hn.2.1 hn.2.2
 unfold maxLen at hbig
 have H := hide h
 have HC := hide (fun h0 : 0 < l.length => h.at_ h0)
 clear h hn
 by_cases h0 : 0 < l.length
 ·obtain ⟨g, o, rfl, hc⟩ := HC.out h0
  have HC2 := hide hc
  have HOK : Hid (okR l = okFrom 0 l) := by
   cases l with
   | nil => simp at h0
   | cons x r => rfl
  clear hc HC H
  go_enter Tryz.func83, Tryz.ntmps83
  go_wp2
  go_loop [3, 8] (fun lo i => ∃ (k : Nat) (z : Int), k ≤ l.length ∧ 0 ≤ z ∧ z ≤ 7 ∧ i = .int .i64 k ∧ lo = .int .i64 (z - 1) ∧ Hid (okFrom 0 l = okFrom z (l.drop k))) (fun _ i => l.length - (intOf i).toNat)
  case atStart => exact ⟨0, 0, by omega, by omega, by omega, rfl, rfl, hide (by rw [List.drop_zero])⟩
  case round =>
   obtain ⟨k, z, hk, hz0, hz7, rfl, rfl, HR⟩ := hrel
   by_cases hlt : k < l.length
   ·have hx := List.getElem?_eq_getElem hlt
    have hcell := HC2.out k _ hx
    have HD : Hid (l.drop k = l[k] :: l.drop (k + 1)) := hide (List.drop_eq_getElem_cons hlt)
    obtain ⟨x, hxx⟩ : ∃ x, l[k] = x := ⟨_, rfl⟩
    rw [hxx] at hcell HD
    clear hx hxx
    have HF : Hid (okFrom z (x :: l.drop (k + 1)) = (decide (z ≤ x) && decide (x < 7) && okFrom (x + 1) (l.drop (k + 1)))) := hide rfl
    by_cases hzx : x ≤ z - 1
    ·have e1 : decide (x ≤ z - 1) = true := by simpa using hzx
     have HX : Hid (okR l = false) := hide (by
      rw [HOK.out, HR.out, HD.out, HF.out, decide_eq_false (by omega : ¬ z ≤ x)]
      rfl)
     clear HF HD HR HOK
     go_wp2
     go_ret
     exact ⟨by rw [HX.out]; rfl, rfl⟩
    ·have e1 : decide (x ≤ z - 1) = false := by simpa using hzx
     by_cases hx7 : 7 ≤ x
     ·have e2 : decide (7 ≤ x) = true := by simpa using hx7
      have HX : Hid (okR l = false) := hide (by
       rw [HOK.out, HR.out, HD.out, HF.out, decide_eq_true (by omega : z ≤ x), decide_eq_false (by omega : ¬ x < 7)]
       rfl)
      clear HF HD HR HOK
      go_wp2
      go_ret
      exact ⟨by rw [HX.out]; rfl, rfl⟩
     ·have e2 : decide (7 ≤ x) = false := by simpa using hx7
      have HX : Hid (okFrom 0 l = okFrom (x + 1) (l.drop (k + 1))) := hide (by
       rw [HR.out, HD.out, HF.out, decide_eq_true (by omega : z ≤ x), decide_eq_true (by omega : x < 7)]
       rfl)
      clear HF HD HR
      go_wp2
      go_round
      case rel => exact ⟨k + 1, x + 1, by omega, by omega, by omega, by go_num, by go_num, HX⟩
      case measure => simp [intOf]; omega
   ·obtain rfl : k = l.length := by omega
    have HX : Hid (okR l = true) := hide (by rw [HOK.out, HR.out, List.drop_length]; rfl)
    clear HR HOK
    have e1 : decide ((0 : Int) < (l.length : Int)) = true := by simp; omega
    go_wp2
    go_ret
    exact ⟨by rw [HX.out]; rfl, rfl⟩
 ·obtain rfl : l = [] := List.eq_nil_of_length_eq_zero (by omega)
  clear HC H h0
  go_enter Tryz.func83, Tryz.ntmps83
  go_wp2
  go_loop [3, 8] (fun lo i => i = .int .i64 0 ∧ lo = .int .i64 (-1)) (fun _ _ => 0)
  case atStart => exact ⟨rfl, rfl⟩
  case round =>
   obtain ⟨rfl, rfl⟩ := hrel
   go_wp2
   go_ret
   exact ⟨rfl, rfl⟩
def ChP (w : World) (s : Sn) (e : Ending) (w' : World) : Prop := e = .returned (.int .i64 (s.chk : Nat)) ∧ Below w.heap.size w w'
theorem check_any' {w : World} {v : Value} {s : Sn} (h : SnV w v s) : Calls Tryz.prog 31 #[v] w (ChP w s) := by
 obtain ⟨vo, da, rfl, hv, hd, _, _⟩ := h
 obtain ⟨p, n, c, rfl⟩ := hd.sl
 have hnn := hd.len
 have HN := hide hnn.1
 have hnb := hd.lenMax
 obtain ⟨p1, n1, c1, rfl⟩ := hv.sl
 have HV := hide hv
 clear hv hd hnn
 have HCV := hide fun W (hb : Below w.heap.size w W) => mayVote_any (HV.out.below hb)
 obtain ⟨ix, tm, vo, da⟩ := s
 dsimp only at HN HV HCV ⊢
 have hsp : ∀ (a b c : Bool) (L : Nat), cnt ix = a → cnt tm = b → okR vo = c → da.length = L → (Sn.chk ⟨ix, tm, vo, da⟩ = if (a && b && c) = true then (if 262144 < L then 4 else 0) else 60) := by
  rintro a b c L rfl rfl rfl rfl
  unfold Sn.chk cnt
  rfl
 have HSP := hide hsp
 clear hsp
 cases h1 : cnt ix with
 | false =>
  have H1 := hide h1
  have HX : Hid (Sn.chk ⟨ix, tm, vo, da⟩ = 60) := hide (by rw [HSP.out _ _ _ _ h1 rfl rfl rfl]; rfl)
  go_enter Tryz.func31, Tryz.ntmps31
  go_wp2_with (go_at_call 82; refine (mayCount_any ix _).mono ?_; rw [H1.out]; rintro e w1 ⟨rfl, rfl⟩)
  go_ret
  exact ⟨by rw [HX.out]; rfl, balloc (Below.refl _ _) _⟩
 | true =>
  cases h2 : cnt tm with
  | false =>
   have H1 := hide h1
   have H2 := hide h2
   have HX : Hid (Sn.chk ⟨ix, tm, vo, da⟩ = 60) := hide (by rw [HSP.out _ _ _ _ h1 h2 rfl rfl]; rfl)
   go_enter Tryz.func31, Tryz.ntmps31
   go_wp2_with (go_at_call 82; first | (refine (mayCount_any ix _).mono ?_; rw [H1.out]; rintro e w1 ⟨rfl, rfl⟩) | (refine (mayCount_any tm _).mono ?_; rw [H2.out]; rintro e w1 ⟨rfl, rfl⟩))
   go_ret
   exact ⟨by rw [HX.out]; rfl, balloc (Below.refl _ _) _⟩
  | true =>
   have H1 := hide h1
   have H2 := hide h2
   cases h3 : okR vo with
   | false =>
    have HX : Hid (Sn.chk ⟨ix, tm, vo, da⟩ = 60) := hide (by rw [HSP.out _ _ _ _ h1 h2 h3 rfl]; rfl)
    have H3 := hide h3
    go_enter Tryz.func31, Tryz.ntmps31
    go_wp2_with (first
     | (go_at_call 82; first | (refine (mayCount_any ix _).mono ?_; rw [H1.out]; rintro e w1 ⟨rfl, rfl⟩) | (refine (mayCount_any tm _).mono ?_; rw [H2.out]; rintro e w1 ⟨rfl, rfl⟩))
     | (go_at_call 83; refine (HCV.out _ (balloc (Below.refl _ _) _)).mono ?_; unfold VoP; rw [H3.out]; rintro e w1 ⟨rfl, rfl⟩))
    go_ret
    exact ⟨by rw [HX.out]; rfl, balloc (Below.refl _ _) _⟩
   | true =>
    have H3 := hide h3
    by_cases hL : 262144 < n
    ·have HX : Hid (Sn.chk ⟨ix, tm, vo, da⟩ = 4) := hide (by rw [HSP.out _ _ _ _ h1 h2 h3 HN.out.symm, if_pos (by decide), if_pos hL])
     have e1 : decide ((262144 : Int) < (n : Int)) = true := by simp; omega
     go_enter Tryz.func31, Tryz.ntmps31
     go_wp2_with (first
      | (go_at_call 82; first | (refine (mayCount_any ix _).mono ?_; rw [H1.out]; rintro e w1 ⟨rfl, rfl⟩) | (refine (mayCount_any tm _).mono ?_; rw [H2.out]; rintro e w1 ⟨rfl, rfl⟩))
      | (go_at_call 83; refine (HCV.out _ (balloc (Below.refl _ _) _)).mono ?_; unfold VoP; rw [H3.out]; rintro e w1 ⟨rfl, rfl⟩))
     go_ret
     exact ⟨by rw [HX.out]; rfl, balloc (Below.refl _ _) _⟩
    ·have HX : Hid (Sn.chk ⟨ix, tm, vo, da⟩ = 0) := hide (by rw [HSP.out _ _ _ _ h1 h2 h3 HN.out.symm, if_pos (by decide), if_neg hL])
     have e1 : decide ((262144 : Int) < (n : Int)) = false := by simp; omega
     go_enter Tryz.func31, Tryz.ntmps31
     go_wp2_with (first
      | (go_at_call 82; first | (refine (mayCount_any ix _).mono ?_; rw [H1.out]; rintro e w1 ⟨rfl, rfl⟩) | (refine (mayCount_any tm _).mono ?_; rw [H2.out]; rintro e w1 ⟨rfl, rfl⟩))
      | (go_at_call 83; refine (HCV.out _ (balloc (Below.refl _ _) _)).mono ?_; unfold VoP; rw [H3.out]; rintro e w1 ⟨rfl, rfl⟩))
     go_ret
     exact ⟨by rw [HX.out]; rfl, balloc (Below.refl _ _) _⟩
end Go.Proofs.YtgbdjcekpdfpjaaGreatDoor
