import Derived.Test.YtionbmlicmibgaaGreatDoorMcChk
import Derived.Test.YtionbmlicmibgaaGreatDoorS6c
namespace Go.Proofs.YtionbmlicmibgaaGreatDoor
set_option linter.unusedVariables false
set_option linter.unusedSimpArgs false
open Go.RowKit
theorem okK01 (k se sq a : Int) (sp : List Sp) (vo : List Int) (hk : k = 0 ∨ k = 1) : Cm.ok ⟨k, se, sq, a, sp, vo⟩ = ((se == 0) && ((sq == 0) && ((sp.length == 0) && ((a == 0) && (vo.length == 0))))) := by
 rcases hk with rfl | rfl
 all_goals
  unfold Cm.ok Cm.may Cm.own Cm.like
  rw [Bool.eq_iff_iff]
  simp
  intro _ _
  constructor
  ·rintro ⟨h3, h4, h5⟩; exact ⟨h4, h3, h5⟩
  ·rintro ⟨h4, h3, h5⟩; exact ⟨h3, h4, h5⟩
theorem okK2 (se sq a : Int) (sp : List Sp) (vo : List Int) : Cm.ok ⟨2, se, sq, a, sp, vo⟩ = (btw 1 se 1099511627776 && (btw 1 sq 1099511627776 && (btw 1 sp.length 8 && ((a == 0) && ((vo.length == 0) && sp.all Sp.ok))))) := by
 unfold Cm.ok Cm.may Cm.own Cm.like spsOk
 rw [Bool.eq_iff_iff]
 simp
 constructor
 ·rintro ⟨⟨⟨h1, h2⟩, h3, h4⟩, h5, h6⟩; exact ⟨h1, h2, h3, h5, h6, h4⟩
 ·rintro ⟨h1, h2, h3, h5, h6, h4⟩; exact ⟨⟨⟨h1, h2⟩, h3, h4⟩, h5, h6⟩
theorem okK3 (se sq a : Int) (sp : List Sp) (vo : List Int) : Cm.ok ⟨3, se, sq, a, sp, vo⟩ = ((se == 0) && ((sq == 0) && ((sp.length == 0) && (btw 0 a 1099511627776 && (vo.length == 0))))) := by
 unfold Cm.ok Cm.may Cm.own Cm.like
 rw [Bool.eq_iff_iff]
 simp
 constructor
 ·rintro ⟨h1, h2, h3, h4, h5⟩; exact ⟨h2, h3, h4, h1, h5⟩
 ·rintro ⟨h2, h3, h4, h1, h5⟩; exact ⟨h1, h2, h3, h4, h5⟩
theorem okK4 (se sq a : Int) (sp : List Sp) (vo : List Int) : Cm.ok ⟨4, se, sq, a, sp, vo⟩ = ((se == 0) && ((sq == 0) && ((sp.length == 0) && (btw 0 a 1099511627777 && (vo.length == 0))))) := by
 unfold Cm.ok Cm.may Cm.own Cm.like
 rw [Bool.eq_iff_iff]
 simp
 constructor
 ·rintro ⟨h1, h2, h3, h4, h5⟩; exact ⟨h2, h3, h4, h1, h5⟩
 ·rintro ⟨h2, h3, h4, h1, h5⟩; exact ⟨h1, h2, h3, h4, h5⟩
theorem okK5 (se sq a : Int) (sp : List Sp) (vo : List Int) : Cm.ok ⟨5, se, sq, a, sp, vo⟩ = ((se == 0) && ((sq == 0) && ((sp.length == 0) && ((a == 0) && okR vo)))) := by
 unfold Cm.ok Cm.may Cm.own Cm.like
 rw [Bool.eq_iff_iff]
 simp
 constructor
 ·rintro ⟨h1, h2, h3, h4, h5⟩; exact ⟨h2, h3, h5, h4, h1⟩
 ·rintro ⟨h2, h3, h5, h4, h1⟩; exact ⟨h1, h2, h3, h4, h5⟩
theorem okKx (k se sq a : Int) (sp : List Sp) (vo : List Int) (h0 : ¬ k = 0) (h1 : ¬ k = 1) (h2 : ¬ k = 2) (h3 : ¬ k = 3) (h4 : ¬ k = 4) (h5 : ¬ k = 5) : Cm.ok ⟨k, se, sq, a, sp, vo⟩ = false := by
 unfold Cm.ok Cm.may
 dsimp only
 rw [if_neg h0, if_neg h1, if_neg h2, if_neg h3, if_neg h4, if_neg h5]
 rfl
theorem lenB (n : Nat) : ((n : Int) == 0) = (n == 0) := by
 rw [Bool.eq_iff_iff]; simp
set_option maxRecDepth 100000 in
theorem rnear_any (n lo hi : Int) (w : World) : Calls Tryz.prog 64 #[.int .i64 n, .int .i64 lo, .int .i64 hi] w fun e w' => e = .returned (.bool (btw lo n hi)) ∧ w = w' := by
 by_cases h1 : lo ≤ n
 ·by_cases h2 : n ≤ hi
  ·have H : Hid (btw lo n hi = true) := hide (btw_iff.2 ⟨h1, h2⟩)
   go_enter Tryz.func64, Tryz.ntmps64
   go_wp2
   go_ret
   exact ⟨ret_b H.out, rfl⟩
  ·have H : Hid (btw lo n hi = false) := hide (btw_no2 h2)
   go_enter Tryz.func64, Tryz.ntmps64
   go_wp2
   go_ret
   exact ⟨ret_b H.out, rfl⟩
 ·have H : Hid (btw lo n hi = false) := hide (btw_no1 h1)
  go_enter Tryz.func64, Tryz.ntmps64
  go_wp2
  go_ret
  exact ⟨ret_b H.out, rfl⟩
set_option maxRecDepth 100000 in
set_option maxHeartbeats 1100000 in
theorem rvote_any {w : World} {v : Value} {l : List Int} (h : Ns w v l) : Calls Tryz.prog 66 #[v] w (OkRP w l) := by
 obtain ⟨p, n, c, rfl⟩ := h.sl
 have hn := h.len
 have hnl := hn.1
 subst hnl
 have hbig : l.length ≤ maxLen := Nat.le_trans hn.2.1 hn.2.2
 unfold maxLen at hbig
 have H := hide h
 have HC := hide (fun h0 : 0 < l.length => h.at_ h0)
 clear h hn
 by_cases h0 : 0 < l.length
 ·obtain ⟨g, o, rfl, hc⟩ := HC.out h0
  have HC2 := hide hc
  have HOK : Hid (okR l = okFrom 0 l) := by
   cases l with
   | nil => simp at h0
   | cons x r => rfl
  clear hc HC H
  go_enter Tryz.func66, Tryz.ntmps66
  go_wp2
  go_loop [3, 5, 8] (fun lo _ i => ∃ (k : Nat) (z : Int), k ≤ l.length ∧ -1 ≤ z ∧ z ≤ 6 ∧ i = .int .i64 k ∧ lo = .int .i64 z ∧ (0 < k → 0 ≤ z) ∧ Hid (okFrom 0 l = okFrom (z + 1) (l.drop k))) (fun _ _ i => l.length - (intOf i).toNat)
  case atStart => exact ⟨0, -1, by omega, by omega, by omega, rfl, rfl, by omega, hide (by rw [List.drop_zero]; rfl)⟩
  case round =>
   obtain ⟨k, z, hk, hz0, hz7, rfl, rfl, hkz, HR⟩ := hrel
   have HKZ := hide hkz
   clear hkz
   by_cases hlt : k < l.length
   ·have hx := List.getElem?_eq_getElem hlt
    have hcell := HC2.out k _ hx
    have HD : Hid (l.drop k = l[k] :: l.drop (k + 1)) := hide (List.drop_eq_getElem_cons hlt)
    obtain ⟨x, hxx⟩ : ∃ x, l[k] = x := ⟨_, rfl⟩
    rw [hxx] at hcell HD
    clear hx hxx
    have HF : Hid (okFrom (z + 1) (x :: l.drop (k + 1)) = (decide (z + 1 ≤ x) && decide (x < 7) && okFrom (x + 1) (l.drop (k + 1)))) := hide rfl
    by_cases hzx : x ≤ z
    ·have HX : Hid (okR l = false) := hide (by
      rw [HOK.out, HR.out, HD.out, HF.out, decide_eq_false (by omega : ¬ z + 1 ≤ x)]
      rfl)
     clear HF HD HR HOK
     go_wp2
     go_ret
     exact ⟨ret_b HX.out, rfl⟩
    ·by_cases hx7 : 6 < x
     ·have HX : Hid (okR l = false) := hide (by
       rw [HOK.out, HR.out, HD.out, HF.out, decide_eq_false (by omega : ¬ x < 7), Bool.and_false]
       rfl)
      clear HF HD HR HOK
      go_wp2
      go_ret
      exact ⟨ret_b HX.out, rfl⟩
     ·have HX : Hid (okFrom 0 l = okFrom (x + 1) (l.drop (k + 1))) := hide (by
       rw [HR.out, HD.out, HF.out, decide_eq_true (by omega : z + 1 ≤ x), decide_eq_true (by omega : x < 7)]
       rfl)
      clear HF HD HR
      go_wp2
      go_round
      case rel => exact ⟨k + 1, x, by omega, by omega, by omega, by go_num, rfl, fun _ => by omega, HX⟩
      case measure => simp [intOf]; omega
   ·have HX : Hid (okR l = true) := hide (by
     rw [HOK.out, HR.out, List.drop_eq_nil_of_le (by omega)]
     rfl)
    have hz := HKZ.out (by omega)
    clear HR HOK
    go_wp2
    go_ret
    exact ⟨ret_b HX.out, rfl⟩
 ·obtain rfl : l = [] := List.eq_nil_of_length_eq_zero (by omega)
  clear HC H h0
  go_enter Tryz.func66, Tryz.ntmps66
  go_wp2
  go_loop [3, 5, 8] (fun lo _ i => lo = .int .i64 (-1) ∧ i = .int .i64 0) (fun _ _ _ => 0)
  case atStart => exact ⟨rfl, rfl⟩
  case round =>
   obtain ⟨rfl, rfl⟩ := hrel
   go_wp2
   go_ret
   exact ⟨rfl, rfl⟩
set_option maxRecDepth 200000 in
set_option maxHeartbeats 8000000 in
theorem rchk0_any {w : World} (se sq a : Int) {p : Option Addr} {n d : Nat} {q : Option Addr} {m f : Nat} {sp : List Sp} {vo : List Int} (h : CmAt w (.slice p n d) (.slice q m f) ⟨0, se, sq, a, sp, vo⟩) : Calls Tryz.prog 22 #[.agg #[.int .i64 0, .int .i64 se, .int .i64 sq, .int .i64 a, .slice p n d, .slice q m f]] w (ChkC w ⟨0, se, sq, a, sp, vo⟩) := by
 have HBX := hide (BoxC.new w 0 se sq a (.slice p n d) (.slice q m f))
 have HB1 := hide ((Below.refl w.heap.size w).alloc (Nat.le_refl _) (.cells #[.int .i64 0, .int .i64 se, .int .i64 sq, .int .i64 a, .slice p n d, .slice q m f] 25))
 have HN := hide (And.intro h.sp.len.1 h.vo.len.1)
 have HV := hide (rvote_any (h.vo.below HB1.out))
 have HOK := hide (okK01 0 se sq a sp vo (.inl rfl))
 rw [← HN.out.1, ← HN.out.2] at HOK
 clear h
 obtain ⟨x0, x1, x2, x3, x4, x5⟩ := HBX.out
 unfold ChkC
 cases T0 : (se == 0)
 case false =>
  have HR : Hid (Cm.ok ⟨0, se, sq, a, sp, vo⟩ = false) := hide (by rw [HOK.out, T0]; rfl)
  rw [HR.out]
  clear HOK HR
  go_enter Tryz.func22, Tryz.ntmps22
  go_wp2_with fail
  go_ret
  exact ⟨rfl, HB1.out⟩
 case true =>
  cases T1 : (sq == 0)
  case false =>
   have HR : Hid (Cm.ok ⟨0, se, sq, a, sp, vo⟩ = false) := hide (by rw [HOK.out, T0, T1]; rfl)
   rw [HR.out]
   clear HOK HR
   go_enter Tryz.func22, Tryz.ntmps22
   go_wp2_with fail
   go_ret
   exact ⟨rfl, HB1.out⟩
  case true =>
   cases T2 : (n == 0)
   case false =>
    have L2 := lenB n; rw [T2] at L2
    have HR : Hid (Cm.ok ⟨0, se, sq, a, sp, vo⟩ = false) := hide (by rw [HOK.out, T0, T1, T2]; rfl)
    rw [HR.out]
    clear HOK HR T2
    go_enter Tryz.func22, Tryz.ntmps22
    go_wp2_with fail
    go_ret
    exact ⟨rfl, HB1.out⟩
   case true =>
    cases T3 : (a == 0)
    case false =>
     have L2 := lenB n; rw [T2] at L2
     have HR : Hid (Cm.ok ⟨0, se, sq, a, sp, vo⟩ = false) := hide (by rw [HOK.out, T0, T1, T2, T3]; rfl)
     rw [HR.out]
     clear HOK HR T2
     go_enter Tryz.func22, Tryz.ntmps22
     go_wp2_with fail
     go_ret
     exact ⟨rfl, HB1.out⟩
    case true =>
     cases T4 : (m == 0)
     case false =>
      have L2 := lenB n; rw [T2] at L2
      have L4 := lenB m; rw [T4] at L4
      have HR : Hid (Cm.ok ⟨0, se, sq, a, sp, vo⟩ = false) := hide (by rw [HOK.out, T0, T1, T2, T3, T4]; rfl)
      rw [HR.out]
      clear HOK HR T2 T4
      go_enter Tryz.func22, Tryz.ntmps22
      go_wp2_with fail
      go_ret
      exact ⟨rfl, HB1.out⟩
     case true =>
      have L2 := lenB n; rw [T2] at L2
      have L4 := lenB m; rw [T4] at L4
      have HR : Hid (Cm.ok ⟨0, se, sq, a, sp, vo⟩ = true) := hide (by rw [HOK.out, T0, T1, T2, T3, T4]; rfl)
      rw [HR.out]
      clear HOK HR T2 T4
      go_enter Tryz.func22, Tryz.ntmps22
      go_wp2_with fail
      go_ret
      exact ⟨rfl, HB1.out⟩
set_option maxRecDepth 200000 in
set_option maxHeartbeats 8000000 in
theorem rchk1_any {w : World} (se sq a : Int) {p : Option Addr} {n d : Nat} {q : Option Addr} {m f : Nat} {sp : List Sp} {vo : List Int} (h : CmAt w (.slice p n d) (.slice q m f) ⟨1, se, sq, a, sp, vo⟩) : Calls Tryz.prog 22 #[.agg #[.int .i64 1, .int .i64 se, .int .i64 sq, .int .i64 a, .slice p n d, .slice q m f]] w (ChkC w ⟨1, se, sq, a, sp, vo⟩) := by
 have HBX := hide (BoxC.new w 1 se sq a (.slice p n d) (.slice q m f))
 have HB1 := hide ((Below.refl w.heap.size w).alloc (Nat.le_refl _) (.cells #[.int .i64 1, .int .i64 se, .int .i64 sq, .int .i64 a, .slice p n d, .slice q m f] 25))
 have HN := hide (And.intro h.sp.len.1 h.vo.len.1)
 have HV := hide (rvote_any (h.vo.below HB1.out))
 have HOK := hide (okK01 1 se sq a sp vo (.inr rfl))
 rw [← HN.out.1, ← HN.out.2] at HOK
 clear h
 obtain ⟨x0, x1, x2, x3, x4, x5⟩ := HBX.out
 unfold ChkC
 cases T0 : (se == 0)
 case false =>
  have HR : Hid (Cm.ok ⟨1, se, sq, a, sp, vo⟩ = false) := hide (by rw [HOK.out, T0]; rfl)
  rw [HR.out]
  clear HOK HR
  go_enter Tryz.func22, Tryz.ntmps22
  go_wp2_with fail
  go_ret
  exact ⟨rfl, HB1.out⟩
 case true =>
  cases T1 : (sq == 0)
  case false =>
   have HR : Hid (Cm.ok ⟨1, se, sq, a, sp, vo⟩ = false) := hide (by rw [HOK.out, T0, T1]; rfl)
   rw [HR.out]
   clear HOK HR
   go_enter Tryz.func22, Tryz.ntmps22
   go_wp2_with fail
   go_ret
   exact ⟨rfl, HB1.out⟩
  case true =>
   cases T2 : (n == 0)
   case false =>
    have L2 := lenB n; rw [T2] at L2
    have HR : Hid (Cm.ok ⟨1, se, sq, a, sp, vo⟩ = false) := hide (by rw [HOK.out, T0, T1, T2]; rfl)
    rw [HR.out]
    clear HOK HR T2
    go_enter Tryz.func22, Tryz.ntmps22
    go_wp2_with fail
    go_ret
    exact ⟨rfl, HB1.out⟩
   case true =>
    cases T3 : (a == 0)
    case false =>
     have L2 := lenB n; rw [T2] at L2
     have HR : Hid (Cm.ok ⟨1, se, sq, a, sp, vo⟩ = false) := hide (by rw [HOK.out, T0, T1, T2, T3]; rfl)
     rw [HR.out]
     clear HOK HR T2
     go_enter Tryz.func22, Tryz.ntmps22
     go_wp2_with fail
     go_ret
     exact ⟨rfl, HB1.out⟩
    case true =>
     cases T4 : (m == 0)
     case false =>
      have L2 := lenB n; rw [T2] at L2
      have L4 := lenB m; rw [T4] at L4
      have HR : Hid (Cm.ok ⟨1, se, sq, a, sp, vo⟩ = false) := hide (by rw [HOK.out, T0, T1, T2, T3, T4]; rfl)
      rw [HR.out]
      clear HOK HR T2 T4
      go_enter Tryz.func22, Tryz.ntmps22
      go_wp2_with fail
      go_ret
      exact ⟨rfl, HB1.out⟩
     case true =>
      have L2 := lenB n; rw [T2] at L2
      have L4 := lenB m; rw [T4] at L4
      have HR : Hid (Cm.ok ⟨1, se, sq, a, sp, vo⟩ = true) := hide (by rw [HOK.out, T0, T1, T2, T3, T4]; rfl)
      rw [HR.out]
      clear HOK HR T2 T4
      go_enter Tryz.func22, Tryz.ntmps22
      go_wp2_with fail
      go_ret
      exact ⟨rfl, HB1.out⟩
set_option maxRecDepth 200000 in
set_option maxHeartbeats 8000000 in
theorem rchk3_any {w : World} (se sq a : Int) {p : Option Addr} {n d : Nat} {q : Option Addr} {m f : Nat} {sp : List Sp} {vo : List Int} (h : CmAt w (.slice p n d) (.slice q m f) ⟨3, se, sq, a, sp, vo⟩) : Calls Tryz.prog 22 #[.agg #[.int .i64 3, .int .i64 se, .int .i64 sq, .int .i64 a, .slice p n d, .slice q m f]] w (ChkC w ⟨3, se, sq, a, sp, vo⟩) := by
 have HBX := hide (BoxC.new w 3 se sq a (.slice p n d) (.slice q m f))
 have HB1 := hide ((Below.refl w.heap.size w).alloc (Nat.le_refl _) (.cells #[.int .i64 3, .int .i64 se, .int .i64 sq, .int .i64 a, .slice p n d, .slice q m f] 25))
 have HN := hide (And.intro h.sp.len.1 h.vo.len.1)
 have HV := hide (rvote_any (h.vo.below HB1.out))
 have HOK := hide (okK3 se sq a sp vo)
 rw [← HN.out.1, ← HN.out.2] at HOK
 clear h
 obtain ⟨x0, x1, x2, x3, x4, x5⟩ := HBX.out
 unfold ChkC
 cases T0 : (se == 0)
 case false =>
  have HR : Hid (Cm.ok ⟨3, se, sq, a, sp, vo⟩ = false) := hide (by rw [HOK.out, T0]; rfl)
  rw [HR.out]
  clear HOK HR
  go_enter Tryz.func22, Tryz.ntmps22
  go_wp2_with fail
  go_ret
  exact ⟨rfl, HB1.out⟩
 case true =>
  cases T1 : (sq == 0)
  case false =>
   have HR : Hid (Cm.ok ⟨3, se, sq, a, sp, vo⟩ = false) := hide (by rw [HOK.out, T0, T1]; rfl)
   rw [HR.out]
   clear HOK HR
   go_enter Tryz.func22, Tryz.ntmps22
   go_wp2_with fail
   go_ret
   exact ⟨rfl, HB1.out⟩
  case true =>
   cases T2 : (n == 0)
   case false =>
    have L2 := lenB n; rw [T2] at L2
    have HR : Hid (Cm.ok ⟨3, se, sq, a, sp, vo⟩ = false) := hide (by rw [HOK.out, T0, T1, T2]; rfl)
    rw [HR.out]
    clear HOK HR T2
    go_enter Tryz.func22, Tryz.ntmps22
    go_wp2_with fail
    go_ret
    exact ⟨rfl, HB1.out⟩
   case true =>
    cases T3 : (btw 0 a 1099511627776)
    case false =>
     have L2 := lenB n; rw [T2] at L2
     have HC3 := hide (rnear_any a 0 1099511627776); rw [T3] at HC3
     have HR : Hid (Cm.ok ⟨3, se, sq, a, sp, vo⟩ = false) := hide (by rw [HOK.out, T0, T1, T2, T3]; rfl)
     rw [HR.out]
     clear HOK HR T2 T3
     go_enter Tryz.func22, Tryz.ntmps22
     go_wp2_with (first | ((with_reducible refine (HC3.out _).mono ?_); rintro e w1 ⟨rfl, rfl⟩))
     go_ret
     exact ⟨rfl, HB1.out⟩
    case true =>
     cases T4 : (m == 0)
     case false =>
      have L2 := lenB n; rw [T2] at L2
      have L4 := lenB m; rw [T4] at L4
      have HC3 := hide (rnear_any a 0 1099511627776); rw [T3] at HC3
      have HR : Hid (Cm.ok ⟨3, se, sq, a, sp, vo⟩ = false) := hide (by rw [HOK.out, T0, T1, T2, T3, T4]; rfl)
      rw [HR.out]
      clear HOK HR T2 T3 T4
      go_enter Tryz.func22, Tryz.ntmps22
      go_wp2_with (first | ((with_reducible refine (HC3.out _).mono ?_); rintro e w1 ⟨rfl, rfl⟩))
      go_ret
      exact ⟨rfl, HB1.out⟩
     case true =>
      have L2 := lenB n; rw [T2] at L2
      have L4 := lenB m; rw [T4] at L4
      have HC3 := hide (rnear_any a 0 1099511627776); rw [T3] at HC3
      have HR : Hid (Cm.ok ⟨3, se, sq, a, sp, vo⟩ = true) := hide (by rw [HOK.out, T0, T1, T2, T3, T4]; rfl)
      rw [HR.out]
      clear HOK HR T2 T3 T4
      go_enter Tryz.func22, Tryz.ntmps22
      go_wp2_with (first | ((with_reducible refine (HC3.out _).mono ?_); rintro e w1 ⟨rfl, rfl⟩))
      go_ret
      exact ⟨rfl, HB1.out⟩
set_option maxRecDepth 200000 in
set_option maxHeartbeats 8000000 in
theorem rchk4_any {w : World} (se sq a : Int) {p : Option Addr} {n d : Nat} {q : Option Addr} {m f : Nat} {sp : List Sp} {vo : List Int} (h : CmAt w (.slice p n d) (.slice q m f) ⟨4, se, sq, a, sp, vo⟩) : Calls Tryz.prog 22 #[.agg #[.int .i64 4, .int .i64 se, .int .i64 sq, .int .i64 a, .slice p n d, .slice q m f]] w (ChkC w ⟨4, se, sq, a, sp, vo⟩) := by
 have HBX := hide (BoxC.new w 4 se sq a (.slice p n d) (.slice q m f))
 have HB1 := hide ((Below.refl w.heap.size w).alloc (Nat.le_refl _) (.cells #[.int .i64 4, .int .i64 se, .int .i64 sq, .int .i64 a, .slice p n d, .slice q m f] 25))
 have HN := hide (And.intro h.sp.len.1 h.vo.len.1)
 have HV := hide (rvote_any (h.vo.below HB1.out))
 have HOK := hide (okK4 se sq a sp vo)
 rw [← HN.out.1, ← HN.out.2] at HOK
 clear h
 obtain ⟨x0, x1, x2, x3, x4, x5⟩ := HBX.out
 unfold ChkC
 cases T0 : (se == 0)
 case false =>
  have HR : Hid (Cm.ok ⟨4, se, sq, a, sp, vo⟩ = false) := hide (by rw [HOK.out, T0]; rfl)
  rw [HR.out]
  clear HOK HR
  go_enter Tryz.func22, Tryz.ntmps22
  go_wp2_with fail
  go_ret
  exact ⟨rfl, HB1.out⟩
 case true =>
  cases T1 : (sq == 0)
  case false =>
   have HR : Hid (Cm.ok ⟨4, se, sq, a, sp, vo⟩ = false) := hide (by rw [HOK.out, T0, T1]; rfl)
   rw [HR.out]
   clear HOK HR
   go_enter Tryz.func22, Tryz.ntmps22
   go_wp2_with fail
   go_ret
   exact ⟨rfl, HB1.out⟩
  case true =>
   cases T2 : (n == 0)
   case false =>
    have L2 := lenB n; rw [T2] at L2
    have HR : Hid (Cm.ok ⟨4, se, sq, a, sp, vo⟩ = false) := hide (by rw [HOK.out, T0, T1, T2]; rfl)
    rw [HR.out]
    clear HOK HR T2
    go_enter Tryz.func22, Tryz.ntmps22
    go_wp2_with fail
    go_ret
    exact ⟨rfl, HB1.out⟩
   case true =>
    cases T3 : (btw 0 a 1099511627777)
    case false =>
     have L2 := lenB n; rw [T2] at L2
     have HC3 := hide (rnear_any a 0 1099511627777); rw [T3] at HC3
     have HR : Hid (Cm.ok ⟨4, se, sq, a, sp, vo⟩ = false) := hide (by rw [HOK.out, T0, T1, T2, T3]; rfl)
     rw [HR.out]
     clear HOK HR T2 T3
     go_enter Tryz.func22, Tryz.ntmps22
     go_wp2_with (first | ((with_reducible refine (HC3.out _).mono ?_); rintro e w1 ⟨rfl, rfl⟩))
     go_ret
     exact ⟨rfl, HB1.out⟩
    case true =>
     cases T4 : (m == 0)
     case false =>
      have L2 := lenB n; rw [T2] at L2
      have L4 := lenB m; rw [T4] at L4
      have HC3 := hide (rnear_any a 0 1099511627777); rw [T3] at HC3
      have HR : Hid (Cm.ok ⟨4, se, sq, a, sp, vo⟩ = false) := hide (by rw [HOK.out, T0, T1, T2, T3, T4]; rfl)
      rw [HR.out]
      clear HOK HR T2 T3 T4
      go_enter Tryz.func22, Tryz.ntmps22
      go_wp2_with (first | ((with_reducible refine (HC3.out _).mono ?_); rintro e w1 ⟨rfl, rfl⟩))
      go_ret
      exact ⟨rfl, HB1.out⟩
     case true =>
      have L2 := lenB n; rw [T2] at L2
      have L4 := lenB m; rw [T4] at L4
      have HC3 := hide (rnear_any a 0 1099511627777); rw [T3] at HC3
      have HR : Hid (Cm.ok ⟨4, se, sq, a, sp, vo⟩ = true) := hide (by rw [HOK.out, T0, T1, T2, T3, T4]; rfl)
      rw [HR.out]
      clear HOK HR T2 T3 T4
      go_enter Tryz.func22, Tryz.ntmps22
      go_wp2_with (first | ((with_reducible refine (HC3.out _).mono ?_); rintro e w1 ⟨rfl, rfl⟩))
      go_ret
      exact ⟨rfl, HB1.out⟩
set_option maxRecDepth 200000 in
set_option maxHeartbeats 8000000 in
theorem rchk5_any {w : World} (se sq a : Int) {p : Option Addr} {n d : Nat} {q : Option Addr} {m f : Nat} {sp : List Sp} {vo : List Int} (h : CmAt w (.slice p n d) (.slice q m f) ⟨5, se, sq, a, sp, vo⟩) : Calls Tryz.prog 22 #[.agg #[.int .i64 5, .int .i64 se, .int .i64 sq, .int .i64 a, .slice p n d, .slice q m f]] w (ChkC w ⟨5, se, sq, a, sp, vo⟩) := by
 have HBX := hide (BoxC.new w 5 se sq a (.slice p n d) (.slice q m f))
 have HB1 := hide ((Below.refl w.heap.size w).alloc (Nat.le_refl _) (.cells #[.int .i64 5, .int .i64 se, .int .i64 sq, .int .i64 a, .slice p n d, .slice q m f] 25))
 have HN := hide (And.intro h.sp.len.1 h.vo.len.1)
 have HV := hide (rvote_any (h.vo.below HB1.out))
 have HOK := hide (okK5 se sq a sp vo)
 rw [← HN.out.1] at HOK
 clear h
 obtain ⟨x0, x1, x2, x3, x4, x5⟩ := HBX.out
 unfold ChkC
 cases T0 : (se == 0)
 case false =>
  have HR : Hid (Cm.ok ⟨5, se, sq, a, sp, vo⟩ = false) := hide (by rw [HOK.out, T0]; rfl)
  rw [HR.out]
  clear HOK HR
  go_enter Tryz.func22, Tryz.ntmps22
  go_wp2_with fail
  go_ret
  exact ⟨rfl, HB1.out⟩
 case true =>
  cases T1 : (sq == 0)
  case false =>
   have HR : Hid (Cm.ok ⟨5, se, sq, a, sp, vo⟩ = false) := hide (by rw [HOK.out, T0, T1]; rfl)
   rw [HR.out]
   clear HOK HR
   go_enter Tryz.func22, Tryz.ntmps22
   go_wp2_with fail
   go_ret
   exact ⟨rfl, HB1.out⟩
  case true =>
   cases T2 : (n == 0)
   case false =>
    have L2 := lenB n; rw [T2] at L2
    have HR : Hid (Cm.ok ⟨5, se, sq, a, sp, vo⟩ = false) := hide (by rw [HOK.out, T0, T1, T2]; rfl)
    rw [HR.out]
    clear HOK HR T2
    go_enter Tryz.func22, Tryz.ntmps22
    go_wp2_with fail
    go_ret
    exact ⟨rfl, HB1.out⟩
   case true =>
    cases T3 : (a == 0)
    case false =>
     have L2 := lenB n; rw [T2] at L2
     have HR : Hid (Cm.ok ⟨5, se, sq, a, sp, vo⟩ = false) := hide (by rw [HOK.out, T0, T1, T2, T3]; rfl)
     rw [HR.out]
     clear HOK HR T2
     go_enter Tryz.func22, Tryz.ntmps22
     go_wp2_with fail
     go_ret
     exact ⟨rfl, HB1.out⟩
    case true =>
     cases T4 : (okR vo)
     case false =>
      have L2 := lenB n; rw [T2] at L2
      have HC4 := HV; unfold OkRP at HC4; rw [T4] at HC4
      have HR : Hid (Cm.ok ⟨5, se, sq, a, sp, vo⟩ = false) := hide (by rw [HOK.out, T0, T1, T2, T3, T4]; rfl)
      rw [HR.out]
      clear HOK HR T2 T4
      go_enter Tryz.func22, Tryz.ntmps22
      go_wp2_with (first | (refine (HC4).out.mono ?_; rintro e w1 ⟨rfl, rfl⟩))
      go_ret
      exact ⟨rfl, HB1.out⟩
     case true =>
      have L2 := lenB n; rw [T2] at L2
      have HC4 := HV; unfold OkRP at HC4; rw [T4] at HC4
      have HR : Hid (Cm.ok ⟨5, se, sq, a, sp, vo⟩ = true) := hide (by rw [HOK.out, T0, T1, T2, T3, T4]; rfl)
      rw [HR.out]
      clear HOK HR T2 T4
      go_enter Tryz.func22, Tryz.ntmps22
      go_wp2_with (first | (refine (HC4).out.mono ?_; rintro e w1 ⟨rfl, rfl⟩))
      go_ret
      exact ⟨rfl, HB1.out⟩
set_option maxRecDepth 200000 in
set_option maxHeartbeats 8000000 in
theorem rchkx_any {w : World} (k se sq a : Int) {p : Option Addr} {n d : Nat} {q : Option Addr} {m f : Nat} {sp : List Sp} {vo : List Int} (h0 : ¬ k = 0) (h1 : ¬ k = 1) (h2 : ¬ k = 2) (h3 : ¬ k = 3) (h4 : ¬ k = 4) (h5 : ¬ k = 5) (h : CmAt w (.slice p n d) (.slice q m f) ⟨k, se, sq, a, sp, vo⟩) : Calls Tryz.prog 22 #[.agg #[.int .i64 k, .int .i64 se, .int .i64 sq, .int .i64 a, .slice p n d, .slice q m f]] w (ChkC w ⟨k, se, sq, a, sp, vo⟩) := by
 have HBX := hide (BoxC.new w k se sq a (.slice p n d) (.slice q m f))
 have HB1 := hide ((Below.refl w.heap.size w).alloc (Nat.le_refl _) (.cells #[.int .i64 k, .int .i64 se, .int .i64 sq, .int .i64 a, .slice p n d, .slice q m f] 25))
 have HN := hide (And.intro h.sp.len.1 h.vo.len.1)
 have HV := hide (rvote_any (h.vo.below HB1.out))
 have HOK := hide (okKx k se sq a sp vo h0 h1 h2 h3 h4 h5)
 clear h
 obtain ⟨x0, x1, x2, x3, x4, x5⟩ := HBX.out
 unfold ChkC
 rw [HOK.out]
 have e0 : (k == 0) = false := by simpa using h0
 have e1 : (k == 1) = false := by simpa using h1
 have e2 : (k == 2) = false := by simpa using h2
 have e3 : (k == 3) = false := by simpa using h3
 have e4 : (k == 4) = false := by simpa using h4
 have e5 : (k == 5) = false := by simpa using h5
 clear HOK h0 h1 h2 h3 h4 h5
 cases T0 : (se == 0)
 case false =>
  go_enter Tryz.func22, Tryz.ntmps22
  go_wp2_with fail
  go_ret
  exact ⟨rfl, HB1.out⟩
 case true =>
  cases T1 : (sq == 0)
  case false =>
   go_enter Tryz.func22, Tryz.ntmps22
   go_wp2_with fail
   go_ret
   exact ⟨rfl, HB1.out⟩
  case true =>
   cases T2 : (n == 0)
   case false =>
    have L2 := lenB n; rw [T2] at L2
    go_enter Tryz.func22, Tryz.ntmps22
    go_wp2_with fail
    go_ret
    exact ⟨rfl, HB1.out⟩
   case true =>
    have L2 := lenB n; rw [T2] at L2
    go_enter Tryz.func22, Tryz.ntmps22
    go_wp2_with fail
    go_ret
    exact ⟨rfl, HB1.out⟩
set_option maxRecDepth 200000 in
set_option maxHeartbeats 8000000 in
theorem rchk2_any {w : World} (se sq a : Int) {p : Option Addr} {n d : Nat} {q : Option Addr} {m f : Nat} {sp : List Sp} {vo : List Int} (h : CmAt w (.slice p n d) (.slice q m f) ⟨2, se, sq, a, sp, vo⟩) : Calls Tryz.prog 22 #[.agg #[.int .i64 2, .int .i64 se, .int .i64 sq, .int .i64 a, .slice p n d, .slice q m f]] w (ChkC w ⟨2, se, sq, a, sp, vo⟩) := by
 have HBX := hide (BoxC.new w 2 se sq a (.slice p n d) (.slice q m f))
 have HB1 := hide ((Below.refl w.heap.size w).alloc (Nat.le_refl _) (.cells #[.int .i64 2, .int .i64 se, .int .i64 sq, .int .i64 a, .slice p n d, .slice q m f] 25))
 have HN := hide (And.intro h.sp.len.1 h.vo.len.1)
 have HS := hide (fun W (hW : Below w.heap.size w W) => h.sp.below hW)
 have HNM := hide h.nm
 have hn9 : (n : Int) ≤ 9223372036854775807 := by have := h.sp.len; unfold maxLen at this; omega
 have HOK := hide (okK2 se sq a sp vo)
 rw [← HN.out.1, ← HN.out.2] at HOK
 clear h
 obtain ⟨x0, x1, x2, x3, x4, x5⟩ := HBX.out
 unfold ChkC
 cases U0 : (se == 0)
 case true =>
  have T0 : btw 1 se 1099511627776 = false := by
   have : se = 0 := by simpa using U0
   subst this
   rfl
  cases U1 : (sq == 0)
  case false =>
   have HC0 := hide (rnear_any se 1 1099511627776); rw [T0] at HC0
   have HQ : Hid (Cm.ok ⟨2, se, sq, a, sp, vo⟩ = (false && sp.all Sp.ok)) := hide (by rw [HOK.out, T0]; rfl)
   clear HOK T0
   go_enter Tryz.func22, Tryz.ntmps22
   go_wp2_with (first | ((with_reducible refine (HC0.out _).mono ?_); rintro e w1 ⟨rfl, rfl⟩))
   go_loopw [4, 68] (fun b i wr => ∃ (k : Nat) (B : Bool), k ≤ n ∧ i = .int .i64 k ∧ b = .bool B ∧ Hid (B = (false && (sp.take k).all Sp.ok) ∧ Below w.heap.size w wr)) (fun _ i _ => n - (intOf i).toNat)
   case atStart => exact ⟨0, false, by omega, rfl, rfl, hide ⟨rfl, HB1.out⟩⟩
   case round =>
    obtain ⟨k, B, hk, rfl, rfl, HR⟩ := hrel
    by_cases hlt : k < n
    ·obtain ⟨y, hy⟩ : ∃ y, sp[k]? = some y := ⟨_, List.getElem?_eq_getElem (by have := HN.out.1; omega)⟩
     obtain ⟨gd, o, rfl, hc⟩ := (HS.out wr HR.out.2).at_ (by omega)
     have hd := hc k y hy
     have d0 := hd.c0
     have d1 := hd.c1
     have d2 := hd.c2
     have d3 := hd.c3
     have d4 := hd.c4
     have d5 := hd.c5
     have HTK := hide (all_take hy)
     have HCK := hide (refCheck_any y (HNM.out y (List.mem_of_getElem? hy)))
     unfold spV at HCK
     obtain ⟨yk, hyk⟩ : ∃ b, y.ok = b := ⟨_, rfl⟩
     rw [hyk] at HTK HCK
     have hbA := (Below.refl wr.heap.size wr).alloc (Nat.le_refl _) (.cells #[.int .i64 y.t, .int .i64 y.i, .int .i64 y.p, .int .i64 y.s, .int .i64 y.e, .string y.n] 30)
     have HBA := hide (HR.out.2.trans (hbA.mono HR.out.2.size))
     clear hd hc hy hyk hbA
     cases B
     ·have HT2 : Hid (false = (false && (sp.take (k + 1)).all Sp.ok)) := hide (by rw [HTK.out, ← Bool.and_assoc, ← HR.out.1]; rfl)
      go_wp2_with fail
      go_roundw
      case rel => exact ⟨k + 1, false, by omega, by go_num, rfl, hide ⟨HT2.out, HBA.out⟩⟩
      case measure => simp [intOf]; omega
     ·cases yk
      all_goals
       go_wp2_with fail
       refine (HCK.out _).mono ?_
       rintro e w5 ⟨rfl, hb5⟩
       have HB5 := hide (HBA.out.trans (hb5.mono HBA.out.size))
       clear hb5
       go_wp2_with fail
       go_roundw
       case rel => exact ⟨k + 1, _, by omega, by go_num, rfl, hide ⟨by rw [HTK.out, ← Bool.and_assoc, ← HR.out.1]; rfl, HB5.out⟩⟩
       case measure => simp [intOf]; omega
    ·have HF : Hid (B = (false && sp.all Sp.ok)) := hide (by
      have h1 := HR.out.1
      rwa [List.take_of_length_le (by have := HN.out.1; omega)] at h1)
     cases B
     ·have HZ : Hid (Cm.ok ⟨2, se, sq, a, sp, vo⟩ = false) := hide (by rw [HQ.out, ← HF.out])
      go_wp2_with fail
      go_ret
      exact ⟨by rw [HZ.out]; rfl, HR.out.2⟩
     ·have hh := HF.out
      simp at hh
  case true =>
   have UL := lenB n
   cases U2 : (n == 0)
   all_goals
    rw [U2] at UL
    have HC0 := hide (rnear_any se 1 1099511627776); rw [T0] at HC0
    have HQ : Hid (Cm.ok ⟨2, se, sq, a, sp, vo⟩ = (false && sp.all Sp.ok)) := hide (by rw [HOK.out, T0]; rfl)
    clear HOK T0
    go_enter Tryz.func22, Tryz.ntmps22
    go_wp2_with (first | ((with_reducible refine (HC0.out _).mono ?_); rintro e w1 ⟨rfl, rfl⟩))
    go_loopw [4, 68] (fun b i wr => ∃ (k : Nat) (B : Bool), k ≤ n ∧ i = .int .i64 k ∧ b = .bool B ∧ Hid (B = (false && (sp.take k).all Sp.ok) ∧ Below w.heap.size w wr)) (fun _ i _ => n - (intOf i).toNat)
    case atStart => exact ⟨0, false, by omega, rfl, rfl, hide ⟨rfl, HB1.out⟩⟩
    case round =>
     obtain ⟨k, B, hk, rfl, rfl, HR⟩ := hrel
     by_cases hlt : k < n
     ·obtain ⟨y, hy⟩ : ∃ y, sp[k]? = some y := ⟨_, List.getElem?_eq_getElem (by have := HN.out.1; omega)⟩
      obtain ⟨gd, o, rfl, hc⟩ := (HS.out wr HR.out.2).at_ (by omega)
      have hd := hc k y hy
      have d0 := hd.c0
      have d1 := hd.c1
      have d2 := hd.c2
      have d3 := hd.c3
      have d4 := hd.c4
      have d5 := hd.c5
      have HTK := hide (all_take hy)
      have HCK := hide (refCheck_any y (HNM.out y (List.mem_of_getElem? hy)))
      unfold spV at HCK
      obtain ⟨yk, hyk⟩ : ∃ b, y.ok = b := ⟨_, rfl⟩
      rw [hyk] at HTK HCK
      have hbA := (Below.refl wr.heap.size wr).alloc (Nat.le_refl _) (.cells #[.int .i64 y.t, .int .i64 y.i, .int .i64 y.p, .int .i64 y.s, .int .i64 y.e, .string y.n] 30)
      have HBA := hide (HR.out.2.trans (hbA.mono HR.out.2.size))
      clear hd hc hy hyk hbA
      cases B
      ·have HT2 : Hid (false = (false && (sp.take (k + 1)).all Sp.ok)) := hide (by rw [HTK.out, ← Bool.and_assoc, ← HR.out.1]; rfl)
       go_wp2_with fail
       go_roundw
       case rel => exact ⟨k + 1, false, by omega, by go_num, rfl, hide ⟨HT2.out, HBA.out⟩⟩
       case measure => simp [intOf]; omega
      ·cases yk
       all_goals
        go_wp2_with fail
        refine (HCK.out _).mono ?_
        rintro e w5 ⟨rfl, hb5⟩
        have HB5 := hide (HBA.out.trans (hb5.mono HBA.out.size))
        clear hb5
        go_wp2_with fail
        go_roundw
        case rel => exact ⟨k + 1, _, by omega, by go_num, rfl, hide ⟨by rw [HTK.out, ← Bool.and_assoc, ← HR.out.1]; rfl, HB5.out⟩⟩
        case measure => simp [intOf]; omega
     ·have HF : Hid (B = (false && sp.all Sp.ok)) := hide (by
       have h1 := HR.out.1
       rwa [List.take_of_length_le (by have := HN.out.1; omega)] at h1)
      cases B
      ·have HZ : Hid (Cm.ok ⟨2, se, sq, a, sp, vo⟩ = false) := hide (by rw [HQ.out, ← HF.out])
       go_wp2_with fail
       go_ret
       exact ⟨by rw [HZ.out]; rfl, HR.out.2⟩
      ·have hh := HF.out
       simp at hh
 case false =>
  cases T0 : (btw 1 se 1099511627776)
  case false =>
   have HC0 := hide (rnear_any se 1 1099511627776); rw [T0] at HC0
   have HQ : Hid (Cm.ok ⟨2, se, sq, a, sp, vo⟩ = (false && sp.all Sp.ok)) := hide (by rw [HOK.out, T0]; rfl)
   clear HOK T0
   go_enter Tryz.func22, Tryz.ntmps22
   go_wp2_with (first | ((with_reducible refine (HC0.out _).mono ?_); rintro e w1 ⟨rfl, rfl⟩))
   go_loopw [4, 68] (fun b i wr => ∃ (k : Nat) (B : Bool), k ≤ n ∧ i = .int .i64 k ∧ b = .bool B ∧ Hid (B = (false && (sp.take k).all Sp.ok) ∧ Below w.heap.size w wr)) (fun _ i _ => n - (intOf i).toNat)
   case atStart => exact ⟨0, false, by omega, rfl, rfl, hide ⟨rfl, HB1.out⟩⟩
   case round =>
    obtain ⟨k, B, hk, rfl, rfl, HR⟩ := hrel
    by_cases hlt : k < n
    ·obtain ⟨y, hy⟩ : ∃ y, sp[k]? = some y := ⟨_, List.getElem?_eq_getElem (by have := HN.out.1; omega)⟩
     obtain ⟨gd, o, rfl, hc⟩ := (HS.out wr HR.out.2).at_ (by omega)
     have hd := hc k y hy
     have d0 := hd.c0
     have d1 := hd.c1
     have d2 := hd.c2
     have d3 := hd.c3
     have d4 := hd.c4
     have d5 := hd.c5
     have HTK := hide (all_take hy)
     have HCK := hide (refCheck_any y (HNM.out y (List.mem_of_getElem? hy)))
     unfold spV at HCK
     obtain ⟨yk, hyk⟩ : ∃ b, y.ok = b := ⟨_, rfl⟩
     rw [hyk] at HTK HCK
     have hbA := (Below.refl wr.heap.size wr).alloc (Nat.le_refl _) (.cells #[.int .i64 y.t, .int .i64 y.i, .int .i64 y.p, .int .i64 y.s, .int .i64 y.e, .string y.n] 30)
     have HBA := hide (HR.out.2.trans (hbA.mono HR.out.2.size))
     clear hd hc hy hyk hbA
     cases B
     ·have HT2 : Hid (false = (false && (sp.take (k + 1)).all Sp.ok)) := hide (by rw [HTK.out, ← Bool.and_assoc, ← HR.out.1]; rfl)
      go_wp2_with fail
      go_roundw
      case rel => exact ⟨k + 1, false, by omega, by go_num, rfl, hide ⟨HT2.out, HBA.out⟩⟩
      case measure => simp [intOf]; omega
     ·cases yk
      all_goals
       go_wp2_with fail
       refine (HCK.out _).mono ?_
       rintro e w5 ⟨rfl, hb5⟩
       have HB5 := hide (HBA.out.trans (hb5.mono HBA.out.size))
       clear hb5
       go_wp2_with fail
       go_roundw
       case rel => exact ⟨k + 1, _, by omega, by go_num, rfl, hide ⟨by rw [HTK.out, ← Bool.and_assoc, ← HR.out.1]; rfl, HB5.out⟩⟩
       case measure => simp [intOf]; omega
    ·have HF : Hid (B = (false && sp.all Sp.ok)) := hide (by
      have h1 := HR.out.1
      rwa [List.take_of_length_le (by have := HN.out.1; omega)] at h1)
     cases B
     ·have HZ : Hid (Cm.ok ⟨2, se, sq, a, sp, vo⟩ = false) := hide (by rw [HQ.out, ← HF.out])
      go_wp2_with fail
      go_ret
      exact ⟨by rw [HZ.out]; rfl, HR.out.2⟩
     ·have hh := HF.out
      simp at hh
  case true =>
   cases T1 : (btw 1 sq 1099511627776)
   case false =>
    have HC0 := hide (rnear_any se 1 1099511627776); rw [T0] at HC0
    have HC1 := hide (rnear_any sq 1 1099511627776); rw [T1] at HC1
    have HQ : Hid (Cm.ok ⟨2, se, sq, a, sp, vo⟩ = (false && sp.all Sp.ok)) := hide (by rw [HOK.out, T0, T1]; rfl)
    clear HOK T0 T1
    go_enter Tryz.func22, Tryz.ntmps22
    go_wp2_with (first | ((with_reducible refine (HC0.out _).mono ?_); rintro e w1 ⟨rfl, rfl⟩) | ((with_reducible refine (HC1.out _).mono ?_); rintro e w1 ⟨rfl, rfl⟩))
    go_loopw [4, 68] (fun b i wr => ∃ (k : Nat) (B : Bool), k ≤ n ∧ i = .int .i64 k ∧ b = .bool B ∧ Hid (B = (false && (sp.take k).all Sp.ok) ∧ Below w.heap.size w wr)) (fun _ i _ => n - (intOf i).toNat)
    case atStart => exact ⟨0, false, by omega, rfl, rfl, hide ⟨rfl, HB1.out⟩⟩
    case round =>
     obtain ⟨k, B, hk, rfl, rfl, HR⟩ := hrel
     by_cases hlt : k < n
     ·obtain ⟨y, hy⟩ : ∃ y, sp[k]? = some y := ⟨_, List.getElem?_eq_getElem (by have := HN.out.1; omega)⟩
      obtain ⟨gd, o, rfl, hc⟩ := (HS.out wr HR.out.2).at_ (by omega)
      have hd := hc k y hy
      have d0 := hd.c0
      have d1 := hd.c1
      have d2 := hd.c2
      have d3 := hd.c3
      have d4 := hd.c4
      have d5 := hd.c5
      have HTK := hide (all_take hy)
      have HCK := hide (refCheck_any y (HNM.out y (List.mem_of_getElem? hy)))
      unfold spV at HCK
      obtain ⟨yk, hyk⟩ : ∃ b, y.ok = b := ⟨_, rfl⟩
      rw [hyk] at HTK HCK
      have hbA := (Below.refl wr.heap.size wr).alloc (Nat.le_refl _) (.cells #[.int .i64 y.t, .int .i64 y.i, .int .i64 y.p, .int .i64 y.s, .int .i64 y.e, .string y.n] 30)
      have HBA := hide (HR.out.2.trans (hbA.mono HR.out.2.size))
      clear hd hc hy hyk hbA
      cases B
      ·have HT2 : Hid (false = (false && (sp.take (k + 1)).all Sp.ok)) := hide (by rw [HTK.out, ← Bool.and_assoc, ← HR.out.1]; rfl)
       go_wp2_with fail
       go_roundw
       case rel => exact ⟨k + 1, false, by omega, by go_num, rfl, hide ⟨HT2.out, HBA.out⟩⟩
       case measure => simp [intOf]; omega
      ·cases yk
       all_goals
        go_wp2_with fail
        refine (HCK.out _).mono ?_
        rintro e w5 ⟨rfl, hb5⟩
        have HB5 := hide (HBA.out.trans (hb5.mono HBA.out.size))
        clear hb5
        go_wp2_with fail
        go_roundw
        case rel => exact ⟨k + 1, _, by omega, by go_num, rfl, hide ⟨by rw [HTK.out, ← Bool.and_assoc, ← HR.out.1]; rfl, HB5.out⟩⟩
        case measure => simp [intOf]; omega
     ·have HF : Hid (B = (false && sp.all Sp.ok)) := hide (by
       have h1 := HR.out.1
       rwa [List.take_of_length_le (by have := HN.out.1; omega)] at h1)
      cases B
      ·have HZ : Hid (Cm.ok ⟨2, se, sq, a, sp, vo⟩ = false) := hide (by rw [HQ.out, ← HF.out])
       go_wp2_with fail
       go_ret
       exact ⟨by rw [HZ.out]; rfl, HR.out.2⟩
      ·have hh := HF.out
       simp at hh
   case true =>
    cases T2 : (btw 1 (n : Int) 8)
    case false =>
     have HC0 := hide (rnear_any se 1 1099511627776); rw [T0] at HC0
     have HC1 := hide (rnear_any sq 1 1099511627776); rw [T1] at HC1
     have HC2 := hide (rnear_any (n : Int) 1 8); rw [T2] at HC2
     have HQ : Hid (Cm.ok ⟨2, se, sq, a, sp, vo⟩ = (false && sp.all Sp.ok)) := hide (by rw [HOK.out, T0, T1, T2]; rfl)
     clear HOK T0 T1 T2
     go_enter Tryz.func22, Tryz.ntmps22
     go_wp2_with (first | ((with_reducible refine (HC0.out _).mono ?_); rintro e w1 ⟨rfl, rfl⟩) | ((with_reducible refine (HC1.out _).mono ?_); rintro e w1 ⟨rfl, rfl⟩) | ((with_reducible refine (HC2.out _).mono ?_); rintro e w1 ⟨rfl, rfl⟩))
     go_loopw [4, 68] (fun b i wr => ∃ (k : Nat) (B : Bool), k ≤ n ∧ i = .int .i64 k ∧ b = .bool B ∧ Hid (B = (false && (sp.take k).all Sp.ok) ∧ Below w.heap.size w wr)) (fun _ i _ => n - (intOf i).toNat)
     case atStart => exact ⟨0, false, by omega, rfl, rfl, hide ⟨rfl, HB1.out⟩⟩
     case round =>
      obtain ⟨k, B, hk, rfl, rfl, HR⟩ := hrel
      by_cases hlt : k < n
      ·obtain ⟨y, hy⟩ : ∃ y, sp[k]? = some y := ⟨_, List.getElem?_eq_getElem (by have := HN.out.1; omega)⟩
       obtain ⟨gd, o, rfl, hc⟩ := (HS.out wr HR.out.2).at_ (by omega)
       have hd := hc k y hy
       have d0 := hd.c0
       have d1 := hd.c1
       have d2 := hd.c2
       have d3 := hd.c3
       have d4 := hd.c4
       have d5 := hd.c5
       have HTK := hide (all_take hy)
       have HCK := hide (refCheck_any y (HNM.out y (List.mem_of_getElem? hy)))
       unfold spV at HCK
       obtain ⟨yk, hyk⟩ : ∃ b, y.ok = b := ⟨_, rfl⟩
       rw [hyk] at HTK HCK
       have hbA := (Below.refl wr.heap.size wr).alloc (Nat.le_refl _) (.cells #[.int .i64 y.t, .int .i64 y.i, .int .i64 y.p, .int .i64 y.s, .int .i64 y.e, .string y.n] 30)
       have HBA := hide (HR.out.2.trans (hbA.mono HR.out.2.size))
       clear hd hc hy hyk hbA
       cases B
       ·have HT2 : Hid (false = (false && (sp.take (k + 1)).all Sp.ok)) := hide (by rw [HTK.out, ← Bool.and_assoc, ← HR.out.1]; rfl)
        go_wp2_with fail
        go_roundw
        case rel => exact ⟨k + 1, false, by omega, by go_num, rfl, hide ⟨HT2.out, HBA.out⟩⟩
        case measure => simp [intOf]; omega
       ·cases yk
        all_goals
         go_wp2_with fail
         refine (HCK.out _).mono ?_
         rintro e w5 ⟨rfl, hb5⟩
         have HB5 := hide (HBA.out.trans (hb5.mono HBA.out.size))
         clear hb5
         go_wp2_with fail
         go_roundw
         case rel => exact ⟨k + 1, _, by omega, by go_num, rfl, hide ⟨by rw [HTK.out, ← Bool.and_assoc, ← HR.out.1]; rfl, HB5.out⟩⟩
         case measure => simp [intOf]; omega
      ·have HF : Hid (B = (false && sp.all Sp.ok)) := hide (by
        have h1 := HR.out.1
        rwa [List.take_of_length_le (by have := HN.out.1; omega)] at h1)
       cases B
       ·have HZ : Hid (Cm.ok ⟨2, se, sq, a, sp, vo⟩ = false) := hide (by rw [HQ.out, ← HF.out])
        go_wp2_with fail
        go_ret
        exact ⟨by rw [HZ.out]; rfl, HR.out.2⟩
       ·have hh := HF.out
        simp at hh
    case true =>
     cases T3 : (a == 0)
     case false =>
      have HC0 := hide (rnear_any se 1 1099511627776); rw [T0] at HC0
      have HC1 := hide (rnear_any sq 1 1099511627776); rw [T1] at HC1
      have HC2 := hide (rnear_any (n : Int) 1 8); rw [T2] at HC2
      have HQ : Hid (Cm.ok ⟨2, se, sq, a, sp, vo⟩ = (false && sp.all Sp.ok)) := hide (by rw [HOK.out, T0, T1, T2, T3]; rfl)
      clear HOK T0 T1 T2
      go_enter Tryz.func22, Tryz.ntmps22
      go_wp2_with (first | ((with_reducible refine (HC0.out _).mono ?_); rintro e w1 ⟨rfl, rfl⟩) | ((with_reducible refine (HC1.out _).mono ?_); rintro e w1 ⟨rfl, rfl⟩) | ((with_reducible refine (HC2.out _).mono ?_); rintro e w1 ⟨rfl, rfl⟩))
      go_loopw [4, 68] (fun b i wr => ∃ (k : Nat) (B : Bool), k ≤ n ∧ i = .int .i64 k ∧ b = .bool B ∧ Hid (B = (false && (sp.take k).all Sp.ok) ∧ Below w.heap.size w wr)) (fun _ i _ => n - (intOf i).toNat)
      case atStart => exact ⟨0, false, by omega, rfl, rfl, hide ⟨rfl, HB1.out⟩⟩
      case round =>
       obtain ⟨k, B, hk, rfl, rfl, HR⟩ := hrel
       by_cases hlt : k < n
       ·obtain ⟨y, hy⟩ : ∃ y, sp[k]? = some y := ⟨_, List.getElem?_eq_getElem (by have := HN.out.1; omega)⟩
        obtain ⟨gd, o, rfl, hc⟩ := (HS.out wr HR.out.2).at_ (by omega)
        have hd := hc k y hy
        have d0 := hd.c0
        have d1 := hd.c1
        have d2 := hd.c2
        have d3 := hd.c3
        have d4 := hd.c4
        have d5 := hd.c5
        have HTK := hide (all_take hy)
        have HCK := hide (refCheck_any y (HNM.out y (List.mem_of_getElem? hy)))
        unfold spV at HCK
        obtain ⟨yk, hyk⟩ : ∃ b, y.ok = b := ⟨_, rfl⟩
        rw [hyk] at HTK HCK
        have hbA := (Below.refl wr.heap.size wr).alloc (Nat.le_refl _) (.cells #[.int .i64 y.t, .int .i64 y.i, .int .i64 y.p, .int .i64 y.s, .int .i64 y.e, .string y.n] 30)
        have HBA := hide (HR.out.2.trans (hbA.mono HR.out.2.size))
        clear hd hc hy hyk hbA
        cases B
        ·have HT2 : Hid (false = (false && (sp.take (k + 1)).all Sp.ok)) := hide (by rw [HTK.out, ← Bool.and_assoc, ← HR.out.1]; rfl)
         go_wp2_with fail
         go_roundw
         case rel => exact ⟨k + 1, false, by omega, by go_num, rfl, hide ⟨HT2.out, HBA.out⟩⟩
         case measure => simp [intOf]; omega
        ·cases yk
         all_goals
          go_wp2_with fail
          refine (HCK.out _).mono ?_
          rintro e w5 ⟨rfl, hb5⟩
          have HB5 := hide (HBA.out.trans (hb5.mono HBA.out.size))
          clear hb5
          go_wp2_with fail
          go_roundw
          case rel => exact ⟨k + 1, _, by omega, by go_num, rfl, hide ⟨by rw [HTK.out, ← Bool.and_assoc, ← HR.out.1]; rfl, HB5.out⟩⟩
          case measure => simp [intOf]; omega
       ·have HF : Hid (B = (false && sp.all Sp.ok)) := hide (by
         have h1 := HR.out.1
         rwa [List.take_of_length_le (by have := HN.out.1; omega)] at h1)
        cases B
        ·have HZ : Hid (Cm.ok ⟨2, se, sq, a, sp, vo⟩ = false) := hide (by rw [HQ.out, ← HF.out])
         go_wp2_with fail
         go_ret
         exact ⟨by rw [HZ.out]; rfl, HR.out.2⟩
        ·have hh := HF.out
         simp at hh
     case true =>
      cases T4 : (m == 0)
      case false =>
       have HC0 := hide (rnear_any se 1 1099511627776); rw [T0] at HC0
       have HC1 := hide (rnear_any sq 1 1099511627776); rw [T1] at HC1
       have HC2 := hide (rnear_any (n : Int) 1 8); rw [T2] at HC2
       have L4 := lenB m; rw [T4] at L4
       have HQ : Hid (Cm.ok ⟨2, se, sq, a, sp, vo⟩ = (false && sp.all Sp.ok)) := hide (by rw [HOK.out, T0, T1, T2, T3, T4]; rfl)
       clear HOK T0 T1 T2 T4
       go_enter Tryz.func22, Tryz.ntmps22
       go_wp2_with (first | ((with_reducible refine (HC0.out _).mono ?_); rintro e w1 ⟨rfl, rfl⟩) | ((with_reducible refine (HC1.out _).mono ?_); rintro e w1 ⟨rfl, rfl⟩) | ((with_reducible refine (HC2.out _).mono ?_); rintro e w1 ⟨rfl, rfl⟩))
       go_loopw [4, 68] (fun b i wr => ∃ (k : Nat) (B : Bool), k ≤ n ∧ i = .int .i64 k ∧ b = .bool B ∧ Hid (B = (false && (sp.take k).all Sp.ok) ∧ Below w.heap.size w wr)) (fun _ i _ => n - (intOf i).toNat)
       case atStart => exact ⟨0, false, by omega, rfl, rfl, hide ⟨rfl, HB1.out⟩⟩
       case round =>
        obtain ⟨k, B, hk, rfl, rfl, HR⟩ := hrel
        by_cases hlt : k < n
        ·obtain ⟨y, hy⟩ : ∃ y, sp[k]? = some y := ⟨_, List.getElem?_eq_getElem (by have := HN.out.1; omega)⟩
         obtain ⟨gd, o, rfl, hc⟩ := (HS.out wr HR.out.2).at_ (by omega)
         have hd := hc k y hy
         have d0 := hd.c0
         have d1 := hd.c1
         have d2 := hd.c2
         have d3 := hd.c3
         have d4 := hd.c4
         have d5 := hd.c5
         have HTK := hide (all_take hy)
         have HCK := hide (refCheck_any y (HNM.out y (List.mem_of_getElem? hy)))
         unfold spV at HCK
         obtain ⟨yk, hyk⟩ : ∃ b, y.ok = b := ⟨_, rfl⟩
         rw [hyk] at HTK HCK
         have hbA := (Below.refl wr.heap.size wr).alloc (Nat.le_refl _) (.cells #[.int .i64 y.t, .int .i64 y.i, .int .i64 y.p, .int .i64 y.s, .int .i64 y.e, .string y.n] 30)
         have HBA := hide (HR.out.2.trans (hbA.mono HR.out.2.size))
         clear hd hc hy hyk hbA
         cases B
         ·have HT2 : Hid (false = (false && (sp.take (k + 1)).all Sp.ok)) := hide (by rw [HTK.out, ← Bool.and_assoc, ← HR.out.1]; rfl)
          go_wp2_with fail
          go_roundw
          case rel => exact ⟨k + 1, false, by omega, by go_num, rfl, hide ⟨HT2.out, HBA.out⟩⟩
          case measure => simp [intOf]; omega
         ·cases yk
          all_goals
           go_wp2_with fail
           refine (HCK.out _).mono ?_
           rintro e w5 ⟨rfl, hb5⟩
           have HB5 := hide (HBA.out.trans (hb5.mono HBA.out.size))
           clear hb5
           go_wp2_with fail
           go_roundw
           case rel => exact ⟨k + 1, _, by omega, by go_num, rfl, hide ⟨by rw [HTK.out, ← Bool.and_assoc, ← HR.out.1]; rfl, HB5.out⟩⟩
           case measure => simp [intOf]; omega
        ·have HF : Hid (B = (false && sp.all Sp.ok)) := hide (by
          have h1 := HR.out.1
          rwa [List.take_of_length_le (by have := HN.out.1; omega)] at h1)
         cases B
         ·have HZ : Hid (Cm.ok ⟨2, se, sq, a, sp, vo⟩ = false) := hide (by rw [HQ.out, ← HF.out])
          go_wp2_with fail
          go_ret
          exact ⟨by rw [HZ.out]; rfl, HR.out.2⟩
         ·have hh := HF.out
          simp at hh
      case true =>
       have HC0 := hide (rnear_any se 1 1099511627776); rw [T0] at HC0
       have HC1 := hide (rnear_any sq 1 1099511627776); rw [T1] at HC1
       have HC2 := hide (rnear_any (n : Int) 1 8); rw [T2] at HC2
       have L4 := lenB m; rw [T4] at L4
       have HQ : Hid (Cm.ok ⟨2, se, sq, a, sp, vo⟩ = (true && sp.all Sp.ok)) := hide (by rw [HOK.out, T0, T1, T2, T3, T4]; rfl)
       clear HOK T0 T1 T2 T4
       go_enter Tryz.func22, Tryz.ntmps22
       go_wp2_with (first | ((with_reducible refine (HC0.out _).mono ?_); rintro e w1 ⟨rfl, rfl⟩) | ((with_reducible refine (HC1.out _).mono ?_); rintro e w1 ⟨rfl, rfl⟩) | ((with_reducible refine (HC2.out _).mono ?_); rintro e w1 ⟨rfl, rfl⟩))
       go_loopw [4, 68] (fun b i wr => ∃ (k : Nat) (B : Bool), k ≤ n ∧ i = .int .i64 k ∧ b = .bool B ∧ Hid (B = (true && (sp.take k).all Sp.ok) ∧ Below w.heap.size w wr)) (fun _ i _ => n - (intOf i).toNat)
       case atStart => exact ⟨0, true, by omega, rfl, rfl, hide ⟨rfl, HB1.out⟩⟩
       case round =>
        obtain ⟨k, B, hk, rfl, rfl, HR⟩ := hrel
        by_cases hlt : k < n
        ·obtain ⟨y, hy⟩ : ∃ y, sp[k]? = some y := ⟨_, List.getElem?_eq_getElem (by have := HN.out.1; omega)⟩
         obtain ⟨gd, o, rfl, hc⟩ := (HS.out wr HR.out.2).at_ (by omega)
         have hd := hc k y hy
         have d0 := hd.c0
         have d1 := hd.c1
         have d2 := hd.c2
         have d3 := hd.c3
         have d4 := hd.c4
         have d5 := hd.c5
         have HTK := hide (all_take hy)
         have HCK := hide (refCheck_any y (HNM.out y (List.mem_of_getElem? hy)))
         unfold spV at HCK
         obtain ⟨yk, hyk⟩ : ∃ b, y.ok = b := ⟨_, rfl⟩
         rw [hyk] at HTK HCK
         have hbA := (Below.refl wr.heap.size wr).alloc (Nat.le_refl _) (.cells #[.int .i64 y.t, .int .i64 y.i, .int .i64 y.p, .int .i64 y.s, .int .i64 y.e, .string y.n] 30)
         have HBA := hide (HR.out.2.trans (hbA.mono HR.out.2.size))
         clear hd hc hy hyk hbA
         cases B
         ·have HT2 : Hid (false = (true && (sp.take (k + 1)).all Sp.ok)) := hide (by rw [HTK.out, ← Bool.and_assoc, ← HR.out.1]; rfl)
          go_wp2_with fail
          go_roundw
          case rel => exact ⟨k + 1, false, by omega, by go_num, rfl, hide ⟨HT2.out, HBA.out⟩⟩
          case measure => simp [intOf]; omega
         ·cases yk
          all_goals
           go_wp2_with fail
           refine (HCK.out _).mono ?_
           rintro e w5 ⟨rfl, hb5⟩
           have HB5 := hide (HBA.out.trans (hb5.mono HBA.out.size))
           clear hb5
           go_wp2_with fail
           go_roundw
           case rel => exact ⟨k + 1, _, by omega, by go_num, rfl, hide ⟨by rw [HTK.out, ← Bool.and_assoc, ← HR.out.1]; rfl, HB5.out⟩⟩
           case measure => simp [intOf]; omega
        ·have HF : Hid (B = (true && sp.all Sp.ok)) := hide (by
          have h1 := HR.out.1
          rwa [List.take_of_length_le (by have := HN.out.1; omega)] at h1)
         cases B
         ·have HZ : Hid (Cm.ok ⟨2, se, sq, a, sp, vo⟩ = false) := hide (by rw [HQ.out, ← HF.out])
          go_wp2_with fail
          go_ret
          exact ⟨by rw [HZ.out]; rfl, HR.out.2⟩
         ·have HZ : Hid (Cm.ok ⟨2, se, sq, a, sp, vo⟩ = true) := hide (by rw [HQ.out, ← HF.out])
          go_wp2_with fail
          go_ret
          exact ⟨by rw [HZ.out]; rfl, HR.out.2⟩
theorem rcheck_any {w : World} {vs vv : Value} {c : Cm} (h : CmAt w vs vv c) : Calls Tryz.prog 22 #[cmV c vs vv] w (ChkC w c) := by
 obtain ⟨p, n, d, rfl⟩ := h.sp.sl
 obtain ⟨q, m, f, rfl⟩ := h.vo.sl
 obtain ⟨k, se, sq, a, sp, vo⟩ := c
 by_cases h0 : k = 0
 ·subst h0; exact rchk0_any se sq a h
 by_cases h1 : k = 1
 ·subst h1; exact rchk1_any se sq a h
 by_cases h2 : k = 2
 ·subst h2; exact rchk2_any se sq a h
 by_cases h3 : k = 3
 ·subst h3; exact rchk3_any se sq a h
 by_cases h4 : k = 4
 ·subst h4; exact rchk4_any se sq a h
 by_cases h5 : k = 5
 ·subst h5; exact rchk5_any se sq a h
 exact rchkx_any k se sq a h0 h1 h2 h3 h4 h5 h
end Go.Proofs.YtionbmlicmibgaaGreatDoor
