import Derived.Test.YtionbmlicmibgaaGreatDoorMcPure
import Derived.Deep.RegionHeld3
import Derived.Deep.QuietTactic
import Derived.BigQuiet
namespace Go.Proofs.YtionbmlicmibgaaGreatDoor
set_option linter.unusedVariables false
set_option linter.unusedSimpArgs false
open Go.RowKit
def eno (b : Bool) (n : Int) : Int := if b = true then 0 else n
theorem btw_no1 {lo n hi : Int} (h : ¬ lo ≤ n) : btw lo n hi = false := by unfold btw; simp [h]
theorem btw_no2 {lo n hi : Int} (h : ¬ n ≤ hi) : btw lo n hi = false := by unfold btw; simp [h]
set_option maxRecDepth 100000 in
set_option maxHeartbeats 1100000 in
theorem between_any (w : World) (lo n hi : Int) : Calls Tryz.prog 59 #[.int .i64 lo, .int .i64 n, .int .i64 hi] w fun e w' => e = .returned (.bool (btw lo n hi)) ∧ w = w' := by
 by_cases h1 : lo ≤ n
 ·by_cases h2 : n ≤ hi
  ·have HC := hide (btw_iff.2 ⟨h1, h2⟩)
   go_enter Tryz.func59, Tryz.ntmps59
   go_wp2
   go_ret
   exact ⟨by rw [HC.out]; rfl, rfl⟩
  ·have HC := hide (btw_no2 (lo := lo) h2)
   go_enter Tryz.func59, Tryz.ntmps59
   go_wp2
   go_ret
   exact ⟨by rw [HC.out]; rfl, rfl⟩
 ·have HC := hide (btw_no1 (hi := hi) h1)
  go_enter Tryz.func59, Tryz.ntmps59
  go_wp2
  go_ret
  exact ⟨by rw [HC.out]; rfl, rfl⟩
set_option maxRecDepth 100000 in
theorem vcount1_any (w : World) : Calls Tryz.prog 139 #[.int .i64 1] w fun e w' => e = .returned (.bool true) ∧ w = w' := by
 go_enter Tryz.func139, Tryz.ntmps139
 go_wp2
 go_ret
 exact ⟨rfl, rfl⟩
def OkRP (w : World) (l : List Int) (e : Ending) (w' : World) : Prop := e = .returned (.bool (okR l)) ∧ w = w'
set_option maxRecDepth 100000 in
set_option maxHeartbeats 1100000 in
theorem vvote_any {w : World} {v : Value} {l : List Int} (h : Ns w v l) : Calls Tryz.prog 140 #[v] w (OkRP w l) := by
 obtain ⟨p, n, c, rfl⟩ := h.sl
 have hn := h.len
 have hnl := hn.1
 subst hnl
 have hbig : l.length ≤ maxLen := Nat.le_trans hn.2.1 hn.2.2
 unfold maxLen at hbig
 have H := hide h
 have HC := hide (fun h0 : 0 < l.length => h.at_ h0)
 clear h hn
 by_cases h0 : 0 < l.length
 ·obtain ⟨g, o, rfl, hc⟩ := HC.out h0
  have HC2 := hide hc
  have HOK : Hid (okR l = okFrom 0 l) := by
   cases l with
   | nil => simp at h0
   | cons x r => rfl
  clear hc HC H
  go_enter Tryz.func140, Tryz.ntmps140
  go_wp2
  go_loop [3, 5, 8] (fun lo _ i => ∃ (k : Nat) (z : Int), k ≤ l.length ∧ -1 ≤ z ∧ z ≤ 6 ∧ i = .int .i64 k ∧ lo = .int .i64 z ∧ Hid (okFrom 0 l = okFrom (z + 1) (l.drop k))) (fun _ _ i => l.length - (intOf i).toNat)
  case atStart => exact ⟨0, -1, by omega, by omega, by omega, rfl, rfl, hide (by rw [List.drop_zero]; rfl)⟩
  case round =>
   obtain ⟨k, z, hk, hz0, hz7, rfl, rfl, HR⟩ := hrel
   by_cases hlt : k < l.length
   ·have hx := List.getElem?_eq_getElem hlt
    have hcell := HC2.out k _ hx
    have HD : Hid (l.drop k = l[k] :: l.drop (k + 1)) := hide (List.drop_eq_getElem_cons hlt)
    obtain ⟨x, hxx⟩ : ∃ x, l[k] = x := ⟨_, rfl⟩
    rw [hxx] at hcell HD
    clear hx hxx
    have HF : Hid (okFrom (z + 1) (x :: l.drop (k + 1)) = (decide (z + 1 ≤ x) && decide (x < 7) && okFrom (x + 1) (l.drop (k + 1)))) := hide rfl
    by_cases hzx : x ≤ z
    ·have HX : Hid (okR l = false) := hide (by
      rw [HOK.out, HR.out, HD.out, HF.out, decide_eq_false (by omega : ¬ z + 1 ≤ x)]
      rfl)
     clear HF HD HR HOK
     go_wp2
     go_ret
     exact ⟨ret_b HX.out, rfl⟩
    ·by_cases hx7 : 7 ≤ x
     ·have HX : Hid (okR l = false) := hide (by
       rw [HOK.out, HR.out, HD.out, HF.out, decide_eq_false (by omega : ¬ x < 7), Bool.and_false]
       rfl)
      clear HF HD HR HOK
      go_wp2
      go_ret
      exact ⟨ret_b HX.out, rfl⟩
     ·have HX : Hid (okFrom 0 l = okFrom (x + 1) (l.drop (k + 1))) := hide (by
       rw [HR.out, HD.out, HF.out, decide_eq_true (by omega : z + 1 ≤ x), decide_eq_true (by omega : x < 7)]
       rfl)
      clear HF HD HR
      go_wp2
      go_round
      case rel => exact ⟨k + 1, x, by omega, by omega, by omega, by go_num, rfl, HX⟩
      case measure => simp [intOf]; omega
   ·have HX : Hid (okR l = true) := hide (by
     rw [HOK.out, HR.out, List.drop_eq_nil_of_le (by omega)]
     rfl)
    clear HR HOK
    go_wp2
    go_ret
    exact ⟨ret_b HX.out, rfl⟩
 ·obtain rfl : l = [] := List.eq_nil_of_length_eq_zero (by omega)
  clear HC H h0
  go_enter Tryz.func140, Tryz.ntmps140
  go_wp2
  go_loop [3, 5, 8] (fun lo _ i => lo = .int .i64 (-1) ∧ i = .int .i64 0) (fun _ _ _ => 0)
  case atStart => exact ⟨rfl, rfl⟩
  case round =>
   obtain ⟨rfl, rfl⟩ := hrel
   go_wp2
   go_ret
   exact ⟨rfl, rfl⟩
set_option maxRecDepth 100000 in
set_option maxHeartbeats 2000000 in
theorem vcheck_any {w : World} {v : Value} {l : List Int} (h : Ns w v l) : Calls Tryz.prog 104 #[.agg #[.int .i64 1, .int .i64 1, v, .slice none 0 0]] w fun e w' => e = .returned (.int .i64 (eno (okR l) 60)) ∧ Below w.heap.size w w' := by
 obtain ⟨p, n, c, rfl⟩ := h.sl
 have hbx := (Below.refl w.heap.size w).alloc (Nat.le_refl _) (.cells #[.int .i64 1, .int .i64 1, .slice p n c, .slice none 0 0] 159)
 have HV := hide (vvote_any (h.below hbx))
 have HB := hide hbx
 clear h hbx
 cases hq : okR l
 all_goals
  unfold OkRP at HV
  rw [hq] at HV
  clear hq
  go_enter Tryz.func104, Tryz.ntmps104
  go_wp2_with fail
  refine (vcount1_any _).mono ?_
  rintro e w1 ⟨rfl, rfl⟩
  go_wp2_with fail
  refine (vcount1_any _).mono ?_
  rintro e w1 ⟨rfl, rfl⟩
  go_wp2_with fail
  refine HV.out.mono ?_
  rintro e w1 ⟨rfl, rfl⟩
  go_wp2
  go_ret
  exact ⟨rfl, HB.out⟩
set_option maxRecDepth 100000 in
set_option maxHeartbeats 2000000 in
theorem mvote_any {w : World} {v : Value} {l : List Int} (h : Ns w v l) : Calls Tryz.prog 61 #[v] w fun e w' => e = .returned (.bool (okR l)) ∧ Below w.heap.size w w' := by
 obtain ⟨p, n, c, rfl⟩ := h.sl
 have HV := hide (vcheck_any h)
 clear h
 cases hq : okR l
 all_goals
  rw [hq] at HV
  clear hq
  go_enter Tryz.func61, Tryz.ntmps61
  go_wp2_with fail
  refine HV.out.mono ?_
  rintro e w1 ⟨rfl, hb1⟩
  have HB := hide hb1
  clear hb1
  go_wp2
  go_ret
  exact ⟨rfl, HB.out⟩
theorem all_take {l : List Sp} {k : Nat} {x : Sp} (h : l[k]? = some x) : (l.take (k + 1)).all Sp.ok = ((l.take k).all Sp.ok && x.ok) := by
 rw [List.take_add_one, h]
 simp
theorem all_no {l : List Sp} {x : Sp} (h : x ∈ l) (hx : x.ok = false) : l.all Sp.ok = false := by
 rw [List.all_eq_false]
 exact ⟨x, h, by rw [hx]; simp⟩
set_option maxRecDepth 200000 in
set_option maxHeartbeats 4000000 in
theorem ming_any {w : World} {v : Value} {l : List Sp} (hv : Sps w v l) (hnm : ∀ x ∈ l, x.n.size ≤ 1100000) : Calls Tryz.prog 60 #[v] w fun e w' => e = .returned (.bool (spsOk l)) ∧ Below w.heap.size w w' := by
 obtain ⟨p, n, c, rfl⟩ := hv.sl
 have hn := hv.len.1
 have hmx : n ≤ maxLen := Nat.le_trans hv.len.2.1 hv.len.2.2
 unfold maxLen at hmx
 have HN := hide hn
 have HV := hide hv
 have HNM := hide hnm
 have HB0 := hide (Below.refl w.heap.size w)
 by_cases h8 : 1 ≤ n ∧ n ≤ 8
 ·have hbt : btw 1 (n : Int) 8 = true := btw_iff.2 (by omega)
  have HSP : Hid (spsOk l = l.all Sp.ok) := hide (by unfold spsOk; rw [← hn, hbt]; rfl)
  have HBT : Hid (∀ w, Calls Tryz.prog 59 #[.int .i64 1, .int .i64 (n : Int), .int .i64 8] w fun e w' => e = .returned (.bool true) ∧ w = w') := hide (fun w => by have := between_any w 1 n 8; rw [hbt] at this; exact this)
  obtain ⟨h81, h82⟩ := h8
  clear hv hn hnm hbt hmx
  go_enter Tryz.func60, Tryz.ntmps60
  go_wp2_with fail
  refine (HBT.out _).mono ?_
  rintro e w1 ⟨rfl, rfl⟩
  go_wp2_with fail
  go_loopw [4, 11] (fun _ ix wr => ∃ k : Nat, k ≤ n ∧ ix = .int .i64 k ∧ Hid (Below w.heap.size w wr ∧ (l.take k).all Sp.ok = true)) (fun _ ix _ => n - (intOf ix).toNat)
  case atStart => exact ⟨0, by omega, rfl, hide ⟨HB0.out, rfl⟩⟩
  case round =>
   obtain ⟨k, hk, rfl, HR⟩ := hrel
   by_cases hlt : (k : Int) < (n : Int)
   ·obtain ⟨gv, ov, rfl, hx⟩ := HV.out.at_ (by omega)
    obtain ⟨x, hxk⟩ : ∃ x, l[k]? = some x := ⟨_, List.getElem?_eq_getElem (by have := HN.out; omega)⟩
    have hat := (hx k x hxk).below HR.out.1
    obtain ⟨oo, hoo⟩ : ∃ oo, ov + k * 6 = oo := ⟨_, rfl⟩
    rw [hoo] at hat
    have z0 := hat.c0
    have z1 := hat.c1
    have z2 := hat.c2
    have z3 := hat.c3
    have z4 := hat.c4
    have z5 := hat.c5
    have HCK := hide (check_any x (HNM.out x (List.mem_of_getElem? hxk)))
    have HXK := hide hxk
    have HOO := hide hoo
    obtain ⟨xt, xi, xp, xs, xe, xn⟩ := x
    dsimp only at z0 z1 z2 z3 z4 z5
    unfold spV at HCK
    dsimp only at HCK
    have k0 : (0 : Int) ≤ (k : Int) := by omega
    have hb1 := (Below.refl wr.heap.size wr).alloc (Nat.le_refl _) (.cells #[.int .i64 xt, .int .i64 xi, .int .i64 xp, .int .i64 xs, .int .i64 xe, .string xn] 30)
    have HB1 := hide (HR.out.1.trans (hb1.mono HR.out.1.size))
    clear hxk hat hx hb1
    cases hok : Sp.ok ⟨xt, xi, xp, xs, xe, xn⟩
    ·rw [hok] at HCK
     have HX : Hid (spsOk l = false) := hide (by rw [HSP.out]; exact all_no (List.mem_of_getElem? HXK.out) hok)
     clear hok
     go_wp2_with fail
     refine (HCK.out _).mono ?_
     rintro e w5 ⟨rfl, hb5⟩
     have HB5 := hide (HB1.out.trans (hb5.mono HB1.out.size))
     clear hb5
     go_wp2
     go_ret
     exact ⟨ret_b HX.out, HB5.out⟩
    ·rw [hok] at HCK
     have HX : Hid ((l.take (k + 1)).all Sp.ok = true) := hide (by rw [all_take HXK.out, HR.out.2, hok]; rfl)
     clear hok
     go_wp2_with fail
     refine (HCK.out _).mono ?_
     rintro e w5 ⟨rfl, hb5⟩
     have HB5 := hide (HB1.out.trans (hb5.mono HB1.out.size))
     clear hb5
     go_wp2
     go_roundw
     case rel => exact ⟨k + 1, by omega, by go_num, hide ⟨HB5.out, HX.out⟩⟩
     case measure => simp [intOf]; omega
   ·have HX : Hid (spsOk l = true) := hide (by
     have h1 := HR.out.2
     rw [List.take_of_length_le (by have := HN.out; omega)] at h1
     rw [HSP.out]; exact h1)
    go_wp2
    go_ret
    exact ⟨ret_b HX.out, HR.out.1⟩
 ·have hbt : btw 1 (n : Int) 8 = false := by
   by_cases h1 : (1 : Int) ≤ n
   ·exact btw_no2 (by omega)
   ·exact btw_no1 h1
  have HSP : Hid (spsOk l = false) := hide (by unfold spsOk; rw [← hn, hbt]; rfl)
  have HBT : Hid (∀ w, Calls Tryz.prog 59 #[.int .i64 1, .int .i64 (n : Int), .int .i64 8] w fun e w' => e = .returned (.bool false) ∧ w = w') := hide (fun w => by have := between_any w 1 n 8; rw [hbt] at this; exact this)
  clear hv hn hnm hbt h8
  go_enter Tryz.func60, Tryz.ntmps60
  go_wp2_with fail
  refine (HBT.out _).mono ?_
  rintro e w1 ⟨rfl, rfl⟩
  go_wp2
  go_ret
  exact ⟨ret_b HSP.out, HB0.out⟩
def cmV (c : Cm) (vs vv : Value) : Value := .agg #[.int .i64 c.k, .int .i64 c.se, .int .i64 c.sq, .int .i64 c.a, vs, vv]
structure CmAt (w : World) (vs vv : Value) (c : Cm) : Prop where
 sp : Sps w vs c.sp
 vo : Ns w vv c.vo
 nm : ∀ x ∈ c.sp, x.n.size ≤ 1100000
theorem CmAt.below {w w' : World} {vs vv : Value} {c : Cm} (h : CmAt w vs vv c) (hb : Below w.heap.size w w') : CmAt w' vs vv c := ⟨h.sp.below hb, h.vo.below hb, h.nm⟩
set_option maxRecDepth 100000 in
set_option maxHeartbeats 4000000 in
theorem fields2_any (w : World) (se sq a : Int) (p : Option Addr) (n d : Nat) (q : Option Addr) (m f : Nat) : Calls Tryz.prog 63 #[.agg #[.int .i64 2, .int .i64 se, .int .i64 sq, .int .i64 a, .slice p n d, .slice q m f]] w fun e w' => e = .returned (.agg #[.int .i64 2, .int .i64 se, .int .i64 sq, .int .i64 0, .slice p n d, .slice none 0 0]) ∧ Below w.heap.size w w' := by
 go_enter Tryz.func63, Tryz.ntmps63
 go_wp2
 go_region
 all_goals go_wp2
 all_goals exact bodyPost_ret (v := .agg #[.int .i64 2, .int .i64 se, .int .i64 sq, .int .i64 0, .slice p n d, .slice none 0 0]) (by simp [results, Tryz.results63, go_sem]) rfl ⟨rfl, ((((Below.refl _ _).alloc (Nat.le_refl _) _).alloc (by simp) _).alloc (by simp; omega) _).drew⟩
set_option maxRecDepth 100000 in
set_option maxHeartbeats 4000000 in
theorem fields3_any (w : World) (se sq a : Int) (p : Option Addr) (n d : Nat) (q : Option Addr) (m f : Nat) : Calls Tryz.prog 63 #[.agg #[.int .i64 3, .int .i64 se, .int .i64 sq, .int .i64 a, .slice p n d, .slice q m f]] w fun e w' => e = .returned (.agg #[.int .i64 3, .int .i64 0, .int .i64 0, .int .i64 a, .slice none 0 0, .slice none 0 0]) ∧ Below w.heap.size w w' := by
 go_enter Tryz.func63, Tryz.ntmps63
 go_wp2
 exact bodyPost_ret (v := .agg #[.int .i64 3, .int .i64 0, .int .i64 0, .int .i64 a, .slice none 0 0, .slice none 0 0]) (by simp [results, Tryz.results63, go_sem]) rfl ⟨rfl, (((Below.refl _ _).alloc (Nat.le_refl _) _).alloc (by simp) _).alloc (by simp; omega) _⟩
set_option maxRecDepth 100000 in
set_option maxHeartbeats 4000000 in
theorem fields4_any (w : World) (se sq a : Int) (p : Option Addr) (n d : Nat) (q : Option Addr) (m f : Nat) : Calls Tryz.prog 63 #[.agg #[.int .i64 4, .int .i64 se, .int .i64 sq, .int .i64 a, .slice p n d, .slice q m f]] w fun e w' => e = .returned (.agg #[.int .i64 4, .int .i64 0, .int .i64 0, .int .i64 a, .slice none 0 0, .slice none 0 0]) ∧ Below w.heap.size w w' := by
 go_enter Tryz.func63, Tryz.ntmps63
 go_wp2
 exact bodyPost_ret (v := .agg #[.int .i64 4, .int .i64 0, .int .i64 0, .int .i64 a, .slice none 0 0, .slice none 0 0]) (by simp [results, Tryz.results63, go_sem]) rfl ⟨rfl, (((Below.refl _ _).alloc (Nat.le_refl _) _).alloc (by simp) _).alloc (by simp; omega) _⟩
set_option maxRecDepth 100000 in
set_option maxHeartbeats 4000000 in
theorem fields5_any (w : World) (se sq a : Int) (p : Option Addr) (n d : Nat) (q : Option Addr) (m f : Nat) : Calls Tryz.prog 63 #[.agg #[.int .i64 5, .int .i64 se, .int .i64 sq, .int .i64 a, .slice p n d, .slice q m f]] w fun e w' => e = .returned (.agg #[.int .i64 5, .int .i64 0, .int .i64 0, .int .i64 0, .slice none 0 0, .slice q m f]) ∧ Below w.heap.size w w' := by
 go_enter Tryz.func63, Tryz.ntmps63
 go_wp2
 exact bodyPost_ret (v := .agg #[.int .i64 5, .int .i64 0, .int .i64 0, .int .i64 0, .slice none 0 0, .slice q m f]) (by simp [results, Tryz.results63, go_sem]) rfl ⟨rfl, (((Below.refl _ _).alloc (Nat.le_refl _) _).alloc (by simp) _).alloc (by simp; omega) _⟩
set_option maxRecDepth 100000 in
set_option maxHeartbeats 4000000 in
theorem fieldsO_any (w : World) (k se sq a : Int) (h2 : (k == 2) = false) (h3 : (k == 3) = false) (h4 : (k == 4) = false) (h5 : (k == 5) = false) (p : Option Addr) (n d : Nat) (q : Option Addr) (m f : Nat) : Calls Tryz.prog 63 #[.agg #[.int .i64 k, .int .i64 se, .int .i64 sq, .int .i64 a, .slice p n d, .slice q m f]] w fun e w' => e = .returned (.agg #[.int .i64 k, .int .i64 0, .int .i64 0, .int .i64 0, .slice none 0 0, .slice none 0 0]) ∧ Below w.heap.size w w' := by
 go_enter Tryz.func63, Tryz.ntmps63
 go_wp2
 exact bodyPost_ret (v := .agg #[.int .i64 k, .int .i64 0, .int .i64 0, .int .i64 0, .slice none 0 0, .slice none 0 0]) (by simp [results, Tryz.results63, go_sem]) rfl ⟨rfl, (((Below.refl _ _).alloc (Nat.le_refl _) _).alloc (by simp) _).alloc (by simp; omega) _⟩
def likeB (k se sq a : Int) (n m : Nat) (k' se' sq' a' : Int) (n' m' : Nat) : Bool := k == k' && (se == se' && (sq == sq' && (a == a' && (n == n' && m == m'))))
set_option maxRecDepth 100000 in
set_option maxHeartbeats 4000000 in
theorem like_any (w : World) (k se sq a : Int) (p : Option Addr) (n d : Nat) (q : Option Addr) (m f : Nat) (k' se' sq' a' : Int) (p' : Option Addr) (n' d' : Nat) (q' : Option Addr) (m' f' : Nat) : Calls Tryz.prog 62 #[.agg #[.int .i64 k, .int .i64 se, .int .i64 sq, .int .i64 a, .slice p n d, .slice q m f], .agg #[.int .i64 k', .int .i64 se', .int .i64 sq', .int .i64 a', .slice p' n' d', .slice q' m' f']] w fun e w' => e = .returned (.bool (likeB k se sq a n m k' se' sq' a' n' m')) ∧ Below w.heap.size w w' := by
 have HB : Hid (∀ c1 c2 : Obj, Below w.heap.size w ((w.alloc c1).alloc c2)) := hide fun c1 c2 => ((Below.refl _ _).alloc (Nat.le_refl _) _).alloc (by simp) _
 obtain ⟨R, hR⟩ : ∃ R, likeB k se sq a n m k' se' sq' a' n' m' = R := ⟨_, rfl⟩
 rw [hR]
 unfold likeB at hR
 by_cases b0 : k = k'
 ·have eb0 : (k == k') = true := by simpa using b0
  rw [eb0] at hR
  try simp only [Bool.true_and] at hR
  by_cases b1 : se = se'
  ·have eb1 : (se == se') = true := by simpa using b1
   rw [eb1] at hR
   try simp only [Bool.true_and] at hR
   by_cases b2 : sq = sq'
   ·have eb2 : (sq == sq') = true := by simpa using b2
    rw [eb2] at hR
    try simp only [Bool.true_and] at hR
    by_cases b3 : a = a'
    ·have eb3 : (a == a') = true := by simpa using b3
     rw [eb3] at hR
     try simp only [Bool.true_and] at hR
     by_cases b4 : n = n'
     ·have eb4 : (n == n') = true := by simpa using b4
      have fb4 : (((n : Nat) : Int) == ((n' : Nat) : Int)) = true := by simp; omega
      rw [eb4] at hR
      try simp only [Bool.true_and] at hR
      by_cases b5 : m = m'
      ·have eb5 : (m == m') = true := by simpa using b5
       have fb5 : (((m : Nat) : Int) == ((m' : Nat) : Int)) = true := by simp; omega
       rw [eb5] at hR
       try simp only [Bool.true_and] at hR
       have HR := hide hR
       clear hR
       go_enter Tryz.func62, Tryz.ntmps62
       go_wp2
       go_ret
       exact ⟨ret_b HR.out.symm, HB.out _ _⟩
      ·have eb5 : (m == m') = false := by simpa using b5
       have fb5 : (((m : Nat) : Int) == ((m' : Nat) : Int)) = false := by simp; omega
       rw [eb5] at hR
       try simp only [Bool.false_and, Bool.and_false, Bool.true_and] at hR
       have HR := hide hR
       clear hR
       go_enter Tryz.func62, Tryz.ntmps62
       go_wp2
       go_ret
       exact ⟨ret_b HR.out.symm, HB.out _ _⟩
     ·have eb4 : (n == n') = false := by simpa using b4
      have fb4 : (((n : Nat) : Int) == ((n' : Nat) : Int)) = false := by simp; omega
      rw [eb4] at hR
      try simp only [Bool.false_and, Bool.and_false, Bool.true_and] at hR
      have HR := hide hR
      clear hR
      go_enter Tryz.func62, Tryz.ntmps62
      go_wp2
      go_ret
      exact ⟨ret_b HR.out.symm, HB.out _ _⟩
    ·have eb3 : (a == a') = false := by simpa using b3
     rw [eb3] at hR
     try simp only [Bool.false_and, Bool.and_false, Bool.true_and] at hR
     have HR := hide hR
     clear hR
     go_enter Tryz.func62, Tryz.ntmps62
     go_wp2
     go_ret
     exact ⟨ret_b HR.out.symm, HB.out _ _⟩
   ·have eb2 : (sq == sq') = false := by simpa using b2
    rw [eb2] at hR
    try simp only [Bool.false_and, Bool.and_false, Bool.true_and] at hR
    have HR := hide hR
    clear hR
    go_enter Tryz.func62, Tryz.ntmps62
    go_wp2
    go_ret
    exact ⟨ret_b HR.out.symm, HB.out _ _⟩
  ·have eb1 : (se == se') = false := by simpa using b1
   rw [eb1] at hR
   try simp only [Bool.false_and, Bool.and_false, Bool.true_and] at hR
   have HR := hide hR
   clear hR
   go_enter Tryz.func62, Tryz.ntmps62
   go_wp2
   go_ret
   exact ⟨ret_b HR.out.symm, HB.out _ _⟩
 ·have eb0 : (k == k') = false := by simpa using b0
  rw [eb0] at hR
  try simp only [Bool.false_and, Bool.and_false, Bool.true_and] at hR
  have HR := hide hR
  clear hR
  go_enter Tryz.func62, Tryz.ntmps62
  go_wp2
  go_ret
  exact ⟨ret_b HR.out.symm, HB.out _ _⟩
def ChkC (w : World) (c : Cm) (e : Ending) (w' : World) : Prop := e = .returned (.int .i64 (eno c.ok 90)) ∧ Below w.heap.size w w'
theorem rowC (w : World) (k se sq a : Int) (vs vv : Value) : (w.alloc (.cells #[.int .i64 k, .int .i64 se, .int .i64 sq, .int .i64 a, vs, vv] 25)).heap[w.heap.size]? = some (.cells #[.int .i64 k, .int .i64 se, .int .i64 sq, .int .i64 a, vs, vv] 25 (0, 0)) := heap_alloc_new _ _
def BoxC (w : World) (b : Nat) (k se sq a : Int) (vs vv : Value) : Prop := w.cell? ⟨b, 0, none⟩ = some (.int .i64 k) ∧ w.cell? ⟨b, 1, none⟩ = some (.int .i64 se) ∧ w.cell? ⟨b, 2, none⟩ = some (.int .i64 sq) ∧ w.cell? ⟨b, 3, none⟩ = some (.int .i64 a) ∧ w.cell? ⟨b, 4, none⟩ = some vs ∧ w.cell? ⟨b, 5, none⟩ = some vv
theorem BoxC.new (w : World) (k se sq a : Int) (vs vv : Value) : BoxC (w.alloc (.cells #[.int .i64 k, .int .i64 se, .int .i64 sq, .int .i64 a, vs, vv] 25)) w.heap.size k se sq a vs vv := by
 have h := rowC w k se sq a vs vv
 refine ⟨?_, ?_, ?_, ?_, ?_, ?_⟩
 ·have := cell_of_row _ _ 0 _ 25 (0, 0) h; rw [this]; rfl
 ·have := cell_of_row _ _ 1 _ 25 (0, 0) h; rw [this]; rfl
 ·have := cell_of_row _ _ 2 _ 25 (0, 0) h; rw [this]; rfl
 ·have := cell_of_row _ _ 3 _ 25 (0, 0) h; rw [this]; rfl
 ·have := cell_of_row _ _ 4 _ 25 (0, 0) h; rw [this]; rfl
 ·have := cell_of_row _ _ 5 _ 25 (0, 0) h; rw [this]; rfl
theorem BoxC.below {w w' : World} {b : Nat} {k se sq a : Int} {vs vv : Value} (h : BoxC w b k se sq a vs vv) (hb : Below w.heap.size w w') : BoxC w' b k se sq a vs vv := by
 have hlt := lt_of_cell h.1
 have e : ∀ i, w'.cell? ⟨b, i, none⟩ = w.cell? ⟨b, i, none⟩ := fun i => hb.cell (p := ⟨b, i, none⟩) hlt
 unfold BoxC
 rw [e, e, e, e, e, e]
 exact h
theorem BoxC.drew {w : World} {b : Nat} {k se sq a : Int} {vs vv : Value} (h : BoxC w b k se sq a vs vv) : BoxC w.drew b k se sq a vs vv := h
set_option maxRecDepth 200000 in
set_option maxHeartbeats 8000000 in
theorem check3_any (w : World) (se sq a : Int)  (p : Option Addr) (n d : Nat) (q : Option Addr) (m f : Nat) : Calls Tryz.prog 21 #[.agg #[.int .i64 3, .int .i64 se, .int .i64 sq, .int .i64 a, .slice p n d, .slice q m f]] w fun e w' => e = .returned (.int .i64 (eno ((btw 0 a 1099511627776) && likeB 3 se sq a n m 3 0 0 a 0 0) 90)) ∧ Below w.heap.size w w' := by
 obtain ⟨A, hA⟩ : ∃ A, btw 0 a 1099511627776 = A := ⟨_, rfl⟩
 have HA : Hid (∀ w, Calls Tryz.prog 59 #[.int .i64 0, .int .i64 a, .int .i64 1099511627776] w fun e w' => e = .returned (.bool A) ∧ w = w') := hide fun w => by rw [← hA]; exact between_any _ _ _ _
 obtain ⟨L, hL⟩ : ∃ L, likeB 3 se sq a n m 3 0 0 a 0 0 = L := ⟨_, rfl⟩
 have HL : Hid (∀ w, Calls Tryz.prog 62 #[.agg #[.int .i64 3, .int .i64 se, .int .i64 sq, .int .i64 a, .slice p n d, .slice q m f], .agg #[.int .i64 3, .int .i64 0, .int .i64 0, .int .i64 a, .slice none 0 0, .slice none 0 0]] w fun e w' => e = .returned (.bool L) ∧ Below w.heap.size w w') := hide fun w => by rw [← hL]; exact like_any w _ _ _ _ _ _ _ _ _ _ _ _ _ _ _ _ _ _ _ _
 have HF : Hid (∀ w, Calls Tryz.prog 63 #[.agg #[.int .i64 3, .int .i64 se, .int .i64 sq, .int .i64 a, .slice p n d, .slice q m f]] w fun e w' => e = .returned (.agg #[.int .i64 3, .int .i64 0, .int .i64 0, .int .i64 a, .slice none 0 0, .slice none 0 0]) ∧ Below w.heap.size w w') := hide fun w => fields3_any w se sq a p n d q m f
 rw [hA, hL]
 have HBX := hide (BoxC.new w 3 se sq a (.slice p n d) (.slice q m f))
 have HB1 := hide ((Below.refl w.heap.size w).alloc (Nat.le_refl _) (.cells #[.int .i64 3, .int .i64 se, .int .i64 sq, .int .i64 a, .slice p n d, .slice q m f] 25))
 clear hA hL
 cases A
 ·go_enter Tryz.func21, Tryz.ntmps21
  go_wp2_with (first | ((with_reducible refine (HA.out _).mono ?_); rintro e w1 ⟨rfl, rfl⟩))
  go_quiet (fail)
  go_wp2
  go_ret
  exact ⟨rfl, HB1.out.trans ((bdrew _ _).mono HB1.out.size)⟩
 ·go_enter Tryz.func21, Tryz.ntmps21
  go_wp2_with (first | ((with_reducible refine (HA.out _).mono ?_); rintro e w1 ⟨rfl, rfl⟩))
  go_region_held3 (fun U => U.cell? ⟨w.heap.size, 0, none⟩ = some (.int .i64 3) ∧ U.cell? ⟨w.heap.size, 1, none⟩ = some (.int .i64 se) ∧ U.cell? ⟨w.heap.size, 2, none⟩ = some (.int .i64 sq) ∧ U.cell? ⟨w.heap.size, 3, none⟩ = some (.int .i64 a) ∧ U.cell? ⟨w.heap.size, 4, none⟩ = some (.slice p n d) ∧ U.cell? ⟨w.heap.size, 5, none⟩ = some (.slice q m f)) (first | exact HBX.out | exact (HBX.out.drew).below hb5 | exact ((HBX.out.drew).below hb5).below hb6) (first | (go_at_call 63; refine (HF.out _).mono ?_; rintro e5 w5 ⟨rfl, hb5⟩) | (go_at_call 62; refine (HL.out _).mono ?_; rintro e6 w6 ⟨rfl, hb6⟩))
  cases L
  all_goals
   go_wp2
   go_ret
   exact ⟨rfl, HB1.out.trans (((bdrew _ 1).trans (hb5.trans (hb6.mono hb5.size))).mono HB1.out.size)⟩
set_option maxRecDepth 200000 in
set_option maxHeartbeats 8000000 in
theorem check4_any (w : World) (se sq a : Int)  (p : Option Addr) (n d : Nat) (q : Option Addr) (m f : Nat) : Calls Tryz.prog 21 #[.agg #[.int .i64 4, .int .i64 se, .int .i64 sq, .int .i64 a, .slice p n d, .slice q m f]] w fun e w' => e = .returned (.int .i64 (eno ((btw 0 a 1099511627777) && likeB 4 se sq a n m 4 0 0 a 0 0) 90)) ∧ Below w.heap.size w w' := by
 obtain ⟨A, hA⟩ : ∃ A, btw 0 a 1099511627777 = A := ⟨_, rfl⟩
 have HA : Hid (∀ w, Calls Tryz.prog 59 #[.int .i64 0, .int .i64 a, .int .i64 1099511627777] w fun e w' => e = .returned (.bool A) ∧ w = w') := hide fun w => by rw [← hA]; exact between_any _ _ _ _
 obtain ⟨L, hL⟩ : ∃ L, likeB 4 se sq a n m 4 0 0 a 0 0 = L := ⟨_, rfl⟩
 have HL : Hid (∀ w, Calls Tryz.prog 62 #[.agg #[.int .i64 4, .int .i64 se, .int .i64 sq, .int .i64 a, .slice p n d, .slice q m f], .agg #[.int .i64 4, .int .i64 0, .int .i64 0, .int .i64 a, .slice none 0 0, .slice none 0 0]] w fun e w' => e = .returned (.bool L) ∧ Below w.heap.size w w') := hide fun w => by rw [← hL]; exact like_any w _ _ _ _ _ _ _ _ _ _ _ _ _ _ _ _ _ _ _ _
 have HF : Hid (∀ w, Calls Tryz.prog 63 #[.agg #[.int .i64 4, .int .i64 se, .int .i64 sq, .int .i64 a, .slice p n d, .slice q m f]] w fun e w' => e = .returned (.agg #[.int .i64 4, .int .i64 0, .int .i64 0, .int .i64 a, .slice none 0 0, .slice none 0 0]) ∧ Below w.heap.size w w') := hide fun w => fields4_any w se sq a p n d q m f
 rw [hA, hL]
 have HBX := hide (BoxC.new w 4 se sq a (.slice p n d) (.slice q m f))
 have HB1 := hide ((Below.refl w.heap.size w).alloc (Nat.le_refl _) (.cells #[.int .i64 4, .int .i64 se, .int .i64 sq, .int .i64 a, .slice p n d, .slice q m f] 25))
 clear hA hL
 cases A
 ·go_enter Tryz.func21, Tryz.ntmps21
  go_wp2_with (first | ((with_reducible refine (HA.out _).mono ?_); rintro e w1 ⟨rfl, rfl⟩))
  go_quiet (fail)
  go_wp2
  go_ret
  exact ⟨rfl, HB1.out.trans ((bdrew _ _).mono HB1.out.size)⟩
 ·go_enter Tryz.func21, Tryz.ntmps21
  go_wp2_with (first | ((with_reducible refine (HA.out _).mono ?_); rintro e w1 ⟨rfl, rfl⟩))
  go_region_held3 (fun U => U.cell? ⟨w.heap.size, 0, none⟩ = some (.int .i64 4) ∧ U.cell? ⟨w.heap.size, 1, none⟩ = some (.int .i64 se) ∧ U.cell? ⟨w.heap.size, 2, none⟩ = some (.int .i64 sq) ∧ U.cell? ⟨w.heap.size, 3, none⟩ = some (.int .i64 a) ∧ U.cell? ⟨w.heap.size, 4, none⟩ = some (.slice p n d) ∧ U.cell? ⟨w.heap.size, 5, none⟩ = some (.slice q m f)) (first | exact HBX.out | exact (HBX.out.drew).below hb5 | exact ((HBX.out.drew).below hb5).below hb6) (first | (go_at_call 63; refine (HF.out _).mono ?_; rintro e5 w5 ⟨rfl, hb5⟩) | (go_at_call 62; refine (HL.out _).mono ?_; rintro e6 w6 ⟨rfl, hb6⟩))
  cases L
  all_goals
   go_wp2
   go_ret
   exact ⟨rfl, HB1.out.trans (((bdrew _ 1).trans (hb5.trans (hb6.mono hb5.size))).mono HB1.out.size)⟩
set_option maxRecDepth 200000 in
set_option maxHeartbeats 8000000 in
theorem check0_any (w : World) (se sq a : Int)  (p : Option Addr) (n d : Nat) (q : Option Addr) (m f : Nat) : Calls Tryz.prog 21 #[.agg #[.int .i64 0, .int .i64 se, .int .i64 sq, .int .i64 a, .slice p n d, .slice q m f]] w fun e w' => e = .returned (.int .i64 (eno ((true) && likeB 0 se sq a n m 0 0 0 0 0 0) 90)) ∧ Below w.heap.size w w' := by
 obtain ⟨L, hL⟩ : ∃ L, likeB 0 se sq a n m 0 0 0 0 0 0 = L := ⟨_, rfl⟩
 have HL : Hid (∀ w, Calls Tryz.prog 62 #[.agg #[.int .i64 0, .int .i64 se, .int .i64 sq, .int .i64 a, .slice p n d, .slice q m f], .agg #[.int .i64 0, .int .i64 0, .int .i64 0, .int .i64 0, .slice none 0 0, .slice none 0 0]] w fun e w' => e = .returned (.bool L) ∧ Below w.heap.size w w') := hide fun w => by rw [← hL]; exact like_any w _ _ _ _ _ _ _ _ _ _ _ _ _ _ _ _ _ _ _ _
 have HF : Hid (∀ w, Calls Tryz.prog 63 #[.agg #[.int .i64 0, .int .i64 se, .int .i64 sq, .int .i64 a, .slice p n d, .slice q m f]] w fun e w' => e = .returned (.agg #[.int .i64 0, .int .i64 0, .int .i64 0, .int .i64 0, .slice none 0 0, .slice none 0 0]) ∧ Below w.heap.size w w') := hide fun w => fieldsO_any w 0 se sq a rfl rfl rfl rfl p n d q m f
 rw [hL]
 have HBX := hide (BoxC.new w 0 se sq a (.slice p n d) (.slice q m f))
 have HB1 := hide ((Below.refl w.heap.size w).alloc (Nat.le_refl _) (.cells #[.int .i64 0, .int .i64 se, .int .i64 sq, .int .i64 a, .slice p n d, .slice q m f] 25))
 clear hL
 go_enter Tryz.func21, Tryz.ntmps21
 go_wp2
 go_region_held3 (fun U => U.cell? ⟨w.heap.size, 0, none⟩ = some (.int .i64 0) ∧ U.cell? ⟨w.heap.size, 1, none⟩ = some (.int .i64 se) ∧ U.cell? ⟨w.heap.size, 2, none⟩ = some (.int .i64 sq) ∧ U.cell? ⟨w.heap.size, 3, none⟩ = some (.int .i64 a) ∧ U.cell? ⟨w.heap.size, 4, none⟩ = some (.slice p n d) ∧ U.cell? ⟨w.heap.size, 5, none⟩ = some (.slice q m f)) (first | exact HBX.out | exact (HBX.out.drew).below hb5 | exact ((HBX.out.drew).below hb5).below hb6) (first | (go_at_call 63; refine (HF.out _).mono ?_; rintro e5 w5 ⟨rfl, hb5⟩) | (go_at_call 62; refine (HL.out _).mono ?_; rintro e6 w6 ⟨rfl, hb6⟩))
 cases L
 all_goals
  go_wp2
  go_ret
  exact ⟨rfl, HB1.out.trans (((bdrew _ 1).trans (hb5.trans (hb6.mono hb5.size))).mono HB1.out.size)⟩
set_option maxRecDepth 200000 in
set_option maxHeartbeats 8000000 in
theorem check1_any (w : World) (se sq a : Int)  (p : Option Addr) (n d : Nat) (q : Option Addr) (m f : Nat) : Calls Tryz.prog 21 #[.agg #[.int .i64 1, .int .i64 se, .int .i64 sq, .int .i64 a, .slice p n d, .slice q m f]] w fun e w' => e = .returned (.int .i64 (eno ((true) && likeB 1 se sq a n m 1 0 0 0 0 0) 90)) ∧ Below w.heap.size w w' := by
 obtain ⟨L, hL⟩ : ∃ L, likeB 1 se sq a n m 1 0 0 0 0 0 = L := ⟨_, rfl⟩
 have HL : Hid (∀ w, Calls Tryz.prog 62 #[.agg #[.int .i64 1, .int .i64 se, .int .i64 sq, .int .i64 a, .slice p n d, .slice q m f], .agg #[.int .i64 1, .int .i64 0, .int .i64 0, .int .i64 0, .slice none 0 0, .slice none 0 0]] w fun e w' => e = .returned (.bool L) ∧ Below w.heap.size w w') := hide fun w => by rw [← hL]; exact like_any w _ _ _ _ _ _ _ _ _ _ _ _ _ _ _ _ _ _ _ _
 have HF : Hid (∀ w, Calls Tryz.prog 63 #[.agg #[.int .i64 1, .int .i64 se, .int .i64 sq, .int .i64 a, .slice p n d, .slice q m f]] w fun e w' => e = .returned (.agg #[.int .i64 1, .int .i64 0, .int .i64 0, .int .i64 0, .slice none 0 0, .slice none 0 0]) ∧ Below w.heap.size w w') := hide fun w => fieldsO_any w 1 se sq a rfl rfl rfl rfl p n d q m f
 rw [hL]
 have HBX := hide (BoxC.new w 1 se sq a (.slice p n d) (.slice q m f))
 have HB1 := hide ((Below.refl w.heap.size w).alloc (Nat.le_refl _) (.cells #[.int .i64 1, .int .i64 se, .int .i64 sq, .int .i64 a, .slice p n d, .slice q m f] 25))
 clear hL
 go_enter Tryz.func21, Tryz.ntmps21
 go_wp2
 go_region_held3 (fun U => U.cell? ⟨w.heap.size, 0, none⟩ = some (.int .i64 1) ∧ U.cell? ⟨w.heap.size, 1, none⟩ = some (.int .i64 se) ∧ U.cell? ⟨w.heap.size, 2, none⟩ = some (.int .i64 sq) ∧ U.cell? ⟨w.heap.size, 3, none⟩ = some (.int .i64 a) ∧ U.cell? ⟨w.heap.size, 4, none⟩ = some (.slice p n d) ∧ U.cell? ⟨w.heap.size, 5, none⟩ = some (.slice q m f)) (first | exact HBX.out | exact (HBX.out.drew).below hb5 | exact ((HBX.out.drew).below hb5).below hb6) (first | (go_at_call 63; refine (HF.out _).mono ?_; rintro e5 w5 ⟨rfl, hb5⟩) | (go_at_call 62; refine (HL.out _).mono ?_; rintro e6 w6 ⟨rfl, hb6⟩))
 cases L
 all_goals
  go_wp2
  go_ret
  exact ⟨rfl, HB1.out.trans (((bdrew _ 1).trans (hb5.trans (hb6.mono hb5.size))).mono HB1.out.size)⟩
set_option maxRecDepth 200000 in
set_option maxHeartbeats 4000000 in
theorem checkN_any (w : World) (k se sq a : Int) (h0 : (k == 0) = false) (h1 : (k == 1) = false) (h2 : (k == 2) = false) (h3 : (k == 3) = false) (h4 : (k == 4) = false) (h5 : (k == 5) = false) (p : Option Addr) (n d : Nat) (q : Option Addr) (m f : Nat) : Calls Tryz.prog 21 #[.agg #[.int .i64 k, .int .i64 se, .int .i64 sq, .int .i64 a, .slice p n d, .slice q m f]] w fun e w' => e = .returned (.int .i64 90) ∧ Below w.heap.size w w' := by
 have HB1 := hide ((Below.refl w.heap.size w).alloc (Nat.le_refl _) (.cells #[.int .i64 k, .int .i64 se, .int .i64 sq, .int .i64 a, .slice p n d, .slice q m f] 25))
 go_enter Tryz.func21, Tryz.ntmps21
 go_wp2
 go_quiet (fail)
 go_wp2
 go_ret
 exact ⟨rfl, HB1.out.trans ((bdrew _ _).mono HB1.out.size)⟩
set_option maxRecDepth 200000 in
set_option maxHeartbeats 8000000 in
theorem check2_any (w : World) (se sq a : Int) (p : Option Addr) (n d : Nat) (q : Option Addr) (m f : Nat) {sp : List Sp} (hv : Sps w (.slice p n d) sp) (hnm : ∀ x ∈ sp, x.n.size ≤ 1100000) : Calls Tryz.prog 21 #[.agg #[.int .i64 2, .int .i64 se, .int .i64 sq, .int .i64 a, .slice p n d, .slice q m f]] w fun e w' => e = .returned (.int .i64 (eno ((btw 1 se 1099511627776 && btw 1 sq 1099511627776 && spsOk sp) && likeB 2 se sq a n m 2 se sq 0 n 0) 90)) ∧ Below w.heap.size w w' := by
 obtain ⟨A, hA⟩ : ∃ A, btw 1 se 1099511627776 = A := ⟨_, rfl⟩
 have HA : Hid (∀ w, Calls Tryz.prog 59 #[.int .i64 1, .int .i64 se, .int .i64 1099511627776] w fun e w' => e = .returned (.bool A) ∧ w = w') := hide fun w => by rw [← hA]; exact between_any _ _ _ _
 obtain ⟨B, hB⟩ : ∃ A, btw 1 sq 1099511627776 = A := ⟨_, rfl⟩
 have HB : Hid (∀ w, Calls Tryz.prog 59 #[.int .i64 1, .int .i64 sq, .int .i64 1099511627776] w fun e w' => e = .returned (.bool B) ∧ w = w') := hide fun w => by rw [← hB]; exact between_any _ _ _ _
 obtain ⟨C, hC⟩ : ∃ A, spsOk sp = A := ⟨_, rfl⟩
 have HC : Hid (∀ V, Below w.heap.size w V → Calls Tryz.prog 60 #[.slice p n d] V fun e w' => e = .returned (.bool C) ∧ Below V.heap.size V w') := hide fun V hV => by rw [← hC]; exact ming_any (hv.below hV) hnm
 obtain ⟨L, hL⟩ : ∃ L, likeB 2 se sq a n m 2 se sq 0 n 0 = L := ⟨_, rfl⟩
 have HL : Hid (∀ w, Calls Tryz.prog 62 #[.agg #[.int .i64 2, .int .i64 se, .int .i64 sq, .int .i64 a, .slice p n d, .slice q m f], .agg #[.int .i64 2, .int .i64 se, .int .i64 sq, .int .i64 0, .slice p n d, .slice none 0 0]] w fun e w' => e = .returned (.bool L) ∧ Below w.heap.size w w') := hide fun w => by rw [← hL]; exact like_any w _ _ _ _ _ _ _ _ _ _ _ _ _ _ _ _ _ _ _ _
 have HF : Hid (∀ w, Calls Tryz.prog 63 #[.agg #[.int .i64 2, .int .i64 se, .int .i64 sq, .int .i64 a, .slice p n d, .slice q m f]] w fun e w' => e = .returned (.agg #[.int .i64 2, .int .i64 se, .int .i64 sq, .int .i64 0, .slice p n d, .slice none 0 0]) ∧ Below w.heap.size w w') := hide fun w => fields2_any w se sq a p n d q m f
 rw [hA, hB, hC, hL]
 have HBX := hide (BoxC.new w 2 se sq a (.slice p n d) (.slice q m f))
 have HB1 := hide ((Below.refl w.heap.size w).alloc (Nat.le_refl _) (.cells #[.int .i64 2, .int .i64 se, .int .i64 sq, .int .i64 a, .slice p n d, .slice q m f] 25))
 clear hA hB hC hL hv hnm
 cases A
 ·go_enter Tryz.func21, Tryz.ntmps21
  go_wp2_with (first | ((with_reducible refine (HA.out _).mono ?_); rintro e w1 ⟨rfl, rfl⟩) | ((with_reducible refine (HB.out _).mono ?_); rintro e w1 ⟨rfl, rfl⟩))
  go_quiet (fail)
  go_wp2
  go_ret
  exact ⟨rfl, HB1.out.trans ((bdrew _ _).mono HB1.out.size)⟩
 ·cases B
  ·go_enter Tryz.func21, Tryz.ntmps21
   go_wp2_with (first | ((with_reducible refine (HA.out _).mono ?_); rintro e w1 ⟨rfl, rfl⟩) | ((with_reducible refine (HB.out _).mono ?_); rintro e w1 ⟨rfl, rfl⟩))
   go_quiet (fail)
   go_wp2
   go_ret
   exact ⟨rfl, HB1.out.trans ((bdrew _ _).mono HB1.out.size)⟩
  ·have HBX1 : Hid (∀ V, Below (w.alloc (.cells #[.int .i64 2, .int .i64 se, .int .i64 sq, .int .i64 a, .slice p n d, .slice q m f] 25)).heap.size (w.alloc (.cells #[.int .i64 2, .int .i64 se, .int .i64 sq, .int .i64 a, .slice p n d, .slice q m f] 25)) V → BoxC V w.heap.size 2 se sq a (.slice p n d) (.slice q m f)) := hide fun V hV => HBX.out.below hV
   cases C
   ·go_enter Tryz.func21, Tryz.ntmps21
    go_wp2_with (first | ((with_reducible refine (HA.out _).mono ?_); rintro e w1 ⟨rfl, rfl⟩) | ((with_reducible refine (HB.out _).mono ?_); rintro e w1 ⟨rfl, rfl⟩))
    refine (HC.out _ HB1.out).mono ?_
    rintro e w1 ⟨rfl, hb1⟩
    have HB2 := hide (HB1.out.trans (hb1.mono HB1.out.size))
    clear hb1
    go_wp2
    go_quiet (fail)
    go_wp2
    go_ret
    exact ⟨rfl, HB2.out.trans ((bdrew _ _).mono HB2.out.size)⟩
   ·go_enter Tryz.func21, Tryz.ntmps21
    go_wp2_with (first | ((with_reducible refine (HA.out _).mono ?_); rintro e w1 ⟨rfl, rfl⟩) | ((with_reducible refine (HB.out _).mono ?_); rintro e w1 ⟨rfl, rfl⟩))
    refine (HC.out _ HB1.out).mono ?_
    rintro e w1 ⟨rfl, hb1⟩
    have HB2 := hide (HB1.out.trans (hb1.mono HB1.out.size))
    have HBX2 := hide (HBX1.out _ hb1)
    clear hb1
    go_wp2
    go_region_held3 (fun U => U.cell? ⟨w.heap.size, 0, none⟩ = some (.int .i64 2) ∧ U.cell? ⟨w.heap.size, 1, none⟩ = some (.int .i64 se) ∧ U.cell? ⟨w.heap.size, 2, none⟩ = some (.int .i64 sq) ∧ U.cell? ⟨w.heap.size, 3, none⟩ = some (.int .i64 a) ∧ U.cell? ⟨w.heap.size, 4, none⟩ = some (.slice p n d) ∧ U.cell? ⟨w.heap.size, 5, none⟩ = some (.slice q m f)) (first | exact HBX2.out | exact (HBX2.out.drew).below hb5 | exact ((HBX2.out.drew).below hb5).below hb6) (first | (go_at_call 63; refine (HF.out _).mono ?_; rintro e5 w5 ⟨rfl, hb5⟩) | (go_at_call 62; refine (HL.out _).mono ?_; rintro e6 w6 ⟨rfl, hb6⟩))
    cases L
    all_goals
     go_wp2
     go_ret
     exact ⟨rfl, HB2.out.trans (((bdrew _ 1).trans (hb5.trans (hb6.mono hb5.size))).mono HB2.out.size)⟩
set_option maxRecDepth 200000 in
set_option maxHeartbeats 8000000 in
theorem check5_any (w : World) (se sq a : Int) (p : Option Addr) (n d : Nat) (q : Option Addr) (m f : Nat) {vo : List Int} (hv : Ns w (.slice q m f) vo) : Calls Tryz.prog 21 #[.agg #[.int .i64 5, .int .i64 se, .int .i64 sq, .int .i64 a, .slice p n d, .slice q m f]] w fun e w' => e = .returned (.int .i64 (eno ((okR vo) && likeB 5 se sq a n m 5 0 0 0 0 m) 90)) ∧ Below w.heap.size w w' := by
 obtain ⟨C, hC⟩ : ∃ A, okR vo = A := ⟨_, rfl⟩
 have HC : Hid (∀ V, Below w.heap.size w V → Calls Tryz.prog 61 #[.slice q m f] V fun e w' => e = .returned (.bool C) ∧ Below V.heap.size V w') := hide fun V hV => by rw [← hC]; exact mvote_any (hv.below hV)
 obtain ⟨L, hL⟩ : ∃ L, likeB 5 se sq a n m 5 0 0 0 0 m = L := ⟨_, rfl⟩
 have HL : Hid (∀ w, Calls Tryz.prog 62 #[.agg #[.int .i64 5, .int .i64 se, .int .i64 sq, .int .i64 a, .slice p n d, .slice q m f], .agg #[.int .i64 5, .int .i64 0, .int .i64 0, .int .i64 0, .slice none 0 0, .slice q m f]] w fun e w' => e = .returned (.bool L) ∧ Below w.heap.size w w') := hide fun w => by rw [← hL]; exact like_any w _ _ _ _ _ _ _ _ _ _ _ _ _ _ _ _ _ _ _ _
 have HF : Hid (∀ w, Calls Tryz.prog 63 #[.agg #[.int .i64 5, .int .i64 se, .int .i64 sq, .int .i64 a, .slice p n d, .slice q m f]] w fun e w' => e = .returned (.agg #[.int .i64 5, .int .i64 0, .int .i64 0, .int .i64 0, .slice none 0 0, .slice q m f]) ∧ Below w.heap.size w w') := hide fun w => fields5_any w se sq a p n d q m f
 rw [hC, hL]
 have HBX := hide (BoxC.new w 5 se sq a (.slice p n d) (.slice q m f))
 have HB1 := hide ((Below.refl w.heap.size w).alloc (Nat.le_refl _) (.cells #[.int .i64 5, .int .i64 se, .int .i64 sq, .int .i64 a, .slice p n d, .slice q m f] 25))
 clear hC hL hv
 have HBX1 : Hid (∀ V, Below (w.alloc (.cells #[.int .i64 5, .int .i64 se, .int .i64 sq, .int .i64 a, .slice p n d, .slice q m f] 25)).heap.size (w.alloc (.cells #[.int .i64 5, .int .i64 se, .int .i64 sq, .int .i64 a, .slice p n d, .slice q m f] 25)) V → BoxC V w.heap.size 5 se sq a (.slice p n d) (.slice q m f)) := hide fun V hV => HBX.out.below hV
 cases C
 ·go_enter Tryz.func21, Tryz.ntmps21
  go_wp2_with fail
  refine (HC.out _ HB1.out).mono ?_
  rintro e w1 ⟨rfl, hb1⟩
  have HB2 := hide (HB1.out.trans (hb1.mono HB1.out.size))
  clear hb1
  go_wp2
  go_quiet (fail)
  go_wp2
  go_ret
  exact ⟨rfl, HB2.out.trans ((bdrew _ _).mono HB2.out.size)⟩
 ·go_enter Tryz.func21, Tryz.ntmps21
  go_wp2_with fail
  refine (HC.out _ HB1.out).mono ?_
  rintro e w1 ⟨rfl, hb1⟩
  have HB2 := hide (HB1.out.trans (hb1.mono HB1.out.size))
  have HBX2 := hide (HBX1.out _ hb1)
  clear hb1
  go_wp2
  go_region_held3 (fun U => U.cell? ⟨w.heap.size, 0, none⟩ = some (.int .i64 5) ∧ U.cell? ⟨w.heap.size, 1, none⟩ = some (.int .i64 se) ∧ U.cell? ⟨w.heap.size, 2, none⟩ = some (.int .i64 sq) ∧ U.cell? ⟨w.heap.size, 3, none⟩ = some (.int .i64 a) ∧ U.cell? ⟨w.heap.size, 4, none⟩ = some (.slice p n d) ∧ U.cell? ⟨w.heap.size, 5, none⟩ = some (.slice q m f)) (first | exact HBX2.out | exact (HBX2.out.drew).below hb5 | exact ((HBX2.out.drew).below hb5).below hb6) (first | (go_at_call 63; refine (HF.out _).mono ?_; rintro e5 w5 ⟨rfl, hb5⟩) | (go_at_call 62; refine (HL.out _).mono ?_; rintro e6 w6 ⟨rfl, hb6⟩))
  cases L
  all_goals
   go_wp2
   go_ret
   exact ⟨rfl, HB2.out.trans (((bdrew _ 1).trans (hb5.trans (hb6.mono hb5.size))).mono HB2.out.size)⟩
theorem mcheck_any {w : World} {vs vv : Value} {c : Cm} (h : CmAt w vs vv c) : Calls Tryz.prog 21 #[cmV c vs vv] w (ChkC w c) := by
 obtain ⟨p, n, d, rfl⟩ := h.sp.sl
 obtain ⟨q, m, f, rfl⟩ := h.vo.sl
 have h1 := h.sp.len.1
 have h2 := h.vo.len.1
 have hs := h.sp
 have hv := h.vo
 have hn := h.nm
 obtain ⟨k, se, sq, a, sp, vo⟩ := c
 unfold cmV ChkC
 dsimp only at *
 subst h1 h2
 by_cases k0 : k = 0
 ·subst k0
  exact check0_any w se sq a p _ d q _ f
 by_cases k1 : k = 1
 ·subst k1
  exact check1_any w se sq a p _ d q _ f
 by_cases k2 : k = 2
 ·subst k2
  exact check2_any w se sq a p _ d q _ f hs hn
 by_cases k3 : k = 3
 ·subst k3
  exact check3_any w se sq a p _ d q _ f
 by_cases k4 : k = 4
 ·subst k4
  exact check4_any w se sq a p _ d q _ f
 by_cases k5 : k = 5
 ·subst k5
  exact check5_any w se sq a p _ d q _ f hv
 have hno : Cm.ok ⟨k, se, sq, a, sp, vo⟩ = false := by
  unfold Cm.ok Cm.may
  simp [k0, k1, k2, k3, k4, k5]
 rw [hno]
 exact checkN_any w k se sq a (by simpa using k0) (by simpa using k1) (by simpa using k2) (by simpa using k3) (by simpa using k4) (by simpa using k5) p _ d q _ f
end Go.Proofs.YtionbmlicmibgaaGreatDoor
