import Derived.Test.YtionbmlicmibgaaGreatDoorMcPure
set_option linter.unusedVariables false
set_option linter.unusedSimpArgs false
namespace Go.Proofs.YtionbmlicmibgaaGreatDoor
open Go.Proofs.Tryz
set_option maxRecDepth 200000
set_option maxHeartbeats 8000000
open Go.RowKit
def eno (b : Bool) (n : Int) : Int := if b = true then 0 else n
theorem FJ {lo n hi : Int} (h : ¬ lo ≤ n) : oM lo n hi = false := by unfold oM; simp [h]
theorem FK {lo n hi : Int} (h : ¬ n ≤ hi) : oM lo n hi = false := by unfold oM; simp [h]
theorem dY (w : World) (lo n hi : Int) : Calls prog 59 #[.int .i64 lo, .int .i64 n, .int .i64 hi] w fun e w' => e = .returned (.bool (oM lo n hi)) ∧ w = w' := by
 by_cases h1 : lo ≤ n
 ·by_cases h2 : n ≤ hi
  ·have HC := af (dj.2 ⟨h1, h2⟩);go_enter func59, ntmps59
   go_wp2;go_ret;exact ⟨by rw [HC.out]; rfl, rfl⟩
  ·have HC := af (FK (lo := lo) h2);go_enter func59, ntmps59
   go_wp2;go_ret;exact ⟨by rw [HC.out]; rfl, rfl⟩
 ·have HC := af (FJ (hi := hi) h1);go_enter func59, ntmps59
  go_wp2;go_ret;exact ⟨by rw [HC.out]; rfl, rfl⟩
theorem qY (w : World) : Calls prog 139 #[.int .i64 1] w fun e w' => e = .returned (.bool true) ∧ w = w' := by
 go_enter func139, ntmps139
 go_wp2;go_ret;exact ⟨rfl, rfl⟩
def Sb (w : World) (l : List Int) (e : Ending) (w' : World) : Prop := e = .returned (.bool (lU l)) ∧ w = w'
theorem Ha {w : World} {v : Value} {l : List Int} (h : Ns w v l) : Calls prog 140 #[v] w (Sb w l) := by
 obtain ⟨p, n, c, rfl⟩ := h.sl;have hn := h.len;have vV := hn.1;subst vV;have jG : l.length ≤ maxLen := acN hn.2.1 hn.2.2;unfold maxLen at jG;have H := af h;have HC := af (fun h0 : 0 < l.length => h.at_ h0);clear h hn;by_cases h0 : 0 < l.length
 ·obtain ⟨g, o, rfl, hc⟩ := HC.out h0;have AL := af hc;have fh : Hid (lU l = dF 0 l) := by
   cases l with
   | nil => simp at h0
   | cons x r => rfl
  clear hc HC H;go_enter func140, ntmps140
  go_wp2;go_loop [3, 5, 8] (fun lo _ i => ∃ (k : Nat) (z : Int), k ≤ l.length ∧ -1 ≤ z ∧ z ≤ 6 ∧ i = .int .i64 k ∧ lo = .int .i64 z ∧ Hid (dF 0 l = dF (z + 1) (l.drop k))) (fun _ _ i => l.length - (intOf i).toNat)
  case atStart => exact ⟨0, -1, by omega, by omega, by omega, rfl, rfl, af (by rw [afc]; rfl)⟩
  case round =>
   obtain ⟨k, z, hk, gu, Zw, rfl, rfl, HR⟩ := hrel;by_cases bd : k < l.length
   ·have hx := acF bd;have hcell := AL.out k _ hx;have HD : Hid (l.drop k = l[k] :: l.drop (k + 1)) := af (adL bd);obtain ⟨x, Wi⟩ : ∃ x, l[k] = x := ⟨_, rfl⟩
    rw [Wi] at hcell HD;clear hx Wi;have HF : Hid (dF (z + 1) (x :: l.drop (k + 1)) = (decide (z + 1 ≤ x) && decide (x < 7) && dF (x + 1) (l.drop (k + 1)))) := af rfl;by_cases hzx : x ≤ z
    ·have HX : Hid (lU l = false) := af (by
      rw [fh.out, HR.out, HD.out, HF.out, ac1 (by omega : ¬ z + 1 ≤ x)];rfl)
     clear HF HD HR fh;go_wp2;go_ret;exact ⟨fZ HX.out, rfl⟩
    ·by_cases hx7 : 7 ≤ x
     ·have HX : Hid (lU l = false) := af (by
       rw [fh.out, HR.out, HD.out, HF.out, ac1 (by omega : ¬ x < 7), Bool.and_false];rfl)
      clear HF HD HR fh;go_wp2;go_ret;exact ⟨fZ HX.out, rfl⟩
     ·have HX : Hid (dF 0 l = dF (x + 1) (l.drop (k + 1))) := af (by
       rw [HR.out, HD.out, HF.out, ac4 (by omega : z + 1 ≤ x), ac4 (by omega : x < 7)];rfl)
      clear HF HD HR;go_wp2;go_round
      case rel => exact ⟨k + 1, x, by omega, by omega, by omega, by go_num, rfl, HX⟩
      case measure => simp [intOf]; omega
   ·have HX : Hid (lU l = true) := af (by
     rw [fh.out, HR.out, aei (by omega)];rfl)
    clear HR fh;go_wp2;go_ret;exact ⟨fZ HX.out, rfl⟩
 ·obtain rfl : l = [] := acP (by omega);clear HC H h0;go_enter func140, ntmps140
  go_wp2;go_loop [3, 5, 8] (fun lo _ i => lo = .int .i64 (-1) ∧ i = .int .i64 0) (fun _ _ _ => 0)
  case atStart => exact ⟨rfl, rfl⟩
  case round =>
   obtain ⟨rfl, rfl⟩ := hrel;go_wp2;go_ret;exact ⟨rfl, rfl⟩
theorem DK {w : World} {v : Value} {l : List Int} (h : Ns w v l) : Calls prog 104 #[.agg #[.int .i64 1, .int .i64 1, v, .slice none 0 0]] w fun e w' => e = .returned (.int .i64 (eno (lU l) 60)) ∧ Below w.heap.size w w' := by
 obtain ⟨p, n, c, rfl⟩ := h.sl;have vW := (acG w.heap.size w).alloc (acE _) (.cells #[.int .i64 1, .int .i64 1, .slice p n c, .slice none 0 0] 159);have HV := af (Ha (h.below vW));have HB := af vW;clear h vW;cases hq : lU l;all_goals
  unfold Sb at HV;rw [hq] at HV;clear hq;go_enter func104, ntmps104
  go_wp2_with fail
  refine (qY _).mono ?_;rintro e w1 ⟨rfl, rfl⟩;go_wp2_with fail
  refine (qY _).mono ?_;rintro e w1 ⟨rfl, rfl⟩;go_wp2_with fail
  refine HV.out.mono ?_;rintro e w1 ⟨rfl, rfl⟩;go_wp2;go_ret;exact ⟨rfl, HB.out⟩
theorem qf {w : World} {v : Value} {l : List Int} (h : Ns w v l) : Calls prog 61 #[v] w fun e w' => e = .returned (.bool (lU l)) ∧ Below w.heap.size w w' := by
 obtain ⟨p, n, c, rfl⟩ := h.sl;have HV := af (DK h);clear h;cases hq : lU l;all_goals
  rw [hq] at HV;clear hq;go_enter func61, ntmps61
  go_wp2_with fail
  refine HV.out.mono ?_;rintro e w1 ⟨rfl, aK⟩;have HB := af aK;clear aK;go_wp2;go_ret;exact ⟨rfl, HB.out⟩
theorem Kp {l : List Sp} {k : Nat} {x : Sp} (h : l[k]? = some x) : (l.take (k + 1)).all Sp.ok = ((l.take k).all Sp.ok && x.ok) := by
 rw [ac5, h];simp
theorem Sd {l : List Sp} {x : Sp} (h : x ∈ l) (hx : x.ok = false) : l.all Sp.ok = false := by
 rw [List.all_eq_false];exact ⟨x, h, by rw [hx]; simp⟩
theorem Kq {w : World} {v : Value} {l : List Sp} (hv : iY w v l) (im : ∀ x ∈ l, x.n.size ≤ 1100000) : Calls prog 60 #[v] w fun e w' => e = .returned (.bool (fJ l)) ∧ Below w.heap.size w w' := by
 obtain ⟨p, n, c, rfl⟩ := hv.sl;have hn := hv.len.1;have jB : n ≤ maxLen := acN hv.len.2.1 hv.len.2.2;unfold maxLen at jB;have HN := af hn;have HV := af hv;have Dc := af im;have oN := af (acG w.heap.size w);by_cases h8 : 1 ≤ n ∧ n ≤ 8
 ·have bG : oM 1 (n : Int) 8 = true := dj.2 (by omega);have od : Hid (fJ l = l.all Sp.ok) := af (by unfold fJ; rw [← hn, bG]; rfl);have Se : Hid (∀ w, Calls prog 59 #[.int .i64 1, .int .i64 (n : Int), .int .i64 8] w fun e w' => e = .returned (.bool true) ∧ w = w') := af (fun w => by have := dY w 1 n 8; rw [bG] at this; exact this);obtain ⟨h81, h82⟩ := h8;clear hv hn im bG jB;go_enter func60, ntmps60
  go_wp2_with fail
  refine (Se.out _).mono ?_;rintro e w1 ⟨rfl, rfl⟩;go_wp2_with fail
  go_loopw [4, 11] (fun _ ix wr => ∃ k : Nat, k ≤ n ∧ ix = .int .i64 k ∧ Hid (Below w.heap.size w wr ∧ (l.take k).all Sp.ok = true)) (fun _ ix _ => n - (intOf ix).toNat)
  case atStart => exact ⟨0, by omega, rfl, af ⟨oN.out, rfl⟩⟩
  case round =>
   obtain ⟨k, hk, rfl, HR⟩ := hrel;by_cases bd : (k : Int) < (n : Int)
   ·obtain ⟨gv, ov, rfl, hx⟩ := HV.out.at_ (by omega);obtain ⟨x, dC⟩ : ∃ x, l[k]? = some x := ⟨_, acF (by have := HN.out; omega)⟩
    have aG := (hx k x dC).below HR.out.1;obtain ⟨oo, iu⟩ : ∃ oo, ov + k * 6 = oo := ⟨_, rfl⟩
    rw [iu] at aG;have z0 := aG.c0;have z1 := aG.c1;have z2 := aG.c2;have z3 := aG.c3;have z4 := aG.c4;have z5 := aG.c5;have jC := af (kq x (Dc.out x (acS dC)));have vl := af dC;have HOO := af iu;obtain ⟨xt, xi, xp, xs, xe, xn⟩ := x;dsimp only at z0 z1 z2 z3 z4 z5;unfold dZ at jC;dsimp only at jC;have k0 : (0 : Int) ≤ (k : Int) := by omega
    have aK := (acG wr.heap.size wr).alloc (acE _) (.cells #[.int .i64 xt, .int .i64 xi, .int .i64 xp, .int .i64 xs, .int .i64 xe, .string xn] 30);have aS := af (HR.out.1.trans (aK.mono HR.out.1.size));clear dC aG hx aK;cases aT : Sp.ok ⟨xt, xi, xp, xs, xe, xn⟩
    ·rw [aT] at jC;have HX : Hid (fJ l = false) := af (by rw [od.out]; exact Sd (acS vl.out) aT);clear aT;go_wp2_with fail
     refine (jC.out _).mono ?_;rintro e w5 ⟨rfl, aL⟩;have cH := af (aS.out.trans (aL.mono aS.out.size));clear aL;go_wp2;go_ret;exact ⟨fZ HX.out, cH.out⟩
    ·rw [aT] at jC;have HX : Hid ((l.take (k + 1)).all Sp.ok = true) := af (by rw [Kp vl.out, HR.out.2, aT]; rfl);clear aT;go_wp2_with fail
     refine (jC.out _).mono ?_;rintro e w5 ⟨rfl, aL⟩;have cH := af (aS.out.trans (aL.mono aS.out.size));clear aL;go_wp2;go_roundw;case rel => exact ⟨k + 1, by omega, by go_num, af ⟨cH.out, HX.out⟩⟩
     case measure => simp [intOf]; omega
   ·have HX : Hid (fJ l = true) := af (by
     have h1 := HR.out.2;rw [acY (by have := HN.out; omega)] at h1;rw [od.out]; exact h1)
    go_wp2;go_ret;exact ⟨fZ HX.out, HR.out.1⟩
 ·have bG : oM 1 (n : Int) 8 = false := by
   by_cases h1 : (1 : Int) ≤ n
   ·exact FK (by omega)
   ·exact FJ h1
  have od : Hid (fJ l = false) := af (by unfold fJ; rw [← hn, bG]; rfl);have Se : Hid (∀ w, Calls prog 59 #[.int .i64 1, .int .i64 (n : Int), .int .i64 8] w fun e w' => e = .returned (.bool false) ∧ w = w') := af (fun w => by have := dY w 1 n 8; rw [bG] at this; exact this);clear hv hn im bG h8;go_enter func60, ntmps60
  go_wp2_with fail
  refine (Se.out _).mono ?_;rintro e w1 ⟨rfl, rfl⟩;go_wp2;go_ret;exact ⟨fZ od.out, oN.out⟩
def pW (c : Cm) (vs vv : Value) : Value := .agg #[.int .i64 c.k, .int .i64 c.se, .int .i64 c.sq, .int .i64 c.a, vs, vv]
structure pZ (w : World) (vs vv : Value) (c : Cm) : Prop where
 sp : iY w vs c.sp
 vo : Ns w vv c.vo
 nm : ∀ x ∈ c.sp, x.n.size ≤ 1100000
theorem pZ.below {w w' : World} {vs vv : Value} {c : Cm} (h : pZ w vs vv c) (hb : Below w.heap.size w w') : pZ w' vs vv c := ⟨h.sp.below hb, h.vo.below hb, h.nm⟩
theorem AO (w : World) (se sq a : Int) (p : Option Addr) (n d : Nat) (q : Option Addr) (m f : Nat) : Calls prog 63 #[.agg #[.int .i64 2, .int .i64 se, .int .i64 sq, .int .i64 a, .slice p n d, .slice q m f]] w fun e w' => e = .returned (.agg #[.int .i64 2, .int .i64 se, .int .i64 sq, .int .i64 0, .slice p n d, .slice none 0 0]) ∧ Below w.heap.size w w' := by
 go_enter func63, ntmps63
 go_wp2;go_region
 all_goals go_wp2
 all_goals exact ac0 (v := .agg #[.int .i64 2, .int .i64 se, .int .i64 sq, .int .i64 0, .slice p n d, .slice none 0 0]) (by simp [results, results63, go_sem]) rfl ⟨rfl, ((((acG _ _).alloc (acE _) _).alloc (by simp) _).alloc (by simp; omega) _).drew⟩
theorem AP (w : World) (se sq a : Int) (p : Option Addr) (n d : Nat) (q : Option Addr) (m f : Nat) : Calls prog 63 #[.agg #[.int .i64 3, .int .i64 se, .int .i64 sq, .int .i64 a, .slice p n d, .slice q m f]] w fun e w' => e = .returned (.agg #[.int .i64 3, .int .i64 0, .int .i64 0, .int .i64 a, .slice none 0 0, .slice none 0 0]) ∧ Below w.heap.size w w' := by
 go_enter func63, ntmps63
 go_wp2;exact ac0 (v := .agg #[.int .i64 3, .int .i64 0, .int .i64 0, .int .i64 a, .slice none 0 0, .slice none 0 0]) (by simp [results, results63, go_sem]) rfl ⟨rfl, (((acG _ _).alloc (acE _) _).alloc (by simp) _).alloc (by simp; omega) _⟩
theorem AQ (w : World) (se sq a : Int) (p : Option Addr) (n d : Nat) (q : Option Addr) (m f : Nat) : Calls prog 63 #[.agg #[.int .i64 4, .int .i64 se, .int .i64 sq, .int .i64 a, .slice p n d, .slice q m f]] w fun e w' => e = .returned (.agg #[.int .i64 4, .int .i64 0, .int .i64 0, .int .i64 a, .slice none 0 0, .slice none 0 0]) ∧ Below w.heap.size w w' := by
 go_enter func63, ntmps63
 go_wp2;exact ac0 (v := .agg #[.int .i64 4, .int .i64 0, .int .i64 0, .int .i64 a, .slice none 0 0, .slice none 0 0]) (by simp [results, results63, go_sem]) rfl ⟨rfl, (((acG _ _).alloc (acE _) _).alloc (by simp) _).alloc (by simp; omega) _⟩
theorem AU (w : World) (se sq a : Int) (p : Option Addr) (n d : Nat) (q : Option Addr) (m f : Nat) : Calls prog 63 #[.agg #[.int .i64 5, .int .i64 se, .int .i64 sq, .int .i64 a, .slice p n d, .slice q m f]] w fun e w' => e = .returned (.agg #[.int .i64 5, .int .i64 0, .int .i64 0, .int .i64 0, .slice none 0 0, .slice q m f]) ∧ Below w.heap.size w w' := by
 go_enter func63, ntmps63
 go_wp2;exact ac0 (v := .agg #[.int .i64 5, .int .i64 0, .int .i64 0, .int .i64 0, .slice none 0 0, .slice q m f]) (by simp [results, results63, go_sem]) rfl ⟨rfl, (((acG _ _).alloc (acE _) _).alloc (by simp) _).alloc (by simp; omega) _⟩
theorem qZ (w : World) (k se sq a : Int) (h2 : (k == 2) = false) (h3 : (k == 3) = false) (h4 : (k == 4) = false) (h5 : (k == 5) = false) (p : Option Addr) (n d : Nat) (q : Option Addr) (m f : Nat) : Calls prog 63 #[.agg #[.int .i64 k, .int .i64 se, .int .i64 sq, .int .i64 a, .slice p n d, .slice q m f]] w fun e w' => e = .returned (.agg #[.int .i64 k, .int .i64 0, .int .i64 0, .int .i64 0, .slice none 0 0, .slice none 0 0]) ∧ Below w.heap.size w w' := by
 go_enter func63, ntmps63
 go_wp2;exact ac0 (v := .agg #[.int .i64 k, .int .i64 0, .int .i64 0, .int .i64 0, .slice none 0 0, .slice none 0 0]) (by simp [results, results63, go_sem]) rfl ⟨rfl, (((acG _ _).alloc (acE _) _).alloc (by simp) _).alloc (by simp; omega) _⟩
def i_ (k se sq a : Int) (n m : Nat) (k' DL DN a' : Int) (n' m' : Nat) : Bool := k == k' && (se == DL && (sq == DN && (a == a' && (n == n' && m == m'))))
theorem kr (w : World) (k se sq a : Int) (p : Option Addr) (n d : Nat) (q : Option Addr) (m f : Nat) (k' DL DN a' : Int) (p' : Option Addr) (n' d' : Nat) (q' : Option Addr) (m' f' : Nat) : Calls prog 62 #[.agg #[.int .i64 k, .int .i64 se, .int .i64 sq, .int .i64 a, .slice p n d, .slice q m f], .agg #[.int .i64 k', .int .i64 DL, .int .i64 DN, .int .i64 a', .slice p' n' d', .slice q' m' f']] w fun e w' => e = .returned (.bool (i_ k se sq a n m k' DL DN a' n' m')) ∧ Below w.heap.size w w' := by
 have HB : Hid (∀ c1 c2 : Obj, Below w.heap.size w ((w.alloc c1).alloc c2)) := af fun c1 c2 => ((acG _ _).alloc (acE _) _).alloc (by simp) _;obtain ⟨R, hR⟩ : ∃ R, i_ k se sq a n m k' DL DN a' n' m' = R := ⟨_, rfl⟩
 rw [hR];unfold i_ at hR;by_cases b0 : k = k'
 focus
  have eb0 : (k == k') = true := by simpa using b0
  rw [eb0] at hR;try simp only [adY] at hR
  by_cases b1 : se = DL
  focus
   have eb1 : (se == DL) = true := by simpa using b1
   rw [eb1] at hR;try simp only [adY] at hR
   by_cases b2 : sq = DN
   focus
    have eb2 : (sq == DN) = true := by simpa using b2
    rw [eb2] at hR;try simp only [adY] at hR
    by_cases b3 : a = a'
    focus
     have eb3 : (a == a') = true := by simpa using b3
     rw [eb3] at hR;try simp only [adY] at hR
     by_cases b4 : n = n'
     focus
      have eb4 : (n == n') = true := by simpa using b4
      have N4 : (((n : Nat) : Int) == ((n' : Nat) : Int)) = true := by simp; omega
      rw [eb4] at hR;try simp only [adY] at hR
      by_cases b5 : m = m'
      ·have eb5 : (m == m') = true := by simpa using b5
       have Wj : (((m : Nat) : Int) == ((m' : Nat) : Int)) = true := by simp; omega
       rw [eb5] at hR;try simp only [adY] at hR
       have HR := af hR;clear hR;go_enter func62, ntmps62
       go_wp2;go_ret;exact ⟨fZ HR.out.symm, HB.out _ _⟩
      focus
       have eb5 : (m == m') = false := by simpa using b5
       have Wj : (((m : Nat) : Int) == ((m' : Nat) : Int)) = false := by simp; omega
       rw [eb5] at hR
     rotate_left
     focus
      have eb4 : (n == n') = false := by simpa using b4
      have N4 : (((n : Nat) : Int) == ((n' : Nat) : Int)) = false := by simp; omega
      rw [eb4] at hR
    rotate_left 2
    focus
     have eb3 : (a == a') = false := by simpa using b3
     rw [eb3] at hR
   rotate_left 3
   focus
    have eb2 : (sq == DN) = false := by simpa using b2
    rw [eb2] at hR
  rotate_left 4
  focus
   have eb1 : (se == DL) = false := by simpa using b1
   rw [eb1] at hR
 rotate_left 5
 focus
  have eb0 : (k == k') = false := by simpa using b0
  rw [eb0] at hR
 all_goals
  try simp only [Bool.false_and, Bool.and_false, adY] at hR
  have HR := af hR;clear hR;go_enter func62, ntmps62
  go_wp2;go_ret;exact ⟨fZ HR.out.symm, HB.out _ _⟩
def yM (w : World) (c : Cm) (e : Ending) (w' : World) : Prop := e = .returned (.int .i64 (eno c.ok 90)) ∧ Below w.heap.size w w'
theorem aah (w : World) (k se sq a : Int) (vs vv : Value) : (w.alloc (.cells #[.int .i64 k, .int .i64 se, .int .i64 sq, .int .i64 a, vs, vv] 25)).heap[w.heap.size]? = some (.cells #[.int .i64 k, .int .i64 se, .int .i64 sq, .int .i64 a, vs, vv] 25 (0, 0)) := acQ _ _
def iI (w : World) (b : Nat) (k se sq a : Int) (vs vv : Value) : Prop := w.cell? ⟨b, 0, none⟩ = some (.int .i64 k) ∧ w.cell? ⟨b, 1, none⟩ = some (.int .i64 se) ∧ w.cell? ⟨b, 2, none⟩ = some (.int .i64 sq) ∧ w.cell? ⟨b, 3, none⟩ = some (.int .i64 a) ∧ w.cell? ⟨b, 4, none⟩ = some vs ∧ w.cell? ⟨b, 5, none⟩ = some vv
theorem iI.new (w : World) (k se sq a : Int) (vs vv : Value) : iI (w.alloc (.cells #[.int .i64 k, .int .i64 se, .int .i64 sq, .int .i64 a, vs, vv] 25)) w.heap.size k se sq a vs vv := by
 have h := aah w k se sq a vs vv;refine ⟨?_, ?_, ?_, ?_, ?_, ?_⟩
 ·have := acC _ _ 0 _ 25 (0, 0) h; rw [this]; rfl
 ·have := acC _ _ 1 _ 25 (0, 0) h; rw [this]; rfl
 ·have := acC _ _ 2 _ 25 (0, 0) h; rw [this]; rfl
 ·have := acC _ _ 3 _ 25 (0, 0) h; rw [this]; rfl
 ·have := acC _ _ 4 _ 25 (0, 0) h; rw [this]; rfl
 ·have := acC _ _ 5 _ 25 (0, 0) h; rw [this]; rfl
theorem iI.below {w w' : World} {b : Nat} {k se sq a : Int} {vs vv : Value} (h : iI w b k se sq a vs vv) (hb : Below w.heap.size w w') : iI w' b k se sq a vs vv := by
 have bd := lt_of_cell h.1;have e : ∀ i, w'.cell? ⟨b, i, none⟩ = w.cell? ⟨b, i, none⟩ := fun i => hb.cell (p := ⟨b, i, none⟩) bd;unfold iI;rw [e, e, e, e, e, e];exact h
theorem iI.drew {w : World} {b : Nat} {k se sq a : Int} {vs vv : Value} (h : iI w b k se sq a vs vv) : iI w.drew b k se sq a vs vv := h
theorem DR (w : World) (se sq a : Int)  (p : Option Addr) (n d : Nat) (q : Option Addr) (m f : Nat) : Calls prog 21 #[.agg #[.int .i64 3, .int .i64 se, .int .i64 sq, .int .i64 a, .slice p n d, .slice q m f]] w fun e w' => e = .returned (.int .i64 (eno ((oM 0 a 1099511627776) && i_ 3 se sq a n m 3 0 0 a 0 0) 90)) ∧ Below w.heap.size w w' := by
 obtain ⟨A, hA⟩ : ∃ A, oM 0 a 1099511627776 = A := ⟨_, rfl⟩
 have HA : Hid (∀ w, Calls prog 59 #[.int .i64 0, .int .i64 a, .int .i64 1099511627776] w fun e w' => e = .returned (.bool A) ∧ w = w') := af fun w => by rw [← hA]; exact dY _ _ _ _
 obtain ⟨L, hL⟩ : ∃ L, i_ 3 se sq a n m 3 0 0 a 0 0 = L := ⟨_, rfl⟩
 have HL : Hid (∀ w, Calls prog 62 #[.agg #[.int .i64 3, .int .i64 se, .int .i64 sq, .int .i64 a, .slice p n d, .slice q m f], .agg #[.int .i64 3, .int .i64 0, .int .i64 0, .int .i64 a, .slice none 0 0, .slice none 0 0]] w fun e w' => e = .returned (.bool L) ∧ Below w.heap.size w w') := af fun w => by rw [← hL]; exact kr w _ _ _ _ _ _ _ _ _ _ _ _ _ _ _ _ _ _ _ _
 have HF : Hid (∀ w, Calls prog 63 #[.agg #[.int .i64 3, .int .i64 se, .int .i64 sq, .int .i64 a, .slice p n d, .slice q m f]] w fun e w' => e = .returned (.agg #[.int .i64 3, .int .i64 0, .int .i64 0, .int .i64 a, .slice none 0 0, .slice none 0 0]) ∧ Below w.heap.size w w') := af fun w => AP w se sq a p n d q m f;rw [hA, hL];have dH := af (iI.new w 3 se sq a (.slice p n d) (.slice q m f));have aS := af ((acG w.heap.size w).alloc (acE _) (.cells #[.int .i64 3, .int .i64 se, .int .i64 sq, .int .i64 a, .slice p n d, .slice q m f] 25));clear hA hL;cases A
 ·go_enter aeB, aer
  go_wp2_with (first | ((with_reducible refine (HA.out _).mono ?_); rintro e w1 ⟨rfl, rfl⟩))
  go_quiet (fail)
  go_wp2;go_ret;exact ⟨rfl, aS.out.trans ((ag _ _).mono aS.out.size)⟩
 ·go_enter aeB, aer
  go_wp2_with (first | ((with_reducible refine (HA.out _).mono ?_); rintro e w1 ⟨rfl, rfl⟩))
  go_region_held3 (fun U => U.cell? ⟨w.heap.size, 0, none⟩ = some (.int .i64 3) ∧ U.cell? ⟨w.heap.size, 1, none⟩ = some (.int .i64 se) ∧ U.cell? ⟨w.heap.size, 2, none⟩ = some (.int .i64 sq) ∧ U.cell? ⟨w.heap.size, 3, none⟩ = some (.int .i64 a) ∧ U.cell? ⟨w.heap.size, 4, none⟩ = some (.slice p n d) ∧ U.cell? ⟨w.heap.size, 5, none⟩ = some (.slice q m f)) (first | exact dH.out | exact (dH.out.drew).below aL | exact ((dH.out.drew).below aL).below bK) (first | (go_at_call 63; refine (HF.out _).mono ?_; rintro e5 w5 ⟨rfl, aL⟩) | (go_at_call 62; refine (HL.out _).mono ?_; rintro e6 w6 ⟨rfl, bK⟩))
  cases L;all_goals
   go_wp2;go_ret;exact ⟨rfl, aS.out.trans (((ag _ 1).trans (aL.trans (bK.mono aL.size))).mono aS.out.size)⟩
theorem DT (w : World) (se sq a : Int)  (p : Option Addr) (n d : Nat) (q : Option Addr) (m f : Nat) : Calls prog 21 #[.agg #[.int .i64 4, .int .i64 se, .int .i64 sq, .int .i64 a, .slice p n d, .slice q m f]] w fun e w' => e = .returned (.int .i64 (eno ((oM 0 a 1099511627777) && i_ 4 se sq a n m 4 0 0 a 0 0) 90)) ∧ Below w.heap.size w w' := by
 obtain ⟨A, hA⟩ : ∃ A, oM 0 a 1099511627777 = A := ⟨_, rfl⟩
 have HA : Hid (∀ w, Calls prog 59 #[.int .i64 0, .int .i64 a, .int .i64 1099511627777] w fun e w' => e = .returned (.bool A) ∧ w = w') := af fun w => by rw [← hA]; exact dY _ _ _ _
 obtain ⟨L, hL⟩ : ∃ L, i_ 4 se sq a n m 4 0 0 a 0 0 = L := ⟨_, rfl⟩
 have HL : Hid (∀ w, Calls prog 62 #[.agg #[.int .i64 4, .int .i64 se, .int .i64 sq, .int .i64 a, .slice p n d, .slice q m f], .agg #[.int .i64 4, .int .i64 0, .int .i64 0, .int .i64 a, .slice none 0 0, .slice none 0 0]] w fun e w' => e = .returned (.bool L) ∧ Below w.heap.size w w') := af fun w => by rw [← hL]; exact kr w _ _ _ _ _ _ _ _ _ _ _ _ _ _ _ _ _ _ _ _
 have HF : Hid (∀ w, Calls prog 63 #[.agg #[.int .i64 4, .int .i64 se, .int .i64 sq, .int .i64 a, .slice p n d, .slice q m f]] w fun e w' => e = .returned (.agg #[.int .i64 4, .int .i64 0, .int .i64 0, .int .i64 a, .slice none 0 0, .slice none 0 0]) ∧ Below w.heap.size w w') := af fun w => AQ w se sq a p n d q m f;rw [hA, hL];have dH := af (iI.new w 4 se sq a (.slice p n d) (.slice q m f));have aS := af ((acG w.heap.size w).alloc (acE _) (.cells #[.int .i64 4, .int .i64 se, .int .i64 sq, .int .i64 a, .slice p n d, .slice q m f] 25));clear hA hL;cases A
 ·go_enter aeB, aer
  go_wp2_with (first | ((with_reducible refine (HA.out _).mono ?_); rintro e w1 ⟨rfl, rfl⟩))
  go_quiet (fail)
  go_wp2;go_ret;exact ⟨rfl, aS.out.trans ((ag _ _).mono aS.out.size)⟩
 ·go_enter aeB, aer
  go_wp2_with (first | ((with_reducible refine (HA.out _).mono ?_); rintro e w1 ⟨rfl, rfl⟩))
  go_region_held3 (fun U => U.cell? ⟨w.heap.size, 0, none⟩ = some (.int .i64 4) ∧ U.cell? ⟨w.heap.size, 1, none⟩ = some (.int .i64 se) ∧ U.cell? ⟨w.heap.size, 2, none⟩ = some (.int .i64 sq) ∧ U.cell? ⟨w.heap.size, 3, none⟩ = some (.int .i64 a) ∧ U.cell? ⟨w.heap.size, 4, none⟩ = some (.slice p n d) ∧ U.cell? ⟨w.heap.size, 5, none⟩ = some (.slice q m f)) (first | exact dH.out | exact (dH.out.drew).below aL | exact ((dH.out.drew).below aL).below bK) (first | (go_at_call 63; refine (HF.out _).mono ?_; rintro e5 w5 ⟨rfl, aL⟩) | (go_at_call 62; refine (HL.out _).mono ?_; rintro e6 w6 ⟨rfl, bK⟩))
  cases L;all_goals
   go_wp2;go_ret;exact ⟨rfl, aS.out.trans (((ag _ 1).trans (aL.trans (bK.mono aL.size))).mono aS.out.size)⟩
theorem DU (w : World) (se sq a : Int)  (p : Option Addr) (n d : Nat) (q : Option Addr) (m f : Nat) : Calls prog 21 #[.agg #[.int .i64 0, .int .i64 se, .int .i64 sq, .int .i64 a, .slice p n d, .slice q m f]] w fun e w' => e = .returned (.int .i64 (eno ((true) && i_ 0 se sq a n m 0 0 0 0 0 0) 90)) ∧ Below w.heap.size w w' := by
 obtain ⟨L, hL⟩ : ∃ L, i_ 0 se sq a n m 0 0 0 0 0 0 = L := ⟨_, rfl⟩
 have HL : Hid (∀ w, Calls prog 62 #[.agg #[.int .i64 0, .int .i64 se, .int .i64 sq, .int .i64 a, .slice p n d, .slice q m f], .agg #[.int .i64 0, .int .i64 0, .int .i64 0, .int .i64 0, .slice none 0 0, .slice none 0 0]] w fun e w' => e = .returned (.bool L) ∧ Below w.heap.size w w') := af fun w => by rw [← hL]; exact kr w _ _ _ _ _ _ _ _ _ _ _ _ _ _ _ _ _ _ _ _
 have HF : Hid (∀ w, Calls prog 63 #[.agg #[.int .i64 0, .int .i64 se, .int .i64 sq, .int .i64 a, .slice p n d, .slice q m f]] w fun e w' => e = .returned (.agg #[.int .i64 0, .int .i64 0, .int .i64 0, .int .i64 0, .slice none 0 0, .slice none 0 0]) ∧ Below w.heap.size w w') := af fun w => qZ w 0 se sq a rfl rfl rfl rfl p n d q m f;rw [hL];have dH := af (iI.new w 0 se sq a (.slice p n d) (.slice q m f));have aS := af ((acG w.heap.size w).alloc (acE _) (.cells #[.int .i64 0, .int .i64 se, .int .i64 sq, .int .i64 a, .slice p n d, .slice q m f] 25));clear hL;go_enter aeB, aer
 go_wp2;go_region_held3 (fun U => U.cell? ⟨w.heap.size, 0, none⟩ = some (.int .i64 0) ∧ U.cell? ⟨w.heap.size, 1, none⟩ = some (.int .i64 se) ∧ U.cell? ⟨w.heap.size, 2, none⟩ = some (.int .i64 sq) ∧ U.cell? ⟨w.heap.size, 3, none⟩ = some (.int .i64 a) ∧ U.cell? ⟨w.heap.size, 4, none⟩ = some (.slice p n d) ∧ U.cell? ⟨w.heap.size, 5, none⟩ = some (.slice q m f)) (first | exact dH.out | exact (dH.out.drew).below aL | exact ((dH.out.drew).below aL).below bK) (first | (go_at_call 63; refine (HF.out _).mono ?_; rintro e5 w5 ⟨rfl, aL⟩) | (go_at_call 62; refine (HL.out _).mono ?_; rintro e6 w6 ⟨rfl, bK⟩))
 cases L;all_goals
  go_wp2;go_ret;exact ⟨rfl, aS.out.trans (((ag _ 1).trans (aL.trans (bK.mono aL.size))).mono aS.out.size)⟩
theorem DV (w : World) (se sq a : Int)  (p : Option Addr) (n d : Nat) (q : Option Addr) (m f : Nat) : Calls prog 21 #[.agg #[.int .i64 1, .int .i64 se, .int .i64 sq, .int .i64 a, .slice p n d, .slice q m f]] w fun e w' => e = .returned (.int .i64 (eno ((true) && i_ 1 se sq a n m 1 0 0 0 0 0) 90)) ∧ Below w.heap.size w w' := by
 obtain ⟨L, hL⟩ : ∃ L, i_ 1 se sq a n m 1 0 0 0 0 0 = L := ⟨_, rfl⟩
 have HL : Hid (∀ w, Calls prog 62 #[.agg #[.int .i64 1, .int .i64 se, .int .i64 sq, .int .i64 a, .slice p n d, .slice q m f], .agg #[.int .i64 1, .int .i64 0, .int .i64 0, .int .i64 0, .slice none 0 0, .slice none 0 0]] w fun e w' => e = .returned (.bool L) ∧ Below w.heap.size w w') := af fun w => by rw [← hL]; exact kr w _ _ _ _ _ _ _ _ _ _ _ _ _ _ _ _ _ _ _ _
 have HF : Hid (∀ w, Calls prog 63 #[.agg #[.int .i64 1, .int .i64 se, .int .i64 sq, .int .i64 a, .slice p n d, .slice q m f]] w fun e w' => e = .returned (.agg #[.int .i64 1, .int .i64 0, .int .i64 0, .int .i64 0, .slice none 0 0, .slice none 0 0]) ∧ Below w.heap.size w w') := af fun w => qZ w 1 se sq a rfl rfl rfl rfl p n d q m f;rw [hL];have dH := af (iI.new w 1 se sq a (.slice p n d) (.slice q m f));have aS := af ((acG w.heap.size w).alloc (acE _) (.cells #[.int .i64 1, .int .i64 se, .int .i64 sq, .int .i64 a, .slice p n d, .slice q m f] 25));clear hL;go_enter aeB, aer
 go_wp2;go_region_held3 (fun U => U.cell? ⟨w.heap.size, 0, none⟩ = some (.int .i64 1) ∧ U.cell? ⟨w.heap.size, 1, none⟩ = some (.int .i64 se) ∧ U.cell? ⟨w.heap.size, 2, none⟩ = some (.int .i64 sq) ∧ U.cell? ⟨w.heap.size, 3, none⟩ = some (.int .i64 a) ∧ U.cell? ⟨w.heap.size, 4, none⟩ = some (.slice p n d) ∧ U.cell? ⟨w.heap.size, 5, none⟩ = some (.slice q m f)) (first | exact dH.out | exact (dH.out.drew).below aL | exact ((dH.out.drew).below aL).below bK) (first | (go_at_call 63; refine (HF.out _).mono ?_; rintro e5 w5 ⟨rfl, aL⟩) | (go_at_call 62; refine (HL.out _).mono ?_; rintro e6 w6 ⟨rfl, bK⟩))
 cases L;all_goals
  go_wp2;go_ret;exact ⟨rfl, aS.out.trans (((ag _ 1).trans (aL.trans (bK.mono aL.size))).mono aS.out.size)⟩
theorem DW (w : World) (k se sq a : Int) (h0 : (k == 0) = false) (h1 : (k == 1) = false) (h2 : (k == 2) = false) (h3 : (k == 3) = false) (h4 : (k == 4) = false) (h5 : (k == 5) = false) (p : Option Addr) (n d : Nat) (q : Option Addr) (m f : Nat) : Calls prog 21 #[.agg #[.int .i64 k, .int .i64 se, .int .i64 sq, .int .i64 a, .slice p n d, .slice q m f]] w fun e w' => e = .returned (.int .i64 90) ∧ Below w.heap.size w w' := by
 have aS := af ((acG w.heap.size w).alloc (acE _) (.cells #[.int .i64 k, .int .i64 se, .int .i64 sq, .int .i64 a, .slice p n d, .slice q m f] 25));go_enter aeB, aer
 go_wp2;go_quiet (fail)
 go_wp2;go_ret;exact ⟨rfl, aS.out.trans ((ag _ _).mono aS.out.size)⟩
theorem DX (w : World) (se sq a : Int) (p : Option Addr) (n d : Nat) (q : Option Addr) (m f : Nat) {sp : List Sp} (hv : iY w (.slice p n d) sp) (im : ∀ x ∈ sp, x.n.size ≤ 1100000) : Calls prog 21 #[.agg #[.int .i64 2, .int .i64 se, .int .i64 sq, .int .i64 a, .slice p n d, .slice q m f]] w fun e w' => e = .returned (.int .i64 (eno ((oM 1 se 1099511627776 && oM 1 sq 1099511627776 && fJ sp) && i_ 2 se sq a n m 2 se sq 0 n 0) 90)) ∧ Below w.heap.size w w' := by
 obtain ⟨A, hA⟩ : ∃ A, oM 1 se 1099511627776 = A := ⟨_, rfl⟩
 have HA : Hid (∀ w, Calls prog 59 #[.int .i64 1, .int .i64 se, .int .i64 1099511627776] w fun e w' => e = .returned (.bool A) ∧ w = w') := af fun w => by rw [← hA]; exact dY _ _ _ _
 obtain ⟨B, hB⟩ : ∃ A, oM 1 sq 1099511627776 = A := ⟨_, rfl⟩
 have HB : Hid (∀ w, Calls prog 59 #[.int .i64 1, .int .i64 sq, .int .i64 1099511627776] w fun e w' => e = .returned (.bool B) ∧ w = w') := af fun w => by rw [← hB]; exact dY _ _ _ _
 obtain ⟨C, hC⟩ : ∃ A, fJ sp = A := ⟨_, rfl⟩
 have HC : Hid (∀ V, Below w.heap.size w V → Calls prog 60 #[.slice p n d] V fun e w' => e = .returned (.bool C) ∧ Below V.heap.size V w') := af fun V hV => by rw [← hC]; exact Kq (hv.below hV) im
 obtain ⟨L, hL⟩ : ∃ L, i_ 2 se sq a n m 2 se sq 0 n 0 = L := ⟨_, rfl⟩
 have HL : Hid (∀ w, Calls prog 62 #[.agg #[.int .i64 2, .int .i64 se, .int .i64 sq, .int .i64 a, .slice p n d, .slice q m f], .agg #[.int .i64 2, .int .i64 se, .int .i64 sq, .int .i64 0, .slice p n d, .slice none 0 0]] w fun e w' => e = .returned (.bool L) ∧ Below w.heap.size w w') := af fun w => by rw [← hL]; exact kr w _ _ _ _ _ _ _ _ _ _ _ _ _ _ _ _ _ _ _ _
 have HF : Hid (∀ w, Calls prog 63 #[.agg #[.int .i64 2, .int .i64 se, .int .i64 sq, .int .i64 a, .slice p n d, .slice q m f]] w fun e w' => e = .returned (.agg #[.int .i64 2, .int .i64 se, .int .i64 sq, .int .i64 0, .slice p n d, .slice none 0 0]) ∧ Below w.heap.size w w') := af fun w => AO w se sq a p n d q m f;rw [hA, hB, hC, hL];have dH := af (iI.new w 2 se sq a (.slice p n d) (.slice q m f));have aS := af ((acG w.heap.size w).alloc (acE _) (.cells #[.int .i64 2, .int .i64 se, .int .i64 sq, .int .i64 a, .slice p n d, .slice q m f] 25));clear hA hB hC hL hv im;cases A
 focus
  go_enter aeB, aer
 rotate_left
 focus
  cases B
  focus
   go_enter aeB, aer
  rotate_left
  ·have Sf : Hid (∀ V, Below (w.alloc (.cells #[.int .i64 2, .int .i64 se, .int .i64 sq, .int .i64 a, .slice p n d, .slice q m f] 25)).heap.size (w.alloc (.cells #[.int .i64 2, .int .i64 se, .int .i64 sq, .int .i64 a, .slice p n d, .slice q m f] 25)) V → iI V w.heap.size 2 se sq a (.slice p n d) (.slice q m f)) := af fun V hV => dH.out.below hV;cases C
   ·go_enter aeB, aer
    go_wp2_with (first | ((with_reducible refine (HA.out _).mono ?_); rintro e w1 ⟨rfl, rfl⟩) | ((with_reducible refine (HB.out _).mono ?_); rintro e w1 ⟨rfl, rfl⟩))
    refine (HC.out _ aS.out).mono ?_;rintro e w1 ⟨rfl, aK⟩;have cE := af (aS.out.trans (aK.mono aS.out.size));clear aK;go_wp2;go_quiet (fail)
    go_wp2;go_ret;exact ⟨rfl, cE.out.trans ((ag _ _).mono cE.out.size)⟩
   ·go_enter aeB, aer
    go_wp2_with (first | ((with_reducible refine (HA.out _).mono ?_); rintro e w1 ⟨rfl, rfl⟩) | ((with_reducible refine (HB.out _).mono ?_); rintro e w1 ⟨rfl, rfl⟩))
    refine (HC.out _ aS.out).mono ?_;rintro e w1 ⟨rfl, aK⟩;have cE := af (aS.out.trans (aK.mono aS.out.size));have DY := af (Sf.out _ aK);clear aK;go_wp2;go_region_held3 (fun U => U.cell? ⟨w.heap.size, 0, none⟩ = some (.int .i64 2) ∧ U.cell? ⟨w.heap.size, 1, none⟩ = some (.int .i64 se) ∧ U.cell? ⟨w.heap.size, 2, none⟩ = some (.int .i64 sq) ∧ U.cell? ⟨w.heap.size, 3, none⟩ = some (.int .i64 a) ∧ U.cell? ⟨w.heap.size, 4, none⟩ = some (.slice p n d) ∧ U.cell? ⟨w.heap.size, 5, none⟩ = some (.slice q m f)) (first | exact DY.out | exact (DY.out.drew).below aL | exact ((DY.out.drew).below aL).below bK) (first | (go_at_call 63; refine (HF.out _).mono ?_; rintro e5 w5 ⟨rfl, aL⟩) | (go_at_call 62; refine (HL.out _).mono ?_; rintro e6 w6 ⟨rfl, bK⟩))
    cases L;all_goals
     go_wp2;go_ret;exact ⟨rfl, cE.out.trans (((ag _ 1).trans (aL.trans (bK.mono aL.size))).mono cE.out.size)⟩
 all_goals
  go_wp2_with (first | ((with_reducible refine (HA.out _).mono ?_); rintro e w1 ⟨rfl, rfl⟩) | ((with_reducible refine (HB.out _).mono ?_); rintro e w1 ⟨rfl, rfl⟩))
  go_quiet (fail)
  go_wp2;go_ret;exact ⟨rfl, aS.out.trans ((ag _ _).mono aS.out.size)⟩
theorem DZ (w : World) (se sq a : Int) (p : Option Addr) (n d : Nat) (q : Option Addr) (m f : Nat) {vo : List Int} (hv : Ns w (.slice q m f) vo) : Calls prog 21 #[.agg #[.int .i64 5, .int .i64 se, .int .i64 sq, .int .i64 a, .slice p n d, .slice q m f]] w fun e w' => e = .returned (.int .i64 (eno ((lU vo) && i_ 5 se sq a n m 5 0 0 0 0 m) 90)) ∧ Below w.heap.size w w' := by
 obtain ⟨C, hC⟩ : ∃ A, lU vo = A := ⟨_, rfl⟩
 have HC : Hid (∀ V, Below w.heap.size w V → Calls prog 61 #[.slice q m f] V fun e w' => e = .returned (.bool C) ∧ Below V.heap.size V w') := af fun V hV => by rw [← hC]; exact qf (hv.below hV)
 obtain ⟨L, hL⟩ : ∃ L, i_ 5 se sq a n m 5 0 0 0 0 m = L := ⟨_, rfl⟩
 have HL : Hid (∀ w, Calls prog 62 #[.agg #[.int .i64 5, .int .i64 se, .int .i64 sq, .int .i64 a, .slice p n d, .slice q m f], .agg #[.int .i64 5, .int .i64 0, .int .i64 0, .int .i64 0, .slice none 0 0, .slice q m f]] w fun e w' => e = .returned (.bool L) ∧ Below w.heap.size w w') := af fun w => by rw [← hL]; exact kr w _ _ _ _ _ _ _ _ _ _ _ _ _ _ _ _ _ _ _ _
 have HF : Hid (∀ w, Calls prog 63 #[.agg #[.int .i64 5, .int .i64 se, .int .i64 sq, .int .i64 a, .slice p n d, .slice q m f]] w fun e w' => e = .returned (.agg #[.int .i64 5, .int .i64 0, .int .i64 0, .int .i64 0, .slice none 0 0, .slice q m f]) ∧ Below w.heap.size w w') := af fun w => AU w se sq a p n d q m f;rw [hC, hL];have dH := af (iI.new w 5 se sq a (.slice p n d) (.slice q m f));have aS := af ((acG w.heap.size w).alloc (acE _) (.cells #[.int .i64 5, .int .i64 se, .int .i64 sq, .int .i64 a, .slice p n d, .slice q m f] 25));clear hC hL hv;have Sf : Hid (∀ V, Below (w.alloc (.cells #[.int .i64 5, .int .i64 se, .int .i64 sq, .int .i64 a, .slice p n d, .slice q m f] 25)).heap.size (w.alloc (.cells #[.int .i64 5, .int .i64 se, .int .i64 sq, .int .i64 a, .slice p n d, .slice q m f] 25)) V → iI V w.heap.size 5 se sq a (.slice p n d) (.slice q m f)) := af fun V hV => dH.out.below hV;cases C
 ·go_enter aeB, aer
  go_wp2_with fail
  refine (HC.out _ aS.out).mono ?_;rintro e w1 ⟨rfl, aK⟩;have cE := af (aS.out.trans (aK.mono aS.out.size));clear aK;go_wp2;go_quiet (fail)
  go_wp2;go_ret;exact ⟨rfl, cE.out.trans ((ag _ _).mono cE.out.size)⟩
 ·go_enter aeB, aer
  go_wp2_with fail
  refine (HC.out _ aS.out).mono ?_;rintro e w1 ⟨rfl, aK⟩;have cE := af (aS.out.trans (aK.mono aS.out.size));have DY := af (Sf.out _ aK);clear aK;go_wp2;go_region_held3 (fun U => U.cell? ⟨w.heap.size, 0, none⟩ = some (.int .i64 5) ∧ U.cell? ⟨w.heap.size, 1, none⟩ = some (.int .i64 se) ∧ U.cell? ⟨w.heap.size, 2, none⟩ = some (.int .i64 sq) ∧ U.cell? ⟨w.heap.size, 3, none⟩ = some (.int .i64 a) ∧ U.cell? ⟨w.heap.size, 4, none⟩ = some (.slice p n d) ∧ U.cell? ⟨w.heap.size, 5, none⟩ = some (.slice q m f)) (first | exact DY.out | exact (DY.out.drew).below aL | exact ((DY.out.drew).below aL).below bK) (first | (go_at_call 63; refine (HF.out _).mono ?_; rintro e5 w5 ⟨rfl, aL⟩) | (go_at_call 62; refine (HL.out _).mono ?_; rintro e6 w6 ⟨rfl, bK⟩))
  cases L;all_goals
   go_wp2;go_ret;exact ⟨rfl, cE.out.trans (((ag _ 1).trans (aL.trans (bK.mono aL.size))).mono cE.out.size)⟩
theorem fc {w : World} {vs vv : Value} {c : Cm} (h : pZ w vs vv c) : Calls prog 21 #[pW c vs vv] w (yM w c) := by
 obtain ⟨p, n, d, rfl⟩ := h.sp.sl;obtain ⟨q, m, f, rfl⟩ := h.vo.sl;have h1 := h.sp.len.1;have h2 := h.vo.len.1;have hs := h.sp;have hv := h.vo;have hn := h.nm;obtain ⟨k, se, sq, a, sp, vo⟩ := c;unfold pW yM;dsimp only at *;subst h1 h2;by_cases k0 : k = 0
 ·subst k0;exact DU w se sq a p _ d q _ f
 by_cases k1 : k = 1
 ·subst k1;exact DV w se sq a p _ d q _ f
 by_cases k2 : k = 2
 ·subst k2;exact DX w se sq a p _ d q _ f hs hn
 by_cases k3 : k = 3
 ·subst k3;exact DR w se sq a p _ d q _ f
 by_cases k4 : k = 4
 ·subst k4;exact DT w se sq a p _ d q _ f
 by_cases k5 : k = 5
 ·subst k5;exact DZ w se sq a p _ d q _ f hv
 have fI : Cm.ok ⟨k, se, sq, a, sp, vo⟩ = false := by
  unfold Cm.ok Cm.may;simp [k0, k1, k2, k3, k4, k5]
 rw [fI];exact DW w k se sq a (by simpa using k0) (by simpa using k1) (by simpa using k2) (by simpa using k3) (by simpa using k4) (by simpa using k5) p _ d q _ f
end Go.Proofs.YtionbmlicmibgaaGreatDoor
