import Derived.Test.YtionbmlicmibgaaGreatDoorMcChk
set_option linter.unusedVariables false
set_option linter.unusedSimpArgs false
namespace Go.Proofs.YtionbmlicmibgaaGreatDoor
open Go.Proofs.Tryz
set_option maxRecDepth 200000
set_option maxHeartbeats 8000000
open Go.RowKit
theorem gO : ∀ l : List Int, (∀ n ∈ l, 0 ≤ n ∧ n ≤ 9223372036854775807) → (fX l).length ≤ 9 * l.length
 | [], _ => by simp [fX]
 | n :: l, h => by
  have h1 := gO l fun m hm => h m (ade _ hm);have h2 := h n (ac8 ..);have h3 := digits_length n.toNat (by omega);rw [iZ, acH, acZ];omega
theorem jg {B0 : Nat} {w : World} {v u : Value} {B : List UInt8} {l : List Int} (hv : Own B0 w v B) (wu : B0 ≤ w.heap.size) (hu : Ns w u l) (hn : ∀ n ∈ l, 0 ≤ n) (hb : B.length + 9 * l.length ≤ 1100000) :
  Calls prog 55 #[v, u] w fun e w' => ∃ p n c, e = .returned (.slice p n c) ∧ Own B0 w' (.slice p n c) (B ++ fX l) ∧ Below w.heap.size w w' := by
 obtain ⟨p0, n0, c0, rfl⟩ := hv.bp.sl;obtain ⟨pu, m, cu, rfl⟩ := hu.sl;have hm := hu.len.1;have hft : ∀ n ∈ l, 0 ≤ n ∧ n ≤ 9223372036854775807 := fun n sF => ⟨hn n sF, (hu.fits n sF).2⟩
 have WE : (m : Int) ≤ 1100000 := by omega
 have HV := af hv;have HU := af hu;have HM := af (acD hm (acD hft (acD hb wu)));have oN := af (acG w.heap.size w);clear hv hu hm hft hb hn wu;go_enter func55, ntmps55
 go_wp2_with fail
 go_loopw [0, 6, 9] (fun x _ i wr => ∃ k : Nat, k ≤ m ∧ i = .int .i64 k ∧ (∃ p n c, x = .slice p n c) ∧ Hid (Own B0 wr x (B ++ fX (l.take k)) ∧ Below w.heap.size w wr)) (fun _ _ i _ => m - (intOf i).toNat)
 case atStart => exact ⟨0, by omega, rfl, ⟨_, _, _, rfl⟩, af ⟨by rw [List.take_zero]; show Own _ _ _ (B ++ []); rw [adh]; exact HV.out, oN.out⟩⟩
 case round =>
  obtain ⟨k, hk, rfl, ⟨px, nx', cx, rfl⟩, HR⟩ := hrel;by_cases bd : k < m
  ·obtain ⟨g, o, rfl, hx⟩ := HU.out.at_ (by omega);obtain ⟨x, dC⟩ : ∃ x, l[k]? = some x := ⟨_, acF (by have := HM.out.1; omega)⟩
   have hcell := (HR.out.2.cell (p := ⟨g, o + k, none⟩) (lt_of_cell (hx k x dC))).trans (hx k x dC);have WG := HM.out.2.1 x (acS dC);have hlen : (fX (l.take k)).length ≤ 9 * k := by
    have h1 := gO (l.take k) fun y hy => HM.out.2.1 y (adD hy);rw [ac6] at h1;omega
   have AF := af (bh HR.out.1.bp (by rw [acH]; have := HM.out; omega) x x.toNat (by omega) (by unfold lim; omega));have HT := af (Bc dC);clear hx dC WG hlen;go_wp2_with fail
   refine AF.out.mono ?_;rintro e w2 ⟨v2, rfl, eX, aP⟩;obtain ⟨p2, n2, c2, rfl⟩ := eX.bp.sl;have H2 : Hid (Own B0 w2 (.slice p2 n2 c2) (B ++ fX (l.take (k + 1))) ∧ Below w.heap.size w w2) := af ⟨by rw [HT.out, ← ac7]; exact eX.mono (acN HM.out.2.2.2 HR.out.2.size), HR.out.2.trans (aP.mono HR.out.2.size)⟩;clear eX aP AF;go_wp2;go_roundw;case rel => exact ⟨k + 1, by omega, by go_num, ⟨_, _, _, rfl⟩, H2⟩
   case measure => simp [intOf]; omega
  ·have hE : l.take k = l := acY (by have := HM.out.1; omega);have HE : Hid (Own B0 wr (.slice px nx' cx) (B ++ fX l)) := af (by have h1 := HR.out.1; rw [hE] at h1; exact h1);clear hE;go_wp2;go_ret;exact ⟨_, _, _, rfl, HE.out, HR.out.2⟩
theorem zj (w : World) (a : Int) (ha : fits a) : Ns (w.alloc (.cells #[.int .i64 a] 3)) (.slice (some ⟨w.heap.size, 0, none⟩) 1 1) [a] := by
 refine ⟨_, 1, rfl, acE _, by simp [maxLen], (fun e => by cases e), (by simpa using ha), fun _ => ⟨w.heap.size, 0, rfl, fun i x hx => ?_⟩⟩;have h := acC _ w.heap.size i _ 3 (0, 0) (acQ w (.cells #[.int .i64 a] 3));rw [ac2, h]
 match i, hx with
 | 0, hx => simpa using hx
 | i + 1, hx => simp at hx
theorem SD (w : World) (a b : Int) (ha : fits a) (hb : fits b) : Ns (w.alloc (.cells #[.int .i64 a, .int .i64 b] 3)) (.slice (some ⟨w.heap.size, 0, none⟩) 2 2) [a, b] := by
 refine ⟨_, 2, rfl, acE _, by simp [maxLen], (fun e => by cases e), (by simpa using ⟨ha, hb⟩), fun _ => ⟨w.heap.size, 0, rfl, fun i x hx => ?_⟩⟩;have h := acC _ w.heap.size i _ 3 (0, 0) (acQ w (.cells #[.int .i64 a, .int .i64 b] 3));rw [ac2, h]
 match i, hx with
 | 0, hx => simpa using hx
 | 1, hx => simpa using hx
 | i + 2, hx => simp at hx
def Bd (w : World) (c : Cm) (e : Ending) (w' : World) : Prop := (c.ok = true ∧ ∃ p n d, e = .returned (.tuple #[.slice p n d, .int .i64 0]) ∧ Own w.heap.size w' (.slice p n d) c.bytes ∧ Below w.heap.size w w') ∨ (c.ok = false ∧ e = .returned (.tuple #[.slice none 0 0, .int .i64 90]) ∧ Below w.heap.size w w')
theorem Ic {w : World} {vs vv : Value} {c : Cm} (h : pZ w vs vv c) (hc : c.ok = false) : Calls prog 18 #[pW c vs vv] w (Bd w c) := by
 have HA := af (fc (h.below ((acG w.heap.size w).alloc (acE _) (.cells #[.int .i64 c.k, .int .i64 c.se, .int .i64 c.sq, .int .i64 c.a, vs, vv] 25))));have HB := af ((acG w.heap.size w).alloc (acE _) (.cells #[.int .i64 c.k, .int .i64 c.se, .int .i64 c.sq, .int .i64 c.a, vs, vv] 25));obtain ⟨p, n, d, rfl⟩ := h.sp.sl;obtain ⟨q, m, f, rfl⟩ := h.vo.sl;unfold yM at HA;rw [hc] at HA;have HC := af hc;obtain ⟨k, se, sq, a, sp, vo⟩ := c;unfold pW at *;dsimp only at *;clear h hc;go_enter func18, afl
 go_wp2_with fail
 refine HA.out.mono ?_;rintro e w1 ⟨rfl, aK⟩;have aS := af (HB.out.trans (aK.mono HB.out.size));clear aK;unfold eno;go_wp2;go_ret2
 exact .inr ⟨HC.out, rfl, aS.out⟩
theorem KY {w : World} {p : Option Addr} {n d : Nat} {q : Option Addr} {m f : Nat} {se sq a : Int} {sp : List Sp} {vo : List Int} (h : pZ w (.slice p n d) (.slice q m f) ⟨0, se, sq, a, sp, vo⟩) (hc : Cm.ok ⟨0, se, sq, a, sp, vo⟩ = true) : Calls prog 18 #[.agg #[.int .i64 0, .int .i64 se, .int .i64 sq, .int .i64 a, .slice p n d, .slice q m f]] w (Bd w ⟨0, se, sq, a, sp, vo⟩) := by
 have fA := (acG w.heap.size w).alloc (acE _) (.cells #[.int .i64 0, .int .i64 se, .int .i64 sq, .int .i64 a, .slice p n d, .slice q m f] 25);have HA := af (fc (h.below fA));have HB := af fA;have HX := af (iI.new w 0 se sq a (.slice p n d) (.slice q m f));have HW := af h;unfold yM at HA;rw [hc] at HA;unfold pW at HA;have HC := af hc;dsimp only at HA;clear h hc fA;go_enter func18, afl
 go_wp2_with fail
 refine HA.out.mono ?_;rintro e w1 ⟨rfl, aK⟩;have aS := af (HB.out.trans (aK.mono HB.out.size));have Be := af (HX.out.below aK);obtain ⟨z0, z1, z2, z3, z4, z5⟩ := HX.out.below aK;have Bf := af (bh (By.nil w1) (by simp) 0 0 (by omega) (by unfold lim; omega));clear aK HA;unfold eno;go_wp2_with fail
 refine Bf.out.mono ?_;rintro e w2 ⟨v2, rfl, eX, aP⟩;obtain ⟨p2, n2, c2, rfl⟩ := eX.bp.sl;have jO : Hid (Own w.heap.size w2 (.slice p2 n2 c2) (digits 0)) := af (by have h1 := eX.mono aS.out.size; simpa using h1);have cE := af (aS.out.trans (aP.mono aS.out.size));have rh := af (Be.out.below aP);obtain ⟨z0, z1, z2, z3, z4, z5⟩ := Be.out.below aP;clear eX aP Bf;go_wp2;go_ret2
 refine .inl ⟨HC.out, _, _, _, rfl, ?_, cE.out⟩;have h1 := jO.out;unfold Cm.bytes;dsimp only
 simpa using h1
theorem KZ {w : World} {p : Option Addr} {n d : Nat} {q : Option Addr} {m f : Nat} {se sq a : Int} {sp : List Sp} {vo : List Int} (h : pZ w (.slice p n d) (.slice q m f) ⟨1, se, sq, a, sp, vo⟩) (hc : Cm.ok ⟨1, se, sq, a, sp, vo⟩ = true) : Calls prog 18 #[.agg #[.int .i64 1, .int .i64 se, .int .i64 sq, .int .i64 a, .slice p n d, .slice q m f]] w (Bd w ⟨1, se, sq, a, sp, vo⟩) := by
 have fA := (acG w.heap.size w).alloc (acE _) (.cells #[.int .i64 1, .int .i64 se, .int .i64 sq, .int .i64 a, .slice p n d, .slice q m f] 25);have HA := af (fc (h.below fA));have HB := af fA;have HX := af (iI.new w 1 se sq a (.slice p n d) (.slice q m f));have HW := af h;unfold yM at HA;rw [hc] at HA;unfold pW at HA;have HC := af hc;dsimp only at HA;clear h hc fA;go_enter func18, afl
 go_wp2_with fail
 refine HA.out.mono ?_;rintro e w1 ⟨rfl, aK⟩;have aS := af (HB.out.trans (aK.mono HB.out.size));have Be := af (HX.out.below aK);obtain ⟨z0, z1, z2, z3, z4, z5⟩ := HX.out.below aK;have Bf := af (bh (By.nil w1) (by simp) 1 1 (by omega) (by unfold lim; omega));clear aK HA;unfold eno;go_wp2_with fail
 refine Bf.out.mono ?_;rintro e w2 ⟨v2, rfl, eX, aP⟩;obtain ⟨p2, n2, c2, rfl⟩ := eX.bp.sl;have jO : Hid (Own w.heap.size w2 (.slice p2 n2 c2) (digits 1)) := af (by have h1 := eX.mono aS.out.size; simpa using h1);have cE := af (aS.out.trans (aP.mono aS.out.size));have rh := af (Be.out.below aP);obtain ⟨z0, z1, z2, z3, z4, z5⟩ := Be.out.below aP;clear eX aP Bf;go_wp2;go_ret2
 refine .inl ⟨HC.out, _, _, _, rfl, ?_, cE.out⟩;have h1 := jO.out;unfold Cm.bytes;dsimp only
 simpa using h1
theorem K6 {w : World} {p : Option Addr} {n d : Nat} {q : Option Addr} {m f : Nat} {se sq a : Int} {sp : List Sp} {vo : List Int} (h : pZ w (.slice p n d) (.slice q m f) ⟨3, se, sq, a, sp, vo⟩) (hc : Cm.ok ⟨3, se, sq, a, sp, vo⟩ = true) : Calls prog 18 #[.agg #[.int .i64 3, .int .i64 se, .int .i64 sq, .int .i64 a, .slice p n d, .slice q m f]] w (Bd w ⟨3, se, sq, a, sp, vo⟩) := by
 have fA := (acG w.heap.size w).alloc (acE _) (.cells #[.int .i64 3, .int .i64 se, .int .i64 sq, .int .i64 a, .slice p n d, .slice q m f] 25);have HA := af (fc (h.below fA));have HB := af fA;have HX := af (iI.new w 3 se sq a (.slice p n d) (.slice q m f));have HW := af h;unfold yM at HA;rw [hc] at HA;unfold pW at HA;have HC := af hc;dsimp only at HA;clear h hc fA;go_enter func18, afl
 go_wp2_with fail
 refine HA.out.mono ?_;rintro e w1 ⟨rfl, aK⟩;have aS := af (HB.out.trans (aK.mono HB.out.size));have Be := af (HX.out.below aK);obtain ⟨z0, z1, z2, z3, z4, z5⟩ := HX.out.below aK;have Bf := af (bh (By.nil w1) (by simp) 3 3 (by omega) (by unfold lim; omega));clear aK HA;unfold eno;go_wp2_with fail
 refine Bf.out.mono ?_;rintro e w2 ⟨v2, rfl, eX, aP⟩;obtain ⟨p2, n2, c2, rfl⟩ := eX.bp.sl;have jO : Hid (Own w.heap.size w2 (.slice p2 n2 c2) (digits 3)) := af (by have h1 := eX.mono aS.out.size; simpa using h1);have cE := af (aS.out.trans (aP.mono aS.out.size));have rh := af (Be.out.below aP);obtain ⟨z0, z1, z2, z3, z4, z5⟩ := Be.out.below aP;clear eX aP Bf;have ha : 0 ≤ a ∧ a ≤ 1099511627777 := by
  have h1 := HC.out;unfold Cm.ok Cm.may at h1;simp [dj] at h1;omega
 have HN := af (show Ns (w2.alloc (.cells #[.int .i64 a] 3)) (.slice (some ⟨w2.heap.size, 0, none⟩) 1 1) [a] from zj w2 a (by unfold fits; omega));have cF := (acG w2.heap.size w2).alloc (acE _) (.cells #[.int .i64 a] 3);have fH := af cF;have Es := af (jg (jO.out.below cF) (acN cE.out.size cF.size) HN.out (by simp; omega) (by have := digits_length 3 (by omega); simp; omega));clear ha cF HN;go_wp2_with fail
 refine Es.out.mono ?_;rintro e w4 ⟨p4, n4, c4, rfl, iP, bY⟩;have Hh := af iP;have dL := af (cE.out.trans ((fH.out.trans (bY.mono fH.out.size)).mono cE.out.size));clear iP bY Es;go_wp2;go_ret2
 refine .inl ⟨HC.out, _, _, _, rfl, ?_, dL.out⟩;have h1 := Hh.out;unfold Cm.bytes;dsimp only
 simpa using h1
theorem K7 {w : World} {p : Option Addr} {n d : Nat} {q : Option Addr} {m f : Nat} {se sq a : Int} {sp : List Sp} {vo : List Int} (h : pZ w (.slice p n d) (.slice q m f) ⟨4, se, sq, a, sp, vo⟩) (hc : Cm.ok ⟨4, se, sq, a, sp, vo⟩ = true) : Calls prog 18 #[.agg #[.int .i64 4, .int .i64 se, .int .i64 sq, .int .i64 a, .slice p n d, .slice q m f]] w (Bd w ⟨4, se, sq, a, sp, vo⟩) := by
 have fA := (acG w.heap.size w).alloc (acE _) (.cells #[.int .i64 4, .int .i64 se, .int .i64 sq, .int .i64 a, .slice p n d, .slice q m f] 25);have HA := af (fc (h.below fA));have HB := af fA;have HX := af (iI.new w 4 se sq a (.slice p n d) (.slice q m f));have HW := af h;unfold yM at HA;rw [hc] at HA;unfold pW at HA;have HC := af hc;dsimp only at HA;clear h hc fA;go_enter func18, afl
 go_wp2_with fail
 refine HA.out.mono ?_;rintro e w1 ⟨rfl, aK⟩;have aS := af (HB.out.trans (aK.mono HB.out.size));have Be := af (HX.out.below aK);obtain ⟨z0, z1, z2, z3, z4, z5⟩ := HX.out.below aK;have Bf := af (bh (By.nil w1) (by simp) 4 4 (by omega) (by unfold lim; omega));clear aK HA;unfold eno;go_wp2_with fail
 refine Bf.out.mono ?_;rintro e w2 ⟨v2, rfl, eX, aP⟩;obtain ⟨p2, n2, c2, rfl⟩ := eX.bp.sl;have jO : Hid (Own w.heap.size w2 (.slice p2 n2 c2) (digits 4)) := af (by have h1 := eX.mono aS.out.size; simpa using h1);have cE := af (aS.out.trans (aP.mono aS.out.size));have rh := af (Be.out.below aP);obtain ⟨z0, z1, z2, z3, z4, z5⟩ := Be.out.below aP;clear eX aP Bf;have ha : 0 ≤ a ∧ a ≤ 1099511627777 := by
  have h1 := HC.out;unfold Cm.ok Cm.may at h1;simp [dj] at h1;omega
 have HN := af (show Ns (w2.alloc (.cells #[.int .i64 a] 3)) (.slice (some ⟨w2.heap.size, 0, none⟩) 1 1) [a] from zj w2 a (by unfold fits; omega));have cF := (acG w2.heap.size w2).alloc (acE _) (.cells #[.int .i64 a] 3);have fH := af cF;have Es := af (jg (jO.out.below cF) (acN cE.out.size cF.size) HN.out (by simp; omega) (by have := digits_length 4 (by omega); simp; omega));clear ha cF HN;go_wp2_with fail
 refine Es.out.mono ?_;rintro e w4 ⟨p4, n4, c4, rfl, iP, bY⟩;have Hh := af iP;have dL := af (cE.out.trans ((fH.out.trans (bY.mono fH.out.size)).mono cE.out.size));clear iP bY Es;go_wp2;go_ret2
 refine .inl ⟨HC.out, _, _, _, rfl, ?_, dL.out⟩;have h1 := Hh.out;unfold Cm.bytes;dsimp only
 simpa using h1
theorem K8 {w : World} {p : Option Addr} {n d : Nat} {q : Option Addr} {m f : Nat} {se sq a : Int} {sp : List Sp} {vo : List Int} (h : pZ w (.slice p n d) (.slice q m f) ⟨2, se, sq, a, sp, vo⟩) (hc : Cm.ok ⟨2, se, sq, a, sp, vo⟩ = true) : Calls prog 18 #[.agg #[.int .i64 2, .int .i64 se, .int .i64 sq, .int .i64 a, .slice p n d, .slice q m f]] w (Bd w ⟨2, se, sq, a, sp, vo⟩) := by
 have fA := (acG w.heap.size w).alloc (acE _) (.cells #[.int .i64 2, .int .i64 se, .int .i64 sq, .int .i64 a, .slice p n d, .slice q m f] 25);have HA := af (fc (h.below fA));have HB := af fA;have HX := af (iI.new w 2 se sq a (.slice p n d) (.slice q m f));have HW := af h;unfold yM at HA;rw [hc] at HA;unfold pW at HA;have HC := af hc;dsimp only at HA;clear h hc fA;go_enter func18, afl
 go_wp2_with fail
 refine HA.out.mono ?_;rintro e w1 ⟨rfl, aK⟩;have aS := af (HB.out.trans (aK.mono HB.out.size));have Be := af (HX.out.below aK);obtain ⟨z0, z1, z2, z3, z4, z5⟩ := HX.out.below aK;have Bf := af (bh (By.nil w1) (by simp) 2 2 (by omega) (by unfold lim; omega));clear aK HA;unfold eno;go_wp2_with fail
 refine Bf.out.mono ?_;rintro e w2 ⟨v2, rfl, eX, aP⟩;obtain ⟨p2, n2, c2, rfl⟩ := eX.bp.sl;have jO : Hid (Own w.heap.size w2 (.slice p2 n2 c2) (digits 2)) := af (by have h1 := eX.mono aS.out.size; simpa using h1);have cE := af (aS.out.trans (aP.mono aS.out.size));have rh := af (Be.out.below aP);obtain ⟨z0, z1, z2, z3, z4, z5⟩ := Be.out.below aP;clear eX aP Bf;have hk : (1 ≤ se ∧ se ≤ 1099511627776) ∧ (1 ≤ sq ∧ sq ≤ 1099511627776) ∧ fJ sp = true := by
  have h1 := HC.out;unfold Cm.ok Cm.may at h1;simp [dj] at h1;exact ⟨h1.1.1.1, h1.1.1.2, h1.1.2⟩
 obtain ⟨ZG, hsq, Ie⟩ := hk;obtain ⟨hl1, hl8, cO⟩ := td Ie;have K9 := p_ Ie;have hP : nH sp = (cN sp, 0) := by
  unfold nH;rw [acW (adl.2 cO)]
 have od := af (rz (HW.out.sp.below cE.out) (by dsimp only; omega) HW.out.nm hP);have ZH := af K9;have ZI := af (acD (show fits se by unfold fits; omega) (acD (show fits sq by unfold fits; omega) (acD ZG.1 hsq.1)));clear ZG hsq Ie hl1 hl8 cO hP K9;go_wp2_with fail
 refine od.out.mono ?_;rintro e w3 ⟨v3, rfl, kY, cF⟩;obtain ⟨p3, n3, c3, rfl⟩ := kY.bp.sl;have fH := af (cE.out.trans (cF.mono cE.out.size));have HV3 := af kY.bp;have sW := af (jO.out.below cF);have HX3 := af (rh.out.below cF);obtain ⟨z0, z1, z2, z3, z4, z5⟩ := rh.out.below cF;clear kY cF od z0 z3 z4 z5;have d0 : (convert 32 9 (.slice p3 n3 c3)).run prog w3 = .ok (.string (str (cN sp))) w3 := bH HV3.out;have gj : Hid (∀ U, Below w3.heap.size w3 U → U.cell? ⟨w.heap.size, 1, none⟩ = some (.int .i64 se) ∧ U.cell? ⟨w.heap.size, 2, none⟩ = some (.int .i64 sq) ∧ (convert 32 9 (.slice p3 n3 c3)).run prog U = .ok (.string (str (cN sp))) U) := af fun U hU => ⟨(HX3.out.below hU).2.1, (HX3.out.below hU).2.2.1, bH (HV3.out.below hU)⟩
 have bY := (acG w3.heap.size w3).alloc (acE _) (.cells #[.int .i64 se, .int .i64 sq] 3);have dL := af bY;have Es := af (jg (w := (w3.alloc (.cells #[.int .i64 se, .int .i64 sq] 3)).drew) (sW.out.below bY.drew) (acN fH.out.size bY.size) (SD w3 se sq ZI.out.1 ZI.out.2.1) (by simp; have := ZI.out.2.2; omega) (by have := digits_length 2 (by omega); simp; omega));clear bY;go_wp2_with fail
 go_region_held3 (fun U => U.cell? ⟨w.heap.size, 1, none⟩ = some (.int .i64 se) ∧ U.cell? ⟨w.heap.size, 2, none⟩ = some (.int .i64 sq) ∧ (convert 32 9 (.slice p3 n3 c3)).run prog U = .ok (.string (str (cN sp))) U) (first | exact gj.out _ (ag w3 1) | exact gj.out _ (acG _ _) | exact gj.out _ dL.out | exact gj.out _ dL.out.drew | exact gj.out _ (dL.out.drew.trans (aL.mono dL.out.size)) | exact gj.out _ ((dL.out.drew.trans (aL.mono dL.out.size)).trans (bK.mono (acN dL.out.size aL.size)))) (first | (go_at_call 55; refine Es.out.mono ?_; rintro e5 w5 ⟨p5, n5, c5, rfl, bP, aL⟩) | (go_at_call 54; refine (fK bP.bp (by have := digits_length 2 (by omega); have := gO [se, sq] (by have := ZI.out; unfold fits at this; simp; omega); rw [acH]; simp at this ⊢; omega) (str (cN sp)) (by rw [gF]; have := ZH.out; omega)).mono ?_; rintro e6 w6 ⟨v6, rfl, cw, bK⟩; obtain ⟨p6, n6, c6, rfl⟩ := cw.bp.sl))
 have lC : w.heap.size ≤ w5.heap.size := acN fH.out.size (acN dL.out.size aL.size);have oL := af (fH.out.trans (((dL.out.drew.trans (aL.mono dL.out.size)).trans (bK.mono (acN dL.out.size aL.size))).mono fH.out.size));rw [gF, mX] at cw;have wZ := af (cw.mono lC);clear bP aL bK cw lC Es;go_wp2;go_ret2
 refine .inl ⟨HC.out, _, _, _, rfl, ?_, oL.out⟩;have h1 := wZ.out;unfold Cm.bytes;dsimp only
 simpa [NY] using h1
theorem K_ {w : World} {p : Option Addr} {n d : Nat} {q : Option Addr} {m f : Nat} {se sq a : Int} {sp : List Sp} {vo : List Int} (h : pZ w (.slice p n d) (.slice q m f) ⟨5, se, sq, a, sp, vo⟩) (hc : Cm.ok ⟨5, se, sq, a, sp, vo⟩ = true) : Calls prog 18 #[.agg #[.int .i64 5, .int .i64 se, .int .i64 sq, .int .i64 a, .slice p n d, .slice q m f]] w (Bd w ⟨5, se, sq, a, sp, vo⟩) := by
 have fA := (acG w.heap.size w).alloc (acE _) (.cells #[.int .i64 5, .int .i64 se, .int .i64 sq, .int .i64 a, .slice p n d, .slice q m f] 25);have HA := af (fc (h.below fA));have HB := af fA;have HX := af (iI.new w 5 se sq a (.slice p n d) (.slice q m f));have HW := af h;unfold yM at HA;rw [hc] at HA;unfold pW at HA;have HC := af hc;dsimp only at HA;clear h hc fA;go_enter func18, afl
 go_wp2_with fail
 refine HA.out.mono ?_;rintro e w1 ⟨rfl, aK⟩;have aS := af (HB.out.trans (aK.mono HB.out.size));have Be := af (HX.out.below aK);obtain ⟨z0, z1, z2, z3, z4, z5⟩ := HX.out.below aK;have Bf := af (bh (By.nil w1) (by simp) 5 5 (by omega) (by unfold lim; omega));clear aK HA;unfold eno;go_wp2_with fail
 refine Bf.out.mono ?_;rintro e w2 ⟨v2, rfl, eX, aP⟩;obtain ⟨p2, n2, c2, rfl⟩ := eX.bp.sl;have jO : Hid (Own w.heap.size w2 (.slice p2 n2 c2) (digits 5)) := af (by have h1 := eX.mono aS.out.size; simpa using h1);have cE := af (aS.out.trans (aP.mono aS.out.size));have rh := af (Be.out.below aP);obtain ⟨z0, z1, z2, z3, z4, z5⟩ := Be.out.below aP;clear eX aP Bf;have hk : lU vo = true := by
  have h1 := HC.out;unfold Cm.ok Cm.may at h1;simp at h1;exact h1.1
 obtain ⟨Wd, WH⟩ := jN hk;have hmv := HW.out.vo.len.1;dsimp only at hmv;have QC := af (acD hmv (acD Wd WH));have hm7 : (m : Int) ≤ 7 := by omega
 clear hk Wd WH z1 z2 z3 z4 hmv;have gj : Hid (∀ U, Below w2.heap.size w2 U → U.cell? ⟨w.heap.size, 5, none⟩ = some (.slice q m f)) := af fun U hU => (rh.out.below hU).2.2.2.2.2;have bY := (acG w2.heap.size w2).alloc (acE _) (.cells #[.int .i64 (m : Int)] 3);have dL := af bY;have Es := af (jg (w := (w2.alloc (.cells #[.int .i64 (m : Int)] 3)).drew) (jO.out.below bY.drew) (acN cE.out.size bY.size) (zj w2 (m : Int) (by unfold fits; omega)) (by simp) (by have := digits_length 5 (by omega); simp; omega));have La := af (fun U (hU : Below w2.heap.size w2 U) => HW.out.vo.below (w' := U) (cE.out.trans (hU.mono cE.out.size)));clear bY;go_wp2_with fail
 go_region_held3 (fun U => U.cell? ⟨w.heap.size, 5, none⟩ = some (.slice q m f)) (first | exact gj.out _ (ag w2 1) | exact gj.out _ (acG _ _) | exact gj.out _ dL.out | exact gj.out _ dL.out.drew | exact gj.out _ (dL.out.drew.trans (aL.mono dL.out.size)) | exact gj.out _ ((dL.out.drew.trans (aL.mono dL.out.size)).trans (bK.mono (acN dL.out.size aL.size)))) (first | (go_at_call 55; (with_reducible refine Es.out.mono ?_); rintro e5 w5 ⟨p5, n5, c5, rfl, bP, aL⟩) | (go_at_call 55; refine (jg bP (acN cE.out.size (acN dL.out.size aL.size)) (La.out _ (dL.out.drew.trans (aL.mono dL.out.size))) (fun y hy => (QC.out.2.2 y hy).1) (by have := digits_length 5 (by omega); have q1 := gO [(m : Int)] (by simp; omega); rw [aeF] at q1; have := QC.out; rw [acH]; omega)).mono ?_; rintro e6 w6 ⟨p6, n6, c6, rfl, cw, bK⟩))
 have oL := af (cE.out.trans (((dL.out.drew.trans (aL.mono dL.out.size)).trans (bK.mono (acN dL.out.size aL.size))).mono cE.out.size));have wZ := af cw;clear bP aL bK cw Es;go_wp2;go_ret2
 refine .inl ⟨HC.out, _, _, _, rfl, ?_, oL.out⟩;have h1 := wZ.out;rw [QC.out.1] at h1;unfold Cm.bytes;dsimp only
 simpa using h1
theorem oR {w : World} {vs vv : Value} {c : Cm} (h : pZ w vs vv c) : Calls prog 18 #[pW c vs vv] w (Bd w c) := by
 by_cases hc : c.ok = true
 ·obtain ⟨p, n, d, rfl⟩ := h.sp.sl;obtain ⟨q, m, f, rfl⟩ := h.vo.sl;obtain ⟨k, se, sq, a, sp, vo⟩ := c;have hk : k = 0 ∨ k = 1 ∨ k = 2 ∨ k = 3 ∨ k = 4 ∨ k = 5 := by
   rcases (Cm.aO _).1 hc with h1 | h1 | h1 | h1 | h1
   ·exact h1.1.imp id fun e => .inl e
   ·exact .inr (.inr (.inl h1.1))
   ·exact .inr (.inr (.inr (.inl h1.1)))
   ·exact .inr (.inr (.inr (.inr (.inl h1.1))))
   ·exact .inr (.inr (.inr (.inr (.inr h1.1))))
  rcases hk with rfl | rfl | rfl | rfl | rfl | rfl
  ·exact KY h hc
  ·exact KZ h hc
  ·exact K8 h hc
  ·exact K6 h hc
  ·exact K7 h hc
  ·exact K_ h hc
 ·exact Ic h (by simpa using hc)
end Go.Proofs.YtionbmlicmibgaaGreatDoor
