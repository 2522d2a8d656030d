import Derived.Test.YtionbmlicmibgaaGreatDoorS14
import Derived.Test.YtionbmlicmibgaaGreatDoorSoSame
set_option linter.unusedVariables false
set_option linter.unusedSimpArgs false
namespace Go.Proofs.YtionbmlicmibgaaGreatDoor
open Go.Proofs.Tryz
set_option maxRecDepth 200000
set_option maxHeartbeats 4000000
open Go.RowKit
noncomputable def Me (l : List UInt8) : List Pl → Nat → Nat × Nat → List Pl
 | S, 0, _ => S
 | S, k + 1, st => if (eT (tx l (l.length - st.1) st).1).2 = 0 then Me l (iH S (eT (tx l (l.length - st.1) st).1).1) k (tx l (l.length - st.1) st).2 else S
noncomputable def wj (l : List UInt8) : List Pl := Me l [] (nx l (0, 0)).1 (nx l (0, 0)).2
theorem EU (x : Sp) : 6 ≤ x.bytes.length := by
 unfold Sp.bytes;simp only [acH];have h1 := bZ x.t.toNat;have h2 := bZ x.i.toNat;have h3 := bZ x.p.toNat;have h4 := bZ x.s.toNat;have h5 := bZ (x.e - x.s).toNat;have h6 := bZ x.nl.length;omega
theorem xS (l : List Sp) : 6 * l.length ≤ (cN l).length := by
 unfold cN;rw [acH];have h : ∀ l : List Sp, 6 * l.length ≤ (l.map Sp.bytes).flatten.length := by
  intro l
  induction l with
  | nil => simp
  | cons x r ih =>
   have h1 := EU x;simp only [ad7, aej, acH, acZ];omega
 have := h l;omega
theorem qj (l : List UInt8) : 6 * (eT l).1.length ≤ l.length ∧ ∀ x ∈ (eT l).1, x.n.size ≤ 1100000 := by
 rcases sJ l with ⟨_, h2, h3⟩ | ⟨_, h2, _⟩
 ·refine ⟨?_, fun x hx => ?_⟩
  ·have := xS (eT l).1;rw [h3] at this;exact this
  ·have h4 := h2 x hx;unfold Sp.ok at h4;rw [adb] at h4;have h5 := h4.2;unfold kZ at h5;rw [adb, adb, adr, adr] at h5;have h6 := h5.1.2;have h7 : x.nl.length = x.n.size := by unfold Sp.nl; rfl
   omega
 ·rw [h2];exact ⟨by simp, fun x hx => by cases hx⟩
theorem TT (l : List UInt8) : (eT l).2 = 0 ∨ (eT l).2 = 30 := by
 rcases sJ l with ⟨h, _⟩ | ⟨h, _⟩
 ·exact .inl h
 ·exact .inr h
theorem Sc.below {w w' : World} {g : Nat} {v : Value} {at_ E : Nat} (h : Sc w g v at_ E) (hb : Below w.heap.size w w') : Sc w' g v at_ E := by
 have := h.lt;unfold Sc at *;rw [hb.block g this];exact h
theorem Sc.aU {w w' : World} {g : Nat} {v : Value} {at_ E : Nat} {S : Nat → Prop} (h : Sc w g v at_ E) (hc : ak w w' S) (hn : ¬ S g) : Sc w' g v at_ E := by
 have := h.lt;unfold Sc at *;rw [hc.block g this hn];exact h
theorem xj {w : World} {g : Nat} {p : Option Addr} {n c at_ E : Nat} (hS : Sc w g (.slice p n c) at_ E) (aG : at_ ≤ n) (hn : (n : Int) ≤ 9223372036854775807) :
  Calls prog 146 #[.pointer (some ⟨g, 0, none⟩)] w fun e w' => e = .returned (.int .i64 ((n : Int) - (at_ : Int))) ∧ ∃ q, w' = w.drewN q := by
 have h0 := hS.c0;have h1 := hS.c1;go_enter func146, ntmps146
 go_wp2_with fail
 refine (pj h0 h1 aG hn).mono ?_;rintro e w1 ⟨rfl, q, rfl⟩;go_wp2;go_ret;exact ⟨rfl, _, rfl⟩
theorem gF (l : List UInt8) : (str l).size = l.length := by rw [str_eq]; rfl
theorem mX (l : List UInt8) : (str l).data.toList = l := by rw [str_eq]
theorem lW (w : World) (T : List UInt8) (hs : T.length ≤ 5000000) :
  ∃ (q : Nat) (w' : World), (convert 9 32 (.string (str T))).run prog w = .ok (.slice (some ⟨w.heap.size, 0, none⟩) T.length q) w' ∧ Own w.heap.size w' (.slice (some ⟨w.heap.size, 0, none⟩) T.length q) T ∧ Below w.heap.size w w' := by
 have hl : (str T).size = T.length := gF T;have r_ : (str T).data.toList = T := mX T;have hr := run_bytes_of_string (P := prog) w 9 32 5 (str T) afb adu underlying5;have h1 := grownCap_ge w (str T).size 0 5;have h2 := grownCap_le_maxLen w (str T).size 0 5 (by simp only [maxLen]; omega);generalize grownCap w (str T).size 0 5 = q at h1 h2 hr;have hz : (bytesRow (str T) q).size = q := by
  have hh : (str T).data.size = (str T).size := rfl;unfold bytesRow;simp [Builtin.zeroCells];omega
 rw [hl] at hr h1;refine ⟨q, _, hr, .inr ⟨w.heap.size, q, rfl, acE _, h1, h2, fun i x hx => ?_, fun i hi => ?_, fun i hi => ?_⟩, (acG _ w).drew.alloc (acE _) _⟩
 ·have := World.cell?_alloc_mark w.drew (bytesRow (str T) q) 5 ((bytesRow (str T) q).size, (bytesRow (str T) q).size + 1) i;rw [show w.drew.heap.size = w.heap.size from rfl] at this;rw [this];have hi : i < T.length := (acL.1 hx).1;have pX : (str T).data[i]? = some x := by
   rw [← r_] at hx
   simpa using hx
  have Vr : i < (str T).data.size := by
   have hh : (str T).data.size = (str T).size := rfl;omega
  unfold bytesRow;rw [aeW (by simpa using Vr), Array.getElem?_map, pX];rfl
 ·have := World.cell?_alloc_mark w.drew (bytesRow (str T) q) 5 ((bytesRow (str T) q).size, (bytesRow (str T) q).size + 1) i;rw [show w.drew.heap.size = w.heap.size from rfl] at this;rw [this, Array.getElem?_eq_getElem (by omega)];rfl
 ·have := World.frozen?_alloc_mark w.drew (bytesRow (str T) q) 5 (bytesRow (str T) q).size ((bytesRow (str T) q).size + 1) i;rw [show w.drew.heap.size = w.heap.size from rfl] at this;rw [this, hz];simp;omega
def StL (w0 : World) (gs bm g : Nat) (v : Value) (l : List UInt8) (wr : World) (S : List Pl) (st : Nat × Nat) : Prop :=
 ∃ R, bR wr gs bm R ∧ R.map Tr.pl = S ∧ (∀ k, mT gs bm R k → w0.heap.size ≤ k) ∧ Below w0.heap.size w0 wr ∧ Sc wr g v st.1 st.2 ∧ By wr v l ∧ ¬ mT gs bm R g
theorem I7 {w0 w : World} {gs bm g : Nat} {p : Option Addr} {n c : Nat} {l : List UInt8} (h : StL w0 gs bm g (.slice p n c) l w [] (0, 0)) (hg : w0.heap.size ≤ g) (aN : l = [] ∨ ∀ k, (Value.slice p n c).ownBlock = some k → some g ≠ some k) (hl : l.length ≤ 500000) :
  Calls prog 161 #[.pointer (some ⟨gs, 0, none⟩), .pointer (some ⟨g, 0, none⟩)] w fun e w' => e = .returned (.tuple #[]) ∧ ∃ R, bR w' gs bm R ∧ R.map Tr.pl = wj l ∧ (∀ k, mT gs bm R k → w0.heap.size ≤ k) ∧ Below w0.heap.size w0 w' := by
 have jd := af aN;have HG := af hg;have HL := af hl;obtain ⟨R0, k1, k2, k3, k4, k5, k6, k7⟩ := h;have vV := k6.len.1;obtain ⟨N, a0, E0, hN⟩ : ∃ n a e, nx l (0, 0) = (n, a, e) := ⟨_, _, _, rfl⟩
 have xA := av (l := l) (st := (0, 0)) (adq _);rw [hN] at xA;dsimp only at xA;have X9 : Me l [] N (a0, E0) = wj l := by unfold wj; rw [hN]
 have ZC := af X9;have NC := af vV;have vr := af xA;have N1 := af (ay k5 k6 (adq _) (show _ = (N, a0, E0) from hN));have H := af (acD k1 (acD k2 (acD k3 (acD k4 (acD k6 k7)))));clear k1 k2 k3 k4 k5 k6 k7 xA X9 hN vV aN hg hl;go_enter func161, ntmps161
 go_wp2_with fail
 refine N1.out.mono ?_;rintro e w1 ⟨rfl, dR, eQ⟩;have H1 : Hid (StL w0 gs bm g (.slice p n c) l w1 [] (a0, E0)) := af (by
  have hc : ak w w1 fun k => k = g := ak.aV eQ _ (fun k e => by injection e with e; exact .inl e.symm);obtain ⟨k1, k2, k3, k4, k6, k7⟩ := H.out;exact ⟨R0, k1.aU hc (fun k hk e => k7 (e ▸ hk)), k2, k3, ak.aZ k4 hc (fun k e => by rw [e]; exact HG.out), dR, k6.grown eQ jd.out, k7⟩)
 clear dR eQ N1 H;go_wp2_with fail
 go_loopw [8] (fun ix wr => ∃ (j : Nat) (S : List Pl) (st : Nat × Nat), j ≤ N ∧ ix = .int .i64 j ∧ Hid (StL w0 gs bm g (.slice p n c) l wr S st ∧ st.1 ≤ l.length ∧ Me l S (N - j) st = wj l)) (fun ix _ => N - (intOf ix).toNat)
 case atStart => exact ⟨0, [], (a0, E0), adq _, rfl, af ⟨H1.out, vr.out.1, ZC.out⟩⟩
 case round =>
  obtain ⟨j, S, st, hj, rfl, HR⟩ := hrel;obtain ⟨a, E⟩ := st;by_cases bd : (j : Int) < (N : Int)
  ·obtain ⟨⟨R, r1, r2, r3, r4, r5, r6, r7⟩, lV, dk⟩ := HR.out;dsimp only at r5 lV;have Oq : (n : Int) ≤ 9223372036854775807 := r6.jZ;have TU : (N : Int) ≤ 9223372036854775807 := by have := vr.out.2; omega
   have vV := NC.out;have L1 := af (xj r5 (by omega) Oq);obtain ⟨T, a', E', hT⟩ : ∃ T a' E', tx l (l.length - a) (a, E) = (T, a', E') := ⟨_, _, _, rfl⟩
   have xk : T.length ≤ 500000 := by
    have h1 := LS (l := l) (most := l.length - a) (st := (a, E));rw [hT] at h1;have := HL.out;dsimp only at h1;omega
   have Mf : a' ≤ l.length := by
    have h1 := xl (l := l) (most := l.length - a) (st := (a, E)) lV;rw [hT] at h1;exact h1
   have cn : Me l S (N - j) (a, E) = if (eT T).2 = 0 then Me l (iH S (eT T).1) (N - (j + 1)) (a', E') else S := by
    have e1 : N - j = (N - (j + 1)) + 1 := by omega
    rw [e1, Me];dsimp only;rw [hT]
   have T1 := af (fun q => kW (w := wr.drewN q) r5 (r6.below (ag wr q)) jd.out (by omega) ((n : Int) - (a : Int)) (l.length - a) (by omega) (show _ = (T, a', E') from hT));have TP := qj T;obtain ⟨L, e9, hP⟩ : ∃ L e9, eT T = (L, e9) := ⟨_, _, rfl⟩
   have hE9 := TT T;rw [hP] at cn TP hE9;dsimp only at cn TP hE9;have od := af (acD dk (acD cn (acD Mf (acD xk TP))));have HP := af hP;have HS := af (acD r1 (acD r2 (acD r3 (acD r4 (acD r6 r7)))));clear r1 r2 r3 r4 r5 r6 r7 dk cn Mf xk TP hT hP lV vV;go_wp2_with fail
   refine L1.out.mono ?_;rintro e w2 ⟨rfl, q, rfl⟩;go_wp2_with fail
   refine (T1.out q).mono ?_;rintro e w3 ⟨rfl, jH, fE⟩;obtain ⟨q4, w4, sU, iP, bY⟩ := lW w3 T (by have := od.out.2.2.2.1; omega);have GT := af (FX iP.bp (by have := od.out.2.2.2.1; omega) (R := L) (E := e9) HP.out);have Kf : g < w3.heap.size := jH.lt;have H4 : Hid (bR w4 gs bm R ∧ Below w0.heap.size w0 w4 ∧ Sc w4 g (.slice p n c) a' E' ∧ By w4 (.slice p n c) l) := af (by
    obtain ⟨k1, k2, k3, k4, k6, k7⟩ := HS.out;have hc : ak (wr.drewN q) w3 fun k => k = g := ak.aV fE _ (fun k e => by injection e with e; exact .inl e.symm);have z3 : bR w3 gs bm R := (k1.drewN q).aU hc (fun k hk e => k7 (e ▸ hk));have b3 : Below w0.heap.size w0 w3 := ak.aZ (k4.trans ((ag wr q).mono k4.size)) hc (fun k e => by rw [e]; exact HG.out);exact ⟨z3.below bY, b3.trans (bY.mono b3.size), jH.below bY, ((k6.below (ag wr q)).grown fE jd.out).below bY⟩)
   clear iP bY jH fE L1 T1 Kf;go_wp2_with fail
   refine GT.out.mono ?_;rintro e w5 ⟨v5, rfl, bP, aL⟩;obtain ⟨p5, n5, c5, rfl⟩ := bP.gp.sl;have HI := af (rm (H4.out.1.below aL) bP.gp (by have := od.out.2.2.2.2.1; have := od.out.2.2.2.1; omega) od.out.2.2.2.2.2);have H5 : Hid (bR w5 gs bm R ∧ Below w0.heap.size w0 w5 ∧ Sc w5 g (.slice p n c) a' E' ∧ By w5 (.slice p n c) l) := af ⟨H4.out.1.below aL, H4.out.2.1.trans (aL.mono H4.out.2.1.size), H4.out.2.2.1.below aL, H4.out.2.2.2.below aL⟩;clear bP aL GT H4 sU;rcases hE9 with he | he
   ·subst he;go_wp2_with fail
    refine HI.out.mono ?_;rintro e w6 ⟨rfl, R6, xv⟩;have H6 : Hid (StL w0 gs bm g (.slice p n c) l w6 (iH S L) (a', E')) := af (by
     obtain ⟨k1, k2, k3, k4, k6, k7⟩ := HS.out;obtain ⟨m1, m2, m3, m4⟩ := H5.out;refine ⟨R6, xv.is, by rw [xv.pl, k2], fun k hk => ?_, ?_, ?_, ?_, fun hk => ?_⟩
     ·rcases xv.new k hk with h | h
      ·exact k3 k h
      ·have := m2.size; omega
     ·exact ak.aZ m2 xv.aU (fun k hk => k3 k hk.sub)
     ·exact m3.aU xv.aU (m1.Tt m3)
     ·exact By.keep m1 xv.aU m4
     ·rcases xv.new g hk with h | h
      ·exact k7 h
      ·have := m3.lt; omega)
    clear xv HI;go_wp2;go_roundw;case rel =>
     refine ⟨j + 1, iH S L, (a', E'), by omega, by go_num, af ⟨H6.out, od.out.2.2.1, ?_⟩⟩;have h1 := od.out.2.1;simp only [if_true, ite_true] at h1;rw [← h1];exact od.out.1
    case measure => simp [intOf]; omega
   ·subst he;go_wp2;refine ac0 (results_none rfl _ _ _) rfl ?_;refine ⟨rfl, R, H5.out.1, ?_, HS.out.2.2.1, H5.out.2.1⟩;have h1 := od.out.2.1;rw [acO (by decide)] at h1;rw [HS.out.2.1, ← od.out.1, h1]
  ·have Ri : j = N := by omega
   subst Ri;obtain ⟨⟨R, r1, r2, r3, r4, r5, r6, r7⟩, lV, dk⟩ := HR.out;have HZ := af (acD r1 (acD r2 (acD r3 r4)));rw [afa, Me] at dk;have o0 := af dk;clear r1 r2 r3 r4 r5 r6 r7 lV dk;go_wp2;go_end0
   exact ⟨rfl, R, HZ.out.1, HZ.out.2.1.trans o0.out, HZ.out.2.2.1, HZ.out.2.2.2⟩
def TV (w : World) (l : List UInt8) (e : Ending) (w' : World) : Prop :=
 (br (wj l) = l ∧ ∃ gs bm R, e = .returned (.tuple #[.pointer (some ⟨gs, 0, none⟩), .int .i64 0]) ∧ bR w' gs bm R ∧ R.map Tr.pl = wj l ∧ (∀ k, mT gs bm R k → w.heap.size ≤ k) ∧ Below w.heap.size w w') ∨
 (br (wj l) ≠ l ∧ e = .returned (.tuple #[.pointer none, .int .i64 70]) ∧ Below w.heap.size w w')
theorem Hw {w : World} {v : Value} {l : List UInt8} (hv : By w v l) (hl : l.length ≤ 500000) : Calls prog 123 #[v] w (TV w l) := by
 obtain ⟨p, n, c, rfl⟩ := hv.sl;have HV := af hv;have HL := af hl;clear hv hl;go_enter func123, ntmps123
 go_wp2_with fail
 refine (Ba w).mono ?_;intro e w1 hn;obtain ⟨gs, bm, R0, rfl, vD, BX, VL, aK⟩ := hn;have aa5 : R0 = [] := by simpa using BX
 subst aa5;have H1 := af (acD vD (acD VL aK));clear vD BX VL aK;go_wp2_with fail
 refine (je (HV.out.below H1.out.2.2) (by have := HL.out; omega)).mono ?_;rintro e w2 ⟨g, u, rfl, sV, hs, hu, aN, hb⟩;obtain ⟨q1, m1, c1, rfl⟩ := hu.bp.sl;have RD := af (I7 (w0 := w) (gs := gs) (bm := bm) (g := g) (p := q1) (n := m1) (c := c1) (l := l) (w := w2)
  ⟨[], H1.out.1.below hb, rfl, H1.out.2.1, H1.out.2.2.trans (hb.mono H1.out.2.2.size), hs, hu.bp, fun hk => by have := H1.out.1.lt g hk; omega⟩ (acN H1.out.2.2.size sV) aN HL.out)
 clear hs hu aN hb sV;go_wp2_with fail
 refine RD.out.mono ?_;rintro e w3 ⟨rfl, R, k1, k2, k3, k4⟩;have H3 := af (acD k1 (acD k2 (acD k3 k4)));have IM := af (sX k1);rw [k2] at IM;clear k1 k2 k3 k4 RD;go_wp2_with fail
 refine IM.out.mono ?_;intro e w4 hp;obtain ⟨v4, rfl, iP, bY⟩ := hp;obtain ⟨p4, n4, c4, rfl⟩ := iP.bp.sl;have EQ := af (iO iP.bp (HV.out.below (H3.out.2.2.2.trans (bY.mono H3.out.2.2.2.size))));have H4 : Hid (bR w4 gs bm R ∧ R.map Tr.pl = wj l ∧ (∀ k, mT gs bm R k → w.heap.size ≤ k) ∧ Below w.heap.size w w4) := af ⟨H3.out.1.below bY, H3.out.2.1, H3.out.2.2.1, H3.out.2.2.2.trans (bY.mono H3.out.2.2.2.size)⟩;clear iP bY IM H3;by_cases hi : br (wj l) = l
 ·have X_ : (br (wj l) == l) = true := by rw [hi]; simp
  rw [X_] at EQ;have HI := af hi;clear hi X_;go_wp2_with fail
  refine EQ.out.mono ?_;rintro e w5 ⟨rfl, rfl⟩;clear EQ;go_wp2;go_ret2
  exact .inl ⟨HI.out, gs, bm, R, rfl, H4.out.1, H4.out.2.1, H4.out.2.2.1, H4.out.2.2.2⟩
 ·have X_ : (br (wj l) == l) = false := by simpa using hi
  rw [X_] at EQ;have HI := af hi;clear hi X_;go_wp2_with fail
  refine EQ.out.mono ?_;rintro e w5 ⟨rfl, rfl⟩;clear EQ;go_wp2;go_ret2
  exact .inr ⟨HI.out, rfl, H4.out.2.2.2⟩
theorem fa {l : List UInt8} {most a : Nat} {x r : List UInt8} (hx : x.length ≤ most) (hm : x.length < 9223372036854775808) (ha : a ≤ l.length) (h : l.drop a = digits x.length ++ (x ++ r)) : tx l most (a, 0) = (x, a + (digits x.length).length + x.length, 0) := by
 have hl := aec List.length h;rw [adg, acH, acH] at hl;unfold tx;rw [acO (by simp)];dsimp only;rw [h, jl (by omega)];dsimp only;rw [acO (by simp), acO (by omega), acO (by omega), ai h, List.take_left]
theorem Gc {l : List UInt8} : ∀ (rest T : List Pl) (a : Nat), fB (T ++ rest) → a ≤ l.length → l.drop a = rest.flatMap aX → Me l (oc T) rest.length (a, 0) = oc (T ++ rest)
 | [], T, a, h, ha, hd => by rw [adh]; rfl
 | y :: rest, T, a, h, ha, hd => by
  have nU := h.ok y (aeD _ (ac8 ..));have K9 := py nU.1;have h1 : l.drop a = digits (cN (aQ y.2)).length ++ (cN (aQ y.2) ++ rest.flatMap aX) := by
   rw [hd, adw];unfold aX;rw [ac7]
  have hl := aec List.length h1;rw [adg, acH, acH] at hl;have h2 := fa (most := l.length - a) (x := cN (aQ y.2)) (by omega) (by omega) ha h1;have h3 : eT (cN (aQ y.2)) = (aQ y.2, 0) := ku _ (by have := nU.1.len; rw [dp]; omega) fun x hx => (nU.1.ok x (iR.1 hx)).1;have h4 : l.drop (a + (digits (cN (aQ y.2)).length).length + (cN (aQ y.2)).length) = rest.flatMap aX := ai (ai h1);have hT : ∀ z ∈ oc T, kP z < y.1 := by
   intro z hz;obtain ⟨z', Vu, rfl⟩ := ads.1 hz;exact (aes.1 h.rises).2.2 z' Vu y (ac8 ..)
  have hlen : (oc T).length < 32 := by
   have := h.len;rw [acH, acZ] at this;rw [zB];omega
  have h5 : iH (oc T) (aQ y.2) = oc (T ++ [y]) := by
   rw [BK hT hlen nU.1.sort (fun e => nU.2.1 (by
    have h1 : (aQ y.2).length = 0 := by rw [e]; rfl
    rw [dp] at h1;exact aeg.1 h1))]
   unfold oc;rw [aed];rfl
  show Me l (oc T) (rest.length + 1) (a, 0) = _
  rw [Me];dsimp only;rw [h2];dsimp only;rw [h3];dsimp only;rw [acW rfl, h5, Gc rest (T ++ [y]) _ (by rw [ac7]; exact h) (by omega) h4, ac7];rfl
theorem Kn {S : List Pl} (h : fB S) : wj (br S) = oc S := by
 have h0 : (br S).drop 0 = digits S.length ++ S.flatMap aX := rfl;have hn := au (l := br S) (a := 0) (n := S.length) (by have := h.len; omega) h0;unfold wj;rw [hn];dsimp only;have hl := aec List.length h0;rw [adg, acH] at hl;exact Gc S [] _ h (by omega) (ai h0)
theorem Ij {S : List Pl} (h : fB S) : br (wj (br S)) = br S := by rw [Kn h, sA]
theorem oW {S : List Pl} (h : fB S) : (br S).length ≤ 300000 := by
 have h1 := kv (S := S) fun y hy => (h.ok y hy).1;have h2 := h.len;have h3 := digits_length S.length (by omega);rw [kx, aej, acH];have h4 : (S.map aX).flatten.length = Lib.lens (S.map aX) := by rw [ae4]; rfl
 omega
end Go.Proofs.YtionbmlicmibgaaGreatDoor
