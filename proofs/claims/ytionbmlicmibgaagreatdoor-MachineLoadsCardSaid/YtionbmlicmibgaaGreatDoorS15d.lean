import Derived.Test.YtionbmlicmibgaaGreatDoorS14d
import Derived.Test.YtionbmlicmibgaaGreatDoorS15
import Derived.Test.YtionbmlicmibgaaGreatDoorS13
set_option linter.unusedVariables false
set_option linter.unusedSimpArgs false
namespace Go.Proofs.YtionbmlicmibgaaGreatDoor
open Go.Proofs.Tryz
theorem xU {l : List UInt8} {r : List Sp} {e : Nat} (h : pg l r e) : r.length ≤ l.length := by
 rcases h with ⟨_, _, h3⟩ | ⟨_, h2, _⟩
 ·have := xS r;rw [h3] at this;omega
 ·rw [h2];simp
theorem Mg {l : List UInt8} (hl : l.length ≤ 1100000) : pD l = eT l := by
 have h := pg.one (Ga l) (sJ l) (by have := xU (Ga l); omega) (by have := xU (sJ l); omega);exact Prod.ext h.1 h.2
theorem zo {l : List UInt8} {most : Nat} {st : Nat × Nat} : (tx l most st).1.length ≤ l.length := by
 unfold tx
 split
 ·simp
 ·split
  ·simp
  ·split
   ·simp
   ·split
    ·simp
    ·dsimp only;rw [ac6, adg];omega
noncomputable def NM (l : List UInt8) : List Pl → Nat → Nat × Nat → List Pl
 | S, 0, _ => S
 | S, k + 1, st => NM l (iH S (eT (tx l 262144 st).1).1) k (tx l 262144 st).2
noncomputable def nI (l : List UInt8) : List Pl := NM l [] (min (nx l (0, 0)).1 33) (nx l (0, 0)).2
theorem Gd {l : List UInt8} : ∀ (rest T : List Pl) (a : Nat), fB (T ++ rest) → a ≤ l.length → l.drop a = rest.flatMap aX → NM l (oc T) rest.length (a, 0) = oc (T ++ rest)
 | [], T, a, h, ha, hd => by rw [adh]; rfl
 | y :: rest, T, a, h, ha, hd => by
  have nU := h.ok y (aeD _ (ac8 ..));have K9 := py nU.1;have h1 : l.drop a = digits (cN (aQ y.2)).length ++ (cN (aQ y.2) ++ rest.flatMap aX) := by
   rw [hd, adw];unfold aX;rw [ac7]
  have hl := aec List.length h1;rw [adg, acH, acH] at hl;have h2 := fa (most := 262144) (x := cN (aQ y.2)) (by omega) (by omega) ha h1;have h3 : eT (cN (aQ y.2)) = (aQ y.2, 0) := ku _ (by have := nU.1.len; rw [dp]; omega) fun x hx => (nU.1.ok x (iR.1 hx)).1;have h4 : l.drop (a + (digits (cN (aQ y.2)).length).length + (cN (aQ y.2)).length) = rest.flatMap aX := ai (ai h1);have hT : ∀ z ∈ oc T, kP z < y.1 := by
   intro z hz;obtain ⟨z', Vu, rfl⟩ := ads.1 hz;exact (aes.1 h.rises).2.2 z' Vu y (ac8 ..)
  have hlen : (oc T).length < 32 := by
   have := h.len;rw [acH, acZ] at this;rw [zB];omega
  have h5 : iH (oc T) (aQ y.2) = oc (T ++ [y]) := by
   rw [BK hT hlen nU.1.sort (fun e => nU.2.1 (by
    have h1 : (aQ y.2).length = 0 := by rw [e]; rfl
    rw [dp] at h1;exact aeg.1 h1))]
   unfold oc;rw [aed];rfl
  show NM l (oc T) (rest.length + 1) (a, 0) = _
  rw [NM, h2];dsimp only;rw [h3];dsimp only;rw [h5, Gd rest (T ++ [y]) _ (by rw [ac7]; exact h) (by omega) h4, ac7];rfl
theorem FU {S : List Pl} (h : fB S) : nI (br S) = oc S := by
 have h0 : (br S).drop 0 = digits S.length ++ S.flatMap aX := rfl;have hn := au (l := br S) (a := 0) (n := S.length) (by have := h.len; omega) h0;unfold nI;rw [hn];dsimp only;have hl := aec List.length h0;rw [adg, acH] at hl;rw [Nat.min_eq_left (by have := h.len; omega)];exact Gd S [] _ h (by omega) (ai h0)
open Go.RowKit
theorem Pn (w : World) : dx (w.alloc (.cells #[.slice none 0 0] 134)) w.heap.size [] := by
 have h := acQ w (.cells #[.slice none 0 0] 134);have c0 := acC _ w.heap.size 0 _ 134 (0, 0) h;exact ⟨⟨_, c0, dA.nil _, .inl rfl⟩, acI _ w.heap.size 0 _ 134 h, fB.nil, by simp, by simp, by simp⟩
theorem Sr.below {w w' : World} {g : Nat} {v : Value} {a E : Nat} (h : Sr w g v a E) (hb : Below w.heap.size w w') : Sr w' g v a E := by
 have := h.lt;unfold Sr at *;rw [hb.block g this];exact h
theorem Sr.aU {w w' : World} {g : Nat} {v : Value} {a E : Nat} {S : Nat → Prop} (h : Sr w g v a E) (hc : ak w w' S) (hn : ¬ S g) : Sr w' g v a E := by
 have := h.lt;unfold Sr at *;rw [hc.block g this hn];exact h
theorem By.TW {w w' : World} {S : Nat → Prop} {v : Value} {l : List UInt8} (h : By w v l) (hc : ak w w' S) (aN : l = [] ∨ ∀ k, v.ownBlock = some k → ¬ S k) : By w' v l := by
 obtain ⟨p, c, e, h1, h2, h3, h4⟩ := h;refine ⟨p, c, e, h1, h2, h3, fun a ha i x hx => ?_⟩;refine hc.cell (h4 a ha i x hx) ?_;subst e;rcases aN with rfl | aN
 ·simp at hx
 ·rw [block_add];exact aN _ (by rw [ha]; rfl)
theorem Sr.vals {w : World} {g : Nat} {a E : Nat} {p : Option Addr} {n c : Nat} (h : Sr w g (.slice p n c) a E) {i : Nat} {u : Value} (hu : w.cell? ⟨g, i, none⟩ = some u) : (∃ z, u = .int .i64 z) ∨ u = .slice p n c := by
 unfold Sr at h;rw [acC w g i _ 121 (0, 0) h] at hu;unfold Xn at hu
 match i, hu with
 | 0, hu => exact .inr (by simpa using hu.symm)
 | 1, hu => exact .inl ⟨_, by simpa using hu.symm⟩
 | 2, hu => exact .inl ⟨_, by simpa using hu.symm⟩
 | n + 3, hu => simp at hu
theorem dx.Ld {w w' : World} {gx : Nat} {R : List Rr} {r a E : Nat} {p : Option Addr} {n c : Nat} (h : dx w gx R) (hc : ak w w' fun k => k = r) (hr : Sr w r (.slice p n c) a E) (aN : ¬ iy gx R r) : dx w' gx R := by
 obtain ⟨v, c0, aM, Aq⟩ := h.c0;have wx : gx ≠ r := fun e => aN (.inl e.symm);refine ⟨⟨v, hc.cell c0 wx, aM.aU hc ?_, Aq⟩, (adR (a := ⟨gx, 0, none⟩) (hc.block gx (lt_of_cell c0) wx)).trans h.fr, h.ok, fun x hx => ?_, h.ids, h.ne⟩
 ·obtain ⟨p, d, rfl, _, _, _, nG⟩ := aM;by_cases h0 : R = []
  ·exact .inl h0
  ·refine .inr fun k hk e => ?_;obtain ⟨g, o, rfl, zq⟩ := nG (adP.2 h0);have Au : g = k := by injection hk
   have Vp : 0 < R.length := adP.2 h0;have h1 := zq 0 R[0] (acF Vp);rcases hr.vals (show w.cell? ⟨r, o + 0, none⟩ = _ by rw [← e, ← Au]; exact h1) with ⟨z, hz⟩ | hz <;> cases hz
 ·obtain ⟨a0, a1, u, u1, u2, u3⟩ := h.fo x hx;have Xc : x.g ≠ r := fun e => aN (.inr ⟨x, hx, e.symm⟩);have hb : w'.heap[x.g]? = w.heap[x.g]? := hc.block x.g (lt_of_cell a0) Xc;refine ⟨(adi (a := ⟨x.g, 0, none⟩) hb).trans a0, (adR (a := ⟨x.g, 1, none⟩) hb).trans a1, u, (adi (a := ⟨x.g, 1, none⟩) hb).trans u1, u2.O7 hc ?_, u3⟩;by_cases h0 : x.L = []
  ·exact .inl h0
  ·refine .inr fun k hk e => ?_;obtain ⟨p, n, d, rfl⟩ := u2.sl;have hl := u2.len.1;have hp : 0 < x.L.length := adP.2 h0;obtain ⟨g, o, rfl, Av⟩ := u2.at_ (by omega);have Au : g = k := by injection hk
   have h1 := (Av 0 x.L[0] (acF hp)).c5;rcases hr.vals (show w.cell? ⟨r, _, none⟩ = _ by rw [← e, ← Au]; exact h1) with ⟨z, hz⟩ | hz <;> cases hz
def RxL (w0 : World) (gx g : Nat) (v : Value) (l : List UInt8) (wr : World) (S : List Pl) (st : Nat × Nat) : Prop :=
 ∃ R, dx wr gx R ∧ R.map Rr.pl = S ∧ (∀ k, iy gx R k → w0.heap.size ≤ k) ∧ Below w0.heap.size w0 wr ∧ Sr wr g v st.1 st.2 ∧ By wr v l ∧ ¬ iy gx R g
def Po (w : World) (l : List UInt8) (e : Ending) (w' : World) : Prop :=
 (br (nI l) = l ∧ ∃ gx R, e = .returned (.tuple #[.pointer (some ⟨gx, 0, none⟩), .int .i64 0]) ∧ dx w' gx R ∧ R.map Rr.pl = nI l ∧ (∀ k, iy gx R k → w.heap.size ≤ k) ∧ Below w.heap.size w w') ∨
 (br (nI l) ≠ l ∧ e = .returned (.tuple #[.pointer none, .int .i64 70]) ∧ Below w.heap.size w w')
set_option maxRecDepth 200000 in
set_option maxHeartbeats 8000000 in
theorem Ik {w : World} {v : Value} {l : List UInt8} (hv : By w v l) (hl : l.length ≤ 65536) : Calls prog 91 #[v] w (Po w l) := by
 obtain ⟨p, n, c, rfl⟩ := hv.sl;have HN := af hv.len.1;have Oq : (n : Int) ≤ 9223372036854775807 := hv.jZ;have fA : l = [] ∨ ∀ k, (Value.slice p n c).ownBlock = some k → k < w.heap.size := by
  by_cases h0 : l = []
  ·exact .inl h0
  ·refine .inr fun k hk => ?_;obtain ⟨p', c', e2, _, _, _, hc⟩ := hv;injection e2 with e2;subst e2;cases hl : l with
   | nil => exact absurd hl h0
   | cons y r =>
    cases p with
    | none => cases hk
    | some ad =>
     simp only [Value.ownBlock, adp] at hk;have := lt_of_cell (hc ad rfl 0 y (by rw [hl]; rfl));rw [block_add] at this;omega
 have X3 := af fA;have NA := af hl;obtain ⟨g, hg⟩ : ∃ g, w.heap.size = g := ⟨_, rfl⟩
 obtain ⟨X, hX⟩ : ∃ X, w.alloc (.cells #[.slice p n c, .int .i64 0, .int .i64 0] 121) = X := ⟨_, rfl⟩
 have hS : Sr X g (.slice p n c) 0 0 := by rw [← hX, ← hg]; exact acQ w _
 have HS := af hS;have eI := af (show By X (.slice p n c) l by rw [← hX]; exact hv.alloc _);have dH := af (show Below w.heap.size w X by rw [← hX]; exact (acG _ _).alloc (acE _) _);have HVW := af hv;have jd := af (show l = [] ∨ ∀ k, (Value.slice p n c).ownBlock = some k → some g ≠ some k from fA.imp id fun h k hk e => by
  injection e with e;have := h k hk;omega)
 have HG := af hg;clear hv hl fA hS;obtain ⟨N, a0, E0, hN⟩ : ∃ n a e, nx l (0, 0) = (n, a, e) := ⟨_, _, _, rfl⟩
 have xA := (av (l := l) (st := (0, 0)) (adq _))
 rw [hN] at xA;dsimp only at xA;have X9 : NM l [] (min N 33) (a0, E0) = nI l := by unfold nI; rw [hN]
 have TU : (N : Int) ≤ 9223372036854775807 := by omega
 have vr := af (acD hN (acD X9 xA.1));clear hN X9 xA;go_enter func91, ntmps91
 go_wp2_with fail
 clear hX hg;refine (aY HS.out eI.out (adq _) (show _ = (N, a0, E0) from vr.out.1)).mono ?_;rintro e2 w2 ⟨rfl, eF, dO⟩;have rX : ak X w2 fun k => k = g := ak.aV dO _ (fun k e => by injection e with e; exact .inl e.symm);have Pp : Below w.heap.size w w2 := ak.aZ dH.out rX (fun k e => by rw [e, HG.out]; exact acE _);have wx : g < w2.heap.size := eF.lt;obtain ⟨gx, T0⟩ : ∃ b, w2.heap.size = b := ⟨_, rfl⟩
 obtain ⟨Y, hY⟩ : ∃ Y, w2.alloc (.cells #[.slice none 0 0] 134) = Y := ⟨_, rfl⟩
 have fF : Below w2.heap.size w2 Y := by rw [← hY]; exact (acG _ _).alloc (acE _) _
 have H0 : Hid (RxL w gx g (.slice p n c) l Y [] (a0, E0)) := af ⟨[], by rw [← hY, ← T0]; exact Pn w2, rfl, (fun k hk => by
  rcases hk with rfl | ⟨x, hx, _⟩
  ·rw [← T0]; exact Pp.size
  ·cases hx), Pp.trans (fF.mono Pp.size), eF.below fF, (eI.out.TW rX (jd.out.imp id fun h k hk e => h k hk (by rw [e]))).below fF, fun hk => by
  rcases hk with h | ⟨x, hx, _⟩
  ·omega
  ·cases hx⟩
 clear eF dO rX Pp wx fF;have HK : Hid (∀ (b : Nat) (R : List Rr), (∀ k, iy gx R k → w.heap.size ≤ k) → l = [] ∨ ∀ k, (Value.slice p n c).ownBlock = some k → ¬ iy gx R k) := af fun b R hR => X3.out.imp id fun h k hk hx => by
  have h1 := h k hk;have h2 := hR k hx;omega
 go_upto_region 4 with fail
 clear hY T0;go_wp2_with fail
 go_loopw [7, 8, 9] (fun i _ _ wr => ∃ (j : Nat) (S : List Pl) (st : Nat × Nat), j ≤ min N 33 ∧ i = .int .i64 j ∧ Hid (RxL w gx g (.slice p n c) l wr S st ∧ st.1 ≤ l.length ∧ NM l S (min N 33 - j) st = nI l)) (fun i _ _ _ => min N 33 - (intOf i).toNat)
 case atStart => exact ⟨0, [], (a0, E0), adq _, rfl, af ⟨H0.out, vr.out.2.2, vr.out.2.1⟩⟩
 case round =>
  obtain ⟨j, S, st, hj, rfl, HR⟩ := hrel;obtain ⟨a, E⟩ := st;by_cases bd : j < min N 33
  ·obtain ⟨⟨R, r1, r2, r3, r4, r5, r6, r7⟩, lV, dk⟩ := HR.out;dsimp only at r5 lV;obtain ⟨T, a', E', hT⟩ : ∃ T a' E', tx l 262144 (a, E) = (T, a', E') := ⟨_, _, _, rfl⟩
   have xk : T.length ≤ 65536 := by
    have h1 := zo (l := l) (most := 262144) (st := (a, E));rw [hT] at h1;have := NA.out;dsimp only at h1;omega
   have Mf : a' ≤ l.length := by
    have h1 := xl (l := l) (most := 262144) (st := (a, E)) lV;rw [hT] at h1;exact h1
   have cn : NM l (iH S (eT T).1) (min N 33 - (j + 1)) (a', E') = nI l := by
    have e1 : min N 33 - j = (min N 33 - (j + 1)) + 1 := by omega
    rw [e1, NM, hT] at dk;exact dk
   have T1 := af (iw r5 r6 jd.out (by have := HN.out; omega) 262144 262144 rfl (show _ = (T, a', E') from hT));have TP := qj T;obtain ⟨L, e9, hP⟩ : ∃ L e9, eT T = (L, e9) := ⟨_, _, rfl⟩
   rw [hP] at cn TP;dsimp only at cn TP;have od := af (acD cn (acD Mf (acD xk TP)));have HP := af (show pD T = (L, e9) from (Mg (by omega)).trans hP);have Oz := af r5;have HSS := af (acD r1 (acD r2 (acD r3 (acD r4 (acD r6 r7)))));have q1 : (j : Int) < (N : Int) := by omega
   have q2 : (j : Int) ≤ 32 := by omega
   clear r1 r2 r3 r4 r5 r6 r7 dk cn Mf xk TP hT hP lV;go_wp2_with fail
   refine T1.out.mono ?_;rintro e w3 ⟨rfl, jH, fE⟩;obtain ⟨q4, w4, sU, iP, bY⟩ := lW w3 T (by have := od.out.2.2.1; omega);have GT := af (ES iP.bp (by have := od.out.2.2.1; omega) HP.out);have H4 : Hid (dx w4 gx R ∧ Below w.heap.size w w4 ∧ Sr w4 g (.slice p n c) a' E' ∧ By w4 (.slice p n c) l) := af (by
    obtain ⟨k1, k2, k3, k4, k6, k7⟩ := HSS.out;have hc : ak wr w3 fun k => k = g := ak.aV fE _ (fun k e => by injection e with e; exact .inl e.symm);have z3 : dx w3 gx R := k1.Ld hc Oz.out k7;have b3 : Below w.heap.size w w3 := ak.aZ k4 hc (fun k e => by rw [e, HG.out]; exact acE _);exact ⟨z3.below bY, b3.trans (bY.mono b3.size), jH.below bY, (k6.TW hc (jd.out.imp id fun h k hk e => h k hk (by rw [e]))).below bY⟩)
   clear iP bY jH fE T1;go_wp2_with fail
   refine GT.out.mono ?_;rintro e w5 ⟨v5, rfl, bP, aL⟩;obtain ⟨p5, n5, c5, rfl⟩ := bP.gp.sl;have HI := af (BW (H4.out.1.below aL) bP.gp (.inr fun k hk hx => by have h1 := (bP.lt k hk).1; have h2 := H4.out.1.lt k hx; omega) (by have := od.out.2.2.2.1; have := od.out.2.2.1; omega) od.out.2.2.2.2);have H5 : Hid (dx w5 gx R ∧ Below w.heap.size w w5 ∧ Sr w5 g (.slice p n c) a' E' ∧ By w5 (.slice p n c) l) := af ⟨H4.out.1.below aL, H4.out.2.1.trans (aL.mono H4.out.2.1.size), H4.out.2.2.1.below aL, H4.out.2.2.2.below aL⟩;clear bP aL GT H4 sU;go_wp2_with fail
   refine HI.out.mono ?_;rintro e w6 ⟨rfl, R6, xv⟩;have H6 : Hid (RxL w gx g (.slice p n c) l w6 (iH S L) (a', E')) := af (by
    obtain ⟨k1, k2, k3, k4, k6, k7⟩ := HSS.out;obtain ⟨m1, m2, m3, m4⟩ := H5.out;refine ⟨R6, xv.is, by rw [xv.pl, k2], fun k hk => ?_, ?_, ?_, ?_, fun hk => ?_⟩
    ·rcases xv.new k hk with h | h
     ·exact k3 k h
     ·have := m2.size; omega
    ·exact ak.aZ m2 xv.aU (fun k hk => k3 k hk)
    ·exact m3.aU xv.aU k7
    ·exact m4.TW xv.aU (HK.out 0 R k3)
    ·rcases xv.new g hk with h | h
     ·exact k7 h
     ·have := m3.lt; omega)
   clear xv HI;go_wp2;go_roundw;case rel => exact ⟨j + 1, iH S L, (a', E'), by omega, by go_num, af ⟨H6.out, od.out.2.1, od.out.1⟩⟩
   case measure => simp [intOf]; omega
  ·have Ri : min N 33 - j = 0 := by omega
   obtain ⟨⟨R, r1, r2, r3, r4, r5, r6, r7⟩, lV, dk⟩ := HR.out;rw [Ri, NM] at dk;have HZ := af (acD r1 (acD (r2.trans dk) (acD r3 r4)));have A9 := af (tj (HZ.out.1.below (ag wr 1)));rw [HZ.out.2.1] at A9;have Dj := af (HVW.out.below r4);have mY := af r4;have d1 := eu Dj.out;have d0 := bH Dj.out;have d2 : (convert 32 9 (.slice p n c)).run prog wr.drew = .ok (.string (str l)) wr.drew := eu Dj.out 1;have Ie : ((j : Int) < (N : Int) ∧ ¬ (j : Int) ≤ 32) ∨ ¬ (j : Int) < (N : Int) := by omega
   clear r1 r2 r3 r4 r5 r6 r7 lV dk Ri;by_cases hq : br (nI l) = l
   ·have heq : ((str (br (nI l))).toList == (str l).toList) = true := by rw [mZ]; exact ac4 hq
    have HQ := af hq;clear hq;rcases Ie with ⟨q1, q2⟩ | q1;all_goals
     go_wp2;go_region_with (first | (go_at_call 120; refine (A9.out).mono ?_; rintro e w5 ⟨v5, rfl, bP, aL⟩; obtain ⟨p5, n5, c5, rfl⟩ := bP.bp.sl; have z0 := bH bP.bp; have z1 := eu bP.bp; have u0 := bH (Dj.out.below (show Below wr.heap.size wr w5 from (ag wr 1).trans aL)); have cH := af (show Below wr.heap.size wr w5 from (ag wr 1).trans aL); clear bP aL))
     all_goals
      go_wp2;go_ret2
      exact .inl ⟨HQ.out, gx, R, rfl, HZ.out.1.below cH.out, HZ.out.2.1, HZ.out.2.2.1, mY.out.trans (cH.out.mono mY.out.size)⟩
   ·have heq : ((str (br (nI l))).toList == (str l).toList) = false := by rw [mZ]; exact ac1 hq
    have HQ := af hq;clear hq;rcases Ie with ⟨q1, q2⟩ | q1;all_goals
     go_wp2;go_region_with (first | (go_at_call 120; refine (A9.out).mono ?_; rintro e w5 ⟨v5, rfl, bP, aL⟩; obtain ⟨p5, n5, c5, rfl⟩ := bP.bp.sl; have z0 := bH bP.bp; have z1 := eu bP.bp; have u0 := bH (Dj.out.below (show Below wr.heap.size wr w5 from (ag wr 1).trans aL)); have cH := af (show Below wr.heap.size wr w5 from (ag wr 1).trans aL); clear bP aL))
     all_goals
      go_wp2;go_ret2
      exact .inr ⟨HQ.out, rfl, mY.out.trans (cH.out.mono mY.out.size)⟩
end Go.Proofs.YtionbmlicmibgaaGreatDoor
