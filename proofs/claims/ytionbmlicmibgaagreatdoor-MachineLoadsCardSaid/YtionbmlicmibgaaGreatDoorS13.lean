import Derived.Test.YtionbmlicmibgaaGreatDoorS11
set_option linter.unusedVariables false
set_option linter.unusedSimpArgs false
namespace Go.Proofs.YtionbmlicmibgaaGreatDoor
open Go.Proofs.Tryz
set_option maxRecDepth 200000
set_option maxHeartbeats 4000000
open Go.RowKit
def kX (x : Rr) : Int := x.t
theorem xM (x : Rr) : kP x.pl = kX x := rfl
structure Dl (w : World) (gx : Nat) (R : List Rr) : Prop where
 c0 : ∃ v, w.cell? ⟨gx, 0, none⟩ = some v ∧ dA w v R ∧ (R = [] ∨ ∀ k, v.ownBlock = some k → ¬ iy gx R k)
 fr : w.frozen? ⟨gx, 0, none⟩ = false
 fo : ∀ x ∈ R, nD (iy gx R) w x.g x.t x.L
 ids : R.Pairwise fun x y => x.g ≠ y.g
 ne : ∀ x ∈ R, x.g ≠ gx
theorem dx.mem {w : World} {gx : Nat} {R : List Rr} (h : dx w gx R) : Dl w gx R := ⟨h.c0, h.fr, h.fo, h.ids, h.ne⟩
theorem Dl.is {w : World} {gx : Nat} {R : List Rr} (h : Dl w gx R) (aT : fB (R.map Rr.pl)) : dx w gx R := ⟨h.c0, h.fr, aT, h.fo, h.ids, h.ne⟩
theorem qx {P : List Rr} {x : Rr} (h : ∀ y ∈ P, kX y < kX x) (U : List Rr) : aH kX (P ++ U) x = P ++ aH kX U x := by
 induction P with
 | nil => rfl
 | cons y r ih =>
  have h1 := h y (ac8 ..)
  show aH kX (y :: (r ++ U)) x = y :: (r ++ aH kX U x)
  rw [aH, acO (by omega), acO (by omega), ih fun z hz => h z (ade _ hz)]
theorem xN {P : List Rr} {x y : Rr} (h : ∃ z ∈ P, kX x < kX z) (hn : ∀ z ∈ P, kX x ≠ kX z) : aH kX (P ++ [y]) x = aH kX P x ++ [y] := by
 induction P with
 | nil => obtain ⟨z, hz, _⟩ := h; cases hz
 | cons u r ih =>
  by_cases h1 : kX x < kX u
  ·show aH kX (u :: (r ++ [y])) x = _
   rw [aH, aH, acW h1, acW h1];rfl
  ·have h2 := hn u (ac8 ..)
   show aH kX (u :: (r ++ [y])) x = _
   rw [aH, aH, acO h1, acO h1, acO h2, acO h2, ih ?_ fun z hz => hn z (ade _ hz)]
   ·rfl
   ·obtain ⟨z, hz, bd⟩ := h;rcases ac9.1 hz with rfl | hz
    ·exact absurd bd h1
    ·exact ⟨z, hz, bd⟩
theorem zD {P : List Rr} {x : Rr} (h : ∃ z ∈ P, kX x < kX z) (hn : ∀ z ∈ P, kX x ≠ kX z) : (aH kX P x).getLast? = P.getLast? := by
 rcases List.eq_nil_or_concat P with rfl | ⟨Q, y, hP⟩
 ·obtain ⟨z, hz, _⟩ := h; cases hz
 ·rw [List.concat_eq_append] at hP;subst hP;by_cases hq : ∃ z ∈ Q, kX x < kX z
  ·rw [xN hq fun z hz => hn z (aeU _ hz)];simp
  ·have hQ : ∀ z ∈ Q, kX z < kX x := fun z hz => by
    have h1 := hn z (aeU _ hz);have h2 : ¬ kX x < kX z := fun e => hq ⟨z, hz, e⟩;omega
   have hy : kX x < kX y := by
    obtain ⟨z, hz, bd⟩ := h;rcases ad1.1 hz with hz | hz
    ·exact absurd ⟨z, hz, bd⟩ hq
    ·obtain rfl : z = y := by simpa using hz
     exact bd
   rw [qx hQ, aH, acW hy];simp
def LC (x : Rr) (P acc : List Rr) : Prop := (acc = P ∧ ∀ y ∈ P, kX y < kX x) ∨ (acc = aH kX P x ∧ ∃ y ∈ P, kX x < kX y)
theorem OZ {P : List Rr} (hr : bw kX P) {x z : Rr} (hz : P.getLast? = some z) (h : ∃ u ∈ P, kX x < kX u) : z ∈ P ∧ kX x < kX z := by
 rcases List.eq_nil_or_concat P with rfl | ⟨Q, y, hP⟩
 ·simp at hz
 ·rw [List.concat_eq_append] at hP;subst hP;obtain rfl : y = z := by simpa using hz
  refine ⟨by simp, ?_⟩;obtain ⟨u, hu, bd⟩ := h;rcases ad1.1 hu with hu | hu
  ·have := (aes.1 hr).2.2 u hu y (ac8 ..);omega
  ·obtain rfl : u = y := by simpa using hu
   exact bd
theorem xO {x : Rr} : ∀ {R : List Rr}, R.Pairwise (fun a b => a.g ≠ b.g) → (∀ y ∈ R, y.g ≠ x.g) → (aH kX R x).Pairwise fun a b => a.g ≠ b.g
 | [], _, _ => by simp [aH]
 | y :: r, h, hx => by
  have h1 := ac_.1 h;have hr : ∀ z ∈ r, z.g ≠ x.g := fun z hz => hx z (ade _ hz);rw [aH]
  split
  ·refine ac_.2 ⟨fun z hz e => hx z hz e.symm, h⟩
  ·split
   ·exact ac_.2 ⟨fun z hz e => hr z hz e.symm, h1.2⟩
   ·refine ac_.2 ⟨fun z hz => ?_, xO h1.2 hr⟩;rcases fq hz with rfl | hz
    ·exact hx y (ac8 ..)
    ·exact h1.1 z hz
theorem dx.opened {w wr : World} {gx gf B : Nat} {R : List Rr} {v : Value} {t : Int} (h : dx w gx R) (hb : Below w.heap.size w wr) (Vv : w.heap.size ≤ gf) (hB : gf < B) (ho : ia B wr v (aH kX R ⟨t, gf, []⟩))
  (aM : wr.heap[gf]? = some (.cells #[.int .i64 t, .slice none 0 0] 185 (0, 0))) : Dl (wr.setCell ⟨gx, 0, none⟩ v) gx (aH kX R ⟨t, gf, []⟩) := by
 have h' := h.below hb;have bd := h.lt;obtain ⟨u, h1, h2, h3⟩ := h'.c0;have wx : gx < w.heap.size := bd gx (.inl rfl);have hT : ∀ k, iy gx (aH kX R ⟨t, gf, []⟩) k → iy gx R k ∨ k = gf := by
  rintro k (rfl | ⟨x, hx, rfl⟩)
  ·exact .inl (.inl rfl)
  ·rcases fq hx with rfl | hx
   ·exact .inr rfl
   ·exact .inl (.inr ⟨x, hx, rfl⟩)
 have hTB : ∀ k, iy gx (aH kX R ⟨t, gf, []⟩) k → k < B := fun k hk => by
  rcases hT k hk with e | e
  ·have := bd k e; omega
  ·omega
 have Aq : ∀ k, v.ownBlock = some k → B ≤ k := fun k hk => (adA ho k hk).1;have hg := aj wr gx 0 v;refine ⟨⟨v, adB _ _ _ h1, ?_, .inr fun k hk hh => ?_⟩, ?_, fun x hx => ?_, ?_, fun x hx => ?_⟩
 ·refine (dA.fO ho).aU (ak.aV hg (fun k => k = gx) fun k e => by injection e with e; exact .inl e.symm) (.inr fun k hk e => ?_);have := Aq k hk;omega
 ·have := Aq k hk;have := hTB k hh;omega
 ·rw [adN]; exact h'.fr
 ·rcases fq hx with rfl | hx
  ·have aN : gf ≠ gx := by omega
   have hbk : (wr.setCell ⟨gx, 0, none⟩ v).heap[gf]? = wr.heap[gf]? := hg.block gf (acJ.1 aM).1 (fun e => by injection e with e; omega);have zh := hbk.trans aM;have c0 := acC (wr.setCell ⟨gx, 0, none⟩ v) gf 0 _ 185 (0, 0) zh;have c1 := acC (wr.setCell ⟨gx, 0, none⟩ v) gf 1 _ 185 (0, 0) zh;exact ⟨c0, acI _ gf 1 _ 185 zh, _, c1, iY.nil _, .inl rfl⟩
  ·have h4 := (h.fo x hx).more (P := fun k => k = gf) hb (fun k e => by omega);exact (h4.grown hg (.inl (.inl rfl)) fun e => h.ne x hx e.symm).weak hT
 ·exact xO h.ids fun y hy e => by have := bd y.g (.inr ⟨y, hy, rfl⟩); have e' : y.g = gf := e; omega
 ·rcases fq hx with rfl | hx
  ·have aN : gf ≠ gx := by omega
   exact aN
  ·exact h.ne x hx
theorem IV {w : World} {gx : Nat} {R : List Rr} (h : dx w gx R) (t : Int) (fI : ∀ x ∈ R, x.t ≠ t) : Calls prog 115 #[.pointer (some ⟨gx, 0, none⟩), .int .i64 t] w fun e w' => ∃ gf, e = .returned (.pointer (some ⟨gf, 0, none⟩)) ∧ w.heap.size ≤ gf ∧ Dl w' gx (aH kX R ⟨t, gf, []⟩) ∧ ak w w' fun k => k = gx := by
 have H := af h;obtain ⟨v, c0, ⟨p, c, rfl, wV, kO, _, hx⟩, _⟩ := h.c0;have wo := h.fr;have zE : bw kX R := (ef Rr.pl xM).1 h.ok.rises;have BL : R.length ≤ 32 := by have := h.ok.len; simpa using this
 obtain ⟨n, hn⟩ : ∃ n, R.length = n := ⟨_, rfl⟩
 rw [hn] at c0 wV hx BL;obtain ⟨X, hX⟩ : ∃ X, w.alloc (.cells #[.int .i64 t, .slice none 0 0] 185) = X := ⟨_, rfl⟩
 obtain ⟨gf, Vv⟩ : ∃ b, w.heap.size = b := ⟨_, rfl⟩
 have oK : Below w.heap.size w X := by rw [← hX]; exact (acG _ _).alloc (acE _) _
 have Hv : X.heap[gf]? = some (.cells #[.int .i64 t, .slice none 0 0] 185 (0, 0)) := by rw [← hX, ← Vv]; exact acQ _ _
 have HX := af (acD hn (acD hx (acD c0 (acD wo (acD zE fI)))));have dH := af (acD oK (acD Hv Vv));have Oq : (n : Int) ≤ 100 := by omega
 have cX := (oK.cell (p := ⟨gx, 0, none⟩) (lt_of_cell c0)).trans c0;clear hx wV kO hn h wo zE fI oK Hv;go_enter func115, ntmps115
 go_upto_region 2 with fail
 go_wp2_with fail
 clear cX hX Vv;go_loopw [6, 8, 17] (fun v6 _ i wr => ∃ (j : Nat) (acc : List Rr) (q : Option Addr) (m d : Nat), v6 = .slice q m d ∧ j ≤ n ∧ i = .int .i64 j ∧ Hid (Below X.heap.size X wr ∧ ia X.heap.size wr (.slice q m d) acc ∧ LC ⟨t, gf, []⟩ (R.take j) acc ∧ acc.length = m)) (fun _ _ i _ => n - (intOf i).toNat)
 case atStart => exact ⟨0, [], none, 0, 0, rfl, by omega, rfl, af ⟨acG _ _, ia.nil _ _, .inl ⟨rfl, by simp⟩, rfl⟩⟩
 case round =>
  obtain ⟨j, acc, q, m, d, rfl, hj, rfl, HR⟩ := hrel;by_cases bd : (j : Int) < (n : Int)
  ·obtain ⟨g, o, rfl, hp⟩ := HX.out.2.1 (by omega);obtain ⟨y, Vw⟩ : ∃ y, R[j]? = some y := ⟨_, acF (by have := HX.out.1; omega)⟩
   have Q_ := acS Vw;have jJ : Below w.heap.size w wr := dH.out.1.trans (HR.out.1.mono dH.out.1.size);have ck := hp j y Vw;have OW : wr.cell? ⟨g, o + j, none⟩ = some (.pointer (some ⟨y.g, 0, none⟩)) := (jJ.cell (lt_of_cell ck)).trans ck;obtain ⟨oo, iu⟩ : ∃ oo, o + j = oo := ⟨_, rfl⟩
   rw [iu] at OW;have cf := (H.out.fo y Q_).c0;have cf' : wr.cell? ⟨y.g, 0, none⟩ = some (.int .i64 y.t) := (jJ.cell (lt_of_cell cf)).trans cf;have cg := acC X gf 0 _ 185 (0, 0) dH.out.2.1;simp only [afg, ad2] at cg;have cg' : wr.cell? ⟨gf, 0, none⟩ = some (.int .i64 t) := (HR.out.1.cell (lt_of_cell cg)).trans cg;have hTK : R.take (j + 1) = R.take j ++ [y] := by rw [ac5, Vw]; rfl
   have hlen : acc.length ≤ 1000 ∧ X.heap.size ≤ wr.heap.size := by
    refine ⟨?_, HR.out.1.size⟩;have h1 : (R.take j).length ≤ j := by rw [ac6]; omega
    rcases HR.out.2.2.1 with ⟨e, _⟩ | ⟨e, _⟩
    ·rw [e]; omega
    ·rw [e];have h2 : ∀ P : List Rr, (aH kX P ⟨t, gf, []⟩).length ≤ P.length + 1 := by
      intro P
      induction P with
      | nil => simp [aH]
      | cons a r ih =>
       rw [aH]
       split
       ·simp
       ·split
        ·simp
        ·simp; exact ih
     have := h2 (R.take j);omega
   have NJ : y.t ≠ t := HX.out.2.2.2.2.2 y Q_;have HY := af (acD Vw (acD hTK (acD hlen jJ)));have Xx : ∀ z ∈ R.take j, kX z < kX y := by
    intro z hz;obtain ⟨i, hi⟩ := List.getElem?_of_mem hz;have hij : i < j := by
     have := (acL.1 hi).1;rw [ac6] at this;omega
    rw [adQ hij] at hi;have h5 := HX.out.2.2.2.2.1;obtain ⟨sy, Dn⟩ := acL.1 hi;obtain ⟨Tx, Vx⟩ := acL.1 Vw;have := aen.1 h5 i j sy Tx hij;rw [Dn, Vx] at this;exact this
   have aaM := af Xx;clear hp ck cf cg Vw hTK hlen jJ Xx;by_cases hA : t < y.t
   focus
    have Dp : decide (t < y.t) = true := by simpa using hA
    obtain ⟨yt, yg, yL⟩ := y;dsimp only at *;by_cases Vt : m = 0
    ·subst Vt;obtain rfl : acc = [] := acP HR.out.2.2.2;have hG : LC ⟨t, gf, []⟩ (R.take (j + 1)) (([] ++ [⟨t, gf, []⟩]) ++ [⟨yt, yg, yL⟩]) := by
      rw [HY.out.2.1];rcases HR.out.2.2.1 with ⟨e, h⟩ | ⟨e, z, hz, h⟩
      ·rw [← e];refine .inr ⟨?_, ⟨yt, yg, yL⟩, by simp, hA⟩
       show _ = aH kX [⟨yt, yg, yL⟩] ⟨t, gf, []⟩
       rw [aH, acW (show kX ⟨t, gf, []⟩ < kX ⟨yt, yg, yL⟩ from hA)];rfl
      ·exfalso;have h1 : z ∈ aH kX (R.take j) ⟨t, gf, []⟩ ∨ True := .inr aev;have h2 : (aH kX (R.take j) (⟨t, gf, []⟩ : Rr)) ≠ [] := by
        cases R.take j with
        | nil => simp [aH]
        | cons a r =>
         rw [aH]
         split
         ·simp
         ·split
          ·simp
          ·simp
       exact h2 e.symm
     have HG := af hG;clear hG;go_upto_region 6 with fail
     go_quiet (fail)
     obtain ⟨V, hV⟩ : ∃ V, wr.drewN nq = V := ⟨_, rfl⟩
     have HV := af (acD (show Below X.heap.size X V by rw [← hV]; exact HR.out.1.trans ((ag wr nq).mono HR.out.1.size)) (acD (show ia X.heap.size V (.slice q 0 d) [] by rw [← hV]; exact ia.below HR.out.2.1 (ag wr nq)) (show X.heap.size ≤ V.heap.size by rw [← hV]; exact HR.out.1.size)));rw [hV];clear hV;go_upto_region 8 with (at_builtin; go_must (refine dm (v := .slice q 0 d) rfl _ _ rfl rfl ⟨t, gf, []⟩ rfl rfl rfl HV.out.2.1 HV.out.2.2 (by simp) ?_); intro v6 w6 cw bK eM; obtain ⟨p6, c6, rfl, _⟩ := dA.fO cw; have H6 := af (acD (HV.out.1.trans bK) (acD cw (acN HV.out.2.2 (show V.heap.size ≤ w6.heap.size from eM.size)))); clear cw bK eM)
     go_wp2_with (at_builtin; go_must (refine dm (v := .slice p6 1 c6) rfl _ _ rfl rfl ⟨yt, yg, yL⟩ rfl rfl rfl H6.out.2.1 H6.out.2.2 (by simp) ?_); intro v7 w7 nE cZ qb; obtain ⟨p7, c7, rfl, _⟩ := dA.fO nE; have H7 := af (acD (H6.out.1.trans cZ) nE); clear nE cZ qb)
     go_roundw;case rel => exact ⟨j + 1, _, p7, _, c7, rfl, by omega, by go_num, af ⟨H7.out.1, H7.out.2, HG.out, rfl⟩⟩
     case measure => simp [intOf]; omega
    focus
     obtain ⟨kk, rfl⟩ : ∃ kk, m = kk + 1 := ⟨m - 1, by omega⟩
     have hkb : kk ≤ 1000 := by have := HY.out.2.2.1.1; have := HR.out.2.2.2; omega
     have Aw : ((kk : Int) + 1 == 0) = false := by simp; omega
     have hk0 : (0 : Int) ≤ (kk : Int) := by omega
     have Xj : (kk : Int) ≤ 1000 := by omega
     have hkw : IntKind.i64.wrap (kk : Int) = (kk : Int) := by rw [aeE]; omega
     have hk1 : (kk : Int) < (kk : Int) + 1 := by omega
     have Zn : kk < kk + 1 := by omega
     obtain ⟨z, hz⟩ : ∃ z, acc[kk]? = some z := ⟨_, acF (by have := HR.out.2.2.2; omega)⟩
     have jJ := HY.out.2.2.2;have aM := dA.fO HR.out.2.1;obtain ⟨qa, ca, hqe, _, _, _, hac⟩ := aM;injection hqe with hq1 hq2 hq3;subst hq1;obtain ⟨ga, oa, rfl, Xy⟩ := hac (by have := HR.out.2.2.2; omega);have cz := Xy kk z hz;obtain ⟨oz, hoz⟩ : ∃ o, oa + kk = o := ⟨_, rfl⟩
     have hzR : z ∈ R ∧ ((acc = R.take j ∧ kX z < t ∧ ∀ u ∈ R.take j, kX u < t) ∨ (acc = aH kX (R.take j) ⟨t, gf, []⟩ ∧ t < kX z ∧ ∃ u ∈ R.take j, t < kX u)) := by
      rcases HR.out.2.2.1 with ⟨e, h⟩ | ⟨e, h⟩
      ·have hzP : z ∈ R.take j := by rw [← e]; exact acS hz
       exact ⟨adD hzP, .inl ⟨e, h z hzP, h⟩⟩
      ·have h1 := zD (x := ⟨t, gf, []⟩) h (fun u hu e => HX.out.2.2.2.2.2 u (adD hu) e.symm);rw [← e, List.getLast?_eq_getElem?, show acc.length - 1 = kk by have := HR.out.2.2.2; omega, hz] at h1;obtain ⟨h2, h3⟩ := OZ (HX.out.2.2.2.2.1.sub (List.take_sublist _ _)) h1.symm h;exact ⟨adD h2, .inr ⟨e, h3, h⟩⟩
     have Ra := (H.out.fo z hzR.1).c0;have aaN : wr.cell? ⟨z.g, 0, none⟩ = some (.int .i64 z.t) := (jJ.cell (lt_of_cell Ra)).trans Ra;obtain ⟨zt, zg, zL⟩ := z;unfold Rr.v at cz;dsimp only at cz aaN;rw [hoz] at cz;have HZ := af hzR;clear jJ hac Xy hz hzR Ra hq2 hq3;rcases HZ.out.2 with ⟨e, oq, cO⟩ | ⟨e, oq, hex⟩
     ·have NH : decide (zt < t) = true := by have h' : zt < t := oq; simpa using h'
      have hG : LC ⟨t, gf, []⟩ (R.take (j + 1)) ((acc ++ [⟨t, gf, []⟩]) ++ [⟨yt, yg, yL⟩]) := by
       rw [HY.out.2.1, e];refine .inr ⟨?_, ⟨yt, yg, yL⟩, by simp, hA⟩;rw [qx cO, aH, acW (show kX ⟨t, gf, []⟩ < kX ⟨yt, yg, yL⟩ from hA)];simp
      have HG := af hG;clear hG e oq cO;go_upto_region 6 with fail
      go_quiet (fail)
      obtain ⟨V, hV⟩ : ∃ V, wr.drewN nq = V := ⟨_, rfl⟩
      have HV := af (acD (show Below X.heap.size X V by rw [← hV]; exact HR.out.1.trans ((ag wr nq).mono HR.out.1.size)) (acD (show ia X.heap.size V (.slice (some ⟨ga, oa, none⟩) (kk + 1) d) acc by rw [← hV]; exact ia.below HR.out.2.1 (ag wr nq)) (show X.heap.size ≤ V.heap.size by rw [← hV]; exact HR.out.1.size)));rw [hV];clear hV;go_upto_region 8 with (at_builtin; go_must (refine dm (v := .slice (some ⟨ga, oa, none⟩) (kk + 1) d) rfl _ _ rfl rfl ⟨t, gf, []⟩ rfl rfl rfl HV.out.2.1 HV.out.2.2 (by have := HY.out.2.2.1.1; omega) ?_); intro v6 w6 cw bK eM; obtain ⟨p6, c6, rfl, _⟩ := dA.fO cw; have H6 := af (acD (HV.out.1.trans bK) (acD cw (acN HV.out.2.2 (show V.heap.size ≤ w6.heap.size from eM.size)))); clear cw bK eM)
      go_wp2_with (at_builtin; go_must (refine dm (v := .slice p6 (acc.length + 1) c6) rfl _ _ rfl rfl ⟨yt, yg, yL⟩ rfl rfl rfl (by have h6 := H6.out.2.1; simp only [acH, acZ, ad8, ac2] at h6; exact h6) H6.out.2.2 (by have := HY.out.2.2.1.1; simp; omega) ?_); intro v7 w7 nE cZ qb; obtain ⟨p7, c7, rfl, _⟩ := dA.fO nE; have H7 := af (acD (H6.out.1.trans cZ) nE); clear nE cZ qb)
      go_roundw;case rel =>
       refine ⟨j + 1, (acc ++ [⟨t, gf, []⟩]) ++ [⟨yt, yg, yL⟩], _, _, _, rfl, by omega, by go_num, af ⟨H7.out.1, ?_, HG.out, by simp⟩⟩;have h7 := H7.out.2;simp only [acH, acZ, ad8, ac2] at h7;exact h7
      case measure => simp [intOf]; omega
     focus
      have NH : decide (zt < t) = false := by simp; have h' : t < zt := oq; omega
      have hG : LC ⟨t, gf, []⟩ (R.take (j + 1)) (acc ++ [⟨yt, yg, yL⟩]) := by
       rw [HY.out.2.1, e];refine .inr ⟨(xN (x := ⟨t, gf, []⟩) hex fun u hu e => HX.out.2.2.2.2.2 u (adD hu) e.symm).symm, ⟨yt, yg, yL⟩, by simp, hA⟩
      have HG := af hG;clear hG e oq hex;go_upto_region 6 with fail
      go_quiet (fail)
      obtain ⟨V, hV⟩ : ∃ V, wr.drewN nq = V := ⟨_, rfl⟩
      have HV := af (acD (show Below X.heap.size X V by rw [← hV]; exact HR.out.1.trans ((ag wr nq).mono HR.out.1.size)) (acD (show ia X.heap.size V (.slice (some ⟨ga, oa, none⟩) (kk + 1) d) acc by rw [← hV]; exact ia.below HR.out.2.1 (ag wr nq)) (show X.heap.size ≤ V.heap.size by rw [← hV]; exact HR.out.1.size)));rw [hV];clear hV;go_wp2_with (at_builtin; go_must (refine dm (v := .slice (some ⟨ga, oa, none⟩) (kk + 1) d) rfl _ _ rfl rfl ⟨yt, yg, yL⟩ rfl rfl rfl HV.out.2.1 HV.out.2.2 (by have := HY.out.2.2.1.1; omega) ?_); intro v6 w6 cw bK eM; obtain ⟨p6, c6, rfl, _⟩ := dA.fO cw; have H6 := af (acD (HV.out.1.trans bK) cw); clear cw bK eM)
   rotate_left
   focus
    have hG : LC ⟨t, gf, []⟩ (R.take (j + 1)) (acc ++ [y]) := by
     have Z1 : kX y < t := by show y.t < t; omega
     rw [HY.out.2.1];rcases HR.out.2.2.1 with ⟨e, h⟩ | ⟨e, z, hz, h⟩
     ·refine .inl ⟨by rw [e], fun u hu => ?_⟩;rcases ad1.1 hu with hu | hu
      ·exact h u hu
      ·obtain rfl : u = y := by simpa using hu
       exact Z1
     ·have := aaM.out z hz;have h' : t < kX z := h;omega
    have HG := af hG;clear hG;obtain ⟨yt, yg, yL⟩ := y;dsimp only at *;have hd : decide (t < yt) = false := by simpa using hA
    go_upto_region 6 with fail
    go_quiet (fail)
    obtain ⟨V, hV⟩ : ∃ V, wr.drewN nq = V := ⟨_, rfl⟩
    have HV := af (acD (show Below X.heap.size X V by rw [← hV]; exact HR.out.1.trans ((ag wr nq).mono HR.out.1.size)) (acD (show ia X.heap.size V (.slice q m d) acc by rw [← hV]; exact ia.below HR.out.2.1 (ag wr nq)) (show X.heap.size ≤ V.heap.size by rw [← hV]; exact HR.out.1.size)));rw [hV];clear hV;go_wp2_with (at_builtin; go_must (refine dm (v := .slice q m d) rfl _ _ rfl rfl ⟨yt, yg, yL⟩ rfl rfl rfl HV.out.2.1 HV.out.2.2 (by have := HY.out.2.2.1.1; omega) ?_); intro v6 w6 cw bK eM; obtain ⟨p6, c6, rfl, _⟩ := dA.fO cw; have H6 := af (acD (HV.out.1.trans bK) cw); clear cw bK eM)
   all_goals
    go_roundw;case rel =>
     refine ⟨j + 1, acc ++ [⟨yt, yg, yL⟩], _, _, _, rfl, by omega, by go_num, af ⟨H6.out.1, ?_, HG.out, by simp⟩⟩;have h6 := H6.out.2;simp only [acH, acZ, ad8, ac2] at h6;exact h6
    case measure => simp [intOf]; omega
  ·have lk : R.take j = R := acY (by have := HX.out.1; omega);have hg := HR.out.2.2.1;rw [lk] at hg;have jJ : Below w.heap.size w wr := dH.out.1.trans (HR.out.1.mono dH.out.1.size);have cX' := (jJ.cell (p := ⟨gx, 0, none⟩) (lt_of_cell HX.out.2.2.1)).trans HX.out.2.2.1;have fX' := (jJ.frozen (p := ⟨gx, 0, none⟩) (lt_of_cell HX.out.2.2.1)).trans HX.out.2.2.2.1;have mY := af jJ;clear jJ lk;have hnr : R.length = n := HX.out.1;have Lj : ∀ P : List Rr, (∀ y ∈ P, y.t ≠ t) → (aH kX P ⟨t, gf, []⟩).length = P.length + 1 := by
    intro P
    induction P with
    | nil => intro _; rfl
    | cons a r ih =>
     intro ha;rw [aH]
     split
     ·simp
     ·split
      ·rename_i e;exact absurd (show a.t = t from e.symm) (ha a (ac8 ..))
      ·simp [ih fun y hy => ha y (ade _ hy)]
   have Xz : gf < X.heap.size := (acJ.1 dH.out.2.1).1;have jM := af Xz;have sV : w.heap.size ≤ gf := by have := dH.out.2.2; omega
   have hlm := HR.out.2.2.2;rcases hg with ⟨e, cO⟩ | ⟨e, hex⟩
   ·have hI : R ++ [(⟨t, gf, []⟩ : Rr)] = aH kX R ⟨t, gf, []⟩ := by
     have h1 := qx (x := ⟨t, gf, []⟩) cO [];rw [adh] at h1;rw [h1];rfl
    subst e;obtain rfl : m = n := by omega
    have aM : wr.heap[gf]? = some (.cells #[.int .i64 t, .slice none 0 0] 185 (0, 0)) := (HR.out.1.block gf Xz).trans dH.out.2.1;have HI := af (acD hI (acD aM sV));clear hI aM sV Lj hnr Xz hlm cO;go_upto_region 12 with (at_builtin; go_must (refine dm (v := .slice q m d) rfl _ _ rfl rfl ⟨t, gf, []⟩ rfl rfl rfl HR.out.2.1 HR.out.1.size (by have := HX.out.1; omega) ?_); intro v6 w6 cw bK eM; obtain ⟨p6, c6, rfl, _⟩ := dA.fO cw; have H6 := af (acD cw (acD bK eM)); clear cw bK eM)
    have LD : Below w.heap.size w w6 := mY.out.trans (H6.out.2.1.mono dH.out.1.size);have cX6 := (LD.cell (p := ⟨gx, 0, none⟩) (lt_of_cell HX.out.2.2.1)).trans HX.out.2.2.1;have fX6 := (LD.frozen (p := ⟨gx, 0, none⟩) (lt_of_cell HX.out.2.2.1)).trans HX.out.2.2.2.1;have HP := af (H.out.opened (B := X.heap.size) LD HI.out.2.2 jM.out (by rw [← HI.out.1]; exact H6.out.1) ((H6.out.2.1.block gf jM.out).trans HI.out.2.1));have oL := af LD;clear LD cX' fX';simp only [acH, acZ, ad8, ac2] at HP;go_wp2_with fail
    go_ret;refine ⟨gf, rfl, HI.out.2.2, HP.out, ?_⟩;exact (ak.of_below oL.out _).trans (ak.aV (aj _ _ _ _) (fun k => k = gx) fun k e => by injection e with e; exact .inl e.symm) fun k hk => .inl hk
   ·obtain rfl : m = n + 1 := by rw [← hlm, e, Lj R HX.out.2.2.2.2.2, hnr]
    have aM : wr.heap[gf]? = some (.cells #[.int .i64 t, .slice none 0 0] 185 (0, 0)) := (HR.out.1.block gf Xz).trans dH.out.2.1;have hO : ia X.heap.size wr (.slice q (n + 1) d) (aH kX R ⟨t, gf, []⟩) := by rw [← e]; exact HR.out.2.1
    have HP := af (H.out.opened mY.out sV Xz hO aM);have aN : ((n : Int) + 1 == (n : Int)) = false := adj.2 (by omega);clear Lj hnr hlm hex aM hO;go_wp2_with fail
    go_ret;refine ⟨gf, rfl, sV, HP.out, ?_⟩;exact (ak.of_below mY.out _).trans (ak.aV (aj _ _ _ _) (fun k => k = gx) fun k e => by injection e with e; exact .inl e.symm) fun k hk => .inl hk
theorem rE {T : Nat → Prop} {w : World} {g : Nat} {tr : Int} {L l : List Sp} {v : Value} (h : nD T w g tr L) (hTg : T g) (xk : ∀ k, T k → k < w.heap.size) (aT : dT tr L) (hv : iY w v l) (hl : l.length ≤ 100000) (im : ∀ x ∈ l, x.n.size ≤ 1100000) (aN : l = [] ∨ v.ownBlock ≠ some g) :
  Calls prog 116 #[.pointer (some ⟨g, 0, none⟩), v] w fun e w' => e = .returned (wI tr L l) ∧ nD T w' g tr (wJ tr L l) ∧ ak w w' fun k => k = g := by
 obtain ⟨p, n, c, rfl⟩ := hv.sl;obtain rfl : n = l.length := hv.len.1;have HV := af (acD hv aN);have Dc := af im;have HF := af h;have HTT := af (acD hTg xk);clear hTg xk;have c0 := h.c0;clear hv im h;go_enter func116, ntmps116
 go_wp2_with fail
 obtain ⟨X, hX⟩ : ∃ X, (w.alloc (.cells #[.int .i64 0, .int .i64 0, .int .i64 0, .int .i64 0, .int .i64 0] 64)).alloc (.cells #[.int .i64 0, .int .i64 0, .int .i64 0, .int .i64 0, .int .i64 0] 64) = X := ⟨_, rfl⟩
 have aS : Hid (Below w.heap.size w X) := af (by rw [← hX]; exact ((acG w.heap.size w).alloc (acE _) _).alloc (by simp) _);have kB : Hid (X.heap[w.heap.size]? = some (.cells #[.int .i64 0, .int .i64 0, .int .i64 0, .int .i64 0, .int .i64 0] 64) ∧ X.heap[w.heap.size + 1]? = some (.cells #[.int .i64 0, .int .i64 0, .int .i64 0, .int .i64 0, .int .i64 0] 64) ∧ bD X (w.heap.size + 1) cQ) := af (by
  have h1 := acQ w (.cells #[.int .i64 0, .int .i64 0, .int .i64 0, .int .i64 0, .int .i64 0] 64);have h2 := acQ (w.alloc (.cells #[.int .i64 0, .int .i64 0, .int .i64 0, .int .i64 0, .int .i64 0] 64)) (.cells #[.int .i64 0, .int .i64 0, .int .i64 0, .int .i64 0, .int .i64 0] 64);have hb := (acG (w.alloc (.cells #[.int .i64 0, .int .i64 0, .int .i64 0, .int .i64 0, .int .i64 0] 64)).heap.size (w.alloc (.cells #[.int .i64 0, .int .i64 0, .int .i64 0, .int .i64 0, .int .i64 0] 64))).alloc (acE _) (.cells #[.int .i64 0, .int .i64 0, .int .i64 0, .int .i64 0, .int .i64 0] 64);have hs : (w.alloc (.cells #[.int .i64 0, .int .i64 0, .int .i64 0, .int .i64 0, .int .i64 0] 64)).heap.size = w.heap.size + 1 := by simp
  rw [← hX];rw [hs] at h2 hb;have h3 := tT (w.alloc (.cells #[.int .i64 0, .int .i64 0, .int .i64 0, .int .i64 0, .int .i64 0] 64));rw [hs] at h3;exact ⟨(hb.block w.heap.size (by omega)).trans h1, h2, h3⟩)
 have BN : X.heap.size = w.heap.size + 2 := by rw [← hX]; simp
 have il := af BN;rw [hX];clear hX BN;go_loopw [8, 16] (fun _ ix wr => ∃ k : Nat, k ≤ l.length ∧ ix = .int .i64 k ∧ Hid (Below X.heap.size X wr ∧ (l.take k).all (fun x => x.ok && decide (x.t = tr)) = true)) (fun _ ix _ => l.length - (intOf ix).toNat)
 case atStart => exact ⟨0, by omega, rfl, af ⟨acG _ _, rfl⟩⟩
 case round =>
  obtain ⟨k, hk, rfl, HR⟩ := hrel;by_cases bd : (k : Int) < (l.length : Int)
  ·obtain ⟨gv, ov, rfl, hx⟩ := HV.out.1.at_ (by omega);obtain ⟨x, dC⟩ : ∃ x, l[k]? = some x := ⟨_, acF (by omega)⟩
   have jJ : Below w.heap.size w wr := aS.out.trans (HR.out.1.mono (by have := il.out; omega));have aG := (hx k x dC).below jJ;obtain ⟨oo, iu⟩ : ∃ oo, ov + k * 6 = oo := ⟨_, rfl⟩
   rw [iu] at aG;have z0 := aG.c0;have z1 := aG.c1;have z2 := aG.c2;have z3 := aG.c3;have z4 := aG.c4;have z5 := aG.c5;have OY := Dc.out x (acS dC);have jC := af (lp x OY);have bg := az wr x;have wo := HF.out.below jJ;obtain ⟨Y, hY⟩ : ∃ Y, wr.alloc (.cells #[.int .i64 x.t, .int .i64 x.i, .int .i64 x.p, .int .i64 x.s, .int .i64 x.e, .string x.n] 30) = Y := ⟨_, rfl⟩
   have fF : Below wr.heap.size wr Y := by rw [← hY]; exact (acG _ _).alloc (acE _) _
   have XA := wo.below fF;rw [hY] at bg;have yg := XA.c0;obtain ⟨y0, y1, y2, y3, y4, y5⟩ := bg.z;have F6 := af hY;have vl := af dC;have eI : Hid (Below X.heap.size X Y) := af (HR.out.1.trans (fF.mono HR.out.1.size));have XB := lt_of_cell yg;have xP := bg.lt;have KEEP : Hid (∀ q w7, Below (Y.drewN q).heap.size (Y.drewN q) w7 → w7.cell? ⟨wr.heap.size, 0, none⟩ = some (.int .i64 x.t) ∧ w7.cell? ⟨wr.heap.size, 1, none⟩ = some (.int .i64 x.i) ∧ w7.cell? ⟨wr.heap.size, 2, none⟩ = some (.int .i64 x.p) ∧ w7.cell? ⟨wr.heap.size, 3, none⟩ = some (.int .i64 x.s) ∧ w7.cell? ⟨wr.heap.size, 4, none⟩ = some (.int .i64 x.e) ∧ w7.cell? ⟨wr.heap.size, 5, none⟩ = some (.string x.n) ∧ w7.cell? ⟨g, 0, none⟩ = some (.int .i64 tr)) := af (fun q w7 cZ =>
    ⟨(cZ.cell (p := ⟨wr.heap.size, 0, none⟩) xP).trans y0, (cZ.cell (p := ⟨wr.heap.size, 1, none⟩) xP).trans y1, (cZ.cell (p := ⟨wr.heap.size, 2, none⟩) xP).trans y2, (cZ.cell (p := ⟨wr.heap.size, 3, none⟩) xP).trans y3, (cZ.cell (p := ⟨wr.heap.size, 4, none⟩) xP).trans y4, (cZ.cell (p := ⟨wr.heap.size, 5, none⟩) xP).trans y5, (cZ.cell (p := ⟨g, 0, none⟩) XB).trans yg⟩)
   clear hx dC aG OY bg wo fF XA hY jJ XB xP;obtain ⟨t, i, p', s, en, nm⟩ := x;dsimp only at *;unfold dZ at *;dsimp only at *;by_cases IW : Sp.ok ⟨t, i, p', s, en, nm⟩ = true
   focus
    rw [acW IW] at jC;have EI := af IW;clear IW;by_cases O1 : t = tr
    ·subst O1;go_wp2_with fail
     rw [F6.out];go_region_held3 (fun W => W.cell? ⟨wr.heap.size, 0, none⟩ = some (.int .i64 t) ∧ W.cell? ⟨wr.heap.size, 1, none⟩ = some (.int .i64 i) ∧ W.cell? ⟨wr.heap.size, 2, none⟩ = some (.int .i64 p') ∧ W.cell? ⟨wr.heap.size, 3, none⟩ = some (.int .i64 s) ∧ W.cell? ⟨wr.heap.size, 4, none⟩ = some (.int .i64 en) ∧ W.cell? ⟨wr.heap.size, 5, none⟩ = some (.string nm) ∧ W.cell? ⟨g, 0, none⟩ = some (.int .i64 t)) (first | go_keep | exact KEEP.out 1 _ cZ | exact KEEP.out 0 _ cZ) (first | (go_at_call 65; refine (jC.out _).mono ?_; rintro e7 w7 ⟨rfl, cZ⟩))
     have lQ : Hid (Below X.heap.size X w7) := af (eI.out.trans (((show Below Y.heap.size Y Y.drew from ag Y 1).trans cZ).mono eI.out.size));clear cZ;go_wp2;go_roundw;case rel =>
      refine ⟨k + 1, by omega, by go_num, af ⟨lQ.out, ?_⟩⟩;have h1 : l.take (k + 1) = l.take k ++ [⟨t, i, p', s, en, nm⟩] := by rw [ac5, vl.out]; rfl
      rw [h1, aeR, HR.out.2];simp only [aeI, List.all_nil, Bool.and_true, adY, decide_true];exact EI.out
     case measure => simp [intOf]; omega
    focus
     have lq : Hid (¬ l.all (fun x => x.ok && decide (x.t = tr)) = true) := af (fun cO => O1 (by
      have := adl.1 cO _ (acS vl.out);rw [adb, adr] at this;exact this.2))
     have hb : (t == tr) = false := adj.2 O1;have aP : (t != tr) = true := by simp [O1]
     go_wp2_with fail
     rw [F6.out];go_region_held3 (fun W => W.cell? ⟨wr.heap.size, 0, none⟩ = some (.int .i64 t) ∧ W.cell? ⟨wr.heap.size, 1, none⟩ = some (.int .i64 i) ∧ W.cell? ⟨wr.heap.size, 2, none⟩ = some (.int .i64 p') ∧ W.cell? ⟨wr.heap.size, 3, none⟩ = some (.int .i64 s) ∧ W.cell? ⟨wr.heap.size, 4, none⟩ = some (.int .i64 en) ∧ W.cell? ⟨wr.heap.size, 5, none⟩ = some (.string nm) ∧ W.cell? ⟨g, 0, none⟩ = some (.int .i64 tr)) (first | go_keep | exact KEEP.out 1 _ cZ | exact KEEP.out 0 _ cZ) (first | (go_at_call 65; refine (jC.out _).mono ?_; rintro e7 w7 ⟨rfl, cZ⟩))
   rotate_left
   focus
    have lq : Hid (¬ l.all (fun x => x.ok && decide (x.t = tr)) = true) := af (fun cO => IW (by
     have := adl.1 cO _ (acS vl.out);rw [adb] at this;exact this.1))
    rw [acO IW] at jC;clear IW;go_wp2_with fail
    rw [F6.out];refine ado (S := fun W => W.cell? ⟨wr.heap.size, 0, none⟩ = some (.int .i64 t) ∧ W.cell? ⟨wr.heap.size, 1, none⟩ = some (.int .i64 i) ∧ W.cell? ⟨wr.heap.size, 2, none⟩ = some (.int .i64 p') ∧ W.cell? ⟨wr.heap.size, 3, none⟩ = some (.int .i64 s) ∧ W.cell? ⟨wr.heap.size, 4, none⟩ = some (.int .i64 en) ∧ W.cell? ⟨wr.heap.size, 5, none⟩ = some (.string nm) ∧ W.cell? ⟨g, 0, none⟩ = some (.int .i64 tr)) (by kernel_rfl) ?_ (fun hHeld => ?_)
    ·first | exact KEEP.out 1 _ (acG _ _) | exact KEEP.out 0 _ (acG _ _)
    refine ao 0 rfl ?_;refine acU (rs := [1]) (by kernel_rfl) (by simp) ?_;refine dz rfl (fun K hK => ?_) acR;go_simp;go_at_call 65
    refine (jC.out _).mono ?_;rintro e7 w7 ⟨rfl, cZ⟩;first
     | refine hK.out _ _ ?_ (fun hHeld => ?_)
     | (go_wp2_with fail; refine hK.out _ _ ?_ (fun hHeld => ?_))
    ·(first | exact KEEP.out 1 _ cZ | exact KEEP.out 0 _ cZ)
    clear hK K;try simp only [Act.put, qA, qB, qC]
    refine fy (i := 2) (v := (.bool true)) (eY rfl) (by rfl) ?_ ?_
    ·intro w cq
     (try dsimp only at cq)
     go_simp;try with_reducible rfl
    try simp only [Act.put, qA, qB, qC]
    refine ao 3 rfl ?_;refine ij 4 rfl ?_;refine ij 5 rfl ?_;refine ij 6 rfl ?_;refine ij 7 rfl ?_;refine ij 8 rfl ?_;refine ij 9 rfl ?_;refine ij 10 rfl ?_;refine ao 11 rfl ?_;refine adO (by kernel_rfl) ?_ _
   all_goals
    have lQ : Hid (Below X.heap.size X w7) := af (eI.out.trans (((show Below Y.heap.size Y Y.drew from ag Y 1).trans cZ).mono eI.out.size));clear cZ;have eR : w7.heap[w.heap.size]? = some (.cells #[.int .i64 0, .int .i64 0, .int .i64 0, .int .i64 0, .int .i64 0] 64) := ((lQ.out.block w.heap.size (by have := il.out; omega)).trans kB.out.1)
    have IY : w7.heap[w.heap.size + 1]? = some (.cells #[.int .i64 0, .int .i64 0, .int .i64 0, .int .i64 0, .int .i64 0] 64) := ((lQ.out.block (w.heap.size + 1) (by have := il.out; omega)).trans kB.out.2.1)
    have qy : Below w.heap.size w w7 := aS.out.trans (lQ.out.mono (by have := il.out; omega));have Vy := acC w7 w.heap.size 0 _ 64 (0, 0) eR;have Vz := acC w7 w.heap.size 1 _ 64 (0, 0) eR;have VA := acC w7 w.heap.size 2 _ 64 (0, 0) eR;have VC := acC w7 w.heap.size 3 _ 64 (0, 0) eR;have VD := acC w7 w.heap.size 4 _ 64 (0, 0) eR;have Z2 := acI w7 w.heap.size 0 _ 64 eR;have Z3 := acI w7 w.heap.size 1 _ 64 eR;have Ra := acI w7 w.heap.size 2 _ 64 eR;have Z4 := acI w7 w.heap.size 3 _ 64 eR;have Z5 := acI w7 w.heap.size 4 _ 64 eR;have cc0 := acC w7 (w.heap.size + 1) 0 _ 64 (0, 0) IY;have XC := acC w7 (w.heap.size + 1) 1 _ 64 (0, 0) IY;have cc2 := acC w7 (w.heap.size + 1) 2 _ 64 (0, 0) IY;have cc3 := acC w7 (w.heap.size + 1) 3 _ 64 (0, 0) IY;have cc4 := acC w7 (w.heap.size + 1) 4 _ 64 (0, 0) IY;have nh := af eR;have wK := af qy;clear eR IY qy;go_wp2;refine ac0 (v := .tuple #[iJ cQ, .int .i64 30]) (by
     have q5 := dq nh.out (.int .i64 0) (.int .i64 0) (.int .i64 0) (.int .i64 0) (.int .i64 0);generalize (((((w7.setCell ⟨w.heap.size, 0, none⟩ (.int .i64 0)).setCell ⟨w.heap.size, 1, none⟩ (.int .i64 0)).setCell ⟨w.heap.size, 2, none⟩ (.int .i64 0)).setCell ⟨w.heap.size, 3, none⟩ (.int .i64 0)).setCell ⟨w.heap.size, 4, none⟩ (.int .i64 0)) = W9 at q5 ⊢;have m0 := acC W9 w.heap.size 0 _ 64 (0, 0) q5;have m1 := acC W9 w.heap.size 1 _ 64 (0, 0) q5;have m2 := acC W9 w.heap.size 2 _ 64 (0, 0) q5;have m3 := acC W9 w.heap.size 3 _ 64 (0, 0) q5;have m4 := acC W9 w.heap.size 4 _ 64 (0, 0) q5;have kQ : w.heap.size < W9.heap.size := by have := (acJ.1 q5).1; exact this
     clear q5;unfold iJ;simp at m0 m1 m2 m3 m4;simp [results, results116, go_sem, m0, m1, m2, m3, m4, kQ, cQ]) rfl ⟨by unfold wI; rw [acO lq.out], ?_, ?_⟩
    ·have lO := bN (ak.of_below wK.out (fun _ => False)) (.inr (acE w.heap.size)) (.int .i64 0) (.int .i64 0) (.int .i64 0) (.int .i64 0) (.int .i64 0);rw [wJ, acO lq.out];exact HF.out.aU lO
    ·exact (bN (ak.of_below wK.out (fun _ => False)) (.inr (acE w.heap.size)) (.int .i64 0) (.int .i64 0) (.int .i64 0) (.int .i64 0) (.int .i64 0)).mono (fun k hk => hk.elim)
  ·have EJ : k = l.length := by omega
   subst EJ;have cO : l.all (fun x => x.ok && decide (x.t = tr)) = true := by
    have := HR.out.2
    rwa [ad9] at this
   have LG : ∀ x ∈ l, x.ok = true ∧ x.p ≠ x.i ∧ x.t = tr := fun x hx => by
    have := adl.1 cO x hx;rw [adb, adr] at this;exact ⟨this.1, Rb this.1, this.2⟩
   have BO : Below w.heap.size w wr := aS.out.trans (HR.out.1.mono (by have := il.out; omega));have IZ : bD wr (w.heap.size + 1) cQ := kB.out.2.2.below HR.out.1;have nV : wr.heap[w.heap.size]? = some (.cells #[.int .i64 0, .int .i64 0, .int .i64 0, .int .i64 0, .int .i64 0] 64) := (HR.out.1.block w.heap.size (by have := il.out; omega)).trans kB.out.1;have hws : w.heap.size + 2 ≤ wr.heap.size := by have := HR.out.1.size; have := il.out; omega
   have Tz : nD (fun k => T k ∨ k = w.heap.size + 1 ∨ k = w.heap.size) wr g tr L := HF.out.more (P := fun k => k = w.heap.size + 1 ∨ k = w.heap.size) BO (by omega);have lu := af (acD cO LG);clear cO LG HR;go_wp2_with fail
   obtain ⟨gc, GJ⟩ : ∃ gc, w.heap.size + 1 = gc := ⟨_, rfl⟩
   rw [GJ] at IZ Tz;rw [GJ];have jD : g < w.heap.size := lt_of_cell c0;have hgg : gc ≠ g := by omega
   have XD : w.heap.size < gc ∧ gc < wr.heap.size := by omega
   have HZ := af (acD IZ (acD BO (acD nV (acD Tz (acD hgg XD)))));have aaO := af aT;clear GJ IZ BO nV Tz jD hgg XD hws aT;obtain ⟨Z, hZ⟩ : ∃ Z, Z = wr := ⟨_, rfl⟩
   subst hZ;go_loopw [10, 11, 12, 36] (fun _ _ _ ix wz => ∃ j : Nat, j ≤ l.length ∧ ix = .int .i64 j ∧ Hid (nD (fun k => T k ∨ k = gc ∨ k = w.heap.size) wz g tr (cJ L cQ (l.take j)).1 ∧ bD wz gc (cJ L cQ (l.take j)).2 ∧ ak Z wz (fun k => k = g ∨ k = gc))) (fun _ _ _ ix _ => l.length - (intOf ix).toNat)
   case atStart => exact ⟨0, by omega, rfl, af ⟨HZ.out.2.2.2.1, HZ.out.1, ak.refl _ _⟩⟩
   case round =>
    obtain ⟨j, hj, rfl, HJ⟩ := hrel;have qz : dT tr (cJ L cQ (l.take j)).1 := tV _ aaO.out fun x hx => lu.out.2 x (adD hx);have j_ : (cJ L cQ (l.take j)).2.sum ≤ 1100000 := by
     rw [qD, ac6]
     show 0 + 0 + 0 + 0 + 0 + _ ≤ _
     omega
    have NI := ox (l.take j) L cQ;obtain ⟨M, hM⟩ : ∃ M, (cJ L cQ (l.take j)).1 = M := ⟨_, rfl⟩
    obtain ⟨C, hC⟩ : ∃ C, (cJ L cQ (l.take j)).2 = C := ⟨_, rfl⟩
    rw [hM, hC] at HJ NI;rw [hM] at qz;rw [hC] at j_;have HMC := af (acD hM hC);clear hM hC;by_cases bd : (j : Int) < (l.length : Int)
    ·obtain ⟨gv, ov, rfl, hx⟩ := HV.out.1.at_ (by omega);obtain ⟨x, dC⟩ : ∃ x, l[j]? = some x := ⟨_, acF (by omega)⟩
     have TA := (hx j x dC).lt;have XE : gv ≠ g := fun e => (HV.out.2.resolve_left (fun e2 => by rw [e2] at dC; simp at dC)) (by rw [e]; rfl)
     have aG : cj wr gv (ov + j * 6) x := fun i u hu => HJ.out.2.2.cell (((hx j x dC).below HZ.out.2.1) i u hu) (by
      rintro (h1 | h1)
      ·exact XE h1
      ·have := HZ.out.2.2.2.2.2.1;simp only at h1;omega)
     obtain ⟨oo, iu⟩ : ∃ oo, ov + j * 6 = oo := ⟨_, rfl⟩
     rw [iu] at aG;have z0 := aG.c0;have z1 := aG.c1;have z2 := aG.c2;have z3 := aG.c3;have z4 := aG.c4;have z5 := aG.c5;have lk : l.take (j + 1) = l.take j ++ [x] := by rw [ac5, dC]; rfl
     have XF : x.p ≠ x.i := (lu.out.2 x (acS dC)).2.1;have bg := az wr x;have vW := (acG wr.heap.size wr).alloc (acE _) (.cells #[.int .i64 x.t, .int .i64 x.i, .int .i64 x.p, .int .i64 x.s, .int .i64 x.e, .string x.n] 30);have XG := jS (HJ.out.1.below vW).is x.i;have HX := af (acD bg (acD vW XF));have XH := af XG;have Ak : Hid (cJ L cQ (l.take (j + 1)) = bF M C x) := af (by rw [lk, NI]);have aaP := af qz;have aaQ := qz.len;clear hx dC aG TA XE lk bg vW XG qz XF NI;obtain ⟨t, i, q, s, en, nn⟩ := x;obtain ⟨na, ns, no, ny, nf⟩ := C;unfold Cn.sum at j_;dsimp only at *;have hna : (na : Int) ≤ 1100000 := by omega
     have KW : (ns : Int) ≤ 1100000 := by omega
     have fI : (no : Int) ≤ 1100000 := by omega
     have Z7 : (ny : Int) ≤ 1100000 := by omega
     have hnf : (nf : Int) ≤ 1100000 := by omega
     go_wp2_with fail
     refine XH.out.mono ?_;rintro e3 w3 ⟨rfl, cF⟩;obtain ⟨u, hu⟩ : ∃ u, (bI M i).getD BP = u := ⟨_, rfl⟩
     have heq := LH u ⟨t, i, q, s, en, nn⟩;rw [hu];have bY := (acG w3.heap.size w3).alloc (acE _) (.cells #[.int .i64 u.t, .int .i64 u.i, .int .i64 u.p, .int .i64 u.s, .int .i64 u.e, .string u.n] 30);have zq := (HX.out.1.below cF).below bY;have VE := ((HJ.out.1.below HX.out.2.1).below cF).below bY;have TB := ((HJ.out.2.1.below HX.out.2.1).below cF).below bY;have lz := ((HJ.out.2.2.cC HX.out.2.1).cC cF).cC bY;obtain ⟨W4, hW4⟩ : ∃ W, w3.alloc (.cells #[.int .i64 u.t, .int .i64 u.i, .int .i64 u.p, .int .i64 u.s, .int .i64 u.e, .string u.n] 30) = W := ⟨_, rfl⟩
     have hu4 := az w3 u;rw [hW4] at zq VE TB lz hu4;obtain ⟨x0, x1, x2, x3, x4, x5⟩ := zq.z;obtain ⟨v0, v1, v2, v3, v4, v5⟩ := hu4.z;dsimp only [ac2] at x1 x2 x0 x3 x4 x5;obtain ⟨k0, k1, k2, k3, k4, kf⟩ := TB;have kf0 := kf 0 (by omega);have kf1 := kf 1 (by omega);have kf2 := kf 2 (by omega);have kf3 := kf 3 (by omega);have kf4 := kf 4 (by omega);have H4X := af zq;have H4 : Hid (nD (fun k => T k ∨ k = gc ∨ k = w.heap.size) W4 g tr M ∧ bD W4 gc ⟨na, ns, no, ny, nf⟩ ∧ ak Z W4 (fun k => k = g ∨ k = gc)) := af ⟨VE, ⟨k0, k1, k2, k3, k4, kf⟩, lz⟩;have hRG := BQ VE.is aaP.out ⟨t, i, q, s, en, nn⟩ HX.out.2.2;have zF := af hRG;obtain ⟨vM, m1, Z9, hoM⟩ := VE.l;have m0 := VE.fr;obtain ⟨pM, nM, cM, rfl⟩ := Z9.sl;obtain rfl : nM = M.length := Z9.len.1;have HSM := af (acD Z9 hoM);dsimp only at k0 k1 k2 k3 k4;clear cF bY zq VE lz hu4 kf Z9 hoM hRG;unfold dZ;unfold fW at heq;dsimp only at heq;obtain ⟨b, hb⟩ : ∃ b, (bI M i).isSome = b := ⟨_, rfl⟩
     rw [hb];cases b
     ·have hf : bI M i = none := by simpa using hb
      clear heq hu hb;by_cases TC : (M.length : Int) = 64
      ·have dt : bF M ⟨na, ns, no, ny, nf⟩ ⟨t, i, q, s, en, nn⟩ = (M, ⟨na, ns, no, ny, nf + 1⟩) := by
        unfold bF;simp only [hf, acW (show 64 ≤ M.length by omega)]
       have cY := af dt;have aaR : ((M.length : Int) == 64) = true := by simp [TC]
       have XI : decide ((M.length : Int) = 64) = true := ac4 TC;clear dt hf TC;go_wp2;go_roundw;case rel =>
        refine ⟨j + 1, by omega, by go_num, af ?_⟩;rw [Ak.out, cY.out];exact ⟨H4.out.1.grown (aj _ _ _ _) (.inr (.inl rfl)) HZ.out.2.2.2.2.1, H4.out.2.1.s4, H4.out.2.2.set _ (.inl (.inr rfl))⟩
       case measure => simp [intOf]; omega
      ·have aaR : ((M.length : Int) == 64) = false := adj.2 TC;have XI : decide ((M.length : Int) = 64) = false := ac1 TC;have Rc : ¬ 64 ≤ M.length := by omega
       have XJ := af Rc;clear TC Rc;cases Bm : ring M i q
       ·have dt : bF M ⟨na, ns, no, ny, nf⟩ ⟨t, i, q, s, en, nn⟩ = (M ++ [⟨t, i, q, s, en, nn⟩], ⟨na + 1, ns, no, ny, nf⟩) := by
         unfold bF;simp only [hf, acO XJ.out, Bm];simp
        have cY := af dt;rw [Bm] at zF;clear dt hf Bm;go_wp2_with fail
        refine zF.out.mono ?_;rintro e5 w5 ⟨rfl, aL⟩;have Av := (H4X.out).below aL;have HX5 := af Av;obtain ⟨x0, x1, x2, x3, x4, x5⟩ := Av.z;dsimp only [ac2] at x0 x1 x2 x3 x4 x5;clear Av;have H5 : Hid (nD (fun k => T k ∨ k = gc ∨ k = w.heap.size) w5 g tr M ∧ bD w5 gc ⟨na, ns, no, ny, nf⟩ ∧ ak Z w5 (fun k => k = g ∨ k = gc)) := af ⟨H4.out.1.below aL, H4.out.2.1.below aL, H4.out.2.2.cC aL⟩;clear aL;go_wp2_with fail
        obtain ⟨vM5, m5, lC, bP⟩ := H5.out.1.l;have mf5 := H5.out.1.fr;obtain ⟨O2, nM5, O4, rfl⟩ := lC.sl;obtain rfl : nM5 = M.length := lC.len.1;have Ap := af (acD lC bP);clear lC bP;have q1 : ∀ o, (w5.alloc o).cell? ⟨g, 1, none⟩ = some (.slice O2 M.length O4) := fun o => acX _ m5;have q2 : ∀ o o', ((w5.alloc o).alloc o').cell? ⟨g, 1, none⟩ = some (.slice O2 M.length O4) := fun o o' => acX _ (q1 o);have q0d : w5.drew.cell? ⟨g, 1, none⟩ = some (.slice O2 M.length O4) := m5;have q1d : ∀ o, (w5.alloc o).drew.cell? ⟨g, 1, none⟩ = some (.slice O2 M.length O4) := fun o => q1 o;have q1e : ∀ o, (w5.drew.alloc o).cell? ⟨g, 1, none⟩ = some (.slice O2 M.length O4) := fun o => acX _ q0d;have q2d : ∀ o o', ((w5.alloc o).alloc o').drew.cell? ⟨g, 1, none⟩ = some (.slice O2 M.length O4) := fun o o' => q2 o o';have q2e : ∀ o o', ((w5.drew.alloc o).alloc o').cell? ⟨g, 1, none⟩ = some (.slice O2 M.length O4) := fun o o' => acX _ (q1e o);have XK : ∀ V, Below w5.heap.size w5 V → iY V (.slice O2 M.length O4) M := fun V hV => Ap.out.1.below hV;have BR := af XK;have xQ : ∀ V, Below w5.heap.size w5 V → V.cell? ⟨wr.heap.size, 0, none⟩ = some (.int .i64 t) ∧ V.cell? ⟨wr.heap.size, 1, none⟩ = some (.int .i64 i) ∧ V.cell? ⟨wr.heap.size, 2, none⟩ = some (.int .i64 q) ∧ V.cell? ⟨wr.heap.size, 3, none⟩ = some (.int .i64 s) ∧ V.cell? ⟨wr.heap.size, 4, none⟩ = some (.int .i64 en) ∧ V.cell? ⟨wr.heap.size, 5, none⟩ = some (.string nn) := fun V hV => by
         obtain ⟨a0, a1, a2, a3, a4, a5⟩ := (HX5.out.below hV).z;exact ⟨a0, a1, a2, a3, a4, a5⟩
        have sV : wr.heap.size ≠ g := by
         have h1 : g < wr.heap.size := lt_of_cell HJ.out.1.c0;omega
        have LI : ∀ V u, Below w5.heap.size w5 V → (fun V => V.cell? ⟨wr.heap.size, 0, none⟩ = some (.int .i64 t) ∧ V.cell? ⟨wr.heap.size, 1, none⟩ = some (.int .i64 i) ∧ V.cell? ⟨wr.heap.size, 2, none⟩ = some (.int .i64 q) ∧ V.cell? ⟨wr.heap.size, 3, none⟩ = some (.int .i64 s) ∧ V.cell? ⟨wr.heap.size, 4, none⟩ = some (.int .i64 en) ∧ V.cell? ⟨wr.heap.size, 5, none⟩ = some (.string nn)) (V.setCell ⟨g, 1, none⟩ u) := fun V u hV => by
         obtain ⟨a0, a1, a2, a3, a4, a5⟩ := xQ V hV;refine ⟨?_, ?_, ?_, ?_, ?_, ?_⟩ <;> (rw [acM _ _ _ _ (by simp [Ne.symm sV, sV])]; assumption)
        have KEEP := af (acD xQ LI);have g5 : ∀ V, Below w5.heap.size w5 V → V.cell? ⟨g, 1, none⟩ = some (.slice O2 M.length O4) ∧ V.frozen? ⟨g, 1, none⟩ = false := fun V hV =>
         ⟨(hV.cell (p := ⟨g, 1, none⟩) (show g < w5.heap.size from lt_of_cell m5)).trans m5, (hV.frozen (p := ⟨g, 1, none⟩) (show g < w5.heap.size from lt_of_cell m5)).trans mf5⟩
        have G5 := af g5;have bE := (acG w5.heap.size w5).alloc (acE _) (.cells #[] 30);have bS := (acG w5.heap.size w5).alloc (acE _) (.cells #[.int .i64 t, .int .i64 i, .int .i64 q, .int .i64 s, .int .i64 en, .string nn] 30);have bES := bE.alloc bE.size (.cells #[.int .i64 t, .int .i64 i, .int .i64 q, .int .i64 s, .int .i64 en, .string nn] 30);have bSE := bS.alloc bS.size (.cells #[] 30);have oE : aI w5.heap.size (w5.alloc (.cells #[] 30)) (.slice (some ⟨w5.heap.size, 0, none⟩) 0 0) [] := afi w5 #[] 0 (acE _) (by decide) rfl;have tW : ∀ o : Obj, (w5.alloc o).heap.size = w5.heap.size + 1 := fun o => by simp
        have oSE : aI w5.heap.size ((w5.alloc (.cells #[.int .i64 t, .int .i64 i, .int .i64 q, .int .i64 s, .int .i64 en, .string nn] 30)).alloc (.cells #[] 30)) (.slice (some ⟨w5.heap.size + 1, 0, none⟩) 0 0) [] := by
         have := afi (base := w5.heap.size) (e := 30) (size := 6) (w5.alloc (.cells #[.int .i64 t, .int .i64 i, .int .i64 q, .int .i64 s, .int .i64 en, .string nn] 30)) #[] 0 (by simp) (by decide) rfl;rw [tW] at this;exact this
        have dr : ∀ V, Below w5.heap.size w5 V → Below w5.heap.size w5 V.drew := fun V h => ⟨h.os, h.tape, h.output, h.size, h.block⟩
        have cH := af (acD (dr _ bE) (acD (dr _ bES) (dr _ bSE)));have oES : aI w5.heap.size ((w5.alloc (.cells #[] 30)).alloc (.cells #[.int .i64 t, .int .i64 i, .int .i64 q, .int .i64 s, .int .i64 en, .string nn] 30)) (.slice (some ⟨w5.heap.size, 0, none⟩) 0 0) [] := ady oE _;have ql : Hid (aI w5.heap.size (w5.alloc (.cells #[] 30)).drew (.slice (some ⟨w5.heap.size, 0, none⟩) 0 0) [] ∧ aI w5.heap.size ((w5.alloc (.cells #[] 30)).alloc (.cells #[.int .i64 t, .int .i64 i, .int .i64 q, .int .i64 s, .int .i64 en, .string nn] 30)).drew (.slice (some ⟨w5.heap.size, 0, none⟩) 0 0) [] ∧ aI w5.heap.size ((w5.alloc (.cells #[.int .i64 t, .int .i64 i, .int .i64 q, .int .i64 s, .int .i64 en, .string nn] 30)).alloc (.cells #[] 30)).drew (.slice (some ⟨w5.heap.size + 1, 0, none⟩) 0 0) []) := af ⟨World.ownsRow.drew oE, World.ownsRow.drew oES, World.ownsRow.drew oSE⟩;have sES : cj ((w5.alloc (.cells #[] 30)).alloc (.cells #[.int .i64 t, .int .i64 i, .int .i64 q, .int .i64 s, .int .i64 en, .string nn] 30)).drew (w5.heap.size + 1) 0 ⟨t, i, q, s, en, nn⟩ := by
         have := az (w5.alloc (.cells #[] 30)) ⟨t, i, q, s, en, nn⟩;rw [tW] at this;exact this
        have sSE : cj ((w5.alloc (.cells #[.int .i64 t, .int .i64 i, .int .i64 q, .int .i64 s, .int .i64 en, .string nn] 30)).alloc (.cells #[] 30)).drew w5.heap.size 0 ⟨t, i, q, s, en, nn⟩ := by
         have h1 := az w5 ⟨t, i, q, s, en, nn⟩;have h2 := h1.below ((acG (w5.alloc (.cells #[.int .i64 t, .int .i64 i, .int .i64 q, .int .i64 s, .int .i64 en, .string nn] 30)).heap.size (w5.alloc (.cells #[.int .i64 t, .int .i64 i, .int .i64 q, .int .i64 s, .int .i64 en, .string nn] 30))).alloc (acE _) (.cells #[] 30));exact fun a b hb => h2 a b hb
        have O5 := af (acD sES sSE);have nK : Hid (M.length ≤ 64) := af aaQ;clear XK xQ LI g5 bE bS bES bSE oE oSE oES sES sSE tW sV dr;refine ado (S := fun V => V.cell? ⟨wr.heap.size, 0, none⟩ = some (.int .i64 t) ∧ V.cell? ⟨wr.heap.size, 1, none⟩ = some (.int .i64 i) ∧ V.cell? ⟨wr.heap.size, 2, none⟩ = some (.int .i64 q) ∧ V.cell? ⟨wr.heap.size, 3, none⟩ = some (.int .i64 s) ∧ V.cell? ⟨wr.heap.size, 4, none⟩ = some (.int .i64 en) ∧ V.cell? ⟨wr.heap.size, 5, none⟩ = some (.string nn)) (by kernel_rfl) ?_ (fun hHeld => ?_)
        ·(try dsimp only)
         first | go_keep | exact KEEP.out.1 _ ((acG _ _))
        refine ao 0 rfl ?_;refine ao 2 rfl ?_;refine ao 3 rfl ?_;refine ao 4 rfl ?_;refine ao 7 rfl ?_;refine acU (rs := [1, 5, 8]) (by kernel_rfl) (by simp) ?_;refine dz rfl (fun K hK => ?_) ?_
        focus
         go_simp;first
          | refine hK.out _ _ ?_ (fun hHeld => ?_)
          | (go_wp2_with fail; refine hK.out _ _ ?_ (fun hHeld => ?_))
         ·(try dsimp only)
          first | go_keep | exact KEEP.out.1 _ bG | exact KEEP.out.2 _ _ bG
         clear hK K;try simp only [Act.put, qA, qB, qC]
         refine acU (rs := [5, 8]) (by kernel_rfl) (by simp) ?_;refine dz rfl (fun K hK => ?_) ?_
         focus
          go_simp;first
           | refine hK.out _ _ ?_ (fun hHeld => ?_)
           | (go_wp2_with fail; refine hK.out _ _ ?_ (fun hHeld => ?_))
          ·(try dsimp only)
           first | go_keep | exact KEEP.out.1 _ bG | exact KEEP.out.2 _ _ bG
          clear hK K;try simp only [Act.put, qA, qB, qC]
          refine acU (rs := [6, 8]) (by kernel_rfl) (by simp) ?_;refine dz rfl (fun K hK => ?_) ?_
          focus
           ((refine bn (by rfl) _ _ (by rfl) (by rfl) (by rfl) (by rfl) ql.out.1 (BR.out _ cH.out.1) cH.out.1.size (by have := nK.out; simp; omega) ?_; intro v6 V6 cw bK eM; obtain ⟨p6, n6, c6, rfl⟩ := cw.gp.sl; have bG := cH.out.1.trans bK; rw [adE] at cw; have H6 := af (acD cw (acD bG eM)); clear cw bK eM))
           refine hK.out _ _ ?_ (fun hHeld => ?_)
           ·(try dsimp only)
            first | go_keep | exact KEEP.out.1 _ bG | exact KEEP.out.2 _ _ bG
           clear hK K;try simp only [Act.put, qA, qB, qC]
           refine acU (rs := [8]) (by kernel_rfl) (by simp) ?_;refine dz rfl (fun K hK => ?_) ?_
           focus
            go_simp;first
             | refine hK.out _ _ ?_ (fun hHeld => ?_)
             | (go_wp2_with fail; refine hK.out _ _ ?_ (fun hHeld => ?_))
            ·(try dsimp only)
             first | go_keep | exact KEEP.out.1 _ bG | exact KEEP.out.2 _ _ bG
            clear hK K;try simp only [Act.put, qA, qB, qC]
            refine acU (rs := [9]) (by kernel_rfl) (by simp) ?_;refine dz rfl (fun K hK => ?_) ?_
            focus
             ((refine bn (by rfl) _ _ (by rfl) (by rfl) (by rfl) (by rfl) (show aI w5.heap.size (V6.alloc _) (.slice p6 n6 c6) M from ady H6.out.1 _) (gN (az V6 ⟨t, i, q, s, en, nn⟩)) (by have := H6.out.2.1.size; simp; omega) (by have := nK.out; simp; omega) ?_; intro v9 V9 gE eW ni; obtain ⟨p9, n9, c9, rfl⟩ := gE.gp.sl; have bG := (H6.out.2.1.alloc H6.out.2.1.size _).trans eW; have g1 := (G5.out _ bG).1; have g2 := (G5.out _ bG).2; have H9 := af (acD gE bG); clear gE eW ni))
            rotate_left;exact acR
           rotate_left;exact acR
          rotate_left;refine dz rfl (fun K hK => ?_) ?_
          focus
           go_simp;first
            | refine hK.out _ _ ?_ (fun hHeld => ?_)
            | (go_wp2_with fail; refine hK.out _ _ ?_ (fun hHeld => ?_))
           ·(try dsimp only)
            first | go_keep | exact KEEP.out.1 _ bG | exact KEEP.out.2 _ _ bG
           clear hK K;try simp only [Act.put, qA, qB, qC]
           refine acU (rs := [6]) (by kernel_rfl) (by simp) ?_;refine dz rfl (fun K hK => ?_) ?_
           focus
            ((refine bn (by rfl) _ _ (by rfl) (by rfl) (by rfl) (by rfl) ql.out.2.1 (BR.out _ cH.out.2.1) cH.out.2.1.size (by have := nK.out; simp; omega) ?_; intro v6 V6 cw bK eM; obtain ⟨p6, n6, c6, rfl⟩ := cw.gp.sl; have bG := cH.out.2.1.trans bK; rw [adE] at cw; have vC : Hid (cj V6 (w5.heap.size + 1) 0 ⟨t, i, q, s, en, nn⟩) := af (fun a b hb => eM.cell (O5.out.1 a b hb) (by simp [Value.ownBlock])); have H6 := af (acD cw (acD bG eM)); clear cw bK eM))
            refine hK.out _ _ ?_ (fun hHeld => ?_)
            ·(try dsimp only)
             first | go_keep | exact KEEP.out.1 _ bG | exact KEEP.out.2 _ _ bG
            clear hK K;try simp only [Act.put, qA, qB, qC]
            refine acU (rs := [9]) (by kernel_rfl) (by simp) ?_;refine dz rfl (fun K hK => ?_) ?_
            focus
             ((refine bn (by rfl) _ _ (by rfl) (by rfl) (by rfl) (by rfl) H6.out.1 (gN vC.out) H6.out.2.1.size (by have := nK.out; simp; omega) ?_; intro v9 V9 gE eW ni; obtain ⟨p9, n9, c9, rfl⟩ := gE.gp.sl; have bG := H6.out.2.1.trans eW; have g1 := (G5.out _ bG).1; have g2 := (G5.out _ bG).2; have H9 := af (acD gE bG); clear gE eW ni))
            rotate_left;exact acR
           rotate_left;exact acR
          rotate_left;exact acR
         rotate_left 2;refine dz rfl (fun K hK => ?_) ?_
         focus
          go_simp;first
           | refine hK.out _ _ ?_ (fun hHeld => ?_)
           | (go_wp2_with fail; refine hK.out _ _ ?_ (fun hHeld => ?_))
          ·(try dsimp only)
           first | go_keep | exact KEEP.out.1 _ bG | exact KEEP.out.2 _ _ bG
          clear hK K;try simp only [Act.put, qA, qB, qC]
          refine acU (rs := [5]) (by kernel_rfl) (by simp) ?_;refine dz rfl (fun K hK => ?_) ?_
          focus
           go_simp;first
            | refine hK.out _ _ ?_ (fun hHeld => ?_)
            | (go_wp2_with fail; refine hK.out _ _ ?_ (fun hHeld => ?_))
           ·(try dsimp only)
            first | go_keep | exact KEEP.out.1 _ bG | exact KEEP.out.2 _ _ bG
           clear hK K;try simp only [Act.put, qA, qB, qC]
           refine acU (rs := [6]) (by kernel_rfl) (by simp) ?_;refine dz rfl (fun K hK => ?_) ?_
           focus
            ((refine bn (by rfl) _ _ (by rfl) (by rfl) (by rfl) (by rfl) ql.out.2.1 (BR.out _ cH.out.2.1) cH.out.2.1.size (by have := nK.out; simp; omega) ?_; intro v6 V6 cw bK eM; obtain ⟨p6, n6, c6, rfl⟩ := cw.gp.sl; have bG := cH.out.2.1.trans bK; rw [adE] at cw; have vC : Hid (cj V6 (w5.heap.size + 1) 0 ⟨t, i, q, s, en, nn⟩) := af (fun a b hb => eM.cell (O5.out.1 a b hb) (by simp [Value.ownBlock])); have H6 := af (acD cw (acD bG eM)); clear cw bK eM))
            refine hK.out _ _ ?_ (fun hHeld => ?_)
            ·(try dsimp only)
             first | go_keep | exact KEEP.out.1 _ bG | exact KEEP.out.2 _ _ bG
            clear hK K;try simp only [Act.put, qA, qB, qC]
            refine acU (rs := [9]) (by kernel_rfl) (by simp) ?_;refine dz rfl (fun K hK => ?_) ?_
            focus
             ((refine bn (by rfl) _ _ (by rfl) (by rfl) (by rfl) (by rfl) H6.out.1 (gN vC.out) H6.out.2.1.size (by have := nK.out; simp; omega) ?_; intro v9 V9 gE eW ni; obtain ⟨p9, n9, c9, rfl⟩ := gE.gp.sl; have bG := H6.out.2.1.trans eW; have g1 := (G5.out _ bG).1; have g2 := (G5.out _ bG).2; have H9 := af (acD gE bG); clear gE eW ni))
            rotate_left;exact acR
           rotate_left;exact acR
          rotate_left;exact acR
         rotate_left;exact acR
        rotate_left 3;refine dz rfl (fun K hK => ?_) ?_
        focus
         go_simp;first
          | refine hK.out _ _ ?_ (fun hHeld => ?_)
          | (go_wp2_with fail; refine hK.out _ _ ?_ (fun hHeld => ?_))
         ·(try dsimp only)
          first | go_keep | exact KEEP.out.1 _ bG | exact KEEP.out.2 _ _ bG
         clear hK K;try simp only [Act.put, qA, qB, qC]
         refine acU (rs := [1, 8]) (by kernel_rfl) (by simp) ?_;refine dz rfl (fun K hK => ?_) ?_
         focus
          go_simp;first
           | refine hK.out _ _ ?_ (fun hHeld => ?_)
           | (go_wp2_with fail; refine hK.out _ _ ?_ (fun hHeld => ?_))
          ·(try dsimp only)
           first | go_keep | exact KEEP.out.1 _ bG | exact KEEP.out.2 _ _ bG
          clear hK K;try simp only [Act.put, qA, qB, qC]
          refine acU (rs := [6, 8]) (by kernel_rfl) (by simp) ?_;refine dz rfl (fun K hK => ?_) ?_
          focus
           ((refine bn (by rfl) _ _ (by rfl) (by rfl) (by rfl) (by rfl) ql.out.1 (BR.out _ cH.out.1) cH.out.1.size (by have := nK.out; simp; omega) ?_; intro v6 V6 cw bK eM; obtain ⟨p6, n6, c6, rfl⟩ := cw.gp.sl; have bG := cH.out.1.trans bK; rw [adE] at cw; have H6 := af (acD cw (acD bG eM)); clear cw bK eM))
           refine hK.out _ _ ?_ (fun hHeld => ?_)
           ·(try dsimp only)
            first | go_keep | exact KEEP.out.1 _ bG | exact KEEP.out.2 _ _ bG
           clear hK K;try simp only [Act.put, qA, qB, qC]
           refine acU (rs := [8]) (by kernel_rfl) (by simp) ?_;refine dz rfl (fun K hK => ?_) ?_
           focus
            go_simp;first
             | refine hK.out _ _ ?_ (fun hHeld => ?_)
             | (go_wp2_with fail; refine hK.out _ _ ?_ (fun hHeld => ?_))
            ·(try dsimp only)
             first | go_keep | exact KEEP.out.1 _ bG | exact KEEP.out.2 _ _ bG
            clear hK K;try simp only [Act.put, qA, qB, qC]
            refine acU (rs := [9]) (by kernel_rfl) (by simp) ?_;refine dz rfl (fun K hK => ?_) ?_
            focus
             ((refine bn (by rfl) _ _ (by rfl) (by rfl) (by rfl) (by rfl) (show aI w5.heap.size (V6.alloc _) (.slice p6 n6 c6) M from ady H6.out.1 _) (gN (az V6 ⟨t, i, q, s, en, nn⟩)) (by have := H6.out.2.1.size; simp; omega) (by have := nK.out; simp; omega) ?_; intro v9 V9 gE eW ni; obtain ⟨p9, n9, c9, rfl⟩ := gE.gp.sl; have bG := (H6.out.2.1.alloc H6.out.2.1.size _).trans eW; have g1 := (G5.out _ bG).1; have g2 := (G5.out _ bG).2; have H9 := af (acD gE bG); clear gE eW ni))
            rotate_left;exact acR
           rotate_left;exact acR
          rotate_left;refine dz rfl (fun K hK => ?_) ?_
          focus
           go_simp;first
            | refine hK.out _ _ ?_ (fun hHeld => ?_)
            | (go_wp2_with fail; refine hK.out _ _ ?_ (fun hHeld => ?_))
           ·(try dsimp only)
            first | go_keep | exact KEEP.out.1 _ bG | exact KEEP.out.2 _ _ bG
           clear hK K;try simp only [Act.put, qA, qB, qC]
           refine acU (rs := [6]) (by kernel_rfl) (by simp) ?_;refine dz rfl (fun K hK => ?_) ?_
           focus
            ((refine bn (by rfl) _ _ (by rfl) (by rfl) (by rfl) (by rfl) ql.out.2.1 (BR.out _ cH.out.2.1) cH.out.2.1.size (by have := nK.out; simp; omega) ?_; intro v6 V6 cw bK eM; obtain ⟨p6, n6, c6, rfl⟩ := cw.gp.sl; have bG := cH.out.2.1.trans bK; rw [adE] at cw; have vC : Hid (cj V6 (w5.heap.size + 1) 0 ⟨t, i, q, s, en, nn⟩) := af (fun a b hb => eM.cell (O5.out.1 a b hb) (by simp [Value.ownBlock])); have H6 := af (acD cw (acD bG eM)); clear cw bK eM))
            refine hK.out _ _ ?_ (fun hHeld => ?_)
            ·(try dsimp only)
             first | go_keep | exact KEEP.out.1 _ bG | exact KEEP.out.2 _ _ bG
            clear hK K;try simp only [Act.put, qA, qB, qC]
            refine acU (rs := [9]) (by kernel_rfl) (by simp) ?_;refine dz rfl (fun K hK => ?_) ?_
            focus
             ((refine bn (by rfl) _ _ (by rfl) (by rfl) (by rfl) (by rfl) H6.out.1 (gN vC.out) H6.out.2.1.size (by have := nK.out; simp; omega) ?_; intro v9 V9 gE eW ni; obtain ⟨p9, n9, c9, rfl⟩ := gE.gp.sl; have bG := H6.out.2.1.trans eW; have g1 := (G5.out _ bG).1; have g2 := (G5.out _ bG).2; have H9 := af (acD gE bG); clear gE eW ni))
            rotate_left;exact acR
           rotate_left;exact acR
          rotate_left;exact acR
         rotate_left 2;refine dz rfl (fun K hK => ?_) ?_
         focus
          go_simp;first
           | refine hK.out _ _ ?_ (fun hHeld => ?_)
           | (go_wp2_with fail; refine hK.out _ _ ?_ (fun hHeld => ?_))
          ·(try dsimp only)
           first | go_keep | exact KEEP.out.1 _ bG | exact KEEP.out.2 _ _ bG
          clear hK K;try simp only [Act.put, qA, qB, qC]
          refine acU (rs := [1]) (by kernel_rfl) (by simp) ?_;refine dz rfl (fun K hK => ?_) ?_
          focus
           go_simp;first
            | refine hK.out _ _ ?_ (fun hHeld => ?_)
            | (go_wp2_with fail; refine hK.out _ _ ?_ (fun hHeld => ?_))
           ·(try dsimp only)
            first | go_keep | exact KEEP.out.1 _ bG | exact KEEP.out.2 _ _ bG
           clear hK K;try simp only [Act.put, qA, qB, qC]
           refine acU (rs := [6]) (by kernel_rfl) (by simp) ?_;refine dz rfl (fun K hK => ?_) ?_
           focus
            ((refine bn (by rfl) _ _ (by rfl) (by rfl) (by rfl) (by rfl) ql.out.2.2 (BR.out _ cH.out.2.2) cH.out.2.2.size (by have := nK.out; simp; omega) ?_; intro v6 V6 cw bK eM; obtain ⟨p6, n6, c6, rfl⟩ := cw.gp.sl; have bG := cH.out.2.2.trans bK; rw [adE] at cw; have vC : Hid (cj V6 w5.heap.size 0 ⟨t, i, q, s, en, nn⟩) := af (fun a b hb => eM.cell (O5.out.2 a b hb) (by simp [Value.ownBlock])); have H6 := af (acD cw (acD bG eM)); clear cw bK eM))
            refine hK.out _ _ ?_ (fun hHeld => ?_)
            ·(try dsimp only)
             first | go_keep | exact KEEP.out.1 _ bG | exact KEEP.out.2 _ _ bG
            clear hK K;try simp only [Act.put, qA, qB, qC]
            refine acU (rs := [9]) (by kernel_rfl) (by simp) ?_;refine dz rfl (fun K hK => ?_) ?_
            focus
             ((refine bn (by rfl) _ _ (by rfl) (by rfl) (by rfl) (by rfl) H6.out.1 (gN vC.out) H6.out.2.1.size (by have := nK.out; simp; omega) ?_; intro v9 V9 gE eW ni; obtain ⟨p9, n9, c9, rfl⟩ := gE.gp.sl; have bG := H6.out.2.1.trans eW; have g1 := (G5.out _ bG).1; have g2 := (G5.out _ bG).2; have H9 := af (acD gE bG); clear gE eW ni))
            rotate_left;exact acR
           rotate_left;exact acR
          rotate_left;exact acR
         rotate_left;exact acR
        rotate_left 3;refine dz rfl (fun K hK => ?_) ?_
        focus
         go_simp;first
          | refine hK.out _ _ ?_ (fun hHeld => ?_)
          | (go_wp2_with fail; refine hK.out _ _ ?_ (fun hHeld => ?_))
         ·(try dsimp only)
          first | go_keep | exact KEEP.out.1 _ bG | exact KEEP.out.2 _ _ bG
         clear hK K;try simp only [Act.put, qA, qB, qC]
         refine acU (rs := [1, 5]) (by kernel_rfl) (by simp) ?_;refine dz rfl (fun K hK => ?_) ?_
         focus
          go_simp;first
           | refine hK.out _ _ ?_ (fun hHeld => ?_)
           | (go_wp2_with fail; refine hK.out _ _ ?_ (fun hHeld => ?_))
          ·(try dsimp only)
           first | go_keep | exact KEEP.out.1 _ bG | exact KEEP.out.2 _ _ bG
          clear hK K;try simp only [Act.put, qA, qB, qC]
          refine acU (rs := [5]) (by kernel_rfl) (by simp) ?_;refine dz rfl (fun K hK => ?_) ?_
          focus
           go_simp;first
            | refine hK.out _ _ ?_ (fun hHeld => ?_)
            | (go_wp2_with fail; refine hK.out _ _ ?_ (fun hHeld => ?_))
           ·(try dsimp only)
            first | go_keep | exact KEEP.out.1 _ bG | exact KEEP.out.2 _ _ bG
           clear hK K;try simp only [Act.put, qA, qB, qC]
           refine acU (rs := [6]) (by kernel_rfl) (by simp) ?_;refine dz rfl (fun K hK => ?_) ?_
           focus
            ((refine bn (by rfl) _ _ (by rfl) (by rfl) (by rfl) (by rfl) ql.out.2.2 (BR.out _ cH.out.2.2) cH.out.2.2.size (by have := nK.out; simp; omega) ?_; intro v6 V6 cw bK eM; obtain ⟨p6, n6, c6, rfl⟩ := cw.gp.sl; have bG := cH.out.2.2.trans bK; rw [adE] at cw; have vC : Hid (cj V6 w5.heap.size 0 ⟨t, i, q, s, en, nn⟩) := af (fun a b hb => eM.cell (O5.out.2 a b hb) (by simp [Value.ownBlock])); have H6 := af (acD cw (acD bG eM)); clear cw bK eM))
            refine hK.out _ _ ?_ (fun hHeld => ?_)
            ·(try dsimp only)
             first | go_keep | exact KEEP.out.1 _ bG | exact KEEP.out.2 _ _ bG
            clear hK K;try simp only [Act.put, qA, qB, qC]
            refine acU (rs := [9]) (by kernel_rfl) (by simp) ?_;refine dz rfl (fun K hK => ?_) ?_
            focus
             ((refine bn (by rfl) _ _ (by rfl) (by rfl) (by rfl) (by rfl) H6.out.1 (gN vC.out) H6.out.2.1.size (by have := nK.out; simp; omega) ?_; intro v9 V9 gE eW ni; obtain ⟨p9, n9, c9, rfl⟩ := gE.gp.sl; have bG := H6.out.2.1.trans eW; have g1 := (G5.out _ bG).1; have g2 := (G5.out _ bG).2; have H9 := af (acD gE bG); clear gE eW ni))
            rotate_left;exact acR
           rotate_left;exact acR
          rotate_left;exact acR
         rotate_left;refine dz rfl (fun K hK => ?_) ?_
         focus
          go_simp;first
           | refine hK.out _ _ ?_ (fun hHeld => ?_)
           | (go_wp2_with fail; refine hK.out _ _ ?_ (fun hHeld => ?_))
          ·(try dsimp only)
           first | go_keep | exact KEEP.out.1 _ bG | exact KEEP.out.2 _ _ bG
          clear hK K;try simp only [Act.put, qA, qB, qC]
          refine acU (rs := [1]) (by kernel_rfl) (by simp) ?_;refine dz rfl (fun K hK => ?_) ?_
          focus
           go_simp;first
            | refine hK.out _ _ ?_ (fun hHeld => ?_)
            | (go_wp2_with fail; refine hK.out _ _ ?_ (fun hHeld => ?_))
           ·(try dsimp only)
            first | go_keep | exact KEEP.out.1 _ bG | exact KEEP.out.2 _ _ bG
           clear hK K;try simp only [Act.put, qA, qB, qC]
           refine acU (rs := [6]) (by kernel_rfl) (by simp) ?_;refine dz rfl (fun K hK => ?_) ?_
           focus
            ((refine bn (by rfl) _ _ (by rfl) (by rfl) (by rfl) (by rfl) ql.out.2.2 (BR.out _ cH.out.2.2) cH.out.2.2.size (by have := nK.out; simp; omega) ?_; intro v6 V6 cw bK eM; obtain ⟨p6, n6, c6, rfl⟩ := cw.gp.sl; have bG := cH.out.2.2.trans bK; rw [adE] at cw; have vC : Hid (cj V6 w5.heap.size 0 ⟨t, i, q, s, en, nn⟩) := af (fun a b hb => eM.cell (O5.out.2 a b hb) (by simp [Value.ownBlock])); have H6 := af (acD cw (acD bG eM)); clear cw bK eM))
            refine hK.out _ _ ?_ (fun hHeld => ?_)
            ·(try dsimp only)
             first | go_keep | exact KEEP.out.1 _ bG | exact KEEP.out.2 _ _ bG
            clear hK K;try simp only [Act.put, qA, qB, qC]
            refine acU (rs := [9]) (by kernel_rfl) (by simp) ?_;refine dz rfl (fun K hK => ?_) ?_
            focus
             ((refine bn (by rfl) _ _ (by rfl) (by rfl) (by rfl) (by rfl) H6.out.1 (gN vC.out) H6.out.2.1.size (by have := nK.out; simp; omega) ?_; intro v9 V9 gE eW ni; obtain ⟨p9, n9, c9, rfl⟩ := gE.gp.sl; have bG := H6.out.2.1.trans eW; have g1 := (G5.out _ bG).1; have g2 := (G5.out _ bG).2; have H9 := af (acD gE bG); clear gE eW ni))
            rotate_left;exact acR
           rotate_left;exact acR
          rotate_left;exact acR
         rotate_left;exact acR
        rotate_left 2;exact acR;all_goals
         refine hK.out _ _ ?_ (fun hHeld => ?_)
         ·(try dsimp only)
          first | go_keep | exact KEEP.out.1 _ bG | exact KEEP.out.2 _ _ bG
         clear hK K;try simp only [Act.put, qA, qB, qC]
         refine ao 10 rfl ?_;refine ao 11 rfl ?_;refine acU (rs := [12]) (by kernel_rfl) (by simp) ?_;refine dz rfl (fun K hK => ?_) ?_
         ·go_simp;first
           | refine hK.out _ _ ?_ (fun hHeld => ?_)
           | (go_wp2_with fail; refine hK.out _ _ ?_ (fun hHeld => ?_))
          ·(try dsimp only)
           first | go_keep | exact KEEP.out.1 _ bG | exact KEEP.out.2 _ _ bG
          clear hK K;try simp only [Act.put, qA, qB, qC]
          refine adO (by kernel_rfl) ?_ _;have lO : bD (V9.setCell ⟨g, 1, none⟩ (.slice p9 n9 c9)) gc ⟨na, ns, no, ny, nf⟩ := (H5.out.2.1.below H9.out.2).grown (aj _ _ _ _) (fun e => HZ.out.2.2.2.2.1 (by injection e with e; exact e.symm));have Sx : nD (fun k => T k ∨ k = gc ∨ k = w.heap.size) (V9.setCell ⟨g, 1, none⟩ (.slice p9 n9 c9)) g tr (M ++ [⟨t, i, q, s, en, nn⟩]) := H5.out.1.put H9.out.2 H9.out.1 (fun k hk => by
           have h1 : g < w5.heap.size := lt_of_cell H5.out.1.c0;have h2 : gc < w5.heap.size := lt_of_cell H5.out.2.1.c0;have h3 := HZ.out.2.2.2.2.2;rcases hk with hk | hk | hk
           ·have := HTT.out.2 k hk;omega
           ·omega
           ·omega)
          have ni : ak Z (V9.setCell ⟨g, 1, none⟩ (.slice p9 n9 c9)) (fun k => k = g ∨ k = gc) := (H5.out.2.2.cC H9.out.2).set _ (.inl (.inl rfl));obtain ⟨j0, j1, j2, j3, j4, jf⟩ := lO;have jf0 := jf 0 (by omega);dsimp only at j0;have HF9 := af (acD Sx (acD (bD.mk j0 j1 j2 j3 j4 jf : bD (V9.setCell ⟨g, 1, none⟩ (.slice p9 n9 c9)) gc ⟨na, ns, no, ny, nf⟩) ni));clear jf Sx ni;go_wp2;go_roundw;case rel =>
           refine ⟨j + 1, by omega, by go_num, af ?_⟩;rw [Ak.out, cY.out];exact ⟨HF9.out.1.grown (aj _ _ _ _) (.inr (.inl rfl)) HZ.out.2.2.2.2.1, HF9.out.2.1.s0, HF9.out.2.2.set _ (.inl (.inr rfl))⟩
          case measure => simp [intOf]; omega
         exact acR
       ·have dt : bF M ⟨na, ns, no, ny, nf⟩ ⟨t, i, q, s, en, nn⟩ = (M, ⟨na, ns, no, ny + 1, nf⟩) := by
         unfold bF;simp only [hf, acO XJ.out, Bm, if_true]
        have cY := af dt;rw [Bm] at zF;clear dt hf Bm;go_wp2_with fail
        refine zF.out.mono ?_;rintro e5 w5 ⟨rfl, aL⟩;have H5 : Hid (nD (fun k => T k ∨ k = gc ∨ k = w.heap.size) w5 g tr M ∧ bD w5 gc ⟨na, ns, no, ny, nf⟩ ∧ ak Z w5 (fun k => k = g ∨ k = gc)) := af ⟨H4.out.1.below aL, H4.out.2.1.below aL, H4.out.2.2.cC aL⟩;clear aL;obtain ⟨j0, j1, j2, j3, j4, jf⟩ := H5.out.2.1;have jf3 := jf 3 (by omega);dsimp only at j3;clear jf;go_wp2;go_roundw;case rel =>
         refine ⟨j + 1, by omega, by go_num, af ?_⟩;rw [Ak.out, cY.out];exact ⟨H5.out.1.grown (aj _ _ _ _) (.inr (.inl rfl)) HZ.out.2.2.2.2.1, H5.out.2.1.s3, H5.out.2.2.set _ (.inl (.inr rfl))⟩
        case measure => simp [intOf]; omega
     ·obtain ⟨o, hf⟩ : ∃ o, bI M i = some o := adG.1 hb;rw [hf, aep] at hu;subst hu;by_cases J9 : o = ⟨t, i, q, s, en, nn⟩
      ·have dt : bF M ⟨na, ns, no, ny, nf⟩ ⟨t, i, q, s, en, nn⟩ = (M, ⟨na, ns + 1, no, ny, nf⟩) := by
        unfold bF;simp only [hf, acW J9]
       have cY := af dt;rw [ac4 J9] at heq;subst J9;clear dt hf hb;dsimp only at *;go_wp2;go_roundw;case rel =>
        refine ⟨j + 1, by omega, by go_num, af ?_⟩;rw [Ak.out, cY.out];exact ⟨H4.out.1.grown (aj _ _ _ _) (.inr (.inl rfl)) HZ.out.2.2.2.2.1, H4.out.2.1.s1, H4.out.2.2.set _ (.inl (.inr rfl))⟩
       case measure => simp [intOf]; omega
      ·have dt : bF M ⟨na, ns, no, ny, nf⟩ ⟨t, i, q, s, en, nn⟩ = (M, ⟨na, ns, no + 1, ny, nf⟩) := by
        unfold bF;simp only [hf, acO J9]
       have cY := af dt;have hoi := (bO hf).2;obtain ⟨t', i', p', s', e', wL⟩ := o;dsimp only at *;subst hoi;have eS : t' ≠ t ∨ (t' = t ∧ p' ≠ q) ∨ (t' = t ∧ p' = q ∧ s' ≠ s) ∨ (t' = t ∧ p' = q ∧ s' = s ∧ e' ≠ en) ∨ (t' = t ∧ p' = q ∧ s' = s ∧ e' = en ∧ wL.toList ≠ nn.toList) := by
        have hb := EK ⟨t', i', p', s', e', wL⟩ ⟨t, i', q, s, en, nn⟩;rw [ac1 J9] at hb;by_cases h1 : t' = t
        ·by_cases h2 : p' = q
         ·by_cases h3 : s' = s
          ·by_cases h4 : e' = en
           ·refine .inr (.inr (.inr (.inr ⟨h1, h2, h3, h4, fun h5 => ?_⟩)));simp [h1, h2, h3, h4, h5] at hb
           ·exact .inr (.inr (.inr (.inl ⟨h1, h2, h3, h4⟩)))
          ·exact .inr (.inr (.inl ⟨h1, h2, h3⟩))
         ·exact .inr (.inl ⟨h1, h2⟩)
        ·exact .inl h1
       clear dt hf hb J9 heq;rcases eS with h1 | ⟨rfl, h1⟩ | ⟨rfl, rfl, h1⟩ | ⟨rfl, rfl, rfl, h1⟩ | ⟨rfl, rfl, rfl, rfl, h1⟩;all_goals
        go_wp2;go_roundw;case rel =>
         refine ⟨j + 1, by omega, by go_num, af ?_⟩;rw [Ak.out, cY.out];exact ⟨H4.out.1.grown (aj _ _ _ _) (.inr (.inl rfl)) HZ.out.2.2.2.2.1, H4.out.2.1.s2, H4.out.2.2.set _ (.inl (.inr rfl))⟩
        case measure => simp [intOf]; omega
    ·have Z0 : j = l.length := by omega
     subst Z0;have hf : (cJ L cQ l).1 = M ∧ (cJ L cQ l).2 = C := by
      have := HMC.out
      rwa [ad9] at this
     have Kf := HZ.out.2.2.2.2.2;have eR : wr.heap[w.heap.size]? = some (.cells #[.int .i64 0, .int .i64 0, .int .i64 0, .int .i64 0, .int .i64 0] 64) := (HJ.out.2.2.block w.heap.size (by omega) (by
      have : g < w.heap.size := lt_of_cell c0;omega)).trans HZ.out.2.2.1
     obtain ⟨k0, k1, k2, k3, k4, kf⟩ := HJ.out.2.1;have BS : ak w wr (fun i => i = g) := (ak.of_below HZ.out.2.1 (fun i => i = g)).trans HJ.out.2.2 (fun i hi => by
      rcases hi with h1 | h1
      ·exact .inl h1
      ·exact .inr (by omega))
     have hrf := HJ.out.1;have Vy := acC wr w.heap.size 0 _ 64 (0, 0) eR;have Vz := acC wr w.heap.size 1 _ 64 (0, 0) eR;have VA := acC wr w.heap.size 2 _ 64 (0, 0) eR;have VC := acC wr w.heap.size 3 _ 64 (0, 0) eR;have VD := acC wr w.heap.size 4 _ 64 (0, 0) eR;have Z2 := acI wr w.heap.size 0 _ 64 eR;have Z3 := acI wr w.heap.size 1 _ 64 eR;have Ra := acI wr w.heap.size 2 _ 64 eR;have Z4 := acI wr w.heap.size 3 _ 64 eR;have Z5 := acI wr w.heap.size 4 _ 64 eR;have nh := af eR;have J_ := af (acD hrf (acD BS hf));have XL : w.heap.size ≠ g := by
      have : g < w.heap.size := lt_of_cell c0;omega
     have LJ := af XL;clear hf eR hrf BS kf NI Kf qz XL;go_wp2;refine ac0 (v := .tuple #[iJ C, .int .i64 0]) (by
      have q5 := dq nh.out (.int .i64 (C.add : Nat)) (.int .i64 (C.same : Nat)) (.int .i64 (C.other : Nat)) (.int .i64 (C.dw : Nat)) (.int .i64 (C.full : Nat));generalize (((((wr.setCell ⟨w.heap.size, 0, none⟩ (.int .i64 (C.add : Nat))).setCell ⟨w.heap.size, 1, none⟩ (.int .i64 (C.same : Nat))).setCell ⟨w.heap.size, 2, none⟩ (.int .i64 (C.other : Nat))).setCell ⟨w.heap.size, 3, none⟩ (.int .i64 (C.dw : Nat))).setCell ⟨w.heap.size, 4, none⟩ (.int .i64 (C.full : Nat))) = W9 at q5 ⊢;have m0 := acC W9 w.heap.size 0 _ 64 (0, 0) q5;have m1 := acC W9 w.heap.size 1 _ 64 (0, 0) q5;have m2 := acC W9 w.heap.size 2 _ 64 (0, 0) q5;have m3 := acC W9 w.heap.size 3 _ 64 (0, 0) q5;have m4 := acC W9 w.heap.size 4 _ 64 (0, 0) q5;have kQ : w.heap.size < W9.heap.size := by have := (acJ.1 q5).1; exact this
      clear q5;unfold iJ;simp at m0 m1 m2 m3 m4;simp [results, results116, go_sem, m0, m1, m2, m3, m4, kQ, cQ]) rfl ⟨by unfold wI; rw [acW lu.out.1, J_.out.2.2.2], ?_, ?_⟩
     ·rw [wJ, acW lu.out.1, J_.out.2.2.1];exact (((((J_.out.1.grown (aj _ _ _ _) (.inr (.inr rfl)) LJ.out).grown (aj _ _ _ _) (.inr (.inr rfl)) LJ.out).grown (aj _ _ _ _) (.inr (.inr rfl)) LJ.out).grown (aj _ _ _ _) (.inr (.inr rfl)) LJ.out).grown (aj _ _ _ _) (.inr (.inr rfl)) LJ.out).weak (fun k hk => .inl hk)
     ·exact bN J_.out.2.1 (.inr (acE w.heap.size)) (.int .i64 (C.add : Nat)) (.int .i64 (C.same : Nat)) (.int .i64 (C.other : Nat)) (.int .i64 (C.dw : Nat)) (.int .i64 (C.full : Nat))
theorem O6 {R : List Rr} (hr : bw kX R) {y : Rr} (hy : y ∈ R) (L : List Sp) : (aH kX R { y with L := L }).map (fun x => (x.t, x.g)) = R.map (fun x => (x.t, x.g)) := by
 induction R with
 | nil => cases hy
 | cons a r ih =>
  have h1 := ac_.1 hr;rw [aH];rcases ac9.1 hy with rfl | NK
  ·rw [acO (show ¬ kX { y with L := L } < kX y from Int.lt_irrefl _), acW (show kX { y with L := L } = kX y from rfl)];rfl
  ·have h2 : kX a < kX y := h1.1 y NK;have h3 : kX { y with L := L } = kX y := rfl;rw [acO (by omega), acO (by omega)]
   show (a.t, a.g) :: _ = (a.t, a.g) :: _
   rw [ih h1.2 NK]
theorem LK {R : List Rr} (hr : bw kX R) {y : Rr} (hy : y ∈ R) (L : List Sp) : (aH kX R { y with L := L }).map (·.g) = R.map (·.g) := by
 have := aec (List.map Prod.snd) (O6 hr hy L)
 simpa [aeO, Function.comp_def] using this
theorem iy.iff {gx : Nat} {R : List Rr} {k : Nat} : iy gx R k ↔ k = gx ∨ k ∈ R.map (·.g) := by
 unfold iy;constructor
 ·rintro (h | ⟨x, hx, rfl⟩)
  ·exact .inl h
  ·exact .inr (ads.2 ⟨x, hx, rfl⟩)
 ·rintro (h | h)
  ·exact .inl h
  ·obtain ⟨x, hx, rfl⟩ := ads.1 h;exact .inr ⟨x, hx, rfl⟩
theorem dA.same {w : World} {v : Value} {R R' : List Rr} (h : dA w v R) (hg : R'.map (·.g) = R.map (·.g)) : dA w v R' := by
 have hl : R'.length = R.length := by have := aec List.length hg; simpa using this
 obtain ⟨p, c, rfl, h1, h2, h3, h4⟩ := h;refine ⟨p, c, by rw [hl], by omega, h2, h3, fun h0 => ?_⟩;obtain ⟨g, o, rfl, hx⟩ := h4 (by omega);refine ⟨g, o, rfl, fun i x hi => ?_⟩;have Ix := (acL.1 hi).1;obtain ⟨z, hz⟩ : ∃ z, R[i]? = some z := ⟨_, acF (by omega)⟩
 have e : x.g = z.g := by
  have h5 : (R'.map (·.g))[i]? = (R.map (·.g))[i]? := by rw [hg]
  rw [adS, adS, hi, hz] at h5
  simpa using h5
 rw [hx i z hz];unfold Rr.v;rw [e]
theorem iY.O7 {w w' : World} {v : Value} {l : List Sp} {S : Nat → Prop} (h : iY w v l) (hc : ak w w' S) (hn : l = [] ∨ ∀ k, v.ownBlock = some k → ¬ S k) : iY w' v l := by
 obtain ⟨p, c, rfl, h1, h2, h3, h4⟩ := h;refine ⟨p, c, rfl, h1, h2, h3, fun h0 => ?_⟩;obtain ⟨g, o, rfl, hx⟩ := h4 h0;refine ⟨g, o, rfl, fun i x hi => ?_⟩;rcases hn with rfl | hn
 ·simp at hi
 ·intro j u hu;exact hc.cell (hx i x hi j u hu) (hn g rfl)
theorem Dl.add {w w' : World} {gx : Nat} {R : List Rr} {y : Rr} {L : List Sp} (h : Dl w gx R) (hr : bw kX R) (hy : y ∈ R) (hc : ak w w' fun k => k = y.g) (hf : nD (iy gx R) w' y.g y.t L) : Dl w' gx (aH kX R { y with L := L }) := by
 have hg := LK hr hy L;have hT : ∀ k, iy gx (aH kX R { y with L := L }) k ↔ iy gx R k := fun k => by rw [iy.iff, iy.iff, hg]
 have aN := h.ne y hy;obtain ⟨v, c0, aM, hv⟩ := h.c0;have hyT : iy gx R y.g := .inr ⟨y, hy, rfl⟩;refine ⟨⟨v, hc.cell c0 (fun e => aN e.symm), ?_, ?_⟩, ?_, fun x hx => ?_, ?_, fun x hx => ?_⟩
 ·refine (aM.aU hc (hv.imp id fun hv k hk e => hv k hk (e ▸ hyT))).same hg
 ·rcases hv with e | hv
  ·rw [e] at hy; cases hy
  ·exact .inr fun k hk hh => hv k hk ((hT k).1 hh)
 ·exact (adR (a := ⟨gx, 0, none⟩) (hc.block gx (lt_of_cell c0) (fun e => aN e.symm))).trans h.fr
 ·rcases (ew hr).1 hx with rfl | ⟨hx, hk⟩
  ·exact hf.weak fun k hk => (hT k).1 hk
  ·have aaS : x.g ≠ y.g := fun e => by
    have h1 : x = y := by
     have h2 := h.ids;obtain ⟨i, hi⟩ := List.getElem?_of_mem hx;obtain ⟨j, hj⟩ := List.getElem?_of_mem hy;obtain ⟨sy, Dn⟩ := acL.1 hi;obtain ⟨Tx, Vx⟩ := acL.1 hj;rcases Nat.lt_trichotomy i j with bd | heq | bd
     ·have := aen.1 h2 i j sy Tx bd;rw [Dn, Vx] at this;exact absurd e this
     ·subst heq;rw [hi] at hj;injection hj
     ·have := aen.1 h2 j i Tx sy bd;rw [Dn, Vx] at this;exact absurd e.symm this
    rw [h1] at hk;exact hk rfl
   obtain ⟨a0, a1, u, u1, u2, u3⟩ := h.fo x hx;have hb : w'.heap[x.g]? = w.heap[x.g]? := hc.block x.g (lt_of_cell a0) aaS;have hX : nD (iy gx R) w' x.g x.t x.L := ⟨(adi (a := ⟨x.g, 0, none⟩) hb).trans a0, (adR (a := ⟨x.g, 1, none⟩) hb).trans a1, u, (adi (a := ⟨x.g, 1, none⟩) hb).trans u1, u2.O7 hc (u3.imp id fun hh k hk e => hh k hk (e ▸ hyT)), u3⟩
   exact hX.weak fun k hk => (hT k).1 hk
 ·have := h.ids;rw [← List.pairwise_map (f := fun x : Rr => x.g) (R := fun a b => a ≠ b)] at this ⊢;rw [hg];exact this
 ·rcases (ew hr).1 hx with rfl | ⟨hx, _⟩
  ·exact aN
  ·exact h.ne x hx
structure nN (w w' : World) (gx : Nat) (R R' : List Rr) (S' : List Pl) : Prop where
 is : dx w' gx R'
 pl : R'.map Rr.pl = S'
 aU : ak w w' (iy gx R)
 new : ∀ k, iy gx R' k → iy gx R k ∨ w.heap.size ≤ k
theorem nN.below {w w' w2 : World} {gx : Nat} {R R' : List Rr} {S' : List Pl} (h : nN w w' gx R R' S') (hb : Below w'.heap.size w' w2) : nN w w2 gx R R' S' := ⟨h.is.below hb, h.pl, h.aU.cC hb, h.new⟩
def ey (w : World) (r : Nat) (c : Cn) : Prop := w.heap[r]? = some (.cells #[.int .i64 (c.add : Nat), .int .i64 (c.same : Nat), .int .i64 (c.other : Nat), .int .i64 (c.dw : Nat), .int .i64 (c.full : Nat)] 64 (0, 0))
theorem ey.ints {w : World} {r : Nat} {c : Cn} (h : ey w r c) {i : Nat} {u : Value} (hu : w.cell? ⟨r, i, none⟩ = some u) : ∃ z, u = .int .i64 z := by
 rw [acC w r i _ 64 (0, 0) h] at hu
 match i, hu with
 | 0, hu => exact ⟨_, by simpa using hu.symm⟩
 | 1, hu => exact ⟨_, by simpa using hu.symm⟩
 | 2, hu => exact ⟨_, by simpa using hu.symm⟩
 | 3, hu => exact ⟨_, by simpa using hu.symm⟩
 | 4, hu => exact ⟨_, by simpa using hu.symm⟩
 | n + 5, hu => simp at hu
theorem dx.ne5 {w : World} {gx : Nat} {R : List Rr} {r : Nat} {c : Cn} (h : dx w gx R) (hr : ey w r c) : ¬ iy gx R r := by
 rintro (rfl | ⟨x, hx, rfl⟩)
 ·obtain ⟨v, c0, ⟨p, d, rfl, _⟩, _⟩ := h.c0;obtain ⟨z, hz⟩ := hr.ints c0;cases hz
 ·obtain ⟨_, _, u, u1, u2, _⟩ := h.fo x hx;obtain ⟨p, n, d, rfl⟩ := u2.sl;obtain ⟨z, hz⟩ := hr.ints u1;cases hz
theorem dx.other {w w' : World} {gx : Nat} {R : List Rr} {r : Nat} {c : Cn} (h : dx w gx R) (hc : ak w w' fun k => k = r) (hr : ey w r c) : dx w' gx R := by
 have aN := h.ne5 hr;obtain ⟨v, c0, aM, Aq⟩ := h.c0;have wx : gx ≠ r := fun e => aN (.inl e.symm);refine ⟨⟨v, hc.cell c0 wx, aM.aU hc ?_, Aq⟩, (adR (a := ⟨gx, 0, none⟩) (hc.block gx (lt_of_cell c0) wx)).trans h.fr, h.ok, fun x hx => ?_, h.ids, h.ne⟩
 ·obtain ⟨p, d, rfl, _, _, _, nG⟩ := aM;by_cases h0 : R = []
  ·exact .inl h0
  ·refine .inr fun k hk e => ?_;obtain ⟨g, o, rfl, zq⟩ := nG (adP.2 h0);have Au : g = k := by injection hk
   have Vp : 0 < R.length := adP.2 h0;have h1 := zq 0 R[0] (acF Vp);obtain ⟨z, hz⟩ := hr.ints (show w.cell? ⟨r, o + 0, none⟩ = _ by rw [← e, ← Au]; exact h1);cases hz
 ·obtain ⟨a0, a1, u, u1, u2, u3⟩ := h.fo x hx;have Xc : x.g ≠ r := fun e => aN (.inr ⟨x, hx, e.symm⟩);have hb : w'.heap[x.g]? = w.heap[x.g]? := hc.block x.g (lt_of_cell a0) Xc;refine ⟨(adi (a := ⟨x.g, 0, none⟩) hb).trans a0, (adR (a := ⟨x.g, 1, none⟩) hb).trans a1, u, (adi (a := ⟨x.g, 1, none⟩) hb).trans u1, u2.O7 hc ?_, u3⟩;by_cases h0 : x.L = []
  ·exact .inl h0
  ·refine .inr fun k hk e => ?_;obtain ⟨p, n, d, rfl⟩ := u2.sl;have hl := u2.len.1;have hp : 0 < x.L.length := adP.2 h0;obtain ⟨g, o, rfl, Av⟩ := u2.at_ (by omega);have Au : g = k := by injection hk
   have h1 := (Av 0 x.L[0] (acF hp)).c5;obtain ⟨z, hz⟩ := hr.ints (show w.cell? ⟨r, _, none⟩ = _ by rw [← e, ← Au]; exact h1);cases hz
theorem nN.sets {w w' w2 : World} {gx : Nat} {R R' : List Rr} {S' : List Pl} {r : Nat} {c : Cn} (h : nN w w' gx R R' S') (hc : ak w' w2 fun k => k = r) (hr : ey w' r c) (hw : w.heap.size ≤ r) : nN w w2 gx R R' S' :=
 ⟨h.is.other hc hr, h.pl, h.aU.trans hc fun k e => .inr (by omega), h.new⟩
theorem tX {a b : Rr} (e : kX a = kX b) : ∀ R : List Rr, aH kX (aH kX R a) b = aH kX R b
 | [] => by
  rw [aH, aH, aH, acO (by omega), acW e.symm]
 | y :: r => by
  by_cases h1 : kX a < kX y
  ·rw [aH, acW h1, aH, acO (by omega), acW e.symm, aH, acW (by omega)]
  ·by_cases h2 : kX a = kX y
   ·rw [aH, acO h1, acW h2, aH, acO (by omega), acW e.symm, aH, acO (by omega), acW (by omega)]
   ·rw [aH, acO h1, acO h2, aH, acO (by omega), acO (by omega), tX e r, aH, acO (by omega), acO (by omega)]
theorem Dl.below {w w' : World} {gx : Nat} {R : List Rr} (h : Dl w gx R) (hb : Below w.heap.size w w') : Dl w' gx R := by
 obtain ⟨v, h1, h2, h3⟩ := h.c0;have hg : gx < w.heap.size := lt_of_cell h1;exact ⟨⟨v, (hb.cell (p := ⟨gx, 0, none⟩) hg).trans h1, h2.below hb, h3⟩, (hb.frozen (p := ⟨gx, 0, none⟩) hg).trans h.fr, fun x hx => (h.fo x hx).below hb, h.ids, h.ne⟩
theorem Dl.lt {w : World} {gx : Nat} {R : List Rr} (h : Dl w gx R) : ∀ k, iy gx R k → k < w.heap.size := by
 rintro k (rfl | ⟨x, hx, rfl⟩)
 ·obtain ⟨v, hv, _⟩ := h.c0;exact lt_of_cell hv
 ·exact lt_of_cell (h.fo x hx).c0
theorem add_one (t : Int) (L : List Sp) (x : Sp) (hx : x.ok = true) (ht : x.t = t) : wI t L [x] = .tuple #[iJ (bF L cQ x).2, .int .i64 0] ∧ wJ t L [x] = (bF L cQ x).1 := by
 have h : [x].all (fun y => y.ok && decide (y.t = t)) = true := by simp [hx, ht]
 unfold wI wJ;rw [acW h, acW h];exact ⟨rfl, rfl⟩
theorem EL {R : List Rr} (hr : bw kX R) {y : Rr} (hy : y ∈ R) {x : Sp} (ht : x.t = y.t) : cW (R.map Rr.pl) x = ((aH kX R { y with L := (bF y.L cQ x).1 }).map Rr.pl, (bF y.L cQ x).2) := by
 have hf : bj kP (R.map Rr.pl) x.t = some y.pl := by
  rw [ht];exact gR ((ef Rr.pl xM).2 hr).ids (ads.2 ⟨y, hy, rfl⟩)
 unfold cW;rw [hf];dsimp only;rw [fP Rr.pl xM, ht];rfl
theorem I0 {R : List Rr} {x : Sp} (fI : ∀ z ∈ R, z.t ≠ x.t) (hl : ¬ 32 ≤ R.length) (g : Nat) : cW (R.map Rr.pl) x = ((aH kX (aH kX R ⟨x.t, g, []⟩) ⟨x.t, g, (bF [] cQ x).1⟩).map Rr.pl, (bF [] cQ x).2) := by
 have hf : bj kP (R.map Rr.pl) x.t = none := by
  rw [kA];intro y hy;obtain ⟨z, hz, rfl⟩ := ads.1 hy;exact fI z hz
 unfold cW;rw [hf];dsimp only;rw [adv, acO hl, tX (a := ⟨x.t, g, []⟩) (b := ⟨x.t, g, (bF [] cQ x).1⟩) rfl, fP Rr.pl xM];rfl
theorem O8 {R : List Rr} {x : Sp} (fI : ∀ z ∈ R, z.t ≠ x.t) (hl : 32 ≤ R.length) : cW (R.map Rr.pl) x = (R.map Rr.pl, ⟨0, 0, 0, 0, 1⟩) := by
 have hf : bj kP (R.map Rr.pl) x.t = none := by
  rw [kA];intro y hy;obtain ⟨z, hz, rfl⟩ := ads.1 hy;exact fI z hz
 unfold cW;rw [hf];dsimp only;rw [adv, acW hl]
theorem nN.added {w U w8 : World} {gx : Nat} {R R1 : List Rr} {y : Rr} {x : Sp} {S6 : List Pl} (hM : Dl U gx R1) (zE : bw kX R1) (hy : y ∈ R1) (hf : nD (iy gx R1) w8 y.g y.t (bF y.L cQ x).1) (hc : ak U w8 fun k => k = y.g) (hU : ak w U (iy gx R)) (bg : ∀ k, iy gx R1 k → iy gx R k ∨ w.heap.size ≤ k)
  (Hz : (aH kX R1 { y with L := (bF y.L cQ x).1 }).map Rr.pl = S6) (aT : fB S6) : nN w w8 gx R (aH kX R1 { y with L := (bF y.L cQ x).1 }) S6 := by
 refine ⟨(hM.add zE hy hc hf).is (by rw [Hz]; exact aT), Hz, hU.trans hc fun k e => ?_, fun k hk => ?_⟩
 ·rw [e]; exact bg _ (.inr ⟨y, hy, rfl⟩)
 ·refine bg k ?_;rw [iy.iff] at hk ⊢;rw [LK zE hy] at hk;exact hk
theorem BW {w : World} {gx : Nat} {R : List Rr} {l : List Sp} {v : Value} (h : dx w gx R) (hv : iY w v l) (WH : l = [] ∨ ∀ k, v.ownBlock = some k → ¬ iy gx R k) (hl : l.length ≤ 100000) (im : ∀ x ∈ l, x.n.size ≤ 1100000) :
  Calls prog 81 #[.pointer (some ⟨gx, 0, none⟩), v] w fun e w' => e = .returned (.tuple #[iJ (nF (R.map Rr.pl) l), .int .i64 (Eg l)]) ∧ ∃ R', nN w w' gx R R' (iH (R.map Rr.pl) l) := by
 obtain ⟨p, n, c, rfl⟩ := hv.sl;have hn := hv.len.1;have zy : n ≤ 100000 := by omega
 obtain ⟨X, hX⟩ : ∃ X, (w.alloc (.cells #[.int .i64 0, .int .i64 0, .int .i64 0, .int .i64 0, .int .i64 0] 64)).alloc (.cells #[.int .i64 0, .int .i64 0, .int .i64 0, .int .i64 0, .int .i64 0] 64) = X := ⟨_, rfl⟩
 have aK : Below w.heap.size w X := by rw [← hX]; exact ((acG w.heap.size w).alloc (acE _) _).alloc (by simp) _
 have BX : X.heap[w.heap.size]? = some (.cells #[.int .i64 0, .int .i64 0, .int .i64 0, .int .i64 0, .int .i64 0] 64 (0, 0)) := by rw [← hX, aeN _ _ (by simp)]; exact acQ _ _
 have eO : X.heap[w.heap.size + 1]? = some (.cells #[.int .i64 0, .int .i64 0, .int .i64 0, .int .i64 0, .int .i64 0] 64 (0, 0)) := by
  rw [← hX];have h9 := acQ (w.alloc (.cells #[.int .i64 0, .int .i64 0, .int .i64 0, .int .i64 0, .int .i64 0] 64)) (.cells #[.int .i64 0, .int .i64 0, .int .i64 0, .int .i64 0, .int .i64 0] 64)
  simpa using h9
 have BN : X.heap.size = w.heap.size + 2 := by rw [← hX]; simp
 have HV := af (acD hv WH);have HN := af hn;have Dc := af im;have HF := af h;have HX := af (acD aK (acD BX (acD eO BN)));clear hv WH hn im h aK BX eO BN hl;go_enter func81, ntmps81
 have cX0 := acC X (w.heap.size + 1) 0 _ 64 (0, 0) HX.out.2.2.1;have cX1 := acC X (w.heap.size + 1) 1 _ 64 (0, 0) HX.out.2.2.1;have cX2 := acC X (w.heap.size + 1) 2 _ 64 (0, 0) HX.out.2.2.1;have cX3 := acC X (w.heap.size + 1) 3 _ 64 (0, 0) HX.out.2.2.1;have cX4 := acC X (w.heap.size + 1) 4 _ 64 (0, 0) HX.out.2.2.1;have fX0 := acI X (w.heap.size + 1) 0 _ 64 HX.out.2.2.1;have fX1 := acI X (w.heap.size + 1) 1 _ 64 HX.out.2.2.1;have fX2 := acI X (w.heap.size + 1) 2 _ 64 HX.out.2.2.1;have fX3 := acI X (w.heap.size + 1) 3 _ 64 HX.out.2.2.1;have fX4 := acI X (w.heap.size + 1) 4 _ 64 HX.out.2.2.1;go_upto_region 2 with fail
 clear cX0 cX1 cX2 cX3 cX4 fX0 fX1 fX2 fX3 fX4 hX;obtain ⟨Y, hY⟩ : ∃ Y, ((((X.setCell ⟨w.heap.size + 1, 0, none⟩ (.int .i64 0)).setCell ⟨w.heap.size + 1, 1, none⟩ (.int .i64 0)).setCell ⟨w.heap.size + 1, 2, none⟩ (.int .i64 0)).setCell ⟨w.heap.size + 1, 3, none⟩ (.int .i64 0)).setCell ⟨w.heap.size + 1, 4, none⟩ (.int .i64 0) = Y := ⟨_, rfl⟩
 have lN : Y.heap[w.heap.size + 1]? = some (.cells #[.int .i64 0, .int .i64 0, .int .i64 0, .int .i64 0, .int .i64 0] 64 (0, 0)) := by rw [← hY]; exact dq HX.out.2.2.1 (.int .i64 0) (.int .i64 0) (.int .i64 0) (.int .i64 0) (.int .i64 0)
 have df : ak X Y fun k => k = w.heap.size + 1 := by rw [← hY]; exact bN (ak.refl X (fun k => k = w.heap.size + 1)) (.inl rfl) (.int .i64 0) (.int .i64 0) (.int .i64 0) (.int .i64 0) (.int .i64 0)
 rw [hY];have HY := af (acD (ak.aZ HX.out.1 df (fun k e => by omega)) (acD ((df.block w.heap.size (by have := HX.out.2.2.2; omega) (by omega)).trans HX.out.2.1) (acD lN (show w.heap.size + 2 ≤ Y.heap.size by have := HX.out.2.2.2; have := df.size; omega))));clear hY lN df HX;go_wp2_with fail
 go_loopw [5, 8, 17] (fun _ _ ix wr => ∃ k : Nat, k ≤ n ∧ ix = .int .i64 k ∧ Hid (Below Y.heap.size Y wr ∧ (l.take k).all Sp.ok = true)) (fun _ _ ix _ => n - (intOf ix).toNat)
 case atStart => exact ⟨0, by omega, rfl, af ⟨acG _ _, rfl⟩⟩
 case round =>
  obtain ⟨k, hk, rfl, HR⟩ := hrel;by_cases bd : (k : Int) < (n : Int)
  ·obtain ⟨gv, ov, rfl, hx⟩ := HV.out.1.at_ (by omega);obtain ⟨x, dC⟩ : ∃ x, l[k]? = some x := ⟨_, acF (by have := HN.out; omega)⟩
   have jJ : Below w.heap.size w wr := HY.out.1.trans (HR.out.1.mono HY.out.1.size);have aG := (hx k x dC).below jJ;obtain ⟨oo, iu⟩ : ∃ oo, ov + k * 6 = oo := ⟨_, rfl⟩
   rw [iu] at aG;have z0 := aG.c0;have z1 := aG.c1;have z2 := aG.c2;have z3 := aG.c3;have z4 := aG.c4;have z5 := aG.c5;have jC := af (lp x (Dc.out x (acS dC)));have fF : Below wr.heap.size wr (wr.alloc (.cells #[.int .i64 x.t, .int .i64 x.i, .int .i64 x.p, .int .i64 x.s, .int .i64 x.e, .string x.n] 30)) := (acG _ _).alloc (acE _) _;have vl := af dC;have eI := af (HR.out.1.trans (fF.mono HR.out.1.size));clear hx dC aG fF jJ;obtain ⟨t, i, p', s, en, nm⟩ := x;dsimp only at *;unfold dZ at *;dsimp only at *;go_wp2_with fail
   refine (jC.out _).mono ?_;rintro e7 w7 ⟨rfl, cZ⟩;have lQ : Hid (Below Y.heap.size Y w7) := af (eI.out.trans (cZ.mono eI.out.size));clear cZ jC;by_cases aT : Sp.ok ⟨t, i, p', s, en, nm⟩ = true
   ·rw [acW aT];have fh := af aT;clear aT;go_wp2;go_roundw;case rel =>
     refine ⟨k + 1, by omega, by go_num, af ⟨lQ.out, ?_⟩⟩;have h1 : l.take (k + 1) = l.take k ++ [⟨t, i, p', s, en, nm⟩] := by rw [ac5, vl.out]; rfl
     rw [h1, aeR, HR.out.2];simp only [aeI, List.all_nil, Bool.and_true, adY];exact fh.out
    case measure => simp [intOf]; omega
   ·have lq : Hid (¬ l.all Sp.ok = true) := af (fun cO => aT (adl.1 cO _ (acS vl.out)));rw [acO aT];clear aT;have qy : Below w.heap.size w w7 := HY.out.1.trans (lQ.out.mono HY.out.1.size);have o_ : w7.heap[w.heap.size]? = some (.cells #[.int .i64 0, .int .i64 0, .int .i64 0, .int .i64 0, .int .i64 0] 64 (0, 0)) := (lQ.out.block w.heap.size (by have := HY.out.2.2.2; omega)).trans HY.out.2.1;have om : w7.heap[w.heap.size + 1]? = some (.cells #[.int .i64 0, .int .i64 0, .int .i64 0, .int .i64 0, .int .i64 0] 64 (0, 0)) := (lQ.out.block (w.heap.size + 1) (by have := HY.out.2.2.2; omega)).trans HY.out.2.2.1;have Vy := acC w7 w.heap.size 0 _ 64 (0, 0) o_;have Vz := acC w7 w.heap.size 1 _ 64 (0, 0) o_;have VA := acC w7 w.heap.size 2 _ 64 (0, 0) o_;have VC := acC w7 w.heap.size 3 _ 64 (0, 0) o_;have VD := acC w7 w.heap.size 4 _ 64 (0, 0) o_;have Z2 := acI w7 w.heap.size 0 _ 64 o_;have Z3 := acI w7 w.heap.size 1 _ 64 o_;have Ra := acI w7 w.heap.size 2 _ 64 o_;have Z4 := acI w7 w.heap.size 3 _ 64 o_;have Z5 := acI w7 w.heap.size 4 _ 64 o_;have acf := acC w7 (w.heap.size + 1) 0 _ 64 (0, 0) om;have acg := acC w7 (w.heap.size + 1) 1 _ 64 (0, 0) om;have ach := acC w7 (w.heap.size + 1) 2 _ 64 (0, 0) om;have aci := acC w7 (w.heap.size + 1) 3 _ 64 (0, 0) om;have acj := acC w7 (w.heap.size + 1) 4 _ 64 (0, 0) om;have nh := af o_;have wK := af qy;clear o_ om qy;go_wp2;refine ac0 (v := .tuple #[iJ cQ, .int .i64 30]) (by
     have q5 := dq nh.out (.int .i64 0) (.int .i64 0) (.int .i64 0) (.int .i64 0) (.int .i64 0);generalize (((((w7.setCell ⟨w.heap.size, 0, none⟩ (.int .i64 0)).setCell ⟨w.heap.size, 1, none⟩ (.int .i64 0)).setCell ⟨w.heap.size, 2, none⟩ (.int .i64 0)).setCell ⟨w.heap.size, 3, none⟩ (.int .i64 0)).setCell ⟨w.heap.size, 4, none⟩ (.int .i64 0)) = W9 at q5 ⊢;have m0 := acC W9 w.heap.size 0 _ 64 (0, 0) q5;have m1 := acC W9 w.heap.size 1 _ 64 (0, 0) q5;have m2 := acC W9 w.heap.size 2 _ 64 (0, 0) q5;have m3 := acC W9 w.heap.size 3 _ 64 (0, 0) q5;have m4 := acC W9 w.heap.size 4 _ 64 (0, 0) q5;have kQ : w.heap.size < W9.heap.size := by have := (acJ.1 q5).1; exact this
     clear q5;unfold iJ;simp at m0 m1 m2 m3 m4;simp [results, results81, go_sem, m0, m1, m2, m3, m4, kQ, cQ]) rfl ⟨by unfold nF Eg; rw [acO lq.out, acO lq.out], R, ?_⟩
    have lO := bN (ak.refl w7 (fun k => k = w.heap.size)) (.inl rfl) (.int .i64 0) (.int .i64 0) (.int .i64 0) (.int .i64 0) (.int .i64 0);rw [iH, acO lq.out];have eZ : nN w w7 gx R R (R.map Rr.pl) := ⟨HF.out.below wK.out, rfl, ak.of_below wK.out _, fun k hk => .inl hk⟩
    exact eZ.sets (c := cQ) lO nh.out (acE _)
  ·have EJ : k = n := by omega
   subst EJ;have cO : l.all Sp.ok = true := by
    have := HR.out.2
    rwa [acY (by have := HN.out; omega)] at this
   have BO : Below w.heap.size w wr := HY.out.1.trans (HR.out.1.mono HY.out.1.size);have Vs : ey wr w.heap.size cQ := (HR.out.1.block w.heap.size (by have := HY.out.2.2.2; omega)).trans HY.out.2.1;have h01 : ey wr (w.heap.size + 1) cQ := (HR.out.1.block (w.heap.size + 1) (by have := HY.out.2.2.2; omega)).trans HY.out.2.2.1;have H0 : Hid (∃ R', nN w wr gx R R' (puts (R.map Rr.pl) (l.take 0)).1 ∧ ey wr (w.heap.size + 1) (puts (R.map Rr.pl) (l.take 0)).2 ∧ ey wr w.heap.size cQ) := af ⟨R, ⟨HF.out.below BO, rfl, ak.of_below BO _, fun k hk => .inl hk⟩, h01, Vs⟩;have lu := af cO;clear cO BO Vs h01 HR;go_wp2_with fail
   go_loopw [10, 11, 12, 13, 28] (fun _ _ _ _ ix wz => ∃ j : Nat, j ≤ k ∧ ix = .int .i64 j ∧ Hid (∃ R', nN w wz gx R R' (puts (R.map Rr.pl) (l.take j)).1 ∧ ey wz (w.heap.size + 1) (puts (R.map Rr.pl) (l.take j)).2 ∧ ey wz w.heap.size cQ)) (fun _ _ _ _ ix _ => k - (intOf ix).toNat)
   case atStart => exact ⟨0, by omega, rfl, H0⟩
   case round =>
    obtain ⟨j, hj, rfl, HQ⟩ := hrel;obtain ⟨R', eZ, lw, nQ⟩ := HQ.out;by_cases oq : (j : Int) < (k : Int)
    ·obtain ⟨gv, ov, rfl, hx⟩ := (HV.out.1.O7 eZ.aU HV.out.2).at_ (by omega);obtain ⟨x, dC⟩ : ∃ x, l[j]? = some x := ⟨_, acF (by have := HN.out; omega)⟩
     have aG := hx j x dC;obtain ⟨oo, iu⟩ : ∃ oo, ov + j * 6 = oo := ⟨_, rfl⟩
     rw [iu] at aG;have z0 := aG.c0;have z1 := aG.c1;have z2 := aG.c2;have z3 := aG.c3;have z4 := aG.c4;have z5 := aG.c5;have iB : Hid (l.take (j + 1) = l.take j ++ [x]) := af (by rw [ac5, dC]; rfl);have j_ : (puts (R.map Rr.pl) (l.take j)).2.sum ≤ 1100000 := by
      rw [tY, ac6];omega
     obtain ⟨C, hC⟩ : ∃ C, (puts (R.map Rr.pl) (l.take j)).2 = C := ⟨_, rfl⟩
     obtain ⟨S, hS⟩ : ∃ S, (puts (R.map Rr.pl) (l.take j)).1 = S := ⟨_, rfl⟩
     rw [hC] at j_ lw;rw [hS] at eZ;have XM : fB S := by rw [← eZ.pl]; exact eZ.is.ok
     obtain ⟨C1, VF⟩ : ∃ C1, (cW S x).2 = C1 := ⟨_, rfl⟩
     have VG := af (acD hS hC);have Re := af (acD XM (acD eZ.pl j_));have Rf := af (acD (Dc.out x (acS dC)) (adl.1 lu.out x (acS dC)));obtain ⟨Z, hZ⟩ : ∃ Z, wr.alloc (.cells #[.int .i64 x.t, .int .i64 x.i, .int .i64 x.p, .int .i64 x.s, .int .i64 x.e, .string x.n] 30) = Z := ⟨_, rfl⟩
     obtain ⟨bz, vu⟩ : ∃ b, wr.heap.size = b := ⟨_, rfl⟩
     have bg := az wr x;have EM : Below wr.heap.size wr Z := by rw [← hZ]; exact (acG _ _).alloc (acE _) _
     rw [hZ, vu] at bg;obtain ⟨y0, y1, y2, y3, y4, y5⟩ := bg.z;have mS := af (acD (eZ.below EM) (acD ((EM.block (w.heap.size + 1) (acJ.1 lw).1).trans lw) (acD ((EM.block w.heap.size (acJ.1 nQ).1).trans nQ) bg)));have J8 := af (rD (eZ.is.below EM) x.t);have Sy := af (show bz ≠ gx from by rw [← vu]; have := eZ.is.lt gx (.inl rfl); omega);have rW := af VF;clear hx dC aG j_ hC hS eZ lw nQ XM bg EM VF;obtain ⟨t, i, p', s, en, nm⟩ := x;dsimp only at *;go_upto_region 11 with fail
     clear hZ vu;go_wp2_with fail
     refine J8.out.mono ?_;rintro e5 w5 ⟨rfl, aL⟩;obtain ⟨d0, d1, d2, d3, d4, d5⟩ := (mS.out.2.2.2.below aL).z;dsimp only at d0 d1 d2 d3 d4 d5;have HD5 := af (mS.out.2.2.2.below aL);have H5 := af (acD (mS.out.1.below aL) (acD ((aL.block (w.heap.size + 1) (acJ.1 mS.out.2.1).1).trans mS.out.2.1) ((aL.block w.heap.size (acJ.1 mS.out.2.2.1).1).trans mS.out.2.2.1)));clear aL J8 y0 y1 y2 y3 y4 y5 z0 z1 z2 z3 z4 z5;cases hf : R'.find? fun y => y.t == t with
     | some y =>
      rw [show tP R' t = .pointer (some ⟨y.g, 0, none⟩) by unfold tP; rw [hf]; rfl];have Q_ := aeG hf;have NJ : t = y.t := by have := List.find?_some hf; simp at this; exact this.symm
      have zE : bw kX R' := (ef Rr.pl xM).1 H5.out.1.is.ok.rises;have I3 := EL zE Q_ (x := (⟨t, i, p', s, en, nm⟩ : Sp)) NJ;rw [Re.out.2.1] at I3;have TD : ∀ r c, ey w5 r c → r ≠ y.g := fun r c hr e => H5.out.1.is.ne5 hr (.inr ⟨y, Q_, e⟩);obtain ⟨R1, TE⟩ : ∃ R1, R1 = R' := ⟨_, rfl⟩
      obtain ⟨y1, LL⟩ : ∃ y1, y1 = y := ⟨_, rfl⟩
      obtain ⟨U0, TF⟩ : ∃ U0, U0 = w5 := ⟨_, rfl⟩
      have HM : Hid (Dl U0 gx R1 ∧ y1 ∈ R1 ∧ dT y1.t y1.L ∧ t = y1.t ∧ (bF y1.L cQ (⟨t, i, p', s, en, nm⟩ : Sp)).2 = C1 ∧ bw kX R1 ∧ (aH kX R1 { y1 with L := (bF y1.L cQ (⟨t, i, p', s, en, nm⟩ : Sp)).1 }).map Rr.pl = (cW S (⟨t, i, p', s, en, nm⟩ : Sp)).1 ∧ ak w U0 (iy gx R) ∧ (∀ k, iy gx R1 k → iy gx R k ∨ w.heap.size ≤ k) ∧ ey U0 (w.heap.size + 1) C ∧ ey U0 w.heap.size cQ ∧ w.heap.size + 1 ≠ y1.g ∧ w.heap.size ≠ y1.g) := af (by
       subst TE LL TF;exact ⟨H5.out.1.is.mem, Q_, (H5.out.1.is.ok.ok _ (ads.2 ⟨_, Q_, rfl⟩)).1, NJ, by rw [← rW.out, I3], zE, by rw [I3], H5.out.1.aU, H5.out.1.new, H5.out.2.1, H5.out.2.2, TD _ _ H5.out.2.1, TD _ _ H5.out.2.2⟩)
      clear Q_ NJ zE I3 TD hf;rw [← LL];rw [← TF] at d0 d1 d2 d3 d4 d5 ⊢;clear TE LL TF H5;have O9 : Below U0.heap.size U0 (U0.alloc (.cells #[.int .i64 t, .int .i64 i, .int .i64 p', .int .i64 s, .int .i64 en, .string nm] 30)) := (acG _ _).alloc (acE _) _;have TG := HM.out.1.below O9;have EN := HM.out.1.lt;have AD := af (rE (T := iy gx R1) (TG.fo y1 HM.out.2.1) (.inr ⟨y1, HM.out.2.1, rfl⟩) (fun k hk => acV (EN k hk) O9.size) HM.out.2.2.1 (gN (az U0 ⟨t, i, p', s, en, nm⟩)) (by simp) (fun z hz => by simp at hz; rw [hz]; exact Rf.out.1) (.inr (fun e => by
       have h1 := EN y1.g (.inr ⟨y1, HM.out.2.1, rfl⟩);have h2 : U0.heap.size = y1.g := by injection e
       omega)))
      rw [(add_one y1.t y1.L ⟨t, i, p', s, en, nm⟩ Rf.out.2 HM.out.2.2.2.1).1, (add_one y1.t y1.L ⟨t, i, p', s, en, nm⟩ Rf.out.2 HM.out.2.2.2.1).2, HM.out.2.2.2.2.1] at AD;have HU := af (acD O9 TG);clear O9 TG EN;have LM : Hid (∀ V, Calls prog 117 #[.agg #[.int .i64 (C.add : Nat), .int .i64 (C.same : Nat), .int .i64 (C.other : Nat), .int .i64 (C.dw : Nat), .int .i64 (C.full : Nat)], .agg #[.int .i64 (C1.add : Nat), .int .i64 (C1.same : Nat), .int .i64 (C1.other : Nat), .int .i64 (C1.dw : Nat), .int .i64 (C1.full : Nat)]] V fun e w' => e = .returned (iJ (C.plus C1)) ∧ Below V.heap.size V w') := af fun V => tZ V C C1 Re.out.2.2 (by rw [← rW.out, pB]; omega);go_wp2_with fail
      refine AD.out.mono ?_;rintro e8 w8 ⟨rfl, XO, Ka⟩;have qE := HM.out.2.2.2.2.2;have ti : Hid ((∃ R6, nN w w8 gx R R6 (cW S (⟨t, i, p', s, en, nm⟩ : Sp)).1) ∧ ey w8 (w.heap.size + 1) C ∧ ey w8 w.heap.size cQ) := af ⟨⟨_, nN.added HU.out.2 qE.1 HM.out.2.1 XO Ka (qE.2.2.1.cC HU.out.1) qE.2.2.2.1 qE.2.1 (sK Re.out.1 Rf.out.2)⟩,
       (Ka.block (w.heap.size + 1) (acV (acJ.1 qE.2.2.2.2.1).1 HU.out.1.size) qE.2.2.2.2.2.2.1).trans ((HU.out.1.block (w.heap.size + 1) (acJ.1 qE.2.2.2.2.1).1).trans qE.2.2.2.2.1),
       (Ka.block w.heap.size (acV (acJ.1 qE.2.2.2.2.2.1).1 HU.out.1.size) qE.2.2.2.2.2.2.2).trans ((HU.out.1.block w.heap.size (acJ.1 qE.2.2.2.2.2.1).1).trans qE.2.2.2.2.2.1)⟩
      obtain ⟨⟨R6, LN⟩, LO⟩ := ti.out;clear ti;have ti := af (acD LN LO);clear XO Ka qE LN LO AD;unfold iJ;obtain ⟨V, hV⟩ : ∃ V, w8.alloc (.cells #[.int .i64 (C1.add : Nat), .int .i64 (C1.same : Nat), .int .i64 (C1.other : Nat), .int .i64 (C1.dw : Nat), .int .i64 (C1.full : Nat)] 64) = V := ⟨_, rfl⟩
      obtain ⟨bv, OI⟩ : ∃ b, w8.heap.size = b := ⟨_, rfl⟩
      have J5 : Below w8.heap.size w8 V := by rw [← hV]; exact (acG _ _).alloc (acE _) _
      have I4 : ey V bv C1 := by rw [← hV, ← OI]; exact acQ _ _
      have BZ : ey V (w.heap.size + 1) C := (J5.block (w.heap.size + 1) (acJ.1 ti.out.2.1).1).trans ti.out.2.1;have BX : ey V w.heap.size cQ := (J5.block w.heap.size (acJ.1 ti.out.2.2).1).trans ti.out.2.2;have LP := af (acD (ti.out.1.below J5) (acD BZ BX));have sn0 : V.cell? ⟨(w.heap.size + 1), 0, none⟩ = some (.int .i64 (C.add : Nat)) := by have h := acC V (w.heap.size + 1) 0 _ 64 (0, 0) (BZ); simpa using h
      have sn1 : V.cell? ⟨(w.heap.size + 1), 1, none⟩ = some (.int .i64 (C.same : Nat)) := by have h := acC V (w.heap.size + 1) 1 _ 64 (0, 0) (BZ); simpa using h
      have sn2 : V.cell? ⟨(w.heap.size + 1), 2, none⟩ = some (.int .i64 (C.other : Nat)) := by have h := acC V (w.heap.size + 1) 2 _ 64 (0, 0) (BZ); simpa using h
      have sn3 : V.cell? ⟨(w.heap.size + 1), 3, none⟩ = some (.int .i64 (C.dw : Nat)) := by have h := acC V (w.heap.size + 1) 3 _ 64 (0, 0) (BZ); simpa using h
      have sn4 : V.cell? ⟨(w.heap.size + 1), 4, none⟩ = some (.int .i64 (C.full : Nat)) := by have h := acC V (w.heap.size + 1) 4 _ 64 (0, 0) (BZ); simpa using h
      have sv0 : V.cell? ⟨bv, 0, none⟩ = some (.int .i64 (C1.add : Nat)) := by have h := acC V bv 0 _ 64 (0, 0) (I4); simpa using h
      have sv1 : V.cell? ⟨bv, 1, none⟩ = some (.int .i64 (C1.same : Nat)) := by have h := acC V bv 1 _ 64 (0, 0) (I4); simpa using h
      have sv2 : V.cell? ⟨bv, 2, none⟩ = some (.int .i64 (C1.other : Nat)) := by have h := acC V bv 2 _ 64 (0, 0) (I4); simpa using h
      have sv3 : V.cell? ⟨bv, 3, none⟩ = some (.int .i64 (C1.dw : Nat)) := by have h := acC V bv 3 _ 64 (0, 0) (I4); simpa using h
      have sv4 : V.cell? ⟨bv, 4, none⟩ = some (.int .i64 (C1.full : Nat)) := by have h := acC V bv 4 _ 64 (0, 0) (I4); simpa using h
      clear I4 BZ BX J5;go_upto_region 17 with fail
      clear hV OI;go_wp2_with fail
      refine (LM.out _).mono ?_;rintro e9 w9 ⟨rfl, eW⟩;have iz : ey w9 (w.heap.size + 1) C := (eW.block (w.heap.size + 1) (acJ.1 LP.out.2.1).1).trans LP.out.2.1;have LQ : ey w9 w.heap.size cQ := (eW.block w.heap.size (acJ.1 LP.out.2.2).1).trans LP.out.2.2;have Bl := af (acD (LP.out.1.below eW) (acD iz LQ));have BP : w9.cell? ⟨(w.heap.size + 1), 0, none⟩ = some (.int .i64 (C.add : Nat)) := by have h := acC w9 (w.heap.size + 1) 0 _ 64 (0, 0) (iz); simpa using h
      have sp1 : w9.cell? ⟨(w.heap.size + 1), 1, none⟩ = some (.int .i64 (C.same : Nat)) := by have h := acC w9 (w.heap.size + 1) 1 _ 64 (0, 0) (iz); simpa using h
      have sp2 : w9.cell? ⟨(w.heap.size + 1), 2, none⟩ = some (.int .i64 (C.other : Nat)) := by have h := acC w9 (w.heap.size + 1) 2 _ 64 (0, 0) (iz); simpa using h
      have sp3 : w9.cell? ⟨(w.heap.size + 1), 3, none⟩ = some (.int .i64 (C.dw : Nat)) := by have h := acC w9 (w.heap.size + 1) 3 _ 64 (0, 0) (iz); simpa using h
      have sp4 : w9.cell? ⟨(w.heap.size + 1), 4, none⟩ = some (.int .i64 (C.full : Nat)) := by have h := acC w9 (w.heap.size + 1) 4 _ 64 (0, 0) (iz); simpa using h
      have sf0 := acI w9 (w.heap.size + 1) 0 _ 64 (iz);have sf1 := acI w9 (w.heap.size + 1) 1 _ 64 (iz);have sf2 := acI w9 (w.heap.size + 1) 2 _ 64 (iz);have sf3 := acI w9 (w.heap.size + 1) 3 _ 64 (iz);have sf4 := acI w9 (w.heap.size + 1) 4 _ 64 (iz);clear iz LQ eW;unfold iJ Cn.plus;dsimp only;go_wp2;have lC := dq Bl.out.2.1 (.int .i64 ((C.plus C1).add : Nat)) (.int .i64 ((C.plus C1).same : Nat)) (.int .i64 ((C.plus C1).other : Nat)) (.int .i64 ((C.plus C1).dw : Nat)) (.int .i64 ((C.plus C1).full : Nat));have lA := bN (ak.refl w9 (fun k => k = w.heap.size + 1)) (.inl rfl) (.int .i64 ((C.plus C1).add : Nat)) (.int .i64 ((C.plus C1).same : Nat)) (.int .i64 ((C.plus C1).other : Nat)) (.int .i64 ((C.plus C1).dw : Nat)) (.int .i64 ((C.plus C1).full : Nat));simp only [Cn.plus, aeS] at lC lA;go_roundw;case rel =>
       refine ⟨j + 1, by omega, by go_num, af ?_⟩;rw [iB.out, kC, VG.out.1, VG.out.2];refine ⟨_, Bl.out.1.sets lA Bl.out.2.1 (by omega), ?_, (lA.block w.heap.size (acJ.1 Bl.out.2.2).1 (by omega)).trans Bl.out.2.2⟩;dsimp only;rw [rW.out];unfold ey Cn.plus;simp only [aeS];exact lC
      case measure => simp [intOf]; omega
     | none =>
      rw [show tP R' t = .pointer none by unfold tP; rw [hf]; rfl];have fI : ∀ z ∈ R', z.t ≠ t := fun z hz => by
       have := aeP.1 hf z hz
       simpa using this
      obtain ⟨vx, c0x, ⟨px, cx, rfl, _, _, _, _⟩, _⟩ := H5.out.1.is.c0;by_cases hl : R'.length = 32
      ·have I3 := O8 (x := (⟨t, i, p', s, en, nm⟩ : Sp)) fI (by omega);rw [Re.out.2.1] at I3;rw [hl] at c0x;have oY := H5.out.2.1;have s4 : w5.cell? ⟨w.heap.size + 1, 4, none⟩ = some (.int .i64 (C.full : Nat)) := by have h := acC w5 (w.heap.size + 1) 4 _ 64 (0, 0) oY; simpa using h
       have f4 := acI w5 (w.heap.size + 1) 4 _ 64 oY;have hfb : (C.full : Int) ≤ 1100000 := by have := Re.out.2.2; unfold Cn.sum at this; omega
       have HP1 := af I3;clear hf fI I3 oY hl;go_wp2;have GL := acK w5 (w.heap.size + 1) 4 _ 64 (.int .i64 ((C.full : Int) + 1)) H5.out.2.1;have hcs : ak w5 (w5.setCell ⟨w.heap.size + 1, 4, none⟩ (.int .i64 ((C.full : Int) + 1))) fun k => k = w.heap.size + 1 := (ak.refl w5 _).set _ (.inl rfl);go_roundw;case rel =>
        refine ⟨j + 1, by omega, by go_num, af ?_⟩;rw [iB.out, kC, VG.out.1, VG.out.2, HP1.out];refine ⟨_, H5.out.1.sets hcs H5.out.2.1 (by omega), ?_, (hcs.block w.heap.size (acJ.1 H5.out.2.2).1 (by omega)).trans H5.out.2.2⟩;unfold ey Cn.plus
        simpa using GL
       case measure => simp [intOf]; omega
      ·have XP : ((R'.length : Int) == 32) = false := by simp; omega
       have AV := af (IV H5.out.1.is t fI);have Rh : bw kX R' := (ef Rr.pl xM).1 H5.out.1.is.ok.rises;have BL : R'.length ≤ 32 := by have := H5.out.1.is.ok.len; simpa using this
       have lB := af (acD fI (acD Rh (show ¬ 32 ≤ R'.length by omega)));clear hf fI Rh;go_wp2_with fail
       refine AV.out.mono ?_;rintro e6 w6 ⟨gf, rfl, Vv, hm6, yX⟩;have TH : ∀ r c, ey w5 r c → r ≠ gx := fun r c hr e => H5.out.1.is.ne5 hr (.inl e);have XQ : cj w6 bz 0 (⟨t, i, p', s, en, nm⟩ : Sp) := fun i u hu => yX.cell (HD5.out i u hu) Sy.out;clear d0 d1 d2 d3 d4 d5 c0x hl XP AV;obtain ⟨d0, d1, d2, d3, d4, d5⟩ := XQ.z;dsimp only at d0 d1 d2 d3 d4 d5;have I3 := I0 (x := (⟨t, i, p', s, en, nm⟩ : Sp)) lB.out.1 lB.out.2.2 gf;rw [Re.out.2.1] at I3;obtain ⟨y1, LL⟩ : ∃ y1 : Rr, y1 = ⟨t, gf, []⟩ := ⟨_, rfl⟩
       obtain ⟨R1, TE⟩ : ∃ R1, R1 = aH kX R' ⟨t, gf, []⟩ := ⟨_, rfl⟩
       obtain ⟨U0, TF⟩ : ∃ U0, U0 = w6 := ⟨_, rfl⟩
       have TI := H5.out.1.aU.size;have eQ := (acJ.1 H5.out.2.1).1;have HM : Hid (Dl U0 gx R1 ∧ y1 ∈ R1 ∧ dT y1.t y1.L ∧ t = y1.t ∧ (bF y1.L cQ (⟨t, i, p', s, en, nm⟩ : Sp)).2 = C1 ∧ bw kX R1 ∧ (aH kX R1 { y1 with L := (bF y1.L cQ (⟨t, i, p', s, en, nm⟩ : Sp)).1 }).map Rr.pl = (cW S (⟨t, i, p', s, en, nm⟩ : Sp)).1 ∧ ak w U0 (iy gx R) ∧ (∀ k, iy gx R1 k → iy gx R k ∨ w.heap.size ≤ k) ∧ ey U0 (w.heap.size + 1) C ∧ ey U0 w.heap.size cQ ∧ w.heap.size + 1 ≠ y1.g ∧ w.heap.size ≠ y1.g) := af (by
        subst TE LL TF;refine ⟨hm6, (ew lB.out.2.1).2 (.inl rfl), B_ t, rfl, by rw [← rW.out, I3], lB.out.2.1.ins _, by rw [I3], H5.out.1.aU.trans yX fun k e => .inl (.inl e), fun k hk => ?_, (yX.block _ eQ (TH _ _ H5.out.2.1)).trans H5.out.2.1, (yX.block _ (acJ.1 H5.out.2.2).1 (TH _ _ H5.out.2.2)).trans H5.out.2.2, by show w.heap.size + 1 ≠ gf; omega, by show w.heap.size ≠ gf; omega⟩;rcases hk with e | ⟨z, hz, rfl⟩
        ·exact .inl (.inl e)
        ·rcases fq hz with rfl | hz
         ·exact .inr (by show w.heap.size ≤ gf; omega)
         ·exact H5.out.1.new _ (.inr ⟨z, hz, rfl⟩))
       rw [show (Value.pointer (some ⟨gf, 0, none⟩)) = .pointer (some ⟨y1.g, 0, none⟩) by rw [LL]];rw [← TF] at d0 d1 d2 d3 d4 d5 ⊢;clear TE LL TF I3 hm6 yX Vv TH XQ TI eQ H5 HD5 lB;have O9 : Below U0.heap.size U0 (U0.alloc (.cells #[.int .i64 t, .int .i64 i, .int .i64 p', .int .i64 s, .int .i64 en, .string nm] 30)) := (acG _ _).alloc (acE _) _;have TG := HM.out.1.below O9;have EN := HM.out.1.lt;have AD := af (rE (T := iy gx R1) (TG.fo y1 HM.out.2.1) (.inr ⟨y1, HM.out.2.1, rfl⟩) (fun k hk => acV (EN k hk) O9.size) HM.out.2.2.1 (gN (az U0 ⟨t, i, p', s, en, nm⟩)) (by simp) (fun z hz => by simp at hz; rw [hz]; exact Rf.out.1) (.inr (fun e => by
        have h1 := EN y1.g (.inr ⟨y1, HM.out.2.1, rfl⟩);have h2 : U0.heap.size = y1.g := by injection e
        omega)))
       rw [(add_one y1.t y1.L ⟨t, i, p', s, en, nm⟩ Rf.out.2 HM.out.2.2.2.1).1, (add_one y1.t y1.L ⟨t, i, p', s, en, nm⟩ Rf.out.2 HM.out.2.2.2.1).2, HM.out.2.2.2.2.1] at AD;have HU := af (acD O9 TG);clear O9 TG EN;have LM : Hid (∀ V, Calls prog 117 #[.agg #[.int .i64 (C.add : Nat), .int .i64 (C.same : Nat), .int .i64 (C.other : Nat), .int .i64 (C.dw : Nat), .int .i64 (C.full : Nat)], .agg #[.int .i64 (C1.add : Nat), .int .i64 (C1.same : Nat), .int .i64 (C1.other : Nat), .int .i64 (C1.dw : Nat), .int .i64 (C1.full : Nat)]] V fun e w' => e = .returned (iJ (C.plus C1)) ∧ Below V.heap.size V w') := af fun V => tZ V C C1 Re.out.2.2 (by rw [← rW.out, pB]; omega);go_wp2_with fail
       refine AD.out.mono ?_;rintro e8 w8 ⟨rfl, XO, Ka⟩;have qE := HM.out.2.2.2.2.2;have ti : Hid ((∃ R6, nN w w8 gx R R6 (cW S (⟨t, i, p', s, en, nm⟩ : Sp)).1) ∧ ey w8 (w.heap.size + 1) C ∧ ey w8 w.heap.size cQ) := af ⟨⟨_, nN.added HU.out.2 qE.1 HM.out.2.1 XO Ka (qE.2.2.1.cC HU.out.1) qE.2.2.2.1 qE.2.1 (sK Re.out.1 Rf.out.2)⟩,
        (Ka.block (w.heap.size + 1) (acV (acJ.1 qE.2.2.2.2.1).1 HU.out.1.size) qE.2.2.2.2.2.2.1).trans ((HU.out.1.block (w.heap.size + 1) (acJ.1 qE.2.2.2.2.1).1).trans qE.2.2.2.2.1),
        (Ka.block w.heap.size (acV (acJ.1 qE.2.2.2.2.2.1).1 HU.out.1.size) qE.2.2.2.2.2.2.2).trans ((HU.out.1.block w.heap.size (acJ.1 qE.2.2.2.2.2.1).1).trans qE.2.2.2.2.2.1)⟩
       obtain ⟨⟨R6, LN⟩, LO⟩ := ti.out;clear ti;have ti := af (acD LN LO);clear XO Ka qE LN LO AD;unfold iJ;obtain ⟨V, hV⟩ : ∃ V, w8.alloc (.cells #[.int .i64 (C1.add : Nat), .int .i64 (C1.same : Nat), .int .i64 (C1.other : Nat), .int .i64 (C1.dw : Nat), .int .i64 (C1.full : Nat)] 64) = V := ⟨_, rfl⟩
       obtain ⟨bv, OI⟩ : ∃ b, w8.heap.size = b := ⟨_, rfl⟩
       have J5 : Below w8.heap.size w8 V := by rw [← hV]; exact (acG _ _).alloc (acE _) _
       have I4 : ey V bv C1 := by rw [← hV, ← OI]; exact acQ _ _
       have BZ : ey V (w.heap.size + 1) C := (J5.block (w.heap.size + 1) (acJ.1 ti.out.2.1).1).trans ti.out.2.1;have BX : ey V w.heap.size cQ := (J5.block w.heap.size (acJ.1 ti.out.2.2).1).trans ti.out.2.2;have LP := af (acD (ti.out.1.below J5) (acD BZ BX));have sn0 : V.cell? ⟨(w.heap.size + 1), 0, none⟩ = some (.int .i64 (C.add : Nat)) := by have h := acC V (w.heap.size + 1) 0 _ 64 (0, 0) (BZ); simpa using h
       have sn1 : V.cell? ⟨(w.heap.size + 1), 1, none⟩ = some (.int .i64 (C.same : Nat)) := by have h := acC V (w.heap.size + 1) 1 _ 64 (0, 0) (BZ); simpa using h
       have sn2 : V.cell? ⟨(w.heap.size + 1), 2, none⟩ = some (.int .i64 (C.other : Nat)) := by have h := acC V (w.heap.size + 1) 2 _ 64 (0, 0) (BZ); simpa using h
       have sn3 : V.cell? ⟨(w.heap.size + 1), 3, none⟩ = some (.int .i64 (C.dw : Nat)) := by have h := acC V (w.heap.size + 1) 3 _ 64 (0, 0) (BZ); simpa using h
       have sn4 : V.cell? ⟨(w.heap.size + 1), 4, none⟩ = some (.int .i64 (C.full : Nat)) := by have h := acC V (w.heap.size + 1) 4 _ 64 (0, 0) (BZ); simpa using h
       have sv0 : V.cell? ⟨bv, 0, none⟩ = some (.int .i64 (C1.add : Nat)) := by have h := acC V bv 0 _ 64 (0, 0) (I4); simpa using h
       have sv1 : V.cell? ⟨bv, 1, none⟩ = some (.int .i64 (C1.same : Nat)) := by have h := acC V bv 1 _ 64 (0, 0) (I4); simpa using h
       have sv2 : V.cell? ⟨bv, 2, none⟩ = some (.int .i64 (C1.other : Nat)) := by have h := acC V bv 2 _ 64 (0, 0) (I4); simpa using h
       have sv3 : V.cell? ⟨bv, 3, none⟩ = some (.int .i64 (C1.dw : Nat)) := by have h := acC V bv 3 _ 64 (0, 0) (I4); simpa using h
       have sv4 : V.cell? ⟨bv, 4, none⟩ = some (.int .i64 (C1.full : Nat)) := by have h := acC V bv 4 _ 64 (0, 0) (I4); simpa using h
       clear I4 BZ BX J5;go_upto_region 17 with fail
       clear hV OI;go_wp2_with fail
       refine (LM.out _).mono ?_;rintro e9 w9 ⟨rfl, eW⟩;have iz : ey w9 (w.heap.size + 1) C := (eW.block (w.heap.size + 1) (acJ.1 LP.out.2.1).1).trans LP.out.2.1;have LQ : ey w9 w.heap.size cQ := (eW.block w.heap.size (acJ.1 LP.out.2.2).1).trans LP.out.2.2;have Bl := af (acD (LP.out.1.below eW) (acD iz LQ));have BP : w9.cell? ⟨(w.heap.size + 1), 0, none⟩ = some (.int .i64 (C.add : Nat)) := by have h := acC w9 (w.heap.size + 1) 0 _ 64 (0, 0) (iz); simpa using h
       have sp1 : w9.cell? ⟨(w.heap.size + 1), 1, none⟩ = some (.int .i64 (C.same : Nat)) := by have h := acC w9 (w.heap.size + 1) 1 _ 64 (0, 0) (iz); simpa using h
       have sp2 : w9.cell? ⟨(w.heap.size + 1), 2, none⟩ = some (.int .i64 (C.other : Nat)) := by have h := acC w9 (w.heap.size + 1) 2 _ 64 (0, 0) (iz); simpa using h
       have sp3 : w9.cell? ⟨(w.heap.size + 1), 3, none⟩ = some (.int .i64 (C.dw : Nat)) := by have h := acC w9 (w.heap.size + 1) 3 _ 64 (0, 0) (iz); simpa using h
       have sp4 : w9.cell? ⟨(w.heap.size + 1), 4, none⟩ = some (.int .i64 (C.full : Nat)) := by have h := acC w9 (w.heap.size + 1) 4 _ 64 (0, 0) (iz); simpa using h
       have sf0 := acI w9 (w.heap.size + 1) 0 _ 64 (iz);have sf1 := acI w9 (w.heap.size + 1) 1 _ 64 (iz);have sf2 := acI w9 (w.heap.size + 1) 2 _ 64 (iz);have sf3 := acI w9 (w.heap.size + 1) 3 _ 64 (iz);have sf4 := acI w9 (w.heap.size + 1) 4 _ 64 (iz);clear iz LQ eW;unfold iJ Cn.plus;dsimp only;go_wp2;have lC := dq Bl.out.2.1 (.int .i64 ((C.plus C1).add : Nat)) (.int .i64 ((C.plus C1).same : Nat)) (.int .i64 ((C.plus C1).other : Nat)) (.int .i64 ((C.plus C1).dw : Nat)) (.int .i64 ((C.plus C1).full : Nat));have lA := bN (ak.refl w9 (fun k => k = w.heap.size + 1)) (.inl rfl) (.int .i64 ((C.plus C1).add : Nat)) (.int .i64 ((C.plus C1).same : Nat)) (.int .i64 ((C.plus C1).other : Nat)) (.int .i64 ((C.plus C1).dw : Nat)) (.int .i64 ((C.plus C1).full : Nat));simp only [Cn.plus, aeS] at lC lA;go_roundw;case rel =>
        refine ⟨j + 1, by omega, by go_num, af ?_⟩;rw [iB.out, kC, VG.out.1, VG.out.2];refine ⟨_, Bl.out.1.sets lA Bl.out.2.1 (by omega), ?_, (lA.block w.heap.size (acJ.1 Bl.out.2.2).1 (by omega)).trans Bl.out.2.2⟩;dsimp only;rw [rW.out];unfold ey Cn.plus;simp only [aeS];exact lC
       case measure => simp [intOf]; omega
    ·have Tk : j = k := by omega
     subst Tk;have Hf : l.take j = l := acY (by have := HN.out; omega);rw [Hf] at eZ lw;obtain ⟨C, hC⟩ : ∃ C, (puts (R.map Rr.pl) l).2 = C := ⟨_, rfl⟩
     rw [hC] at lw;have HC := af hC;have mS := af eZ;have sn0 : wr.cell? ⟨(w.heap.size + 1), 0, none⟩ = some (.int .i64 (C.add : Nat)) := by have h := acC wr (w.heap.size + 1) 0 _ 64 (0, 0) (lw); simpa using h
     have sn1 : wr.cell? ⟨(w.heap.size + 1), 1, none⟩ = some (.int .i64 (C.same : Nat)) := by have h := acC wr (w.heap.size + 1) 1 _ 64 (0, 0) (lw); simpa using h
     have sn2 : wr.cell? ⟨(w.heap.size + 1), 2, none⟩ = some (.int .i64 (C.other : Nat)) := by have h := acC wr (w.heap.size + 1) 2 _ 64 (0, 0) (lw); simpa using h
     have sn3 : wr.cell? ⟨(w.heap.size + 1), 3, none⟩ = some (.int .i64 (C.dw : Nat)) := by have h := acC wr (w.heap.size + 1) 3 _ 64 (0, 0) (lw); simpa using h
     have sn4 : wr.cell? ⟨(w.heap.size + 1), 4, none⟩ = some (.int .i64 (C.full : Nat)) := by have h := acC wr (w.heap.size + 1) 4 _ 64 (0, 0) (lw); simpa using h
     have sr0 : wr.cell? ⟨w.heap.size, 0, none⟩ = some (.int .i64 (cQ.add : Nat)) := by have h := acC wr w.heap.size 0 _ 64 (0, 0) (nQ); simpa using h
     have sr1 : wr.cell? ⟨w.heap.size, 1, none⟩ = some (.int .i64 (cQ.same : Nat)) := by have h := acC wr w.heap.size 1 _ 64 (0, 0) (nQ); simpa using h
     have sr2 : wr.cell? ⟨w.heap.size, 2, none⟩ = some (.int .i64 (cQ.other : Nat)) := by have h := acC wr w.heap.size 2 _ 64 (0, 0) (nQ); simpa using h
     have sr3 : wr.cell? ⟨w.heap.size, 3, none⟩ = some (.int .i64 (cQ.dw : Nat)) := by have h := acC wr w.heap.size 3 _ 64 (0, 0) (nQ); simpa using h
     have sr4 : wr.cell? ⟨w.heap.size, 4, none⟩ = some (.int .i64 (cQ.full : Nat)) := by have h := acC wr w.heap.size 4 _ 64 (0, 0) (nQ); simpa using h
     have sg0 := acI wr w.heap.size 0 _ 64 (nQ);have sg1 := acI wr w.heap.size 1 _ 64 (nQ);have sg2 := acI wr w.heap.size 2 _ 64 (nQ);have sg3 := acI wr w.heap.size 3 _ 64 (nQ);have sg4 := acI wr w.heap.size 4 _ 64 (nQ);have nh := af nQ;clear Hf eZ lw nQ hC;go_wp2;refine ac0 (v := .tuple #[iJ C, .int .i64 0]) (by
      have q5 := dq nh.out (.int .i64 (C.add : Nat)) (.int .i64 (C.same : Nat)) (.int .i64 (C.other : Nat)) (.int .i64 (C.dw : Nat)) (.int .i64 (C.full : Nat));generalize (((((wr.setCell ⟨w.heap.size, 0, none⟩ (.int .i64 (C.add : Nat))).setCell ⟨w.heap.size, 1, none⟩ (.int .i64 (C.same : Nat))).setCell ⟨w.heap.size, 2, none⟩ (.int .i64 (C.other : Nat))).setCell ⟨w.heap.size, 3, none⟩ (.int .i64 (C.dw : Nat))).setCell ⟨w.heap.size, 4, none⟩ (.int .i64 (C.full : Nat))) = W9 at q5 ⊢;have m0 := acC W9 w.heap.size 0 _ 64 (0, 0) q5;have m1 := acC W9 w.heap.size 1 _ 64 (0, 0) q5;have m2 := acC W9 w.heap.size 2 _ 64 (0, 0) q5;have m3 := acC W9 w.heap.size 3 _ 64 (0, 0) q5;have m4 := acC W9 w.heap.size 4 _ 64 (0, 0) q5;have kQ : w.heap.size < W9.heap.size := by have := (acJ.1 q5).1; exact this
      clear q5;unfold iJ;simp at m0 m1 m2 m3 m4;simp [results, results81, go_sem, m0, m1, m2, m3, m4, kQ, cQ]) rfl ⟨by unfold nF Eg; rw [acW lu.out, acW lu.out, HC.out], R', ?_⟩
     have lO := bN (ak.refl wr (fun k => k = w.heap.size)) (.inl rfl) (.int .i64 (C.add : Nat)) (.int .i64 (C.same : Nat)) (.int .i64 (C.other : Nat)) (.int .i64 (C.dw : Nat)) (.int .i64 (C.full : Nat));rw [iH, acW lu.out];exact mS.out.sets lO nh.out (acE _)
end Go.Proofs.YtionbmlicmibgaaGreatDoor
