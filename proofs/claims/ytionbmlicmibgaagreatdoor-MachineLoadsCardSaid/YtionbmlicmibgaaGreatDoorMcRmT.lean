import Derived.Test.YtionbmlicmibgaaGreatDoorMcRm
import Derived.Test.YtionbmlicmibgaaGreatDoorMcDuo
set_option linter.unusedVariables false
set_option linter.unusedSimpArgs false
namespace Go.Proofs.YtionbmlicmibgaaGreatDoor
open Go.Proofs.Tryz
open Go.RowKit
theorem tq {w : World} {gx : Nat} {Q : Rm} {m : Mp} (h : tf w gx Q m) : Calls prog 85 #[.pointer (some ⟨Q.gs, 0, none⟩)] w fun e w' => ∃ p n c, e = .returned (.slice p n c) ∧ Eh w' (.slice p n c) m ∧ Below w.heap.size w w' := (Bo h.so).mono fun e w' ⟨v, he, ho, hb⟩ => by
 unfold hJ at ho;have hf : Q.R.map (·.t) = m.S.map (·.1) := by rw [← h.pl, aeO]; rfl
 have hl : (Q.R.map (·.t)).length = m.S.length := by rw [hf, adv]
 rw [hl, hf] at ho;obtain ⟨p, c, rfl, _⟩ := fL ho;exact ⟨p, _, c, he, ⟨_, ho⟩, hb⟩
theorem Ez {w : World} {gx : Nat} {Q : Rm} {m : Mp} (h : tf w gx Q m) (k : Int) : Calls prog 87 #[.pointer (some ⟨Q.gs, 0, none⟩), .int .i64 k] w fun e w' => ∃ p n c, e = .returned (.slice p n c) ∧ tu w' (.slice p n c) (g_ m.S k) ∧ Below w.heap.size w w' := (Bp h.so k).mono fun e w' ⟨v, he, ho, hb⟩ => by
 rw [h.pl] at ho;obtain ⟨p, n, c, rfl⟩ := ho.jK.sl;exact ⟨p, n, c, he, ho.jK, hb⟩
theorem lS.look {m m' : Mp} (h : lS m m') (k : Int) : g_ m'.S k = g_ m.S k := by
 have h1 := Bq m.S k;have h2 := Bq m'.S k;rw [h.S] at h1;rw [← h2, h1]
theorem Lk {w w' : World} {v1 v2 : Value} {l : List Br} (h1 : tu w v1 l) (h2 : tu w' v2 l) (hb : Below w.heap.size w w') : Calls prog 46 #[v1, v2] w' fun e Im => e = .returned (.bool true) ∧ Below w'.heap.size w' Im :=
 (Bs (h1.below hb) h2).mono fun e Im ⟨he, q, hw⟩ => ⟨by rw [he, ac4 rfl], by rw [hw]; exact ag w' q⟩
theorem EA {w : World} {gm : Nat} {P : Pm} {m : Mp} (h : dK w gm P m) {k : Int} (hk : (Lit.int .i64 k).wf = true) : Calls prog 47 #[.pointer (some ⟨gm, 0, none⟩), .int .i64 k] w fun e w' => ∃ p n c, e = .returned (.slice p n c) ∧ tu w' (.slice p n c) (g_ m.S k) ∧ Below w.heap.size w w' := (zi h hk).mono fun e w' ⟨v, he, ho, hb⟩ => by
 obtain ⟨p, n, c, rfl⟩ := ho.jK.sl;exact ⟨p, n, c, he, ho.jK, hb⟩
set_option maxRecDepth 200000 in
set_option maxHeartbeats 16000000 in
theorem A8 {w : World} {gm gx : Nat} {P : Pm} {Q : Rm} {m m' : Mp} (h : dK w gm P m) (h2 : tf w gx Q m') (hk : lS m m') : Calls prog 34 #[.pointer (some ⟨gm, 0, none⟩), .pointer (some ⟨gx, 0, none⟩)] w fun e w' => e = .returned (.bool true) ∧ Below w.heap.size w w' := by
 obtain ⟨pv, nv, cv, lJ⟩ := h2.vo.sl;obtain ⟨pt, nt, ct, Vn⟩ := h2.tb.own.nP.sl;have HA := af (fun U (hU : Below w.heap.size w U) => h.below hU);have HR := af (fun U (hU : Below w.heap.size w U) => h2.below hU);have HK := af hk;have U6 := af (acD lJ Vn);obtain ⟨IX, vw⟩ : ∃ x, m.ix = x := ⟨_, rfl⟩
 obtain ⟨TM, wm⟩ : ∃ x, m.tm = x := ⟨_, rfl⟩
 have eJ : Hid (∀ U, Below w.heap.size w U → U.cell? ⟨gx, 0, none⟩ = some (.int .i64 IX) ∧ U.cell? ⟨gx, 1, none⟩ = some (.int .i64 TM) ∧ U.cell? ⟨gx, 2, none⟩ = some (.slice pv nv cv) ∧ U.cell? ⟨gx, 3, none⟩ = some (.pointer (some ⟨Q.gs, 0, none⟩)) ∧ U.cell? ⟨gx, 4, none⟩ = some (.pointer (some ⟨Q.gt, 0, none⟩)) ∧ U.cell? ⟨Q.gt, 0, none⟩ = some (.slice pt nt ct)) := af (fun U hU => by
  have h1 := (h2.below hU).row.z;have h3 := (h2.below hU).tb.c0;rw [hk.ix, hk.tm, vw, wm, lJ] at h1;rw [Vn] at h3;exact ⟨h1.1, h1.2.1, h1.2.2.1, h1.2.2.2.1, h1.2.2.2.2, h3⟩)
 have HV := af (fun U (hU : Below w.heap.size w U) => (show Ns U (.slice pv nv cv) m.vo by have h1 := (h2.below hU).vo; rw [lJ, hk.vo] at h1; exact h1));have HT := af (fun U (hU : Below w.heap.size w U) => (show wh U (.slice pt nt ct) m.L by have h1 := (h2.below hU).tb.own.nP; rw [Vn, hk.L] at h1; exact h1));have HI := af (fun U (hU : Below w.heap.size w U) => (show Calls prog 40 #[.pointer (some ⟨gm, 0, none⟩)] U fun e w' => e = .returned (.int .i64 IX) ∧ w' = U by rw [← vw]; exact Er (h.below hU)));have HM := af (fun U (hU : Below w.heap.size w U) => (show Calls prog 41 #[.pointer (some ⟨gm, 0, none⟩)] U fun e w' => e = .returned (.int .i64 TM) ∧ w' = U by rw [← wm]; exact Ia (h.below hU)));have oN : Hid (Below w.heap.size w (w.drewN 1)) := af (ag w 1);clear h h2 hk lJ Vn vw wm;go_enter func34, ntmps34
 go_upto_region 1 with fail
 refine ado (S := (fun U => U.cell? ⟨gx, 0, none⟩ = some (.int .i64 IX) ∧ U.cell? ⟨gx, 1, none⟩ = some (.int .i64 TM) ∧ U.cell? ⟨gx, 2, none⟩ = some (.slice pv nv cv) ∧ U.cell? ⟨gx, 3, none⟩ = some (.pointer (some ⟨Q.gs, 0, none⟩)) ∧ U.cell? ⟨gx, 4, none⟩ = some (.pointer (some ⟨Q.gt, 0, none⟩)) ∧ U.cell? ⟨Q.gt, 0, none⟩ = some (.slice pt nt ct))) (by kernel_rfl) ?_ (fun hHeld => ?_)
 ·(try dsimp only)
  exact eJ.out _ (ag w 1)
 refine ao 0 rfl ?_;refine ao 2 rfl ?_;refine ao 3 rfl ?_;refine ao 4 rfl ?_;refine ao 5 rfl ?_;refine acU (rs := [1]) (by kernel_rfl) (by simp) ?_;refine dz rfl (fun K hK => ?_) ?_
 ·go_simp;go_at_call 40
  refine (HI.out _ oN.out).mono ?_;rintro e1 u1 ⟨rfl, rfl⟩;first
   | refine hK.out _ _ ?_ (fun hHeld => ?_)
   | (go_wp2_with fail; refine hK.out _ _ ?_ (fun hHeld => ?_))
  ·(try dsimp only)
   exact eJ.out _ oN.out
  clear hK K;try simp only [Act.put, qA, qB, qC]
  refine ao 6 rfl ?_;refine ao 7 rfl ?_;refine ao 8 rfl ?_;refine ao 10 rfl ?_;refine ao 11 rfl ?_;refine ao 12 rfl ?_;refine ao 13 rfl ?_;refine acU (rs := [9]) (by kernel_rfl) (by simp) ?_;refine dz rfl (fun K hK => ?_) ?_
  ·go_simp;go_at_call 41
   refine (HM.out _ oN.out).mono ?_;rintro e2 u2 ⟨rfl, rfl⟩;first
    | refine hK.out _ _ ?_ (fun hHeld => ?_)
    | (go_wp2_with fail; refine hK.out _ _ ?_ (fun hHeld => ?_))
   ·(try dsimp only)
    exact eJ.out _ oN.out
   clear hK K;try simp only [Act.put, qA, qB, qC]
   refine ao 14 rfl ?_;refine ao 15 rfl ?_;refine ao 16 rfl ?_;refine ao 17 rfl ?_;refine ao 19 rfl ?_;refine ao 20 rfl ?_;refine ao 21 rfl ?_;refine ao 22 rfl ?_;refine acU (rs := [18]) (by kernel_rfl) (by simp) ?_;refine dz rfl (fun K hK => ?_) ?_
   ·go_simp;go_at_call 50
    refine (Ej (HA.out _ oN.out)).mono ?_;rintro e3 u3 ⟨a3, b3, c3, rfl, g3, h3⟩;have aS : Hid (Below w.heap.size w u3) := af (da oN.out h3);have wv := af g3;clear g3 h3;first
     | refine hK.out _ _ ?_ (fun hHeld => ?_)
     | (go_wp2_with fail; refine hK.out _ _ ?_ (fun hHeld => ?_))
    ·(try dsimp only)
     exact eJ.out _ aS.out
    clear hK K;try simp only [Act.put, qA, qB, qC]
    refine acU (rs := [23]) (by kernel_rfl) (by simp) ?_;refine dz rfl (fun K hK => ?_) ?_
    ·go_simp;go_at_call 30
     refine (Hq wv.out (HV.out _ aS.out)).mono ?_;rintro e4 u4 ⟨rfl, h4⟩;have cE : Hid (Below w.heap.size w u4) := af (da aS.out h4);clear h4;first
      | refine hK.out _ _ ?_ (fun hHeld => ?_)
      | (go_wp2_with fail; refine hK.out _ _ ?_ (fun hHeld => ?_))
     ·(try dsimp only)
      exact eJ.out _ cE.out
     clear hK K;try simp only [Act.put, qA, qB, qC]
     refine ao 24 rfl ?_;refine ao 25 rfl ?_;refine ao 26 rfl ?_;refine ao 28 rfl ?_;refine ao 29 rfl ?_;refine ao 30 rfl ?_;refine ao 31 rfl ?_;refine acU (rs := [27]) (by kernel_rfl) (by simp) ?_;refine dz rfl (fun K hK => ?_) ?_
     ·go_simp;go_at_call 42
      refine (Ei (HA.out _ cE.out)).mono ?_;rintro e5 u5 ⟨a5, b5, c5, rfl, g5, h5⟩;have fH : Hid (Below w.heap.size w u5) := af (da cE.out h5);have Xa := af g5;clear g5 h5;first
       | refine hK.out _ _ ?_ (fun hHeld => ?_)
       | (go_wp2_with fail; refine hK.out _ _ ?_ (fun hHeld => ?_))
      ·(try dsimp only)
       exact eJ.out _ fH.out
      clear hK K;try simp only [Act.put, qA, qB, qC]
      refine acU (rs := [32]) (by kernel_rfl) (by simp) ?_;refine dz rfl (fun K hK => ?_) ?_
      ·go_simp;go_at_call 85
       refine (tq (HR.out _ fH.out)).mono ?_;rintro e6 u6 ⟨a6, b6, c6, rfl, g6, h6⟩;have dL : Hid (Below w.heap.size w u6) := af (da fH.out h6);have HE6 := af (Ho (Xa.out.below h6) g6 HK.out.fst);clear g6 h6;first
        | refine hK.out _ _ ?_ (fun hHeld => ?_)
        | (go_wp2_with fail; refine hK.out _ _ ?_ (fun hHeld => ?_))
       ·(try dsimp only)
        exact eJ.out _ dL.out
       clear hK K;try simp only [Act.put, qA, qB, qC]
       refine acU (rs := [33]) (by kernel_rfl) (by simp) ?_;refine dz rfl (fun K hK => ?_) ?_
       ·go_simp;go_at_call 30
        refine (HE6.out).mono ?_;rintro e7 u7 ⟨rfl, h7⟩;have cH : Hid (Below w.heap.size w u7) := af (da dL.out h7);clear h7;first
         | refine hK.out _ _ ?_ (fun hHeld => ?_)
         | (go_wp2_with fail; refine hK.out _ _ ?_ (fun hHeld => ?_))
        ·(try dsimp only)
         exact eJ.out _ cH.out
        clear hK K;try simp only [Act.put, qA, qB, qC]
        refine ao 34 rfl ?_;refine ao 35 rfl ?_;refine ao 36 rfl ?_;refine ao 38 rfl ?_;refine ao 39 rfl ?_;refine ao 40 rfl ?_;refine ao 41 rfl ?_;refine ao 42 rfl ?_;refine ao 43 rfl ?_;refine ao 44 rfl ?_;refine acU (rs := [37]) (by kernel_rfl) (by simp) ?_;refine dz rfl (fun K hK => ?_) ?_
        ·go_simp;go_at_call 44
         refine (Hp (HA.out _ cH.out)).mono ?_;rintro e8 u8 ⟨a8, b8, c8, rfl, g8, h8⟩;have oL : Hid (Below w.heap.size w u8) := af (da cH.out h8);have ZT := af g8;clear g8 h8;first
          | refine hK.out _ _ ?_ (fun hHeld => ?_)
          | (go_wp2_with fail; refine hK.out _ _ ?_ (fun hHeld => ?_))
         ·(try dsimp only)
          exact eJ.out _ oL.out
         clear hK K;try simp only [Act.put, qA, qB, qC]
         refine acU (rs := [45]) (by kernel_rfl) (by simp) ?_;refine dz rfl (fun K hK => ?_) ?_
         ·go_simp;go_at_call 45
          refine (A5 ZT.out (HT.out _ oL.out)).mono ?_;rintro e9 u9 ⟨rfl, h9⟩;have lQ : Hid (Below w.heap.size w u9) := af (da oL.out h9);clear h9;first
           | refine hK.out _ _ ?_ (fun hHeld => ?_)
           | (go_wp2_with fail; refine hK.out _ _ ?_ (fun hHeld => ?_))
          ·(try dsimp only)
           exact eJ.out _ lQ.out
          clear hK K;try simp only [Act.put, qA, qB, qC]
          refine ao 46 rfl ?_;refine ao 47 rfl ?_;refine ao 48 rfl ?_;refine ao 50 rfl ?_;refine acU (rs := [49]) (by kernel_rfl) (by simp) ?_;refine dz rfl (fun K hK => ?_) ?_
          ·go_simp;go_at_call 39
           refine (Hn (HA.out _ lQ.out)).mono ?_;rintro eA uA ⟨aA, bA, cA, rfl, gA, hA⟩;have Dg : Hid (Below w.heap.size w uA) := af (da lQ.out hA);have HGA := af gA.bp;clear gA hA;first
            | refine hK.out _ _ ?_ (fun hHeld => ?_)
            | (go_wp2_with fail; refine hK.out _ _ ?_ (fun hHeld => ?_))
           ·(try dsimp only)
            exact eJ.out _ Dg.out
           clear hK K;try simp only [Act.put, qA, qB, qC]
           refine acU (rs := [51]) (by kernel_rfl) (by simp) ?_;refine dz rfl (fun K hK => ?_) ?_
           ·go_simp;go_at_call 86
            refine (rA (HR.out _ Dg.out)).mono ?_;rintro eB uB ⟨aB, bB, cB, rfl, gB, hB⟩;have FN : Hid (Below w.heap.size w uB) := af (da Dg.out hB);rw [HK.out.img] at gB;have HEB := af (og (HGA.out.below hB) gB.bp);clear gB hB;first
             | refine hK.out _ _ ?_ (fun hHeld => ?_)
             | (go_wp2_with fail; refine hK.out _ _ ?_ (fun hHeld => ?_))
            ·(try dsimp only)
             exact eJ.out _ FN.out
            clear hK K;try simp only [Act.put, qA, qB, qC]
            refine acU (rs := [52]) (by kernel_rfl) (by simp) ?_;refine dz rfl (fun K hK => ?_) ?_
            ·go_simp;go_at_call 20
             refine (HEB.out).mono ?_;rintro eC uC ⟨rfl, rfl⟩;first
              | refine hK.out _ _ ?_ (fun hHeld => ?_)
              | (go_wp2_with fail; refine hK.out _ _ ?_ (fun hHeld => ?_))
             ·(try dsimp only)
              exact eJ.out _ FN.out
             clear hK K;try simp only [Act.put, qA, qB, qC]
             refine ao 53 rfl ?_;refine ao 54 rfl ?_;refine adO (by kernel_rfl) ?_ _;clear hHeld;have Sy : Hid (Below w.heap.size w uB) := af FN.out;clear oN aS cE fH dL cH oL lQ Dg FN wv Xa HE6 ZT HGA HEB HV HT HI HM;have z3 := (eJ.out _ Sy.out).2.2.2.1;go_wp2_with fail
             refine (tq (HR.out _ Sy.out)).mono ?_;rintro e V9 ⟨q9, r9, s9, rfl, g9, h9⟩;obtain ⟨Bt, aM⟩ := g9;have HV9 := af (da Sy.out h9);obtain ⟨p9', c9', he9, hl9, WE, Xd⟩ := fL aM;injection he9 with aax aay aaz;subst aax aay aaz;have ZU := af Xd;have hmi : ((m'.S.length : Nat) : Int) ≤ 9223372036854775807 := by unfold maxLen at WE; omega
             clear aM h9 hl9 WE Xd z3;obtain ⟨nt9, hnt⟩ : ∃ k, m'.S.length = k := ⟨_, rfl⟩
             have W5 := af hnt;rw [hnt] at ZU hmi ⊢;clear hnt;go_wp2_with fail
             go_loopw [5, 7, 68] (fun v5 _ i wr => ∃ jj : Nat, jj ≤ nt9 ∧ v5 = .bool true ∧ i = .int .i64 jj ∧ Hid (Below V9.heap.size V9 wr)) (fun _ _ i _ => nt9 - (intOf i).toNat)
             case atStart => exact ⟨0, by omega, rfl, rfl, af (acG _ _)⟩
             case round =>
              obtain ⟨jj, hjj, rfl, rfl, HQ8⟩ := hrel;have QR : Hid (Below w.heap.size w wr) := af (da HV9.out HQ8.out);by_cases oq : jj < nt9
              ·obtain ⟨y9, Vq⟩ : ∃ y, m'.S[jj]? = some y := ⟨_, acF (by have := W5.out; omega)⟩
               obtain ⟨gk, ZV, Xe, lO⟩ := ZU.out (by omega);subst ZV;have ck0 := lO jj y9.1 (by simp [Vq]);have ck : wr.cell? ⟨gk, jj, none⟩ = some (.int .i64 y9.1) := (HQ8.out.cell (p := ⟨gk, jj, none⟩) Xe).trans ck0;have Hy := (HR.out _ QR.out).KA;have nU := Hy.ok y9 (acS Vq);have ZW : Hid ((Lit.int .i64 y9.1).wf = true) := af (ad5 (by have h1 : 1 ≤ y9.1 := nU.2.2.1; have h2 : y9.1 ≤ 1099511627776 := nU.2.2.2; omega));obtain ⟨t, ht⟩ : ∃ t, y9.1 = t := ⟨_, rfl⟩
               rw [ht] at ck ZW;clear Vq lO Hy nU Xe ht ck0;go_upto_region 5 with fail
               refine ado (S := (fun U => U.cell? ⟨gx, 3, none⟩ = some (.pointer (some ⟨Q.gs, 0, none⟩)))) (by kernel_rfl) ?_ (fun hHeld => ?_)
               ·(try dsimp only)
                exact (eJ.out _ (da QR.out (ag wr 1))).2.2.2.1
               refine ao 0 rfl ?_;refine ao 1 rfl ?_;refine ao 2 rfl ?_;refine ao 3 rfl ?_;refine ao 5 rfl ?_;refine ao 6 rfl ?_;refine ao 7 rfl ?_;refine ao 8 rfl ?_;refine ao 9 rfl ?_;refine acU (rs := [4]) (by kernel_rfl) (by simp) ?_;refine dz rfl (fun K hK => ?_) ?_
               ·go_simp;go_at_call 47
                refine (EA (HA.out _ (da QR.out (ag wr 1))) ZW.out).mono ?_;rintro e1 y1 ⟨a1, b1, c1, rfl, g1, h1⟩;have rW : Hid (Below wr.heap.size wr y1) := af (da (ag wr 1) h1);have HD1 := af g1;clear g1 h1;first
                 | refine hK.out _ _ ?_ (fun hHeld => ?_)
                 | (go_wp2_with fail; refine hK.out _ _ ?_ (fun hHeld => ?_))
                ·(try dsimp only)
                 exact (eJ.out _ (da QR.out rW.out)).2.2.2.1
                clear hK K;try simp only [Act.put, qA, qB, qC]
                refine acU (rs := [10]) (by kernel_rfl) (by simp) ?_;refine dz rfl (fun K hK => ?_) ?_
                ·go_simp;go_at_call 87
                 refine (Ez (HR.out _ (da QR.out rW.out)) t).mono ?_;rintro e2 y2 ⟨a2, b2, c2, rfl, g2, h2⟩;rw [HK.out.look] at g2;have AL : Hid (Below wr.heap.size wr y2) := af (da rW.out h2);have HD2 := af (Lk HD1.out g2 h2);clear g2 h2;first
                  | refine hK.out _ _ ?_ (fun hHeld => ?_)
                  | (go_wp2_with fail; refine hK.out _ _ ?_ (fun hHeld => ?_))
                 ·(try dsimp only)
                  exact (eJ.out _ (da QR.out AL.out)).2.2.2.1
                 clear hK K;try simp only [Act.put, qA, qB, qC]
                 refine acU (rs := [11]) (by kernel_rfl) (by simp) ?_;refine dz rfl (fun K hK => ?_) ?_
                 ·go_simp;go_at_call 46
                  refine (HD2.out).mono ?_;rintro e3 y3 ⟨rfl, h3⟩;have HC3 : Hid (Below wr.heap.size wr y3) := af (da AL.out h3);clear h3;first
                   | refine hK.out _ _ ?_ (fun hHeld => ?_)
                   | (go_wp2_with fail; refine hK.out _ _ ?_ (fun hHeld => ?_))
                  ·(try dsimp only)
                   exact (eJ.out _ (da QR.out HC3.out)).2.2.2.1
                  clear hK K;try simp only [Act.put, qA, qB, qC]
                  refine ao 12 rfl ?_;refine ao 13 rfl ?_;refine adO (by kernel_rfl) ?_ _;clear hHeld;have QS := af (da HQ8.out HC3.out);go_wp2_with fail
                  go_roundw;case rel => exact ⟨jj + 1, by omega, rfl, by go_num, af QS.out⟩
                  case measure => simp [intOf]; omega
                 exact acR
                exact acR
               exact acR
              ·go_wp2;go_ret;exact ⟨rfl, QR.out⟩
            exact acR
           exact acR
          exact acR
         exact acR
        exact acR
       exact acR
      exact acR
     exact acR
    exact acR
   exact acR
  exact acR
 exact acR
end Go.Proofs.YtionbmlicmibgaaGreatDoor
