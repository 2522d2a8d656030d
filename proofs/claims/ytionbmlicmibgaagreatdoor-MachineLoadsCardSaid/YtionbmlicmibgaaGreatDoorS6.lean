import Derived.Test.YtionbmlicmibgaaGreatDoorS5
import Derived.Test.YtionbmlicmibgaaGreatDoorSpArg
set_option linter.unusedVariables false
set_option linter.unusedSimpArgs false
namespace Go.Proofs.YtionbmlicmibgaaGreatDoor
open Go.Proofs.Tryz
set_option maxRecDepth 200000
set_option maxHeartbeats 8000000
open Go.RowKit
open Go.RowKit Go.Sort
def mJ (s : Sp) (a : List Sp × Bool) (x : Sp) : List Sp × Bool := if a.2 = false ∧ nk s x = true then (a.1 ++ [s] ++ [x], true) else (a.1 ++ [x], a.2)
def foldI (s : Sp) (l : List Sp) (a : List Sp × Bool) : List Sp × Bool := l.foldl (mJ s) a
def MK (s : Sp) (a : List Sp × Bool) : List Sp := if a.2 then a.1 else a.1 ++ [s]
theorem ly (s : Sp) : ∀ (l : List Sp) (a : List Sp), foldI s l (a, true) = (a ++ l, true)
 | [], a => by simp [foldI]
 | x :: r, a => by
  have := ly s r (a ++ [x]);unfold foldI at this ⊢;rw [List.foldl_cons, mJ, acO (by simp), this];simp
theorem yf (s : Sp) : ∀ (l : List Sp) (a : List Sp), MK s (foldI s l (a, false)) = a ++ ml s l
 | [], a => by simp [foldI, MK, ml]
 | x :: r, a => by
  unfold foldI;rw [List.foldl_cons, mJ];by_cases h : nk s x = true
  ·rw [acW ⟨rfl, h⟩];have := ly s r (a ++ [s] ++ [x]);unfold foldI at this;rw [this, ml, acW h];simp [MK]
  ·rw [acO (fun hh => h hh.2)];have := yf s r (a ++ [x]);unfold foldI at this;rw [this, ml, acO h];simp
theorem Fi {s : Sp} {l : List Sp} {k : Nat} {x : Sp} (h : l[k]? = some x) (a : List Sp × Bool) : foldI s (l.take (k + 1)) a = mJ s (foldI s (l.take k) a) x := by
 unfold foldI;rw [ac5, h, List.foldl_append];rfl
theorem qP (s : Sp) : ∀ (l : List Sp) (a : List Sp × Bool), (foldI s l a).1.length ≤ a.1.length + l.length + 1
 | l, (a, true) => by rw [ly]; simp
 | [], (a, false) => by simp [foldI]
 | x :: r, (a, false) => by
  unfold foldI;rw [List.foldl_cons, mJ];by_cases h : nk s x = true
  ·rw [acW ⟨rfl, h⟩];have := ly s r (a ++ [s] ++ [x]);unfold foldI at this;rw [this];simp;omega
  ·rw [acO (fun hh => h hh.2)];have := qP s r (a ++ [x], false);unfold foldI at this;simp only [acH, acZ, ad8] at this ⊢;omega
def pO (l : List Sp) : List Sp := l.foldl (fun a s => ml s a) []
theorem Fj {l : List Sp} {k : Nat} {x : Sp} (h : l[k]? = some x) : pO (l.take (k + 1)) = ml x (pO (l.take k)) := by
 unfold pO;rw [ac5, h, List.foldl_append];rfl
theorem Js (l : List Sp) : (pO l).length = l.length := by
 have := (rI l []).length_eq
 simpa [pO] using this
theorem mj {w : World} {v : Value} {l : List Sp} (hv : iY w v l) (hl : l.length ≤ 1000) : Calls prog 159 #[v] w fun e w' => ∃ v', e = .returned v' ∧ aI w.heap.size w' v' (aQ l) ∧ Below w.heap.size w w' := by
 rw [← Jc];obtain ⟨p, n, c, rfl⟩ := hv.sl;obtain ⟨hn, Xh, kO⟩ := hv.len;have HV := af hv;have HN := af hn;have zy : n ≤ 1000 := by omega
 clear hv hn hl;go_enter func159, ntmps159
 go_wp2_with fail
 go_loopw [3, 5, 6, 7, 9, 12, 16, 17, 18] (fun v _ _ _ _ c _ _ _ wr => ∃ k : Nat, k ≤ n ∧ c = .int .i64 k ∧ Hid (aI w.heap.size wr v (pO (l.take k)) ∧ RowKit.Below w.heap.size w wr)) (fun _ _ _ _ _ c _ _ _ _ => n - (intOf c).toNat)
 case atStart => exact ⟨0, by omega, rfl, af ⟨aI.nil _ _, acG _ _⟩⟩
 case round =>
  obtain ⟨k, hk, rfl, HR⟩ := hrel;by_cases bd : (k : Int) < (n : Int)
  ·obtain ⟨g, o, rfl, hx⟩ := HV.out.at_ (by omega);obtain ⟨s, hsk⟩ : ∃ x, l[k]? = some x := ⟨_, acF (by have := HN.out; omega)⟩
   have aG := (hx k s hsk).below HR.out.2;obtain ⟨oo, iu⟩ : ∃ oo, o + k * 6 = oo := ⟨_, rfl⟩
   rw [iu] at aG;have c0 := aG.c0;have c1' := aG.c1;have c2' := aG.c2;have c3' := aG.c3;have c4' := aG.c4;have c5' := aG.c5;have HSK := af hsk;obtain ⟨pu, nu, cu, rfl⟩ := HR.out.1.gp.sl;have hnu := HR.out.1.gp.len.1;have Yw : (pO (l.take k)).length = k := by rw [Js, ac6]; have := HN.out; omega
   have acv : nu ≤ 1000 := by omega
   have Es := af hnu;have HNK := af Yw;obtain ⟨t, i, p', st, en, nm⟩ := s;dsimp only at *;clear hx hsk aG hnu Yw;go_wp2_with fail
   obtain ⟨W1, Yx⟩ : ∃ W, wr.alloc (.cells #[.int .i64 t, .int .i64 i, .int .i64 p', .int .i64 st, .int .i64 en, .string nm] 30) = W := ⟨_, rfl⟩
   have vZ : RowKit.Below wr.heap.size wr W1 := by rw [← Yx]; exact (acG _ _).alloc (acE _) _
   have U_ : cj W1 wr.heap.size 0 ⟨t, i, p', st, en, nm⟩ := by rw [← Yx]; exact az wr ⟨t, i, p', st, en, nm⟩
   have fC : wr.heap.size < W1.heap.size := by rw [← Yx]; simp
   obtain ⟨b, hb⟩ : ∃ b, wr.heap.size = b := ⟨_, rfl⟩
   have aS := af (show RowKit.Below w.heap.size w W1 from HR.out.2.trans (vZ.mono HR.out.2.size));have eL := af (show cj W1 b 0 ⟨t, i, p', st, en, nm⟩ by rw [← hb]; exact U_);have O_ := af (show b < W1.heap.size by rw [← hb]; exact fC);have Uj := HR.out.1.gp.below vZ;obtain ⟨O, hO⟩ : ∃ O, pO (l.take k) = O := ⟨_, rfl⟩
   have nO : pO (l.take (k + 1)) = ml ⟨t, i, p', st, en, nm⟩ O := by rw [Fj HSK.out, hO]
   have Uk := Es.out;have Ul := HNK.out;rw [hO] at Uj Uk Ul;have abp := af Uj;have HNQ := af nO;have Um := af (acD Uk Ul);have ML := af (fun x W => Ct ⟨t, i, p', st, en, nm⟩ x W);unfold dZ at ML;dsimp only at ML;rw [Yx, hb];clear Yx vZ U_ fC hb Uj nO Uk Ul hO c0 c1' c2' c3' c4' c5' iu;go_loopw [6, 7, 9, 18] (fun u d _ j wi => ∃ (m : Nat) (a : List Sp) (f : Bool), m ≤ nu ∧ j = .int .i64 m ∧ d = .bool f ∧ Hid ((a, f) = foldI ⟨t, i, p', st, en, nm⟩ (O.take m) ([], false) ∧ aI W1.heap.size wi u a ∧ RowKit.Below W1.heap.size W1 wi)) (fun _ _ _ j _ => nu - (intOf j).toNat)
   case atStart => exact ⟨0, [], false, by omega, rfl, rfl, af ⟨rfl, aI.nil _ _, acG _ _⟩⟩
   case round =>
    obtain ⟨m, a, f, hm, rfl, rfl, H⟩ := hrel;by_cases oq : (m : Int) < (nu : Int)
    ·obtain ⟨g3, o3, rfl, Yy⟩ := abp.out.at_ (by omega);obtain ⟨x, hxm⟩ : ∃ x, O[m]? = some x := ⟨_, acF (by have := Um.out.1; omega)⟩
     have Cy := (Yy m x hxm).below H.out.2.2;obtain ⟨o4, iP⟩ : ∃ o4, o3 + m * 6 = o4 := ⟨_, rfl⟩
     rw [iP] at Cy;have x0 := Cy.c0;have x1 := Cy.c1;have x2 := Cy.c2;have x3 := Cy.c3;have x4 := Cy.c4;have x5 := Cy.c5;have cn := Fi (s := ⟨t, i, p', st, en, nm⟩) hxm ([], false);rw [← H.out.1] at cn;have eH := af cn;have lV := qP ⟨t, i, p', st, en, nm⟩ (O.take m) ([], false);rw [← H.out.1, ac6] at lV;have Yz : a.length ≤ 2000 := by have := Um.out; simp only [ad8] at lV; omega
     have Df := af Yz;have YA := af (fun W => az W x);have HLQ := af (fun W => ML.out x W);obtain ⟨t', i', q', st', Du, wL⟩ := x;dsimp only at *;clear Yy hxm Cy cn lV Yz;have ZK := af (show W1.heap.size ≤ wr.heap.size from H.out.2.2.size);have dH := af (show RowKit.Below wr.heap.size wr (wr.alloc (.cells #[.int .i64 t', .int .i64 i', .int .i64 q', .int .i64 st', .int .i64 Du, .string wL] 30)) from (acG _ _).alloc (acE _) _);have HNW := af (YA.out wr);obtain ⟨y0, y1, y2, y3, y4, y5⟩ := ((eL.out.below H.out.2.2).below dH.out).z;dsimp only at y0 y1 y2 y3 y4 y5;cases f
     ·go_wp2_with fail
      refine (HLQ.out _).mono ?_;rintro e2 w2 ⟨rfl, aP⟩;have hw2 : RowKit.Below wr.heap.size wr w2 := dH.out.trans (aP.mono dH.out.size);have Ui := HNW.out.below aP;have Cz := H.out.2.1.below hw2;have eF := (eL.out.below H.out.2.2).below hw2;have HW2 := af (show RowKit.Below W1.heap.size W1 w2 from H.out.2.2.trans (hw2.mono H.out.2.2.size));have t_ := af Cz;obtain ⟨y0, y1, y2, y3, y4, y5⟩ := eF.z;obtain ⟨z0, z1, z2, z3, z4, z5⟩ := Ui.z;dsimp only at y0 y1 y2 y3 y4 y5 z0 z1 z2 z3 z4 z5;have rh := af Ui;have MN := af HW2.out.size;clear aP hw2 Ui Cz eF;cases PV : nk ⟨t, i, p', st, en, nm⟩ ⟨t', i', q', st', Du, wL⟩
      ·have hst : mJ ⟨t, i, p', st, en, nm⟩ (a, false) ⟨t', i', q', st', Du, wL⟩ = (a ++ [⟨t', i', q', st', Du, wL⟩], false) := by unfold mJ; rw [acO (by rw [PV]; simp)]
       have MO := af (eH.out.trans hst);clear hst PV;go_wp2_with (at_builtin; go_must (refine dI (v := u6) rfl _ _ rfl rfl ⟨t', i', q', st', Du, wL⟩ rfl rfl t_.out MN.out (by have := Df.out; omega) ?_); intro v5 w5 bP aL ik)
       go_roundw;case rel => exact ⟨m + 1, a ++ [⟨t', i', q', st', Du, wL⟩], false, by omega, by go_num, rfl, af ⟨MO.out.symm, bP, HW2.out.trans aL⟩⟩
       case measure => simp [intOf]; omega
      ·have hst : mJ ⟨t, i, p', st, en, nm⟩ (a, false) ⟨t', i', q', st', Du, wL⟩ = (a ++ [⟨t, i, p', st, en, nm⟩] ++ [⟨t', i', q', st', Du, wL⟩], true) := by unfold mJ; rw [acW ⟨rfl, PV⟩]
       have MO := af (eH.out.trans hst);have HUB := af (show ∀ q, u6.ownBlock = some q → q ≠ wr.heap.size from fun q hq e => by have := (H.out.2.1.lt q hq).2; omega);clear hst PV;have abq := af (show u6.ownBlock ≠ some wr.heap.size from fun e => HUB.out _ e rfl);have YB : True := aev;clear z0 z1 z2 z3 z4 z5;go_wp2_with (at_builtin; first
        | (have _t := YB; go_must (refine dI (v := u6) rfl _ _ rfl rfl ⟨t, i, p', st, en, nm⟩ rfl rfl t_.out MN.out (by have := Df.out; omega) ?_); intro v5 w5 bP aL ik; clear YB; obtain ⟨z0, z1, z2, z3, z4, z5⟩ := (rh.out.grown ik abq.out).z; dsimp only at z0 z1 z2 z3 z4 z5; have ql := af (acD bP aL); have Ap := af (acN MN.out (show w2.heap.size ≤ w5.heap.size from ik.size)); clear bP aL ik)
        | (go_must (refine dI (v := v5) rfl _ _ rfl rfl ⟨t', i', q', st', Du, wL⟩ rfl rfl ql.out.1 Ap.out (by have := Df.out; simp; omega) ?_); intro v7 w7 nE cZ qb))
       go_roundw;case rel => exact ⟨m + 1, a ++ [⟨t, i, p', st, en, nm⟩] ++ [⟨t', i', q', st', Du, wL⟩], true, by omega, by go_num, rfl, af ⟨MO.out.symm, nE, (HW2.out.trans ql.out.2).trans cZ⟩⟩
       case measure => simp [intOf]; omega
     ·have hst : mJ ⟨t, i, p', st, en, nm⟩ (a, true) ⟨t', i', q', st', Du, wL⟩ = (a ++ [⟨t', i', q', st', Du, wL⟩], true) := by unfold mJ; rw [acO (by simp)]
      have MO := af (eH.out.trans hst);have Cz := H.out.2.1.below dH.out;have t_ := af Cz;clear hst Cz;obtain ⟨W2, hW2⟩ : ∃ W2, wr.alloc (.cells #[.int .i64 t', .int .i64 i', .int .i64 q', .int .i64 st', .int .i64 Du, .string wL] 30) = W2 := ⟨_, rfl⟩
      rw [hW2] at t_ dH;have MN := af (show W1.heap.size ≤ W2.heap.size from acN ZK.out dH.out.size);have HZW := af (HNW.out.z);rw [hW2] at HZW y0 y1 y2 y3 y4 y5;obtain ⟨z0, z1, z2, z3, z4, z5⟩ := HZW.out;dsimp only at z0 z1 z2 z3 z4 z5;go_wp2_with (at_builtin; go_must (refine dI (v := u6) rfl _ _ rfl rfl ⟨t', i', q', st', Du, wL⟩ rfl rfl t_.out MN.out (by have := Df.out; omega) ?_); intro v5 w5 bP aL ik)
      go_roundw;case rel => exact ⟨m + 1, a ++ [⟨t', i', q', st', Du, wL⟩], true, by omega, by go_num, rfl, af ⟨MO.out.symm, bP, (H.out.2.2.trans (dH.out.mono H.out.2.2.size)).trans aL⟩⟩
      case measure => simp [intOf]; omega
    ·have hmn : m = nu := by omega
     subst hmn;have MP : (a, f) = foldI ⟨t, i, p', st, en, nm⟩ O ([], false) := by
      have := H.out.1
      rwa [acY (by have := Um.out; omega)] at this
     have Un := yf ⟨t, i, p', st, en, nm⟩ O [];rw [← MP, adE] at Un;have YC := af Un;have lV := qP ⟨t, i, p', st, en, nm⟩ O ([], false);rw [← MP] at lV;have Df := af (show a.length ≤ 2000 by have := Um.out; simp only [ad8] at lV; omega);obtain ⟨y0, y1, y2, y3, y4, y5⟩ := (eL.out.below H.out.2.2).z;dsimp only at y0 y1 y2 y3 y4 y5;have ib := af H.out.2.1;have HW := af H.out.2.2;have nR := af H.out.2.2.size;clear MP Un lV;cases f
     ·go_wp2_with (at_builtin; go_must (refine dI (v := u6) rfl _ _ rfl rfl ⟨t, i, p', st, en, nm⟩ rfl rfl ib.out nR.out (by have := Df.out; omega) ?_); intro v5 w5 bP aL ik)
      go_roundw;case rel =>
       have h1 := YC.out;unfold MK at h1;refine ⟨k + 1, by omega, by go_num, af ⟨?_, aS.out.trans ((HW.out.trans aL).mono aS.out.size)⟩⟩;rw [HNQ.out, ← h1];exact bP.mono aS.out.size
      case measure => simp [intOf]; omega
     ·go_wp2;go_roundw;case rel =>
       have h1 := YC.out;unfold MK at h1;refine ⟨k + 1, by omega, by go_num, af ⟨?_, aS.out.trans (HW.out.mono aS.out.size)⟩⟩;rw [HNQ.out, ← h1];exact ib.out.mono aS.out.size
      case measure => simp [intOf]; omega
  ·have EJ : k = n := by omega
   subst EJ;have aM : aI w.heap.size wr u3 (Mr l) := by
    have := HR.out.1
    rwa [acY (by have := HN.out; omega)] at this
   have ib := af aM;clear aM;go_wp2;go_ret;exact ⟨_, rfl, ib.out, HR.out.2⟩
theorem Gv {W : World} {r : Nat} (hA : W.heap[r]? = some (.cells #[.int .i64 0, .int .i64 0, .int .i64 0, .int .i64 0, .int .i64 0, .string ⟨#[]⟩] 30)) (x : Sp) : cj ((((((W.setCell ⟨r, 0, none⟩ (.int .i64 x.t)).setCell ⟨r, 1, none⟩ (.int .i64 x.i)).setCell ⟨r, 2, none⟩ (.int .i64 x.p)).setCell ⟨r, 3, none⟩ (.int .i64 x.s)).setCell ⟨r, 4, none⟩ (.int .i64 x.e)).setCell ⟨r, 5, none⟩ (.string x.n)) r 0 x := by
 have q0 := acK W r 0 _ 30 (.int .i64 x.t) hA;have q1 := acK _ r 1 _ 30 (.int .i64 x.i) q0;have q2 := acK _ r 2 _ 30 (.int .i64 x.p) q1;have q3 := acK _ r 3 _ 30 (.int .i64 x.s) q2;have q4 := acK _ r 4 _ 30 (.int .i64 x.e) q3;have q5 := acK _ r 5 _ 30 (.string x.n) q4;intro k u hk;have QU : k < 6 := by
  have := acL.1 hk;obtain ⟨h, _⟩ := this
  simpa [fW] using h
 have hq := acC _ r (0 + k) _ 30 (0, 0) q5;rw [hq, ac2, ← hk];clear hq q0 q1 q2 q3 q4 q5 hA hk;rcases k with _ | _ | _ | _ | _ | _ | k;all_goals first | rfl | omega
theorem yh {B : Nat} {w W : World} (h : Below B w W) {r : Nat} (hr : B ≤ r) (v0 v1 v2 v3 v4 v5 : Value) : Below B w ((((((W.setCell ⟨r, 0, none⟩ v0).setCell ⟨r, 1, none⟩ v1).setCell ⟨r, 2, none⟩ v2).setCell ⟨r, 3, none⟩ v3).setCell ⟨r, 4, none⟩ v4).setCell ⟨r, 5, none⟩ v5) :=
 zM (zM (zM (zM (zM (zM h hr) hr) hr) hr) hr) hr
def pY (w : World) (g : Nat) (tr : Int) (L : List Sp) : Prop := w.cell? ⟨g, 0, none⟩ = some (.int .i64 tr) ∧ ∃ v, w.cell? ⟨g, 1, none⟩ = some v ∧ iY w v L
theorem jS {w : World} {g : Nat} {tr : Int} {L : List Sp} (h : pY w g tr L) (k : Int) : Calls prog 156 #[.pointer (some ⟨g, 0, none⟩), .int .i64 k] w fun e w' => e = .returned (.tuple #[dZ ((bI L k).getD BP), .bool (bI L k).isSome]) ∧ Below w.heap.size w w' := by
 obtain ⟨c0, v, c1, hv⟩ := h;obtain ⟨p, n, c, rfl⟩ := hv.sl;have jD := lt_of_cell c0;have hgn : g ≠ w.heap.size := by simp only at jD; omega
 have im : (n : Int) ≤ 9223372036854775807 := by have := hv.len; unfold maxLen at this; omega
 have HV := af hv;clear hv;go_enter func156, ntmps156
 go_wp2_with fail
 obtain ⟨w1, Ry⟩ : ∃ w1, w.alloc (.cells #[.int .i64 0, .int .i64 0, .int .i64 0, .int .i64 0, .int .i64 0, .string ⟨#[]⟩] 30) = w1 := ⟨_, rfl⟩
 rw [Ry];have aM : w1.heap[w.heap.size]? = some (.cells #[.int .i64 0, .int .i64 0, .int .i64 0, .int .i64 0, .int .i64 0, .string ⟨#[]⟩] 30) := by rw [← Ry]; exact acQ w _
 have aK : Below w.heap.size w w1 := by rw [← Ry]; exact (acG _ _).alloc (acE _) _
 have tW : w1.heap.size = w.heap.size + 1 := by rw [← Ry]; simp
 have ib := af aM;have aS := af aK;have nR := af tW;clear aM aK tW Ry;go_loopw [7, 13] (fun _ i wr => ∃ j : Nat, j ≤ n ∧ i = .int .i64 j ∧ Hid (Below w1.heap.size w1 wr ∧ bI L k = bI (L.drop j) k)) (fun _ i _ => n - (intOf i).toNat)
 case atStart => exact ⟨0, adq _, rfl, af ⟨acG _ _, by rw [afc]⟩⟩
 case round =>
  obtain ⟨j, hj, rfl, hrel⟩ := hrel;obtain ⟨oZ, Zp⟩ := hrel.out;have aM : wr.heap[w.heap.size]? = some (.cells #[.int .i64 0, .int .i64 0, .int .i64 0, .int .i64 0, .int .i64 0, .string ⟨#[]⟩] 30) := (oZ.block w.heap.size (by have := nR.out; omega)).trans ib.out;have nQ : w.heap.size < wr.heap.size := by have := oZ.size; have := nR.out; omega
  have acw : w.heap.size ≠ wr.heap.size := by omega
  have b0 := acC wr w.heap.size 0 _ 30 (0, 0) aM;have b1 := acC wr w.heap.size 1 _ 30 (0, 0) aM;have b2 := acC wr w.heap.size 2 _ 30 (0, 0) aM;have b3 := acC wr w.heap.size 3 _ 30 (0, 0) aM;have b4 := acC wr w.heap.size 4 _ 30 (0, 0) aM;have b5 := acC wr w.heap.size 5 _ 30 (0, 0) aM;have f0 := acI wr w.heap.size 0 _ 30 aM;have f1 := acI wr w.heap.size 1 _ 30 aM;have f2 := acI wr w.heap.size 2 _ 30 aM;have f3 := acI wr w.heap.size 3 _ 30 aM;have f4 := acI wr w.heap.size 4 _ 30 aM;have f5 := acI wr w.heap.size 5 _ 30 aM;have nh := af aM;have O_ := af oZ;have J_ := af Zp;clear aM oZ Zp hrel;by_cases hjn : (j : Int) < (n : Int)
  ·obtain ⟨gs, o, rfl, aG⟩ := HV.out.at_ (by omega);have hn := HV.out.len.1;obtain ⟨x, hx⟩ : ∃ x, L[j]? = some x := ⟨_, acF (by omega)⟩
   have Uo := (((aG j x hx).below aS.out).below O_.out)
   have e0 := Uo.c0;have e1 := Uo.c1;have e2 := Uo.c2;have e3 := Uo.c3;have e4 := Uo.c4;have e5 := Uo.c5;have RA : L.drop j = x :: L.drop (j + 1) := List.drop_eq_getElem?_toList_append.trans (by rw [hx]; rfl);have HD := af RA;have HX := af hx;clear aG hx Uo RA;by_cases hk : x.i = k
   ·subst hk;have dt : bI L x.i = some x := by rw [J_.out, HD.out]; unfold bI; simp
    have cY := af dt;clear dt;go_wp2;have h6 := Gv nh.out x;have pP := yh (aS.out.trans (O_.out.mono (by have := nR.out; omega))) (acE w.heap.size) (.int .i64 x.t) (.int .i64 x.i) (.int .i64 x.p) (.int .i64 x.s) (.int .i64 x.e) (.string x.n);refine ac0 (v := .tuple #[dZ x, .bool true]) (by
     clear pP;generalize ((((((wr.setCell ⟨w.heap.size, 0, none⟩ (.int .i64 x.t)).setCell ⟨w.heap.size, 1, none⟩ (.int .i64 x.i)).setCell ⟨w.heap.size, 2, none⟩ (.int .i64 x.p)).setCell ⟨w.heap.size, 3, none⟩ (.int .i64 x.s)).setCell ⟨w.heap.size, 4, none⟩ (.int .i64 x.e)).setCell ⟨w.heap.size, 5, none⟩ (.string x.n)) = W9 at h6 ⊢;obtain ⟨m0, m1, m2, m3, m4, m5⟩ := h6.z;have kQ : w.heap.size < W9.heap.size := h6.lt;clear h6;unfold dZ;simp [results, results156, go_sem, m0, m1, m2, m3, m4, m5, kQ]) rfl ⟨by rw [cY.out]; rfl, pP.alloc pP.size _⟩
   ·have nO : bI L k = bI (L.drop (j + 1)) k := by
     rw [J_.out, HD.out];unfold bI;rw [adx, adj.2 hk]
    have Ak := af nO;clear nO;go_wp2;go_roundw;case rel => exact ⟨j + 1, by omega, by go_num, af ⟨O_.out.alloc O_.out.size _, Ak.out⟩⟩
    case measure => simp [intOf]; omega
  ·have dt : bI L k = none := by
    have hn := HV.out.len.1;rw [J_.out, aei (by omega)];rfl
   have cY := af dt;clear dt;go_wp2;have h6 := Gv nh.out ⟨0, 0, 0, 0, 0, ⟨#[]⟩⟩;dsimp only at h6;have pP := yh (aS.out.trans (O_.out.mono (by have := nR.out; omega))) (acE w.heap.size) (.int .i64 0) (.int .i64 0) (.int .i64 0) (.int .i64 0) (.int .i64 0) (.string ⟨#[]⟩);refine ac0 (v := .tuple #[.agg #[.int .i64 0, .int .i64 0, .int .i64 0, .int .i64 0, .int .i64 0, .string ⟨#[]⟩], .bool false]) (by
    clear pP;generalize ((((((wr.setCell ⟨w.heap.size, 0, none⟩ (.int .i64 0)).setCell ⟨w.heap.size, 1, none⟩ (.int .i64 0)).setCell ⟨w.heap.size, 2, none⟩ (.int .i64 0)).setCell ⟨w.heap.size, 3, none⟩ (.int .i64 0)).setCell ⟨w.heap.size, 4, none⟩ (.int .i64 0)).setCell ⟨w.heap.size, 5, none⟩ (.string ⟨#[]⟩)) = W9 at h6 ⊢;obtain ⟨m0, m1, m2, m3, m4, m5⟩ := h6.z;have kQ : w.heap.size < W9.heap.size := h6.lt;clear h6;simp [results, results156, go_sem, m0, m1, m2, m3, m4, m5, kQ]) rfl ⟨by rw [cY.out]; rfl, pP⟩
theorem pY.below {w w' : World} {g : Nat} {tr : Int} {L : List Sp} (h : pY w g tr L) (hb : Below w.heap.size w w') : pY w' g tr L := by
 obtain ⟨c0, v, c1, hv⟩ := h;exact ⟨(hb.cell (lt_of_cell c0)).trans c0, v, (hb.cell (lt_of_cell c1)).trans c1, hv.below hb⟩
theorem BQ {w : World} {g : Nat} {tr : Int} {L : List Sp} (h : pY w g tr L) (aT : dT tr L) (x : Sp) (aN : x.p ≠ x.i) : Calls prog 157 #[.pointer (some ⟨g, 0, none⟩), dZ x] w fun e w' => e = .returned (.bool (ring L x.i x.p)) ∧ Below w.heap.size w w' := by
 have dt : ring L x.i x.p = iF L x.i L.length x.p := (EW aT.rises aN).symm;rw [dt];have uJ := aT.len;have bg := az w x;have aK := (acG w.heap.size w).alloc (acE _) (.cells #[.int .i64 x.t, .int .i64 x.i, .int .i64 x.p, .int .i64 x.s, .int .i64 x.e, .string x.n] 30);have HR := af (h.below aK);have aS := af aK;have qw := af bg;obtain ⟨_, vL, c1, Fl⟩ := h.below aK;obtain ⟨pL, nL, cL, rfl⟩ := Fl.sl;obtain rfl : nL = L.length := Fl.len.1;have rW := af c1;clear h aK bg Fl dt aT;obtain ⟨t, i, q, s, en, nn⟩ := x;unfold dZ;dsimp only at *;go_enter func157, ntmps157
 go_wp2_with fail
 obtain ⟨X, hX⟩ : ∃ X, w.alloc (.cells #[.int .i64 t, .int .i64 i, .int .i64 q, .int .i64 s, .int .i64 en, .string nn] 30) = X := ⟨_, rfl⟩
 obtain ⟨gx, wx⟩ : ∃ g, w.heap.size = g := ⟨_, rfl⟩
 rw [hX] at HR aS qw rW;rw [wx] at qw;rw [hX, wx];clear hX wx c1;go_loopw [5, 6, 7, 15] (fun v5 _ _ ix wr => ∃ (k : Nat) (a : Int), k ≤ L.length ∧ v5 = .int .i64 a ∧ ix = .int .i64 k ∧ Hid (RowKit.Below X.heap.size X wr ∧ iF L i L.length q = iF L i (L.length - k) a)) (fun _ _ _ ix _ => L.length - (intOf ix).toNat)
 case atStart => exact ⟨0, q, by omega, rfl, rfl, af ⟨acG _ _, rfl⟩⟩
 case round =>
  obtain ⟨k, a, hk, rfl, rfl, HJ⟩ := hrel;have hx := qw.out.below HJ.out.1;have k1 := hx.c1;dsimp only [ac2] at k1;have HX := af hx;clear hx;by_cases bd : k < L.length
  ·have oq : (k : Int) < (L.length : Int) := by omega
   have XH := af (jS (HR.out.below HJ.out.1) a);obtain ⟨m, hm⟩ : ∃ m, L.length - k = m + 1 := ⟨L.length - k - 1, by omega⟩
   go_wp2_with fail
   refine XH.out.mono ?_;rintro e5 w5 ⟨rfl, aL⟩;obtain ⟨u, hu⟩ : ∃ u, (bI L a).getD BP = u := ⟨_, rfl⟩
   rw [hu];have Av := (HX.out.below aL)
   have bK := (acG w5.heap.size w5).alloc (acE _) (.cells #[.int .i64 u.t, .int .i64 u.i, .int .i64 u.p, .int .i64 u.s, .int .i64 u.e, .string u.n] 30);have hx6 := Av.below bK;have pP := (HJ.out.1.trans (aL.mono HJ.out.1.size)).trans (bK.mono (HJ.out.1.trans (aL.mono HJ.out.1.size)).size);have x1 := hx6.c1;dsimp only [ac2] at x1;have oL := af pP;clear aL Av bK hx6 pP;unfold dZ;cases hf : bI L a with
   | none =>
    have hr : iF L i (L.length - k) a = (a == i) := by rw [hm]; unfold iF; rw [hf]
    have cY := af (HJ.out.2.trans hr);clear hr hf;go_wp2;go_ret;refine ⟨?_, (aS.out.trans (oL.out.mono aS.out.size))⟩;rw [cY.out];rfl
   | some u2 =>
    rw [hf, aep] at hu;subst hu;by_cases hp : u2.p = i
    ·have hr : iF L i (L.length - k) a = true := by rw [hm]; unfold iF; rw [hf]; simp only [acW hp]
     have cY := af (HJ.out.2.trans hr);subst hp;clear hr hf;go_wp2;go_ret;exact ⟨by rw [cY.out]; rfl, (aS.out.trans (oL.out.mono aS.out.size))⟩
    ·have hr : iF L i (L.length - k) a = iF L i m u2.p := by rw [hm]; conv => lhs; unfold iF; rw [hf]; simp only [acO hp]
     have cY := af (HJ.out.2.trans hr);have hpb : (u2.p == i) = false := adj.2 hp;clear hr hf;go_wp2;all_goals
      go_roundw;case rel => exact ⟨k + 1, u2.p, by omega, rfl, by go_num, af ⟨oL.out, by rw [cY.out]; congr 1; omega⟩⟩
      case measure => simp [intOf]; omega
  ·have Zn : L.length - k = 0 := by omega
   have hr : iF L i (L.length - k) a = (a == i) := by rw [Zn]; rfl
   have cY := af (HJ.out.2.trans hr);have oq : ¬ (k : Int) < (L.length : Int) := by omega
   clear hr;go_wp2;go_ret;refine ⟨?_, (aS.out.trans (HJ.out.1.mono aS.out.size))⟩;rw [cY.out];rfl
theorem Jt (l : List Sp) (x : Sp) : dQ (l ++ [x]) = max x.e (dQ l) := by
 rw [yd (List.perm_append_comm (l₁ := l) (l₂ := [x]))];rfl
theorem EG {w : World} {g : Nat} {tr : Int} {L : List Sp} (h : pY w g tr L) (aT : dT tr L) : Calls prog 119 #[.pointer (some ⟨g, 0, none⟩)] w fun e w' => e = .returned (.int .i64 (dQ L)) ∧ Below w.heap.size w w' := by
 obtain ⟨_, vL, c1, Fl⟩ := h;obtain ⟨pL, nL, cL, rfl⟩ := Fl.sl;obtain rfl : nL = L.length := Fl.len.1;have uJ := aT.len;have fh := af aT;have HV := af Fl;clear Fl aT;go_enter func119, ntmps119
 go_wp2_with fail
 go_loopw [3, 5, 11] (fun v3 _ ix wr => ∃ k : Nat, k ≤ L.length ∧ v3 = .int .i64 (dQ (L.take k)) ∧ ix = .int .i64 k ∧ Hid (RowKit.Below w.heap.size w wr)) (fun _ _ ix _ => L.length - (intOf ix).toNat)
 case atStart => exact ⟨0, by omega, rfl, rfl, af (acG _ _)⟩
 case round =>
  obtain ⟨k, hk, rfl, rfl, HR⟩ := hrel;obtain ⟨n, hn⟩ : ∃ n, dQ (L.take k) = n := ⟨_, rfl⟩
  rw [hn];have UY : 0 ≤ n ∧ n ≤ 1099511627776 := by
   rw [← hn];refine Gr fun x hx => ?_;exact ((Sp.aO x).1 (fh.out.ok x (adD hx)).1).e2
  have HN := af hn;obtain ⟨VL, zy⟩ := UY;clear hn;by_cases bd : (k : Int) < (L.length : Int)
  ·obtain ⟨gv, ov, rfl, hx⟩ := HV.out.at_ (by omega);obtain ⟨x, dC⟩ : ∃ x, L[k]? = some x := ⟨_, acF (by omega)⟩
   have aG := (hx k x dC).below HR.out;obtain ⟨oo, iu⟩ : ∃ oo, ov + k * 6 = oo := ⟨_, rfl⟩
   rw [iu] at aG;have z0 := aG.c0;have z1 := aG.c1;have z2 := aG.c2;have z3 := aG.c3;have z4 := aG.c4;have z5 := aG.c5;have cn : dQ (L.take (k + 1)) = max x.e n := by
    rw [ac5, dC]
    show dQ (L.take k ++ [x]) = _
    rw [Jt, HN.out]
   have eH := af cn;clear hx dC aG cn;obtain ⟨t, i, q, s, en, nn⟩ := x;dsimp only at *;by_cases hen : n < en;all_goals
    go_wp2;go_roundw;case rel => exact ⟨k + 1, by omega, by rw [eH.out]; first | rfl | (congr 1; omega), by go_num, af (HR.out.alloc HR.out.size _)⟩
    case measure => simp [intOf]; omega
  ·have J7 : k = L.length := by omega
   have kh : dQ L = n := by have := HN.out; rwa [acY (by omega)] at this
   have HF := af kh;clear kh;go_wp2;go_ret;exact ⟨by rw [HF.out]; rfl, HR.out⟩
def sj (S P : List Sp) (m : Nat) (k d : Int) : List Br := match m with
 | 0 => []
 | m + 1 => (kids P k).flatMap fun s => ⟨d, false, s⟩ :: fY S m s.i (d + 1)
theorem CB (S : List Sp) (m : Nat) (k d : Int) : sj S S m k d = fY S m k d := by
 cases m <;> rfl
theorem PW {S P : List Sp} {y : Sp} {m : Nat} {k d : Int} (h : y.p ≠ k ∨ m = 0) : sj S (P ++ [y]) m k d = sj S P m k d := by
 cases m with
 | zero => rfl
 | succ m =>
  rcases h with h | h
  ·unfold sj;rw [iV, acO h, adh]
  ·cases h
theorem MQ {S P : List Sp} {y : Sp} {m : Nat} {k d : Int} (h : y.p = k) : sj S (P ++ [y]) (m + 1) k d = sj S P (m + 1) k d ++ ⟨d, false, y⟩ :: fY S m y.i (d + 1) := by
 simp only [sj];rw [iV, acW h, adt];simp
theorem PX {S : List Sp} {m : Nat} {k d : Int} (j : Nat) : (sj S (S.take j) m k d).length ≤ (fY S m k d).length := by
 rw [← CB S m k d];cases m with
 | zero => exact acE _
 | succ m =>
  simp only [sj];have h1 : kids S k = kids (S.take j) k ++ kids (S.drop j) k := by
   unfold kids;rw [← aeC, aeb]
  rw [h1, adt, acH];omega
theorem rL {tr : Int} {L S : List Sp} (hS : aQ L = S) (uJ : L.length ≤ 64) (m : Nat) (k d : Int) (hd : d + m = 65) (Dp : 0 ≤ d)
  (ih : ∀ m', m = m' + 1 → ∀ {w : World} {g : Nat} (k : Int), pY w g tr L → (fY S m' k (d + 1)).length ≤ 1000 → Calls prog 160 #[.pointer (some ⟨g, 0, none⟩), .int .i64 k, .int .i64 (d + 1)] w fun e w' => ∃ v', e = .returned v' ∧ bQ w.heap.size w' v' (fY S m' k (d + 1)) ∧ Below w.heap.size w w')
  {w : World} {g : Nat} (h : pY w g tr L) (hlen : (fY S m k d).length ≤ 1000) :
  Calls prog 160 #[.pointer (some ⟨g, 0, none⟩), .int .i64 k, .int .i64 d] w fun e w' => ∃ v', e = .returned v' ∧ bQ w.heap.size w' v' (fY S m k d) ∧ Below w.heap.size w w' := by
 have hSl : S.length = L.length := by rw [← hS]; exact dp L
 have HR := af h;obtain ⟨_, vL, c1, Fl⟩ := h;obtain ⟨pL, nL, cL, rfl⟩ := Fl.sl;have Ff := af (mj Fl (by omega));have IH := af @ih;have IC := af hlen;have PO : S.length ≤ 64 := by omega
 have acx : d ≤ 65 := by omega
 rw [hS] at Ff;clear Fl ih hlen hS hSl;go_enter func160, ntmps160
 go_wp2_with fail
 refine Ff.out.mono ?_;rintro e1 X ⟨v1, rfl, mW, aK⟩;obtain ⟨pS, nS, cS, rfl⟩ := mW.gp.sl;obtain rfl : nS = S.length := mW.gp.len.1;have H1 := af (acD mW.gp (acD aK (HR.out.below aK)));clear mW aK c1;go_wp2_with fail
 go_loopw [7, 9, 16] (fun v7 _ ix wr => ∃ (j : Nat) (p : Option Addr) (n c : Nat), v7 = .slice p n c ∧ j ≤ S.length ∧ ix = .int .i64 j ∧ Hid (bQ X.heap.size wr (.slice p n c) (sj S (S.take j) m k d) ∧ RowKit.Below X.heap.size X wr)) (fun _ _ ix _ => S.length - (intOf ix).toNat)
 case atStart =>
  refine ⟨0, none, 0, 0, rfl, by omega, rfl, af ⟨?_, acG _ _⟩⟩;rw [List.take_zero, show sj S [] m k d = [] by cases m <;> rfl];exact bQ.nil _ _
 case round =>
  obtain ⟨j, p, n, c, rfl, hj, rfl, HJ⟩ := hrel;by_cases bd : (j : Int) < (S.length : Int)
  ·obtain ⟨gv, ov, rfl, hx⟩ := H1.out.1.at_ (by omega);obtain ⟨x, dC⟩ : ∃ x, S[j]? = some x := ⟨_, acF (by omega)⟩
   have aG := (hx j x dC).below HJ.out.2;obtain ⟨oo, iu⟩ : ∃ oo, ov + j * 6 = oo := ⟨_, rfl⟩
   rw [iu] at aG;have z0 := aG.c0;have z1 := aG.c1;have z2 := aG.c2;have z3 := aG.c3;have z4 := aG.c4;have z5 := aG.c5;have lk : S.take (j + 1) = S.take j ++ [x] := by rw [ac5, dC]; rfl
   have bg := az wr x;have vW := (acG wr.heap.size wr).alloc (acE _) (.cells #[.int .i64 x.t, .int .i64 x.i, .int .i64 x.p, .int .i64 x.s, .int .i64 x.e, .string x.n] 30);have HX := af (acD bg (acD (HJ.out.2.trans (vW.mono HJ.out.2.size)) (HJ.out.1.below vW)));have iB := af lk;have MR := PX (S := S) (m := m) (k := k) (d := d) (j + 1);have Fo := af MR;clear hx dC aG lk bg vW MR;by_cases YD : x.p = k ∧ m ≠ 0
   ·obtain ⟨hp, hm⟩ := YD;obtain ⟨m', rfl⟩ : ∃ m', m = m' + 1 := ⟨m - 1, by omega⟩
    have cn := MQ (S := S) (P := S.take j) (m := m') (d := d) hp;have YE : ∀ i, (Value.slice p n c).ownBlock = some i → i < wr.heap.size := fun i hi => (HJ.out.1.lt i hi).2;rw [← iB.out] at cn;have r_ : (sj S (S.take j) (m' + 1) k d).length + 1 + (fY S m' x.i (d + 1)).length ≤ 1000 := by
     have h1 := Fo.out;have h2 := IC.out;rw [cn, acH, acZ] at h1;omega
    have eH := af (acD cn (acD r_ YE));have XI : d ≤ 64 := by omega
    clear cn r_ YE;obtain ⟨t, i, q, s, en, nn⟩ := x;dsimp only at *;subst hp;go_wp2_with (at_builtin; go_must (refine fQ (v := .slice p n c) rfl _ _ rfl rfl ⟨d, false, ⟨t, i, q, s, en, nn⟩⟩ rfl rfl (by simp) HX.out.2.2 (by have := HX.out.2.1.size; exact this) (by have := eH.out.2.1; omega) ?_); go_loud (intro v5 w5 bP wP; obtain ⟨p5, n5, c5, rfl⟩ := bP.jK.sl; have Av : cj w5 wr.heap.size 0 ⟨t, i, q, s, en, nn⟩ := (fun a b hb => kH wP (HX.out.1 a b hb) (fun e => by have := eH.out.2.2 _ e; omega)); have aL := HX.out.2.1.grown wP.1 HX.out.2.1.size (fun a ha => (HJ.out.1.lt a ha).1); have y1 := Av.c1; try dsimp only [ac2] at y1; have H5 := af (acD bP aL); clear bP wP Av aL))
    have HC := af (IH.out m' rfl i (H1.out.2.2.below H5.out.2) (by have := eH.out.2.1; omega));refine HC.out.mono ?_;rintro e6 w6 ⟨v6, rfl, cw, bK⟩;obtain ⟨p6, n6, c6, rfl⟩ := cw.jK.sl;have H6 := af (acD (H5.out.1.below bK) (acD cw.jK (H5.out.2.trans (bK.mono H5.out.2.size))));have MS : X.heap.size ≤ w6.heap.size := H6.out.2.2.size;have Up := af MS;clear cw bK MS y1;go_wp2_with (at_builtin; go_must (refine mF rfl _ _ rfl rfl rfl rfl H6.out.1 H6.out.2.1 Up.out (by have := eH.out.2.1; rw [acH, aeF]; omega) ?_); intro v7 w7 nE cZ qb; obtain ⟨p7, n7, c7, rfl⟩ := nE.jK.sl; have H7 := af (acD nE (H6.out.2.2.trans cZ)); clear nE cZ qb)
    go_roundw;case rel =>
     refine ⟨j + 1, p7, n7, c7, rfl, by omega, by go_num, af ⟨?_, H7.out.2⟩⟩;rw [eH.out.1];have := H7.out.1
     simpa only [ac7, aeZ, adE] using this
    case measure => simp [intOf]; omega
   ·have fI : x.p ≠ k ∨ m = 0 := by omega
    have cn := PW (S := S) (P := S.take j) (d := d) fI;rw [← iB.out] at cn;have eH := af cn;clear cn YD;obtain ⟨t, i, q, s, en, nn⟩ := x;dsimp only at *;by_cases hp : q = k
    ·have Vt : m = 0 := by omega
     have ab3 : ¬ d ≤ 64 := by omega
     subst hp;go_wp2;go_roundw;case rel => exact ⟨j + 1, p, n, c, rfl, by omega, by go_num, af ⟨by rw [eH.out]; exact HX.out.2.2, HX.out.2.1⟩⟩
     case measure => simp [intOf]; omega
    ·have hpb : (q == k) = false := adj.2 hp;go_wp2;all_goals
      go_roundw;case rel => exact ⟨j + 1, p, n, c, rfl, by omega, by go_num, af ⟨by rw [eH.out]; exact HX.out.2.2, HX.out.2.1⟩⟩
      case measure => simp [intOf]; omega
  ·have hjS : j = S.length := by omega
   subst hjS;have kh := HJ.out.1;rw [ad9, CB] at kh;have HF := af (acD (kh.mono H1.out.2.1.size) (H1.out.2.1.trans (HJ.out.2.mono H1.out.2.1.size)));clear kh;go_wp2;go_ret;exact ⟨_, rfl, HF.out.1, HF.out.2⟩
theorem oG {tr : Int} {L S : List Sp} (hS : aQ L = S) (uJ : L.length ≤ 64) : ∀ (m : Nat) (k d : Int), d + m = 65 → 0 ≤ d → ∀ {w : World} {g : Nat}, pY w g tr L → (fY S m k d).length ≤ 1000 →
  Calls prog 160 #[.pointer (some ⟨g, 0, none⟩), .int .i64 k, .int .i64 d] w fun e w' => ∃ v', e = .returned v' ∧ bQ w.heap.size w' v' (fY S m k d) ∧ Below w.heap.size w w'
 | 0, k, d, hd, Dp, _, _, h, hlen => rL hS uJ 0 k d hd Dp (fun m' e => by omega) h hlen
 | m + 1, k, d, hd, Dp, _, _, h, hlen => rL hS uJ (m + 1) k d hd Dp (fun m' e {w g} k' h' J6 => by
   obtain rfl : m = m' := by omega
   exact oG hS uJ m k' (d + 1) (by omega) (by omega) h' J6) h hlen
theorem eN.below {w w' : World} (v : Value) (h : Below w.heap.size w w') : eN w v w' v := ⟨⟨h.os, h.tape, h.output, h.size, fun k hk _ => h.block k hk⟩, .inl rfl⟩
theorem CF {B : Nat} {w : World} {v u : Value} {l m : List Br} (h : bQ B w v l) (hu : tu w u m) (hB : B ≤ w.heap.size) (hs : (l.length + m.length) * 72 ≤ 140737488355328) :
  ∃ v' w', (Builtin.append_ #[88, 88] 88 #[v, u]).run prog w = .ok v' w' ∧ bQ B w' v' (l ++ m) ∧ eN w v w' v' := by
 obtain ⟨i0, eV, gu, fC, fD⟩ := adM Tryz.infoBr;obtain ⟨p, n, c, rfl⟩ := hu.sl;have hn := hu.len.1;by_cases h0 : n = 0
 ·subst h0;obtain rfl : m = [] := acP hn.symm;exact ⟨v, w, mD h p c, by rw [adh]; exact h, eN.refl _ _⟩
 ·obtain ⟨g, o, rfl, hx⟩ := hu.at_ (by omega);obtain ⟨v', w', hr, h1, h2, _, h4⟩ := adK (P := prog) w B 88 88 90 i0 _ 8 72 afn eV gu fC fD rfl (by decide) v l.length (l.flatMap pK) h ⟨g, o, none⟩ n c (m.flatMap pK) (by rw [qL, hn])
   (fun j u hj => by
    obtain ⟨x, o7, hk⟩ := uz hj;have := hx (j / 8) x o7 (j % 8) u hk;rw [show o + j / 8 * 8 + j % 8 = o + j by omega] at this;rw [bq];exact this)
   (fun u hu => by
    obtain ⟨x, _, hx⟩ := adz.1 hu;exact zP x u hx) (by simp only [maxLen]; omega) (by omega) hB
  refine ⟨v', w', hr, ?_, h2, ?_⟩
  ·unfold bQ;rw [adt, acH, ← hn];exact h1
  ·rcases h4 with h4 | h4
   ·exact .inl h4
   ·exact .inr ⟨_, acE _, h4⟩
theorem uK {w : World} {ops : Array Oper} {rest : List Oper} {o : Oper} {a : Act} {Q : Exit → Act → World → Prop} (kS : o.guard = none) (s t : Operand)
  (ho : o.op = .call { callee := .builtin .append, args := #[s, t], argTypes := #[88, 88] }) (hty : o.type = 88) {B : Nat} {v u : Value} {l m : List Br}
  (hs : a.eval s = v) (ht : a.eval t = u) (h : bQ B w v l) (hu : tu w u m) (hB : B ≤ w.heap.size) (hn : (l.length + m.length) * 72 ≤ 140737488355328)
  (hK : ∀ v' w', bQ B w' v' (l ++ m) → eN w v w' v' → wpList prog ops Q rest (a.put o.dst v') w') : wpList prog ops Q (o :: rest) a w := by
 obtain ⟨v', w', hr, h1, h2⟩ := CF h hu hB hn;exact adC _ kS s t 88 ho v _ hs ht (by rw [hty]; exact hr) (hK v' w' h1 h2)
def AA (L S P : List Sp) : List Br := (P.filter fun x => !(x.p == 0) && !(bI L x.p).isSome).flatMap fun s => ⟨0, true, s⟩ :: fY S 64 s.i 1
theorem PY {L S P : List Sp} {y : Sp} (h : y.p ≠ 0) (h2 : bI L y.p = none) : AA L S (P ++ [y]) = AA L S P ++ ⟨0, true, y⟩ :: fY S 64 y.i 1 := by
 unfold AA;rw [aeC, adt, adW (by simp [h, h2])];simp
theorem Uq {L S P : List Sp} {y : Sp} (h : y.p = 0 ∨ (bI L y.p).isSome = true) : AA L S (P ++ [y]) = AA L S P := by
 unfold AA;rw [aeC, adt, adU (by rcases h with h | h <;> simp [h])];simp
theorem Ur {L S : List Sp} (j : Nat) : (AA L S (S.take j)).length ≤ (AA L S S).length := by
 have h1 : AA L S S = AA L S (S.take j) ++ AA L S (S.drop j) := by
  unfold AA;rw [← adt, ← aeC, aeb]
 rw [h1, acH];omega
theorem rY {w : World} {g : Nat} {tr : Int} {L : List Sp} (h : pY w g tr L) (aT : dT tr L) : Calls prog 122 #[.pointer (some ⟨g, 0, none⟩)] w fun e w' => ∃ v', e = .returned v' ∧ bQ w.heap.size w' v' (jK (aQ L)) ∧ Below w.heap.size w w' := by
 obtain ⟨S, hS⟩ : ∃ S, aQ L = S := ⟨_, rfl⟩
 have uJ := aT.len;have hp : S.Perm L := by rw [← hS]; exact cG L
 have hSl : S.length = L.length := hp.length_eq;obtain ⟨r, ht⟩ := (aT.perm hp).tidy;have xu := Gm ht (by omega);have Yj : ∀ k, bI S k = bI L k := fun k => Cp aT.ids hp k;have hbr : jK S = fY S 65 0 0 ++ AA L S S := by
  rw [PH ht (by omega)];unfold AA pJ;simp only [Yj]
 have hle : (fY S 65 0 0).length + (AA L S S).length ≤ 64 := by rw [← acH, ← hbr]; omega
 rw [hS, hbr];have HR := af h;have oN := af (oG hS uJ 65 0 0 (by omega) (by omega) h (by omega));have Tv := af (fun (k : Int) {w : World} {g : Nat} (h : pY w g tr L) hl => oG hS uJ 64 k 1 (by omega) (by omega) h hl);have Ff := af (fun (w : World) (v : Value) (h : iY w v L) => mj h (by omega));rw [hS] at Ff;have J_ := af (fun (k : Int) {w : World} {g : Nat} (h : pY w g tr L) => jS h k);have Fo := af hle;have PO : S.length ≤ 64 := by omega
 clear aT hp hSl ht xu Yj hbr hle hS;obtain ⟨_, vL, c1, Fl⟩ := h;obtain ⟨pL, nL, cL, rfl⟩ := Fl.sl;clear Fl c1;go_enter func122, ntmps122
 go_wp2_with fail
 refine oN.out.mono ?_;rintro e1 w1 ⟨v1, rfl, mW, aK⟩;obtain ⟨p1, n1, XC, rfl⟩ := mW.jK.sl;have TE := HR.out.below aK;obtain ⟨_, vL1, c1, Us⟩ := TE;obtain ⟨pL, nL, cL, rfl⟩ := Us.sl;have H1 := af (acD mW (acD aK (HR.out.below aK)));have eL := af (Ff.out _ _ Us);clear mW aK Us;go_wp2_with fail
 refine eL.out.mono ?_;rintro e2 w2 ⟨v2, rfl, eX, aP⟩;obtain ⟨pS, nS, cS, rfl⟩ := eX.gp.sl;obtain rfl : nS = S.length := eX.gp.len.1;have MU : S = [] ∨ ∀ k, (Value.slice pS S.length cS).ownBlock = some k → (Value.slice p1 n1 XC).ownBlock ≠ some k := .inr fun k hk e => by
  have h1 := (H1.out.1.lt k e).2;have h2 := (eX.lt k hk).1;omega
 have H2 := af (acD (acD eX.gp MU) (acD (H1.out.1.below aP) (acD (H1.out.2.1.trans (aP.mono H1.out.2.1.size)) (H1.out.2.2.below aP))));clear eX aP c1 MU;go_wp2_with fail
 go_loopw [3, 5, 6, 7, 16] (fun v3 _ _ _ ix wr => ∃ (j : Nat) (p : Option Addr) (n c : Nat), v3 = .slice p n c ∧ j ≤ S.length ∧ ix = .int .i64 j ∧ Hid (bQ w.heap.size wr (.slice p n c) (fY S 65 0 0 ++ AA L S (S.take j)) ∧ eN w2 (.slice p1 n1 XC) wr (.slice p n c))) (fun _ _ _ _ ix _ => S.length - (intOf ix).toNat)
 case atStart =>
  refine ⟨0, p1, n1, XC, rfl, by omega, rfl, af ⟨?_, eN.refl _ _⟩⟩;rw [List.take_zero, show AA L S [] = [] from rfl, adh];exact H2.out.2.1
 case round =>
  obtain ⟨j, p, n, c, rfl, hj, rfl, HJ⟩ := hrel;have dG : ∀ k, (Value.slice p1 n1 XC).ownBlock = some k → w.heap.size ≤ k := fun k hk => (H2.out.2.1.lt k hk).1;have Ut := H2.out.2.2.1.size;have jJ := H2.out.2.2.1.grown HJ.out.2.1 Ut dG;have mY := af (acD dG (acD Ut jJ));clear dG Ut jJ;by_cases bd : (j : Int) < (S.length : Int)
  ·have hS := H2.out.1.1.grown HJ.out.2.1 H2.out.1.2;have hR := HR.out.below mY.out.2.2;obtain ⟨gv, ov, rfl, hx⟩ := hS.at_ (by omega);obtain ⟨x, dC⟩ : ∃ x, S[j]? = some x := ⟨_, acF (by omega)⟩
   have aG := hx j x dC;obtain ⟨oo, iu⟩ : ∃ oo, ov + j * 6 = oo := ⟨_, rfl⟩
   rw [iu] at aG;have z0 := aG.c0;have z1 := aG.c1;have z2 := aG.c2;have z3 := aG.c3;have z4 := aG.c4;have z5 := aG.c5;have lk : S.take (j + 1) = S.take j ++ [x] := by rw [ac5, dC]; rfl
   have bg := az wr x;have vW := (acG wr.heap.size wr).alloc (acE _) (.cells #[.int .i64 x.t, .int .i64 x.i, .int .i64 x.p, .int .i64 x.s, .int .i64 x.e, .string x.n] 30);have XG := jS (hR.below vW) x.p;have HX := af (acD bg vW);have XH := af XG;have iB := af lk;have MR := Ur (L := L) (S := S) (j + 1);have abr := af MR;clear hx dC aG lk bg vW MR hS hR XG;obtain ⟨t, i, q, s, en, nn⟩ := x;dsimp only at *;go_wp2_with fail
   refine XH.out.mono ?_;rintro e3 w3 ⟨rfl, cF⟩;obtain ⟨u, hu⟩ : ∃ u, (bI L q).getD BP = u := ⟨_, rfl⟩
   rw [hu];have Yy := HX.out.1.below cF;have bY := (acG w3.heap.size w3).alloc (acE _) (.cells #[.int .i64 u.t, .int .i64 u.i, .int .i64 u.p, .int .i64 u.s, .int .i64 u.e, .string u.n] 30);have zq := Yy.below bY;have he4 := (HJ.out.2.trans (eN.below (.slice p n c) HX.out.2)).trans ((eN.below (.slice p n c) cF).trans (eN.below (.slice p n c) bY));have iP := ((HJ.out.1.below HX.out.2).below cF).below bY;have x1 := zq.c1;have x2 := zq.c2;have x0 := zq.c0;have x3 := zq.c3;have x4 := zq.c4;have x5 := zq.c5;dsimp only [ac2] at x1 x2 x0 x3 x4 x5;have H4 := af (acD he4 (acD iP zq));clear cF Yy bY zq he4 iP hu;unfold dZ;obtain ⟨b, hb⟩ : ∃ b, (bI L q).isSome = b := ⟨_, rfl⟩
   rw [hb];have H4B := af hb;have YE : ∀ k, (Value.slice p n c).ownBlock = some k → k < wr.heap.size := fun k hk => (HJ.out.1.lt k hk).2;have HPN := af YE;clear hb YE;by_cases fI : q = 0 ∨ b = true
   ·have cn := Uq (L := L) (S := S) (P := S.take j) (y := ⟨t, i, q, s, en, nn⟩) (fI.imp id fun e => H4B.out.trans e);rw [← iB.out] at cn;have eH := af cn;clear cn;cases b
    ·have hq : q = 0 := by simpa using fI
     subst hq;clear fI;go_wp2;go_roundw;case rel => exact ⟨j + 1, p, n, c, rfl, by omega, by go_num, af ⟨by rw [eH.out]; exact H4.out.2.1, H4.out.1⟩⟩
     case measure => simp [intOf]; omega
    ·clear fI;by_cases hq : q = 0
     ·subst hq;go_wp2;go_roundw;case rel => exact ⟨j + 1, p, n, c, rfl, by omega, by go_num, af ⟨by rw [eH.out]; exact H4.out.2.1, H4.out.1⟩⟩
      case measure => simp [intOf]; omega
     ·have hpb : (q == 0) = false := adj.2 hq;go_wp2;all_goals
       go_roundw;case rel => exact ⟨j + 1, p, n, c, rfl, by omega, by go_num, af ⟨by rw [eH.out]; exact H4.out.2.1, H4.out.1⟩⟩
       case measure => simp [intOf]; omega
   ·have hq : q ≠ 0 := fun e => fI (.inl e);obtain rfl : b = false := by cases b <;> simp_all
    have cn := PY (L := L) (S := S) (P := S.take j) (y := ⟨t, i, q, s, en, nn⟩) hq (by have := H4B.out; rwa [Option.isSome_eq_false_iff, Option.isNone_iff_eq_none] at this);rw [← iB.out] at cn;dsimp only at cn;have r_ : (fY S 65 0 0 ++ AA L S (S.take j)).length + 1 + (fY S 64 i 1).length ≤ 1000 := by
     have h1 := abr.out;have h2 := Fo.out;rw [cn, acH, acZ] at h1;rw [acH];omega
    have eH := af (acD cn r_);have hpb : (q == 0) = false := adj.2 hq;have YF : w.heap.size ≤ w3.heap.size + 1 := by
     have h1 := mY.out.2.1;have h2 := H4.out.1.1.size;have h3 : (w3.alloc (.cells #[.int .i64 u.t, .int .i64 u.i, .int .i64 u.p, .int .i64 u.s, .int .i64 u.e, .string u.n] 30)).heap.size = w3.heap.size + 1 := by simp
     omega
    have nR := af YF;clear cn r_ fI YF;go_wp2_with (at_builtin; go_must (refine fQ (v := .slice p n c) rfl _ _ rfl rfl ⟨0, true, ⟨t, i, q, s, en, nn⟩⟩ rfl rfl (by simp) H4.out.2.1 (by have := nR.out; simp; omega) (by have := eH.out.2; omega) ?_); go_loud (intro v5 w5 bP wP; obtain ⟨p5, n5, c5, rfl⟩ := bP.jK.sl; have Av : cj w5 wr.heap.size 0 ⟨t, i, q, s, en, nn⟩ := (fun a b hb => kH wP (H4.out.2.2 a b hb) (fun e => by have := HPN.out _ e; omega)); have hee := H4.out.1.trans wP; have Uu := H2.out.2.2.1.grown hee.1 mY.out.2.1 mY.out.1; have oY := HR.out.below Uu; have y1 := Av.c1; try dsimp only [ac2] at y1; have H5 := af (acD bP (acD hee (acD Uu oY))); clear bP wP Av hee Uu oY))
    have HC := af (Tv.out i H5.out.2.2.2 (by have := eH.out.2; omega));refine HC.out.mono ?_;rintro e6 w6 ⟨v6, rfl, cw, bK⟩;obtain ⟨p6, n6, c6, rfl⟩ := cw.jK.sl;have H6 := af (acD (H5.out.1.below bK) (acD cw.jK (H5.out.2.1.trans (eN.below _ bK))));have MS : w.heap.size ≤ w6.heap.size := acN H5.out.2.2.1.size bK.size;have Up := af MS;clear cw bK MS y1;go_wp2_with (at_builtin; go_must (refine uK rfl _ _ rfl rfl rfl rfl H6.out.1 H6.out.2.1 Up.out (by have := eH.out.2; rw [acH, aeF]; omega) ?_); go_loud (intro v7 w7 nE he7; obtain ⟨p7, n7, c7, rfl⟩ := nE.jK.sl; have H7 := af (acD nE (H6.out.2.2.trans he7)); clear nE he7))
    go_roundw;case rel =>
     refine ⟨j + 1, p7, n7, c7, rfl, by omega, by go_num, af ⟨?_, H7.out.2⟩⟩;rw [eH.out.1];have := H7.out.1
     simpa only [ac7, aeZ, adE] using this
    case measure => simp [intOf]; omega
  ·have hjS : j = S.length := by omega
   subst hjS;have kh := HJ.out.1;rw [ad9] at kh;have HF := af (acD kh mY.out.2.2);clear kh;go_wp2;go_ret;exact ⟨_, rfl, HF.out.1, HF.out.2⟩
end Go.Proofs.YtionbmlicmibgaaGreatDoor
