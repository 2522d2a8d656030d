import Derived.Test.YtionbmlicmibgaaGreatDoorMcRmT
import Derived.Test.YtionbmlicmibgaaGreatDoorMcRGet
import Derived.Test.YtionbmlicmibgaaGreatDoorX5
set_option linter.unusedVariables false
set_option linter.unusedSimpArgs false
namespace Go.Proofs.YtionbmlicmibgaaGreatDoor
open Go.Proofs.Tryz
open Go.RowKit
def Et (l : List UInt8) (st : Nat × Nat) : List UInt8 × (Nat × Nat) := tx l 262144 st
def SE (l : List UInt8) : Nat × Nat := (nx l (JW l)).2
def SF (l : List UInt8) : Nat := min (nx l (JW l)).1 8
def Lb (l : List UInt8) : List Int := (oP l (SF l) (SE l)).1
def Vi (l : List UInt8) : Nat × Nat := (oP l (SF l) (SE l)).2
def SG (l : List UInt8) : List UInt8 := (Et l (Vi l)).1
def Vj (l : List UInt8) : Nat × Nat := (Et l (Vi l)).2
def WI (l : List UInt8) : List UInt8 := (Et l (Vj l)).1
def Vk (l : List UInt8) : Nat × Nat := (Et l (Vj l)).2
noncomputable def Ht (l : List UInt8) (L : List St) : Mp := ⟨(AJ l : Nat), (yJ l : Nat), Lb l, nI (SG l), L⟩
def lL (l : List UInt8) (L : List St) : Prop := (Vk l).2 = 0 ∧ br (nI (SG l)) = SG l ∧ loadT (WI l) = some L ∧ lT (Ht l L) = true ∧ dM (Ht l L) = l
theorem Ii {S : List Pl} (h : fB S) : (br S).length ≤ 262144 := by
 have h1 := kv (S := S) fun y hy => (h.ok y hy).1;have h2 := h.len;have h3 := digits_length S.length (by omega);rw [kx, aej, acH];have h4 : (S.map aX).flatten.length = Lib.lens (S.map aX) := by rw [ae4]; rfl
 omega
theorem Lc {m : Mp} (h : m.Ok) (hS : fB m.S) (hL : dS m.L) : AJ (dM m) = m.ix.toNat ∧ yJ (dM m) = m.tm.toNat ∧ Lb (dM m) = m.vo ∧ SG (dM m) = br m.S ∧ WI (dM m) = dN m.L ∧ (Vk (dM m)).2 = 0 := by
 obtain ⟨q1, q2⟩ := jN h.vo;have eV := h.i0;have sy := h.i1;have ht0 := h.t0;have Zv := h.t1;have l1 : (br m.S).length ≤ 262144 := Ii hS;have l2 := lR hL;have hb : (dM m).drop 0 = digits m.ix.toNat ++ (digits m.tm.toNat ++ (digits m.vo.length ++ (fX m.vo ++ (digits (br m.S).length ++ (br m.S ++ (digits (dN m.L).length ++ (dN m.L ++ []))))))) := by
  unfold dM;simp [iZ, NY, show fX [] = [] from rfl]
 generalize dM m = l at hb;have n1 := au (l := l) (a := 0) (n := m.ix.toNat) (by omega) hb;have aK := ai hb;have n2 := au (l := l) (n := m.tm.toNat) (by omega) aK;have aP := ai aK;have n3 := au (l := l) (n := m.vo.length) (by omega) aP;have cF := ai aP;have n4 := yK (l := l) m.vo (fun n hn => by have := q2 n hn; omega) cF;have bY := ai cF;have hl := aec List.length bY;rw [adg, acH, acH] at hl;have hp := bZ (br m.S).length;have e1 : Qo l = (0 + (digits m.ix.toNat).length, 0) := by unfold Qo; rw [n1]
 have e2 : JW l = (0 + (digits m.ix.toNat).length + (digits m.tm.toNat).length, 0) := by unfold JW; rw [e1, n2]
 have e30 : SE l = (0 + (digits m.ix.toNat).length + (digits m.tm.toNat).length + (digits m.vo.length).length, 0) := by unfold SE; rw [e2, n3]
 have e31 : SF l = m.vo.length := by unfold SF; rw [e2, n3]; dsimp only; omega
 have e3 : oP l (SF l) (SE l) = (m.vo, 0 + (digits m.ix.toNat).length + (digits m.tm.toNat).length + (digits m.vo.length).length + (fX m.vo).length, 0) := by rw [e30, e31, n4]
 have e4 : Vi l = (0 + (digits m.ix.toNat).length + (digits m.tm.toNat).length + (digits m.vo.length).length + (fX m.vo).length, 0) := by unfold Vi; rw [e3]
 have t1 := fa (l := l) (most := 262144) (x := br m.S) (by omega) (by omega) (by omega) bY;have aL := ai (ai bY);have NT := aec List.length aL;rw [adg, acH, acH] at NT;have RZ := bZ (dN m.L).length;have e5 : Vj l = (0 + (digits m.ix.toNat).length + (digits m.tm.toNat).length + (digits m.vo.length).length + (fX m.vo).length + (digits (br m.S).length).length + (br m.S).length, 0) := by
  unfold Vj Et;rw [e4, t1]
 have t2 := fa (l := l) (most := 262144) (x := dN m.L) (by omega) (by omega) (by omega) aL;refine ⟨by unfold AJ; rw [n1], by unfold yJ; rw [e1, n2], by unfold Lb; rw [e3], ?_, ?_, ?_⟩
 ·unfold SG Et;rw [e4, t1]
 ·unfold WI Et;rw [e5, t2]
 ·unfold Vk Et;rw [e5, t2]
theorem lS.WJ {m : Mp} (h : m.Ok) (hS : fB m.S) (hL : dS m.L) : lS m (Ht (dM m) m.L) := by
 obtain ⟨h1, h2, h3, h4, h5, _⟩ := Lc h hS hL;have eV := h.i0;have ht0 := h.t0;unfold Ht;rw [h1, h2, h3, h4, FU hS];exact ⟨by dsimp only; omega, by dsimp only; omega, rfl, rfl, (FI _).symm⟩
theorem KT {m : Mp} {l : List UInt8} (h : m.Ok) (hS : fB m.S) (hL : dS m.L) (hm : lT m = true) (hl : dM m = l) : lL l m.L ∧ lS m (Ht l m.L) := by
 subst hl;obtain ⟨h1, h2, h3, h4, h5, h6⟩ := Lc h hS hL;have hk := lS.WJ h hS hL;exact ⟨⟨h6, by rw [h4, FU hS, sA], by rw [h5, xy hL], by rw [hk.may]; exact hm, hk.img⟩, hk⟩
theorem KU {m : Mp} {l : List UInt8} (h : m.Ok) (hS : fB m.S) (hL : dS m.L) (hm : lT m = true) (hl : dM m = l) : loadT (Qn l) = some m.L ∧ br (wj (DJ l)) = DJ l ∧ lT (FH l m.L) = true ∧ dM (FH l m.L) = l := by
 subst hl;obtain ⟨h1, h2, h3, h4, h5⟩ := Kl h hS hL;have hk := lS.R_ h hS hL;exact ⟨by rw [h5, xy hL], by rw [h4, Ij hS], by rw [hk.may]; exact hm, hk.img⟩
structure jI (w W : World) (g b : Nat) (v : Value) (l : List UInt8) (st : Nat × Nat) (ix tm : Int) (vv v3 v4 : Value) : Prop where
 sc : Sr W g v st.1 st.2
 cc : dP W b ix tm vv v3 v4
 bp : By W v l
 ne : l = [] ∨ ∀ k, v.ownBlock = some k → k < w.heap.size
 at_ : st.1 ≤ l.length
 lo : w.heap.size ≤ g ∧ g < b
 vP : Below w.heap.size w W
section
variable {w W W' : World} {g b : Nat} {v : Value} {l : List UInt8} {st st' : Nat × Nat} {ix tm ix' tm' : Int} {vv v3 v4 Ov v3' v4' : Value}
theorem jI.below (h : jI w W g b v l st ix tm vv v3 v4) (hb : Below W.heap.size W W') : jI w W' g b v l st ix tm vv v3 v4 :=
 ⟨(hb.block g h.sc.lt).trans h.sc, h.cc.below hb, h.bp.below hb, h.ne, h.at_, h.lo, h.vP.trans (hb.mono h.vP.size)⟩
theorem jI.next (h : jI w W g b v l st ix tm vv v3 v4) (hs : Sr W' g v st'.1 st'.2) (hg : W.grownBy W' (some g)) (ha : st'.1 ≤ l.length) : jI w W' g b v l st' ix tm vv v3 v4 := by
 have hl := h.lo;refine ⟨hs, (hg.block b h.cc.lt (fun e => by injection e with e; omega)).trans h.cc, h.bp.grown hg ?_, h.ne, ha, hl, ak.aZ h.vP (ak.aV hg (fun k => k = g) (fun k e => by injection e with e; exact .inl e.symm)) (fun k e => by omega)⟩;rcases h.ne with e | e
 ·exact .inl e
 ·exact .inr fun k hk q => by injection q with q; have := e k hk; omega
theorem jI.put (h : jI w W g b v l st ix tm vv v3 v4) (hr : dP W' b ix' tm' Ov v3' v4') (hc : ak W W' fun j => j = b) : jI w W' g b v l st ix' tm' Ov v3' v4' := by
 have hl := h.lo;refine ⟨(hc.block g h.sc.lt (fun e => by omega)).trans h.sc, hr, h.bp.aau hc ?_, h.ne, h.at_, hl, ak.aZ h.vP hc (fun k e => by omega)⟩;rcases h.ne with e | e
 ·exact .inl e
 ·exact .inr fun k hk q => by have := e k hk; omega
theorem jI.late {B : Nat} (h : jI w W g b v l st ix tm vv v3 v4) (hb : Below B W W') (hB : b < B) (hw : B ≤ W.heap.size) : jI w W' g b v l st ix tm vv v3 v4 := by
 have hl := h.lo;have oZ : Below w.heap.size W W' := hb.mono (by omega);exact ⟨(hb.block g (by omega)).trans h.sc, (hb.block b hB).trans h.cc, h.bp.Wo oZ h.ne, h.ne, h.at_, hl, h.vP.trans oZ⟩
end
theorem jI.num {w W : World} {g b : Nat} {p : Option Addr} {n c : Nat} {l : List UInt8} {st : Nat × Nat} {ix tm : Int} {vv v3 v4 : Value} (h : jI w W g b (.slice p n c) l st ix tm vv v3 v4) :
  Calls prog 70 #[.pointer (some ⟨g, 0, none⟩)] W fun e w' => e = .returned (.int .i64 ((nx l st).1 : Nat)) ∧ jI w w' g b (.slice p n c) l (nx l st).2 ix tm vv v3 v4 ∧ W.grownBy w' (some g) := by
 obtain ⟨x, E⟩ := st;obtain ⟨N, A, E', hN⟩ : ∃ n a' e', nx l (x, E) = (n, a', e') := ⟨_, _, _, rfl⟩
 have ha := (av (l := l) (st := (x, E)) h.at_).1;have hn := h.bp.len.1;refine (aY h.sc h.bp (by have := h.at_; dsimp only at this ⊢; omega) (N := N) (A := A) (E := E') hN).mono fun e w' ⟨he, hs, hg⟩ => ?_;rw [hN] at ha ⊢;exact ⟨he, h.next hs hg ha, hg⟩
theorem jI.txt {w W : World} {g b : Nat} {p : Option Addr} {n c : Nat} {l : List UInt8} {st : Nat × Nat} {ix tm : Int} {vv v3 v4 : Value} (h : jI w W g b (.slice p n c) l st ix tm vv v3 v4) :
  Calls prog 72 #[.pointer (some ⟨g, 0, none⟩), .int .i64 262144] W fun e w' => e = .returned (.string (str (Et l st).1)) ∧ jI w w' g b (.slice p n c) l (Et l st).2 ix tm vv v3 v4 ∧ W.grownBy w' (some g) := by
 obtain ⟨x, E⟩ := st;obtain ⟨N, A, E', hN⟩ : ∃ n a' e', tx l 262144 (x, E) = (n, a', e') := ⟨_, _, _, rfl⟩
 have ha := xl (l := l) (most := 262144) (st := (x, E)) h.at_;have hn := h.bp.len.1;have hl := h.lo;unfold Et;refine (iw h.sc h.bp (by
  rcases h.ne with e | e
  ·exact .inl e
  ·exact .inr fun k hk q => by injection q with q; have := e k hk; omega) (by have := h.at_; dsimp only at this ⊢; omega) 262144 262144 (by decide) (T := N) (A := A) (E := E') (zm.symm.trans hN)).mono fun e w' ⟨he, hs, hg⟩ => ?_
 rw [hN] at ha ⊢;exact ⟨he, h.next hs hg ha, hg⟩
def Ow (w : World) (l : List UInt8) (e : Ending) (w' : World) : Prop :=
 ((∃ L gx Q, lL l L ∧ e = .returned (.tuple #[.pointer (some ⟨gx, 0, none⟩), .int .i64 0]) ∧ tf w' gx Q (Ht l L)) ∨
 ((∀ L, ¬ lL l L) ∧ e = .returned (.tuple #[.pointer none, .int .i64 70]))) ∧ Below w.heap.size w w'
def RsX (w : World) (l : List UInt8) (e : Ending) (w' : World) : Prop := ∃ (x : Int) (pp : Option Addr), e = .returned (.tuple #[.pointer pp, .int .i64 x]) ∧ Below w.heap.size w w' ∧
 ((x = 0 ∧ br (nI l) = l ∧ ∃ gs R, pp = some ⟨gs, 0, none⟩ ∧ dx w' gs R ∧ R.map Rr.pl = nI l ∧ ∀ k, iy gs R k → w.heap.size ≤ k) ∨ (x = 70 ∧ br (nI l) ≠ l))
theorem Eu {w : World} {v : Value} {l : List UInt8} (hv : By w v l) (hl : l.length ≤ 65536) : Calls prog 91 #[v] w (RsX w l) := (Ik hv hl).mono fun e w' hp => by
 rcases hp with ⟨h1, gs, R, he, h2, h3, h4, h5⟩ | ⟨h1, he, h5⟩
 ·exact ⟨0, _, he, h5, .inl ⟨rfl, h1, gs, R, rfl, h2, h3, h4⟩⟩
 ·exact ⟨70, _, he, h5, .inr ⟨rfl, h1⟩⟩
def RtX (w : World) (l : List UInt8) (e : Ending) (w' : World) : Prop := ∃ (x : Int) (pp : Option Addr), e = .returned (.tuple #[.pointer pp, .int .i64 x]) ∧ Below w.heap.size w w' ∧
 ((x = 0 ∧ ∃ L gt vt, loadT l = some L ∧ pp = some ⟨gt, 0, none⟩ ∧ jh w' gt vt L ∧ w.heap.size ≤ gt) ∨ (x = 83 ∧ loadT l = none))
theorem Ev {w : World} {p : Option Addr} {n c : Nat} {l : List UInt8} (hv : By w (.slice p n c) l) (hl : l.length ≤ 1100000) : Calls prog 92 #[.slice p n c] w (RtX w l) := (Bh hv hl).mono fun e w' hp => by
 cases hL : loadT l with
 | none =>
  rw [hL] at hp;exact ⟨83, _, hp.1, hp.2, .inr ⟨rfl, hL⟩⟩
 | some L =>
  rw [hL] at hp;obtain ⟨gx, v, he, h1, h2, h3⟩ := hp;exact ⟨0, _, he, h3, .inl ⟨rfl, L, gx, v, hL, rfl, h1, h2⟩⟩
theorem Bi {m : Mp} : lT m = true ↔ m.ix ≤ 1099511627776 ∧ m.tm ≤ 1099511627776 ∧ (m.ix = 0 ↔ m.tm = 0) ∧ lU m.vo = true ∧ ep m.ix m.L = true := by
 unfold lT;have h : (!((m.ix == 0) != (m.tm == 0))) = true ↔ (m.ix = 0 ↔ m.tm = 0) := by
  cases h1 : (m.ix == 0) <;> cases h2 : (m.tm == 0) <;> simp_all
 simp only [adb, h];simp
theorem jh.Ox {w w' : World} {gt : Nat} {vt : Value} {L : List St} {S : Nat → Prop} (h : jh w gt vt L) (hc : ak w w' S) (h1 : ¬ S gt) (h2 : ∀ k, vt.ownBlock = some k → ¬ S k) : jh w' gt vt L :=
 ⟨(hc.block gt h.lt h1).trans h.row, fM h.own hc h2⟩
theorem FV {w : World} {b : Nat} {ix tm : Int} {p : Option Addr} {n c : Nat} {a1 a2 : Option Addr} {i : Nat} {u : Value} (h : dP w b ix tm (.slice p n c) (.pointer a1) (.pointer a2)) (hu : w.cell? ⟨b, i, none⟩ = some u) : (∃ z, u = .int .i64 z) ∨ u = .slice p n c ∨ u = .pointer a1 ∨ u = .pointer a2 := by
 unfold dP at h;rw [acC w b i _ 62 (0, 0) h] at hu
 match i, hu with
 | 0, hu => exact .inl ⟨_, by simpa using hu.symm⟩
 | 1, hu => exact .inl ⟨_, by simpa using hu.symm⟩
 | 2, hu => exact .inr (.inl (by simpa using hu.symm))
 | 3, hu => exact .inr (.inr (.inl (by simpa using hu.symm)))
 | 4, hu => exact .inr (.inr (.inr (by simpa using hu.symm)))
 | n + 5, hu => simp at hu
theorem Bj {l : List UInt8} : ∀ (k : Nat) (st : Nat × Nat), st.1 ≤ l.length → ∀ n ∈ (oP l k st).1, 0 ≤ n ∧ n < 9223372036854775808
 | 0, st, _, n, hn => by rw [oP] at hn; cases hn
 | k + 1, st, h, n, hn => by
  have h1 := av (l := l) (st := st) h;rw [oP] at hn;rcases ac9.1 hn with e | e
  ·omega
  ·exact Bj k _ h1.1 n e
set_option maxRecDepth 200000 in
set_option maxHeartbeats 16000000 in
theorem Em {w : World} {p : Option Addr} {n c : Nat} {l : List UInt8} (hv : By w (.slice p n c) l) (hl : l.length ≤ 65536) : Calls prog 36 #[.slice p n c] w (Ow w l) := by
 have WK : l = [] ∨ ∀ k, (Value.slice p n c).ownBlock = some k → k < w.heap.size := hv.Qv;have b1 := (acG w.heap.size w).alloc (acE _) (.cells #[.slice p n c, .int .i64 0, .int .i64 0] 121);have b2 := b1.alloc (o := (.cells #[.int .i64 0, .int .i64 0, .slice none 0 0, .pointer none, .pointer none] 62)) b1.size;have dR : (w.alloc (.cells #[.slice p n c, .int .i64 0, .int .i64 0] 121)).heap.size = w.heap.size + 1 := by simp
 have r2 : Sr ((w.alloc (.cells #[.slice p n c, .int .i64 0, .int .i64 0] 121)).alloc (.cells #[.int .i64 0, .int .i64 0, .slice none 0 0, .pointer none, .pointer none] 62)) w.heap.size (.slice p n c) 0 0 := by
  have h1 : Sr (w.alloc (.cells #[.slice p n c, .int .i64 0, .int .i64 0] 121)) w.heap.size (.slice p n c) 0 0 := acQ w (.cells #[.slice p n c, .int .i64 0, .int .i64 0] 121);exact (((acG _ _).alloc (acE _) (.cells #[.int .i64 0, .int .i64 0, .slice none 0 0, .pointer none, .pointer none] 62)).block _ h1.lt).trans h1
 have r3 : dP ((w.alloc (.cells #[.slice p n c, .int .i64 0, .int .i64 0] 121)).alloc (.cells #[.int .i64 0, .int .i64 0, .slice none 0 0, .pointer none, .pointer none] 62)) (w.heap.size + 1) 0 0 (.slice none 0 0) (.pointer none) (.pointer none) := by rw [← dR]; exact dP.new _
 have WL : Hid (jI w ((w.alloc (.cells #[.slice p n c, .int .i64 0, .int .i64 0] 121)).alloc (.cells #[.int .i64 0, .int .i64 0, .slice none 0 0, .pointer none, .pointer none] 62)) w.heap.size (w.heap.size + 1) (.slice p n c) l (0, 0) 0 0 (.slice none 0 0) (.pointer none) (.pointer none)) := af ⟨r2, r3, hv.below b2, WK, adq _, by omega, b2⟩;have NA := af hl;have NC : Hid (n = l.length) := af hv.len.1;clear b1 b2 dR r2 r3 WK hv hl;go_enter func36, ntmps36
 go_upto_region 3 with fail
 obtain ⟨X, hX⟩ : ∃ X, (w.alloc (.cells #[.slice p n c, .int .i64 0, .int .i64 0] 121)).alloc (.cells #[.int .i64 0, .int .i64 0, .slice none 0 0, .pointer none, .pointer none] 62) = X := ⟨_, rfl⟩
 obtain ⟨g, hg⟩ : ∃ g, w.heap.size = g := ⟨_, rfl⟩
 obtain ⟨b, hb⟩ : ∃ b, g + 1 = b := ⟨_, rfl⟩
 have zn := af WL.out;rw [hX, hg, hb] at zn;rw [hX, hg, hb];clear hX hg hb WL;have N1 := af zn.out.num;obtain ⟨IX, vw⟩ : ∃ s, (nx l (0, 0)).1 = s := ⟨_, rfl⟩
 obtain ⟨s1, dR⟩ : ∃ s, (nx l (0, 0)).2 = s := ⟨_, rfl⟩
 have Nt : Hid (AJ l = IX ∧ Qo l = s1) := af ⟨vw, dR⟩;rw [vw, dR] at N1;have hIl := (av (l := l) (st := (0, 0)) (adq _)).2;rw [vw] at hIl;have HIL := af hIl;clear vw dR hIl;obtain ⟨z0, z1, z2, z3, z4⟩ := zn.out.cc.z;have ZJ := zn.out.cc.fr 0;go_wp2_with fail
 refine N1.out.mono ?_;rintro e w1 ⟨rfl, h1, eQ⟩;have eL := af h1;clear h1 eQ N1 z0 z1 z2 z3 z4 ZJ;obtain ⟨z0, z1, z2, z3, z4⟩ := eL.out.cc.z;have ZJ := eL.out.cc.fr 0;go_upto_region 4 with fail
 have hst := eL.out.cc.set0 (IX : Nat);have hcs := aC w1 b 0 (.int .i64 (IX : Nat));obtain ⟨w2, WM⟩ : ∃ X, w1.setCell ⟨b, 0, none⟩ (.int .i64 (IX : Nat)) = X := ⟨_, rfl⟩
 rw [WM] at hst hcs ⊢;have vB := af (eL.out.put hst hcs);clear hst hcs WM z0 z1 z2 z3 z4;try clear ZJ
 try clear Vl
 try clear fb2
 try clear SH
 try clear N4
 obtain ⟨z0, z1, z2, z3, z4⟩ := vB.out.cc.z;have N2 := af vB.out.num;obtain ⟨TM, wm⟩ : ∃ s, (nx l s1).1 = s := ⟨_, rfl⟩
 obtain ⟨s2, eF⟩ : ∃ s, (nx l s1).2 = s := ⟨_, rfl⟩
 have QF : Hid (yJ l = TM ∧ JW l = s2) := af ⟨by unfold yJ; rw [Nt.out.2]; exact wm, by unfold JW; rw [Nt.out.2]; exact eF⟩;rw [wm, eF] at N2;have xk := (av (l := l) (st := s1) eL.out.at_).2;rw [wm] at xk;have QG := af xk;clear wm eF xk;have Vl := vB.out.cc.fr 1;go_wp2_with fail
 refine N2.out.mono ?_;rintro e w3 ⟨rfl, h3, fE⟩;have Ar := af h3;clear h3 fE N2 z0 z1 z2 z3 z4 Vl;obtain ⟨z0, z1, z2, z3, z4⟩ := Ar.out.cc.z;have Vl := Ar.out.cc.fr 1;go_upto_region 5 with fail
 have hst := Ar.out.cc.set1 (TM : Nat);have hcs := aC w3 b 1 (.int .i64 (TM : Nat));obtain ⟨w4, WN⟩ : ∃ X, w3.setCell ⟨b, 1, none⟩ (.int .i64 (TM : Nat)) = X := ⟨_, rfl⟩
 rw [WN] at hst hcs ⊢;have Ew := af (Ar.out.put hst hcs);clear hst hcs WN z0 z1 z2 z3 z4;try clear ZJ
 try clear Vl
 try clear fb2
 try clear SH
 try clear N4
 obtain ⟨z0, z1, z2, z3, z4⟩ := Ew.out.cc.z;have N3 := af Ew.out.num;obtain ⟨N, hN⟩ : ∃ s, (nx l s2).1 = s := ⟨_, rfl⟩
 obtain ⟨s3, jH⟩ : ∃ s, (nx l s2).2 = s := ⟨_, rfl⟩
 obtain ⟨M, hM⟩ : ∃ m, min N 8 = m := ⟨_, rfl⟩
 have HN : Hid (SF l = M ∧ SE l = s3 ∧ min N 8 = M) := af ⟨by unfold SF; rw [QF.out.2, hN, hM], by unfold SE; rw [QF.out.2, jH], hM⟩;have WO : Hid ((nx l s2).2 = s3) := af jH;rw [hN, jH] at N3;have xA := (av (l := l) (st := s2) Ew.out.at_).2;rw [hN] at xA;clear hN jH hM;go_wp2_with fail
 refine N3.out.mono ?_;rintro e w5 ⟨rfl, h5, ik⟩;have Ap := af h5;have FW : Hid (b + 1 ≤ w5.heap.size) := af h5.cc.lt;clear h5 ik N3 z0 z1 z2 z3 z4;go_wp2_with fail
 go_loopw [7] (fun i wr => ∃ (k : Nat) (rr : List Int) (s : Nat × Nat) (q : Option Addr) (m f : Nat), k ≤ M ∧ i = .int .i64 k ∧ Hid (jI w wr g b (.slice p n c) l s ((IX : Nat) : Int) ((TM : Nat) : Int) (.slice q m f) (.pointer none) (.pointer none) ∧ bJ (b + 1) wr (.slice q m f) rr ∧ rr.length = k ∧ (rr ++ (oP l (M - k) s).1, (oP l (M - k) s).2) = oP l M s3 ∧ b + 1 ≤ wr.heap.size)) (fun i _ => M - (intOf i).toNat)
 case atStart => exact ⟨0, [], s3, none, 0, 0, by omega, rfl, af ⟨Ap.out, bJ.nil _ _, rfl, rfl, FW.out⟩⟩
 case round =>
  obtain ⟨k, rr, s, qv, mv, fv, hk, rfl, HR⟩ := hrel;by_cases bd : k < M
  ·have WQ : (k : Int) < (N : Int) := by have := HN.out.2.2; omega
   have Vm : (k : Int) < 8 := by have := HN.out.2.2; omega
   have Oy : decide (k < N) = true := ac4 (by omega);have WR : decide ((k : Int) < 8) = true := ac4 Vm;obtain ⟨x, hx⟩ : ∃ x, (nx l s).1 = x := ⟨_, rfl⟩
   obtain ⟨s5, lC⟩ : ∃ y, (nx l s).2 = y := ⟨_, rfl⟩
   have Hg := (av (l := l) (st := s) HR.out.1.at_).2;rw [hx] at Hg;have hst : oP l (M - k) s = ((x : Int) :: (oP l (M - (k + 1)) s5).1, (oP l (M - (k + 1)) s5).2) := by
    rw [show M - k = (M - (k + 1)) + 1 by omega, oP, hx, lC]
   have eH := af (acD hst Hg);have o0 := af (HR.out.1.below (ag wr 1));have N5 := af o0.out.num;rw [hx, lC] at N5;have c2 : wr.cell? ⟨b, 2, none⟩ = some (.slice qv mv fv) := HR.out.1.cc.z.2.2.1;have WS : Hid (bJ (b + 1) (wr.drewN 1) (.slice qv mv fv) rr) := af (HR.out.2.1.below (ag wr 1));have jM : Hid (g < b + 1) := af (by have := HR.out.1.lo; omega);have HKL : Hid (rr.length ≤ 8) := af (by have h1 := HR.out.2.2.1; have h2 := HN.out.2.2; omega);clear hst Hg hx lC;go_upto_region 9 with fail
   go_region_law (first | (refine zk (by rfl) _ _ (by rfl) (by rfl) (by rfl) (by rfl) (by first | exact HOB.out 1 | exact HOB.out 0) (by first | exact AF.out 1 | exact AF.out 0) (by have := HWB.out; simp; omega) (by have := HKL.out; simp; omega) ?_; intro v6 V6 cw bK eM; obtain ⟨p6, n6, c6, rfl⟩ := cw.ns.sl; have vC : Hid (jI w V6 g b (.slice p n c) l s5 ((IX : Nat) : Int) ((TM : Nat) : Int) (.slice qv mv fv) (.pointer none) (.pointer none)) := af (by first | exact ZK.out 1 V6 bK | exact ZK.out 0 V6 bK); have k6 := vC.out.cc.z.2.2.1; have f6 := vC.out.cc.fr 2; have wZ := af cw; have QH : Hid (b + 1 ≤ V6.heap.size) := af (by have h1 := bK.size; have h2 := HWB.out; simp at h1; omega); clear cw bK eM) | (go_simp; go_at_call 70; refine N5.out.mono ?_; rintro e w5 ⟨rfl, h5, ik⟩; have SI := af h5; have HWB : Hid (b + 1 ≤ w5.heap.size) := af h5.cc.lt; have vS := (acG w5.heap.size w5).alloc (acE _) (.cells #[.int .i64 (x : Int)] 3); have bP := WS.out.grown ik (WS.out.xh jM.out); have HOB : Hid (∀ q, bJ (b + 1) ((w5.alloc (.cells #[.int .i64 (x : Int)] 3)).drewN q) (.slice qv mv fv) rr) := af (fun q => (bP.below vS).below (ag _ q)); have AF : Hid (∀ q, Ns ((w5.alloc (.cells #[.int .i64 (x : Int)] 3)).drewN q) (.slice (some ⟨w5.heap.size, 0, none⟩) 1 1) [(x : Int)]) := af (fun q => zj w5 (x : Int) (by have := eH.out.2; unfold fits; omega)); have ZK : Hid (∀ q V, Below (b + 1) ((w5.alloc (.cells #[.int .i64 (x : Int)] 3)).drewN q) V → jI w V g b (.slice p n c) l s5 ((IX : Nat) : Int) ((TM : Nat) : Int) (.slice qv mv fv) (.pointer none) (.pointer none)) := af (fun q V hV => ((h5.below vS).below (ag _ q)).late hV (by omega) (by have := h5.cc.lt; simp; omega)); have c2' : w5.cell? ⟨b, 2, none⟩ = some (.slice qv mv fv) := SI.out.cc.z.2.2.1; have acd : (w5.alloc (.cells #[.int .i64 (x : Int)] 3)).cell? ⟨b, 2, none⟩ = some (.slice qv mv fv) := (vS.cell (lt_of_cell SI.out.cc.z.2.2.1)).trans SI.out.cc.z.2.2.1; clear h5 ik bP vS))
   all_goals
    have hst := vC.out.cc.set2 (.slice p6 n6 c6);have hcs := aC V6 b 2 (.slice p6 n6 c6);obtain ⟨V7, hV7⟩ : ∃ X, V6.setCell ⟨b, 2, none⟩ (.slice p6 n6 c6) = X := ⟨_, rfl⟩
    rw [hV7] at hst hcs ⊢;have ZL := af (vC.out.put hst hcs);have HO7 := af (qm wZ.out hcs (fun k e => by omega));have HZ7 : Hid (b + 1 ≤ V7.heap.size) := af (acN QH.out hcs.size);clear hst hcs hV7 k6 f6;go_wp2_with fail
    go_roundw;case rel =>
     refine ⟨k + 1, rr ++ [(x : Int)], s5, p6, n6, c6, by omega, by go_num, af ⟨ZL.out, HO7.out, by rw [acH, HR.out.2.2.1]; rfl, ?_, HZ7.out⟩⟩;have h1 := HR.out.2.2.2.1;rw [eH.out.1] at h1;rw [← h1, ac7];rfl
    case measure => simp [intOf]; omega
  ·have La : Hid (Lb l = rr ∧ Vi l = s ∧ rr.length = M) := af (by
    have h1 := HR.out.2.2.2.1;rw [show M - k = 0 by omega, oP, adh] at h1;refine ⟨by unfold Lb; rw [HN.out.1, HN.out.2.1, ← h1], by unfold Vi; rw [HN.out.1, HN.out.2.1, ← h1], by have := HR.out.2.2.1; omega⟩)
   have HFT : Hid (∀ y ∈ rr, 0 ≤ y ∧ y < 9223372036854775808) := af (by
    have h1 := Bj (l := l) M s3 (by have := (av (l := l) (st := s2) Ew.out.at_).1; rw [WO.out] at this; exact this);have h2 := HR.out.2.2.2.1;rw [show M - k = 0 by omega, oP, adh] at h2;rw [← h2] at h1;exact h1)
   have HSa := af HR.out.1;have HOa := af HR.out.2.1;clear Ap FW Ew Ar vB eL zn;by_cases WQ : k < N
   focus
    have Vm : ¬ (k : Int) < 8 := by have := HN.out.2.2; omega
    have Oy : decide (k < N) = true := ac4 WQ;have WR : decide ((k : Int) < 8) = false := ac1 Vm;go_upto_region 10 with fail
    clear WQ Vm Oy WR
   rotate_left 1
   focus
    have Oy : decide (k < N) = false := ac1 WQ;go_upto_region 10 with fail
    clear WQ Oy
   rotate_left 1;all_goals
    have N6 := af HSa.out.txt;obtain ⟨TX, Ol⟩ : ∃ x, (Et l s).1 = x := ⟨_, rfl⟩
    obtain ⟨s5, lC⟩ : ∃ x, (Et l s).2 = x := ⟨_, rfl⟩
    have J3 : Hid (SG l = TX ∧ Vj l = s5) := af ⟨by unfold SG; rw [La.out.2.1]; exact Ol, by unfold Vj; rw [La.out.2.1]; exact lC⟩;have SJ : Hid (TX.length ≤ 65536) := af (by rw [← Ol]; exact acN zo NA.out);rw [Ol, lC] at N6;clear Ol lC;go_wp2_with fail
    refine N6.out.mono ?_;rintro e w7 ⟨rfl, h7, qb⟩;obtain ⟨qc, w8, sU, how, jJ⟩ := lW w7 TX (by have := SJ.out; omega);have ti := af (h7.below jJ);have U8 := af ((HOa.out.grown qb (HOa.out.xh (by have := HSa.out.lo; omega))).below jJ);have Ex := af (Eu how.bp SJ.out);clear h7 qb N6 how jJ;go_wp2_with fail
    refine Ex.out.mono ?_;rintro e w9 ⟨e1, pp, rfl, eW, WT⟩;have Bl := af (ti.out.below eW);have WU := af (U8.out.below eW);have WV := af WT;have HZ9 : Hid (b < w8.heap.size ∧ w8.heap.size ≤ w9.heap.size) := af ⟨ti.out.cc.lt, eW.size⟩;clear eW WT Ex sU HSa HOa ti U8 HR;have N7 := af Bl.out.txt;obtain ⟨TY, QB⟩ : ∃ x, (Et l s5).1 = x := ⟨_, rfl⟩
    obtain ⟨s6, Il⟩ : ∃ x, (Et l s5).2 = x := ⟨_, rfl⟩
    have QI : Hid (WI l = TY ∧ Vk l = s6) := af ⟨by unfold WI; rw [J3.out.2]; exact QB, by unfold Vk; rw [J3.out.2]; exact Il⟩;have SK : Hid (TY.length ≤ 65536) := af (by rw [← QB]; exact acN zo NA.out);rw [QB, Il] at N7;clear QB Il;go_wp2_with fail
    refine N7.out.mono ?_;rintro e wA ⟨rfl, hA, hgA⟩;obtain ⟨qd, wB, sU, how, jJ⟩ := lW wA TY (by have := SK.out; omega);have SL := af (hA.below jJ);have WW := af ((WU.out.grown hgA (WU.out.xh (by have := Bl.out.lo; omega))).below jJ);have WX : Hid ((e1 = 0 ∧ br (nI TX) = TX ∧ ∃ gs R, pp = some ⟨gs, 0, none⟩ ∧ dx wB gs R ∧ R.map Rr.pl = nI TX ∧ ∀ k, iy gs R k → b < k) ∨ (e1 = 70 ∧ br (nI TX) ≠ TX)) := af (by
     rcases WV.out with ⟨a1, a2, gs, R, a3, a4, a5, a6⟩ | hh
     ·have hlo := Bl.out.lo;have hz := HZ9.out;refine .inl ⟨a1, a2, gs, R, a3, (a4.Ld (ak.aV hgA (fun k => k = g) (fun k e => by injection e with e; exact .inl e.symm)) Bl.out.sc (fun e => by have := a6 g e; omega)).below jJ, a5, fun k hk => by have := a6 k hk; omega⟩
     ·exact .inr hh)
    have HZB : Hid (b < wB.heap.size ∧ ∀ gs R, (∀ k, iy gs R k → k < wA.heap.size) → ∀ k, iy gs R k → k < wB.heap.size) := af ⟨SL.out.cc.lt, fun gs R h k hk => by have := h k hk; have := jJ.size; omega⟩;have WY := af (Ev how.bp (by have := SK.out; omega));clear hA hgA N7 how jJ WV Bl WU;go_wp2_with fail
    refine WY.out.mono ?_;rintro e wC ⟨e2, pq, rfl, ZM, htC⟩;have QJ := af (SL.out.below ZM);have HOC := af (WW.out.below ZM);have SN : Hid ((e1 = 0 ∧ br (nI TX) = TX ∧ ∃ gs R, pp = some ⟨gs, 0, none⟩ ∧ dx wC gs R ∧ R.map Rr.pl = nI TX ∧ ∀ k, iy gs R k → b < k ∧ k < wB.heap.size) ∨ (e1 = 70 ∧ br (nI TX) ≠ TX)) := af (by
     rcases WX.out with ⟨a1, a2, gs, R, a3, a4, a5, a6⟩ | hh
     ·exact .inl ⟨a1, a2, gs, R, a3, a4.below ZM, a5, fun k hk => ⟨a6 k hk, a4.lt k hk⟩⟩
     ·exact .inr hh)
    have HTC := af htC;clear ZM htC WY sU WX SL WW;obtain ⟨A6, E6⟩ := s6;have HE2 : Hid (Vk l = (A6, E6)) := af QI.out.2;have x0 : ∀ q, (wC.drewN q).cell? ⟨b, 0, none⟩ = some (.int .i64 (IX : Nat)) := fun _ => QJ.out.cc.z.1;have x1 : ∀ q, (wC.drewN q).cell? ⟨b, 1, none⟩ = some (.int .i64 (TM : Nat)) := fun _ => QJ.out.cc.z.2.1;have x2 : ∀ q, (wC.drewN q).cell? ⟨b, 2, none⟩ = some (.slice qv mv fv) := fun _ => QJ.out.cc.z.2.2.1;have y2 : ∀ q, (wC.drewN q).cell? ⟨g, 2, none⟩ = some (.int .i64 (E6 : Nat)) := fun _ => QJ.out.sc.c2;have Le : Hid (∀ q, Calls prog 66 #[.slice qv mv fv] (wC.drewN q) fun e Im => e = .returned (.bool (lU rr)) ∧ ∃ m, Im = wC.drewN m) := af (fun q => (Ig (HOC.out.ns.below (ag wC q))).mono fun e Im ⟨he, hw⟩ => ⟨he, q, hw.symm⟩);obtain ⟨VB, hVB⟩ : ∃ x, lU rr = x := ⟨_, rfl⟩
    rw [hVB] at Le;have HVB := af hVB;clear hVB;have J4 : Hid (∀ L, lL l L → E6 = 0 ∧ br (nI TX) = TX ∧ loadT TY = some L ∧ ((IX : Nat) : Int) ≤ 1099511627776 ∧ ((TM : Nat) : Int) ≤ 1099511627776 ∧ (((IX : Nat) : Int) = 0 ↔ ((TM : Nat) : Int) = 0) ∧ VB = true ∧ ep ((IX : Nat) : Int) L = true ∧ dM ⟨(IX : Nat), (TM : Nat), rr, nI TX, L⟩ = l) := af (fun L hd => by
     obtain ⟨d1, d2, d3, d4, d5⟩ := hd;have hM : Ht l L = ⟨(IX : Nat), (TM : Nat), rr, nI TX, L⟩ := by unfold Ht; rw [Nt.out.1, QF.out.1, La.out.1, J3.out.1]
     rw [hM] at d4 d5;rw [HE2.out] at d1;rw [J3.out.1] at d2;rw [QI.out.1] at d3;obtain ⟨m1, m2, m3, m4, m5⟩ := Bi.1 d4;exact ⟨d1, d2, d3, m1, m2, m3, by rw [← HVB.out]; exact m4, m5, d5⟩)
    have lY := af QJ.out.vP;by_cases hE : E6 = 0;case neg =>
     have f1 : ((E6 : Int) != 0) = true := by simpa using hE
     have HX : Hid (∀ L, lL l L → False) := af (fun L hd => hE (J4.out L hd).1);clear hE;go_upto_region 12 with fail
     go_quiet ((go_at_call 66; exact Le.out _))
     all_goals
      go_wp2;go_ret2
      exact ⟨.inr ⟨fun L hd => HX.out L hd, rfl⟩, lY.out.trans ((ag wC _).mono lY.out.size)⟩
    have f1 : ((E6 : Int) != 0) = false := by simpa using hE
    have HE0 := af hE;clear hE;by_cases h1 : e1 = 0;case neg =>
     have f2 : (e1 != 0) = true := by simpa using h1
     have HX : Hid (∀ L, lL l L → False) := af (fun L hd => by
      rcases SN.out with ⟨a1, _⟩ | ⟨_, a2⟩
      ·exact h1 a1
      ·exact a2 (J4.out L hd).2.1)
     clear h1;go_upto_region 12 with fail
     go_quiet ((go_at_call 66; exact Le.out _))
     all_goals
      go_wp2;go_ret2
      exact ⟨.inr ⟨fun L hd => HX.out L hd, rfl⟩, lY.out.trans ((ag wC _).mono lY.out.size)⟩
    have f2 : (e1 != 0) = false := by simpa using h1
    obtain ⟨oh, gs, R, rfl, GL, Hz, wo⟩ : br (nI TX) = TX ∧ ∃ gs R, pp = some ⟨gs, 0, none⟩ ∧ dx wC gs R ∧ R.map Rr.pl = nI TX ∧ ∀ k, iy gs R k → b < k ∧ k < wB.heap.size := by
     rcases SN.out with ⟨_, a⟩ | ⟨a1, _⟩
     ·exact a
     ·omega
    have Lf := af (acD oh (acD GL (acD Hz wo)));clear h1 oh GL Hz wo SN;by_cases h2 : e2 = 0;case neg =>
     have f3 : (e2 != 0) = true := by simpa using h2
     have HX : Hid (∀ L, lL l L → False) := af (fun L hd => by
      rcases HTC.out with ⟨a1, _⟩ | ⟨_, a2⟩
      ·exact h2 a1
      ·have := (J4.out L hd).2.2.1; rw [a2] at this; cases this)
     clear h2;go_upto_region 12 with fail
     go_quiet ((go_at_call 66; exact Le.out _))
     all_goals
      go_wp2;go_ret2
      exact ⟨.inr ⟨fun L hd => HX.out L hd, rfl⟩, lY.out.trans ((ag wC _).mono lY.out.size)⟩
    have f3 : (e2 != 0) = false := by simpa using h2
    obtain ⟨L, gt, vt, On, rfl, hrt, JX⟩ : ∃ L gt vt, loadT TY = some L ∧ pq = some ⟨gt, 0, none⟩ ∧ jh wC gt vt L ∧ wB.heap.size ≤ gt := by
     rcases HTC.out with ⟨_, a⟩ | ⟨a1, _⟩
     ·exact a
     ·omega
    have o5 := af (acD On (acD hrt JX));clear h2 On hrt JX HTC;cases VB;case false =>
     have HX : Hid (∀ L, lL l L → False) := af (fun L hd => by have := (J4.out L hd).2.2.2.2.2.2.1; cases this);go_upto_region 12 with fail
     go_quiet ((go_at_call 66; exact Le.out _))
     all_goals
      go_wp2;go_ret2
      exact ⟨.inr ⟨fun L hd => HX.out L hd, rfl⟩, lY.out.trans ((ag wC _).mono lY.out.size)⟩
    by_cases hI : ((IX : Nat) : Int) ≤ 1099511627776;case neg =>
     have f5 : decide (1099511627776 < IX) = true := ac4 (by omega);have f5' : decide ((1099511627776 : Int) < (IX : Int)) = true := ac4 (by omega);have HX : Hid (∀ L, lL l L → False) := af (fun L hd => hI (J4.out L hd).2.2.2.1);clear hI;go_upto_region 12 with fail
     go_quiet ((go_at_call 66; exact Le.out _))
     all_goals
      go_wp2;go_ret2
      exact ⟨.inr ⟨fun L hd => HX.out L hd, rfl⟩, lY.out.trans ((ag wC _).mono lY.out.size)⟩
    have f5 : decide (1099511627776 < IX) = false := ac1 (by omega);have f5' : decide ((1099511627776 : Int) < (IX : Int)) = false := ac1 (by omega);have WZ := af hI;clear hI;by_cases hT : ((TM : Nat) : Int) ≤ 1099511627776;case neg =>
     have f6 : decide (1099511627776 < TM) = true := ac4 (by omega);have f6' : decide ((1099511627776 : Int) < (TM : Int)) = true := ac4 (by omega);have HX : Hid (∀ L, lL l L → False) := af (fun L hd => hT (J4.out L hd).2.2.2.2.1);clear hT;go_upto_region 12 with fail
     go_quiet ((go_at_call 66; exact Le.out _))
     all_goals
      go_wp2;go_ret2
      exact ⟨.inr ⟨fun L hd => HX.out L hd, rfl⟩, lY.out.trans ((ag wC _).mono lY.out.size)⟩
    have f6 : decide (1099511627776 < TM) = false := ac1 (by omega);have f6' : decide ((1099511627776 : Int) < (TM : Int)) = false := ac1 (by omega);have W0 := af hT;clear hT;by_cases hP : (((IX : Nat) : Int) = 0 ↔ ((TM : Nat) : Int) = 0);case neg =>
     have HX : Hid (∀ L, lL l L → False) := af (fun L hd => hP (J4.out L hd).2.2.2.2.2.1);have RZ : (0 < IX ∧ TM = 0) ∨ (IX = 0 ∧ 0 < TM) := by omega
     clear hP;rcases RZ with ⟨p1, p2⟩ | ⟨p1, p2⟩
     focus
      have g1 : decide (0 < IX) = true := ac4 (by omega);have SP : decide ((0 : Int) < (IX : Int)) = true := ac4 (by omega);have g2 : decide (0 < TM) = false := ac1 (by omega);have QK : decide ((0 : Int) < (TM : Int)) = false := ac1 (by omega)
     rotate_left
     focus
      have g1 : decide (0 < IX) = false := ac1 (by omega);have SP : decide ((0 : Int) < (IX : Int)) = false := ac1 (by omega);have g2 : decide (0 < TM) = true := ac4 (by omega);have QK : decide ((0 : Int) < (TM : Int)) = true := ac4 (by omega)
     all_goals
      clear p1 p2;go_upto_region 12 with fail
      go_quiet ((go_at_call 66; exact Le.out _))
      all_goals
       go_wp2;go_ret2
       exact ⟨.inr ⟨fun L hd => HX.out L hd, rfl⟩, lY.out.trans ((ag wC _).mono lY.out.size)⟩
    have HP := af hP;have RZ : (0 < IX ∧ 0 < TM) ∨ (IX = 0 ∧ TM = 0) := by omega
    clear hP;rcases RZ with ⟨p1, p2⟩ | ⟨p1, p2⟩
    focus
     have g1 : decide (0 < IX) = true := ac4 (by omega);have SP : decide ((0 : Int) < (IX : Int)) = true := ac4 (by omega);have g2 : decide (0 < TM) = true := ac4 (by omega);have QK : decide ((0 : Int) < (TM : Int)) = true := ac4 (by omega);clear p1 p2;go_upto_region 12 with fail
     go_quiet ((go_at_call 66; exact Le.out _))
     all_goals clear g1 SP g2 QK
    rotate_left 1
    focus
     have g1 : decide (0 < IX) = false := ac1 (by omega);have SP : decide ((0 : Int) < (IX : Int)) = false := ac1 (by omega);have g2 : decide (0 < TM) = false := ac1 (by omega);have QK : decide ((0 : Int) < (TM : Int)) = false := ac1 (by omega);clear p1 p2;go_upto_region 12 with fail
     go_quiet ((go_at_call 66; exact Le.out _))
     all_goals clear g1 SP g2 QK
    all_goals
     clear f1 f2 f3 f5 f5' f6 f6' x0 x1 x2 y2;have ND : Hid (Below wC.heap.size wC (wC.drewN nq)) := af (ag wC nq);obtain ⟨wD, hwD⟩ : ∃ X, wC.drewN nq = X := ⟨_, rfl⟩
     rw [hwD] at ND ⊢;clear hwD;obtain ⟨pt, nt, ct, Vn⟩ := o5.out.2.1.own.nP.sl;subst Vn;have t0 := (o5.out.2.1.below ND.out).c0;have W3 := af ((o5.out.2.1.below ND.out).own.nP);have W5 : Hid (nt = L.length) := af (o5.out.2.1.own.nP.len.1);have ace : (nt : Int) ≤ 9223372036854775807 := by have := o5.out.2.1.own.nP.len; unfold maxLen at this; omega
     go_wp2_with fail
     clear t0;go_loopw [118] (fun i wr => ∃ j : Nat, j ≤ nt ∧ i = .int .i64 j ∧ Hid (Below wD.heap.size wD wr ∧ ∀ x ∈ L.take j, x.a ≤ (IX : Int) ∧ x.s ≤ (IX : Int))) (fun i _ => nt - (intOf i).toNat)
     case atStart => exact ⟨0, by omega, rfl, af ⟨acG _ _, fun x hx => by cases hx⟩⟩
     case round =>
      obtain ⟨j, hj, rfl, HQ⟩ := hrel;by_cases bd : j < nt
      ·obtain ⟨x, hx⟩ : ∃ x, L[j]? = some x := ⟨_, acF (by have := W5.out; omega)⟩
       obtain ⟨gv, ov, hgv, hc⟩ := W3.out.at_ (by omega);subst hgv;have lV := ((hc j x hx).below HQ.out.1).all;have HXM := af (acS hx);have iB : Hid (∀ y ∈ L.take (j + 1), y = x ∨ y ∈ L.take j) := af (fun y hy => by
        rw [ac5, hx] at hy;rcases ad1.1 hy with h | h
        ·exact .inr h
        ·simp at h; exact .inl h)
       obtain ⟨xs, xq, xa, ⟨r1, r2, r3, r4, r5, r6, r7, r8⟩⟩ := x;obtain ⟨k0, k1, k2, k3, k4, k5, k6, k7, k8, k9, ZN⟩ := lV;clear hx hc;go_upto_region 17 with fail
       have vS := (acG wr.heap.size wr).alloc (acE _) (.cells #[.int .i64 xs, .int .i64 xq, .int .i64 xa, .int .i64 r1, .int .i64 r2, .int .i64 r3, .int .i64 r4, .int .i64 r5, .int .i64 r6, .int .i64 r7, .int .i64 r8] 84);have H_ := acQ wr (.cells #[.int .i64 xs, .int .i64 xq, .int .i64 xa, .int .i64 r1, .int .i64 r2, .int .i64 r3, .int .i64 r4, .int .i64 r5, .int .i64 r6, .int .i64 r7, .int .i64 r8] 84);obtain ⟨W, hW⟩ : ∃ W, wr.alloc (.cells #[.int .i64 xs, .int .i64 xq, .int .i64 xa, .int .i64 r1, .int .i64 r2, .int .i64 r3, .int .i64 r4, .int .i64 r5, .int .i64 r6, .int .i64 r7, .int .i64 r8] 84) = W := ⟨_, rfl⟩
       obtain ⟨bx, vW⟩ : ∃ b, wr.heap.size = b := ⟨_, rfl⟩
       rw [hW] at vS H_ ⊢;have ZO : Hid (Below wD.heap.size wD W) := af (HQ.out.1.trans (vS.mono HQ.out.1.size));rw [vW] at H_ ⊢;have Hs := af H_;have m0 : ∀ q, (W.drewN q).cell? ⟨bx, 0, none⟩ = some (.int .i64 xs) := fun _ => acC W bx 0 _ 84 (0, 0) Hs.out;have m2 : ∀ q, (W.drewN q).cell? ⟨bx, 2, none⟩ = some (.int .i64 xa) := fun _ => acC W bx 2 _ 84 (0, 0) Hs.out;have n0 : ∀ q, (W.drewN q).cell? ⟨b, 0, none⟩ = some (.int .i64 (IX : Nat)) := fun _ => (QJ.out.below (ND.out.trans (ZO.out.mono ND.out.size))).cc.z.1;have il : Hid ((xa ≤ (IX : Int) ∧ xs ≤ (IX : Int)) ∨ ∀ L', lL l L' → False) := af (by
        by_cases hh : xa ≤ (IX : Int) ∧ xs ≤ (IX : Int)
        ·exact .inl hh
        ·refine .inr fun L' hd => hh ?_;have h3 := (J4.out L' hd).2.2.1;rw [o5.out.1] at h3;injection h3 with h3;subst h3;have h4 := adl.1 (J4.out _ hd).2.2.2.2.2.2.2.1 _ HXM.out;simp at h4;omega)
       have mY : Hid (Below w.heap.size w W) := af (lY.out.trans ((ND.out.trans (ZO.out.mono ND.out.size)).mono lY.out.size));clear vS H_ hW vW k0 k1 k2 k3 k4 k5 k6 k7 k8 k9 ZN;by_cases hA : (IX : Int) < xa
       ·have f1 : decide ((IX : Int) < xa) = true := ac4 hA;have HX : Hid (∀ L', lL l L' → False) := af (by rcases il.out with h | h; omega; exact h);clear hA;go_quiet (fail)
        all_goals
         go_wp2;go_ret2
         exact ⟨.inr ⟨fun L' hd => HX.out L' hd, rfl⟩, mY.out.trans ((ag W _).mono mY.out.size)⟩
       ·have f1 : decide ((IX : Int) < xa) = false := ac1 hA;by_cases hS : (IX : Int) < xs
        ·have f2 : decide ((IX : Int) < xs) = true := ac4 hS;have HX : Hid (∀ L', lL l L' → False) := af (by rcases il.out with h | h; omega; exact h);clear hA hS;go_quiet (fail)
         all_goals
          go_wp2;go_ret2
          exact ⟨.inr ⟨fun L' hd => HX.out L' hd, rfl⟩, mY.out.trans ((ag W _).mono mY.out.size)⟩
        ·have f2 : decide ((IX : Int) < xs) = false := ac1 hS;have HAS := af (acD hA hS);clear hA hS;go_quiet (fail)
         all_goals
          go_wp2;go_roundw;case rel => exact ⟨j + 1, by omega, by go_num, af ⟨ZO.out.trans ((ag W _).mono ZO.out.size), fun y hy => by
           rcases iB.out y hy with h | h
           ·rw [h]; have := HAS.out; dsimp only; omega
           ·exact HQ.out.2 y h⟩⟩
          case measure => simp [intOf]; omega
      ·have HSE : Hid (ep ((IX : Nat) : Int) L = true) := af (adl.2 fun x hx => by
        have h1 := HQ.out.2 x (by rw [acY (by have := W5.out; omega)]; exact hx);simp;omega)
       have Am : Hid (Below wC.heap.size wC wr) := af (ND.out.trans (HQ.out.1.mono ND.out.size));have Oz := af (QJ.out.below Am.out);have HTR := af (o5.out.2.1.below Am.out);have ZP := af (Lf.out.2.1.below Am.out);have WS := af (HOC.out.below Am.out);have OA : Hid (b < gt ∧ (∀ k, (Value.slice pt nt ct).ownBlock = some k → gt < k) ∧ ∀ k, iy gs R k → b < k ∧ k < gt) := af ⟨by have h1 := o5.out.2.2; have h2 := HZB.out.1; omega, fun k hk => by have := (o5.out.2.1.own.lt k hk).1; omega, fun k hk => by have h1 := Lf.out.2.2.2 k hk; have h2 := o5.out.2.2; omega⟩;clear HQ;obtain ⟨z0, z1, z2, z3, z4⟩ := Oz.out.cc.z;have SH := Oz.out.cc.fr 3;go_upto_region 21 with fail
       have hst := Oz.out.cc.Lg (.pointer (some ⟨gs, 0, none⟩));have hcs := aC wr b 3 (.pointer (some ⟨gs, 0, none⟩));obtain ⟨wE, hE⟩ : ∃ X, wr.setCell ⟨b, 3, none⟩ (.pointer (some ⟨gs, 0, none⟩)) = X := ⟨_, rfl⟩
       rw [hE] at hst hcs ⊢;have KQ : Hid (dx wE gs R) := af (ZP.out.Lh hcs (fun k e hk => by have := (OA.out.2.2 k hk).1; omega) (fun k i u e hu x hx => by
        subst e;rcases FV Oz.out.cc hu with ⟨_, q⟩ | q | q | q <;> cases q) (fun k i u e hu => by
        subst e;rcases FV Oz.out.cc hu with ⟨_, q⟩ | q | q | q <;> cases q))
       have HTE := af (HTR.out.Ox hcs (fun e => by have := OA.out.1; omega) (fun k hk e => by have h1 := OA.out.2.1 k hk; have h2 := OA.out.1; omega));have SQ := af (qm WS.out hcs (fun k e => by omega));have Ey := af (Oz.out.put hst hcs);clear hst hcs hE z0 z1 z2 z3 z4 SH;obtain ⟨z0, z1, z2, z3, z4⟩ := Ey.out.cc.z;have N4 := Ey.out.cc.fr 4;go_upto_region 22 with fail
       have hst := Ey.out.cc.OB (.pointer (some ⟨gt, 0, none⟩));have hcs := aC wE b 4 (.pointer (some ⟨gt, 0, none⟩));obtain ⟨wF, hF⟩ : ∃ X, wE.setCell ⟨b, 4, none⟩ (.pointer (some ⟨gt, 0, none⟩)) = X := ⟨_, rfl⟩
       rw [hF] at hst hcs ⊢;have HRF : Hid (dx wF gs R) := af (KQ.out.Lh hcs (fun k e hk => by have := (OA.out.2.2 k hk).1; omega) (fun k i u e hu x hx => by
        subst e;rcases FV Ey.out.cc hu with ⟨_, q⟩ | q | q | q
        ·cases q
        ·cases q
        ·injection q with q;injection q with q;injection q with q;intro h0;exact KQ.out.ne x hx (by rw [← h0, q])
        ·cases q) (fun k i u e hu => by
        subst e;rcases FV Ey.out.cc hu with ⟨_, q⟩ | q | q | q <;> cases q))
       have HTF := af (HTE.out.Ox hcs (fun e => by have := OA.out.1; omega) (fun k hk e => by have h1 := OA.out.2.1 k hk; have h2 := OA.out.1; omega));have QL := af (qm SQ.out hcs (fun k e => by omega));have ZQ := af (Ey.out.put hst hcs);clear hst hcs hF z0 z1 z2 z3 z4 N4;have HRM : Hid (tf wF b ⟨gs, R, gt, .slice pt nt ct, .slice qv mv fv⟩ ⟨(IX : Nat), (TM : Nat), rr, nI TX, L⟩) := af
        ⟨ZQ.out.cc, HRF.out, Lf.out.2.2.1, HTF.out, (qn o5.out.1).2, QL.out.ns, by have h1 := La.out.2.2; have h2 := HN.out.2.2; dsimp only; omega, by have := HIL.out; dsimp only; omega, by have := QG.out; dsimp only; omega, fun y hy => HFT.out y hy⟩
       have HDL : Hid (∀ b' : Bool, (b' = true ↔ dM ⟨(IX : Nat), (TM : Nat), rr, nI TX, L⟩ = l) → (b' = true → lL l L) ∧ (b' = false → ∀ L', lL l L' → False)) := af (fun b' lM => by
        have hM : Ht l L = ⟨(IX : Nat), (TM : Nat), rr, nI TX, L⟩ := by unfold Ht; rw [Nt.out.1, QF.out.1, La.out.1, J3.out.1]
        refine ⟨fun h => ⟨by rw [HE2.out]; exact HE0.out, by rw [J3.out.1]; exact Lf.out.1, by rw [QI.out.1]; exact o5.out.1, ?_, by rw [hM]; exact lM.1 h⟩, fun h L' hd => ?_⟩
        ·rw [hM];exact Bi.2 ⟨WZ.out, W0.out, HP.out, HVB.out, HSE.out⟩
        ·have h3 := (J4.out L' hd).2.2.1;rw [o5.out.1] at h3;injection h3 with h3;subst h3;have := lM.2 (J4.out _ hd).2.2.2.2.2.2.2.2;rw [h] at this;cases this)
       have SR : Hid (Ht l L = ⟨(IX : Nat), (TM : Nat), rr, nI TX, L⟩) := af (by unfold Ht; rw [Nt.out.1, QF.out.1, La.out.1, J3.out.1]);have A9 := af (fun q => rA (HRM.out.below (ag wF q)));have Dj := af ZQ.out.bp;have ZR := af ZQ.out.vP;have d1 := eu Dj.out;have d0 := bH Dj.out;have d2 : (convert 32 9 (.slice p n c)).run prog wF.drew = .ok (.string (str l)) wF.drew := eu Dj.out 1;clear Oz HTR ZP WS KQ HTE SQ Ey HRF HTF QL ZQ Am;obtain ⟨IMG, W8⟩ : ∃ x, dM ⟨(IX : Nat), (TM : Nat), rr, nI TX, L⟩ = x := ⟨_, rfl⟩
       rw [W8] at A9 HDL;obtain ⟨bb, heq⟩ : ∃ x, ((str IMG).toList == (str l).toList) = x := ⟨_, rfl⟩
       have cY := af (HDL.out bb (by rw [← heq, mZ, decide_eq_true_iff]));clear W8 HDL;rename_i K5 wr0 aav Q1 K4 a3 K3 Q0 K2 a2 K1 a1 K0 a0;clear Q1 Q0 a3 a2 J4 aav xA;clear Le HSE OA Lf o5 W3 W5 QG HIL HFT La HVB WZ W0 HP HOC QI SK J3 SJ Nt QF HN WO QJ ND lY HE0 HE2 HZ9 HZB;have gj : Hid (∀ U, Below wF.heap.size wF U → (convert 32 9 (.slice p n c)).run prog U = .ok (.string (str l)) U) := af fun U hU => bH (Dj.out.below hU);refine ado (S := (fun U => (convert 32 9 (.slice p n c)).run prog U = .ok (.string (str l)) U)) (by kernel_rfl) ?_ (fun hHeld => ?_)
       ·(try dsimp only)
        exact gj.out _ (ag wF 1)
       refine ao 0 rfl ?_;refine ao 3 rfl ?_;refine ao 4 rfl ?_;refine acU (rs := [1]) (by kernel_rfl) (by simp) ?_;refine dz rfl (fun K hK => ?_) ?_
       ·go_simp;go_at_call 86
        refine (A9.out 1).mono ?_;rintro e w5 ⟨p5, n5, c5, rfl, bP, aL⟩;have z0 := bH bP.bp;have cH := af (show Below wF.heap.size wF w5 from (ag wF 1).trans aL);clear bP aL;first
         | refine hK.out _ _ ?_ (fun hHeld => ?_)
         | (go_wp2_with fail; refine hK.out _ _ ?_ (fun hHeld => ?_))
        ·(try dsimp only)
         exact gj.out _ cH.out
        clear hK K;try simp only [Act.put, qA, qB, qC]
        refine acU (rs := [2]) (by kernel_rfl) (by simp) ?_;refine dz rfl (fun K hK => ?_) ?_
        ·go_simp;first
          | refine hK.out _ _ ?_ (fun hHeld => ?_)
          | (go_wp2_with fail; refine hK.out _ _ ?_ (fun hHeld => ?_))
         ·(try dsimp only)
          exact gj.out _ cH.out
         clear hK K;try simp only [Act.put, qA, qB, qC]
         refine ao 5 rfl ?_;refine adO (by kernel_rfl) ?_ _;cases bb
         ·have HX : Hid (∀ L', lL l L' → False) := af (cY.out.2 (by simp));go_wp2;go_ret2
          exact ⟨.inr ⟨fun L' hd => HX.out L' hd, rfl⟩, ZR.out.trans (cH.out.mono ZR.out.size)⟩
         ·go_wp2;go_ret2
          refine ⟨.inl ⟨L, b, ⟨gs, R, gt, .slice pt nt ct, .slice qv mv fv⟩, cY.out.1 (by simp), rfl, ?_⟩, ZR.out.trans (cH.out.mono ZR.out.size)⟩;rw [SR.out];exact HRM.out.below cH.out
        exact acR
       exact acR
end Go.Proofs.YtionbmlicmibgaaGreatDoor
