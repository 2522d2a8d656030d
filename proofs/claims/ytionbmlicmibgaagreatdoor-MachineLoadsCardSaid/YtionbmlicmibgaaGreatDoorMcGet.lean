import Derived.Test.YtionbmlicmibgaaGreatDoorMcPut2
set_option linter.unusedVariables false
set_option linter.unusedSimpArgs false
namespace Go.Proofs.YtionbmlicmibgaaGreatDoor
open Go.Proofs.Tryz
set_option maxRecDepth 200000
set_option maxHeartbeats 4000000
open Go.RowKit
theorem sC {l : List UInt8} {most : Nat} {st : Nat × Nat} : (tx l most st).1.length ≤ l.length := by
 unfold tx
 split
 ·simp
 ·split
  ·simp
  ·split
   ·simp
   ·split
    ·simp
    ·dsimp only;rw [ac6, adg];omega
theorem Sw {w w' : World} (hb : Below w.heap.size w w') (row : Option Nat) : w.grownBy w' row := ⟨hb.os, hb.tape, hb.output, hb.size, fun k hk _ => hb.block k hk⟩
theorem A1 {w v w' : World} {row : Option Nat} (h : w.grownBy v row) (hb : Below w.heap.size v w') : w.grownBy w' row := ⟨hb.os.trans h.os, hb.tape.trans h.tape, hb.output.trans h.output, acN h.size hb.size, fun k hk hr => (hb.block k hk).trans (h.block k hk hr)⟩
theorem By.Wo {w w' : World} {B : Nat} {v : Value} {l : List UInt8} (h : By w v l) (hb : Below B w w') (aN : l = [] ∨ ∀ k, v.ownBlock = some k → k < B) : By w' v l := by
 obtain ⟨p, c, e, h1, h2, h3, h4⟩ := h;refine ⟨p, c, e, h1, h2, h3, fun a ha i x hx => ?_⟩;subst e;rcases aN with rfl | aN
 ·simp at hx
 ·exact (hb.cell (p := a.add i) (by rw [block_add]; exact aN _ (by rw [ha]; rfl))).trans (h4 a ha i x hx)
theorem By.Qv {w : World} {v : Value} {l : List UInt8} (h : By w v l) : l = [] ∨ ∀ k, v.ownBlock = some k → k < w.heap.size := by
 by_cases h0 : l = []
 ·exact .inl h0
 ·refine .inr fun k hk => ?_;obtain ⟨p', c', rfl, _, _, _, hc⟩ := h;cases hl : l with
  | nil => exact absurd hl h0
  | cons y r =>
   cases p' with
   | none => cases hk
   | some ad =>
    simp only [Value.ownBlock, adp] at hk;have := lt_of_cell (hc ad rfl 0 y (by rw [hl]; rfl));rw [block_add] at this;omega
theorem bJ.xh {B g : Nat} {w : World} {v : Value} {l : List Int} (h : bJ B w v l) (hg : g < B) : v.ownBlock = none ∨ v.ownBlock ≠ some g := by
 cases FE : v.ownBlock with
 | none => exact .inl rfl
 | some k =>
  refine .inr fun e => ?_;injection e with e;have h1 := (h.lt k FE).1;omega
structure rS (w0 : World) (g : Nat) (v : Value) (l : List UInt8) (w : World) (st : Nat × Nat) : Prop where
 sc : Sc w g v st.1 st.2
 bp : By w v l
 ne : l = [] ∨ ∀ k, v.ownBlock = some k → some g ≠ some k
 at_ : st.1 ≤ l.length
 gw : w0.heap.size ≤ g
 b : Below w0.heap.size w0 w
theorem rS.below {w0 w w' : World} {g : Nat} {v : Value} {l : List UInt8} {st : Nat × Nat} (h : rS w0 g v l w st) (hb : Below w.heap.size w w') : rS w0 g v l w' st := ⟨h.sc.below hb, h.bp.below hb, h.ne, h.at_, h.gw, h.b.trans (hb.mono h.b.size)⟩
theorem rS.next {w0 w w' : World} {g : Nat} {v : Value} {l : List UInt8} {st st' : Nat × Nat} (h : rS w0 g v l w st) (hs : Sc w' g v st'.1 st'.2) (hg : w.grownBy w' (some g)) (ha : st'.1 ≤ l.length) : rS w0 g v l w' st' :=
 ⟨hs, h.bp.grown hg h.ne, h.ne, ha, h.gw, ak.aZ h.b (ak.aV hg (fun k => k = g) (fun k e => by injection e with e; exact .inl e.symm)) (fun k e => by rw [e]; exact h.gw)⟩
theorem rS.later {w0 w w' : World} {g B : Nat} {v : Value} {l : List UInt8} {st : Nat × Nat} (h : rS w0 g v l w st) (hb : Below B w w') (hg : g < B) (hv : l = [] ∨ ∀ k, v.ownBlock = some k → k < B) (hB : w0.heap.size ≤ B) : rS w0 g v l w' st :=
 ⟨(hb.block g hg).trans h.sc, h.bp.Wo hb hv, h.ne, h.at_, h.gw, h.b.trans (hb.mono hB)⟩
def ScR (w0 w : World) (g : Nat) (v : Value) (l : List UInt8) (r : Value) (st : Nat × Nat) (e : Ending) (w' : World) : Prop := e = .returned r ∧ rS w0 g v l w' st ∧ w.grownBy w' (some g)
theorem ek {w0 w : World} {g : Nat} {p : Option Addr} {n c : Nat} {l : List UInt8} {st : Nat × Nat} (h : rS w0 g (.slice p n c) l w st) : Calls prog 105 #[.pointer (some ⟨g, 0, none⟩)] w (ScR w0 w g (.slice p n c) l (.int .i64 ((nx l st).1 : Nat)) (nx l st).2) := by
 obtain ⟨a, e⟩ := st;obtain ⟨N, A, E, hN⟩ : ∃ n a' e', nx l (a, e) = (n, a', e') := ⟨_, _, _, rfl⟩
 have hl := h.bp.len.1;have ha := (av (l := l) (st := (a, e)) h.at_).1;have h1 := ay h.sc h.bp (by have := h.at_; dsimp only at *; omega) (show _ = (N, A, E) from hN);rw [hN] at ha ⊢;exact h1.mono fun e' w' ⟨he, hs, hg⟩ => ⟨he, h.next hs hg ha, hg⟩
theorem rj {w0 w : World} {g : Nat} {p : Option Addr} {n c : Nat} {l : List UInt8} {st : Nat × Nat} (h : rS w0 g (.slice p n c) l w st) : Calls prog 108 #[.pointer (some ⟨g, 0, none⟩)] w fun e w' => ∃ q m f, e = .returned (.slice q m f) ∧ bJ w.heap.size w' (.slice q m f) (G_ l st).1 ∧ rS w0 g (.slice p n c) l w' (G_ l st).2 ∧ w.grownBy w' (some g) := by
 have HS := af h;have N1 := af (ek h);obtain ⟨N, hN⟩ : ∃ N, (nx l st).1 = N := ⟨_, rfl⟩
 obtain ⟨s1, dR⟩ : ∃ s, (nx l st).2 = s := ⟨_, rfl⟩
 obtain ⟨M, hM⟩ : ∃ M, min N 7 = M := ⟨_, rfl⟩
 have hR : G_ l st = oP l M s1 := by unfold G_; rw [hN, dR, hM]
 have Nu : min (N : Int) 7 = (M : Int) := by omega
 have hM7 : (M : Int) ≤ 7 := by omega
 have hN9 : (N : Int) ≤ 9223372036854775807 := by have := (av (l := l) (st := st) h.at_).2; omega
 have HB := af (acD h.sc.lt (acD h.bp.Qv h.b.size));rw [hN, dR] at N1;rw [hR];clear h hN dR hM hR;go_enter func108, ntmps108
 go_wp2_with fail
 refine N1.out.mono ?_;rintro e w1 ⟨rfl, aK, eQ⟩;have H1 := af (acD aK eQ);clear aK eQ N1;go_wp2_with fail
 go_loopw [3, 7] (fun v i wr => ∃ (k : Nat) (r : List Int) (s : Nat × Nat), k ≤ M ∧ i = .int .i64 k ∧ (∃ q m f, v = .slice q m f) ∧ Hid (bJ w.heap.size wr v r ∧ r.length = k ∧ rS w0 g (.slice p n c) l wr s ∧ w.grownBy wr (some g) ∧ (r ++ (oP l (M - k) s).1, (oP l (M - k) s).2) = oP l M s1)) (fun _ i _ => M - (intOf i).toNat)
 case atStart => exact ⟨0, [], s1, by omega, rfl, ⟨_, _, _, rfl⟩, af ⟨bJ.nil _ _, rfl, H1.out.1, H1.out.2, rfl⟩⟩
 case round =>
  obtain ⟨k, r, s, hk, rfl, ⟨qv, mv, fv, rfl⟩, HR⟩ := hrel;by_cases bd : (k : Int) < (M : Int)
  ·have N2 := af (ek HR.out.2.2.1);obtain ⟨x, hx⟩ : ∃ x, (nx l s).1 = x := ⟨_, rfl⟩
   obtain ⟨s2, eF⟩ : ∃ y, (nx l s).2 = y := ⟨_, rfl⟩
   have Hg := (av (l := l) (st := s) HR.out.2.2.1.at_).2;rw [hx] at Hg;have hst : oP l (M - k) s = ((x : Int) :: (oP l (M - (k + 1)) s2).1, (oP l (M - (k + 1)) s2).2) := by
    rw [show M - k = (M - (k + 1)) + 1 by omega, oP, hx, eF]
   have eH := af (acD hst Hg);rw [hx, eF] at N2;clear hst Hg hx eF;go_wp2_with fail
   refine N2.out.mono ?_;rintro e w2 ⟨rfl, aP, dO⟩;have H2 := af (acD aP (acD dO (HR.out.1.grown dO (HR.out.1.xh HB.out.1))));have nR : Hid (w.heap.size ≤ w2.heap.size) := af (acN HR.out.2.2.2.1.size dO.size);clear aP dO N2;go_wp2_with (at_builtin; go_must (refine yR (v := .slice qv mv fv) rfl _ _ rfl rfl (x : Int) (by have := eH.out.2; unfold fits; omega) rfl rfl rfl H2.out.2.2 nR.out (by have := HR.out.2.1; omega) ?_); intro v5 w5 bP aL ik; obtain ⟨p5, n5, c5, rfl⟩ := bP.ns.sl; have H5 := af (acD bP aL); clear bP aL ik)
   go_roundw;case rel =>
    refine ⟨k + 1, r ++ [(x : Int)], s2, by omega, by go_num, ⟨_, _, _, rfl⟩, af ⟨H5.out.1, by rw [acH, HR.out.2.1]; rfl, H2.out.1.later H5.out.2 HB.out.1 HB.out.2.1 HB.out.2.2, A1 (aJ HR.out.2.2.2.1 H2.out.2.1) H5.out.2, ?_⟩⟩;have h1 := HR.out.2.2.2.2;rw [eH.out.1] at h1;rw [← h1, ac7];rfl
   case measure => simp [intOf]; omega
  ·have hkM : M - k = 0 := by omega
   have HE : Hid ((r, s) = oP l M s1) := af (by
    have h1 := HR.out.2.2.2.2;rw [hkM, oP, adh] at h1;exact h1)
   clear hkM;go_wp2;go_ret;rw [← HE.out];exact ⟨_, _, _, rfl, HR.out.1, HR.out.2.2.1, HR.out.2.2.2.1⟩
theorem qh {w0 w : World} {g : Nat} {p : Option Addr} {n c : Nat} {l : List UInt8} {st : Nat × Nat} (h : rS w0 g (.slice p n c) l w st) (hl : l.length ≤ 1100000) : Calls prog 107 #[.pointer (some ⟨g, 0, none⟩)] w fun e w' => ∃ q m f, e = .returned (.slice q m f) ∧ Own w.heap.size w' (.slice q m f) (tx l (l.length - st.1) st).1 ∧ rS w0 g (.slice p n c) l w' (tx l (l.length - st.1) st).2 ∧ w.grownBy w' (some g) := by
 have HS := af h;have HL := af hl;have hn := h.bp.len.1;obtain ⟨a, E⟩ := st;have L1 := af (xj h.sc (by have := h.at_; dsimp only at *; omega) h.bp.jZ);obtain ⟨T, a', E', hT⟩ : ∃ T a' E', tx l (l.length - a) (a, E) = (T, a', E') := ⟨_, _, _, rfl⟩
 have xk := sC (l := l) (most := l.length - a) (st := (a, E));have lV := xl (l := l) (most := l.length - a) (st := (a, E)) h.at_;dsimp only at xk lV ⊢;rw [hT] at xk lV ⊢;have T1 := af (fun q => kW (w := w.drewN q) (h.below (ag w q)).sc (h.below (ag w q)).bp h.ne (by have := h.at_; dsimp only at *; omega) ((n : Int) - (a : Int)) (l.length - a) (by have := h.at_; dsimp only at *; omega) (show _ = (T, a', E') from hT));have HT := af (acD xk lV);clear h hl hn hT xk lV;go_enter func107, ntmps107
 go_wp2_with fail
 refine L1.out.mono ?_;rintro e w2 ⟨rfl, q, rfl⟩;go_wp2_with fail
 refine (T1.out q).mono ?_;rintro e w3 ⟨rfl, jH, fE⟩;obtain ⟨q4, w4, sU, iP, bY⟩ := lW w3 T (by have := HT.out.1; have := HL.out; omega);have oe : w.grownBy w3 (some g) := aJ (Sw (ag w q) _) fE;have H4 := af (acD (show rS w0 g (.slice p n c) l w4 (a', E') from ((HS.out.below (ag w q)).next jH fE HT.out.2).below bY) oe);have Hh := af (iP.mono (acN (show Below w.heap.size w (w.drewN q) from ag w q).size fE.size));have dL := af bY;clear iP bY jH fE oe L1 T1;go_wp2;go_ret;exact ⟨_, _, _, rfl, Hh.out, H4.out.1, aJ H4.out.2 (Sw dL.out _)⟩
end Go.Proofs.YtionbmlicmibgaaGreatDoor
