import Derived.Test.YtionbmlicmibgaaGreatDoorS9
set_option linter.unusedVariables false
set_option linter.unusedSimpArgs false
namespace Go.Proofs.YtionbmlicmibgaaGreatDoor
open Go.Proofs.Tryz
open Go.RowKit
theorem Sz (R : List Tr) : R.map (·.t) = (R.map Tr.pl).map Prod.fst := by rw [aeO]; rfl
section
variable {w w' : World} {gs bm : Nat} {R R' : List Tr}
theorem bR.Xo (h : bR w gs bm R) {a : Addr} {u : Value} (hc : w.cell? a = some u) : ¬ vm bm R a.block := by
 obtain ⟨g, i, sp⟩ := a;rintro (rfl | ⟨x, hx, hb⟩)
 ·obtain ⟨D, hD⟩ := h.map;obtain ⟨es, clock, hb, _⟩ := hD.map;unfold World.cell? at hc;simp only [hb] at hc;cases hc
 ·dsimp only at hb;subst hb;obtain ⟨D, hD⟩ := (h.fo x hx).FD;obtain ⟨es, clock, hb, _⟩ := hD.map;unfold World.cell? at hc;simp only [hb] at hc;cases hc
theorem By.keep (h : bR w gs bm R) (hc : ak w w' (vm bm R)) {v : Value} {l : List UInt8} (hv : By w v l) : By w' v l := by
 obtain ⟨p, c, e, h1, h2, h3, h4⟩ := hv;exact ⟨p, c, e, h1, h2, h3, fun a ha i x hi => hc.cell (h4 a ha i x hi) (h.Xo (h4 a ha i x hi))⟩
theorem bR.Tt (h : bR w gs bm R) {g : Nat} {cs : Array Value} {ty : TypeId} {m : Nat × Nat} (hr : w.heap[g]? = some (.cells cs ty m)) : ¬ vm bm R g := by
 rintro (rfl | ⟨x, hx, rfl⟩)
 ·obtain ⟨D, hD⟩ := h.map;obtain ⟨es, clock, hb, _⟩ := hD.map;rw [hb] at hr;cases hr
 ·obtain ⟨D, hD⟩ := (h.fo x hx).FD;obtain ⟨es, clock, hb, _⟩ := hD.map;rw [hb] at hr;cases hr
end
open Go.RowKit
def nm (y : Pl) : Pl := (y.1, aQ y.2)
def oc (S : List Pl) : List Pl := S.map nm
theorem Xp (y : Pl) : nm (nm y) = nm y := by unfold nm; rw [mh]
theorem FI (S : List Pl) : oc (oc S) = oc S := by
 unfold oc;rw [aeO];exact List.map_congr_left fun y _ => Xp y
theorem Xq (y : Pl) : kP (nm y) = kP y := rfl
theorem zB (S : List Pl) : (oc S).length = S.length := adv _
theorem FG (S : List Pl) : (oc S).map Prod.fst = S.map Prod.fst := by unfold oc; rw [aeO]; rfl
theorem OU (S : List Pl) (k : Int) : bj kP (oc S) k = (bj kP S k).map nm := jm nm Xq S k
theorem sA (S : List Pl) : br (oc S) = br S := by
 rw [kx, kx, zB];unfold oc;rw [aeO];have : (aX ∘ nm) = aX := by
  funext y
  show aX (nm y) = aX y
  unfold aX nm;dsimp only;rw [mh]
 rw [this]
theorem Bq (S : List Pl) (k : Int) : g_ (oc S) k = g_ S k := by
 unfold g_;rw [OU];cases bj kP S k with
 | none => rfl
 | some y =>
  show jK (aQ (nm y).2) = _
  unfold nm;dsimp only;rw [mh]
theorem xJ {T : List Pl} {x : Pl} (h : ∀ y ∈ T, kP y < kP x) (U : List Pl) : aH kP (T ++ U) x = T ++ aH kP U x := by
 induction T with
 | nil => rfl
 | cons y r ih =>
  have h1 := h y (ac8 ..)
  show aH kP (y :: (r ++ U)) x = y :: (r ++ aH kP U x)
  rw [aH, acO (by omega), acO (by omega), ih fun z hz => h z (ade _ hz)]
theorem IL {T : List Pl} {x : Pl} (h : ∀ y ∈ T, kP y < kP x) : bj kP (T ++ [x]) (kP x) = some x := by
 unfold bj;rw [List.find?_append];have : T.find? (fun y => kP y == kP x) = none := by
  rw [aeP];intro y hy;have := h y hy;simp;omega
 rw [this];simp
theorem xK {t : Int} {T : List Pl} (hT : ∀ y ∈ T, kP y < t) : ∀ (rest pre : List Sp), dT t (pre ++ rest) → (puts (T ++ [(t, pre)]) rest).1 = T ++ [(t, pre ++ rest)]
 | [], pre, h => by rw [adh]; rfl
 | x :: rest, pre, h => by
  have hx := h.ok x (aeD _ (ac8 ..));have h1 : dT t (pre ++ [x]) := by
   obtain ⟨r, hr⟩ := h.rises;have Ly : (pre ++ [x]).Sublist (pre ++ x :: rest) := by
    refine List.Sublist.append_left ?_ pre;simp
   have LA := h.ids.sublist Ly;refine ⟨LA, ⟨r, fun y hy u hu => ?_⟩, fun y hy => h.ok y (Ly.subset hy), ?_⟩
   ·refine hr y (Ly.subset hy) u ?_;obtain ⟨q1, q2⟩ := bO hu;rw [← q2];exact jo h.ids (Ly.subset q1)
   ·have := h.len;have := Ly.length_le;omega
  have hp : bF pre cQ x = (pre ++ [x], ⟨1, 0, 0, 0, 0⟩) := by
   have := BJ [x] pre cQ h1;exact this
  have h2 : cW (T ++ [(t, pre)]) x = (T ++ [(t, pre ++ [x])], ⟨1, 0, 0, 0, 0⟩) := by
   unfold cW;rw [hx.2, show bj kP (T ++ [(t, pre)]) t = some (t, pre) from IL (x := (t, pre)) hT];dsimp only;rw [hp, xJ (x := (t, pre ++ [x])) hT];simp [aH, kP]
  show (puts (cW (T ++ [(t, pre)]) x).1 rest).1 = _
  rw [h2];dsimp only;rw [xK hT rest (pre ++ [x]) (by rw [ac7]; exact h), ac7];rfl
theorem BK {t : Int} {T : List Pl} (hT : ∀ y ∈ T, kP y < t) (hl : T.length < 32) {L : List Sp} (hL : dT t L) (hn : L ≠ []) : iH T L = T ++ [(t, L)] := by
 have ha : L.all Sp.ok = true := adl.2 fun x hx => (hL.ok x hx).1;unfold iH;rw [acW ha];cases L with
 | nil => exact absurd rfl hn
 | cons x r =>
  have hx := hL.ok x (ac8 ..);have h1 : cW T x = (T ++ [(t, [x])], ⟨1, 0, 0, 0, 0⟩) := by
   have hf : bj kP T t = none := by
    rw [kA];intro y hy e;have := hT y hy;omega
   unfold cW;rw [hx.2, hf];dsimp only;rw [acO (by omega), oV];have := xJ (x := (t, [x])) hT [];rw [adh] at this;rw [this];rfl
  show (puts (cW T x).1 r).1 = _
  rw [h1];exact xK hT r [x] hL
open Go.RowKit
theorem Oj {w : World} {B B' n : Nat} {v u : Value} {l : List Int} (hv : w.ownsRow B 3 1 v n (l.map (Value.int .i64))) (hu : w.ownsRow B' 3 1 u n (l.map (Value.int .i64))) : Calls prog 30 #[v, u] w fun e w' => e = .returned (.bool true) ∧ Below w.heap.size w w' := by
 obtain ⟨p, c, rfl, hn, hm, yI⟩ := fL hv;obtain ⟨q, d, rfl, _, _, abH⟩ := fL hu;have jB : maxLen = 9223372036854775807 := rfl;by_cases h0 : 0 < n
 ·obtain ⟨g, rfl, _, hc⟩ := yI h0;obtain ⟨g', rfl, _, Rt⟩ := abH h0;have e1 : ∀ j, (hj : j < l.length) → l.getD j 0 = l[j] := fun j hj => by simp [List.getD, hj]
  refine (Tryz.slices_Equal_int g 0 n c g' 0 n d l l w (by omega) (by omega) (by omega) (by omega) (fun j hj => by rw [e1 j hj, ac2]; exact hc j _ (acF hj)) (fun j hj => by rw [e1 j hj, ac2]; exact Rt j _ (acF hj))).mono fun e w' ⟨he, q, hw⟩ => ⟨?_, by rw [hw]; exact ag w q⟩
  rw [he];simp
 ·obtain rfl : n = 0 := by omega
  refine (Tryz.slices_Equal_int_empty p q c 0 d w (by omega)).mono fun e w' ⟨he, hw⟩ => ⟨?_, by rw [hw]; exact acG _ _⟩
  rw [he];rfl
set_option maxRecDepth 200000 in
set_option maxHeartbeats 2000000 in
theorem tZ (w : World) (a b : Cn) (ha : a.sum ≤ 1100000) (hb : b.sum ≤ 1100000) : Calls prog 117 #[iJ a, iJ b] w fun e w' => e = .returned (iJ (a.plus b)) ∧ Below w.heap.size w w' := by
 obtain ⟨a0, a1, a2, a3, a4⟩ := a;obtain ⟨b0, b1, b2, b3, b4⟩ := b;unfold Cn.sum at ha hb;unfold iJ Cn.plus;dsimp only at *;have h0 : (a0 : Int) ≤ 1100000 := by omega
 have h1 : (a1 : Int) ≤ 1100000 := by omega
 have h2 : (a2 : Int) ≤ 1100000 := by omega
 have h3 : (a3 : Int) ≤ 1100000 := by omega
 have h4 : (a4 : Int) ≤ 1100000 := by omega
 have k0 : (b0 : Int) ≤ 1100000 := by omega
 have k1 : (b1 : Int) ≤ 1100000 := by omega
 have k2 : (b2 : Int) ≤ 1100000 := by omega
 have k3 : (b3 : Int) ≤ 1100000 := by omega
 have k4 : (b4 : Int) ≤ 1100000 := by omega
 clear ha hb;go_enter func117, ntmps117
 go_wp2;refine ac0 (v := .agg #[.int .i64 ((a0 : Int) + b0), .int .i64 ((a1 : Int) + b1), .int .i64 ((a2 : Int) + b2), .int .i64 ((a3 : Int) + b3), .int .i64 ((a4 : Int) + b4)]) (by
  simp [results, results117, go_sem]) rfl ⟨by simp only [aeS], ?_⟩
 have h1 := (acG w.heap.size w).alloc (acE _) (.cells #[.int .i64 ((a0 : Int) + b0), .int .i64 ((a1 : Int) + b1), .int .i64 ((a2 : Int) + b2), .int .i64 ((a3 : Int) + b3), .int .i64 ((a4 : Int) + b4)] 64);have h2 := h1.alloc h1.size (.cells #[.int .i64 b0, .int .i64 b1, .int .i64 b2, .int .i64 b3, .int .i64 b4] 64);exact h2.alloc h2.size _
end Go.Proofs.YtionbmlicmibgaaGreatDoor
