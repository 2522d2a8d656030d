import Derived.Test.YtionbmlicmibgaaGreatDoorS6
import Derived.Test.YtionbmlicmibgaaGreatDoorSoSame
import Derived.Test.YtionbmlicmibgaaGreatDoorS11p
set_option linter.unusedVariables false
set_option linter.unusedSimpArgs false
namespace Go.Proofs.YtionbmlicmibgaaGreatDoor
open Go.Proofs.Tryz
open Go.RowKit
structure nD (T : Nat → Prop) (w : World) (g : Nat) (tr : Int) (L : List Sp) : Prop where
 c0 : w.cell? ⟨g, 0, none⟩ = some (.int .i64 tr)
 fr : w.frozen? ⟨g, 1, none⟩ = false
 l : ∃ v, w.cell? ⟨g, 1, none⟩ = some v ∧ iY w v L ∧ (L = [] ∨ ∀ k, v.ownBlock = some k → ¬ T k)
theorem nD.is {T : Nat → Prop} {w : World} {g : Nat} {tr : Int} {L : List Sp} (h : nD T w g tr L) : pY w g tr L := ⟨h.c0, let ⟨v, a, b, _⟩ := h.l; ⟨v, a, b⟩⟩
theorem nD.below {T : Nat → Prop} {w w' : World} {g : Nat} {tr : Int} {L : List Sp} (h : nD T w g tr L) (hb : Below w.heap.size w w') : nD T w' g tr L := by
 obtain ⟨v, a, b, c⟩ := h.l;have hg : g < w.heap.size := lt_of_cell h.c0;exact ⟨(hb.cell (p := ⟨g, 0, none⟩) hg).trans h.c0, (hb.frozen (p := ⟨g, 1, none⟩) hg).trans h.fr, v, (hb.cell (p := ⟨g, 1, none⟩) hg).trans a, b.below hb, c⟩
theorem nD.grown {T : Nat → Prop} {w w' : World} {g r : Nat} {tr : Int} {L : List Sp} (h : nD T w g tr L) (hg : w.grownBy w' (some r)) (hr : T r) (aN : r ≠ g) : nD T w' g tr L := by
 obtain ⟨v, a, b, c⟩ := h.l;have Kf : g < w.heap.size := lt_of_cell h.c0;have hb : w'.heap[g]? = w.heap[g]? := hg.block g Kf (fun e => aN (by injection e with e; exact e.symm));exact ⟨(adi (a := ⟨g, 0, none⟩) hb).trans h.c0, (adR (a := ⟨g, 1, none⟩) hb).trans h.fr, v, (adi (a := ⟨g, 1, none⟩) hb).trans a, b.grown hg (c.imp id fun hc k hk e => hc k hk (by injection e with e; exact e ▸ hr)), c⟩
theorem nD.aU {T : Nat → Prop} {w w' : World} {g : Nat} {tr : Int} {L : List Sp} (h : nD T w g tr L) (hc : ak w w' fun _ => False) : nD T w' g tr L :=
 h.below ⟨hc.os, hc.tape, hc.output, hc.size, fun k hk => hc.block k hk (fun e => e)⟩
theorem nD.weak {T T' : Nat → Prop} {w : World} {g : Nat} {tr : Int} {L : List Sp} (h : nD T w g tr L) (hT : ∀ k, T' k → T k) : nD T' w g tr L := by
 obtain ⟨a, b, v, d, e, f⟩ := h;exact ⟨a, b, v, d, e, f.imp id fun h k hk hh => h k hk (hT k hh)⟩
theorem nD.more {T P : Nat → Prop} {w w' : World} {g : Nat} {tr : Int} {L : List Sp} (h : nD T w g tr L) (hb : Below w.heap.size w w') (GJ : ∀ k, P k → w.heap.size ≤ k) : nD (fun k => T k ∨ P k) w' g tr L := by
 obtain ⟨v, a, b, c⟩ := h.l;obtain ⟨c0, fr, _⟩ := h.below hb;have hg : g < w.heap.size := lt_of_cell h.c0;refine ⟨c0, fr, v, (hb.cell (p := ⟨g, 1, none⟩) hg).trans a, b.below hb, ?_⟩;obtain ⟨p, n, cc, rfl⟩ := b.sl;by_cases hL : L = []
 ·exact .inl hL
 ·refine .inr fun k hk => ?_;obtain ⟨x, r, rfl⟩ : ∃ x r, L = x :: r := List.exists_cons_of_ne_nil hL;obtain rfl : n = (x :: r).length := b.len.1;obtain ⟨gv, ov, rfl, hx⟩ := b.at_ (by simp);have bd := (hx 0 x rfl).lt;rcases c with c | c
  ·cases c
  ·rintro (h1 | h1)
   ·exact c k hk h1
   ·have Zn : gv = k := by injection hk
    have := GJ k h1;omega
theorem rQ {w : World} {ops : Array Oper} {o : Oper} {a : Act} {K : Act → World → Prop} {Q : Exit → Act → World → Prop} {E : Prop} (kS : o.guard = none) (s x : Operand)
  (ho : o.op = .call { callee := .builtin .append, args := #[s, x], argTypes := #[22, 22] }) (hty : o.type = 22) {v u v' : Value} {w' : World}
  (hs : a.eval s = v) (hx : a.eval x = u) (hr : (Builtin.append_ #[22, 22] 22 #[v, u]).run prog w = .ok v' w')
  (h : K (a.put o.dst v') w') : if Region.wanted o (yielded ops a.tmps) = true then Oper.wp prog o a w K Q else E := by
 have hw : Region.wanted o (yielded ops a.tmps) = true := by simp [Region.wanted, kS]
 rw [acW hw];exact Lib.wp_append_run_sl w s x 22 ho v u hs hx (by rw [hty]; exact hr) h
theorem bn {V : World} {ops : Array Oper} {o : Oper} {a : Act} {K : Act → World → Prop} {Q : Exit → Act → World → Prop} {E : Prop} (kS : o.guard = none) (s x : Operand)
  (ho : o.op = .call { callee := .builtin .append, args := #[s, x], argTypes := #[22, 22] }) (hty : o.type = 22) {B : Nat} {v u : Value} {l m : List Sp}
  (hs : a.eval s = v) (hx : a.eval x = u) (h : aI B V v l) (hu : iY V u m) (hB : B ≤ V.heap.size) (hn : (l.length + m.length) * 56 ≤ 140737488355328)
  (hK : ∀ v' V', aI B V' v' (l ++ m) → Below B V V' → V.grownBy V' v.ownBlock → K (a.put o.dst v') V') : if Region.wanted o (yielded ops a.tmps) = true then Oper.wp prog o a V K Q else E := by
 obtain ⟨v', w', hr, h1, h2, h3⟩ := Dx h hu hB hn;exact rQ kS s x ho hty hs hx hr (hK v' w' h1 h2 h3)
theorem gN {V : World} {b : Nat} {x : Sp} (h : cj V b 0 x) : iY V (.slice (some ⟨b, 0, none⟩) 1 1) [x] := ⟨_, 1, rfl, acE _, by simp [maxLen], (fun e => by cases e), fun _ => ⟨b, 0, rfl, fun i y hi => by
 cases i with
 | zero =>
  obtain rfl : x = y := by simpa using hi
  simpa using h
 | succ n => simp at hi⟩⟩
theorem nD.put {T : Nat → Prop} {w V : World} {g : Nat} {tr : Int} {L M : List Sp} (h : nD T w g tr L) (hb : Below w.heap.size w V) {v : Value} (ho : aI w.heap.size V v M) (hT : ∀ k, T k → k < w.heap.size) : nD T (V.setCell ⟨g, 1, none⟩ v) g tr M := by
 obtain ⟨c0, fr, v0, c1, _⟩ := h.below hb;have hg : g < w.heap.size := lt_of_cell h.c0;refine ⟨?_, ?_, v, adB _ _ _ c1, ?_, .inr fun k hk hh => ?_⟩
 ·rw [acM _ _ _ _ (by simp)]; exact c0
 ·rw [adN]; exact fr
 ·exact ho.gp.grown (aj _ _ _ _) (.inr fun k hk e => by
   have := (ho.lt k hk).1;injection e with e;omega)
 ·have := (ho.lt k hk).1;have := hT k hh;omega
set_option maxRecDepth 200000
set_option maxHeartbeats 2000000
open Go.RowKit
structure Rr where
 t : Int
 g : Nat
 L : List Sp
instance : Inhabited Rr := ⟨⟨0, 0, []⟩⟩
def Rr.pl (x : Rr) : Pl := (x.t, x.L)
def Rr.v (x : Rr) : Value := .pointer (some ⟨x.g, 0, none⟩)
def iy (gx : Nat) (R : List Rr) (k : Nat) : Prop := k = gx ∨ ∃ x ∈ R, k = x.g
def dA (w : World) (v : Value) (R : List Rr) : Prop := ∃ (p : Option Addr) (c : Nat), v = .slice p R.length c ∧ R.length ≤ c ∧ c ≤ maxLen ∧ (p = none → c = 0) ∧ (0 < R.length → ∃ g o, p = some ⟨g, o, none⟩ ∧ ∀ (i : Nat) x, R[i]? = some x → w.cell? ⟨g, o + i, none⟩ = some x.v)
theorem dA.nil (w : World) : dA w (.slice none 0 0) [] := ⟨none, 0, rfl, acE _, by simp [maxLen], fun _ => rfl, fun h => absurd h (aez _)⟩
theorem dA.aU {w w' : World} {v : Value} {R : List Rr} {S : Nat → Prop} (h : dA w v R) (hc : ak w w' S) (hn : R = [] ∨ ∀ k, v.ownBlock = some k → ¬ S k) : dA w' v R := by
 obtain ⟨p, c, rfl, h1, h2, h3, h4⟩ := h;refine ⟨p, c, rfl, h1, h2, h3, fun h0 => ?_⟩;obtain ⟨g, o, rfl, hx⟩ := h4 h0;refine ⟨g, o, rfl, fun i x hi => hc.cell (hx i x hi) ?_⟩;rcases hn with rfl | hn
 ·simp at hi
 ·exact hn g rfl
theorem dA.below {w w' : World} {v : Value} {R : List Rr} (h : dA w v R) (hb : Below w.heap.size w w') : dA w' v R := h.aU (ak.of_below hb fun _ => False) (.inr fun _ _ e => e)
theorem dA.fO {B : Nat} {w : World} {v : Value} {R : List Rr} (h : w.ownsRow B 180 1 v R.length (R.map Rr.v)) : dA w v R := by
 obtain ⟨hl, ⟨rfl, h0⟩ | ⟨g, cap, cur, rfl, hB, hh, hc, hm, hs, ht⟩⟩ := h
 ·obtain rfl : R = [] := acP h0;exact dA.nil w
 ·refine ⟨_, cap, rfl, hc, hm, (fun e => by cases e), fun _ => ⟨g, 0, rfl, fun i x hi => ?_⟩⟩;have Ix := (acL.1 hi).1;have h1 : (R.map Rr.v)[i]? = some x.v := by rw [adS, hi]; rfl
  rw [← ht, adQ (by omega), adZ] at h1;rw [acC w g (0 + i) cur _ (0, 0) hh, ac2];exact h1
structure dx (w : World) (gx : Nat) (R : List Rr) : Prop where
 c0 : ∃ v, w.cell? ⟨gx, 0, none⟩ = some v ∧ dA w v R ∧ (R = [] ∨ ∀ k, v.ownBlock = some k → ¬ iy gx R k)
 fr : w.frozen? ⟨gx, 0, none⟩ = false
 ok : fB (R.map Rr.pl)
 fo : ∀ x ∈ R, nD (iy gx R) w x.g x.t x.L
 ids : R.Pairwise fun x y => x.g ≠ y.g
 ne : ∀ x ∈ R, x.g ≠ gx
theorem dx.lt {w : World} {gx : Nat} {R : List Rr} (h : dx w gx R) : ∀ k, iy gx R k → k < w.heap.size := by
 rintro k (rfl | ⟨x, hx, rfl⟩)
 ·obtain ⟨v, hv, _⟩ := h.c0;exact lt_of_cell hv
 ·exact lt_of_cell (h.fo x hx).c0
theorem dx.below {w w' : World} {gx : Nat} {R : List Rr} (h : dx w gx R) (hb : Below w.heap.size w w') : dx w' gx R := by
 obtain ⟨v, h1, h2, h3⟩ := h.c0;have hg : gx < w.heap.size := lt_of_cell h1;exact ⟨⟨v, (hb.cell (p := ⟨gx, 0, none⟩) hg).trans h1, h2.below hb, h3⟩, (hb.frozen (p := ⟨gx, 0, none⟩) hg).trans h.fr, h.ok, fun x hx => (h.fo x hx).below hb, h.ids, h.ne⟩
def tP (R : List Rr) (k : Int) : Value := ((R.find? fun x => x.t == k).map Rr.v).getD (.pointer none)
theorem rD {w : World} {gx : Nat} {R : List Rr} (h : dx w gx R) (k : Int) : Calls prog 114 #[.pointer (some ⟨gx, 0, none⟩), .int .i64 k] w fun e w' => e = .returned (tP R k) ∧ Below w.heap.size w w' := by
 obtain ⟨v, c0, ⟨p, c, rfl, wV, kO, _, hx⟩, _⟩ := h.c0;have Xr := h.fo;obtain ⟨n, hn⟩ : ∃ n, R.length = n := ⟨_, rfl⟩
 rw [hn] at c0 wV hx;have HX := af (acD hn (acD hx Xr));have jB : maxLen = 9223372036854775807 := rfl;have Oq : (n : Int) ≤ 9223372036854775807 := by omega
 clear hx Xr wV kO jB hn h;go_enter func114, ntmps114
 go_wp2_with fail
 go_loopw [6, 12] (fun _ i wr => ∃ j : Nat, j ≤ n ∧ i = .int .i64 j ∧ Hid (Below w.heap.size w wr ∧ ∀ x ∈ R.take j, x.t ≠ k)) (fun _ i _ => n - (intOf i).toNat)
 case atStart => exact ⟨0, by omega, rfl, af ⟨acG _ _, by simp⟩⟩
 case round =>
  obtain ⟨j, hj, rfl, HR⟩ := hrel;by_cases bd : (j : Int) < (n : Int)
  ·obtain ⟨g, o, rfl, hp⟩ := HX.out.2.1 (by omega);obtain ⟨x, o7⟩ : ∃ x, R[j]? = some x := ⟨_, acF (by have := HX.out.1; omega)⟩
   have ck := hp j x o7;have OW : wr.cell? ⟨g, o + j, none⟩ = some (.pointer (some ⟨x.g, 0, none⟩)) := (HR.out.1.cell (lt_of_cell ck)).trans ck;obtain ⟨oo, iu⟩ : ∃ oo, o + j = oo := ⟨_, rfl⟩
   rw [iu] at OW;have cf := (HX.out.2.2 x (acS o7)).c0;have cf' : wr.cell? ⟨x.g, 0, none⟩ = some (.int .i64 x.t) := (HR.out.1.cell (lt_of_cell cf)).trans cf;have HXJ := af o7;clear hp ck cf o7;by_cases he : x.t = k
   ·have HF : Hid ((R.find? fun x => x.t == k) = some x) := af (by
     have Z0 : j < R.length := by have := HX.out.1; omega
     rw [List.find?_eq_some_iff_append];refine ⟨by simpa using he, R.take j, R.drop (j + 1), ?_, fun y hy => by simpa using HR.out.2 y hy⟩;have h1 := (acL.1 HXJ.out).2;rw [← h1, ← adL Z0, aeb])
    obtain ⟨xt, xg, xL⟩ := x;dsimp only at *;subst he;go_wp2;go_ret;refine ⟨?_, HR.out.1⟩;unfold tP;rw [HF.out];rfl
   ·obtain ⟨xt, xg, xL⟩ := x;dsimp only at *;go_wp2;go_roundw;case rel =>
     refine ⟨j + 1, by omega, by go_num, af ⟨HR.out.1, fun y hy => ?_⟩⟩;rw [ac5, HXJ.out] at hy;rcases ad1.1 hy with h | h
     ·exact HR.out.2 y h
     ·simp at h; subst h; exact he
    case measure => simp [intOf]; omega
  ·have lk : R.take j = R := acY (by have := HX.out.1; omega);have HF : Hid ((R.find? fun x => x.t == k) = none) := af (by
    rw [aeP];intro y hy;have := HR.out.2 y (by rw [lk]; exact hy)
    simpa using this)
   go_wp2;go_ret;refine ⟨?_, HR.out.1⟩;unfold tP;rw [HF.out];rfl
theorem Bp {w : World} {gx : Nat} {R : List Rr} (h : dx w gx R) (k : Int) : Calls prog 87 #[.pointer (some ⟨gx, 0, none⟩), .int .i64 k] w fun e w' => ∃ v', e = .returned v' ∧ bQ w.heap.size w' v' (g_ (R.map Rr.pl) k) ∧ Below w.heap.size w w' := by
 have H := af h;have J8 := af (rD h k);clear h;go_enter func87, ntmps87
 go_wp2_with fail
 refine J8.out.mono ?_;rintro e w1 ⟨rfl, aK⟩;have aS := af aK;clear aK J8;have hl : bj kP (R.map Rr.pl) k = (R.find? fun x => x.t == k).map Rr.pl := by
  unfold bj;rw [List.find?_map];rfl
 have yZ := af hl;clear hl;cases hf : R.find? fun x => x.t == k with
 | none =>
  rw [show tP R k = .pointer none by unfold tP; rw [hf]; rfl];go_wp2;go_ret;refine ⟨_, rfl, ?_, aS.out⟩;have h1 := yZ.out;rw [hf] at h1;unfold g_;rw [h1];exact bQ.nil _ _
 | some x =>
  have hx := aeG hf;have Am := af (rY ((H.out.fo x hx).is.below aS.out) (H.out.ok.ok x.pl (ads.2 ⟨x, hx, rfl⟩)).1);have aaL : Hid (g_ (R.map Rr.pl) k = jK (aQ x.L)) := af (by
   have h1 := yZ.out;rw [hf] at h1;unfold g_;rw [h1];rfl)
  rw [show tP R k = .pointer (some ⟨x.g, 0, none⟩) by unfold tP; rw [hf]; rfl];clear hf hx;go_wp2_with fail
  refine Am.out.mono ?_;rintro e w2 ⟨v2, rfl, eX, aP⟩;have HO := af (acD eX aP);clear eX aP;go_wp2;go_ret;refine ⟨_, rfl, ?_, aS.out.trans (HO.out.2.mono aS.out.size)⟩;rw [aaL.out];exact HO.out.1.mono aS.out.size
theorem Tryz.infoRr : (Tryz.prog.info? 180).map (fun i => (i.zero, i.size, i.bytes)) = some (some (.pointer none), 1, 8) := by kernel_rfl
def ia (B : Nat) (w : World) (v : Value) (R : List Rr) : Prop := w.ownsRow B 180 1 v R.length (R.map Rr.v)
theorem ia.nil (B : Nat) (w : World) : ia B w (.slice none 0 0) [] := aex _ _ _ _
theorem IQ {B : Nat} {w : World} {v : Value} {R : List Rr} (h : ia B w v R) (x : Rr) (hB : B ≤ w.heap.size) (hs : R.length ≤ 1100000) :
  ∃ v' w', (Builtin.append_ #[132, 132] 132 #[v, .slice (some ⟨w.heap.size, 0, none⟩) 1 1]).run prog (w.alloc (.cells #[.pointer (some ⟨x.g, 0, none⟩)] 180)) = .ok v' w' ∧ ia B w' v' (R ++ [x]) ∧ Below B w w' ∧ w.grownBy w' v.ownBlock := by
 obtain ⟨i0, eV, gu, fC, fD⟩ := adM Tryz.infoRr;have xC := ady h (.cells #[.pointer (some ⟨x.g, 0, none⟩)] 180);obtain ⟨v', w', hr, h1, h2, _, h4⟩ := adK (P := prog) (w.alloc (.cells #[.pointer (some ⟨x.g, 0, none⟩)] 180)) B 132 132 180 i0 _ 1 8 underlying132 eV gu fC fD rfl (by decide) v R.length (R.map Rr.v) xC ⟨w.heap.size, 0, none⟩ 1 1 [Rr.v x] rfl
  (iQ _ _ _)
  (by intro u hu; simp at hu; subst hu; rfl) (by simp only [maxLen]; omega) (by omega) (by simp; omega)
 have fA : Below B w (w.alloc (.cells #[.pointer (some ⟨x.g, 0, none⟩)] 180)) := (acG _ _).alloc hB _;refine ⟨v', w', hr, ?_, fA.grown h2 (by simp; omega) fun k hk => (adA h k hk).1, ?_⟩
 ·have : (R ++ [x]).map Rr.v = R.map Rr.v ++ [Rr.v x] := by simp
  unfold ia;rw [this, acH];exact h1
 ·refine ⟨h2.os, h2.tape, h2.output, ?_, fun k hk aN => ?_⟩
  ·have := h2.size;simp at this;omega
  ·rw [h2.block k (by simp; omega) aN];exact aeN _ _ hk
theorem dm {w : World} {ops : Array Oper} {rest : List Oper} {o : Oper} {a : Act} {Q : Exit → Act → World → Prop} (kS : o.guard = none) (s t : Operand)
  (ho : o.op = .call { callee := .builtin .append, args := #[s, t], argTypes := #[132, 132] }) (hty : o.type = 132) {B : Nat} {v : Value} {R : List Rr} (x : Rr) {H : Nat}
  (hs : a.eval s = v) (ht : a.eval t = .slice (some ⟨H, 0, none⟩) 1 1) (hH : H = w.heap.size) (h : ia B w v R) (hB : B ≤ w.heap.size) (hn : R.length ≤ 1100000)
  (hK : ∀ v' w', ia B w' v' (R ++ [x]) → Below B w w' → w.grownBy w' v.ownBlock → wpList prog ops Q rest (a.put o.dst v') w') : wpList prog ops Q (o :: rest) a (w.alloc (.cells #[.pointer (some ⟨x.g, 0, none⟩)] 180)) := by
 subst hH;obtain ⟨v', w', hr, h1, h2, h3⟩ := IQ h x hB hn;exact adC _ kS s t 132 ho v _ hs ht (by rw [hty]; exact hr) (hK v' w' h1 h2 h3)
theorem ia.below {B : Nat} {w w' : World} {v : Value} {R : List Rr} (h : ia B w v R) (hb : Below w.heap.size w w') : ia B w' v R :=
 adV (row := none) h ⟨hb.os, hb.tape, hb.output, hb.size, fun k hk _ => hb.block k hk⟩ (by
  by_cases hv : v.ownBlock = none
  ·exact .inl hv
  ·exact .inr hv)
def nJ (R : List Rr) (f : Int) : List Rr := R.filter fun x => decide (f ≤ dQ x.L)
theorem OX (R : List Rr) (f : Int) : (nJ R f).map Rr.pl = sS (R.map Rr.pl) f := by
 unfold nJ sS;rw [List.filter_map];rfl
theorem IU (R : List Rr) (x : Rr) (f : Int) : nJ (R ++ [x]) f = nJ R f ++ if f ≤ dQ x.L then [x] else [] := by
 unfold nJ;rw [aeC]
 congr 1
 by_cases h : f ≤ dQ x.L
 ·rw [acW h]; simp [h]
 ·rw [acO h]; simp [h]
theorem Tryz.infoInX : (Tryz.prog.info? 3).map (fun i => (i.zero, i.size, i.bytes)) = some (some (.int .i64 0), 1, 8) := by kernel_rfl
def hJ (B : Nat) (w : World) (v : Value) (l : List Int) : Prop := w.ownsRow B 3 1 v l.length (l.map (Value.int .i64))
theorem hJ.nil (B : Nat) (w : World) : hJ B w (.slice none 0 0) [] := aex _ _ _ _
theorem hJ.sl {B : Nat} {w : World} {v : Value} {l : List Int} (h : hJ B w v l) : ∃ p c, v = .slice p l.length c := by
 obtain ⟨hl, ⟨rfl, h0⟩ | ⟨g, cap, cur, rfl, _⟩⟩ := h
 ·exact ⟨none, 0, by rw [h0]⟩
 ·exact ⟨_, cap, rfl⟩
theorem EH {B : Nat} {w : World} {v : Value} {l : List Int} (h : hJ B w v l) (x : Int) (hB : B ≤ w.heap.size) (hs : l.length ≤ 1100000) :
  ∃ v' w', (Builtin.append_ #[23, 23] 23 #[v, .slice (some ⟨w.heap.size, 0, none⟩) 1 1]).run prog (w.alloc (.cells #[.int .i64 x] 3)) = .ok v' w' ∧ hJ B w' v' (l ++ [x]) ∧ Below B w w' := by
 obtain ⟨i0, eV, gu, fC, fD⟩ := adM Tryz.infoInX;have xC := ady h (.cells #[.int .i64 x] 3);obtain ⟨v', w', hr, h1, h2, _, h4⟩ := adK (P := prog) (w.alloc (.cells #[.int .i64 x] 3)) B 23 23 3 i0 _ 1 8 ae5 eV gu fC fD rfl (by decide) v l.length (l.map (Value.int .i64)) xC ⟨w.heap.size, 0, none⟩ 1 1 [.int .i64 x] rfl
  (iQ _ _ _)
  (by intro u hu; simp at hu; subst hu; rfl) (by simp only [maxLen]; omega) (by omega) (by simp; omega)
 have fA : Below B w (w.alloc (.cells #[.int .i64 x] 3)) := (acG _ _).alloc hB _;refine ⟨v', w', hr, ?_, fA.grown h2 (by simp; omega) fun k hk => (adA h k hk).1⟩;have : (l ++ [x]).map (Value.int .i64) = l.map (Value.int .i64) ++ [Value.int .i64 x] := by simp
 unfold hJ;rw [this, acH];exact h1
theorem wH {w : World} {ops : Array Oper} {rest : List Oper} {o : Oper} {a : Act} {Q : Exit → Act → World → Prop} (kS : o.guard = none) (s t : Operand)
  (ho : o.op = .call { callee := .builtin .append, args := #[s, t], argTypes := #[23, 23] }) (hty : o.type = 23) {B : Nat} {v : Value} {l : List Int} (x : Int) {H : Nat}
  (hs : a.eval s = v) (ht : a.eval t = .slice (some ⟨H, 0, none⟩) 1 1) (hH : H = w.heap.size) (h : hJ B w v l) (hB : B ≤ w.heap.size) (hn : l.length ≤ 1100000)
  (hK : ∀ v' w', hJ B w' v' (l ++ [x]) → Below B w w' → wpList prog ops Q rest (a.put o.dst v') w') : wpList prog ops Q (o :: rest) a (w.alloc (.cells #[.int .i64 x] 3)) := by
 subst hH;obtain ⟨v', w', hr, h1, h2⟩ := EH h x hB hn;exact adC _ kS s t 23 ho v _ hs ht (by rw [hty]; exact hr) (hK v' w' h1 h2)
theorem Bo {w : World} {gx : Nat} {R : List Rr} (h : dx w gx R) : Calls prog 85 #[.pointer (some ⟨gx, 0, none⟩)] w fun e w' => ∃ v, e = .returned v ∧ hJ w.heap.size w' v (R.map (·.t)) ∧ Below w.heap.size w w' := by
 have H := af h;obtain ⟨v, c0, ⟨p, c, rfl, wV, kO, _, hx⟩, _⟩ := h.c0;have BL : R.length ≤ 32 := by have := h.ok.len; simpa using this
 obtain ⟨n, hn⟩ : ∃ n, R.length = n := ⟨_, rfl⟩
 rw [hn] at c0 wV hx BL;have HX := af (acD hn hx);have Oq : (n : Int) ≤ 100 := by omega
 clear hx wV kO hn h;go_enter func85, ntmps85
 go_wp2_with fail
 clear c0;go_loopw [3, 5, 11] (fun v3 _ i wr => ∃ (j : Nat) (q : Option Addr) (m d : Nat), v3 = .slice q m d ∧ j ≤ n ∧ i = .int .i64 j ∧ Hid (Below w.heap.size w wr ∧ hJ w.heap.size wr (.slice q m d) ((R.take j).map (·.t)))) (fun _ _ i _ => n - (intOf i).toNat)
 case atStart => exact ⟨0, none, 0, 0, rfl, by omega, rfl, af ⟨acG _ _, hJ.nil _ _⟩⟩
 case round =>
  obtain ⟨j, q, m, d, rfl, hj, rfl, HR⟩ := hrel;by_cases bd : (j : Int) < (n : Int)
  ·obtain ⟨g, o, rfl, hp⟩ := HX.out.2 (by omega);obtain ⟨x, o7⟩ : ∃ x, R[j]? = some x := ⟨_, acF (by have := HX.out.1; omega)⟩
   have ck := hp j x o7;have OW : wr.cell? ⟨g, o + j, none⟩ = some (.pointer (some ⟨x.g, 0, none⟩)) := (HR.out.1.cell (lt_of_cell ck)).trans ck;obtain ⟨oo, iu⟩ : ∃ oo, o + j = oo := ⟨_, rfl⟩
   rw [iu] at OW;have cf := (H.out.fo x (acS o7)).c0;have cf' : wr.cell? ⟨x.g, 0, none⟩ = some (.int .i64 x.t) := (HR.out.1.cell (lt_of_cell cf)).trans cf;have iB : Hid ((R.take (j + 1)).map (·.t) = (R.take j).map (·.t) ++ [x.t]) := af (by rw [ac5, o7]; simp);have Lq : ((R.take j).map (·.t)).length ≤ 1100000 := by
    rw [adv, ac6];omega
   have nR := af (acD HR.out.1.size Lq);clear hp ck cf o7 Lq;go_wp2_with (at_builtin; go_must (refine wH (v := .slice q m d) rfl _ _ rfl rfl x.t rfl rfl rfl HR.out.2 nR.out.1 nR.out.2 ?_); intro v6 w6 cw bK; obtain ⟨p6, c6, rfl⟩ := cw.sl; have H6 := af (acD (HR.out.1.trans bK) cw); clear cw bK)
   go_roundw;case rel =>
    refine ⟨j + 1, _, _, _, rfl, by omega, by go_num, af ⟨H6.out.1, ?_⟩⟩;rw [iB.out];have h6 := H6.out.2;simp only [acH, acZ, ad8, ac2, adv, ac6] at h6;exact h6
   case measure => simp [intOf]; omega
  ·have lk : R.take j = R := acY (by have := HX.out.1; omega);have o_ := HR.out.2;rw [lk] at o_;have HO := af o_;clear o_;go_wp2;go_ret;exact ⟨_, rfl, HO.out, HR.out.1⟩
theorem tj {w : World} {gx : Nat} {R : List Rr} (h : dx w gx R) : Calls prog 120 #[.pointer (some ⟨gx, 0, none⟩)] w fun e w' => ∃ v, e = .returned v ∧ Own w.heap.size w' v (br (R.map Rr.pl)) ∧ Below w.heap.size w w' := by
 have H := af h;obtain ⟨v, c0, ⟨p, c, rfl, wV, kO, _, hx⟩, _⟩ := h.c0;have BL : R.length ≤ 32 := by have := h.ok.len; simpa using this
 obtain ⟨n, hn⟩ : ∃ n, R.length = n := ⟨_, rfl⟩
 rw [hn] at c0 wV hx BL;have HX := af (acD hn (acD hx c0));have Oq : (n : Int) ≤ 100 := by omega
 have NB := af (gP (By.nil w) (by simp) (n : Int) n (by omega) (by unfold lim; omega));clear hx wV kO hn h;go_enter func120, ntmps120
 go_wp2_with fail
 refine NB.out.mono ?_;rintro e w1 ⟨v1, rfl, mW, aK⟩;obtain ⟨q1, m1, d1, rfl⟩ := mW.bp.sl;have H1 := af (acD mW aK);have c0' := (aK.cell (p := ⟨gx, 0, none⟩) (lt_of_cell HX.out.2.2)).trans HX.out.2.2;clear mW aK NB c0;go_wp2_with fail
 clear c0';go_loopw [3, 5, 6, 7, 19] (fun v3 _ _ _ i wr => ∃ (j : Nat) (q : Option Addr) (m d : Nat), v3 = .slice q m d ∧ j ≤ n ∧ i = .int .i64 j ∧ Hid (Below w.heap.size w wr ∧ Own w.heap.size wr (.slice q m d) (digits n ++ ((R.take j).map Rr.pl).flatMap aX))) (fun _ _ _ _ i _ => n - (intOf i).toNat)
 case atStart => exact ⟨0, q1, m1, d1, rfl, by omega, rfl, af ⟨H1.out.2, by have := H1.out.1; simpa using this⟩⟩
 case round =>
  obtain ⟨j, q, m, d, rfl, hj, rfl, HR⟩ := hrel;by_cases bd : (j : Int) < (n : Int)
  ·obtain ⟨g, o, rfl, hp⟩ := HX.out.2.1 (by omega);obtain ⟨x, o7⟩ : ∃ x, R[j]? = some x := ⟨_, acF (by have := HX.out.1; omega)⟩
   have ck := hp j x o7;have OW : wr.cell? ⟨g, o + j, none⟩ = some (.pointer (some ⟨x.g, 0, none⟩)) := (HR.out.1.cell (lt_of_cell ck)).trans ck;obtain ⟨oo, iu⟩ : ∃ oo, o + j = oo := ⟨_, rfl⟩
   rw [iu] at OW;have hm := acS o7;have aT : dT x.t x.L := (H.out.ok.ok x.pl (ads.2 ⟨x, hm, rfl⟩)).1;obtain ⟨u, cf, Ie⟩ := ((H.out.fo x hm).is.below HR.out.1).2;have iB : Hid (((R.take (j + 1)).map Rr.pl).flatMap aX = ((R.take j).map Rr.pl).flatMap aX ++ aX x.pl) := af (by rw [ac5, o7]; simp);have QG : Hid ((digits n ++ ((R.take j).map Rr.pl).flatMap aX).length ≤ 1100000) := af (by
    have h1 := kv (S := (R.take j).map Rr.pl) fun y hy => by
     obtain ⟨z, hz, rfl⟩ := ads.1 hy;exact (H.out.ok.ok z.pl (ads.2 ⟨z, adD hz, rfl⟩)).1
    have h3 := digits_length n (by omega);rw [acH];have h4 : (((R.take j).map Rr.pl).flatMap aX).length = Lib.lens (((R.take j).map Rr.pl).map aX) := by rw [aeX, ae4]; rfl
    rw [adv, ac6] at h1;omega)
   have HS := af (mj Ie (by have := aT.len; omega));have fh := af aT;clear hp ck o7 hm aT Ie;go_wp2_with fail
   refine HS.out.mono ?_;rintro e w5 ⟨v5, rfl, bP, aL⟩;have HP := af (tQ bP.gp (by rw [dp]; have := fh.out.len; omega) (fun y hy => by
    have h4 := (fh.out.ok y (iR.1 hy)).1;unfold Sp.ok at h4;rw [adb] at h4;have h5 := h4.2;unfold kZ at h5;rw [adb, adb, adr, adr] at h5;have h6 := h5.1.2;have h7 : y.nl.length = y.n.size := by unfold Sp.nl; rfl
    omega) (F5 fh.out))
   obtain ⟨q5, m5, d5, rfl⟩ := bP.gp.sl;have H5 := af (acD (HR.out.1.trans (aL.mono HR.out.1.size)) (HR.out.2.below aL));clear bP aL HS;go_wp2_with fail
   refine HP.out.mono ?_;rintro e w6 ⟨v6, rfl, cw, bK⟩;obtain ⟨q6, m6, d6, rfl⟩ := cw.bp.sl;have sU := bH cw.bp;have HT := af (jP (H5.out.2.below bK).bp QG.out (str (cN (aQ x.L))) (by rw [pw]; have := py fh.out; omega));have H6 := af (H5.out.1.trans (bK.mono H5.out.1.size));clear cw bK HP;go_wp2_with fail
   refine HT.out.mono ?_;rintro e w7 ⟨v7, rfl, nE, cZ⟩;obtain ⟨q7, m7, d7, rfl⟩ := nE.bp.sl;have H7 := af (acD (H6.out.trans (cZ.mono H6.out.size)) (nE.mono H6.out.size));clear nE cZ HT sU;go_wp2;go_roundw;case rel =>
    refine ⟨j + 1, _, _, _, rfl, by omega, by go_num, af ⟨H7.out.1, ?_⟩⟩;rw [iB.out];have h7 := H7.out.2;rw [pw, BM, ac7, ac7] at h7;exact h7
   case measure => simp [intOf]; omega
  ·have lk : R.take j = R := acY (by have := HX.out.1; omega);have o_ := HR.out.2;rw [lk] at o_;have HO := af o_;clear o_;go_wp2;go_ret;refine ⟨_, rfl, ?_, HR.out.1⟩;unfold br;rw [adv, HX.out.1];exact HO.out
end Go.Proofs.YtionbmlicmibgaaGreatDoor
