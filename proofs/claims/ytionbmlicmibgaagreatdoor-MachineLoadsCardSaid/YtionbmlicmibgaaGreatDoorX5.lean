import Derived.Test.YtionbmlicmibgaaGreatDoorX4
set_option linter.unusedVariables false
set_option linter.unusedSimpArgs false
namespace Go.Proofs.YtionbmlicmibgaaGreatDoor
open Go.Proofs.Tryz
open Go.RowKit
structure oJ (l : List UInt8) (i : Nat) (L : List St) (st : Nat × Nat) : Prop where
 len : L.length = i
 rises : fT L
 ok : ∀ x ∈ L, x.ok = true
 at_ : st.1 ≤ l.length
 ld : i ≤ 8 → wU l i = some (L, st)
theorem oJ.zero (l : List UInt8) : oJ l 0 [] (nx l (0, 0)).2 := ⟨rfl, aek, (fun x hx => by cases hx), (av (st := (0, 0)) (adq _)).1, fun _ => rfl⟩
theorem oJ.next {l : List UInt8} {i : Nat} {L : List St} {st : Nat × Nat} (h : oJ l i L st) (hi : i ≤ 8) (hx : (dV l st).1.ok = true) (hs : ∀ y ∈ L, y.s < (dV l st).1.s) : oJ l (i + 1) (L ++ [(dV l st).1]) (dV l st).2 := by
 refine ⟨by simp [h.len], ?_, ?_, C4 h.at_, fun h8 => ?_⟩
 ·exact aes.2 ⟨h.rises, aeM _ _, fun a ha b hb => by
   rw [aeo] at hb;subst hb;exact hs a ha⟩
 ·intro x hm;rcases ad1.1 hm with hm | hm
  ·exact h.ok x hm
  ·rw [aeo] at hm;subst hm;exact hx
 ·have hl := h.len;rw [pT (h.ld (by omega)), acW (by simp [hx]; omega), qU hs]
theorem oJ.refuse {l : List UInt8} {i : Nat} {L : List St} {st : Nat × Nat} (h : oJ l i L st) (hi : i < AB l) (h8 : i ≤ 8) (fI : ¬ ((dV l st).1.ok = true ∧ ∀ y ∈ L, y.s < (dV l st).1.s)) : loadT l = none := by
 cases SA : loadT l with
 | none => rfl
 | some L' =>
  exfalso;obtain ⟨oh, aT⟩ := qn SA;obtain ⟨h1, h2⟩ := Ag aT oh.symm;obtain ⟨a, ha, hd⟩ := h2 i (by omega);rw [h.ld h8] at ha;injection ha with ha;injection ha with e1 e2;subst e1 e2;obtain ⟨x, hx⟩ : ∃ x, L'[i]? = some x := ⟨_, acF (by omega)⟩
  have VX := aT.ok x (acS hx);have Nj : L'.drop i = x :: L'.drop (i + 1) := by
   obtain ⟨bd, rfl⟩ := acL.1 hx;exact adL bd
  rw [Nj, adw] at hd;obtain ⟨nO, _⟩ := yB VX hd;rw [nO] at fI;refine fI ⟨VX, fun y hy => ?_⟩;obtain ⟨j, hj, rfl⟩ := List.getElem_of_mem hy;rw [ac6] at hj;rw [List.getElem_take];obtain ⟨bd, rfl⟩ := acL.1 hx;exact aen.1 aT.rises j i (by omega) bd (by omega)
theorem JM {l : List UInt8} (h : 9 ≤ AB l) : loadT l = none := by
 cases SA : loadT l with
 | none => rfl
 | some L' =>
  obtain ⟨oh, aT⟩ := qn SA;obtain ⟨h1, _⟩ := Ag aT oh.symm;have := aT.len;omega
theorem oJ.done {l : List UInt8} {L : List St} {st : Nat × Nat} (h : oJ l (AB l) L st) (h8 : AB l ≤ 8) : (loadT l = if dN L = l then some L else none) ∧ dS L := ⟨vd (h.ld h8), (qT (h.ld h8)).1⟩
theorem FC {L : List St} (h : fT L) {j : Nat} {y : St} (hy : L[j]? = some y) (hj : L.length = j + 1) {n : Int} (hn : y.s < n) : ∀ z ∈ L, z.s < n := fun z hz => by
 obtain ⟨i, hi, rfl⟩ := List.getElem_of_mem hz;obtain ⟨bd, rfl⟩ := acL.1 hy;by_cases e : i = j
 ·subst e;exact hn
 ·have := aen.1 h i j hi bd (by omega);omega
structure Rd (w0 : World) (g gx z : Nat) (vs v : Value) (L : List St) (at_ E : Nat) (cs : Array Value) (w : World) : Prop where
 s : Sr w g vs at_ E
 x : jh w gx v L
 zz : w.heap[z]? = some (.cells cs 84 (0, 0))
 b : Below w0.heap.size w0 w
 Zk : g ≠ gx
 gz : g ≠ z
 xz : gx ≠ z
 gl : w0.heap.size ≤ g
 zl : w0.heap.size ≤ z
 vg : v.ownBlock ≠ some g
 vz : v.ownBlock ≠ some z
theorem jh.grown {w w' : World} {gx k : Nat} {v : Value} {L : List St} (h : jh w gx v L) (hg : w.grownBy w' (some k)) (h1 : gx ≠ k) (h2 : v.ownBlock ≠ some k) : jh w' gx v L :=
 ⟨(hg.block gx h.lt (fun e => h1 (by injection e))).trans h.row, h.own.grown hg (.inr h2)⟩
theorem Rd.call {w0 w : World} {g gx z : Nat} {p : Option Addr} {n c : Nat} {v : Value} {L : List St} {at_ E : Nat} {cs : Array Value} (h : Rd w0 g gx z (.slice p n c) v L at_ E cs w) {l : List UInt8} (hv : By w0 (.slice p n c) l) (aG : at_ ≤ l.length) {N A E' : Nat} (hT : nx l (at_, E) = (N, A, E')) :
  Calls prog 70 #[.pointer (some ⟨g, 0, none⟩)] w fun e w' => e = .returned (.int .i64 N) ∧ Rd w0 g gx z (.slice p n c) v L A E' cs w' := by
 refine (aY h.s (hv.below h.b) (by have := hv.len.1; omega) (N := N) (A := A) (E := E') hT).mono ?_;rintro e w' ⟨rfl, hs, hg⟩;exact ⟨rfl, hs, h.x.grown hg (fun e => h.Zk e.symm) h.vg, (hg.block z (acJ.1 h.zz).1 (fun e => h.gz (by injection e with e; exact e.symm))).trans h.zz, h.b.grown hg h.b.size (fun k hk => by injection hk with hk; rw [← hk]; exact h.gl), h.Zk, h.gz, h.xz, h.gl, h.zl, h.vg, h.vz⟩
theorem Rd.put {w0 w : World} {g gx z : Nat} {vs v : Value} {L : List St} {at_ E : Nat} {cs : Array Value} (h : Rd w0 g gx z vs v L at_ E cs w) (i : Nat) (u : Value) : Rd w0 g gx z vs v L at_ E (cs.setIfInBounds i u) (w.setCell ⟨z, i, none⟩ u) := by
 have hg := aj w z i u;refine ⟨?_, h.x.grown hg h.xz h.vz, acK w z i cs 84 u h.zz, h.b.grown hg h.b.size (fun k hk => by injection hk with hk; rw [← hk]; exact h.zl), h.Zk, h.gz, h.xz, h.gl, h.zl, h.vg, h.vz⟩;exact (hg.block g h.s.lt (fun e => h.gz (by injection e))).trans h.s
theorem Rd.vP {w0 w w' : World} {g gx z : Nat} {vs v : Value} {L : List St} {at_ E : Nat} {cs : Array Value} (h : Rd w0 g gx z vs v L at_ E cs w) (hb : Below w.heap.size w w') : Rd w0 g gx z vs v L at_ E cs w' :=
 ⟨(hb.block g h.s.lt).trans h.s, h.x.below hb, (hb.block z (acJ.1 h.zz).1).trans h.zz, h.b.trans (hb.mono h.b.size), h.Zk, h.gz, h.xz, h.gl, h.zl, h.vg, h.vz⟩
theorem GF {w : World} {b : Nat} {x : St} (h : dJ w b 0 x) : wh w (.slice (some ⟨b, 0, none⟩) 1 1) [x] := ⟨_, 1, rfl, acE _, by simp [maxLen], (fun e => by cases e), fun _ => ⟨b, 0, rfl, fun i y hi => by
 cases i with
 | zero =>
  simp only [ad2, adp] at hi;subst hi
  simpa using h
 | succ i => simp at hi⟩⟩
theorem pV {V : World} {ops : Array Oper} {o : Oper} {a : Act} {K : Act → World → Prop} {Q : Exit → Act → World → Prop} {E : Prop} (kS : o.guard = none) (s x : Operand)
  (ho : o.op = .call { callee := .builtin .append, args := #[s, x], argTypes := #[81, 81] }) (hty : o.type = 81) {B : Nat} {v u : Value} {l m : List St}
  (hs : a.eval s = v) (hx : a.eval x = u) (h : dX B V v l) (hu : wh V u m) (hB : B ≤ V.heap.size) (hn : (l.length + m.length) * 88 ≤ 140737488355328)
  (hK : ∀ v' V', dX B V' v' (l ++ m) → Below B V V' → V.grownBy V' v.ownBlock → K (a.put o.dst v') V') : if Region.wanted o (yielded ops a.tmps) = true then Oper.wp prog o a V K Q else E := by
 obtain ⟨v', w', hr, h1, h2, h3⟩ := C0 h hu hB hn;have hw : Region.wanted o (yielded ops a.tmps) = true := by simp [Region.wanted, kS]
 rw [acW hw];exact Lib.wp_append_run_sl V s x 81 ho v u hs hx (by rw [hty]; exact hr) (hK v' w' h1 h2 h3)
theorem Rd.push {w0 w A V9 : World} {g gx z : Nat} {vs v : Value} {L L9 : List St} {at_ E : Nat} {cs : Array Value} {p9 : Option Addr} {n9 c9 : Nat} (h : Rd w0 g gx z vs v L at_ E cs w) (wx : w0.heap.size ≤ gx) (hA : Below w.heap.size w A) (h9 : dX (gx + 1) V9 (.slice p9 n9 c9) L9) (hg : A.grownBy V9 v.ownBlock) :
  Sr (V9.setCell ⟨gx, 0, none⟩ (.slice p9 n9 c9)) g vs at_ E ∧ jh (V9.setCell ⟨gx, 0, none⟩ (.slice p9 n9 c9)) gx (.slice p9 n9 c9) L9 ∧ Below w0.heap.size w0 (V9.setCell ⟨gx, 0, none⟩ (.slice p9 n9 c9)) ∧ V9.cell? ⟨gx, 0, none⟩ = some v ∧ V9.frozen? ⟨gx, 0, none⟩ = false := by
 have hvx : some gx ≠ v.ownBlock := fun e => by
  have := (h.x.own.lt gx e.symm).1;omega
 have Hg : gx < A.heap.size := acV h.x.lt hA.size;have aM : V9.heap[gx]? = some (.cells #[v] 136 (0, 0)) := (hg.block gx Hg hvx).trans ((hA.block gx h.x.lt).trans h.x.row);have hs := aj V9 gx 0 (.slice p9 n9 c9);refine ⟨?_, ⟨?_, h9.grown hs (.inr fun e => by have := (h9.lt gx e).1; omega)⟩, ?_, ?_, acI V9 gx 0 _ 136 aM⟩
 ·have h1 : V9.heap[g]? = w.heap[g]? := (hg.block g (acV h.s.lt hA.size) (fun e => h.vg e.symm)).trans (hA.block g h.s.lt);exact (hs.block g (acV h.s.lt (acN hA.size hg.size)) (fun e => h.Zk (by injection e))).trans (h1.trans h.s)
 ·have h2 := acK V9 gx 0 #[v] 136 (.slice p9 n9 c9) aM;exact h2
 ·refine ((h.b.trans (hA.mono h.b.size)).grown hg (acN h.b.size hA.size) fun k hk => ?_).grown hs (acN h.b.size (acN hA.size hg.size)) fun k hk => by cases hk; exact wx
  have := (h.x.own.lt k hk).1;omega
 ·rw [acC V9 gx 0 _ _ (0, 0) aM];rfl
def UO (w : World) : Option (List St) → Ending → World → Prop
 | some L, e, w' => ∃ gx v, e = .returned (.tuple #[.pointer (some ⟨gx, 0, none⟩), .int .i64 0]) ∧ jh w' gx v L ∧ w.heap.size ≤ gx ∧ Below w.heap.size w w'
 | none, e, w' => e = .returned (.tuple #[.pointer none, .int .i64 83]) ∧ Below w.heap.size w w'
set_option maxRecDepth 200000 in
set_option maxHeartbeats 8000000 in
theorem Bh {w : World} {p : Option Addr} {n c : Nat} {l : List UInt8} (hv : By w (.slice p n c) l) (hl : l.length ≤ 1100000) : Calls prog 92 #[.slice p n c] w (UO w (loadT l)) := by
 have HV := af hv;have HN := af hv.len.1;have NA := af hl;obtain ⟨A, hA⟩ : ∃ A, w.alloc (.cells #[.slice p n c, .int .i64 0, .int .i64 0] 121) = A := ⟨_, rfl⟩
 have Al : Hid (Below w.heap.size w A) := af (by rw [← hA]; exact (acG _ _).alloc (acE _) _);have O5 : Hid (Sr A w.heap.size (.slice p n c) 0 0) := af (by rw [← hA]; exact acQ w _);have hga : w.heap.size < A.heap.size := by rw [← hA]; simp
 obtain ⟨g, hg⟩ : ∃ g, w.heap.size = g := ⟨_, rfl⟩
 rw [hg] at hga O5;obtain ⟨N, a0, E0, h0⟩ : ∃ n a E, nx l (0, 0) = (n, a, E) := ⟨_, _, _, rfl⟩
 have VY := af (oJ.zero l);have hN : AB l = N := by unfold AB; rw [h0]
 have TU : (N : Int) ≤ 9223372036854775807 := by have := Ni l; rw [hN] at this; omega
 rw [h0] at VY;dsimp only at VY;have k1 := af (aY O5.out (hv.below Al.out) (adq _) (N := N) (A := a0) (E := E0) h0);have vr := af hN;have HA := af (acD hA hg);clear hv hl h0 hA hg hN;go_enter func92, ntmps92
 go_wp2_with fail
 rw [HA.out.1, HA.out.2];refine k1.out.mono ?_;rintro e w1 ⟨rfl, dR, eQ⟩;have HG := HA.out.2;obtain ⟨gx, wx⟩ : ∃ gx, w1.heap.size = gx := ⟨_, rfl⟩
 obtain ⟨X, hX⟩ : ∃ X, w1.alloc (.cells #[.slice none 0 0] 136) = X := ⟨_, rfl⟩
 have aK : Below w.heap.size w w1 := Al.out.grown eQ Al.out.size (fun k hk => by injection hk with hk; omega);have HX : Hid (Sr X g (.slice p n c) a0 E0 ∧ jh X gx (.slice none 0 0) [] ∧ Below w.heap.size w X) := af (by
  rw [← hX, ← wx];have hb := (acG w1.heap.size w1).alloc (acE _) (.cells #[.slice none 0 0] 136);exact ⟨(hb.block g dR.lt).trans dR, ⟨acQ w1 _, dX.nil _ _⟩, aK.alloc aK.size _⟩)
 have Kf : w.heap.size ≤ g := by omega
 have acA : g < gx := by have := dR.lt; omega
 have UQ : Hid (w.heap.size ≤ gx) := af (by omega);have HXX := af (acD hX wx);clear hX wx dR eQ aK HG;go_wp2;rw [HXX.out.1, HXX.out.2];go_loopw [7] (fun i wr => ∃ (k : Nat) (L : List St) (st : Nat × Nat) (v : Value), k ≤ N ∧ k ≤ 9 ∧ i = .int .i64 k ∧ Hid (oJ l k L st ∧ Sr wr g (.slice p n c) st.1 st.2 ∧ jh wr gx v L ∧ Below w.heap.size w wr)) (fun i _ => 9 - (intOf i).toNat)
 case atStart => exact ⟨0, [], (a0, E0), _, by omega, by omega, rfl, af ⟨VY.out, HX.out.1, HX.out.2.1, HX.out.2.2⟩⟩
 case round =>
  obtain ⟨k, L, st, v, hk, Xj, rfl, HR⟩ := hrel;by_cases bd : k < N
  focus
   by_cases Pj : k < 9
   ·obtain ⟨a_, E_⟩ := st;obtain ⟨n1, a1, E1, h1⟩ : ∃ n a E, nx l (a_, E_) = (n, a, E) := ⟨_, _, _, rfl⟩
    obtain ⟨n2, a2, E2, h2⟩ : ∃ n a E, nx l (a1, E1) = (n, a, E) := ⟨_, _, _, rfl⟩
    obtain ⟨n3, a3, E3, h3⟩ : ∃ n a E, nx l (a2, E2) = (n, a, E) := ⟨_, _, _, rfl⟩
    obtain ⟨n4, a4, E4, h4⟩ : ∃ n a E, nx l (a3, E3) = (n, a, E) := ⟨_, _, _, rfl⟩
    obtain ⟨n5, a5, E5, h5⟩ : ∃ n a E, nx l (a4, E4) = (n, a, E) := ⟨_, _, _, rfl⟩
    obtain ⟨n6, a6, E6, h6⟩ : ∃ n a E, nx l (a5, E5) = (n, a, E) := ⟨_, _, _, rfl⟩
    obtain ⟨n7, a7, E7, h7⟩ : ∃ n a E, nx l (a6, E6) = (n, a, E) := ⟨_, _, _, rfl⟩
    obtain ⟨n8, a8, E8, h8⟩ : ∃ n a E, nx l (a7, E7) = (n, a, E) := ⟨_, _, _, rfl⟩
    obtain ⟨n9, a9, E9, h9⟩ : ∃ n a E, nx l (a8, E8) = (n, a, E) := ⟨_, _, _, rfl⟩
    obtain ⟨n10, NQ, RL, NR⟩ : ∃ n a E, nx l (a9, E9) = (n, a, E) := ⟨_, _, _, rfl⟩
    obtain ⟨n11, FB, JH, NS⟩ : ∃ n a E, nx l (NQ, RL) = (n, a, E) := ⟨_, _, _, rfl⟩
    have Ak : Hid (dV l (a_, E_) = ((⟨n1, n2, n3, ⟨n4, n5, n6, n7, n8, n9, n10, n11⟩⟩ : St), FB, JH)) := af (by
     unfold dV;simp only [h1, h2, h3, h4, h5, h6, h7, h8, h9, NR, NS])
    have l0 : a_ ≤ l.length := HR.out.1.at_;have l1 : a1 ≤ l.length := by have := (av (l := l) (st := (a_, E_)) (by dsimp only; omega)).1; rw [h1] at this; exact this
    have m1 : (n1 : Int) ≤ 9223372036854775807 := by have := (av (l := l) (st := (a_, E_)) (by dsimp only; omega)).2; rw [h1] at this; dsimp only at this; omega
    have l2 : a2 ≤ l.length := by have := (av (l := l) (st := (a1, E1)) (by dsimp only; omega)).1; rw [h2] at this; exact this
    have m2 : (n2 : Int) ≤ 9223372036854775807 := by have := (av (l := l) (st := (a1, E1)) (by dsimp only; omega)).2; rw [h2] at this; dsimp only at this; omega
    have l3 : a3 ≤ l.length := by have := (av (l := l) (st := (a2, E2)) (by dsimp only; omega)).1; rw [h3] at this; exact this
    have m3 : (n3 : Int) ≤ 9223372036854775807 := by have := (av (l := l) (st := (a2, E2)) (by dsimp only; omega)).2; rw [h3] at this; dsimp only at this; omega
    have l4 : a4 ≤ l.length := by have := (av (l := l) (st := (a3, E3)) (by dsimp only; omega)).1; rw [h4] at this; exact this
    have m4 : (n4 : Int) ≤ 9223372036854775807 := by have := (av (l := l) (st := (a3, E3)) (by dsimp only; omega)).2; rw [h4] at this; dsimp only at this; omega
    have l5 : a5 ≤ l.length := by have := (av (l := l) (st := (a4, E4)) (by dsimp only; omega)).1; rw [h5] at this; exact this
    have m5 : (n5 : Int) ≤ 9223372036854775807 := by have := (av (l := l) (st := (a4, E4)) (by dsimp only; omega)).2; rw [h5] at this; dsimp only at this; omega
    have l6 : a6 ≤ l.length := by have := (av (l := l) (st := (a5, E5)) (by dsimp only; omega)).1; rw [h6] at this; exact this
    have m6 : (n6 : Int) ≤ 9223372036854775807 := by have := (av (l := l) (st := (a5, E5)) (by dsimp only; omega)).2; rw [h6] at this; dsimp only at this; omega
    have l7 : a7 ≤ l.length := by have := (av (l := l) (st := (a6, E6)) (by dsimp only; omega)).1; rw [h7] at this; exact this
    have m7 : (n7 : Int) ≤ 9223372036854775807 := by have := (av (l := l) (st := (a6, E6)) (by dsimp only; omega)).2; rw [h7] at this; dsimp only at this; omega
    have l8 : a8 ≤ l.length := by have := (av (l := l) (st := (a7, E7)) (by dsimp only; omega)).1; rw [h8] at this; exact this
    have m8 : (n8 : Int) ≤ 9223372036854775807 := by have := (av (l := l) (st := (a7, E7)) (by dsimp only; omega)).2; rw [h8] at this; dsimp only at this; omega
    have l9 : a9 ≤ l.length := by have := (av (l := l) (st := (a8, E8)) (by dsimp only; omega)).1; rw [h9] at this; exact this
    have m9 : (n9 : Int) ≤ 9223372036854775807 := by have := (av (l := l) (st := (a8, E8)) (by dsimp only; omega)).2; rw [h9] at this; dsimp only at this; omega
    have l10 : NQ ≤ l.length := by have := (av (l := l) (st := (a9, E9)) (by dsimp only; omega)).1; rw [NR] at this; exact this
    have m10 : (n10 : Int) ≤ 9223372036854775807 := by have := (av (l := l) (st := (a9, E9)) (by dsimp only; omega)).2; rw [NR] at this; dsimp only at this; omega
    have l11 : FB ≤ l.length := by have := (av (l := l) (st := (NQ, RL)) (by dsimp only; omega)).1; rw [NS] at this; exact this
    have m11 : (n11 : Int) ≤ 9223372036854775807 := by have := (av (l := l) (st := (NQ, RL)) (by dsimp only; omega)).2; rw [NS] at this; dsimp only at this; omega
    have H1 := af (acD h1 l0);clear h1;have H2 := af (acD h2 l1);clear h2;have H3 := af (acD h3 l2);clear h3;have H4 := af (acD h4 l3);clear h4;have H5 := af (acD h5 l4);clear h5;have H6 := af (acD h6 l5);clear h6;have H7 := af (acD h7 l6);clear h7;have H8 := af (acD h8 l7);clear h8;have H9 := af (acD h9 l8);clear h9;have H10 := af (acD NR l9);clear NR;have H11 := af (acD NS l10);clear NS;clear l0 l1 l2 l3 l4 l5 l6 l7 l8 l9 l10 l11;obtain ⟨z, hz⟩ : ∃ z, wr.heap.size = z := ⟨_, rfl⟩
    obtain ⟨Z, hZ⟩ : ∃ Z, wr.alloc (.cells #[.int .i64 0, .int .i64 0, .int .i64 0, .int .i64 0, .int .i64 0, .int .i64 0, .int .i64 0, .int .i64 0, .int .i64 0, .int .i64 0, .int .i64 0] 84) = Z := ⟨_, rfl⟩
    have R0 : Hid (Rd w g gx z (.slice p n c) v L a_ E_ #[.int .i64 0, .int .i64 0, .int .i64 0, .int .i64 0, .int .i64 0, .int .i64 0, .int .i64 0, .int .i64 0, .int .i64 0, .int .i64 0, .int .i64 0] Z) := af (by
     rw [← hZ, ← hz];have hb := (acG wr.heap.size wr).alloc (acE _) (.cells #[.int .i64 0, .int .i64 0, .int .i64 0, .int .i64 0, .int .i64 0, .int .i64 0, .int .i64 0, .int .i64 0, .int .i64 0, .int .i64 0, .int .i64 0] 84);have hs := HR.out.2.1;have hx := HR.out.2.2.1;have h1 := hs.lt;have h2 := hx.lt;have h3 := HR.out.2.2.2.size;exact ⟨(hb.block g h1).trans hs, hx.below hb, acQ wr _, HR.out.2.2.2.alloc h3 _, by omega, by omega, by omega, Kf, h3, fun e => by have := (hx.own.lt _ e).1; omega, fun e => by have := (hx.own.lt _ e).2; omega⟩)
    have HZ := af (acD hZ hz);clear hZ hz;have k1' := af (R0.out.call HV.out H1.out.2 H1.out.1);go_wp2_with fail
    rw [HZ.out.1, HZ.out.2];refine k1'.out.mono ?_;rintro e w1 ⟨rfl, r1⟩;have R1 := af r1;have b1 : w1.cell? ⟨z, 0, none⟩ = some (.int .i64 0) := acC w1 z 0 _ 84 (0, 0) R1.out.zz;have Vl : w1.frozen? ⟨z, 0, none⟩ = false := acI w1 z 0 _ 84 R1.out.zz;obtain ⟨Y1, hY1⟩ : ∃ Y, w1.setCell ⟨z, 0, none⟩ (.int .i64 n1) = Y := ⟨_, rfl⟩
    have Q1 : Hid (Rd w g gx z (.slice p n c) v L a1 E1 #[.int .i64 n1, .int .i64 0, .int .i64 0, .int .i64 0, .int .i64 0, .int .i64 0, .int .i64 0, .int .i64 0, .int .i64 0, .int .i64 0, .int .i64 0] Y1) := af (by
     have q := R1.out.put 0 (.int .i64 n1);simp only [adn, adH, adI] at q;rw [← hY1];exact q)
    have HY1 := af hY1;clear r1 hY1;have k2' := af (Q1.out.call HV.out H2.out.2 H2.out.1);go_wp2_with fail
    rw [HY1.out];refine k2'.out.mono ?_;clear b1 Vl;rintro e w2 ⟨rfl, r2⟩;have R2 := af r2;have b2 : w2.cell? ⟨z, 1, none⟩ = some (.int .i64 0) := acC w2 z 1 _ 84 (0, 0) R2.out.zz;have fb2 : w2.frozen? ⟨z, 1, none⟩ = false := acI w2 z 1 _ 84 R2.out.zz;obtain ⟨Y2, hY2⟩ : ∃ Y, w2.setCell ⟨z, 1, none⟩ (.int .i64 n2) = Y := ⟨_, rfl⟩
    have Q2 : Hid (Rd w g gx z (.slice p n c) v L a2 E2 #[.int .i64 n1, .int .i64 n2, .int .i64 0, .int .i64 0, .int .i64 0, .int .i64 0, .int .i64 0, .int .i64 0, .int .i64 0, .int .i64 0, .int .i64 0] Y2) := af (by
     have q := R2.out.put 1 (.int .i64 n2);simp only [adn, adH, adI] at q;rw [← hY2];exact q)
    have HY2 := af hY2;clear r2 hY2;have k3' := af (Q2.out.call HV.out H3.out.2 H3.out.1);go_wp2_with fail
    rw [HY2.out];refine k3'.out.mono ?_;clear b2 fb2;rintro e w3 ⟨rfl, r3⟩;have R3 := af r3;have b3 : w3.cell? ⟨z, 2, none⟩ = some (.int .i64 0) := acC w3 z 2 _ 84 (0, 0) R3.out.zz;have SH : w3.frozen? ⟨z, 2, none⟩ = false := acI w3 z 2 _ 84 R3.out.zz;obtain ⟨Y3, hY3⟩ : ∃ Y, w3.setCell ⟨z, 2, none⟩ (.int .i64 n3) = Y := ⟨_, rfl⟩
    have Q3 : Hid (Rd w g gx z (.slice p n c) v L a3 E3 #[.int .i64 n1, .int .i64 n2, .int .i64 n3, .int .i64 0, .int .i64 0, .int .i64 0, .int .i64 0, .int .i64 0, .int .i64 0, .int .i64 0, .int .i64 0] Y3) := af (by
     have q := R3.out.put 2 (.int .i64 n3);simp only [adn, adH, adI] at q;rw [← hY3];exact q)
    have HY3 := af hY3;clear r3 hY3;have k4' := af (Q3.out.call HV.out H4.out.2 H4.out.1);go_wp2_with fail
    rw [HY3.out];refine k4'.out.mono ?_;clear b3 SH;rintro e w4 ⟨rfl, r4⟩;have R4 := af r4;have b4 : w4.cell? ⟨z, 3, none⟩ = some (.int .i64 0) := acC w4 z 3 _ 84 (0, 0) R4.out.zz;have N4 : w4.frozen? ⟨z, 3, none⟩ = false := acI w4 z 3 _ 84 R4.out.zz;obtain ⟨Y4, hY4⟩ : ∃ Y, w4.setCell ⟨z, 3, none⟩ (.int .i64 n4) = Y := ⟨_, rfl⟩
    have Q4 : Hid (Rd w g gx z (.slice p n c) v L a4 E4 #[.int .i64 n1, .int .i64 n2, .int .i64 n3, .int .i64 n4, .int .i64 0, .int .i64 0, .int .i64 0, .int .i64 0, .int .i64 0, .int .i64 0, .int .i64 0] Y4) := af (by
     have q := R4.out.put 3 (.int .i64 n4);simp only [adn, adH, adI] at q;rw [← hY4];exact q)
    have HY4 := af hY4;clear r4 hY4;have k5' := af (Q4.out.call HV.out H5.out.2 H5.out.1);go_wp2_with fail
    rw [HY4.out];refine k5'.out.mono ?_;clear b4 N4;rintro e w5 ⟨rfl, r5⟩;have R5 := af r5;have b5 : w5.cell? ⟨z, 4, none⟩ = some (.int .i64 0) := acC w5 z 4 _ 84 (0, 0) R5.out.zz;have Wj : w5.frozen? ⟨z, 4, none⟩ = false := acI w5 z 4 _ 84 R5.out.zz;obtain ⟨Y5, hY5⟩ : ∃ Y, w5.setCell ⟨z, 4, none⟩ (.int .i64 n5) = Y := ⟨_, rfl⟩
    have Q5 : Hid (Rd w g gx z (.slice p n c) v L a5 E5 #[.int .i64 n1, .int .i64 n2, .int .i64 n3, .int .i64 n4, .int .i64 n5, .int .i64 0, .int .i64 0, .int .i64 0, .int .i64 0, .int .i64 0, .int .i64 0] Y5) := af (by
     have q := R5.out.put 4 (.int .i64 n5);simp only [adn, adH, adI] at q;rw [← hY5];exact q)
    have HY5 := af hY5;clear r5 hY5;have k6' := af (Q5.out.call HV.out H6.out.2 H6.out.1);go_wp2_with fail
    rw [HY5.out];refine k6'.out.mono ?_;clear b5 Wj;rintro e w6 ⟨rfl, r6⟩;have R6 := af r6;have b6 : w6.cell? ⟨z, 5, none⟩ = some (.int .i64 0) := acC w6 z 5 _ 84 (0, 0) R6.out.zz;have fb6 : w6.frozen? ⟨z, 5, none⟩ = false := acI w6 z 5 _ 84 R6.out.zz;obtain ⟨Y6, hY6⟩ : ∃ Y, w6.setCell ⟨z, 5, none⟩ (.int .i64 n6) = Y := ⟨_, rfl⟩
    have Q6 : Hid (Rd w g gx z (.slice p n c) v L a6 E6 #[.int .i64 n1, .int .i64 n2, .int .i64 n3, .int .i64 n4, .int .i64 n5, .int .i64 n6, .int .i64 0, .int .i64 0, .int .i64 0, .int .i64 0, .int .i64 0] Y6) := af (by
     have q := R6.out.put 5 (.int .i64 n6);simp only [adn, adH, adI] at q;rw [← hY6];exact q)
    have HY6 := af hY6;clear r6 hY6;have k7' := af (Q6.out.call HV.out H7.out.2 H7.out.1);go_wp2_with fail
    rw [HY6.out];refine k7'.out.mono ?_;clear b6 fb6;rintro e w7 ⟨rfl, r7⟩;have R7 := af r7;have b7 : w7.cell? ⟨z, 6, none⟩ = some (.int .i64 0) := acC w7 z 6 _ 84 (0, 0) R7.out.zz;have fb7 : w7.frozen? ⟨z, 6, none⟩ = false := acI w7 z 6 _ 84 R7.out.zz;obtain ⟨Y7, hY7⟩ : ∃ Y, w7.setCell ⟨z, 6, none⟩ (.int .i64 n7) = Y := ⟨_, rfl⟩
    have Q7 : Hid (Rd w g gx z (.slice p n c) v L a7 E7 #[.int .i64 n1, .int .i64 n2, .int .i64 n3, .int .i64 n4, .int .i64 n5, .int .i64 n6, .int .i64 n7, .int .i64 0, .int .i64 0, .int .i64 0, .int .i64 0] Y7) := af (by
     have q := R7.out.put 6 (.int .i64 n7);simp only [adn, adH, adI] at q;rw [← hY7];exact q)
    have HY7 := af hY7;clear r7 hY7;have k8' := af (Q7.out.call HV.out H8.out.2 H8.out.1);go_wp2_with fail
    rw [HY7.out];refine k8'.out.mono ?_;clear b7 fb7;rintro e w8 ⟨rfl, r8⟩;have R8 := af r8;have b8 : w8.cell? ⟨z, 7, none⟩ = some (.int .i64 0) := acC w8 z 7 _ 84 (0, 0) R8.out.zz;have fb8 : w8.frozen? ⟨z, 7, none⟩ = false := acI w8 z 7 _ 84 R8.out.zz;obtain ⟨Y8, hY8⟩ : ∃ Y, w8.setCell ⟨z, 7, none⟩ (.int .i64 n8) = Y := ⟨_, rfl⟩
    have Q8 : Hid (Rd w g gx z (.slice p n c) v L a8 E8 #[.int .i64 n1, .int .i64 n2, .int .i64 n3, .int .i64 n4, .int .i64 n5, .int .i64 n6, .int .i64 n7, .int .i64 n8, .int .i64 0, .int .i64 0, .int .i64 0] Y8) := af (by
     have q := R8.out.put 7 (.int .i64 n8);simp only [adn, adH, adI] at q;rw [← hY8];exact q)
    have HY8 := af hY8;clear r8 hY8;have k9' := af (Q8.out.call HV.out H9.out.2 H9.out.1);go_wp2_with fail
    rw [HY8.out];refine k9'.out.mono ?_;clear b8 fb8;rintro e w9 ⟨rfl, r9⟩;have R9 := af r9;have b9 : w9.cell? ⟨z, 8, none⟩ = some (.int .i64 0) := acC w9 z 8 _ 84 (0, 0) R9.out.zz;have fb9 : w9.frozen? ⟨z, 8, none⟩ = false := acI w9 z 8 _ 84 R9.out.zz;obtain ⟨Y9, hY9⟩ : ∃ Y, w9.setCell ⟨z, 8, none⟩ (.int .i64 n9) = Y := ⟨_, rfl⟩
    have Q9 : Hid (Rd w g gx z (.slice p n c) v L a9 E9 #[.int .i64 n1, .int .i64 n2, .int .i64 n3, .int .i64 n4, .int .i64 n5, .int .i64 n6, .int .i64 n7, .int .i64 n8, .int .i64 n9, .int .i64 0, .int .i64 0] Y9) := af (by
     have q := R9.out.put 8 (.int .i64 n9);simp only [adn, adH, adI] at q;rw [← hY9];exact q)
    have HY9 := af hY9;clear r9 hY9;have abT := af (Q9.out.call HV.out H10.out.2 H10.out.1);go_wp2_with fail
    rw [HY9.out];refine abT.out.mono ?_;clear b9 fb9;rintro e Oe ⟨rfl, YU⟩;have Y_ := af YU;have YW : Oe.cell? ⟨z, 9, none⟩ = some (.int .i64 0) := acC Oe z 9 _ 84 (0, 0) Y_.out.zz;have Qg : Oe.frozen? ⟨z, 9, none⟩ = false := acI Oe z 9 _ 84 Y_.out.zz;obtain ⟨Y10, UR⟩ : ∃ Y, Oe.setCell ⟨z, 9, none⟩ (.int .i64 n10) = Y := ⟨_, rfl⟩
    have Q10 : Hid (Rd w g gx z (.slice p n c) v L NQ RL #[.int .i64 n1, .int .i64 n2, .int .i64 n3, .int .i64 n4, .int .i64 n5, .int .i64 n6, .int .i64 n7, .int .i64 n8, .int .i64 n9, .int .i64 n10, .int .i64 0] Y10) := af (by
     have q := Y_.out.put 9 (.int .i64 n10);simp only [adn, adH, adI] at q;rw [← UR];exact q)
    have abU := af UR;clear YU UR;have abV := af (Q10.out.call HV.out H11.out.2 H11.out.1);go_wp2_with fail
    rw [abU.out];refine abV.out.mono ?_;clear YW Qg;rintro e oI ⟨rfl, YV⟩;have Zd := af YV;have FQ : oI.cell? ⟨z, 10, none⟩ = some (.int .i64 0) := acC oI z 10 _ 84 (0, 0) Zd.out.zz;have abW : oI.frozen? ⟨z, 10, none⟩ = false := acI oI z 10 _ 84 Zd.out.zz;obtain ⟨sw, US⟩ : ∃ Y, oI.setCell ⟨z, 10, none⟩ (.int .i64 n11) = Y := ⟨_, rfl⟩
    have C_ : Hid (Rd w g gx z (.slice p n c) v L FB JH #[.int .i64 n1, .int .i64 n2, .int .i64 n3, .int .i64 n4, .int .i64 n5, .int .i64 n6, .int .i64 n7, .int .i64 n8, .int .i64 n9, .int .i64 n10, .int .i64 n11] sw) := af (by
     have q := Zd.out.put 10 (.int .i64 n11);simp only [adn, adH, adI] at q;rw [← US];exact q)
    have abX := af US;clear YV US;go_wp2_with fail
    rw [abX.out];have vj : Hid (¬ ((⟨n1, n2, n3, ⟨n4, n5, n6, n7, n8, n9, n10, n11⟩⟩ : St).ok = true ∧ ∀ y ∈ L, y.s < (n1 : Int)) → loadT l = none) := af (fun fI => HR.out.1.refuse (by have := vr.out; omega) (by omega) (by rw [Ak.out]; exact fI));have RO : Hid ((⟨n1, n2, n3, ⟨n4, n5, n6, n7, n8, n9, n10, n11⟩⟩ : St).ok = true → (∀ y ∈ L, y.s < (n1 : Int)) → oJ l (k + 1) (L ++ [(⟨n1, n2, n3, ⟨n4, n5, n6, n7, n8, n9, n10, n11⟩⟩ : St)]) (FB, JH)) := af (fun h1 h2 => by
     have := HR.out.1.next (by omega) (by rw [Ak.out]; exact h1) (by rw [Ak.out]; exact h2)
     rwa [Ak.out] at this)
    clear FQ abW;have HKN : Hid (k < N ∧ k ≤ 8) := af ⟨by omega, by omega⟩;have acB := C_;obtain ⟨i1, sy⟩ : ∃ i : Int, ((n1 : Nat) : Int) = i := ⟨_, rfl⟩
    obtain ⟨i2, Dn⟩ : ∃ i : Int, ((n2 : Nat) : Int) = i := ⟨_, rfl⟩
    obtain ⟨i3, JN⟩ : ∃ i : Int, ((n3 : Nat) : Int) = i := ⟨_, rfl⟩
    obtain ⟨i4, JO⟩ : ∃ i : Int, ((n4 : Nat) : Int) = i := ⟨_, rfl⟩
    obtain ⟨i5, JQ⟩ : ∃ i : Int, ((n5 : Nat) : Int) = i := ⟨_, rfl⟩
    obtain ⟨i6, JR⟩ : ∃ i : Int, ((n6 : Nat) : Int) = i := ⟨_, rfl⟩
    obtain ⟨i7, JU⟩ : ∃ i : Int, ((n7 : Nat) : Int) = i := ⟨_, rfl⟩
    obtain ⟨i8, JV⟩ : ∃ i : Int, ((n8 : Nat) : Int) = i := ⟨_, rfl⟩
    obtain ⟨i9, F2⟩ : ∃ i : Int, ((n9 : Nat) : Int) = i := ⟨_, rfl⟩
    obtain ⟨vI, qW⟩ : ∃ i : Int, ((n10 : Nat) : Int) = i := ⟨_, rfl⟩
    obtain ⟨vJ, qX⟩ : ∃ i : Int, ((n11 : Nat) : Int) = i := ⟨_, rfl⟩
    have HI := af (acD sy (acD Dn (acD JN (acD JO (acD JQ (acD JR (acD JU (acD JV (acD F2 (acD qW (qX)))))))))));rw [sy, Dn, JN, JO, JQ, JR, JU, JV, F2, qW, qX] at C_;clear sy Dn JN JO JQ JR JU JV F2 qW qX;have x0 : sw.cell? ⟨z, 0, none⟩ = some (.int .i64 i1) := acC sw z 0 _ 84 (0, 0) C_.out.zz;have x1 : sw.cell? ⟨z, 1, none⟩ = some (.int .i64 i2) := acC sw z 1 _ 84 (0, 0) C_.out.zz;have x2 : sw.cell? ⟨z, 2, none⟩ = some (.int .i64 i3) := acC sw z 2 _ 84 (0, 0) C_.out.zz;have x3 : sw.cell? ⟨z, 3, none⟩ = some (.int .i64 i4) := acC sw z 3 _ 84 (0, 0) C_.out.zz;have x4 : sw.cell? ⟨z, 4, none⟩ = some (.int .i64 i5) := acC sw z 4 _ 84 (0, 0) C_.out.zz;have x5 : sw.cell? ⟨z, 5, none⟩ = some (.int .i64 i6) := acC sw z 5 _ 84 (0, 0) C_.out.zz;have x6 : sw.cell? ⟨z, 6, none⟩ = some (.int .i64 i7) := acC sw z 6 _ 84 (0, 0) C_.out.zz;have x7 : sw.cell? ⟨z, 7, none⟩ = some (.int .i64 i8) := acC sw z 7 _ 84 (0, 0) C_.out.zz;have x8 : sw.cell? ⟨z, 8, none⟩ = some (.int .i64 i9) := acC sw z 8 _ 84 (0, 0) C_.out.zz;have x9 : sw.cell? ⟨z, 9, none⟩ = some (.int .i64 vI) := acC sw z 9 _ 84 (0, 0) C_.out.zz;have JD : sw.cell? ⟨z, 10, none⟩ = some (.int .i64 vJ) := acC sw z 10 _ 84 (0, 0) C_.out.zz;obtain ⟨D, hD⟩ : ∃ D, sw.drew = D := ⟨_, rfl⟩
    have QD : Hid (Rd w g gx z (.slice p n c) v L FB JH #[.int .i64 i1, .int .i64 i2, .int .i64 i3, .int .i64 i4, .int .i64 i5, .int .i64 i6, .int .i64 i7, .int .i64 i8, .int .i64 i9, .int .i64 vI, .int .i64 vJ] D) := af (by rw [← hD]; exact C_.out.vP (ag sw 1));have HD := af hD;clear hD;by_cases hA1 : i1 < 1
    ·have sy := HI.out.1;have lB := af (vj.out (fun h => by have h1 := (St.aO.1 h.1).1; dsimp only at h1; omega));clear sy;have e1 : decide (i1 < 1) = true := ac4 hA1;go_wp2;go_region
     rw [HD.out];clear x0 x1 x2 x3 x4 x5 x6 x7 x8 x9 JD;go_wp2;go_ret2
     rw [lB.out];exact ⟨by rfl, by first | exact QD.out.b | exact QD.out.b.trans (ag _ _)⟩
    by_cases hA3 : i3 < 1
    ·have JN := HI.out.2.2.1;have lB := af (vj.out (fun h => by have h1 := (St.aO.1 h.1).2.2.1; dsimp only at h1; omega));clear JN;have e1 : decide (i1 < 1) = false := ac1 hA1;have e3 : decide (i3 < 1) = true := ac4 hA3;go_wp2;go_region
     rw [HD.out];clear x0 x1 x2 x3 x4 x5 x6 x7 x8 x9 JD;go_wp2;go_ret2
     rw [lB.out];exact ⟨by rfl, by first | exact QD.out.b | exact QD.out.b.trans (ag _ _)⟩
    have e1 : decide (i1 < 1) = false := ac1 hA1;have e3 : decide (i3 < 1) = false := ac1 hA3;cases k with
    | zero =>
     obtain ⟨pv, nv, cv, hv9⟩ := C_.out.x.own.nP.sl;subst hv9;have vy : Hid (∀ y ∈ L, y.s < (n1 : Int)) := af (fun y hy => by have := HR.out.1.len; rw [aeg.1 this] at hy; cases hy);go_wp2;go_region
     rw [HD.out];clear x0 x1 x2 x3 x4 x5 x6 x7 x8 x9 JD;have d0 : D.cell? ⟨z, 0, none⟩ = some (.int .i64 i1) := acC D z 0 _ 84 (0, 0) QD.out.zz;have d1 : D.cell? ⟨z, 1, none⟩ = some (.int .i64 i2) := acC D z 1 _ 84 (0, 0) QD.out.zz;have d2 : D.cell? ⟨z, 2, none⟩ = some (.int .i64 i3) := acC D z 2 _ 84 (0, 0) QD.out.zz;have d3 : D.cell? ⟨z, 3, none⟩ = some (.int .i64 i4) := acC D z 3 _ 84 (0, 0) QD.out.zz;have d4 : D.cell? ⟨z, 4, none⟩ = some (.int .i64 i5) := acC D z 4 _ 84 (0, 0) QD.out.zz;have d5 : D.cell? ⟨z, 5, none⟩ = some (.int .i64 i6) := acC D z 5 _ 84 (0, 0) QD.out.zz;have d6 : D.cell? ⟨z, 6, none⟩ = some (.int .i64 i7) := acC D z 6 _ 84 (0, 0) QD.out.zz;have d7 : D.cell? ⟨z, 7, none⟩ = some (.int .i64 i8) := acC D z 7 _ 84 (0, 0) QD.out.zz;have d8 : D.cell? ⟨z, 8, none⟩ = some (.int .i64 i9) := acC D z 8 _ 84 (0, 0) QD.out.zz;have d9 : D.cell? ⟨z, 9, none⟩ = some (.int .i64 vI) := acC D z 9 _ 84 (0, 0) QD.out.zz;have QE : D.cell? ⟨z, 10, none⟩ = some (.int .i64 vJ) := acC D z 10 _ 84 (0, 0) QD.out.zz;by_cases vZ : (1099511627776 : Int) < i1
     ·have sy := HI.out.1;have lB := af (vj.out (fun h => by have h1 := (St.aO.1 h.1).1; dsimp only at h1; omega));clear sy;have b1 : decide ((1099511627776 : Int) < i1) = true := ac4 vZ;go_wp2;go_ret2
      rw [lB.out];exact ⟨by rfl, by first | exact QD.out.b | exact QD.out.b.trans (ag _ _)⟩
     have b1 : decide ((1099511627776 : Int) < i1) = false := ac1 vZ;by_cases Qs : (1099511627776 : Int) < i2
     ·have Dn := HI.out.2.1;have lB := af (vj.out (fun h => by have h1 := (St.aO.1 h.1).2.1; dsimp only at h1; omega));clear Dn;have b2 : decide ((1099511627776 : Int) < i2) = true := ac4 Qs;go_wp2;go_ret2
      rw [lB.out];exact ⟨by rfl, by first | exact QD.out.b | exact QD.out.b.trans (ag _ _)⟩
     have b2 : decide ((1099511627776 : Int) < i2) = false := ac1 Qs;by_cases Zl : (1099511627776 : Int) < i3
     ·have JN := HI.out.2.2.1;have lB := af (vj.out (fun h => by have h1 := (St.aO.1 h.1).2.2.1; dsimp only at h1; omega));clear JN;have b3 : decide ((1099511627776 : Int) < i3) = true := ac4 Zl;go_wp2;go_ret2
      rw [lB.out];exact ⟨by rfl, by first | exact QD.out.b | exact QD.out.b.trans (ag _ _)⟩
     have b3 : decide ((1099511627776 : Int) < i3) = false := ac1 Zl;have qs := fun V => kN V (⟨n4, n5, n6, n7, n8, n9, n10, n11⟩ : Rp);unfold wY Aj at qs;dsimp only at qs;obtain ⟨okr, Nm⟩ : ∃ b, (⟨n4, n5, n6, n7, n8, n9, n10, n11⟩ : Rp).ok = b := ⟨_, rfl⟩
     simp only [Nm] at qs;have JO := HI.out.2.2.2.1;have JQ := HI.out.2.2.2.2.1;have JR := HI.out.2.2.2.2.2.1;have JU := HI.out.2.2.2.2.2.2.1;have JV := HI.out.2.2.2.2.2.2.2.1;have F2 := HI.out.2.2.2.2.2.2.2.2.1;have qW := HI.out.2.2.2.2.2.2.2.2.2.1;have qX := HI.out.2.2.2.2.2.2.2.2.2.2;simp only [JO, JQ, JR, JU, JV, F2, qW, qX] at qs;clear JO JQ JR JU JV F2 qW qX;cases okr
     ·have jC := af qs;have lB := af (vj.out (fun h => by have h1 := (St.aO.1 h.1).2.2.2; dsimp only at h1; rw [Nm] at h1; cases h1));clear qs Nm;go_wp2_with fail
      refine (jC.out _).mono ?_;rintro e eD ⟨rfl, ow⟩;have UT := af (QD.out.b.trans (ow.mono QD.out.b.size));clear ow;go_wp2;go_ret2
      rw [lB.out];exact ⟨by rfl, UT.out⟩
     ·have jC := af qs;have Ex := af (RO.out (St.aO.2 ⟨by have h1 := HI.out.1; exact ⟨by dsimp only; omega, by dsimp only; omega⟩, by have h1 := HI.out.2.1; exact ⟨by dsimp only; omega, by dsimp only; omega⟩, by have h1 := HI.out.2.2.1; exact ⟨by dsimp only; omega, by dsimp only; omega⟩, Nm⟩) vy.out);clear qs Nm;go_wp2_with fail
      refine (jC.out _).mono ?_;rintro e eD ⟨rfl, ow⟩;have mQ := af (QD.out.vP ow);clear ow d0 d1 d2 d3 d4 d5 d6 d7 d8 d9 QE;have x0 : eD.cell? ⟨z, 0, none⟩ = some (.int .i64 i1) := acC eD z 0 _ 84 (0, 0) mQ.out.zz;have x1 : eD.cell? ⟨z, 1, none⟩ = some (.int .i64 i2) := acC eD z 1 _ 84 (0, 0) mQ.out.zz;have x2 : eD.cell? ⟨z, 2, none⟩ = some (.int .i64 i3) := acC eD z 2 _ 84 (0, 0) mQ.out.zz;have x3 : eD.cell? ⟨z, 3, none⟩ = some (.int .i64 i4) := acC eD z 3 _ 84 (0, 0) mQ.out.zz;have x4 : eD.cell? ⟨z, 4, none⟩ = some (.int .i64 i5) := acC eD z 4 _ 84 (0, 0) mQ.out.zz;have x5 : eD.cell? ⟨z, 5, none⟩ = some (.int .i64 i6) := acC eD z 5 _ 84 (0, 0) mQ.out.zz;have x6 : eD.cell? ⟨z, 6, none⟩ = some (.int .i64 i7) := acC eD z 6 _ 84 (0, 0) mQ.out.zz;have x7 : eD.cell? ⟨z, 7, none⟩ = some (.int .i64 i8) := acC eD z 7 _ 84 (0, 0) mQ.out.zz;have x8 : eD.cell? ⟨z, 8, none⟩ = some (.int .i64 i9) := acC eD z 8 _ 84 (0, 0) mQ.out.zz;have x9 : eD.cell? ⟨z, 9, none⟩ = some (.int .i64 vI) := acC eD z 9 _ 84 (0, 0) mQ.out.zz;have JD : eD.cell? ⟨z, 10, none⟩ = some (.int .i64 vJ) := acC eD z 10 _ 84 (0, 0) mQ.out.zz;have c0 := mQ.out.x.c0;have mR : Hid (oJ l (0 + 1) (L ++ [(⟨i1, i2, i3, ⟨i4, i5, i6, i7, i8, i9, vI, vJ⟩⟩ : St)]) (FB, JH)) := af (by
       have h := Ex.out;have sy := HI.out.1;have Dn := HI.out.2.1;have JN := HI.out.2.2.1;have JO := HI.out.2.2.2.1;have JQ := HI.out.2.2.2.2.1;have JR := HI.out.2.2.2.2.2.1;have JU := HI.out.2.2.2.2.2.2.1;have JV := HI.out.2.2.2.2.2.2.2.1;have F2 := HI.out.2.2.2.2.2.2.2.2.1;have qW := HI.out.2.2.2.2.2.2.2.2.2.1;have qX := HI.out.2.2.2.2.2.2.2.2.2.2;simp only [sy, Dn, JN, JO, JQ, JR, JU, JV, F2, qW, qX] at h;exact h)
      have bA : Below eD.heap.size eD (eD.alloc (.cells #[.int .i64 i1, .int .i64 i2, .int .i64 i3, .int .i64 i4, .int .i64 i5, .int .i64 i6, .int .i64 i7, .int .i64 i8, .int .i64 i9, .int .i64 vI, .int .i64 vJ] 84)) := (acG _ _).alloc (acE _) _;have Nn := af bA;have eH : Hid (∀ q, wh ((eD.alloc (.cells #[.int .i64 i1, .int .i64 i2, .int .i64 i3, .int .i64 i4, .int .i64 i5, .int .i64 i6, .int .i64 i7, .int .i64 i8, .int .i64 i9, .int .i64 vI, .int .i64 vJ] 84)).drewN q) (.slice (some ⟨eD.heap.size, 0, none⟩) 1 1) [(⟨i1, i2, i3, ⟨i4, i5, i6, i7, i8, i9, vI, vJ⟩⟩ : St)]) := af fun q => GF ((dJ.box eD (⟨i1, i2, i3, ⟨i4, i5, i6, i7, i8, i9, vI, vJ⟩⟩ : St)).drewN q);have vq : Hid (∀ q, dX (gx + 1) ((eD.alloc (.cells #[.int .i64 i1, .int .i64 i2, .int .i64 i3, .int .i64 i4, .int .i64 i5, .int .i64 i6, .int .i64 i7, .int .i64 i8, .int .i64 i9, .int .i64 vI, .int .i64 vJ] 84)).drewN q) (.slice pv nv cv) L) := af fun q => (mQ.out.x.own.below bA).below (ag _ q);have UU : Hid (L.length ≤ 9) := af (by have := HR.out.1.len; omega);have UW : Hid (gx + 1 ≤ eD.heap.size) := af mQ.out.x.lt;have YN := af (fun (A V9 : World) (p9 : Option Addr) (n9 c9 : Nat) (L9 : List St) (hA : Below eD.heap.size eD A) (h9 : dX (gx + 1) V9 (.slice p9 n9 c9) L9) (hg : A.grownBy V9 (Value.slice pv nv cv).ownBlock) => mQ.out.push UQ.out hA h9 hg);have c9 : (eD.alloc (.cells #[.int .i64 i1, .int .i64 i2, .int .i64 i3, .int .i64 i4, .int .i64 i5, .int .i64 i6, .int .i64 i7, .int .i64 i8, .int .i64 i9, .int .i64 vI, .int .i64 vJ] 84)).cell? ⟨gx, 0, none⟩ = some (.slice pv nv cv) := acC _ gx 0 _ _ (0, 0) ((bA.block gx mQ.out.x.lt).trans mQ.out.x.row);clear bA;go_wp2_with fail
      go_region_law (refine pV (by rfl) _ _ (by rfl) (by rfl) (by rfl) (by rfl) (by first | exact vq.out 1 | exact vq.out 0) (by first | exact eH.out 1 | exact eH.out 0) (by have := UW.out; simp; omega) (by have := UU.out; simp; omega) ?_; intro v9 V9 gE eW ni; obtain ⟨p9, n9, c9, rfl⟩ := gE.nP.sl; have Np := af (YN.out _ V9 p9 n9 c9 _ (by first | exact Nn.out | exact Nn.out.trans (ag _ 1)) gE ni); have k9 := Np.out.2.2.2.1; have f9 := Np.out.2.2.2.2; clear gE eW ni)
      all_goals
       go_wp2;go_roundw;case rel => exact ⟨0 + 1, L ++ [(⟨i1, i2, i3, ⟨i4, i5, i6, i7, i8, i9, vI, vJ⟩⟩ : St)], (FB, JH), _, by have := HKN.out; omega, by have := HKN.out; omega, by go_num, af ⟨mR.out, Np.out.1, Np.out.2.1, Np.out.2.2.1⟩⟩
       case measure => first | (simp [intOf]; omega) | simp [intOf]
    | succ j =>
     obtain ⟨y, hy⟩ : ∃ y, L[j]? = some y := ⟨_, acF (by have := HR.out.1.len; omega)⟩
     have hvs := C_.out.x.own.nP;obtain ⟨pv, nv, cv, rfl⟩ := hvs.sl;have Db : nv = j + 1 := by have h1 := hvs.len.1; have h2 := HR.out.1.len; omega
     subst Db;obtain ⟨gv, ov, rfl, sU⟩ := hvs.at_ (by omega);have ys := (sU j y hy).all.1;have c0 := C_.out.x.c0;have Zm := af (fun h => FC HR.out.1.rises hy HR.out.1.len (n := (n1 : Int)) h);have HYM := af (acS hy);obtain ⟨yS, VH⟩ : ∃ yS, y.s = yS := ⟨_, rfl⟩
     have Ve := af VH;rw [VH] at ys Zm;clear hvs sU hy VH;by_cases hA4 : i1 ≤ yS
     ·have sy := HI.out.1;have lB := af (vj.out (fun h => by have h1 := h.2 y HYM.out; have h2 := Ve.out; omega));clear sy;have e4 : decide (i1 ≤ yS) = true := ac4 hA4;go_wp2;go_region
      rw [HD.out];clear x0 x1 x2 x3 x4 x5 x6 x7 x8 x9 JD;go_wp2;go_ret2
      rw [lB.out];exact ⟨by rfl, by first | exact QD.out.b | exact QD.out.b.trans (ag _ _)⟩
     have vy := af (Zm.out (by have h1 := HI.out.1; omega));have e4 : decide (i1 ≤ yS) = false := ac1 hA4;go_wp2;go_region
     rw [HD.out];clear ys c0;clear x0 x1 x2 x3 x4 x5 x6 x7 x8 x9 JD;have d0 : D.cell? ⟨z, 0, none⟩ = some (.int .i64 i1) := acC D z 0 _ 84 (0, 0) QD.out.zz;have d1 : D.cell? ⟨z, 1, none⟩ = some (.int .i64 i2) := acC D z 1 _ 84 (0, 0) QD.out.zz;have d2 : D.cell? ⟨z, 2, none⟩ = some (.int .i64 i3) := acC D z 2 _ 84 (0, 0) QD.out.zz;have d3 : D.cell? ⟨z, 3, none⟩ = some (.int .i64 i4) := acC D z 3 _ 84 (0, 0) QD.out.zz;have d4 : D.cell? ⟨z, 4, none⟩ = some (.int .i64 i5) := acC D z 4 _ 84 (0, 0) QD.out.zz;have d5 : D.cell? ⟨z, 5, none⟩ = some (.int .i64 i6) := acC D z 5 _ 84 (0, 0) QD.out.zz;have d6 : D.cell? ⟨z, 6, none⟩ = some (.int .i64 i7) := acC D z 6 _ 84 (0, 0) QD.out.zz;have d7 : D.cell? ⟨z, 7, none⟩ = some (.int .i64 i8) := acC D z 7 _ 84 (0, 0) QD.out.zz;have d8 : D.cell? ⟨z, 8, none⟩ = some (.int .i64 i9) := acC D z 8 _ 84 (0, 0) QD.out.zz;have d9 : D.cell? ⟨z, 9, none⟩ = some (.int .i64 vI) := acC D z 9 _ 84 (0, 0) QD.out.zz;have QE : D.cell? ⟨z, 10, none⟩ = some (.int .i64 vJ) := acC D z 10 _ 84 (0, 0) QD.out.zz;by_cases vZ : (1099511627776 : Int) < i1
     ·have sy := HI.out.1;have lB := af (vj.out (fun h => by have h1 := (St.aO.1 h.1).1; dsimp only at h1; omega));clear sy;have b1 : decide ((1099511627776 : Int) < i1) = true := ac4 vZ;go_wp2;go_ret2
      rw [lB.out];exact ⟨by rfl, by first | exact QD.out.b | exact QD.out.b.trans (ag _ _)⟩
     have b1 : decide ((1099511627776 : Int) < i1) = false := ac1 vZ;by_cases Qs : (1099511627776 : Int) < i2
     ·have Dn := HI.out.2.1;have lB := af (vj.out (fun h => by have h1 := (St.aO.1 h.1).2.1; dsimp only at h1; omega));clear Dn;have b2 : decide ((1099511627776 : Int) < i2) = true := ac4 Qs;go_wp2;go_ret2
      rw [lB.out];exact ⟨by rfl, by first | exact QD.out.b | exact QD.out.b.trans (ag _ _)⟩
     have b2 : decide ((1099511627776 : Int) < i2) = false := ac1 Qs;by_cases Zl : (1099511627776 : Int) < i3
     ·have JN := HI.out.2.2.1;have lB := af (vj.out (fun h => by have h1 := (St.aO.1 h.1).2.2.1; dsimp only at h1; omega));clear JN;have b3 : decide ((1099511627776 : Int) < i3) = true := ac4 Zl;go_wp2;go_ret2
      rw [lB.out];exact ⟨by rfl, by first | exact QD.out.b | exact QD.out.b.trans (ag _ _)⟩
     have b3 : decide ((1099511627776 : Int) < i3) = false := ac1 Zl;have qs := fun V => kN V (⟨n4, n5, n6, n7, n8, n9, n10, n11⟩ : Rp);unfold wY Aj at qs;dsimp only at qs;obtain ⟨okr, Nm⟩ : ∃ b, (⟨n4, n5, n6, n7, n8, n9, n10, n11⟩ : Rp).ok = b := ⟨_, rfl⟩
     simp only [Nm] at qs;have JO := HI.out.2.2.2.1;have JQ := HI.out.2.2.2.2.1;have JR := HI.out.2.2.2.2.2.1;have JU := HI.out.2.2.2.2.2.2.1;have JV := HI.out.2.2.2.2.2.2.2.1;have F2 := HI.out.2.2.2.2.2.2.2.2.1;have qW := HI.out.2.2.2.2.2.2.2.2.2.1;have qX := HI.out.2.2.2.2.2.2.2.2.2.2;simp only [JO, JQ, JR, JU, JV, F2, qW, qX] at qs;clear JO JQ JR JU JV F2 qW qX;cases okr
     ·have jC := af qs;have lB := af (vj.out (fun h => by have h1 := (St.aO.1 h.1).2.2.2; dsimp only at h1; rw [Nm] at h1; cases h1));clear qs Nm;go_wp2_with fail
      refine (jC.out _).mono ?_;rintro e eD ⟨rfl, ow⟩;have UT := af (QD.out.b.trans (ow.mono QD.out.b.size));clear ow;go_wp2;go_ret2
      rw [lB.out];exact ⟨by rfl, UT.out⟩
     ·have jC := af qs;have Ex := af (RO.out (St.aO.2 ⟨by have h1 := HI.out.1; exact ⟨by dsimp only; omega, by dsimp only; omega⟩, by have h1 := HI.out.2.1; exact ⟨by dsimp only; omega, by dsimp only; omega⟩, by have h1 := HI.out.2.2.1; exact ⟨by dsimp only; omega, by dsimp only; omega⟩, Nm⟩) vy.out);clear qs Nm;go_wp2_with fail
      refine (jC.out _).mono ?_;rintro e eD ⟨rfl, ow⟩;have mQ := af (QD.out.vP ow);clear ow d0 d1 d2 d3 d4 d5 d6 d7 d8 d9 QE;have x0 : eD.cell? ⟨z, 0, none⟩ = some (.int .i64 i1) := acC eD z 0 _ 84 (0, 0) mQ.out.zz;have x1 : eD.cell? ⟨z, 1, none⟩ = some (.int .i64 i2) := acC eD z 1 _ 84 (0, 0) mQ.out.zz;have x2 : eD.cell? ⟨z, 2, none⟩ = some (.int .i64 i3) := acC eD z 2 _ 84 (0, 0) mQ.out.zz;have x3 : eD.cell? ⟨z, 3, none⟩ = some (.int .i64 i4) := acC eD z 3 _ 84 (0, 0) mQ.out.zz;have x4 : eD.cell? ⟨z, 4, none⟩ = some (.int .i64 i5) := acC eD z 4 _ 84 (0, 0) mQ.out.zz;have x5 : eD.cell? ⟨z, 5, none⟩ = some (.int .i64 i6) := acC eD z 5 _ 84 (0, 0) mQ.out.zz;have x6 : eD.cell? ⟨z, 6, none⟩ = some (.int .i64 i7) := acC eD z 6 _ 84 (0, 0) mQ.out.zz;have x7 : eD.cell? ⟨z, 7, none⟩ = some (.int .i64 i8) := acC eD z 7 _ 84 (0, 0) mQ.out.zz;have x8 : eD.cell? ⟨z, 8, none⟩ = some (.int .i64 i9) := acC eD z 8 _ 84 (0, 0) mQ.out.zz;have x9 : eD.cell? ⟨z, 9, none⟩ = some (.int .i64 vI) := acC eD z 9 _ 84 (0, 0) mQ.out.zz;have JD : eD.cell? ⟨z, 10, none⟩ = some (.int .i64 vJ) := acC eD z 10 _ 84 (0, 0) mQ.out.zz;have c0 := mQ.out.x.c0;have mR : Hid (oJ l ((j + 1) + 1) (L ++ [(⟨i1, i2, i3, ⟨i4, i5, i6, i7, i8, i9, vI, vJ⟩⟩ : St)]) (FB, JH)) := af (by
       have h := Ex.out;have sy := HI.out.1;have Dn := HI.out.2.1;have JN := HI.out.2.2.1;have JO := HI.out.2.2.2.1;have JQ := HI.out.2.2.2.2.1;have JR := HI.out.2.2.2.2.2.1;have JU := HI.out.2.2.2.2.2.2.1;have JV := HI.out.2.2.2.2.2.2.2.1;have F2 := HI.out.2.2.2.2.2.2.2.2.1;have qW := HI.out.2.2.2.2.2.2.2.2.2.1;have qX := HI.out.2.2.2.2.2.2.2.2.2.2;simp only [sy, Dn, JN, JO, JQ, JR, JU, JV, F2, qW, qX] at h;exact h)
      have bA : Below eD.heap.size eD (eD.alloc (.cells #[.int .i64 i1, .int .i64 i2, .int .i64 i3, .int .i64 i4, .int .i64 i5, .int .i64 i6, .int .i64 i7, .int .i64 i8, .int .i64 i9, .int .i64 vI, .int .i64 vJ] 84)) := (acG _ _).alloc (acE _) _;have Nn := af bA;have eH : Hid (∀ q, wh ((eD.alloc (.cells #[.int .i64 i1, .int .i64 i2, .int .i64 i3, .int .i64 i4, .int .i64 i5, .int .i64 i6, .int .i64 i7, .int .i64 i8, .int .i64 i9, .int .i64 vI, .int .i64 vJ] 84)).drewN q) (.slice (some ⟨eD.heap.size, 0, none⟩) 1 1) [(⟨i1, i2, i3, ⟨i4, i5, i6, i7, i8, i9, vI, vJ⟩⟩ : St)]) := af fun q => GF ((dJ.box eD (⟨i1, i2, i3, ⟨i4, i5, i6, i7, i8, i9, vI, vJ⟩⟩ : St)).drewN q);have vq : Hid (∀ q, dX (gx + 1) ((eD.alloc (.cells #[.int .i64 i1, .int .i64 i2, .int .i64 i3, .int .i64 i4, .int .i64 i5, .int .i64 i6, .int .i64 i7, .int .i64 i8, .int .i64 i9, .int .i64 vI, .int .i64 vJ] 84)).drewN q) (.slice (some ⟨gv, ov, none⟩) (j + 1) cv) L) := af fun q => (mQ.out.x.own.below bA).below (ag _ q);have UU : Hid (L.length ≤ 9) := af (by have := HR.out.1.len; omega);have UW : Hid (gx + 1 ≤ eD.heap.size) := af mQ.out.x.lt;have YN := af (fun (A V9 : World) (p9 : Option Addr) (n9 c9 : Nat) (L9 : List St) (hA : Below eD.heap.size eD A) (h9 : dX (gx + 1) V9 (.slice p9 n9 c9) L9) (hg : A.grownBy V9 (Value.slice (some ⟨gv, ov, none⟩) (j + 1) cv).ownBlock) => mQ.out.push UQ.out hA h9 hg);have c9 : (eD.alloc (.cells #[.int .i64 i1, .int .i64 i2, .int .i64 i3, .int .i64 i4, .int .i64 i5, .int .i64 i6, .int .i64 i7, .int .i64 i8, .int .i64 i9, .int .i64 vI, .int .i64 vJ] 84)).cell? ⟨gx, 0, none⟩ = some (.slice (some ⟨gv, ov, none⟩) (j + 1) cv) := acC _ gx 0 _ _ (0, 0) ((bA.block gx mQ.out.x.lt).trans mQ.out.x.row);clear bA;go_wp2_with fail
      go_region_law (refine pV (by rfl) _ _ (by rfl) (by rfl) (by rfl) (by rfl) (by first | exact vq.out 1 | exact vq.out 0) (by first | exact eH.out 1 | exact eH.out 0) (by have := UW.out; simp; omega) (by have := UU.out; simp; omega) ?_; intro v9 V9 gE eW ni; obtain ⟨p9, n9, c9, rfl⟩ := gE.nP.sl; have Np := af (YN.out _ V9 p9 n9 c9 _ (by first | exact Nn.out | exact Nn.out.trans (ag _ 1)) gE ni); have k9 := Np.out.2.2.2.1; have f9 := Np.out.2.2.2.2; clear gE eW ni)
      all_goals
       go_wp2;go_roundw;case rel => exact ⟨(j + 1) + 1, L ++ [(⟨i1, i2, i3, ⟨i4, i5, i6, i7, i8, i9, vI, vJ⟩⟩ : St)], (FB, JH), _, by have := HKN.out; omega, by have := HKN.out; omega, by go_num, af ⟨mR.out, Np.out.1, Np.out.2.1, Np.out.2.2.1⟩⟩
       case measure => first | (simp [intOf]; omega) | simp [intOf]
   focus
    obtain rfl : k = 9 := by omega
  rotate_left
  focus
   obtain rfl : k = N := by omega
   by_cases h9 : k = 9
   focus
    subst h9
   rotate_left
   ·have dk := (show oJ l (AB l) L st from vr.out ▸ HR.out.1).done (by rw [vr.out]; omega);obtain ⟨pv, nv, cv, rfl⟩ := HR.out.2.2.1.own.nP.sl;obtain rfl : nv = k := by have h1 := HR.out.2.2.1.own.nP.len.1; have h2 := HR.out.1.len; omega
    have c0 := HR.out.2.2.1.c0;have A9 := af (fun q => o6 (HR.out.2.2.1.below (ag _ q)) dk.2);have QL := af dk.1;have yV : (nv : Int) ≤ 8 := by omega
    have e8 : decide ((8 : Int) < (nv : Int)) = false := ac1 (by omega);have mY := af HR.out.2.2.2;have Dj := af (HV.out.below mY.out);have HRT := af HR.out.2.2.1;have d1 := eu Dj.out;have d0 := bH Dj.out;have d2 : (convert 32 9 (.slice p n c)).run prog wr.drew = .ok (.string (str l)) wr.drew := eu Dj.out 1;clear dk;go_wp2;by_cases hq : dN L = l
    ·have heq : ((str (dN L)).toList == (str l).toList) = true := by rw [mZ]; exact ac4 hq
     have cY := af (QL.out.trans (acW hq));clear hq;go_region_with (first | (go_at_call 121; refine (A9.out 1).mono ?_; rintro e w5 ⟨v5, rfl, bP, aL⟩; obtain ⟨p5, n5, c5, rfl⟩ := bP.bp.sl; have z0 := bH bP.bp; have z1 := eu bP.bp; have u0 := bH (Dj.out.below (show Below wr.heap.size wr w5 from (ag wr 1).trans aL)); have cH := af (show Below wr.heap.size wr w5 from (ag wr 1).trans aL); clear bP aL))
     all_goals
      go_wp2;go_ret2
      rw [cY.out];exact ⟨gx, _, rfl, HRT.out.below cH.out, UQ.out, mY.out.trans (cH.out.mono mY.out.size)⟩
    ·have heq : ((str (dN L)).toList == (str l).toList) = false := by rw [mZ]; exact ac1 hq
     have cY := af (QL.out.trans (acO hq));clear hq;go_region_with (first | (go_at_call 121; refine (A9.out 1).mono ?_; rintro e w5 ⟨v5, rfl, bP, aL⟩; obtain ⟨p5, n5, c5, rfl⟩ := bP.bp.sl; have z0 := bH bP.bp; have z1 := eu bP.bp; have u0 := bH (Dj.out.below (show Below wr.heap.size wr w5 from (ag wr 1).trans aL)); have cH := af (show Below wr.heap.size wr w5 from (ag wr 1).trans aL); clear bP aL))
     all_goals
      go_wp2;go_ret2
      rw [cY.out];exact ⟨rfl, mY.out.trans (cH.out.mono mY.out.size)⟩
  all_goals
   have abY := af (JM (l := l) (by rw [vr.out]; omega));obtain ⟨pv, nv, cv, rfl⟩ := HR.out.2.2.1.own.nP.sl;obtain rfl : nv = 9 := by have h1 := HR.out.2.2.1.own.nP.len.1; have h2 := HR.out.1.len; omega
   have c0 := HR.out.2.2.1.c0;go_wp2;go_region
   go_wp2;go_ret2
   rw [abY.out];exact ⟨by rfl, HR.out.2.2.2.trans ((ag wr 1).mono HR.out.2.2.2.size)⟩
end Go.Proofs.YtionbmlicmibgaaGreatDoor
