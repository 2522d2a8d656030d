import Derived.Test.YtgbdjcekpdfpjaaGreatDoorVb
import Derived.Test.YtgbdjcekpdfpjaaGreatDoorVa
set_option linter.unusedVariables false
set_option linter.unusedSimpArgs false
namespace Go.Proofs.YtgbdjcekpdfpjaaGreatDoor
open Go.RowKit
def nx (l : List UInt8) (st : Nat × Nat) : Nat × Nat × Nat := rdN l st.1 st.2
theorem nx_le {l : List UInt8} {st : Nat × Nat} (h : st.1 ≤ l.length) : (nx l st).2.1 ≤ l.length ∧ (nx l st).1 < 9223372036854775808 := by
 unfold nx rdN
 split
 ·exact ⟨h, by show (0 : Nat) < _; decide⟩
 ·obtain ⟨n, k, e, hR⟩ : ∃ n k e, readNum (l.drop st.1) = (n, k, e) := ⟨_, _, _, rfl⟩
  rw [hR]
  have := readNum_any hR
  rw [List.length_drop] at this
  dsimp only
  omega
theorem gof {w w' : World} (hb : Below w.heap.size w w') (row : Option Nat) : w.grownBy w' row := ⟨hb.os, hb.tape, hb.output, hb.size, fun k hk _ => hb.block k hk⟩
theorem By.chgM {w w' : World} {B : Nat} {v : Value} {l : List UInt8} (h : By w v l) (hb : Below B w w') (hne : l = [] ∨ ∀ k, v.ownBlock = some k → k < B) : By w' v l := by
 obtain ⟨p, c, e, h1, h2, h3, h4⟩ := h
 refine ⟨p, c, e, h1, h2, h3, fun a ha i x hx => ?_⟩
 subst e
 rcases hne with rfl | hne
 ·simp at hx
 ·exact (hb.cell (p := a.add i) (by rw [block_add]; exact hne _ (by rw [ha]; rfl))).trans (h4 a ha i x hx)
theorem By.ltM {w : World} {v : Value} {l : List UInt8} (h : By w v l) : l = [] ∨ ∀ k, v.ownBlock = some k → k < w.heap.size := by
 by_cases h0 : l = []
 ·exact .inl h0
 ·refine .inr fun k hk => ?_
  obtain ⟨p', c', rfl, _, _, _, hc⟩ := h
  cases hl : l with
  | nil => exact absurd hl h0
  | cons y r =>
   cases p' with
   | none => cases hk
   | some ad =>
    simp only [Value.ownBlock, Option.some.injEq] at hk
    have := lt_of_cell (hc ad rfl 0 y (by rw [hl]; rfl))
    rw [block_add] at this
    omega
theorem OwnN.neRow {B g : Nat} {w : World} {v : Value} {l : List Int} (h : OwnN B w v l) (hg : g < B) : v.ownBlock = none ∨ v.ownBlock ≠ some g := by
 cases hob : v.ownBlock with
 | none => exact .inl rfl
 | some k =>
  refine .inr fun e => ?_
  injection e with e
  have h1 := (h.lt k hob).1
  omega
structure ScB (w0 : World) (g : Nat) (v : Value) (l : List UInt8) (w : World) (st : Nat × Nat) : Prop where
 sc : Sc w g v st.1 st.2
 by_ : By w v l
 ne : l = [] ∨ ∀ k, v.ownBlock = some k → some g ≠ some k
 at_ : st.1 ≤ l.length
 gw : w0.heap.size ≤ g
 b : Below w0.heap.size w0 w
theorem Sc.below {w w' : World} {g : Nat} {v : Value} {a e : Nat} (h : Sc w g v a e) (hb : Below w.heap.size w w') : Sc w' g v a e := (hb.block g (Array.getElem?_eq_some_iff.1 h).1).trans h
theorem ScB.below {w0 w w' : World} {g : Nat} {v : Value} {l : List UInt8} {st : Nat × Nat} (h : ScB w0 g v l w st) (hb : Below w.heap.size w w') : ScB w0 g v l w' st := ⟨h.sc.below hb, h.by_.below hb, h.ne, h.at_, h.gw, h.b.trans (hb.mono h.b.size)⟩
theorem ScB.next {w0 w w' : World} {g : Nat} {v : Value} {l : List UInt8} {st st' : Nat × Nat} (h : ScB w0 g v l w st) (hs : Sc w' g v st'.1 st'.2) (hg : w.grownBy w' (some g)) (ha : st'.1 ≤ l.length) : ScB w0 g v l w' st' :=
 ⟨hs, h.by_.grown hg h.ne, h.ne, ha, h.gw, Chg.to_below h.b (Chg.of_grown hg (fun k => k = g) (fun k e => by injection e with e; exact .inl e.symm)) (fun k e => by rw [e]; exact h.gw)⟩
theorem ScB.later {w0 w w' : World} {g B : Nat} {v : Value} {l : List UInt8} {st : Nat × Nat} (h : ScB w0 g v l w st) (hb : Below B w w') (hg : g < B) (hv : l = [] ∨ ∀ k, v.ownBlock = some k → k < B) (hB : w0.heap.size ≤ B) : ScB w0 g v l w' st :=
 ⟨(hb.block g hg).trans h.sc, h.by_.chgM hb hv, h.ne, h.at_, h.gw, h.b.trans (hb.mono hB)⟩
def ScR (w0 w : World) (g : Nat) (v : Value) (l : List UInt8) (r : Value) (st : Nat × Nat) (e : Ending) (w' : World) : Prop := e = .returned r ∧ ScB w0 g v l w' st ∧ w.grownBy w' (some g)
theorem scn_any {w0 w : World} {g : Nat} {p : Option Addr} {n c : Nat} {l : List UInt8} {st : Nat × Nat} (h : ScB w0 g (.slice p n c) l w st) : Calls Tryz.prog 134 #[.pointer (some ⟨g, 0, none⟩)] w (ScR w0 w g (.slice p n c) l (.int .i64 ((nx l st).1 : Nat)) (nx l st).2) := by
 obtain ⟨a, e⟩ := st
 obtain ⟨N, A, E, hN⟩ : ∃ n a' e', nx l (a, e) = (n, a', e') := ⟨_, _, _, rfl⟩
 have hl := h.by_.len.1
 have ha := (nx_le (l := l) (st := (a, e)) h.at_).1
 have h1 := scanNumber_any h.sc h.by_ (by have := h.at_; dsimp only at *; omega) (show _ = (N, A, E) from hN)
 rw [hN] at ha ⊢
 exact h1.mono fun e' w' ⟨he, hs, hg⟩ => ⟨he, h.next hs hg ha, hg⟩
theorem step_pushN1 {w : World} {ops : Array Oper} {o : Oper} {a : Act} {K : Act → World → Prop} {Q : Exit → Act → World → Prop} {E : Prop} (hgd : o.guard = none) (s x : Operand)
  (ho : o.op = .call { callee := .builtin .append, args := #[s, x], argTypes := #[39, 39] }) (hty : o.type = 39) {B : Nat} {v : Value} {l : List Int} (y : Int) {H : Nat}
  (hs : a.eval s = v) (hx : a.eval x = .slice (some ⟨H, 0, none⟩) 1 1) (hH : H = w.heap.size) (h : OwnN B w v l) (hy : fits y) (hB : B ≤ w.heap.size) (hn : l.length ≤ 1000000)
  (hK : ∀ v' w', OwnN B w' v' (l ++ [y]) → w.grownBy w' v.ownBlock → K (a.put o.dst v') w') : if Region.wanted o (yielded ops a.tmps) = true then Oper.wp Tryz.prog o a (w.alloc (.cells #[.int .i64 y] 3)) K Q else E := by
 subst hH
 obtain ⟨v', w', hr, h1, _, h2⟩ := run_pushN h y hy hB hn
 have hw : Region.wanted o (yielded ops a.tmps) = true := by simp [Region.wanted, hgd]
 rw [if_pos hw]
 exact Lib.wp_append_run_sl _ s x 39 ho v _ hs hx (by rw [hty]; exact hr) (hK v' w' h1 h2)
theorem frozen_grown {w w' : World} {row : Option Nat} {g i : Nat} (h : w.grownBy w' row) (hl : g < w.heap.size) (hne : row ≠ some g) : w'.frozen? ⟨g, i, none⟩ = w.frozen? ⟨g, i, none⟩ := by
 unfold World.frozen?
 rw [h.block g hl (fun e => hne e.symm)]
def SnO (B : Nat) (w : World) (v : Value) (s : Sn) : Prop :=
 ∃ vo da, v = .agg #[.int .i64 s.ix, .int .i64 s.tm, vo, da] ∧ OwnN B w vo s.vo ∧ Own B w da s.da ∧ Go.Proofs.YtgbdjcekpdfpjaaGreatDoor.fits s.ix ∧ Go.Proofs.YtgbdjcekpdfpjaaGreatDoor.fits s.tm
theorem SnO.snv {B : Nat} {w : World} {v : Value} {s : Sn} (h : SnO B w v s) : SnV w v s := by
 obtain ⟨vo, da, rfl, h1, h2, h3⟩ := h
 exact ⟨vo, da, rfl, h1.ns, h2.by_, h3⟩
theorem set4 {W : World} {g : Nat} {t : TypeId} {a b c d : Value} (x0 x1 x2 x3 : Value) (h : W.heap[g]? = some (.cells #[a, b, c, d] t (0, 0))) :
  ((((W.setCell ⟨g, 0, none⟩ x0).setCell ⟨g, 1, none⟩ x1).setCell ⟨g, 2, none⟩ x2).setCell ⟨g, 3, none⟩ x3).heap[g]? = some (.cells #[x0, x1, x2, x3] t (0, 0)) ∧
  Chg W ((((W.setCell ⟨g, 0, none⟩ x0).setCell ⟨g, 1, none⟩ x1).setCell ⟨g, 2, none⟩ x2).setCell ⟨g, 3, none⟩ x3) (fun k => k = g) := by
 have hs : ∀ (X : World) (i : Nat) (x : Value), Chg X (X.setCell ⟨g, i, none⟩ x) (fun k => k = g) := fun X i x => Chg.of_grown (grown_set _ _ _ _) _ fun k hk => .inl (by injection hk with hk; exact hk.symm)
 have h1 := heap_setCell_same W g 0 _ t x0 h
 have h2 := heap_setCell_same _ g 1 _ t x1 h1
 have h3 := heap_setCell_same _ g 2 _ t x2 h2
 have h4 := heap_setCell_same _ g 3 _ t x3 h3
 exact ⟨h4.trans rfl, ((hs _ _ _).then (hs _ _ _) (fun k h => .inl h)).then ((hs _ _ _).then (hs _ _ _) (fun k h => .inl h)) (fun k h => .inl h)⟩
structure SnI (w W0 : World) (g Bs : Nat) (u : Value) (h : List UInt8) (i1 t1 : Nat) (wr : World) (r : List Int) (s : Nat × Nat) (vv : Value) : Prop where
 sc : ScB W0 g u h wr s
 gl : g < Bs
 ul : h = [] ∨ ∀ k, u.ownBlock = some k → k < Bs
 row : wr.heap[Bs]? = some (.cells #[.int .i64 (i1 : Nat), .int .i64 (t1 : Nat), vv, .slice none 0 0] 42 (0, 0))
 vo : OwnN (Bs + 1) wr vv r
 wl : W0.heap.size ≤ Bs
 bw : Below w.heap.size w wr
 ww : w.heap.size ≤ W0.heap.size
theorem SnI.cell {w W0 : World} {g Bs : Nat} {u : Value} {h : List UInt8} {i1 t1 : Nat} {wr : World} {r : List Int} {s : Nat × Nat} {vv : Value} (H : SnI w W0 g Bs u h i1 t1 wr r s vv) {w5 : World} (hg : wr.grownBy w5 (some g)) :
  w5.cell? ⟨Bs, 2, none⟩ = some vv ∧ w5.frozen? ⟨Bs, 2, none⟩ = false := by
 have hl := (Array.getElem?_eq_some_iff.1 H.row).1
 have hne := H.gl
 have h5 := (hg.block Bs hl (fun e => by injection e with e; omega)).trans H.row
 exact ⟨by rw [cell_of_row w5 Bs 2 _ _ (0, 0) h5]; rfl, frozen_of_row w5 Bs 2 _ _ h5⟩
theorem SnI.own {w W0 : World} {g Bs : Nat} {u : Value} {h : List UInt8} {i1 t1 : Nat} {wr : World} {r : List Int} {s : Nat × Nat} {vv : Value} (H : SnI w W0 g Bs u h i1 t1 wr r s vv) {w5 : World} (hg : wr.grownBy w5 (some g)) : OwnN (Bs + 1) w5 vv r :=
 H.vo.grown hg (H.vo.neRow (by have := H.gl; omega))
theorem SnI.size {w W0 : World} {g Bs : Nat} {u : Value} {h : List UInt8} {i1 t1 : Nat} {wr : World} {r : List Int} {s : Nat × Nat} {vv : Value} (H : SnI w W0 g Bs u h i1 t1 wr r s vv) {w5 : World} (hg : wr.grownBy w5 (some g)) : Bs + 1 ≤ w5.heap.size := by
 have hl := (Array.getElem?_eq_some_iff.1 H.row).1
 have := hg.size
 omega
theorem SnI.ne {w W0 : World} {g Bs : Nat} {u : Value} {h : List UInt8} {i1 t1 : Nat} {wr : World} {r : List Int} {s : Nat × Nat} {vv : Value} (H : SnI w W0 g Bs u h i1 t1 wr r s vv) : vv.ownBlock ≠ some Bs := fun e => by
 have := (H.vo.lt _ e).1
 omega
theorem SnI.step {w W0 : World} {g Bs : Nat} {u : Value} {h : List UInt8} {i1 t1 : Nat} {wr : World} {r : List Int} {s s' : Nat × Nat} {vv : Value} (H : SnI w W0 g Bs u h i1 t1 wr r s vv) {w5 w9 : World} {v9 : Value} {x : Int}
  (hs : ScB W0 g u h w5 s') (hg : wr.grownBy w5 (some g)) (ho : OwnN (Bs + 1) w9 v9 (r ++ [x])) (h9 : w5.grownBy w9 vv.ownBlock) :
  SnI w W0 g Bs u h i1 t1 (w9.setCell ⟨Bs, 2, none⟩ v9) (r ++ [x]) s' v9 := by
 have hl := (Array.getElem?_eq_some_iff.1 H.row).1
 have hne := H.gl
 have hwl := H.wl
 have hww := H.ww
 have h5 := (hg.block Bs hl (fun e => by injection e with e; omega)).trans H.row
 have h9r := (h9.block Bs (by have := hg.size; omega) (fun e => H.ne e.symm)).trans h5
 have hrow : ∀ k, vv.ownBlock = some k → Bs + 1 ≤ k := fun k hk => (H.vo.lt k hk).1
 have hc9 : Chg w5 w9 (fun k => Bs + 1 ≤ k) := Chg.of_grown h9 _ (fun k hk => .inl (hrow k hk))
 have hcs : Chg w9 (w9.setCell ⟨Bs, 2, none⟩ v9) (fun k => k = Bs) := Chg.of_grown (grown_set _ _ _ _) _ fun k hk => .inl (by injection hk with hk; exact hk.symm)
 have hb : Below Bs w5 (w9.setCell ⟨Bs, 2, none⟩ v9) := by
  have h1 : Chg w5 (w9.setCell ⟨Bs, 2, none⟩ v9) (fun k => Bs ≤ k) := (hc9.mono' fun k h => by omega).then (hcs.mono' fun k h => by omega) (fun k h => .inl h)
  exact ⟨h1.os, h1.tape, h1.output, h1.size, fun k hk => h1.block k (by have := hg.size; omega) (by omega)⟩
 refine ⟨hs.later hb H.gl H.ul H.wl, H.gl, H.ul, ?_, ho.grown (grown_set _ _ _ _) (ho.neRow (by omega)), H.wl, ?_, H.ww⟩
 ·rw [heap_setCell_same _ _ _ _ _ _ h9r]
  rfl
 ·have h1 : Chg wr w5 (fun k => k = g) := Chg.of_grown hg _ fun k hk => .inl (by injection hk with hk; exact hk.symm)
  have hgw := H.sc.gw
  exact Chg.to_below (Chg.to_below (Chg.to_below H.bw h1 (fun k h => by omega)) hc9 (fun k h => by omega)) hcs (fun k h => by omega)
set_option maxRecDepth 200000 in
set_option maxHeartbeats 4000000 in
theorem snapOf_any {w : World} {hv pv : Value} {h : List UInt8} {ps : List (List UInt8)} (hh : By w hv h) (hps : Bss w pv ps) (hl : h.length ≤ 1000000) (hpl : Lib.lens ps ≤ 140737488355328) (hpn : ps.length ≤ 140737488355328) :
  Calls Tryz.prog 113 #[hv, pv] w fun e w' => ∃ v, e = .returned v ∧ SnO w.heap.size w' v (snapOf 7 h ps) ∧ Below w.heap.size w w' := by
 obtain ⟨ph, nh, ch, rfl⟩ := hh.sl
 obtain ⟨pp, np, cp, rfl⟩ := hps.sl
 have HH := hide hh
 have HPS := hide hps
 clear hh hps
 go_enter Tryz.func113, Tryz.ntmps113
 go_wp2_with fail
 obtain ⟨W0, hW0⟩ : ∃ W0, w.alloc (.cells #[.int .i64 0, .int .i64 0, .slice none 0 0, .slice none 0 0] 42) = W0 := ⟨_, rfl⟩
 have hb0 : Below w.heap.size w W0 := by rw [← hW0]; exact balloc (Below.refl _ _) _
 have hs0 : W0.heap.size = w.heap.size + 1 := by rw [← hW0]; simp
 have hr0 : W0.heap[w.heap.size]? = some (.cells #[.int .i64 0, .int .i64 0, .slice none 0 0, .slice none 0 0] 42 (0, 0)) := by rw [← hW0]; exact Array.getElem?_push_size
 rw [hW0]
 have HR0 := hide hr0
 have HB0 := hide hb0
 have HS0 := hide hs0
 clear hW0 hb0 hr0 hs0
 refine (over_any (HH.out.below HB0.out) (by omega)).mono ?_
 rintro e w1 ⟨g, u, rfl, hg, hsc, hou, hne, hb1⟩
 obtain ⟨pu, nu, cu, rfl⟩ := hou.by_.sl
 have hsb : ScB W0 g (.slice pu nu cu) h w1 (0, 0) := ⟨hsc, hou.by_, hne, Nat.zero_le _, hg, hb1⟩
 have N1 := hide (scn_any hsb)
 obtain ⟨i1, hi1⟩ : ∃ x, (nx h (0, 0)).1 = x := ⟨_, rfl⟩
 obtain ⟨s1, hs1⟩ : ∃ x, (nx h (0, 0)).2 = x := ⟨_, rfl⟩
 obtain ⟨t1, ht1⟩ : ∃ x, (nx h s1).1 = x := ⟨_, rfl⟩
 obtain ⟨s2, hs2⟩ : ∃ x, (nx h s1).2 = x := ⟨_, rfl⟩
 obtain ⟨n1, hn1⟩ : ∃ x, (nx h s2).1 = x := ⟨_, rfl⟩
 obtain ⟨s3, hs3⟩ : ∃ x, (nx h s2).2 = x := ⟨_, rfl⟩
 have HSN : Hid (snapOf 7 h ps = ⟨(i1 : Nat), (t1 : Nat), (rdNs h (min n1 7) s3.1 s3.2).1, ps.flatten⟩) := hide (by rw [← hs3, ← hn1, ← hs2, ← ht1, ← hs1, ← hi1]; rfl)
 have HIL := hide (show i1 < 9223372036854775808 from hi1 ▸ (nx_le hsb.at_).2)
 rw [hi1, hs1] at N1
 have HB1 := hide (show Below w.heap.size w w1 from HB0.out.trans (hb1.mono HB0.out.size))
 clear hg hsc hou hne hb1 hsb hi1 hs1
 go_wp2_with fail
 refine N1.out.mono ?_
 rintro e w2 ⟨rfl, hsb, hg2⟩
 have N2 := hide (scn_any hsb)
 have HTL := hide (show t1 < 9223372036854775808 from ht1 ▸ (nx_le hsb.at_).2)
 rw [ht1, hs2] at N2
 clear hsb hg2 N1 ht1 hs2
 go_wp2_with fail
 refine N2.out.mono ?_
 rintro e w3 ⟨rfl, hsb, hg3⟩
 have HSB := hide hsb
 have HW3 := hide (HB0.out.trans (hsb.b.mono HB0.out.size))
 clear hsb hg3 N2
 have N3 := hide (scn_any HSB.out)
 go_wp2_with fail
 obtain ⟨W4, hW4⟩ : ∃ W4, w3.alloc (.cells #[.int .i64 (i1 : Nat), .int .i64 (t1 : Nat), .slice none 0 0, .slice none 0 0] 42) = W4 := ⟨_, rfl⟩
 have HB4 := hide (show Below w3.heap.size w3 W4 by rw [← hW4]; exact balloc (Below.refl _ _) _)
 have HR4 : Hid (W4.heap[w3.heap.size]? = some (.cells #[.int .i64 (i1 : Nat), .int .i64 (t1 : Nat), .slice none 0 0, .slice none 0 0] 42 (0, 0))) := hide (by rw [← hW4]; exact Array.getElem?_push_size)
 rw [hW4]
 have N4 := hide (scn_any (HSB.out.below HB4.out))
 rw [hn1, hs3] at N4
 have HN1 := hide (show n1 < 9223372036854775808 from hn1 ▸ (nx_le HSB.out.at_).2)
 clear hW4 hn1 hs3 N3
 refine N4.out.mono ?_
 rintro e w5 ⟨rfl, hsb5, hg5⟩
 obtain ⟨Bs, hBs⟩ : ∃ Bs, w3.heap.size = Bs := ⟨_, rfl⟩
 have HI : Hid (SnI w W0 g Bs (.slice pu nu cu) h i1 t1 w5 [] s3 (.slice none 0 0)) := hide (by
  have hgl := HSB.out.sc.lt
  refine ⟨hsb5, by omega, ?_, ?_, OwnN.nil _ _, by have := HSB.out.b.size; omega, ?_, HB0.out.size⟩
  ·rw [← hBs]; exact HSB.out.by_.ltM
  ·rw [← hBs]
   exact (hg5.block _ (Array.getElem?_eq_some_iff.1 HR4.out).1 (fun e => by injection e with e; omega)).trans HR4.out
  ·exact HB0.out.trans (hsb5.b.mono HB0.out.size))
 have HBS := hide hBs
 rw [hBs]
 clear hsb5 hg5 hBs N4
 obtain ⟨M, hM⟩ : ∃ M, min n1 7 = M := ⟨_, rfl⟩
 have hmm : min (n1 : Int) 7 = (M : Int) := by omega
 have hM7 : M ≤ 7 := by omega
 rw [hM] at HSN
 clear hM
 go_wp2_with fail
 go_loopw [17] (fun i wr => ∃ (k : Nat) (r : List Int) (s : Nat × Nat) (p : Option Addr) (n c : Nat), k ≤ M ∧ i = .int .i64 k ∧ Hid (SnI w W0 g Bs (.slice pu nu cu) h i1 t1 wr r s (.slice p n c) ∧ r.length = k ∧ r ++ (rdNs h (M - k) s.1 s.2).1 = (rdNs h M s3.1 s3.2).1)) (fun i _ => M - (intOf i).toNat)
 case atStart => exact ⟨0, [], s3, none, 0, 0, by omega, rfl, hide ⟨HI.out, rfl, rfl⟩⟩
 case round =>
  obtain ⟨k, r, s, pv, nv, cv, hk, rfl, HR⟩ := hrel
  by_cases hlt : k < M
  ·have e1 : decide ((k : Int) < (M : Int)) = true := by simp; omega
   obtain ⟨x, hx⟩ : ∃ x, (nx h s).1 = x := ⟨_, rfl⟩
   obtain ⟨s2, hs2⟩ : ∃ y, (nx h s).2 = y := ⟨_, rfl⟩
   have HXL := hide (show x < 9223372036854775808 from hx ▸ (nx_le HR.out.1.sc.at_).2)
   have HNX : Hid (∀ W, (∃ q, W = wr.drewN q) → Calls Tryz.prog 134 #[.pointer (some ⟨g, 0, none⟩)] W fun e w' => e = .returned (.int .i64 (x : Nat)) ∧ ScB W0 g (.slice pu nu cu) h w' s2 ∧ wr.grownBy w' (some g)) := hide (by
    rintro W ⟨q, rfl⟩
    have h1 := scn_any (HR.out.1.sc.below (w' := wr.drewN q) (below_drewN (Below.refl _ _) q))
    rw [hx, hs2] at h1
    exact h1.mono fun e w' ⟨h1, h2, h3⟩ => ⟨h1, h2, gtrans (gof (below_drewN (Below.refl _ _) q) _) h3⟩)
   have HBX := hide (fun (w5 : World) (hg : wr.grownBy w5 (some g)) => HR.out.1.cell hg)
   have HVO := hide (fun (w5 : World) (hg : wr.grownBy w5 (some g)) => HR.out.1.own hg)
   have HSZ := hide (fun (w5 : World) (hg : wr.grownBy w5 (some g)) => HR.out.1.size hg)
   have HNE := hide HR.out.1.ne
   have HRL : Hid (r.length ≤ 1000000) := hide (by have := HR.out.2.1; omega)
   have hv0 := (HR.out.1.cell (World.grownBy.refl wr _)).1
   have hf0 := (HR.out.1.cell (World.grownBy.refl wr _)).2
   have HST := hide (fun (w5 w9 : World) p9 n9 c9 (hs : ScB W0 g (.slice pu nu cu) h w5 s2) (hg : wr.grownBy w5 (some g)) (ho : OwnN (Bs + 1) w9 (.slice p9 n9 c9) (r ++ [(x : Int)])) (h9 : w5.grownBy w9 (Value.slice pv nv cv).ownBlock) => (⟨HR.out.1.step hs hg ho h9, by rw [List.length_append, HR.out.2.1]; rfl, by
    have h1 := HR.out.2.2
    rw [show M - k = (M - (k + 1)) + 1 by omega, rdNs] at h1
    rw [← h1, List.append_assoc, ← hs2, ← hx]
    rfl⟩ : SnI w W0 g Bs (.slice pu nu cu) h i1 t1 (w9.setCell ⟨Bs, 2, none⟩ (.slice p9 n9 c9)) (r ++ [(x : Int)]) s2 (.slice p9 n9 c9) ∧ (r ++ [(x : Int)]).length = k + 1 ∧ (r ++ [(x : Int)]) ++ (rdNs h (M - (k + 1)) s2.1 s2.2).1 = (rdNs h M s3.1 s3.2).1))
   clear hx hs2
   go_wp2_with fail
   refine wp_region_held_drew (S := fun _ => True) (by kernel_rfl) ?_ (fun hHeld => ?_)
   ·(try dsimp only)
    try trivial
   refine tkL 0 rfl ?_
   refine tkL 2 rfl ?_
   refine wpAnyH_ready (rs := [1, 3]) (by kernel_rfl) (by simp) ?_
   refine acL rfl (fun K hK => ?_) ?_
   ·go_simp
    first
     | refine hK.out _ _ ?_ (fun hHeld => ?_)
     | (go_wp2_with fail; refine hK.out _ _ ?_ (fun hHeld => ?_))
    ·(try dsimp only)
     try trivial
    clear hK K
    try simp only [Act.put, qA, qB, qC]
    refine wpAnyH_ready (rs := [3]) (by kernel_rfl) (by simp) ?_
    refine acL rfl (fun K hK => ?_) ?_
    ·go_simp
     refine (HNX.out _ (by first | exact ⟨1, rfl⟩ | exact ⟨0, rfl⟩)).mono ?_
     rintro e w5 ⟨rfl, hb5, hg5⟩
     have H5 := hide (And.intro hb5 hg5)
     have hv5 := (HBX.out _ hg5).1
     have hf5 := (HBX.out _ hg5).2
     have hv5a : (w5.alloc (.cells #[.int .i64 (x : Int)] 3)).cell? ⟨Bs, 2, none⟩ = some (.slice pv nv cv) := ((balloc (Below.refl w5.heap.size w5) _).cell (lt_of_cell hv5)).trans hv5
     clear hb5 hg5
     first
      | refine hK.out _ _ ?_ (fun hHeld => ?_)
      | (go_wp2_with fail; refine hK.out _ _ ?_ (fun hHeld => ?_))
     ·(try dsimp only)
      try trivial
     clear hK K
     try simp only [Act.put, qA, qB, qC]
     refine wpAnyH_ready (rs := [4]) (by kernel_rfl) (by simp) ?_
     refine acL rfl (fun K hK => ?_) ?_
     ·go_simp
      first
       | refine hK.out _ _ ?_ (fun hHeld => ?_)
       | (go_wp2_with fail; refine hK.out _ _ ?_ (fun hHeld => ?_))
      ·(try dsimp only)
       try trivial
      clear hK K
      try simp only [Act.put, qA, qB, qC]
      refine wpAnyH_ready (rs := [5]) (by kernel_rfl) (by simp) ?_
      refine acL rfl (fun K hK => ?_) ?_
      ·refine step_pushN1 (by rfl) _ _ (by rfl) (by rfl) (x : Int) (by rfl) (by rfl) (by rfl) (HVO.out _ H5.out.2) (by have := HXL.out; unfold fits; omega) (HSZ.out _ H5.out.2) (by have := HRL.out; omega) ?_
       intro v9 w9 ho9 hg9
       obtain ⟨p9, n9, c9, rfl⟩ := ho9.ns.sl
       have H9 := hide (And.intro ho9 hg9)
       have hv9 := hg9.cell hv5 HNE.out.symm
       have hf9 := (frozen_grown hg9 (lt_of_cell hv5) HNE.out).trans hf5
       clear ho9 hg9
       first
        | refine hK.out _ _ ?_ (fun hHeld => ?_)
        | (go_wp2_with fail; refine hK.out _ _ ?_ (fun hHeld => ?_))
       ·(try dsimp only)
        try trivial
       clear hK K
       try simp only [Act.put, qA, qB, qC]
       refine tkL 6 rfl ?_
       refine wpAnyH_ready (rs := [7]) (by kernel_rfl) (by simp) ?_
       refine acL rfl (fun K hK => ?_) ?_
       ·go_simp
        first
         | refine hK.out _ _ ?_ (fun hHeld => ?_)
         | (go_wp2_with fail; refine hK.out _ _ ?_ (fun hHeld => ?_))
        ·(try dsimp only)
         try trivial
        clear hK K
        try simp only [Act.put, qA, qB, qC]
        refine wpAnyH_done (by kernel_rfl) ?_ _
        (try dsimp only)
        have HEND := hide (HST.out _ _ p9 n9 c9 H5.out.1 H5.out.2 H9.out.1 H9.out.2)
        clear hv5 hf5 hv9 hf9 H5 H9
        go_wp2
        go_roundw
        case rel => exact ⟨k + 1, _, _, _, _, _, by omega, by go_num, HEND⟩
        case measure => simp [intOf] <;> omega
       exact AllReadyH.nil
      exact AllReadyH.nil
     exact AllReadyH.nil
    exact AllReadyH.nil
   refine acL rfl (fun K hK => ?_) ?_
   ·go_simp
    refine (HNX.out _ (by first | exact ⟨1, rfl⟩ | exact ⟨0, rfl⟩)).mono ?_
    rintro e w5 ⟨rfl, hb5, hg5⟩
    have H5 := hide (And.intro hb5 hg5)
    have hv5 := (HBX.out _ hg5).1
    have hf5 := (HBX.out _ hg5).2
    have hv5a : (w5.alloc (.cells #[.int .i64 (x : Int)] 3)).cell? ⟨Bs, 2, none⟩ = some (.slice pv nv cv) := ((balloc (Below.refl w5.heap.size w5) _).cell (lt_of_cell hv5)).trans hv5
    clear hb5 hg5
    first
     | refine hK.out _ _ ?_ (fun hHeld => ?_)
     | (go_wp2_with fail; refine hK.out _ _ ?_ (fun hHeld => ?_))
    ·(try dsimp only)
     try trivial
    clear hK K
    try simp only [Act.put, qA, qB, qC]
    refine wpAnyH_ready (rs := [1, 4]) (by kernel_rfl) (by simp) ?_
    refine acL rfl (fun K hK => ?_) ?_
    ·go_simp
     first
      | refine hK.out _ _ ?_ (fun hHeld => ?_)
      | (go_wp2_with fail; refine hK.out _ _ ?_ (fun hHeld => ?_))
     ·(try dsimp only)
      try trivial
     clear hK K
     try simp only [Act.put, qA, qB, qC]
     refine wpAnyH_ready (rs := [4]) (by kernel_rfl) (by simp) ?_
     refine acL rfl (fun K hK => ?_) ?_
     ·go_simp
      first
       | refine hK.out _ _ ?_ (fun hHeld => ?_)
       | (go_wp2_with fail; refine hK.out _ _ ?_ (fun hHeld => ?_))
      ·(try dsimp only)
       try trivial
      clear hK K
      try simp only [Act.put, qA, qB, qC]
      refine wpAnyH_ready (rs := [5]) (by kernel_rfl) (by simp) ?_
      refine acL rfl (fun K hK => ?_) ?_
      ·refine step_pushN1 (by rfl) _ _ (by rfl) (by rfl) (x : Int) (by rfl) (by rfl) (by rfl) (HVO.out _ H5.out.2) (by have := HXL.out; unfold fits; omega) (HSZ.out _ H5.out.2) (by have := HRL.out; omega) ?_
       intro v9 w9 ho9 hg9
       obtain ⟨p9, n9, c9, rfl⟩ := ho9.ns.sl
       have H9 := hide (And.intro ho9 hg9)
       have hv9 := hg9.cell hv5 HNE.out.symm
       have hf9 := (frozen_grown hg9 (lt_of_cell hv5) HNE.out).trans hf5
       clear ho9 hg9
       first
        | refine hK.out _ _ ?_ (fun hHeld => ?_)
        | (go_wp2_with fail; refine hK.out _ _ ?_ (fun hHeld => ?_))
       ·(try dsimp only)
        try trivial
       clear hK K
       try simp only [Act.put, qA, qB, qC]
       refine tkL 6 rfl ?_
       refine wpAnyH_ready (rs := [7]) (by kernel_rfl) (by simp) ?_
       refine acL rfl (fun K hK => ?_) ?_
       ·go_simp
        first
         | refine hK.out _ _ ?_ (fun hHeld => ?_)
         | (go_wp2_with fail; refine hK.out _ _ ?_ (fun hHeld => ?_))
        ·(try dsimp only)
         try trivial
        clear hK K
        try simp only [Act.put, qA, qB, qC]
        refine wpAnyH_done (by kernel_rfl) ?_ _
        (try dsimp only)
        have HEND := hide (HST.out _ _ p9 n9 c9 H5.out.1 H5.out.2 H9.out.1 H9.out.2)
        clear hv5 hf5 hv9 hf9 H5 H9
        go_wp2
        go_roundw
        case rel => exact ⟨k + 1, _, _, _, _, _, by omega, by go_num, HEND⟩
        case measure => simp [intOf] <;> omega
       exact AllReadyH.nil
      exact AllReadyH.nil
     exact AllReadyH.nil
    refine acL rfl (fun K hK => ?_) ?_
    ·go_simp
     first
      | refine hK.out _ _ ?_ (fun hHeld => ?_)
      | (go_wp2_with fail; refine hK.out _ _ ?_ (fun hHeld => ?_))
     ·(try dsimp only)
      try trivial
     clear hK K
     try simp only [Act.put, qA, qB, qC]
     refine wpAnyH_ready (rs := [1]) (by kernel_rfl) (by simp) ?_
     refine acL rfl (fun K hK => ?_) ?_
     ·go_simp
      first
       | refine hK.out _ _ ?_ (fun hHeld => ?_)
       | (go_wp2_with fail; refine hK.out _ _ ?_ (fun hHeld => ?_))
      ·(try dsimp only)
       try trivial
      clear hK K
      try simp only [Act.put, qA, qB, qC]
      refine wpAnyH_ready (rs := [5]) (by kernel_rfl) (by simp) ?_
      refine acL rfl (fun K hK => ?_) ?_
      ·refine step_pushN1 (by rfl) _ _ (by rfl) (by rfl) (x : Int) (by rfl) (by rfl) (by rfl) (HVO.out _ H5.out.2) (by have := HXL.out; unfold fits; omega) (HSZ.out _ H5.out.2) (by have := HRL.out; omega) ?_
       intro v9 w9 ho9 hg9
       obtain ⟨p9, n9, c9, rfl⟩ := ho9.ns.sl
       have H9 := hide (And.intro ho9 hg9)
       have hv9 := hg9.cell hv5 HNE.out.symm
       have hf9 := (frozen_grown hg9 (lt_of_cell hv5) HNE.out).trans hf5
       clear ho9 hg9
       first
        | refine hK.out _ _ ?_ (fun hHeld => ?_)
        | (go_wp2_with fail; refine hK.out _ _ ?_ (fun hHeld => ?_))
       ·(try dsimp only)
        try trivial
       clear hK K
       try simp only [Act.put, qA, qB, qC]
       refine tkL 6 rfl ?_
       refine wpAnyH_ready (rs := [7]) (by kernel_rfl) (by simp) ?_
       refine acL rfl (fun K hK => ?_) ?_
       ·go_simp
        first
         | refine hK.out _ _ ?_ (fun hHeld => ?_)
         | (go_wp2_with fail; refine hK.out _ _ ?_ (fun hHeld => ?_))
        ·(try dsimp only)
         try trivial
        clear hK K
        try simp only [Act.put, qA, qB, qC]
        refine wpAnyH_done (by kernel_rfl) ?_ _
        (try dsimp only)
        have HEND := hide (HST.out _ _ p9 n9 c9 H5.out.1 H5.out.2 H9.out.1 H9.out.2)
        clear hv5 hf5 hv9 hf9 H5 H9
        go_wp2
        go_roundw
        case rel => exact ⟨k + 1, _, _, _, _, _, by omega, by go_num, HEND⟩
        case measure => simp [intOf] <;> omega
       exact AllReadyH.nil
      exact AllReadyH.nil
     exact AllReadyH.nil
    exact AllReadyH.nil
   exact AllReadyH.nil
  ·have HKM : Hid (k = M) := hide (by omega)
   have e1 : decide ((k : Int) < (M : Int)) = false := by simp; omega
   have HJ := hide (HPS.out.below (HR.out.1.bw))
   have h0 := HR.out.1.row
   have HRW := hide h0
   go_wp2_with fail
   refine (join_any HJ.out hpl hpn).mono ?_
   rintro e w6 ⟨vj, rfl, hoj, hb6⟩
   obtain ⟨pj, nj, cj, rfl⟩ := hoj.by_.sl
   have hr6 := (hb6.block Bs (Array.getElem?_eq_some_iff.1 HRW.out).1).trans HRW.out
   have hBsl := (Array.getElem?_eq_some_iff.1 HRW.out).1
   have hcs : Chg w6 (w6.setCell ⟨Bs, 3, none⟩ (.slice pj nj cj)) (fun k => k = Bs) := Chg.of_grown (grown_set _ _ _ _) _ fun k hk => .inl (by injection hk with hk; exact hk.symm)
   have hr7 : (w6.setCell ⟨Bs, 3, none⟩ (.slice pj nj cj)).heap[Bs]? = some (.cells #[.int .i64 (i1 : Nat), .int .i64 (t1 : Nat), .slice pv nv cv, .slice pj nj cj] 42 (0, 0)) := by
    rw [heap_setCell_same _ _ _ _ _ _ hr6]; rfl
   have hrw := (HR.out.1.sc.b.block w.heap.size (by have := HS0.out; omega)).trans HR0.out
   have hwl : w.heap.size < wr.heap.size := (Array.getElem?_eq_some_iff.1 hrw).1
   have hne : w.heap.size ≠ Bs := by have := HR.out.1.wl; have := HS0.out; omega
   have hrw6 := (hb6.block w.heap.size hwl).trans hrw
   have hrw7 := (hcs.block w.heap.size (Array.getElem?_eq_some_iff.1 hrw6).1 hne).trans hrw6
   have HFIN : Hid (OwnN (w.heap.size + 1) (w6.setCell ⟨Bs, 3, none⟩ (.slice pj nj cj)) (.slice pv nv cv) r ∧ Own (w.heap.size + 1) (w6.setCell ⟨Bs, 3, none⟩ (.slice pj nj cj)) (.slice pj nj cj) ps.flatten ∧ Below w.heap.size w (w6.setCell ⟨Bs, 3, none⟩ (.slice pj nj cj))) := hide (by
    have hBw : w.heap.size + 1 ≤ Bs + 1 := by have := HR.out.1.wl; have := HR.out.1.ww; omega
    refine ⟨((HR.out.1.vo.below hb6).grown (grown_set _ _ _ _) ((HR.out.1.vo.below hb6).neRow (by omega))).mono hBw, (hoj.grown (row := some Bs) (grown_set _ _ _ _) (fun k hk e => ?_)).mono (by omega), Chg.to_below (HR.out.1.bw.trans (hb6.mono HR.out.1.bw.size)) hcs (fun k e => by have := HR.out.1.wl; have := HR.out.1.ww; omega)⟩
    injection e with e
    by_cases h0 : 0 < ps.flatten.length
    ·have := (hoj.lt h0 k hk).1
     omega
    ·rcases hoj with ⟨e1, _⟩ | ⟨gj, cap, e1, hB, _⟩
     ·rw [e1] at hk; simp [Value.ownBlock] at hk
     ·rw [e1] at hk
      simp only [Value.ownBlock, Option.some.injEq] at hk
      omega)
   have HE1 : Hid (r = (rdNs h M s3.1 s3.2).1) := hide (by
    have h1 := HR.out.2.2
    rw [show M - k = 0 by have := HKM.out; omega, rdNs, List.append_nil] at h1
    exact h1)
   have x60 : w6.cell? ⟨Bs, 3, none⟩ = some (.slice none 0 0) := by rw [cell_of_row w6 Bs 3 _ _ (0, 0) hr6]; rfl
   have f63 := frozen_of_row w6 Bs 3 _ _ hr6
   obtain ⟨W7, hW7⟩ : ∃ W7, w6.setCell ⟨Bs, 3, none⟩ (.slice pj nj cj) = W7 := ⟨_, rfl⟩
   rw [hW7] at hr7 hrw7 HFIN
   have y0 : W7.cell? ⟨Bs, 0, none⟩ = some (.int .i64 (i1 : Nat)) := by rw [cell_of_row W7 Bs 0 _ _ (0, 0) hr7]; rfl
   have y1 : W7.cell? ⟨Bs, 1, none⟩ = some (.int .i64 (t1 : Nat)) := by rw [cell_of_row W7 Bs 1 _ _ (0, 0) hr7]; rfl
   have y2 : W7.cell? ⟨Bs, 2, none⟩ = some (.slice pv nv cv) := by rw [cell_of_row W7 Bs 2 _ _ (0, 0) hr7]; rfl
   have y3 : W7.cell? ⟨Bs, 3, none⟩ = some (.slice pj nj cj) := by rw [cell_of_row W7 Bs 3 _ _ (0, 0) hr7]; rfl
   have z0 : W7.cell? ⟨w.heap.size, 0, none⟩ = some (.int .i64 0) := by rw [cell_of_row W7 _ 0 _ _ (0, 0) hrw7]; rfl
   have z1 : W7.cell? ⟨w.heap.size, 1, none⟩ = some (.int .i64 0) := by rw [cell_of_row W7 _ 1 _ _ (0, 0) hrw7]; rfl
   have z2 : W7.cell? ⟨w.heap.size, 2, none⟩ = some (.slice none 0 0) := by rw [cell_of_row W7 _ 2 _ _ (0, 0) hrw7]; rfl
   have z3 : W7.cell? ⟨w.heap.size, 3, none⟩ = some (.slice none 0 0) := by rw [cell_of_row W7 _ 3 _ _ (0, 0) hrw7]; rfl
   have u0 := frozen_of_row W7 w.heap.size 0 _ _ hrw7
   have u1 := frozen_of_row W7 w.heap.size 1 _ _ hrw7
   have u2 := frozen_of_row W7 w.heap.size 2 _ _ hrw7
   have u3 := frozen_of_row W7 w.heap.size 3 _ _ hrw7
   have HRW7 := hide hrw7
   have HIL' := HIL.out
   have HTL' := HTL.out
   have HFI : Hid (Go.Proofs.YtgbdjcekpdfpjaaGreatDoor.fits (i1 : Nat) ∧ Go.Proofs.YtgbdjcekpdfpjaaGreatDoor.fits (t1 : Nat)) := hide ⟨⟨by omega, by omega⟩, ⟨by omega, by omega⟩⟩
   clear hr6 hcs hr7 hrw hrw6 hrw7 hoj hb6 HR h0 hwl HIL' HTL'
   go_wp2_with fail
   obtain ⟨hq1, hq2⟩ := set4 (.int .i64 (i1 : Nat)) (.int .i64 (t1 : Nat)) (.slice pv nv cv) (.slice pj nj cj) HRW7.out
   obtain ⟨F, hF⟩ : ∃ F, ((((W7.setCell ⟨w.heap.size, 0, none⟩ (.int .i64 (i1 : Nat))).setCell ⟨w.heap.size, 1, none⟩ (.int .i64 (t1 : Nat))).setCell ⟨w.heap.size, 2, none⟩ (.slice pv nv cv)).setCell ⟨w.heap.size, 3, none⟩ (.slice pj nj cj)) = F := ⟨_, rfl⟩
   rw [hF] at hq1 hq2
   have v0 : F.cell? ⟨w.heap.size, 0, none⟩ = some (.int .i64 (i1 : Nat)) := by rw [cell_of_row F _ 0 _ _ (0, 0) hq1]; rfl
   have v1 : F.cell? ⟨w.heap.size, 1, none⟩ = some (.int .i64 (t1 : Nat)) := by rw [cell_of_row F _ 1 _ _ (0, 0) hq1]; rfl
   have v2 : F.cell? ⟨w.heap.size, 2, none⟩ = some (.slice pv nv cv) := by rw [cell_of_row F _ 2 _ _ (0, 0) hq1]; rfl
   have v3 : F.cell? ⟨w.heap.size, 3, none⟩ = some (.slice pj nj cj) := by rw [cell_of_row F _ 3 _ _ (0, 0) hq1]; rfl
   obtain ⟨hf1, hf2, hf3⟩ := HFIN.out
   have hrr : ∀ k : Nat, k = w.heap.size → k < w.heap.size + 1 := fun k h => by omega
   have HF1 : Hid (OwnN w.heap.size F (.slice pv nv cv) r) := hide (OwnN.mono (B := w.heap.size + 1) ⟨row_chg hf1.1 hq2 (fun k hk e => by have := (hf1.lt k hk).1; omega), hf1.2⟩ (by omega))
   have HF2 : Hid (Own w.heap.size F (.slice pj nj cj) ps.flatten) := hide (by
    rcases hf2 with h | ⟨gj, cap, e1, hB, h1, h2, h3, h4, h5⟩
    ·exact .inl h
    ·refine .inr ⟨gj, cap, e1, by omega, h1, h2, fun i x hx => hq2.cell (h3 i x hx) (fun e => by dsimp only at e; omega), fun i hi => ?_, fun i hi => ?_⟩
     ·obtain ⟨u, hu⟩ := Option.isSome_iff_exists.1 (h4 i hi)
      rw [hq2.cell hu (fun e => by dsimp only at e; omega)]; rfl
     ·obtain ⟨u, hu⟩ := Option.isSome_iff_exists.1 (h4 i hi)
      have e : F.frozen? ⟨gj, i, none⟩ = W7.frozen? ⟨gj, i, none⟩ := by
       unfold World.frozen?
       rw [hq2.block gj (lt_of_cell hu) (fun e => by omega)]
      rw [e]; exact h5 i hi)
   have HF3 := hide (Chg.to_below hf3 hq2 (fun k e => by omega))
   rw [hF]
   clear hF hq1 hq2 hf1 hf2 hf3 y0 y1 y2 y3 z0 z1 z2 z3 u0 u1 u2 u3 HRW7 HFIN
   refine bodyPost_ret (v := .agg #[.int .i64 (i1 : Nat), .int .i64 (t1 : Nat), .slice pv nv cv, .slice pj nj cj]) (by simp [results, Tryz.results113, go_sem, v0, v1, v2, v3]) rfl ?_
   refine ⟨_, rfl, ⟨.slice pv nv cv, .slice pj nj cj, by rw [HSN.out], ?_, ?_, ?_⟩, HF3.out⟩
   ·rw [HSN.out]
    show OwnN w.heap.size F (.slice pv nv cv) (rdNs h M s3.1 s3.2).1
    rw [← HE1.out]; exact HF1.out
   ·rw [HSN.out]; exact HF2.out
   ·rw [HSN.out]; exact HFI.out
end Go.Proofs.YtgbdjcekpdfpjaaGreatDoor
