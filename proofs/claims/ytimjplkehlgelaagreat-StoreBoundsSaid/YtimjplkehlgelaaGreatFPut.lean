/- One span put into a bag. -/
import Derived.Test.YtimjplkehlgelaaGreatFo1
import Derived.Test.YtimjplkehlgelaaGreatSp1
import Derived.Test.YtimjplkehlgelaaGreatChg
namespace Go.Proofs.YtimjplkehlgelaaGreat
set_option linter.unusedVariables false
set_option linter.unusedSimpArgs false
open Go.RowKit

/-- What came of spans. -/
structure Cn where
  add : Nat
  same : Nat
  other : Nat
  cyc : Nat
  full : Nat
def Cn.sum (c : Cn) : Nat := c.add + c.same + c.other + c.cyc + c.full
/-- Counts in memory. -/
structure CnAt (w : World) (g : Nat) (c : Cn) : Prop where
  c0 : w.cell? ⟨g, 0, none⟩ = some (.int .i64 (c.add : Nat))
  c1 : w.cell? ⟨g, 1, none⟩ = some (.int .i64 (c.same : Nat))
  c2 : w.cell? ⟨g, 2, none⟩ = some (.int .i64 (c.other : Nat))
  c3 : w.cell? ⟨g, 3, none⟩ = some (.int .i64 (c.cyc : Nat))
  c4 : w.cell? ⟨g, 4, none⟩ = some (.int .i64 (c.full : Nat))
  fr : ∀ k, k < 5 → w.frozen? ⟨g, k, none⟩ = false

theorem CnAt.alloc {w : World} {g : Nat} {c : Cn} (h : CnAt w g c) (o : Obj) : CnAt (w.alloc o) g c :=
  ⟨Lib.cell?_alloc_some _ h.c0, Lib.cell?_alloc_some _ h.c1, Lib.cell?_alloc_some _ h.c2, Lib.cell?_alloc_some _ h.c3, Lib.cell?_alloc_some _ h.c4, fun k hk => by rw [World.frozen?_alloc_past _ _ _ (lt_of_cell h.c0)]; exact h.fr k hk⟩
theorem CnAt.s0 {w : World} {g : Nat} {c : Cn} (h : CnAt w g c) : CnAt (w.setCell ⟨g, 0, none⟩ (.int .i64 ((c.add : Int) + 1))) g { c with add := c.add + 1 } :=
  ⟨by rw [World.cell?_setCell_same (h := h.c0)]; simp, by rw [World.cell?_setCell_other _ _ _ _ (by simp)]; exact h.c1, by rw [World.cell?_setCell_other _ _ _ _ (by simp)]; exact h.c2, by rw [World.cell?_setCell_other _ _ _ _ (by simp)]; exact h.c3, by rw [World.cell?_setCell_other _ _ _ _ (by simp)]; exact h.c4, fun k hk => by rw [World.frozen?_setCell]; exact h.fr k hk⟩
theorem CnAt.s1 {w : World} {g : Nat} {c : Cn} (h : CnAt w g c) : CnAt (w.setCell ⟨g, 1, none⟩ (.int .i64 ((c.same : Int) + 1))) g { c with same := c.same + 1 } :=
  ⟨by rw [World.cell?_setCell_other _ _ _ _ (by simp)]; exact h.c0, by rw [World.cell?_setCell_same (h := h.c1)]; simp, by rw [World.cell?_setCell_other _ _ _ _ (by simp)]; exact h.c2, by rw [World.cell?_setCell_other _ _ _ _ (by simp)]; exact h.c3, by rw [World.cell?_setCell_other _ _ _ _ (by simp)]; exact h.c4, fun k hk => by rw [World.frozen?_setCell]; exact h.fr k hk⟩
theorem CnAt.s2 {w : World} {g : Nat} {c : Cn} (h : CnAt w g c) : CnAt (w.setCell ⟨g, 2, none⟩ (.int .i64 ((c.other : Int) + 1))) g { c with other := c.other + 1 } :=
  ⟨by rw [World.cell?_setCell_other _ _ _ _ (by simp)]; exact h.c0, by rw [World.cell?_setCell_other _ _ _ _ (by simp)]; exact h.c1, by rw [World.cell?_setCell_same (h := h.c2)]; simp, by rw [World.cell?_setCell_other _ _ _ _ (by simp)]; exact h.c3, by rw [World.cell?_setCell_other _ _ _ _ (by simp)]; exact h.c4, fun k hk => by rw [World.frozen?_setCell]; exact h.fr k hk⟩
theorem CnAt.s3 {w : World} {g : Nat} {c : Cn} (h : CnAt w g c) : CnAt (w.setCell ⟨g, 3, none⟩ (.int .i64 ((c.cyc : Int) + 1))) g { c with cyc := c.cyc + 1 } :=
  ⟨by rw [World.cell?_setCell_other _ _ _ _ (by simp)]; exact h.c0, by rw [World.cell?_setCell_other _ _ _ _ (by simp)]; exact h.c1, by rw [World.cell?_setCell_other _ _ _ _ (by simp)]; exact h.c2, by rw [World.cell?_setCell_same (h := h.c3)]; simp, by rw [World.cell?_setCell_other _ _ _ _ (by simp)]; exact h.c4, fun k hk => by rw [World.frozen?_setCell]; exact h.fr k hk⟩
theorem CnAt.s4 {w : World} {g : Nat} {c : Cn} (h : CnAt w g c) : CnAt (w.setCell ⟨g, 4, none⟩ (.int .i64 ((c.full : Int) + 1))) g { c with full := c.full + 1 } :=
  ⟨by rw [World.cell?_setCell_other _ _ _ _ (by simp)]; exact h.c0, by rw [World.cell?_setCell_other _ _ _ _ (by simp)]; exact h.c1, by rw [World.cell?_setCell_other _ _ _ _ (by simp)]; exact h.c2, by rw [World.cell?_setCell_other _ _ _ _ (by simp)]; exact h.c3, by rw [World.cell?_setCell_same (h := h.c4)]; simp, fun k hk => by rw [World.frozen?_setCell]; exact h.fr k hk⟩
theorem CnAt.below {w w' : World} {g : Nat} {c : Cn} (h : CnAt w g c) (hb : Below w.heap.size w w') : CnAt w' g c :=
  ⟨(hb.cell (lt_of_cell h.c0)).trans h.c0, (hb.cell (lt_of_cell h.c1)).trans h.c1, (hb.cell (lt_of_cell h.c2)).trans h.c2, (hb.cell (lt_of_cell h.c3)).trans h.c3, (hb.cell (lt_of_cell h.c4)).trans h.c4, fun k hk => (hb.frozen (p := ⟨g, k, none⟩) (show g < w.heap.size from lt_of_cell h.c0)).trans (h.fr k hk)⟩
theorem CnAt.grown {w w' : World} {g : Nat} {c : Cn} {row : Option Nat} (h : CnAt w g c) (hg : w.grownBy w' row) (hne : row ≠ some g) : CnAt w' g c :=
  have hb : w'.heap[g]? = w.heap[g]? := hg.block g (lt_of_cell h.c0) (fun e => hne e.symm)
  ⟨(World.cell?_of_block hb).trans h.c0, (World.cell?_of_block hb).trans h.c1, (World.cell?_of_block hb).trans h.c2, (World.cell?_of_block hb).trans h.c3, (World.cell?_of_block hb).trans h.c4, fun k hk => (World.frozen?_of_block (a := ⟨g, k, none⟩) hb).trans (h.fr k hk)⟩
theorem Chg.belowed {a b c : World} {S : Nat → Prop} (h : Chg a b S) (h' : Below b.heap.size b c) : Chg a c S := h.trans (Chg.of_below h' (fun _ => False)) (fun k e => e.elim)
theorem put_fin {w X : World} {b gc i : Nat} {L : List Sp} {D : DataW Value} (h : BagIs X b L D ∧ Chg w X fun k => k = b ∨ k = gc) (hne : gc ≠ b) (v : Value) (o : Obj) : BagIs ((X.setCell ⟨gc, i, none⟩ v).alloc o) b L D ∧ Chg w ((X.setCell ⟨gc, i, none⟩ v).alloc o) fun k => k = b ∨ k = gc :=
  ⟨(h.1.grown (grown_set X gc i v) (fun e => hne (by injection e))).grown (World.grownBy_alloc _ o none) (by simp), (h.2.set v (.inl (.inr rfl))).alloc o⟩

/-- A span put into a bag, and counted. -/
noncomputable def putP (L : List Sp) (c : Cn) (x : Sp) : List Sp × Cn := match fnd L x.i with
  | some o => if o = x then (L, { c with same := c.same + 1 }) else (L, { c with other := c.other + 1 })
  | none => if 64 ≤ L.length then (L, { c with full := c.full + 1 }) else if ring L x.i x.p = true then (L, { c with cyc := c.cyc + 1 }) else (L ++ [x], { c with add := c.add + 1 })

set_option maxRecDepth 200000 in
set_option maxHeartbeats 1000000 in
theorem put_any {w : World} {b : Nat} {L : List Sp} {D : DataW Value} {x : Sp} {gc : Nat} {c : Cn} (h : BagIs w b L D) (hr : NoRing L) (hw : ∀ x ∈ L, (Lit.int .i64 x.p).wf = true) (hxi : (Lit.int .i64 x.i).wf = true) (hxp : (Lit.int .i64 x.p).wf = true) (hL : L.length ≤ 64) (hc : CnAt w gc c) (hcs : c.sum ≤ 1000000) (hne : gc ≠ b) :
    Calls Tryz.prog 92 #[.map (some b), spV x, .pointer (some ⟨gc, 0, none⟩)] w fun e w' => e = .returned (.tuple #[]) ∧ (∃ D', BagIs w' b (putP L c x).1 D') ∧ CnAt w' gc (putP L c x).2 ∧ Chg w w' (fun k => k = b ∨ k = gc) := by
  obtain ⟨r, hr⟩ := hr
  have HR := hide hr
  have HW := hide hw
  have hnew := spAt_new w x
  have hu0 := sp_eql ((fnd L x.i).getD sp0) x
  obtain ⟨t, i, p, s, e, nm⟩ := x
  obtain ⟨na, ns, no, ny, nf⟩ := c
  unfold Cn.sum at hcs
  unfold spV at *
  unfold spC at *
  dsimp only at *
  obtain ⟨X, hX⟩ : ∃ X, w.alloc (.cells #[.int .i64 t, .int .i64 i, .int .i64 p, .int .i64 s, .int .i64 e, .string nm] 38) = X := ⟨_, rfl⟩
  have hb1 : BagIs X b L D := by rw [← hX]; exact h.grown (World.grownBy_alloc w _ none) (by simp)
  have hchg : Chg w X (fun k => k = b ∨ k = gc) := by rw [← hX]; exact (Chg.refl w _).alloc _
  rw [hX] at hnew
  have l1 := (hb1.look hxi 0).1
  obtain ⟨u, hu⟩ : ∃ u, (fnd L i).getD sp0 = u := ⟨_, rfl⟩
  obtain ⟨th, hth⟩ : ∃ th, (fnd L i).isSome = th := ⟨_, rfl⟩
  rw [hu] at hu0
  rw [hu, hth] at l1
  have l1' : (Instr.lookup 103 (.map (some b)) (.int .i64 i) true).run Tryz.prog X = .ok (.tuple #[spV u, .bool th]) X := l1
  obtain ⟨c0, c1, c2, c3, c4, c5⟩ := hnew.z
  dsimp only at c0 c1 c2 c3 c4 c5
  have hcX : CnAt X gc ⟨na, ns, no, ny, nf⟩ := by
    rw [← hX]
    exact ⟨Lib.cell?_alloc_some _ hc.c0, Lib.cell?_alloc_some _ hc.c1, Lib.cell?_alloc_some _ hc.c2, Lib.cell?_alloc_some _ hc.c3, Lib.cell?_alloc_some _ hc.c4, fun k hk => by rw [World.frozen?_alloc_past _ _ _ (lt_of_cell hc.c0)]; exact hc.fr k hk⟩
  unfold spV at l1'
  have hgX : gc < X.heap.size := lt_of_cell hcX.c0
  have hgn : gc ≠ X.heap.size := by omega
  have hwX : w.heap.size < X.heap.size := hnew.lt
  have hwn : w.heap.size ≠ X.heap.size := by omega
  have HX := hide (And.intro hb1 hchg)
  have HC := hide hcX
  obtain ⟨k0, k1, k2, k3, k4, kf⟩ := hcX
  have kf0 := kf 0 (by omega)
  have kf1 := kf 1 (by omega)
  have kf2 := kf 2 (by omega)
  have kf3 := kf 3 (by omega)
  have kf4 := kf 4 (by omega)
  dsimp only at k0 k1 k2 k3 k4
  have hna : (na : Int) ≤ 1000000 := by omega
  have hns : (ns : Int) ≤ 1000000 := by omega
  have hno : (no : Int) ≤ 1000000 := by omega
  have hny : (ny : Int) ≤ 1000000 := by omega
  have hnf : (nf : Int) ≤ 1000000 := by omega
  have HNE := hide hne
  have HN := hide hnew
  clear kf hb1 hchg h hc hcs l1 hw hr hu0 hne hnew
  go_enter Tryz.func92, Tryz.ntmps92
  cases th
  · have hf : fnd L i = none := by simpa using hth
    rw [hf, Option.getD_none] at hu
    subst hu
    unfold sp0 at *
    dsimp only at *
    obtain ⟨Z, hZ⟩ : ∃ Z, X.alloc (.cells #[.int .i64 0, .int .i64 0, .int .i64 0, .int .i64 0, .int .i64 0, .string ByteArray.empty] 38) = Z := ⟨_, rfl⟩
    have hbz : BagIs Z b L D := by rw [← hZ]; exact HX.out.1.grown (World.grownBy_alloc X _ none) (by simp)
    have hcz : Chg w Z (fun k => k = b ∨ k = gc) := by rw [← hZ]; exact HX.out.2.alloc _
    have hnz : CnAt Z gc ⟨na, ns, no, ny, nf⟩ := by rw [← hZ]; exact HC.out.alloc _
    have hxz : SpAt Z w.heap.size 0 ⟨t, i, p, s, e, nm⟩ := by rw [← hZ]; exact HN.out.grown (World.grownBy_alloc X _ none) (by simp)
    have hlen := hbz.map.len Tryz.underlying103 3
    rw [hbz.size] at hlen
    obtain ⟨z0, z1, z2, z3, z4, zf⟩ := hnz
    have zf0 := zf 0 (by omega)
    have zf1 := zf 1 (by omega)
    have zf2 := zf 2 (by omega)
    have zf3 := zf 3 (by omega)
    have zf4 := zf 4 (by omega)
    dsimp only at z0 z1 z2 z3 z4
    obtain ⟨y0, y1, y2, y3, y4, y5⟩ := hxz.z
    dsimp only at y0 y1 y2 y3 y4 y5
    have HZ := hide (And.intro hbz (And.intro hcz hxz))
    have HCZ : Hid (CnAt Z gc ⟨na, ns, no, ny, nf⟩) := hide ⟨z0, z1, z2, z3, z4, zf⟩
    clear zf hbz hcz hxz
    by_cases h64 : (64 : Int) ≤ (L.length : Int)
    · have hres : putP L ⟨na, ns, no, ny, nf⟩ ⟨t, i, p, s, e, nm⟩ = (L, ⟨na, ns, no, ny, nf + 1⟩) := by
        unfold putP
        simp only [hf, if_pos (show 64 ≤ L.length by omega)]
      have HRES := hide hres
      clear hres hf hth
      go_wp2
      go_end0
      refine ⟨rfl, ?_⟩
      rw [HRES.out]
      exact ⟨⟨_, HZ.out.1.grown (grown_set Z gc 4 _) (fun e => HNE.out (by injection e))⟩, HCZ.out.s4, HZ.out.2.1.set _ (.inl (.inr rfl))⟩
    · have hrg : ring L i p = ups L r i p := (ups_ring HR.out i p).symm
      have hcall := above_any HZ.out.1 HR.out HW.out (x := ⟨t, i, p, s, e, nm⟩) hxp
      unfold spV at hcall
      dsimp only at hcall
      rw [← hrg] at hcall
      clear hrg
      cases hri : ring L i p
      · have hres : putP L ⟨na, ns, no, ny, nf⟩ ⟨t, i, p, s, e, nm⟩ = (L ++ [⟨t, i, p, s, e, nm⟩], ⟨na + 1, ns, no, ny, nf⟩) := by
          unfold putP
          simp only [hf, if_neg (show ¬ 64 ≤ L.length by omega), hri]
          simp
        have HRES := hide hres
        have HF := hide hf
        rw [hri] at hcall
        clear hres hf hth hri
        go_wp2_with fail
        refine hcall.mono ?_
        rintro e1 w1 ⟨rfl, hb1⟩
        have hx1 := HZ.out.2.2.below hb1
        obtain ⟨j0, j1, j2, j3, j4, j5⟩ := hx1.z
        dsimp only at j0 j1 j2 j3 j4 j5
        obtain ⟨w2, hrun, hg2, hbag2⟩ := (HZ.out.1.below hb1).store (x := ⟨t, i, p, s, e, nm⟩) hxi HF.out (by simp [maxLen]; omega)
        have hn2 := (HCZ.out.below hb1).grown hg2 (fun e => HNE.out (by injection e with e; exact e.symm))
        obtain ⟨v0, v1, v2, v3, v4, vf⟩ := hn2
        have vf0 := vf 0 (by omega)
        dsimp only at v0
        have HN2 : Hid (CnAt w2 gc ⟨na, ns, no, ny, nf⟩) := hide ⟨v0, v1, v2, v3, v4, vf⟩
        have HBG := hide hbag2
        have HCG : Hid (Chg w w2 (fun k => k = b ∨ k = gc)) := hide ((HZ.out.2.1.belowed hb1).trans (Chg.of_grown hg2 (fun k => k = b ∨ k = gc) (fun k e => by injection e with e; exact .inl (.inl e.symm))) (fun k hk => .inl hk))
        unfold spV at hrun
        dsimp only at hrun
        clear vf hb1 hx1 hg2 hbag2
        go_wp2
        go_end0
        refine ⟨rfl, ?_⟩
        rw [HRES.out]
        exact ⟨⟨_, HBG.out.grown (grown_set w2 gc 0 _) (fun e => HNE.out (by injection e))⟩, HN2.out.s0, HCG.out.set _ (.inl (.inr rfl))⟩
      · have hres : putP L ⟨na, ns, no, ny, nf⟩ ⟨t, i, p, s, e, nm⟩ = (L, ⟨na, ns, no, ny + 1, nf⟩) := by
          unfold putP
          simp only [hf, if_neg (show ¬ 64 ≤ L.length by omega), hri, if_true]
        have HRES := hide hres
        rw [hri] at hcall
        clear hres hf hth hri
        go_wp2_with fail
        refine hcall.mono ?_
        rintro e1 w1 ⟨rfl, hb1⟩
        have hn1 := HCZ.out.below hb1
        obtain ⟨v0, v1, v2, v3, v4, vf⟩ := hn1
        have vf3 := vf 3 (by omega)
        dsimp only at v3
        have HN1 : Hid (CnAt w1 gc ⟨na, ns, no, ny, nf⟩) := hide ⟨v0, v1, v2, v3, v4, vf⟩
        have HB1 := hide hb1
        clear vf hb1
        go_wp2
        go_end0
        refine ⟨rfl, ?_⟩
        rw [HRES.out]
        exact ⟨⟨_, (HZ.out.1.below HB1.out).grown (grown_set w1 gc 3 _) (fun e => HNE.out (by injection e))⟩, HN1.out.s3, (HZ.out.2.1.belowed HB1.out).set _ (.inl (.inr rfl))⟩
  · obtain ⟨o, hf⟩ : ∃ o, fnd L i = some o := Option.isSome_iff_exists.1 hth
    rw [hf, Option.getD_some] at hu
    subst hu
    by_cases hux : o = ⟨t, i, p, s, e, nm⟩
    · have hres : putP L ⟨na, ns, no, ny, nf⟩ ⟨t, i, p, s, e, nm⟩ = (L, ⟨na, ns + 1, no, ny, nf⟩) := by
        unfold putP
        simp only [hf, if_pos hux]
      have HRES := hide hres
      subst hux
      clear hres hf hth
      go_wp2
      go_end0
      refine ⟨rfl, ?_⟩
      rw [HRES.out]
      exact ⟨⟨_, (put_fin HX.out HNE.out _ _).1⟩, (HC.out.s1).alloc _, (put_fin HX.out HNE.out _ _).2⟩
    · have hres : putP L ⟨na, ns, no, ny, nf⟩ ⟨t, i, p, s, e, nm⟩ = (L, ⟨na, ns, no + 1, ny, nf⟩) := by
        unfold putP
        simp only [hf, if_neg hux]
      have HRES := hide hres
      have hoi := (fnd_mem hf).2
      obtain ⟨t', i', p', s', e', nm'⟩ := o
      dsimp only at *
      subst hoi
      have hbe : t' ≠ t ∨ (t' = t ∧ p' ≠ p) ∨ (t' = t ∧ p' = p ∧ s' ≠ s) ∨ (t' = t ∧ p' = p ∧ s' = s ∧ e' ≠ e) ∨ (t' = t ∧ p' = p ∧ s' = s ∧ e' = e ∧ nm'.toList ≠ nm.toList) := by
        have hb := sp_beq ⟨t', i', p', s', e', nm'⟩ ⟨t, i', p, s, e, nm⟩
        rw [decide_eq_false hux] at hb
        by_cases h1 : t' = t
        · by_cases h2 : p' = p
          · by_cases h3 : s' = s
            · by_cases h4 : e' = e
              · refine .inr (.inr (.inr (.inr ⟨h1, h2, h3, h4, fun h5 => ?_⟩)))
                simp [h1, h2, h3, h4, h5] at hb
              · exact .inr (.inr (.inr (.inl ⟨h1, h2, h3, h4⟩)))
            · exact .inr (.inr (.inl ⟨h1, h2, h3⟩))
          · exact .inr (.inl ⟨h1, h2⟩)
        · exact .inl h1
      clear hres hf hth hux
      rcases hbe with h1 | ⟨rfl, h1⟩ | ⟨rfl, rfl, h1⟩ | ⟨rfl, rfl, rfl, h1⟩ | ⟨rfl, rfl, rfl, rfl, h1⟩
      all_goals
        go_wp2
        go_end0
        refine ⟨rfl, ?_⟩
        rw [HRES.out]
        exact ⟨⟨_, (put_fin HX.out HNE.out _ _).1⟩, (HC.out.s2).alloc _, (put_fin HX.out HNE.out _ _).2⟩
end Go.Proofs.YtimjplkehlgelaaGreat
