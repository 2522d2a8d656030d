/- Ingest. -/
import Derived.Test.YtimjplkehlgelaaGreatSoPut
namespace Go.Proofs.YtimjplkehlgelaaGreat
set_option linter.unusedVariables false
set_option linter.unusedSimpArgs false
open Go.RowKit

section
variable {w w' : World} {gs bm : Nat} {R R' : List Tr}
theorem SoTo.sets {w2 : World} {S' : List Pl} {r : Nat} (h : SoTo w w' gs bm R R' S') (hc : Chg w' w2 fun k => k = r) (hr : ¬ SoS gs bm R' r) (hw : w.heap.size ≤ r) : SoTo w w2 gs bm R R' S' :=
  ⟨h.is.chg hc fun k hk e => hr (e ▸ hk), h.pl, h.chg.trans hc fun k hk => .inr (hk ▸ hw), h.new⟩
theorem CnAt.keep (h : SoIs w gs bm R) (hc : Chg w w' (SoM bm R)) {g : Nat} {c : Cn} (hn : CnAt w g c) : CnAt w' g c :=
  have hb : w'.heap[g]? = w.heap[g]? := hc.block g (lt_of_cell hn.c0) (h.ne_cell hn.c0)
  ⟨(World.cell?_of_block hb).trans hn.c0, (World.cell?_of_block hb).trans hn.c1, (World.cell?_of_block hb).trans hn.c2, (World.cell?_of_block hb).trans hn.c3, (World.cell?_of_block hb).trans hn.c4, fun k hk => (World.frozen?_of_block (a := ⟨g, k, none⟩) hb).trans (hn.fr k hk)⟩
theorem row_keep (h : SoIs w gs bm R) (hc : Chg w w' (SoM bm R)) {g : Nat} {cs : Array Value} {ty : TypeId} {m : Nat × Nat} (hr : w.heap[g]? = some (.cells cs ty m)) {u : Value} (hu : w.cell? ⟨g, 0, none⟩ = some u) : w'.heap[g]? = some (.cells cs ty m) :=
  (hc.block g (Array.getElem?_eq_some_iff.1 hr).1 (h.ne_cell hu)).trans hr
theorem CnAt.p0 {g : Nat} {c : Cn} (h : CnAt w g c) (n : Nat) : CnAt (w.setCell ⟨g, 0, none⟩ (.int .i64 (n : Nat))) g { c with add := n } :=
  ⟨by rw [World.cell?_setCell_same (h := h.c0)], by rw [World.cell?_setCell_other _ _ _ _ (by simp)]; exact h.c1, by rw [World.cell?_setCell_other _ _ _ _ (by simp)]; exact h.c2, by rw [World.cell?_setCell_other _ _ _ _ (by simp)]; exact h.c3, by rw [World.cell?_setCell_other _ _ _ _ (by simp)]; exact h.c4, fun k hk => by rw [World.frozen?_setCell]; exact h.fr k hk⟩
theorem CnAt.p1 {g : Nat} {c : Cn} (h : CnAt w g c) (n : Nat) : CnAt (w.setCell ⟨g, 1, none⟩ (.int .i64 (n : Nat))) g { c with same := n } :=
  ⟨by rw [World.cell?_setCell_other _ _ _ _ (by simp)]; exact h.c0, by rw [World.cell?_setCell_same (h := h.c1)], by rw [World.cell?_setCell_other _ _ _ _ (by simp)]; exact h.c2, by rw [World.cell?_setCell_other _ _ _ _ (by simp)]; exact h.c3, by rw [World.cell?_setCell_other _ _ _ _ (by simp)]; exact h.c4, fun k hk => by rw [World.frozen?_setCell]; exact h.fr k hk⟩
theorem CnAt.p2 {g : Nat} {c : Cn} (h : CnAt w g c) (n : Nat) : CnAt (w.setCell ⟨g, 2, none⟩ (.int .i64 (n : Nat))) g { c with other := n } :=
  ⟨by rw [World.cell?_setCell_other _ _ _ _ (by simp)]; exact h.c0, by rw [World.cell?_setCell_other _ _ _ _ (by simp)]; exact h.c1, by rw [World.cell?_setCell_same (h := h.c2)], by rw [World.cell?_setCell_other _ _ _ _ (by simp)]; exact h.c3, by rw [World.cell?_setCell_other _ _ _ _ (by simp)]; exact h.c4, fun k hk => by rw [World.frozen?_setCell]; exact h.fr k hk⟩
theorem CnAt.p3 {g : Nat} {c : Cn} (h : CnAt w g c) (n : Nat) : CnAt (w.setCell ⟨g, 3, none⟩ (.int .i64 (n : Nat))) g { c with cyc := n } :=
  ⟨by rw [World.cell?_setCell_other _ _ _ _ (by simp)]; exact h.c0, by rw [World.cell?_setCell_other _ _ _ _ (by simp)]; exact h.c1, by rw [World.cell?_setCell_other _ _ _ _ (by simp)]; exact h.c2, by rw [World.cell?_setCell_same (h := h.c3)], by rw [World.cell?_setCell_other _ _ _ _ (by simp)]; exact h.c4, fun k hk => by rw [World.frozen?_setCell]; exact h.fr k hk⟩
theorem CnAt.p4 {g : Nat} {c : Cn} (h : CnAt w g c) (n : Nat) : CnAt (w.setCell ⟨g, 4, none⟩ (.int .i64 (n : Nat))) g { c with full := n } :=
  ⟨by rw [World.cell?_setCell_other _ _ _ _ (by simp)]; exact h.c0, by rw [World.cell?_setCell_other _ _ _ _ (by simp)]; exact h.c1, by rw [World.cell?_setCell_other _ _ _ _ (by simp)]; exact h.c2, by rw [World.cell?_setCell_other _ _ _ _ (by simp)]; exact h.c3, by rw [World.cell?_setCell_same (h := h.c4)], fun k hk => by rw [World.frozen?_setCell]; exact h.fr k hk⟩
theorem CnAt.set5 {g : Nat} {c : Cn} (h : CnAt w g c) (d : Cn) : CnAt (((((w.setCell ⟨g, 0, none⟩ (.int .i64 (d.add : Nat))).setCell ⟨g, 1, none⟩ (.int .i64 (d.same : Nat))).setCell ⟨g, 2, none⟩ (.int .i64 (d.other : Nat))).setCell ⟨g, 3, none⟩ (.int .i64 (d.cyc : Nat))).setCell ⟨g, 4, none⟩ (.int .i64 (d.full : Nat))) g d := ((((h.p0 d.add).p1 d.same).p2 d.other).p3 d.cyc).p4 d.full
theorem Sps.keep {v : Value} {l : List Sp} (hv : Sps w v l) (h : SoIs w gs bm R) (hc : Chg w w' (SoM bm R)) : Sps w' v l := hv.chg hc fun g i u hu => h.ne_cell hu
end
/-- What Ingest says. -/
def IngPost (w : World) (gs bm : Nat) (R : List Tr) (l : List Sp) (e : Ending) (w' : World) : Prop := e = .returned (.tuple #[cnV (ingC (R.map Tr.pl) l), .int .i64 (ingE l)]) ∧ ∃ R', SoTo w w' gs bm R R' (ingS (R.map Tr.pl) l)
set_option maxRecDepth 200000 in
set_option maxHeartbeats 4000000 in
theorem singest_any {w : World} {gs bm : Nat} {R : List Tr} {l : List Sp} {v : Value} (h : SoIs w gs bm R) (hv : Sps w v l) (hl : l.length ≤ 100000) (hnm : ∀ x ∈ l, x.n.size ≤ 1000000) :
    Calls Tryz.prog 15 #[.pointer (some ⟨gs, 0, none⟩), v] w (IngPost w gs bm R l) := by
  obtain ⟨p, n, c, rfl⟩ := hv.sl
  have hn := hv.len.1
  have hn1 : n ≤ 100000 := by omega
  have hB0 := (Below.refl w.heap.size w).alloc (Nat.le_refl _) (.cells #[.int .i64 0, .int .i64 0, .int .i64 0, .int .i64 0, .int .i64 0] 40)
  have hrow := heap_alloc_new w (.cells #[.int .i64 0, .int .i64 0, .int .i64 0, .int .i64 0, .int .i64 0] 40)
  have HMD := hide (smade_any (h.below hB0).c0)
  have HV := hide hv
  have HN := hide hn
  have HNM := hide hnm
  have HF := hide h
  have HB0 := hide hB0
  have HROW := hide hrow
  clear hv hn hnm h hB0 hrow hl
  go_enter Tryz.func15, Tryz.ntmps15
  go_wp2_with fail
  refine HMD.out.mono ?_
  rintro e1 w1 ⟨rfl, q0, rfl⟩
  obtain ⟨X, hX⟩ : ∃ X, (w.alloc (.cells #[.int .i64 0, .int .i64 0, .int .i64 0, .int .i64 0, .int .i64 0] 40)).drewN q0 = X := ⟨_, rfl⟩
  have HB1 : Hid (Below w.heap.size w X) := hide (by rw [← hX]; exact HB0.out.trans (bdrew _ q0))
  have HROW1 : Hid (X.heap[w.heap.size]? = some (.cells #[.int .i64 0, .int .i64 0, .int .i64 0, .int .i64 0, .int .i64 0] 40)) := hide (by rw [← hX]; exact HROW.out)
  have hXs : X.heap.size = w.heap.size + 1 := by rw [← hX]; simp
  have HXS := hide hXs
  rw [hX]
  clear hX hXs HB0 HROW HMD
  go_wp2_with fail
  go_loopw [7, 8, 18] (fun _ _ ix wr => ∃ k : Nat, k ≤ n ∧ ix = .int .i64 k ∧ Hid (Below X.heap.size X wr ∧ (l.take k).all Sp.ok = true)) (fun _ _ ix _ => n - (intOf ix).toNat)
  case atStart => exact ⟨0, by omega, rfl, hide ⟨Below.refl _ _, rfl⟩⟩
  case round =>
    obtain ⟨k, hk, rfl, HR⟩ := hrel
    by_cases hlt : (k : Int) < (n : Int)
    · obtain ⟨gv, ov, rfl, hx⟩ := HV.out.at_ (by omega)
      obtain ⟨x, hxk⟩ : ∃ x, l[k]? = some x := ⟨_, List.getElem?_eq_getElem (by have := HN.out; omega)⟩
      have hbw : Below w.heap.size w wr := HB1.out.trans (HR.out.1.mono (by have := HXS.out; omega))
      have hat := (hx k x hxk).below hbw
      obtain ⟨oo, hoo⟩ : ∃ oo, ov + k * 6 = oo := ⟨_, rfl⟩
      rw [hoo] at hat
      have z0 := hat.c0
      have z1 := hat.c1
      have z2 := hat.c2
      have z3 := hat.c3
      have z4 := hat.c4
      have z5 := hat.c5
      have HCK := hide (check_any x (HNM.out x (List.mem_of_getElem? hxk)))
      have hnew := spAt_new wr x
      obtain ⟨Y, hY⟩ : ∃ Y, wr.alloc (.cells #[.int .i64 x.t, .int .i64 x.i, .int .i64 x.p, .int .i64 x.s, .int .i64 x.e, .string x.n] 38) = Y := ⟨_, rfl⟩
      have hbY : Below wr.heap.size wr Y := by rw [← hY]; exact (Below.refl _ _).alloc (Nat.le_refl _) _
      rw [hY] at hnew
      obtain ⟨y0, y1, y2, y3, y4, y5⟩ := hnew.z
      have HYD := hide hY
      have HXK := hide hxk
      have HBY : Hid (Below X.heap.size X Y) := hide (HR.out.1.trans (hbY.mono HR.out.1.size))
      clear hx hxk hat hnew hbY hY hbw
      obtain ⟨t, i, p', s, en, nm⟩ := x
      dsimp only at *
      unfold spV at *
      dsimp only at *
      go_wp2_with fail
      rw [HYD.out]
      refine (HCK.out _).mono ?_
      rintro e7 w7 ⟨rfl, hb7⟩
      have HB7 : Hid (Below X.heap.size X w7) := hide (HBY.out.trans (hb7.mono HBY.out.size))
      clear hb7 HCK
      by_cases hok : Sp.ok ⟨t, i, p', s, en, nm⟩ = true
      · rw [if_pos hok]
        have HOK := hide hok
        clear hok
        go_wp2
        go_roundw
        case rel =>
          refine ⟨k + 1, by omega, by go_num, hide ⟨HB7.out, ?_⟩⟩
          have h1 : l.take (k + 1) = l.take k ++ [⟨t, i, p', s, en, nm⟩] := by rw [List.take_add_one, HXK.out]; rfl
          rw [h1, List.all_append, HR.out.2]
          simp only [List.all_cons, List.all_nil, Bool.and_true, Bool.true_and]
          exact HOK.out
        case measure => simp [intOf]; omega
      · have HBAD : Hid (¬ l.all Sp.ok = true) := hide (fun hall => hok (List.all_eq_true.1 hall _ (List.mem_of_getElem? HXK.out)))
        rw [if_neg hok]
        clear hok
        have hrw : w7.heap[w.heap.size]? = some (.cells #[.int .i64 0, .int .i64 0, .int .i64 0, .int .i64 0, .int .i64 0] 40) := ((HB7.out.block w.heap.size (by have := HXS.out; omega)).trans HROW1.out)
        have hbw9 : Below w.heap.size w w7 := HB1.out.trans (HB7.out.mono (by have := HXS.out; omega))
        have cb0 := cell_of_row w7 w.heap.size 0 _ 40 (0, 0) hrw
        have cbf0 := frozen_of_row w7 w.heap.size 0 _ 40 hrw
        have cb1 := cell_of_row w7 w.heap.size 1 _ 40 (0, 0) hrw
        have cbf1 := frozen_of_row w7 w.heap.size 1 _ 40 hrw
        have cb2 := cell_of_row w7 w.heap.size 2 _ 40 (0, 0) hrw
        have cbf2 := frozen_of_row w7 w.heap.size 2 _ 40 hrw
        have cb3 := cell_of_row w7 w.heap.size 3 _ 40 (0, 0) hrw
        have cbf3 := frozen_of_row w7 w.heap.size 3 _ 40 hrw
        have cb4 := cell_of_row w7 w.heap.size 4 _ 40 (0, 0) hrw
        have cbf4 := frozen_of_row w7 w.heap.size 4 _ 40 hrw
        have HRW := hide hrw
        have HBW9 := hide hbw9
        clear hrw hbw9
        go_wp2
        refine bodyPost_ret (v := .tuple #[cnV cn0, .int .i64 30]) (by
          have q5 := five_set HRW.out (.int .i64 0) (.int .i64 0) (.int .i64 0) (.int .i64 0) (.int .i64 0)
          generalize (((((w7.setCell ⟨w.heap.size, 0, none⟩ (.int .i64 0)).setCell ⟨w.heap.size, 1, none⟩ (.int .i64 0)).setCell ⟨w.heap.size, 2, none⟩ (.int .i64 0)).setCell ⟨w.heap.size, 3, none⟩ (.int .i64 0)).setCell ⟨w.heap.size, 4, none⟩ (.int .i64 0)) = W9 at q5 ⊢
          have m0 := cell_of_row W9 w.heap.size 0 _ 40 (0, 0) q5
          have m1 := cell_of_row W9 w.heap.size 1 _ 40 (0, 0) q5
          have m2 := cell_of_row W9 w.heap.size 2 _ 40 (0, 0) q5
          have m3 := cell_of_row W9 w.heap.size 3 _ 40 (0, 0) q5
          have m4 := cell_of_row W9 w.heap.size 4 _ 40 (0, 0) q5
          have hz9 : w.heap.size < W9.heap.size := by have := (Array.getElem?_eq_some_iff.1 q5).1; exact this
          clear q5
          unfold cnV
          simp at m0 m1 m2 m3 m4
          simp [results, Tryz.results15, go_sem, m0, m1, m2, m3, m4, hz9, cn0]) rfl ⟨by unfold ingC ingE; rw [if_neg HBAD.out, if_neg HBAD.out], R, ?_⟩
        have hc9 := five_chg (Chg.of_below HBW9.out (fun _ => False)) (.inr (Nat.le_refl w.heap.size)) (.int .i64 0) (.int .i64 0) (.int .i64 0) (.int .i64 0) (.int .i64 0)
        rw [ingS, if_neg HBAD.out]
        exact ⟨HF.out.chg hc9 (fun _ _ h => h), rfl, hc9.mono (fun k h => h.elim), fun k hk => .inl hk⟩
    · have hkn : k = n := by omega
      subst hkn
      have hall : l.all Sp.ok = true := by
        have := HR.out.2
        rwa [List.take_of_length_le (by have := HN.out; omega)] at this
      have hwr : Below w.heap.size w wr := HB1.out.trans (HR.out.1.mono (by have := HXS.out; omega))
      have hwrs : w.heap.size < wr.heap.size := by have := HR.out.1.size; have := HXS.out; omega
      have hZ0 : Below wr.heap.size wr (wr.alloc (.cells #[.int .i64 0, .int .i64 0, .int .i64 0, .int .i64 0, .int .i64 0] 40)) := (Below.refl _ _).alloc (Nat.le_refl _) _
      have hcn := cnAt_new wr
      have hZ1 : Below w.heap.size w (wr.alloc (.cells #[.int .i64 0, .int .i64 0, .int .i64 0, .int .i64 0, .int .i64 0] 40)) := hwr.trans (hZ0.mono (by omega))
      have hrowZ : (wr.alloc (.cells #[.int .i64 0, .int .i64 0, .int .i64 0, .int .i64 0, .int .i64 0] 40)).heap[w.heap.size]? = some (.cells #[.int .i64 0, .int .i64 0, .int .i64 0, .int .i64 0, .int .i64 0] 40 (0, 0)) :=
        (hZ0.block w.heap.size hwrs).trans ((HR.out.1.block w.heap.size (by have := HXS.out; omega)).trans HROW1.out)
      have hZs : (wr.alloc (.cells #[.int .i64 0, .int .i64 0, .int .i64 0, .int .i64 0, .int .i64 0] 40)).heap.size = wr.heap.size + 1 := by simp
      have HALL := hide hall
      clear hall hwr hZ0 HR
      go_wp2_with fail
      obtain ⟨Z, hZ⟩ : ∃ Z, wr.alloc (.cells #[.int .i64 0, .int .i64 0, .int .i64 0, .int .i64 0, .int .i64 0] 40) = Z := ⟨_, rfl⟩
      obtain ⟨gc, hgc⟩ : ∃ gc, wr.heap.size = gc := ⟨_, rfl⟩
      rw [hZ] at hcn hZ1 hrowZ hZs
      rw [hgc] at hcn hwrs hZs
      rw [hZ, hgc]
      have HZ := hide (And.intro hcn (And.intro hZ1 (And.intro hrowZ (HF.out.below hZ1))))
      clear hZ hgc hcn hZ1 hrowZ
      go_loopw [11, 31] (fun _ ix wz => ∃ j : Nat, j ≤ k ∧ ix = .int .i64 j ∧ Hid (∃ R', SoTo w wz gs bm R R' (puts (R.map Tr.pl) (l.take j)).1 ∧ (¬ SoS gs bm R' gc ∧ ¬ SoS gs bm R' w.heap.size) ∧ CnAt wz gc (puts (R.map Tr.pl) (l.take j)).2 ∧ wz.heap[w.heap.size]? = some (.cells #[.int .i64 0, .int .i64 0, .int .i64 0, .int .i64 0, .int .i64 0] 40 (0, 0)))) (fun _ ix _ => k - (intOf ix).toNat)
      case atStart => exact ⟨0, by omega, rfl, hide ⟨R, SoTo.of_below HF.out HZ.out.2.1, ⟨fun hk => by have := HF.out.lt _ hk; omega, fun hk => by have := HF.out.lt _ hk; omega⟩, HZ.out.1, HZ.out.2.2.1⟩⟩
      case round =>
        obtain ⟨j, hj, rfl, HR⟩ := hrel
        obtain ⟨R', hto, hnj, hcj, hrj⟩ := HR.out
        by_cases hlt2 : (j : Int) < (k : Int)
        · obtain ⟨gv, ov, rfl, hx⟩ := HV.out.at_ (by omega)
          obtain ⟨x, hxk⟩ : ∃ x, l[j]? = some x := ⟨_, List.getElem?_eq_getElem (by have := HN.out; omega)⟩
          have hat : SpAt wr gv (ov + j * 6) x := fun i u hu => HF.out.keep hto.chg (hx j x hxk i u hu)
          obtain ⟨oo, hoo⟩ : ∃ oo, ov + j * 6 = oo := ⟨_, rfl⟩
          rw [hoo] at hat
          have z0 := hat.c0
          have z1 := hat.c1
          have z2 := hat.c2
          have z3 := hat.c3
          have z4 := hat.c4
          have z5 := hat.c5
          have htk : l.take (j + 1) = l.take j ++ [x] := by rw [List.take_add_one, hxk]; rfl
          have hsum : (puts (R.map Tr.pl) (l.take j)).2.sum ≤ 1000000 := by
            rw [puts_sum, List.length_take]
            omega
          have hxok := List.all_eq_true.1 HALL.out x (List.mem_of_getElem? hxk)
          have hgcw := lt_of_cell hcj.c0
          dsimp only at hgcw
          have hnew := spAt_new wr x
          obtain ⟨Y, hY⟩ : ∃ Y, wr.alloc (.cells #[.int .i64 x.t, .int .i64 x.i, .int .i64 x.p, .int .i64 x.s, .int .i64 x.e, .string x.n] 38) = Y := ⟨_, rfl⟩
          have hbY : Below wr.heap.size wr Y := by rw [← hY]; exact (Below.refl _ _).alloc (Nat.le_refl _) _
          rw [hY] at hnew
          have hcY := hcj.below hbY
          have hrY := (hbY.block w.heap.size (by omega)).trans hrj
          have HTO := hide (hto.below hbY)
          have HNJ := hide hnj
          obtain ⟨C, hC⟩ : ∃ C, (puts (R.map Tr.pl) (l.take j)).2 = C := ⟨_, rfl⟩
          obtain ⟨S, hS⟩ : ∃ S, (puts (R.map Tr.pl) (l.take j)).1 = S := ⟨_, rfl⟩
          rw [hC] at hcY hsum
          rw [hS] at HTO
          have HPU : Hid (∀ V, Below Y.heap.size Y V → Calls Tryz.prog 36 #[.pointer (some ⟨gs, 0, none⟩), spV x] V (SPutPost V gs bm R' x)) := hide fun V hV => sput_any (HTO.out.is.below hV) hxok
          have HSU : Hid (∀ W (C1 : Cn), C1.sum ≤ 1000000 → Calls Tryz.prog 35 #[.agg #[.int .i64 (C.add : Nat), .int .i64 (C.same : Nat), .int .i64 (C.other : Nat), .int .i64 (C.cyc : Nat), .int .i64 (C.full : Nat)], .agg #[.int .i64 (C1.add : Nat), .int .i64 (C1.same : Nat), .int .i64 (C1.other : Nat), .int .i64 (C1.cyc : Nat), .int .i64 (C1.full : Nat)]] W fun e w' => e = .returned (cnV (C.plus C1)) ∧ Below W.heap.size W w') := hide fun W C1 h1 => sum_any W C C1 hsum h1
          obtain ⟨y0, y1, y2, y3, y4, y5⟩ := hnew.z
          have HCY := hide hcY
          obtain ⟨b0, b1, b2, b3, b4, bf⟩ := hcY
          have HYD := hide hY
          have HTK := hide htk
          have HY := hide (And.intro hC (And.intro hS (And.intro hrY (And.intro hnew hsum))))
          clear hx hxk hat htk hsum hxok hnew hY hbY hC hS hrY hto hcj hrj hnj
          obtain ⟨t, i, p', s, en, nm⟩ := x
          dsimp only at *
          unfold spV at *
          dsimp only at *
          go_wp2_with fail
          rw [HYD.out]
          have HR0 : Hid (Y.cell? ⟨w.heap.size, 0, none⟩ = some (.int .i64 0)) := hide (cell_of_row Y w.heap.size 0 _ 40 (0, 0) HY.out.2.2.1)
          go_region_law
            (first
              | (go_simp; go_at_call 36; refine (HPU.out _ (by first | exact Below.refl _ _ | exact bdrew _ 1)).mono ?_; intro e7 w7 hp7; obtain ⟨rfl, R7, h7⟩ := hp7; rw [HTO.out.pl] at h7 ⊢; have H7 : Hid (SoTo w w7 gs bm R R7 (put1 S ⟨t, i, p', s, en, nm⟩).1 ∧ CnAt w7 gc C ∧ w7.heap[w.heap.size]? = some (.cells #[.int .i64 0, .int .i64 0, .int .i64 0, .int .i64 0, .int .i64 0] 40 (0, 0))) := hide (by first | exact ⟨SoTo.trans HF.out HTO.out h7, CnAt.keep HTO.out.is h7.chg HCY.out, row_keep HTO.out.is h7.chg HY.out.2.2.1 HR0.out⟩ | exact ⟨SoTo.trans HF.out (HTO.out.below (bdrew Y 1)) h7, CnAt.keep (HTO.out.is.drewN 1) h7.chg (HCY.out.below (bdrew Y 1)), row_keep (HTO.out.is.drewN 1) h7.chg (show (Y.drewN 1).heap[w.heap.size]? = _ from HY.out.2.2.1) HR0.out⟩); have HN7 : Hid (¬ SoS gs bm R7 gc ∧ ¬ SoS gs bm R7 w.heap.size) := hide (by have hg1 := lt_of_cell HCY.out.c0; have hg2 := (Array.getElem?_eq_some_iff.1 HY.out.2.2.1).1; dsimp only at hg1; exact ⟨fun hk => by (rcases h7.new _ hk with h1 | h1); exact HNJ.out.1 h1; have hg3 : Y.heap.size ≤ gc := h1; omega, fun hk => by (rcases h7.new _ hk with h1 | h1); exact HNJ.out.2 h1; have hg3 : Y.heap.size ≤ w.heap.size := h1; omega⟩); have hn7 := H7.out.2.1; obtain ⟨C1, hC1⟩ : ∃ C1, (put1 S ⟨t, i, p', s, en, nm⟩).2 = C1 := ⟨_, rfl⟩; rw [hC1]; have HC1 := hide hC1; unfold cnV; have n0 := hn7.c0; have nf0 := hn7.fr 0 (by omega); have n1 := hn7.c1; have nf1 := hn7.fr 1 (by omega); have n2 := hn7.c2; have nf2 := hn7.fr 2 (by omega); have n3 := hn7.c3; have nf3 := hn7.fr 3 (by omega); have n4 := hn7.c4; have nf4 := hn7.fr 4 (by omega); clear hn7 h7 hC1)
              | (go_simp; go_at_call 35; refine (HSU.out _ C1 (by rw [← HC1.out, put1_sum]; omega)).mono ?_; rintro e8 w8 ⟨rfl, hb8⟩; have H8 := hide (And.intro (H7.out.1.below (by first | exact hb8 | exact (bdrew w7 1).trans hb8)) (And.intro (H7.out.2.1.below (by first | exact hb8 | exact (bdrew w7 1).trans hb8)) (((show Below w7.heap.size w7 w8 by first | exact hb8 | exact (bdrew w7 1).trans hb8).block w.heap.size (Array.getElem?_eq_some_iff.1 H7.out.2.2).1).trans H7.out.2.2))); have hn8 := H8.out.2.1; unfold cnV Cn.plus; dsimp only; have r0 := hn8.c0; have rf0 := hn8.fr 0 (by omega); have r1 := hn8.c1; have rf1 := hn8.fr 1 (by omega); have r2 := hn8.c2; have rf2 := hn8.fr 2 (by omega); have r3 := hn8.c3; have rf3 := hn8.fr 3 (by omega); have r4 := hn8.c4; have rf4 := hn8.fr 4 (by omega); clear hn8 hb8))
          all_goals
            have hs5 := CnAt.set5 H8.out.2.1 (C.plus C1)
            simp only [Cn.plus, Int.natCast_add] at hs5
            have hc9 := five_chg (Chg.refl w8 (fun k => k = gc)) (.inl rfl) (.int .i64 ((C.add : Int) + C1.add)) (.int .i64 ((C.same : Int) + C1.same)) (.int .i64 ((C.other : Int) + C1.other)) (.int .i64 ((C.cyc : Int) + C1.cyc)) (.int .i64 ((C.full : Int) + C1.full))
            have H9 : Hid (∃ R'', SoTo w ((((((w8.setCell ⟨gc, 0, none⟩ (.int .i64 ((C.add : Int) + C1.add))).setCell ⟨gc, 1, none⟩ (.int .i64 ((C.same : Int) + C1.same))).setCell ⟨gc, 2, none⟩ (.int .i64 ((C.other : Int) + C1.other))).setCell ⟨gc, 3, none⟩ (.int .i64 ((C.cyc : Int) + C1.cyc))).setCell ⟨gc, 4, none⟩ (.int .i64 ((C.full : Int) + C1.full)))) gs bm R R'' (puts (R.map Tr.pl) (l.take (j + 1))).1 ∧ (¬ SoS gs bm R'' gc ∧ ¬ SoS gs bm R'' w.heap.size) ∧ CnAt ((((((w8.setCell ⟨gc, 0, none⟩ (.int .i64 ((C.add : Int) + C1.add))).setCell ⟨gc, 1, none⟩ (.int .i64 ((C.same : Int) + C1.same))).setCell ⟨gc, 2, none⟩ (.int .i64 ((C.other : Int) + C1.other))).setCell ⟨gc, 3, none⟩ (.int .i64 ((C.cyc : Int) + C1.cyc))).setCell ⟨gc, 4, none⟩ (.int .i64 ((C.full : Int) + C1.full)))) gc (puts (R.map Tr.pl) (l.take (j + 1))).2 ∧ ((((((w8.setCell ⟨gc, 0, none⟩ (.int .i64 ((C.add : Int) + C1.add))).setCell ⟨gc, 1, none⟩ (.int .i64 ((C.same : Int) + C1.same))).setCell ⟨gc, 2, none⟩ (.int .i64 ((C.other : Int) + C1.other))).setCell ⟨gc, 3, none⟩ (.int .i64 ((C.cyc : Int) + C1.cyc))).setCell ⟨gc, 4, none⟩ (.int .i64 ((C.full : Int) + C1.full)))).heap[w.heap.size]? = some (.cells #[.int .i64 0, .int .i64 0, .int .i64 0, .int .i64 0, .int .i64 0] 40 (0, 0))) := hide (by
              rw [HTK.out, puts_snoc, HY.out.1, HY.out.2.1]
              dsimp only
              rw [HC1.out]
              refine ⟨R7, SoTo.sets H8.out.1 hc9 HN7.out.1 (by omega), HN7.out, hs5, ?_⟩
              exact (hc9.block w.heap.size (Array.getElem?_eq_some_iff.1 H8.out.2.2).1 (by omega)).trans H8.out.2.2)
            clear hs5 hc9
            go_wp2
            go_roundw
            case rel => exact ⟨j + 1, by omega, by go_num, H9⟩
            case measure => simp [intOf]; omega
        · have hjk : j = k := by omega
          subst hjk
          have htl : l.take j = l := List.take_of_length_le (by have := HN.out; omega)
          rw [htl] at hto hcj
          have HTO := hide (show SoTo w wr gs bm R R' (puts (R.map Tr.pl) l).1 from hto)
          have HNR := hide hnj.2
          obtain ⟨k0, k1, k2, k3, k4, kf⟩ := hcj
          have cb0 := cell_of_row wr w.heap.size 0 _ 40 (0, 0) hrj
          have cbf0 := frozen_of_row wr w.heap.size 0 _ 40 hrj
          have cb1 := cell_of_row wr w.heap.size 1 _ 40 (0, 0) hrj
          have cbf1 := frozen_of_row wr w.heap.size 1 _ 40 hrj
          have cb2 := cell_of_row wr w.heap.size 2 _ 40 (0, 0) hrj
          have cbf2 := frozen_of_row wr w.heap.size 2 _ 40 hrj
          have cb3 := cell_of_row wr w.heap.size 3 _ 40 (0, 0) hrj
          have cbf3 := frozen_of_row wr w.heap.size 3 _ 40 hrj
          have cb4 := cell_of_row wr w.heap.size 4 _ 40 (0, 0) hrj
          have cbf4 := frozen_of_row wr w.heap.size 4 _ 40 hrj
          obtain ⟨C, hC⟩ : ∃ C, (puts (R.map Tr.pl) l).2 = C := ⟨_, rfl⟩
          rw [hC] at k0 k1 k2 k3 k4
          have HC := hide hC
          have HRW := hide hrj
          clear htl HR hrj hnj hto hC
          go_wp2
          refine bodyPost_ret (v := .tuple #[cnV C, .int .i64 0]) (by
            have q5 := five_set HRW.out (.int .i64 (C.add : Nat)) (.int .i64 (C.same : Nat)) (.int .i64 (C.other : Nat)) (.int .i64 (C.cyc : Nat)) (.int .i64 (C.full : Nat))
            generalize (((((wr.setCell ⟨w.heap.size, 0, none⟩ (.int .i64 (C.add : Nat))).setCell ⟨w.heap.size, 1, none⟩ (.int .i64 (C.same : Nat))).setCell ⟨w.heap.size, 2, none⟩ (.int .i64 (C.other : Nat))).setCell ⟨w.heap.size, 3, none⟩ (.int .i64 (C.cyc : Nat))).setCell ⟨w.heap.size, 4, none⟩ (.int .i64 (C.full : Nat))) = W9 at q5 ⊢
            have m0 := cell_of_row W9 w.heap.size 0 _ 40 (0, 0) q5
            have m1 := cell_of_row W9 w.heap.size 1 _ 40 (0, 0) q5
            have m2 := cell_of_row W9 w.heap.size 2 _ 40 (0, 0) q5
            have m3 := cell_of_row W9 w.heap.size 3 _ 40 (0, 0) q5
            have m4 := cell_of_row W9 w.heap.size 4 _ 40 (0, 0) q5
            have hz9 : w.heap.size < W9.heap.size := by have := (Array.getElem?_eq_some_iff.1 q5).1; exact this
            clear q5
            unfold cnV
            simp at m0 m1 m2 m3 m4
            simp [results, Tryz.results15, go_sem, m0, m1, m2, m3, m4, hz9, cn0]) rfl ⟨by unfold ingC ingE; rw [if_pos HALL.out, if_pos HALL.out, HC.out], R', ?_⟩
          have hc9 := five_chg (Chg.refl wr (fun k => k = w.heap.size)) (.inl rfl) (.int .i64 (C.add : Nat)) (.int .i64 (C.same : Nat)) (.int .i64 (C.other : Nat)) (.int .i64 (C.cyc : Nat)) (.int .i64 (C.full : Nat))
          rw [ingS, if_pos HALL.out]
          exact SoTo.sets HTO.out hc9 HNR.out (Nat.le_refl _)
end Go.Proofs.YtimjplkehlgelaaGreat
