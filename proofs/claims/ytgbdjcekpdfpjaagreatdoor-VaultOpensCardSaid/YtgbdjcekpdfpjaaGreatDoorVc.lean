/- Several texts made one. -/
import Derived.Test.YtgbdjcekpdfpjaaGreatDoorVState
import Derived.Test.YtgbdjcekpdfpjaaGreatDoorDc
import Derived.Lib.OwnBridge
set_option linter.unusedVariables false
set_option linter.unusedSimpArgs false
namespace Go.Proofs.YtgbdjcekpdfpjaaGreatDoor
open Go.RowKit
theorem set4_2 {W : World} {g : Nat} {t : TypeId} {a b c d : Value} (x : Value) (h : W.heap[g]? = some (.cells #[a, b, c, d] t (0, 0))) :
  (W.setCell ⟨g, 2, none⟩ x).heap[g]? = some (.cells #[a, b, x, d] t (0, 0)) ∧ Chg W (W.setCell ⟨g, 2, none⟩ x) (fun k => k = g) :=
 ⟨heap_setCell_same W g 2 _ t x h, Chg.of_grown (grown_set _ _ _ _) _ fun k hk => .inl (by injection hk with hk; exact hk.symm)⟩
theorem set4_3 {W : World} {g : Nat} {t : TypeId} {a b c d : Value} (x : Value) (h : W.heap[g]? = some (.cells #[a, b, c, d] t (0, 0))) :
  (W.setCell ⟨g, 3, none⟩ x).heap[g]? = some (.cells #[a, b, c, x] t (0, 0)) ∧ Chg W (W.setCell ⟨g, 3, none⟩ x) (fun k => k = g) :=
 ⟨heap_setCell_same W g 3 _ t x h, Chg.of_grown (grown_set _ _ _ _) _ fun k hk => .inl (by injection hk with hk; exact hk.symm)⟩
def OwP (w : World) (s : Sn) (e : Ending) (w' : World) : Prop := ∃ v', e = .returned v' ∧ SnO w.heap.size w' v' s ∧ Below w.heap.size w w'
set_option maxHeartbeats 2000000 in
theorem own_any {w : World} {v : Value} {s : Sn} (h : SnV w v s) (hv : s.vo.length ≤ 1000000) (hd : s.da.length ≤ 1000000) : Calls Tryz.prog 58 #[v] w (OwP w s) := by
 obtain ⟨vo, da, rfl, hvo, hda, hf⟩ := h
 obtain ⟨pv, nv, cv, rfl⟩ := hvo.sl
 obtain ⟨pd, nd, cd, rfl⟩ := hda.sl
 have HV := hide hvo
 have HD := hide hda
 have HF := hide hf
 clear hvo hda hf
 go_enter Tryz.func58, Tryz.ntmps58
 go_wp2_with fail
 obtain ⟨W0, hW0⟩ : ∃ W0, (w.alloc (.cells #[.int .i64 s.ix, .int .i64 s.tm, .slice pv nv cv, .slice pd nd cd] 42)).alloc (.cells #[.int .i64 0, .int .i64 0, .slice none 0 0, .slice none 0 0] 42) = W0 := ⟨_, rfl⟩
 have hb0 : Below w.heap.size w W0 := by rw [← hW0]; exact balloc (balloc (Below.refl _ _) _) _
 have hs0 : W0.heap.size = w.heap.size + 2 := by rw [← hW0]; simp
 have hr0 : W0.heap[w.heap.size]? = some (.cells #[.int .i64 s.ix, .int .i64 s.tm, .slice pv nv cv, .slice pd nd cd] 42 (0, 0)) := by
  rw [← hW0]
  exact ((balloc (Below.refl (w.alloc (.cells #[.int .i64 s.ix, .int .i64 s.tm, .slice pv nv cv, .slice pd nd cd] 42)).heap.size _) _).block w.heap.size (by simp)).trans Array.getElem?_push_size
 have hr1 : W0.heap[w.heap.size + 1]? = some (.cells #[.int .i64 0, .int .i64 0, .slice none 0 0, .slice none 0 0] 42 (0, 0)) := by
  have e : w.heap.size + 1 = (w.alloc (.cells #[.int .i64 s.ix, .int .i64 s.tm, .slice pv nv cv, .slice pd nd cd] 42)).heap.size := by simp
  rw [← hW0, e]
  exact Array.getElem?_push_size
 rw [hW0]
 clear hW0
 refine (cloneN_any (HV.out.below hb0) (by omega)).mono ?_
 rintro e w1 ⟨v1, rfl, ho1, hb1⟩
 obtain ⟨pv1, nv1, cv1, rfl⟩ := ho1.ns.sl
 have hr0' := (hb1.block w.heap.size (by omega)).trans hr0
 have hr1' := (hb1.block (w.heap.size + 1) (by omega)).trans hr1
 obtain ⟨g0, hg0⟩ : ∃ g0, w.heap.size = g0 := ⟨_, rfl⟩
 obtain ⟨g1, hg1⟩ : ∃ g1, w.heap.size + 1 = g1 := ⟨_, rfl⟩
 have hB01 := hb0.trans (hb1.mono hb0.size)
 have HS := hide (show W0.heap.size = g0 + 2 ∧ g0 + 1 = g1 from ⟨by omega, by omega⟩)
 have HG0 := hide hg0
 have HG1 := hide hg1
 rw [hg1] at hr1' ⊢
 rw [hg0] at hr0' ⊢
 have HO1 := hide ho1
 have HB01 := hide hB01
 have HSZ1 := hide hb1.size
 have z2 : w1.cell? ⟨g0, 2, none⟩ = some (.slice pv nv cv) := by rw [cell_of_row w1 _ 2 _ _ (0, 0) hr0']; rfl
 have z3 : w1.cell? ⟨g0, 3, none⟩ = some (.slice pd nd cd) := by rw [cell_of_row w1 _ 3 _ _ (0, 0) hr0']; rfl
 have u2 := frozen_of_row w1 g0 2 _ _ hr0'
 have u3 := frozen_of_row w1 g0 3 _ _ hr0'
 obtain ⟨hq2, hc2⟩ := set4_2 (.slice pv1 nv1 cv1) hr0'
 have hg01 : g0 < w1.heap.size := (Array.getElem?_eq_some_iff.1 hr0').1
 have hg11 : g1 < w1.heap.size := (Array.getElem?_eq_some_iff.1 hr1').1
 have HQ2 := hide hq2
 have HC2 := hide hc2
 have HB2 := hide (Chg.to_below hB01 hc2 fun k e => by omega)
 have HD2 := hide (HD.out.below HB2.out)
 have HR12 := hide ((hc2.block g1 hg11 (fun e => by have := HS.out; omega)).trans hr1')
 have HO2 := hide (ho1.chg hc2 fun k e => by have := HS.out; omega)
 have HZ2 := hide (show (w1.setCell ⟨g0, 2, none⟩ (.slice pv1 nv1 cv1)).heap.size = w1.heap.size by simp)
 have HGL := hide (And.intro hg01 hg11)
 have HR0 := hide hr0'
 have HR1 := hide hr1'
 clear hb0 hs0 hr0 hr1 ho1 hb1 hr0' hr1' hg0 hg1 hB01 hq2 hc2 hg01 hg11
 go_wp2_with (at_builtin; go_must (refine wpList_append_by rfl _ _ rfl rfl rfl rfl (Own.nil _ _) HD2.out (by simp; omega) (Nat.le_refl _) ?_); intro v3 w3 ho3 _ hb3 _; obtain ⟨pd3, nd3, cd3, rfl⟩ := ho3.by_.sl; have HO3 := hide ho3; have HB3 := hide hb3; have hq3 := (hb3.block g0 (by rw [HZ2.out]; exact HGL.out.1)).trans HQ2.out; have y3 : w3.cell? ⟨g0, 3, none⟩ = some (.slice pd nd cd) := (by rw [cell_of_row w3 _ 3 _ _ (0, 0) hq3]; rfl); have t3 := frozen_of_row w3 g0 3 _ _ hq3; have y0 : w3.cell? ⟨g0, 0, none⟩ = some (.int .i64 s.ix) := (by rw [cell_of_row w3 _ 0 _ _ (0, 0) hq3]; rfl); have y1 : w3.cell? ⟨g0, 1, none⟩ = some (.int .i64 s.tm) := (by rw [cell_of_row w3 _ 1 _ _ (0, 0) hq3]; rfl); have y2 : w3.cell? ⟨g0, 2, none⟩ = some (.slice pv1 nv1 cv1) := (by rw [cell_of_row w3 _ 2 _ _ (0, 0) hq3]; rfl); have HQ3 := hide hq3; have hp3 := (hb3.block g1 (by rw [HZ2.out]; exact HGL.out.2)).trans HR12.out; have HP3 := hide hp3; have z0 : w3.cell? ⟨g1, 0, none⟩ = some (.int .i64 0) := (by rw [cell_of_row w3 _ 0 _ _ (0, 0) hp3]; rfl); have f0 := frozen_of_row w3 g1 0 _ _ hp3; have z1 : w3.cell? ⟨g1, 1, none⟩ = some (.int .i64 0) := (by rw [cell_of_row w3 _ 1 _ _ (0, 0) hp3]; rfl); have f1 := frozen_of_row w3 g1 1 _ _ hp3; have z2 : w3.cell? ⟨g1, 2, none⟩ = some (.slice none 0 0) := (by rw [cell_of_row w3 _ 2 _ _ (0, 0) hp3]; rfl); have f2 := frozen_of_row w3 g1 2 _ _ hp3; have z3 : w3.cell? ⟨g1, 3, none⟩ = some (.slice none 0 0) := (by rw [cell_of_row w3 _ 3 _ _ (0, 0) hp3]; rfl); have f3 := frozen_of_row w3 g1 3 _ _ hp3; have hn1 : g1 ≠ g0 := (by have := HS.out; omega); have hn2 : g0 ≠ g1 := (by have := HS.out; omega); clear ho3 hb3 hq3 hp3)
 obtain ⟨hq4, hc4⟩ := set4_3 (.slice pd3 nd3 cd3) HQ3.out
 obtain ⟨W4, hW4⟩ : ∃ W4, w3.setCell ⟨g0, 3, none⟩ (.slice pd3 nd3 cd3) = W4 := ⟨_, rfl⟩
 rw [hW4] at hq4 hc4
 have hg13 : g1 < w3.heap.size := (Array.getElem?_eq_some_iff.1 HP3.out).1
 have hp4 := (hc4.block g1 hg13 (fun e => by have := HS.out; omega)).trans HP3.out
 have HB3w := hide (HB2.out.trans (HB3.out.mono HB2.out.size))
 have HB4 := hide (Chg.to_below HB3w.out hc4 fun k e => by have := HG0.out; omega)
 have HOA : Hid (SnO W0.heap.size W4 (.agg #[.int .i64 s.ix, .int .i64 s.tm, .slice pv1 nv1 cv1, .slice pd3 nd3 cd3]) s) := hide ⟨_, _, rfl, (HO2.out.below HB3.out).chg hc4 fun k e => by have := HS.out; omega, (HO3.out.chg hc4 fun k e => by have := HZ2.out; have := HGL.out; omega).mono (by have := HSZ1.out; have := HZ2.out; omega), HF.out⟩
 rw [hW4]
 have HP4 := hide hp4
 clear hW4 hq4 hc4 hg13 hp4 z2 z3 u2 u3 y0 y1 y2 y3 t3
 obtain ⟨hq1, hq2⟩ := set4 (.int .i64 s.ix) (.int .i64 s.tm) (.slice pv1 nv1 cv1) (.slice pd3 nd3 cd3) HP4.out
 obtain ⟨F, hF⟩ : ∃ F, ((((W4.setCell ⟨g1, 0, none⟩ (.int .i64 s.ix)).setCell ⟨g1, 1, none⟩ (.int .i64 s.tm)).setCell ⟨g1, 2, none⟩ (.slice pv1 nv1 cv1)).setCell ⟨g1, 3, none⟩ (.slice pd3 nd3 cd3)) = F := ⟨_, rfl⟩
 rw [hF] at hq1 hq2
 have v0 : F.cell? ⟨g1, 0, none⟩ = some (.int .i64 s.ix) := by rw [cell_of_row F _ 0 _ _ (0, 0) hq1]; rfl
 have v1 : F.cell? ⟨g1, 1, none⟩ = some (.int .i64 s.tm) := by rw [cell_of_row F _ 1 _ _ (0, 0) hq1]; rfl
 have v2 : F.cell? ⟨g1, 2, none⟩ = some (.slice pv1 nv1 cv1) := by rw [cell_of_row F _ 2 _ _ (0, 0) hq1]; rfl
 have v3 : F.cell? ⟨g1, 3, none⟩ = some (.slice pd3 nd3 cd3) := by rw [cell_of_row F _ 3 _ _ (0, 0) hq1]; rfl
 have HBF := hide (Chg.to_below HB4.out hq2 (fun k e => by have := HS.out; have := HG0.out; omega))
 have HOF := hide ((HOA.out.chg hq2 fun k e => by have := HS.out; omega).mono (show w.heap.size ≤ W0.heap.size by have := HS.out; have := HG0.out; omega))
 rw [hF]
 refine bodyPost_ret (v := .agg #[.int .i64 s.ix, .int .i64 s.tm, .slice pv1 nv1 cv1, .slice pd3 nd3 cd3]) (by simp [results, Tryz.results58, go_sem, v0, v1, v2, v3]) rfl ?_
 exact ⟨_, rfl, HOF.out, HBF.out⟩
end Go.Proofs.YtgbdjcekpdfpjaaGreatDoor
namespace Go.Proofs.YtgbdjcekpdfpjaaGreatDoor
open Go.RowKit
structure Vt (w : World) (b : Nat) (vo da : Value) (s : Sn) (g : Nat) : Prop where
 row : w.heap[b]? = some (.cells #[.int .i64 s.ix, .int .i64 s.tm, vo, da, .pointer (some ⟨g, 0, none⟩)] 88 (0, 0))
 ns : Ns w vo s.vo
 by_ : By w da s.da
 f0 : Go.Proofs.YtgbdjcekpdfpjaaGreatDoor.fits s.ix
 f1 : Go.Proofs.YtgbdjcekpdfpjaaGreatDoor.fits s.tm
theorem Vt.lt {w : World} {b g : Nat} {vo da : Value} {s : Sn} (h : Vt w b vo da s g) : b < w.heap.size := (Array.getElem?_eq_some_iff.1 h.row).1
theorem Vt.below {w w' : World} {b g : Nat} {vo da : Value} {s : Sn} (h : Vt w b vo da s g) (hb : Below w.heap.size w w') : Vt w' b vo da s g :=
 ⟨(hb.block b h.lt).trans h.row, h.ns.below hb, h.by_.below hb, h.f0, h.f1⟩
theorem Vt.c0 {w : World} {b g : Nat} {vo da : Value} {s : Sn} (h : Vt w b vo da s g) : w.cell? ⟨b, 0, none⟩ = some (.int .i64 s.ix) := by rw [cell_of_row w _ 0 _ _ (0, 0) h.row]; rfl
theorem Vt.c1 {w : World} {b g : Nat} {vo da : Value} {s : Sn} (h : Vt w b vo da s g) : w.cell? ⟨b, 1, none⟩ = some (.int .i64 s.tm) := by rw [cell_of_row w _ 1 _ _ (0, 0) h.row]; rfl
theorem Vt.c2 {w : World} {b g : Nat} {vo da : Value} {s : Sn} (h : Vt w b vo da s g) : w.cell? ⟨b, 2, none⟩ = some vo := by rw [cell_of_row w _ 2 _ _ (0, 0) h.row]; rfl
theorem Vt.c3 {w : World} {b g : Nat} {vo da : Value} {s : Sn} (h : Vt w b vo da s g) : w.cell? ⟨b, 3, none⟩ = some da := by rw [cell_of_row w _ 3 _ _ (0, 0) h.row]; rfl
theorem Vt.c4 {w : World} {b g : Nat} {vo da : Value} {s : Sn} (h : Vt w b vo da s g) : w.cell? ⟨b, 4, none⟩ = some (.pointer (some ⟨g, 0, none⟩)) := by rw [cell_of_row w _ 4 _ _ (0, 0) h.row]; rfl
theorem Vt.st {w : World} {b g : Nat} {vo da : Value} {s : Sn} (h : Vt w b vo da s g) : StAt w b vo da s := ⟨h.c0, h.c1, h.c2, h.c3, h.ns, h.by_, h.f0, h.f1⟩
theorem vmade_any {w : World} {b g : Nat} (h : w.cell? ⟨b, 4, none⟩ = some (.pointer (some ⟨g, 0, none⟩))) : Calls Tryz.prog 57 #[.pointer (some ⟨b, 0, none⟩)] w fun e w' => e = .returned (.bool true) ∧ w' = w := by
 go_enter Tryz.func57, Tryz.ntmps57
 go_wp2
 go_ret
 exact ⟨rfl, rfl⟩
def LastNo (w : World) (e : Ending) (w' : World) : Prop := e = .returned (.tuple #[.agg #[.int .i64 0, .int .i64 0, .slice none 0 0, .slice none 0 0], .bool false]) ∧ Below w.heap.size w w'
def LaP (w : World) (s : Sn) (e : Ending) (w' : World) : Prop := ∃ v, e = .returned (.tuple #[v, .bool true]) ∧ SnO w.heap.size w' v s ∧ Below w.heap.size w w'
set_option maxHeartbeats 2000000 in
theorem vlast_none {w : World} {b g : Nat} {vo da : Value} {s : Sn} (h : Vt w b vo da s g) (h0 : ¬ 0 < s.ix) : Calls Tryz.prog 35 #[.pointer (some ⟨b, 0, none⟩)] w (LastNo w) := by
 have HW := hide (balloc (Below.refl w.heap.size w) (.cells #[.int .i64 0, .int .i64 0, .slice none 0 0, .slice none 0 0] 42))
 have H := hide (h.below HW.out)
 have e1 : decide (0 < s.ix) = false := by simpa using h0
 clear h
 go_enter Tryz.func35, Tryz.ntmps35
 go_wp2_with (first
  | (go_at_call 57; refine (vmade_any H.out.c4).mono ?_; rintro e w1 ⟨rfl, rfl⟩)
  | (go_at_call 61; refine (there_any H.out.c0).mono ?_; rintro e w1 ⟨rfl, rfl⟩))
 refine bodyPost_ret (v := .tuple #[.agg #[.int .i64 0, .int .i64 0, .slice none 0 0, .slice none 0 0], .bool false]) (by simp [results, Tryz.results35, go_sem]) rfl ?_
 exact ⟨rfl, HW.out⟩
set_option maxHeartbeats 2000000 in
theorem vlast_any {w : World} {b g : Nat} {vo da : Value} {s : Sn} (h : Vt w b vo da s g) (h0 : 0 < s.ix) (hv : s.vo.length ≤ 1000000) (hd : s.da.length ≤ 1000000) : Calls Tryz.prog 35 #[.pointer (some ⟨b, 0, none⟩)] w (LaP w s) := by
 obtain ⟨W0, hW0⟩ : ∃ W0, w.alloc (.cells #[.int .i64 0, .int .i64 0, .slice none 0 0, .slice none 0 0] 42) = W0 := ⟨_, rfl⟩
 have hb0 : Below w.heap.size w W0 := by rw [← hW0]; exact balloc (Below.refl _ _) _
 have hs0 : W0.heap.size = w.heap.size + 1 := by rw [← hW0]; simp
 have hr0 : W0.heap[w.heap.size]? = some (.cells #[.int .i64 0, .int .i64 0, .slice none 0 0, .slice none 0 0] 42 (0, 0)) := by rw [← hW0]; exact Array.getElem?_push_size
 have HB0 := hide hb0
 have HS0 := hide hs0
 have HR0 := hide hr0
 have H := hide (h.below hb0)
 have e1 : decide (0 < s.ix) = true := by simpa using h0
 have q0 := H.out.c0
 have q1 := H.out.c1
 have q2 := H.out.c2
 have q3 := H.out.c3
 have HW := hide hW0
 have HOW := hide (own_any (w := W0) (v := .agg #[.int .i64 s.ix, .int .i64 s.tm, vo, da]) (s := s) ⟨vo, da, rfl, H.out.ns, H.out.by_, H.out.f0, H.out.f1⟩ hv hd)
 clear h hb0 hs0 hr0 hW0
 go_enter Tryz.func35, Tryz.ntmps35
 go_wp2_with (first
  | (go_at_call 57; rw [HW.out]; refine (vmade_any H.out.c4).mono ?_; rintro e w1 ⟨rfl, rfl⟩)
  | (go_at_call 61; refine (there_any H.out.c0).mono ?_; rintro e w1 ⟨rfl, rfl⟩))
 refine HOW.out.mono ?_
 rintro e w3 ⟨v3, rfl, ho3, hb3⟩
 obtain ⟨vo3, da3, rfl, h31, h32, h33⟩ := ho3
 obtain ⟨pv, nv, cv, rfl⟩ := h31.ns.sl
 obtain ⟨pd, nd, cd, rfl⟩ := h32.by_.sl
 have hr3 := (hb3.block w.heap.size (by have := HS0.out; omega)).trans HR0.out
 have z0 : w3.cell? ⟨w.heap.size, 0, none⟩ = some (.int .i64 0) := by rw [cell_of_row w3 _ 0 _ _ (0, 0) hr3]; rfl
 have z1 : w3.cell? ⟨w.heap.size, 1, none⟩ = some (.int .i64 0) := by rw [cell_of_row w3 _ 1 _ _ (0, 0) hr3]; rfl
 have z2 : w3.cell? ⟨w.heap.size, 2, none⟩ = some (.slice none 0 0) := by rw [cell_of_row w3 _ 2 _ _ (0, 0) hr3]; rfl
 have z3 : w3.cell? ⟨w.heap.size, 3, none⟩ = some (.slice none 0 0) := by rw [cell_of_row w3 _ 3 _ _ (0, 0) hr3]; rfl
 have u0 := frozen_of_row w3 w.heap.size 0 _ _ hr3
 have u1 := frozen_of_row w3 w.heap.size 1 _ _ hr3
 have u2 := frozen_of_row w3 w.heap.size 2 _ _ hr3
 have u3 := frozen_of_row w3 w.heap.size 3 _ _ hr3
 obtain ⟨hq1, hq2⟩ := set4 (.int .i64 s.ix) (.int .i64 s.tm) (.slice pv nv cv) (.slice pd nd cd) hr3
 have HO3 : Hid (SnO w1.heap.size w3 (.agg #[.int .i64 s.ix, .int .i64 s.tm, .slice pv nv cv, .slice pd nd cd]) s) := hide ⟨_, _, rfl, h31, h32, h33⟩
 have HB3 := hide (HB0.out.trans (hb3.mono HB0.out.size))
 have HQ1 := hide hq1
 have HQ2 := hide hq2
 clear hr3 hq1 hq2 h31 h32 h33 hb3 HW
 go_wp2_with fail
 have hq1 := HQ1.out
 have hq2 := HQ2.out
 obtain ⟨F, hF⟩ : ∃ F, ((((w3.setCell ⟨w.heap.size, 0, none⟩ (.int .i64 s.ix)).setCell ⟨w.heap.size, 1, none⟩ (.int .i64 s.tm)).setCell ⟨w.heap.size, 2, none⟩ (.slice pv nv cv)).setCell ⟨w.heap.size, 3, none⟩ (.slice pd nd cd)) = F := ⟨_, rfl⟩
 rw [hF] at hq1 hq2
 have v0 : F.cell? ⟨w.heap.size, 0, none⟩ = some (.int .i64 s.ix) := by rw [cell_of_row F _ 0 _ _ (0, 0) hq1]; rfl
 have v1 : F.cell? ⟨w.heap.size, 1, none⟩ = some (.int .i64 s.tm) := by rw [cell_of_row F _ 1 _ _ (0, 0) hq1]; rfl
 have v2 : F.cell? ⟨w.heap.size, 2, none⟩ = some (.slice pv nv cv) := by rw [cell_of_row F _ 2 _ _ (0, 0) hq1]; rfl
 have v3 : F.cell? ⟨w.heap.size, 3, none⟩ = some (.slice pd nd cd) := by rw [cell_of_row F _ 3 _ _ (0, 0) hq1]; rfl
 have HBF := hide (Chg.to_below HB3.out hq2 (fun k e => by omega))
 have HOF := hide ((HO3.out.chg hq2 fun k e => by have := HS0.out; omega).mono (show w.heap.size ≤ w1.heap.size by have := HS0.out; omega))
 rw [hF]
 refine bodyPost_ret (v := .tuple #[.agg #[.int .i64 s.ix, .int .i64 s.tm, .slice pv nv cv, .slice pd nd cd], .bool true]) (by simp [results, Tryz.results35, go_sem, v0, v1, v2, v3]) rfl ?_
 exact ⟨_, rfl, HOF.out, HBF.out⟩
end Go.Proofs.YtgbdjcekpdfpjaaGreatDoor
namespace Go.Proofs.YtgbdjcekpdfpjaaGreatDoor
open Go.RowKit
def PcNo (w : World) (n : Nat) (e : Ending) (w' : World) : Prop := e = .returned (.tuple #[.slice none 0 0, .bool false, .int .i64 n]) ∧ w' = w
def PcP (w : World) (s : Sn) (k : Nat) (e : Ending) (w' : World) : Prop := ∃ v, e = .returned (.tuple #[v, .bool (decide (s.da.length ≤ k + 512)), .int .i64 0]) ∧ Own w.heap.size w' v ((s.da.drop k).take 512) ∧ Below w.heap.size w w'
theorem vpiece_none {w : World} {b g : Nat} {vo da : Value} {s : Sn} (h : Vt w b vo da s g) (h0 : ¬ 0 < s.ix) (at_ : Int) : Calls Tryz.prog 36 #[.pointer (some ⟨b, 0, none⟩), .int .i64 at_] w (PcNo w 60) := by
 have H := hide h
 have e1 : decide (0 < s.ix) = false := by simpa using h0
 clear h
 go_enter Tryz.func36, Tryz.ntmps36
 go_wp2_with (first
  | (go_at_call 57; refine (vmade_any H.out.c4).mono ?_; rintro e w1 ⟨rfl, rfl⟩)
  | (go_at_call 61; refine (there_any H.out.c0).mono ?_; rintro e w1 ⟨rfl, rfl⟩))
 refine bodyPost_ret (v := .tuple #[.slice none 0 0, .bool false, .int .i64 60]) (by simp [results, Tryz.results36, go_sem]) rfl ?_
 exact ⟨rfl, rfl⟩
theorem vpiece_off {w : World} {b g : Nat} {vo da : Value} {s : Sn} (h : Vt w b vo da s g) (h0 : 0 < s.ix) {at_ : Int} (hat : at_ < 0 ∨ (s.da.length : Int) < at_) : Calls Tryz.prog 36 #[.pointer (some ⟨b, 0, none⟩), .int .i64 at_] w (PcNo w 61) := by
 have q3 := h.c3
 obtain ⟨p, n, c, rfl⟩ := h.by_.sl
 have hn : n = s.da.length := h.by_.len.1
 have H := hide h
 have e1 : decide (0 < s.ix) = true := by simpa using h0
 clear h
 by_cases h1 : at_ < 0
 ·have e2 : decide (at_ < 0) = true := by simpa using h1
  go_enter Tryz.func36, Tryz.ntmps36
  go_wp2_with (first
   | (go_at_call 57; refine (vmade_any H.out.c4).mono ?_; rintro e w1 ⟨rfl, rfl⟩)
   | (go_at_call 61; refine (there_any H.out.c0).mono ?_; rintro e w1 ⟨rfl, rfl⟩))
  refine bodyPost_ret (v := .tuple #[.slice none 0 0, .bool false, .int .i64 61]) (by simp [results, Tryz.results36, go_sem]) rfl ?_
  exact ⟨rfl, rfl⟩
 ·have e2 : decide (at_ < 0) = false := by simpa using h1
  have h3 : (n : Int) < at_ := by omega
  have e3 : decide ((n : Int) < at_) = true := by simpa using h3
  have HN := hide hn
  clear hn hat h3
  go_enter Tryz.func36, Tryz.ntmps36
  go_wp2_with (first
   | (go_at_call 57; refine (vmade_any H.out.c4).mono ?_; rintro e w1 ⟨rfl, rfl⟩)
   | (go_at_call 61; refine (there_any H.out.c0).mono ?_; rintro e w1 ⟨rfl, rfl⟩))
  refine bodyPost_ret (v := .tuple #[.slice none 0 0, .bool false, .int .i64 61]) (by simp [results, Tryz.results36, go_sem]) rfl ?_
  exact ⟨rfl, rfl⟩
set_option maxRecDepth 200000 in
set_option maxHeartbeats 2000000 in
theorem vpiece_any {w : World} {b g : Nat} {vo da : Value} {s : Sn} (h : Vt w b vo da s g) (h0 : 0 < s.ix) {k : Nat} (hk : k ≤ s.da.length) (hd : s.da.length ≤ 1000000) : Calls Tryz.prog 36 #[.pointer (some ⟨b, 0, none⟩), .int .i64 k] w (PcP w s k) := by
 have q3 := h.c3
 obtain ⟨p, n, c, rfl⟩ := h.by_.sl
 have hn : n = s.da.length := h.by_.len.1
 have H := hide h
 have e1 : decide (0 < s.ix) = true := by simpa using h0
 clear h
 have e2 : decide ((k : Int) < 0) = false := by simp
 have h3 : ¬ (n : Int) < (k : Int) := by omega
 have e3 : decide ((n : Int) < (k : Int)) = false := by simpa using h3
 have e4 : IntKind.i64.wrap ((k : Int) + 512) = ((k + 512 : Nat) : Int) := by rw [IntKind.wrap_i64]; omega
 have e3' : decide (n < k) = false := by simpa using (show ¬ n < k by omega)
 have HN := hide hn
 have HK := hide hk
 have hnk : ¬ n < k := by omega
 have hby := h0
 clear h3
 obtain ⟨m, hm⟩ : ∃ m : Nat, min (k + 512) n = m := ⟨_, rfl⟩
 have hm1 : k ≤ m := by omega
 have hm2 : m ≤ n := by omega
 obtain ⟨q, hcut, hbq⟩ := cut_mid H.out.by_ hm1 hm2
 have HQ := hide hbq
 clear hn
 go_enter Tryz.func36, Tryz.ntmps36
 go_wp2_with (first
  | (go_at_call 57; refine (vmade_any H.out.c4).mono ?_; rintro e w1 ⟨rfl, rfl⟩)
  | (go_at_call 61; refine (there_any H.out.c0).mono ?_; rintro e w1 ⟨rfl, rfl⟩))
 have emin : min ((k : Int) + 512) (n : Int) = (m : Int) := by omega
 rw [emin]
 have HSC := hide (fun (W : World) (hW : Below w1.heap.size w1 W) => sclone_any (HQ.out.below hW) (show ((s.da.take m).drop k).length ≤ 140737488355328 by simp; omega))
 have HM := hide hm
 clear emin hm
 have HK3 := hide (fun (W W' : World) (hW : Below w1.heap.size w1 W) (h : Below W.heap.size W W') => ((h.cell (p := ⟨b, 3, none⟩) (Nat.lt_of_lt_of_le (lt_of_cell q3) hW.size)).trans ((hW.cell (lt_of_cell q3)).trans q3)))
 go_region_held3 (fun W => W.cell? ⟨b, 3, none⟩ = some (.slice p n c)) (first | assumption | exact HK3.out _ _ (by first | exact Below.refl _ _ | exact below_drewN (Below.refl _ _) _) hb3) (first | (go_at_call 40; refine (HSC.out _ (by first | exact Below.refl _ _ | exact below_drewN (Below.refl _ _) _ | exact Below.drew (Below.refl _ _))).mono ?_; rintro e w3 ⟨v3, rfl, ho3, hb3⟩))
 obtain ⟨pv, nv, cv, rfl⟩ := ho3.by_.sl
 have HO3 := hide ho3
 have HB3 := hide hb3
 clear ho3 hb3
 go_wp2_with fail
 refine bodyPost_ret (v := .tuple #[.slice pv nv cv, .bool ((m : Int) == (n : Int)), .int .i64 0]) (by simp [results, Tryz.results36, go_sem]) rfl ?_
 have hM := HM.out
 have hN := HN.out
 have hl : ((s.da.take m).drop k) = (s.da.drop k).take 512 := by
  rw [List.drop_take]
  by_cases h : k + 512 ≤ n
  ·rw [show m - k = 512 by omega]
  ·rw [List.take_of_length_le (by simp; omega), List.take_of_length_le (by simp; omega)]
 have hb : ((m : Int) == (n : Int)) = decide (s.da.length ≤ k + 512) := by
  by_cases h : s.da.length ≤ k + 512
  ·rw [decide_eq_true h]; simp; omega
  ·rw [decide_eq_false h]; simp; omega
 have ho := HO3.out
 rw [hl] at ho
 rw [hb]
 exact ⟨_, rfl, ho, (below_drewN (Below.refl w1.heap.size w1) 1).trans HB3.out⟩
end Go.Proofs.YtgbdjcekpdfpjaaGreatDoor
namespace Go.Proofs.YtgbdjcekpdfpjaaGreatDoor
open Go.RowKit Go.Sort
def pre : List UInt8 := [115, 110, 97, 112, 46]
def isV (n : List UInt8) : Bool := Lib.hasPrefix n pre
theorem vfile_gives (n : ByteArray) (w : World) : Calls Tryz.prog 110 #[.string n] w fun e w' => e = .returned (.bool (!isV n.data.toList)) ∧ w' = w := by
 have HP := hide (Tryz.strings_HasPrefix n (str pre) w)
 go_enter Tryz.func110, Tryz.ntmps110
 go_wp2_with (go_at_call 111; refine HP.out.mono ?_; rintro e w1 ⟨rfl, rfl⟩)
 go_ret
 exact ⟨rfl, rfl⟩
theorem vfile_fn (n : List UInt8) (W : World) : FnGives Tryz.prog 110 #[] #[encStr n] (.bool (!isV n)) W := by
 refine (vfile_gives ⟨n.toArray⟩ W).mono ?_
 rintro e w' ⟨rfl, rfl⟩
 exact ⟨rfl, 0, rfl⟩
theorem vfile_at (w : World) : PredAt Tryz.prog 110 #[] encStr (fun n => !isV n) w := fun W x _ => vfile_fn x W
theorem vfile_over (blk off size : Nat) (w : World) : PredOver Tryz.prog 110 #[] encStr (fun n => !isV n) blk off size w := fun n os dk x _ => vfile_fn x _
def Strs (B : Nat) (w : World) (v : Value) (m : List (List UInt8)) : Prop :=
 (v = .slice none 0 0 ∧ m = []) ∨ ∃ g c, v = .slice (some ⟨g, 0, none⟩) m.length c ∧ m.length ≤ c ∧ B ≤ g ∧ g < w.heap.size ∧ ∀ (i : Nat) x, m[i]? = some x → w.cell? ⟨g, i, none⟩ = some (encStr x)
theorem delete_some {w : World} {B g cap : Nat} {l : List (List UInt8)} (hB : B ≤ g) (hg : g < w.heap.size) (hh : Holds encStr w g 0 l.toArray) (hc : l.length ≤ cap) (hl : l.length ≤ 9223372036854775807) (hb : B ≤ w.heap.size) :
  Calls Tryz.prog 109 #[.slice (some ⟨g, 0, none⟩) l.length cap, .func (.func 110) #[] #[]] w fun e w' => ∃ v, e = .returned v ∧ Strs B w' v (l.filter isV) ∧ Below B w w' := by
 have := Tryz.slices_DeleteFunc encStr (fun x => rfl) (fun n => !isV n) 110 #[] (enters_of Tryz.func110 rfl rfl) [] (fun w => Tryz.zeroValue9 w) g 0 cap l.toArray w (vfile_at w) (vfile_over _ _ _ w) hh (by simpa using hl) (by simpa using hc)
 refine this.mono ?_
 rintro e w' ⟨rfl, q, rfl⟩
 have e1 : (l.toArray.toList.filter fun x => !(!isV x)) = l.filter isV := by simp
 rw [e1]
 have hle : (l.filter isV).length ≤ l.length := List.length_filter_le _ _
 have hsz : ((l.filter isV) ++ List.replicate (l.toArray.size - (l.filter isV).length) ([] : List UInt8)).toArray.size = l.toArray.size := by simp; omega
 have hh' : Holds encStr (Sort.ahead w q) g 0 l.toArray := hh
 have hp := holds_putRow encStr (Sort.ahead w q) g 0 _ _ hh' hsz
 have hb' := Lib.below_putRow (enc := encStr) (q := q) (d := ((l.filter isV) ++ List.replicate (l.toArray.size - (l.filter isV).length) ([] : List UInt8)).toArray) (show Below B w w from ⟨rfl, rfl, rfl, Nat.le_refl _, fun _ _ => rfl⟩) hB
 refine ⟨_, rfl, .inr ⟨g, cap, rfl, by omega, hB, Nat.lt_of_lt_of_le hg hb'.size, fun i x hi => ?_⟩, hb'⟩
 have hil := (List.getElem?_eq_some_iff.1 hi).1
 have := (hp i (by rw [hsz]; simp; omega)).1
 rw [Nat.zero_add] at this
 rw [this]
 congr 2
 rw [getElem!_pos _ _ (by rw [hsz]; simp; omega)]
 simp only [List.getElem_toArray]
 rw [List.getElem_append_left hil]
 exact (List.getElem?_eq_some_iff.1 hi).2
theorem index_nil (w : World) (f : Value) : Calls Tryz.prog 130 #[.slice none 0 0, f] w fun e w' => e = .returned (.int .i64 (-1)) ∧ w' = w := by
 go_enter Tryz.func130, Tryz.ntmps130
 go_wp2
 go_loop [8] (fun i => i = .int .i64 0) (fun _ => 0)
 case atStart => exact rfl
 case round =>
  obtain rfl := hrel
  go_wp2
  go_ret
  exact ⟨rfl, rfl⟩
theorem delete_nil (w : World) (f : Value) : Calls Tryz.prog 109 #[.slice none 0 0, f] w fun e w' => e = .returned (.slice none 0 0) ∧ w' = w := by
 go_enter Tryz.func109, Tryz.ntmps109
 go_wp2_with (go_at_call 130; refine (index_nil _ _).mono ?_; rintro e w1 ⟨rfl, rfl⟩)
 go_ret
 exact ⟨rfl, rfl⟩
theorem vfiles_any {w : World} {S C : Nat → Prop} {b g : Nat} {st : Dk} (h : w.cell? ⟨b, 4, none⟩ = some (.pointer (some ⟨g, 0, none⟩))) (ho : DiskIs w S C g st) (hn : st.names.length ≤ 1000000) :
  Calls Tryz.prog 88 #[.pointer (some ⟨b, 0, none⟩)] w fun e w' => ∃ v, e = .returned v ∧ Strs w.heap.size w' v (st.names.filter isV) ∧ Below w.heap.size w w' := by
 have HN := hide hn
 have HL := hide (list_call ho)
 clear hn
 go_enter Tryz.func88, Tryz.ntmps88
 go_wp2_with fail
 refine HL.out.mono ?_
 rintro e w1 ⟨v1, rfl, hr, hb⟩
 obtain ⟨h0, ⟨rfl, hz⟩ | ⟨gl, cap, cur, rfl, hB, hx, hnc, hcm, hcs, ht⟩⟩ := hr
 ·have hnil : st.names.filter isV = [] := by rw [List.eq_nil_of_length_eq_zero hz]; rfl
  go_wp2_with (go_at_call 109; refine (delete_nil _ _).mono ?_; rintro e w2 ⟨rfl, rfl⟩)
  go_ret
  exact ⟨_, rfl, .inl ⟨rfl, hnil⟩, hb⟩
 ·have hh := holds_of_block (ss := st.names) hx (by simpa using ht)
  have HD := hide (delete_some (B := w.heap.size) hB (Array.getElem?_eq_some_iff.1 hx).1 hh hnc (by have := HN.out; omega) hb.size)
  have HB := hide hb
  clear hh h0 hB hx hnc hcm hcs ht hb
  go_wp2_with (go_at_call 109; refine HD.out.mono ?_; rintro e w2 ⟨v2, rfl, hs2, hb2⟩)
  go_ret
  exact ⟨_, rfl, hs2, HB.out.trans hb2⟩
end Go.Proofs.YtgbdjcekpdfpjaaGreatDoor
