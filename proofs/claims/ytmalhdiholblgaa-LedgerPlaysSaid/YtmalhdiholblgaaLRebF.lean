/- Rebase and Clone: the whole posts. -/
import Derived.Test.YtmalhdiholblgaaLCutF
namespace Go.Proofs.Ytmalhdiholblgaa
set_option linter.unusedVariables false
set_option linter.unusedSimpArgs false
open Go.RowKit

set_option maxRecDepth 200000 in
set_option maxHeartbeats 4000000 in
theorem cloneF_any {w : World} {p : Option Addr} {n c : Nat} {E : List Ec} (h : Ecs w (.slice p n c) E) (hl : E.length ≤ 1000000) : Calls Try.prog 33 #[.slice p n c] w fun e w' => (∃ p' n' c', e = .returned (.slice p' n' c') ∧ OwnE w.heap.size w' (.slice p' n' c') E) ∧ Below w.heap.size w w' := by
  have qsp : ∀ (w : World) (a : Option Addr) (n c n' c' : Nat), (binOp .eql 22 (.slice a n c) (.slice none n' c')).run Try.prog w = .ok (.bool a.isNone) w := fun w a n c n' c' => Lib.run_eql_slice_nil w _ _ a n c n' c' Try.underlying22
  cases p with
  | none =>
    have HB := hide (Below.refl w.heap.size w)
    obtain ⟨p', cap, e, h1, _, h2, h3⟩ := h
    injection e with e1 e2 e3
    have hc := h2 e1.symm
    have hE0 : E = [] := List.eq_nil_of_length_eq_zero (by omega)
    subst hE0
    have HN := hide (OwnE.nil w.heap.size w)
    clear h1 h2 h3 hc e1 e2 e3 hl
    go_enter Try.func33, Try.ntmps33
    go_wp2
    go_ret
    exact ⟨⟨_, _, _, rfl, HN.out⟩, HB.out⟩
  | some a =>
    have bE := (Below.refl w.heap.size w).alloc (Nat.le_refl _) (.cells #[] 48)
    have oE : OwnE w.heap.size (w.alloc (.cells #[] 48)) (.slice (some ⟨w.heap.size, 0, none⟩) 0 0) [] := World.ownsRow_lit w #[] 0 (Nat.le_refl _) (by decide) rfl
    have HEE := hide (h.below bE)
    have HOE := hide oE
    have HBE := hide bE
    have HEL := hide hl
    clear bE oE h hl
    go_enter Try.func33, Try.ntmps33
    go_wp2_with (at_builtin; go_loud (refine wpList_pushesE (v := .slice (some ⟨w.heap.size, 0, none⟩) 0 0) (u := .slice (some a) n c) (l := []) (m := E) (B := w.heap.size) rfl (.tmp 5) (.tmp 6) rfl rfl rfl rfl HOE.out HEE.out HBE.out.size (by have := HEL.out; simp; omega) ?_); intro v4 w4 ho4 hb4 hg4; rw [List.nil_append] at ho4; obtain ⟨p4, n4, c4, rfl⟩ := ho4.ecs.sl; have HB4 := hide (HBE.out.trans hb4); have HO4 := hide ho4; clear ho4 hb4 hg4)
    go_ret
    exact ⟨⟨_, _, _, rfl, HO4.out⟩, HB4.out⟩
theorem LgRow.rebased {B BB : Nat} {w V5 : World} {g : Nat} {x : Lg} {v : Value} {E E' : List Ec} {p' : Option Addr} {n' c' : Nat} {L : List En} {i t : Int} (hr : LgRow B w g x v E) (hb : Below w.heap.size w V5) (hBB : w.heap.size ≤ BB) (hB : B ≤ w.heap.size) (hE : OwnE BB V5 (.slice p' n' c') E') (hD : DatO B w v E' L) (hsub : ∀ e ∈ E', e ∈ E) (hnd : ∀ e ∈ E', e.c = 0 ∨ (Value.slice e.p e.n e.c).ownBlock ≠ some g) (hok : (Lg.mk i t L).Ok) (hfew : L.length ≤ 100000) :
    LgOwn B (((V5.setCell ⟨g, 0, none⟩ (.int .i64 i)).setCell ⟨g, 1, none⟩ (.int .i64 t)).setCell ⟨g, 2, none⟩ (.slice p' n' c')) g ⟨i, t, L⟩ ∧ Fr g w (((V5.setCell ⟨g, 0, none⟩ (.int .i64 i)).setCell ⟨g, 1, none⟩ (.int .i64 t)).setCell ⟨g, 2, none⟩ (.slice p' n' c')) := by
  have hr5 := hr.below hb
  have hgl : g < w.heap.size := lt_of_cell hr.c0
  have hne : (Value.slice p' n' c').ownBlock ≠ some g := fun e => by
    have := (hE.lt _ e).1
    omega
  have hD5 : DatO B V5 (.slice p' n' c') E' L := (hD.below hb).to fun e he => by
    rcases hD.far he with h0 | ⟨k, hk, _, hlt⟩
    · exact .inl h0
    · refine .inr fun k' hk' e2 => ?_
      rw [hk] at hk'
      injection hk' with hk'
      have := (hE.lt _ e2).1
      omega
  have hs := hr5.swap3 (i := i) (t := t) (World.grownBy.refl V5 none) (by simp) (hE.mono (Nat.le_trans hB hBB)) hD5 hne hnd hok hfew
  refine ⟨hs.lg, ?_, fun k hk => ?_, fun A hA ha => ha.step hA hr.c2 hr.own.ecs hs.c2 hs.own.ecs (.inr fun k hk => Nat.le_trans hBB (hE.lt k hk).1) fun e he => .inl (hsub e he)⟩
  · exact (((Chg.of_below hb _).set _ (.inl (.inl rfl))).set _ (.inl (.inl rfl))).set _ (.inl (.inl rfl))
  · have := (hE.lt k (hs.rb.1 hk)).1
    exact .inr (by omega)
theorem RetF.reb {B g : Nat} {w w' : World} {x : Lg} {i t : Int} {L : List En} {R : Int × Lg} (hR : R = (0, ⟨i, t, L⟩)) (h : LgOwn B w' g ⟨i, t, L⟩ ∧ Fr g w w') : RetF B g R w (.returned (.int .i64 0)) w' := RetF.mk hR h
set_option maxRecDepth 200000 in
set_option maxHeartbeats 4000000 in
theorem rebOkF {B : Nat} {w : World} {g : Nat} {x : Lg} (h : LgOwn B w g x) {i t : Int} (hq : (good i t && decide (x.ix ≤ i)) = true) (hB : B ≤ w.heap.size) : Calls Try.prog 12 #[.pointer (some ⟨g, 0, none⟩), .int .i64 i, .int .i64 t] w (RetF B g (0, ⟨i, t, if agreesI x i t = true then x.l.drop (i - x.ix).toNat else []⟩) w) := by
  have b1 : Below w.heap.size w (w.alloc (.cells #[.int .i64 i, .int .i64 t] 66)) := (Below.refl _ _).alloc (Nat.le_refl _) _
  have hX := Box2.new w i t 66
  have h1 := h.below b1
  have hbd := h.is.bounds
  have hok := h.ok.reb hq
  obtain ⟨R, hR⟩ : ∃ R : Int × Lg, ((0 : Int), (⟨i, t, if agreesI x i t = true then x.l.drop (i - x.ix).toNat else []⟩ : Lg)) = R := ⟨_, rfl⟩
  rw [hR]
  have hRR := hR.symm
  obtain ⟨Y, hY⟩ : ∃ Y, w.alloc (.cells #[.int .i64 i, .int .i64 t] 66) = Y := ⟨_, rfl⟩
  rw [hY] at b1 hX h1
  have HB := hide b1
  have HBX := hide hX
  have HM := hide (made_any h1.is)
  have HG := hide (mayBe_any (w := Y) i t)
  have HW := hide h1
  have HBB := hide hB
  obtain ⟨pr, nr, cr, Er, hr⟩ := h.row
  have HR := hide hr
  have HAG := hide (fun V (hV : Below Y.heap.size Y V) => agrees_any (h1.below hV).is i t)
  have hkk : agreesI x i t = true → i ≤ x.ix + x.l.length := fun ha => by
    unfold agreesI Lg.at_ at ha
    by_cases h0 : i = x.ix
    · omega
    · rw [if_neg h0] at ha
      by_cases h2 : x.ix < i ∧ i ≤ x.ix + x.l.length
      · exact h2.2
      · rw [if_neg h2] at ha
        simp at ha
  rw [Bool.and_eq_true] at hq
  obtain ⟨hgd, hle⟩ := hq
  have hle2 : x.ix ≤ i := by simpa using hle
  rw [hgd] at HG
  obtain ⟨q, hqa⟩ : ∃ q, agreesI x i t = q := ⟨_, rfl⟩
  rw [hqa] at HAG hkk hRR hok
  have HRR := hide hRR
  have HOK := hide hok
  have x0 := hX.1
  have x1 := hX.2.1
  have HLE := hide hle2
  have HFEW := hide h.few
  have HKK := hide hkk
  have HBD := hide hbd
  clear h h1 b1 hgd hle hle2 hqa hB hkk hbd hR hRR hok hr
  go_enter Try.func12, Try.ntmps12
  go_wp2_with fail
  refine HM.out.mono ?_
  rintro e w9 ⟨rfl, rfl⟩
  go_wp2_with fail
  refine HG.out.mono ?_
  rintro e w2 ⟨rfl, hb2⟩
  have HB2 := hide hb2
  have c0 := (HW.out.below hb2).c0
  clear x0 x1
  have x0 := (HBX.out.below hb2).1
  have x1 := (HBX.out.below hb2).2.1
  clear hb2
  have e1 : decide (i < x.ix) = false := decide_eq_false (by have := HLE.out; omega)
  go_wp2_with fail
  refine (HAG.out _ HB2.out).mono ?_
  rintro e w3 ⟨rfl, hb3⟩
  have HB3 := hide (HB2.out.trans (hb3.mono HB2.out.size))
  clear hb3 c0 x0 x1
  have x0 := (HBX.out.below HB3.out).1
  have x1 := (HBX.out.below HB3.out).2.1
  have HBW : Hid (∀ V, Below w3.heap.size w3 V → Below w.heap.size w V) := hide fun V hV => HB.out.trans ((HB3.out.trans (hV.mono HB3.out.size)).mono HB.out.size)
  have HLO : Hid (∀ V, Below w3.heap.size w3 V → LgOwn B V g x ∧ Box2 V w.heap.size i t) := hide fun V hV => ⟨HW.out.below (HB3.out.trans (hV.mono HB3.out.size)), HBX.out.below (HB3.out.trans (hV.mono HB3.out.size))⟩
  have hl3 := (HLO.out w3 (Below.refl _ _)).1
  have f0 := hl3.fr 0 (by omega)
  have f1 := hl3.fr 1 (by omega)
  have f2 := hl3.fr 2 (by omega)
  have c0 := hl3.c0
  have c1 := hl3.c1
  have hr3 := HR.out.below (HBW.out w3 (Below.refl _ _))
  have c2 := hr3.c2
  have hEl : Er.length = x.l.length := hr3.dat.1
  have hE1 := hide hr3.own
  have HW3 : Hid (w.heap.size ≤ w3.heap.size) := hide (HBW.out w3 (Below.refl _ _)).size
  clear hl3 hr3
  cases q
  · clear hEl
    have hz := fun V (hV : Below w3.heap.size w3 V) => HR.out.rebased (i := i) (t := t) (p' := none) (n' := 0) (c' := 0) (E' := []) (L := []) (HBW.out V hV) (Nat.le_refl _) HBB.out (OwnE.nil _ _) (DatO.nil _ _ _) (by simp) (by simp) HOK.out (by simp)
    have HZ := hide hz
    clear hz
    go_wp2
    go_ret
    exact RetF.mk HRR.out (HZ.out _ (by first | exact Below.refl _ _ | exact bel_drewN (Below.refl _ _) 1))
  · obtain ⟨k, hk⟩ : ∃ k : Nat, i - x.ix = (k : Int) := ⟨(i - x.ix).toNat, by have := HLE.out; omega⟩
    have hkn := HKK.out rfl
    have hkE : k ≤ Er.length := by omega
    have hws : IntKind.i64.wrap (i - x.ix) = (k : Int) := by rw [hk]; exact IntWalk.i64_in (k : Int) (by have := HFEW.out; omega)
    have hsh := hE1.out.shape
    have HRR2 : Hid (R = (0, ⟨i, t, x.l.drop k⟩)) := hide (by rw [HRR.out, hk]; rfl)
    have HOK2 : Hid ((Lg.mk i t (x.l.drop k)).Ok) := hide (by have h := HOK.out; rw [hk] at h; exact h)
    have HZ : Hid (∀ V p' n' c' BB, Below w3.heap.size w3 V → w.heap.size ≤ BB → OwnE BB V (.slice p' n' c') (Er.drop k) → LgOwn B (((V.setCell ⟨g, 0, none⟩ (.int .i64 i)).setCell ⟨g, 1, none⟩ (.int .i64 t)).setCell ⟨g, 2, none⟩ (.slice p' n' c')) g ⟨i, t, x.l.drop k⟩ ∧ Fr g w (((V.setCell ⟨g, 0, none⟩ (.int .i64 i)).setCell ⟨g, 1, none⟩ (.int .i64 t)).setCell ⟨g, 2, none⟩ (.slice p' n' c'))) := hide fun V p' n' c' BB hV hBB ho =>
      HR.out.rebased (HBW.out V hV) hBB HBB.out ho (HR.out.dat.drop k) (fun e he => List.mem_of_mem_drop he) (fun e he => HR.out.nd e (List.mem_of_mem_drop he)) HOK2.out (by have := HFEW.out; rw [List.length_drop]; omega)
    obtain ⟨ix, hix⟩ : ∃ ix, x.ix = ix := ⟨_, rfl⟩
    rw [hix] at c0 hws
    rcases hsh with ⟨rfl, rfl, rfl, hE00⟩ | ⟨gg, rfl, hn0, hnc, hcm⟩
    · obtain rfl : k = 0 := by omega
      have hEr : Er = [] := List.eq_nil_of_length_eq_zero hE00
      have HCL : Hid (∀ V, Calls Try.prog 33 #[.slice none 0 0] V fun e w' => (∃ p' n' c', e = .returned (.slice p' n' c') ∧ OwnE V.heap.size w' (.slice p' n' c') (Er.drop 0)) ∧ Below V.heap.size V w') := hide fun V => by
        rw [hEr]
        exact cloneF_any (Ecs.nil V) (by simp)
      clear hEl hkE hkn hk HKK hE00 hix hEr
      go_wp2_with fail
      go_region_law (go_simp; refine (HCL.out _).mono ?_; rintro e w5 ⟨⟨p5, n5, c5, rfl, ho5⟩, hb5⟩; have HB5 : Hid (Below w3.heap.size w3 w5) := hide ((bel_drewN (Below.refl _ w3) 1).trans hb5); have HO5 := hide ho5; have hl5 := (HLO.out _ HB5.out).1; have y0 := (HLO.out _ HB5.out).2.1; have y1 := (HLO.out _ HB5.out).2.2.1; have g0 := hl5.fr 0 (by omega); have g1 := hl5.fr 1 (by omega); have g2 := hl5.fr 2 (by omega); have d0 := hl5.c0; have d1 := hl5.c1; obtain ⟨_, _, _, _, d2, _, _, _, _⟩ := hl5.c2; clear hl5 hb5 ho5)
      all_goals
        go_wp2
        go_ret
        exact RetF.mk HRR2.out (HZ.out _ _ _ _ _ (by first | exact HB5.out | exact bel_drewN HB5.out 1) HW3.out HO5.out)
    · have hecs := hE1.out.ecs
      by_cases hck : cr = k
      · have hnk : nr = k := by omega
        subst hck
        subst hnk
        have hEd : Er.drop nr = [] := List.drop_eq_nil_of_le (by omega)
        have HCL : Hid (∀ V a b, a = 0 → b = 0 → Calls Try.prog 33 #[.slice (some ⟨gg, 0, none⟩) a b] V fun e w' => (∃ p' n' c', e = .returned (.slice p' n' c') ∧ OwnE V.heap.size w' (.slice p' n' c') (Er.drop nr)) ∧ Below V.heap.size V w') := hide fun V a b ha hb => by
          subst ha hb
          rw [hEd]
          exact cloneF_any (Ecs.none_ V _ 0 (Nat.zero_le _) (fun e => by cases e)) (by simp)
        have hm : nr ≤ 9223372036854775807 := by unfold maxLen at hcm; omega
        clear hEl hkE hkn hk HKK hix hecs hn0 hnc hcm hEd
        go_wp2_with fail
        go_region_law (go_simp; refine (HCL.out _ _ _ (by omega) (by omega)).mono ?_; rintro e w5 ⟨⟨p5, n5, c5, rfl, ho5⟩, hb5⟩; have HB5 : Hid (Below w3.heap.size w3 w5) := hide ((bel_drewN (Below.refl _ w3) 1).trans hb5); have HO5 := hide ho5; have hl5 := (HLO.out _ HB5.out).1; have y0 := (HLO.out _ HB5.out).2.1; have y1 := (HLO.out _ HB5.out).2.2.1; have g0 := hl5.fr 0 (by omega); have g1 := hl5.fr 1 (by omega); have g2 := hl5.fr 2 (by omega); have d0 := hl5.c0; have d1 := hl5.c1; obtain ⟨_, _, _, _, d2, _, _, _, _⟩ := hl5.c2; clear hl5 hb5 ho5)
        all_goals
          go_wp2
          go_ret
          exact RetF.mk HRR2.out (HZ.out _ _ _ _ _ (by first | exact HB5.out | exact bel_drewN HB5.out 1) HW3.out HO5.out)
      · have hkn0 : k ≤ nr := by omega
        have HCL : Hid (∀ V, Below w3.heap.size w3 V → Calls Try.prog 33 #[.slice (some ⟨gg, k * 3, none⟩) (nr - k) (cr - k)] V fun e w' => (∃ p' n' c', e = .returned (.slice p' n' c') ∧ OwnE V.heap.size w' (.slice p' n' c') (Er.drop k)) ∧ Below V.heap.size V w') := hide fun V hV => by
          obtain ⟨o, ho, hec⟩ := (hecs.below hV).rest hkn0
          rw [if_neg hck] at ho
          injection ho with ho
          injection ho with _ ho
          subst ho
          exact cloneF_any hec (by rw [List.length_drop]; have := HFEW.out; omega)
        have hm : cr ≤ 9223372036854775807 := by unfold maxLen at hcm; omega
        have hkc : k ≤ cr := by omega
        have j2 : (k : Int) ≤ (nr : Int) := by omega
        have j3 : (nr : Int) ≤ (cr : Int) := by omega
        clear hEl hkE hkn hk HKK hix hecs hn0 hcm
        go_wp2_with fail
        go_region_law (go_simp; refine (HCL.out _ (bel_drewN (Below.refl _ w3) 1)).mono ?_; rintro e w5 ⟨⟨p5, n5, c5, rfl, ho5⟩, hb5⟩; have HB5 : Hid (Below w3.heap.size w3 w5) := hide ((bel_drewN (Below.refl _ w3) 1).trans hb5); have HO5 := hide ho5; have hl5 := (HLO.out _ HB5.out).1; have y0 := (HLO.out _ HB5.out).2.1; have y1 := (HLO.out _ HB5.out).2.2.1; have g0 := hl5.fr 0 (by omega); have g1 := hl5.fr 1 (by omega); have g2 := hl5.fr 2 (by omega); have d0 := hl5.c0; have d1 := hl5.c1; obtain ⟨_, _, _, _, d2, _, _, _, _⟩ := hl5.c2; clear hl5 hb5 ho5)
        all_goals
          go_wp2
          go_ret
          exact RetF.mk HRR2.out (HZ.out _ _ _ _ _ (by first | exact HB5.out | exact bel_drewN HB5.out 1) HW3.out HO5.out)
theorem rebF_any {B : Nat} {w : World} {g : Nat} {x : Lg} (h : LgOwn B w g x) (i t : Int) (hB : B ≤ w.heap.size) : Calls Try.prog 12 #[.pointer (some ⟨g, 0, none⟩), .int .i64 i, .int .i64 t] w (RetF B g (rebR x i t) w) := by
  cases hq : (good i t && decide (x.ix ≤ i))
  · refine (rebErr_any h.is hq).mono ?_
    rintro e w' ⟨rfl, hb⟩
    exact RetF.mk (by unfold rebR; rw [if_neg (by rw [hq]; simp)]) ⟨h.below hb, Fr.of_below hb (lt_of_cell h.c0)⟩
  · have := rebOkF h hq hB
    unfold rebR
    rw [if_pos hq]
    exact this
end Go.Proofs.Ytmalhdiholblgaa
