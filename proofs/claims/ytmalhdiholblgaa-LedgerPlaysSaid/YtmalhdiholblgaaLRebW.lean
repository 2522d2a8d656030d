/- Rebase, where there is no error: what of the world stays. -/
import Derived.Test.YtmalhdiholblgaaLCutW
namespace Go.Proofs.Ytmalhdiholblgaa
set_option linter.unusedVariables false
set_option linter.unusedSimpArgs false
open Go.RowKit

theorem Ecs.rest {w : World} {g n c : Nat} {E : List Ec} (h1 : Ecs w (.slice (some ⟨g, 0, none⟩) n c) E) {k : Nat} (hk : k ≤ n) : ∃ o, (if c = k then some (⟨g, 0, none⟩ : Addr) else some ⟨g, k * 3, none⟩) = some ⟨g, o, none⟩ ∧ Ecs w (.slice (some ⟨g, o, none⟩) (n - k) (c - k)) (E.drop k) := by
  obtain ⟨hn, hc, hm⟩ := h1.len
  by_cases hkn : k < n
  · obtain ⟨g', o', e, hx⟩ := h1.at_ (by omega)
    injection e with e
    injection e with e1 e2
    subst e1 e2
    refine ⟨k * 3, by rw [if_neg (by omega)], some ⟨g, k * 3, none⟩, c - k, by rw [List.length_drop, hn], by rw [List.length_drop]; omega, by omega, (fun e => by cases e), fun _ => ⟨g, k * 3, rfl, fun i x hi => ?_⟩⟩
    rw [List.getElem?_drop] at hi
    have := hx (k + i) x hi
    rwa [show 0 + (k + i) * 3 = k * 3 + i * 3 by rw [Nat.add_mul]; omega] at this
  · have h0 : n - k = 0 := by omega
    have hd : E.drop k = [] := List.drop_eq_nil_of_le (by omega)
    rw [h0, hd]
    by_cases hck : c = k
    · exact ⟨0, by rw [if_pos hck], Ecs.none_ _ _ _ (by omega) (fun e => by cases e)⟩
    · exact ⟨k * 3, by rw [if_neg hck], Ecs.none_ _ _ _ (by omega) (fun e => by cases e)⟩
theorem OwnE.shape {B : Nat} {w : World} {p : Option Addr} {n c : Nat} {E : List Ec} (h : OwnE B w (.slice p n c) E) : (p = none ∧ n = 0 ∧ c = 0 ∧ E.length = 0) ∨ ∃ g, p = Option.some ⟨g, 0, none⟩ ∧ n = E.length ∧ n ≤ c ∧ c ≤ maxLen := by
  have hl := h.ecs.len
  obtain ⟨_, ⟨h1, h2⟩ | ⟨g', cap', cur, e, h1, h2, h3, h4, h5, h6⟩⟩ := h
  · injection h1 with e1 e2 e3
    exact .inl ⟨e1, e2, e3, h2⟩
  · injection e with e1 e2 e3
    exact .inr ⟨g', e1, hl⟩
set_option maxRecDepth 200000 in
set_option maxHeartbeats 4000000 in
theorem cloneE_any {w : World} {p : Option Addr} {n c : Nat} {E : List Ec} (h : Ecs w (.slice p n c) E) (hl : E.length ≤ 1000000) : Calls Try.prog 33 #[.slice p n c] w fun e w' => (∃ p' n' c', e = .returned (.slice p' n' c')) ∧ Below w.heap.size w w' := by
  have qsp : ∀ (w : World) (a : Option Addr) (n c n' c' : Nat), (binOp .eql 22 (.slice a n c) (.slice none n' c')).run Try.prog w = .ok (.bool a.isNone) w := fun w a n c n' c' => Lib.run_eql_slice_nil w _ _ a n c n' c' Try.underlying22
  cases p with
  | none =>
    have HB := hide (Below.refl w.heap.size w)
    clear h hl
    go_enter Try.func33, Try.ntmps33
    go_wp2
    go_ret
    exact ⟨⟨_, _, _, rfl⟩, HB.out⟩
  | some a =>
    have bE := (Below.refl w.heap.size w).alloc (Nat.le_refl _) (.cells #[] 48)
    have oE : OwnE w.heap.size (w.alloc (.cells #[] 48)) (.slice (some ⟨w.heap.size, 0, none⟩) 0 0) [] := World.ownsRow_lit w #[] 0 (Nat.le_refl _) (by decide) rfl
    have HEE := hide (h.below bE)
    have HOE := hide oE
    have HBE := hide bE
    have HEL := hide hl
    clear bE oE h hl
    go_enter Try.func33, Try.ntmps33
    go_wp2_with (at_builtin; go_loud (refine wpList_pushesE (v := .slice (some ⟨w.heap.size, 0, none⟩) 0 0) (u := .slice (some a) n c) (l := []) (m := E) (B := w.heap.size) rfl (.tmp 5) (.tmp 6) rfl rfl rfl rfl HOE.out HEE.out HBE.out.size (by have := HEL.out; simp; omega) ?_); intro v4 w4 ho4 hb4 hg4; rw [List.nil_append] at ho4; obtain ⟨p4, n4, c4, rfl⟩ := ho4.ecs.sl; have HB4 := hide (HBE.out.trans hb4); clear ho4 hb4 hg4)
    go_ret
    exact ⟨⟨_, _, _, rfl⟩, HB4.out⟩
set_option maxRecDepth 200000 in
set_option maxHeartbeats 4000000 in
theorem rebOk_any {B : Nat} {w : World} {g : Nat} {x : Lg} (h : LgOwn B w g x) {i t : Int} (hq : (good i t && decide (x.ix ≤ i)) = true) (hB : B ≤ w.heap.size) : Calls Try.prog 12 #[.pointer (some ⟨g, 0, none⟩), .int .i64 i, .int .i64 t] w fun e w' => e = .returned (.int .i64 0) ∧ Below B w w' := by
  have b1 : Below w.heap.size w (w.alloc (.cells #[.int .i64 i, .int .i64 t] 66)) := (Below.refl _ _).alloc (Nat.le_refl _) _
  have hX := Box2.new w i t 66
  have h1 := h.below b1
  have hbd := h.is.bounds
  obtain ⟨Y, hY⟩ : ∃ Y, w.alloc (.cells #[.int .i64 i, .int .i64 t] 66) = Y := ⟨_, rfl⟩
  rw [hY] at b1 hX h1
  have HB := hide b1
  have HBX := hide hX
  have HM := hide (made_any h1.is)
  have HG := hide (mayBe_any (w := Y) i t)
  have HW := hide h1
  have HBB := hide hB
  have HGB := hide h.hB
  have HAG := hide (fun V (hV : Below Y.heap.size Y V) => agrees_any (h1.below hV).is i t)
  have hkk : agreesI x i t = true → i ≤ x.ix + x.l.length := fun ha => by
    unfold agreesI Lg.at_ at ha
    by_cases h0 : i = x.ix
    · omega
    · rw [if_neg h0] at ha
      by_cases h2 : x.ix < i ∧ i ≤ x.ix + x.l.length
      · exact h2.2
      · rw [if_neg h2] at ha
        simp at ha
  rw [Bool.and_eq_true] at hq
  obtain ⟨hgd, hle⟩ := hq
  have hle2 : x.ix ≤ i := by simpa using hle
  rw [hgd] at HG
  obtain ⟨q, hqa⟩ : ∃ q, agreesI x i t = q := ⟨_, rfl⟩
  rw [hqa] at HAG hkk
  have x0 := hX.1
  have x1 := hX.2.1
  have HLE := hide hle2
  have HFEW := hide h.few
  have HKK := hide hkk
  have HBD := hide hbd
  clear h h1 b1 hgd hle hle2 hqa hB hkk hbd
  go_enter Try.func12, Try.ntmps12
  go_wp2_with fail
  refine HM.out.mono ?_
  rintro e w9 ⟨rfl, rfl⟩
  go_wp2_with fail
  refine HG.out.mono ?_
  rintro e w2 ⟨rfl, hb2⟩
  have HB2 := hide hb2
  have c0 := (HW.out.below hb2).c0
  clear x0 x1
  have x0 := (HBX.out.below hb2).1
  have x1 := (HBX.out.below hb2).2.1
  clear hb2
  have e1 : decide (i < x.ix) = false := decide_eq_false (by have := HLE.out; omega)
  go_wp2_with fail
  refine (HAG.out _ HB2.out).mono ?_
  rintro e w3 ⟨rfl, hb3⟩
  have HB3 := hide (HB2.out.trans (hb3.mono HB2.out.size))
  clear hb3 c0 x0 x1
  have x0 := (HBX.out.below HB3.out).1
  have x1 := (HBX.out.below HB3.out).2.1
  have HZ3 : Hid (∀ V u0 u1 u2, Below B w V → Below B w (((V.setCell ⟨g, 0, none⟩ u0).setCell ⟨g, 1, none⟩ u1).setCell ⟨g, 2, none⟩ u2)) := hide fun V u0 u1 u2 hV => ((hV.setCell (p := ⟨g, 0, none⟩) HGB.out _).setCell (p := ⟨g, 1, none⟩) HGB.out _).setCell (p := ⟨g, 2, none⟩) HGB.out _
  have HBW : Hid (∀ V, Below w3.heap.size w3 V → Below B w V) := hide fun V hV => ((HB.out.trans ((HB3.out.trans (hV.mono HB3.out.size)).mono HB.out.size))).mono HBB.out
  have HLO : Hid (∀ V, Below w3.heap.size w3 V → LgOwn B V g x ∧ Box2 V w.heap.size i t) := hide fun V hV => ⟨HW.out.below (HB3.out.trans (hV.mono HB3.out.size)), HBX.out.below (HB3.out.trans (hV.mono HB3.out.size))⟩
  have hl3 := (HLO.out w3 (Below.refl _ _)).1
  have f0 := hl3.fr 0 (by omega)
  have f1 := hl3.fr 1 (by omega)
  have f2 := hl3.fr 2 (by omega)
  have c0 := hl3.c0
  have c1 := hl3.c1
  obtain ⟨p0, n0, cc0, E0, c2, hE0, hD0, _, _⟩ := hl3.c2
  have hEl : E0.length = x.l.length := hD0.1
  have hE1 := hide hE0
  clear hl3 hE0 hD0
  cases q
  · clear hEl
    go_wp2
    go_ret
    exact ⟨rfl, HZ3.out _ _ _ _ (HBW.out _ (by first | exact Below.refl _ _ | exact bel_drewN (Below.refl _ _) 1))⟩
  · obtain ⟨k, hk⟩ : ∃ k : Nat, i - x.ix = (k : Int) := ⟨(i - x.ix).toNat, by have := HLE.out; omega⟩
    have hkn := HKK.out rfl
    have hkE : k ≤ E0.length := by omega
    have hws : IntKind.i64.wrap (i - x.ix) = (k : Int) := by rw [hk]; exact IntWalk.i64_in (k : Int) (by have := HFEW.out; omega)
    have hsh := hE1.out.shape
    obtain ⟨ix, hix⟩ : ∃ ix, x.ix = ix := ⟨_, rfl⟩
    rw [hix] at c0 hws
    rcases hsh with ⟨rfl, rfl, rfl, hE00⟩ | ⟨gg, rfl, hn0, hnc, hcm⟩
    · obtain rfl : k = 0 := by omega
      have HCL : Hid (∀ V, Calls Try.prog 33 #[.slice none 0 0] V fun e w' => (∃ p' n' c', e = .returned (.slice p' n' c')) ∧ Below V.heap.size V w') := hide fun V => cloneE_any (Ecs.nil V) (by simp)
      clear hEl hkE hkn hk HKK hE00 hix
      go_wp2_with fail
      go_region_law (go_simp; refine (HCL.out _).mono ?_; rintro e w5 ⟨⟨p5, n5, c5, rfl⟩, hb5⟩; have HB5 : Hid (Below w3.heap.size w3 w5) := hide ((bel_drewN (Below.refl _ w3) 1).trans hb5); have hl5 := (HLO.out _ HB5.out).1; have y0 := (HLO.out _ HB5.out).2.1; have y1 := (HLO.out _ HB5.out).2.2.1; have g0 := hl5.fr 0 (by omega); have g1 := hl5.fr 1 (by omega); have g2 := hl5.fr 2 (by omega); have d0 := hl5.c0; have d1 := hl5.c1; obtain ⟨_, _, _, _, d2, _, _, _, _⟩ := hl5.c2; clear hl5 hb5)
      all_goals
        go_wp2
        go_ret
        exact ⟨rfl, HZ3.out _ _ _ _ (HBW.out _ (by first | exact HB5.out | exact bel_drewN HB5.out 1))⟩
    · have hecs := hE1.out.ecs
      by_cases hck : cc0 = k
      · have hnk : n0 = k := by omega
        subst hck
        subst hnk
        have HCL : Hid (∀ V a b, a = 0 → b = 0 → Calls Try.prog 33 #[.slice (some ⟨gg, 0, none⟩) a b] V fun e w' => (∃ p' n' c', e = .returned (.slice p' n' c')) ∧ Below V.heap.size V w') := hide fun V a b ha hb => by
          subst ha hb
          exact cloneE_any (Ecs.none_ V _ 0 (Nat.zero_le _) (fun e => by cases e)) (by simp)
        have hm : n0 ≤ 9223372036854775807 := by unfold maxLen at hcm; omega
        clear hEl hkE hkn hk HKK hix hecs hn0 hnc hcm
        go_wp2_with fail
        go_region_law (go_simp; refine (HCL.out _ _ _ (by omega) (by omega)).mono ?_; rintro e w5 ⟨⟨p5, n5, c5, rfl⟩, hb5⟩; have HB5 : Hid (Below w3.heap.size w3 w5) := hide ((bel_drewN (Below.refl _ w3) 1).trans hb5); have hl5 := (HLO.out _ HB5.out).1; have y0 := (HLO.out _ HB5.out).2.1; have y1 := (HLO.out _ HB5.out).2.2.1; have g0 := hl5.fr 0 (by omega); have g1 := hl5.fr 1 (by omega); have g2 := hl5.fr 2 (by omega); have d0 := hl5.c0; have d1 := hl5.c1; obtain ⟨_, _, _, _, d2, _, _, _, _⟩ := hl5.c2; clear hl5 hb5)
        all_goals
          go_wp2
          go_ret
          exact ⟨rfl, HZ3.out _ _ _ _ (HBW.out _ (by first | exact HB5.out | exact bel_drewN HB5.out 1))⟩
      · have hkn0 : k ≤ n0 := by omega
        have HCL : Hid (∀ V, Below w3.heap.size w3 V → Calls Try.prog 33 #[.slice (some ⟨gg, k * 3, none⟩) (n0 - k) (cc0 - k)] V fun e w' => (∃ p' n' c', e = .returned (.slice p' n' c')) ∧ Below V.heap.size V w') := hide fun V hV => by
          obtain ⟨o, ho, hec⟩ := (hecs.below hV).rest hkn0
          rw [if_neg hck] at ho
          injection ho with ho
          injection ho with _ ho
          subst ho
          exact cloneE_any hec (by rw [List.length_drop]; have := HFEW.out; omega)
        have hm : cc0 ≤ 9223372036854775807 := by unfold maxLen at hcm; omega
        have hkc : k ≤ cc0 := by omega
        have j2 : (k : Int) ≤ (n0 : Int) := by omega
        have j3 : (n0 : Int) ≤ (cc0 : Int) := by omega
        clear hEl hkE hkn hk HKK hix hecs hn0 hcm
        go_wp2_with fail
        go_region_law (go_simp; refine (HCL.out _ (bel_drewN (Below.refl _ w3) 1)).mono ?_; rintro e w5 ⟨⟨p5, n5, c5, rfl⟩, hb5⟩; have HB5 : Hid (Below w3.heap.size w3 w5) := hide ((bel_drewN (Below.refl _ w3) 1).trans hb5); have hl5 := (HLO.out _ HB5.out).1; have y0 := (HLO.out _ HB5.out).2.1; have y1 := (HLO.out _ HB5.out).2.2.1; have g0 := hl5.fr 0 (by omega); have g1 := hl5.fr 1 (by omega); have g2 := hl5.fr 2 (by omega); have d0 := hl5.c0; have d1 := hl5.c1; obtain ⟨_, _, _, _, d2, _, _, _, _⟩ := hl5.c2; clear hl5 hb5)
        all_goals
          go_wp2
          go_ret
          exact ⟨rfl, HZ3.out _ _ _ _ (HBW.out _ (by first | exact HB5.out | exact bel_drewN HB5.out 1))⟩
end Go.Proofs.Ytmalhdiholblgaa
