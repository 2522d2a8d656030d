/- Clone. -/
import Derived.Test.YtimjplkehlgelaaGreatSoImg
namespace Go.Proofs.YtimjplkehlgelaaGreat
set_option linter.unusedVariables false
set_option linter.unusedSimpArgs false
open Go.RowKit

/-- The traces that a range has passed. -/
def pastR (R : List Tr) (left : Lit → Bool) : List Tr := R.filter fun x => !left (.int .i64 x.t)
theorem pastR_all {R : List Tr} {left : Lit → Bool} (h : ∀ k, left k = false) : pastR R left = R := List.filter_eq_self.2 fun x hx => by rw [h]; rfl
theorem pastR_none {R : List Tr} {left : Lit → Bool} (h : ∀ x ∈ R, left (.int .i64 x.t) = true) : pastR R left = [] := List.filter_eq_nil_iff.2 fun x hx => by rw [h x hx]; simp
theorem pastR_step {R : List Tr} (h : RisesK kR R) {left : Lit → Bool} {x : Tr} (hx : x ∈ R) (hl : left (.int .i64 x.t) = true) : insK kP ((pastR R left).map Tr.pl) x.pl = (pastR R fun z => left z && !z.sameKey (.int .i64 x.t)).map Tr.pl := by
  rw [← insK_map Tr.pl kR_pl]
  congr 1
  refine risesK_ext ((h.sub List.filter_sublist).ins x) (h.sub List.filter_sublist) fun y => ?_
  rw [mem_insK_iff (show RisesK kR (pastR R left) from h.sub List.filter_sublist)]
  unfold pastR
  rw [List.mem_filter, List.mem_filter]
  dsimp only
  rw [same_int]
  constructor
  · rintro (rfl | ⟨⟨hy, hn⟩, hne⟩)
    · exact ⟨hx, by simp⟩
    · refine ⟨hy, ?_⟩
      simp at hn
      simp [hn]
  · rintro ⟨hy, hn⟩
    by_cases e : y.t = x.t
    · exact .inl (eq_of_idK h hy hx e)
    · refine .inr ⟨⟨hy, ?_⟩, e⟩
      simpa [e] using hn
theorem SoOk.sub {S T : List Pl} (h : SoOk S) (hs : T.Sublist S) : SoOk T := ⟨h.rises.sub hs, fun y hy => h.ok y (hs.subset hy), Nat.le_trans hs.length_le h.len⟩
theorem pastR_ok {R : List Tr} (h : SoOk (R.map Tr.pl)) (left : Lit → Bool) : SoOk ((pastR R left).map Tr.pl) := h.sub (List.Sublist.map _ List.filter_sublist)
theorem pl_find {R R2 : List Tr} {t : Int} {left : Lit → Bool} (h : R2.map Tr.pl = (pastR R left).map Tr.pl) (hl : left (.int .i64 t) = true) : fndK kR R2 t = none := by
  rw [fndK_none]
  intro y hy e
  have h1 : y.pl ∈ R2.map Tr.pl := List.mem_map.2 ⟨y, hy, rfl⟩
  rw [h] at h1
  obtain ⟨z, hz, ez⟩ := List.mem_map.1 h1
  have h2 := (List.mem_filter.1 hz).2
  have h3 : z.t = y.t := congrArg Prod.fst ez
  have e' : y.t = t := e
  rw [h3, e', hl] at h2
  cases h2
set_option maxRecDepth 200000 in
set_option maxHeartbeats 4000000 in
theorem stclone {w : World} {gs bm : Nat} {R : List Tr} (h : SoIs w gs bm R) : Calls Tryz.prog 13 #[.pointer (some ⟨gs, 0, none⟩)] w (NewSo w (R.map Tr.pl)) := by
  have HM := hide (smade_any h.c0)
  have HH := hide h
  have hL8 := h.len
  have HRI := hide h.rises
  clear h
  go_enter Tryz.func13, Tryz.ntmps13
  go_wp2_with fail
  refine HM.out.mono ?_
  rintro e W ⟨rfl, q, hq⟩
  have hcW : Below w.heap.size w W := by rw [hq]; exact bdrew w q
  clear hq
  have HCW := hide hcW
  clear hcW
  go_wp2_with fail
  refine (snew_any W).mono ?_
  intro e X hn
  obtain ⟨g2, b2, R0, rfl, hs0, hr0, hn0, hbX⟩ := hn
  obtain rfl : R0 = [] := by simpa using hr0
  have hX := HH.out.below (HCW.out.trans (hbX.mono HCW.out.size))
  have c0 := hX.c0
  obtain ⟨D, hD⟩ := hX.map
  have hown := hD.map
  have HD := hide hD
  have HX := hide hX
  have HCX := hide (HCW.out.trans (hbX.mono HCW.out.size))
  have hbX := hX.lt bm (.inr (.inl rfl))
  have hgX := hX.lt gs (.inl rfl)
  have hgb : gs ≠ bm := hX.ne
  have hg2 := hn0 g2 (.inl rfl)
  have hb2 := hn0 b2 (.inr (.inl rfl))
  have hg2X := hs0.lt g2 (.inl rfl)
  have hb2X := hs0.lt b2 (.inr (.inl rfl))
  have hbw := HH.out.lt bm (.inr (.inl rfl))
  have hgw := HH.out.lt gs (.inl rfl)
  have hww := HCW.out.size
  have HS0 := hide hs0
  clear hX hD hs0 hr0 hn0
  go_wp2_with (first | (at_range; refine wpList_range_own _ rfl _ 68 rfl 3 71 intK Tryz.underlying68 _ bm R.length D rfl hown ?_; intro w0 hrg0 hg0 hsz0) | go_in)
  go_frame
  have hc0' : Below X.heap.size X w0 := ⟨hg0.os, hg0.tape, hg0.output, hg0.size, fun k hk => hg0.block k hk (by simp)⟩
  have hpn : pastR R (Maps.has D) = [] := pastR_none fun x hx => by rw [HD.out.rd.keys, show fndK kR R x.t = some x from fndK_of HD.out.rd.rises.ids hx]; rfl
  have HRG := hide hrg0
  have H0 := hide (And.intro hpn (And.intro hc0' (HS0.out.below hc0')))
  have hsz0' : X.heap.size + 1 ≤ w0.heap.size := by omega
  clear hrg0 hg0 hsz0 hc0' hown hpn
  go_loopw [4, 5] (fun _ _ wr => ∃ left cnt R2, wr.ranges Tryz.prog 3 heldP bm X.heap.size R.length D left cnt ∧ SoIs wr g2 b2 R2 ∧ R2.map Tr.pl = (pastR R left).map Tr.pl ∧ (∀ k, SoS g2 b2 R2 k → w.heap.size ≤ k ∧ k ≠ X.heap.size) ∧ Below w.heap.size w wr ∧ (∀ x ∈ R, FoIs wr x.g x.b x.t x.L) ∧ X.heap.size + 1 ≤ wr.heap.size) (fun _ _ wr => wr.rangeLeft bm X.heap.size)
  case atStart => exact ⟨_, _, [], HRG.out, H0.out.2.2, by rw [H0.out.1], (fun k hk => by rcases soS_nil.1 hk with rfl | rfl <;> exact ⟨by omega, by omega⟩), HCX.out.trans (H0.out.2.1.mono HCX.out.size), (fun x hx => (HX.out.fo x hx).below H0.out.2.1), hsz0'⟩
  case round =>
    obtain ⟨left, cnt, R2, hrg, hso, hpl, hnew, hbel, hfo, hsz⟩ := hrel
    have HRG2 := hide hrg
    have HSO := hide (And.intro hso (And.intro hpl (And.intro hnew (And.intro hbel hfo))))
    have cg : wr.cell? ⟨g2, 0, none⟩ = some (.map (some b2)) := hso.c0
    clear hso hpl hnew hbel hfo
    go_wp2_with (first | (at_next; refine wpList_next_ranges _ rfl _ rfl 3 intK heldP (Value.int .i64) Value.pointer (fun key kl h => keyR_inv h) (fun v y h => (heldP_ptr h).1) bm X.heap.size R.length D left cnt rfl hrg ?_ ?_) | go_in)
    · intro hc0 hl0
      have HDA := hide (pastR_all (R := R) hl0)
      clear hrg
      go_wp2
      go_ret
      refine ⟨g2, b2, R2, rfl, HSO.out.1, ?_, fun k hk => (HSO.out.2.2.1 k hk).1, HSO.out.2.2.2.1⟩
      rw [HSO.out.2.1, HDA.out]
    · intro k c kl y1 ps w1 cnt1 hkey hlk hv hat hrg1 hlt hg1 hs1 hen
      obtain ⟨x, hx, rfl, rfl, rfl⟩ := HD.out.rd.came (y := (y1, ps)) hkey hv hat
      have HXR := hide (And.intro hx hlk)
      have hb1 : Chg wr w1 (fun k => k = X.heap.size) := Chg.of_grown hg1 _ (fun k e => by injection e with e; exact .inl e.symm)
      have hso1 := HSO.out.1.chg hb1 (fun k hk => (HSO.out.2.2.1 k hk).2)
      have hlx := (HH.out.fo x hx).lt
      have hXw := HCX.out.size
      have hfo1 : ∀ y ∈ R, FoIs w1 y.g y.b y.t y.L := fun y hy => by
        have := (HH.out.fo y hy).lt
        exact (HSO.out.2.2.2.2 y hy).chg hb1 (by omega) (by omega)
      obtain ⟨D2, hD2⟩ := hso1.map
      have hyo := HH.out.ok.ok x.pl (List.mem_map.2 ⟨x, hx, rfl⟩)
      have hwf : (Lit.int .i64 x.t).wf = true := WalkArith.wf_i64 (by have h1 : 1 ≤ x.t := hyo.2.2.1; have h2 : x.t ≤ 1099511627776 := hyo.2.2.2; omega)
      have hR2 : R2.length < maxLen := by have := hso1.len; simp [maxLen]; omega
      have cg1 : w1.cell? ⟨g2, 0, none⟩ = some (.map (some b2)) := hso1.c0
      have HCL : Hid (∀ V, Below w1.heap.size w1 V → Calls Tryz.prog 33 #[.pointer (some ⟨x.g, 0, none⟩)] V fun e w' => ∃ g' b', e = .returned (.pointer (some ⟨g', 0, none⟩)) ∧ FoIs w' g' b' x.t x.L ∧ V.heap.size ≤ g' ∧ V.heap.size ≤ b' ∧ Below V.heap.size V w') := hide fun V hV => fclone_any ((hfo1 x hx).below hV)
      have HRG1 := hide hrg1
      have HLT := hide hlt
      have hsz1 : X.heap.size + 1 ≤ w1.heap.size := by omega
      have hb2w : b2 < w1.heap.size := by omega
      have HD2 := hide (And.intro hD2 (And.intro hwf hR2))
      have H1 := hide (And.intro hb1 (And.intro hso1 (And.intro hfo1 hyo)))
      have CG1 := hide cg1
      obtain ⟨t, g, b, L⟩ := x
      dsimp only at *
      clear hrg1 hrg hkey hv hat hlk hg1 hs1 hlt hx hb1 hso1 hfo1 hD2 hyo hwf hR2 cg
      go_wp2_with fail
      go_region_law
        (go_simp; go_at_call 33; refine (HCL.out _ (by first | exact Below.refl _ _ | exact bdrew _ 1)).mono ?_; intro e5 w5 hp5; obtain ⟨g', b', rfl, hf5, hg5, hb5, hB5⟩ := hp5; have HB5 : Hid (Below w1.heap.size w1 w5) := hide (by first | exact hB5 | exact (bdrew w1 1).trans hB5); obtain ⟨w6, D6, hrun, hg6, hm6⟩ := (HD2.out.1.below HB5.out).store (x := ⟨t, g', b', []⟩) HD2.out.2.1 HD2.out.2.2; have cg5 : w5.cell? ⟨g2, 0, none⟩ = some (.map (some b2)) := (HB5.out.cell (lt_of_cell CG1.out)).trans CG1.out; have H5 := hide (And.intro hf5 (And.intro (show w1.heap.size ≤ g' from hg5) (And.intro (show w1.heap.size ≤ b' from hb5) (And.intro hg6 hm6)))); dsimp only at hrun; clear hf5 hg5 hb5 hB5 hg6 hm6)
      all_goals
        have hc6 : Chg w5 w6 (fun k => k = b2) := Chg.of_grown H5.out.2.2.2.1 _ (fun k e => by injection e with e; exact .inl e.symm)
        have hc16 : Chg w1 w6 (fun k => k = b2) := (Chg.of_below HB5.out _).trans hc6 fun k hk => .inl hk
        have hg16 : w1.grownBy w6 (some b2) := ⟨hc16.os, hc16.tape, hc16.output, hc16.size, fun k hk hn => hc16.block k hk fun e => hn (by rw [e])⟩
        have hf6 := H5.out.1.chg hc6 (by have := H5.out.2.1; omega) (by have := H5.out.2.2.1; omega)
        have hpn : R2.map Tr.pl = (pastR R left).map Tr.pl := HSO.out.2.1
        have hstep := pastR_step HRI.out (left := left) HXR.out.1 HXR.out.2
        have hok : SoOk (insK kP (R2.map Tr.pl) (t, L)) := by
          rw [hpn]
          have := pastR_ok HH.out.ok (fun z => left z && !z.sameKey (.int .i64 t))
          rw [← hstep] at this
          exact this
        have hso6 := H1.out.2.1.new_ (g0 := 0) (pl_find hpn HXR.out.2) hf6 H5.out.2.1 H5.out.2.2.1 hc16 H5.out.2.2.2.2 hok
        have hrg6 := ranges_chgB HRG1.out hg16 (by simp; omega) (by simp; omega)
        have HR6 := hide hrg6
        have H6 : Hid (∃ left cnt R2, w6.ranges Tryz.prog 3 heldP bm X.heap.size R.length D left cnt ∧ SoIs w6 g2 b2 R2 ∧ R2.map Tr.pl = (pastR R left).map Tr.pl ∧ (∀ k, SoS g2 b2 R2 k → w.heap.size ≤ k ∧ k ≠ X.heap.size) ∧ Below w.heap.size w w6 ∧ (∀ x ∈ R, FoIs w6 x.g x.b x.t x.L) ∧ X.heap.size + 1 ≤ w6.heap.size) := hide (by
          refine ⟨_, _, _, hrg6, hso6, ?_, fun k hk => ?_, ?_, fun y hy => ?_, by have := hc16.size; omega⟩
          · rw [insK_map Tr.pl kR_pl, hpn]
            exact hstep
          · rcases soS_ins H1.out.2.1.rises hk with h1 | h1 | h1
            · exact HSO.out.2.2.1 k h1
            · have h2 : k = g' := h1
              have := H5.out.2.1
              exact ⟨by omega, by omega⟩
            · have h2 : k = b' := h1
              have := H5.out.2.2.1
              exact ⟨by omega, by omega⟩
          · exact Chg.to_below (Chg.to_below HSO.out.2.2.2.1 H1.out.1 fun k hk => by rw [hk]; exact hXw) hc16 fun k hk => by rw [hk]; omega
          · have := (HH.out.fo y hy).lt
            exact (H1.out.2.2.1 y hy).chg hc16 (by omega) (by omega))
        clear hc6 hc16 hg16 hf6 hpn hstep hok hso6 hrg6
        go_wp2
        go_roundw
        case rel => exact H6.out
        case measure => rw [HR6.out.left_eq, HRG2.out.left_eq]; exact HLT.out
end Go.Proofs.YtimjplkehlgelaaGreat
