/- The document's Add and Cut. -/
import Derived.Test.YtmalhdiholblgaaLRgO
namespace Go.Proofs.Ytmalhdiholblgaa
set_option linter.unusedVariables false
set_option linter.unusedSimpArgs false
open Go.RowKit

theorem Dat.app {w : World} {E E' : List Ec} {L L' : List En} (h : Dat w E L) (h' : Dat w E' L') : Dat w (E ++ E') (L ++ L') := ⟨by rw [List.length_append, List.length_append, h.1, h'.1], fun k e x h1 h2 => by
  by_cases hk : k < E.length
  · rw [List.getElem?_append_left hk] at h1
    rw [List.getElem?_append_left (by rw [← h.1]; exact hk)] at h2
    exact h.2 k e x h1 h2
  · rw [List.getElem?_append_right (by omega)] at h1
    rw [List.getElem?_append_right (by rw [← h.1]; omega), ← h.1] at h2
    exact h'.2 _ e x h1 h2⟩
/-- What a call of the document's ledger leaves. -/
def RetG (w0 : World) (B g : Nat) (R : Int × Lg) (w : World) (e : Ending) (w' : World) : Prop := e = .returned (.int .i64 R.1) ∧ RgOwn w0 B w' g R.2 ∧ Chg w w' (fun k => k = g) ∧ ∀ k, Rb w' g k → Rb w g k ∨ w.heap.size ≤ k
theorem RetG.mk {w0 : World} {B g : Nat} {R : Int × Lg} {w w' : World} {c : Int} {y : Lg} (hR : R = (c, y)) (h : RgOwn w0 B w' g y ∧ Chg w w' (fun k => k = g) ∧ ∀ k, Rb w' g k → Rb w g k ∨ w.heap.size ≤ k) : RetG w0 B g R w (.returned (.int .i64 c)) w' := by
  subst hR
  exact ⟨rfl, h⟩
/-- Another row for the document's ledger. -/
theorem RgOwn.swap {w0 : World} {B : Nat} {w w1 : World} {g : Nat} {x : Lg} {p : Option Addr} {n c : Nat} {E : List Ec} {L : List En} (h : RgOwn w0 B w g x) (hb : Below w.heap.size w w1) (hE : OwnE B w1 (.slice p n c) E) (hD : Dat w0 E L) (hne : (Value.slice p n c).ownBlock ≠ some g) (hok : (Lg.mk x.ix x.tm L).Ok) (hfew : L.length ≤ 100000) (hrow : ∀ k, (Value.slice p n c).ownBlock = some k → Rb w g k ∨ w.heap.size ≤ k) :
    RgOwn w0 B (w1.setCell ⟨g, 2, none⟩ (.slice p n c)) g ⟨x.ix, x.tm, L⟩ ∧ Chg w (w1.setCell ⟨g, 2, none⟩ (.slice p n c)) (fun k => k = g) ∧ ∀ k, Rb (w1.setCell ⟨g, 2, none⟩ (.slice p n c)) g k → Rb w g k ∨ w.heap.size ≤ k := by
  have h1 := h.below hb
  obtain ⟨p', n', c', E', k2, _⟩ := h1.c2
  have ho : ∀ i, i ≠ 2 → (w1.setCell ⟨g, 2, none⟩ (.slice p n c)).cell? ⟨g, i, none⟩ = w1.cell? ⟨g, i, none⟩ := fun i hi => World.cell?_setCell_other _ _ _ _ (by simp <;> omega)
  refine ⟨⟨h.hB, (ho 0 (by omega)).trans h1.c0, (ho 1 (by omega)).trans h1.c1, ⟨p, n, c, E, World.cell?_setCell_same _ _ _ k2, hE.grown (grown_set _ _ _ _) (.inr hne), hD, hne⟩, fun i hi => ?_, hok, hfew⟩, (Chg.of_below hb _).set _ (.inl rfl), fun k ⟨p1, n1, c1, e1, hk⟩ => ?_⟩
  · rw [World.frozen?_setCell]
    exact h1.fr i hi
  · rw [World.cell?_setCell_same _ _ _ k2] at e1
    injection e1 with e1
    rw [← e1] at hk
    exact hrow k hk
theorem RgOwn.refused {w0 : World} {B : Nat} {w w1 : World} {g : Nat} {x : Lg} (h : RgOwn w0 B w g x) (hb : Below w.heap.size w w1) : RgOwn w0 B w1 g x ∧ Chg w w1 (fun k => k = g) ∧ ∀ k, Rb w1 g k → Rb w g k ∨ w.heap.size ≤ k := ⟨h.below hb, Chg.of_below hb _, fun k ⟨p, n, c, h1, h2⟩ => .inl ⟨p, n, c, (hb.cell (p := ⟨g, 2, none⟩) (show g < w.heap.size from lt_of_cell h.c0)).symm.trans h1, h2⟩⟩
set_option maxRecDepth 200000 in
set_option maxHeartbeats 4000000 in
theorem refAddF_any {w0 : World} {B : Nat} {w : World} {g : Nat} {x : Lg} (h : RgOwn w0 B w g x) (hb0 : Below w0.heap.size w0 w) {v : Value} {L : List En} (hv : Ens w0 v L) (hL : x.l.length + L.length ≤ 100000) (hB : B ≤ w.heap.size) : Calls Try.prog 18 #[.pointer (some ⟨g, 0, none⟩), v] w (RetG w0 B g (addR x L) w) := by
  obtain ⟨p, n, c, rfl⟩ := hv.sl
  have HLA := hide (refLast_any (h.is hb0))
  have HRI := hide (fun V (hV : Below w.heap.size w V) => refRises_any (tm := x.end_.2) ((hv.below hb0).below hV) (end_fits h.ok) (by omega))
  have HLG := hide h
  have HBB := hide hB
  have HLL := hide hL
  have HV := hide ((hv.below hb0))
  have HV0 := hide hv
  have HB0 := hide hb0
  have hq0 : goOn x.end_.1 x.end_.2 L = rises x.end_.1 x.end_.2 L := goOn_rises (by rw [Lg.end_1 h.ok]; exact end_far h.ok)
  obtain ⟨q, hq⟩ : ∃ q, rises x.end_.1 x.end_.2 L = q := ⟨_, rfl⟩
  rw [hq] at hq0
  have HQ := hide hq0
  simp only [hq] at HRI
  obtain ⟨a, ha⟩ : ∃ a, x.end_.1 = a := ⟨_, rfl⟩
  obtain ⟨b, hb⟩ : ∃ b, x.end_.2 = b := ⟨_, rfl⟩
  rw [ha, hb] at HLA
  simp only [ha, hb] at HRI
  obtain ⟨R, hR⟩ : ∃ R, addR x L = R := ⟨_, rfl⟩
  rw [hR]
  have HR := hide hR
  clear h hb0 hv hL hB hq0 hq ha hb hR
  go_enter Try.func18, Try.ntmps18
  go_wp2_with fail
  refine HLA.out.mono ?_
  rintro e w2 ⟨rfl, hb2⟩
  have HB2 := hide hb2
  clear hb2
  go_wp2_with fail
  refine (HRI.out _ HB2.out).mono ?_
  rintro e w3 ⟨rfl, hb3⟩
  have HB3 := hide (HB2.out.trans (hb3.mono HB2.out.size))
  clear hb3
  cases q
  · have HX : Hid (R = (110, x)) := hide (by rw [← HR.out]; unfold addR; rw [if_neg (by rw [HQ.out]; simp)])
    go_wp2
    go_ret
    exact RetG.mk HX.out (HLG.out.refused HB3.out)
  · have HX : Hid (R = (0, ⟨x.ix, x.tm, x.l ++ L⟩)) := hide (by rw [← HR.out]; unfold addR; rw [if_pos HQ.out])
    obtain ⟨p0, n0, c0, E0, k2, hE0, hD0, hne0⟩ := (HLG.out.below HB3.out).c2
    have bE := (Below.refl w3.heap.size w3).alloc (Nat.le_refl _) (.cells #[] 48)
    have oE : OwnE w3.heap.size (w3.alloc (.cells #[] 48)) (.slice (some ⟨w3.heap.size, 0, none⟩) 0 0) [] := World.ownsRow_lit w3 #[] 0 (Nat.le_refl _) (by decide) rfl
    obtain ⟨Em, hEm, hDm⟩ := HV0.out
    have hEm1 := (hEm.below HB0.out).below HB3.out
    obtain ⟨Z, hZ⟩ : ∃ Z, w3.alloc (.cells #[] 48) = Z := ⟨_, rfl⟩
    rw [hZ] at bE oE
    have k2z := (bE.cell (lt_of_cell k2)).trans k2
    have HK3 := hide k2
    have HGL : Hid (g < w3.heap.size) := hide (lt_of_cell k2)
    have HOE := hide oE
    have HE0 := hide (And.intro (hE0.ecs.below bE) hD0)
    have HEm := hide (And.intro hEm1 hDm)
    have HBE := hide bE
    have HFZ := hide ((HLG.out.below HB3.out).fr 2 (by omega))
    have HLE : Hid (E0.length + Em.length ≤ 100000) := hide (by rw [hD0.1, hDm.1]; exact HLL.out)
    have HZB : Hid (∀ V bs, w3.heap.size = bs → Below bs Z V → Below w3.heap.size w3 V) := hide fun V bs e hV => by subst e; exact bE.trans hV
    have HW3 := hide (And.intro HB3.out.size bE.size)
    obtain ⟨bs, hbs⟩ : ∃ bs, w3.heap.size = bs := ⟨_, rfl⟩
    rw [hbs] at HOE HBE HGL
    have HBS := hide hbs
    clear bE oE hE0 hD0 hne0 hEm hDm hEm1 k2
    go_wp2_with (at_builtin; first
      | (refine wpList_pushesE2 (v := .slice (some ⟨bs, 0, none⟩) 0 0) (u := .slice p0 n0 c0) (l := []) (m := E0) (B := bs) rfl (.tmp 18) (.tmp 22) rfl rfl rfl rfl HOE.out HE0.out.1 (by have := HW3.out.2; have := HBS.out; omega) (by have := HLE.out; simp; omega) ?_; intro v4 w4 ho4 hb4 hg4 he4; rw [List.nil_append] at ho4; obtain ⟨p4, n4, c4, rfl⟩ := ho4.ecs.sl; have HO4 := hide ho4; have HB4 := hide hb4; have HM4 := hide (HEm.out.1.below (HZB.out w4 bs HBS.out hb4)); have HS4 : Hid (bs ≤ w4.heap.size) := hide (by have := HW3.out.2; have := HBS.out; have := hb4.size; omega); clear ho4 hb4 hg4 he4)
      | (go_loud (refine wpList_pushesE2 (v := .slice p4 n4 c4) (u := .slice p n c) (l := E0) (m := Em) (B := bs) rfl (.tmp 23) (.tmp 24) rfl rfl rfl rfl HO4.out HM4.out HS4.out (by have := HLE.out; omega) ?_); intro v5 w5 ho5 hb5 hg5 he5; obtain ⟨p5, n5, c5, rfl⟩ := ho5.ecs.sl; have HO5 := hide ho5; have HB5 := hide (HZB.out w5 bs HBS.out (HB4.out.trans hb5)); have k5 := (HB5.out.cell (lt_of_cell HK3.out)).trans HK3.out; have f5 := (HB5.out.frozen (p := ⟨g, 2, none⟩) (lt_of_cell HK3.out)).trans HFZ.out; clear ho5 hb5 hg5 he5))
    go_ret
    have hbw5 : Below w.heap.size w w5 := HB3.out.trans (HB5.out.mono HB3.out.size)
    exact RetG.mk HX.out (HLG.out.swap hbw5 (HO5.out.mono (by have h1 := HBB.out; have h2 := HW3.out.1; have h3 := HBS.out; omega)) (HE0.out.2.app HEm.out.2) (fun e => by have h1 := (HO5.out.lt _ e).1; have h2 := HGL.out; omega) (HLG.out.ok.add HQ.out) (by rw [List.length_append]; exact HLL.out) (fun k hk => .inr (by have h1 := (HO5.out.lt k hk).1; have h2 := HW3.out.1; have h3 := HBS.out; omega)))
end Go.Proofs.Ytmalhdiholblgaa
