/- The law SpanOrders. -/
import Derived.Test.YtllpminhcfbkcabLawSpSame
import Derived.Test.YtllpminhcfbkcabSpRefSort
import Derived.Test.YtllpminhcfbkcabSpPush2
namespace Go.Proofs.Ytllpminhcfbkcab
set_option linter.unusedVariables false
set_option linter.unusedSimpArgs false
open Go.RowKit

theorem own_first {B : Nat} {w : World} {v : Value} {l : List Sp} {x : Sp} (h : OwnS B w v (l ++ [x])) : ∃ g n c y, v = .slice (some ⟨g, 0, none⟩) n c ∧ 0 < n ∧ B ≤ g ∧ w.cell? ⟨g, 1, none⟩ = some (.int .i64 y) ∧ w.frozen? ⟨g, 1, none⟩ = false := by
  have h' := h
  obtain ⟨_, ⟨_, e⟩ | ⟨g, cap, cur, rfl, hB, hh, _⟩⟩ := h'
  · simp at e
  · have h0 : 0 < (l ++ [x]).length := by simp
    have hx : (l ++ [x])[0]? = some ((l ++ [x])[0]'h0) := List.getElem?_eq_getElem _
    have := (sps_at h 0 _ hx).c1
    rw [Nat.zero_mul, Nat.zero_add] at this
    exact ⟨g, _, cap, _, rfl, h0, hB, this, frozen_of_row w g 1 cur 23 hh⟩
theorem below_set {B : Nat} {w V : World} (h : Below B w V) {g i : Nat} {x : Value} (hB : B ≤ g) : Below B w (V.setCell ⟨g, i, none⟩ x) :=
  ⟨h.os, h.tape, h.output, by have := h.size; simpa [World.setCell] using this, fun k hk => (heap_setCell_other V ⟨g, i, none⟩ k _ (by simp; omega)).trans (h.block k hk)⟩

/-- What the law reads of a world. -/
def OrS (V : World) (b : Nat) (x y : Sp) : Prop :=
  V.cell? ⟨b, 0, none⟩ = some (.int .i64 x.t) ∧ V.cell? ⟨b, 1, none⟩ = some (.int .i64 x.i) ∧ V.cell? ⟨b, 2, none⟩ = some (.int .i64 x.p) ∧ V.cell? ⟨b, 3, none⟩ = some (.int .i64 x.s) ∧ V.cell? ⟨b, 4, none⟩ = some (.int .i64 x.e) ∧ V.cell? ⟨b, 5, none⟩ = some (.string x.n) ∧
  V.cell? ⟨b + 1, 0, none⟩ = some (.int .i64 y.t) ∧ V.cell? ⟨b + 1, 1, none⟩ = some (.int .i64 y.i) ∧ V.cell? ⟨b + 1, 2, none⟩ = some (.int .i64 y.p) ∧ V.cell? ⟨b + 1, 3, none⟩ = some (.int .i64 y.s) ∧ V.cell? ⟨b + 1, 4, none⟩ = some (.int .i64 y.e) ∧ V.cell? ⟨b + 1, 5, none⟩ = some (.string y.n)

set_option maxRecDepth 200000 in
set_option maxHeartbeats 4000000 in
theorem lawOrders_any {w : World} {v : Value} {x y : Sp} {l : List Sp} (hx9 : x.n.size ≤ maxLen) (hy9 : y.n.size ≤ maxLen) (hv : Sps w v l) (hn9 : ∀ x ∈ l, x.n.size ≤ maxLen) (hbig : l.length * 56 ≤ 140737488351232) : Calls Try.prog 8 #[spV x, spV y, v] w fun e w' => e = .returned (.bool true) ∧ Below w.heap.size w w' := by
  obtain ⟨p, n, c, rfl⟩ := hv.sl
  have HA := hide awake_any
  have HV := hide hv
  obtain ⟨t, i, p', s, e, nm⟩ := x
  obtain ⟨t', i', q', s', e', nm'⟩ := y
  unfold spV
  dsimp only at *
  have b1 := (Below.refl w.heap.size w).alloc (Nat.le_refl _) (.cells #[.int .i64 t, .int .i64 i, .int .i64 p', .int .i64 s, .int .i64 e, .string nm] 23)
  have b2 := b1.alloc b1.size (.cells #[.int .i64 t', .int .i64 i', .int .i64 q', .int .i64 s', .int .i64 e', .string nm'] 23)
  have b3 := b2.alloc b2.size (.cells #[.int .i64 t, .int .i64 i, .int .i64 p', .int .i64 s, .int .i64 e, .string nm, .int .i64 t', .int .i64 i', .int .i64 q', .int .i64 s', .int .i64 e', .string nm'] 23)
  have s1 : (w.alloc (.cells #[.int .i64 t, .int .i64 i, .int .i64 p', .int .i64 s, .int .i64 e, .string nm] 23)).heap.size = w.heap.size + 1 := by simp
  have s2 : ((w.alloc (.cells #[.int .i64 t, .int .i64 i, .int .i64 p', .int .i64 s, .int .i64 e, .string nm] 23)).alloc (.cells #[.int .i64 t', .int .i64 i', .int .i64 q', .int .i64 s', .int .i64 e', .string nm'] 23)).heap.size = w.heap.size + 1 + 1 := by simp
  have o1 := spAt_new w ⟨t, i, p', s, e, nm⟩
  have o2 := spAt_new (w.alloc (.cells #[.int .i64 t, .int .i64 i, .int .i64 p', .int .i64 s, .int .i64 e, .string nm] 23)) ⟨t', i', q', s', e', nm'⟩
  have o3 : OwnS w.heap.size (((w.alloc (.cells #[.int .i64 t, .int .i64 i, .int .i64 p', .int .i64 s, .int .i64 e, .string nm] 23)).alloc (.cells #[.int .i64 t', .int .i64 i', .int .i64 q', .int .i64 s', .int .i64 e', .string nm'] 23)).alloc (.cells #[.int .i64 t, .int .i64 i, .int .i64 p', .int .i64 s, .int .i64 e, .string nm, .int .i64 t', .int .i64 i', .int .i64 q', .int .i64 s', .int .i64 e', .string nm'] 23)) (.slice (some ⟨((w.alloc (.cells #[.int .i64 t, .int .i64 i, .int .i64 p', .int .i64 s, .int .i64 e, .string nm] 23)).alloc (.cells #[.int .i64 t', .int .i64 i', .int .i64 q', .int .i64 s', .int .i64 e', .string nm'] 23)).heap.size, 0, none⟩) 2 2) [⟨t, i, p', s, e, nm⟩, ⟨t', i', q', s', e', nm'⟩] := World.ownsRow_lit ((w.alloc (.cells #[.int .i64 t, .int .i64 i, .int .i64 p', .int .i64 s, .int .i64 e, .string nm] 23)).alloc (.cells #[.int .i64 t', .int .i64 i', .int .i64 q', .int .i64 s', .int .i64 e', .string nm'] 23)) #[.int .i64 t, .int .i64 i, .int .i64 p', .int .i64 s, .int .i64 e, .string nm, .int .i64 t', .int .i64 i', .int .i64 q', .int .i64 s', .int .i64 e', .string nm'] 2 b2.size (by decide) rfl
  rw [s1] at o2
  rw [s2] at o3
  obtain ⟨Y, hY⟩ : ∃ Y, ((w.alloc (.cells #[.int .i64 t, .int .i64 i, .int .i64 p', .int .i64 s, .int .i64 e, .string nm] 23)).alloc (.cells #[.int .i64 t', .int .i64 i', .int .i64 q', .int .i64 s', .int .i64 e', .string nm'] 23)).alloc (.cells #[.int .i64 t, .int .i64 i, .int .i64 p', .int .i64 s, .int .i64 e, .string nm, .int .i64 t', .int .i64 i', .int .i64 q', .int .i64 s', .int .i64 e', .string nm'] 23) = Y := ⟨_, rfl⟩
  rw [hY] at b3 o3
  have q1 : SpAt Y w.heap.size 0 ⟨t, i, p', s, e, nm⟩ := by
    rw [← hY]
    intro k u hk
    exact Lib.cell?_alloc_some _ (Lib.cell?_alloc_some _ (o1 k u hk))
  have q2 : SpAt Y (w.heap.size + 1) 0 ⟨t', i', q', s', e', nm'⟩ := by
    rw [← hY]
    intro k u hk
    exact Lib.cell?_alloc_some _ (o2 k u hk)
  have HB := hide b3
  have HQ := hide (And.intro q1 q2)
  have HO := hide o3
  have HSY := hide b3.size
  have HVY := hide (hv.below b3)
  have hlen : (2 + l.length) * 56 ≤ 140737488355328 := by omega
  have HLEN := hide hlen
  have HN9 := hide hn9
  have HXY := hide (And.intro hx9 hy9)
  clear b1 b2 b3 s1 s2 o1 o2 o3 q1 q2 hlen hn9 hx9 hy9 hv
  go_enter Try.func8, Try.ntmps8
  go_wp2_with (at_builtin; go_must (refine wpList_pushes rfl _ _ rfl rfl rfl rfl HO.out HVY.out HSY.out HLEN.out ?_); intro v2 w2 ho2 hb2 hg2)
  have HB2 := hide (HB.out.trans hb2)
  have hx2 := HQ.out.1.grown hg2 (by show some (w.heap.size + 1 + 1) ≠ some w.heap.size; intro e; injection e with e; omega)
  have hy2 := HQ.out.2.grown hg2 (by show some (w.heap.size + 1 + 1) ≠ some (w.heap.size + 1); intro e; injection e with e; omega)
  have HQ2 := hide (And.intro hx2 hy2)
  have hnames : ∀ z ∈ [⟨t, i, p', s, e, nm⟩, ⟨t', i', q', s', e', nm'⟩] ++ l, z.n.size ≤ maxLen := fun z hz => by
    rcases List.mem_append.1 hz with hz | hz
    · simp only [List.mem_cons, List.not_mem_nil, or_false] at hz
      rcases hz with rfl | rfl
      · exact HXY.out.1
      · exact HXY.out.2
    · exact HN9.out z hz
  have HLI := hide (light_any ho2.sps hnames)
  obtain ⟨p2, n2, c2, rfl⟩ := ho2.sps.sl
  have HV2 := hide (HV.out.below HB2.out)
  clear hx2 hy2 hnames ho2 hb2 hg2
  cases hl : lightL ([⟨t, i, p', s, e, nm⟩, ⟨t', i', q', s', e', nm'⟩] ++ l)
  · rw [hl] at HLI
    clear hl
    refine HLI.out.mono ?_
    rintro e3 w3 ⟨rfl, rfl⟩
    go_wp2_with fail
    refine (HA.out _).mono ?_
    rintro e4 w4 ⟨rfl, hb4⟩
    have HB4 := hide hb4
    clear hb4
    go_wp2
    go_ret
    exact ⟨rfl, bt HB2.out HB4.out⟩
  · rw [hl] at HLI
    obtain ⟨hln, _⟩ := light_names hl
    have hln2 : l.length ≤ 1000 := by simp at hln; omega
    have HLN := hide hln2
    clear hl hln hln2
    refine HLI.out.mono ?_
    rintro e3 w3 ⟨rfl, rfl⟩
    go_wp2_with fail
    refine (cloneSp_any HV2.out (by have := HLN.out; omega)).mono ?_
    rintro e4 w4 ⟨v4, rfl, ho4, hb4⟩
    obtain ⟨p4, n4, c4, rfl⟩ := ho4.sps.sl
    have HO4 := hide ho4.sps
    have HB4 := hide hb4
    clear ho4 hb4
    go_wp2_with fail
    refine (sort_any HO4.out (by have := HLN.out; omega)).mono ?_
    rintro e5 w5 ⟨v5, rfl, ho5, hb5⟩
    obtain ⟨p5, n5, c5, rfl⟩ := ho5.sps.sl
    have HO5 := hide ho5
    have HB5 := hide hb5
    clear ho5 hb5
    go_wp2_with fail
    refine (refSort_any ((HV2.out.below HB4.out).below HB5.out) HLN.out).mono ?_
    rintro e6 w6 ⟨v6, rfl, ho6, hb6⟩
    obtain ⟨p6, n6, c6, rfl⟩ := ho6.sps.sl
    have HO6 := hide ho6.sps
    have HB6 := hide hb6
    clear ho6 hb6
    go_wp2_with fail
    refine (equalSp_any (HO5.out.sps.below HB6.out) HO6.out).mono ?_
    rintro e7 w7 ⟨rfl, q7, rfl⟩
    rw [decide_eq_true rfl]
    go_wp2_with fail
    refine (equalSp_any (((HO4.out.below HB5.out).below HB6.out).drewN q7) ((((HV2.out.below HB4.out).below HB5.out).below HB6.out).drewN q7)).mono ?_
    rintro e8 w8 ⟨rfl, q8, rfl⟩
    rw [decide_eq_true rfl]
    obtain ⟨W, hW⟩ : ∃ W, (w6.drewN q7).drewN q8 = W := ⟨_, rfl⟩
    have hbW : Below w4.heap.size w4 W := by rw [← hW]; exact bel_drewN (bel_drewN (bt HB5.out HB6.out) q7) q8
    have hrow : OwnS w4.heap.size W (.slice p5 n5 c5) (sortS l) := by rw [← hW]; exact HO5.out.below (bel_drewN (bel_drewN HB6.out q7) q8) |>.mono (Nat.le_refl _)
    have hxW := ((HQ2.out.1.below HB4.out).below hbW)
    have hyW := ((HQ2.out.2.below HB4.out).below hbW)
    obtain ⟨d0, d1, d2, d3, d4, d5⟩ := hxW.z
    dsimp only at d0 d1 d2 d3 d4 d5
    have HBW := hide hbW
    have HROW := hide hrow
    have HSZ := hide hbW.size
    have HQW := hide (And.intro hxW hyW)
    have hsl : (sortS l).length ≤ 1000000 := by rw [sortS_length]; have := HLN.out; omega
    have HSL := hide hsl
    rw [hW]
    clear hbW hrow hxW hyW hsl
    go_wp2_with (at_builtin; go_must (refine wpList_push (v := .slice p5 n5 c5) rfl _ _ rfl rfl ⟨t, i, p', s, e, nm⟩ rfl rfl HROW.out HSZ.out HSL.out ?_); intro v9 w9 ho9 hb9 hg9; obtain ⟨g9, n9, c9, y9, rfl, hn9p, hg9b, hc9, hf9⟩ := own_first ho9; have hn9i : (0 : Int) < (n9 : Int) := (by omega); have HG9 := hide (And.intro hg9b hb9); clear ho9 hb9 hg9 hg9b)
    obtain ⟨Z, hZ⟩ : ∃ Z, w9.setCell ⟨g9, 1, none⟩ (.int .i64 (wrap64 (y9 + 1))) = Z := ⟨_, rfl⟩
    have hbZ : Below w4.heap.size w4 Z := by
      rw [← hZ]
      exact below_set (HBW.out.trans HG9.out.2) HG9.out.1
    rw [hZ]
    have hS : ∀ V, Below w4.heap.size w4 V → OrS V w.heap.size ⟨t, i, p', s, e, nm⟩ ⟨t', i', q', s', e', nm'⟩ := fun V hV => by
      obtain ⟨a0, a1, a2, a3, a4, a5⟩ := ((HQ2.out.1.below HB4.out).below hV).z
      obtain ⟨b0, b1, b2, b3, b4, b5⟩ := ((HQ2.out.2.below HB4.out).below hV).z
      exact ⟨a0, a1, a2, a3, a4, a5, b0, b1, b2, b3, b4, b5⟩
    obtain ⟨L, hL⟩ : ∃ L, ltS ⟨t, i, p', s, e, nm⟩ ⟨t', i', q', s', e', nm'⟩ = L := ⟨_, rfl⟩
    have h1 : ∀ V, Below w4.heap.size w4 V → Calls Try.prog 19 #[.slice p4 n4 c4, .slice p n c] V fun e w' => e = .returned (.bool true) ∧ Hid (Below w4.heap.size w4 w') := fun V hV =>
      (equalSp_any (HO4.out.below hV) ((HV2.out.below HB4.out).below hV)).mono fun e w' ⟨he, q, hw⟩ => ⟨by rw [he, decide_eq_true rfl], hide (by rw [hw]; exact bel_drewN hV q)⟩
    have h2 : ∀ V, Below w4.heap.size w4 V → Calls Try.prog 25 #[(.agg #[.int .i64 t, .int .i64 i, .int .i64 p', .int .i64 s, .int .i64 e, .string nm]), (.agg #[.int .i64 t', .int .i64 i', .int .i64 q', .int .i64 s', .int .i64 e', .string nm'])] V fun e w' => e = .returned (.bool L) ∧ Hid (Below w4.heap.size w4 w') := fun V hV =>
      (less_any ⟨t, i, p', s, e, nm⟩ ⟨t', i', q', s', e', nm'⟩ V).mono fun e w' ⟨he, hb⟩ => ⟨by rw [he, hL], hide (hV.trans (hb.mono hV.size))⟩
    have h3 : ∀ V, Below w4.heap.size w4 V → Calls Try.prog 26 #[(.agg #[.int .i64 t, .int .i64 i, .int .i64 p', .int .i64 s, .int .i64 e, .string nm]), (.agg #[.int .i64 t', .int .i64 i', .int .i64 q', .int .i64 s', .int .i64 e', .string nm'])] V fun e w' => e = .returned (.bool L) ∧ Hid (Below w4.heap.size w4 w') := fun V hV =>
      (refLess_any ⟨t, i, p', s, e, nm⟩ ⟨t', i', q', s', e', nm'⟩ V).mono fun e w' ⟨he, hb⟩ => ⟨by rw [he, hL], hide (hV.trans (hb.mono hV.size))⟩
    have h4 : ∀ V, Below w4.heap.size w4 V → Calls Try.prog 12 #[] V fun e w' => e = .returned (.bool true) ∧ Hid (Below w4.heap.size w4 w') := fun V hV =>
      (HA.out V).mono fun e w' ⟨he, hb⟩ => ⟨he, hide (hV.trans (hb.mono hV.size))⟩
    have H1 := hide h1
    have H2 := hide h2
    have H3 := hide h3
    have H4 := hide h4
    have HSA := hide hS
    have k0 := hide hbZ
    have hS0 := hS Z hbZ
    unfold OrS at hS0
    obtain ⟨a0, a1, a2, a3, a4, a5, b0, b1, b2, b3, b4, b5⟩ := hS0
    have HB24 := hide (bt HB2.out HB4.out)
    clear h1 h2 h3 h4 hS hbZ hZ hL
    dsimp only at *
    cases L
    all_goals
      go_wp2_with fail
      go_region_held3 (fun V => V.cell? ⟨w.heap.size, 0, none⟩ = some (.int .i64 t) ∧ V.cell? ⟨w.heap.size, 1, none⟩ = some (.int .i64 i) ∧ V.cell? ⟨w.heap.size, 2, none⟩ = some (.int .i64 p') ∧ V.cell? ⟨w.heap.size, 3, none⟩ = some (.int .i64 s) ∧ V.cell? ⟨w.heap.size, 4, none⟩ = some (.int .i64 e) ∧ V.cell? ⟨w.heap.size, 5, none⟩ = some (.string nm) ∧ V.cell? ⟨w.heap.size + 1, 0, none⟩ = some (.int .i64 t') ∧ V.cell? ⟨w.heap.size + 1, 1, none⟩ = some (.int .i64 i') ∧ V.cell? ⟨w.heap.size + 1, 2, none⟩ = some (.int .i64 q') ∧ V.cell? ⟨w.heap.size + 1, 3, none⟩ = some (.int .i64 s') ∧ V.cell? ⟨w.heap.size + 1, 4, none⟩ = some (.int .i64 e') ∧ V.cell? ⟨w.heap.size + 1, 5, none⟩ = some (.string nm')) (first | exact HSA.out _ (bel_drewN k0.out _) | exact HSA.out _ k0.out | exact HSA.out _ (bel_drewN k1.out _) | exact HSA.out _ k1.out | exact HSA.out _ (bel_drewN k2.out _) | exact HSA.out _ k2.out | exact HSA.out _ (bel_drewN k3.out _) | exact HSA.out _ k3.out | exact HSA.out _ k4.out) (first
        | (go_at_call 19; refine (H1.out _ (by first | exact bel_drewN k0.out _ | exact k0.out)).mono ?_; rintro e v1 ⟨rfl, k1⟩)
        | (go_at_call 25; refine (H2.out _ (by first | exact bel_drewN k3.out _ | exact k3.out | exact bel_drewN k1.out _ | exact k1.out)).mono ?_; rintro e v2 ⟨rfl, k2⟩)
        | (go_at_call 26; refine (H3.out _ (by first | exact bel_drewN k2.out _ | exact k2.out | exact bel_drewN k1.out _ | exact k1.out)).mono ?_; rintro e v3 ⟨rfl, k3⟩)
        | (go_at_call 12; refine (H4.out _ (by first | exact bel_drewN k3.out _ | exact k3.out | exact bel_drewN k2.out _ | exact k2.out)).mono ?_; rintro e v4 ⟨rfl, k4⟩))
      all_goals
        go_wp2
        go_ret
        exact ⟨rfl, bt HB24.out k4.out⟩
end Go.Proofs.Ytllpminhcfbkcab
