/- The law SpanSame. -/
import Derived.Test.YtllpminhcfbkcabSpSort2
import Derived.Test.YtllpminhcfbkcabLawSpPuts
namespace Go.Proofs.Ytllpminhcfbkcab
set_option linter.unusedVariables false
set_option linter.unusedSimpArgs false
open Go.RowKit

/-- The slice v reads as the numbers zs. -/
def Ints (w : World) (v : Value) (zs : List Int) : Prop :=
  ∃ (p : Option Addr) (c : Nat), v = .slice p zs.length c ∧ zs.length ≤ maxLen ∧ ∀ (i : Nat) z, zs[i]? = some z → -9223372036854775808 ≤ z ∧ z ≤ 9223372036854775807 ∧ ∃ g o, p = some ⟨g, o, none⟩ ∧ w.cell? ⟨g, o + i, none⟩ = some (.int .i64 z)

theorem sps_at {B : Nat} {w : World} {g n c : Nat} {l : List Sp} (h : OwnS B w (.slice (some ⟨g, 0, none⟩) n c) l) : ∀ (i : Nat) x, l[i]? = some x → SpAt w g (i * 6) x := fun i x hi => by
  have h1 := h.sps
  have hn := h1.len.1
  obtain ⟨g', o', e, hx⟩ := h1.at_ (by have := (List.getElem?_eq_some_iff.1 hi).1; omega)
  injection e with e
  injection e with e1 e2
  subst e1 e2
  have := hx i x hi
  rwa [Nat.zero_add] at this
theorem swap_perm {l : List Sp} {a b : Nat} {x y : Sp} (hx : l[a]? = some x) (hy : l[b]? = some y) : ((l.set a y).set b x).Perm l := by
  obtain ⟨ha, rfl⟩ := List.getElem?_eq_some_iff.1 hx
  obtain ⟨hb, rfl⟩ := List.getElem?_eq_some_iff.1 hy
  by_cases hab : a = b
  · subst hab
    rw [List.set_set]
    simp
  · rw [List.perm_iff_count]
    intro z
    rw [List.count_set (by simpa using hb), List.count_set ha, List.getElem_set_ne hab]
    have h1 : l[a] = z → 0 < l.count z := fun e => List.count_pos_iff.2 (e ▸ List.getElem_mem ha)
    by_cases e1 : l[a] = z <;> by_cases e2 : l[b] = z <;> simp [e1, e2]
    all_goals (have := h1 e1; omega)
theorem flat_set : ∀ (l : List Sp) (i : Nat) (y : Sp), i < l.length →
    (((((((l.flatMap spC).set (i * 6) (.int .i64 y.t)).set (i * 6 + 1) (.int .i64 y.i)).set (i * 6 + 2) (.int .i64 y.p)).set (i * 6 + 3) (.int .i64 y.s)).set (i * 6 + 4) (.int .i64 y.e)).set (i * 6 + 5) (.string y.n)) = (l.set i y).flatMap spC
  | [], i, y, h => by simp at h
  | x :: r, 0, y, h => by simp [spC]
  | x :: r, i + 1, y, h => by
    have ih := flat_set r i y (by simpa using h)
    rw [List.set_cons_succ, List.flatMap_cons, List.flatMap_cons, ← ih]
    have e0 : (i + 1) * 6 = i * 6 + 6 := by omega
    simp only [e0, spC, List.cons_append, List.nil_append, List.set_cons_succ]
/-- A span laid over six cells. -/
def put6 (w : World) (g o : Nat) (y : Sp) : World := (((((w.setCell ⟨g, o, none⟩ (.int .i64 y.t)).setCell ⟨g, o + 1, none⟩ (.int .i64 y.i)).setCell ⟨g, o + 2, none⟩ (.int .i64 y.p)).setCell ⟨g, o + 3, none⟩ (.int .i64 y.s)).setCell ⟨g, o + 4, none⟩ (.int .i64 y.e)).setCell ⟨g, o + 5, none⟩ (.string y.n)
theorem own_put6 {B : Nat} {w : World} {g n c : Nat} {l : List Sp} (h : OwnS B w (.slice (some ⟨g, 0, none⟩) n c) l) {i : Nat} (hi : i < l.length) (y : Sp) :
    OwnS B (put6 w g (i * 6) y) (.slice (some ⟨g, 0, none⟩) n c) (l.set i y) ∧ w.grownBy (put6 w g (i * 6) y) (some g) := by
  have hn : n = l.length := h.sps.len.1
  subst hn
  obtain ⟨h1, g1⟩ := World.ownsRow.stored h (i * 6) (.int .i64 y.t)
  obtain ⟨h2, g2⟩ := World.ownsRow.stored h1 (i * 6 + 1) (.int .i64 y.i)
  obtain ⟨h3, g3⟩ := World.ownsRow.stored h2 (i * 6 + 2) (.int .i64 y.p)
  obtain ⟨h4, g4⟩ := World.ownsRow.stored h3 (i * 6 + 3) (.int .i64 y.s)
  obtain ⟨h5, g5⟩ := World.ownsRow.stored h4 (i * 6 + 4) (.int .i64 y.e)
  obtain ⟨h6, g6⟩ := World.ownsRow.stored h5 (i * 6 + 5) (.string y.n)
  refine ⟨?_, gtrans (gtrans (gtrans (gtrans (gtrans g1 g2) g3) g4) g5) g6⟩
  rw [flat_set l i y hi] at h6
  unfold OwnS
  rw [List.length_set]
  exact h6
structure FrSix (w : World) (g o : Nat) : Prop where
  f0 : w.frozen? ⟨g, o, none⟩ = false
  f1 : w.frozen? ⟨g, o + 1, none⟩ = false
  f2 : w.frozen? ⟨g, o + 2, none⟩ = false
  f3 : w.frozen? ⟨g, o + 3, none⟩ = false
  f4 : w.frozen? ⟨g, o + 4, none⟩ = false
  f5 : w.frozen? ⟨g, o + 5, none⟩ = false
theorem fr_six {B : Nat} {w : World} {g n c : Nat} {l : List Sp} (h : OwnS B w (.slice (some ⟨g, 0, none⟩) n c) l) (o : Nat) : FrSix w g o := by
  have hn : n = l.length := h.sps.len.1
  subst hn
  exact ⟨World.ownsRow.frozenAt h _, World.ownsRow.frozenAt h _, World.ownsRow.frozenAt h _, World.ownsRow.frozenAt h _, World.ownsRow.frozenAt h _, World.ownsRow.frozenAt h _⟩

structure SpSix (w : World) (g o : Nat) (x : Sp) : Prop where
  d0 : w.cell? ⟨g, o, none⟩ = some (.int .i64 x.t)
  d1 : w.cell? ⟨g, o + 1, none⟩ = some (.int .i64 x.i)
  d2 : w.cell? ⟨g, o + 2, none⟩ = some (.int .i64 x.p)
  d3 : w.cell? ⟨g, o + 3, none⟩ = some (.int .i64 x.s)
  d4 : w.cell? ⟨g, o + 4, none⟩ = some (.int .i64 x.e)
  d5 : w.cell? ⟨g, o + 5, none⟩ = some (.string x.n)
theorem SpAt.six {w : World} {g o : Nat} {x : Sp} (h : SpAt w g o x) : SpSix w g o x := ⟨h.c0, h.c1, h.c2, h.c3, h.c4, h.c5⟩

set_option maxRecDepth 200000 in
set_option maxHeartbeats 4000000 in
theorem lawSame_any {w : World} {v u : Value} {l : List Sp} {zs : List Int} (hv : Sps w v l) (hn9 : ∀ x ∈ l, x.n.size ≤ maxLen) (hz : Ints w u zs) : Calls Try.prog 10 #[v, u] w fun e w' => e = .returned (.bool true) ∧ Below w.heap.size w w' := by
  obtain ⟨p, n, c, rfl⟩ := hv.sl
  obtain ⟨pz, cz, rfl, hzm, hzc⟩ := hz
  obtain ⟨nz, hnz⟩ : ∃ nz, zs.length = nz := ⟨_, rfl⟩
  rw [hnz] at hzm ⊢
  have hzm' : (nz : Int) ≤ 9223372036854775807 := by unfold maxLen at hzm; omega
  have HL := hide (light_any hv hn9)
  have HA := hide awake_any
  have HV := hide hv
  have HZ := hide hzc
  have HNZ := hide hnz
  clear hzc hzm
  have hsad : (lightL l = false ∨ lightL l = true ∧ (1000 : Int) < nz) ∨ (lightL l = true ∧ ¬ (1000 : Int) < nz) := by
    cases lightL l
    · exact .inl (.inl rfl)
    · by_cases h : (1000 : Int) < nz
      · exact .inl (.inr ⟨rfl, h⟩)
      · exact .inr ⟨rfl, h⟩
  clear hnz
  rcases hsad with (hl | ⟨hl, hbig⟩) | ⟨hl, hbig⟩
  · rw [hl] at HL
    go_enter Try.func10, Try.ntmps10
    go_wp2_with fail
    refine HL.out.mono ?_
    rintro e1 w1 ⟨rfl, rfl⟩
    go_wp2_with fail
    refine (HA.out _).mono ?_
    rintro e2 w2 ⟨rfl, hb2⟩
    have HB2 := hide hb2
    clear hb2
    go_wp2
    go_ret
    exact ⟨rfl, HB2.out⟩
  · rw [hl] at HL
    go_enter Try.func10, Try.ntmps10
    go_wp2_with fail
    refine HL.out.mono ?_
    rintro e1 w1 ⟨rfl, rfl⟩
    go_wp2_with fail
    refine (HA.out _).mono ?_
    rintro e2 w2 ⟨rfl, hb2⟩
    have HB2 := hide hb2
    clear hb2
    go_wp2
    go_ret
    exact ⟨rfl, HB2.out⟩
  · rw [hl] at HL
    obtain ⟨hln, hnm⟩ := light_names hl
    obtain ⟨hn, hnc, hcm⟩ := hv.len
    have HN := hide hn
    have hn200 : n ≤ 200 := by omega
    clear hl hnm hv hn9 hn hln hcm
    go_enter Try.func10, Try.ntmps10
    go_wp2_with fail
    refine HL.out.mono ?_
    rintro e1 w1 ⟨rfl, rfl⟩
    go_wp2_with fail
    refine (cloneSp_any HV.out (by have := HN.out; omega)).mono ?_
    rintro e2 w2 ⟨v2, rfl, ho2, hb2⟩
    obtain ⟨q2, m2, c2, rfl⟩ := ho2.sps.sl
    have HO2 := hide ho2
    have HB2 := hide hb2
    clear ho2 hb2
    go_wp2_with fail
    go_loopw [6, 7, 8, 9, 10, 25] (fun _ _ _ _ _ c wr => ∃ k : Nat, k ≤ nz ∧ c = .int .i64 k ∧ Hid (∃ lm : List Sp, lm.Perm l ∧ OwnS w1.heap.size wr (.slice q2 m2 c2) lm ∧ Below w1.heap.size w1 wr)) (fun _ _ _ _ _ c _ => nz - (intOf c).toNat)
    case atStart => exact ⟨0, by omega, rfl, hide ⟨l, List.Perm.refl _, HO2.out, HB2.out⟩⟩
    case round =>
      obtain ⟨k, hk, rfl, H⟩ := hrel
      obtain ⟨lm, hpm, hom, hbm⟩ := H.out
      have hlm : lm.length = l.length := hpm.length_eq
      have hm2 := hom.sps.len.1
      have HPM := hide hpm
      have HOM := hide hom
      have HBM := hide hbm
      clear hpm hom hbm H
      by_cases hlt : (k : Int) < (nz : Int)
      · obtain ⟨z, hz⟩ : ∃ z, zs[k]? = some z := ⟨_, List.getElem?_eq_getElem (by have := HNZ.out; omega)⟩
        obtain ⟨z1, z2, g, o, rfl, hcz⟩ := HZ.out k z hz
        have hcz := (HBM.out.cell (lt_of_cell hcz)).trans hcz
        have HLM := hide (And.intro hlm hm2)
        clear hlm hm2 hz
        by_cases h0 : m2 = 0
        · subst h0
          go_wp2
          go_roundw
          case rel => exact ⟨k + 1, by omega, by go_num, hide ⟨lm, HPM.out, HOM.out, HBM.out⟩⟩
          case measure => simp [intOf]; omega
        · have hpos : 0 < m2 := by omega
          have hpos2 : (0 : Int) < (m2 : Int) := by omega
          have hm200 : (m2 : Int) ≤ 200 := by have := HLM.out; have := HN.out; omega
          obtain ⟨zu, hzu⟩ : ∃ zu : Nat, IntKind.u64.wrap z = (zu : Int) := ⟨(IntKind.u64.wrap z).toNat, by rw [IntKind.wrap_u64]; omega⟩
          have hzb : (zu : Int) ≤ 18446744073709551615 := by rw [← hzu, IntKind.wrap_u64]; omega
          have hwm : IntKind.u64.wrap (m2 : Int) = (m2 : Int) := by rw [IntKind.wrap_u64]; omega
          obtain ⟨bi, hbi⟩ : ∃ bi, zu % m2 = bi := ⟨_, rfl⟩
          obtain ⟨ai, hai⟩ : ∃ ai, k % m2 = ai := ⟨_, rfl⟩
          have hblt : bi < m2 := by rw [← hbi]; exact Nat.mod_lt _ hpos
          have halt : ai < m2 := by rw [← hai]; exact Nat.mod_lt _ hpos
          have ht1 : Int.tmod (zu : Int) (m2 : Int) = (bi : Int) := by rw [← hbi]; rfl
          have ht2 : Int.tmod (k : Int) (m2 : Int) = (ai : Int) := by rw [← hai]; rfl
          have hwb : IntKind.i64.wrap (bi : Int) = (bi : Int) := by rw [IntKind.wrap_i64]; omega
          clear hbi hai
          go_wp2_with fail
          go_quiet (fail)
          obtain ⟨g2, rfl⟩ : ∃ g2, q2 = some ⟨g2, 0, none⟩ := by
            have hh := HOM.out
            obtain ⟨_, ⟨e, _⟩ | ⟨g2, cap, cur, e, _⟩⟩ := hh
            · injection e with e1 e2 e3
              omega
            · injection e with e1 e2 e3
              exact ⟨g2, e1⟩
          obtain ⟨V, hV⟩ : ∃ V, wr.drewN nq = V := ⟨_, rfl⟩
          have hom : OwnS w1.heap.size V (.slice (some ⟨g2, 0, none⟩) m2 c2) lm := by rw [← hV]; exact HOM.out
          obtain ⟨x1, hx1⟩ : ∃ x, lm[ai]? = some x := ⟨_, List.getElem?_eq_getElem (by have := HLM.out; omega)⟩
          obtain ⟨x2, hx2⟩ : ∃ x, lm[bi]? = some x := ⟨_, List.getElem?_eq_getElem (by have := HLM.out; omega)⟩
          have HS := hide (sps_at hom)
          obtain ⟨a0, a1, a2, a3, a4, a5⟩ := (HS.out ai x1 hx1).six
          have hfl := hom.lt g2 rfl
          obtain ⟨V2, hV2⟩ : ∃ V2, V.alloc (.cells #[.int .i64 x1.t, .int .i64 x1.i, .int .i64 x1.p, .int .i64 x1.s, .int .i64 x1.e, .string x1.n] 23) = V2 := ⟨_, rfl⟩
          have hB2 : Below V.heap.size V V2 := by rw [← hV2]; exact (Below.refl _ _).alloc (Nat.le_refl _) _
          have hbox : SpAt V2 V.heap.size 0 x1 := by rw [← hV2]; exact spAt_new V x1
          have hom2 := hom.below hB2
          obtain ⟨b0, b1, b2, b3, b4, b5⟩ := (sps_at hom2 bi x2 hx2).six
          obtain ⟨e0, e1, e2, e3, e4, e5⟩ := (sps_at hom2 ai x1 hx1).six
          obtain ⟨f0, f1, f2, f3, f4, f5⟩ := fr_six hom2 (ai * 6)
          have hail : ai < lm.length := by have := HLM.out; omega
          have hbil : bi < (lm.set ai x2).length := by have := HLM.out; rw [List.length_set]; omega
          obtain ⟨hom3, hg3⟩ := own_put6 hom2 hail x2
          obtain ⟨V3, hV3⟩ : ∃ V3, put6 V2 g2 (ai * 6) x2 = V3 := ⟨_, rfl⟩
          rw [hV3] at hom3 hg3
          unfold put6 at hV3
          have hbox3 := hbox.grown hg3 (by intro e; injection e with e; omega)
          obtain ⟨k0, k1, k2, k3, k4, k5⟩ := hbox3.z
          obtain ⟨y, hy⟩ : ∃ y, (lm.set ai x2)[bi]? = some y := ⟨_, List.getElem?_eq_getElem hbil⟩
          obtain ⟨h0, h1, h2, h3, h4, h5⟩ := (sps_at hom3 bi y hy).six
          obtain ⟨j0, j1, j2, j3, j4, j5⟩ := fr_six hom3 (bi * 6)
          obtain ⟨hom4, hg4⟩ := own_put6 hom3 hbil x1
          obtain ⟨V4, hV4⟩ : ∃ V4, put6 V3 g2 (bi * 6) x1 = V4 := ⟨_, rfl⟩
          rw [hV4] at hom4 hg4
          unfold put6 at hV4
          have HOM4 := hide hom4
          have HPM4 := hide ((swap_perm hx1 hx2).trans HPM.out)
          have HB4 := hide (show Below w1.heap.size w1 V4 from by
            have q0 : Below w1.heap.size w1 V := by rw [← hV]; exact bel_drewN HBM.out nq
            have q1 := q0.trans (hB2.mono q0.size)
            have q2 := q1.grown hg3 q1.size (fun k hk => by injection hk with hk; omega)
            exact q2.grown hg4 q2.size (fun k hk => by injection hk with hk; omega))
          have halt2 : (ai : Int) < (m2 : Int) := by omega
          have hblt2 : (bi : Int) < (m2 : Int) := by omega
          rw [hV]
          clear hom hx1 hx2 hV hom2 hom3 hom4 hg3 hg4 hbox hbox3 hB2 hail hbil hy hfl
          go_wp2_with fail
          go_roundw
          case rel => exact ⟨k + 1, by omega, by go_num, hide ⟨_, HPM4.out, HOM4.out, HB4.out⟩⟩
          case measure => simp [intOf]; omega
      · have hl1 : l.length ≤ 1000000 := by have := HN.out; omega
        have hsm : sortS lm = sortS l := sortS_of_perm HPM.out
        have HSM := hide hsm
        have hlenx := sortS_length l
        have HLX := hide hlenx
        have HLM := hide hlm
        clear hlm hm2 hsm hlenx
        go_wp2_with fail
        refine (sort_any (HV.out.below HBM.out) hl1).mono ?_
        rintro e3 w3 ⟨v3, rfl, ho3, hb3⟩
        obtain ⟨p3, n3, c3, rfl⟩ := ho3.sps.sl
        have hn3 : n3 = n := by have := ho3.sps.len.1; have := HLX.out; have := HN.out; omega
        subst hn3
        have HO3 := hide ho3.sps
        have HB3 := hide hb3
        clear ho3 hb3
        go_wp2_with fail
        refine (sort_any (HOM.out.sps.below HB3.out) (by have := HLM.out; omega)).mono ?_
        rintro e4 w4 ⟨v4, rfl, ho4, hb4⟩
        rw [HSM.out] at ho4
        obtain ⟨p4, n4, c4, rfl⟩ := ho4.sps.sl
        have HO4 := hide ho4.sps
        have HB4 := hide hb4
        clear ho4 hb4
        go_wp2_with fail
        refine (equalSp_any (HO3.out.below HB4.out) HO4.out).mono ?_
        rintro e5 w5 ⟨rfl, q5, rfl⟩
        rw [decide_eq_true rfl]
        go_wp2_with fail
        refine (sort_any ((HO3.out.below HB4.out).drewN q5) (by have := HLX.out; omega)).mono ?_
        rintro e6 w6 ⟨v6, rfl, ho6, hb6⟩
        rw [sortS_sortS] at ho6
        obtain ⟨p6, n6, c6, rfl⟩ := ho6.sps.sl
        have HO6 := hide ho6.sps
        have HB6 := hide hb6
        clear ho6 hb6
        go_wp2_with fail
        refine (equalSp_any (((HO3.out.below HB4.out).drewN q5).below HB6.out) HO6.out).mono ?_
        rintro e7 w7 ⟨rfl, q7, rfl⟩
        rw [decide_eq_true rfl]
        go_wp2_with fail
        refine (HA.out _).mono ?_
        rintro e8 w8 ⟨rfl, hb8⟩
        have HB8 := hide hb8
        clear hb8
        go_wp2
        go_ret
        exact ⟨rfl, bt (bt (bt (bt (bt (bt HBM.out HB3.out) HB4.out) (bel_drewN (Below.refl _ _) q5)) HB6.out) (bel_drewN (Below.refl _ _) q7)) HB8.out⟩
end Go.Proofs.Ytllpminhcfbkcab
