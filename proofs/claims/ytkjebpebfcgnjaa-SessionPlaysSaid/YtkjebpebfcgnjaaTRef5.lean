/- The document's Keep. -/
import Derived.Test.YtkjebpebfcgnjaaTRef4
import Derived.Test.YtkjebpebfcgnjaaTRef1
import Derived.Deep.RegionHeld3
import Derived.StillTailTactics
namespace Go.Proofs.Ytkjebpebfcgnjaa
set_option linter.unusedVariables false
set_option linter.unusedSimpArgs false
open Go.RowKit

set_option maxRecDepth 20000 in
theorem flat_set11 : ∀ (l : List St) (i : Nat) (y : St), i < l.length →
    ((((((((((((l.flatMap stC).set (i * 11) (.int .i64 y.s)).set (i * 11 + 1) (.int .i64 y.q)).set (i * 11 + 2) (.int .i64 y.a)).set (i * 11 + 3) (.int .i64 y.r.er)).set (i * 11 + 4) (.int .i64 y.r.rs)).set (i * 11 + 5) (.int .i64 y.r.gn)).set (i * 11 + 6) (.int .i64 y.r.ad)).set (i * 11 + 7) (.int .i64 y.r.sa)).set (i * 11 + 8) (.int .i64 y.r.ot)).set (i * 11 + 9) (.int .i64 y.r.cy)).set (i * 11 + 10) (.int .i64 y.r.fu)) = (l.set i y).flatMap stC
  | [], i, y, h => by simp at h
  | x :: r, 0, y, h => by simp [stC]
  | x :: r, i + 1, y, h => by
    have ih := flat_set11 r i y (by simpa using h)
    rw [List.set_cons_succ, List.flatMap_cons, List.flatMap_cons, ← ih]
    have e0 : (i + 1) * 11 = i * 11 + 11 := by omega
    simp only [e0, stC, List.cons_append, List.nil_append, List.set_cons_succ]
/-- A session laid over eleven cells. -/
def put11 (w : World) (g o : Nat) (y : St) : World := (((((((((((w.setCell ⟨g, o, none⟩ (.int .i64 y.s)).setCell ⟨g, o + 1, none⟩ (.int .i64 y.q)).setCell ⟨g, o + 2, none⟩ (.int .i64 y.a)).setCell ⟨g, o + 3, none⟩ (.int .i64 y.r.er)).setCell ⟨g, o + 4, none⟩ (.int .i64 y.r.rs)).setCell ⟨g, o + 5, none⟩ (.int .i64 y.r.gn)).setCell ⟨g, o + 6, none⟩ (.int .i64 y.r.ad)).setCell ⟨g, o + 7, none⟩ (.int .i64 y.r.sa)).setCell ⟨g, o + 8, none⟩ (.int .i64 y.r.ot)).setCell ⟨g, o + 9, none⟩ (.int .i64 y.r.cy)).setCell ⟨g, o + 10, none⟩ (.int .i64 y.r.fu))
theorem own_put11 {B : Nat} {w : World} {g n c : Nat} {l : List St} (h : OwnT B w (.slice (some ⟨g, 0, none⟩) n c) l) {i : Nat} (hi : i < l.length) (y : St) :
    OwnT B (put11 w g (i * 11) y) (.slice (some ⟨g, 0, none⟩) n c) (l.set i y) ∧ w.grownBy (put11 w g (i * 11) y) (some g) := by
  have hn : n = l.length := h.sts.len.1
  subst hn
  obtain ⟨h1, g1⟩ := World.ownsRow.stored h (i * 11) (.int .i64 y.s)
  obtain ⟨h2, g2⟩ := World.ownsRow.stored h1 (i * 11 + 1) (.int .i64 y.q)
  obtain ⟨h3, g3⟩ := World.ownsRow.stored h2 (i * 11 + 2) (.int .i64 y.a)
  obtain ⟨h4, g4⟩ := World.ownsRow.stored h3 (i * 11 + 3) (.int .i64 y.r.er)
  obtain ⟨h5, g5⟩ := World.ownsRow.stored h4 (i * 11 + 4) (.int .i64 y.r.rs)
  obtain ⟨h6, g6⟩ := World.ownsRow.stored h5 (i * 11 + 5) (.int .i64 y.r.gn)
  obtain ⟨h7, g7⟩ := World.ownsRow.stored h6 (i * 11 + 6) (.int .i64 y.r.ad)
  obtain ⟨h8, g8⟩ := World.ownsRow.stored h7 (i * 11 + 7) (.int .i64 y.r.sa)
  obtain ⟨h9, g9⟩ := World.ownsRow.stored h8 (i * 11 + 8) (.int .i64 y.r.ot)
  obtain ⟨h10, g10⟩ := World.ownsRow.stored h9 (i * 11 + 9) (.int .i64 y.r.cy)
  obtain ⟨h11, g11⟩ := World.ownsRow.stored h10 (i * 11 + 10) (.int .i64 y.r.fu)
  refine ⟨?_, (gtrans (gtrans (gtrans (gtrans (gtrans (gtrans (gtrans (gtrans (gtrans (gtrans g1 g2) g3) g4) g5) g6) g7) g8) g9) g10) g11)⟩
  rw [flat_set11 l i y hi] at h11
  unfold OwnT
  rw [List.length_set]
  exact h11
theorem fr_el {B : Nat} {w : World} {g n c : Nat} {l : List St} (h : OwnT B w (.slice (some ⟨g, 0, none⟩) n c) l) (o : Nat) : w.frozen? ⟨g, o, none⟩ = false := by
  have hn : n = l.length := h.sts.len.1
  subst hn
  exact World.ownsRow.frozenAt h _
theorem sts_at {B : Nat} {w : World} {g n c : Nat} {l : List St} (h : OwnT B w (.slice (some ⟨g, 0, none⟩) n c) l) (i : Nat) (x : St) (hi : l[i]? = some x) : StAt w g (i * 11) x := by
  have h1 := h.sts
  have hn := h1.len.1
  obtain ⟨g', o', e, hx⟩ := h1.at_ (by have := (List.getElem?_eq_some_iff.1 hi).1; omega)
  injection e with e
  injection e with e1 e2
  subst e1 e2
  have := hx i x hi
  rwa [Nat.zero_add] at this
theorem insT_set : ∀ {L : List St} {k : Nat} {x y : St}, RisesT L → L[k]? = some y → y.s = x.s → insT L x = L.set k x
  | [], k, x, y, _, h, _ => by simp at h
  | z :: r, 0, x, y, hr, h, hs => by
    simp only [List.getElem?_cons_zero, Option.some.injEq] at h
    subst h
    unfold insT
    rw [if_neg (by omega), if_pos hs.symm]
    rfl
  | z :: r, k + 1, x, y, hr, h, hs => by
    rw [List.getElem?_cons_succ] at h
    obtain ⟨h1, h2⟩ := List.pairwise_cons.1 hr
    have := h1 y (List.mem_of_getElem? h)
    unfold insT
    rw [if_neg (by omega), if_neg (by omega), insT_set h2 h hs]
    rfl

set_option maxRecDepth 200000 in
set_option maxHeartbeats 8000000 in
theorem refKeep_any {w : World} {gx : Nat} {v : Value} {L : List St} (h : RtAt w gx v L) (hT : TbOk L) {n m a : Int} {r : Rp} (hm0 : -9223372036854775808 ≤ m) (hm1 : m ≤ 9223372036854775807) : Calls Try.prog 21 #[.pointer (some ⟨gx, 0, none⟩), .int .i64 n, .int .i64 m, .int .i64 a, rpV r] w (RefPost w gx v (keepT L n m a r).1 (keepT L n m a r).2) := by
  obtain ⟨r1, r2, r3, r4, r5, r6, r7, r8⟩ := r
  unfold rpV
  dsimp only
  obtain ⟨A, hA⟩ : ∃ A, w.alloc (.cells #[.int .i64 r1, .int .i64 r2, .int .i64 r3, .int .i64 r4, .int .i64 r5, .int .i64 r6, .int .i64 r7, .int .i64 r8] 34) = A := ⟨_, rfl⟩
  have hbA : Below w.heap.size w A := by rw [← hA]; exact (Below.refl _ _).alloc (Nat.le_refl _) _
  have hrA : ∀ i v, #[Value.int .i64 r1, .int .i64 r2, .int .i64 r3, .int .i64 r4, .int .i64 r5, .int .i64 r6, .int .i64 r7, .int .i64 r8][i]? = some v → A.cell? ⟨w.heap.size, i, none⟩ = some v := fun i v hi => by rw [← hA, World.cell?_alloc_new]; exact hi
  have hwA : w.heap.size < A.heap.size := by rw [← hA]; simp
  have RF : Hid (∀ V, Below A.heap.size A V → V.cell? ⟨w.heap.size, 0, none⟩ = some (.int .i64 r1) ∧ V.cell? ⟨w.heap.size, 1, none⟩ = some (.int .i64 r2) ∧ V.cell? ⟨w.heap.size, 2, none⟩ = some (.int .i64 r3) ∧ V.cell? ⟨w.heap.size, 3, none⟩ = some (.int .i64 r4) ∧ V.cell? ⟨w.heap.size, 4, none⟩ = some (.int .i64 r5) ∧ V.cell? ⟨w.heap.size, 5, none⟩ = some (.int .i64 r6) ∧ V.cell? ⟨w.heap.size, 6, none⟩ = some (.int .i64 r7) ∧ V.cell? ⟨w.heap.size, 7, none⟩ = some (.int .i64 r8)) := hide fun V hV => by
    have cc : ∀ i v, #[Value.int .i64 r1, .int .i64 r2, .int .i64 r3, .int .i64 r4, .int .i64 r5, .int .i64 r6, .int .i64 r7, .int .i64 r8][i]? = some v → V.cell? ⟨w.heap.size, i, none⟩ = some v := fun i v hi => (hV.cell (p := ⟨w.heap.size, i, none⟩) hwA).trans (hrA i v hi)
    exact ⟨cc 0 _ rfl, cc 1 _ rfl, cc 2 _ rfl, cc 3 _ rfl, cc 4 _ rfl, cc 5 _ rfl, cc 6 _ rfl, cc 7 _ rfl⟩
  have HH := hide h
  have HBA := hide hbA
  have HASK := hide (refAsk_any (h.below hbA) hT (n := n) hm0 hm1)
  have HOL := hide hT
  obtain ⟨p, hp⟩ : ∃ p, askT L n m = p := ⟨_, rfl⟩
  rw [hp] at HASK
  have HP := hide hp
  have hL8 := hT.len
  clear h hT hrA hbA hp
  obtain ⟨⟨q1, q2, q3, q4, q5, q6, q7, q8⟩, d, er⟩ := p
  unfold AskPost rpV at HASK
  dsimp only at HASK
  go_enter Try.func21, Try.ntmps21
  go_wp2_with fail
  refine HASK.out.mono ?_
  rintro e X ⟨rfl, hbX⟩
  have HAX := hide hbX
  have HX := hide (HBA.out.trans (hbX.mono HBA.out.size))
  clear hbX
  by_cases he : er = 0
  · subst he
    cases d
    · obtain ⟨y, hfy, hmy, hy, hys, hy0, hy1, hn0, hn1⟩ := st_ok_of (L := L) (n := n) (m := m) (by rw [HP.out]) (by rw [HP.out]) HOL.out
      have hkeep : ∀ b, (⟨n, m, a, ⟨r1, r2, r3, r4, r5, r6, r7, r8⟩⟩ : St).ok = b → keepT L n m a ⟨r1, r2, r3, r4, r5, r6, r7, r8⟩ = if b then (0, insT L (⟨n, m, a, ⟨r1, r2, r3, r4, r5, r6, r7, r8⟩⟩ : St)) else (1, L) := fun b hb => by
        unfold keepT
        rw [HP.out, ← hb]
        rfl
      have HKEEP := hide hkeep
      have HY := hide (And.intro hfy (And.intro hy hys))
      have hm2 : 1 ≤ m := by omega
      have hm3 : m ≤ 1099511627777 := by omega
      clear hfy hmy hy hys hy0 hy1 hkeep
      obtain ⟨Y, hY⟩ : ∃ Y, X.alloc (.cells #[.int .i64 q1, .int .i64 q2, .int .i64 q3, .int .i64 q4, .int .i64 q5, .int .i64 q6, .int .i64 q7, .int .i64 q8] 34) = Y := ⟨_, rfl⟩
      have hbY : Below X.heap.size X Y := by rw [← hY]; exact (Below.refl _ _).alloc (Nat.le_refl _) _
      have HAY := hide (HAX.out.trans (hbY.mono HAX.out.size))
      have HWY := hide (HX.out.trans (hbY.mono HX.out.size))
      obtain ⟨z0, z1, z2, z3, z4, z5, z6, z7⟩ := RF.out _ HAY.out
      have HCK := hide (fun V => refCheck_any V ⟨r1, r2, r3, r4, r5, r6, r7, r8⟩)
      unfold rpV ChkPost at HCK
      dsimp only at HCK
      clear hbY
      by_cases ha1 : a < 1
      · have HR := hide (HKEEP.out false (by cases hb : (⟨n, m, a, ⟨r1, r2, r3, r4, r5, r6, r7, r8⟩⟩ : St).ok; rfl; have := (St.ok_iff.1 hb).2.2.1; dsimp only at this; omega))
        go_wp2
        go_ret
        rw [HR.out]
        exact ref_same HH.out HWY.out rfl
      by_cases ha2 : a > 1099511627776
      · have HR := hide (HKEEP.out false (by cases hb : (⟨n, m, a, ⟨r1, r2, r3, r4, r5, r6, r7, r8⟩⟩ : St).ok; rfl; have := (St.ok_iff.1 hb).2.2.1; dsimp only at this; omega))
        go_wp2
        go_ret
        rw [HR.out]
        exact ref_same HH.out HWY.out rfl
      by_cases hm4 : m > 1099511627776
      · have HR := hide (HKEEP.out false (by cases hb : (⟨n, m, a, ⟨r1, r2, r3, r4, r5, r6, r7, r8⟩⟩ : St).ok; rfl; have := (St.ok_iff.1 hb).2.1; dsimp only at this; omega))
        go_wp2
        go_ret
        rw [HR.out]
        exact ref_same HH.out HWY.out rfl
      cases hrk : (⟨r1, r2, r3, r4, r5, r6, r7, r8⟩ : Rp).ok
      · have HR := hide (HKEEP.out false (by cases hb : (⟨n, m, a, ⟨r1, r2, r3, r4, r5, r6, r7, r8⟩⟩ : St).ok; rfl; have := (St.ok_iff.1 hb).2.2.2; dsimp only at this; rw [hrk] at this; cases this))
        rw [hrk] at HCK
        clear hrk
        go_wp2_with fail
        refine (HCK.out _).mono ?_
        rintro e w3 ⟨rfl, hb3⟩
        have HW3 := hide (HWY.out.trans (hb3.mono HWY.out.size))
        clear hb3
        go_wp2
        go_ret
        rw [HR.out]
        exact ref_same HH.out HW3.out rfl
      · have HR := hide (HKEEP.out true (St.ok_iff.2 ⟨⟨hn0, hn1⟩, (by dsimp only; omega), (by dsimp only; omega), hrk⟩))
        rw [hrk] at HCK
        clear hrk
        obtain ⟨k, hk, hkl⟩ := plcT_some HOL.out.rises HY.out.1
        have hkL : k < L.length := (List.getElem?_eq_some_iff.1 hkl).1
        have HSET := hide (insT_set (x := (⟨n, m, a, ⟨r1, r2, r3, r4, r5, r6, r7, r8⟩⟩ : St)) HOL.out.rises hkl HY.out.2.2)
        have HKL := hide hkl
        have HK := hide hk
        clear hk hkl
        go_wp2_with fail
        refine (HCK.out _).mono ?_
        rintro e w3 ⟨rfl, hb3⟩
        have HA3 := hide (HAY.out.trans (hb3.mono HAY.out.size))
        have HW3 := hide (HWY.out.trans (hb3.mono HWY.out.size))
        clear hb3 z0 z1 z2 z3 z4 z5 z6 z7
        have h3 := HH.out.below HW3.out
        have c03 := h3.c0
        obtain ⟨pv, nv, cv, rfl⟩ := h3.own.sts.sl
        obtain rfl : nv = L.length := h3.own.sts.len.1
        have HH3 := hide h3
        have hgx3 := h3.lt
        have hgxw := HH.out.lt
        clear h3
        have HOE : Hid (OwnT w.heap.size (w3.alloc (.cells #[] 60)) (.slice (some ⟨w3.heap.size, 0, none⟩) 0 0) []) := hide (OwnT.mono (show OwnT w3.heap.size (w3.alloc (.cells #[] 60)) (.slice (some ⟨w3.heap.size, 0, none⟩) 0 0) [] from World.ownsRow_made w3 #[] 0 (Nat.le_refl _) (Nat.zero_le _) rfl) HW3.out.size)
        go_wp2_with (at_builtin; go_loud (refine wpList_pushesT rfl (.tmp 42) (.tmp 46) rfl rfl (B := w.heap.size) (v := .slice (some ⟨w3.heap.size, 0, none⟩) 0 0) (u := .slice pv L.length cv) (l := []) (m := L) rfl rfl HOE.out (HH3.out.own.sts.below ((Below.refl _ _).alloc (Nat.le_refl _) _)) (by have := HW3.out.size; simp; omega) (by simp; omega) ?_); intro v5 w5 ho5 hb5 hg5)
        have hO5 : OwnT w.heap.size w5 v5 L := ho5
        obtain ⟨g2, c5, rfl⟩ : ∃ g2 c5, v5 = .slice (some ⟨g2, 0, none⟩) L.length c5 := by
          obtain ⟨_, ⟨_, e⟩ | ⟨g2, cap, cur, e, _⟩⟩ := hO5
          · omega
          · exact ⟨g2, cap, e⟩
        have hbW3 : Below w.heap.size w (w3.alloc (.cells #[] 60)) := HW3.out.alloc HW3.out.size _
        have HW5 := hide (hbW3.trans hb5)
        have hA35 : Below A.heap.size A (w3.alloc (.cells #[] 60)) := HA3.out.alloc HA3.out.size _
        have hg2 := hO5.lt g2 rfl
        have hO5U : OwnT w.heap.size w5.drew (.slice (some ⟨g2, 0, none⟩) L.length c5) L := hO5
        have hWU : Below w.heap.size w w5.drew := HW5.out.trans (bdrew w5 1)
        have hHU := HH.out.below hWU
        have hzU : ∀ i v, #[Value.int .i64 r1, .int .i64 r2, .int .i64 r3, .int .i64 r4, .int .i64 r5, .int .i64 r6, .int .i64 r7, .int .i64 r8][i]? = some v → w5.drew.cell? ⟨w.heap.size, i, none⟩ = some v := fun i v hi => by
          show w5.cell? ⟨w.heap.size, i, none⟩ = some v
          have h0 := RF.out _ hA35
          have hlt : w.heap.size < (w3.alloc (.cells #[] 60)).heap.size := Nat.lt_of_lt_of_le hwA hA35.size
          have hcell : (w3.alloc (.cells #[] 60)).cell? ⟨w.heap.size, i, none⟩ = some v := by
            obtain ⟨b0, b1, b2, b3, b4, b5, b6, b7⟩ := h0
            match i, hi with
            | 0, hi => simp at hi; subst hi; exact b0
            | 1, hi => simp at hi; subst hi; exact b1
            | 2, hi => simp at hi; subst hi; exact b2
            | 3, hi => simp at hi; subst hi; exact b3
            | 4, hi => simp at hi; subst hi; exact b4
            | 5, hi => simp at hi; subst hi; exact b5
            | 6, hi => simp at hi; subst hi; exact b6
            | 7, hi => simp at hi; subst hi; exact b7
            | (j + 8), hi => simp at hi
          refine hg5.cell hcell fun e => ?_
          simp [Value.ownBlock] at e
          have := HA3.out.size
          omega
        have hpl := place_any hHU hL8 n
        rw [HK.out] at hpl
        have x0 : w5.drew.cell? ⟨w.heap.size, 0, none⟩ = some (.int .i64 r1) := hzU 0 _ rfl
        have x1 : w5.drew.cell? ⟨w.heap.size, 1, none⟩ = some (.int .i64 r2) := hzU 1 _ rfl
        have x2 : w5.drew.cell? ⟨w.heap.size, 2, none⟩ = some (.int .i64 r3) := hzU 2 _ rfl
        have x3 : w5.drew.cell? ⟨w.heap.size, 3, none⟩ = some (.int .i64 r4) := hzU 3 _ rfl
        have x4 : w5.drew.cell? ⟨w.heap.size, 4, none⟩ = some (.int .i64 r5) := hzU 4 _ rfl
        have x5 : w5.drew.cell? ⟨w.heap.size, 5, none⟩ = some (.int .i64 r6) := hzU 5 _ rfl
        have x6 : w5.drew.cell? ⟨w.heap.size, 6, none⟩ = some (.int .i64 r7) := hzU 6 _ rfl
        have x7 : w5.drew.cell? ⟨w.heap.size, 7, none⟩ = some (.int .i64 r8) := hzU 7 _ rfl
        obtain ⟨u0, u1, u2, u3, u4, u5, u6, u7, u8, u9, u10⟩ := (sts_at hO5U k y HKL.out).all
        have fr0 := fr_el hO5U (k * 11)
        have fr1 := fr_el hO5U (k * 11 + 1)
        have fr2 := fr_el hO5U (k * 11 + 2)
        have fr3 := fr_el hO5U (k * 11 + 3)
        have fr4 := fr_el hO5U (k * 11 + 4)
        have fr5 := fr_el hO5U (k * 11 + 5)
        have fr6 := fr_el hO5U (k * 11 + 6)
        have fr7 := fr_el hO5U (k * 11 + 7)
        have fr8 := fr_el hO5U (k * 11 + 8)
        have fr9 := fr_el hO5U (k * 11 + 9)
        have fr10 := fr_el hO5U (k * 11 + 10)
        have HPL := hide hpl
        have hkl0 : (0 : Int) ≤ (k : Int) := by omega
        have hkl1 : (k : Int) < (L.length : Int) := by omega
        have hput := own_put11 hO5U hkL (⟨n, m, a, ⟨r1, r2, r3, r4, r5, r6, r7, r8⟩⟩ : St)
        have HPUT := hide hput
        have HWU := hide hWU
        clear hput hO5U hWU hHU hzU hpl ho5 hb5 hg5 hO5 hbW3 hA35 c03
        have HST : Hid (Calls Try.prog 35 #[.pointer (some ⟨gx, 0, none⟩), .int .i64 n] w5.drew fun e w'' => e = .returned (.int .i64 (k : Nat)) ∧ w'' = w5.drew) := hide (HPL.out.mono fun e w'' ⟨he, hw⟩ => ⟨he, hw.symm⟩)
        go_still_tail 10, (by kernel_rfl)
        still_call HST.out
        repeat still_step
        refine wpStill_nil ?_
        change wpList _ _ _ _ _ w5.drew
        obtain ⟨U, hU⟩ : ∃ U, w5.drew = U := ⟨_, rfl⟩
        have hgxU : gx < U.heap.size := by rw [← hU]; exact Nat.lt_of_lt_of_le hgxw HW5.out.size
        rw [hU] at x0 x1 x2 x3 x4 x5 x6 x7 u0 u1 u2 u3 u4 u5 u6 u7 u8 u9 u10 fr0 fr1 fr2 fr3 fr4 fr5 fr6 fr7 fr8 fr9 fr10 HPUT HWU ⊢
        clear hU HST HPL
        have HHU := hide (HH.out.below HWU.out)
        have hg2U : w.heap.size ≤ g2 := hg2.1
        obtain ⟨Q, hQ⟩ : ∃ Q, put11 U g2 (k * 11) (⟨n, m, a, ⟨r1, r2, r3, r4, r5, r6, r7, r8⟩⟩ : St) = Q := ⟨_, rfl⟩
        have hOQ : OwnT w.heap.size Q (.slice (some ⟨g2, 0, none⟩) L.length c5) (L.set k (⟨n, m, a, ⟨r1, r2, r3, r4, r5, r6, r7, r8⟩⟩ : St)) := by rw [← hQ]; exact HPUT.out.1
        have hbQ : Below w.heap.size w Q := by rw [← hQ]; exact HWU.out.grown HPUT.out.2 HWU.out.size (fun k hk => by injection hk with hk; omega)
        unfold put11 at hQ
        dsimp only at hQ
        have c0Q := (HH.out.below hbQ).c0
        have f0Q := (HH.out.below hbQ).f0
        have HOQ := hide (And.intro hOQ hbQ)
        clear hOQ hbQ HPUT
        go_wp2
        go_ret
        rw [HR.out, if_pos trivial, HSET.out]
        exact ref_fin HH.out HOQ.out.2 HOQ.out.1 rfl
    · have HR : Hid (keepT L n m a ⟨r1, r2, r3, r4, r5, r6, r7, r8⟩ = (81, L)) := hide (by unfold keepT; rw [HP.out]; rfl)
      go_wp2
      go_ret
      rw [HR.out]
      exact ref_same HH.out (HX.out.alloc HX.out.size _) rfl
  · have HR : Hid (keepT L n m a ⟨r1, r2, r3, r4, r5, r6, r7, r8⟩ = (er, L)) := hide (by unfold keepT; rw [HP.out]; exact if_pos he)
    have he' : (er != 0) = true := by simpa using he
    go_wp2
    go_ret
    rw [HR.out]
    exact ref_same HH.out (HX.out.alloc HX.out.size _) rfl
end Go.Proofs.Ytkjebpebfcgnjaa
