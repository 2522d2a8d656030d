/- The walk of the statement on records. -/
import Derived.Test.YthcakinkioniaaaRefPick
import Derived.BigGuard
namespace Go.Proofs.Ythcakinkioniaaa
open Go.RowKit

theorem pickB_bad {b r : List UInt8} {n k e : Nat} {p : List UInt8} {K E : Nat} (h : pickB b r n k e = (p, K, E)) (hE : E ≠ 0) : p = [] ∧ K = 0 := by
  unfold pickB at h
  by_cases h1 : e ≠ 0
  · rw [if_pos h1] at h
    simp only [Prod.mk.injEq] at h
    exact ⟨h.1.symm, h.2.1.symm⟩
  · rw [if_neg h1] at h
    by_cases h2 : 65536 < n
    · rw [if_pos h2] at h
      simp only [Prod.mk.injEq] at h
      exact ⟨h.1.symm, h.2.1.symm⟩
    · rw [if_neg h2] at h
      by_cases h3 : b.length < 1 + k + n + 4
      · rw [if_pos h3] at h
        simp only [Prod.mk.injEq] at h
        exact ⟨h.1.symm, h.2.1.symm⟩
      · rw [if_neg h3] at h
        by_cases h4 : (b.drop (1 + k + n)).take 4 = tailL (crc (b.take (1 + k + n)))
        · rw [if_pos h4] at h
          simp only [Prod.mk.injEq] at h
          exact absurd h.2.2.symm hE
        · rw [if_neg h4] at h
          simp only [Prod.mk.injEq] at h
          exact ⟨h.1.symm, h.2.1.symm⟩

theorem pick_bad {b : List UInt8} {p : List UInt8} {K E : Nat} (h : pickL b = (p, K, E)) (hE : E ≠ 0) : p = [] ∧ K = 0 := by
  cases b with
  | nil =>
    simp only [pickL, Prod.mk.injEq] at h
    exact ⟨h.1.symm, h.2.1.symm⟩
  | cons x r =>
    rw [pickL_cons] at h
    by_cases hx : x.toNat ≠ 93
    · rw [if_pos hx] at h
      simp only [Prod.mk.injEq] at h
      exact ⟨h.1.symm, h.2.1.symm⟩
    · rw [if_neg hx] at h
      exact pickB_bad h hE

theorem pick_len {b : List UInt8} {p : List UInt8} {K E : Nat} (h : pickL b = (p, K, E)) : p.length ≤ 65536 ∧ K ≤ b.length ∧ (E = 0 → 0 < K) := by
  by_cases hE : E = 0
  · subst hE
    obtain ⟨h1, h2, h3, h4⟩ := pick_ok h
    refine ⟨h3, h1, fun _ => ?_⟩
    rw [h4]
    unfold recL front
    simp
  · obtain ⟨rfl, rfl⟩ := pick_bad h hE
    exact ⟨by simp, Nat.zero_le _, fun h => absurd h hE⟩

/-- A payload's record, or that it is too long. -/
def recP (p : List UInt8) : List UInt8 × Nat := if p.length ≤ 65536 then (recL p, 0) else ([], 4)

def RecPost (w : World) (L : List UInt8) (E : Nat) (e : Ending) (w' : World) : Prop :=
  ∃ v, e = .returned (.tuple #[v, .int .i64 E]) ∧ Own w.heap.size w' v L ∧ Below w.heap.size w w'

theorem wireRecord_post {w : World} {v : Value} {l : List UInt8} (hv : By w v l) {L : List UInt8} {E : Nat} (h : recP l = (L, E)) : Calls Try.prog 27 #[v] w (RecPost w L E) := by
  unfold recP at h
  by_cases hl : l.length ≤ 65536
  · rw [if_pos hl] at h
    simp only [Prod.mk.injEq] at h
    obtain ⟨rfl, rfl⟩ := h
    exact (wireRecord_any hv hl).mono fun e w' ⟨v', he, ho, hb⟩ => ⟨v', he, ho, hb⟩
  · rw [if_neg hl] at h
    simp only [Prod.mk.injEq] at h
    obtain ⟨rfl, rfl⟩ := h
    exact (wireRecord_long hv (by omega)).mono fun e w' ⟨he, hw⟩ => ⟨_, he, Own.nil _ _, by rw [hw]; exact Below.refl _ _⟩

theorem refRecord_post {w : World} {v : Value} {l : List UInt8} (hv : By w v l) {L : List UInt8} {E : Nat} (h : recP l = (L, E)) : Calls Try.prog 28 #[v] w (RecPost w L E) := by
  unfold recP at h
  by_cases hl : l.length ≤ 65536
  · rw [if_pos hl] at h
    simp only [Prod.mk.injEq] at h
    obtain ⟨rfl, rfl⟩ := h
    exact (refRecord_any hv hl).mono fun e w' ⟨v', he, ho, hb⟩ => ⟨v', he, ho, hb⟩
  · rw [if_neg hl] at h
    simp only [Prod.mk.injEq] at h
    obtain ⟨rfl, rfl⟩ := h
    exact (refRecord_long hv (by omega)).mono fun e w' ⟨he, hw⟩ => ⟨_, he, Own.nil _ _, by rw [hw]; exact Below.refl _ _⟩

theorem sum_none (w : World) : Calls Try.prog 23 #[.slice none 0 0] w fun e w' => e = .returned (.int .u32 4294967295) ∧ w = w' := by
  refine (wireSum_any (Bss.nil w)).mono fun e w' ⟨he, hw⟩ => ⟨?_, hw⟩
  rw [he]
  rfl

set_option maxRecDepth 200000 in
set_option maxHeartbeats 1000000 in
theorem recs_big (a0 : Option Addr) (len0 cap0 : Nat) (a1 : Option Addr) (len1 cap1 : Nat) (w : World) (h : (131072 : Int) < (len0 : Int) ∨ ¬ (131072 : Int) < (len0 : Int) ∧ (131072 : Int) < (len1 : Int)) :
    Calls Try.prog 6 #[.slice a0 len0 cap0, .slice a1 len1 cap1] w fun e w' => e = .returned (.bool true) ∧ Below w.heap.size w w' := by
  rcases h with h | ⟨h1, h2⟩
  all_goals
    go_enter Try.func6, Try.ntmps6
    go_wp2_with fail
    refine (sum_none w).mono ?_
    rintro e w1 ⟨rfl, rfl⟩
    go_wp2
    go_ret
    exact ⟨rfl, Below.refl _ _⟩

set_option maxRecDepth 200000 in
set_option maxHeartbeats 2000000 in
theorem recs_law (a0 : Option Addr) (len0 cap0 : Nat) (l : List UInt8) (hl : l.length = len0) (a1 : Option Addr) (len1 cap1 : Nat) (m : List UInt8) (hm : m.length = len1) (w : World) (hv : By w (.slice a0 len0 cap0) l) (hu : By w (.slice a1 len1 cap1) m) :
    Calls Try.prog 6 #[.slice a0 len0 cap0, .slice a1 len1 cap1] w fun e w' => e = .returned (.bool true) ∧ Below w.heap.size w w' := by
  by_cases hb1 : (131072 : Int) < (len0 : Int)
  · exact recs_big _ _ _ _ _ _ w (.inl hb1)
  by_cases hb2 : (131072 : Int) < (len1 : Int)
  · exact recs_big _ _ _ _ _ _ w (.inr ⟨hb1, hb2⟩)
  have hll : l.length ≤ 131072 := by omega
  have hmm : m.length ≤ 131072 := by omega
  obtain ⟨L, E, hR⟩ : ∃ L E, recP l = (L, E) := ⟨_, _, rfl⟩
  obtain ⟨P, K, F, hP⟩ : ∃ P K F, pickL m = (P, K, F) := ⟨_, _, _, rfl⟩
  have hPlen : P.length ≤ 65536 := (pick_len hP).1
  have HV := hide hv
  have HU := hide hu
  clear hv hu hl hm
  go_enter Try.func6, Try.ntmps6
  go_wp2_with fail
  refine (sclone_any HV.out (by omega)).mono ?_
  rintro e w1 ⟨v1, rfl, ho1, hb01⟩
  obtain ⟨p1, n1, c1, rfl⟩ := ho1.by_.sl
  have H1 := hide ho1
  clear ho1
  have hbs1 := hb01.size
  go_wp2_with fail
  refine (sclone_any (HU.out.below hb01) (by omega)).mono ?_
  rintro e w2 ⟨v2, rfl, ho2, hb12⟩
  obtain ⟨p2, n2, c2, rfl⟩ := ho2.by_.sl
  have H2 := hide ho2
  clear ho2
  have hb02 := hb01.trans (hb12.mono hbs1)
  have hbs2 := hb02.size
  go_wp2_with fail
  refine (wireRecord_post (H1.out.by_.below hb12) hR).mono ?_
  rintro e w3 ⟨v3, rfl, ho3, hb23⟩
  obtain ⟨p3, n3, c3, rfl⟩ := ho3.by_.sl
  have H3 := hide ho3
  clear ho3
  have hb03 := hb02.trans (hb23.mono hbs2)
  have hbs3 := hb03.size
  go_wp2_with fail
  refine (refRecord_post (HV.out.below hb03) hR).mono ?_
  rintro e w4 ⟨v4, rfl, ho4, hb34⟩
  obtain ⟨p4, n4, c4, rfl⟩ := ho4.by_.sl
  have H4 := hide ho4
  clear ho4
  have hb04 := hb03.trans (hb34.mono hbs3)
  have hbs4 := hb04.size
  go_wp2_with fail
  refine (wirePick_any (((H2.out.by_.below hb23).below hb34)) hP).mono ?_
  rintro e w5 ⟨v5, rfl, ho5, hb45⟩
  obtain ⟨p5, n5, c5, rfl⟩ := ho5.by_.sl
  have H5 := hide ho5
  clear ho5
  have hb05 := hb04.trans (hb45.mono hbs4)
  have hbs5 := hb05.size
  go_wp2_with fail
  refine (refPick_any (HU.out.below hb05) hP).mono ?_
  rintro e w6 ⟨v6, rfl, ho6, hb56⟩
  obtain ⟨p6, n6, c6, rfl⟩ := ho6.by_.sl
  have H6 := hide ho6
  clear ho6
  have hb06 := hb05.trans (hb56.mono hbs5)
  have hbs6 := hb06.size
  go_wp2_with fail
  refine (equal_any ((((H3.out.by_.below hb34).below hb45).below hb56)) (((H4.out.by_.below hb45).below hb56))).mono ?_
  rintro e w7 ⟨rfl, rfl⟩
  rw [beq_self_eq_true]
  go_wp2_with fail
  refine (equal_any ((H5.out.by_.below hb56)) H6.out.by_).mono ?_
  rintro e w7 ⟨rfl, rfl⟩
  rw [beq_self_eq_true]
  have hb46 : Below w4.heap.size w4 w6 := hb45.trans (hb56.mono hb45.size)
  have hs46 := hb46.size
  have HO5 := hide ((H5.out.below hb56).below ((Below.refl _ w6).alloc (Nat.le_refl _) (.cells #[.int .u8 1] 5)))
  have HY := hide (one_lit w6 1 1 rfl)
  have hlen5 : P.length + ([1] : List UInt8).length ≤ 140737488355328 := by simp; omega
  go_wp2_with (at_builtin; go_must (refine wpList_append_by rfl _ _ rfl rfl rfl rfl HO5.out HY.out hlen5 (by simp; omega) ?_); intro v7 w7 hown7 hg7 hb7 hat7; obtain ⟨g, n7, cap7, x7, rfl, h7p, hBg, hglt, hcell7, hfr7⟩ := hown7.head (by rw [List.length_append]; exact Nat.succ_pos _); clear hg7 hat7)
  have e47 : Below w4.heap.size w4 (w7.setCell ⟨g, 0, none⟩ (.int .u8 (bits BinOp.xor IntKind.u8 (x7.toNat : Int) 255))) :=
    ((hb46.alloc hs46 _).trans hb7).setCell (p := ⟨g, 0, none⟩) hBg _
  have E47 := hide e47
  have B0 := hide (hb04.trans (e47.mono hbs4))
  clear HO5 HY hcell7 hfr7 e47 hb7
  refine (equal_any ((((H1.out.by_.below hb12).below hb23).below hb34).below E47.out) (HV.out.below B0.out)).mono ?_
  rintro e w8 ⟨rfl, rfl⟩
  rw [beq_self_eq_true]
  go_wp2_with fail
  refine (equal_any (((H2.out.by_.below hb23).below hb34).below E47.out) (HU.out.below B0.out)).mono ?_
  rintro e w8 ⟨rfl, rfl⟩
  rw [beq_self_eq_true]
  go_wp2_with fail
  refine (sum_none _).mono ?_
  rintro e w8 ⟨rfl, rfl⟩
  clear H1 H2 H3 H4 H5 H6 HV HU
  go_wp2
  go_ret
  exact ⟨rfl, B0.out⟩
end Go.Proofs.Ythcakinkioniaaa
