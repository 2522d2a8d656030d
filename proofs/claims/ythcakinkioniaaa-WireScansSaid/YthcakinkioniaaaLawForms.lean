/- The walk of the statement on forms. -/
import Derived.Test.YthcakinkioniaaaScan2
namespace Go.Proofs.Ythcakinkioniaaa
open Go.RowKit

theorem d300 : (digits 300).length = 2 := by
  have h1 : hi 2 = [130] := by
    rw [hi]
    simp [hi_zero]
  unfold digits
  rw [show 300 / 128 = 2 from rfl, h1]
  rfl

theorem Sc.below {w w' : World} {g : Nat} {v : Value} {at_ E : Nat} (h : Sc w g v at_ E) (hb : Below w.heap.size w w') : Sc w' g v at_ E := (hb.block g h.lt).trans h

theorem num300 (w : World) : Calls Try.prog 15 #[.slice none 0 0, .int .i64 300] w fun e w' => ∃ p c, e = .returned (.slice p 2 c) ∧ Below w.heap.size w w' := by
  refine (wireNumber_any (By.nil w) (by decide) 300 300 (by decide) (by decide)).mono ?_
  rintro e w' ⟨v, rfl, ho, hb⟩
  obtain ⟨p, n, c, rfl⟩ := ho.by_.sl
  obtain rfl : n = 2 := by rw [ho.by_.len.1]; exact d300
  exact ⟨p, c, rfl, hb⟩

/-- What is read, put again. -/
theorem take_num {l : List UInt8} {N K : Nat} (h : readNum l = (N, K, 0)) : l.take K = digits N := (readNum_form h).2.2.1

theorem str_size (l : List UInt8) : (str l).size = l.length := by rw [str_eq]; rfl
theorem str_list (l : List UInt8) : (str l).data.toList = l := by rw [str_eq]

theorem text_form {l : List UInt8} {M : Nat} {T : List UInt8} {A E : Nat} (h : textP l 0 M = (T, A, E)) :
    A ≤ l.length ∧ T.length ≤ l.length ∧ (E = 0 → l.take A = digits T.length ++ T) ∧ (E ≠ 0 → A = 0) := by
  obtain ⟨N, K, e0, hR⟩ : ∃ N K e0, readNum l = (N, K, e0) := ⟨_, _, _, rfl⟩
  unfold textP at h
  rw [List.drop_zero, hR] at h
  dsimp only at h
  unfold textB at h
  by_cases h1 : e0 ≠ 0
  · rw [if_pos h1] at h
    simp only [Prod.mk.injEq] at h
    obtain ⟨rfl, rfl, rfl⟩ := h
    exact ⟨Nat.zero_le _, Nat.zero_le _, fun h => absurd h h1, fun _ => rfl⟩
  · rw [if_neg h1] at h
    by_cases h2 : M < N
    · rw [if_pos h2] at h
      simp only [Prod.mk.injEq] at h
      obtain ⟨rfl, rfl, rfl⟩ := h
      exact ⟨Nat.zero_le _, Nat.zero_le _, fun h => by omega, fun _ => rfl⟩
    · rw [if_neg h2] at h
      by_cases h3 : l.length < 0 + K + N
      · rw [if_pos h3] at h
        simp only [Prod.mk.injEq] at h
        obtain ⟨rfl, rfl, rfl⟩ := h
        exact ⟨Nat.zero_le _, Nat.zero_le _, fun h => by omega, fun _ => rfl⟩
      · rw [if_neg h3] at h
        simp only [Prod.mk.injEq] at h
        obtain ⟨rfl, rfl, rfl⟩ := h
        have e0' : e0 = 0 := by omega
        subst e0'
        have hN : ((l.drop (0 + K)).take N).length = N := by rw [List.length_take, List.length_drop]; omega
        refine ⟨by omega, by rw [hN]; omega, fun _ => ?_, fun h => absurd rfl h⟩
        rw [hN, Nat.zero_add, List.take_add, take_num hR]

set_option maxRecDepth 200000 in
set_option maxHeartbeats 4000000 in
theorem forms_law (a0 : Option Addr) (len0 cap0 : Nat) (l : List UInt8) (hl : l.length = len0) (w : World) (hv : By w (.slice a0 len0 cap0) l) :
    Calls Try.prog 10 #[.slice a0 len0 cap0] w fun e w' => e = .returned (.bool true) ∧ Below w.heap.size w w' := by
  by_cases hb : (131072 : Int) < (len0 : Int)
  · go_enter Try.func10, Try.ntmps10
    go_wp2_with fail
    refine (num300 w).mono ?_
    rintro e w1 ⟨p, c, rfl, hb1⟩
    go_wp2
    go_ret
    exact ⟨rfl, hb1⟩
  · have HV := hide hv
    have HL := hide hl
    clear hv hl
    obtain ⟨N, K, E, hR⟩ : ∃ N K E, readNum l = (N, K, E) := ⟨_, _, _, rfl⟩
    obtain ⟨hK, hN, hK9⟩ := readNum_any hR
    have HR := hide hR
    clear hR
    go_enter Try.func10, Try.ntmps10
    go_wp2_with fail
    refine (num300 w).mono ?_
    rintro e w1 ⟨p, c, rfl, hb1⟩
    have hs1 := hb1.size
    have HB1 := hide hb1
    clear hb1
    go_wp2_with fail
    refine (over_any (HV.out.below HB1.out) (by have := HL.out; omega)).mono ?_
    rintro e w2 ⟨g, u, rfl, hg, hS, ho, _, hb2⟩
    obtain ⟨p3, n3, c3, rfl⟩ := ho.by_.sl
    have hn3 : n3 = len0 := by rw [ho.by_.len.1]; exact HL.out
    subst hn3
    have HS := hide hS
    have HO := hide ho.by_
    have HB2 := hide (HB1.out.trans (hb2.mono hs1))
    have hs2 := HB2.out.size
    have hgw : w.heap.size ≤ g := Nat.le_trans hs1 hg
    clear hS ho hb2
    go_wp2_with fail
    refine (scanNumber_any HS.out HO.out (Nat.zero_le _) (N := N) (A := K) (E := E) (by rw [if_neg (by decide), List.drop_zero, HR.out, Nat.zero_add])).mono ?_
    rintro e w3 ⟨rfl, hS3, hg3⟩
    have HB3 := hide (HB2.out.grown hg3 hs2 (fun k hk => by injection hk with hk; omega))
    have HS3 := hide hS3
    have hs3 := HB3.out.size
    have hki : (K : Int) ≤ (n3 : Int) := by have := HL.out; omega
    have hn9 : (n3 : Int) ≤ 9223372036854775807 := by omega
    have hcut := fun W => run_cut_to W a0 n3 cap0 K (by have := HV.out.len.2; have := HL.out; omega)
    clear hg3 hS3 HS
    by_cases hE : E = 0
    case' pos =>
      subst hE
      have e9 : (n3 : Int) - ((n3 : Int) - (K : Int)) = (K : Int) := by omega
      go_wp2_with fail
      refine (err_any HS3.out.c2 HS3.out.c3).mono ?_
      rintro e w4 ⟨rfl, rfl⟩
      go_wp2_with fail
      refine (wireNumber_any (By.nil w3) (by decide) (N : Int) N (by omega) hN).mono ?_
      rintro e w4 ⟨v4, rfl, ho4, hb4⟩
      obtain ⟨p4, n4, c4, rfl⟩ := ho4.by_.sl
      have HO4 := hide ho4.by_
      have HB4 := hide (HB3.out.trans (hb4.mono hs3))
      have HS4 := hide (HS3.out.below hb4)
      clear ho4 hb4
      go_wp2_with fail
      refine (sleft_any HS4.out.c0 HS4.out.c1 (by omega) hn9).mono ?_
      rintro e w5 ⟨rfl, q, rfl⟩
      go_wp2_with fail
      refine (equal_any (w := w4.drewN q) HO4.out (cut_to ((HV.out.below HB4.out).drewN q) (k := K) (by have := HL.out; omega))).mono ?_
      rintro e w5 ⟨rfl, rfl⟩
      rw [take_num HR.out, List.nil_append, beq_self_eq_true]
      have HBW := hide (below_drewN HB4.out q)
      clear HO4 HB4 HS3 HB3 hs3 hcut
      go_wp2_with fail
      refine (err_any (w := w4.drewN q) HS4.out.c2 HS4.out.c3).mono ?_
      rintro e w5 ⟨rfl, rfl⟩
      clear HS4
      go_wp2_with fail
      generalize w4.drewN q = W at HBW ⊢
    case' neg =>
      have g1 : ((E : Int) == 0) = false := by simp; omega
      have g2 : ((E : Int) != 0) = true := by simp; omega
      obtain ⟨_, hK0⟩ := readNum_bad HR.out hE
      go_wp2_with fail
      refine (err_any HS3.out.c2 HS3.out.c3).mono ?_
      rintro e w4 ⟨rfl, rfl⟩
      go_wp2_with fail
      refine (err_any HS3.out.c2 HS3.out.c3).mono ?_
      rintro e w4 ⟨rfl, rfl⟩
      go_wp2_with fail
      refine (sleft_any HS3.out.c0 HS3.out.c1 (by omega) hn9).mono ?_
      rintro e w5 ⟨rfl, q, rfl⟩
      have HBW := hide (below_drewN HB3.out q)
      have g3 : ((n3 : Int) - (K : Int) != (n3 : Int)) = false := by rw [hK0]; simp
      clear HS3 HB3 hs3 hcut
      go_wp2_with fail
      generalize w3.drewN q = W at HBW ⊢
    all_goals
      clear HR HO HB1 HB2
      obtain ⟨T, A, F, hT⟩ : ∃ T A F, textP l 0 n3 = (T, A, F) := ⟨_, _, _, rfl⟩
      obtain ⟨hA, hTl, hF0, hF1⟩ := text_form hT
      have HT := hide hT
      have HF0 := hide hF0
      have HF1 := hide hF1
      have hsW := HBW.out.size
      clear hT hF0 hF1
      refine (over_any (HV.out.below HBW.out) (by have := HL.out; omega)).mono ?_
      rintro e x2 ⟨g, u, rfl, hg, hS, ho, hne, hb2⟩
      obtain ⟨p3, n4, c3, rfl⟩ := ho.by_.sl
      have hn4 : n4 = n3 := by rw [ho.by_.len.1]; exact HL.out
      subst hn4
      have HS := hide hS
      have HO := hide ho.by_
      have HNE := hide hne
      have HB2 := hide (HBW.out.trans (hb2.mono hsW))
      have hs2 := HB2.out.size
      have hgw : w.heap.size ≤ g := Nat.le_trans hsW hg
      clear hS ho hb2 hne
      go_wp2_with fail
      refine (scanText_any (T := T) (A := A) (E := F) HS.out HO.out HNE.out (Nat.zero_le _) (n4 : Int) n4 (by omega) (by rw [if_neg (by decide)]; exact HT.out)).mono ?_
      rintro e x3 ⟨rfl, hS3, hg3⟩
      have HB3 := hide (HB2.out.grown hg3 hs2 (fun k hk => by injection hk with hk; omega))
      have HS3 := hide hS3
      have hs3 := HB3.out.size
      have hAi : (A : Int) ≤ (n4 : Int) := by have := HL.out; omega
      have hcut := fun W => run_cut_to W a0 n4 cap0 A (by have := HV.out.len.2; have := HL.out; omega)
      clear hg3 hS3 HS HO HNE
      by_cases hF : F = 0
      case' pos =>
        subst hF
        have e9 : (n4 : Int) - ((n4 : Int) - (A : Int)) = (A : Int) := by omega
        go_wp2_with fail
        refine (err_any HS3.out.c2 HS3.out.c3).mono ?_
        rintro e x4 ⟨rfl, rfl⟩
        go_wp2_with fail
        refine (wireText_any (By.nil x3) (by decide) (str T) (by rw [str_size]; have := HL.out; omega)).mono ?_
        rintro e x4 ⟨v4, rfl, ho4, hb4⟩
        obtain ⟨p4, n4', c4, rfl⟩ := ho4.by_.sl
        have HO4 := hide ho4.by_
        have HB4 := hide (HB3.out.trans (hb4.mono hs3))
        have HS4 := hide (HS3.out.below hb4)
        clear ho4 hb4
        go_wp2_with fail
        refine (sleft_any HS4.out.c0 HS4.out.c1 (by omega) hn9).mono ?_
        rintro e x5 ⟨rfl, q', rfl⟩
        go_wp2_with fail
        refine (equal_any (w := x4.drewN q') HO4.out (cut_to ((HV.out.below HB4.out).drewN q') (k := A) (by have := HL.out; omega))).mono ?_
        rintro e x5 ⟨rfl, rfl⟩
        rw [HF0.out (by trivial), List.nil_append, str_size, str_list, beq_self_eq_true]
        have HBX := hide (below_drewN HB4.out q')
        clear HO4 HB4 HS3 HB3 hs3 hcut HBW
        go_wp2_with fail
        refine (err_any (w := x4.drewN q') HS4.out.c2 HS4.out.c3).mono ?_
        rintro e x5 ⟨rfl, rfl⟩
        clear HS4
        go_wp2_with fail
        generalize x4.drewN q' = X at HBX ⊢
      case' neg =>
        have g4 : ((F : Int) == 0) = false := by simp; omega
        have g5 : ((F : Int) != 0) = true := by simp; omega
        have hA0 := HF1.out hF
        go_wp2_with fail
        refine (err_any HS3.out.c2 HS3.out.c3).mono ?_
        rintro e x4 ⟨rfl, rfl⟩
        go_wp2_with fail
        refine (err_any HS3.out.c2 HS3.out.c3).mono ?_
        rintro e x4 ⟨rfl, rfl⟩
        go_wp2_with fail
        refine (sleft_any HS3.out.c0 HS3.out.c1 (by omega) hn9).mono ?_
        rintro e x5 ⟨rfl, q', rfl⟩
        have HBX := hide (below_drewN HB3.out q')
        have g6 : ((n4 : Int) - (A : Int) != (n4 : Int)) = false := by rw [hA0]; simp
        clear HS3 HB3 hs3 hcut HBW
        go_wp2_with fail
        generalize x3.drewN q' = X at HBX ⊢
    all_goals
      clear HT HF0 HF1 HB2 hAi
      obtain ⟨P, k, e, hP⟩ : ∃ P k e, pickL l = (P, k, e) := ⟨_, _, _, rfl⟩
      have HP := hide hP
      have hsX := HBX.out.size
      clear hP
      refine (wirePick_any (P := P) (K := k) (E := e) (HV.out.below HBX.out) HP.out).mono ?_
      rintro _ x5 ⟨v5, rfl, ho5, hb5⟩
      obtain ⟨p5, n5, c5, rfl⟩ := ho5.by_.sl
      have HN5 := hide ho5.by_.len.1
      have HO5 := hide ho5.by_
      have HB5 := hide (HBX.out.trans (hb5.mono hsX))
      have hs5 := HB5.out.size
      clear ho5 hb5
      by_cases he : e = 0
      · subst he
        obtain ⟨q1, q2, q3, q4⟩ := pick_ok HP.out
        have hkn : (k : Int) ≤ (n4 : Int) := by have := HL.out; omega
        have hR1 : recP P = (recL P, 0) := by unfold recP; rw [if_pos q3]
        have hcut := fun W => run_cut_to W a0 n4 cap0 k (by have := HV.out.len.2; have := HL.out; omega)
        have HQ := hide q2
        clear q1 q2 q3 q4
        go_wp2_with fail
        refine (wireRecord_post HO5.out hR1).mono ?_
        rintro _ x6 ⟨v6, rfl, ho6, hb6⟩
        obtain ⟨p6, n6, c6, rfl⟩ := ho6.by_.sl
        have HO6 := hide ho6.by_
        have HB6 := hide (HB5.out.trans (hb6.mono hs5))
        clear ho6 hb6
        go_wp2_with fail
        refine (equal_any HO6.out (cut_to (HV.out.below HB6.out) (k := k) (by have := HL.out; omega))).mono ?_
        rintro _ x7 ⟨rfl, rfl⟩
        rw [HQ.out, beq_self_eq_true]
        go_wp2
        go_ret
        exact ⟨rfl, HB6.out⟩
      · have g7 : ((e : Int) != 0) = true := by simp; omega
        obtain ⟨rfl, rfl⟩ := pick_bad HP.out he
        obtain rfl : n5 = 0 := HN5.out
        clear HP
        go_wp2
        go_ret
        exact ⟨rfl, HB5.out⟩
end Go.Proofs.Ythcakinkioniaaa
