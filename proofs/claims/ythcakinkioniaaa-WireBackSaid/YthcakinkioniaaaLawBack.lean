/- The walk of the statement on what was put and is read. -/
import Derived.Test.YthcakinkioniaaaLawForms
import Derived.Test.YthcakinkioniaaaCat
namespace Go.Proofs.Ythcakinkioniaaa
open Go.RowKit

theorem lens_two (a b : List UInt8) : Lib.lens [a, b] = a.length + b.length := by
  simp [Lib.lens]
theorem flatten_two (a b : List UInt8) : [a, b].flatten = a ++ b := by simp
theorem str_back (t : ByteArray) : str t.data.toList = t := by rw [str_eq]

/-- What was put: a number, a text, a flag, and what stands behind. -/
theorem put_read (N : Nat) (T : List UInt8) (y : Bool) (m : List UInt8) (hN : N < 9223372036854775808) (hT : T.length < 9223372036854775808) {L : List UInt8}
    (hL : L = (digits N ++ digits T.length ++ T ++ digits y.toNat) ++ m) :
    (if (0 : Nat) ≠ 0 then (0, 0, 0) else ((readNum (L.drop 0)).1, 0 + (readNum (L.drop 0)).2.1, (readNum (L.drop 0)).2.2)) = (N, (digits N).length, 0) ∧
    textP L (digits N).length T.length = (T, (digits N).length + (digits T.length).length + T.length, 0) ∧
    flagP L ((digits N).length + (digits T.length).length + T.length) = (y, (digits N).length + (digits T.length).length + T.length + (digits y.toNat).length, 0) ∧
    L.length = (digits N).length + (digits T.length).length + T.length + (digits y.toNat).length + m.length := by
  have hlen : L.length = (digits N).length + (digits T.length).length + T.length + (digits y.toNat).length + m.length := by
    rw [hL]
    simp only [List.length_append]
  refine ⟨?_, ?_, ?_, hlen⟩
  · rw [if_neg (by decide), List.drop_zero, hL]
    simp only [List.append_assoc]
    rw [readNum_digits hN]
    simp
  · have e : L.drop (digits N).length = digits T.length ++ (T ++ (digits y.toNat ++ m)) := by
      rw [hL]
      simp only [List.append_assoc]
      rw [List.drop_left]
    unfold textP
    rw [e, readNum_digits hT]
    dsimp only
    unfold textB
    rw [if_neg (by decide), if_neg (by omega), if_neg (by omega)]
    have e2 : L.drop ((digits N).length + (digits T.length).length) = T ++ (digits y.toNat ++ m) := by
      rw [← List.drop_drop, e, List.drop_left]
    rw [e2, List.take_left]
  · have e : L.drop ((digits N).length + (digits T.length).length + T.length) = digits y.toNat ++ m := by
      rw [hL, ← List.length_append, ← List.length_append]
      rw [List.append_assoc (digits N ++ digits T.length ++ T), List.drop_left]
    unfold flagP
    rw [e, readNum_digits (by cases y <;> decide)]
    dsimp only
    unfold flagB
    rw [if_neg (by cases y <;> decide)]
    cases y <;> rfl

theorem put_reads (N : Nat) (T : List UInt8) (y : Bool) (m : List UInt8) (hN : N < 9223372036854775808) (hT : T.length < 9223372036854775808) {L : List UInt8} {S : Nat} (hS : T.length = S)
    (hL : L = (digits N ++ digits T.length ++ T ++ digits y.toNat) ++ m) :
    ∃ A1 A2 A3 : Nat, (if (0 : Nat) ≠ 0 then (0, 0, 0) else ((readNum (L.drop 0)).1, 0 + (readNum (L.drop 0)).2.1, (readNum (L.drop 0)).2.2)) = (N, A1, 0) ∧ textP L A1 S = (T, A2, 0) ∧ flagP L A2 = (y, A3, 0) ∧ A1 ≤ L.length ∧ A2 ≤ L.length ∧ L.length = A3 + m.length := by
  obtain ⟨h1, h2, h3, h4⟩ := put_read N T y m hN hT hL
  subst hS
  exact ⟨_, _, _, h1, h2, h3, by omega, by omega, h4⟩

set_option maxRecDepth 200000 in
set_option maxHeartbeats 1000000 in
theorem back_big (n : Int) (t : ByteArray) (yes : Bool) (a3 : Option Addr) (len3 cap3 : Nat) (a4 : Option Addr) (len4 cap4 : Nat) (w : World)
    (h : (131072 : Int) < (t.size : Int) ∨ ¬ (131072 : Int) < (t.size : Int) ∧ (131072 : Int) < (len3 : Int) ∨ ¬ (131072 : Int) < (t.size : Int) ∧ ¬ (131072 : Int) < (len3 : Int) ∧ (131072 : Int) < (len4 : Int)) :
    Calls Try.prog 9 #[.int .i64 n, .string t, .bool yes, .slice a3 len3 cap3, .slice a4 len4 cap4] w fun e w' => e = .returned (.bool true) ∧ Below w.heap.size w w' := by
  rcases h with h | ⟨h1, h2⟩ | ⟨h1, h2, h3⟩
  all_goals
    go_enter Try.func9, Try.ntmps9
    go_wp2_with fail
    refine (sum_none w).mono ?_
    rintro e w1 ⟨rfl, rfl⟩
    go_wp2
    go_ret
    exact ⟨rfl, Below.refl _ _⟩

set_option maxRecDepth 200000 in
set_option maxHeartbeats 4000000 in
theorem back_law (n : Int) (t : ByteArray) (yes : Bool) (a3 : Option Addr) (len3 cap3 : Nat) (l3 : List UInt8) (hl3 : l3.length = len3) (a4 : Option Addr) (len4 cap4 : Nat) (l4 : List UInt8) (hl4 : l4.length = len4) (w : World)
    (hv3 : By w (.slice a3 len3 cap3) l3) (hv4 : By w (.slice a4 len4 cap4) l4) (hN0 : -9223372036854775808 ≤ n ∧ n ≤ 9223372036854775807) :
    Calls Try.prog 9 #[.int .i64 n, .string t, .bool yes, .slice a3 len3 cap3, .slice a4 len4 cap4] w fun e w' => e = .returned (.bool true) ∧ Below w.heap.size w w' := by
  by_cases hb1 : (131072 : Int) < (t.size : Int)
  · exact back_big _ _ _ _ _ _ _ _ _ w (.inl hb1)
  by_cases hb2 : (131072 : Int) < (len3 : Int)
  · exact back_big _ _ _ _ _ _ _ _ _ w (.inr (.inl ⟨hb1, hb2⟩))
  by_cases hb3 : (131072 : Int) < (len4 : Int)
  · exact back_big _ _ _ _ _ _ _ _ _ w (.inr (.inr ⟨hb1, hb2, hb3⟩))
  · obtain ⟨N, hN⟩ : ∃ N : Nat, max n 0 = (N : Int) := ⟨(max n 0).toNat, by omega⟩
    have hNl : N < lim := by unfold lim; omega
    have htl : t.data.toList.length = t.size := by rw [Array.length_toList]; rfl
    have hd1 := digits_length N hNl
    have hd2 := digits_length t.size (by omega)
    have hd3 : (digits yes.toNat).length = 1 := by rw [digits_small (by cases yes <;> decide)]; rfl
    obtain ⟨L, hL⟩ : ∃ L, L = (digits N ++ digits t.data.toList.length ++ t.data.toList ++ digits yes.toNat) ++ l4 := ⟨_, rfl⟩
    obtain ⟨A1, A2, A3, p1, p2, p3, p4, p5, p6⟩ := put_reads N t.data.toList yes l4 hNl (by rw [htl]; omega) htl hL
    have hLl : L.length ≤ 1000000 := by
      rw [hL]
      simp only [List.length_append]
      rw [htl]
      omega
    have HV3 := hide hv3
    have HV4 := hide hv4
    have HL3 := hide hl3
    have HL4 := hide hl4
    have HL := hide hL
    have HP1 := hide p1
    have HP2 := hide p2
    have HP3 := hide p3
    have HP6 := hide p6
    have HTL := hide htl
    have HD := hide (And.intro hd1 (And.intro hd2 hd3))
    clear hv3 hv4 hl3 hl4 hL p1 p2 p3 p6 htl hd1 hd2 hd3
    go_enter Try.func9, Try.ntmps9
    go_wp2_with fail
    refine (wireNumber_any (By.nil w) (by decide) n N hN hNl).mono ?_
    rintro e w1 ⟨v1, rfl, ho1, hb1'⟩
    obtain ⟨q1, n1, c1, rfl⟩ := ho1.by_.sl
    have HO1 := hide ho1.by_
    have HB1 := hide hb1'
    have hs1 := HB1.out.size
    clear ho1 hb1'
    go_wp2_with fail
    refine (wireText_any HO1.out (by have := HD.out.1; rw [List.nil_append]; omega) t (by omega)).mono ?_
    rintro e w2 ⟨v2, rfl, ho2, hb2'⟩
    obtain ⟨q2, n2, c2, rfl⟩ := ho2.by_.sl
    have HO2 := hide ho2.by_
    have HB2 := hide (HB1.out.trans (hb2'.mono hs1))
    have hs2 := HB2.out.size
    clear ho2 hb2' HO1 HB1
    go_wp2_with fail
    refine (wireFlag_any HO2.out (by have := HD.out; have := HTL.out; simp only [List.length_append, List.length_nil]; omega) yes).mono ?_
    rintro e w3 ⟨v3, rfl, ho3, hb3'⟩
    obtain ⟨q3, n3, c3, rfl⟩ := ho3.by_.sl
    have HO3 := hide ho3.by_
    have HB3 := hide (HB2.out.trans (hb3'.mono hs2))
    have hs3 := HB3.out.size
    clear ho3 hb3' HO2 HB2
    have HBS := hide (two_parts HO3.out (HV4.out.below HB3.out))
    have HBA := hide (balloc HB3.out (.cells #[.slice q3 n3 c3, .slice a4 len4 cap4] 22))
    have hsa := HBA.out.size
    go_wp2_with fail
    refine (join_any HBS.out (by rw [lens_two, List.nil_append, ← HTL.out, ← List.length_append, ← HL.out]; omega) (by simp)).mono ?_
    rintro e w4 ⟨v4, rfl, ho4, hb4'⟩
    obtain ⟨q4, n4, c4, rfl⟩ := ho4.by_.sl
    have HO4 : Hid (By w4 (.slice q4 n4 c4) L) := hide (by
      have h := ho4.by_
      rw [flatten_two, List.nil_append, ← HTL.out, ← HL.out] at h
      exact h)
    have HB4 := hide (HBA.out.trans (hb4'.mono hsa))
    have hs4 := HB4.out.size
    clear ho4 hb4' HO3 HB3 HBS HBA
    go_wp2_with fail
    refine (over_any HO4.out (by omega)).mono ?_
    rintro e w5 ⟨g, u, rfl, hg, hS, ho5, hne, hb5⟩
    obtain ⟨q5, n5, c5, rfl⟩ := ho5.by_.sl
    have hn5 := ho5.by_.len.1
    have hg' : w.heap.size ≤ g := Nat.le_trans hs4 hg
    have HN5 := hide hn5
    have HS := hide hS
    have HO5 := hide ho5.by_
    have HNE := hide hne
    have HB5 := hide (HB4.out.trans (hb5.mono hs4))
    have hs5 := HB5.out.size
    clear hS ho5 hne hb5 HO4 HB4 hn5 hg
    go_wp2_with fail
    refine (scanNumber_any (N := N) (A := A1) (E := 0) HS.out HO5.out (Nat.zero_le _) HP1.out).mono ?_
    rintro e w6 ⟨rfl, hS, hg6⟩
    have HS6 := hide hS
    have HO6 := hide (HO5.out.grown hg6 HNE.out)
    have HB6 := hide (HB5.out.grown hg6 hs5 (fun k hk => by injection hk with hk; omega))
    have hs6 := HB6.out.size
    clear hS hg6 HS HO5 HB5
    go_wp2_with fail
    refine (scanText_any (T := t.data.toList) (A := A2) (E := 0) HS6.out HO6.out HNE.out (by have := HN5.out; omega) (t.size : Int) t.size (by omega) (by rw [if_neg (by decide)]; exact HP2.out)).mono ?_
    rintro e w7 ⟨rfl, hS, hg7⟩
    rw [str_back]
    have HS7 := hide hS
    have HO7 := hide (HO6.out.grown hg7 HNE.out)
    have HB7 := hide (HB6.out.grown hg7 hs6 (fun k hk => by injection hk with hk; omega))
    have hs7 := HB7.out.size
    clear hS hg7 HS6 HO6 HB6
    go_wp2_with fail
    refine (scanFlag_any (y := yes) (A := A3) (E := 0) HS7.out HO7.out (by have := HN5.out; omega) (by rw [if_neg (by decide)]; exact HP3.out)).mono ?_
    rintro e w8 ⟨rfl, hS, hg8⟩
    have HS8 := hide hS
    have HB8 := hide (HB7.out.grown hg8 hs7 (fun k hk => by injection hk with hk; omega))
    have hs8 := HB8.out.size
    clear hS hg8 HS7 HO7 HB7
    have hyy : (yes != yes) = false := by cases yes <;> rfl
    go_wp2_with fail
    refine (sleft_any HS8.out.c0 HS8.out.c1 (by have := HN5.out; have := HP6.out; omega) (by have := HN5.out; omega)).mono ?_
    rintro e w9 ⟨rfl, q, rfl⟩
    rw [show (n5 : Int) - (A3 : Int) = (len4 : Int) by have := HN5.out; have := HP6.out; have := HL4.out; omega]
    go_wp2_with fail
    refine (err_any (w := w8.drewN q) HS8.out.c2 HS8.out.c3).mono ?_
    rintro e w9 ⟨rfl, rfl⟩
    have HB9 := hide (below_drewN HB8.out q)
    clear HS8 HB8 hs8 hs7 hs6 hs5 hs4 hsa hs3 hs2 hs1
    go_wp2_with fail
    generalize w8.drewN q = W at HB9 ⊢
    have hsW := HB9.out.size
    have HW3 := hide (HV3.out.below HB9.out)
    clear HP1 HP2 HP3 HP6 HN5 HNE HL
    by_cases hlong : (65536 : Int) < (len3 : Int)
    · have hR : recP l3 = ([], 4) := by unfold recP; rw [if_neg (by have := HL3.out; omega)]
      refine (wireRecord_post HW3.out hR).mono ?_
      rintro e w10 ⟨v10, rfl, ho10, hb10⟩
      obtain ⟨q10, n10, c10, rfl⟩ := ho10.by_.sl
      obtain rfl : n10 = 0 := ho10.by_.len.1
      have HB10 := hide (HB9.out.trans (hb10.mono hsW))
      clear ho10 hb10
      go_wp2
      go_ret
      exact ⟨rfl, HB10.out⟩
    · have hR : recP l3 = (recL l3, 0) := by unfold recP; rw [if_pos (by have := HL3.out; omega)]
      obtain ⟨R, hRR⟩ : ∃ R, recL l3 = R := ⟨_, rfl⟩
      have hpick := pick_rec l3 (by have := HL3.out; omega) l4
      have hRl : R.length = 1 + (digits l3.length).length + l3.length + 4 := by rw [← hRR]; unfold recL; rw [List.length_append, tailL_length, front_length]
      have hd9 := digits_length l3.length (by have := HL3.out; omega)
      have hd1 := digits_pos l3.length
      have hRu : R.length ≤ 65550 := by have := HL3.out; omega
      have hRg : len3 + 6 ≤ R.length := by have := HL3.out; omega
      rw [hRR] at hR hpick
      have HPK := hide hpick
      clear hRl hd9 hd1 hpick
      refine (wireRecord_post HW3.out hR).mono ?_
      rintro e w10 ⟨v10, rfl, ho10, hb10⟩
      obtain ⟨q10, n10, c10, rfl⟩ := ho10.by_.sl
      have hn10 := ho10.by_.len.1
      have hn10g : (len3 : Int) + 6 ≤ (n10 : Int) := by omega
      have HN10 := hide hn10
      have HO10 := hide ho10.by_
      have HB10 := hide (HB9.out.trans (hb10.mono hsW))
      have hs10 := HB10.out.size
      have HBS := hide (two_parts HO10.out (HV4.out.below HB10.out))
      have HBA := hide (balloc HB10.out (.cells #[.slice q10 n10 c10, .slice a4 len4 cap4] 22))
      have hsa := HBA.out.size
      clear ho10 hb10 hn10
      go_wp2_with fail
      refine (join_any HBS.out (by rw [lens_two]; have := HL4.out; omega) (by simp)).mono ?_
      rintro e w11 ⟨v11, rfl, ho11, hb11⟩
      obtain ⟨q11, n11, c11, rfl⟩ := ho11.by_.sl
      have HO11 : Hid (By w11 (.slice q11 n11 c11) (R ++ l4)) := hide (by
        have h := ho11.by_
        rw [flatten_two] at h
        exact h)
      have HB11 := hide (HBA.out.trans (hb11.mono hsa))
      have hs11 := HB11.out.size
      clear ho11 hb11 HO10 HB10 HBS HBA
      go_wp2_with fail
      refine (wirePick_any HO11.out HPK.out).mono ?_
      rintro e w12 ⟨v12, rfl, ho12, hb12⟩
      obtain ⟨q12, n12, c12, rfl⟩ := ho12.by_.sl
      have HO12 := hide ho12.by_
      have HB12 := hide (HB11.out.trans (hb12.mono hs11))
      clear ho12 hb12 HO11 HB11
      rw [← HN10.out]
      go_wp2_with fail
      refine (equal_any HO12.out (HV3.out.below HB12.out)).mono ?_
      rintro e w13 ⟨rfl, rfl⟩
      rw [beq_self_eq_true]
      go_wp2
      go_ret
      exact ⟨rfl, HB12.out⟩
end Go.Proofs.Ythcakinkioniaaa
