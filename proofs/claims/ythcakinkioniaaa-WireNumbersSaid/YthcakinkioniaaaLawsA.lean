/- The walks of the statements on numbers and texts. -/
import Derived.Test.YthcakinkioniaaaText
import Derived.BigGuard
namespace Go.Proofs.Ythcakinkioniaaa
open Go.RowKit

set_option maxRecDepth 20000 in
set_option maxHeartbeats 400000 in
theorem numbers_law (a0 : Option Addr) (len0 cap0 : Nat) (l : List UInt8) (hl : l.length = len0) (n : Int) (w : World) (hv : By w (.slice a0 len0 cap0) l) (hn : (Lit.int .i64 n).wf = true) :
    Calls Try.prog 3 #[.slice a0 len0 cap0, .int .i64 n] w fun e w' => e = .returned (.bool true) ∧ Below w.heap.size w w' := by
  have HV := hide hv
  have HL := hide hl
  clear hv hl
  obtain ⟨N, hN⟩ : ∃ N : Nat, max n 0 = (N : Int) := ⟨(max n 0).toNat, by omega⟩
  have hn2 : N < lim := by
    have h2 : IntKind.i64.max = 9223372036854775807 := rfl
    simp only [Lit.wf, Bool.and_eq_true, decide_eq_true_eq] at hn
    unfold lim
    omega
  have HN := hide hN
  clear hN hn
  by_cases hbig : (131072 : Int) < (len0 : Int)
  · go_enter Try.func3, Try.ntmps3
    go_wp2_with fail
    refine (wireNumber_any (By.nil w) (by simp) 1 1 (by decide) (by decide)).mono ?_
    rintro e w1 ⟨v1, rfl, ho, hb⟩
    obtain ⟨p1, c1, rfl⟩ := ho.by_.shape
    have hd : ([] ++ digits 1).length = 1 := by rw [digits_small (by omega)]; rfl
    rw [hd]
    go_wp2
    go_ret
    exact ⟨rfl, hb⟩
  · go_enter Try.func3, Try.ntmps3
    go_wp2_with fail
    refine (sclone_any HV.out (by rw [HL.out]; omega)).mono ?_
    rintro e w1 ⟨v1, rfl, ho1, hb1⟩
    obtain ⟨p1, n1, c1, rfl⟩ := ho1.by_.sl
    have H1 := hide ho1
    clear ho1
    go_wp2_with fail
    refine (wireNumber_any H1.out.by_ (by rw [HL.out]; omega) n N HN.out hn2).mono ?_
    rintro e w2 ⟨v2, rfl, ho2, hb2⟩
    obtain ⟨p2, n2, c2, rfl⟩ := ho2.by_.sl
    have H2 := hide ho2
    clear ho2
    have hbs1 := hb1.size
    have hb02 := hb1.trans (hb2.mono hbs1)
    go_wp2_with fail
    refine (refNumber_any (HV.out.below hb02) (by rw [HL.out]; omega) n N HN.out hn2).mono ?_
    rintro e w3 ⟨v3, rfl, hown3, hb3⟩
    have ho3 := Own.of_row hown3
    obtain ⟨p3, n3, c3, rfl⟩ := ho3.by_.sl
    have H3 := hide ho3
    clear hown3 ho3
    go_wp2_with fail
    refine (equal_any (H2.out.by_.below hb3) H3.out.by_).mono ?_
    rintro e w4 ⟨rfl, rfl⟩
    rw [beq_self_eq_true]
    have hbs2 := hb02.size
    have hd := digits_length N hn2
    have hb03 : Below w.heap.size w w3 := hb02.trans (hb3.mono hbs2)
    have hb13 : Below w1.heap.size w1 w3 := hb2.trans (hb3.mono hb2.size)
    have hO2 : Own w1.heap.size w3 (.slice p2 n2 c2) (l ++ digits N) := H2.out.below hb3
    have hs3 := hb13.size
    have h1 : By (w3.alloc (.cells #[.int .u8 1] 5)) (.slice (some ⟨w3.heap.size, 0, none⟩) 1 1) [1] := by
      have := World.ownsRow_lit (e := 5) (size := 1) w3 #[bv 1] 1 (Nat.le_refl _) (by decide) rfl
      exact (Own.of_row (l := [1]) this).by_
    have HO := hide (hO2.below ((Below.refl _ w3).alloc (Nat.le_refl _) (.cells #[.int .u8 1] 5)))
    have HY := hide h1
    have HB03 := hide hb03
    have HB13 := hide hb13
    have hll : l.length ≤ 131072 := by rw [HL.out]; omega
    clear hO2 h1 hb03 hb13 hb3 hb2 hb02
    go_wp2_with (at_builtin; go_must (refine wpList_append_by rfl _ _ rfl rfl rfl rfl HO.out HY.out (by simp; omega) (by simp; omega) ?_); intro v5 w5 hown5 hg5 hb5 hat5; obtain ⟨g, n5, cap5, x5, rfl, h5p, hBg, hglt, hcell5, hfr5⟩ := hown5.head (by rw [List.length_append]; exact Nat.succ_pos _); clear hg5 hat5)
    have hs5 := hb5.size
    have e1 : Below w1.heap.size w1 (w5.setCell ⟨g, 0, none⟩ (.int .u8 (bits BinOp.xor IntKind.u8 (x5.toNat : Int) 255))) :=
      ((HB13.out.alloc hs3 _).trans hb5).setCell (p := ⟨g, 0, none⟩) hBg _
    have hG := H1.out.by_.below e1
    have hV := (HV.out.below hb1).below e1
    refine (equal_any hG hV).mono ?_
    rintro e w6 ⟨rfl, rfl⟩
    rw [beq_self_eq_true]
    clear HO HY H1 H2 H3 hcell5 hfr5 hG hV
    have HE := hide (hb1.trans (e1.mono hbs1))
    clear e1 hb5
    go_wp2
    go_ret
    exact ⟨rfl, HE.out⟩

theorem toList_len (s : ByteArray) : s.data.toList.length = s.size := by rw [Array.length_toList]; rfl

set_option maxRecDepth 20000 in
set_option maxHeartbeats 400000 in
theorem texts_big (a0 : Option Addr) (len0 cap0 : Nat) (s : ByteArray) (y : Bool) (w : World) (hbig : (131072 : Int) < (len0 : Int) ∨ ¬ (131072 : Int) < (len0 : Int) ∧ (131072 : Int) < (s.size : Int)) :
    Calls Try.prog 4 #[.slice a0 len0 cap0, .string s, .bool y] w fun e w' => e = .returned (.bool true) ∧ Below w.heap.size w w' := by
  have hd : ([] ++ digits 1 ++ [97]).length = 2 := by rw [digits_small (by omega)]; rfl
  rcases hbig with h | ⟨h1, h2⟩
  all_goals
    go_enter Try.func4, Try.ntmps4
    go_wp2_with fail
    refine (wireText_any (By.nil w) (by simp) ⟨#[97]⟩ (by decide)).mono ?_
    rintro e w1 ⟨v1, rfl, ho, hb⟩
    obtain ⟨p1, n1, c1, rfl⟩ := ho.by_.sl
    obtain rfl : n1 = 2 := by rw [ho.by_.len.1]; exact hd
    clear ho
    go_wp2
    go_ret
    exact ⟨rfl, hb⟩

set_option maxRecDepth 20000 in
set_option maxHeartbeats 400000 in
theorem texts_law (a0 : Option Addr) (len0 cap0 : Nat) (l : List UInt8) (hl : l.length = len0) (s : ByteArray) (y : Bool) (w : World) (hv : By w (.slice a0 len0 cap0) l) :
    Calls Try.prog 4 #[.slice a0 len0 cap0, .string s, .bool y] w fun e w' => e = .returned (.bool true) ∧ Below w.heap.size w w' := by
  by_cases hb1 : (131072 : Int) < (len0 : Int)
  · exact texts_big a0 len0 cap0 s y w (.inl hb1)
  by_cases hb2 : (131072 : Int) < (s.size : Int)
  · exact texts_big a0 len0 cap0 s y w (.inr ⟨hb1, hb2⟩)
  have HV := hide hv
  have hll : l.length ≤ 131072 := by omega
  clear hv hl
  go_enter Try.func4, Try.ntmps4
  go_wp2_with fail
  refine (sclone_any HV.out (by omega)).mono ?_
  rintro e w1 ⟨v1, rfl, ho1, hb1⟩
  obtain ⟨p1, n1, c1, rfl⟩ := ho1.by_.sl
  have H1 := hide ho1
  clear ho1
  go_wp2_with fail
  refine (wireText_any H1.out.by_ (by omega) s (by omega)).mono ?_
  rintro e w2 ⟨v2, rfl, ho2, hb2⟩
  obtain ⟨p2, n2, c2, rfl⟩ := ho2.by_.sl
  have H2 := hide ho2
  clear ho2
  have hbs1 := hb1.size
  have hb02 := hb1.trans (hb2.mono hbs1)
  have hbs2 := hb02.size
  go_wp2_with fail
  refine (wireFlag_any (H1.out.by_.below hb2) (by omega) y).mono ?_
  rintro e w3 ⟨v3, rfl, ho3, hb3⟩
  obtain ⟨p3, n3, c3, rfl⟩ := ho3.by_.sl
  have H3 := hide ho3
  clear ho3
  have hb03 := hb02.trans (hb3.mono hbs2)
  have hbs3 := hb03.size
  have HV3 := hide (HV.out.below hb03)
  go_wp2_with fail
  refine (refText_any HV3.out (by omega) s (by omega)).mono ?_
  rintro e w4 ⟨v4, rfl, ho4, hb4⟩
  obtain ⟨p4, n4, c4, rfl⟩ := ho4.by_.sl
  have H4 := hide ho4
  clear ho4
  go_wp2_with fail
  refine (equal_any ((H2.out.by_.below hb3).below hb4) H4.out.by_).mono ?_
  rintro e w5 ⟨rfl, rfl⟩
  rw [beq_self_eq_true]
  go_wp2_with fail
  have hb04 := hb03.trans (hb4.mono hbs3)
  have hbs4 := hb04.size
  refine (refFlag_any (HV3.out.below hb4) (by omega) y).mono ?_
  rintro e w5 ⟨v5, rfl, ho5, hb5⟩
  obtain ⟨p5, n5, c5, rfl⟩ := ho5.by_.sl
  have H5 := hide ho5
  clear ho5
  go_wp2_with fail
  refine (equal_any ((H3.out.by_.below hb4).below hb5) H5.out.by_).mono ?_
  rintro e w6 ⟨rfl, rfl⟩
  rw [beq_self_eq_true]
  go_wp2_with fail
  refine (equal_any ((((H1.out.by_.below hb2).below hb3).below hb4).below hb5) ((HV3.out.below hb4).below hb5)).mono ?_
  rintro e w6 ⟨rfl, rfl⟩
  rw [beq_self_eq_true]
  have HE := hide (hb04.trans (hb5.mono hbs4))
  clear H1 H2 H3 H4 H5 HV HV3
  go_wp2
  go_ret
  exact ⟨rfl, HE.out⟩
end Go.Proofs.Ythcakinkioniaaa
