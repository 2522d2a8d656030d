import Derived.Test.YtionbmlicmibgaaGreatDoorMcChk
namespace Go.Proofs.YtionbmlicmibgaaGreatDoor
set_option linter.unusedVariables false
set_option linter.unusedSimpArgs false
open Go.RowKit
def SmS (sp : List Sp) : Prop := sp.length ≤ 820 ∧ ∀ x ∈ sp, x.n.size ≤ 32768
def HvyP (sp : List Sp) (e : Ending) : Prop := ∃ x : Int, e = .returned (.int .i64 x) ∧ 0 ≤ x ∧ x ≤ 65576 ∧ (x ≤ 32768 → SmS sp)
set_option maxRecDepth 200000 in
set_option maxHeartbeats 4000000 in
theorem mheavy_any {w : World} {k se sq a : Int} {p : Option Addr} {n d : Nat} {q : Option Addr} {m f : Nat} {sp : List Sp} (hs : Sps w (.slice p n d) sp) (hm : m ≤ maxLen) (hnm : ∀ x ∈ sp, x.n.size ≤ maxLen) : Calls Tryz.prog 14 #[.agg #[.int .i64 k, .int .i64 se, .int .i64 sq, .int .i64 a, .slice p n d, .slice q m f]] w fun e w' => HvyP sp e ∧ Below w.heap.size w w' := by
 have hbx := (Below.refl w.heap.size w).alloc (Nat.le_refl _) (.cells #[.int .i64 k, .int .i64 se, .int .i64 sq, .int .i64 a, .slice p n d, .slice q m f] 25)
 have hbc := BoxC.new w k se sq a (.slice p n d) (.slice q m f)
 obtain ⟨X, hX⟩ : ∃ X, w.alloc (.cells #[.int .i64 k, .int .i64 se, .int .i64 sq, .int .i64 a, .slice p n d, .slice q m f] 25) = X := ⟨_, rfl⟩
 obtain ⟨b, hb⟩ : ∃ b, w.heap.size = b := ⟨_, rfl⟩
 have hn := hs.len
 have HS := hide (fun W (hW : Below w.heap.size w W) => hs.below hW)
 have HN := hide hn.1
 have HNM := hide hnm
 have hn9 : (n : Int) ≤ 9223372036854775807 := by unfold maxLen at hn; omega
 have hm9 : (m : Int) ≤ 9223372036854775807 := by unfold maxLen at hm; omega
 have hmn : min (m : Int) 32768 ≤ 32768 := Int.min_le_right _ _
 have hmn0 : 0 ≤ min (m : Int) 32768 := by omega
 rw [hX] at hbx hbc
 have HBW : Hid (Below w.heap.size w X) := hide hbx
 rw [hb] at hbc
 have HBC : Hid (∀ U, Below X.heap.size X U → BoxC U b k se sq a (.slice p n d) (.slice q m f)) := hide fun U hU => hbc.below hU
 obtain ⟨x0, x1, x2, x3, x4, x5⟩ := hbc
 clear hs hnm hn hbx hm
 go_enter Tryz.func14, Tryz.ntmps14
 go_upto_region 1 with fail
 clear hX
 have HBB := hide hb
 clear hb
 go_wp2_with fail
 obtain ⟨M, hM⟩ : ∃ M, min (m : Int) 32768 = M := ⟨_, rfl⟩
 rw [hM] at hmn hmn0 ⊢
 clear hM x0 x1 x2 x3 x4 x5
 go_loopw [3, 4] (fun v i wr => ∃ (j : Nat) (y : Int), j ≤ n ∧ i = .int .i64 j ∧ v = .int .i64 y ∧ 0 ≤ y ∧ y ≤ 65576 ∧ 40 * (j : Int) ≤ y ∧ Hid (Below X.heap.size X wr ∧ (y ≤ 32768 → ∀ x ∈ sp.take j, x.n.size ≤ 32768))) (fun _ i _ => n - (intOf i).toNat)
 case atStart => exact ⟨0, M, by omega, rfl, rfl, hmn0, by omega, by omega, hide ⟨Below.refl _ _, fun _ x hx => by simp at hx⟩⟩
 case round =>
  obtain ⟨j, y, hj, rfl, rfl, hy0, hy1, hy2, HR⟩ := hrel
  obtain ⟨x0, x1, x2, x3, x4, x5⟩ := HBC.out wr HR.out.1
  by_cases hlt : j < n
  ·by_cases hy : y ≤ 32768
   ·have e2 : decide (y ≤ 32768) = true := decide_eq_true hy
    have e1 : decide ((j : Int) < (n : Int)) = true := decide_eq_true (by omega)
    obtain ⟨s, hsj⟩ : ∃ y, sp[j]? = some y := ⟨_, List.getElem?_eq_getElem (by have := HN.out; omega)⟩
    obtain ⟨gd, o, rfl, hc⟩ := (HS.out wr (HBW.out.trans (HR.out.1.mono HBW.out.size))).at_ (by omega)
    have c5 := (hc j s hsj).c5
    obtain ⟨z, hz⟩ : ∃ z : Nat, s.n.size = z := ⟨_, rfl⟩
    have hz9 : (z : Int) ≤ 9223372036854775807 := by have := HNM.out s (List.mem_of_getElem? hsj); unfold maxLen at this; omega
    obtain ⟨Z, hZ⟩ : ∃ Z, min (z : Int) 32768 = Z := ⟨_, rfl⟩
    have HT : Hid (y + (40 + Z) ≤ 32768 → ∀ x ∈ sp.take (j + 1), x.n.size ≤ 32768) := hide (fun h x hx => by
     rw [List.take_add_one, hsj, List.mem_append] at hx
     rcases hx with hx | hx
     ·exact HR.out.2 (by omega) x hx
     ·simp at hx
      subst hx
      omega)
    have hZ2 : 0 ≤ Z ∧ Z ≤ 32768 := by omega
    have w1 : IntKind.i64.wrap (40 + Z) = 40 + Z := IntWalk.i64_in _ (by omega)
    have w2 : IntKind.i64.wrap (y + (40 + Z)) = y + (40 + Z) := IntWalk.i64_in _ (by omega)
    clear hc hsj
    go_wp2_with fail
    go_roundw
    case rel => exact ⟨j + 1, y + (40 + Z), by omega, by go_num, rfl, by omega, by omega, by omega, hide ⟨HR.out.1, HT.out⟩⟩
    case measure => simp [intOf]; omega
   ·have e2 : decide (y ≤ 32768) = false := decide_eq_false hy
    have e1 : decide ((j : Int) < (n : Int)) = true := decide_eq_true (by omega)
    go_wp2_with fail
    go_ret
    exact ⟨⟨y, rfl, hy0, hy1, fun h => absurd h (by omega)⟩, HBW.out.trans (HR.out.1.mono HBW.out.size)⟩
  ·have e1 : decide ((j : Int) < (n : Int)) = false := decide_eq_false (by omega)
   have HF : Hid (y ≤ 32768 → SmS sp) := hide (fun h => ⟨by have := HN.out; omega, by
    have h1 := HR.out.2 h
    rwa [List.take_of_length_le (by have := HN.out; omega)] at h1⟩)
   go_wp2_with fail
   go_ret
   exact ⟨⟨y, rfl, hy0, hy1, HF.out⟩, HBW.out.trans (HR.out.1.mono HBW.out.size)⟩
set_option maxRecDepth 200000 in
set_option maxHeartbeats 8000000 in
theorem same_true {w : World} {k se sq a : Int} {p1 : Option Addr} {n1 d1 : Nat} {q1 : Option Addr} {m1 f1 : Nat} {p2 : Option Addr} {n2 d2 : Nat} {q2 : Option Addr} {m2 f2 : Nat} {sp : List Sp} {vo : List Int} (h1 : Sps w (.slice p1 n1 d1) sp) (h2 : Sps w (.slice p2 n2 d2) sp) (g1 : Ns w (.slice q1 m1 f1) vo) (g2 : Ns w (.slice q2 m2 f2) vo) : Calls Tryz.prog 23 #[.agg #[.int .i64 k, .int .i64 se, .int .i64 sq, .int .i64 a, .slice p1 n1 d1, .slice q1 m1 f1], .agg #[.int .i64 k, .int .i64 se, .int .i64 sq, .int .i64 a, .slice p2 n2 d2, .slice q2 m2 f2]] w fun e w' => e = .returned (.bool true) ∧ Below w.heap.size w w' := by
 have e0 : ∀ x : Int, (x == x) = true := fun x => by simp
 have y0 := e0 k
 have y1 := e0 se
 have y2 := e0 sq
 have y3 := e0 a
 clear e0
 have b1 := (Below.refl w.heap.size w).alloc (Nat.le_refl _) (.cells #[.int .i64 k, .int .i64 se, .int .i64 sq, .int .i64 a, .slice p1 n1 d1, .slice q1 m1 f1] 25)
 have c1 := BoxC.new w k se sq a (.slice p1 n1 d1) (.slice q1 m1 f1)
 have s1 : (w.alloc (.cells #[.int .i64 k, .int .i64 se, .int .i64 sq, .int .i64 a, .slice p1 n1 d1, .slice q1 m1 f1] 25)).heap.size = w.heap.size + 1 := by simp
 have c2 := BoxC.new (w.alloc (.cells #[.int .i64 k, .int .i64 se, .int .i64 sq, .int .i64 a, .slice p1 n1 d1, .slice q1 m1 f1] 25)) k se sq a (.slice p2 n2 d2) (.slice q2 m2 f2)
 have b2 := (Below.refl _ (w.alloc (.cells #[.int .i64 k, .int .i64 se, .int .i64 sq, .int .i64 a, .slice p1 n1 d1, .slice q1 m1 f1] 25))).alloc (Nat.le_refl _) (.cells #[.int .i64 k, .int .i64 se, .int .i64 sq, .int .i64 a, .slice p2 n2 d2, .slice q2 m2 f2] 25)
 have c1' := c1.below b2
 rw [s1] at c2
 obtain ⟨X, hX⟩ : ∃ X, (w.alloc (.cells #[.int .i64 k, .int .i64 se, .int .i64 sq, .int .i64 a, .slice p1 n1 d1, .slice q1 m1 f1] 25)).alloc (.cells #[.int .i64 k, .int .i64 se, .int .i64 sq, .int .i64 a, .slice p2 n2 d2, .slice q2 m2 f2] 25) = X := ⟨_, rfl⟩
 obtain ⟨u, hu⟩ : ∃ b, w.heap.size = b := ⟨_, rfl⟩
 obtain ⟨v, hv⟩ : ∃ b, u + 1 = b := ⟨_, rfl⟩
 have HB : Hid (Below w.heap.size w X) := hide (by rw [← hX]; exact b1.trans (b2.mono b1.size))
 rw [hX, hu] at c1'
 rw [hX, hu, hv] at c2
 have HE := hide (equalSp_any (h1.below HB.out) (h2.below HB.out))
 rw [decide_eq_true (rfl : sp = sp)] at HE
 have HI : Hid (∀ q, Calls Tryz.prog 30 #[.slice q1 m1 f1, .slice q2 m2 f2] (X.drewN q) fun e w' => e = .returned (.bool true) ∧ Below X.heap.size X w') := hide fun r => (equalN_any ((g1.below HB.out).drewN r) ((g2.below HB.out).drewN r)).mono fun e w' ⟨he, q, hq⟩ => ⟨by rw [he, beq_self_eq_true], by rw [hq]; exact (bdrew X r).trans (bdrew (X.drewN r) q)⟩
 have HC1 : Hid (∀ q, BoxC (X.drewN q) u k se sq a (.slice p1 n1 d1) (.slice q1 m1 f1)) := hide fun q => c1'.below (bdrew X q)
 have HC2 : Hid (∀ q, BoxC (X.drewN q) v k se sq a (.slice p2 n2 d2) (.slice q2 m2 f2)) := hide fun q => c2.below (bdrew X q)
 obtain ⟨x0, x1, x2, x3, x4, x5⟩ := c1'
 obtain ⟨z0, z1, z2, z3, z4, z5⟩ := c2
 clear h1 h2 g1 g2 b1 b2 c1 s1
 go_enter Tryz.func23, Tryz.ntmps23
 go_upto_region 1 with fail
 clear hX hu hv
 go_wp2_with fail
 refine HE.out.mono ?_
 rintro e w2 ⟨rfl, q, rfl⟩
 have k5 := (HC1.out q).2.2.2.2.2
 have l5 := (HC2.out q).2.2.2.2.2
 go_wp2_with fail
 refine (HI.out q).mono ?_
 rintro e w3 ⟨rfl, hb3⟩
 go_wp2_with fail
 go_ret
 exact ⟨rfl, HB.out.trans (hb3.mono HB.out.size)⟩
end Go.Proofs.YtionbmlicmibgaaGreatDoor
