import Derived.Test.YtionbmlicmibgaaGreatDoorMcChk
namespace Go.Proofs.YtionbmlicmibgaaGreatDoor
set_option linter.unusedVariables false
set_option linter.unusedSimpArgs false
open Go.RowKit
def SmS (sp : List Sp) : Prop := sp.length ≤ 820 ∧ ∀ x ∈ sp, x.n.size ≤ 32768
def HvyP (sp : List Sp) (e : Ending) : Prop := ∃ x : Int, e = .returned (.int .i64 x) ∧ 0 ≤ x ∧ x ≤ 65576 ∧ (x ≤ 32768 → SmS sp)
set_option maxRecDepth 200000 in
set_option maxHeartbeats 4000000 in
theorem mheavy_any {w : World} {k se sq a : Int} {p : Option Addr} {n d : Nat} {q : Option Addr} {m f : Nat} {sp : List Sp} (hs : Sps w (.slice p n d) sp) (hm : m ≤ maxLen) (hnm : ∀ x ∈ sp, x.n.size ≤ maxLen) : Calls Tryz.prog 14 #[.agg #[.int .i64 k, .int .i64 se, .int .i64 sq, .int .i64 a, .slice p n d, .slice q m f]] w fun e w' => HvyP sp e ∧ Below w.heap.size w w' := by
 have hbx := (Below.refl w.heap.size w).alloc (Nat.le_refl _) (.cells #[.int .i64 k, .int .i64 se, .int .i64 sq, .int .i64 a, .slice p n d, .slice q m f] 25)
 have hbc := BoxC.new w k se sq a (.slice p n d) (.slice q m f)
 obtain ⟨X, hX⟩ : ∃ X, w.alloc (.cells #[.int .i64 k, .int .i64 se, .int .i64 sq, .int .i64 a, .slice p n d, .slice q m f] 25) = X := ⟨_, rfl⟩
 obtain ⟨b, hb⟩ : ∃ b, w.heap.size = b := ⟨_, rfl⟩
 have hn := hs.len
 have HS := hide (fun W (hW : Below w.heap.size w W) => hs.below hW)
 have HN := hide hn.1
 have HNM := hide hnm
 have hn9 : (n : Int) ≤ 9223372036854775807 := by unfold maxLen at hn; omega
 have hm9 : (m : Int) ≤ 9223372036854775807 := by unfold maxLen at hm; omega
 have hmn : min (m : Int) 32768 ≤ 32768 := Int.min_le_right _ _
 have hmn0 : 0 ≤ min (m : Int) 32768 := by omega
 rw [hX] at hbx hbc
 have HBW : Hid (Below w.heap.size w X) := hide hbx
 rw [hb] at hbc
 have HBC : Hid (∀ U, Below X.heap.size X U → BoxC U b k se sq a (.slice p n d) (.slice q m f)) := hide fun U hU => hbc.below hU
 obtain ⟨x0, x1, x2, x3, x4, x5⟩ := hbc
 clear hs hnm hn hbx hm
 go_enter Tryz.func14, Tryz.ntmps14
 go_upto_region 1 with fail
 clear hX
 have HBB := hide hb
 clear hb
 go_wp2_with fail
 obtain ⟨M, hM⟩ : ∃ M, min (m : Int) 32768 = M := ⟨_, rfl⟩
 rw [hM] at hmn hmn0 ⊢
 clear hM x0 x1 x2 x3 x4 x5
 go_loopw [3, 4] (fun v i wr => ∃ (j : Nat) (y : Int), j ≤ n ∧ i = .int .i64 j ∧ v = .int .i64 y ∧ 0 ≤ y ∧ y ≤ 65576 ∧ 40 * (j : Int) ≤ y ∧ Hid (Below X.heap.size X wr ∧ (y ≤ 32768 → ∀ x ∈ sp.take j, x.n.size ≤ 32768))) (fun _ i _ => n - (intOf i).toNat)
 case atStart => exact ⟨0, M, by omega, rfl, rfl, hmn0, by omega, by omega, hide ⟨Below.refl _ _, fun _ x hx => by simp at hx⟩⟩
 case round =>
  obtain ⟨j, y, hj, rfl, rfl, hy0, hy1, hy2, HR⟩ := hrel
  obtain ⟨x0, x1, x2, x3, x4, x5⟩ := HBC.out wr HR.out.1
  by_cases hlt : j < n
  ·by_cases hy : y ≤ 32768
   ·have e2 : decide (y ≤ 32768) = true := decide_eq_true hy
    have e1 : decide ((j : Int) < (n : Int)) = true := decide_eq_true (by omega)
    obtain ⟨s, hsj⟩ : ∃ y, sp[j]? = some y := ⟨_, List.getElem?_eq_getElem (by have := HN.out; omega)⟩
    obtain ⟨gd, o, rfl, hc⟩ := (HS.out wr (HBW.out.trans (HR.out.1.mono HBW.out.size))).at_ (by omega)
    have c5 := (hc j s hsj).c5
    obtain ⟨z, hz⟩ : ∃ z : Nat, s.n.size = z := ⟨_, rfl⟩
    have hz9 : (z : Int) ≤ 9223372036854775807 := by have := HNM.out s (List.mem_of_getElem? hsj); unfold maxLen at this; omega
    obtain ⟨Z, hZ⟩ : ∃ Z, min (z : Int) 32768 = Z := ⟨_, rfl⟩
    have HT : Hid (y + (40 + Z) ≤ 32768 → ∀ x ∈ sp.take (j + 1), x.n.size ≤ 32768) := hide (fun h x hx => by
     rw [List.take_add_one, hsj, List.mem_append] at hx
     rcases hx with hx | hx
     ·exact HR.out.2 (by omega) x hx
     ·simp at hx
      subst hx
      omega)
    have hZ2 : 0 ≤ Z ∧ Z ≤ 32768 := by omega
    have w1 : IntKind.i64.wrap (40 + Z) = 40 + Z := IntWalk.i64_in _ (by omega)
    have w2 : IntKind.i64.wrap (y + (40 + Z)) = y + (40 + Z) := IntWalk.i64_in _ (by omega)
    clear hc hsj
    go_wp2_with fail
    go_roundw
    case rel => exact ⟨j + 1, y + (40 + Z), by omega, by go_num, rfl, by omega, by omega, by omega, hide ⟨HR.out.1, HT.out⟩⟩
    case measure => simp [intOf]; omega
   ·have e2 : decide (y ≤ 32768) = false := decide_eq_false hy
    have e1 : decide ((j : Int) < (n : Int)) = true := decide_eq_true (by omega)
    go_wp2_with fail
    go_ret
    exact ⟨⟨y, rfl, hy0, hy1, fun h => absurd h (by omega)⟩, HBW.out.trans (HR.out.1.mono HBW.out.size)⟩
  ·have e1 : decide ((j : Int) < (n : Int)) = false := decide_eq_false (by omega)
   have HF : Hid (y ≤ 32768 → SmS sp) := hide (fun h => ⟨by have := HN.out; omega, by
    have h1 := HR.out.2 h
    rwa [List.take_of_length_le (by have := HN.out; omega)] at h1⟩)
   go_wp2_with fail
   go_ret
   exact ⟨⟨y, rfl, hy0, hy1, HF.out⟩, HBW.out.trans (HR.out.1.mono HBW.out.size)⟩
end Go.Proofs.YtionbmlicmibgaaGreatDoor
