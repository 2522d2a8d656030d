import Derived.Test.YtionbmlicmibgaaGreatDoorS2
namespace Go.Proofs.YtionbmlicmibgaaGreatDoor
set_option linter.unusedVariables false
set_option linter.unusedSimpArgs false
open Go.RowKit
theorem str_none (n : ByteArray) : n.toList = [] ↔ ¬ 1 ≤ n.size := by
 have hl : n.data.toList.length = n.size := by rw [Array.length_toList]; rfl
 rw [ByteArray.toList_eq, ← hl]
 cases n.data.toList <;> simp
set_option maxRecDepth 200000 in
set_option maxHeartbeats 4000000 in
theorem refCheck_any (x : Sp) (hn : x.n.size ≤ 1100000) (w : World) : Calls Tryz.prog 65 #[spV x] w fun e w' => e = .returned (.int .i64 (if x.ok then 0 else 30)) ∧ Below w.heap.size w w' := by
 obtain ⟨X, hX⟩ : ∃ X, x.ok = X := ⟨_, rfl⟩
 have HX : Hid ((x.ok = true ↔ x.Ok) ∧ x.ok = X) := hide ⟨Sp.ok_iff x, hX⟩
 rw [hX]
 clear hX
 obtain ⟨R, hR⟩ : ∃ R : Int, (if X = true then 0 else 30) = R := ⟨_, rfl⟩
 rw [hR]
 have HR := hide hR
 clear hR
 have hnew := spAt_new w x
 obtain ⟨t, i, p, s, e, n⟩ := x
 have hl : n.data.toList.length = n.size := by rw [Array.length_toList]; rfl
 obtain ⟨L, hL⟩ : ∃ L, n.data.toList = L := ⟨_, rfl⟩
 rw [hL] at hl
 have HL := hide hL
 have HLL := hide hl
 clear hL hl
 unfold spV
 dsimp only at *
 have HN := hide ((Below.refl w.heap.size w).alloc (Nat.le_refl _) (.cells #[.int .i64 t, .int .i64 i, .int .i64 p, .int .i64 s, .int .i64 e, .string n] 30))
 obtain ⟨d0, d1, d2, d3, d4, d5⟩ := hnew.z
 dsimp only at d0 d1 d2 d3 d4 d5
 clear hnew
 by_cases hc0 : 1 ≤ t
 rotate_left
 ·have hX : X = false := by
   rw [← HX.out.2, Bool.eq_false_iff]
   intro h
   have := (HX.out.1.1 h).t1
   exact hc0 this
  have hR : R = 30 := by rw [← HR.out, hX]; rfl
  subst hR
  go_enter Tryz.func65, Tryz.ntmps65
  go_wp2_with fail
  go_loop [3, 4, 71] (fun ok _ i => ok = .bool false ∧ ∃ k : Nat, k ≤ n.size ∧ i = .int .i64 k) (fun _ _ i => n.size - (intOf i).toNat)
  case atStart => exact ⟨rfl, 0, by omega, rfl⟩
  case round =>
   obtain ⟨rfl, k, hk, rfl⟩ := hrel
   by_cases hkm : (k : Int) < (n.size : Int)
   ·go_wp2
    go_round
    case rel => exact ⟨rfl, k + 1, by omega, by go_num⟩
    case measure => simp [intOf]; omega
   ·go_wp2
    go_ret
    exact ⟨rfl, HN.out⟩
 by_cases hc1 : t ≤ 1099511627776
 rotate_left
 ·have hX : X = false := by
   rw [← HX.out.2, Bool.eq_false_iff]
   intro h
   have := (HX.out.1.1 h).t2
   exact hc1 this
  have hR : R = 30 := by rw [← HR.out, hX]; rfl
  subst hR
  go_enter Tryz.func65, Tryz.ntmps65
  go_wp2_with fail
  go_loop [3, 4, 71] (fun ok _ i => ok = .bool false ∧ ∃ k : Nat, k ≤ n.size ∧ i = .int .i64 k) (fun _ _ i => n.size - (intOf i).toNat)
  case atStart => exact ⟨rfl, 0, by omega, rfl⟩
  case round =>
   obtain ⟨rfl, k, hk, rfl⟩ := hrel
   by_cases hkm : (k : Int) < (n.size : Int)
   ·go_wp2
    go_round
    case rel => exact ⟨rfl, k + 1, by omega, by go_num⟩
    case measure => simp [intOf]; omega
   ·go_wp2
    go_ret
    exact ⟨rfl, HN.out⟩
 by_cases hc2 : 1 ≤ i
 rotate_left
 ·have hX : X = false := by
   rw [← HX.out.2, Bool.eq_false_iff]
   intro h
   have := (HX.out.1.1 h).i1
   exact hc2 this
  have hR : R = 30 := by rw [← HR.out, hX]; rfl
  subst hR
  go_enter Tryz.func65, Tryz.ntmps65
  go_wp2_with fail
  go_loop [3, 4, 71] (fun ok _ i => ok = .bool false ∧ ∃ k : Nat, k ≤ n.size ∧ i = .int .i64 k) (fun _ _ i => n.size - (intOf i).toNat)
  case atStart => exact ⟨rfl, 0, by omega, rfl⟩
  case round =>
   obtain ⟨rfl, k, hk, rfl⟩ := hrel
   by_cases hkm : (k : Int) < (n.size : Int)
   ·go_wp2
    go_round
    case rel => exact ⟨rfl, k + 1, by omega, by go_num⟩
    case measure => simp [intOf]; omega
   ·go_wp2
    go_ret
    exact ⟨rfl, HN.out⟩
 by_cases hc3 : i ≤ 1099511627776
 rotate_left
 ·have hX : X = false := by
   rw [← HX.out.2, Bool.eq_false_iff]
   intro h
   have := (HX.out.1.1 h).i2
   exact hc3 this
  have hR : R = 30 := by rw [← HR.out, hX]; rfl
  subst hR
  go_enter Tryz.func65, Tryz.ntmps65
  go_wp2_with fail
  go_loop [3, 4, 71] (fun ok _ i => ok = .bool false ∧ ∃ k : Nat, k ≤ n.size ∧ i = .int .i64 k) (fun _ _ i => n.size - (intOf i).toNat)
  case atStart => exact ⟨rfl, 0, by omega, rfl⟩
  case round =>
   obtain ⟨rfl, k, hk, rfl⟩ := hrel
   by_cases hkm : (k : Int) < (n.size : Int)
   ·go_wp2
    go_round
    case rel => exact ⟨rfl, k + 1, by omega, by go_num⟩
    case measure => simp [intOf]; omega
   ·go_wp2
    go_ret
    exact ⟨rfl, HN.out⟩
 by_cases hc4 : 0 ≤ p
 rotate_left
 ·have hX : X = false := by
   rw [← HX.out.2, Bool.eq_false_iff]
   intro h
   have := (HX.out.1.1 h).p1
   exact hc4 this
  have hR : R = 30 := by rw [← HR.out, hX]; rfl
  subst hR
  go_enter Tryz.func65, Tryz.ntmps65
  go_wp2_with fail
  go_loop [3, 4, 71] (fun ok _ i => ok = .bool false ∧ ∃ k : Nat, k ≤ n.size ∧ i = .int .i64 k) (fun _ _ i => n.size - (intOf i).toNat)
  case atStart => exact ⟨rfl, 0, by omega, rfl⟩
  case round =>
   obtain ⟨rfl, k, hk, rfl⟩ := hrel
   by_cases hkm : (k : Int) < (n.size : Int)
   ·go_wp2
    go_round
    case rel => exact ⟨rfl, k + 1, by omega, by go_num⟩
    case measure => simp [intOf]; omega
   ·go_wp2
    go_ret
    exact ⟨rfl, HN.out⟩
 by_cases hc5 : p ≤ 1099511627776
 rotate_left
 ·have hX : X = false := by
   rw [← HX.out.2, Bool.eq_false_iff]
   intro h
   have := (HX.out.1.1 h).p2
   exact hc5 this
  have hR : R = 30 := by rw [← HR.out, hX]; rfl
  subst hR
  go_enter Tryz.func65, Tryz.ntmps65
  go_wp2_with fail
  go_loop [3, 4, 71] (fun ok _ i => ok = .bool false ∧ ∃ k : Nat, k ≤ n.size ∧ i = .int .i64 k) (fun _ _ i => n.size - (intOf i).toNat)
  case atStart => exact ⟨rfl, 0, by omega, rfl⟩
  case round =>
   obtain ⟨rfl, k, hk, rfl⟩ := hrel
   by_cases hkm : (k : Int) < (n.size : Int)
   ·go_wp2
    go_round
    case rel => exact ⟨rfl, k + 1, by omega, by go_num⟩
    case measure => simp [intOf]; omega
   ·go_wp2
    go_ret
    exact ⟨rfl, HN.out⟩
 by_cases hc6 : 0 ≤ s
 rotate_left
 ·have hX : X = false := by
   rw [← HX.out.2, Bool.eq_false_iff]
   intro h
   have := (HX.out.1.1 h).s1
   exact hc6 this
  have hR : R = 30 := by rw [← HR.out, hX]; rfl
  subst hR
  go_enter Tryz.func65, Tryz.ntmps65
  go_wp2_with fail
  go_loop [3, 4, 71] (fun ok _ i => ok = .bool false ∧ ∃ k : Nat, k ≤ n.size ∧ i = .int .i64 k) (fun _ _ i => n.size - (intOf i).toNat)
  case atStart => exact ⟨rfl, 0, by omega, rfl⟩
  case round =>
   obtain ⟨rfl, k, hk, rfl⟩ := hrel
   by_cases hkm : (k : Int) < (n.size : Int)
   ·go_wp2
    go_round
    case rel => exact ⟨rfl, k + 1, by omega, by go_num⟩
    case measure => simp [intOf]; omega
   ·go_wp2
    go_ret
    exact ⟨rfl, HN.out⟩
 by_cases hc7 : s ≤ e
 rotate_left
 ·have hX : X = false := by
   rw [← HX.out.2, Bool.eq_false_iff]
   intro h
   have := (HX.out.1.1 h).s2
   exact hc7 this
  have hR : R = 30 := by rw [← HR.out, hX]; rfl
  subst hR
  go_enter Tryz.func65, Tryz.ntmps65
  go_wp2_with fail
  go_loop [3, 4, 71] (fun ok _ i => ok = .bool false ∧ ∃ k : Nat, k ≤ n.size ∧ i = .int .i64 k) (fun _ _ i => n.size - (intOf i).toNat)
  case atStart => exact ⟨rfl, 0, by omega, rfl⟩
  case round =>
   obtain ⟨rfl, k, hk, rfl⟩ := hrel
   by_cases hkm : (k : Int) < (n.size : Int)
   ·go_wp2
    go_round
    case rel => exact ⟨rfl, k + 1, by omega, by go_num⟩
    case measure => simp [intOf]; omega
   ·go_wp2
    go_ret
    exact ⟨rfl, HN.out⟩
 by_cases hc8 : e ≤ 1099511627776
 rotate_left
 ·have hX : X = false := by
   rw [← HX.out.2, Bool.eq_false_iff]
   intro h
   have := (HX.out.1.1 h).e2
   exact hc8 this
  have hR : R = 30 := by rw [← HR.out, hX]; rfl
  subst hR
  go_enter Tryz.func65, Tryz.ntmps65
  go_wp2_with fail
  go_loop [3, 4, 71] (fun ok _ i => ok = .bool false ∧ ∃ k : Nat, k ≤ n.size ∧ i = .int .i64 k) (fun _ _ i => n.size - (intOf i).toNat)
  case atStart => exact ⟨rfl, 0, by omega, rfl⟩
  case round =>
   obtain ⟨rfl, k, hk, rfl⟩ := hrel
   by_cases hkm : (k : Int) < (n.size : Int)
   ·go_wp2
    go_round
    case rel => exact ⟨rfl, k + 1, by omega, by go_num⟩
    case measure => simp [intOf]; omega
   ·go_wp2
    go_ret
    exact ⟨rfl, HN.out⟩
 by_cases hc9 : ¬ (p = i)
 rotate_left
 ·have hX : X = false := by
   rw [← HX.out.2, Bool.eq_false_iff]
   intro h
   have := (HX.out.1.1 h).ne
   exact hc9 this
  have hR : R = 30 := by rw [← HR.out, hX]; rfl
  subst hR
  go_enter Tryz.func65, Tryz.ntmps65
  go_wp2_with fail
  go_loop [3, 4, 71] (fun ok _ i => ok = .bool false ∧ ∃ k : Nat, k ≤ n.size ∧ i = .int .i64 k) (fun _ _ i => n.size - (intOf i).toNat)
  case atStart => exact ⟨rfl, 0, by omega, rfl⟩
  case round =>
   obtain ⟨rfl, k, hk, rfl⟩ := hrel
   by_cases hkm : (k : Int) < (n.size : Int)
   ·go_wp2
    go_round
    case rel => exact ⟨rfl, k + 1, by omega, by go_num⟩
    case measure => simp [intOf]; omega
   ·go_wp2
    go_ret
    exact ⟨rfl, HN.out⟩
 by_cases hc10 : ¬ (n.toList = [])
 rotate_left
 ·have hX : X = false := by
   rw [← HX.out.2, Bool.eq_false_iff]
   intro h
   have := (HX.out.1.1 h).n1
   exact hc10 (fun h5 => (str_none n).1 h5 (by have h2 := HLL.out; rw [← HL.out] at h2; rw [← h2]; exact this))
  have hR : R = 30 := by rw [← HR.out, hX]; rfl
  subst hR
  replace hc10 := Decidable.not_not.1 hc10
  go_enter Tryz.func65, Tryz.ntmps65
  go_wp2_with fail
  go_loop [3, 4, 71] (fun ok _ i => ok = .bool false ∧ ∃ k : Nat, k ≤ n.size ∧ i = .int .i64 k) (fun _ _ i => n.size - (intOf i).toNat)
  case atStart => exact ⟨rfl, 0, by omega, rfl⟩
  case round =>
   obtain ⟨rfl, k, hk, rfl⟩ := hrel
   by_cases hkm : (k : Int) < (n.size : Int)
   ·go_wp2
    go_round
    case rel => exact ⟨rfl, k + 1, by omega, by go_num⟩
    case measure => simp [intOf]; omega
   ·go_wp2
    go_ret
    exact ⟨rfl, HN.out⟩
 by_cases hc11 : (n.size : Int) ≤ 32
 rotate_left
 ·have hX : X = false := by
   rw [← HX.out.2, Bool.eq_false_iff]
   intro h
   have := (HX.out.1.1 h).n2
   exact hc11 (by have h2 := HLL.out; rw [← HL.out] at h2; have h3 : n.data.toList.length ≤ 32 := this; omega)
  have hR : R = 30 := by rw [← HR.out, hX]; rfl
  subst hR
  go_enter Tryz.func65, Tryz.ntmps65
  go_wp2_with fail
  go_loop [3, 4, 71] (fun ok _ i => ok = .bool false ∧ ∃ k : Nat, k ≤ n.size ∧ i = .int .i64 k) (fun _ _ i => n.size - (intOf i).toNat)
  case atStart => exact ⟨rfl, 0, by omega, rfl⟩
  case round =>
   obtain ⟨rfl, k, hk, rfl⟩ := hrel
   by_cases hkm : (k : Int) < (n.size : Int)
   ·go_wp2
    go_round
    case rel => exact ⟨rfl, k + 1, by omega, by go_num⟩
    case measure => simp [intOf]; omega
   ·go_wp2
    go_ret
    exact ⟨rfl, HN.out⟩
 have hX : X = L.all okByte := by
  rw [← HX.out.2, Bool.eq_iff_iff, HX.out.1]
  have hname : Sp.nl ⟨t, i, p, s, e, n⟩ = L := HL.out
  constructor
  ·intro h
   have := h.n3
   rwa [hname] at this
  ·intro h
   have h4 : 1 ≤ n.size := by
    by_cases h5 : 1 ≤ n.size
    ·exact h5
    ·exact absurd ((str_none n).2 h5) hc10
   have h2 := HLL.out
   exact ⟨hc0, hc1, hc2, hc3, hc4, hc5, hc6, hc7, hc8, hc9, by rw [hname]; omega, by rw [hname]; omega, by rw [hname]; exact h⟩
 have HXX := hide hX
 clear hX
 go_enter Tryz.func65, Tryz.ntmps65
 go_wp2_with fail
 go_loop [3, 4, 71] (fun ok _ i => ∃ (O : Bool) (k : Nat), ok = .bool O ∧ k ≤ n.size ∧ i = .int .i64 k ∧ Hid ((O && (L.drop k).all okByte) = L.all okByte)) (fun _ _ i => n.size - (intOf i).toNat)
 case atStart => exact ⟨true, 0, by simp [hc9, hc10], by omega, rfl, hide rfl⟩
 case round =>
  obtain ⟨O, k, rfl, hk, rfl, H⟩ := hrel
  by_cases hkm : (k : Int) < (n.size : Int)
  ·cases O
   ·go_wp2
    go_round
    case rel => exact ⟨false, k + 1, rfl, by omega, by go_num, hide (by have := H.out; rw [Bool.false_and] at this ⊢; exact this)⟩
    case measure => simp [intOf]; omega
   ·have hkn : k < n.size := by omega
    have hy : L[k]? = some n[k] := by
     rw [← HL.out, Array.getElem?_toList]
     exact Array.getElem?_eq_getElem hkn
    have hok : okByte n[k] = (decide ((33 : Int) ≤ (n[k].toNat : Int)) && decide ((n[k].toNat : Int) ≤ 126)) := by
     unfold okByte
     congr 1
     ·rw [decide_eq_decide]; omega
     ·rw [decide_eq_decide]; omega
    have hH := H.out
    rw [all_drop hy, hok, Bool.true_and] at hH
    have HH := hide hH
    clear hH hok hy H
    by_cases h33 : (33 : Int) ≤ (n[k].toNat : Int)
    ·go_wp2
     go_round
     case rel => exact ⟨decide ((n[k].toNat : Int) ≤ 126), k + 1, rfl, by omega, by go_num, hide (by rw [← HH.out, decide_eq_true h33, Bool.true_and])⟩
     case measure => simp [intOf]; omega
    ·go_wp2
     go_round
     case rel => exact ⟨false, k + 1, rfl, by omega, by go_num, hide (by rw [← HH.out, decide_eq_false h33]; rfl)⟩
     case measure => simp [intOf]; omega
  ·cases O
   all_goals
    go_wp2
    go_ret
    refine ⟨?_, HN.out⟩
    have := H.out
    rw [List.drop_eq_nil_of_le (by have := HLL.out; omega)] at this
    have hR := HR.out
    rw [HXX.out, ← this] at hR
    rw [← hR]
    rfl
end Go.Proofs.YtionbmlicmibgaaGreatDoor
