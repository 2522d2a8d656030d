import Derived.Test.YtionbmlicmibgaaGreatDoorS2
import Derived.Deep.Matrix
import Derived.Deep.Fields
import Derived.ChangeOld
import Derived.OpenShut
set_option linter.unusedVariables false
set_option linter.unusedSimpArgs false
namespace Go.Proofs.YtionbmlicmibgaaGreatDoor
open Go.Proofs.Tryz
open Go.RowKit
theorem CG (n : ByteArray) : n.toList = [] ↔ ¬ 1 ≤ n.size := by
 have hl : n.data.toList.length = n.size := by rw [ad4]; rfl
 rw [ae7, ← hl];cases n.data.toList <;> simp
set_option maxRecDepth 200000 in
set_option maxHeartbeats 4000000 in
theorem lp (x : Sp) (hn : x.n.size ≤ 1100000) (w : World) : Calls prog 65 #[dZ x] w fun e w' => e = .returned (.int .i64 (if x.ok then 0 else 30)) ∧ Below w.heap.size w w' := by
 obtain ⟨X, hX⟩ : ∃ X, x.ok = X := ⟨_, rfl⟩
 have HX : Hid ((x.ok = true ↔ x.Ok) ∧ x.ok = X) := af ⟨Sp.aO x, hX⟩;rw [hX];clear hX;obtain ⟨R, hR⟩ : ∃ R : Int, (if X = true then 0 else 30) = R := ⟨_, rfl⟩
 rw [hR];have HR := af hR;clear hR;have bg := az w x;obtain ⟨t, i, p, s, e, n⟩ := x;have hl : n.data.toList.length = n.size := by rw [ad4]; rfl
 obtain ⟨L, hL⟩ : ∃ L, n.data.toList = L := ⟨_, rfl⟩
 rw [hL] at hl;have HL := af hL;have NA := af hl;clear hL hl;unfold dZ;dsimp only at *;have HN := af ((acG w.heap.size w).alloc (acE _) (.cells #[.int .i64 t, .int .i64 i, .int .i64 p, .int .i64 s, .int .i64 e, .string n] 30));obtain ⟨d0, d1, d2, d3, d4, d5⟩ := bg.z;dsimp only at d0 d1 d2 d3 d4 d5;clear bg;by_cases II : 1 ≤ t;rotate_left
 ·have hX : X = false := by
   rw [← HX.out.2, adJ];intro h;have := (HX.out.1.1 h).t1;exact II this
  have hR : R = 30 := by rw [← HR.out, hX]; rfl
  subst hR;go_enter aeA, aeq
  go_wp2_with fail
  go_loop [3, 4, 71] (fun ok _ i => ok = .bool false ∧ ∃ k : Nat, k ≤ n.size ∧ i = .int .i64 k) (fun _ _ i => n.size - (intOf i).toNat)
  case atStart => exact ⟨rfl, 0, by omega, rfl⟩
  case round =>
   obtain ⟨rfl, k, hk, rfl⟩ := hrel;by_cases EF : (k : Int) < (n.size : Int)
   ·go_wp2;go_round
    case rel => exact ⟨rfl, k + 1, by omega, by go_num⟩
    case measure => simp [intOf]; omega
   ·go_wp2;go_ret;exact ⟨rfl, HN.out⟩
 by_cases zw : t ≤ 1099511627776;rotate_left
 ·have hX : X = false := by
   rw [← HX.out.2, adJ];intro h;have := (HX.out.1.1 h).t2;exact zw this
  have hR : R = 30 := by rw [← HR.out, hX]; rfl
  subst hR;go_enter aeA, aeq
  go_wp2_with fail
  go_loop [3, 4, 71] (fun ok _ i => ok = .bool false ∧ ∃ k : Nat, k ≤ n.size ∧ i = .int .i64 k) (fun _ _ i => n.size - (intOf i).toNat)
  case atStart => exact ⟨rfl, 0, by omega, rfl⟩
  case round =>
   obtain ⟨rfl, k, hk, rfl⟩ := hrel;by_cases EF : (k : Int) < (n.size : Int)
   ·go_wp2;go_round
    case rel => exact ⟨rfl, k + 1, by omega, by go_num⟩
    case measure => simp [intOf]; omega
   ·go_wp2;go_ret;exact ⟨rfl, HN.out⟩
 by_cases rX : 1 ≤ i;rotate_left
 ·have hX : X = false := by
   rw [← HX.out.2, adJ];intro h;have := (HX.out.1.1 h).i1;exact rX this
  have hR : R = 30 := by rw [← HR.out, hX]; rfl
  subst hR;go_enter aeA, aeq
  go_wp2_with fail
  go_loop [3, 4, 71] (fun ok _ i => ok = .bool false ∧ ∃ k : Nat, k ≤ n.size ∧ i = .int .i64 k) (fun _ _ i => n.size - (intOf i).toNat)
  case atStart => exact ⟨rfl, 0, by omega, rfl⟩
  case round =>
   obtain ⟨rfl, k, hk, rfl⟩ := hrel;by_cases EF : (k : Int) < (n.size : Int)
   ·go_wp2;go_round
    case rel => exact ⟨rfl, k + 1, by omega, by go_num⟩
    case measure => simp [intOf]; omega
   ·go_wp2;go_ret;exact ⟨rfl, HN.out⟩
 by_cases JY : i ≤ 1099511627776;rotate_left
 ·have hX : X = false := by
   rw [← HX.out.2, adJ];intro h;have := (HX.out.1.1 h).i2;exact JY this
  have hR : R = 30 := by rw [← HR.out, hX]; rfl
  subst hR;go_enter aeA, aeq
  go_wp2_with fail
  go_loop [3, 4, 71] (fun ok _ i => ok = .bool false ∧ ∃ k : Nat, k ≤ n.size ∧ i = .int .i64 k) (fun _ _ i => n.size - (intOf i).toNat)
  case atStart => exact ⟨rfl, 0, by omega, rfl⟩
  case round =>
   obtain ⟨rfl, k, hk, rfl⟩ := hrel;by_cases EF : (k : Int) < (n.size : Int)
   ·go_wp2;go_round
    case rel => exact ⟨rfl, k + 1, by omega, by go_num⟩
    case measure => simp [intOf]; omega
   ·go_wp2;go_ret;exact ⟨rfl, HN.out⟩
 by_cases TB : 0 ≤ p;rotate_left
 ·have hX : X = false := by
   rw [← HX.out.2, adJ];intro h;have := (HX.out.1.1 h).p1;exact TB this
  have hR : R = 30 := by rw [← HR.out, hX]; rfl
  subst hR;go_enter aeA, aeq
  go_wp2_with fail
  go_loop [3, 4, 71] (fun ok _ i => ok = .bool false ∧ ∃ k : Nat, k ≤ n.size ∧ i = .int .i64 k) (fun _ _ i => n.size - (intOf i).toNat)
  case atStart => exact ⟨rfl, 0, by omega, rfl⟩
  case round =>
   obtain ⟨rfl, k, hk, rfl⟩ := hrel;by_cases EF : (k : Int) < (n.size : Int)
   ·go_wp2;go_round
    case rel => exact ⟨rfl, k + 1, by omega, by go_num⟩
    case measure => simp [intOf]; omega
   ·go_wp2;go_ret;exact ⟨rfl, HN.out⟩
 by_cases lA : p ≤ 1099511627776;rotate_left
 ·have hX : X = false := by
   rw [← HX.out.2, adJ];intro h;have := (HX.out.1.1 h).p2;exact lA this
  have hR : R = 30 := by rw [← HR.out, hX]; rfl
  subst hR;go_enter aeA, aeq
  go_wp2_with fail
  go_loop [3, 4, 71] (fun ok _ i => ok = .bool false ∧ ∃ k : Nat, k ≤ n.size ∧ i = .int .i64 k) (fun _ _ i => n.size - (intOf i).toNat)
  case atStart => exact ⟨rfl, 0, by omega, rfl⟩
  case round =>
   obtain ⟨rfl, k, hk, rfl⟩ := hrel;by_cases EF : (k : Int) < (n.size : Int)
   ·go_wp2;go_round
    case rel => exact ⟨rfl, k + 1, by omega, by go_num⟩
    case measure => simp [intOf]; omega
   ·go_wp2;go_ret;exact ⟨rfl, HN.out⟩
 by_cases yX : 0 ≤ s;rotate_left
 ·have hX : X = false := by
   rw [← HX.out.2, adJ];intro h;have := (HX.out.1.1 h).s1;exact yX this
  have hR : R = 30 := by rw [← HR.out, hX]; rfl
  subst hR;go_enter aeA, aeq
  go_wp2_with fail
  go_loop [3, 4, 71] (fun ok _ i => ok = .bool false ∧ ∃ k : Nat, k ≤ n.size ∧ i = .int .i64 k) (fun _ _ i => n.size - (intOf i).toNat)
  case atStart => exact ⟨rfl, 0, by omega, rfl⟩
  case round =>
   obtain ⟨rfl, k, hk, rfl⟩ := hrel;by_cases EF : (k : Int) < (n.size : Int)
   ·go_wp2;go_round
    case rel => exact ⟨rfl, k + 1, by omega, by go_num⟩
    case measure => simp [intOf]; omega
   ·go_wp2;go_ret;exact ⟨rfl, HN.out⟩
 by_cases wR : s ≤ e;rotate_left
 ·have hX : X = false := by
   rw [← HX.out.2, adJ];intro h;have := (HX.out.1.1 h).s2;exact wR this
  have hR : R = 30 := by rw [← HR.out, hX]; rfl
  subst hR;go_enter aeA, aeq
  go_wp2_with fail
  go_loop [3, 4, 71] (fun ok _ i => ok = .bool false ∧ ∃ k : Nat, k ≤ n.size ∧ i = .int .i64 k) (fun _ _ i => n.size - (intOf i).toNat)
  case atStart => exact ⟨rfl, 0, by omega, rfl⟩
  case round =>
   obtain ⟨rfl, k, hk, rfl⟩ := hrel;by_cases EF : (k : Int) < (n.size : Int)
   ·go_wp2;go_round
    case rel => exact ⟨rfl, k + 1, by omega, by go_num⟩
    case measure => simp [intOf]; omega
   ·go_wp2;go_ret;exact ⟨rfl, HN.out⟩
 by_cases Ka : e ≤ 1099511627776;rotate_left
 ·have hX : X = false := by
   rw [← HX.out.2, adJ];intro h;have := (HX.out.1.1 h).e2;exact Ka this
  have hR : R = 30 := by rw [← HR.out, hX]; rfl
  subst hR;go_enter aeA, aeq
  go_wp2_with fail
  go_loop [3, 4, 71] (fun ok _ i => ok = .bool false ∧ ∃ k : Nat, k ≤ n.size ∧ i = .int .i64 k) (fun _ _ i => n.size - (intOf i).toNat)
  case atStart => exact ⟨rfl, 0, by omega, rfl⟩
  case round =>
   obtain ⟨rfl, k, hk, rfl⟩ := hrel;by_cases EF : (k : Int) < (n.size : Int)
   ·go_wp2;go_round
    case rel => exact ⟨rfl, k + 1, by omega, by go_num⟩
    case measure => simp [intOf]; omega
   ·go_wp2;go_ret;exact ⟨rfl, HN.out⟩
 by_cases lO : ¬ (p = i);rotate_left
 ·have hX : X = false := by
   rw [← HX.out.2, adJ];intro h;have := (HX.out.1.1 h).ne;exact lO this
  have hR : R = 30 := by rw [← HR.out, hX]; rfl
  subst hR;go_enter aeA, aeq
  go_wp2_with fail
  go_loop [3, 4, 71] (fun ok _ i => ok = .bool false ∧ ∃ k : Nat, k ≤ n.size ∧ i = .int .i64 k) (fun _ _ i => n.size - (intOf i).toNat)
  case atStart => exact ⟨rfl, 0, by omega, rfl⟩
  case round =>
   obtain ⟨rfl, k, hk, rfl⟩ := hrel;by_cases EF : (k : Int) < (n.size : Int)
   ·go_wp2;go_round
    case rel => exact ⟨rfl, k + 1, by omega, by go_num⟩
    case measure => simp [intOf]; omega
   ·go_wp2;go_ret;exact ⟨rfl, HN.out⟩
 by_cases zW : ¬ (n.toList = []);rotate_left
 ·have hX : X = false := by
   rw [← HX.out.2, adJ];intro h;have := (HX.out.1.1 h).n1;exact zW (fun h5 => (CG n).1 h5 (by have h2 := NA.out; rw [← HL.out] at h2; rw [← h2]; exact this))
  have hR : R = 30 := by rw [← HR.out, hX]; rfl
  subst hR
  replace zW := Decidable.not_not.1 zW
  go_enter aeA, aeq
  go_wp2_with fail
  go_loop [3, 4, 71] (fun ok _ i => ok = .bool false ∧ ∃ k : Nat, k ≤ n.size ∧ i = .int .i64 k) (fun _ _ i => n.size - (intOf i).toNat)
  case atStart => exact ⟨rfl, 0, by omega, rfl⟩
  case round =>
   obtain ⟨rfl, k, hk, rfl⟩ := hrel;by_cases EF : (k : Int) < (n.size : Int)
   ·go_wp2;go_round
    case rel => exact ⟨rfl, k + 1, by omega, by go_num⟩
    case measure => simp [intOf]; omega
   ·go_wp2;go_ret;exact ⟨rfl, HN.out⟩
 by_cases abt : (n.size : Int) ≤ 32;rotate_left
 ·have hX : X = false := by
   rw [← HX.out.2, adJ];intro h;have := (HX.out.1.1 h).n2;exact abt (by have h2 := NA.out; rw [← HL.out] at h2; have h3 : n.data.toList.length ≤ 32 := this; omega)
  have hR : R = 30 := by rw [← HR.out, hX]; rfl
  subst hR;go_enter aeA, aeq
  go_wp2_with fail
  go_loop [3, 4, 71] (fun ok _ i => ok = .bool false ∧ ∃ k : Nat, k ≤ n.size ∧ i = .int .i64 k) (fun _ _ i => n.size - (intOf i).toNat)
  case atStart => exact ⟨rfl, 0, by omega, rfl⟩
  case round =>
   obtain ⟨rfl, k, hk, rfl⟩ := hrel;by_cases EF : (k : Int) < (n.size : Int)
   ·go_wp2;go_round
    case rel => exact ⟨rfl, k + 1, by omega, by go_num⟩
    case measure => simp [intOf]; omega
   ·go_wp2;go_ret;exact ⟨rfl, HN.out⟩
 have hX : X = L.all gq := by
  rw [← HX.out.2, aem, HX.out.1];have nY : Sp.nl ⟨t, i, p, s, e, n⟩ = L := HL.out;constructor
  ·intro h;have := h.n3
   rwa [nY] at this
  ·intro h;have h4 : 1 ≤ n.size := by
    by_cases h5 : 1 ≤ n.size
    ·exact h5
    ·exact absurd ((CG n).2 h5) zW
   have h2 := NA.out;exact ⟨II, zw, rX, JY, TB, lA, yX, wR, Ka, lO, by rw [nY]; omega, by rw [nY]; omega, by rw [nY]; exact h⟩
 have HXX := af hX;clear hX;go_enter aeA, aeq
 go_wp2_with fail
 go_loop [3, 4, 71] (fun ok _ i => ∃ (O : Bool) (k : Nat), ok = .bool O ∧ k ≤ n.size ∧ i = .int .i64 k ∧ Hid ((O && (L.drop k).all gq) = L.all gq)) (fun _ _ i => n.size - (intOf i).toNat)
 case atStart => exact ⟨true, 0, by simp [lO, zW], by omega, rfl, af rfl⟩
 case round =>
  obtain ⟨O, k, rfl, hk, rfl, H⟩ := hrel;by_cases EF : (k : Int) < (n.size : Int)
  ·cases O
   ·go_wp2;go_round
    case rel => exact ⟨false, k + 1, rfl, by omega, by go_num, af (by have := H.out; rw [Bool.false_and] at this ⊢; exact this)⟩
    case measure => simp [intOf]; omega
   ·have EJ : k < n.size := by omega
    have hy : L[k]? = some n[k] := by
     rw [← HL.out, adZ];exact Array.getElem?_eq_getElem EJ
    have aT : gq n[k] = (decide ((33 : Int) ≤ (n[k].toNat : Int)) && decide ((n[k].toNat : Int) ≤ 126)) := by
     unfold gq
     congr 1
     ·rw [aeL]; omega
     ·rw [aeL]; omega
    have hH := H.out;rw [Ce hy, aT, adY] at hH;have HH := af hH;clear hH aT hy H;by_cases h33 : (33 : Int) ≤ (n[k].toNat : Int)
    ·go_wp2;go_round
     case rel => exact ⟨decide ((n[k].toNat : Int) ≤ 126), k + 1, rfl, by omega, by go_num, af (by rw [← HH.out, ac4 h33, adY])⟩
     case measure => simp [intOf]; omega
    ·go_wp2;go_round
     case rel => exact ⟨false, k + 1, rfl, by omega, by go_num, af (by rw [← HH.out, ac1 h33]; rfl)⟩
     case measure => simp [intOf]; omega
  ·cases O;all_goals
    go_wp2;go_ret;refine ⟨?_, HN.out⟩;have := H.out;rw [aei (by have := NA.out; omega)] at this;have hR := HR.out;rw [HXX.out, ← this] at hR;rw [← hR];rfl
open Go.RowKit Go.Deep Go.ChangeShapes
theorem Tryz.cells5 : Tryz.prog.cellsOf 5 = 1 := by kernel_rfl
theorem GK {H : Type} {enc : TypeId × Value → H} {W : World} {a0 : Option Addr} {len cap : Nat} {d0 : DataW H} {p0 : List MemPlace}
  (h : DataW.Trod enc prog W 0 (fun _ => true) true 32 (.slice a0 len cap) d0 p0) : ∃ l : List UInt8, l.length = len ∧ By W (.slice a0 len cap) l := by
 obtain ⟨fuel, hf⟩ := h;rcases open_ints adu underlying5 Tryz.cells5 hf with ⟨hcs, _⟩ | ⟨x, l, c, zs, hcs, _, hl, hm, hz, _, hcell, hwz⟩
 ·simp [Value.cells] at hcs;obtain ⟨rfl, rfl, rfl⟩ := hcs;exact xF (zs := []) (.inl ⟨rfl, rfl, rfl, rfl⟩)
 ·simp [Value.cells] at hcs;obtain ⟨rfl, rfl, rfl⟩ := hcs;exact xF (.inr ⟨_, rfl, hl, hm, by simpa using hz, hcell, hwz⟩)
end Go.Proofs.YtionbmlicmibgaaGreatDoor
