/- Which of two spans stands ahead: the program's compare. -/
import Derived.Test.YtimjplkehlgelaaGreatSpSort
import Derived.Shelf.SlSortCmp.NoneTotal
import Derived.Test.YtimjplkehlgelaaGreatSp1
import Derived.Deep.RegionHeld3
namespace Go.Proofs.YtimjplkehlgelaaGreat
set_option linter.unusedVariables false
set_option linter.unusedSimpArgs false
open Go.RowKit Go.Sort

/-- The first that is not nought. -/
def firstNZ : List Int → Int
  | [] => 0
  | x :: r => if x ≠ 0 then x else firstNZ r
theorem firstNZ_drop {l : List Int} {k : Nat} {z : Int} (h : l[k]? = some z) : firstNZ (l.drop k) = if z ≠ 0 then z else firstNZ (l.drop (k + 1)) := by
  have hk := (List.getElem?_eq_some_iff.1 h).1
  rw [List.drop_eq_getElem_cons hk]
  rw [List.getElem?_eq_getElem hk] at h
  injection h with h
  rw [h]
  rfl

set_option maxRecDepth 200000 in
set_option maxHeartbeats 1000000 in
/-- cmp.Or. -/
theorem cmpOr_any {w : World} {b n : Nat} {zs : List Int} (hn : zs.length = n) (hn6 : n ≤ 1000) (hc : ∀ (k : Nat) z, zs[k]? = some z → w.cell? ⟨b, k, none⟩ = some (.int .i64 z)) :
    Calls Tryz.prog 124 #[.slice (some ⟨b, 0, none⟩) n n] w fun e w' => e = .returned (.int .i64 (firstNZ zs)) ∧ w' = w := by
  have HC := hide hc
  have HN := hide hn
  clear hc hn
  go_enter Tryz.func124, Tryz.ntmps124
  go_wp2_with fail
  go_loop [5, 8] (fun _ i => ∃ k : Nat, k ≤ n ∧ i = .int .i64 k ∧ Hid (firstNZ (zs.drop k) = firstNZ zs)) (fun _ i => n - (intOf i).toNat)
  case atStart => exact ⟨0, by omega, rfl, hide rfl⟩
  case round =>
    obtain ⟨k, hk, rfl, H⟩ := hrel
    by_cases hlt : (k : Int) < (n : Int)
    · obtain ⟨z, hz⟩ : ∃ z, zs[k]? = some z := ⟨_, List.getElem?_eq_getElem (by have := HN.out; omega)⟩
      have hcell := HC.out k z hz
      have HF := hide ((firstNZ_drop hz).symm.trans H.out)
      clear hz H
      by_cases h0 : z = 0
      · subst h0
        go_wp2
        go_round
        case rel => exact ⟨k + 1, by omega, by go_num, hide (by have := HF.out; rwa [if_neg (by simp)] at this)⟩
        case measure => simp [intOf]; omega
      · go_wp2
        go_ret
        refine ⟨?_, rfl⟩
        have := HF.out
        rw [if_pos h0] at this
        rw [this]
        rfl
    · go_wp2
      go_ret
      refine ⟨?_, rfl⟩
      have := H.out
      rw [List.drop_eq_nil_of_le (by have := HN.out; omega)] at this
      rw [← this]
      rfl

theorem cmpOr_lit (w : World) (a0 a1 a2 a3 a4 a5 : Int) : Calls Tryz.prog 124 #[.slice (some ⟨w.heap.size, 0, none⟩) 6 6] (w.alloc (.cells #[.int .i64 a0, .int .i64 a1, .int .i64 a2, .int .i64 a3, .int .i64 a4, .int .i64 a5] 3)) fun e w' =>
    e = .returned (.int .i64 (firstNZ [a0, a1, a2, a3, a4, a5])) ∧ w' = w.alloc (.cells #[.int .i64 a0, .int .i64 a1, .int .i64 a2, .int .i64 a3, .int .i64 a4, .int .i64 a5] 3) := by
  refine cmpOr_any (n := 6) rfl (by decide) fun k z hk => ?_
  rw [cell_of_row _ w.heap.size k _ 3 (0, 0) (heap_alloc_new w _)]
  match k, hk with
  | 0, hk => simp at hk; subst hk; rfl
  | 1, hk => simp at hk; subst hk; rfl
  | 2, hk => simp at hk; subst hk; rfl
  | 3, hk => simp at hk; subst hk; rfl
  | 4, hk => simp at hk; subst hk; rfl
  | 5, hk => simp at hk; subst hk; rfl

theorem cmpOr_litD (w : World) (a0 a1 a2 a3 a4 a5 : Int) : Calls Tryz.prog 124 #[.slice (some ⟨w.heap.size, 0, none⟩) 6 6] (w.alloc (.cells #[.int .i64 a0, .int .i64 a1, .int .i64 a2, .int .i64 a3, .int .i64 a4, .int .i64 a5] 3)).drew fun e w' =>
    e = .returned (.int .i64 (firstNZ [a0, a1, a2, a3, a4, a5])) ∧ w' = (w.alloc (.cells #[.int .i64 a0, .int .i64 a1, .int .i64 a2, .int .i64 a3, .int .i64 a4, .int .i64 a5] 3)).drew := by
  refine cmpOr_any (n := 6) rfl (by decide) fun k z hk => ?_
  show (w.alloc (.cells #[.int .i64 a0, .int .i64 a1, .int .i64 a2, .int .i64 a3, .int .i64 a4, .int .i64 a5] 3)).cell? _ = _
  rw [cell_of_row _ w.heap.size k _ 3 (0, 0) (heap_alloc_new w _)]
  match k, hk with
  | 0, hk => simp at hk; subst hk; rfl
  | 1, hk => simp at hk; subst hk; rfl
  | 2, hk => simp at hk; subst hk; rfl
  | 3, hk => simp at hk; subst hk; rfl
  | 4, hk => simp at hk; subst hk; rfl
  | 5, hk => simp at hk; subst hk; rfl

theorem cmpS_first (x y : Sp) : cmpS x y = firstNZ [Lib.compareInt x.t y.t, Lib.compareInt x.s y.s, Lib.compareInt x.i y.i, Lib.compareInt x.p y.p, Lib.compareInt x.e y.e, Lib.compareBytes x.nl y.nl] := by
  unfold cmpS lexC firstNZ firstNZ firstNZ firstNZ firstNZ firstNZ firstNZ
  dsimp only
  (repeat' split) <;> first | rfl | omega

set_option maxRecDepth 200000 in
set_option maxHeartbeats 4000000 in
theorem compare_any (x y : Sp) (W : World) : Calls Tryz.prog 111 #[spV x, spV y] W fun e w' => e = .returned (.int .i64 (cmpS x y)) ∧ ∃ q os, w' = grow (W.drewN q) os := by
  rw [cmpS_first]
  obtain ⟨X, hX⟩ : ∃ X, (W.alloc (.cells #[.int .i64 x.t, .int .i64 x.i, .int .i64 x.p, .int .i64 x.s, .int .i64 x.e, .string x.n] 38)).alloc (.cells #[.int .i64 y.t, .int .i64 y.i, .int .i64 y.p, .int .i64 y.s, .int .i64 y.e, .string y.n] 38) = X := ⟨_, rfl⟩
  have hx := (spAt_new W x).below ((Below.refl _ _).alloc (Nat.le_refl _) (.cells #[.int .i64 y.t, .int .i64 y.i, .int .i64 y.p, .int .i64 y.s, .int .i64 y.e, .string y.n] 38))
  have hy := spAt_new (W.alloc (.cells #[.int .i64 x.t, .int .i64 x.i, .int .i64 x.p, .int .i64 x.s, .int .i64 x.e, .string x.n] 38)) y
  rw [hX] at hx hy
  rw [show (W.alloc (.cells #[.int .i64 x.t, .int .i64 x.i, .int .i64 x.p, .int .i64 x.s, .int .i64 x.e, .string x.n] 38)).heap.size = W.heap.size + 1 by simp] at hy
  obtain ⟨h0, h1, h2, h3, h4, h5⟩ := hx.z
  obtain ⟨k0, k1, k2, k3, k4, k5⟩ := hy.z
  have HX := hide hX
  obtain ⟨t, i, p, s, e, n⟩ := x
  obtain ⟨t', i', p', s', e', n'⟩ := y
  unfold spV Sp.nl
  dsimp only at *
  clear hx hy
  have HAL : Hid (∀ o, (X.alloc o).cell? ⟨W.heap.size, 0, none⟩ = some (.int .i64 t) ∧ (X.alloc o).cell? ⟨W.heap.size, 1, none⟩ = some (.int .i64 i) ∧ (X.alloc o).cell? ⟨W.heap.size, 2, none⟩ = some (.int .i64 p) ∧ (X.alloc o).cell? ⟨W.heap.size, 3, none⟩ = some (.int .i64 s) ∧ (X.alloc o).cell? ⟨W.heap.size, 4, none⟩ = some (.int .i64 e) ∧ (X.alloc o).cell? ⟨W.heap.size, 5, none⟩ = some (.string n) ∧ (X.alloc o).cell? ⟨W.heap.size + 1, 0, none⟩ = some (.int .i64 t') ∧ (X.alloc o).cell? ⟨W.heap.size + 1, 1, none⟩ = some (.int .i64 i') ∧ (X.alloc o).cell? ⟨W.heap.size + 1, 2, none⟩ = some (.int .i64 p') ∧ (X.alloc o).cell? ⟨W.heap.size + 1, 3, none⟩ = some (.int .i64 s') ∧ (X.alloc o).cell? ⟨W.heap.size + 1, 4, none⟩ = some (.int .i64 e') ∧ (X.alloc o).cell? ⟨W.heap.size + 1, 5, none⟩ = some (.string n')) := hide fun o => ⟨Lib.cell?_alloc_some _ h0, Lib.cell?_alloc_some _ h1, Lib.cell?_alloc_some _ h2, Lib.cell?_alloc_some _ h3, Lib.cell?_alloc_some _ h4, Lib.cell?_alloc_some _ h5, Lib.cell?_alloc_some _ k0, Lib.cell?_alloc_some _ k1, Lib.cell?_alloc_some _ k2, Lib.cell?_alloc_some _ k3, Lib.cell?_alloc_some _ k4, Lib.cell?_alloc_some _ k5⟩
  go_enter Tryz.func111, Tryz.ntmps111
  go_wp2_with fail
  clear hX
  go_region_held3 (fun V => V.cell? ⟨W.heap.size, 0, none⟩ = some (.int .i64 t) ∧ V.cell? ⟨W.heap.size, 1, none⟩ = some (.int .i64 i) ∧ V.cell? ⟨W.heap.size, 2, none⟩ = some (.int .i64 p) ∧ V.cell? ⟨W.heap.size, 3, none⟩ = some (.int .i64 s) ∧ V.cell? ⟨W.heap.size, 4, none⟩ = some (.int .i64 e) ∧ V.cell? ⟨W.heap.size, 5, none⟩ = some (.string n) ∧ V.cell? ⟨W.heap.size + 1, 0, none⟩ = some (.int .i64 t') ∧ V.cell? ⟨W.heap.size + 1, 1, none⟩ = some (.int .i64 i') ∧ V.cell? ⟨W.heap.size + 1, 2, none⟩ = some (.int .i64 p') ∧ V.cell? ⟨W.heap.size + 1, 3, none⟩ = some (.int .i64 s') ∧ V.cell? ⟨W.heap.size + 1, 4, none⟩ = some (.int .i64 e') ∧ V.cell? ⟨W.heap.size + 1, 5, none⟩ = some (.string n')) (first | exact ⟨h0, h1, h2, h3, h4, h5, k0, k1, k2, k3, k4, k5⟩ | exact HAL.out _) (first
    | (go_at_call 125; refine (Tryz.cmp_Compare_int _ _ _).mono ?_; rintro e v ⟨rfl, rfl⟩)
    | (go_at_call 126; refine (Tryz.strings_Compare _ _ _).mono ?_; rintro e v ⟨rfl, rfl⟩)
    | (go_at_call 124; refine (cmpOr_litD _ _ _ _ _ _ _).mono ?_; rintro e v ⟨rfl, rfl⟩)
    | (go_at_call 124; refine (cmpOr_lit _ _ _ _ _ _ _).mono ?_; rintro e v ⟨rfl, rfl⟩))
  all_goals
    go_wp2
    go_ret
    first
      | exact ⟨rfl, 1, _, by rw [← HX.out, alloc_eq_grow, alloc_eq_grow, alloc_eq_grow, grow_grow, grow_grow]; rfl⟩
      | exact ⟨rfl, 0, _, by rw [← HX.out, alloc_eq_grow, alloc_eq_grow, alloc_eq_grow, grow_grow, grow_grow]; rfl⟩
end Go.Proofs.YtimjplkehlgelaaGreat
