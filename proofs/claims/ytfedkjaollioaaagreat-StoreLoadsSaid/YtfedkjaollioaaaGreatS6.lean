/- Several texts made one: FSwapS SpRefCheck SpRefSort FRefFindS FRefRing2S FRefBenS FRefBrsS. -/
import Derived.Test.YtfedkjaollioaaaGreatS5
import Derived.Test.YtfedkjaollioaaaGreatSpArg
import Derived.Test.YtfedkjaollioaaaGreatS2
import Derived.Test.YtfedkjaollioaaaGreatS4
import Derived.Test.YtfedkjaollioaaaGreatS3
/- Spans of a slice, each at its place, laid over. -/
namespace Go.Proofs.YtfedkjaollioaaaGreat
set_option linter.unusedVariables false
set_option linter.unusedSimpArgs false
open Go.RowKit

theorem gtransF {a b c : World} {row : Option Nat} (h : a.grownBy b row) (h' : b.grownBy c row) : a.grownBy c row :=
  ⟨h'.os.trans h.os, h'.tape.trans h.tape, h'.output.trans h.output, Nat.le_trans h.size h'.size, fun k hk hne => (h'.block k (Nat.lt_of_lt_of_le hk h.size) hne).trans (h.block k hk hne)⟩
/-- The slice v reads as the numbers zs. -/
def Ints (w : World) (v : Value) (zs : List Int) : Prop :=
  ∃ (p : Option Addr) (c : Nat), v = .slice p zs.length c ∧ zs.length ≤ maxLen ∧ ∀ (i : Nat) z, zs[i]? = some z → -9223372036854775808 ≤ z ∧ z ≤ 9223372036854775807 ∧ ∃ g o, p = some ⟨g, o, none⟩ ∧ w.cell? ⟨g, o + i, none⟩ = some (.int .i64 z)

theorem sps_at {B : Nat} {w : World} {g n c : Nat} {l : List Sp} (h : OwnS B w (.slice (some ⟨g, 0, none⟩) n c) l) : ∀ (i : Nat) x, l[i]? = some x → SpAt w g (i * 6) x := fun i x hi => by
  have h1 := h.sps
  have hn := h1.len.1
  obtain ⟨g', o', e, hx⟩ := h1.at_ (by have := (List.getElem?_eq_some_iff.1 hi).1; omega)
  injection e with e
  injection e with e1 e2
  subst e1 e2
  have := hx i x hi
  rwa [Nat.zero_add] at this
theorem swap_perm {l : List Sp} {a b : Nat} {x y : Sp} (hx : l[a]? = some x) (hy : l[b]? = some y) : ((l.set a y).set b x).Perm l := by
  obtain ⟨ha, rfl⟩ := List.getElem?_eq_some_iff.1 hx
  obtain ⟨hb, rfl⟩ := List.getElem?_eq_some_iff.1 hy
  by_cases hab : a = b
  · subst hab
    rw [List.set_set]
    simp
  · rw [List.perm_iff_count]
    intro z
    rw [List.count_set (by simpa using hb), List.count_set ha, List.getElem_set_ne hab]
    have h1 : l[a] = z → 0 < l.count z := fun e => List.count_pos_iff.2 (e ▸ List.getElem_mem ha)
    by_cases e1 : l[a] = z <;> by_cases e2 : l[b] = z <;> simp [e1, e2]
    all_goals (have := h1 e1; omega)
theorem flat_set : ∀ (l : List Sp) (i : Nat) (y : Sp), i < l.length →
    (((((((l.flatMap spC).set (i * 6) (.int .i64 y.t)).set (i * 6 + 1) (.int .i64 y.i)).set (i * 6 + 2) (.int .i64 y.p)).set (i * 6 + 3) (.int .i64 y.s)).set (i * 6 + 4) (.int .i64 y.e)).set (i * 6 + 5) (.string y.n)) = (l.set i y).flatMap spC
  | [], i, y, h => by simp at h
  | x :: r, 0, y, h => by simp [spC]
  | x :: r, i + 1, y, h => by
    have ih := flat_set r i y (by simpa using h)
    rw [List.set_cons_succ, List.flatMap_cons, List.flatMap_cons, ← ih]
    have e0 : (i + 1) * 6 = i * 6 + 6 := by omega
    simp only [e0, spC, List.cons_append, List.nil_append, List.set_cons_succ]
/-- A span laid over six cells. -/
def put6 (w : World) (g o : Nat) (y : Sp) : World := (((((w.setCell ⟨g, o, none⟩ (.int .i64 y.t)).setCell ⟨g, o + 1, none⟩ (.int .i64 y.i)).setCell ⟨g, o + 2, none⟩ (.int .i64 y.p)).setCell ⟨g, o + 3, none⟩ (.int .i64 y.s)).setCell ⟨g, o + 4, none⟩ (.int .i64 y.e)).setCell ⟨g, o + 5, none⟩ (.string y.n)
theorem own_put6 {B : Nat} {w : World} {g n c : Nat} {l : List Sp} (h : OwnS B w (.slice (some ⟨g, 0, none⟩) n c) l) {i : Nat} (hi : i < l.length) (y : Sp) :
    OwnS B (put6 w g (i * 6) y) (.slice (some ⟨g, 0, none⟩) n c) (l.set i y) ∧ w.grownBy (put6 w g (i * 6) y) (some g) := by
  have hn : n = l.length := h.sps.len.1
  subst hn
  obtain ⟨h1, g1⟩ := World.ownsRow.stored h (i * 6) (.int .i64 y.t)
  obtain ⟨h2, g2⟩ := World.ownsRow.stored h1 (i * 6 + 1) (.int .i64 y.i)
  obtain ⟨h3, g3⟩ := World.ownsRow.stored h2 (i * 6 + 2) (.int .i64 y.p)
  obtain ⟨h4, g4⟩ := World.ownsRow.stored h3 (i * 6 + 3) (.int .i64 y.s)
  obtain ⟨h5, g5⟩ := World.ownsRow.stored h4 (i * 6 + 4) (.int .i64 y.e)
  obtain ⟨h6, g6⟩ := World.ownsRow.stored h5 (i * 6 + 5) (.string y.n)
  refine ⟨?_, gtransF (gtransF (gtransF (gtransF (gtrans g1 g2) g3) g4) g5) g6⟩
  rw [flat_set l i y hi] at h6
  unfold OwnS
  rw [List.length_set]
  exact h6
structure FrSix (w : World) (g o : Nat) : Prop where
  f0 : w.frozen? ⟨g, o, none⟩ = false
  f1 : w.frozen? ⟨g, o + 1, none⟩ = false
  f2 : w.frozen? ⟨g, o + 2, none⟩ = false
  f3 : w.frozen? ⟨g, o + 3, none⟩ = false
  f4 : w.frozen? ⟨g, o + 4, none⟩ = false
  f5 : w.frozen? ⟨g, o + 5, none⟩ = false
theorem fr_six {B : Nat} {w : World} {g n c : Nat} {l : List Sp} (h : OwnS B w (.slice (some ⟨g, 0, none⟩) n c) l) (o : Nat) : FrSix w g o := by
  have hn : n = l.length := h.sps.len.1
  subst hn
  exact ⟨World.ownsRow.frozenAt h _, World.ownsRow.frozenAt h _, World.ownsRow.frozenAt h _, World.ownsRow.frozenAt h _, World.ownsRow.frozenAt h _, World.ownsRow.frozenAt h _⟩

structure SpSix (w : World) (g o : Nat) (x : Sp) : Prop where
  d0 : w.cell? ⟨g, o, none⟩ = some (.int .i64 x.t)
  d1 : w.cell? ⟨g, o + 1, none⟩ = some (.int .i64 x.i)
  d2 : w.cell? ⟨g, o + 2, none⟩ = some (.int .i64 x.p)
  d3 : w.cell? ⟨g, o + 3, none⟩ = some (.int .i64 x.s)
  d4 : w.cell? ⟨g, o + 4, none⟩ = some (.int .i64 x.e)
  d5 : w.cell? ⟨g, o + 5, none⟩ = some (.string x.n)
theorem SpAt.six {w : World} {g o : Nat} {x : Sp} (h : SpAt w g o x) : SpSix w g o x := ⟨h.c0, h.c1, h.c2, h.c3, h.c4, h.c5⟩


end Go.Proofs.YtfedkjaollioaaaGreat
/- Which span may be: the document's Check. -/
namespace Go.Proofs.YtfedkjaollioaaaGreat
set_option linter.unusedVariables false
set_option linter.unusedSimpArgs false
open Go.RowKit

theorem str_none (n : ByteArray) : n.toList = [] ↔ ¬ 1 ≤ n.size := by
  have hl : n.data.toList.length = n.size := by rw [Array.length_toList]; rfl
  rw [ByteArray.toList_eq, ← hl]
  cases n.data.toList <;> simp

set_option maxRecDepth 200000 in
set_option maxHeartbeats 4000000 in
/-- The document's Check. -/
theorem refCheck_any (x : Sp) (hn : x.n.size ≤ 1000000) (w : World) : Calls Tryz.prog 32 #[spV x] w fun e w' => e = .returned (.int .i64 (if x.ok then 0 else 30)) ∧ Below w.heap.size w w' := by
  obtain ⟨X, hX⟩ : ∃ X, x.ok = X := ⟨_, rfl⟩
  have HX : Hid ((x.ok = true ↔ x.Ok) ∧ x.ok = X) := hide ⟨Sp.ok_iff x, hX⟩
  rw [hX]
  clear hX
  obtain ⟨R, hR⟩ : ∃ R : Int, (if X = true then 0 else 30) = R := ⟨_, rfl⟩
  rw [hR]
  have HR := hide hR
  clear hR
  have hnew := spAt_new w x
  obtain ⟨t, i, p, s, e, n⟩ := x
  have hl : n.data.toList.length = n.size := by rw [Array.length_toList]; rfl
  obtain ⟨L, hL⟩ : ∃ L, n.data.toList = L := ⟨_, rfl⟩
  rw [hL] at hl
  have HL := hide hL
  have HLL := hide hl
  clear hL hl
  unfold spV
  dsimp only at *
  have HN := hide ((Below.refl w.heap.size w).alloc (Nat.le_refl _) (.cells #[.int .i64 t, .int .i64 i, .int .i64 p, .int .i64 s, .int .i64 e, .string n] 38))
  obtain ⟨d0, d1, d2, d3, d4, d5⟩ := hnew.z
  dsimp only at d0 d1 d2 d3 d4 d5
  clear hnew
  by_cases hc0 : 1 ≤ t
  rotate_left
  · have hX : X = false := by
      rw [← HX.out.2, Bool.eq_false_iff]
      intro h
      have := (HX.out.1.1 h).t1
      exact hc0 this
    have hR : R = 30 := by rw [← HR.out, hX]; rfl
    subst hR
    go_enter Tryz.func32, Tryz.ntmps32
    go_wp2_with fail
    go_loop [3, 4, 71] (fun ok _ i => ok = .bool false ∧ ∃ k : Nat, k ≤ n.size ∧ i = .int .i64 k) (fun _ _ i => n.size - (intOf i).toNat)
    case atStart => exact ⟨rfl, 0, by omega, rfl⟩
    case round =>
      obtain ⟨rfl, k, hk, rfl⟩ := hrel
      by_cases hkm : (k : Int) < (n.size : Int)
      · go_wp2
        go_round
        case rel => exact ⟨rfl, k + 1, by omega, by go_num⟩
        case measure => simp [intOf]; omega
      · go_wp2
        go_ret
        exact ⟨rfl, HN.out⟩
  by_cases hc1 : t ≤ 1099511627776
  rotate_left
  · have hX : X = false := by
      rw [← HX.out.2, Bool.eq_false_iff]
      intro h
      have := (HX.out.1.1 h).t2
      exact hc1 this
    have hR : R = 30 := by rw [← HR.out, hX]; rfl
    subst hR
    go_enter Tryz.func32, Tryz.ntmps32
    go_wp2_with fail
    go_loop [3, 4, 71] (fun ok _ i => ok = .bool false ∧ ∃ k : Nat, k ≤ n.size ∧ i = .int .i64 k) (fun _ _ i => n.size - (intOf i).toNat)
    case atStart => exact ⟨rfl, 0, by omega, rfl⟩
    case round =>
      obtain ⟨rfl, k, hk, rfl⟩ := hrel
      by_cases hkm : (k : Int) < (n.size : Int)
      · go_wp2
        go_round
        case rel => exact ⟨rfl, k + 1, by omega, by go_num⟩
        case measure => simp [intOf]; omega
      · go_wp2
        go_ret
        exact ⟨rfl, HN.out⟩
  by_cases hc2 : 1 ≤ i
  rotate_left
  · have hX : X = false := by
      rw [← HX.out.2, Bool.eq_false_iff]
      intro h
      have := (HX.out.1.1 h).i1
      exact hc2 this
    have hR : R = 30 := by rw [← HR.out, hX]; rfl
    subst hR
    go_enter Tryz.func32, Tryz.ntmps32
    go_wp2_with fail
    go_loop [3, 4, 71] (fun ok _ i => ok = .bool false ∧ ∃ k : Nat, k ≤ n.size ∧ i = .int .i64 k) (fun _ _ i => n.size - (intOf i).toNat)
    case atStart => exact ⟨rfl, 0, by omega, rfl⟩
    case round =>
      obtain ⟨rfl, k, hk, rfl⟩ := hrel
      by_cases hkm : (k : Int) < (n.size : Int)
      · go_wp2
        go_round
        case rel => exact ⟨rfl, k + 1, by omega, by go_num⟩
        case measure => simp [intOf]; omega
      · go_wp2
        go_ret
        exact ⟨rfl, HN.out⟩
  by_cases hc3 : i ≤ 1099511627776
  rotate_left
  · have hX : X = false := by
      rw [← HX.out.2, Bool.eq_false_iff]
      intro h
      have := (HX.out.1.1 h).i2
      exact hc3 this
    have hR : R = 30 := by rw [← HR.out, hX]; rfl
    subst hR
    go_enter Tryz.func32, Tryz.ntmps32
    go_wp2_with fail
    go_loop [3, 4, 71] (fun ok _ i => ok = .bool false ∧ ∃ k : Nat, k ≤ n.size ∧ i = .int .i64 k) (fun _ _ i => n.size - (intOf i).toNat)
    case atStart => exact ⟨rfl, 0, by omega, rfl⟩
    case round =>
      obtain ⟨rfl, k, hk, rfl⟩ := hrel
      by_cases hkm : (k : Int) < (n.size : Int)
      · go_wp2
        go_round
        case rel => exact ⟨rfl, k + 1, by omega, by go_num⟩
        case measure => simp [intOf]; omega
      · go_wp2
        go_ret
        exact ⟨rfl, HN.out⟩
  by_cases hc4 : 0 ≤ p
  rotate_left
  · have hX : X = false := by
      rw [← HX.out.2, Bool.eq_false_iff]
      intro h
      have := (HX.out.1.1 h).p1
      exact hc4 this
    have hR : R = 30 := by rw [← HR.out, hX]; rfl
    subst hR
    go_enter Tryz.func32, Tryz.ntmps32
    go_wp2_with fail
    go_loop [3, 4, 71] (fun ok _ i => ok = .bool false ∧ ∃ k : Nat, k ≤ n.size ∧ i = .int .i64 k) (fun _ _ i => n.size - (intOf i).toNat)
    case atStart => exact ⟨rfl, 0, by omega, rfl⟩
    case round =>
      obtain ⟨rfl, k, hk, rfl⟩ := hrel
      by_cases hkm : (k : Int) < (n.size : Int)
      · go_wp2
        go_round
        case rel => exact ⟨rfl, k + 1, by omega, by go_num⟩
        case measure => simp [intOf]; omega
      · go_wp2
        go_ret
        exact ⟨rfl, HN.out⟩
  by_cases hc5 : p ≤ 1099511627776
  rotate_left
  · have hX : X = false := by
      rw [← HX.out.2, Bool.eq_false_iff]
      intro h
      have := (HX.out.1.1 h).p2
      exact hc5 this
    have hR : R = 30 := by rw [← HR.out, hX]; rfl
    subst hR
    go_enter Tryz.func32, Tryz.ntmps32
    go_wp2_with fail
    go_loop [3, 4, 71] (fun ok _ i => ok = .bool false ∧ ∃ k : Nat, k ≤ n.size ∧ i = .int .i64 k) (fun _ _ i => n.size - (intOf i).toNat)
    case atStart => exact ⟨rfl, 0, by omega, rfl⟩
    case round =>
      obtain ⟨rfl, k, hk, rfl⟩ := hrel
      by_cases hkm : (k : Int) < (n.size : Int)
      · go_wp2
        go_round
        case rel => exact ⟨rfl, k + 1, by omega, by go_num⟩
        case measure => simp [intOf]; omega
      · go_wp2
        go_ret
        exact ⟨rfl, HN.out⟩
  by_cases hc6 : 0 ≤ s
  rotate_left
  · have hX : X = false := by
      rw [← HX.out.2, Bool.eq_false_iff]
      intro h
      have := (HX.out.1.1 h).s1
      exact hc6 this
    have hR : R = 30 := by rw [← HR.out, hX]; rfl
    subst hR
    go_enter Tryz.func32, Tryz.ntmps32
    go_wp2_with fail
    go_loop [3, 4, 71] (fun ok _ i => ok = .bool false ∧ ∃ k : Nat, k ≤ n.size ∧ i = .int .i64 k) (fun _ _ i => n.size - (intOf i).toNat)
    case atStart => exact ⟨rfl, 0, by omega, rfl⟩
    case round =>
      obtain ⟨rfl, k, hk, rfl⟩ := hrel
      by_cases hkm : (k : Int) < (n.size : Int)
      · go_wp2
        go_round
        case rel => exact ⟨rfl, k + 1, by omega, by go_num⟩
        case measure => simp [intOf]; omega
      · go_wp2
        go_ret
        exact ⟨rfl, HN.out⟩
  by_cases hc7 : s ≤ e
  rotate_left
  · have hX : X = false := by
      rw [← HX.out.2, Bool.eq_false_iff]
      intro h
      have := (HX.out.1.1 h).s2
      exact hc7 this
    have hR : R = 30 := by rw [← HR.out, hX]; rfl
    subst hR
    go_enter Tryz.func32, Tryz.ntmps32
    go_wp2_with fail
    go_loop [3, 4, 71] (fun ok _ i => ok = .bool false ∧ ∃ k : Nat, k ≤ n.size ∧ i = .int .i64 k) (fun _ _ i => n.size - (intOf i).toNat)
    case atStart => exact ⟨rfl, 0, by omega, rfl⟩
    case round =>
      obtain ⟨rfl, k, hk, rfl⟩ := hrel
      by_cases hkm : (k : Int) < (n.size : Int)
      · go_wp2
        go_round
        case rel => exact ⟨rfl, k + 1, by omega, by go_num⟩
        case measure => simp [intOf]; omega
      · go_wp2
        go_ret
        exact ⟨rfl, HN.out⟩
  by_cases hc8 : e ≤ 1099511627776
  rotate_left
  · have hX : X = false := by
      rw [← HX.out.2, Bool.eq_false_iff]
      intro h
      have := (HX.out.1.1 h).e2
      exact hc8 this
    have hR : R = 30 := by rw [← HR.out, hX]; rfl
    subst hR
    go_enter Tryz.func32, Tryz.ntmps32
    go_wp2_with fail
    go_loop [3, 4, 71] (fun ok _ i => ok = .bool false ∧ ∃ k : Nat, k ≤ n.size ∧ i = .int .i64 k) (fun _ _ i => n.size - (intOf i).toNat)
    case atStart => exact ⟨rfl, 0, by omega, rfl⟩
    case round =>
      obtain ⟨rfl, k, hk, rfl⟩ := hrel
      by_cases hkm : (k : Int) < (n.size : Int)
      · go_wp2
        go_round
        case rel => exact ⟨rfl, k + 1, by omega, by go_num⟩
        case measure => simp [intOf]; omega
      · go_wp2
        go_ret
        exact ⟨rfl, HN.out⟩
  by_cases hc9 : ¬ (p = i)
  rotate_left
  · have hX : X = false := by
      rw [← HX.out.2, Bool.eq_false_iff]
      intro h
      have := (HX.out.1.1 h).ne
      exact hc9 this
    have hR : R = 30 := by rw [← HR.out, hX]; rfl
    subst hR
    go_enter Tryz.func32, Tryz.ntmps32
    go_wp2_with fail
    go_loop [3, 4, 71] (fun ok _ i => ok = .bool false ∧ ∃ k : Nat, k ≤ n.size ∧ i = .int .i64 k) (fun _ _ i => n.size - (intOf i).toNat)
    case atStart => exact ⟨rfl, 0, by omega, rfl⟩
    case round =>
      obtain ⟨rfl, k, hk, rfl⟩ := hrel
      by_cases hkm : (k : Int) < (n.size : Int)
      · go_wp2
        go_round
        case rel => exact ⟨rfl, k + 1, by omega, by go_num⟩
        case measure => simp [intOf]; omega
      · go_wp2
        go_ret
        exact ⟨rfl, HN.out⟩
  by_cases hc10 : ¬ (n.toList = [])
  rotate_left
  · have hX : X = false := by
      rw [← HX.out.2, Bool.eq_false_iff]
      intro h
      have := (HX.out.1.1 h).n1
      exact hc10 (fun h5 => (str_none n).1 h5 (by have h2 := HLL.out; rw [← HL.out] at h2; rw [← h2]; exact this))
    have hR : R = 30 := by rw [← HR.out, hX]; rfl
    subst hR
    replace hc10 := Decidable.not_not.1 hc10
    go_enter Tryz.func32, Tryz.ntmps32
    go_wp2_with fail
    go_loop [3, 4, 71] (fun ok _ i => ok = .bool false ∧ ∃ k : Nat, k ≤ n.size ∧ i = .int .i64 k) (fun _ _ i => n.size - (intOf i).toNat)
    case atStart => exact ⟨rfl, 0, by omega, rfl⟩
    case round =>
      obtain ⟨rfl, k, hk, rfl⟩ := hrel
      by_cases hkm : (k : Int) < (n.size : Int)
      · go_wp2
        go_round
        case rel => exact ⟨rfl, k + 1, by omega, by go_num⟩
        case measure => simp [intOf]; omega
      · go_wp2
        go_ret
        exact ⟨rfl, HN.out⟩
  by_cases hc11 : (n.size : Int) ≤ 32
  rotate_left
  · have hX : X = false := by
      rw [← HX.out.2, Bool.eq_false_iff]
      intro h
      have := (HX.out.1.1 h).n2
      exact hc11 (by have h2 := HLL.out; rw [← HL.out] at h2; have h3 : n.data.toList.length ≤ 32 := this; omega)
    have hR : R = 30 := by rw [← HR.out, hX]; rfl
    subst hR
    go_enter Tryz.func32, Tryz.ntmps32
    go_wp2_with fail
    go_loop [3, 4, 71] (fun ok _ i => ok = .bool false ∧ ∃ k : Nat, k ≤ n.size ∧ i = .int .i64 k) (fun _ _ i => n.size - (intOf i).toNat)
    case atStart => exact ⟨rfl, 0, by omega, rfl⟩
    case round =>
      obtain ⟨rfl, k, hk, rfl⟩ := hrel
      by_cases hkm : (k : Int) < (n.size : Int)
      · go_wp2
        go_round
        case rel => exact ⟨rfl, k + 1, by omega, by go_num⟩
        case measure => simp [intOf]; omega
      · go_wp2
        go_ret
        exact ⟨rfl, HN.out⟩
  have hX : X = L.all okByte := by
    rw [← HX.out.2, Bool.eq_iff_iff, HX.out.1]
    have hname : Sp.nl ⟨t, i, p, s, e, n⟩ = L := HL.out
    constructor
    · intro h
      have := h.n3
      rwa [hname] at this
    · intro h
      have h4 : 1 ≤ n.size := by
        by_cases h5 : 1 ≤ n.size
        · exact h5
        · exact absurd ((str_none n).2 h5) hc10
      have h2 := HLL.out
      exact ⟨hc0, hc1, hc2, hc3, hc4, hc5, hc6, hc7, hc8, hc9, by rw [hname]; omega, by rw [hname]; omega, by rw [hname]; exact h⟩
  have HXX := hide hX
  clear hX
  go_enter Tryz.func32, Tryz.ntmps32
  go_wp2_with fail
  go_loop [3, 4, 71] (fun ok _ i => ∃ (O : Bool) (k : Nat), ok = .bool O ∧ k ≤ n.size ∧ i = .int .i64 k ∧ Hid ((O && (L.drop k).all okByte) = L.all okByte)) (fun _ _ i => n.size - (intOf i).toNat)
  case atStart => exact ⟨true, 0, by simp [hc9, hc10], by omega, rfl, hide rfl⟩
  case round =>
    obtain ⟨O, k, rfl, hk, rfl, H⟩ := hrel
    by_cases hkm : (k : Int) < (n.size : Int)
    · cases O
      · go_wp2
        go_round
        case rel => exact ⟨false, k + 1, rfl, by omega, by go_num, hide (by have := H.out; rw [Bool.false_and] at this ⊢; exact this)⟩
        case measure => simp [intOf]; omega
      · have hkn : k < n.size := by omega
        have hy : L[k]? = some n[k] := by
          rw [← HL.out, Array.getElem?_toList]
          exact Array.getElem?_eq_getElem hkn
        have hok : okByte n[k] = (decide ((33 : Int) ≤ (n[k].toNat : Int)) && decide ((n[k].toNat : Int) ≤ 126)) := by
          unfold okByte
          congr 1
          · rw [decide_eq_decide]; omega
          · rw [decide_eq_decide]; omega
        have hH := H.out
        rw [all_drop hy, hok, Bool.true_and] at hH
        have HH := hide hH
        clear hH hok hy H
        by_cases h33 : (33 : Int) ≤ (n[k].toNat : Int)
        · go_wp2
          go_round
          case rel => exact ⟨decide ((n[k].toNat : Int) ≤ 126), k + 1, rfl, by omega, by go_num, hide (by rw [← HH.out, decide_eq_true h33, Bool.true_and])⟩
          case measure => simp [intOf]; omega
        · go_wp2
          go_round
          case rel => exact ⟨false, k + 1, rfl, by omega, by go_num, hide (by rw [← HH.out, decide_eq_false h33]; rfl)⟩
          case measure => simp [intOf]; omega
    · cases O
      all_goals
        go_wp2
        go_ret
        refine ⟨?_, HN.out⟩
        have := H.out
        rw [List.drop_eq_nil_of_le (by have := HLL.out; omega)] at this
        have hR := HR.out
        rw [HXX.out, ← this] at hR
        rw [← hR]
        rfl
end Go.Proofs.YtfedkjaollioaaaGreat
/- The document's Sort. -/
namespace Go.Proofs.YtfedkjaollioaaaGreat
set_option linter.unusedVariables false
set_option linter.unusedSimpArgs false
open Go.RowKit Go.Sort

/-- One step of laying a span at its place. -/
def stepI (s : Sp) (a : List Sp × Bool) (x : Sp) : List Sp × Bool := if a.2 = false ∧ ltS s x = true then (a.1 ++ [s] ++ [x], true) else (a.1 ++ [x], a.2)
def foldI (s : Sp) (l : List Sp) (a : List Sp × Bool) : List Sp × Bool := l.foldl (stepI s) a
def endI (s : Sp) (a : List Sp × Bool) : List Sp := if a.2 then a.1 else a.1 ++ [s]
theorem foldI_done (s : Sp) : ∀ (l : List Sp) (a : List Sp), foldI s l (a, true) = (a ++ l, true)
  | [], a => by simp [foldI]
  | x :: r, a => by
    have := foldI_done s r (a ++ [x])
    unfold foldI at this ⊢
    rw [List.foldl_cons, stepI, if_neg (by simp), this]
    simp
theorem foldI_ins (s : Sp) : ∀ (l : List Sp) (a : List Sp), endI s (foldI s l (a, false)) = a ++ insS s l
  | [], a => by simp [foldI, endI, insS]
  | x :: r, a => by
    unfold foldI
    rw [List.foldl_cons, stepI]
    by_cases h : ltS s x = true
    · rw [if_pos ⟨rfl, h⟩]
      have := foldI_done s r (a ++ [s] ++ [x])
      unfold foldI at this
      rw [this, insS, if_pos h]
      simp [endI]
    · rw [if_neg (fun hh => h hh.2)]
      have := foldI_ins s r (a ++ [x])
      unfold foldI at this
      rw [this, insS, if_neg h]
      simp
theorem foldI_succ {s : Sp} {l : List Sp} {k : Nat} {x : Sp} (h : l[k]? = some x) (a : List Sp × Bool) : foldI s (l.take (k + 1)) a = stepI s (foldI s (l.take k) a) x := by
  unfold foldI
  rw [List.take_add_one, h, List.foldl_append]
  rfl
theorem foldI_len (s : Sp) : ∀ (l : List Sp) (a : List Sp × Bool), (foldI s l a).1.length ≤ a.1.length + l.length + 1
  | l, (a, true) => by rw [foldI_done]; simp
  | [], (a, false) => by simp [foldI]
  | x :: r, (a, false) => by
    unfold foldI
    rw [List.foldl_cons, stepI]
    by_cases h : ltS s x = true
    · rw [if_pos ⟨rfl, h⟩]
      have := foldI_done s r (a ++ [s] ++ [x])
      unfold foldI at this
      rw [this]
      simp
      omega
    · rw [if_neg (fun hh => h hh.2)]
      have := foldI_len s r (a ++ [x], false)
      unfold foldI at this
      simp only [List.length_append, List.length_cons, List.length_nil] at this ⊢
      omega
def insUp (l : List Sp) : List Sp := l.foldl (fun a s => insS s a) []
theorem insUp_succ {l : List Sp} {k : Nat} {x : Sp} (h : l[k]? = some x) : insUp (l.take (k + 1)) = insS x (insUp (l.take k)) := by
  unfold insUp
  rw [List.take_add_one, h, List.foldl_append]
  rfl
theorem insUp_len (l : List Sp) : (insUp l).length = l.length := by
  have := (insAll_perm l []).length_eq
  simpa [insUp] using this

set_option maxRecDepth 200000 in
set_option maxHeartbeats 4000000 in
/-- The document's Sort. -/
theorem refSort_any {w : World} {v : Value} {l : List Sp} (hv : Sps w v l) (hl : l.length ≤ 1000) : Calls Tryz.prog 67 #[v] w fun e w' => ∃ v', e = .returned v' ∧ OwnS w.heap.size w' v' (sortS l) ∧ Below w.heap.size w w' := by
  rw [← insAll_eq]
  obtain ⟨p, n, c, rfl⟩ := hv.sl
  obtain ⟨hn, hnc, hcm⟩ := hv.len
  have HV := hide hv
  have HN := hide hn
  have hn1 : n ≤ 1000 := by omega
  clear hv hn hl
  go_enter Tryz.func67, Tryz.ntmps67
  go_wp2_with fail
  go_loopw [3, 5, 6, 7, 9, 12, 16, 17, 18] (fun v _ _ _ _ c _ _ _ wr => ∃ k : Nat, k ≤ n ∧ c = .int .i64 k ∧ Hid (OwnS w.heap.size wr v (insUp (l.take k)) ∧ RowKit.Below w.heap.size w wr)) (fun _ _ _ _ _ c _ _ _ _ => n - (intOf c).toNat)
  case atStart => exact ⟨0, by omega, rfl, hide ⟨OwnS.nil _ _, Below.refl _ _⟩⟩
  case round =>
    obtain ⟨k, hk, rfl, HR⟩ := hrel
    by_cases hlt : (k : Int) < (n : Int)
    · obtain ⟨g, o, rfl, hx⟩ := HV.out.at_ (by omega)
      obtain ⟨s, hsk⟩ : ∃ x, l[k]? = some x := ⟨_, List.getElem?_eq_getElem (by have := HN.out; omega)⟩
      have hat := (hx k s hsk).below HR.out.2
      obtain ⟨oo, hoo⟩ : ∃ oo, o + k * 6 = oo := ⟨_, rfl⟩
      rw [hoo] at hat
      have c0 := hat.c0
      have c1' := hat.c1
      have c2' := hat.c2
      have c3' := hat.c3
      have c4' := hat.c4
      have c5' := hat.c5
      have HSK := hide hsk
      obtain ⟨pu, nu, cu, rfl⟩ := HR.out.1.sps.sl
      have hnu := HR.out.1.sps.len.1
      have hnuk : (insUp (l.take k)).length = k := by rw [insUp_len, List.length_take]; have := HN.out; omega
      have hnu1 : nu ≤ 1000 := by omega
      have HNU := hide hnu
      have HNK := hide hnuk
      obtain ⟨t, i, p', st, en, nm⟩ := s
      dsimp only at *
      clear hx hsk hat hnu hnuk
      go_wp2_with fail
      obtain ⟨W1, hW1⟩ : ∃ W, wr.alloc (.cells #[.int .i64 t, .int .i64 i, .int .i64 p', .int .i64 st, .int .i64 en, .string nm] 38) = W := ⟨_, rfl⟩
      have hB1 : RowKit.Below wr.heap.size wr W1 := by rw [← hW1]; exact (Below.refl _ _).alloc (Nat.le_refl _) _
      have hS1 : SpAt W1 wr.heap.size 0 ⟨t, i, p', st, en, nm⟩ := by rw [← hW1]; exact spAt_new wr ⟨t, i, p', st, en, nm⟩
      have hz1 : wr.heap.size < W1.heap.size := by rw [← hW1]; simp
      obtain ⟨b, hb⟩ : ∃ b, wr.heap.size = b := ⟨_, rfl⟩
      have HB1 := hide (show RowKit.Below w.heap.size w W1 from HR.out.2.trans (hB1.mono HR.out.2.size))
      have HS1 := hide (show SpAt W1 b 0 ⟨t, i, p', st, en, nm⟩ by rw [← hb]; exact hS1)
      have HBL := hide (show b < W1.heap.size by rw [← hb]; exact hz1)
      have hout := HR.out.1.sps.below hB1
      obtain ⟨O, hO⟩ : ∃ O, insUp (l.take k) = O := ⟨_, rfl⟩
      have hnx : insUp (l.take (k + 1)) = insS ⟨t, i, p', st, en, nm⟩ O := by rw [insUp_succ HSK.out, hO]
      have hnu2 := HNU.out
      have hnk2 := HNK.out
      rw [hO] at hout hnu2 hnk2
      have HOUT := hide hout
      have HNQ := hide hnx
      have HOL := hide (And.intro hnu2 hnk2)
      have HLESS := hide (fun x W => refLess_any ⟨t, i, p', st, en, nm⟩ x W)
      unfold spV at HLESS
      dsimp only at HLESS
      rw [hW1, hb]
      clear hW1 hB1 hS1 hz1 hb hout hnx hnu2 hnk2 hO c0 c1' c2' c3' c4' c5' hoo
      go_loopw [6, 7, 9, 18] (fun u d _ j wi => ∃ (m : Nat) (a : List Sp) (f : Bool), m ≤ nu ∧ j = .int .i64 m ∧ d = .bool f ∧ Hid ((a, f) = foldI ⟨t, i, p', st, en, nm⟩ (O.take m) ([], false) ∧ OwnS W1.heap.size wi u a ∧ RowKit.Below W1.heap.size W1 wi)) (fun _ _ _ j _ => nu - (intOf j).toNat)
      case atStart => exact ⟨0, [], false, by omega, rfl, rfl, hide ⟨rfl, OwnS.nil _ _, Below.refl _ _⟩⟩
      case round =>
        obtain ⟨m, a, f, hm, rfl, rfl, H⟩ := hrel
        by_cases hlt2 : (m : Int) < (nu : Int)
        · obtain ⟨g3, o3, rfl, hx3⟩ := HOUT.out.at_ (by omega)
          obtain ⟨x, hxm⟩ : ∃ x, O[m]? = some x := ⟨_, List.getElem?_eq_getElem (by have := HOL.out.1; omega)⟩
          have hat3 := (hx3 m x hxm).below H.out.2.2
          obtain ⟨o4, ho4⟩ : ∃ o4, o3 + m * 6 = o4 := ⟨_, rfl⟩
          rw [ho4] at hat3
          have x0 := hat3.c0
          have x1 := hat3.c1
          have x2 := hat3.c2
          have x3 := hat3.c3
          have x4 := hat3.c4
          have x5 := hat3.c5
          have hstep := foldI_succ (s := ⟨t, i, p', st, en, nm⟩) hxm ([], false)
          rw [← H.out.1] at hstep
          have HST := hide hstep
          have hal := foldI_len ⟨t, i, p', st, en, nm⟩ (O.take m) ([], false)
          rw [← H.out.1, List.length_take] at hal
          have hal2 : a.length ≤ 2000 := by have := HOL.out; simp only [List.length_nil] at hal; omega
          have HAL := hide hal2
          have HNEWX := hide (fun W => spAt_new W x)
          have HLQ := hide (fun W => HLESS.out x W)
          obtain ⟨t', i', q', st', en', nm'⟩ := x
          dsimp only at *
          clear hx3 hxm hat3 hstep hal hal2
          have HSB := hide (show W1.heap.size ≤ wr.heap.size from H.out.2.2.size)
          have HBX := hide (show RowKit.Below wr.heap.size wr (wr.alloc (.cells #[.int .i64 t', .int .i64 i', .int .i64 q', .int .i64 st', .int .i64 en', .string nm'] 38)) from (Below.refl _ _).alloc (Nat.le_refl _) _)
          have HNW := hide (HNEWX.out wr)
          obtain ⟨y0, y1, y2, y3, y4, y5⟩ := ((HS1.out.below H.out.2.2).below HBX.out).z
          dsimp only at y0 y1 y2 y3 y4 y5
          cases f
          · go_wp2_with fail
            refine (HLQ.out _).mono ?_
            rintro e2 w2 ⟨rfl, hb2⟩
            have hw2 : RowKit.Below wr.heap.size wr w2 := HBX.out.trans (hb2.mono HBX.out.size)
            have hx2 := HNW.out.below hb2
            have hrow2 := H.out.2.1.below hw2
            have hs2 := (HS1.out.below H.out.2.2).below hw2
            have HW2 := hide (show RowKit.Below W1.heap.size W1 w2 from H.out.2.2.trans (hw2.mono H.out.2.2.size))
            have HROW2 := hide hrow2
            obtain ⟨y0, y1, y2, y3, y4, y5⟩ := hs2.z
            obtain ⟨z0, z1, z2, z3, z4, z5⟩ := hx2.z
            dsimp only at y0 y1 y2 y3 y4 y5 z0 z1 z2 z3 z4 z5
            have HX2 := hide hx2
            have HSZ2 := hide HW2.out.size
            clear hb2 hw2 hx2 hrow2 hs2
            cases hltv : ltS ⟨t, i, p', st, en, nm⟩ ⟨t', i', q', st', en', nm'⟩
            · have hst : stepI ⟨t, i, p', st, en, nm⟩ (a, false) ⟨t', i', q', st', en', nm'⟩ = (a ++ [⟨t', i', q', st', en', nm'⟩], false) := by unfold stepI; rw [if_neg (by rw [hltv]; simp)]
              have HST2 := hide (HST.out.trans hst)
              clear hst hltv
              go_wp2_with (at_builtin; go_must (refine wpList_push (v := u6) rfl _ _ rfl rfl ⟨t', i', q', st', en', nm'⟩ rfl rfl HROW2.out HSZ2.out (by have := HAL.out; omega) ?_); intro v5 w5 ho5 hb5 hg5)
              go_roundw
              case rel => exact ⟨m + 1, a ++ [⟨t', i', q', st', en', nm'⟩], false, by omega, by go_num, rfl, hide ⟨HST2.out.symm, ho5, HW2.out.trans hb5⟩⟩
              case measure => simp [intOf]; omega
            · have hst : stepI ⟨t, i, p', st, en, nm⟩ (a, false) ⟨t', i', q', st', en', nm'⟩ = (a ++ [⟨t, i, p', st, en, nm⟩] ++ [⟨t', i', q', st', en', nm'⟩], true) := by unfold stepI; rw [if_pos ⟨rfl, hltv⟩]
              have HST2 := hide (HST.out.trans hst)
              have HUB := hide (show ∀ q, u6.ownBlock = some q → q ≠ wr.heap.size from fun q hq e => by have := (H.out.2.1.lt q hq).2; omega)
              clear hst hltv
              have HNEQ := hide (show u6.ownBlock ≠ some wr.heap.size from fun e => HUB.out _ e rfl)
              have tok1 : True := trivial
              clear z0 z1 z2 z3 z4 z5
              go_wp2_with (at_builtin; first
                | (have _t := tok1; go_must (refine wpList_push (v := u6) rfl _ _ rfl rfl ⟨t, i, p', st, en, nm⟩ rfl rfl HROW2.out HSZ2.out (by have := HAL.out; omega) ?_); intro v5 w5 ho5 hb5 hg5; clear tok1; obtain ⟨z0, z1, z2, z3, z4, z5⟩ := (HX2.out.grown hg5 HNEQ.out).z; dsimp only at z0 z1 z2 z3 z4 z5; have HO5 := hide (And.intro ho5 hb5); have HS5 := hide (Nat.le_trans HSZ2.out (show w2.heap.size ≤ w5.heap.size from hg5.size)); clear ho5 hb5 hg5)
                | (go_must (refine wpList_push (v := v5) rfl _ _ rfl rfl ⟨t', i', q', st', en', nm'⟩ rfl rfl HO5.out.1 HS5.out (by have := HAL.out; simp; omega) ?_); intro v7 w7 ho7 hb7 hg7))
              go_roundw
              case rel => exact ⟨m + 1, a ++ [⟨t, i, p', st, en, nm⟩] ++ [⟨t', i', q', st', en', nm'⟩], true, by omega, by go_num, rfl, hide ⟨HST2.out.symm, ho7, (HW2.out.trans HO5.out.2).trans hb7⟩⟩
              case measure => simp [intOf]; omega
          · have hst : stepI ⟨t, i, p', st, en, nm⟩ (a, true) ⟨t', i', q', st', en', nm'⟩ = (a ++ [⟨t', i', q', st', en', nm'⟩], true) := by unfold stepI; rw [if_neg (by simp)]
            have HST2 := hide (HST.out.trans hst)
            have hrow2 := H.out.2.1.below HBX.out
            have HROW2 := hide hrow2
            clear hst hrow2
            obtain ⟨W2, hW2⟩ : ∃ W2, wr.alloc (.cells #[.int .i64 t', .int .i64 i', .int .i64 q', .int .i64 st', .int .i64 en', .string nm'] 38) = W2 := ⟨_, rfl⟩
            rw [hW2] at HROW2 HBX
            have HSZ2 := hide (show W1.heap.size ≤ W2.heap.size from Nat.le_trans HSB.out HBX.out.size)
            have HZW := hide (HNW.out.z)
            rw [hW2] at HZW y0 y1 y2 y3 y4 y5
            obtain ⟨z0, z1, z2, z3, z4, z5⟩ := HZW.out
            dsimp only at z0 z1 z2 z3 z4 z5
            go_wp2_with (at_builtin; go_must (refine wpList_push (v := u6) rfl _ _ rfl rfl ⟨t', i', q', st', en', nm'⟩ rfl rfl HROW2.out HSZ2.out (by have := HAL.out; omega) ?_); intro v5 w5 ho5 hb5 hg5)
            go_roundw
            case rel => exact ⟨m + 1, a ++ [⟨t', i', q', st', en', nm'⟩], true, by omega, by go_num, rfl, hide ⟨HST2.out.symm, ho5, (H.out.2.2.trans (HBX.out.mono H.out.2.2.size)).trans hb5⟩⟩
            case measure => simp [intOf]; omega
        · have hmn : m = nu := by omega
          subst hmn
          have hfold : (a, f) = foldI ⟨t, i, p', st, en, nm⟩ O ([], false) := by
            have := H.out.1
            rwa [List.take_of_length_le (by have := HOL.out; omega)] at this
          have hins := foldI_ins ⟨t, i, p', st, en, nm⟩ O []
          rw [← hfold, List.nil_append] at hins
          have HINS := hide hins
          have hal := foldI_len ⟨t, i, p', st, en, nm⟩ O ([], false)
          rw [← hfold] at hal
          have HAL := hide (show a.length ≤ 2000 by have := HOL.out; simp only [List.length_nil] at hal; omega)
          obtain ⟨y0, y1, y2, y3, y4, y5⟩ := (HS1.out.below H.out.2.2).z
          dsimp only at y0 y1 y2 y3 y4 y5
          have HROW := hide H.out.2.1
          have HW := hide H.out.2.2
          have HSZ := hide H.out.2.2.size
          clear hfold hins hal
          cases f
          · go_wp2_with (at_builtin; go_must (refine wpList_push (v := u6) rfl _ _ rfl rfl ⟨t, i, p', st, en, nm⟩ rfl rfl HROW.out HSZ.out (by have := HAL.out; omega) ?_); intro v5 w5 ho5 hb5 hg5)
            go_roundw
            case rel =>
              have h1 := HINS.out
              unfold endI at h1
              refine ⟨k + 1, by omega, by go_num, hide ⟨?_, HB1.out.trans ((HW.out.trans hb5).mono HB1.out.size)⟩⟩
              rw [HNQ.out, ← h1]
              exact ho5.mono HB1.out.size
            case measure => simp [intOf]; omega
          · go_wp2
            go_roundw
            case rel =>
              have h1 := HINS.out
              unfold endI at h1
              refine ⟨k + 1, by omega, by go_num, hide ⟨?_, HB1.out.trans (HW.out.mono HB1.out.size)⟩⟩
              rw [HNQ.out, ← h1]
              exact HROW.out.mono HB1.out.size
            case measure => simp [intOf]; omega
    · have hkn : k = n := by omega
      subst hkn
      have hrow : OwnS w.heap.size wr u3 (insAll l) := by
        have := HR.out.1
        rwa [List.take_of_length_le (by have := HN.out; omega)] at this
      have HROW := hide hrow
      clear hrow
      go_wp2
      go_ret
      exact ⟨_, rfl, HROW.out, HR.out.2⟩
end Go.Proofs.YtfedkjaollioaaaGreat
/- The document's Find. -/
namespace Go.Proofs.YtfedkjaollioaaaGreat
set_option linter.unusedVariables false
set_option linter.unusedSimpArgs false
open Go.RowKit

set_option maxRecDepth 200000 in
set_option maxHeartbeats 8000000 in
theorem six_set {W : World} {r : Nat} (hA : W.heap[r]? = some (.cells #[.int .i64 0, .int .i64 0, .int .i64 0, .int .i64 0, .int .i64 0, .string ⟨#[]⟩] 38)) (x : Sp) : SpAt ((((((W.setCell ⟨r, 0, none⟩ (.int .i64 x.t)).setCell ⟨r, 1, none⟩ (.int .i64 x.i)).setCell ⟨r, 2, none⟩ (.int .i64 x.p)).setCell ⟨r, 3, none⟩ (.int .i64 x.s)).setCell ⟨r, 4, none⟩ (.int .i64 x.e)).setCell ⟨r, 5, none⟩ (.string x.n)) r 0 x := by
  have q0 := heap_setCell_same W r 0 _ 38 (.int .i64 x.t) hA
  have q1 := heap_setCell_same _ r 1 _ 38 (.int .i64 x.i) q0
  have q2 := heap_setCell_same _ r 2 _ 38 (.int .i64 x.p) q1
  have q3 := heap_setCell_same _ r 3 _ 38 (.int .i64 x.s) q2
  have q4 := heap_setCell_same _ r 4 _ 38 (.int .i64 x.e) q3
  have q5 := heap_setCell_same _ r 5 _ 38 (.string x.n) q4
  intro k u hk
  have hk6 : k < 6 := by
    have := List.getElem?_eq_some_iff.1 hk
    obtain ⟨h, _⟩ := this
    simpa [spC] using h
  have hq := cell_of_row _ r (0 + k) _ 38 (0, 0) q5
  rw [hq, Nat.zero_add, ← hk]
  clear hq q0 q1 q2 q3 q4 q5 hA hk
  rcases k with _ | _ | _ | _ | _ | _ | k
  all_goals first | rfl | omega

theorem six_below {B : Nat} {w W : World} (h : Below B w W) {r : Nat} (hr : B ≤ r) (v0 v1 v2 v3 v4 v5 : Value) : Below B w ((((((W.setCell ⟨r, 0, none⟩ v0).setCell ⟨r, 1, none⟩ v1).setCell ⟨r, 2, none⟩ v2).setCell ⟨r, 3, none⟩ v3).setCell ⟨r, 4, none⟩ v4).setCell ⟨r, 5, none⟩ v5) :=
  bset (bset (bset (bset (bset (bset h hr) hr) hr) hr) hr) hr

/-- The document's forest in the block g: its spans are L. -/
def RfIs (w : World) (g : Nat) (tr : Int) (L : List Sp) : Prop := w.cell? ⟨g, 0, none⟩ = some (.int .i64 tr) ∧ ∃ v, w.cell? ⟨g, 1, none⟩ = some v ∧ Sps w v L

set_option maxRecDepth 200000 in
set_option maxHeartbeats 1000000 in
theorem refFind_any {w : World} {g : Nat} {tr : Int} {L : List Sp} (h : RfIs w g tr L) (k : Int) : Calls Tryz.prog 63 #[.pointer (some ⟨g, 0, none⟩), .int .i64 k] w fun e w' => e = .returned (.tuple #[spV ((fnd L k).getD sp0), .bool (fnd L k).isSome]) ∧ Below w.heap.size w w' := by
  obtain ⟨c0, v, c1, hv⟩ := h
  obtain ⟨p, n, c, rfl⟩ := hv.sl
  have hgw := lt_of_cell c0
  have hgn : g ≠ w.heap.size := by simp only at hgw; omega
  have hnm : (n : Int) ≤ 9223372036854775807 := by have := hv.len; unfold maxLen at this; omega
  have HV := hide hv
  clear hv
  go_enter Tryz.func63, Tryz.ntmps63
  go_wp2_with fail
  obtain ⟨w1, hw1⟩ : ∃ w1, w.alloc (.cells #[.int .i64 0, .int .i64 0, .int .i64 0, .int .i64 0, .int .i64 0, .string ⟨#[]⟩] 38) = w1 := ⟨_, rfl⟩
  rw [hw1]
  have hrow : w1.heap[w.heap.size]? = some (.cells #[.int .i64 0, .int .i64 0, .int .i64 0, .int .i64 0, .int .i64 0, .string ⟨#[]⟩] 38) := by rw [← hw1]; exact heap_alloc_new w _
  have hb1 : Below w.heap.size w w1 := by rw [← hw1]; exact (Below.refl _ _).alloc (Nat.le_refl _) _
  have hsz1 : w1.heap.size = w.heap.size + 1 := by rw [← hw1]; simp
  have HROW := hide hrow
  have HB1 := hide hb1
  have HSZ := hide hsz1
  clear hrow hb1 hsz1 hw1
  go_loopw [7, 13] (fun _ i wr => ∃ j : Nat, j ≤ n ∧ i = .int .i64 j ∧ Hid (Below w1.heap.size w1 wr ∧ fnd L k = fnd (L.drop j) k)) (fun _ i _ => n - (intOf i).toNat)
  case atStart => exact ⟨0, Nat.zero_le _, rfl, hide ⟨Below.refl _ _, by rw [List.drop_zero]⟩⟩
  case round =>
    obtain ⟨j, hj, rfl, hrel⟩ := hrel
    obtain ⟨hbel, hfn⟩ := hrel.out
    have hrow : wr.heap[w.heap.size]? = some (.cells #[.int .i64 0, .int .i64 0, .int .i64 0, .int .i64 0, .int .i64 0, .string ⟨#[]⟩] 38) := (hbel.block w.heap.size (by have := HSZ.out; omega)).trans HROW.out
    have hgr : w.heap.size < wr.heap.size := by have := hbel.size; have := HSZ.out; omega
    have hgrn : w.heap.size ≠ wr.heap.size := by omega
    have b0 := cell_of_row wr w.heap.size 0 _ 38 (0, 0) hrow
    have b1 := cell_of_row wr w.heap.size 1 _ 38 (0, 0) hrow
    have b2 := cell_of_row wr w.heap.size 2 _ 38 (0, 0) hrow
    have b3 := cell_of_row wr w.heap.size 3 _ 38 (0, 0) hrow
    have b4 := cell_of_row wr w.heap.size 4 _ 38 (0, 0) hrow
    have b5 := cell_of_row wr w.heap.size 5 _ 38 (0, 0) hrow
    have f0 := frozen_of_row wr w.heap.size 0 _ 38 hrow
    have f1 := frozen_of_row wr w.heap.size 1 _ 38 hrow
    have f2 := frozen_of_row wr w.heap.size 2 _ 38 hrow
    have f3 := frozen_of_row wr w.heap.size 3 _ 38 hrow
    have f4 := frozen_of_row wr w.heap.size 4 _ 38 hrow
    have f5 := frozen_of_row wr w.heap.size 5 _ 38 hrow
    have HRW := hide hrow
    have HBL := hide hbel
    have HFN := hide hfn
    clear hrow hbel hfn hrel
    by_cases hjn : (j : Int) < (n : Int)
    · obtain ⟨gs, o, rfl, hat⟩ := HV.out.at_ (by omega)
      have hn := HV.out.len.1
      obtain ⟨x, hx⟩ : ∃ x, L[j]? = some x := ⟨_, List.getElem?_eq_getElem (by omega)⟩
      have hsx := (((hat j x hx).below HB1.out).below HBL.out)
      have e0 := hsx.c0
      have e1 := hsx.c1
      have e2 := hsx.c2
      have e3 := hsx.c3
      have e4 := hsx.c4
      have e5 := hsx.c5
      have hdrop : L.drop j = x :: L.drop (j + 1) := List.drop_eq_getElem?_toList_append.trans (by rw [hx]; rfl)
      have HD := hide hdrop
      have HX := hide hx
      clear hat hx hsx hdrop
      by_cases hk : x.i = k
      · subst hk
        have hres : fnd L x.i = some x := by rw [HFN.out, HD.out]; unfold fnd; simp
        have HRES := hide hres
        clear hres
        go_wp2
        have h6 := six_set HRW.out x
        have hbel6 := six_below (HB1.out.trans (HBL.out.mono (by have := HSZ.out; omega))) (Nat.le_refl w.heap.size) (.int .i64 x.t) (.int .i64 x.i) (.int .i64 x.p) (.int .i64 x.s) (.int .i64 x.e) (.string x.n)
        refine bodyPost_ret (v := .tuple #[spV x, .bool true]) (by
          clear hbel6
          generalize ((((((wr.setCell ⟨w.heap.size, 0, none⟩ (.int .i64 x.t)).setCell ⟨w.heap.size, 1, none⟩ (.int .i64 x.i)).setCell ⟨w.heap.size, 2, none⟩ (.int .i64 x.p)).setCell ⟨w.heap.size, 3, none⟩ (.int .i64 x.s)).setCell ⟨w.heap.size, 4, none⟩ (.int .i64 x.e)).setCell ⟨w.heap.size, 5, none⟩ (.string x.n)) = W9 at h6 ⊢
          obtain ⟨m0, m1, m2, m3, m4, m5⟩ := h6.z
          have hz9 : w.heap.size < W9.heap.size := h6.lt
          clear h6
          unfold spV
          simp [results, Tryz.results63, go_sem, m0, m1, m2, m3, m4, m5, hz9]) rfl ⟨by rw [HRES.out]; rfl, hbel6.alloc hbel6.size _⟩
      · have hnx : fnd L k = fnd (L.drop (j + 1)) k := by
          rw [HFN.out, HD.out]
          unfold fnd
          rw [List.find?_cons, beq_eq_false_iff_ne.2 hk]
        have HNX := hide hnx
        clear hnx
        go_wp2
        go_roundw
        case rel => exact ⟨j + 1, by omega, by go_num, hide ⟨HBL.out.alloc HBL.out.size _, HNX.out⟩⟩
        case measure => simp [intOf]; omega
    · have hres : fnd L k = none := by
        have hn := HV.out.len.1
        rw [HFN.out, List.drop_eq_nil_of_le (by omega)]
        rfl
      have HRES := hide hres
      clear hres
      go_wp2
      have h6 := six_set HRW.out ⟨0, 0, 0, 0, 0, ⟨#[]⟩⟩
      dsimp only at h6
      have hbel6 := six_below (HB1.out.trans (HBL.out.mono (by have := HSZ.out; omega))) (Nat.le_refl w.heap.size) (.int .i64 0) (.int .i64 0) (.int .i64 0) (.int .i64 0) (.int .i64 0) (.string ⟨#[]⟩)
      refine bodyPost_ret (v := .tuple #[.agg #[.int .i64 0, .int .i64 0, .int .i64 0, .int .i64 0, .int .i64 0, .string ⟨#[]⟩], .bool false]) (by
        clear hbel6
        generalize ((((((wr.setCell ⟨w.heap.size, 0, none⟩ (.int .i64 0)).setCell ⟨w.heap.size, 1, none⟩ (.int .i64 0)).setCell ⟨w.heap.size, 2, none⟩ (.int .i64 0)).setCell ⟨w.heap.size, 3, none⟩ (.int .i64 0)).setCell ⟨w.heap.size, 4, none⟩ (.int .i64 0)).setCell ⟨w.heap.size, 5, none⟩ (.string ⟨#[]⟩)) = W9 at h6 ⊢
        obtain ⟨m0, m1, m2, m3, m4, m5⟩ := h6.z
        have hz9 : w.heap.size < W9.heap.size := h6.lt
        clear h6
        simp [results, Tryz.results63, go_sem, m0, m1, m2, m3, m4, m5, hz9]) rfl ⟨by rw [HRES.out]; rfl, hbel6⟩
end Go.Proofs.YtfedkjaollioaaaGreat
/- The document's ring. -/
namespace Go.Proofs.YtfedkjaollioaaaGreat
set_option linter.unusedVariables false
set_option linter.unusedSimpArgs false
open Go.RowKit

theorem RfIs.below {w w' : World} {g : Nat} {tr : Int} {L : List Sp} (h : RfIs w g tr L) (hb : Below w.heap.size w w') : RfIs w' g tr L := by
  obtain ⟨c0, v, c1, hv⟩ := h
  exact ⟨(hb.cell (lt_of_cell c0)).trans c0, v, (hb.cell (lt_of_cell c1)).trans c1, hv.below hb⟩

set_option maxRecDepth 200000 in
set_option maxHeartbeats 1000000 in
theorem refRing_any {w : World} {g : Nat} {tr : Int} {L : List Sp} (h : RfIs w g tr L) (hok : FoOk tr L) (x : Sp) (hne : x.p ≠ x.i) : Calls Tryz.prog 64 #[.pointer (some ⟨g, 0, none⟩), spV x] w fun e w' => e = .returned (.bool (ring L x.i x.p)) ∧ Below w.heap.size w w' := by
  have hres : ring L x.i x.p = loopR L x.i L.length x.p := (loopR_ring hok.rises hne).symm
  rw [hres]
  have hl64 := hok.len
  have hnew := spAt_new w x
  have hb1 := (Below.refl w.heap.size w).alloc (Nat.le_refl _) (.cells #[.int .i64 x.t, .int .i64 x.i, .int .i64 x.p, .int .i64 x.s, .int .i64 x.e, .string x.n] 38)
  have HR := hide (h.below hb1)
  have HB1 := hide hb1
  have HNEW := hide hnew
  obtain ⟨_, vL, c1, hvL⟩ := h.below hb1
  obtain ⟨pL, nL, cL, rfl⟩ := hvL.sl
  obtain rfl : nL = L.length := hvL.len.1
  have HC1 := hide c1
  clear h hb1 hnew hvL hres hok
  obtain ⟨t, i, q, s, en, nn⟩ := x
  unfold spV
  dsimp only at *
  go_enter Tryz.func64, Tryz.ntmps64
  go_wp2_with fail
  obtain ⟨X, hX⟩ : ∃ X, w.alloc (.cells #[.int .i64 t, .int .i64 i, .int .i64 q, .int .i64 s, .int .i64 en, .string nn] 38) = X := ⟨_, rfl⟩
  obtain ⟨gx, hgx⟩ : ∃ g, w.heap.size = g := ⟨_, rfl⟩
  rw [hX] at HR HB1 HNEW HC1
  rw [hgx] at HNEW
  rw [hX, hgx]
  clear hX hgx c1
  go_loopw [5, 6, 7, 15] (fun v5 _ _ ix wr => ∃ (k : Nat) (a : Int), k ≤ L.length ∧ v5 = .int .i64 a ∧ ix = .int .i64 k ∧ Hid (RowKit.Below X.heap.size X wr ∧ loopR L i L.length q = loopR L i (L.length - k) a)) (fun _ _ _ ix _ => L.length - (intOf ix).toNat)
  case atStart => exact ⟨0, q, by omega, rfl, rfl, hide ⟨Below.refl _ _, rfl⟩⟩
  case round =>
    obtain ⟨k, a, hk, rfl, rfl, HJ⟩ := hrel
    have hx := HNEW.out.below HJ.out.1
    have k1 := hx.c1
    dsimp only [Nat.zero_add] at k1
    have HX := hide hx
    clear hx
    by_cases hlt : k < L.length
    · have hlt2 : (k : Int) < (L.length : Int) := by omega
      have HFD := hide (refFind_any (HR.out.below HJ.out.1) a)
      obtain ⟨m, hm⟩ : ∃ m, L.length - k = m + 1 := ⟨L.length - k - 1, by omega⟩
      go_wp2_with fail
      refine HFD.out.mono ?_
      rintro e5 w5 ⟨rfl, hb5⟩
      obtain ⟨u, hu⟩ : ∃ u, (fnd L a).getD sp0 = u := ⟨_, rfl⟩
      rw [hu]
      have hx5 := (HX.out.below hb5)
      have hb6 := (Below.refl w5.heap.size w5).alloc (Nat.le_refl _) (.cells #[.int .i64 u.t, .int .i64 u.i, .int .i64 u.p, .int .i64 u.s, .int .i64 u.e, .string u.n] 38)
      have hx6 := hx5.below hb6
      have hbel6 := (HJ.out.1.trans (hb5.mono HJ.out.1.size)).trans (hb6.mono (HJ.out.1.trans (hb5.mono HJ.out.1.size)).size)
      have x1 := hx6.c1
      dsimp only [Nat.zero_add] at x1
      have HB6 := hide hbel6
      clear hb5 hx5 hb6 hx6 hbel6
      unfold spV
      cases hf : fnd L a with
      | none =>
        have hr : loopR L i (L.length - k) a = (a == i) := by rw [hm]; unfold loopR; rw [hf]
        have HRES := hide (HJ.out.2.trans hr)
        clear hr hf
        go_wp2
        go_ret
        refine ⟨?_, (HB1.out.trans (HB6.out.mono HB1.out.size))⟩
        rw [HRES.out]
        rfl
      | some u2 =>
        rw [hf, Option.getD_some] at hu
        subst hu
        by_cases hp : u2.p = i
        · have hr : loopR L i (L.length - k) a = true := by rw [hm]; unfold loopR; rw [hf]; simp only [if_pos hp]
          have HRES := hide (HJ.out.2.trans hr)
          subst hp
          clear hr hf
          go_wp2
          go_ret
          exact ⟨by rw [HRES.out]; rfl, (HB1.out.trans (HB6.out.mono HB1.out.size))⟩
        · have hr : loopR L i (L.length - k) a = loopR L i m u2.p := by rw [hm]; conv => lhs; unfold loopR; rw [hf]; simp only [if_neg hp]
          have HRES := hide (HJ.out.2.trans hr)
          have hpb : (u2.p == i) = false := beq_eq_false_iff_ne.2 hp
          clear hr hf
          go_wp2
          all_goals
            go_roundw
            case rel => exact ⟨k + 1, u2.p, by omega, rfl, by go_num, hide ⟨HB6.out, by rw [HRES.out]; congr 1; omega⟩⟩
            case measure => simp [intOf]; omega
    · have hk2 : L.length - k = 0 := by omega
      have hr : loopR L i (L.length - k) a = (a == i) := by rw [hk2]; rfl
      have HRES := hide (HJ.out.2.trans hr)
      have hlt2 : ¬ (k : Int) < (L.length : Int) := by omega
      clear hr
      go_wp2
      go_ret
      refine ⟨?_, (HB1.out.trans (HJ.out.1.mono HB1.out.size))⟩
      rw [HRES.out]
      rfl
end Go.Proofs.YtfedkjaollioaaaGreat
/- The document's End, beneath and Branches. -/
namespace Go.Proofs.YtfedkjaollioaaaGreat
set_option linter.unusedVariables false
set_option linter.unusedSimpArgs false
open Go.RowKit

theorem endP_snoc (l : List Sp) (x : Sp) : endP (l ++ [x]) = max x.e (endP l) := by
  rw [endP_perm (List.perm_append_comm (l₁ := l) (l₂ := [x]))]
  rfl

set_option maxRecDepth 200000 in
set_option maxHeartbeats 1000000 in
theorem refEnd_any {w : World} {g : Nat} {tr : Int} {L : List Sp} (h : RfIs w g tr L) (hok : FoOk tr L) : Calls Tryz.prog 27 #[.pointer (some ⟨g, 0, none⟩)] w fun e w' => e = .returned (.int .i64 (endP L)) ∧ Below w.heap.size w w' := by
  obtain ⟨_, vL, c1, hvL⟩ := h
  obtain ⟨pL, nL, cL, rfl⟩ := hvL.sl
  obtain rfl : nL = L.length := hvL.len.1
  have hl64 := hok.len
  have HOK := hide hok
  have HV := hide hvL
  clear hvL hok
  go_enter Tryz.func27, Tryz.ntmps27
  go_wp2_with fail
  go_loopw [3, 5, 11] (fun v3 _ ix wr => ∃ k : Nat, k ≤ L.length ∧ v3 = .int .i64 (endP (L.take k)) ∧ ix = .int .i64 k ∧ Hid (RowKit.Below w.heap.size w wr)) (fun _ _ ix _ => L.length - (intOf ix).toNat)
  case atStart => exact ⟨0, by omega, rfl, rfl, hide (Below.refl _ _)⟩
  case round =>
    obtain ⟨k, hk, rfl, rfl, HR⟩ := hrel
    obtain ⟨n, hn⟩ : ∃ n, endP (L.take k) = n := ⟨_, rfl⟩
    rw [hn]
    have hnb : 0 ≤ n ∧ n ≤ 1099511627776 := by
      rw [← hn]
      refine endP_le fun x hx => ?_
      exact ((Sp.ok_iff x).1 (HOK.out.ok x (List.mem_of_mem_take hx)).1).e2
    have HN := hide hn
    obtain ⟨hn0, hn1⟩ := hnb
    clear hn
    by_cases hlt : (k : Int) < (L.length : Int)
    · obtain ⟨gv, ov, rfl, hx⟩ := HV.out.at_ (by omega)
      obtain ⟨x, hxk⟩ : ∃ x, L[k]? = some x := ⟨_, List.getElem?_eq_getElem (by omega)⟩
      have hat := (hx k x hxk).below HR.out
      obtain ⟨oo, hoo⟩ : ∃ oo, ov + k * 6 = oo := ⟨_, rfl⟩
      rw [hoo] at hat
      have z0 := hat.c0
      have z1 := hat.c1
      have z2 := hat.c2
      have z3 := hat.c3
      have z4 := hat.c4
      have z5 := hat.c5
      have hstep : endP (L.take (k + 1)) = max x.e n := by
        rw [List.take_add_one, hxk]
        show endP (L.take k ++ [x]) = _
        rw [endP_snoc, HN.out]
      have HST := hide hstep
      clear hx hxk hat hstep
      obtain ⟨t, i, q, s, en, nn⟩ := x
      dsimp only at *
      by_cases hen : n < en
      all_goals
        go_wp2
        go_roundw
        case rel => exact ⟨k + 1, by omega, by rw [HST.out]; first | rfl | (congr 1; omega), by go_num, hide (HR.out.alloc HR.out.size _)⟩
        case measure => simp [intOf]; omega
    · have hkl : k = L.length := by omega
      have hfin : endP L = n := by have := HN.out; rwa [List.take_of_length_le (by omega)] at this
      have HF := hide hfin
      clear hfin
      go_wp2
      go_ret
      exact ⟨by rw [HF.out]; rfl, HR.out⟩

/-- What of the first spans P stands beneath a parent, as the document lays it. -/
def benQ (S P : List Sp) (m : Nat) (k d : Int) : List Br := match m with
  | 0 => []
  | m + 1 => (kids P k).flatMap fun s => ⟨d, false, s⟩ :: benP S m s.i (d + 1)
theorem benQ_all (S : List Sp) (m : Nat) (k d : Int) : benQ S S m k d = benP S m k d := by
  cases m <;> rfl
theorem benQ_no {S P : List Sp} {y : Sp} {m : Nat} {k d : Int} (h : y.p ≠ k ∨ m = 0) : benQ S (P ++ [y]) m k d = benQ S P m k d := by
  cases m with
  | zero => rfl
  | succ m =>
    rcases h with h | h
    · unfold benQ
      rw [kids_snoc, if_neg h, List.append_nil]
    · cases h
theorem benQ_yes {S P : List Sp} {y : Sp} {m : Nat} {k d : Int} (h : y.p = k) : benQ S (P ++ [y]) (m + 1) k d = benQ S P (m + 1) k d ++ ⟨d, false, y⟩ :: benP S m y.i (d + 1) := by
  simp only [benQ]
  rw [kids_snoc, if_pos h, List.flatMap_append]
  simp
theorem benQ_le {S : List Sp} {m : Nat} {k d : Int} (j : Nat) : (benQ S (S.take j) m k d).length ≤ (benP S m k d).length := by
  rw [← benQ_all S m k d]
  cases m with
  | zero => exact Nat.le_refl _
  | succ m =>
    simp only [benQ]
    have h1 : kids S k = kids (S.take j) k ++ kids (S.drop j) k := by
      unfold kids
      rw [← List.filter_append, List.take_append_drop]
    rw [h1, List.flatMap_append, List.length_append]
    omega

set_option maxRecDepth 200000 in
set_option maxHeartbeats 1000000 in
theorem refBen_step {tr : Int} {L S : List Sp} (hS : sortS L = S) (hl64 : L.length ≤ 64) (m : Nat) (k d : Int) (hd : d + m = 65) (hd0 : 0 ≤ d)
    (ih : ∀ m', m = m' + 1 → ∀ {w : World} {g : Nat} (k : Int), RfIs w g tr L → (benP S m' k (d + 1)).length ≤ 1000 → Calls Tryz.prog 91 #[.pointer (some ⟨g, 0, none⟩), .int .i64 k, .int .i64 (d + 1)] w fun e w' => ∃ v', e = .returned v' ∧ OwnB w.heap.size w' v' (benP S m' k (d + 1)) ∧ Below w.heap.size w w')
    {w : World} {g : Nat} (h : RfIs w g tr L) (hlen : (benP S m k d).length ≤ 1000) :
    Calls Tryz.prog 91 #[.pointer (some ⟨g, 0, none⟩), .int .i64 k, .int .i64 d] w fun e w' => ∃ v', e = .returned v' ∧ OwnB w.heap.size w' v' (benP S m k d) ∧ Below w.heap.size w w' := by
  have hSl : S.length = L.length := by rw [← hS]; exact sortS_length L
  have HR := hide h
  obtain ⟨_, vL, c1, hvL⟩ := h
  obtain ⟨pL, nL, cL, rfl⟩ := hvL.sl
  have HSRT := hide (refSort_any hvL (by omega))
  have IH := hide @ih
  have HLEN := hide hlen
  have hS64 : S.length ≤ 64 := by omega
  have hd65 : d ≤ 65 := by omega
  rw [hS] at HSRT
  clear hvL ih hlen hS hSl
  go_enter Tryz.func91, Tryz.ntmps91
  go_wp2_with fail
  refine HSRT.out.mono ?_
  rintro e1 X ⟨v1, rfl, ho1, hb1⟩
  obtain ⟨pS, nS, cS, rfl⟩ := ho1.sps.sl
  obtain rfl : nS = S.length := ho1.sps.len.1
  have H1 := hide (And.intro ho1.sps (And.intro hb1 (HR.out.below hb1)))
  clear ho1 hb1 c1
  go_wp2_with fail
  go_loopw [7, 9, 16] (fun v7 _ ix wr => ∃ (j : Nat) (p : Option Addr) (n c : Nat), v7 = .slice p n c ∧ j ≤ S.length ∧ ix = .int .i64 j ∧ Hid (OwnB X.heap.size wr (.slice p n c) (benQ S (S.take j) m k d) ∧ RowKit.Below X.heap.size X wr)) (fun _ _ ix _ => S.length - (intOf ix).toNat)
  case atStart =>
    refine ⟨0, none, 0, 0, rfl, by omega, rfl, hide ⟨?_, Below.refl _ _⟩⟩
    rw [List.take_zero, show benQ S [] m k d = [] by cases m <;> rfl]
    exact OwnB.nil _ _
  case round =>
    obtain ⟨j, p, n, c, rfl, hj, rfl, HJ⟩ := hrel
    by_cases hlt : (j : Int) < (S.length : Int)
    · obtain ⟨gv, ov, rfl, hx⟩ := H1.out.1.at_ (by omega)
      obtain ⟨x, hxk⟩ : ∃ x, S[j]? = some x := ⟨_, List.getElem?_eq_getElem (by omega)⟩
      have hat := (hx j x hxk).below HJ.out.2
      obtain ⟨oo, hoo⟩ : ∃ oo, ov + j * 6 = oo := ⟨_, rfl⟩
      rw [hoo] at hat
      have z0 := hat.c0
      have z1 := hat.c1
      have z2 := hat.c2
      have z3 := hat.c3
      have z4 := hat.c4
      have z5 := hat.c5
      have htk : S.take (j + 1) = S.take j ++ [x] := by rw [List.take_add_one, hxk]; rfl
      have hnew := spAt_new wr x
      have hbx := (Below.refl wr.heap.size wr).alloc (Nat.le_refl _) (.cells #[.int .i64 x.t, .int .i64 x.i, .int .i64 x.p, .int .i64 x.s, .int .i64 x.e, .string x.n] 38)
      have HX := hide (And.intro hnew (And.intro (HJ.out.2.trans (hbx.mono HJ.out.2.size)) (HJ.out.1.below hbx)))
      have HTK := hide htk
      have hle1 := benQ_le (S := S) (m := m) (k := k) (d := d) (j + 1)
      have HLE := hide hle1
      clear hx hxk hat htk hnew hbx hle1
      by_cases hyes : x.p = k ∧ m ≠ 0
      · obtain ⟨hp, hm⟩ := hyes
        obtain ⟨m', rfl⟩ : ∃ m', m = m' + 1 := ⟨m - 1, by omega⟩
        have hstep := benQ_yes (S := S) (P := S.take j) (m := m') (d := d) hp
        have hpn : ∀ i, (Value.slice p n c).ownBlock = some i → i < wr.heap.size := fun i hi => (HJ.out.1.lt i hi).2
        rw [← HTK.out] at hstep
        have hll : (benQ S (S.take j) (m' + 1) k d).length + 1 + (benP S m' x.i (d + 1)).length ≤ 1000 := by
          have h1 := HLE.out
          have h2 := HLEN.out
          rw [hstep, List.length_append, List.length_cons] at h1
          omega
        have HST := hide (And.intro hstep (And.intro hll hpn))
        have hd64 : d ≤ 64 := by omega
        clear hstep hll hpn
        obtain ⟨t, i, q, s, en, nn⟩ := x
        dsimp only at *
        subst hp
        go_wp2_with (at_builtin; go_must (refine wpList_pushB (v := .slice p n c) rfl _ _ rfl rfl ⟨d, false, ⟨t, i, q, s, en, nn⟩⟩ rfl rfl (by simp) HX.out.2.2 (by have := HX.out.2.1.size; exact this) (by have := HST.out.2.1; omega) ?_); go_loud (intro v5 w5 ho5 he5; obtain ⟨p5, n5, c5, rfl⟩ := ho5.brs.sl; have hx5 : SpAt w5 wr.heap.size 0 ⟨t, i, q, s, en, nn⟩ := (fun a b hb => cell_ext he5 (HX.out.1 a b hb) (fun e => by have := HST.out.2.2 _ e; omega)); have hb5 := HX.out.2.1.grown he5.1 HX.out.2.1.size (fun a ha => (HJ.out.1.lt a ha).1); have y1 := hx5.c1; try dsimp only [Nat.zero_add] at y1; have H5 := hide (And.intro ho5 hb5); clear ho5 he5 hx5 hb5))
        have HC := hide (IH.out m' rfl i (H1.out.2.2.below H5.out.2) (by have := HST.out.2.1; omega))
        refine HC.out.mono ?_
        rintro e6 w6 ⟨v6, rfl, ho6, hb6⟩
        obtain ⟨p6, n6, c6, rfl⟩ := ho6.brs.sl
        have H6 := hide (And.intro (H5.out.1.below hb6) (And.intro ho6.brs (H5.out.2.trans (hb6.mono H5.out.2.size))))
        have hsz6 : X.heap.size ≤ w6.heap.size := H6.out.2.2.size
        have HSZ6 := hide hsz6
        clear ho6 hb6 hsz6 y1
        go_wp2_with (at_builtin; go_must (refine wpList_pushesB rfl _ _ rfl rfl rfl rfl H6.out.1 H6.out.2.1 HSZ6.out (by have := HST.out.2.1; rw [List.length_append, List.length_singleton]; omega) ?_); intro v7 w7 ho7 hb7 hg7; obtain ⟨p7, n7, c7, rfl⟩ := ho7.brs.sl; have H7 := hide (And.intro ho7 (H6.out.2.2.trans hb7)); clear ho7 hb7 hg7)
        go_roundw
        case rel =>
          refine ⟨j + 1, p7, n7, c7, rfl, by omega, by go_num, hide ⟨?_, H7.out.2⟩⟩
          rw [HST.out.1]
          have := H7.out.1
          simpa only [List.append_assoc, List.cons_append, List.nil_append] using this
        case measure => simp [intOf]; omega
      · have hno : x.p ≠ k ∨ m = 0 := by omega
        have hstep := benQ_no (S := S) (P := S.take j) (d := d) hno
        rw [← HTK.out] at hstep
        have HST := hide hstep
        clear hstep hyes
        obtain ⟨t, i, q, s, en, nn⟩ := x
        dsimp only at *
        by_cases hp : q = k
        · have hm0 : m = 0 := by omega
          have hd65' : ¬ d ≤ 64 := by omega
          subst hp
          go_wp2
          go_roundw
          case rel => exact ⟨j + 1, p, n, c, rfl, by omega, by go_num, hide ⟨by rw [HST.out]; exact HX.out.2.2, HX.out.2.1⟩⟩
          case measure => simp [intOf]; omega
        · have hpb : (q == k) = false := beq_eq_false_iff_ne.2 hp
          go_wp2
          all_goals
            go_roundw
            case rel => exact ⟨j + 1, p, n, c, rfl, by omega, by go_num, hide ⟨by rw [HST.out]; exact HX.out.2.2, HX.out.2.1⟩⟩
            case measure => simp [intOf]; omega
    · have hjS : j = S.length := by omega
      subst hjS
      have hfin := HJ.out.1
      rw [List.take_length, benQ_all] at hfin
      have HF := hide (And.intro (hfin.mono H1.out.2.1.size) (H1.out.2.1.trans (HJ.out.2.mono H1.out.2.1.size)))
      clear hfin
      go_wp2
      go_ret
      exact ⟨_, rfl, HF.out.1, HF.out.2⟩
end Go.Proofs.YtfedkjaollioaaaGreat
/- The document's Branches. -/
namespace Go.Proofs.YtfedkjaollioaaaGreat
set_option linter.unusedVariables false
set_option linter.unusedSimpArgs false
open Go.RowKit

theorem refBen_any {tr : Int} {L S : List Sp} (hS : sortS L = S) (hl64 : L.length ≤ 64) : ∀ (m : Nat) (k d : Int), d + m = 65 → 0 ≤ d → ∀ {w : World} {g : Nat}, RfIs w g tr L → (benP S m k d).length ≤ 1000 →
    Calls Tryz.prog 91 #[.pointer (some ⟨g, 0, none⟩), .int .i64 k, .int .i64 d] w fun e w' => ∃ v', e = .returned v' ∧ OwnB w.heap.size w' v' (benP S m k d) ∧ Below w.heap.size w w'
  | 0, k, d, hd, hd0, _, _, h, hlen => refBen_step hS hl64 0 k d hd hd0 (fun m' e => by omega) h hlen
  | m + 1, k, d, hd, hd0, _, _, h, hlen => refBen_step hS hl64 (m + 1) k d hd hd0 (fun m' e {w g} k' h' hl' => by
      obtain rfl : m = m' := by omega
      exact refBen_any hS hl64 m k' (d + 1) (by omega) (by omega) h' hl') h hlen

theorem Ext2.below {w w' : World} (v : Value) (h : Below w.heap.size w w') : Ext2 w v w' v := ⟨⟨h.os, h.tape, h.output, h.size, fun k hk _ => h.block k hk⟩, .inl rfl⟩
theorem run_pushesE {B : Nat} {w : World} {v u : Value} {l m : List Br} (h : OwnB B w v l) (hu : Brs w u m) (hB : B ≤ w.heap.size) (hs : (l.length + m.length) * 72 ≤ 140737488355328) :
    ∃ v' w', (Builtin.append_ #[57, 57] 57 #[v, u]).run Tryz.prog w = .ok v' w' ∧ OwnB B w' v' (l ++ m) ∧ Ext2 w v w' v' := by
  obtain ⟨i0, hi0, hz0, hz1, hz2⟩ := info_parts Tryz.infoBr
  obtain ⟨p, n, c, rfl⟩ := hu.sl
  have hn := hu.len.1
  by_cases h0 : n = 0
  · subst h0
    obtain rfl : m = [] := List.eq_nil_of_length_eq_zero hn.symm
    exact ⟨v, w, run_pushB_none h p c, by rw [List.append_nil]; exact h, Ext2.refl _ _⟩
  · obtain ⟨g, o, rfl, hx⟩ := hu.at_ (by omega)
    obtain ⟨v', w', hr, h1, h2, _, h4⟩ := run_append_own_at (P := Tryz.prog) w B 57 57 60 i0 _ 8 72 Tryz.underlying57 hi0 hz0 hz1 hz2 rfl (by decide) v l.length (l.flatMap brC) h ⟨g, o, none⟩ n c (m.flatMap brC) (by rw [bflat_len, hn])
      (fun j u hj => by
        obtain ⟨x, hxj, hk⟩ := bflat_get2 hj
        have := hx (j / 8) x hxj (j % 8) u hk
        rw [show o + j / 8 * 8 + j % 8 = o + j by omega] at this
        rw [add_lit0]
        exact this)
      (fun u hu => by
        obtain ⟨x, _, hx⟩ := List.mem_flatMap.1 hu
        exact brC_one x u hx) (by simp only [maxLen]; omega) (by omega) hB
    refine ⟨v', w', hr, ?_, h2, ?_⟩
    · unfold OwnB
      rw [List.flatMap_append, List.length_append, ← hn]
      exact h1
    · rcases h4 with h4 | h4
      · exact .inl h4
      · exact .inr ⟨_, Nat.le_refl _, h4⟩
theorem wpList_pushesE {w : World} {ops : Array Oper} {rest : List Oper} {o : Oper} {a : Act} {Q : Exit → Act → World → Prop} (hgd : o.guard = none) (s t : Operand)
    (ho : o.op = .call { callee := .builtin .append, args := #[s, t], argTypes := #[57, 57] }) (hty : o.type = 57) {B : Nat} {v u : Value} {l m : List Br}
    (hs : a.eval s = v) (ht : a.eval t = u) (h : OwnB B w v l) (hu : Brs w u m) (hB : B ≤ w.heap.size) (hn : (l.length + m.length) * 72 ≤ 140737488355328)
    (hK : ∀ v' w', OwnB B w' v' (l ++ m) → Ext2 w v w' v' → wpList Tryz.prog ops Q rest (a.put o.dst v') w') : wpList Tryz.prog ops Q (o :: rest) a w := by
  obtain ⟨v', w', hr, h1, h2⟩ := run_pushesE h hu hB hn
  exact Lib.wpList_append_run_sl _ hgd s t 57 ho v _ hs ht (by rw [hty]; exact hr) (hK v' w' h1 h2)

/-- Those without a parent that is there, of the first spans P, each with what stands beneath it. -/
def orQ (L S P : List Sp) : List Br := (P.filter fun x => !(x.p == 0) && !(fnd L x.p).isSome).flatMap fun s => ⟨0, true, s⟩ :: benP S 64 s.i 1
theorem orQ_yes {L S P : List Sp} {y : Sp} (h : y.p ≠ 0) (h2 : fnd L y.p = none) : orQ L S (P ++ [y]) = orQ L S P ++ ⟨0, true, y⟩ :: benP S 64 y.i 1 := by
  unfold orQ
  rw [List.filter_append, List.flatMap_append, List.filter_cons_of_pos (by simp [h, h2])]
  simp
theorem orQ_no {L S P : List Sp} {y : Sp} (h : y.p = 0 ∨ (fnd L y.p).isSome = true) : orQ L S (P ++ [y]) = orQ L S P := by
  unfold orQ
  rw [List.filter_append, List.flatMap_append, List.filter_cons_of_neg (by rcases h with h | h <;> simp [h])]
  simp
theorem orQ_le {L S : List Sp} (j : Nat) : (orQ L S (S.take j)).length ≤ (orQ L S S).length := by
  have h1 : orQ L S S = orQ L S (S.take j) ++ orQ L S (S.drop j) := by
    unfold orQ
    rw [← List.flatMap_append, ← List.filter_append, List.take_append_drop]
  rw [h1, List.length_append]
  omega

set_option maxRecDepth 200000 in
set_option maxHeartbeats 1000000 in
theorem refBranches_any {w : World} {g : Nat} {tr : Int} {L : List Sp} (h : RfIs w g tr L) (hok : FoOk tr L) : Calls Tryz.prog 69 #[.pointer (some ⟨g, 0, none⟩)] w fun e w' => ∃ v', e = .returned v' ∧ OwnB w.heap.size w' v' (brs (sortS L)) ∧ Below w.heap.size w w' := by
  obtain ⟨S, hS⟩ : ∃ S, sortS L = S := ⟨_, rfl⟩
  have hl64 := hok.len
  have hp : S.Perm L := by rw [← hS]; exact sortS_perm L
  have hSl : S.length = L.length := hp.length_eq
  obtain ⟨r, ht⟩ := (hok.perm hp).tidy
  have hbl := brs_len ht (by omega)
  have hfS : ∀ k, fnd S k = fnd L k := fun k => fnd_perm hok.ids hp k
  have hbr : brs S = benP S 65 0 0 ++ orQ L S S := by
    rw [brs_ben ht (by omega)]
    unfold orQ orphs
    simp only [hfS]
  have hle : (benP S 65 0 0).length + (orQ L S S).length ≤ 64 := by rw [← List.length_append, ← hbr]; omega
  rw [hS, hbr]
  have HR := hide h
  have HB0 := hide (refBen_any hS hl64 65 0 0 (by omega) (by omega) h (by omega))
  have HBN := hide (fun (k : Int) {w : World} {g : Nat} (h : RfIs w g tr L) hl => refBen_any hS hl64 64 k 1 (by omega) (by omega) h hl)
  have HSRT := hide (fun (w : World) (v : Value) (h : Sps w v L) => refSort_any h (by omega))
  rw [hS] at HSRT
  have HFN := hide (fun (k : Int) {w : World} {g : Nat} (h : RfIs w g tr L) => refFind_any h k)
  have HLE := hide hle
  have hS64 : S.length ≤ 64 := by omega
  clear hok hp hSl ht hbl hfS hbr hle hS
  obtain ⟨_, vL, c1, hvL⟩ := h
  obtain ⟨pL, nL, cL, rfl⟩ := hvL.sl
  clear hvL c1
  go_enter Tryz.func69, Tryz.ntmps69
  go_wp2_with fail
  refine HB0.out.mono ?_
  rintro e1 w1 ⟨v1, rfl, ho1, hb1⟩
  obtain ⟨p1, n1, cc1, rfl⟩ := ho1.brs.sl
  have hR1 := HR.out.below hb1
  obtain ⟨_, vL1, c1, hvL1⟩ := hR1
  obtain ⟨pL, nL, cL, rfl⟩ := hvL1.sl
  have H1 := hide (And.intro ho1 (And.intro hb1 (HR.out.below hb1)))
  have HS1 := hide (HSRT.out _ _ hvL1)
  clear ho1 hb1 hvL1
  go_wp2_with fail
  refine HS1.out.mono ?_
  rintro e2 w2 ⟨v2, rfl, ho2, hb2⟩
  obtain ⟨pS, nS, cS, rfl⟩ := ho2.sps.sl
  obtain rfl : nS = S.length := ho2.sps.len.1
  have hne2 : S = [] ∨ ∀ k, (Value.slice pS S.length cS).ownBlock = some k → (Value.slice p1 n1 cc1).ownBlock ≠ some k := .inr fun k hk e => by
    have h1 := (H1.out.1.lt k e).2
    have h2 := (ho2.lt k hk).1
    omega
  have H2 := hide (And.intro (And.intro ho2.sps hne2) (And.intro (H1.out.1.below hb2) (And.intro (H1.out.2.1.trans (hb2.mono H1.out.2.1.size)) (H1.out.2.2.below hb2))))
  clear ho2 hb2 c1 hne2
  go_wp2_with fail
  go_loopw [3, 5, 6, 7, 16] (fun v3 _ _ _ ix wr => ∃ (j : Nat) (p : Option Addr) (n c : Nat), v3 = .slice p n c ∧ j ≤ S.length ∧ ix = .int .i64 j ∧ Hid (OwnB w.heap.size wr (.slice p n c) (benP S 65 0 0 ++ orQ L S (S.take j)) ∧ Ext2 w2 (.slice p1 n1 cc1) wr (.slice p n c))) (fun _ _ _ _ ix _ => S.length - (intOf ix).toNat)
  case atStart =>
    refine ⟨0, p1, n1, cc1, rfl, by omega, rfl, hide ⟨?_, Ext2.refl _ _⟩⟩
    rw [List.take_zero, show orQ L S [] = [] from rfl, List.append_nil]
    exact H2.out.2.1
  case round =>
    obtain ⟨j, p, n, c, rfl, hj, rfl, HJ⟩ := hrel
    have hown : ∀ k, (Value.slice p1 n1 cc1).ownBlock = some k → w.heap.size ≤ k := fun k hk => (H2.out.2.1.lt k hk).1
    have hsz2 := H2.out.2.2.1.size
    have hbw := H2.out.2.2.1.grown HJ.out.2.1 hsz2 hown
    have HBW := hide (And.intro hown (And.intro hsz2 hbw))
    clear hown hsz2 hbw
    by_cases hlt : (j : Int) < (S.length : Int)
    · have hS := H2.out.1.1.grown HJ.out.2.1 H2.out.1.2
      have hR := HR.out.below HBW.out.2.2
      obtain ⟨gv, ov, rfl, hx⟩ := hS.at_ (by omega)
      obtain ⟨x, hxk⟩ : ∃ x, S[j]? = some x := ⟨_, List.getElem?_eq_getElem (by omega)⟩
      have hat := hx j x hxk
      obtain ⟨oo, hoo⟩ : ∃ oo, ov + j * 6 = oo := ⟨_, rfl⟩
      rw [hoo] at hat
      have z0 := hat.c0
      have z1 := hat.c1
      have z2 := hat.c2
      have z3 := hat.c3
      have z4 := hat.c4
      have z5 := hat.c5
      have htk : S.take (j + 1) = S.take j ++ [x] := by rw [List.take_add_one, hxk]; rfl
      have hnew := spAt_new wr x
      have hbx := (Below.refl wr.heap.size wr).alloc (Nat.le_refl _) (.cells #[.int .i64 x.t, .int .i64 x.i, .int .i64 x.p, .int .i64 x.s, .int .i64 x.e, .string x.n] 38)
      have hFD := refFind_any (hR.below hbx) x.p
      have HX := hide (And.intro hnew hbx)
      have HFD := hide hFD
      have HTK := hide htk
      have hle1 := orQ_le (L := L) (S := S) (j + 1)
      have HLE1 := hide hle1
      clear hx hxk hat htk hnew hbx hle1 hS hR hFD
      obtain ⟨t, i, q, s, en, nn⟩ := x
      dsimp only at *
      go_wp2_with fail
      refine HFD.out.mono ?_
      rintro e3 w3 ⟨rfl, hb3⟩
      obtain ⟨u, hu⟩ : ∃ u, (fnd L q).getD sp0 = u := ⟨_, rfl⟩
      rw [hu]
      have hx3 := HX.out.1.below hb3
      have hb4 := (Below.refl w3.heap.size w3).alloc (Nat.le_refl _) (.cells #[.int .i64 u.t, .int .i64 u.i, .int .i64 u.p, .int .i64 u.s, .int .i64 u.e, .string u.n] 38)
      have hx4 := hx3.below hb4
      have he4 := (HJ.out.2.trans (Ext2.below (.slice p n c) HX.out.2)).trans ((Ext2.below (.slice p n c) hb3).trans (Ext2.below (.slice p n c) hb4))
      have ho4 := ((HJ.out.1.below HX.out.2).below hb3).below hb4
      have x1 := hx4.c1
      have x2 := hx4.c2
      have x0 := hx4.c0
      have x3 := hx4.c3
      have x4 := hx4.c4
      have x5 := hx4.c5
      dsimp only [Nat.zero_add] at x1 x2 x0 x3 x4 x5
      have H4 := hide (And.intro he4 (And.intro ho4 hx4))
      clear hb3 hx3 hb4 hx4 he4 ho4 hu
      unfold spV
      obtain ⟨b, hb⟩ : ∃ b, (fnd L q).isSome = b := ⟨_, rfl⟩
      rw [hb]
      have H4B := hide hb
      have hpn : ∀ k, (Value.slice p n c).ownBlock = some k → k < wr.heap.size := fun k hk => (HJ.out.1.lt k hk).2
      have HPN := hide hpn
      clear hb hpn
      by_cases hno : q = 0 ∨ b = true
      · have hstep := orQ_no (L := L) (S := S) (P := S.take j) (y := ⟨t, i, q, s, en, nn⟩) (hno.imp id fun e => H4B.out.trans e)
        rw [← HTK.out] at hstep
        have HST := hide hstep
        clear hstep
        cases b
        · have hq : q = 0 := by simpa using hno
          subst hq
          clear hno
          go_wp2
          go_roundw
          case rel => exact ⟨j + 1, p, n, c, rfl, by omega, by go_num, hide ⟨by rw [HST.out]; exact H4.out.2.1, H4.out.1⟩⟩
          case measure => simp [intOf]; omega
        · clear hno
          by_cases hq : q = 0
          · subst hq
            go_wp2
            go_roundw
            case rel => exact ⟨j + 1, p, n, c, rfl, by omega, by go_num, hide ⟨by rw [HST.out]; exact H4.out.2.1, H4.out.1⟩⟩
            case measure => simp [intOf]; omega
          · have hpb : (q == 0) = false := beq_eq_false_iff_ne.2 hq
            go_wp2
            all_goals
              go_roundw
              case rel => exact ⟨j + 1, p, n, c, rfl, by omega, by go_num, hide ⟨by rw [HST.out]; exact H4.out.2.1, H4.out.1⟩⟩
              case measure => simp [intOf]; omega
      · have hq : q ≠ 0 := fun e => hno (.inl e)
        obtain rfl : b = false := by cases b <;> simp_all
        have hstep := orQ_yes (L := L) (S := S) (P := S.take j) (y := ⟨t, i, q, s, en, nn⟩) hq (by have := H4B.out; rwa [Option.isSome_eq_false_iff, Option.isNone_iff_eq_none] at this)
        rw [← HTK.out] at hstep
        dsimp only at hstep
        have hll : (benP S 65 0 0 ++ orQ L S (S.take j)).length + 1 + (benP S 64 i 1).length ≤ 1000 := by
          have h1 := HLE1.out
          have h2 := HLE.out
          rw [hstep, List.length_append, List.length_cons] at h1
          rw [List.length_append]
          omega
        have HST := hide (And.intro hstep hll)
        have hpb : (q == 0) = false := beq_eq_false_iff_ne.2 hq
        have hszw : w.heap.size ≤ w3.heap.size + 1 := by
          have h1 := HBW.out.2.1
          have h2 := H4.out.1.1.size
          have h3 : (w3.alloc (.cells #[.int .i64 u.t, .int .i64 u.i, .int .i64 u.p, .int .i64 u.s, .int .i64 u.e, .string u.n] 38)).heap.size = w3.heap.size + 1 := by simp
          omega
        have HSZ := hide hszw
        clear hstep hll hno hszw
        go_wp2_with (at_builtin; go_must (refine wpList_pushB (v := .slice p n c) rfl _ _ rfl rfl ⟨0, true, ⟨t, i, q, s, en, nn⟩⟩ rfl rfl (by simp) H4.out.2.1 (by have := HSZ.out; simp; omega) (by have := HST.out.2; omega) ?_); go_loud (intro v5 w5 ho5 he5; obtain ⟨p5, n5, c5, rfl⟩ := ho5.brs.sl; have hx5 : SpAt w5 wr.heap.size 0 ⟨t, i, q, s, en, nn⟩ := (fun a b hb => cell_ext he5 (H4.out.2.2 a b hb) (fun e => by have := HPN.out _ e; omega)); have hee := H4.out.1.trans he5; have hbw5 := H2.out.2.2.1.grown hee.1 HBW.out.2.1 HBW.out.1; have hr5 := HR.out.below hbw5; have y1 := hx5.c1; try dsimp only [Nat.zero_add] at y1; have H5 := hide (And.intro ho5 (And.intro hee (And.intro hbw5 hr5))); clear ho5 he5 hx5 hee hbw5 hr5))
        have HC := hide (HBN.out i H5.out.2.2.2 (by have := HST.out.2; omega))
        refine HC.out.mono ?_
        rintro e6 w6 ⟨v6, rfl, ho6, hb6⟩
        obtain ⟨p6, n6, c6, rfl⟩ := ho6.brs.sl
        have H6 := hide (And.intro (H5.out.1.below hb6) (And.intro ho6.brs (H5.out.2.1.trans (Ext2.below _ hb6))))
        have hsz6 : w.heap.size ≤ w6.heap.size := Nat.le_trans H5.out.2.2.1.size hb6.size
        have HSZ6 := hide hsz6
        clear ho6 hb6 hsz6 y1
        go_wp2_with (at_builtin; go_must (refine wpList_pushesE rfl _ _ rfl rfl rfl rfl H6.out.1 H6.out.2.1 HSZ6.out (by have := HST.out.2; rw [List.length_append, List.length_singleton]; omega) ?_); go_loud (intro v7 w7 ho7 he7; obtain ⟨p7, n7, c7, rfl⟩ := ho7.brs.sl; have H7 := hide (And.intro ho7 (H6.out.2.2.trans he7)); clear ho7 he7))
        go_roundw
        case rel =>
          refine ⟨j + 1, p7, n7, c7, rfl, by omega, by go_num, hide ⟨?_, H7.out.2⟩⟩
          rw [HST.out.1]
          have := H7.out.1
          simpa only [List.append_assoc, List.cons_append, List.nil_append] using this
        case measure => simp [intOf]; omega
    · have hjS : j = S.length := by omega
      subst hjS
      have hfin := HJ.out.1
      rw [List.take_length] at hfin
      have HF := hide (And.intro hfin HBW.out.2.2)
      clear hfin
      go_wp2
      go_ret
      exact ⟨_, rfl, HF.out.1, HF.out.2⟩
end Go.Proofs.YtfedkjaollioaaaGreat
