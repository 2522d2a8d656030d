/- The program's Sort and Less, the document's Less. -/
import Derived.Test.YtimjplkehlgelaaGreatSpSortF
namespace Go.Proofs.YtimjplkehlgelaaGreat
set_option linter.unusedVariables false
set_option linter.unusedSimpArgs false
open Go.RowKit Go.Sort

set_option maxRecDepth 200000 in
set_option maxHeartbeats 1000000 in
/-- span.Sort. -/
theorem sort_any {w : World} {v : Value} {l : List Sp} (hv : Sps w v l) (hl : l.length ≤ 1000000) : Calls Tryz.prog 103 #[v] w fun e w' => ∃ v', e = .returned v' ∧ OwnS w.heap.size w' v' (sortS l) ∧ Below w.heap.size w w' := by
  obtain ⟨p, n, c, rfl⟩ := hv.sl
  have HV := hide hv
  clear hv
  go_enter Tryz.func103, Tryz.ntmps103
  go_wp2_with fail
  refine (cloneSp_any HV.out hl).mono ?_
  rintro e1 w1 ⟨v1, rfl, ho1, hb1⟩
  obtain ⟨p1, n1, c1, rfl⟩ := ho1.sps.sl
  have HO := hide ho1
  have HB := hide hb1
  clear ho1 hb1
  go_wp2_with fail
  refine (sortFunc_any HO.out hl).mono ?_
  rintro e2 w2 ⟨rfl, ho2, hg2⟩
  have HO2 := hide ho2
  have HG2 := hide hg2
  clear ho2 hg2
  go_wp2
  go_ret
  exact ⟨_, rfl, HO2.out, HB.out.grown HG2.out HB.out.size (fun k hk => (HO.out.lt k hk).1)⟩

theorem bel_drewN' {B : Nat} {w V : World} (h : RowKit.Below B w V) (q : Nat) : RowKit.Below B w (V.drewN q) := ⟨h.os, h.tape, h.output, h.size, h.block⟩
theorem below_growB {B : Nat} {w V : World} (h : RowKit.Below B w V) (hB : B ≤ V.heap.size) (os : Array Obj) : RowKit.Below B w (grow V os) :=
  ⟨h.os, h.tape, h.output, by
    show _ ≤ (V.heap ++ os).size
    have := h.size
    rw [Array.size_append]
    omega, fun k hk => by
    show (V.heap ++ os)[k]? = _
    rw [Array.getElem?_append_left (by omega)]
    exact h.block k hk⟩

/-- Which of two rows of numbers is the lesser; if they are alike, r. -/
def lessL : List Int → List Int → Bool → Bool
  | x :: xs, y :: ys, r => if x ≠ y then decide (x < y) else lessL xs ys r
  | _, _, r => r
theorem bytesLess_eq : ∀ a b : List UInt8, Op.bytesLess a b = decide (Lib.compareBytes a b < 0)
  | [], [] => rfl
  | [], _ :: _ => rfl
  | _ :: _, [] => rfl
  | x :: a, y :: b => by
    have ih := bytesLess_eq a b
    simp only [Op.bytesLess, Lib.compareBytes, ih]
    by_cases h1 : x < y
    · simp [h1]
    · by_cases h2 : y < x
      · have h3 : ¬ x = y := by rintro rfl; exact h1 h2
        simp [h1, h2, h3]
      · have h3 : x = y := UInt8.le_antisymm (UInt8.not_lt.1 h2) (UInt8.not_lt.1 h1)
        simp [h1, h2, h3]
theorem lessL_ltS (x y : Sp) : ltS x y = lessL [x.t, x.s, x.i, x.p, x.e] [y.t, y.s, y.i, y.p, y.e] (Op.bytesLess x.n.toList y.n.toList) := by
  rw [bytesLess_eq, ByteArray.toList_eq, ByteArray.toList_eq]
  unfold ltS cmpS lexC lessL lessL lessL lessL lessL lessL
  dsimp only [Sp.nl]
  have key : ∀ a b : Int, (Lib.compareInt a b ≠ 0 ↔ a ≠ b) ∧ (Lib.compareInt a b < 0 ↔ a < b) := fun a b => by
    unfold Lib.compareInt
    (repeat' split) <;> constructor <;> constructor <;> intro h <;> omega
  simp only [(key _ _).1]
  (repeat' split) <;> first | rfl | (rw [decide_eq_decide]; exact (key _ _).2)
theorem lessL_drop {xs ys : List Int} {k : Nat} {x y : Int} (hx : xs[k]? = some x) (hy : ys[k]? = some y) (r : Bool) : lessL (xs.drop k) (ys.drop k) r = if x ≠ y then decide (x < y) else lessL (xs.drop (k + 1)) (ys.drop (k + 1)) r := by
  have hk := (List.getElem?_eq_some_iff.1 hx).1
  have hk' := (List.getElem?_eq_some_iff.1 hy).1
  rw [List.drop_eq_getElem_cons hk, List.drop_eq_getElem_cons hk']
  rw [List.getElem?_eq_getElem hk] at hx
  rw [List.getElem?_eq_getElem hk'] at hy
  injection hx with hx
  injection hy with hy
  rw [hx, hy]
  rfl

set_option maxRecDepth 200000 in
set_option maxHeartbeats 2000000 in
/-- The document's Less. -/
theorem refLess_any (x y : Sp) (w : World) : Calls Tryz.prog 95 #[spV x, spV y] w fun e w' => e = .returned (.bool (ltS x y)) ∧ Below w.heap.size w w' := by
  obtain ⟨t, i, p, s, e, n⟩ := x
  obtain ⟨t', i', p', s', e', n'⟩ := y
  rw [lessL_ltS]
  have b1 := (Below.refl w.heap.size w).alloc (Nat.le_refl _) (.cells #[.int .i64 t, .int .i64 i, .int .i64 p, .int .i64 s, .int .i64 e, .string n] 38)
  have b2 := b1.alloc b1.size (.cells #[.int .i64 t', .int .i64 i', .int .i64 p', .int .i64 s', .int .i64 e', .string n'] 38)
  have b3 := b2.alloc b2.size (.cells #[.int .i64 t, .int .i64 s, .int .i64 i, .int .i64 p, .int .i64 e] 3)
  have b4 := b3.alloc b3.size (.cells #[.int .i64 t', .int .i64 s', .int .i64 i', .int .i64 p', .int .i64 e'] 3)
  have s1 : (w.alloc (.cells #[.int .i64 t, .int .i64 i, .int .i64 p, .int .i64 s, .int .i64 e, .string n] 38)).heap.size = w.heap.size + 1 := by simp
  have s2 : ((w.alloc (.cells #[.int .i64 t, .int .i64 i, .int .i64 p, .int .i64 s, .int .i64 e, .string n] 38)).alloc (.cells #[.int .i64 t', .int .i64 i', .int .i64 p', .int .i64 s', .int .i64 e', .string n'] 38)).heap.size = w.heap.size + 1 + 1 := by simp
  have s3 : (((w.alloc (.cells #[.int .i64 t, .int .i64 i, .int .i64 p, .int .i64 s, .int .i64 e, .string n] 38)).alloc (.cells #[.int .i64 t', .int .i64 i', .int .i64 p', .int .i64 s', .int .i64 e', .string n'] 38)).alloc (.cells #[.int .i64 t, .int .i64 s, .int .i64 i, .int .i64 p, .int .i64 e] 3)).heap.size = w.heap.size + 1 + 1 + 1 := by simp
  have o1 := spAt_new w ⟨t, i, p, s, e, n⟩
  have o2 := spAt_new (w.alloc (.cells #[.int .i64 t, .int .i64 i, .int .i64 p, .int .i64 s, .int .i64 e, .string n] 38)) ⟨t', i', p', s', e', n'⟩
  have o3 := heap_alloc_new ((w.alloc (.cells #[.int .i64 t, .int .i64 i, .int .i64 p, .int .i64 s, .int .i64 e, .string n] 38)).alloc (.cells #[.int .i64 t', .int .i64 i', .int .i64 p', .int .i64 s', .int .i64 e', .string n'] 38)) (.cells #[.int .i64 t, .int .i64 s, .int .i64 i, .int .i64 p, .int .i64 e] 3)
  have o4 := heap_alloc_new (((w.alloc (.cells #[.int .i64 t, .int .i64 i, .int .i64 p, .int .i64 s, .int .i64 e, .string n] 38)).alloc (.cells #[.int .i64 t', .int .i64 i', .int .i64 p', .int .i64 s', .int .i64 e', .string n'] 38)).alloc (.cells #[.int .i64 t, .int .i64 s, .int .i64 i, .int .i64 p, .int .i64 e] 3)) (.cells #[.int .i64 t', .int .i64 s', .int .i64 i', .int .i64 p', .int .i64 e'] 3)
  rw [s1] at o2
  rw [s2] at o3
  rw [s3] at o4
  obtain ⟨Y, hY⟩ : ∃ Y, (((w.alloc (.cells #[.int .i64 t, .int .i64 i, .int .i64 p, .int .i64 s, .int .i64 e, .string n] 38)).alloc (.cells #[.int .i64 t', .int .i64 i', .int .i64 p', .int .i64 s', .int .i64 e', .string n'] 38)).alloc (.cells #[.int .i64 t, .int .i64 s, .int .i64 i, .int .i64 p, .int .i64 e] 3)).alloc (.cells #[.int .i64 t', .int .i64 s', .int .i64 i', .int .i64 p', .int .i64 e'] 3) = Y := ⟨_, rfl⟩
  rw [hY] at b4 o4
  have q1 : Y.cell? ⟨w.heap.size, 5, none⟩ = some (.string n) := by
    rw [← hY]
    exact Lib.cell?_alloc_some _ (Lib.cell?_alloc_some _ (Lib.cell?_alloc_some _ o1.c5))
  have q2 : Y.cell? ⟨w.heap.size + 1, 5, none⟩ = some (.string n') := by
    rw [← hY]
    exact Lib.cell?_alloc_some _ (Lib.cell?_alloc_some _ o2.c5)
  have q3 : ∀ (k : Nat) z, [t, s, i, p, e][k]? = some z → Y.cell? ⟨w.heap.size + 1 + 1, k, none⟩ = some (.int .i64 z) := fun k z hk => by
    rw [← hY]
    refine Lib.cell?_alloc_some _ ?_
    rw [cell_of_row _ (w.heap.size + 1 + 1) k _ 3 (0, 0) o3]
    match k, hk with
    | 0, hk => simp at hk; subst hk; rfl
    | 1, hk => simp at hk; subst hk; rfl
    | 2, hk => simp at hk; subst hk; rfl
    | 3, hk => simp at hk; subst hk; rfl
    | 4, hk => simp at hk; subst hk; rfl
  have q4 : ∀ (k : Nat) z, [t', s', i', p', e'][k]? = some z → Y.cell? ⟨w.heap.size + 1 + 1 + 1, k, none⟩ = some (.int .i64 z) := fun k z hk => by
    rw [cell_of_row _ (w.heap.size + 1 + 1 + 1) k _ 3 (0, 0) o4]
    match k, hk with
    | 0, hk => simp at hk; subst hk; rfl
    | 1, hk => simp at hk; subst hk; rfl
    | 2, hk => simp at hk; subst hk; rfl
    | 3, hk => simp at hk; subst hk; rfl
    | 4, hk => simp at hk; subst hk; rfl
  have Q3 := hide q3
  have Q4 := hide q4
  have QN := hide (And.intro q1 q2)
  have HB := hide b4
  clear b1 b2 b3 b4 s1 s2 s3 o1 o2 o3 o4 q1 q2 q3 q4
  obtain ⟨lb, hlb⟩ : ∃ lb, Op.bytesLess n.toList n'.toList = lb := ⟨_, rfl⟩
  obtain ⟨R, hR⟩ : ∃ R, lessL [t, s, i, p, e] [t', s', i', p', e'] lb = R := ⟨_, rfl⟩
  dsimp only
  rw [hlb, hR]
  have HR := hide hR
  clear hR
  unfold spV
  dsimp only
  go_enter Tryz.func95, Tryz.ntmps95
  go_wp2_with fail
  clear hY
  go_loopw [7, 32] (fun _ c wr => ∃ k q : Nat, k ≤ 5 ∧ c = .int .i64 k ∧ wr = Y.drewN q ∧ Hid (lessL ([t, s, i, p, e].drop k) ([t', s', i', p', e'].drop k) lb = R)) (fun _ c _ => 5 - (intOf c).toNat)
  case atStart => exact ⟨0, 0, by omega, rfl, rfl, hide HR.out⟩
  case round =>
    obtain ⟨k, q, hk, rfl, rfl, H⟩ := hrel
    by_cases hlt : (k : Int) < 5
    · obtain ⟨a, ha⟩ : ∃ a, [t, s, i, p, e][k]? = some a := ⟨_, List.getElem?_eq_getElem (by simp; omega)⟩
      obtain ⟨b, hb⟩ : ∃ a, [t', s', i', p', e'][k]? = some a := ⟨_, List.getElem?_eq_getElem (by simp; omega)⟩
      obtain ⟨V, hV⟩ : ∃ V, Y.drewN q = V := ⟨_, rfl⟩
      have c1 : V.cell? ⟨w.heap.size + 1 + 1, k, none⟩ = some (.int .i64 a) := by rw [← hV]; exact Q3.out k a ha
      have c2 : V.cell? ⟨w.heap.size + 1 + 1 + 1, k, none⟩ = some (.int .i64 b) := by rw [← hV]; exact Q4.out k b hb
      have HD := hide ((lessL_drop ha hb lb).symm.trans H.out)
      have HV := hide hV
      have hBV : Hid (RowKit.Below w.heap.size w V) := hide (by rw [← hV]; exact bel_drewN' HB.out q)
      rw [hV]
      clear ha hb H hV
      by_cases hab : a = b
      · subst hab
        go_wp2_with fail
        go_quiet (fail)
        go_wp2
        go_roundw
        case rel => exact ⟨k + 1, q + nq, by omega, by go_num, by rw [← HV.out, World.drewN_drewN], hide (by have := HD.out; rwa [if_neg (by simp)] at this)⟩
        case measure => simp [intOf]; omega
      · have hR2 : R = decide (a < b) := by rw [← HD.out, if_pos hab]
        have HR2 := hide hR2
        clear hR2
        have c1q := fun q => (show (V.drewN q).cell? ⟨w.heap.size + 1 + 1, k, none⟩ = some (.int .i64 a) from c1)
        have c2q := fun q => (show (V.drewN q).cell? ⟨w.heap.size + 1 + 1 + 1, k, none⟩ = some (.int .i64 b) from c2)
        go_wp2_with fail
        go_quiet (fail)
        revert nq
        intro q1
        go_wp2_with fail
        go_quiet (fail)
        revert nq
        intro q2
        go_wp2
        go_ret
        refine ⟨by rw [HR2.out]; rfl, ?_⟩
        first | exact bel_drewN' (bel_drewN' hBV.out q1) q2 | exact bel_drewN' hBV.out (q1 + q2) | exact bel_drewN' hBV.out _
    · have hk5 : k = 5 := by omega
      subst hk5
      have hRl : R = lb := H.out.symm
      have HRL := hide hRl
      obtain ⟨V, hV⟩ : ∃ V, Y.drewN q = V := ⟨_, rfl⟩
      have d1 : V.cell? ⟨w.heap.size, 5, none⟩ = some (.string n) := by rw [← hV]; exact QN.out.1
      have d2 : V.cell? ⟨w.heap.size + 1, 5, none⟩ = some (.string n') := by rw [← hV]; exact QN.out.2
      have hBV : Hid (RowKit.Below w.heap.size w V) := hide (by rw [← hV]; exact bel_drewN' HB.out q)
      rw [hV]
      clear hV hRl H
      go_wp2
      go_ret
      exact ⟨by rw [HRL.out]; rfl, hBV.out⟩
end Go.Proofs.YtimjplkehlgelaaGreat
