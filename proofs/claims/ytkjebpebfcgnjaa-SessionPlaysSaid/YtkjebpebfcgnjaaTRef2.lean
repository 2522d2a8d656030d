/- The document's table in memory; place, Ask. -/
import Derived.Test.YtkjebpebfcgnjaaTLawEnds
namespace Go.Proofs.Ytkjebpebfcgnjaa
set_option linter.unusedVariables false
set_option linter.unusedSimpArgs false
open Go.RowKit

/-- The document's table in the block gx, its sessions in the slice v. -/
structure RtAt (w : World) (gx : Nat) (v : Value) (L : List St) : Prop where
  row : w.heap[gx]? = some (.cells #[v] 29 (0, 0))
  own : OwnT (gx + 1) w v L
theorem RtAt.lt {w : World} {gx : Nat} {v : Value} {L : List St} (h : RtAt w gx v L) : gx < w.heap.size := (Array.getElem?_eq_some_iff.1 h.row).1
theorem RtAt.below {w w' : World} {gx : Nat} {v : Value} {L : List St} (h : RtAt w gx v L) (hb : Below w.heap.size w w') : RtAt w' gx v L :=
  ⟨(hb.block gx h.lt).trans h.row, h.own.below hb⟩
theorem RtAt.c0 {w : World} {gx : Nat} {v : Value} {L : List St} (h : RtAt w gx v L) : w.cell? ⟨gx, 0, none⟩ = some v := by
  rw [cell_of_row w gx 0 _ 29 (0, 0) h.row]
  rfl
theorem RtAt.f0 {w : World} {gx : Nat} {v : Value} {L : List St} (h : RtAt w gx v L) : w.frozen? ⟨gx, 0, none⟩ = false := frozen_of_row w gx 0 _ 29 h.row

/-- Where a session stands. -/
def plcT (L : List St) (n : Int) : Int := if (fndT L n).isSome then ((L.findIdx fun x => x.s == n : Nat) : Int) else -1
theorem plcT_at {L : List St} {n : Int} {k : Nat} {x : St} (hk : L[k]? = some x) (hx : x.s = n) (h : ∀ j y, j < k → L[j]? = some y → y.s ≠ n) : plcT L n = k := by
  obtain ⟨hlt, rfl⟩ := List.getElem?_eq_some_iff.1 hk
  have hs : (fndT L n).isSome = true := by
    cases hf : fndT L n with
    | none => exact absurd hx (fndT_none.1 hf _ (List.getElem_mem hlt))
    | some _ => rfl
  unfold plcT
  rw [if_pos hs]
  congr 1
  refine (List.findIdx_eq hlt).2 ⟨by simpa using hx, fun j hj => ?_⟩
  have := h j _ hj (List.getElem?_eq_getElem (by omega))
  simpa using this
theorem plcT_none {L : List St} {n : Int} (h : ∀ j y, j < L.length → L[j]? = some y → y.s ≠ n) : plcT L n = -1 ∧ fndT L n = none := by
  have hf : fndT L n = none := fndT_none.2 fun x hx => by
    obtain ⟨j, hj, rfl⟩ := List.getElem_of_mem hx
    exact h j _ hj (List.getElem?_eq_getElem hj)
  exact ⟨by unfold plcT; rw [hf]; rfl, hf⟩
theorem plcT_some {L : List St} (hL : RisesT L) {n : Int} {x : St} (h : fndT L n = some x) : ∃ k, plcT L n = (k : Nat) ∧ L[k]? = some x := by
  obtain ⟨hm, hs⟩ := fndT_mem h
  obtain ⟨k, hk, rfl⟩ := List.getElem_of_mem hm
  refine ⟨k, plcT_at (List.getElem?_eq_getElem hk) hs fun j y hj hy => ?_, List.getElem?_eq_getElem hk⟩
  obtain ⟨hjl, rfl⟩ := List.getElem?_eq_some_iff.1 hy
  have := List.pairwise_iff_getElem.1 hL j k hjl hk hj
  omega
theorem plcT_no {L : List St} {n : Int} (h : fndT L n = none) : plcT L n = -1 := by unfold plcT; rw [h]; rfl

set_option maxRecDepth 200000 in
set_option maxHeartbeats 2000000 in
theorem place_any {w : World} {gx : Nat} {v : Value} {L : List St} (h : RtAt w gx v L) (hL : L.length ≤ 8) (n : Int) : Calls Try.prog 35 #[.pointer (some ⟨gx, 0, none⟩), .int .i64 n] w fun e w' => e = .returned (.int .i64 (plcT L n)) ∧ w = w' := by
  have hc0 := h.c0
  have HO := hide h.own.sts
  obtain ⟨p, m, c, rfl⟩ := h.own.sts.sl
  obtain rfl : m = L.length := h.own.sts.len.1
  obtain ⟨r, hr⟩ : ∃ r, plcT L n = r := ⟨_, rfl⟩
  rw [hr]
  have HR := hide hr
  clear h hr
  go_enter Try.func35, Try.ntmps35
  go_wp2
  go_loop [11] (fun i => ∃ k : Nat, k ≤ L.length ∧ i = .int .i64 k ∧ Hid (∀ j y, j < k → L[j]? = some y → y.s ≠ n)) (fun i => L.length - (intOf i).toNat)
  case atStart => exact ⟨0, by omega, rfl, hide fun j y hj => by omega⟩
  case round =>
    obtain ⟨k, hk, rfl, HK⟩ := hrel
    by_cases hlt : k < L.length
    · obtain ⟨y, hy⟩ : ∃ y, L[k]? = some y := ⟨_, List.getElem?_eq_getElem hlt⟩
      obtain ⟨g, o, rfl, hc⟩ := HO.out.at_ (by omega)
      have d0 := (hc k y hy).c0
      have HY := hide hy
      clear hc hy
      obtain ⟨ys, hys⟩ : ∃ ys, y.s = ys := ⟨_, rfl⟩
      rw [hys] at d0
      have HYS := hide hys
      clear hys
      by_cases he : ys = n
      · have HE : Hid (r = (k : Int)) := hide (by rw [← HR.out]; exact plcT_at HY.out (HYS.out.trans he) HK.out)
        subst he
        go_wp2
        go_ret
        exact ⟨by rw [HE.out]; rfl, rfl⟩
      · have HN : Hid (∀ j y, j < k + 1 → L[j]? = some y → y.s ≠ n) := hide fun j z hj hz => by
          rcases Nat.lt_succ_iff_lt_or_eq.1 hj with h | rfl
          · exact HK.out j z h hz
          · have := HY.out.symm.trans hz
            injection this with this
            rw [← this, HYS.out]
            exact he
        have he' : (ys == n) = false := by simpa using he
        go_wp2
        go_round
        case rel => exact ⟨k + 1, by omega, by go_num, HN⟩
        case measure => simp [intOf]; omega
    · have HE : Hid (r = -1) := hide (by rw [← HR.out]; exact (plcT_none fun j y hj hy => HK.out j y (by omega) hy).1)
      go_wp2
      go_ret
      exact ⟨by rw [HE.out]; rfl, rfl⟩

set_option maxRecDepth 200000 in
set_option maxHeartbeats 4000000 in
theorem refAsk_any {w : World} {gx : Nat} {v : Value} {L : List St} (h : RtAt w gx v L) (hT : TbOk L) {n m : Int} (hm0 : -9223372036854775808 ≤ m) (hm1 : m ≤ 9223372036854775807) : Calls Try.prog 16 #[.pointer (some ⟨gx, 0, none⟩), .int .i64 n, .int .i64 m] w (AskPost w (askT L n m)) := by
  obtain ⟨A, hA⟩ : ∃ A, w.alloc (.cells #[.int .i64 0, .int .i64 0, .int .i64 0, .int .i64 0, .int .i64 0, .int .i64 0, .int .i64 0, .int .i64 0] 34) = A := ⟨_, rfl⟩
  have hrA : A.heap[w.heap.size]? = some (.cells #[.int .i64 0, .int .i64 0, .int .i64 0, .int .i64 0, .int .i64 0, .int .i64 0, .int .i64 0, .int .i64 0] 34) := by rw [← hA]; exact heap_alloc_new w _
  have hbA : Below w.heap.size w A := by rw [← hA]; exact (Below.refl _ _).alloc (Nat.le_refl _) _
  have hA' : RtAt A gx v L := h.below hbA
  have HPL := hide (place_any hA' hT.len n)
  have HH := hide hA'
  have HRA := hide hrA
  have HBA := hide hbA
  have HOKS := hide hT
  have hgw : gx ≠ w.heap.size := by have := h.lt; omega
  have hwA : w.heap.size < A.heap.size := (Array.getElem?_eq_some_iff.1 hrA).1
  have hgA := hA'.lt
  have c0 := hA'.c0
  obtain ⟨pv, nv, cv, rfl⟩ := h.own.sts.sl
  obtain rfl : nv = L.length := h.own.sts.len.1
  have hlm := (h.own.sts.len).2
  have HA := hide hA
  have hL8 := hT.len
  clear h hT hA' hrA hbA hA hlm
  go_enter Try.func16, Try.ntmps16
  go_wp2_with fail
  rw [HA.out]
  refine HPL.out.mono ?_
  rintro e X ⟨rfl, rfl⟩
  cases hf : fndT L n with
  | none =>
    have HR : Hid (askT L n m = (rp0, false, 80)) := hide (by unfold askT; rw [hf])
    rw [plcT_no hf]
    clear hf
    have hrY := HRA.out
    have m0 := cell_of_row A w.heap.size 0 _ 34 (0, 0) hrY
    have f0 := frozen_of_row A w.heap.size 0 _ 34 hrY
    have m1 := cell_of_row A w.heap.size 1 _ 34 (0, 0) hrY
    have f1 := frozen_of_row A w.heap.size 1 _ 34 hrY
    have m2 := cell_of_row A w.heap.size 2 _ 34 (0, 0) hrY
    have f2 := frozen_of_row A w.heap.size 2 _ 34 hrY
    have m3 := cell_of_row A w.heap.size 3 _ 34 (0, 0) hrY
    have f3 := frozen_of_row A w.heap.size 3 _ 34 hrY
    have m4 := cell_of_row A w.heap.size 4 _ 34 (0, 0) hrY
    have f4 := frozen_of_row A w.heap.size 4 _ 34 hrY
    have m5 := cell_of_row A w.heap.size 5 _ 34 (0, 0) hrY
    have f5 := frozen_of_row A w.heap.size 5 _ 34 hrY
    have m6 := cell_of_row A w.heap.size 6 _ 34 (0, 0) hrY
    have f6 := frozen_of_row A w.heap.size 6 _ 34 hrY
    have m7 := cell_of_row A w.heap.size 7 _ 34 (0, 0) hrY
    have f7 := frozen_of_row A w.heap.size 7 _ 34 hrY
    simp at m0 m1 m2 m3 m4 m5 m6 m7
    have HRY := hide hrY
    have HBY := HBA
    clear hrY
    go_wp2
    have hs8 := set8 A w.heap.size 34 _ _ _ _ _ _ _ _ (.int .i64 0) (.int .i64 0) (.int .i64 0) (.int .i64 0) (.int .i64 0) (.int .i64 0) (.int .i64 0) (.int .i64 0) HRY.out
    have hb8 := bset8 (.int .i64 0) (.int .i64 0) (.int .i64 0) (.int .i64 0) (.int .i64 0) (.int .i64 0) (.int .i64 0) (.int .i64 0) HBY.out (Nat.le_refl _)
    obtain ⟨W9, hW9⟩ : ∃ W9, ((((((((A.setCell ⟨w.heap.size, 0, none⟩ (.int .i64 0)).setCell ⟨w.heap.size, 1, none⟩ (.int .i64 0)).setCell ⟨w.heap.size, 2, none⟩ (.int .i64 0)).setCell ⟨w.heap.size, 3, none⟩ (.int .i64 0)).setCell ⟨w.heap.size, 4, none⟩ (.int .i64 0)).setCell ⟨w.heap.size, 5, none⟩ (.int .i64 0)).setCell ⟨w.heap.size, 6, none⟩ (.int .i64 0)).setCell ⟨w.heap.size, 7, none⟩ (.int .i64 0)) = W9 := ⟨_, rfl⟩
    rw [hW9] at hs8 hb8 ⊢
    clear hW9
    have n0 : W9.cell? ⟨w.heap.size, 0, none⟩ = some (.int .i64 0) := cell_of_row W9 w.heap.size 0 _ 34 (0, 0) hs8
    have n1 : W9.cell? ⟨w.heap.size, 1, none⟩ = some (.int .i64 0) := cell_of_row W9 w.heap.size 1 _ 34 (0, 0) hs8
    have n2 : W9.cell? ⟨w.heap.size, 2, none⟩ = some (.int .i64 0) := cell_of_row W9 w.heap.size 2 _ 34 (0, 0) hs8
    have n3 : W9.cell? ⟨w.heap.size, 3, none⟩ = some (.int .i64 0) := cell_of_row W9 w.heap.size 3 _ 34 (0, 0) hs8
    have n4 : W9.cell? ⟨w.heap.size, 4, none⟩ = some (.int .i64 0) := cell_of_row W9 w.heap.size 4 _ 34 (0, 0) hs8
    have n5 : W9.cell? ⟨w.heap.size, 5, none⟩ = some (.int .i64 0) := cell_of_row W9 w.heap.size 5 _ 34 (0, 0) hs8
    have n6 : W9.cell? ⟨w.heap.size, 6, none⟩ = some (.int .i64 0) := cell_of_row W9 w.heap.size 6 _ 34 (0, 0) hs8
    have n7 : W9.cell? ⟨w.heap.size, 7, none⟩ = some (.int .i64 0) := cell_of_row W9 w.heap.size 7 _ 34 (0, 0) hs8
    have hz9 : w.heap.size < W9.heap.size := lt_of_cell n0
    clear hs8
    rw [HR.out]
    refine bodyPost_ret (v := .tuple #[.agg #[.int .i64 0, .int .i64 0, .int .i64 0, .int .i64 0, .int .i64 0, .int .i64 0, .int .i64 0, .int .i64 0], .bool false, .int .i64 80]) (by simp [results, Try.results16, go_sem, n0, n1, n2, n3, n4, n5, n6, n7, hz9]) rfl ⟨rfl, hb8⟩
  | some u =>
    obtain ⟨k, hk, hku⟩ := plcT_some HOKS.out.rises hf
    have HF := hide hf
    have huo := (St.ok_iff.1 (HOKS.out.ok u (fndT_mem hf).1)).2.1
    have hkl : k < L.length := (List.getElem?_eq_some_iff.1 hku).1
    obtain ⟨gv, o, rfl, hc⟩ := HH.out.own.sts.at_ (by omega)
    obtain ⟨d0, d1, d2, d3, d4, d5, d6, d7, d8, d9, d10⟩ := (hc k u hku).all
    obtain ⟨s, q, a, ⟨e1, e2, e3, e4, e5, e6, e7, e8⟩⟩ := u
    dsimp only at d0 d1 d2 d3 d4 d5 d6 d7 d8 d9 d10 huo
    obtain ⟨hq0, hq1⟩ := huo
    rw [hk]
    obtain ⟨Y, hY⟩ : ∃ Y, A.alloc (.cells #[.int .i64 s, .int .i64 q, .int .i64 a, .int .i64 e1, .int .i64 e2, .int .i64 e3, .int .i64 e4, .int .i64 e5, .int .i64 e6, .int .i64 e7, .int .i64 e8] 60) = Y := ⟨_, rfl⟩
    have hrY : Y.heap[w.heap.size]? = some (.cells #[.int .i64 0, .int .i64 0, .int .i64 0, .int .i64 0, .int .i64 0, .int .i64 0, .int .i64 0, .int .i64 0] 34) := by
      rw [← hY]
      exact (Below.heap_alloc A _ _ hwA).trans HRA.out
    have hbY : Below w.heap.size w Y := by rw [← hY]; exact HBA.out.alloc HBA.out.size _
    have hcY : ∀ i v, #[Value.int .i64 s, .int .i64 q, .int .i64 a, .int .i64 e1, .int .i64 e2, .int .i64 e3, .int .i64 e4, .int .i64 e5, .int .i64 e6, .int .i64 e7, .int .i64 e8][i]? = some v → Y.cell? ⟨A.heap.size, i, none⟩ = some v := fun i v hi => by rw [← hY, World.cell?_alloc_new]; exact hi
    have y1 : Y.cell? ⟨A.heap.size, 1, none⟩ = some (.int .i64 q) := hcY 1 _ rfl
    have y3 : Y.cell? ⟨A.heap.size, 3, none⟩ = some (.int .i64 e1) := hcY 3 _ rfl
    have y4 : Y.cell? ⟨A.heap.size, 4, none⟩ = some (.int .i64 e2) := hcY 4 _ rfl
    have y5 : Y.cell? ⟨A.heap.size, 5, none⟩ = some (.int .i64 e3) := hcY 5 _ rfl
    have y6 : Y.cell? ⟨A.heap.size, 6, none⟩ = some (.int .i64 e4) := hcY 6 _ rfl
    have y7 : Y.cell? ⟨A.heap.size, 7, none⟩ = some (.int .i64 e5) := hcY 7 _ rfl
    have y8 : Y.cell? ⟨A.heap.size, 8, none⟩ = some (.int .i64 e6) := hcY 8 _ rfl
    have y9 : Y.cell? ⟨A.heap.size, 9, none⟩ = some (.int .i64 e7) := hcY 9 _ rfl
    have y10 : Y.cell? ⟨A.heap.size, 10, none⟩ = some (.int .i64 e8) := hcY 10 _ rfl
    have m0 := cell_of_row Y w.heap.size 0 _ 34 (0, 0) hrY
    have f0 := frozen_of_row Y w.heap.size 0 _ 34 hrY
    have m1 := cell_of_row Y w.heap.size 1 _ 34 (0, 0) hrY
    have f1 := frozen_of_row Y w.heap.size 1 _ 34 hrY
    have m2 := cell_of_row Y w.heap.size 2 _ 34 (0, 0) hrY
    have f2 := frozen_of_row Y w.heap.size 2 _ 34 hrY
    have m3 := cell_of_row Y w.heap.size 3 _ 34 (0, 0) hrY
    have f3 := frozen_of_row Y w.heap.size 3 _ 34 hrY
    have m4 := cell_of_row Y w.heap.size 4 _ 34 (0, 0) hrY
    have f4 := frozen_of_row Y w.heap.size 4 _ 34 hrY
    have m5 := cell_of_row Y w.heap.size 5 _ 34 (0, 0) hrY
    have f5 := frozen_of_row Y w.heap.size 5 _ 34 hrY
    have m6 := cell_of_row Y w.heap.size 6 _ 34 (0, 0) hrY
    have f6 := frozen_of_row Y w.heap.size 6 _ 34 hrY
    have m7 := cell_of_row Y w.heap.size 7 _ 34 (0, 0) hrY
    have f7 := frozen_of_row Y w.heap.size 7 _ 34 hrY
    simp at m0 m1 m2 m3 m4 m5 m6 m7
    have HRY := hide hrY
    have HBY := hide hbY
    have hkm : (k : Int) ≤ 8 := by omega
    clear hcY hrY hbY hc hk hku hf
    by_cases h1 : m < q
    · have HR : Hid (askT L n m = (rp0, false, 81)) := hide (by unfold askT; rw [HF.out]; dsimp only; rw [if_pos (.inl h1)])
      go_wp2
      have hs8 := set8 Y w.heap.size 34 _ _ _ _ _ _ _ _ (.int .i64 0) (.int .i64 0) (.int .i64 0) (.int .i64 0) (.int .i64 0) (.int .i64 0) (.int .i64 0) (.int .i64 0) HRY.out
      have hb8 := bset8 (.int .i64 0) (.int .i64 0) (.int .i64 0) (.int .i64 0) (.int .i64 0) (.int .i64 0) (.int .i64 0) (.int .i64 0) HBY.out (Nat.le_refl _)
      obtain ⟨W9, hW9⟩ : ∃ W9, ((((((((Y.setCell ⟨w.heap.size, 0, none⟩ (.int .i64 0)).setCell ⟨w.heap.size, 1, none⟩ (.int .i64 0)).setCell ⟨w.heap.size, 2, none⟩ (.int .i64 0)).setCell ⟨w.heap.size, 3, none⟩ (.int .i64 0)).setCell ⟨w.heap.size, 4, none⟩ (.int .i64 0)).setCell ⟨w.heap.size, 5, none⟩ (.int .i64 0)).setCell ⟨w.heap.size, 6, none⟩ (.int .i64 0)).setCell ⟨w.heap.size, 7, none⟩ (.int .i64 0)) = W9 := ⟨_, rfl⟩
      rw [hW9] at hs8 hb8 ⊢
      clear hW9
      have n0 : W9.cell? ⟨w.heap.size, 0, none⟩ = some (.int .i64 0) := cell_of_row W9 w.heap.size 0 _ 34 (0, 0) hs8
      have n1 : W9.cell? ⟨w.heap.size, 1, none⟩ = some (.int .i64 0) := cell_of_row W9 w.heap.size 1 _ 34 (0, 0) hs8
      have n2 : W9.cell? ⟨w.heap.size, 2, none⟩ = some (.int .i64 0) := cell_of_row W9 w.heap.size 2 _ 34 (0, 0) hs8
      have n3 : W9.cell? ⟨w.heap.size, 3, none⟩ = some (.int .i64 0) := cell_of_row W9 w.heap.size 3 _ 34 (0, 0) hs8
      have n4 : W9.cell? ⟨w.heap.size, 4, none⟩ = some (.int .i64 0) := cell_of_row W9 w.heap.size 4 _ 34 (0, 0) hs8
      have n5 : W9.cell? ⟨w.heap.size, 5, none⟩ = some (.int .i64 0) := cell_of_row W9 w.heap.size 5 _ 34 (0, 0) hs8
      have n6 : W9.cell? ⟨w.heap.size, 6, none⟩ = some (.int .i64 0) := cell_of_row W9 w.heap.size 6 _ 34 (0, 0) hs8
      have n7 : W9.cell? ⟨w.heap.size, 7, none⟩ = some (.int .i64 0) := cell_of_row W9 w.heap.size 7 _ 34 (0, 0) hs8
      have hz9 : w.heap.size < W9.heap.size := lt_of_cell n0
      clear hs8
      rw [HR.out]
      refine bodyPost_ret (v := .tuple #[.agg #[.int .i64 0, .int .i64 0, .int .i64 0, .int .i64 0, .int .i64 0, .int .i64 0, .int .i64 0, .int .i64 0], .bool false, .int .i64 81]) (by simp [results, Try.results16, go_sem, n0, n1, n2, n3, n4, n5, n6, n7, hz9]) rfl ⟨rfl, hb8⟩
    · by_cases h2 : m < 1
      · have HR : Hid (askT L n m = (rp0, false, 81)) := hide (by unfold askT; rw [HF.out]; dsimp only; rw [if_pos (.inr h2)])
        go_wp2
        have hs8 := set8 Y w.heap.size 34 _ _ _ _ _ _ _ _ (.int .i64 0) (.int .i64 0) (.int .i64 0) (.int .i64 0) (.int .i64 0) (.int .i64 0) (.int .i64 0) (.int .i64 0) HRY.out
        have hb8 := bset8 (.int .i64 0) (.int .i64 0) (.int .i64 0) (.int .i64 0) (.int .i64 0) (.int .i64 0) (.int .i64 0) (.int .i64 0) HBY.out (Nat.le_refl _)
        obtain ⟨W9, hW9⟩ : ∃ W9, ((((((((Y.setCell ⟨w.heap.size, 0, none⟩ (.int .i64 0)).setCell ⟨w.heap.size, 1, none⟩ (.int .i64 0)).setCell ⟨w.heap.size, 2, none⟩ (.int .i64 0)).setCell ⟨w.heap.size, 3, none⟩ (.int .i64 0)).setCell ⟨w.heap.size, 4, none⟩ (.int .i64 0)).setCell ⟨w.heap.size, 5, none⟩ (.int .i64 0)).setCell ⟨w.heap.size, 6, none⟩ (.int .i64 0)).setCell ⟨w.heap.size, 7, none⟩ (.int .i64 0)) = W9 := ⟨_, rfl⟩
        rw [hW9] at hs8 hb8 ⊢
        clear hW9
        have n0 : W9.cell? ⟨w.heap.size, 0, none⟩ = some (.int .i64 0) := cell_of_row W9 w.heap.size 0 _ 34 (0, 0) hs8
        have n1 : W9.cell? ⟨w.heap.size, 1, none⟩ = some (.int .i64 0) := cell_of_row W9 w.heap.size 1 _ 34 (0, 0) hs8
        have n2 : W9.cell? ⟨w.heap.size, 2, none⟩ = some (.int .i64 0) := cell_of_row W9 w.heap.size 2 _ 34 (0, 0) hs8
        have n3 : W9.cell? ⟨w.heap.size, 3, none⟩ = some (.int .i64 0) := cell_of_row W9 w.heap.size 3 _ 34 (0, 0) hs8
        have n4 : W9.cell? ⟨w.heap.size, 4, none⟩ = some (.int .i64 0) := cell_of_row W9 w.heap.size 4 _ 34 (0, 0) hs8
        have n5 : W9.cell? ⟨w.heap.size, 5, none⟩ = some (.int .i64 0) := cell_of_row W9 w.heap.size 5 _ 34 (0, 0) hs8
        have n6 : W9.cell? ⟨w.heap.size, 6, none⟩ = some (.int .i64 0) := cell_of_row W9 w.heap.size 6 _ 34 (0, 0) hs8
        have n7 : W9.cell? ⟨w.heap.size, 7, none⟩ = some (.int .i64 0) := cell_of_row W9 w.heap.size 7 _ 34 (0, 0) hs8
        have hz9 : w.heap.size < W9.heap.size := lt_of_cell n0
        clear hs8
        rw [HR.out]
        refine bodyPost_ret (v := .tuple #[.agg #[.int .i64 0, .int .i64 0, .int .i64 0, .int .i64 0, .int .i64 0, .int .i64 0, .int .i64 0, .int .i64 0], .bool false, .int .i64 81]) (by simp [results, Try.results16, go_sem, n0, n1, n2, n3, n4, n5, n6, n7, hz9]) rfl ⟨rfl, hb8⟩
      · by_cases h3 : m = q
        · have HR : Hid (askT L n m = (⟨e1, e2, e3, e4, e5, e6, e7, e8⟩, true, 0)) := hide (by unfold askT; rw [HF.out]; dsimp only; rw [if_neg (by omega), if_pos h3])
          subst h3
          go_wp2
          have hs8 := set8 Y w.heap.size 34 _ _ _ _ _ _ _ _ (.int .i64 e1) (.int .i64 e2) (.int .i64 e3) (.int .i64 e4) (.int .i64 e5) (.int .i64 e6) (.int .i64 e7) (.int .i64 e8) HRY.out
          have hb8 := bset8 (.int .i64 e1) (.int .i64 e2) (.int .i64 e3) (.int .i64 e4) (.int .i64 e5) (.int .i64 e6) (.int .i64 e7) (.int .i64 e8) HBY.out (Nat.le_refl _)
          obtain ⟨W9, hW9⟩ : ∃ W9, ((((((((Y.setCell ⟨w.heap.size, 0, none⟩ (.int .i64 e1)).setCell ⟨w.heap.size, 1, none⟩ (.int .i64 e2)).setCell ⟨w.heap.size, 2, none⟩ (.int .i64 e3)).setCell ⟨w.heap.size, 3, none⟩ (.int .i64 e4)).setCell ⟨w.heap.size, 4, none⟩ (.int .i64 e5)).setCell ⟨w.heap.size, 5, none⟩ (.int .i64 e6)).setCell ⟨w.heap.size, 6, none⟩ (.int .i64 e7)).setCell ⟨w.heap.size, 7, none⟩ (.int .i64 e8)) = W9 := ⟨_, rfl⟩
          rw [hW9] at hs8 hb8 ⊢
          clear hW9
          have n0 : W9.cell? ⟨w.heap.size, 0, none⟩ = some (.int .i64 e1) := cell_of_row W9 w.heap.size 0 _ 34 (0, 0) hs8
          have n1 : W9.cell? ⟨w.heap.size, 1, none⟩ = some (.int .i64 e2) := cell_of_row W9 w.heap.size 1 _ 34 (0, 0) hs8
          have n2 : W9.cell? ⟨w.heap.size, 2, none⟩ = some (.int .i64 e3) := cell_of_row W9 w.heap.size 2 _ 34 (0, 0) hs8
          have n3 : W9.cell? ⟨w.heap.size, 3, none⟩ = some (.int .i64 e4) := cell_of_row W9 w.heap.size 3 _ 34 (0, 0) hs8
          have n4 : W9.cell? ⟨w.heap.size, 4, none⟩ = some (.int .i64 e5) := cell_of_row W9 w.heap.size 4 _ 34 (0, 0) hs8
          have n5 : W9.cell? ⟨w.heap.size, 5, none⟩ = some (.int .i64 e6) := cell_of_row W9 w.heap.size 5 _ 34 (0, 0) hs8
          have n6 : W9.cell? ⟨w.heap.size, 6, none⟩ = some (.int .i64 e7) := cell_of_row W9 w.heap.size 6 _ 34 (0, 0) hs8
          have n7 : W9.cell? ⟨w.heap.size, 7, none⟩ = some (.int .i64 e8) := cell_of_row W9 w.heap.size 7 _ 34 (0, 0) hs8
          have hz9 : w.heap.size < W9.heap.size := lt_of_cell n0
          clear hs8
          rw [HR.out]
          refine bodyPost_ret (v := .tuple #[.agg #[.int .i64 e1, .int .i64 e2, .int .i64 e3, .int .i64 e4, .int .i64 e5, .int .i64 e6, .int .i64 e7, .int .i64 e8], .bool true, .int .i64 0]) (by simp [results, Try.results16, go_sem, n0, n1, n2, n3, n4, n5, n6, n7, hz9]) rfl ⟨rfl, hb8⟩
        · have h3' : (m == q) = false := by simpa using h3
          by_cases h4 : q + 1 < m
          · have HR : Hid (askT L n m = (rp0, false, 82)) := hide (by unfold askT; rw [HF.out]; dsimp only; rw [if_neg (by omega), if_neg h3, if_pos h4])
            go_wp2
            have hs8 := set8 Y w.heap.size 34 _ _ _ _ _ _ _ _ (.int .i64 0) (.int .i64 0) (.int .i64 0) (.int .i64 0) (.int .i64 0) (.int .i64 0) (.int .i64 0) (.int .i64 0) HRY.out
            have hb8 := bset8 (.int .i64 0) (.int .i64 0) (.int .i64 0) (.int .i64 0) (.int .i64 0) (.int .i64 0) (.int .i64 0) (.int .i64 0) HBY.out (Nat.le_refl _)
            obtain ⟨W9, hW9⟩ : ∃ W9, ((((((((Y.setCell ⟨w.heap.size, 0, none⟩ (.int .i64 0)).setCell ⟨w.heap.size, 1, none⟩ (.int .i64 0)).setCell ⟨w.heap.size, 2, none⟩ (.int .i64 0)).setCell ⟨w.heap.size, 3, none⟩ (.int .i64 0)).setCell ⟨w.heap.size, 4, none⟩ (.int .i64 0)).setCell ⟨w.heap.size, 5, none⟩ (.int .i64 0)).setCell ⟨w.heap.size, 6, none⟩ (.int .i64 0)).setCell ⟨w.heap.size, 7, none⟩ (.int .i64 0)) = W9 := ⟨_, rfl⟩
            rw [hW9] at hs8 hb8 ⊢
            clear hW9
            have n0 : W9.cell? ⟨w.heap.size, 0, none⟩ = some (.int .i64 0) := cell_of_row W9 w.heap.size 0 _ 34 (0, 0) hs8
            have n1 : W9.cell? ⟨w.heap.size, 1, none⟩ = some (.int .i64 0) := cell_of_row W9 w.heap.size 1 _ 34 (0, 0) hs8
            have n2 : W9.cell? ⟨w.heap.size, 2, none⟩ = some (.int .i64 0) := cell_of_row W9 w.heap.size 2 _ 34 (0, 0) hs8
            have n3 : W9.cell? ⟨w.heap.size, 3, none⟩ = some (.int .i64 0) := cell_of_row W9 w.heap.size 3 _ 34 (0, 0) hs8
            have n4 : W9.cell? ⟨w.heap.size, 4, none⟩ = some (.int .i64 0) := cell_of_row W9 w.heap.size 4 _ 34 (0, 0) hs8
            have n5 : W9.cell? ⟨w.heap.size, 5, none⟩ = some (.int .i64 0) := cell_of_row W9 w.heap.size 5 _ 34 (0, 0) hs8
            have n6 : W9.cell? ⟨w.heap.size, 6, none⟩ = some (.int .i64 0) := cell_of_row W9 w.heap.size 6 _ 34 (0, 0) hs8
            have n7 : W9.cell? ⟨w.heap.size, 7, none⟩ = some (.int .i64 0) := cell_of_row W9 w.heap.size 7 _ 34 (0, 0) hs8
            have hz9 : w.heap.size < W9.heap.size := lt_of_cell n0
            clear hs8
            rw [HR.out]
            refine bodyPost_ret (v := .tuple #[.agg #[.int .i64 0, .int .i64 0, .int .i64 0, .int .i64 0, .int .i64 0, .int .i64 0, .int .i64 0, .int .i64 0], .bool false, .int .i64 82]) (by simp [results, Try.results16, go_sem, n0, n1, n2, n3, n4, n5, n6, n7, hz9]) rfl ⟨rfl, hb8⟩
          · have HR : Hid (askT L n m = (rp0, false, 0)) := hide (by unfold askT; rw [HF.out]; dsimp only; rw [if_neg (by omega), if_neg h3, if_neg h4])
            go_wp2
            have hs8 := set8 Y w.heap.size 34 _ _ _ _ _ _ _ _ (.int .i64 0) (.int .i64 0) (.int .i64 0) (.int .i64 0) (.int .i64 0) (.int .i64 0) (.int .i64 0) (.int .i64 0) HRY.out
            have hb8 := bset8 (.int .i64 0) (.int .i64 0) (.int .i64 0) (.int .i64 0) (.int .i64 0) (.int .i64 0) (.int .i64 0) (.int .i64 0) HBY.out (Nat.le_refl _)
            obtain ⟨W9, hW9⟩ : ∃ W9, ((((((((Y.setCell ⟨w.heap.size, 0, none⟩ (.int .i64 0)).setCell ⟨w.heap.size, 1, none⟩ (.int .i64 0)).setCell ⟨w.heap.size, 2, none⟩ (.int .i64 0)).setCell ⟨w.heap.size, 3, none⟩ (.int .i64 0)).setCell ⟨w.heap.size, 4, none⟩ (.int .i64 0)).setCell ⟨w.heap.size, 5, none⟩ (.int .i64 0)).setCell ⟨w.heap.size, 6, none⟩ (.int .i64 0)).setCell ⟨w.heap.size, 7, none⟩ (.int .i64 0)) = W9 := ⟨_, rfl⟩
            rw [hW9] at hs8 hb8 ⊢
            clear hW9
            have n0 : W9.cell? ⟨w.heap.size, 0, none⟩ = some (.int .i64 0) := cell_of_row W9 w.heap.size 0 _ 34 (0, 0) hs8
            have n1 : W9.cell? ⟨w.heap.size, 1, none⟩ = some (.int .i64 0) := cell_of_row W9 w.heap.size 1 _ 34 (0, 0) hs8
            have n2 : W9.cell? ⟨w.heap.size, 2, none⟩ = some (.int .i64 0) := cell_of_row W9 w.heap.size 2 _ 34 (0, 0) hs8
            have n3 : W9.cell? ⟨w.heap.size, 3, none⟩ = some (.int .i64 0) := cell_of_row W9 w.heap.size 3 _ 34 (0, 0) hs8
            have n4 : W9.cell? ⟨w.heap.size, 4, none⟩ = some (.int .i64 0) := cell_of_row W9 w.heap.size 4 _ 34 (0, 0) hs8
            have n5 : W9.cell? ⟨w.heap.size, 5, none⟩ = some (.int .i64 0) := cell_of_row W9 w.heap.size 5 _ 34 (0, 0) hs8
            have n6 : W9.cell? ⟨w.heap.size, 6, none⟩ = some (.int .i64 0) := cell_of_row W9 w.heap.size 6 _ 34 (0, 0) hs8
            have n7 : W9.cell? ⟨w.heap.size, 7, none⟩ = some (.int .i64 0) := cell_of_row W9 w.heap.size 7 _ 34 (0, 0) hs8
            have hz9 : w.heap.size < W9.heap.size := lt_of_cell n0
            clear hs8
            rw [HR.out]
            refine bodyPost_ret (v := .tuple #[.agg #[.int .i64 0, .int .i64 0, .int .i64 0, .int .i64 0, .int .i64 0, .int .i64 0, .int .i64 0, .int .i64 0], .bool false, .int .i64 0]) (by simp [results, Try.results16, go_sem, n0, n1, n2, n3, n4, n5, n6, n7, hz9]) rfl ⟨rfl, hb8⟩
end Go.Proofs.Ytkjebpebfcgnjaa
