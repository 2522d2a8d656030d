/- A forest's other calls. -/
import Derived.Test.YtimjplkehlgelaaGreatFAdd
import Derived.Laws.StructEq
namespace Go.Proofs.YtimjplkehlgelaaGreat
set_option linter.unusedVariables false
set_option linter.unusedSimpArgs false
open Go.RowKit Go.Lib

set_option maxRecDepth 200000 in
set_option maxHeartbeats 1000000 in
theorem branches_any {w : World} {g b : Nat} {tr : Int} {L : List Sp} (h : FoIs w g b tr L) : Calls Tryz.prog 57 #[.pointer (some ⟨g, 0, none⟩)] w fun e w' => ∃ v', e = .returned v' ∧ OwnB w.heap.size w' v' (brs (sortS L)) ∧ Below w.heap.size w w' := by
  have HM := hide (made_any h)
  have c0 := h.c0
  obtain ⟨D, hD⟩ := h.bag
  have HT := hide (fun q => fromTop_any (hD.drewN q) h.ok)
  clear h hD
  go_enter Tryz.func57, Tryz.ntmps57
  go_wp2_with fail
  refine HM.out.mono ?_
  rintro e1 w1 ⟨rfl, q, rfl⟩
  go_wp2_with fail
  refine (HT.out q).mono ?_
  rintro e2 w2 ⟨v2, rfl, ho, hb⟩
  obtain ⟨p, n, c, rfl⟩ := ho.brs.sl
  have HO := hide (And.intro ho hb)
  clear ho hb
  go_wp2
  go_ret
  exact ⟨_, rfl, HO.out.1, (bdrew w q).trans HO.out.2⟩
set_option maxRecDepth 200000 in
set_option maxHeartbeats 1000000 in
theorem spans_any {w : World} {g b : Nat} {tr : Int} {L : List Sp} (h : FoIs w g b tr L) : Calls Tryz.prog 54 #[.pointer (some ⟨g, 0, none⟩)] w fun e w' => ∃ v', e = .returned v' ∧ OwnS w.heap.size w' v' (sortS L) ∧ Below w.heap.size w w' := by
  have HM := hide (made_any h)
  have c0 := h.c0
  obtain ⟨D, hD⟩ := h.bag
  have HT := hide (fun q => sorted_any (hD.drewN q) h.ok.len)
  clear h hD
  go_enter Tryz.func54, Tryz.ntmps54
  go_wp2_with fail
  refine HM.out.mono ?_
  rintro e1 w1 ⟨rfl, q, rfl⟩
  go_wp2_with fail
  refine (HT.out q).mono ?_
  rintro e2 w2 ⟨v2, rfl, ho, hb⟩
  obtain ⟨p, n, c, rfl⟩ := ho.sps.sl
  have HO := hide (And.intro ho hb)
  clear ho hb
  go_wp2
  go_ret
  exact ⟨_, rfl, HO.out.1, (bdrew w q).trans HO.out.2⟩
set_option maxRecDepth 200000 in
set_option maxHeartbeats 1000000 in
theorem end_any {w : World} {g b : Nat} {tr : Int} {L : List Sp} (h : FoIs w g b tr L) : Calls Tryz.prog 31 #[.pointer (some ⟨g, 0, none⟩)] w fun e w' => e = .returned (.int .i64 (endP L)) ∧ Below w.heap.size w w' := by
  have HM := hide (made_any h)
  have c0 := h.c0
  obtain ⟨D, hD⟩ := h.bag
  have HT := hide (fun q => lastEnd_any (hD.drewN q) (fun x hx => by
    obtain ⟨_, _, _, _, _, _, s1, s2, e2, _⟩ := (Sp.ok_iff x).1 (h.ok.ok x hx).1
    omega))
  clear h hD
  go_enter Tryz.func31, Tryz.ntmps31
  go_wp2_with fail
  refine HM.out.mono ?_
  rintro e1 w1 ⟨rfl, q, rfl⟩
  go_wp2_with fail
  refine (HT.out q).mono ?_
  rintro e2 w2 ⟨rfl, hb⟩
  have HO := hide hb
  clear hb
  go_wp2
  go_ret
  exact ⟨rfl, (bdrew w q).trans HO.out⟩
set_option maxRecDepth 200000 in
set_option maxHeartbeats 1000000 in
theorem fclone_any {w : World} {g b : Nat} {tr : Int} {L : List Sp} (h : FoIs w g b tr L) : Calls Tryz.prog 33 #[.pointer (some ⟨g, 0, none⟩)] w fun e w' => ∃ g' b', e = .returned (.pointer (some ⟨g', 0, none⟩)) ∧ FoIs w' g' b' tr L ∧ w.heap.size ≤ g' ∧ w.heap.size ≤ b' ∧ Below w.heap.size w w' := by
  have HM := hide (made_any h)
  have c0 := h.c0
  have c1 := h.c1
  have HF := hide h
  obtain ⟨D, hD⟩ := h.bag
  have HT := hide (fun q => AnyW.maps_Clone_owns Tryz.cloneBag 3 heldA b L.length D (w.drewN q) (hD.drewN q).map)
  have HD := hide hD
  clear h hD
  go_enter Tryz.func33, Tryz.ntmps33
  go_wp2_with fail
  refine HM.out.mono ?_
  rintro e1 w1 ⟨rfl, q, rfl⟩
  go_wp2_with fail
  obtain ⟨Y, hY⟩ : ∃ Y, w.drewN q = Y := ⟨_, rfl⟩
  have y0 : Y.cell? ⟨g, 0, none⟩ = some (.map (some b)) := by rw [← hY]; exact c0
  have y1 : Y.cell? ⟨g, 1, none⟩ = some (.int .i64 tr) := by rw [← hY]; exact c1
  have hgY : g < Y.heap.size := lt_of_cell y0
  have hsY : Y.heap.size = w.heap.size := by rw [← hY]; rfl
  have HT' := hide (fun q => by have := AnyW.maps_Clone_owns Tryz.cloneBag 3 heldA b L.length D (Y.drewN q) (by rw [← hY]; exact HD.out.map); exact this)
  have HY := hide hY
  have HSY := hide hsY
  have KEEP : Hid (∀ q w7, Below (Y.drewN q).heap.size (Y.drewN q) w7 → w7.cell? ⟨g, 0, none⟩ = some (.map (some b)) ∧ w7.cell? ⟨g, 1, none⟩ = some (.int .i64 tr)) := hide (fun q w7 hb7 => ⟨(hb7.cell (p := ⟨g, 0, none⟩) hgY).trans y0, (hb7.cell (p := ⟨g, 1, none⟩) hgY).trans y1⟩)
  rw [hY]
  clear hY c0 c1 HT HM hsY
  go_region_held3 (fun W => W.cell? ⟨g, 0, none⟩ = some (.map (some b)) ∧ W.cell? ⟨g, 1, none⟩ = some (.int .i64 tr)) (first | go_keep | exact KEEP.out 1 _ hb7 | exact KEEP.out 0 _ hb7) (first | (go_at_call 62; refine (HT'.out 1).mono ?_; rintro e7 w7 ⟨rfl, hm7, _, hb7⟩))
  have HB7 : Hid (w7.ownsMap Tryz.prog 3 heldA Y.heap.size L.length D ∧ Below Y.heap.size Y w7 ∧ Y.heap.size < w7.heap.size) := hide ⟨hm7, (show Below Y.heap.size Y Y.drew from bdrew Y 1).trans hb7, (show w7.ownsMap Tryz.prog 3 heldA Y.heap.size L.length D from hm7).lt⟩
  clear hm7 hb7
  go_wp2
  go_ret
  have hA := heap_alloc_new w7 (.cells #[.map (some Y.heap.size), .int .i64 tr] 105)
  refine ⟨w7.heap.size, Y.heap.size, rfl, ⟨cell_of_row _ _ 0 _ 105 (0, 0) hA, cell_of_row _ _ 1 _ 105 (0, 0) hA, by have := HB7.out.2.2; omega, ⟨D, ?_⟩, HF.out.ok⟩, by have := HB7.out.2.2; have := HSY.out; omega, by have := HSY.out; omega, ?_⟩
  · have : BagIs w7 Y.heap.size L D := ⟨HB7.out.1, HD.out.size, HD.out.keys, HD.out.vals, HD.out.ids⟩
    exact this.grown (World.grownBy_alloc w7 _ none) (by simp)
  · have h1 : Below w.heap.size w Y := by rw [← HY.out]; exact bdrew w q
    have h2 := h1.trans (HB7.out.2.1.mono (by have := HSY.out; omega))
    exact h2.alloc h2.size _

/-! ## Branches held against each other -/
theorem br_beq (x y : Br) : (x.d == y.d && (x.o == y.o && (x.s.t == y.s.t && (x.s.i == y.s.i && (x.s.p == y.s.p && (x.s.s == y.s.s && (x.s.e == y.s.e && (x.s.n.toList == y.s.n.toList)))))))) = decide (x = y) := by
  obtain ⟨d, o, a, b, c, e, f, g⟩ := x
  obtain ⟨d', o', a', b', c', e', f', g'⟩ := y
  dsimp only
  rw [name_beq, Bool.eq_iff_iff]
  simp [Br.mk.injEq, Sp.mk.injEq]
theorem br_eql (x y : Br) (w : World) : (binOp .eql 67 (.agg (brC x).toArray) (.agg (brC y).toArray)).run Tryz.prog w = .ok (.bool (decide (x = y))) w := by
  have u3 := Tryz.underlying3
  have a3 := Tryz.isAgg3
  have z3 := Tryz.sizeOf3
  have u4 := Tryz.underlying4
  have a4 := Tryz.isAgg4
  have z4 := Tryz.sizeOf4
  have u9 := Tryz.underlying9
  have a9 := Tryz.isAgg9
  have z9 := Tryz.sizeOf9
  have ags := Tryz.isAgg38
  have zs := Tryz.sizeOf38
  have hS : Tryz.prog.underlying 67 = some (.struct (Tryz.prog.fieldsOf 67)) := by kernel_rfl
  have hp : Tryz.prog.stoodInHeld 67 = false := by kernel_rfl
  rw [← br_beq]
  simp only [brC]
  rw [run_eql_struct, show (10000 : Nat) = 9999 + 1 from rfl, run_equalIn_agg w 9999 67 _ _ hS hp]
  simp only [Program.fieldsOf, Tryz.underlying67]
  clear hS hp
  go_simp
  (repeat' split) <;> simp_all
theorem branch_neq : NeqAt Tryz.prog 67 (fun x : Br => .agg (brC x).toArray) (fun x y => decide (x = y)) := by
  refine ⟨fun x y w => ?_, GuardAt.agg (fun x : Br => (brC x).toArray) (by kernel_rfl)⟩
  have h := br_eql x y w
  rw [run_eql_struct] at h
  rw [run_neq_struct]
  cases hr : (Op.equalIn 10000 67 (.agg (brC x).toArray) (.agg (brC y).toArray)).run Tryz.prog w with
  | ok b w' =>
    rw [hr] at h
    simp only [Result.andThen_ok, Result.ok.injEq, Value.bool.injEq] at h ⊢
    rw [h.1]
    exact ⟨rfl, h.2⟩
  | halt x w' =>
    rw [hr] at h
    simp [Result.andThen] at h
theorem allEqB_dec : ∀ l m : List Br, Lib.allEq (fun x y => decide (x = y)) l m = decide (l = m)
  | [], [] => rfl
  | [], _ :: _ => rfl
  | _ :: _, [] => rfl
  | x :: r, y :: s => by
    rw [Lib.allEq, allEqB_dec r s, Bool.eq_iff_iff]
    simp

set_option maxRecDepth 200000 in
set_option maxHeartbeats 400000 in
/-- slices.Equal at branches. -/
theorem equalBr_any {w : World} {v1 v2 : Value} {l1 l2 : List Br} (h1 : Brs w v1 l1) (h2 : Brs w v2 l2) :
    Calls Tryz.prog 45 #[v1, v2] w fun e w' => e = .returned (.bool (decide (l1 = l2))) ∧ ∃ q, w' = w.drewN q := by
  obtain ⟨p1, n1, c1, rfl⟩ := h1.sl
  obtain ⟨p2, n2, c2, rfl⟩ := h2.sl
  obtain ⟨hn1, hc1, hm1⟩ := h1.len
  obtain ⟨hn2, hc2, hm2⟩ := h2.len
  unfold maxLen at hm1 hm2
  by_cases hne : n1 = n2
  · subst hne
    by_cases h0 : 0 < n1
    · obtain ⟨g1, o1, rfl, hx1⟩ := h1.at_ h0
      obtain ⟨g2, o2, rfl, hx2⟩ := h2.at_ h0
      have := AnyQ.slices_Equal Tryz.equalBr 8 Tryz.isAgg67 Tryz.sizeOf67 brC brC_length (fun x y => decide (x = y)) branch_neq g1 o1 n1 c1 g2 o2 n1 c2 l1 l2 w (by omega) (by omega) (by omega) (by omega)
        (fun j hj i v hi => by
          have hj' : l1[j]? = some l1[j]! := by rw [List.getElem?_eq_getElem hj, getElem!_pos l1 j hj]
          exact hx1 j _ hj' i v hi)
        (fun j hj i v hi => by
          have hj' : l2[j]? = some l2[j]! := by rw [List.getElem?_eq_getElem hj, getElem!_pos l2 j hj]
          exact hx2 j _ hj' i v hi)
      refine this.mono fun e w' ⟨he, hw⟩ => ⟨?_, hw⟩
      rw [he, List.take_of_length_le (by omega), List.take_of_length_le (by omega), allEqB_dec]
    · obtain rfl : l1 = [] := List.eq_nil_of_length_eq_zero (by omega)
      obtain rfl : l2 = [] := List.eq_nil_of_length_eq_zero (by omega)
      obtain rfl : n1 = 0 := by omega
      clear h1 h2 hn1 hn2 h0
      rw [decide_eq_true rfl]
      go_enter Tryz.func45, Tryz.ntmps45
      go_wp2
      refine wp_loop_rounds 1 ?_
      rw [rounds_succ]
      go_wp2
      go_ret
      exact ⟨rfl, 0, rfl⟩
  · have hd : decide (l1 = l2) = false := decide_eq_false (by rintro rfl; omega)
    rw [hd]
    have hi : ¬ (n1 : Int) = (n2 : Int) := by omega
    clear h1 h2 hd hn1 hn2
    go_enter Tryz.func45, Tryz.ntmps45
    go_wp2
    go_ret
    exact ⟨rfl, 0, rfl⟩
end Go.Proofs.YtimjplkehlgelaaGreat
