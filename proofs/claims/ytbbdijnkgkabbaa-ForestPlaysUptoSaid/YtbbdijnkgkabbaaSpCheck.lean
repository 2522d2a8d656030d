/- Which span may be: the program's Check and the document's. -/
import Derived.Test.YtbbdijnkgkabbaaSpBase
import Derived.WalkLawsBesides
import Derived.Deep.LoopGhost
namespace Go.Proofs.Ytbbdijnkgkabbaa
set_option linter.unusedVariables false
set_option linter.unusedSimpArgs false
open Go.RowKit

set_option maxRecDepth 200000 in
set_option maxHeartbeats 400000 in
theorem between_int (a x b : Int) (w : World) : Calls Try.prog 40 #[.int .i64 a, .int .i64 x, .int .i64 b] w fun e w' => e = .returned (.bool (decide (a ≤ x) && decide (x ≤ b))) ∧ w' = w := by
  by_cases h : a ≤ x
  · go_enter Try.func40, Try.ntmps40
    go_wp2
    go_ret
    simp [h]
  · have h' : decide (a ≤ x) = false := decide_eq_false h
    rw [h', Bool.false_and]
    clear h'
    go_enter Try.func40, Try.ntmps40
    go_wp2
    go_ret
    exact ⟨rfl, rfl⟩

set_option maxRecDepth 200000 in
set_option maxHeartbeats 400000 in
theorem between_byte (a x b : Int) (w : World) : Calls Try.prog 41 #[.int .u8 a, .int .u8 x, .int .u8 b] w fun e w' => e = .returned (.bool (decide (a ≤ x) && decide (x ≤ b))) ∧ w' = w := by
  by_cases h : a ≤ x
  · go_enter Try.func41, Try.ntmps41
    go_wp2
    go_ret
    simp [h]
  · have h' : decide (a ≤ x) = false := decide_eq_false h
    rw [h', Bool.false_and]
    clear h'
    go_enter Try.func41, Try.ntmps41
    go_wp2
    go_ret
    exact ⟨rfl, rfl⟩

theorem between_q {a x b : Int} {r : Bool} (h : (decide (a ≤ x) && decide (x ≤ b)) = r) (w : World) : Calls Try.prog 40 #[.int .i64 a, .int .i64 x, .int .i64 b] w fun e w' => e = .returned (.bool r) ∧ w' = w :=
  (between_int a x b w).mono fun _ _ ⟨he, hw⟩ => ⟨by rw [he, h], hw⟩
theorem between_u {a x b : Int} {r : Bool} (h : (decide (a ≤ x) && decide (x ≤ b)) = r) (w : World) : Calls Try.prog 41 #[.int .u8 a, .int .u8 x, .int .u8 b] w fun e w' => e = .returned (.bool r) ∧ w' = w :=
  (between_byte a x b w).mono fun _ _ ⟨he, hw⟩ => ⟨by rw [he, h], hw⟩

set_option maxRecDepth 200000 in
set_option maxHeartbeats 1000000 in
theorem mayStand_any (x : Sp) (w : World) : Calls Try.prog 31 #[spV x] w fun e w' => e = .returned (.bool (okStand x)) ∧ Below w.heap.size w w' := by
  obtain ⟨t, i, p, s, e, n⟩ := x
  unfold spV okStand
  dsimp only
  obtain ⟨A, hA⟩ : ∃ A, (decide (1 ≤ t) && decide (t ≤ 1099511627776)) = A := ⟨_, rfl⟩
  obtain ⟨B, hB⟩ : ∃ A, (decide (1 ≤ i) && decide (i ≤ 1099511627776)) = A := ⟨_, rfl⟩
  obtain ⟨C, hC⟩ : ∃ A, (decide (0 ≤ p) && decide (p ≤ 1099511627776)) = A := ⟨_, rfl⟩
  rw [hA, hB, hC]
  cases A <;> cases B <;> cases C
  all_goals
    go_enter Try.func31, Try.ntmps31
    go_wp2_with (go_at_call 40; refine (between_int _ _ _ _).mono ?_; rintro e w' ⟨rfl, rfl⟩; first | rw [hA] | rw [hB] | rw [hC])
    go_ret
    exact ⟨by first | (simp; done) | (by_cases h : p = i <;> simp [h]), (Below.refl _ _).alloc (Nat.le_refl _) _⟩

set_option maxRecDepth 200000 in
set_option maxHeartbeats 1000000 in
theorem mayTake_any (x : Sp) (w : World) : Calls Try.prog 32 #[spV x] w fun e w' => e = .returned (.bool (okTake x)) ∧ Below w.heap.size w w' := by
  obtain ⟨t, i, p, s, e, n⟩ := x
  unfold spV okTake
  dsimp only
  obtain ⟨A, hA⟩ : ∃ A, (decide (0 ≤ s) && decide (s ≤ e)) = A := ⟨_, rfl⟩
  rw [hA]
  cases A
  all_goals
    go_enter Try.func32, Try.ntmps32
    go_wp2_with (go_at_call 40; refine (between_int _ _ _ _).mono ?_; rintro e w' ⟨rfl, rfl⟩; rw [hA])
    go_ret
    exact ⟨by simp, (Below.refl _ _).alloc (Nat.le_refl _) _⟩

theorem all_drop {l : List UInt8} {k : Nat} {y : UInt8} (h : l[k]? = some y) (p : UInt8 → Bool) : (l.drop k).all p = (p y && (l.drop (k + 1)).all p) := by
  have hk := (List.getElem?_eq_some_iff.1 h).1
  rw [List.drop_eq_getElem_cons hk, List.all_cons]
  rw [List.getElem?_eq_getElem hk] at h
  injection h with h
  rw [h]

set_option maxRecDepth 200000 in
set_option maxHeartbeats 1000000 in
theorem mayBeCalled_any (n : ByteArray) (hn : n.size ≤ 1000000) (w : World) : Calls Try.prog 33 #[.string n] w fun e w' => e = .returned (.bool (okName n.data.toList)) ∧ Below w.heap.size w w' := by
  obtain ⟨A, hA⟩ : ∃ A, (decide ((1 : Int) ≤ n.size) && decide ((n.size : Int) ≤ 32)) = A := ⟨_, rfl⟩
  have hl : n.data.toList.length = n.size := by rw [Array.length_toList]; rfl
  have hok : okName n.data.toList = (A && n.data.toList.all okByte) := by
    unfold okName
    rw [← hA, hl]
    congr 2
    · rw [decide_eq_decide]; omega
    · rw [decide_eq_decide]; omega
  rw [hok]
  clear hok
  cases A
  · go_enter Try.func33, Try.ntmps33
    go_wp2_with (go_at_call 40; refine (between_int _ _ _ _).mono ?_; rintro e w' ⟨rfl, rfl⟩; rw [hA])
    go_ret
    exact ⟨rfl, Below.refl _ _⟩
  · obtain ⟨q, w2, hcv, hby, hb2, hlt⟩ := conv_string w n hn
    obtain ⟨L, hL⟩ : ∃ L, n.data.toList = L := ⟨_, rfl⟩
    rw [hL] at hby hl ⊢
    have HBY := hide hby
    have HB := hide hb2
    have HL := hide hl
    clear hby hb2 hlt hl hL
    go_enter Try.func33, Try.ntmps33
    go_wp2_with (go_at_call 40; refine (between_int _ _ _ _).mono ?_; rintro e w' ⟨rfl, rfl⟩; rw [hA])
    clear hcv
    go_loop [4, 12] (fun _ i => ∃ k : Nat, k ≤ n.size ∧ i = .int .i64 k ∧ Hid ((L.drop k).all okByte = L.all okByte)) (fun _ i => n.size - (intOf i).toNat)
    case atStart => exact ⟨0, by omega, rfl, hide rfl⟩
    case round =>
      obtain ⟨k, hk, rfl, H⟩ := hrel
      by_cases hkm : (k : Int) < (n.size : Int)
      · obtain ⟨b2, o2, y, e2, hy, hcell⟩ := HBY.out.cellAt (k := k) (by omega)
        injection e2 with e2
        injection e2 with e2 e3
        subst e2 e3
        have hd := H.out
        rw [all_drop hy] at hd
        have HD := hide hd
        obtain ⟨Z, hZ⟩ : ∃ Z, (decide ((33 : Int) ≤ y.toNat) && decide ((y.toNat : Int) ≤ 126)) = Z := ⟨_, rfl⟩
        have hzy : okByte y = Z := by
          unfold okByte
          rw [← hZ]
          congr 1
          · rw [decide_eq_decide]; omega
          · rw [decide_eq_decide]; omega
        have HZ := hide hzy
        clear hy hd hzy H
        rw [Nat.zero_add] at hcell
        cases Z
        · go_wp2_with (go_at_call 41; refine (between_byte _ _ _ _).mono ?_; rintro e w' ⟨rfl, rfl⟩; rw [hZ])
          go_ret
          refine ⟨?_, HB.out⟩
          rw [← HD.out, HZ.out]
          rfl
        · go_wp2_with (go_at_call 41; refine (between_byte _ _ _ _).mono ?_; rintro e w' ⟨rfl, rfl⟩; rw [hZ])
          go_round
          case rel => exact ⟨k + 1, by omega, by go_num, hide (by rw [← HD.out, HZ.out, Bool.true_and])⟩
          case measure => simp [intOf]; omega
      · go_wp2
        go_ret
        refine ⟨?_, HB.out⟩
        have := H.out
        rw [List.drop_eq_nil_of_le (by have := HL.out; omega)] at this
        rw [← this]
        rfl

theorem spAt_new (w : World) (x : Sp) : SpAt (w.alloc (.cells #[.int .i64 x.t, .int .i64 x.i, .int .i64 x.p, .int .i64 x.s, .int .i64 x.e, .string x.n] 33)) w.heap.size 0 x := fun k u hk => by
  rw [cell_of_row _ w.heap.size (0 + k) _ 33 (0, 0) (heap_alloc_new w _), Nat.zero_add]
  simpa [spC] using hk
structure SpZ (w : World) (g : Nat) (t i p s e : Int) (n : ByteArray) : Prop where
  d0 : w.cell? ⟨g, 0, none⟩ = some (.int .i64 t)
  d1 : w.cell? ⟨g, 1, none⟩ = some (.int .i64 i)
  d2 : w.cell? ⟨g, 2, none⟩ = some (.int .i64 p)
  d3 : w.cell? ⟨g, 3, none⟩ = some (.int .i64 s)
  d4 : w.cell? ⟨g, 4, none⟩ = some (.int .i64 e)
  d5 : w.cell? ⟨g, 5, none⟩ = some (.string n)
theorem SpAt.z {w : World} {g : Nat} {x : Sp} (h : SpAt w g 0 x) : SpZ w g x.t x.i x.p x.s x.e x.n := ⟨h.c0, h.c1, h.c2, h.c3, h.c4, h.c5⟩

set_option maxRecDepth 200000 in
set_option maxHeartbeats 1000000 in
/-- span.Check. -/
theorem check_any (x : Sp) (hn : x.n.size ≤ 1000000) (w : World) : Calls Try.prog 18 #[spV x] w fun e w' => e = .returned (.int .i64 (if x.ok then 0 else 30)) ∧ Below w.heap.size w w' := by
  have h1 := mayStand_any x
  have h2 := mayTake_any x
  have h3 := mayBeCalled_any x.n hn
  obtain ⟨A, hA⟩ : ∃ A, okStand x = A := ⟨_, rfl⟩
  obtain ⟨B, hB⟩ : ∃ A, okTake x = A := ⟨_, rfl⟩
  obtain ⟨C, hC⟩ : ∃ A, okName x.n.data.toList = A := ⟨_, rfl⟩
  have hx : x.ok = (A && B && C) := by unfold Sp.ok Sp.nl; rw [hA, hB, hC]
  rw [hA] at h1
  rw [hB] at h2
  rw [hC] at h3
  rw [hx]
  clear hx hA hB hC
  have hnew := spAt_new w x
  obtain ⟨t, i, p, s, e, n⟩ := x
  unfold spV at *
  dsimp only at *
  have H1 := hide h1
  have H2 := hide h2
  have H3 := hide h3
  have HN := hide hnew
  obtain ⟨R, hR⟩ : ∃ R : Int, (if (A && B && C) = true then 0 else 30) = R := ⟨_, rfl⟩
  rw [hR]
  have HR := hide hR
  clear h1 h2 h3 hnew hR
  cases A
  · go_enter Try.func18, Try.ntmps18
    go_wp2_with fail
    refine (H1.out _).mono ?_
    rintro e1 w1 ⟨rfl, hb1⟩
    have HB1 := hide (((Below.refl w.heap.size w).alloc (Nat.le_refl _) _).trans (hb1.mono (by simp)))
    clear hb1
    go_wp2
    go_ret
    exact ⟨by rw [← HR.out]; rfl, HB1.out⟩
  · go_enter Try.func18, Try.ntmps18
    go_wp2_with fail
    refine (H1.out _).mono ?_
    rintro e1 w1 ⟨rfl, hb1⟩
    obtain ⟨d0, d1, d2, d3, d4, d5⟩ := (HN.out.below hb1).z
    have HS1 := hide (HN.out.below hb1)
    have HB1 := hide (((Below.refl w.heap.size w).alloc (Nat.le_refl _) _).trans (hb1.mono (by simp)))
    clear hb1
    dsimp only at d0 d1 d2 d3 d4 d5
    go_wp2_with fail
    refine (H2.out _).mono ?_
    rintro e2 w2 ⟨rfl, hb2⟩
    obtain ⟨f0, f1, f2, f3, f4, f5⟩ := (HS1.out.below hb2).z
    have HB2 := hide (HB1.out.trans (hb2.mono HB1.out.size))
    clear hb2 d0 d1 d2 d3 d4 d5
    dsimp only at f0 f1 f2 f3 f4 f5
    cases B
    · go_wp2
      go_ret
      exact ⟨by rw [← HR.out]; rfl, HB2.out⟩
    · go_wp2_with fail
      refine (H3.out _).mono ?_
      rintro e3 w3 ⟨rfl, hb3⟩
      have HB3 := hide (HB2.out.trans (hb3.mono HB2.out.size))
      clear hb3
      cases C
      all_goals
        go_wp2
        go_ret
        exact ⟨by rw [← HR.out]; rfl, HB3.out⟩
end Go.Proofs.Ytbbdijnkgkabbaa
