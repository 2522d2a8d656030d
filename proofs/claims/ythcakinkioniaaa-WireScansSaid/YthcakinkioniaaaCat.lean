/- All parts joined, by the program's Join and by Go's own Concat. -/
import Derived.Test.YthcakinkioniaaaSum
import Derived.Lib.AppendZeros
namespace Go.Proofs.Ythcakinkioniaaa
open Go.RowKit

theorem join_step {w : World} {v : Value} {P : Ending → World → Prop} (h : Calls Try.prog 64 #[v, .slice none 0 0] w fun e w' => ∃ v', e = .returned v' ∧ P (.returned v') w') :
    Calls Try.prog 24 #[v] w fun e w' => P e w' := by
  have H := hide h
  clear h
  go_enter Try.func24, Try.ntmps24
  go_wp2_with fail
  refine H.out.mono ?_
  rintro e w1 ⟨v1, rfl, hp⟩
  have HP := hide hp
  clear hp H
  go_wp2
  exact HP.out

theorem flatten_one (l : List UInt8) : [l].flatten = l := by simp

/-- wire.Join of any parts. -/
theorem join_any {w : World} {v : Value} {ls : List (List UInt8)} (hv : Bss w v ls) (hl : Lib.lens ls ≤ 140737488355328) (hn47 : ls.length ≤ 140737488355328) :
    Calls Try.prog 24 #[v] w fun e w' => ∃ v', e = .returned v' ∧ Own w.heap.size w' v' ls.flatten ∧ Below w.heap.size w w' := by
  obtain ⟨p, n, c, rfl⟩ := hv.sl
  obtain ⟨hn, hm, hnc⟩ := hv.len
  by_cases h2 : 2 ≤ n
  · obtain ⟨b, o, _, _, _, _, rfl, _⟩ := hv.cellAt (k := 0) (by omega)
    obtain ⟨vs, hP⟩ := hv.parts
    exact join_many hn.symm h2 hP hnc hl (by omega)
  · refine join_step (P := fun e w' => ∃ v', e = .returned v' ∧ Own w.heap.size w' v' ls.flatten ∧ Below w.heap.size w w') ?_
    by_cases h1 : n = 1
    · subst h1
      obtain ⟨b, o, q, m, d, l, rfl, hx, hcell, hby⟩ := hv.cellAt (k := 0) (by omega)
      have hls : ls = [l] := by
        cases ls with
        | nil => simp at hx
        | cons x r =>
          simp at hx
          subst hx
          cases r with
          | nil => rfl
          | cons y r => simp at hn
      subst hls
      rw [flatten_one]
      rw [Nat.add_zero] at hcell
      obtain ⟨hml, hmd⟩ := hby.len
      by_cases h0 : l.length = 0
      · obtain rfl : l = [] := List.eq_nil_of_length_eq_zero h0
        obtain rfl : m = 0 := hml
        exact (Try.bytes_Join_one_empty b o c q d _ w hcell).mono fun e w' ⟨he, hw⟩ => ⟨_, he, _, rfl, Own.nil _ _, by rw [hw]; exact Below.refl _ _⟩
      · obtain ⟨b2, o2, x, rfl, _, _⟩ := hby.cellAt (k := 0) (by omega)
        subst hml
        obtain ⟨q', d', e, _, _, _, hc⟩ := hby
        injection e with e1 e2 e3
        subst e1
        exact (Try.bytes_Join_one b o c _ d l _ w hcell (fun i x hx => hc _ rfl i x hx) (by omega) (by simp [Lib.lens] at hl; omega)).mono fun e w' ⟨v', he, hf, hb⟩ => ⟨_, he, _, rfl, Own.of_fresh hf, hb⟩
    · obtain rfl : n = 0 := by omega
      obtain rfl : ls = [] := List.eq_nil_of_length_eq_zero hn.symm
      refine (Try.bytes_Join_none p c _ w).mono fun e w' ⟨he, hw⟩ => ⟨_, he, _, rfl, ?_, by rw [hw]; exact (Below.refl _ _).alloc (Nat.le_refl _) _⟩
      refine .inr ⟨w.heap.size, 0, rfl, Nat.le_refl _, Nat.le_refl _, by simp [maxLen], fun i x hx => by simp at hx, fun i hi => by omega, fun i hi => by omega⟩

set_option maxRecDepth 20000 in
set_option maxHeartbeats 400000 in
/-- slices.Grow of nil. -/
theorem grow_nil (n : Nat) (hn : n ≤ 1000000) (w : World) :
    Calls Try.prog 65 #[.slice none 0 0, .int .i64 (n : Int)] w fun e w' => ∃ v', e = .returned v' ∧ Own w.heap.size w' v' [] ∧ Below w.heap.size w w' := by
  obtain ⟨i0, hi0, hz0, hz1, hz2⟩ := info_parts Try.info5
  by_cases h0 : n = 0
  · subst h0
    go_enter Try.func65, Try.ntmps65
    go_wp2
    go_ret
    exact ⟨_, rfl, Own.nil _ _, Below.refl _ _⟩
  · have hp : (0 : Int) < (n : Int) := by omega
    have hr := Lib.run_append_nil_zeros (P := Try.prog) w 22 3 22 5 i0 (.int .u8 0) .i64 .i64 Try.underlying22 Try.underlying3 hi0 hz0 n (by omega) (by omega) (by omega) (by rw [hz2]; omega)
    have hge := grownCap_ge w n 0 5
    have hle := grownCap_le_maxLen w n 0 5 (by simp only [maxLen]; omega)
    obtain ⟨q, hq⟩ : ∃ q, grownCap w n 0 5 = q := ⟨_, rfl⟩
    rw [hq] at hr hge hle
    have HLE := hide hle
    clear hle hq
    go_enter Try.func65, Try.ntmps65
    go_wp2_with (at_builtin; go_must (refine Lib.wpList_append_run _ rfl _ _ 22 3 rfl _ _ rfl rfl _ _ hr ?_))
    go_ret
    have hsz : (Builtin.zeroCells (Value.int IntKind.u8 0).cells n ++ Builtin.zeroCells (Value.int IntKind.u8 0).cells (q - n)).size = q := by
      simp [Builtin.zeroCells, Value.cells]
      omega
    refine ⟨_, rfl, .inr ⟨w.heap.size, q, rfl, Nat.le_refl _, by simp, HLE.out, fun i x hx => by simp at hx, fun i hi => ?_, fun i _ => ?_⟩, (Below.refl _ w).drew.alloc (Nat.le_refl _) _⟩
    · have h := cell_of_row (w.drew.alloc (.cells (Builtin.zeroCells (Value.int IntKind.u8 0).cells n ++ Builtin.zeroCells (Value.int IntKind.u8 0).cells (q - n)) 5)) w.heap.size i _ 5 (0, 0) (heap_alloc_new w.drew _)
      have h2 : i < (Builtin.zeroCells (Value.int IntKind.u8 0).cells n ++ Builtin.zeroCells (Value.int IntKind.u8 0).cells (q - n)).size := by omega
      rw [Array.getElem?_eq_getElem h2] at h
      have h3 := congrArg Option.isSome h
      exact h3.trans rfl
    · exact frozen_of_row _ w.heap.size i _ 5 (heap_alloc_new w.drew _)

theorem lens_take_le' (ls : List (List UInt8)) (k : Nat) : Lib.lens (ls.take k) ≤ Lib.lens ls := Lib.lens_take_le ls k

theorem flatten_length (ls : List (List UInt8)) : ls.flatten.length = Lib.lens ls := by
  rw [List.length_flatten]
  rfl

set_option maxRecDepth 20000 in
set_option maxHeartbeats 1000000 in
/-- slices.Concat. -/
theorem concat_any {w : World} {v : Value} {ls : List (List UInt8)} (hv : Bss w v ls) (hl : Lib.lens ls ≤ 1000000) :
    Calls Try.prog 26 #[v] w fun e w' => ∃ v', e = .returned v' ∧ Own w.heap.size w' v' ls.flatten ∧ Below w.heap.size w w' := by
  obtain ⟨p, n, c, rfl⟩ := hv.sl
  obtain ⟨hn, hm, _⟩ := hv.len
  have hm' : (n : Int) ≤ 9223372036854775807 := by unfold maxLen at hm; omega
  clear hm
  have HV := hide hv
  have HN := hide hn
  have HL := hide hl
  clear hv hn hl
  go_enter Try.func26, Try.ntmps26
  go_wp2
  go_loop [3, 5, 11] (fun a _ i => ∃ k z : Nat, k ≤ n ∧ i = .int .i64 k ∧ a = .int .i64 z ∧ z ≤ 1000000 ∧ z = Lib.lens (ls.take k)) (fun _ _ i => n - (intOf i).toNat)
  case atStart => exact ⟨0, 0, by omega, rfl, rfl, by omega, by rw [List.take_zero]; rfl⟩
  case round =>
    obtain ⟨k, z, hk, rfl, rfl, hz, hvk⟩ := hrel
    have HK := hide hvk
    clear hvk
    by_cases hkn : (k : Int) < (n : Int)
    · obtain ⟨b, o, q, m, d, l, rfl, hx, hcell, hby⟩ := HV.out.cellAt (k := k) (by omega)
      obtain ⟨hml, _⟩ := hby.len
      have hst := Lib.lens_take_succ ls k l hx
      have hle := Lib.lens_take_le ls (k + 1)
      have hsum : z + m ≤ 1000000 := by have := HL.out; have := HK.out; omega
      have HST := hide hst
      have HML := hide hml
      clear hst hle hx hby hml
      go_wp2
      go_round
      case rel => exact ⟨k + 1, z + m, by omega, by go_num, by go_num, hsum, by rw [HST.out, ← HK.out, HML.out]⟩
      case measure => simp [intOf]; omega
    · obtain rfl : k = n := by omega
      go_wp2_with fail
      refine (grow_nil z hz _).mono ?_
      rintro e w1 ⟨v1, rfl, ho1, hb1⟩
      go_wp2
      go_loopw [6, 8, 27] (fun a _ i wr => ∃ (j : Nat) (x : List UInt8), j ≤ k ∧ i = .int .i64 j ∧ x = (ls.take j).flatten ∧ x.length ≤ 1000000 ∧ Own w.heap.size wr a x ∧ Below w.heap.size w wr) (fun _ _ i _ => k - (intOf i).toNat)
      case atStart => exact ⟨0, [], by omega, rfl, by rw [List.take_zero]; rfl, by simp, ho1, hb1⟩
      case round =>
        obtain ⟨j, x, hj, rfl, hxj, hxl, hown, hb⟩ := hrel
        have HX := hide hxj
        have HO := hide hown
        have hbs := hb.size
        clear hxj hown ho1
        by_cases hjk : (j : Int) < (k : Int)
        · obtain ⟨b, o, q, m, d, l, rfl, hx, hcell, hby⟩ := (HV.out.below hb).cellAt (k := j) (by omega)
          have hfl : x ++ l = (ls.take (j + 1)).flatten := by
            rw [List.take_add_one, hx, HX.out]
            simp
          have hle : (x ++ l).length ≤ 1000000 := by
            rw [hfl, flatten_length]
            exact Nat.le_trans (Lib.lens_take_le ls (j + 1)) HL.out
          have hle' : x.length + l.length ≤ 140737488355328 := by
            have := hle
            rw [List.length_append] at this
            omega
          have HF := hide hfl
          have HLE := hide hle
          have HBY := hide hby
          clear hfl hle hx hby
          go_wp2_with (at_builtin; go_must (refine wpList_append_by rfl _ _ rfl rfl rfl rfl HO.out HBY.out hle' hbs ?_); intro v2 w2 ho2 _ hb2 _)
          have hb3 := hb.trans hb2
          go_roundw
          case rel => exact ⟨j + 1, x ++ l, by omega, by go_num, HF.out, HLE.out, ho2, hb3⟩
          case measure => simp [intOf]; omega
        · obtain rfl : j = k := by omega
          go_wp2
          go_ret
          refine ⟨_, rfl, ?_, hb⟩
          have := HO.out
          rwa [HX.out, HN.out, List.take_length] at this
theorem size_alloc' (w : World) (o : Obj) : (w.alloc o).heap.size = w.heap.size + 1 := by simp

theorem one_part {w : World} {v : Value} {l : List UInt8} (h : By w v l) : Bss (w.alloc (.cells #[v] 22)) (.slice (some ⟨w.heap.size, 0, none⟩) 1 1) [l] :=
  Bss.new (vs := [v]) rfl (by decide) rfl fun i u m hu hm => by
    match i, hu, hm with
    | 0, hu, hm => simp at hu hm; subst hu hm; exact h

theorem two_parts {w : World} {v u : Value} {l m : List UInt8} (h : By w v l) (h2 : By w u m) : Bss (w.alloc (.cells #[v, u] 22)) (.slice (some ⟨w.heap.size, 0, none⟩) 2 2) [l, m] :=
  Bss.new (vs := [v, u]) rfl (by decide) rfl fun i u m hu hm => by
    match i, hu, hm with
    | 0, hu, hm => simp at hu hm; subst hu hm; exact h
    | 1, hu, hm => simp at hu hm; subst hu hm; exact h2

end Go.Proofs.Ythcakinkioniaaa
