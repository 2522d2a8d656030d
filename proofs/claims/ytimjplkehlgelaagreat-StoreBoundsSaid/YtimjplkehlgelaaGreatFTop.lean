/- fromTop: the branches of a bag. -/
import Derived.Test.YtimjplkehlgelaaGreatFTopP
import Derived.Deep.RegionHeld3
import Derived.Deep.DrawnRows
namespace Go.Proofs.YtimjplkehlgelaaGreat
set_option linter.unusedVariables false
set_option linter.unusedSimpArgs false
open Go.RowKit
attribute [local go_sem ↓] Go.wp_at_zero Go.wp_at_succ

theorem run_makeUnder (w : World) : (Instr.makeMap 140 none).run Tryz.prog w = .ok (.map (some w.heap.size)) (w.alloc (.map #[] 0)) := by
  kernel_rfl
theorem spans_wf {tr : Int} {L : List Sp} (h : FoOk tr L) {x : Sp} (hx : x ∈ L) : (Lit.int .i64 x.i).wf = true ∧ (Lit.int .i64 x.p).wf = true := by
  obtain ⟨t1, t2, i1, i2, p1, p2, _⟩ := (Sp.ok_iff x).1 (h.ok x hx).1
  exact ⟨WalkArith.wf_i64 (by omega), WalkArith.wf_i64 (by omega)⟩

theorem brs_tops {L S : List Sp} (h : ∀ k, fnd S k = fnd L k) : brs S = (rootsB S ++ orphsB L S).flatMap fun x => unf S 64 x.d x.o x.s := by
  have e : orphs S = S.filter fun x => !(x.p == 0) && !(fnd L x.p).isSome := by
    unfold orphs
    simp only [h]
  unfold brs rootsB orphsB
  rw [List.flatMap_append, List.flatMap_map, List.flatMap_map, ← e]
theorem tops_mem {L S : List Sp} : ∀ x ∈ rootsB S ++ orphsB L S, x.s ∈ S ∧ x.d = 0 := by
  intro x hx
  rcases List.mem_append.1 hx with hx | hx
  · unfold rootsB roots at hx
    obtain ⟨s, hs, rfl⟩ := List.mem_map.1 hx
    exact ⟨(List.mem_filter.1 hs).1, rfl⟩
  · unfold orphsB at hx
    obtain ⟨s, hs, rfl⟩ := List.mem_map.1 hx
    exact ⟨(List.mem_filter.1 hs).1, rfl⟩
/-- The state of fromTop's first loop, k spans gone through. -/
structure TopAt (w1 w : World) (bU : Nat) (L S : List Sp) (k : Nat) (vR vO : Value) : Prop where
  inv : ∃ V D, TopInv w1 w bU vR vO (rootsB (S.take k)) (orphsB L (S.take k)) (Uof L (S.take k)) V D ∧ Maps.size D ≤ k

set_option maxRecDepth 200000 in
set_option maxHeartbeats 1000000 in
theorem fromTop_any {w : World} {b : Nat} {L : List Sp} {D : DataW Value} {tr : Int} (h : BagIs w b L D) (hok : FoOk tr L) :
    Calls Tryz.prog 85 #[.map (some b)] w fun e w' => ∃ v', e = .returned v' ∧ OwnB w.heap.size w' v' (brs (sortS L)) ∧ Below w.heap.size w w' := by
  have hmk := run_makeUnder w
  have hbw := h.map.lt
  have hM : BagIs (w.alloc (.map #[] 0)) b L D := h.grown (World.grownBy_alloc w _ none) (by simp)
  have hsrt := sorted_any hM hok.len
  have hlen : (sortS L).length = L.length := sortS_length L
  obtain ⟨S, hS⟩ : ∃ S, sortS L = S := ⟨_, rfl⟩
  have hmem : ∀ y ∈ S, y ∈ L := fun y hy => (sortS_perm L).mem_iff.1 (by rw [hS]; exact hy)
  have hfS : ∀ k, fnd S k = fnd L k := fun k => by rw [← hS]; exact fnd_perm hok.ids (sortS_perm L) k
  have hokS : FoOk tr S := by rw [← hS]; exact hok.sort
  rw [hS] at hsrt hlen ⊢
  have HM := hide hM
  have HSRT := hide hsrt
  have HLEN := hide hlen
  have HOK := hide (And.intro hok hokS)
  have HMEM := hide hmem
  have HFS := hide hfS
  clear hM hsrt hlen hok hokS hmem hfS hS h
  go_enter Tryz.func85, Tryz.ntmps85
  go_wp2_with fail
  refine HSRT.out.mono ?_
  rintro e1 w1 ⟨v1, rfl, ho1, hb1⟩
  obtain ⟨pS, nS, cS, rfl⟩ := ho1.sps.sl
  have hnS := ho1.sps.len.1
  have hsz1 : w.heap.size + 1 ≤ w1.heap.size := by have := hb1.size; simpa using this
  have hinv0 : TopAt w1 w1 w.heap.size L S 0 (.slice none 0 0) (.slice none 0 0) := by
    refine ⟨fun _ => .slice none 0 0, .map [], ⟨Chg.refl _ _, OwnB.nil _ _, OwnB.nil _ _, ?_, by omega, fun i hi => (by cases hi), fun i hi => (by cases hi), fun i hi => (by cases hi)⟩, Nat.le_refl _⟩
    have h0 := (und_new w (Nat.le_refl _) (fun _ => .slice none 0 0)).map
    refine ⟨h0.kept (row := none) ⟨hb1.os, hb1.tape, hb1.output, hb1.size, fun k hk _ => hb1.block k hk⟩ (by simp), fun k h => (by cases h), fun k _ => ?_, fun k i h => (by cases h), fun k k' i h => (by cases h)⟩
    unfold Uof kids
    split <;> rfl
  have HS1 := hide ho1
  have HB1 := hide hb1
  have HNS := hide hnS
  have HI0 := hide hinv0
  have HSZ1 := hide hsz1
  clear ho1 hb1 hnS hinv0 hsz1 hmk
  go_wp2_with fail
  go_loopw [3, 4, 7, 8, 9, 17] (fun v3 v4 _ _ _ ix wr => ∃ (k : Nat) (pr po : Option Addr) (mr cr mo co : Nat), v3 = .slice pr mr cr ∧ v4 = .slice po mo co ∧ k ≤ S.length ∧ ix = .int .i64 k ∧ Hid (TopAt w1 wr w.heap.size L S k (.slice pr mr cr) (.slice po mo co))) (fun _ _ _ _ _ ix _ => S.length - (intOf ix).toNat)
  case atStart => exact ⟨0, none, none, 0, 0, 0, 0, rfl, rfl, Nat.zero_le _, rfl, HI0⟩
  case round =>
    obtain ⟨k, pr, po, mr, cr, mo, co, rfl, rfl, hk, rfl, HT⟩ := hrel
    have hS64 : S.length ≤ 64 := HOK.out.2.len
    by_cases hlt : (k : Int) < (nS : Int)
    · obtain ⟨gS, oS, rfl, hx⟩ := HS1.out.sps.at_ (by omega)
      obtain ⟨y, hy⟩ : ∃ y, S[k]? = some y := ⟨_, List.getElem?_eq_getElem (by have := HNS.out; omega)⟩
      have hgS : gS ≠ w.heap.size := by
        have := (HS1.out.lt gS rfl).1
        simp at this
        omega
      obtain ⟨V, D', hinv, hsz⟩ := HT.out.inv
      have hat : SpAt wr gS (oS + k * 6) y := fun j u hj => hinv.chg.cell (hx k y hy j u hj) hgS
      obtain ⟨oo, hoo⟩ : ∃ oo, oS + k * 6 = oo := ⟨_, rfl⟩
      rw [hoo] at hat
      have z0 := hat.c0
      have z1 := hat.c1
      have z2 := hat.c2
      have z3 := hat.c3
      have z4 := hat.c4
      have z5 := hat.c5
      have htk : S.take (k + 1) = S.take k ++ [y] := by rw [List.take_add_one, hy]; rfl
      have hyL := HMEM.out y (List.mem_of_getElem? hy)
      have hwf := (spans_wf HOK.out.1 hyL).2
      have hw1 := hinv.chg.size
      have hkS : k < S.length := (List.getElem?_eq_some_iff.1 hy).1
      have hX := hinv.alloc (.cells #[.int .i64 y.t, .int .i64 y.i, .int .i64 y.p, .int .i64 y.s, .int .i64 y.e, .string y.n] 38)
      have hrl : (rootsB (S.take k)).length ≤ 1000000 := by
        unfold rootsB roots
        rw [List.length_map]
        have := List.length_filter_le (fun x : Sp => x.p == 0) (S.take k)
        rw [List.length_take] at this
        omega
      have hol : (orphsB L (S.take k)).length ≤ 1000000 := by
        unfold orphsB
        rw [List.length_map]
        have := List.length_filter_le (fun x : Sp => !(x.p == 0) && !(fnd L x.p).isSome) (S.take k)
        rw [List.length_take] at this
        omega
      have HX := hide hX
      have HINV := hide (And.intro hinv hsz)
      have HTK := hide htk
      have HW1 := hide hw1
      have HRL := hide (And.intro hrl hol)
      have HKS := hide hkS
      have hbX := HM.out.chg (T := fun i => i = w.heap.size) (w' := wr.alloc (.cells #[.int .i64 y.t, .int .i64 y.i, .int .i64 y.p, .int .i64 y.s, .int .i64 y.e, .string y.n] 38)) ((Chg.of_below HB1.out (fun i => i = w.heap.size)).trans (hinv.chg.alloc _) (fun i hi => .inl hi)) (by omega)
      have HBX := hide hbX
      have hnew := spAt_new wr y
      have HNEW := hide hnew
      clear hx hinv hsz hat htk hX hrl hol hw1 hbX hnew hyL hy
      by_cases hp : y.p = 0
      · have HP := hide hp
        obtain ⟨t, i, q, s, e, nm⟩ := y
        dsimp only at *
        subst hp
        go_wp2_with (at_builtin; go_must (refine wpList_pushB (v := .slice pr mr cr) rfl _ _ rfl rfl ⟨0, false, ⟨t, i, 0, s, e, nm⟩⟩ rfl rfl (by simp) HX.out.r (by have := HW1.out; simp; omega) HRL.out.1 ?_); intro v5 w5 ho5 he5; obtain ⟨p5, m5, c5, rfl⟩ := ho5.brs.sl; have HO5 := hide (HX.out.setR ho5 he5); clear ho5 he5)
        go_roundw
        case rel =>
          refine ⟨k + 1, p5, po, m5, c5, mo, co, rfl, rfl, by have := HKS.out; omega, by go_num, hide ⟨V, D', ?_, Nat.le_succ_of_le HINV.out.2⟩⟩
          rw [HTK.out, rootsB_snoc, orphsB_snoc, Uof_root (.inl rfl), if_pos rfl, if_neg (fun h => h.1 rfl), List.append_nil]
          exact HO5.out
        case measure => simp [intOf]; have := HKS.out; omega
      · have hb0 : (y.p == 0) = false := beq_eq_false_iff_ne.2 hp
        have hl := (HBX.out.look hwf 0).1
        cases hf : fnd L y.p with
        | none =>
          rw [hf] at hl
          have hl1 : (Instr.lookup 103 (.map (some b)) (.int .i64 y.p) true).run Tryz.prog (wr.alloc (.cells #[.int .i64 y.t, .int .i64 y.i, .int .i64 y.p, .int .i64 y.s, .int .i64 y.e, .string y.n] 38)) = .ok (.tuple #[.agg #[.int .i64 0, .int .i64 0, .int .i64 0, .int .i64 0, .int .i64 0, .string ByteArray.empty], .bool false]) (wr.alloc (.cells #[.int .i64 y.t, .int .i64 y.i, .int .i64 y.p, .int .i64 y.s, .int .i64 y.e, .string y.n] 38)) := hl
          have HP := hide (And.intro hp hf)
          have HY := hide (HX.out.alloc (.cells #[.int .i64 0, .int .i64 0, .int .i64 0, .int .i64 0, .int .i64 0, .string ByteArray.empty] 38))
          obtain ⟨t, i, q, s, e, nm⟩ := y
          dsimp only at *
          clear hl hf
          go_wp2_with (at_builtin; go_must (refine wpList_pushB (v := .slice po mo co) rfl _ _ rfl rfl ⟨0, true, ⟨t, i, q, s, e, nm⟩⟩ rfl rfl (by simp) HY.out.o (by have := HW1.out; simp; omega) HRL.out.2 ?_); intro v5 w5 ho5 he5; obtain ⟨p5, m5, c5, rfl⟩ := ho5.brs.sl; have HO5 := hide (HY.out.setO ho5 he5); clear ho5 he5)
          go_roundw
          case rel =>
            refine ⟨k + 1, pr, p5, mr, cr, m5, c5, rfl, rfl, by have := HKS.out; omega, by go_num, hide ⟨V, D', ?_, Nat.le_succ_of_le HINV.out.2⟩⟩
            rw [HTK.out, rootsB_snoc, orphsB_snoc, Uof_root (.inr HP.out.2), if_neg HP.out.1, if_pos HP.out, List.append_nil]
            exact HO5.out
          case measure => simp [intOf]; have := HKS.out; omega
        | some u =>
          rw [hf] at hl
          have hl1 : (Instr.lookup 103 (.map (some b)) (.int .i64 y.p) true).run Tryz.prog (wr.alloc (.cells #[.int .i64 y.t, .int .i64 y.i, .int .i64 y.p, .int .i64 y.s, .int .i64 y.e, .string y.n] 38)) = .ok (.tuple #[.agg #[.int .i64 u.t, .int .i64 u.i, .int .i64 u.p, .int .i64 u.s, .int .i64 u.e, .string u.n], .bool true]) (wr.alloc (.cells #[.int .i64 y.t, .int .i64 y.i, .int .i64 y.p, .int .i64 y.s, .int .i64 y.e, .string y.n] 38)) := hl
          have hpu : ¬ (y.p = 0 ∨ fnd L y.p = none) := by rw [hf]; simpa using hp
          have HP := hide hpu
          have hbox := spAt_new wr y
          have hY := HX.out.alloc (.cells #[.int .i64 u.t, .int .i64 u.i, .int .i64 u.p, .int .i64 u.s, .int .i64 u.e, .string u.n] 38)
          have hboxY := hbox.grown (World.grownBy_alloc _ (.cells #[.int .i64 u.t, .int .i64 u.i, .int .i64 u.p, .int .i64 u.s, .int .i64 u.e, .string u.n] 38) none) (by simp)
          obtain ⟨pv, cv, hE, hov, hnv, hvv, hpush⟩ := hY.push hwf y (by have := HINV.out.2; have := HKS.out; omega)
          obtain ⟨Y, hYd⟩ : ∃ Y, (wr.alloc (.cells #[.int .i64 y.t, .int .i64 y.i, .int .i64 y.p, .int .i64 y.s, .int .i64 y.e, .string y.n] 38)).alloc (.cells #[.int .i64 u.t, .int .i64 u.i, .int .i64 u.p, .int .i64 u.s, .int .i64 u.e, .string u.n] 38) = Y := ⟨_, rfl⟩
          have hYs : w1.heap.size ≤ Y.heap.size := by rw [← hYd]; have := HW1.out; simp; omega
          rw [hYd] at hY hboxY hov hnv hpush
          have hmY := hY.u.map
          have HYD := hide hYd
          obtain ⟨n, hn⟩ : ∃ n, (Uof L (S.take k) y.p).length = n := ⟨_, rfl⟩
          have hn64 : n ≤ 64 := by
            rw [← hn]
            unfold Uof
            split
            · simp
            · unfold kids
              have := List.length_filter_le (fun x : Sp => x.p == y.p) (S.take k)
              rw [List.length_take] at this
              omega
          rw [hn] at hE hov hnv hvv hpush
          obtain ⟨y0, y1, y2, y3, y4, y5⟩ := hboxY.z
          have hwrY : wr.heap.size < Y.heap.size := by rw [← hYd]; simp; omega
          have HE0 : (Instr.lookup 140 (.map (some w.heap.size)) (.int .i64 y.p) false).run Tryz.prog Y = .ok (.slice pv n cv) Y := hE Y hmY
          have hmd : ∀ o, (Y.alloc o).drew.ownsMap Tryz.prog 3 heldS w.heap.size (Maps.size D') D' := fun o => by
            have := hmY.kept (World.grownBy_alloc Y o none) (by simp)
            exact this
          have HEa := hide (fun o => hE (Y.alloc o) (hmY.kept (World.grownBy_alloc Y o none) (by simp)))
          have HEd : Hid (∀ o, (Instr.lookup 140 (.map (some w.heap.size)) (.int .i64 y.p) false).run Tryz.prog (Y.alloc o).drew = .ok (.slice pv n cv) (Y.alloc o).drew) := hide (fun o => hE (Y.alloc o).drew (show (Y.alloc o).ownsMap Tryz.prog 3 heldS w.heap.size (Maps.size D') D' from hmY.kept (World.grownBy_alloc Y o none) (by simp)))
          have HEq : Hid (∀ q, (Instr.lookup 140 (.map (some w.heap.size)) (.int .i64 y.p) false).run Tryz.prog (Y.drewN q) = .ok (.slice pv n cv) (Y.drewN q)) := hide (fun q => hE (Y.drewN q) hmY)
          have HEg : Hid (∀ o w2, ((Y.alloc o).drew).grownBy w2 (Value.slice pv n cv).ownBlock → (Instr.lookup 140 (.map (some w.heap.size)) (.int .i64 y.p) false).run Tryz.prog w2 = .ok (.slice pv n cv) w2) := hide (fun o w2 hg => hE w2 ((hmd o).kept hg (fun e => (hnv _ e.symm).1 rfl)))
          have HNV : Hid ((Value.slice pv n cv).ownBlock ≠ some wr.heap.size) := hide (fun e => by
            rcases hvv with ⟨hh, ev⟩ | ⟨_, ev⟩
            · have := ((HINV.out.1.u.vals _ hh).2.lt _ (by rw [← ev]; exact e)).2
              omega
            · rw [ev] at e
              cases e)
          have HOV : Hid (Y.ownsRow w1.heap.size 38 6 (.slice pv n cv) n ((Uof L (S.take k) y.p).flatMap spC)) := hide (by
            have := hov
            unfold OwnS at this
            rw [hn] at this
            exact this)
          have HPUSH := hide hpush
          have HNB : Hid (wr.heap.size ≠ w.heap.size) := hide (by have := HW1.out; have := HSZ1.out; omega)
          have HNN := hide hn
          obtain ⟨i0, hi0, hzz0, hzz1, hzz2⟩ := info_parts Tryz.infoSp
          obtain ⟨t, i, q, s, e, nm⟩ := y
          obtain ⟨ut, ui, up, us, ue, un⟩ := u
          dsimp only at *
          clear hl hf hpu hbox hY hboxY hE hov hnv hvv hpush hYd hmY hmd hn
          go_wp2_with fail
          rw [HYD.out]
          have hqd : ∀ o, (Instr.lookup 140 (.map (some w.heap.size)) (.int .i64 q) false).run Tryz.prog (Y.alloc o).drew = .ok (.slice pv n cv) (Y.alloc o).drew := HEd.out
          have hqd' : (Instr.lookup 140 (.map (some w.heap.size)) (.int .i64 q) false).run Tryz.prog Y.drew = .ok (.slice pv n cv) Y.drew := HEq.out 1
          go_region_held3 (fun W => W.cell? ⟨wr.heap.size, 0, none⟩ = some (.int .i64 t) ∧ W.cell? ⟨wr.heap.size, 1, none⟩ = some (.int .i64 i) ∧ W.cell? ⟨wr.heap.size, 2, none⟩ = some (.int .i64 q) ∧ W.cell? ⟨wr.heap.size, 3, none⟩ = some (.int .i64 s) ∧ W.cell? ⟨wr.heap.size, 4, none⟩ = some (.int .i64 e) ∧ W.cell? ⟨wr.heap.size, 5, none⟩ = some (.string nm))
            (first
              | go_keep
              | (go_split_ands
                 refine ⟨?_, ?_, ?_, ?_, ?_, ?_⟩ <;> (rw [hgrow.cell_far _ (by simp; omega) (Ne.symm HNV.out)]; assumption))
              | (go_split_ands
                 refine ⟨?_, ?_, ?_, ?_, ?_, ?_⟩ <;> (rw [hg3.cell_far _ (by have := hgrow.size; simp at this ⊢; omega) (fun e => HNB.out (by injection e))]; assumption)))
            ((refine step_append_lies _ (by rfl) _ _ _ (by rfl) w1.heap.size 38 i0 _ 6 56 Tryz.underlying31 hi0 hzz0 hzz1 hzz2 rfl (by omega) (.slice pv n cv) n _ (by rfl) ((World.ownsRow.alloc HOV.out _).drew)
                ⟨Y.heap.size, 0, none⟩ 1 1 [.int .i64 t, .int .i64 i, .int .i64 q, .int .i64 s, .int .i64 e, .string nm] (by rfl) (by rfl) (World.news_of_block (cs := #[.int .i64 t, .int .i64 i, .int .i64 q, .int .i64 s, .int .i64 e, .string nm]) (t := 38) (fr := (0, 0)) (heap_alloc_new Y _)) (by simp [Value.oneCell'])
                (by omega) (by simp only [maxLen]; omega) (by omega) (by simp; omega) (Y.heap.size + 1) (by simp) ?_; intro gg cap w2 hown1 hgrow hat2 hlt2; obtain ⟨w3, V3, D3, hrun, hinv3, hsz3, hg3⟩ := HPUSH.out _ gg cap w2 hown1 hgrow hat2; have HI3 := hide (And.intro hinv3 hsz3); clear hinv3 hsz3))
          all_goals
            go_wp2
            go_roundw
            case rel =>
              refine ⟨k + 1, pr, po, mr, cr, mo, co, rfl, rfl, by have := HKS.out; omega, by go_num, hide ⟨V3, D3, ?_, Nat.le_trans HI3.out.2 (Nat.succ_le_succ HINV.out.2)⟩⟩
              rw [HTK.out, rootsB_snoc, orphsB_snoc, Uof_kid HP.out, if_neg (fun h => HP.out (.inl h)), if_neg (fun h => HP.out (.inr h.2)), List.append_nil, List.append_nil]
              exact HI3.out.1
            case measure => simp [intOf]; have := HKS.out; omega
    · have hkS : k = S.length := by have := HNS.out; omega
      subst hkS
      obtain ⟨V, D', hinv, hsz⟩ := HT.out.inv
      rw [List.take_length] at hinv
      have hrl : (rootsB S).length ≤ 64 := by
        unfold rootsB roots
        rw [List.length_map]
        have := List.length_filter_le (fun x : Sp => x.p == 0) S
        omega
      have hol : (orphsB L S).length ≤ 64 := by
        unfold orphsB
        rw [List.length_map]
        have := List.length_filter_le (fun x : Sp => !(x.p == 0) && !(fnd L x.p).isSome) S
        omega
      have HINV := hide hinv
      have HL2 := hide (And.intro hrl hol)
      clear hinv hsz hrl hol
      go_wp2_with (at_builtin; go_must (refine wpList_pushesB rfl _ _ rfl rfl rfl rfl HINV.out.r HINV.out.o.brs HINV.out.chg.size (by have := HL2.out; omega) ?_); intro v5 w5 ho5 hb5 hg5; obtain ⟨p5, m5, c5, rfl⟩ := ho5.brs.sl; have hu5 := HINV.out.u.grown hg5 HINV.out.rU; have hc5 := chg_grown HINV.out.chg hg5 (fun i hi => .inr (HINV.out.r.lt i hi).1); have hm5 := ho5.brs.len.1; have H5 := hide (And.intro ho5 (And.intro hu5 (And.intro hc5 hm5))); clear ho5 hb5 hg5 hu5 hc5 hm5)
      obtain ⟨T, hT⟩ : ∃ T, rootsB S ++ orphsB L S = T := ⟨_, rfl⟩
      rw [hT] at H5
      obtain ⟨r, hr⟩ := HOK.out.2.tidy
      have htop : brs S = T.flatMap fun x => unf S 64 x.d x.o x.s := by rw [← hT]; exact brs_tops HFS.out
      have hTm : ∀ x ∈ T, x.s ∈ S ∧ x.d = 0 := by rw [← hT]; exact tops_mem
      have HTOP := hide (And.intro htop (brs_len hr hS64))
      have HTM := hide hTm
      have HDEEP := hide (fun t (ht : t ∈ S) => deep_all hr ht hS64)
      have hUS : ∀ t ∈ S, Uof L S t.i = kids S t.i := fun t ht => by
        unfold Uof
        rw [if_neg]
        rintro (h0 | h0)
        · have := hr.pos t ht
          omega
        · rw [fnd_of HOK.out.1.ids (HMEM.out t ht)] at h0
          cases h0
      have hwfS : ∀ t ∈ S, (Lit.int .i64 t.i).wf = true := fun t ht => (spans_wf HOK.out.2 ht).1
      have HUS := hide (And.intro hUS hwfS)
      have hm128 : m5 ≤ 128 := by
        have h1 := H5.out.2.2.2
        rw [← hT, List.length_append] at h1
        have := HL2.out
        omega
      clear hT htop hTm hr hUS hwfS
      go_loopw [10, 12, 57] (fun v _ ix wr => ∃ (k : Nat) (p : Option Addr) (m c : Nat), v = .slice p m c ∧ k ≤ T.length ∧ ix = .int .i64 k ∧ Hid (OwnB w5.heap.size wr (.slice p m c) ((T.take k).flatMap fun x => unf S 64 x.d x.o x.s) ∧ Ext2 w5 (.slice none 0 0) wr (.slice p m c))) (fun _ _ ix _ => T.length - (intOf ix).toNat)
      case atStart => exact ⟨0, none, 0, 0, rfl, Nat.zero_le _, rfl, hide ⟨OwnB.nil _ _, Ext2.refl _ _⟩⟩
      case round =>
        obtain ⟨k, p, m, c, rfl, hk2, rfl, HR⟩ := hrel
        by_cases hlt2 : (k : Int) < (m5 : Int)
        · obtain ⟨gT, oT, rfl, hx⟩ := H5.out.1.brs.at_ (by omega)
          obtain ⟨x, hxk⟩ : ∃ x, T[k]? = some x := ⟨_, List.getElem?_eq_getElem (by have := H5.out.2.2.2; omega)⟩
          have hat : BrAt wr gT (oT + k * 8) x := fun j u hj => cell_ext HR.out.2 (hx k x hxk j u hj) (by simp [Value.ownBlock])
          obtain ⟨oo, hoo⟩ : ∃ oo, oT + k * 8 = oo := ⟨_, rfl⟩
          rw [hoo] at hat
          have z0 := hat.c0
          have z1 := hat.c1
          have z2 := hat.c2
          have z3 := hat.c3
          have z4 := hat.c4
          have z5 := hat.c5
          have z6 := hat.c6
          have z7 := hat.c7
          have hkT : k < T.length := (List.getElem?_eq_some_iff.1 hxk).1
          have htk : T.take (k + 1) = T.take k ++ [x] := by rw [List.take_add_one, hxk]; rfl
          obtain ⟨hxS, hxd⟩ := HTM.out x (List.mem_of_getElem? hxk)
          have hbig : ((T.take k).flatMap fun x => unf S 64 x.d x.o x.s).length + (unf S 64 x.d x.o x.s).length ≤ 1000000 := by
            have h1 := HTOP.out.2
            rw [HTOP.out.1, ← List.take_append_drop (k + 1) T, htk, List.flatMap_append, List.flatMap_append, List.length_append, List.length_append] at h1
            have h2 : ([x].flatMap fun x => unf S 64 x.d x.o x.s) = unf S 64 x.d x.o x.s := by simp
            rw [h2] at h1
            omega
          have hu := H5.out.2.1.ext HR.out.2 (fun i hi => by cases hi)
          have hbox := Ext2.alloc wr (.slice p m c) (.cells #[.int .i64 x.d, .bool x.o, .int .i64 x.s.t, .int .i64 x.s.i, .int .i64 x.s.p, .int .i64 x.s.s, .int .i64 x.s.e, .string x.s.n] 67)
          have hcall := unfold_any (B := w5.heap.size) HUS.out.1 HUS.out.2 64 (wr.alloc (.cells #[.int .i64 x.d, .bool x.o, .int .i64 x.s.t, .int .i64 x.s.i, .int .i64 x.s.p, .int .i64 x.s.s, .int .i64 x.s.e, .string x.s.n] 67)) p m c _ x hxS (HDEEP.out _ hxS) (hu.1.ext hbox hu.2).1 hu.2 (by have := HR.out.2.1.size; simp; omega) (show OwnB w5.heap.size (wr.alloc _) (.slice p m c) _ from World.ownsRow.alloc HR.out.1 _) (by omega) (by omega) hbig
          have HC := hide hcall
          have HBOX := hide hbox
          have HTK := hide htk
          have HKT := hide hkT
          clear hx hxk hat hcall htk hxS hxd hbig hu hbox hkT
          obtain ⟨xd, xo, xt, xi, xp, xs, xe, xn⟩ := x
          dsimp only at *
          go_wp2_with fail
          refine HC.out.mono ?_
          rintro e6 w6 ⟨p6, m6, c6, rfl, ho6, he6⟩
          have H6 := hide (And.intro ho6 ((HR.out.2.trans HBOX.out).trans he6))
          clear ho6 he6
          go_wp2
          go_roundw
          case rel =>
            refine ⟨k + 1, p6, m6, c6, rfl, by have := HKT.out; omega, by go_num, hide ⟨?_, H6.out.2⟩⟩
            rw [HTK.out, List.flatMap_append]
            have h2 : ([(⟨xd, xo, ⟨xt, xi, xp, xs, xe, xn⟩⟩ : Br)].flatMap fun x => unf S 64 x.d x.o x.s) = unf S 64 xd xo ⟨xt, xi, xp, xs, xe, xn⟩ := by simp
            rw [h2]
            exact H6.out.1
          case measure => simp [intOf]; have := HKT.out; omega
        · have hkT : k = T.length := by have := H5.out.2.2.2; omega
          subst hkT
          have hfin := HR.out.1
          rw [List.take_length, ← HTOP.out.1] at hfin
          have hb5 : Below w.heap.size w w5 := by
            have hb0 : Below w.heap.size w w1 := ((Below.refl w.heap.size w).alloc (Nat.le_refl _) (.map #[] 0)).trans (HB1.out.mono (by simp))
            exact Chg.to_below hb0 H5.out.2.2.1 (fun i hi => by omega)
          have hbf : Below w.heap.size w wr := hb5.grown HR.out.2.1 hb5.size (fun i hi => by cases hi)
          have HF := hide (And.intro (hfin.mono hb5.size) hbf)
          clear hfin hb5 hbf
          go_wp2
          go_ret
          exact ⟨_, rfl, HF.out.1, HF.out.2⟩
end Go.Proofs.YtimjplkehlgelaaGreat
