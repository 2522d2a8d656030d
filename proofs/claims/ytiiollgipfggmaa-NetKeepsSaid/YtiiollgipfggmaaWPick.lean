/- The record with which bytes begin: by the program and by the document. -/
import Derived.Test.YtiiollgipfggmaaWPickP
import Derived.Test.YtiiollgipfggmaaScan
import Derived.Deep.RegionHeld3
import Derived.Deep.DrawnRows
import Derived.Laws.StructEq
namespace Go.Proofs.Ytiiollgipfggmaa
set_option linter.unusedVariables false
set_option linter.unusedSimpArgs false
open Go.RowKit

theorem eg93 : Try.prog.eqGuardType Try.prog.depth 96 = false := by kernel_rfl
theorem eq9999 (w : World) (a b : Int) : (Op.equalIn 9999 5 (.int .u8 a) (.int .u8 b)).run Try.prog w = .ok (a == b) w := run_equalIn_int w 9998 5 .u8 .u8 a b Try.underlying5
theorem part93 (w : World) (a0 a1 a2 a3 : Int) : (part 5 #[.int .u8 a0, .int .u8 a1, .int .u8 a2, .int .u8 a3] 0).run Try.prog w = .ok (.int .u8 a0) w ∧ (part 5 #[.int .u8 a0, .int .u8 a1, .int .u8 a2, .int .u8 a3] 1).run Try.prog w = .ok (.int .u8 a1) w ∧
    (part 5 #[.int .u8 a0, .int .u8 a1, .int .u8 a2, .int .u8 a3] 2).run Try.prog w = .ok (.int .u8 a2) w ∧ (part 5 #[.int .u8 a0, .int .u8 a1, .int .u8 a2, .int .u8 a3] 3).run Try.prog w = .ok (.int .u8 a3) w := by
  refine ⟨?_, ?_, ?_, ?_⟩ <;> kernel_rfl
theorem eq_tails (W : World) (a0 a1 a2 a3 b0 b1 b2 b3 : Int) : (Op.equalIn 10000 96 (.agg #[.int .u8 a0, .int .u8 a1, .int .u8 a2, .int .u8 a3]) (.agg #[.int .u8 b0, .int .u8 b1, .int .u8 b2, .int .u8 b3])).run Try.prog W = .ok (a0 == b0 && (a1 == b1 && (a2 == b2 && a3 == b3))) W := by
  have pa := fun w => part93 w a0 a1 a2 a3
  have pb := fun w => part93 w b0 b1 b2 b3
  rw [show (10000 : Nat) = 9999 + 1 from rfl]
  rw [Op.equalIn]
  simp [run_underlying Try.underlying96, List.range', eq9999, Try.sizeOf5, pa, pb]
  by_cases h0 : a0 = b0 <;> by_cases h1 : a1 = b1 <;> by_cases h2 : a2 = b2 <;> by_cases h3 : a3 = b3 <;> simp [h0, h1, h2, h3]

theorem neq_tails (W : World) (s0 s1 s2 s3 t0 t1 t2 t3 : UInt8) (z : Bool) (hz : z = !decide ([s0, s1, s2, s3] = [t0, t1, t2, t3])) :
    (binOp .neq 96 (.agg #[.int .u8 (s0.toNat : Int), .int .u8 (s1.toNat : Int), .int .u8 (s2.toNat : Int), .int .u8 (s3.toNat : Int)]) (.agg #[.int .u8 (t0.toNat : Int), .int .u8 (t1.toNat : Int), .int .u8 (t2.toNat : Int), .int .u8 (t3.toNat : Int)])).run Try.prog W = .ok (.bool z) W := by
  rw [run_neq_struct, eq_tails, hz]
  simp only [Result.andThen_ok, Result.ok.injEq, Value.bool.injEq, and_true]
  congr 1
  rw [Bool.eq_iff_iff]
  have e : ∀ a b : UInt8, ((a.toNat : Int) == (b.toNat : Int)) = (a == b) := fun a b => by
    rw [Bool.eq_iff_iff]
    simp only [beq_iff_eq]
    constructor
    · intro h
      exact UInt8.toNat_inj.1 (by omega)
    · rintro rfl
      rfl
  simp [e]

theorem balloc {a w : World} (h : Below a.heap.size a w) (o : Obj) : Below a.heap.size a (w.alloc o) := h.alloc h.size o

theorem ret_slice {v : Value} {a a' b b' : Int} (h1 : a = a') (h2 : b = b') : Ending.returned (.tuple #[v, .int .i64 a, .int .i64 b]) = .returned (.tuple #[v, .int .i64 a', .int .i64 b']) := by rw [h1, h2]

/-- What a pick leaves. -/
def PickPost (w : World) (P : List UInt8) (K E : Nat) (e : Ending) (w' : World) : Prop :=
  ∃ v, e = .returned (.tuple #[v, .int .i64 K, .int .i64 E]) ∧ Own w.heap.size w' v P ∧ Below w.heap.size w w'

set_option maxRecDepth 200000 in
set_option maxHeartbeats 2000000 in
/-- wire.Pick. -/
theorem wirePick_any {w : World} {v : Value} {l : List UInt8} (hv : By w v l) {P : List UInt8} {K E : Nat} (hP : pickL l = (P, K, E)) :
    Calls Try.prog 51 #[v] w (PickPost w P K E) := by
  obtain ⟨p, n, c, rfl⟩ := hv.sl
  obtain ⟨hn, hnc⟩ := hv.len
  have hmm := hv.lenMax
  have HV := hide hv
  have HN := hide hn
  clear hv hn
  cases l with
  | nil =>
    have h0 : n = 0 := HN.out
    have g1 : ((n : Int) == 0) = true := by simp; omega
    simp only [pickL, Prod.mk.injEq] at hP
    obtain ⟨rfl, rfl, rfl⟩ := hP
    clear h0
    go_enter Try.func51, Try.ntmps51
    go_wp2
    go_ret3
    exact ⟨_, rfl, Own.nil _ _, Below.refl _ _⟩
  | cons x r =>
    have hn1 : n = r.length + 1 := HN.out
    have g1 : ((n : Int) == 0) = false := by simp; omega
    have hp : (0 : Int) < (n : Int) := by omega
    obtain ⟨b, o, x', rfl, hx, hcell⟩ := HV.out.cellAt (k := 0) (by omega)
    simp at hx
    subst hx
    rw [Nat.add_zero] at hcell
    rw [pickL_cons] at hP
    by_cases h93 : x.toNat ≠ 93
    · have g2 : ((x.toNat : Int) != 93) = true := by simp; omega
      rw [if_pos h93] at hP
      simp only [Prod.mk.injEq] at hP
      obtain ⟨rfl, rfl, rfl⟩ := hP
      clear h93 hn1
      go_enter Try.func51, Try.ntmps51
      go_wp2
      go_ret3
      exact ⟨_, rfl, Own.nil _ _, Below.refl _ _⟩
    · have g2 : ((x.toNat : Int) != 93) = false := by simp; omega
      rw [if_neg h93] at hP
      obtain ⟨N, KK, e0, hr⟩ : ∃ N KK e0, readNum r = (N, KK, e0) := ⟨_, _, _, rfl⟩
      rw [hr] at hP
      dsimp only at hP
      have HR := hide hr
      have HP := hide hP
      have HN1 := hide hn1
      clear hr hP hn1 h93
      go_enter Try.func51, Try.ntmps51
      go_wp2_with fail
      have hB := heap_alloc_new w (.cells #[.slice (some ⟨b, o, none⟩) n c, .int .i64 1] 108)
      have hV1 := (HV.out.alloc (.cells #[.slice (some ⟨b, o, none⟩) n c, .int .i64 1] 108))
      refine (number_any (at_ := 1) (N := N) (K := KK) (E := e0) hB rfl rfl hV1 (by omega) (by rw [List.drop_succ_cons, List.drop_zero]; exact HR.out)).mono ?_
      rintro e w1 ⟨rfl, hh, hg⟩
      have hb1 : Below w.heap.size w w1 := ((Below.refl w.heap.size w).alloc (Nat.le_refl _) (.cells #[.slice (some ⟨b, o, none⟩) n c, .int .i64 1] 108)).grown hg (by simp) (fun k hk => by injection hk with hk; omega)
      have hbs1 := hb1.size
      have hc0 : w1.cell? ⟨w.heap.size, 0, none⟩ = some (.slice (some ⟨b, o, none⟩) n c) := by
        rw [cell_of_row w1 w.heap.size 0 _ 108 (0, 0) hh]
        simp
      have hc1 : w1.cell? ⟨w.heap.size, 1, none⟩ = some (.int .i64 ((1 + KK : Nat) : Int)) := by
        rw [cell_of_row w1 w.heap.size 1 _ 108 (0, 0) hh]
        simp
      have hHV1 := hide (HV.out.below hb1)
      clear hh hg hB hV1
      by_cases he0 : e0 ≠ 0
      · have g3 : ((e0 : Int) != 0) = true := by simp; omega
        have hp := HP.out
        unfold pickB at hp
        rw [if_pos he0] at hp
        simp only [Prod.mk.injEq] at hp
        obtain ⟨rfl, rfl, rfl⟩ := hp
        clear he0 HP HR HN1
        go_wp2
        go_ret3
        exact ⟨_, rfl, Own.nil _ _, hb1⟩
      · have he1 : e0 = 0 := by omega
        subst he1
        have hform := readNum_form HR.out
        have hKK := hform.1
        have hKK9 := hform.2.1
        by_cases hbig : 65536 < N
        · have g4 : (65536 : Int) < (N : Int) := by omega
          have hp := HP.out
          unfold pickB at hp
          rw [if_neg (by simp), if_pos hbig] at hp
          simp only [Prod.mk.injEq] at hp
          obtain ⟨rfl, rfl, rfl⟩ := hp
          clear he0 HP HR HN1 hbig hform
          go_wp2
          go_ret3
          exact ⟨_, rfl, Own.nil _ _, hb1⟩
        · have g4 : ¬ (65536 : Int) < (N : Int) := by omega
          have hKn : 1 + KK ≤ n := by have := HN1.out; omega
          have hKK' : (KK : Int) ≤ 9 := by omega
          clear he0 hform hKK hKK9
          go_wp2_with fail
          refine (left_any hc0 hc1 hKn hmm).mono ?_
          rintro e w2 ⟨rfl, q, rfl⟩
          by_cases hlen : (n : Int) - ((1 + KK : Nat) : Int) < (N : Int) + 4
          · have hp := HP.out
            unfold pickB at hp
            rw [if_neg (by simp), if_neg hbig, if_pos (by have := HN1.out; rw [List.length_cons]; omega)] at hp
            simp only [Prod.mk.injEq] at hp
            obtain ⟨rfl, rfl, rfl⟩ := hp
            clear HP HR HN1 hbig
            go_wp2
            go_ret3
            exact ⟨_, rfl, Own.nil _ _, below_drewN hb1 q⟩
          · go_wp2_with fail
            clear hcell g1 g2 hp hc0
            obtain ⟨en, hen⟩ : ∃ en, 1 + KK + N = en := ⟨_, rfl⟩
            have hen' : 1 + (KK : Int) + (N : Int) = (en : Int) := by omega
            rw [hen']
            have henn : en + 4 ≤ n := by omega
            have hei : (en : Int) ≤ (n : Int) := by omega
            have hec : (en : Int) ≤ (c : Int) := by omega
            obtain ⟨q2, hcutF, hF⟩ := cut_from hHV1.out (show en ≤ n by omega)
            have hT := cut_to hHV1.out (show en ≤ n by omega)
            have hcutT := fun W => run_cut_to W (some ⟨b, o, none⟩) n c en (by omega)
            obtain ⟨q3, hcutM, hM⟩ := cut_mid (j := 1 + KK) (k := en) hHV1.out (by omega) (show en ≤ n by omega)
            have e3 : ((1 + KK : Nat) : Int) = 1 + (KK : Int) := by omega
            rw [e3] at hcutM
            obtain ⟨m3, hm3⟩ : ∃ m3, en - (1 + KK) = m3 := ⟨_, rfl⟩
            obtain ⟨d3, hd3⟩ : ∃ d3, c - (1 + KK) = d3 := ⟨_, rfl⟩
            rw [hm3, hd3] at hM
            simp only [hm3, hd3] at hcutM
            have hlt1 : w.heap.size < w1.heap.size := World.block_lt_of_cell? w1 _ hc1
            have HBIG := hide hbig
            have HEN := hide hen
            clear hm3 hd3 e3 hbig
            obtain ⟨m2, hm2⟩ : ∃ m2, n - en = m2 := ⟨_, rfl⟩
            obtain ⟨d2, hd2⟩ : ∃ d2, c - en = d2 := ⟨_, rfl⟩
            rw [hm2, hd2] at hF
            simp only [hm2, hd2] at hcutF
            have hlt := crc_lt ((x :: r).take en)
            have c69 : ∀ W, Below w1.heap.size w1 W → Calls Try.prog 80 #[.slice q2 m2 d2] W fun e w' => e = .returned (tailB (((x :: r).drop en).take 4)) ∧ Below w1.heap.size w1 w' ∧ Below W.heap.size W w' := fun W hW =>
              (tailAt_any (hF.below hW) (by have := HN.out; rw [List.length_drop]; omega)).mono fun e w' ⟨he, hb⟩ => ⟨he, hW.trans (hb.mono hW.size), hb⟩
            have c23 : ∀ (W : World) (g : Nat), W.heap[g]? = some (.cells #[.slice (some ⟨b, o, none⟩) en c] 24 (0, 0)) → Below w1.heap.size w1 W → Calls Try.prog 68 #[.slice (some ⟨g, 0, none⟩) 1 1] W fun e w' => e = .returned (.int .u32 (crc ((x :: r).take en) : Nat)) ∧ W = w' := fun W g hW hb => by
              have hbs : Bss W (.slice (some ⟨g, 0, none⟩) 1 1) [(x :: r).take en] := Bss.of_parts (vs := [.slice (some ⟨b, o, none⟩) en c]) rfl (Nat.le_refl _) (by decide) rfl
                (fun i v hv => by rw [Nat.zero_add, cell_of_row W g i _ 24 (0, 0) hW]; simpa using hv)
                (fun i u m hu hm => by
                  match i, hu, hm with
                  | 0, hu, hm => simp only [List.getElem?_cons_zero, Option.some.injEq] at hu hm; subst hu hm; exact hT.below hb)
              have := wireSum_any hbs
              rwa [flatten_one] at this
            obtain ⟨S, hS⟩ : ∃ S, crc ((x :: r).take en) = S := ⟨_, rfl⟩
            rw [hS] at hlt
            simp only [hS] at c23
            obtain ⟨t0, t1, t2, t3, ht⟩ : ∃ t0 t1 t2 t3, tailL S = [t0, t1, t2, t3] := ⟨_, _, _, _, rfl⟩
            have hl4 : (((x :: r).drop en).take 4).length = 4 := by have := HN.out; rw [List.length_take, List.length_drop]; omega
            obtain ⟨s0, s1, s2, s3, hs4⟩ : ∃ s0 s1 s2 s3, ((x :: r).drop en).take 4 = [s0, s1, s2, s3] := by
              match ((x :: r).drop en).take 4, hl4 with
              | [s0, s1, s2, s3], _ => exact ⟨s0, s1, s2, s3, rfl⟩
            rw [hs4] at c69
            have l69 : tailB [s0, s1, s2, s3] = .agg #[.int .u8 (s0.toNat : Int), .int .u8 (s1.toNat : Int), .int .u8 (s2.toNat : Int), .int .u8 (s3.toNat : Int)] := rfl
            have l66 : tailB [t0, t1, t2, t3] = .agg #[.int .u8 (t0.toNat : Int), .int .u8 (t1.toNat : Int), .int .u8 (t2.toNat : Int), .int .u8 (t3.toNat : Int)] := rfl
            have c66 : ∀ W, Below w1.heap.size w1 W → Calls Try.prog 67 #[.int .u32 (S : Int)] W fun e w' => e = .returned (tailB [t0, t1, t2, t3]) ∧ Below w1.heap.size w1 w' ∧ Below W.heap.size W w' := fun W hW =>
              (tailOf_any S hlt W).mono fun e w' ⟨he, hb⟩ => ⟨by rw [he, ht], hW.trans (hb.mono hW.size), hb⟩
            rw [l69] at c69
            rw [l66] at c66
            have C69 := hide c69
            have C23 := hide c23
            have C66 := hide c66
            have HTT := hide ht
            have HSS := hide hS
            have HS4 := hide hs4
            have HM2 := hide hm2
            clear c69 c23 c66 ht hS hs4 hm2 hd2 hen hen' hl4 hF hT
            have hbq := below_drewN (Below.refl w1.heap.size w1) q
            have eg := fun W => run_eqGuard_agg (P := Try.prog) W .neq 96 (.tmp 38) (.tmp 44) #[.int .u8 (s0.toNat : Int), .int .u8 (s1.toNat : Int), .int .u8 (s2.toNat : Int), .int .u8 (s3.toNat : Int)] #[.int .u8 (t0.toNat : Int), .int .u8 (t1.toNat : Int), .int .u8 (t2.toNat : Int), .int .u8 (t3.toNat : Int)] eg93
            by_cases hEq : [s0, s1, s2, s3] = [t0, t1, t2, t3]
            · have nq := fun W => neq_tails W s0 s1 s2 s3 t0 t1 t2 t3 false (by simp only [hEq]; rfl)
              have HEQ := hide hEq
              clear hEq
              go_region_held3 (fun _ => True) (trivial) (first
                | (go_at_call 80; refine (C69.out _ (by repeat (first | assumption | exact Below.refl _ _ | refine below_drewN ?_ _ | refine Below.drew ?_ | refine balloc ?_ _))).mono ?_; rintro e w3 ⟨rfl, hb3, hq3⟩)
                | (go_at_call 67; refine (C66.out _ (by repeat (first | assumption | exact Below.refl _ _ | refine below_drewN ?_ _ | refine Below.drew ?_ | refine balloc ?_ _))).mono ?_; rintro e w4 ⟨rfl, hb4, hq4⟩)
                | (go_at_call 68; refine (C23.out _ _ (by first | exact heap_alloc_new _ _ | exact (hq3.block _ (by simp)).trans (heap_alloc_new _ _)) (by repeat (first | assumption | exact Below.refl _ _ | refine below_drewN ?_ _ | refine Below.drew ?_ | refine balloc ?_ _))).mono ?_; rintro e w5 ⟨rfl, rfl⟩))
              all_goals
                have hc14 : w4.cell? ⟨w.heap.size, 1, none⟩ = some (.int .i64 (1 + (KK : Int))) := by
                  rw [hb4.cell (p := ⟨w.heap.size, 1, none⟩) hlt1, hc1]
                  rfl
                have hb4' := hb1.trans (hb4.mono hbs1)
                have HB4 := hide hb4
                have HB4' := hide hb4'
                clear eg nq hb3 hq3 hq4 hbq hc1 hb4 hb4' hcutF hcutT
                go_wp2_with fail
                refine (clone_any (hM.below HB4.out) (by rw [List.length_drop, List.length_take]; have := HEN.out; omega)).mono ?_
                rintro e w6 ⟨v6, rfl, ho6, hb6⟩
                have hs4 := HB4'.out.size
                have HO6 := hide (ho6.mono hs4)
                have HB6 := hide (HB4'.out.trans (hb6.mono hs4))
                clear ho6 hb6 hcutM
                go_wp2
                go_ret3
                have hp := HP.out
                unfold pickB at hp
                rw [if_neg (by simp), if_neg HBIG.out, if_neg (by have := HN1.out; rw [List.length_cons]; omega), HEN.out, HS4.out, HSS.out, HTT.out, if_pos HEQ.out] at hp
                simp only [Prod.mk.injEq] at hp
                obtain ⟨hp1, hp2, rfl⟩ := hp
                refine ⟨v6, ret_slice (by omega) rfl, ?_, HB6.out⟩
                have e1 : ((x :: r).take en).drop (1 + KK) = P := by
                  rw [← hp1, ← HEN.out, List.drop_take, show 1 + KK + N - (1 + KK) = N by omega, show 1 + KK = KK + 1 by omega, List.drop_succ_cons]
                rw [← e1]
                exact HO6.out
            · have nq := fun W => neq_tails W s0 s1 s2 s3 t0 t1 t2 t3 true (by simp only [hEq]; rfl)
              have HEQ := hide hEq
              clear hEq
              go_region_held3 (fun _ => True) (trivial) (first
                | (go_at_call 80; refine (C69.out _ (by repeat (first | assumption | exact Below.refl _ _ | refine below_drewN ?_ _ | refine Below.drew ?_ | refine balloc ?_ _))).mono ?_; rintro e w3 ⟨rfl, hb3, hq3⟩)
                | (go_at_call 67; refine (C66.out _ (by repeat (first | assumption | exact Below.refl _ _ | refine below_drewN ?_ _ | refine Below.drew ?_ | refine balloc ?_ _))).mono ?_; rintro e w4 ⟨rfl, hb4, hq4⟩)
                | (go_at_call 68; refine (C23.out _ _ (by first | exact heap_alloc_new _ _ | exact (hq3.block _ (by simp)).trans (heap_alloc_new _ _)) (by repeat (first | assumption | exact Below.refl _ _ | refine below_drewN ?_ _ | refine Below.drew ?_ | refine balloc ?_ _))).mono ?_; rintro e w5 ⟨rfl, rfl⟩))
              all_goals
                have HB4' := hide (hb1.trans (hb4.mono hbs1))
                clear eg nq hb3 hq3 hq4 hbq hc1 hb4 hcutF hcutT hcutM
                go_wp2
                go_ret3
                have hp := HP.out
                unfold pickB at hp
                rw [if_neg (by simp), if_neg HBIG.out, if_neg (by have := HN1.out; rw [List.length_cons]; omega), HEN.out, HS4.out, HSS.out, HTT.out, if_neg HEQ.out] at hp
                simp only [Prod.mk.injEq] at hp
                obtain ⟨rfl, rfl, rfl⟩ := hp
                exact ⟨_, rfl, Own.nil _ _, HB4'.out⟩
end Go.Proofs.Ytiiollgipfggmaa
