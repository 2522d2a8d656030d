/- The law ForestPlays. -/
import Derived.Test.YtbbdijnkgkabbaaFTells
import Derived.Test.YtbbdijnkgkabbaaFRefAddHand
import Derived.Test.YtbbdijnkgkabbaaFConcat
import Derived.Test.YtbbdijnkgkabbaaFAw2
namespace Go.Proofs.Ytbbdijnkgkabbaa
set_option linter.unusedVariables false
set_option linter.unusedSimpArgs false
open Go.RowKit

theorem cn_neq (a b c d e : Int) (w : World) : (binOp .neq 36 (.agg #[.int .i64 a, .int .i64 b, .int .i64 c, .int .i64 d, .int .i64 e]) (.agg #[.int .i64 a, .int .i64 b, .int .i64 c, .int .i64 d, .int .i64 e])).run Try.prog w = .ok (.bool false) w := by
  have u3 := Try.underlying3
  have a3 := Try.isAgg3
  have z3 := Try.sizeOf3
  have hS : Try.prog.underlying 36 = some (.struct (Try.prog.fieldsOf 36)) := by kernel_rfl
  have hp : Try.prog.stoodInHeld 36 = false := by kernel_rfl
  rw [run_neq_struct, show (10000 : Nat) = 9999 + 1 from rfl, run_equalIn_agg w 9999 36 _ _ hS hp]
  simp only [Program.fieldsOf, Try.underlying36]
  go_simp
theorem RfX.map {T : Nat → Prop} {w w' : World} {g b : Nat} {tr : Int} {L : List Sp} (h : RfX T w g tr L) (hc : Chg w w' fun k => k = b) (hn : ∀ g i u, w.cell? ⟨g, i, none⟩ = some u → g ≠ b) : RfX T w' g tr L := by
  obtain ⟨c0, fr, v, a, s, d⟩ := h
  have hg := hn g 0 _ c0
  have hgb := hc.block g (lt_of_cell c0) hg
  exact ⟨hc.cell c0 hg, (World.frozen?_of_block (a := ⟨g, 1, none⟩) hgb).trans fr, v, hc.cell a (hn g 1 _ a), s.chg hc fun g i u hu => hn g i u hu, d⟩
theorem Chg.grown {w w' : World} {g : Nat} (h : Chg w w' fun k => k = g) : w.grownBy w' (some g) := ⟨h.os, h.tape, h.output, h.size, fun k hk hne => h.block k hk fun e => hne (by rw [e])⟩
set_option maxRecDepth 200000 in
set_option maxHeartbeats 4000000 in
theorem lawFoPlays_any {w : World} {tr : Int} {p : Option Addr} {n c : Nat} {ls : List (List Sp)} (hv : Sss w (.slice p n c) ls) (hl : lensS ls ≤ 1000000) (hnm : ∀ x ∈ ls.flatten, x.n.size ≤ 1048576) : Calls Try.prog 3 #[.int .i64 tr, .slice p n c] w fun e w' => e = .returned (.bool true) ∧ Below w.heap.size w w' := by
  have HA := hide awake_any
  have HV := hide hv
  have HL := hide hl
  have HN := hide hnm
  clear hl hnm hv
  by_cases ht : tr < 1 ∨ 1099511627776 < tr
  · have HNO := hide (new_none (w := w) ht)
    have HT := hide ht
    have HB := hide (Below.refl w.heap.size w)
    clear ht
    go_enter Try.func3, Try.ntmps3
    go_wp2_with fail
    refine HNO.out.mono ?_
    rintro e1 w1 ⟨rfl, hw1⟩
    have hw1 := hw1.symm
    subst hw1
    rcases HT.out with h1 | h1
    · have e1 : decide (tr < 1) = true := decide_eq_true h1
      go_wp2_with fail
      refine (HA.out _).mono ?_
      rintro e2 w2 ⟨rfl, hb2⟩
      have HB2 := hide hb2
      clear hb2
      go_wp2
      go_ret
      exact ⟨rfl, HB2.out⟩
    · have e1 : decide (tr < 1) = false := decide_eq_false (by omega)
      have e2 : decide (1099511627776 < tr) = true := decide_eq_true h1
      go_wp2_with fail
      refine (HA.out _).mono ?_
      rintro e2 w2 ⟨rfl, hb2⟩
      have HB2 := hide hb2
      clear hb2
      go_wp2
      go_ret
      exact ⟨rfl, HB2.out⟩
  · have h1 : 1 ≤ tr := by omega
    have h2 : tr ≤ 1099511627776 := by omega
    have HNW := hide (new_any (w := w) h1 h2)
    have e1 : decide (tr < 1) = false := decide_eq_false (by omega)
    have e2 : decide (1099511627776 < tr) = false := decide_eq_false (by omega)
    clear ht h1 h2
    go_enter Try.func3, Try.ntmps3
    go_wp2_with fail
    refine HNW.out.mono ?_
    rintro e1 w1 ⟨rfl, hf1, hb1⟩
    have HF1 := hide hf1
    have HB1 := hide hb1
    clear hf1 hb1
    have HX0 := hide (Below.refl w1.heap.size w1)
    have bX : Below w1.heap.size w1 (w1.alloc (.cells #[.int .i64 tr, .slice none 0 0] 29)) := (Below.refl _ _).alloc (Nat.le_refl _) _
    have hrx : RfX (fun k => k = w1.heap.size) (w1.alloc (.cells #[.int .i64 tr, .slice none 0 0] 29)) w1.heap.size tr [] := by
      have hc : ∀ i u, #[Value.int .i64 tr, .slice none 0 0][i]? = some u → (w1.alloc (.cells #[.int .i64 tr, .slice none 0 0] 29)).cell? ⟨w1.heap.size, i, none⟩ = some u := fun i u h => by
        rw [cell_of_row _ w1.heap.size _ _ _ (0, 0) (heap_alloc_new w1 _)]
        exact h
      exact ⟨hc 0 _ rfl, by rw [frozen?_alloc_cells]; simp [World.frozen?], _, hc 1 _ rfl, Sps.nil _, .inl rfl⟩
    obtain ⟨X, hX⟩ : ∃ X, w1.alloc (.cells #[.int .i64 tr, .slice none 0 0] 29) = X := ⟨_, rfl⟩
    rw [hX] at bX hrx
    have HWX : Hid (Below w.heap.size w X) := hide (HB1.out.trans (bX.mono HB1.out.size))
    have HFX := hide (HF1.out.below bX)
    obtain ⟨gx, hgx⟩ : ∃ gx, w1.heap.size = gx := ⟨_, rfl⟩
    rw [hgx] at hrx
    have HRX := hide hrx
    have HGX : Hid (w.heap.size + 1 < gx) := hide (by
      have : w.heap.size + 1 < w1.heap.size := lt_of_cell HF1.out.c0
      omega)
    obtain ⟨gf, hgf⟩ : ∃ gf, w.heap.size + 1 = gf := ⟨_, rfl⟩
    rw [hgf] at HGX HFX HF1
    have HGF := hide hgf
    have HCC := hide (concatS_any (HV.out.below HWX.out) HL.out)
    clear bX hrx HX0
    go_wp2_with fail
    refine HCC.out.mono ?_
    rintro e3 w3 ⟨v3, rfl, ho3, hb3⟩
    have HB3 := hide hb3
    have HLI := hide (light_any ho3.sps (fun x hx => Nat.le_trans (HN.out x hx) (by decide)))
    have HWB3 : Hid (Below w.heap.size w w3) := hide (HWX.out.trans (hb3.mono HWX.out.size))
    obtain ⟨q, hq⟩ : ∃ q, lightL ls.flatten = q := ⟨_, rfl⟩
    rw [hq] at HLI
    have HQ := hide hq
    clear ho3 hb3 hq HCC
    cases q
    · go_wp2_with fail
      refine HLI.out.mono ?_
      rintro e4 w4 ⟨rfl, hw4⟩
      have hw4 := hw4.symm
      subst hw4
      go_wp2_with fail
      refine (HA.out _).mono ?_
      rintro e5 w5 ⟨rfl, hb5⟩
      have HB5 := hide (HWB3.out.trans (hb5.mono HWB3.out.size))
      clear hb5
      go_wp2
      go_ret
      exact ⟨rfl, HB5.out⟩
    · have hn := HV.out.len.1
      subst hn
      have HG := hide (light_len HQ.out)
      by_cases h20 : 200 < ls.length
      · have e3 : decide ((200 : Int) < (ls.length : Int)) = true := decide_eq_true (by omega)
        clear h20
        go_wp2_with fail
        refine HLI.out.mono ?_
        rintro e4 w4 ⟨rfl, hw4⟩
        have hw4 := hw4.symm
        subst hw4
        go_wp2_with fail
        refine (HA.out _).mono ?_
        rintro e5 w5 ⟨rfl, hb5⟩
        have HB5 := hide (HWB3.out.trans (hb5.mono HWB3.out.size))
        clear hb5
        go_wp2
        go_ret
        exact ⟨rfl, HB5.out⟩
      · have e3 : decide ((200 : Int) < (ls.length : Int)) = false := decide_eq_false (by omega)
        have H20 : Hid (ls.length ≤ 200) := hide (by omega)
        have hl9 : (ls.length : Int) ≤ 200 := by omega
        clear h20
        go_wp2_with fail
        refine HLI.out.mono ?_
        rintro e4 w4 ⟨rfl, hw4⟩
        have hw4 := hw4.symm
        subst hw4
        go_wp2_with fail
        go_loopw [8, 9, 10, 11, 12, 13, 52] (fun _ _ _ _ _ _ i wr => ∃ (k : Nat) (L : List Sp), k ≤ ls.length ∧ i = .int .i64 k ∧ Hid (FoIs wr gf w.heap.size tr L ∧ RfX (fun k => k = gx) wr gx tr L ∧ Below w.heap.size w wr)) (fun _ _ _ _ _ _ i _ => ls.length - (intOf i).toNat)
        case atStart => exact ⟨0, [], by omega, rfl, hide ⟨HFX.out.below HB3.out, HRX.out.below HB3.out, HWB3.out⟩⟩
        case round =>
          obtain ⟨k, L, hk, rfl, HR⟩ := hrel
          by_cases hlt : k < ls.length
          · obtain ⟨b0, o0, qs, ms, ds, l, hp, hlk, hc0, hs0⟩ := (HV.out.below HR.out.2.2).cellAt hlt
            subst hp
            obtain ⟨_, _, _, _, _, l', hp', hlk', hc0', hs0'⟩ := HV.out.cellAt hlt
            injection hp' with hp'
            injection hp' with hp1 hp2
            subst hp1 hp2
            have hce := (HR.out.2.2.cell (lt_of_cell hc0')).trans hc0'
            rw [hc0] at hce
            injection hce with hce
            rw [← hce] at hs0'
            rw [hlk] at hlk'
            injection hlk' with hlk'
            subst hlk'
            have HSW := hide hs0'
            have hml : l ∈ ls := List.mem_of_getElem? hlk
            have hll : l.length ≤ 200 := by
              have h1 : lensS (ls.take (k + 1)) = lensS (ls.take k) + l.length := lensS_take_succ ls k l hlk
              have h2 := lensS_take_le ls (k + 1)
              have h3 := HG.out.1
              rw [flattenS_length] at h3
              omega
            have HLL := hide hll
            have HNL : Hid (∀ x ∈ l, x.n.size ≤ 1000000) := hide fun x hx => HG.out.2 x (List.mem_flatten.2 ⟨l, hml, hx⟩)
            have HCL := hide (cloneSp_any hs0 (Nat.le_trans hll (by decide)))
            have j0 : (0 : Int) ≤ (k : Int) := by omega
            have j1 : (k : Int) < (ls.length : Int) := by omega
            obtain ⟨oo, hoo⟩ : ∃ oo, o0 + k = oo := ⟨_, rfl⟩
            rw [hoo] at hc0
            clear hlk hc0' hs0 hs0' hce hml hll
            go_wp2_with fail
            refine HCL.out.mono ?_
            rintro e5 w5 ⟨v5, rfl, ho5, hb5⟩
            obtain ⟨p5, n5, c5, rfl⟩ := ho5.sps.sl
            have HO5 := hide ho5
            have HB5 := hide hb5
            have HAD := hide (add_any (HR.out.1.below hb5) ho5.sps (by have := HLL.out; omega) HNL.out)
            clear ho5 hb5 hc0 hoo
            obtain ⟨C, ev, hAV⟩ : ∃ C ev, addV tr L l = .tuple #[cnV C, .int .i64 ev] := by
              unfold addV
              by_cases h : l.all (fun x => x.ok && decide (x.t = tr)) = true
              · rw [if_pos h]
                exact ⟨_, _, rfl⟩
              · rw [if_neg h]
                exact ⟨_, _, rfl⟩
            unfold AddPost at HAD
            rw [hAV] at HAD
            have HAV := hide hAV
            clear hAV
            unfold cnV at HAD
            go_wp2_with fail
            refine HAD.out.mono ?_
            rintro e6 w6 ⟨rfl, hf6, hc6⟩
            have hbag := (HR.out.1.below HB5.out).bag
            obtain ⟨Dg, hDg⟩ := hbag
            have hx6 := (HR.out.2.1.below HB5.out).map hc6 (fun g i u hu => hDg.ne_cell hu)
            have hs6 := HO5.out.sps.chg hc6 (fun g i u hu => hDg.ne_cell hu)
            have hbw6 : Below w.heap.size w w6 := Chg.to_below (HR.out.2.2.trans (HB5.out.mono HR.out.2.2.size)) hc6 (fun k hk => by subst hk; exact Nat.le_refl _)
            obtain ⟨a0, ha0⟩ : ∃ a : Int, ((C.add : Nat) : Int) = a := ⟨_, rfl⟩
            obtain ⟨a1, ha1⟩ : ∃ a : Int, ((C.same : Nat) : Int) = a := ⟨_, rfl⟩
            obtain ⟨a2, ha2⟩ : ∃ a : Int, ((C.other : Nat) : Int) = a := ⟨_, rfl⟩
            obtain ⟨a3, ha3⟩ : ∃ a : Int, ((C.cyc : Nat) : Int) = a := ⟨_, rfl⟩
            obtain ⟨a4, ha4⟩ : ∃ a : Int, ((C.full : Nat) : Int) = a := ⟨_, rfl⟩
            have HAV2 : Hid (addV tr L l = .tuple #[.agg #[.int .i64 a0, .int .i64 a1, .int .i64 a2, .int .i64 a3, .int .i64 a4], .int .i64 ev]) := hide (by rw [HAV.out]; unfold cnV; rw [ha0, ha1, ha2, ha3, ha4])
            rw [ha0, ha1, ha2, ha3, ha4]
            have b6 : Below w6.heap.size w6 (w6.alloc (.cells #[.int .i64 a0, .int .i64 a1, .int .i64 a2, .int .i64 a3, .int .i64 a4] 36)) := (Below.refl _ _).alloc (Nat.le_refl _) _
            have hc5 : ∀ i u, #[Value.int .i64 a0, .int .i64 a1, .int .i64 a2, .int .i64 a3, .int .i64 a4][i]? = some u → (w6.alloc (.cells #[.int .i64 a0, .int .i64 a1, .int .i64 a2, .int .i64 a3, .int .i64 a4] 36)).cell? ⟨w6.heap.size, i, none⟩ = some u := fun i u h => by
              rw [cell_of_row _ w6.heap.size _ _ _ (0, 0) (heap_alloc_new w6 _)]
              exact h
            obtain ⟨Z6, hZ6⟩ : ∃ Z, w6.alloc (.cells #[.int .i64 a0, .int .i64 a1, .int .i64 a2, .int .i64 a3, .int .i64 a4] 36) = Z := ⟨_, rfl⟩
            rw [hZ6] at b6 hc5
            have HX6 := hide (hx6.below b6)
            have HF6 := hide (hf6.below b6)
            have HS6 := hide (hs6.below b6)
            have HBW6 : Hid (Below w.heap.size w Z6) := hide (hbw6.trans (b6.mono hbw6.size))
            have HNX : Hid (w6.heap.size ≠ gx) := hide (by have : gx < w6.heap.size := lt_of_cell hx6.c0; omega)
            have HN5 : Hid (l = [] ∨ ∀ k, (Value.slice p5 n5 c5).ownBlock = some k → k ≠ gx) := hide (.inr fun k' hk' => by
              have h1 := (HO5.out.lt k' hk').1
              have h2 : gx < wr.heap.size := lt_of_cell HR.out.2.1.c0
              omega)
            have HRA := refAdd_any HX6.out HR.out.1.ok (HSW.out.below HBW6.out) (by have := HLL.out; omega) HNL.out (by
              by_cases hl0 : l = []
              · exact .inl hl0
              · refine .inr fun e => ?_
                have hn0 := HSW.out.len.1
                have hp0 : 0 < l.length := List.length_pos_iff.2 hl0
                obtain ⟨g9, o9, e9, hx9⟩ := HSW.out.at_ (by omega)
                have h9 := (hx9 0 _ (List.getElem?_eq_getElem hp0)).lt
                subst e9
                have e8 : g9 = gx := by injection e
                have := HGX.out
                have := HGF.out
                omega)
            rw [HAV2.out] at HRA
            have HRA := hide HRA
            have q0 := hc5 0 _ rfl
            have q1 := hc5 1 _ rfl
            have q2 := hc5 2 _ rfl
            have q3 := hc5 3 _ rfl
            have q4 := hc5 4 _ rfl
            obtain ⟨g6, hg6⟩ : ∃ g, w6.heap.size = g := ⟨_, rfl⟩
            rw [hg6] at q0 q1 q2 q3 q4 HNX
            have HQ6 := hide (And.intro q0 (And.intro q1 (And.intro q2 (And.intro q3 q4))))
            clear hDg hx6 hs6 hbw6 b6 hc5 hf6 hc6 q0 q1 q2 q3 q4 ha0 ha1 ha2 ha3 ha4
            go_wp2_with fail
            refine HRA.out.mono ?_
            rintro e7 w7 ⟨rfl, hx7, hc7⟩
            have b7 : Below w7.heap.size w7 (w7.alloc (.cells #[.int .i64 a0, .int .i64 a1, .int .i64 a2, .int .i64 a3, .int .i64 a4] 36)) := (Below.refl _ _).alloc (Nat.le_refl _) _
            have hc5 : ∀ i u, #[Value.int .i64 a0, .int .i64 a1, .int .i64 a2, .int .i64 a3, .int .i64 a4][i]? = some u → (w7.alloc (.cells #[.int .i64 a0, .int .i64 a1, .int .i64 a2, .int .i64 a3, .int .i64 a4] 36)).cell? ⟨w7.heap.size, i, none⟩ = some u := fun i u h => by
              rw [cell_of_row _ w7.heap.size _ _ _ (0, 0) (heap_alloc_new w7 _)]
              exact h
            obtain ⟨Z7, hZ7⟩ : ∃ Z, w7.alloc (.cells #[.int .i64 a0, .int .i64 a1, .int .i64 a2, .int .i64 a3, .int .i64 a4] 36) = Z := ⟨_, rfl⟩
            rw [hZ7] at b7 hc5
            have hk7 : ∀ i u, Z6.cell? ⟨g6, i, none⟩ = some u → Z7.cell? ⟨g6, i, none⟩ = some u := fun i u h => by
              have h1 := hc7.cell h HNX.out
              exact (b7.cell (lt_of_cell h1)).trans h1
            have q0 := hk7 0 _ HQ6.out.1
            have q1 := hk7 1 _ HQ6.out.2.1
            have q2 := hk7 2 _ HQ6.out.2.2.1
            have q3 := hk7 3 _ HQ6.out.2.2.2.1
            have q4 := hk7 4 _ HQ6.out.2.2.2.2
            have r0 := hc5 0 _ rfl
            have r1 := hc5 1 _ rfl
            have r2 := hc5 2 _ rfl
            have r3 := hc5 3 _ rfl
            have r4 := hc5 4 _ rfl
            obtain ⟨g7, hg7⟩ : ∃ g, w7.heap.size = g := ⟨_, rfl⟩
            rw [hg7] at r0 r1 r2 r3 r4
            have hgfx : gf ≠ gx := by have := HGX.out; omega
            have HF7 := hide ((HF6.out.chg hc7 (fun e => hgfx e) (fun e => by have := HGX.out; have := HGF.out; omega)).below b7)
            have HX7 := hide (hx7.below b7)
            have hs7 : Sps w7 (.slice p5 n5 c5) l := HS6.out.grown hc7.grown (HN5.out.imp id fun h k hk e => h k hk (by injection e with e; exact e.symm))
            have hbw7 : Below w.heap.size w w7 := Chg.to_below HBW6.out hc7 (fun k hk => by subst hk; have := HGX.out; have := HGF.out; omega)
            have HBW7 : Hid (Below w.heap.size w Z7) := hide (hbw7.trans (b7.mono hbw7.size))
            have heq := equalSp_any (hs7.below b7) (HSW.out.below HBW7.out)
            rw [decide_eq_true rfl] at heq
            have HEQ := hide heq
            have cne := cn_neq a0 a1 a2 a3 a4
            have ene : (ev != ev) = false := by simp
            clear b7 hc5 hk7 hx7 hc7 hgfx hs7 hbw7 heq
            go_wp2_with fail
            refine HEQ.out.mono ?_
            rintro e8 w8 ⟨rfl, q8, rfl⟩
            go_wp2_with fail
            go_roundw
            case rel => exact ⟨k + 1, addP tr L l, by omega, by go_num, hide ⟨HF7.out.drewN _, HX7.out.below (bdrew _ _), HBW7.out.trans (bdrew _ _)⟩⟩
            case measure => simp [intOf]; omega
          · have HFW := hide HR.out.1
            have hno : fnd L 0 = none := fnd_none.2 fun x hx => by
              have h1 := ((Sp.ok_iff x).1 (HR.out.1.ok.ok x hx).1).i1
              omega
            have HFD := find_any HR.out.1 (k := 0) (by decide)
            rw [hno] at HFD
            obtain ⟨x0, hx0⟩ : ∃ x, sp0 = x := ⟨_, rfl⟩
            rw [show (Option.getD (none : Option Sp) sp0) = x0 from hx0] at HFD
            obtain ⟨zt, zi, zp, zs, ze, zn⟩ := x0
            have HFD : Hid (Calls Try.prog 12 #[.pointer (some ⟨gf, 0, none⟩), .int .i64 0] wr fun e w' => e = .returned (.tuple #[.agg #[.int .i64 zt, .int .i64 zi, .int .i64 zp, .int .i64 zs, .int .i64 ze, .string zn], .bool false]) ∧ Below wr.heap.size wr w') := hide HFD
            clear hno hx0
            go_wp2_with fail
            refine HFD.out.mono ?_
            rintro e5 w5 ⟨rfl, hb5⟩
            have hb6 : Below w5.heap.size w5 (w5.alloc (.cells #[.int .i64 zt, .int .i64 zi, .int .i64 zp, .int .i64 zs, .int .i64 ze, .string zn] 33)) := (Below.refl _ _).alloc (Nat.le_refl _) _
            obtain ⟨Z5, hZ5⟩ : ∃ Z, w5.alloc (.cells #[.int .i64 zt, .int .i64 zi, .int .i64 zp, .int .i64 zs, .int .i64 ze, .string zn] 33) = Z := ⟨_, rfl⟩
            rw [hZ5] at hb6
            have hb7 := hb5.trans (hb6.mono hb5.size)
            have HB5 := hide (HR.out.2.2.trans (hb7.mono HR.out.2.2.size))
            have HTE := hide (tells_any (HR.out.1.below hb7) (HR.out.2.1.is.below hb7))
            clear hb5 hb6 hb7
            go_wp2_with fail
            refine HTE.out.mono ?_
            rintro e6 w6 ⟨rfl, hb6⟩
            have HB6 := hide (HB5.out.trans (hb6.mono HB5.out.size))
            clear hb6
            go_wp2_with fail
            refine (HA.out _).mono ?_
            rintro e7 w7 ⟨rfl, hb7⟩
            have HB7 := hide (HB6.out.trans (hb7.mono HB6.out.size))
            clear hb7
            go_wp2
            go_ret
            exact ⟨rfl, HB7.out⟩
end Go.Proofs.Ytbbdijnkgkabbaa
