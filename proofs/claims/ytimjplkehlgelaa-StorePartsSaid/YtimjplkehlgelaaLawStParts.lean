/- The law StoreParts. -/
import Derived.Test.YtimjplkehlgelaaSoSame
import Derived.Test.YtimjplkehlgelaaSoConcat
namespace Go.Proofs.Ytimjplkehlgelaa
set_option linter.unusedVariables false
set_option linter.unusedSimpArgs false
open Go.RowKit

theorem ing_parts (S : List Pl) {l m : List Sp} (h : (l ++ m).all Sp.ok = true) : ingS S (l ++ m) = ingS (ingS S l) m ∧ ingC S (l ++ m) = (ingC S l).plus (ingC (ingS S l) m) ∧ ingE l = 0 ∧ ingE m = 0 ∧ ingE (l ++ m) = 0 := by
  have h' := h
  rw [List.all_append, Bool.and_eq_true] at h'
  obtain ⟨h1, h2⟩ := h'
  unfold ingS ingC ingE
  rw [if_pos h, if_pos h1, if_pos h2, if_pos h1, if_pos h2, if_pos h, if_pos h1, if_pos h2, if_pos h, puts_app]
  exact ⟨rfl, rfl, rfl, rfl, rfl⟩
theorem ing_bad (S : List Pl) {l : List Sp} (h : l.all Sp.ok = false) : ingS S l = S ∧ ingC S l = cn0 ∧ ingE l = 30 := by
  unfold ingS ingC ingE
  rw [if_neg (by rw [h]; simp), if_neg (by rw [h]; simp), if_neg (by rw [h]; simp)]
  exact ⟨rfl, rfl, rfl⟩
theorem ingC_sum (S : List Pl) (l : List Sp) : (ingC S l).sum ≤ l.length := by
  unfold ingC
  split
  · rw [puts_sum]
    exact Nat.le_refl _
  · show 0 + 0 + 0 + 0 + 0 ≤ _
    omega
set_option maxRecDepth 200000 in
set_option maxHeartbeats 8000000 in
theorem lawStParts_any {w : World} {v u1 u2 : Value} {D : List Dn} {A B : List Sp} (h : Dns w v D) (hA : Sps w u1 A) (hA9 : ∀ y ∈ A, y.n.size ≤ maxLen) (hB : Sps w u2 B) (hB9 : ∀ y ∈ B, y.n.size ≤ maxLen) : Calls Try.prog 6 #[v, u1, u2] w fun e w' => e = .returned (.bool true) ∧ Below w.heap.size w w' := by
  have HSH := hide (sshort_any h)
  have HA := hide sawake_any
  have HD := hide h
  have HMA := hide (And.intro hA hA9)
  have HMB := hide (And.intro hB hB9)
  obtain ⟨pA, nA, cA, rfl⟩ := hA.sl
  obtain ⟨pB, nB, cB, rfl⟩ := hB.sl
  clear h hA hA9 hB hB9
  go_enter Try.func6, Try.ntmps6
  go_wp2_with fail
  refine HSH.out.mono ?_
  rintro e W ⟨⟨q, rfl, hq⟩, hbW⟩
  have HQ := hide hq
  have HBW := hide hbW
  clear hq hbW HSH
  cases q
  · go_wp2_with fail
    refine (HA.out _).mono ?_
    rintro e2 w2 ⟨rfl, hb2⟩
    have HB2 := hide (HBW.out.trans (hb2.mono HBW.out.size))
    clear hb2
    go_wp2
    go_ret
    exact ⟨rfl, HB2.out⟩
  · have HLI := hide (slight_any (HMA.out.1.below HBW.out) HMA.out.2)
    obtain ⟨q, hq⟩ : ∃ q, lightL A = q := ⟨_, rfl⟩
    rw [hq] at HLI
    have HLQ := hide hq
    clear hq
    go_wp2_with fail
    refine HLI.out.mono ?_
    rintro e W2 ⟨rfl, hw2⟩
    obtain rfl := hw2.symm
    clear HLI
    cases q
    · go_wp2_with fail
      refine (HA.out _).mono ?_
      rintro e2 w2 ⟨rfl, hb2⟩
      have HB2 := hide (HBW.out.trans (hb2.mono HBW.out.size))
      clear hb2
      go_wp2
      go_ret
      exact ⟨rfl, HB2.out⟩
    · have HLA := hide (slight_len HLQ.out)
      have HLI := hide (slight_any (HMB.out.1.below HBW.out) HMB.out.2)
      obtain ⟨q, hq⟩ : ∃ q, lightL B = q := ⟨_, rfl⟩
      rw [hq] at HLI
      have HLR := hide hq
      clear hq
      go_wp2_with fail
      refine HLI.out.mono ?_
      rintro e W3 ⟨rfl, hw3⟩
      obtain rfl := hw3.symm
      clear HLI
      cases q
      · go_wp2_with fail
        refine (HA.out _).mono ?_
        rintro e2 w2 ⟨rfl, hb2⟩
        have HB2 := hide (HBW.out.trans (hb2.mono HBW.out.size))
        clear hb2
        go_wp2
        go_ret
        exact ⟨rfl, HB2.out⟩
      · have HLB := hide (slight_len HLR.out)
        have HQD := hide (HQ.out (by simp)).2
        go_wp2_with fail
        refine (play_any (HD.out.below HBW.out) HQD.out).mono ?_
        intro e X hp
        obtain ⟨gs, bm, R, rfl, hs, hpl, hnw, hbX⟩ := hp
        have HX := hide (And.intro hs (And.intro hpl (And.intro hnw (And.intro hbX (HBW.out.trans (hbX.mono HBW.out.size))))))
        clear hs hpl hnw hbX HQ
        go_wp2_with fail
        refine (play_any (HD.out.below HX.out.2.2.2.2) HQD.out).mono ?_
        intro e w1 hp
        obtain ⟨gs2, bm2, R2, rfl, hs2, hpl2, hnw2, hb1⟩ := hp
        obtain ⟨S, hS⟩ : ∃ S, playS D = S := ⟨_, rfl⟩
        rw [hS] at hpl2 HX
        have H1 := hide (And.intro (HX.out.1.below hb1) (And.intro hs2 (And.intro hpl2 (And.intro hnw2 (And.intro (HX.out.2.2.2.2.trans (hb1.mono HX.out.2.2.2.2.size)) hb1.size)))))
        clear hs2 hpl2 hnw2 hb1 hS HQD HD
        go_wp2_with fail
        have hal := (Below.refl w1.heap.size w1).alloc (Nat.le_refl _) (.cells #[.slice pA nA cA, .slice pB nB cB] 23)
        have hss := sss_two (HMA.out.1.below H1.out.2.2.2.2.1) (HMB.out.1.below H1.out.2.2.2.2.1)
        have HAL := hide hal
        have HCC := hide (concatS_any hss (by unfold lensS; simp; have := HLA.out.1; have := HLB.out.1; omega))
        clear hal hss
        refine HCC.out.mono ?_
        rintro e w2 ⟨v2, rfl, ho2, hb2⟩
        have hfl : [A, B].flatten = A ++ B := by simp
        rw [hfl] at ho2
        have hB12 : Below w1.heap.size w1 w2 := HAL.out.trans (hb2.mono HAL.out.size)
        have hAB : (A ++ B).length ≤ 800 := by rw [List.length_append]; have := HLA.out.1; have := HLB.out.1; omega
        have HIN := hide (singest_any (H1.out.1.below hB12) ho2.sps (by omega) (fun x hx => by
          rcases List.mem_append.1 hx with hx | hx
          · exact HLA.out.2 x hx
          · exact HLB.out.2 x hx))
        have H2 := hide (And.intro hB12 hAB)
        obtain ⟨p2, n2, c2, rfl⟩ := ho2.sps.sl
        clear ho2 hb2 hB12 hAB HCC hfl
        go_wp2_with fail
        refine HIN.out.mono ?_
        intro e w3 hp3
        obtain ⟨he3, R3, ht3⟩ := hp3
        rw [HX.out.2.1] at he3 ht3
        subst he3
        have hB3 : Below w.heap.size w w3 := Chg.to_below (H1.out.2.2.2.2.1.trans (H2.out.1.mono H1.out.2.2.2.2.1.size)) ht3.chg fun k hk => Nat.le_trans HBW.out.size (HX.out.2.2.1 k (SoM.sub hk))
        have hs23 : SoIs w3 gs2 bm2 R2 := (H1.out.2.1.below H2.out.1).chg ht3.chg fun k hk hm => by
          have h1 := H1.out.2.2.2.1 k hk
          have h2 := HX.out.1.lt k (SoM.sub hm)
          omega
        have hdis : ∀ k, SoS gs bm R3 k → ¬ SoS gs2 bm2 R2 k := fun k hk hk2 => by
          have h1 := H1.out.2.2.2.1 k hk2
          have h2 := H1.out.2.1.lt k hk2
          rcases ht3.new k hk with h3 | h3
          · have h4 := HX.out.1.lt k h3
            omega
          · have := H2.out.1.size
            omega
        have H3 := hide (And.intro ht3.is (And.intro ht3.pl (And.intro hs23 (And.intro hB3 hdis))))
        have hnw3 : ∀ k, SoS gs bm R3 k → w.heap.size ≤ k := fun k hk => by
          rcases ht3.new k hk with h3 | h3
          · exact Nat.le_trans HBW.out.size (HX.out.2.2.1 k h3)
          · have := H1.out.2.2.2.2.1.size; have := H2.out.1.size; omega
        have HNW3 := hide hnw3
        clear ht3 hB3 hs23 hdis hnw3 HIN
        obtain ⟨C, hC⟩ : ∃ C, ingC S (A ++ B) = C := ⟨_, rfl⟩
        rw [hC]
        have HC := hide hC
        clear hC
        have hal4 := (Below.refl w3.heap.size w3).alloc (Nat.le_refl _) (.cells #[.int .i64 (C.add : Nat), .int .i64 (C.same : Nat), .int .i64 (C.other : Nat), .int .i64 (C.cyc : Nat), .int .i64 (C.full : Nat)] 33)
        have hr4 := heap_alloc_new w3 (.cells #[.int .i64 (C.add : Nat), .int .i64 (C.same : Nat), .int .i64 (C.other : Nat), .int .i64 (C.cyc : Nat), .int .i64 (C.full : Nat)] 33)
        have HAL4 := hide hal4
        have HR4 := hide hr4
        clear hal4 hr4
        unfold cnV
        obtain ⟨q, hq⟩ : ∃ q, (A ++ B).all Sp.ok = q := ⟨_, rfl⟩
        cases q
        · obtain ⟨i1, i2, i3⟩ := ing_bad S hq
          rw [HC.out] at i2
          subst i2
          rw [i1] at H3
          rw [i3]
          clear i1 i3 hq
          unfold cn0 at *
          dsimp only at *
          go_wp2_with fail
          refine (ssame_any (H3.out.1.below HAL4.out) (H3.out.2.2.1.below HAL4.out) (by rw [H3.out.2.1, H1.out.2.2.1])).mono ?_
          rintro e w5 ⟨rfl, hb5⟩
          have hr5 := (hb5.block w3.heap.size (Array.getElem?_eq_some_iff.1 HR4.out).1).trans HR4.out
          have k0 := cell_of_row w5 w3.heap.size 0 _ 33 (0, 0) hr5
          have k1 := cell_of_row w5 w3.heap.size 1 _ 33 (0, 0) hr5
          have k2 := cell_of_row w5 w3.heap.size 2 _ 33 (0, 0) hr5
          have k3 := cell_of_row w5 w3.heap.size 3 _ 33 (0, 0) hr5
          have k4 := cell_of_row w5 w3.heap.size 4 _ 33 (0, 0) hr5
          simp only [List.getElem?_toArray, List.getElem?_cons_succ, List.getElem?_cons_zero] at k0 k1 k2 k3 k4
          have HB5 := hide ((H3.out.2.2.2.1.trans (HAL4.out.mono H3.out.2.2.2.1.size)).trans (hb5.mono (Nat.le_trans H3.out.2.2.2.1.size HAL4.out.size)))
          clear hb5 hr5
          go_wp2_with fail
          refine (HA.out _).mono ?_
          rintro e2 w6 ⟨rfl, hb6⟩
          have HB6 := hide (HB5.out.trans (hb6.mono HB5.out.size))
          clear hb6
          go_wp2
          go_ret
          exact ⟨rfl, HB6.out⟩
        · obtain ⟨i1, i2, i3, i4, i5⟩ := ing_parts S hq
          rw [HC.out] at i2
          rw [i1] at H3
          rw [i5]
          have HI := hide (And.intro i2 (And.intro i3 i4))
          clear i1 i2 i3 i4 i5 hq
          have hst := H3.out.2.2.1.below HAL4.out
          have hsA := HMA.out.1.below (H3.out.2.2.2.1.trans (HAL4.out.mono H3.out.2.2.2.1.size))
          have HIN := hide (singest_any hst hsA (by have := HLA.out.1; omega) HLA.out.2)
          clear hst hsA
          go_wp2_with fail
          refine HIN.out.mono ?_
          intro e w5 hp5
          obtain ⟨he5, R5, ht5⟩ := hp5
          rw [H1.out.2.2.1, HI.out.2.1] at he5
          rw [H1.out.2.2.1] at ht5
          subst he5
          obtain ⟨C1, hC1⟩ : ∃ C1, ingC S A = C1 := ⟨_, rfl⟩
          rw [hC1] at HI ⊢
          have hc1s : C1.sum ≤ 1000000 := by rw [← hC1]; have := ingC_sum S A; have := HLA.out.1; omega
          have hal5 := (Below.refl w5.heap.size w5).alloc (Nat.le_refl _) (.cells #[.int .i64 (C1.add : Nat), .int .i64 (C1.same : Nat), .int .i64 (C1.other : Nat), .int .i64 (C1.cyc : Nat), .int .i64 (C1.full : Nat)] 33)
          have hr5n := heap_alloc_new w5 (.cells #[.int .i64 (C1.add : Nat), .int .i64 (C1.same : Nat), .int .i64 (C1.other : Nat), .int .i64 (C1.cyc : Nat), .int .i64 (C1.full : Nat)] 33)
          have hr5 := ((Chg.alloc ht5.chg (.cells #[.int .i64 (C1.add : Nat), .int .i64 (C1.same : Nat), .int .i64 (C1.other : Nat), .int .i64 (C1.cyc : Nat), .int .i64 (C1.full : Nat)] 33)).block w3.heap.size (by simp) ((H3.out.2.2.1.below HAL4.out).ne_row HR4.out)).trans HR4.out
          have hbt : ∀ k, SoM bm2 R2 k → w.heap.size ≤ k := fun k hk => Nat.le_trans (Nat.le_trans HBW.out.size HX.out.2.2.2.1.size) (H1.out.2.2.2.1 k (SoM.sub hk))
          have hB4 : Below w.heap.size w (w3.alloc (.cells #[.int .i64 (C.add : Nat), .int .i64 (C.same : Nat), .int .i64 (C.other : Nat), .int .i64 (C.cyc : Nat), .int .i64 (C.full : Nat)] 33)) := H3.out.2.2.2.1.trans (HAL4.out.mono H3.out.2.2.2.1.size)
          have hB5 := Chg.to_below hB4 ht5.chg hbt
          have hs5 : SoIs w5 gs bm R3 := (H3.out.1.below HAL4.out).chg ht5.chg fun k hk hm => H3.out.2.2.2.2 k hk (SoM.sub hm)
          have hnew5 : ∀ k, SoS gs2 bm2 R5 k → (w.heap.size ≤ k ∧ ¬ SoS gs bm R3 k) := fun k hk => by
            rcases ht5.new k hk with h1 | h1
            · exact ⟨Nat.le_trans (Nat.le_trans HBW.out.size HX.out.2.2.2.1.size) (H1.out.2.2.2.1 k h1), fun h2 => H3.out.2.2.2.2 k h2 h1⟩
            · refine ⟨Nat.le_trans hB4.size h1, fun h2 => ?_⟩
              have h3 := (H3.out.1.below HAL4.out).lt k h2
              omega
          have H5 := hide (And.intro (hs5.below hal5) (And.intro (ht5.is.below hal5) (And.intro ht5.pl (And.intro hnew5 (hB5.trans (hal5.mono hB5.size))))))
          have HR5 := hide (And.intro hr5 hr5n)
          have HC1 := hide (And.intro hC1 hc1s)
          clear ht5 hal5 hr5n hr5 hB4 hB5 hs5 hnew5 hbt hC1 hc1s HIN
          have HIN := hide (singest_any H5.out.2.1 (HMB.out.1.below H5.out.2.2.2.2) (by have := HLB.out.1; omega) HLB.out.2)
          unfold cnV
          go_wp2_with fail
          refine HIN.out.mono ?_
          intro e w7 hp7
          obtain ⟨he7, R7, ht7⟩ := hp7
          rw [H5.out.2.2.1, HI.out.2.2] at he7
          rw [H5.out.2.2.1] at ht7
          subst he7
          obtain ⟨C2, hC2⟩ : ∃ C2, ingC (ingS S A) B = C2 := ⟨_, rfl⟩
          rw [hC2] at HI ⊢
          have hc2s : C2.sum ≤ 1000000 := by rw [← hC2]; have := ingC_sum (ingS S A) B; have := HLB.out.1; omega
          have hal7 := (Below.refl w7.heap.size w7).alloc (Nat.le_refl _) (.cells #[.int .i64 (C2.add : Nat), .int .i64 (C2.same : Nat), .int .i64 (C2.other : Nat), .int .i64 (C2.cyc : Nat), .int .i64 (C2.full : Nat)] 33)
          have hr7n := heap_alloc_new w7 (.cells #[.int .i64 (C2.add : Nat), .int .i64 (C2.same : Nat), .int .i64 (C2.other : Nat), .int .i64 (C2.cyc : Nat), .int .i64 (C2.full : Nat)] 33)
          have hr7c := ((Chg.alloc ht7.chg (.cells #[.int .i64 (C2.add : Nat), .int .i64 (C2.same : Nat), .int .i64 (C2.other : Nat), .int .i64 (C2.cyc : Nat), .int .i64 (C2.full : Nat)] 33)).block w3.heap.size (Array.getElem?_eq_some_iff.1 HR5.out.1).1 (H5.out.2.1.ne_row HR5.out.1)).trans HR5.out.1
          have hr7b := ((Chg.alloc ht7.chg (.cells #[.int .i64 (C2.add : Nat), .int .i64 (C2.same : Nat), .int .i64 (C2.other : Nat), .int .i64 (C2.cyc : Nat), .int .i64 (C2.full : Nat)] 33)).block w5.heap.size (Array.getElem?_eq_some_iff.1 HR5.out.2).1 (H5.out.2.1.ne_row HR5.out.2)).trans HR5.out.2
          have hB7 := Chg.to_below H5.out.2.2.2.2 ht7.chg fun k hk => (H5.out.2.2.2.1 k (SoM.sub hk)).1
          have hs7 : SoIs w7 gs bm R3 := H5.out.1.chg ht7.chg fun k hk hm => (H5.out.2.2.2.1 k (SoM.sub hm)).2 hk
          have HY := hide (And.intro (hs7.below hal7) (And.intro (ht7.is.below hal7) (And.intro ht7.pl (hB7.trans (hal7.mono hB7.size)))))
          obtain rfl : C = C1.plus C2 := HI.out.1
          have HSU : Hid (∀ V, Calls Try.prog 24 #[.agg #[.int .i64 (C1.add : Nat), .int .i64 (C1.same : Nat), .int .i64 (C1.other : Nat), .int .i64 (C1.cyc : Nat), .int .i64 (C1.full : Nat)], .agg #[.int .i64 (C2.add : Nat), .int .i64 (C2.same : Nat), .int .i64 (C2.other : Nat), .int .i64 (C2.cyc : Nat), .int .i64 (C2.full : Nat)]] V fun e w' => e = .returned (.agg #[.int .i64 ((C1.add : Int) + C2.add), .int .i64 ((C1.same : Int) + C2.same), .int .i64 ((C1.other : Int) + C2.other), .int .i64 ((C1.cyc : Int) + C2.cyc), .int .i64 ((C1.full : Int) + C2.full)]) ∧ Below V.heap.size V w') := hide fun V => (refSum_any V C1 C2 HC1.out.2 hc2s).mono fun e w' h => by
            obtain ⟨rfl, hb⟩ := h
            refine ⟨?_, hb⟩
            unfold cnV Cn.plus
            simp only [Int.natCast_add]
          clear ht7 hal7 hB7 hs7 hc2s hC2 HIN
          unfold cnV
          go_wp2_with fail
          obtain ⟨Y, hY⟩ : ∃ Y, w7.alloc (.cells #[.int .i64 (C2.add : Nat), .int .i64 (C2.same : Nat), .int .i64 (C2.other : Nat), .int .i64 (C2.cyc : Nat), .int .i64 (C2.full : Nat)] 33) = Y := ⟨_, rfl⟩
          obtain ⟨b9, hb9⟩ : ∃ b, w3.heap.size = b := ⟨_, rfl⟩
          obtain ⟨b11, hb11⟩ : ∃ b, w5.heap.size = b := ⟨_, rfl⟩
          obtain ⟨b13, hb13⟩ : ∃ b, w7.heap.size = b := ⟨_, rfl⟩
          rw [hY] at HY hr7n hr7c hr7b ⊢
          rw [hb9] at hr7c ⊢
          rw [hb11] at hr7b ⊢
          rw [hb13] at hr7n ⊢
          have s0 : Y.cell? ⟨b9, 0, none⟩ = some (.int .i64 ((C1.add : Int) + C2.add)) := by have h := cell_of_row Y b9 0 _ 33 (0, 0) hr7c; simpa [Cn.plus] using h
          have s1 : Y.cell? ⟨b9, 1, none⟩ = some (.int .i64 ((C1.same : Int) + C2.same)) := by have h := cell_of_row Y b9 1 _ 33 (0, 0) hr7c; simpa [Cn.plus] using h
          have s2 : Y.cell? ⟨b9, 2, none⟩ = some (.int .i64 ((C1.other : Int) + C2.other)) := by have h := cell_of_row Y b9 2 _ 33 (0, 0) hr7c; simpa [Cn.plus] using h
          have s3 : Y.cell? ⟨b9, 3, none⟩ = some (.int .i64 ((C1.cyc : Int) + C2.cyc)) := by have h := cell_of_row Y b9 3 _ 33 (0, 0) hr7c; simpa [Cn.plus] using h
          have s4 : Y.cell? ⟨b9, 4, none⟩ = some (.int .i64 ((C1.full : Int) + C2.full)) := by have h := cell_of_row Y b9 4 _ 33 (0, 0) hr7c; simpa [Cn.plus] using h
          have s5 : Y.cell? ⟨b11, 0, none⟩ = some (.int .i64 (C1.add : Nat)) := by have h := cell_of_row Y b11 0 _ 33 (0, 0) hr7b; simpa using h
          have s6 : Y.cell? ⟨b11, 1, none⟩ = some (.int .i64 (C1.same : Nat)) := by have h := cell_of_row Y b11 1 _ 33 (0, 0) hr7b; simpa using h
          have s7 : Y.cell? ⟨b11, 2, none⟩ = some (.int .i64 (C1.other : Nat)) := by have h := cell_of_row Y b11 2 _ 33 (0, 0) hr7b; simpa using h
          have s8 : Y.cell? ⟨b11, 3, none⟩ = some (.int .i64 (C1.cyc : Nat)) := by have h := cell_of_row Y b11 3 _ 33 (0, 0) hr7b; simpa using h
          have s9 : Y.cell? ⟨b11, 4, none⟩ = some (.int .i64 (C1.full : Nat)) := by have h := cell_of_row Y b11 4 _ 33 (0, 0) hr7b; simpa using h
          have s10 : Y.cell? ⟨b13, 0, none⟩ = some (.int .i64 (C2.add : Nat)) := by have h := cell_of_row Y b13 0 _ 33 (0, 0) hr7n; simpa using h
          have s11 : Y.cell? ⟨b13, 1, none⟩ = some (.int .i64 (C2.same : Nat)) := by have h := cell_of_row Y b13 1 _ 33 (0, 0) hr7n; simpa using h
          have s12 : Y.cell? ⟨b13, 2, none⟩ = some (.int .i64 (C2.other : Nat)) := by have h := cell_of_row Y b13 2 _ 33 (0, 0) hr7n; simpa using h
          have s13 : Y.cell? ⟨b13, 3, none⟩ = some (.int .i64 (C2.cyc : Nat)) := by have h := cell_of_row Y b13 3 _ 33 (0, 0) hr7n; simpa using h
          have s14 : Y.cell? ⟨b13, 4, none⟩ = some (.int .i64 (C2.full : Nat)) := by have h := cell_of_row Y b13 4 _ 33 (0, 0) hr7n; simpa using h
          have HS0 := hide (And.intro s0 (And.intro s1 (And.intro s2 (And.intro s3 (And.intro s4 (And.intro s5 (And.intro s6 (And.intro s7 (And.intro s8 (And.intro s9 (And.intro s10 (And.intro s11 (And.intro s12 (And.intro s13 (s14)))))))))))))))
          have KB : Hid (∀ V V' : World, V.cell? ⟨b9, 0, none⟩ = some (.int .i64 ((C1.add : Int) + C2.add)) ∧ V.cell? ⟨b9, 1, none⟩ = some (.int .i64 ((C1.same : Int) + C2.same)) ∧ V.cell? ⟨b9, 2, none⟩ = some (.int .i64 ((C1.other : Int) + C2.other)) ∧ V.cell? ⟨b9, 3, none⟩ = some (.int .i64 ((C1.cyc : Int) + C2.cyc)) ∧ V.cell? ⟨b9, 4, none⟩ = some (.int .i64 ((C1.full : Int) + C2.full)) ∧ V.cell? ⟨b11, 0, none⟩ = some (.int .i64 (C1.add : Nat)) ∧ V.cell? ⟨b11, 1, none⟩ = some (.int .i64 (C1.same : Nat)) ∧ V.cell? ⟨b11, 2, none⟩ = some (.int .i64 (C1.other : Nat)) ∧ V.cell? ⟨b11, 3, none⟩ = some (.int .i64 (C1.cyc : Nat)) ∧ V.cell? ⟨b11, 4, none⟩ = some (.int .i64 (C1.full : Nat)) ∧ V.cell? ⟨b13, 0, none⟩ = some (.int .i64 (C2.add : Nat)) ∧ V.cell? ⟨b13, 1, none⟩ = some (.int .i64 (C2.same : Nat)) ∧ V.cell? ⟨b13, 2, none⟩ = some (.int .i64 (C2.other : Nat)) ∧ V.cell? ⟨b13, 3, none⟩ = some (.int .i64 (C2.cyc : Nat)) ∧ V.cell? ⟨b13, 4, none⟩ = some (.int .i64 (C2.full : Nat)) → Below V.heap.size V V' → V'.cell? ⟨b9, 0, none⟩ = some (.int .i64 ((C1.add : Int) + C2.add)) ∧ V'.cell? ⟨b9, 1, none⟩ = some (.int .i64 ((C1.same : Int) + C2.same)) ∧ V'.cell? ⟨b9, 2, none⟩ = some (.int .i64 ((C1.other : Int) + C2.other)) ∧ V'.cell? ⟨b9, 3, none⟩ = some (.int .i64 ((C1.cyc : Int) + C2.cyc)) ∧ V'.cell? ⟨b9, 4, none⟩ = some (.int .i64 ((C1.full : Int) + C2.full)) ∧ V'.cell? ⟨b11, 0, none⟩ = some (.int .i64 (C1.add : Nat)) ∧ V'.cell? ⟨b11, 1, none⟩ = some (.int .i64 (C1.same : Nat)) ∧ V'.cell? ⟨b11, 2, none⟩ = some (.int .i64 (C1.other : Nat)) ∧ V'.cell? ⟨b11, 3, none⟩ = some (.int .i64 (C1.cyc : Nat)) ∧ V'.cell? ⟨b11, 4, none⟩ = some (.int .i64 (C1.full : Nat)) ∧ V'.cell? ⟨b13, 0, none⟩ = some (.int .i64 (C2.add : Nat)) ∧ V'.cell? ⟨b13, 1, none⟩ = some (.int .i64 (C2.same : Nat)) ∧ V'.cell? ⟨b13, 2, none⟩ = some (.int .i64 (C2.other : Nat)) ∧ V'.cell? ⟨b13, 3, none⟩ = some (.int .i64 (C2.cyc : Nat)) ∧ V'.cell? ⟨b13, 4, none⟩ = some (.int .i64 (C2.full : Nat))) := hide (by
            rintro V V' ⟨a0, a1, a2, a3, a4, a5, a6, a7, a8, a9, a10, a11, a12, a13, a14⟩ hb
            exact ⟨(hb.cell (lt_of_cell a0)).trans a0, (hb.cell (lt_of_cell a1)).trans a1, (hb.cell (lt_of_cell a2)).trans a2, (hb.cell (lt_of_cell a3)).trans a3, (hb.cell (lt_of_cell a4)).trans a4, (hb.cell (lt_of_cell a5)).trans a5, (hb.cell (lt_of_cell a6)).trans a6, (hb.cell (lt_of_cell a7)).trans a7, (hb.cell (lt_of_cell a8)).trans a8, (hb.cell (lt_of_cell a9)).trans a9, (hb.cell (lt_of_cell a10)).trans a10, (hb.cell (lt_of_cell a11)).trans a11, (hb.cell (lt_of_cell a12)).trans a12, (hb.cell (lt_of_cell a13)).trans a13, (hb.cell (lt_of_cell a14)).trans a14⟩)
          have HSM : Hid (∀ V, Below Y.heap.size Y V → Calls Try.prog 23 #[.pointer (some ⟨gs, 0, none⟩), .pointer (some ⟨gs2, 0, none⟩)] V fun e w' => e = .returned (.bool true) ∧ Below V.heap.size V w') := hide fun V hV => ssame_any (HY.out.1.below hV) (HY.out.2.1.below hV) (by rw [HY.out.2.2.1, H3.out.2.1])
          clear hY hb9 hb11 hb13 hr7n hr7c hr7b
          go_wp2_with fail
          refine wp_region_held_drew (S := fun V => V.cell? ⟨b9, 0, none⟩ = some (.int .i64 ((C1.add : Int) + C2.add)) ∧ V.cell? ⟨b9, 1, none⟩ = some (.int .i64 ((C1.same : Int) + C2.same)) ∧ V.cell? ⟨b9, 2, none⟩ = some (.int .i64 ((C1.other : Int) + C2.other)) ∧ V.cell? ⟨b9, 3, none⟩ = some (.int .i64 ((C1.cyc : Int) + C2.cyc)) ∧ V.cell? ⟨b9, 4, none⟩ = some (.int .i64 ((C1.full : Int) + C2.full)) ∧ V.cell? ⟨b11, 0, none⟩ = some (.int .i64 (C1.add : Nat)) ∧ V.cell? ⟨b11, 1, none⟩ = some (.int .i64 (C1.same : Nat)) ∧ V.cell? ⟨b11, 2, none⟩ = some (.int .i64 (C1.other : Nat)) ∧ V.cell? ⟨b11, 3, none⟩ = some (.int .i64 (C1.cyc : Nat)) ∧ V.cell? ⟨b11, 4, none⟩ = some (.int .i64 (C1.full : Nat)) ∧ V.cell? ⟨b13, 0, none⟩ = some (.int .i64 (C2.add : Nat)) ∧ V.cell? ⟨b13, 1, none⟩ = some (.int .i64 (C2.same : Nat)) ∧ V.cell? ⟨b13, 2, none⟩ = some (.int .i64 (C2.other : Nat)) ∧ V.cell? ⟨b13, 3, none⟩ = some (.int .i64 (C2.cyc : Nat)) ∧ V.cell? ⟨b13, 4, none⟩ = some (.int .i64 (C2.full : Nat))) (by kernel_rfl) HS0.out (fun hHeld => ?_)
          refine wpAnyH_take (i := 0) (oi := { dst := some 67, op := Op.move (Operand.tmp 12), type := 34, pos := "law.go:278", after := #[], guard := none }) (v := ?_) rfl (by kernel_rfl) (by kernel_rfl) (by kernel_rfl) (fun _ _ _ h => h) (Or.inl ⟨by rfl, ?_⟩) (by assumption) ?_
          rotate_left
          · intro w hSw
            (try dsimp only at hSw)
            go_simp
            try with_reducible rfl
          try simp only [Act.put, List.setIfInBounds_toArray, List.set_cons_zero, List.set_cons_succ]
          refine wpAnyH_take (i := 1) (oi := { dst := some 68, op := Op.binOp BinOp.eql 34 (Operand.tmp 67) (Operand.const (Value.int IntKind.i64 0)) 34, type := 4, pos := "law.go:278", after := _, guard := none }) (v := ?_) rfl (by kernel_rfl) (by kernel_rfl) (by kernel_rfl) (fun _ _ _ h => h) (Or.inl ⟨by rfl, ?_⟩) (by assumption) ?_
          rotate_left
          · intro w hSw
            (try dsimp only at hSw)
            go_simp
            try with_reducible rfl
          try simp only [Act.put, List.setIfInBounds_toArray, List.set_cons_zero, List.set_cons_succ]
          refine wpAnyH_take (i := 2) (oi := { dst := some 69, op := Op.move (Operand.tmp 68), type := 4, pos := "law.go:278", after := _, guard := none }) (v := ?_) rfl (by kernel_rfl) (by kernel_rfl) (by kernel_rfl) (fun _ _ _ h => h) (Or.inl ⟨by rfl, ?_⟩) (by assumption) ?_
          rotate_left
          · intro w hSw
            (try dsimp only at hSw)
            go_simp
            try with_reducible rfl
          try simp only [Act.put, List.setIfInBounds_toArray, List.set_cons_zero, List.set_cons_succ]
          refine wpAnyH_take (i := 3) (oi := { dst := some 70, op := Op.move (Operand.tmp 14), type := 34, pos := "law.go:278", after := _, guard := some (2, true) }) (v := ?_) rfl (by kernel_rfl) (by kernel_rfl) (by kernel_rfl) (fun _ _ _ h => h) (Or.inl ⟨by rfl, ?_⟩) (by assumption) ?_
          rotate_left
          · intro w hSw
            (try dsimp only at hSw)
            go_simp
            try with_reducible rfl
          try simp only [Act.put, List.setIfInBounds_toArray, List.set_cons_zero, List.set_cons_succ]
          refine wpAnyH_take (i := 4) (oi := { dst := some 71, op := Op.binOp BinOp.eql 34 (Operand.tmp 70) (Operand.const (Value.int IntKind.i64 0)) 34, type := 4, pos := "law.go:278", after := _, guard := some (2, true) }) (v := ?_) rfl (by kernel_rfl) (by kernel_rfl) (by kernel_rfl) (fun _ _ _ h => h) (Or.inl ⟨by rfl, ?_⟩) (by assumption) ?_
          rotate_left
          · intro w hSw
            (try dsimp only at hSw)
            go_simp
            try with_reducible rfl
          try simp only [Act.put, List.setIfInBounds_toArray, List.set_cons_zero, List.set_cons_succ]
          refine wpAnyH_take (i := 5) (oi := { dst := some 72, op := Op.pick (Operand.tmp 69) (Operand.tmp 71) (Operand.const (Value.bool false)), type := 4, pos := "law.go:278", after := _, guard := none }) (v := ?_) rfl (by kernel_rfl) (by kernel_rfl) (by kernel_rfl) (fun _ _ _ h => h) (Or.inl ⟨by rfl, ?_⟩) (by assumption) ?_
          rotate_left
          · intro w hSw
            (try dsimp only at hSw)
            go_simp
            try with_reducible rfl
          try simp only [Act.put, List.setIfInBounds_toArray, List.set_cons_zero, List.set_cons_succ]
          refine wpAnyH_take (i := 6) (oi := { dst := some 73, op := Op.move (Operand.tmp 72), type := 4, pos := "law.go:278", after := _, guard := none }) (v := ?_) rfl (by kernel_rfl) (by kernel_rfl) (by kernel_rfl) (fun _ _ _ h => h) (Or.inl ⟨by rfl, ?_⟩) (by assumption) ?_
          rotate_left
          · intro w hSw
            (try dsimp only at hSw)
            go_simp
            try with_reducible rfl
          try simp only [Act.put, List.setIfInBounds_toArray, List.set_cons_zero, List.set_cons_succ]
          refine wpAnyH_take (i := 7) (oi := { dst := some 74, op := Op.load 33 (Operand.tmp 9), type := 33, pos := "law.go:278", after := _, guard := some (6, true) }) (v := ?_) rfl (by kernel_rfl) (by kernel_rfl) (by kernel_rfl) (fun _ _ _ h => h) (Or.inl ⟨by rfl, ?_⟩) (by assumption) ?_
          rotate_left
          · intro w hSw
            (try dsimp only at hSw)
            go_simp
            try with_reducible rfl
          try simp only [Act.put, List.setIfInBounds_toArray, List.set_cons_zero, List.set_cons_succ]
          refine wpAnyH_take (i := 8) (oi := { dst := some 75, op := Op.load 33 (Operand.tmp 11), type := 33, pos := "law.go:278", after := _, guard := some (6, true) }) (v := ?_) rfl (by kernel_rfl) (by kernel_rfl) (by kernel_rfl) (fun _ _ _ h => h) (Or.inl ⟨by rfl, ?_⟩) (by assumption) ?_
          rotate_left
          · intro w hSw
            (try dsimp only at hSw)
            go_simp
            try with_reducible rfl
          try simp only [Act.put, List.setIfInBounds_toArray, List.set_cons_zero, List.set_cons_succ]
          refine wpAnyH_take (i := 9) (oi := { dst := some 76, op := Op.load 33 (Operand.tmp 13), type := 33, pos := "law.go:278", after := _, guard := some (6, true) }) (v := ?_) rfl (by kernel_rfl) (by kernel_rfl) (by kernel_rfl) (fun _ _ _ h => h) (Or.inl ⟨by rfl, ?_⟩) (by assumption) ?_
          rotate_left
          · intro w hSw
            (try dsimp only at hSw)
            go_simp
            try with_reducible rfl
          try simp only [Act.put, List.setIfInBounds_toArray, List.set_cons_zero, List.set_cons_succ]
          refine wpAnyH_ready (rs := [10]) (by kernel_rfl) (by simp) ?_
          refine AllReadyH.cons (o := { dst := some 77, op := Op.call { callee := Callee.value (Operand.func 24), args := #[Operand.tmp 75, Operand.tmp 76], argTypes := #[33, 33] }, type := 33, pos := "law.go:278", after := _, guard := some (6, true) }) rfl (fun K hK => ?_) AllReadyH.nil
          go_simp
          go_at_call 24
          refine (HSU.out _).mono ?_
          rintro e7 w20 ⟨rfl, hb20⟩
          first
            | refine hK.out _ _ ?_ (fun hHeld => ?_)
            | (go_wp2_with fail; refine hK.out _ _ ?_ (fun hHeld => ?_))
          · exact (KB.out _ _ (KB.out _ _ HS0.out (bdrew Y 1)) hb20)
          clear hK K
          try simp only [Act.put, List.setIfInBounds_toArray, List.set_cons_zero, List.set_cons_succ]
          refine wpAnyH_take (i := 11) (oi := { dst := some 78, op := Op.binOp BinOp.eql 33 (Operand.tmp 74) (Operand.tmp 77) 33, type := 4, pos := "law.go:278", after := _, guard := some (6, true) }) (v := ?_) rfl (by kernel_rfl) (by kernel_rfl) (by kernel_rfl) (fun _ _ _ h => h) (Or.inl ⟨by rfl, ?_⟩) (by assumption) ?_
          rotate_left
          · intro w hSw
            (try dsimp only at hSw)
            go_simp
            try with_reducible rfl
          try simp only [Act.put, List.setIfInBounds_toArray, List.set_cons_zero, List.set_cons_succ]
          refine wpAnyH_take (i := 12) (oi := { dst := some 79, op := Op.pick (Operand.tmp 73) (Operand.tmp 78) (Operand.const (Value.bool false)), type := 4, pos := "law.go:278", after := _, guard := none }) (v := ?_) rfl (by kernel_rfl) (by kernel_rfl) (by kernel_rfl) (fun _ _ _ h => h) (Or.inl ⟨by rfl, ?_⟩) (by assumption) ?_
          rotate_left
          · intro w hSw
            (try dsimp only at hSw)
            go_simp
            try with_reducible rfl
          try simp only [Act.put, List.setIfInBounds_toArray, List.set_cons_zero, List.set_cons_succ]
          refine wpAnyH_take (i := 13) (oi := { dst := some 80, op := Op.move (Operand.tmp 79), type := 4, pos := "law.go:278", after := _, guard := none }) (v := ?_) rfl (by kernel_rfl) (by kernel_rfl) (by kernel_rfl) (fun _ _ _ h => h) (Or.inl ⟨by rfl, ?_⟩) (by assumption) ?_
          rotate_left
          · intro w hSw
            (try dsimp only at hSw)
            go_simp
            try with_reducible rfl
          try simp only [Act.put, List.setIfInBounds_toArray, List.set_cons_zero, List.set_cons_succ]
          refine wpAnyH_take (i := 14) (oi := { dst := some 81, op := Op.move (Operand.tmp 7), type := 27, pos := "law.go:278", after := _, guard := some (13, true) }) (v := ?_) rfl (by kernel_rfl) (by kernel_rfl) (by kernel_rfl) (fun _ _ _ h => h) (Or.inl ⟨by rfl, ?_⟩) (by assumption) ?_
          rotate_left
          · intro w hSw
            (try dsimp only at hSw)
            go_simp
            try with_reducible rfl
          try simp only [Act.put, List.setIfInBounds_toArray, List.set_cons_zero, List.set_cons_succ]
          refine wpAnyH_take (i := 15) (oi := { dst := some 82, op := Op.move (Operand.tmp 8), type := 27, pos := "law.go:278", after := _, guard := some (13, true) }) (v := ?_) rfl (by kernel_rfl) (by kernel_rfl) (by kernel_rfl) (fun _ _ _ h => h) (Or.inl ⟨by rfl, ?_⟩) (by assumption) ?_
          rotate_left
          · intro w hSw
            (try dsimp only at hSw)
            go_simp
            try with_reducible rfl
          try simp only [Act.put, List.setIfInBounds_toArray, List.set_cons_zero, List.set_cons_succ]
          refine wpAnyH_ready (rs := [16]) (by kernel_rfl) (by simp) ?_
          refine AllReadyH.cons (o := { dst := some 83, op := Op.call { callee := Callee.value (Operand.func 23), args := #[Operand.tmp 81, Operand.tmp 82], argTypes := #[27, 27] }, type := 4, pos := "law.go:278", after := _, guard := some (13, true) }) rfl (fun K hK => ?_) AllReadyH.nil
          go_simp
          go_at_call 23
          refine (HSM.out _ ((bdrew Y 1).trans (hb20.mono (Nat.le_refl _)))).mono ?_
          rintro e8 w21 ⟨rfl, hb21⟩
          first
            | refine hK.out _ _ ?_ (fun hHeld => ?_)
            | (go_wp2_with fail; refine hK.out _ _ ?_ (fun hHeld => ?_))
          · exact (KB.out _ _ (KB.out _ _ (KB.out _ _ HS0.out (bdrew Y 1)) hb20) hb21)
          clear hK K
          try simp only [Act.put, List.setIfInBounds_toArray, List.set_cons_zero, List.set_cons_succ]
          refine wpAnyH_take (i := 17) (oi := { dst := some 84, op := Op.pick (Operand.tmp 80) (Operand.tmp 83) (Operand.const (Value.bool false)), type := 4, pos := "law.go:278", after := _, guard := none }) (v := ?_) rfl (by kernel_rfl) (by kernel_rfl) (by kernel_rfl) (fun _ _ _ h => h) (Or.inl ⟨by rfl, ?_⟩) (by assumption) ?_
          rotate_left
          · intro w hSw
            (try dsimp only at hSw)
            go_simp
            try with_reducible rfl
          try simp only [Act.put, List.setIfInBounds_toArray, List.set_cons_zero, List.set_cons_succ]
          refine wpAnyH_take (i := 18) (oi := { dst := some 85, op := Op.move (Operand.tmp 84), type := 4, pos := "law.go:278", after := _, guard := none }) (v := ?_) rfl (by kernel_rfl) (by kernel_rfl) (by kernel_rfl) (fun _ _ _ h => h) (Or.inl ⟨by rfl, ?_⟩) (by assumption) ?_
          rotate_left
          · intro w hSw
            (try dsimp only at hSw)
            go_simp
            try with_reducible rfl
          try simp only [Act.put, List.setIfInBounds_toArray, List.set_cons_zero, List.set_cons_succ]
          refine wpAnyH_ready (rs := [19]) (by kernel_rfl) (by simp) ?_
          refine AllReadyH.cons (o := { dst := some 86, op := Op.call { callee := Callee.value (Operand.func 10), args := #[], argTypes := #[] }, type := 4, pos := "law.go:278", after := _, guard := some (18, true) }) rfl (fun K hK => ?_) AllReadyH.nil
          go_simp
          go_at_call 10
          refine (HA.out _).mono ?_
          rintro e9 w22 ⟨rfl, hb22⟩
          first
            | refine hK.out _ _ ?_ (fun hHeld => ?_)
            | (go_wp2_with fail; refine hK.out _ _ ?_ (fun hHeld => ?_))
          · exact (KB.out _ _ (KB.out _ _ (KB.out _ _ (KB.out _ _ HS0.out (bdrew Y 1)) hb20) hb21) hb22)
          clear hK K
          try simp only [Act.put, List.setIfInBounds_toArray, List.set_cons_zero, List.set_cons_succ]
          refine wpAnyH_take (i := 20) (oi := { dst := some 87, op := Op.pick (Operand.tmp 85) (Operand.tmp 86) (Operand.const (Value.bool false)), type := 4, pos := "law.go:278", after := _, guard := none }) (v := ?_) rfl (by kernel_rfl) (by kernel_rfl) (by kernel_rfl) (fun _ _ _ h => h) (Or.inl ⟨by rfl, ?_⟩) (by assumption) ?_
          rotate_left
          · intro w hSw
            (try dsimp only at hSw)
            go_simp
            try with_reducible rfl
          try simp only [Act.put, List.setIfInBounds_toArray, List.set_cons_zero, List.set_cons_succ]
          refine wpAnyH_take (i := 21) (oi := { dst := some 6, op := Op.assign (Operand.tmp 87), type := 4, pos := "law.go:278", after := _, guard := none }) (v := ?_) rfl (by kernel_rfl) (by kernel_rfl) (by kernel_rfl) (fun _ _ _ h => h) (Or.inl ⟨by rfl, ?_⟩) (by assumption) ?_
          rotate_left
          · intro w hSw
            (try dsimp only at hSw)
            go_simp
            try with_reducible rfl
          try simp only [Act.put, List.setIfInBounds_toArray, List.set_cons_zero, List.set_cons_succ]
          refine wpAnyH_done (by kernel_rfl) ?_ _
          have HBZ : Hid (Below w.heap.size w w22) := hide (by
            have h0 := HY.out.2.2.2
            have h1 := h0.trans ((bdrew Y 1).mono h0.size)
            have h2 := h1.trans (hb20.mono h1.size)
            have h3 := h2.trans (hb21.mono h2.size)
            exact h3.trans (hb22.mono h3.size))
          clear hb20 hb21 hb22
          go_wp2
          go_ret
          exact ⟨rfl, HBZ.out⟩
end Go.Proofs.Ytimjplkehlgelaa
