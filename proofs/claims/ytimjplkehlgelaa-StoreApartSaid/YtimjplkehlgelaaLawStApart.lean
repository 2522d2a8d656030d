/- The law StoreApart. -/
import Derived.Test.YtimjplkehlgelaaSoApF
namespace Go.Proofs.Ytimjplkehlgelaa
set_option linter.unusedVariables false
set_option linter.unusedSimpArgs false
open Go.RowKit

set_option maxRecDepth 200000 in
set_option maxHeartbeats 8000000 in
theorem lawStApart_any {w : World} {v u : Value} {D : List Dn} {M : List Sp} (h : Dns w v D) (f : Int) (hf9 : (Lit.int .i64 f).wf = true) (hM : Sps w u M) (hM9 : ∀ y ∈ M, y.n.size ≤ maxLen) : Calls Try.prog 3 #[v, .int .i64 f, u] w fun e w' => e = .returned (.bool true) ∧ Below w.heap.size w w' := by
  have HSH := hide (sshort_any h)
  have HA := hide sawake_any
  have HD := hide h
  have HM := hide (And.intro hM hM9)
  obtain ⟨pM, m, cM, rfl⟩ := hM.sl
  have hm := hM.len
  have hmi : (m : Int) ≤ 9223372036854775807 := by have := hm.2.2; have := hm.2.1; unfold maxLen at *; omega
  have HML := hide hm.1
  clear h hM hM9 hm
  go_enter Try.func3, Try.ntmps3
  go_wp2_with fail
  refine HSH.out.mono ?_
  rintro e W ⟨⟨q, rfl, hq⟩, hbW⟩
  have HQ := hide hq
  have HBW := hide hbW
  clear hq hbW HSH
  cases q
  · go_wp2_with fail
    refine (HA.out _).mono ?_
    rintro e2 w2 ⟨rfl, hb2⟩
    have HB2 := hide (HBW.out.trans (hb2.mono HBW.out.size))
    clear hb2
    go_wp2
    go_ret
    exact ⟨rfl, HB2.out⟩
  · have HLI := hide (slight_any (HM.out.1.below HBW.out) HM.out.2)
    obtain ⟨q, hq⟩ : ∃ q, lightL M = q := ⟨_, rfl⟩
    rw [hq] at HLI
    have HLQ := hide hq
    clear hq
    go_wp2_with fail
    refine HLI.out.mono ?_
    rintro e W2 ⟨rfl, hw2⟩
    obtain rfl := hw2.symm
    clear HLI
    cases q
    · go_wp2_with fail
      refine (HA.out _).mono ?_
      rintro e2 w2 ⟨rfl, hb2⟩
      have HB2 := hide (HBW.out.trans (hb2.mono HBW.out.size))
      clear hb2
      go_wp2
      go_ret
      exact ⟨rfl, HB2.out⟩
    · have HLL := hide (slight_len HLQ.out)
      have hm4 : m ≤ 400 := by have := HLL.out.1; have := HML.out; omega
      go_wp2_with fail
      refine (play_any (HD.out.below HBW.out) (HQ.out (by simp)).2).mono ?_
      intro e X hp
      obtain ⟨gs, bm, R, rfl, hs, hpl, hnw, hbX⟩ := hp
      have hokS := playS_ok D
      obtain ⟨S, hS⟩ : ∃ S, playS D = S := ⟨_, rfl⟩
      rw [hS] at hpl hokS
      have hbw0 := HBW.out.size
      have HX := hide (And.intro hs (And.intro hpl (And.intro hnw (And.intro hokS (HBW.out.trans (hbX.mono HBW.out.size))))))
      have HWX := hide hbX.size
      clear hs hpl hnw hokS hbX hS HQ HD
      go_wp2_with fail
      refine (stclone HX.out.1).mono ?_
      intro e w1 hp
      obtain ⟨gs2, bm2, R2, rfl, hs2, hpl2, hnw2, hb1⟩ := hp
      rw [HX.out.2.1] at hpl2
      have hs1 := HX.out.1.below hb1
      have hB1 : Below w.heap.size w w1 := HX.out.2.2.2.2.trans (hb1.mono HX.out.2.2.2.2.size)
      have H1 := hide (And.intro hs1 (And.intro hs2 (And.intro hpl2 (And.intro hnw2 (And.intro hB1 hb1.size)))))
      clear hs2 hpl2 hnw2 hb1 hs1 hB1
      go_wp2_with fail
      go_loopw [9, 10, 28] (fun _ _ i wr => ∃ k : Nat, k ≤ m ∧ i = .int .i64 k ∧ Hid (∃ R1, SoIs wr gs bm R1 ∧ (∀ t, t ≠ f → lookS (R1.map Tr.pl) t = lookS S t) ∧ SoIs wr gs2 bm2 R2 ∧ (∀ j, SoS gs bm R1 j → W.heap.size ≤ j ∧ (j < X.heap.size ∨ w1.heap.size ≤ j)) ∧ Below w.heap.size w wr ∧ w1.heap.size ≤ wr.heap.size)) (fun _ _ i _ => m - (intOf i).toNat)
      case atStart => exact ⟨0, by omega, rfl, hide ⟨R, H1.out.1, fun t _ => by rw [HX.out.2.1], H1.out.2.1, fun j hj => ⟨HX.out.2.2.1 j hj, .inl (HX.out.1.lt j hj)⟩, H1.out.2.2.2.2.1, Nat.le_refl _⟩⟩
      case round =>
        obtain ⟨k, hk, rfl, HR⟩ := hrel
        obtain ⟨R1, hsr, hlk, hs2r, hbk, hbl, hsz⟩ := HR.out
        by_cases hlt : k < m
        · obtain ⟨gv, ov, rfl, hx⟩ := HM.out.1.at_ (by omega)
          obtain ⟨x, hxk⟩ : ∃ x, M[k]? = some x := ⟨_, List.getElem?_eq_getElem (by have := HML.out; omega)⟩
          have hat := (hx k x hxk).below hbl
          obtain ⟨oo, hoo⟩ : ∃ oo, ov + k * 6 = oo := ⟨_, rfl⟩
          rw [hoo] at hat
          obtain ⟨z0, z1, z2, z3, z4, z5⟩ := And.intro hat.c0 (And.intro hat.c1 (And.intro hat.c2 (And.intro hat.c3 (And.intro hat.c4 hat.c5))))
          have hxn := HLL.out.2 x (List.mem_of_getElem? hxk)
          have HSR := hide (And.intro hsr (And.intro hlk (And.intro hs2r (And.intro hbk (And.intro hbl hsz)))))
          have hki : (k : Int) < (m : Int) := by omega
          clear hx hxk hat hsr hlk hs2r hbk hbl HR hsz
          obtain ⟨t, i, p', s, en, nm⟩ := x
          dsimp only at *
          go_wp2_with fail
          have ha1 := (Below.refl wr.heap.size wr).alloc (Nat.le_refl _) (.cells #[.int .i64 f, .int .i64 i, .int .i64 p', .int .i64 s, .int .i64 en, .string nm] 31)
          have ha2 := ha1.alloc ha1.size (.cells #[.int .i64 f, .int .i64 i, .int .i64 p', .int .i64 s, .int .i64 en, .string nm] 31)
          have HIN := hide (singest_any (HSR.out.1.below ha2) (sps_one6 (wr.alloc (.cells #[.int .i64 f, .int .i64 i, .int .i64 p', .int .i64 s, .int .i64 en, .string nm] 31)) ⟨f, i, p', s, en, nm⟩) (by simp) (fun y hy => by
            simp only [List.mem_cons, List.not_mem_nil, or_false] at hy
            subst hy
            exact hxn))
          rw [size_alloc'] at HIN
          refine HIN.out.mono ?_
          intro e w6 hp6
          obtain ⟨rfl, R6, ht6⟩ := hp6
          have hbA : Below w.heap.size w ((wr.alloc (.cells #[.int .i64 f, .int .i64 i, .int .i64 p', .int .i64 s, .int .i64 en, .string nm] 31)).alloc (.cells #[.int .i64 f, .int .i64 i, .int .i64 p', .int .i64 s, .int .i64 en, .string nm] 31)) := HSR.out.2.2.2.2.1.trans (ha2.mono HSR.out.2.2.2.2.1.size)
          have H6 : Hid (∃ R1, SoIs w6 gs bm R1 ∧ (∀ t, t ≠ f → lookS (R1.map Tr.pl) t = lookS S t) ∧ SoIs w6 gs2 bm2 R2 ∧ (∀ j, SoS gs bm R1 j → W.heap.size ≤ j ∧ (j < X.heap.size ∨ w1.heap.size ≤ j)) ∧ Below w.heap.size w w6 ∧ w1.heap.size ≤ w6.heap.size) := hide (by
            refine ⟨R6, ht6.is, fun t9 ht9 => ?_, ?_, fun j hj => ?_, ?_, ?_⟩
            · rw [ht6.pl, ing_apart _ _ ht9]
              exact HSR.out.2.1 t9 ht9
            · refine (HSR.out.2.2.1.below ha2).chg ht6.chg fun j hj hm => ?_
              have h1 := H1.out.2.2.2.1 j hj
              have h2 := H1.out.2.1.lt j hj
              have h3 := HSR.out.2.2.2.1 j (SoM.sub hm)
              omega
            · rcases ht6.new j hj with h1 | h1
              · exact HSR.out.2.2.2.1 j h1
              · have := HSR.out.2.2.2.2.2
                have := H1.out.2.2.2.2.2
                have := HX.out.2.2.2.2.size
                have := HWX.out
                have := ha2.size
                exact ⟨by omega, .inr (by omega)⟩
            · exact Chg.to_below hbA ht6.chg fun j hj => Nat.le_trans hbw0 (HSR.out.2.2.2.1 j (SoM.sub hj)).1
            · have := HSR.out.2.2.2.2.2
              have := ha2.size
              have := ht6.chg.size
              omega)
          clear ht6 hbA ha1 ha2 HIN
          go_wp2
          go_roundw
          case rel => exact ⟨k + 1, by omega, by go_num, H6⟩
          case measure => simp [intOf]; omega
        · have HSR := hide (And.intro hsr (And.intro hlk (And.intro hs2r hbl)))
          clear HR hsr hlk hs2r hbk hbl hsz
          go_wp2_with fail
          refine (straces_any HSR.out.2.2.1).mono ?_
          intro e w3 hp3
          obtain ⟨v3, rfl, hrow3, hb3⟩ := hp3
          have HR3 := hide hrow3
          have HB3 := hide hb3
          have HOK1 := hide HSR.out.1.ok
          obtain ⟨p3, c3, rfl, _⟩ := ints_row hrow3
          clear hrow3 hb3
          go_wp2_with fail
          refine (straces_any (HSR.out.1.below HB3.out)).mono ?_
          intro e w4 hp4
          obtain ⟨v4, rfl, hrow4, hb4⟩ := hp4
          have hl2 : R2.length ≤ 32 := H1.out.2.1.len
          have hl1 : R1.length ≤ 32 := HSR.out.1.len
          have HR3' := hide (row_below HR3.out hb4)
          have HR4 := hide hrow4
          have HB4 := hide (HB3.out.trans (hb4.mono HB3.out.size))
          obtain ⟨p4, c4, rfl, _⟩ := ints_row hrow4
          clear hrow4 hb4
          go_wp2_with (at_builtin; go_must (refine wpList_pushesI rfl _ _ rfl rfl rfl rfl HR3'.out HR4.out HB4.out.size (by omega) ?_); intro v5 w5 hrow5 hb5; obtain ⟨p5, c5, rfl, hl5, hmx5, hcl5⟩ := ints_row hrow5; have HCL := hide hcl5; have HB5 : Hid (Below wr.heap.size wr w5) := hide (HB4.out.trans hb5); clear hcl5 hrow5 hb5)
          have HK9 : Hid (∀ t ∈ (R2.map (·.t)) ++ (R1.map (·.t)), (Lit.int .i64 t).wf = true) := hide fun t ht => by
            have key : ∀ (w : World) (gs bm : Nat) (R : List Tr), SoIs w gs bm R → ∀ t ∈ R.map (·.t), (Lit.int .i64 t).wf = true := fun w gs bm R h t ht => by
              obtain ⟨y, hy, rfl⟩ := List.mem_map.1 ht
              have hyo := h.ok.ok y.pl (List.mem_map.2 ⟨y, hy, rfl⟩)
              exact WalkArith.wf_i64 (by have h1 : 1 ≤ y.t := hyo.2.2.1; have h2 : y.t ≤ 1099511627776 := hyo.2.2.2; omega)
            rcases List.mem_append.1 ht with ht | ht
            · exact key _ _ _ _ H1.out.2.1 t ht
            · exact key _ _ _ _ HSR.out.1 t ht
          obtain ⟨n, hn⟩ : ∃ n, R2.length + R1.length = n := ⟨_, rfl⟩
          have hnc : ((R2.length : Int) + (R1.length : Int)) = (n : Int) := by omega
          rw [hn] at HCL hmx5 ⊢
          have hni : (n : Int) ≤ 9223372036854775807 := by omega
          have HNL : Hid (((R2.map (·.t)) ++ (R1.map (·.t))).length = n) := hide (by simp; omega)
          obtain ⟨TS, hTS⟩ : ∃ TS, (R2.map (·.t)) ++ (R1.map (·.t)) = TS := ⟨_, rfl⟩
          rw [hTS] at HCL HK9 HNL
          have HS5 := hide (And.intro (HSR.out.1.below HB5.out) (And.intro (HSR.out.2.2.1.below HB5.out) (HSR.out.2.2.2.trans (HB5.out.mono HSR.out.2.2.2.size))))
          clear hn hTS hl5 hmx5 hl1 hl2
          try rw [hnc]
          clear hnc
          go_wp2_with fail
          go_loopw [12, 48] (fun _ i wr => ∃ k : Nat, k ≤ n ∧ i = .int .i64 k ∧ Hid (Below w5.heap.size w5 wr)) (fun _ i _ => n - (intOf i).toNat)
          case atStart => exact ⟨0, by omega, rfl, hide (Below.refl _ _)⟩
          case round =>
            obtain ⟨k, hk, rfl, HR⟩ := hrel
            by_cases hlt : k < n
            · obtain ⟨t, ht⟩ : ∃ t, TS[k]? = some t := ⟨_, List.getElem?_eq_getElem (by have := HNL.out; omega)⟩
              obtain ⟨gk, rfl, hgk', hc⟩ := HCL.out (by omega)
              have ck : wr.cell? ⟨gk, k, none⟩ = some (.int .i64 t) := (HR.out.cell (p := ⟨gk, k, none⟩) hgk').trans (hc k t ht)
              have hwf := HK9.out t (List.mem_of_getElem? ht)
              have HLW := hide (fun V (hV : Below wr.heap.size wr V) => slookup_any ((HS5.out.2.1.below HR.out).below hV) hwf)
              have HLS := hide (fun V (hV : Below wr.heap.size wr V) => slookup_any ((HS5.out.1.below HR.out).below hV) hwf)
              clear ht hc hwf hgk'
              by_cases htf : t = f
              · have hb1 : (t != f) = false := by simp [htf]
                clear htf
                go_wp2
                go_roundw
                case rel => exact ⟨k + 1, by omega, by go_num, HR⟩
                case measure => simp [intOf]; omega
              · have hb1 : (t != f) = true := by simp [htf]
                have HEQL : Hid (lookS (R1.map Tr.pl) t = lookS S t) := hide (HSR.out.2.1 t htf)
                clear htf
                go_wp2_with fail
                refine (HLW.out _ (Below.refl _ _)).mono ?_
                rintro e w7 ⟨v7, rfl, ho7, hb7⟩
                rw [H1.out.2.2.1] at ho7
                have HB7 : Hid (Below wr.heap.size wr w7) := hide hb7
                obtain ⟨p7, n7, c7, rfl⟩ := ho7.brs.sl
                have HO7 := hide ho7.brs
                clear ho7 hb7
                go_wp2_with fail
                refine (HLS.out _ HB7.out).mono ?_
                rintro e w8 ⟨v8, rfl, ho8, hb8⟩
                rw [HEQL.out] at ho8
                have HB8 : Hid (Below wr.heap.size wr w8) := hide (HB7.out.trans (hb8.mono HB7.out.size))
                have HEQ := hide (equalBr_any (HO7.out.below hb8) ho8.brs)
                obtain ⟨p8, n8, c8, rfl⟩ := ho8.brs.sl
                rw [decide_eq_true rfl] at HEQ
                clear ho8 hb8
                go_wp2_with fail
                refine HEQ.out.mono ?_
                rintro e w9 ⟨rfl, hw9⟩
                have HB9 : Hid (Below wr.heap.size wr w9) := hide (by obtain ⟨q9, hq9⟩ := hw9; rw [hq9]; exact HB8.out.trans (bdrew w8 q9))
                clear hw9 HEQ
                go_wp2
                go_roundw
                case rel => exact ⟨k + 1, by omega, by go_num, hide (HR.out.trans (HB9.out.mono HR.out.size))⟩
                case measure => simp [intOf]; omega
            · go_wp2_with fail
              refine (HA.out _).mono ?_
              rintro e2 w9 ⟨rfl, hb9⟩
              have HB9 := hide ((HS5.out.2.2.trans (HR.out.mono HS5.out.2.2.size)).trans (hb9.mono (Nat.le_trans HS5.out.2.2.size HR.out.size)))
              clear hb9
              go_wp2
              go_ret
              exact ⟨rfl, HB9.out⟩
end Go.Proofs.Ytimjplkehlgelaa
