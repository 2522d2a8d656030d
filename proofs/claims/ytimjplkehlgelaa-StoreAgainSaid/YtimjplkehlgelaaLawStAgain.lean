/- The law StoreAgain. -/
import Derived.Test.YtimjplkehlgelaaSoFacts
namespace Go.Proofs.Ytimjplkehlgelaa
set_option linter.unusedVariables false
set_option linter.unusedSimpArgs false
open Go.RowKit

set_option maxRecDepth 200000 in
set_option maxHeartbeats 8000000 in
theorem lawStAgain_any {w : World} {v : Value} {D : List Dn} (h : Dns w v D) : Calls Try.prog 4 #[v] w fun e w' => e = .returned (.bool true) ∧ Below w.heap.size w w' := by
  have HSH := hide (sshort_any h)
  have HA := hide sawake_any
  have HD := hide h
  clear h
  go_enter Try.func4, Try.ntmps4
  go_wp2_with fail
  refine HSH.out.mono ?_
  rintro e W ⟨⟨q, rfl, hq⟩, hbW⟩
  have HQ := hide hq
  have HBW := hide hbW
  clear hq hbW HSH
  cases q
  · go_wp2_with fail
    refine (HA.out _).mono ?_
    rintro e2 w2 ⟨rfl, hb2⟩
    have HB2 := hide (HBW.out.trans (hb2.mono HBW.out.size))
    clear hb2
    go_wp2
    go_ret
    exact ⟨rfl, HB2.out⟩
  · go_wp2_with fail
    refine (play_any (HD.out.below HBW.out) (HQ.out (by simp)).2).mono ?_
    intro e X hp
    obtain ⟨gs, bm, R, rfl, hs, hpl, hnw, hbX⟩ := hp
    have hokS := playS_ok D
    obtain ⟨S, hS⟩ : ∃ S, playS D = S := ⟨_, rfl⟩
    rw [hS] at hpl hokS
    have HX := hide (And.intro hs (And.intro hpl (And.intro hnw (And.intro hokS (HBW.out.trans (hbX.mono HBW.out.size))))))
    clear hs hpl hnw hokS hbX hS HQ HD
    go_wp2_with fail
    refine (simage_any HX.out.1).mono ?_
    intro e w1 hp
    obtain ⟨v1, rfl, ho1, hb1⟩ := hp
    rw [HX.out.2.1] at ho1
    obtain ⟨p1, n1, c1, rfl⟩ := ho1.by_.sl
    have HI := hide ho1.by_
    have H1 := hide (And.intro (HX.out.1.below hb1) (HX.out.2.2.2.2.trans (hb1.mono HX.out.2.2.2.2.size)))
    clear ho1 hb1
    go_wp2_with fail
    refine (straces_any H1.out.1).mono ?_
    intro e w2 hp
    obtain ⟨v2, rfl, hrow, hb2⟩ := hp
    rw [tr_fst, HX.out.2.1] at hrow
    have hlR : R.length = S.length := by rw [← HX.out.2.1, List.length_map]
    rw [hlR] at hrow
    obtain ⟨n, hn⟩ : ∃ n, S.length = n := ⟨_, rfl⟩
    rw [hn] at hrow
    have hn32 : n ≤ 32 := by rw [← hn]; exact HX.out.2.2.2.1.len
    have HN := hide hn
    obtain ⟨p2, c2, rfl, hl2, hmx, _⟩ := ints_row hrow
    have H2 := hide (And.intro (H1.out.1.below hb2) (And.intro (H1.out.2.trans (hb2.mono H1.out.2.size)) (And.intro (HI.out.below hb2) (row_mono (B' := 0) hrow (Nat.zero_le _)))))
    have hmx' : (n : Int) ≤ 9223372036854775807 := by omega
    clear hrow hb2 hlR hn hl2 hmx
    go_wp2_with fail
    go_loopw [6, 7, 9, 10, 11, 23, 31] (fun _ _ _ _ _ i _ wr => ∃ k : Nat, k ≤ n ∧ i = .int .i64 k ∧ Hid (∃ R, SoIs wr gs bm R ∧ R.map Tr.pl = S ∧ (∀ k, SoS gs bm R k → w.heap.size ≤ k) ∧ Below w.heap.size w wr ∧ By wr (.slice p1 n1 c1) (imgS S) ∧ wr.ownsRow 0 3 1 (.slice p2 n c2) n ((S.map Prod.fst).map (Value.int .i64)))) (fun _ _ _ _ _ i _ _ => n - (intOf i).toNat)
    case atStart => exact ⟨0, by omega, rfl, hide ⟨R, H2.out.1, HX.out.2.1, fun k hk => Nat.le_trans (show w.heap.size ≤ W.heap.size from HBW.out.size) (HX.out.2.2.1 k hk), H2.out.2.1, H2.out.2.2.1, H2.out.2.2.2⟩⟩
    case round =>
      obtain ⟨k, hk, rfl, HR⟩ := hrel
      obtain ⟨R, hsr, hpl, hnw, hbl, hby, hrow⟩ := HR.out
      by_cases hlt : k < n
      · obtain ⟨y, hy⟩ : ∃ y, S[k]? = some y := ⟨_, List.getElem?_eq_getElem (by have := HN.out; omega)⟩
        obtain ⟨p2', c2', he2, _, _, hcl⟩ := ints_row hrow
        injection he2 with he2 _ he3
        subst he2 he3
        obtain ⟨gk, rfl, hgk, hc⟩ := hcl (by omega)
        have ck : wr.cell? ⟨gk, k, none⟩ = some (.int .i64 y.1) := hc k y.1 (by simp [hy])
        have hyS : y ∈ S := List.mem_of_getElem? hy
        have hyo := HX.out.2.2.2.1.ok y hyS
        have HLK := hide (slookup_any hsr (k := y.1) (WalkArith.wf_i64 (by have h1 := hyo.2.2.1; have h2 := hyo.2.2.2; omega)))
        have HSR := hide (And.intro hsr (And.intro hpl (And.intro hnw (And.intro hbl (And.intro hby hrow)))))
        have HY := hide (And.intro hyS hyo)
        clear hy hcl hc hyS hyo hsr hpl hnw hbl hby hrow hgk HR
        obtain ⟨t, L⟩ := y
        dsimp only at *
        go_wp2_with fail
        refine HLK.out.mono ?_
        rintro e w5 ⟨v5, rfl, ho5, hb5⟩
        rw [HSR.out.2.1, lookS_of HX.out.2.2.2.1 HY.out.1] at ho5
        obtain ⟨p5, n5, c5, rfl⟩ := ho5.brs.sl
        have hn5 := ho5.brs.len
        have hn5L : n5 = L.length := by rw [hn5.1, ← spsOf_len HY.out.2.1]; unfold spsOf; rw [List.length_map]
        have h64 : n5 ≤ 64 := by have := HY.out.2.1.len; (try dsimp only at this); omega
        have hn5i : (n5 : Int) ≤ 9223372036854775807 := by omega
        have HB5 := hide hb5
        have HO5 := hide ho5.brs
        have HLN := hide (And.intro hn5.1 hn5L)
        clear ho5 hb5 hn5 hn5L HLK
        obtain ⟨wo, rfl⟩ : ∃ wo : World, wo = wr := ⟨_, rfl⟩
        go_wp2_with fail
        go_loopw [7, 9, 31] (fun a _ j wz => ∃ m : Nat, m ≤ n5 ∧ j = .int .i64 m ∧ (∃ p c, a = .slice p m c) ∧ Hid (OwnS w5.heap.size wz a ((spsOf L).take m) ∧ Below w5.heap.size w5 wz)) (fun _ _ j _ => n5 - (intOf j).toNat)
        case atStart => exact ⟨0, by omega, rfl, ⟨_, _, rfl⟩, hide ⟨OwnS.nil _ _, Below.refl _ _⟩⟩
        case round =>
          obtain ⟨m, hm, rfl, ⟨p7, c7, rfl⟩, HM⟩ := hrel
          by_cases hmd : (m : Int) < (n5 : Int)
          · obtain ⟨gv, ov, rfl, hx⟩ := HO5.out.at_ (by omega)
            obtain ⟨x, hxm⟩ : ∃ x, (brs (sortS L))[m]? = some x := ⟨_, List.getElem?_eq_getElem (by have := HLN.out.1; omega)⟩
            have hat := fun i u hu => (HM.out.2.cell (lt_of_cell (hx m x hxm i u hu))).trans (hx m x hxm i u hu)
            obtain ⟨oo2, hoo2⟩ : ∃ oo2, ov + m * 8 = oo2 := ⟨_, rfl⟩
            rw [hoo2] at hat
            have z0 := hat 0 _ rfl
            rw [Nat.add_zero] at z0
            have z1 := hat 1 _ rfl
            have z2 := hat 2 _ rfl
            have z3 := hat 3 _ rfl
            have z4 := hat 4 _ rfl
            have z5 := hat 5 _ rfl
            have z6 := hat 6 _ rfl
            have z7 := hat 7 _ rfl
            have HTK : Hid ((spsOf L).take (m + 1) = (spsOf L).take m ++ [x.s]) := hide (by
              rw [List.take_add_one]
              have : (spsOf L)[m]? = some x.s := by unfold spsOf; rw [List.getElem?_map, hxm]; rfl
              rw [this]
              rfl)
            have hbn : Below wr.heap.size wr (wr.alloc (.cells #[.int .i64 x.d, .bool x.o, .int .i64 x.s.t, .int .i64 x.s.i, .int .i64 x.s.p, .int .i64 x.s.s, .int .i64 x.s.e, .string x.s.n] 42)) := (Below.refl _ _).alloc (Nat.le_refl _) _
            have HOS := hide (HM.out.1.below hbn)
            have HBN := hide (HM.out.2.trans (hbn.mono HM.out.2.size))
            have HTL : Hid (((spsOf L).take m).length ≤ 1000000) := hide (by rw [List.length_take]; omega)
            have hzs : (wr.alloc (.cells #[.int .i64 x.d, .bool x.o, .int .i64 x.s.t, .int .i64 x.s.i, .int .i64 x.s.p, .int .i64 x.s.s, .int .i64 x.s.e, .string x.s.n] 42)).heap.size = wr.heap.size + 1 := by simp
            have HZS := hide hzs.symm
            clear hx hxm hat hbn hzs
            obtain ⟨dd, oo, ⟨xt, xi, xp, xs, xe, xn⟩⟩ := x
            try dsimp only at *
            go_wp2_with (at_builtin; go_loud (refine wpList_pushH (v := .slice p7 m c7) rfl _ _ rfl rfl ⟨xt, xi, xp, xs, xe, xn⟩ rfl rfl HZS.out HOS.out HBN.out.size HTL.out ?_); intro v8 w8 ho8 hb8 hg8)
            obtain ⟨p8, n8, c8, rfl⟩ := ho8.sps.sl
            obtain rfl : n8 = m + 1 := by have := ho8.sps.len.1; rw [this, List.length_append, List.length_take]; have h1 := HLN.out; have h2 := spsOf_len HY.out.2.1; (try dsimp only at h2); simp; omega
            have HO8 := hide (show OwnS w5.heap.size w8 (.slice p8 (m + 1) c8) ((spsOf L).take (m + 1)) by rw [HTK.out]; exact ho8)
            have HB8 := hide (HBN.out.trans hb8)
            clear ho8 hb8 hg8
            go_roundw
            case rel => exact ⟨m + 1, by omega, by go_num, ⟨_, _, rfl⟩, hide ⟨HO8.out, HB8.out⟩⟩
            case measure => simp [intOf]; omega
          · obtain rfl : m = n5 := by omega
            have hll := spsOf_len HY.out.2.1
            have htk : (spsOf L).take m = spsOf L := List.take_of_length_le (by have h1 := HLN.out; (try dsimp only at hll); omega)
            have hos := HM.out.1
            rw [htk] at hos
            have hb9 : Below wo.heap.size wo wr := HB5.out.trans (HM.out.2.mono HB5.out.size)
            have hmem : ∀ x ∈ spsOf L, x ∈ L := fun x hx => (fo_perm HY.out.2.1).mem_iff.1 hx
            have HIN := hide (singest_any (HSR.out.1.below hb9) hos.sps (by (try dsimp only at hll); have := HLN.out; omega) (fun x hx => sp_name (HY.out.2.1.ok x (hmem x hx)).1))
            have HAG := hide (ing_again HX.out.2.2.2.1 HY.out.1 hmem)
            have HL5 : Hid ((spsOf L).length = m) := hide (by rw [hll]; exact HLN.out.2.symm)
            have HB9 := hide hb9
            have hm0 : ((m : Int) == 0) = false := by
              have h1 := HY.out.2.2.1
              have h2 : L.length ≠ 0 := fun h => h1 (List.eq_nil_of_length_eq_zero h)
              have h3 := HLN.out.2
              simp
              omega
            clear hll htk hos hb9 hmem
            go_wp2_with fail
            refine HIN.out.mono ?_
            intro e w6 hp6
            obtain ⟨he6, R6, ht6⟩ := hp6
            rw [HSR.out.2.1, HAG.out.2.1, HAG.out.2.2, HL5.out] at he6
            rw [HSR.out.2.1, HAG.out.1] at ht6
            subst he6
            have hB6 : Below w.heap.size w w6 := Chg.to_below (HSR.out.2.2.2.1.trans (HB9.out.mono HSR.out.2.2.2.1.size)) ht6.chg fun j hj => HSR.out.2.2.1 j (SoM.sub hj)
            have hn6 : ∀ j, SoS gs bm R6 j → w.heap.size ≤ j := fun j hj => by
              rcases ht6.new j hj with h1 | h1
              · exact HSR.out.2.2.1 j h1
              · have := HSR.out.2.2.2.1.size; have := HB9.out.size; omega
            have hby6 := By.keep (HSR.out.1.below HB9.out) ht6.chg (HSR.out.2.2.2.2.1.below HB9.out)
            have hrow6 := row_keepM (HSR.out.1.below HB9.out) ht6.chg (row_below HSR.out.2.2.2.2.2 HB9.out)
            have hal := (Below.refl w6.heap.size w6).alloc (Nat.le_refl _) (.cells #[.int .i64 0, .int .i64 (m : Nat), .int .i64 0, .int .i64 0, .int .i64 0] 33)
            have H6 : Hid (∃ R, SoIs (w6.alloc (.cells #[.int .i64 0, .int .i64 (m : Nat), .int .i64 0, .int .i64 0, .int .i64 0] 33)) gs bm R ∧ R.map Tr.pl = S ∧ (∀ k, SoS gs bm R k → w.heap.size ≤ k) ∧ Below w.heap.size w (w6.alloc (.cells #[.int .i64 0, .int .i64 (m : Nat), .int .i64 0, .int .i64 0, .int .i64 0] 33)) ∧ By (w6.alloc (.cells #[.int .i64 0, .int .i64 (m : Nat), .int .i64 0, .int .i64 0, .int .i64 0] 33)) (.slice p1 n1 c1) (imgS S) ∧ (w6.alloc (.cells #[.int .i64 0, .int .i64 (m : Nat), .int .i64 0, .int .i64 0, .int .i64 0] 33)).ownsRow 0 3 1 (.slice (some ⟨gk, 0, none⟩) n c2) n ((S.map Prod.fst).map (Value.int .i64))) := hide ⟨R6, ht6.is.below hal, ht6.pl, hn6, hB6.trans (hal.mono hB6.size), hby6.below hal, row_below hrow6 hal⟩
            clear ht6 hB6 hn6 hby6 hrow6 hal HIN
            unfold cnV
            dsimp only
            go_wp2
            go_roundw
            case rel => exact ⟨k + 1, by omega, by go_num, H6⟩
            case measure => simp [intOf]; omega
      · have HSR := hide (And.intro hsr (And.intro hpl (And.intro hbl hby)))
        clear HR hsr hpl hnw hbl hby hrow
        go_wp2_with fail
        refine (simage_any HSR.out.1).mono ?_
        intro e w7 hp7
        obtain ⟨v7, rfl, ho7, hb7⟩ := hp7
        rw [HSR.out.2.1] at ho7
        have HEQ := hide (equal_any ho7.by_ (HSR.out.2.2.2.below hb7))
        have HB7 := hide (HSR.out.2.2.1.trans (hb7.mono HSR.out.2.2.1.size))
        obtain ⟨p7, n7, c7, rfl⟩ := ho7.by_.sl
        have hbb : (imgS S == imgS S) = true := by simp
        rw [hbb] at HEQ
        clear ho7 hb7 hbb
        go_wp2_with fail
        refine HEQ.out.mono ?_
        rintro e w8 ⟨rfl, rfl⟩
        go_wp2_with fail
        refine (HA.out _).mono ?_
        rintro e2 w9 ⟨rfl, hb9⟩
        have HB9 := hide (HB7.out.trans (hb9.mono HB7.out.size))
        clear hb9
        go_wp2
        go_ret
        exact ⟨rfl, HB9.out⟩
end Go.Proofs.Ytimjplkehlgelaa
