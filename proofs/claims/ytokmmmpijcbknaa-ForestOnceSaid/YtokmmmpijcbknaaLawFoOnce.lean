/- The law ForestOnce. -/
import Derived.Test.YtokmmmpijcbknaaFSwap
import Derived.Deep.QuietTactic
import Derived.BigQuiet
namespace Go.Proofs.Ytokmmmpijcbknaa
set_option linter.unusedVariables false
set_option linter.unusedSimpArgs false
open Go.RowKit

theorem unf_depth {S : List Sp} : ∀ {n : Nat} {d : Int} {o : Bool} {t : Sp} {y : Br}, y ∈ unf S n d o t → y.d ≤ d + n
  | 0, d, o, t, y, hy => by
    unfold unf at hy
    rw [List.mem_singleton] at hy
    subst hy
    simp
  | n + 1, d, o, t, y, hy => by
    unfold unf at hy
    rcases List.mem_cons.1 hy with rfl | hy
    · simp only; omega
    · obtain ⟨c, hc, hy⟩ := List.mem_flatMap.1 hy
      have := unf_depth hy
      omega
theorem brs_depth {S : List Sp} {y : Br} (hy : y ∈ brs S) : y.d ≤ 64 := by
  unfold brs at hy
  rcases List.mem_append.1 hy with hy | hy
  all_goals
    obtain ⟨t, _, hy⟩ := List.mem_flatMap.1 hy
    have := unf_depth hy
    omega
/-- What a branch tells of its span. -/
theorem br_facts {G : List Sp} (hok : FoOk 1 G) {x : Br} (hx : x ∈ brs (sortS G)) : x.s ∈ G ∧ ((fnd G x.s.p = none ∧ x.s.p = 0 ∧ x.o = false ∧ x.d = 0) ∨ (fnd G x.s.p = none ∧ x.s.p ≠ 0 ∧ x.o = true ∧ x.d = 0) ∨ (∃ u, fnd G x.s.p = some u) ∧ x.s.p ≠ 0 ∧ x.o = false ∧ 0 < x.d ∧ x.d ≤ 64) := by
  obtain ⟨r, hr⟩ := hok.sort.tidy
  obtain ⟨h1, t, k, ht, htn, ha, hd, ho⟩ := mem_brs hr hx
  have hxG : x.s ∈ G := (sortS_perm G).mem_iff.1 h1
  have hf : ∀ j, fnd (sortS G) j = fnd G j := fun j => fnd_perm hok.ids (sortS_perm G) j
  refine ⟨hxG, ?_⟩
  cases k with
  | zero =>
    injection ha with ha
    subst ha
    rw [hf] at htn
    by_cases hp : x.s.p = 0
    · exact .inl ⟨htn, hp, by rw [ho, hp]; rfl, by rw [hd]; rfl⟩
    · exact .inr (.inl ⟨htn, hp, by rw [ho, beq_eq_false_iff_ne.2 hp]; rfl, by rw [hd]; rfl⟩)
  | succ k =>
    have hs : ∃ u, fnd G x.s.p = some u := by
      rw [← hf]
      cases h : fnd (sortS G) x.s.p with
      | none => unfold anc at ha; rw [h] at ha; cases ha
      | some u => exact ⟨u, rfl⟩
    refine .inr (.inr ⟨hs, fun h0 => ?_, by rw [ho]; simp, by rw [hd]; omega, brs_depth hx⟩)
    obtain ⟨u, hu⟩ := hs
    rw [h0, ← hf, hr.zero] at hu
    cases hu

set_option maxRecDepth 200000 in
set_option maxHeartbeats 4000000 in
theorem lawFoOnce_any {w : World} {v1 : Value} {l1 : List Sp} (hv1 : Sps w v1 l1) (hn1 : ∀ x ∈ l1, x.n.size ≤ maxLen) : Calls Try.prog 4 #[v1] w fun e w' => e = .returned (.bool true) ∧ Below w.heap.size w w' := by
  obtain ⟨q1, m1, c1, rfl⟩ := hv1.sl
  have HL1 := hide (light_any hv1 hn1)
  have HA := hide awake_any
  have HS1 := hide hv1
  clear hv1 hn1
  cases h1 : lightL l1 with
  | false =>
    rw [h1] at HL1
    go_enter Try.func4, Try.ntmps4
    go_wp2_with fail
    refine HL1.out.mono ?_
    rintro e1 w1 ⟨rfl, hw1⟩
    have hw1 := hw1.symm
    subst hw1
    go_wp2_with fail
    refine (HA.out _).mono ?_
    rintro e2 w2 ⟨rfl, hb2⟩
    have HBf := hide ((Below.refl w.heap.size w).trans (hb2.mono (Below.refl w.heap.size w).size))
    clear hb2
    go_wp2
    go_ret
    exact ⟨rfl, HBf.out⟩
  | true =>
    rw [h1] at HL1
    have HG1 := hide (light_len h1)
    clear h1
    go_enter Try.func4, Try.ntmps4
    go_wp2_with fail
    refine HL1.out.mono ?_
    rintro e1 w1 ⟨rfl, hw1⟩
    have hw1 := hw1.symm
    subst hw1
    go_wp2_with fail
    refine (grown_any HS1.out (by have := HG1.out.1; omega) HG1.out.2).mono ?_
    rintro e2 w2 ⟨gf, bf, rfl, hf2, hg2, hbb2, hb2⟩
    have hlt2 : gf < w2.heap.size ∧ bf < w2.heap.size := ⟨lt_of_cell hf2.c0, by obtain ⟨D, hD⟩ := hf2.bag; exact hD.map.lt⟩
    have HOf := hide (And.intro hg2 (And.intro hbb2 hlt2))
    have HZf : Hid (w.heap.size ≤ gf ∧ w.heap.size ≤ bf) := hide (by have := (Below.refl w.heap.size w).size; omega)
    have HB3 : Hid (RowKit.Below w.heap.size w w2) := hide ((Below.refl w.heap.size w).trans (hb2.mono (Below.refl w.heap.size w).size))
    have HS1_3 := hide (HS1.out.below hb2)
    have HFf := hide hf2
    clear hf2 hb2 hg2 hbb2 hlt2
    have HF := HFf
    have HB := HB3
    obtain ⟨G, hG⟩ : ∃ G, growP l1 = G := ⟨_, rfl⟩
    have hok : FoOk 1 G := by rw [← hG]; exact growP_ok l1
    rw [hG] at HF
    have HOK := hide hok
    clear hG hok
    go_wp2_with fail
    refine (branches_any HF.out).mono ?_
    rintro e4 X ⟨v4, rfl, ho4, hb4⟩
    obtain ⟨pb, nb, cb, rfl⟩ := ho4.brs.sl
    obtain ⟨BS, hBS⟩ : ∃ BS, brs (sortS G) = BS := ⟨_, rfl⟩
    have hnb : nb = (brs (sortS G)).length := ho4.brs.len.1
    have hl64 : (brs (sortS G)).length ≤ 64 := by
      obtain ⟨r, hr⟩ := HOK.out.sort.tidy
      rw [brs_len hr HOK.out.sort.len]
      exact HOK.out.sort.len
    have hfx : ∀ x ∈ BS, x.s ∈ G ∧ ((fnd G x.s.p = none ∧ x.s.p = 0 ∧ x.o = false ∧ x.d = 0) ∨ (fnd G x.s.p = none ∧ x.s.p ≠ 0 ∧ x.o = true ∧ x.d = 0) ∨ (∃ u, fnd G x.s.p = some u) ∧ x.s.p ≠ 0 ∧ x.o = false ∧ 0 < x.d ∧ x.d ≤ 64) := fun x hx => br_facts HOK.out (by rw [hBS]; exact hx)
    have hnear : ∀ (i : Nat) x, BS[i]? = some x → 0 < x.d → ∃ y, (BS.take i).reverse.find? (fun z => decide (z.d < x.d)) = some y ∧ y.d = x.d - 1 ∧ y.s.i = x.s.p := fun i x hi hd => by
      rw [← hBS] at hi ⊢
      exact near_at hi hd
    have hperm : (BS.map Br.s).Perm G := by
      obtain ⟨r, hr⟩ := HOK.out.sort.tidy
      rw [← hBS]
      exact (brs_perm hr HOK.out.sort.len).trans (sortS_perm G)
    rw [hBS] at ho4 hnb hl64
    have hnb64 : nb ≤ 64 := by omega
    have HBR := hide ho4.brs
    have HBX := hide (HB.out.trans (hb4.mono HB.out.size))
    have HFX := hide (HF.out.below hb4)
    have HFACT := hide (And.intro hfx (And.intro hnear (And.intro hperm hnb)))
    clear ho4 hb4 hBS hnb hl64 hfx hnear hperm
    go_wp2_with fail
    go_loopw [5, 6, 7, 8, 9, 10, 21] (fun v5 _ _ _ _ _ ix wr => ∃ (k : Nat) (p : Option Addr) (m c : Nat), v5 = .slice p m c ∧ k ≤ nb ∧ ix = .int .i64 k ∧ Hid (OwnS X.heap.size wr (.slice p m c) ((BS.take k).map Br.s) ∧ RowKit.Below X.heap.size X wr)) (fun _ _ _ _ _ _ ix _ => nb - (intOf ix).toNat)
    case atStart => exact ⟨0, none, 0, 0, rfl, by omega, rfl, hide ⟨OwnS.nil _ _, Below.refl _ _⟩⟩
    case round =>
      obtain ⟨k, p, m, c, rfl, hk, rfl, HR⟩ := hrel
      by_cases hlt : (k : Int) < (nb : Int)
      · obtain ⟨gb, ob, rfl, hx⟩ := HBR.out.at_ (by omega)
        obtain ⟨x, hxk⟩ : ∃ x, BS[k]? = some x := ⟨_, List.getElem?_eq_getElem (by have := HFACT.out.2.2.2; omega)⟩
        have hat := (hx k x hxk).below HR.out.2
        obtain ⟨oo, hoo⟩ : ∃ oo, ob + k * 8 = oo := ⟨_, rfl⟩
        rw [hoo] at hat
        have z0 := hat.c0
        have z1 := hat.c1
        have z2 := hat.c2
        have z3 := hat.c3
        have z4 := hat.c4
        have z5 := hat.c5
        have z6 := hat.c6
        have z7 := hat.c7
        obtain ⟨hxG, hcase⟩ := HFACT.out.1 x (List.mem_of_getElem? hxk)
        have hwfp := (spans_wf HOK.out hxG).2
        have hp0 := ((Sp.ok_iff x.s).1 (HOK.out.ok x.s hxG).1).p1
        have hbox := (Below.refl wr.heap.size wr).alloc (Nat.le_refl _) (.cells #[.int .i64 x.d, .bool x.o, .int .i64 x.s.t, .int .i64 x.s.i, .int .i64 x.s.p, .int .i64 x.s.s, .int .i64 x.s.e, .string x.s.n] 50)
        have hnew := brAt_new wr x
        have hrow : OwnS X.heap.size (wr.alloc (.cells #[.int .i64 x.d, .bool x.o, .int .i64 x.s.t, .int .i64 x.s.i, .int .i64 x.s.p, .int .i64 x.s.s, .int .i64 x.s.e, .string x.s.n] 50)) (.slice p m c) ((BS.take k).map Br.s) := World.ownsRow.alloc HR.out.1 _
        have hbw := HR.out.2.trans (hbox.mono HR.out.2.size)
        have hml : ((BS.take k).map Br.s).length ≤ 1000000 := by rw [List.length_map, List.length_take]; omega
        have hpw : ∀ i, (Value.slice p m c).ownBlock = some i → X.heap.size ≤ i ∧ i < wr.heap.size := fun i hi => HR.out.1.lt i hi
        have htk : (BS.take (k + 1)).map Br.s = (BS.take k).map Br.s ++ [x.s] := by rw [List.take_add_one, hxk]; simp
        have HNEW := hide (And.intro hnew (And.intro hbw hrow))
        have HML := hide (And.intro hml (And.intro hpw htk))
        have HXK := hide hxk
        have HHX := hide hx
        clear hx hxk hat hxG hbox hnew hrow hbw hml hpw htk
        obtain ⟨d, o, t, i, q, s, en, nn⟩ := x
        dsimp only at *
        go_wp2_with (at_builtin; go_must (refine wpList_pushH (v := .slice p m c) rfl _ _ rfl rfl ⟨t, i, q, s, en, nn⟩ rfl rfl (by simp) HNEW.out.2.2 (by have := HNEW.out.2.1.size; exact this) HML.out.1 ?_); intro v5 w5 ho5 hb5 hg5; obtain ⟨p5, n5, c5, rfl⟩ := ho5.sps.sl; have hbr5 := HNEW.out.1.grown hg5 (fun e => by have := (HML.out.2.1 _ e).2; omega); have hbx5 := HNEW.out.2.1.trans hb5; have H5 := hide (And.intro ho5 (And.intro hbr5 hbx5)); have y4 := hbr5.c4; dsimp only [Nat.zero_add] at y4; clear ho5 hb5 hg5 hbr5 hbx5)
        have HFD := hide (find_any (HFX.out.below H5.out.2.2) hwfp)
        refine HFD.out.mono ?_
        rintro e6 w6 ⟨rfl, hb6⟩
        have hbr6 := H5.out.2.1.below hb6
        have hbx6 := H5.out.2.2.trans (hb6.mono H5.out.2.2.size)
        have ho6 := H5.out.1.below hb6
        obtain ⟨u, hu⟩ : ∃ u, (fnd G q).getD sp0 = u := ⟨_, rfl⟩
        rw [hu]
        have hb7 := (Below.refl w6.heap.size w6).alloc (Nat.le_refl _) (.cells #[.int .i64 u.t, .int .i64 u.i, .int .i64 u.p, .int .i64 u.s, .int .i64 u.e, .string u.n] 33)
        have hbr7 := hbr6.below hb7
        have H7 := hide (And.intro (ho6.below hb7) (And.intro hbr7 (hbx6.trans (hb7.mono hbx6.size))))
        have b0 := hbr7.c0
        have b1 := hbr7.c1
        have b4 := hbr7.c4
        dsimp only [Nat.zero_add] at b0 b1 b4
        clear hb6 hbr6 hbx6 ho6 hu hb7 hbr7 y4
        unfold spV
        rcases hcase with ⟨hf, rfl, rfl, rfl⟩ | ⟨hf, hp, rfl, rfl⟩ | ⟨⟨u2, hf⟩, hp, rfl, hd0, hd64⟩
        · rw [hf]
          go_wp2
          go_roundw
          case rel => exact ⟨k + 1, p5, n5, c5, rfl, by omega, by go_num, hide ⟨by rw [HML.out.2.2]; exact H7.out.1, H7.out.2.2⟩⟩
          case measure => simp [intOf]; omega
        · rw [hf]
          have hqp : (q != 0) = true := by simp [hp]
          have hqp2 : (q == 0) = false := beq_eq_false_iff_ne.2 hp
          have hqp3 : decide (q = 0) = false := decide_eq_false hp
          go_wp2
          go_roundw
          case rel => exact ⟨k + 1, p5, n5, c5, rfl, by omega, by go_num, hide ⟨by rw [HML.out.2.2]; exact H7.out.1, H7.out.2.2⟩⟩
          case measure => simp [intOf]; omega
        · rw [hf]
          have hqp : 0 < q := by omega
          clear hp
          have hdb : (d == 0) = false := beq_eq_false_iff_ne.2 (by omega)
          have hdn : ¬ d < 0 := by omega
          obtain ⟨y, hy1, hy2, hy3⟩ := HFACT.out.2.1 k _ HXK.out hd0
          dsimp only at hy1 hy2 hy3
          obtain ⟨k', rfl⟩ : ∃ k', k = k' + 1 := by
            cases k with
            | zero => simp at hy1
            | succ k' => exact ⟨k', rfl⟩
          have HY := hide (And.intro hy1 (And.intro hy2 hy3))
          have hk1 : (((k' + 1 : Nat) : Int)) - 1 = (k' : Int) := by omega
          have hk2 : (k' : Int) ≤ 64 := by omega
          clear hy1 hy2 hy3
          go_wp2_with fail
          obtain ⟨Y, hY⟩ : ∃ Y, w6.alloc (.cells #[.int .i64 u.t, .int .i64 u.i, .int .i64 u.p, .int .i64 u.s, .int .i64 u.e, .string u.n] 33) = Y := ⟨_, rfl⟩
          obtain ⟨gx, hgx⟩ : ∃ g, wr.heap.size = g := ⟨_, rfl⟩
          rw [hY] at b0 b1 b4 H7
          rw [hgx] at b0 b1 b4 H7
          rw [hY, hgx]
          clear hY hgx hk1
          go_loopw [10] (fun v wq => ∃ j q2 : Nat, j ≤ k' ∧ v = .int .i64 j ∧ wq = Y.drewN q2 ∧ Hid ((BS.take (j + 1)).reverse.find? (fun z => decide (z.d < d)) = some y)) (fun v _ => (intOf v).toNat)
          case atStart => exact ⟨k', 0, by omega, by first | rfl | go_num, rfl, hide HY.out.1⟩
          case round =>
            obtain ⟨j, q2, hj, rfl, rfl, HJ⟩ := hrel
            obtain ⟨z, hz⟩ : ∃ z, BS[j]? = some z := ⟨_, List.getElem?_eq_getElem (by have := HFACT.out.2.2.2; omega)⟩
            have hzat := ((HHX.out j z hz).below H7.out.2.2)
            obtain ⟨oz, hoz⟩ : ∃ oz, ob + j * 8 = oz := ⟨_, rfl⟩
            rw [hoz] at hzat
            have e0 : ∀ q, (Y.drewN q).cell? ⟨gb, oz, none⟩ = some (.int .i64 z.d) := fun _ => hzat.c0
            have e3 : ∀ q, (Y.drewN q).cell? ⟨gb, oz + 3, none⟩ = some (.int .i64 z.s.i) := fun _ => hzat.c3
            have x0 : ∀ q, (Y.drewN q).cell? ⟨gx, 0, none⟩ = some (.int .i64 d) := fun _ => b0
            have x4 : ∀ q', (Y.drewN q').cell? ⟨gx, 4, none⟩ = some (.int .i64 q) := fun _ => b4
            have hbs := back_step hz (d := d)
            rw [HJ.out] at hbs
            have hjn : (j : Int) < (nb : Int) := by omega
            have hj0 : (0 : Int) ≤ (j : Int) := by omega
            have hz64 := hide (HFACT.out.1 z (List.mem_of_getElem? hz)).2
            clear hz hzat
            by_cases hzd : z.d < d
            · rw [if_pos hzd] at hbs
              injection hbs with hbs
              subst hbs
              have hz1 := HY.out.2.1
              have hz2 := HY.out.2.2
              have hnge : ¬ d ≤ y.d := by omega
              have hdz : decide (d ≤ y.d) = false := decide_eq_false hnge
              have hg0 : decide ((0 : Int) ≤ (j : Int)) = true := decide_eq_true hj0
              have hg1 : decide ((j : Int) < 0) = false := decide_eq_false (by omega)
              have hwd : IntKind.i64.wrap (d - 1) = d - 1 := IntWalk.i64_in _ (by omega)
              have hq1 : (y.d != d - 1) = false := by rw [bne_eq_false_iff_eq]; exact hz1
              have hq2 : (y.s.i != q) = false := by rw [bne_eq_false_iff_eq]; exact hz2
              have HZZ := hide (And.intro hz1 hz2)
              clear hzd hz1 hz2
              go_wp2_with fail
              go_quiet (fail)
              revert nq
              intro q4
              go_wp2_with fail
              go_quiet (fail)
              have HW := hide (H7.out.2.2.trans ((bdrew Y _ : RowKit.Below Y.heap.size Y (Y.drewN (q2 + q4 + nq))).mono H7.out.2.2.size))
              go_wp2
              go_roundw
              case rel => exact ⟨k' + 1 + 1, p5, n5, c5, rfl, by omega, by go_num, hide ⟨by rw [HML.out.2.2]; exact H7.out.1, HW.out⟩⟩
              case measure => simp [intOf]; omega
            · rw [if_neg hzd] at hbs
              have hge : d ≤ z.d := by omega
              have hj1p : 1 ≤ j := by
                cases j with
                | zero => simp at hbs
                | succ j' => omega
              have HBS := hide hbs.symm
              have hg0 : decide ((0 : Int) ≤ (j : Int)) = true := decide_eq_true hj0
              have hdz : decide (d ≤ z.d) = true := decide_eq_true hge
              clear hbs hzd
              go_wp2_with fail
              go_quiet (fail)
              go_wp2
              go_roundw
              case rel => exact ⟨j - 1, q2 + nq, by omega, by rw [show ((j - 1 : Nat) : Int) = (j : Int) - 1 by omega], rfl, by rw [show j - 1 + 1 = j by omega]; exact HBS⟩
              case measure => simp [intOf]; omega
      · have hkn : k = nb := by omega
        subst hkn
        have hfin := HR.out.1
        rw [List.take_of_length_le (by have := HFACT.out.2.2.2; omega)] at hfin
        have hsm : sortS (BS.map Br.s) = sortS G := sortS_of_perm HFACT.out.2.2.1
        have hlm : (BS.map Br.s).length = G.length := HFACT.out.2.2.1.length_eq
        have hl6 : (BS.map Br.s).length ≤ 64 := by rw [hlm]; exact HOK.out.len
        have hmn : m = G.length := by rw [← hlm]; exact hfin.sps.len.1
        have HFN := hide hfin
        have HSM := hide hsm
        have hl7 : (BS.map Br.s).length ≤ 1000000 := by omega
        have HL7 := hide hl7
        have HMN := hide hmn
        have HFW := hide (HFX.out.below HR.out.2)
        have HBW := hide (HBX.out.trans (HR.out.2.mono HBX.out.size))
        clear hfin hsm hlm hl6 hmn hl7
        go_wp2_with fail
        refine (sort_any HFN.out.sps HL7.out).mono ?_
        rintro e5 w5 ⟨v5, rfl, ho5, hb5⟩
        rw [HSM.out] at ho5
        obtain ⟨p5, n5, c5, rfl⟩ := ho5.sps.sl
        have H5 := hide (And.intro ho5.sps (And.intro (HFW.out.below hb5) (HBW.out.trans (hb5.mono HBW.out.size))))
        clear ho5 hb5
        go_wp2_with fail
        refine (spans_any H5.out.2.1).mono ?_
        rintro e6 w6 ⟨v6, rfl, ho6, hb6⟩
        obtain ⟨p6, n6, c6, rfl⟩ := ho6.sps.sl
        have H6 := hide (And.intro (H5.out.1.below hb6) (And.intro ho6.sps (And.intro (H5.out.2.1.below hb6) (H5.out.2.2.trans (hb6.mono H5.out.2.2.size)))))
        clear ho6 hb6
        go_wp2_with fail
        refine (equalSp_any H6.out.1 H6.out.2.1).mono ?_
        rintro e7 w7 ⟨rfl, q7, rfl⟩
        rw [decide_eq_true rfl]
        have hbq : RowKit.Below w6.heap.size w6 (w6.drewN q7) := bdrew _ _
        have H7 := hide (And.intro (H6.out.2.2.1.below hbq) (H6.out.2.2.2.trans (hbq.mono H6.out.2.2.2.size)))
        obtain ⟨Z, hZ⟩ : ∃ Z, w6.drewN q7 = Z := ⟨_, rfl⟩
        rw [hZ] at H7
        rw [hZ]
        clear hbq hZ
        obtain rfl := HMN.out
        go_wp2_with fail
        refine (len_any H7.out.1).mono ?_
        rintro e8 w8 ⟨rfl, q8, rfl⟩
        have hbq : RowKit.Below Z.heap.size Z (Z.drewN q8) := bdrew _ _
        have H8 := hide (H7.out.2.trans (hbq.mono H7.out.2.size))
        clear hbq
        go_wp2_with fail
        refine (HA.out _).mono ?_
        rintro e9 w9 ⟨rfl, hb9⟩
        have HBf := hide (H8.out.trans (hb9.mono H8.out.size))
        clear hb9
        go_wp2
        go_ret
        exact ⟨rfl, HBf.out⟩
end Go.Proofs.Ytokmmmpijcbknaa
