/- The law SpanBack. -/
import Derived.Test.YtllpminhcfbkcabLawSpPuts
namespace Go.Proofs.Ytllpminhcfbkcab
set_option linter.unusedVariables false
set_option linter.unusedSimpArgs false
open Go.RowKit

set_option maxRecDepth 200000 in
set_option maxHeartbeats 4000000 in
theorem lawBack_any {w : World} {v : Value} {l : List Sp} (hv : Sps w v l) (hn9 : ∀ x ∈ l, x.n.size ≤ maxLen) : Calls Try.prog 6 #[v] w fun e w' => e = .returned (.bool true) ∧ Below w.heap.size w w' := by
  obtain ⟨p, n, c, rfl⟩ := hv.sl
  have HL := hide (light_any hv hn9)
  have HA := hide awake_any
  have HV := hide hv
  cases hl : lightL l
  · rw [hl] at HL
    go_enter Try.func6, Try.ntmps6
    go_wp2_with fail
    refine HL.out.mono ?_
    rintro e1 w1 ⟨rfl, rfl⟩
    go_wp2_with fail
    refine (HA.out _).mono ?_
    rintro e2 w2 ⟨rfl, hb2⟩
    have HB2 := hide hb2
    clear hb2
    go_wp2
    go_ret
    exact ⟨rfl, HB2.out⟩
  · rw [hl] at HL
    obtain ⟨hln, hnm⟩ := light_names hl
    have HNM := hide hnm
    obtain ⟨hn, hnc, hcm⟩ := hv.len
    have HN := hide hn
    have hn200 : n ≤ 200 := by omega
    clear hl hnm hv hn9 hn hln hcm
    obtain ⟨B, E, hP⟩ : ∃ B E, putB l = (B, E) := ⟨_, _, rfl⟩
    have HP := hide hP
    clear hP
    go_enter Try.func6, Try.ntmps6
    go_wp2_with fail
    refine HL.out.mono ?_
    rintro e1 w1 ⟨rfl, rfl⟩
    go_wp2_with fail
    refine (put_any HV.out (by have := HN.out; omega) (fun x hx => by have := HNM.out x hx; omega) HP.out).mono ?_
    rintro e3 w3 ⟨v3, rfl, ho3, hb3⟩
    obtain ⟨q3, m3, c3, rfl⟩ := ho3.by_.sl
    have hm3 := ho3.by_.len.1
    have HO3 := hide ho3.by_
    have HB3 := hide hb3
    have HM3 := hide hm3
    clear ho3 hb3 hm3
    go_wp2_with fail
    go_loopw [6, 20] (fun _ c wr => ∃ k : Nat, k ≤ n ∧ c = .int .i64 k ∧ Hid (Below w3.heap.size w3 wr ∧ (l.take k).all Sp.ok = true)) (fun _ c _ => n - (intOf c).toNat)
    case atStart => exact ⟨0, by omega, rfl, hide ⟨Below.refl _ _, rfl⟩⟩
    case round =>
      obtain ⟨k, hk, rfl, HR⟩ := hrel
      by_cases hlt : (k : Int) < (n : Int)
      · obtain ⟨g, o, rfl, hx⟩ := (HV.out.below HB3.out).at_ (by omega)
        obtain ⟨x, hxk⟩ : ∃ x, l[k]? = some x := ⟨_, List.getElem?_eq_getElem (by have := HN.out; omega)⟩
        have hat := (hx k x hxk).below (HR.out.1)
        obtain ⟨oo, hoo⟩ : ∃ oo, o + k * 6 = oo := ⟨_, rfl⟩
        rw [hoo] at hat
        have c0 := hat.c0
        have c1' := hat.c1
        have c2' := hat.c2
        have c3' := hat.c3
        have c4' := hat.c4
        have c5' := hat.c5
        have hxn := HNM.out x (List.mem_of_getElem? hxk)
        have HXK := hide hxk
        have HCK := hide (check_any x (by omega))
        have HBN := hide (fun (W : World) => (Below.refl W.heap.size W).alloc (Nat.le_refl _) (.cells #[.int .i64 x.t, .int .i64 x.i, .int .i64 x.p, .int .i64 x.s, .int .i64 x.e, .string x.n] 23))
        clear hx hxk hat
        by_cases hok : x.ok = true
        · have HOK := hide hok
          rw [if_pos hok] at HCK
          obtain ⟨t, i, p, s, en, nm⟩ := x
          dsimp only at *
          unfold spV at *
          clear hok
          go_wp2_with fail
          refine (HCK.out _).mono ?_
          rintro e7 w7 ⟨rfl, hb7⟩
          have HB7 := hide (bt HR.out.1 (bt (HBN.out wr) hb7))
          clear hb7
          go_wp2
          go_roundw
          case rel =>
            refine ⟨k + 1, by omega, by go_num, hide ⟨HB7.out, ?_⟩⟩
            have h1 : l.take (k + 1) = l.take k ++ [⟨t, i, p, s, en, nm⟩] := by rw [List.take_add_one, HXK.out]; rfl
            rw [h1, List.all_append, HR.out.2]
            simp only [List.all_cons, List.all_nil, Bool.and_true, Bool.true_and]
            exact HOK.out
          case measure => simp [intOf]; omega
        · have hall : l.all Sp.ok = false := by
            rw [Bool.eq_false_iff]
            intro h
            exact hok (List.all_eq_true.1 h x (List.mem_of_getElem? HXK.out))
          have HALL := hide hall
          rw [if_neg hok] at HCK
          obtain ⟨t, i, p, s, en, nm⟩ := x
          dsimp only at *
          unfold spV at *
          clear hok hall
          have hBE : B = [] ∧ E = 30 := by
            have := HP.out
            unfold putB at this
            rw [HALL.out] at this
            simp only [Bool.false_eq_true, if_false, Prod.mk.injEq] at this
            exact ⟨this.1.symm, this.2.symm⟩
          obtain ⟨rfl, rfl⟩ := hBE
          obtain rfl : m3 = 0 := HM3.out
          go_wp2_with fail
          refine (HCK.out _).mono ?_
          rintro e7 w7 ⟨rfl, hb7⟩
          have HB7 := hide (bt HR.out.1 (bt (HBN.out wr) hb7))
          clear hb7
          go_wp2_with fail
          refine (HA.out _).mono ?_
          rintro e8 w8 ⟨rfl, hb8⟩
          have HB8 := hide hb8
          clear hb8
          go_wp2
          go_ret
          exact ⟨rfl, bt (bt HB3.out HB7.out) HB8.out⟩
      · have hkn : k = n := by omega
        subst hkn
        have hall : l.all Sp.ok = true := by
          have := HR.out.2
          rwa [List.take_of_length_le (by have := HN.out; omega)] at this
        have hBE : B = encL l ∧ E = 0 := by
          have := HP.out
          unfold putB at this
          rw [hall] at this
          simp only [if_true, Prod.mk.injEq] at this
          exact ⟨this.1.symm, this.2.symm⟩
        obtain ⟨rfl, rfl⟩ := hBE
        have hget : getP (encL l) = (l, 0) := getP_enc l (by have := HN.out; omega) (List.all_eq_true.1 hall)
        have hlen : (encL l).length ≤ 1000000 := by
          have h1 := lens_puts hall
          have h3 := digits_length l.length (by have := HN.out; omega)
          unfold encL
          rw [List.length_append, flatten_length]
          have := HN.out
          omega
        have HG := hide (get_any (HO3.out.below HR.out.1) hlen hget)
        clear hall hget hlen
        go_wp2_with fail
        refine HG.out.mono ?_
        rintro e5 w5 ⟨v5, rfl, ho5, hb5⟩
        obtain ⟨q5, m5, c5, rfl⟩ := ho5.sps.sl
        have HO5 := hide ho5.sps
        have HB5 := hide hb5
        clear ho5 hb5
        go_wp2_with fail
        refine (equalSp_any (((HV.out.below HB3.out).below HR.out.1).below HB5.out) HO5.out).mono ?_
        rintro e6 w6 ⟨rfl, q6, rfl⟩
        rw [decide_eq_true rfl]
        go_wp2_with fail
        refine (HA.out _).mono ?_
        rintro e8 w8 ⟨rfl, hb8⟩
        have HB8 := hide hb8
        clear hb8
        go_wp2
        go_ret
        exact ⟨rfl, bt (bt (bt (bt HB3.out HR.out.1) HB5.out) (bel_drewN (Below.refl _ _) q6)) HB8.out⟩
end Go.Proofs.Ytllpminhcfbkcab
