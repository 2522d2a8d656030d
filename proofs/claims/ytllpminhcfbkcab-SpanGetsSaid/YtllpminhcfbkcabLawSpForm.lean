/- The law SpanForm. -/
import Derived.Test.YtllpminhcfbkcabLawSpPuts
namespace Go.Proofs.Ytllpminhcfbkcab
set_option linter.unusedVariables false
set_option linter.unusedSimpArgs false
open Go.RowKit

theorem bytes_pos (x : Sp) : 1 ≤ x.bytes.length := by
  have := digits_pos x.t.toNat
  unfold Sp.bytes
  rw [List.length_append]
  omega
theorem flat_len2 : ∀ l : List Sp, l.length ≤ ((l.map Sp.bytes).flatten).length
  | [] => Nat.zero_le _
  | x :: r => by
    have h1 := bytes_pos x
    have h2 := flat_len2 r
    rw [List.map_cons, List.flatten_cons, List.length_append, List.length_cons]
    omega
theorem encL_len (l : List Sp) : l.length ≤ (encL l).length := by
  have := flat_len2 l
  unfold encL
  rw [List.length_append]
  omega

set_option maxRecDepth 200000 in
set_option maxHeartbeats 4000000 in
theorem lawForm_any {w : World} {v : Value} {B : List UInt8} (hv : By w v B) : Calls Try.prog 7 #[v] w fun e w' => e = .returned (.bool true) ∧ Below w.heap.size w w' := by
  obtain ⟨q3, m3, c3, rfl⟩ := hv.sl
  have HA := hide awake_any
  have HO3 := hide hv
  have HM3 := hide hv.len.1
  have hmm := hv.lenMax
  clear hv
  by_cases hbig : (65536 : Int) < (m3 : Int)
  · go_enter Try.func7, Try.ntmps7
    go_wp2_with fail
    refine (HA.out _).mono ?_
    rintro e2 w2 ⟨rfl, hb2⟩
    have HB2 := hide hb2
    clear hb2
    go_wp2
    go_ret
    exact ⟨rfl, HB2.out⟩
  · obtain ⟨l, E, hP⟩ : ∃ l E, getP B = (l, E) := ⟨_, _, rfl⟩
    have HP := hide hP
    clear hP
    go_enter Try.func7, Try.ntmps7
    go_wp2_with fail
    refine (get_any HO3.out (by have := HM3.out; omega) HP.out).mono ?_
    rintro e3 w3 ⟨v3, rfl, ho3, hb3⟩
    obtain ⟨p, n, c, rfl⟩ := ho3.sps.sl
    have HN := hide ho3.sps.len.1
    have HV := hide ho3.sps
    have HB3 := hide hb3
    clear ho3 hb3
    have his := getP_is B
    rw [HP.out] at his
    rcases his with ⟨hE, hok, henc⟩ | ⟨hE, hnil, _⟩
    · obtain rfl : E = 0 := hE
      have hok' : l.all Sp.ok = true := List.all_eq_true.2 hok
      have HOKS := hide hok'
      have HEB := hide henc
      have HLEN := hide (show l.length ≤ B.length by rw [← henc]; exact encL_len l)
      have HNM := hide (fun x (hx : x ∈ l) => (show x.n.size ≤ 65536 from by
        have h1 := ((Sp.ok_iff x).1 (hok x hx)).n2
        have h2 : x.nl.length = x.n.size := by show x.n.data.toList.length = _; rw [Array.length_toList]; rfl
        omega))
      have hn9 : n ≤ 65536 := by have := HN.out; have := HLEN.out; have := HM3.out; omega
      clear hok henc
      go_wp2_with fail
      go_loopw [6, 31] (fun _ c wr => ∃ k : Nat, k ≤ n ∧ c = .int .i64 k ∧ Hid (Below w3.heap.size w3 wr ∧ (l.take k).all Sp.ok = true)) (fun _ c _ => n - (intOf c).toNat)
      case atStart => exact ⟨0, by omega, rfl, hide ⟨Below.refl _ _, rfl⟩⟩
      case round =>
        obtain ⟨k, hk, rfl, HR⟩ := hrel
        by_cases hlt : (k : Int) < (n : Int)
        · obtain ⟨g, o, rfl, hx⟩ := HV.out.at_ (by omega)
          obtain ⟨x, hxk⟩ : ∃ x, l[k]? = some x := ⟨_, List.getElem?_eq_getElem (by have := HN.out; omega)⟩
          have hat := (hx k x hxk).below (HR.out.1)
          obtain ⟨oo, hoo⟩ : ∃ oo, o + k * 6 = oo := ⟨_, rfl⟩
          rw [hoo] at hat
          have c0 := hat.c0
          have c1' := hat.c1
          have c2' := hat.c2
          have c3' := hat.c3
          have c4' := hat.c4
          have c5' := hat.c5
          have hxn := HNM.out x (List.mem_of_getElem? hxk)
          have HXK := hide hxk
          have HCK := hide (check_any x (by omega))
          have HBN := hide (fun (W : World) => (Below.refl W.heap.size W).alloc (Nat.le_refl _) (.cells #[.int .i64 x.t, .int .i64 x.i, .int .i64 x.p, .int .i64 x.s, .int .i64 x.e, .string x.n] 23))
          clear hx hxk hat
          by_cases hok : x.ok = true
          · have HOK := hide hok
            rw [if_pos hok] at HCK
            obtain ⟨t, i, p, s, en, nm⟩ := x
            dsimp only at *
            unfold spV at *
            clear hok
            go_wp2_with fail
            refine (HCK.out _).mono ?_
            rintro e7 w7 ⟨rfl, hb7⟩
            have HB7 := hide (bt HR.out.1 (bt (HBN.out wr) hb7))
            clear hb7
            go_wp2
            go_roundw
            case rel =>
              refine ⟨k + 1, by omega, by go_num, hide ⟨HB7.out, ?_⟩⟩
              have h1 : l.take (k + 1) = l.take k ++ [⟨t, i, p, s, en, nm⟩] := by rw [List.take_add_one, HXK.out]; rfl
              rw [h1, List.all_append, HR.out.2]
              simp only [List.all_cons, List.all_nil, Bool.and_true, Bool.true_and]
              exact HOK.out
            case measure => simp [intOf]; omega
          · have hall : l.all Sp.ok = false := by
              rw [Bool.eq_false_iff]
              intro h
              exact hok (List.all_eq_true.1 h x (List.mem_of_getElem? HXK.out))
            have HALL := hide hall
            rw [if_neg hok] at HCK
            obtain ⟨t, i, p, s, en, nm⟩ := x
            dsimp only at *
            unfold spV at *
            clear hok hall
            have := HALL.out
            rw [HOKS.out] at this
            cases this
        · have hkn : k = n := by omega
          subst hkn
          have hall : l.all Sp.ok = true := by
            have := HR.out.2
            rwa [List.take_of_length_le (by have := HN.out; omega)] at this
          have HG := hide (put_any (HV.out.below HR.out.1) (by have := HLEN.out; have := HM3.out; omega) (fun x hx => by have := HNM.out x hx; omega) (show putB l = (B, 0) by unfold putB; rw [hall, if_pos rfl, HEB.out]))
          clear hall
          go_wp2_with fail
          refine HG.out.mono ?_
          rintro e5 w5 ⟨v5, rfl, ho5, hb5⟩
          obtain ⟨q5, m5, c5, rfl⟩ := ho5.by_.sl
          have HO5 := hide ho5.by_
          have HB5 := hide hb5
          clear ho5 hb5
          go_wp2_with fail
          refine (equal_any (((HO3.out.below HB3.out).below HR.out.1).below HB5.out) HO5.out).mono ?_
          rintro e6 w6 ⟨rfl, rfl⟩
          rw [beq_self_eq_true]
          go_wp2_with fail
          refine (HA.out _).mono ?_
          rintro e8 w8 ⟨rfl, hb8⟩
          have HB8 := hide hb8
          clear hb8
          go_wp2
          go_ret
          exact ⟨rfl, bt (bt (bt HB3.out HR.out.1) HB5.out) HB8.out⟩
    · obtain rfl : E = 30 := hE
      subst hnil
      obtain rfl : n = 0 := HN.out
      go_wp2_with fail
      refine (HA.out _).mono ?_
      rintro e8 w8 ⟨rfl, hb8⟩
      have HB8 := hide hb8
      clear hb8
      go_wp2
      go_ret
      exact ⟨rfl, bt HB3.out HB8.out⟩
end Go.Proofs.Ytllpminhcfbkcab
