/- The spans of which some bytes are: the program's Get. -/
import Derived.Test.YtimjplkehlgelaaGreatSpNext
import Derived.Test.YtimjplkehlgelaaGreatSp1
namespace Go.Proofs.YtimjplkehlgelaaGreat
set_option linter.unusedVariables false
set_option linter.unusedSimpArgs false
open Go.RowKit

theorem nextS_err {l : List UInt8} {a E : Nat} (h : E ≠ 0) : (nextS l (a, E)).1.ok = false := by
  rw [Bool.eq_false_iff]
  intro hok
  rw [Sp.ok_iff] at hok
  have hn := hok.t1
  have hz : (nextS l (a, E)).1.t = 0 := by
    unfold nextS nx
    dsimp only
    rw [if_pos h]
    rfl
  omega
theorem nextS_name (l : List UInt8) (st : Nat × Nat) : (nextS l st).1.n.size ≤ 1000000 := by
  have : (nextS l st).1.n.size = (tx l 32 (nx l (nx l (nx l (nx l (nx l st).2).2).2).2).2).1.length := by
    unfold nextS
    dsimp only
    simp [ByteArray.size]
  rw [this]
  have := tx_len (l := l) (most := 32) (st := (nx l (nx l (nx l (nx l (nx l st).2).2).2).2).2)
  omega
/-- What Get says, some spans being read. -/
def getT (l : List UInt8) (r : List Sp) (k : Nat) (st : Nat × Nat) : List Sp × Nat :=
  match getG l k st with
  | none => ([], 30)
  | some (r', a, e) => if e = 0 ∧ a = l.length then (r ++ r', 0) else ([], 30)
theorem getP_T (l : List UInt8) : getP l = getT l [] (nx l (0, 0)).1 (nx l (0, 0)).2 := rfl
theorem getT_ok {l : List UInt8} {r : List Sp} {k : Nat} {st : Nat × Nat} (h : (nextS l st).1.ok = true) : getT l r (k + 1) st = getT l (r ++ [(nextS l st).1]) k (nextS l st).2 := by
  unfold getT
  rw [getG, if_pos h]
  cases getG l k (nextS l st).2 with
  | none => rfl
  | some q =>
    obtain ⟨r', a, e⟩ := q
    simp
theorem getT_bad {l : List UInt8} {r : List Sp} {k : Nat} {st : Nat × Nat} (h : (nextS l st).1.ok = false) : getT l r (k + 1) st = ([], 30) := by
  unfold getT
  rw [getG, h]
  rfl
theorem getT_end {l : List UInt8} {r : List Sp} {st : Nat × Nat} : getT l r 0 st = if st.2 = 0 ∧ st.1 = l.length then (r, 0) else ([], 30) := by
  unfold getT
  rw [getG]
  simp

set_option maxRecDepth 200000 in
set_option maxHeartbeats 2000000 in
/-- span.Get. -/
theorem get_any {w : World} {v : Value} {l : List UInt8} (hv : By w v l) (hl : l.length ≤ 1000000) {R : List Sp} {E : Nat} (hR : getP l = (R, E)) :
    Calls Tryz.prog 76 #[v] w fun e w' => ∃ v', e = .returned (.tuple #[v', .int .i64 (E : Int)]) ∧ OwnS w.heap.size w' v' R ∧ Below w.heap.size w w' := by
  obtain ⟨p, n, c, rfl⟩ := hv.sl
  have HV := hide hv
  have HR := hide hR
  clear hv hR
  go_enter Tryz.func76, Tryz.ntmps76
  go_wp2_with fail
  refine (over_any HV.out (by omega)).mono ?_
  rintro e1 w1 ⟨g, u, rfl, hwg, hs, hu, hne, hb⟩
  obtain ⟨q1, m1, c1, rfl⟩ := hu.by_.sl
  have hm1 := hu.by_.len.1
  have HM1 := hide hm1
  have HU := hide hu
  have HS := hide hs
  have HNE := hide hne
  have HB := hide hb
  have HWG := hide hwg
  clear hu hs hne hb hwg hm1
  obtain ⟨N, a0, E0, hN⟩ : ∃ n a e, nx l (0, 0) = (n, a, e) := ⟨_, _, _, rfl⟩
  have hNl := (nx_le (l := l) (st := (0, 0)) (Nat.zero_le _))
  rw [hN] at hNl
  dsimp only at hNl
  have HNN := hide hN
  clear hN
  go_wp2_with fail
  refine (scanNumber_any HS.out HU.out.by_ (Nat.zero_le _) (show _ = (N, a0, E0) from HNN.out)).mono ?_
  rintro e2 w2 ⟨rfl, hs2, hg2⟩
  have HS2 := hide hs2
  have HG2 := hide hg2
  clear hs2 hg2
  go_wp2_with fail
  have HB1 := hide (show w.heap.size ≤ w1.heap.size from HB.out.size)
  have hug : g < w1.heap.size := HS.out.lt
  have HUG := hide hug
  clear hug
  have hstart : Hid (Sc w2 g (.slice q1 m1 c1) a0 E0 ∧ By w2 (.slice q1 m1 c1) l ∧ OwnS w1.heap.size w2 (.slice none 0 0) [] ∧ Below w.heap.size w w2 ∧ w1.grownBy w2 (some g) ∧ a0 ≤ l.length ∧ ([] : List Sp).length ≤ a0 ∧ getT l [] (N - 0) (a0, E0) = (R, E)) := hide ⟨HS2.out, HU.out.by_.grown HG2.out HNE.out, OwnS.nil _ _, HB.out.grown HG2.out HB1.out (fun k hk => by injection hk with hk; have := HWG.out; omega), HG2.out, hNl.1, Nat.zero_le _, by rw [Nat.sub_zero, ← HR.out, getP_T, HNN.out]⟩
  go_loopw [5, 6, 11] (fun v _ c wr => ∃ (j : Nat) (r : List Sp) (a e : Nat), j ≤ N ∧ c = .int .i64 j ∧ Hid (Sc wr g (.slice q1 m1 c1) a e ∧ By wr (.slice q1 m1 c1) l ∧ OwnS w1.heap.size wr v r ∧ Below w.heap.size w wr ∧ w1.grownBy wr (some g) ∧ a ≤ l.length ∧ r.length ≤ a ∧ getT l r (N - j) (a, e) = (R, E))) (fun _ _ c _ => N - (intOf c).toNat)
  case atStart => exact ⟨0, [], a0, E0, Nat.zero_le _, rfl, hstart⟩
  case round =>
    obtain ⟨j, r, a, e, hj, rfl, H⟩ := hrel
    clear hstart
    by_cases hlt : (j : Int) < (N : Int)
    · have hnext := next_any (st := (a, e)) H.out.1 H.out.2.1 HNE.out (by have := H.out.2.2.2.2.2.1; have := HM1.out; dsimp only; omega)
      have hnm := nextS_name l (a, e)
      obtain ⟨x, a', e', hx⟩ : ∃ x a' e', nextS l (a, e) = (x, a', e') := ⟨_, _, _, rfl⟩
      have hlx := nextS_le (l := l) (st := (a, e)) H.out.2.2.2.2.2.1
      have hT : (x.ok = true → getT l r (N - j) (a, e) = getT l (r ++ [x]) (N - (j + 1)) (a', e')) ∧ (¬ x.ok = true → (R, E) = ([], 30)) := by
        have e1 : N - j = (N - (j + 1)) + 1 := by omega
        constructor
        · intro hk
          rw [e1, getT_ok (by rw [hx]; exact hk), hx]
        · intro hk
          rw [← H.out.2.2.2.2.2.2.2, e1, getT_bad (by rw [hx]; simpa using hk)]
      have hform : x.ok = true → a < a' ∧ e = 0 := by
        intro hk
        have he : e = 0 := by
          by_cases he : e = 0
          · exact he
          · have := nextS_err (l := l) (a := a) he
            rw [hx] at this
            rw [this] at hk
            cases hk
        subst he
        exact ⟨(nextS_form hx H.out.2.2.2.2.2.1 hk).2.1, rfl⟩
      rw [hx] at hnext hnm hlx
      dsimp only at hnext hnm hlx
      have HX := hide hnext
      have HT := hide hT
      have HF := hide hform
      have HCK := hide (check_any x hnm)
      have HLX := hide hlx
      have HNEW := hide (fun W => spAt_new W x)
      clear hnext hnm hx hlx hT hform
      by_cases hok : x.ok = true
      · have HOK := hide hok
        rw [if_pos hok] at HCK
        obtain ⟨t, i, p', s, en, nm⟩ := x
        dsimp only at *
        unfold spV at *
        clear hok
        go_wp2_with fail
        refine HX.out.mono ?_
        rintro e3 w3 ⟨rfl, hs3, hg3⟩
        have HS3 := hide hs3
        have HG3 := hide hg3
        clear hs3 hg3
        go_wp2_with fail
        refine (HCK.out _).mono ?_
        rintro e4 w4 ⟨rfl, hb4⟩
        obtain ⟨d0, d1, d2, d3, d4, d5⟩ := ((HNEW.out w3).below hb4).z
        dsimp only at d0 d1 d2 d3 d4 d5
        have hw34 : Below w3.heap.size w3 w4 := ((Below.refl _ _).alloc (Nat.le_refl _) _).trans (hb4.mono (by simp))
        have hrow : OwnS w1.heap.size w4 u5 r := by
          have h1 := H.out.2.2.1
          have h2 := h1.grown HG3.out (by
            cases hob : u5.ownBlock with
            | none => exact .inl rfl
            | some k =>
              refine .inr fun e => ?_
              injection e with e
              have := (h1.lt k hob).1
              have := HUG.out
              omega)
          exact h2.below hw34
        have hgw : wr.grownBy w4 (some g) := gtrans HG3.out ⟨hw34.os, hw34.tape, hw34.output, hw34.size, fun k hk _ => hw34.block k hk⟩
        have hsc4 : Sc w4 g (.slice q1 m1 c1) a' e' := by
          have h1 := HS3.out
          unfold Sc at h1 ⊢
          rw [hw34.block g HS3.out.lt]
          exact h1
        have hby4 := H.out.2.1.grown hgw HNE.out
        have hbw4 : Below w.heap.size w w4 := H.out.2.2.2.1.grown hgw H.out.2.2.2.1.size (fun k hk => by injection hk with hk; have := HWG.out; omega)
        have HROW := hide hrow
        have HSC4 := hide hsc4
        have HBY4 := hide hby4
        have HBW4 := hide hbw4
        have HGG4 := hide (gtrans H.out.2.2.2.2.1 hgw)
        have hsz4 : w1.heap.size ≤ w4.heap.size := HGG4.out.size
        have hrl : r.length ≤ 1000000 := by have := H.out.2.2.2.2.2.1; have := H.out.2.2.2.2.2.2.1; omega
        have HRL := hide hrl
        have HSZ4 := hide hsz4
        clear hb4 hw34 hrow hgw hsc4 hby4 hbw4 hrl hsz4
        go_wp2_with (at_builtin; go_must (refine wpList_push (v := u5) rfl _ _ rfl rfl ⟨t, i, p', s, en, nm⟩ rfl rfl HROW.out HSZ4.out HRL.out ?_); intro v5 w5 ho5 hb5 hg5)
        go_roundw
        case rel =>
          have hold : ∀ k, u5.ownBlock = some k → w1.heap.size ≤ k := fun k hk => (HROW.out.lt k hk).1
          refine ⟨j + 1, r ++ [⟨t, i, p', s, en, nm⟩], a', e', by omega, by go_num, hide ⟨?_, ?_, ho5, ?_, ?_, ?_, ?_, ?_⟩⟩
          · have h1 := HSC4.out
            unfold Sc at h1 ⊢
            rw [hg5.block g HSC4.out.lt (fun e => by have := hold g e.symm; have := HUG.out; omega)]
            exact h1
          · refine HBY4.out.grown hg5 ?_
            rcases HU.out with ⟨_, h0⟩ | ⟨gg, cap, eq, hBg, hPl, hm, hc2, hs2, hf2⟩
            · exact .inl h0
            · by_cases h0 : l = []
              · exact .inl h0
              · refine .inr fun k hk e => ?_
                injection eq with eq1
                subst eq1
                simp only [Value.ownBlock, Option.some.injEq] at hk
                subst hk
                have h1 := hold gg e
                have hPp : 0 < l.length := List.length_pos_iff.2 h0
                have := lt_of_cell (hc2 0 l[0] (List.getElem?_eq_getElem hPp))
                simp only at this
                omega
          · exact HBW4.out.trans (hb5.mono (Nat.le_of_lt_succ (by have := HB1.out; omega)))
          · exact ⟨hg5.os.trans HGG4.out.os, hg5.tape.trans HGG4.out.tape, hg5.output.trans HGG4.out.output, Nat.le_trans HGG4.out.size hg5.size, fun k hk hr => (hg5.block k (Nat.lt_of_lt_of_le hk HGG4.out.size) (fun e => by have := hold k e.symm; omega)).trans (HGG4.out.block k hk hr)⟩
          · exact HLX.out
          · have h1 := (HF.out HOK.out).1
            have h2 := H.out.2.2.2.2.2.2.1
            rw [List.length_append]
            simp only [List.length_cons, List.length_nil]
            omega
          · rw [← HT.out.1 HOK.out]
            exact H.out.2.2.2.2.2.2.2
        case measure => simp [intOf]; omega
      · have hRE := HT.out.2 hok
        simp only [Prod.mk.injEq] at hRE
        obtain ⟨rfl, rfl⟩ := hRE
        rw [if_neg hok] at HCK
        obtain ⟨t, i, p', s, en, nm⟩ := x
        dsimp only at *
        unfold spV at *
        clear hok
        go_wp2_with fail
        refine HX.out.mono ?_
        rintro e3 w3 ⟨rfl, hs3, hg3⟩
        have HG3 := hide hg3
        clear hs3 hg3
        go_wp2_with fail
        refine (HCK.out _).mono ?_
        rintro e4 w4 ⟨rfl, hb4⟩
        have hw34 : Below w3.heap.size w3 w4 := ((Below.refl _ _).alloc (Nat.le_refl _) _).trans (hb4.mono (by simp))
        have hgw : wr.grownBy w4 (some g) := gtrans HG3.out ⟨hw34.os, hw34.tape, hw34.output, hw34.size, fun k hk _ => hw34.block k hk⟩
        have HBW4 := hide (show Below w.heap.size w w4 from H.out.2.2.2.1.grown hgw H.out.2.2.2.1.size (fun k hk => by injection hk with hk; have := HWG.out; omega))
        clear hb4 hw34 hgw
        go_wp2
        go_ret2
        exact ⟨_, rfl, OwnS.nil _ _, HBW4.out⟩
    · have hjN : j = N := by omega
      subst hjN
      have hend := H.out.2.2.2.2.2.2.2
      rw [Nat.sub_self, getT_end] at hend
      dsimp only at hend
      have HE := hide hend
      clear hend
      obtain ⟨E1, hE1⟩ : ∃ E1, endE a m1 e = E1 := ⟨_, rfl⟩
      have hel := H.out.2.2.2.2.2.1
      have HEND := hide (scanEnd_any H.out.1 (by have := HM1.out; omega) H.out.2.1.lenMax hE1)
      have hE1' := hE1
      unfold endE at hE1'
      go_wp2_with fail
      refine HEND.out.mono ?_
      rintro e3 w3 ⟨rfl, hs3, hg3⟩
      have HBW3 := hide (show Below w.heap.size w w3 from H.out.2.2.2.1.grown hg3 H.out.2.2.2.1.size (fun k hk => by injection hk with hk; have := HWG.out; omega))
      have HROW := hide (show OwnS w.heap.size w3 u5 r from ((H.out.2.2.1.grown hg3 (by
            cases hob : u5.ownBlock with
            | none => exact .inl rfl
            | some k =>
              refine .inr fun e => ?_
              injection e with e
              have := (H.out.2.2.1.lt k hob).1
              have := HUG.out
              omega)).mono HB1.out))
      clear hs3 hg3
      by_cases hE : E1 = 0
      · subst hE
        have hc : e = 0 ∧ a = l.length := by
          have := HM1.out
          split at hE1'
          · omega
          · split at hE1'
            · omega
            · exact ⟨by omega, by omega⟩
        have hRE := HE.out
        rw [if_pos hc] at hRE
        simp only [Prod.mk.injEq] at hRE
        obtain ⟨rfl, rfl⟩ := hRE
        clear hE1' hE1 hel
        go_wp2
        go_ret2
        exact ⟨_, rfl, HROW.out, HBW3.out⟩
      · have hc : ¬ (e = 0 ∧ a = l.length) := by
          have := HM1.out
          rintro ⟨h1, h2⟩
          rw [if_neg (by omega), if_neg (by omega)] at hE1'
          exact hE hE1'.symm
        have hRE := HE.out
        rw [if_neg hc] at hRE
        simp only [Prod.mk.injEq] at hRE
        obtain ⟨rfl, rfl⟩ := hRE
        have g1 : ((E1 : Int) != 0) = true := by simp; omega
        clear hE1' hE1 hel
        go_wp2
        go_ret2
        exact ⟨_, rfl, OwnS.nil _ _, HBW3.out⟩
end Go.Proofs.YtimjplkehlgelaaGreat
