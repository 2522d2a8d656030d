/- The document's Branches. -/
import Derived.Test.YtbbdijnkgkabbaaFRefBen
namespace Go.Proofs.Ytbbdijnkgkabbaa
set_option linter.unusedVariables false
set_option linter.unusedSimpArgs false
open Go.RowKit

theorem refBen_any {tr : Int} {L S : List Sp} (hS : sortS L = S) (hl64 : L.length ≤ 64) : ∀ (m : Nat) (k d : Int), d + m = 65 → 0 ≤ d → ∀ {w : World} {g : Nat}, RfIs w g tr L → (benP S m k d).length ≤ 1000 →
    Calls Try.prog 38 #[.pointer (some ⟨g, 0, none⟩), .int .i64 k, .int .i64 d] w fun e w' => ∃ v', e = .returned v' ∧ OwnB w.heap.size w' v' (benP S m k d) ∧ Below w.heap.size w w'
  | 0, k, d, hd, hd0, _, _, h, hlen => refBen_step hS hl64 0 k d hd hd0 (fun m' e => by omega) h hlen
  | m + 1, k, d, hd, hd0, _, _, h, hlen => refBen_step hS hl64 (m + 1) k d hd hd0 (fun m' e {w g} k' h' hl' => by
      obtain rfl : m = m' := by omega
      exact refBen_any hS hl64 m k' (d + 1) (by omega) (by omega) h' hl') h hlen

theorem Ext2.below {w w' : World} (v : Value) (h : Below w.heap.size w w') : Ext2 w v w' v := ⟨⟨h.os, h.tape, h.output, h.size, fun k hk _ => h.block k hk⟩, .inl rfl⟩
theorem run_pushesE {B : Nat} {w : World} {v u : Value} {l m : List Br} (h : OwnB B w v l) (hu : Brs w u m) (hB : B ≤ w.heap.size) (hs : (l.length + m.length) * 72 ≤ 140737488355328) :
    ∃ v' w', (Builtin.append_ #[51, 51] 51 #[v, u]).run Try.prog w = .ok v' w' ∧ OwnB B w' v' (l ++ m) ∧ Ext2 w v w' v' := by
  obtain ⟨i0, hi0, hz0, hz1, hz2⟩ := info_parts Try.infoBr
  obtain ⟨p, n, c, rfl⟩ := hu.sl
  have hn := hu.len.1
  by_cases h0 : n = 0
  · subst h0
    obtain rfl : m = [] := List.eq_nil_of_length_eq_zero hn.symm
    exact ⟨v, w, run_pushB_none h p c, by rw [List.append_nil]; exact h, Ext2.refl _ _⟩
  · obtain ⟨g, o, rfl, hx⟩ := hu.at_ (by omega)
    obtain ⟨v', w', hr, h1, h2, _, h4⟩ := run_append_own_at (P := Try.prog) w B 51 51 54 i0 _ 8 72 Try.underlying51 hi0 hz0 hz1 hz2 rfl (by decide) v l.length (l.flatMap brC) h ⟨g, o, none⟩ n c (m.flatMap brC) (by rw [bflat_len, hn])
      (fun j u hj => by
        obtain ⟨x, hxj, hk⟩ := bflat_get2 hj
        have := hx (j / 8) x hxj (j % 8) u hk
        rw [show o + j / 8 * 8 + j % 8 = o + j by omega] at this
        rw [add_lit0]
        exact this)
      (fun u hu => by
        obtain ⟨x, _, hx⟩ := List.mem_flatMap.1 hu
        exact brC_one x u hx) (by simp only [maxLen]; omega) (by omega) hB
    refine ⟨v', w', hr, ?_, h2, ?_⟩
    · unfold OwnB
      rw [List.flatMap_append, List.length_append, ← hn]
      exact h1
    · rcases h4 with h4 | h4
      · exact .inl h4
      · exact .inr ⟨_, Nat.le_refl _, h4⟩
theorem wpList_pushesE {w : World} {ops : Array Oper} {rest : List Oper} {o : Oper} {a : Act} {Q : Exit → Act → World → Prop} (hgd : o.guard = none) (s t : Operand)
    (ho : o.op = .call { callee := .builtin .append, args := #[s, t], argTypes := #[51, 51] }) (hty : o.type = 51) {B : Nat} {v u : Value} {l m : List Br}
    (hs : a.eval s = v) (ht : a.eval t = u) (h : OwnB B w v l) (hu : Brs w u m) (hB : B ≤ w.heap.size) (hn : (l.length + m.length) * 72 ≤ 140737488355328)
    (hK : ∀ v' w', OwnB B w' v' (l ++ m) → Ext2 w v w' v' → wpList Try.prog ops Q rest (a.put o.dst v') w') : wpList Try.prog ops Q (o :: rest) a w := by
  obtain ⟨v', w', hr, h1, h2⟩ := run_pushesE h hu hB hn
  exact Lib.wpList_append_run_sl _ hgd s t 51 ho v _ hs ht (by rw [hty]; exact hr) (hK v' w' h1 h2)

/-- Those without a parent that is there, of the first spans P, each with what stands beneath it. -/
def orQ (L S P : List Sp) : List Br := (P.filter fun x => !(x.p == 0) && !(fnd L x.p).isSome).flatMap fun s => ⟨0, true, s⟩ :: benP S 64 s.i 1
theorem orQ_yes {L S P : List Sp} {y : Sp} (h : y.p ≠ 0) (h2 : fnd L y.p = none) : orQ L S (P ++ [y]) = orQ L S P ++ ⟨0, true, y⟩ :: benP S 64 y.i 1 := by
  unfold orQ
  rw [List.filter_append, List.flatMap_append, List.filter_cons_of_pos (by simp [h, h2])]
  simp
theorem orQ_no {L S P : List Sp} {y : Sp} (h : y.p = 0 ∨ (fnd L y.p).isSome = true) : orQ L S (P ++ [y]) = orQ L S P := by
  unfold orQ
  rw [List.filter_append, List.flatMap_append, List.filter_cons_of_neg (by rcases h with h | h <;> simp [h])]
  simp
theorem orQ_le {L S : List Sp} (j : Nat) : (orQ L S (S.take j)).length ≤ (orQ L S S).length := by
  have h1 : orQ L S S = orQ L S (S.take j) ++ orQ L S (S.drop j) := by
    unfold orQ
    rw [← List.flatMap_append, ← List.filter_append, List.take_append_drop]
  rw [h1, List.length_append]
  omega

set_option maxRecDepth 200000 in
set_option maxHeartbeats 1000000 in
theorem refBranches_any {w : World} {g : Nat} {tr : Int} {L : List Sp} (h : RfIs w g tr L) (hok : FoOk tr L) : Calls Try.prog 29 #[.pointer (some ⟨g, 0, none⟩)] w fun e w' => ∃ v', e = .returned v' ∧ OwnB w.heap.size w' v' (brs (sortS L)) ∧ Below w.heap.size w w' := by
  obtain ⟨S, hS⟩ : ∃ S, sortS L = S := ⟨_, rfl⟩
  have hl64 := hok.len
  have hp : S.Perm L := by rw [← hS]; exact sortS_perm L
  have hSl : S.length = L.length := hp.length_eq
  obtain ⟨r, ht⟩ := (hok.perm hp).tidy
  have hbl := brs_len ht (by omega)
  have hfS : ∀ k, fnd S k = fnd L k := fun k => fnd_perm hok.ids hp k
  have hbr : brs S = benP S 65 0 0 ++ orQ L S S := by
    rw [brs_ben ht (by omega)]
    unfold orQ orphs
    simp only [hfS]
  have hle : (benP S 65 0 0).length + (orQ L S S).length ≤ 64 := by rw [← List.length_append, ← hbr]; omega
  rw [hS, hbr]
  have HR := hide h
  have HB0 := hide (refBen_any hS hl64 65 0 0 (by omega) (by omega) h (by omega))
  have HBN := hide (fun (k : Int) {w : World} {g : Nat} (h : RfIs w g tr L) hl => refBen_any hS hl64 64 k 1 (by omega) (by omega) h hl)
  have HSRT := hide (fun (w : World) (v : Value) (h : Sps w v L) => refSort_any h (by omega))
  rw [hS] at HSRT
  have HFN := hide (fun (k : Int) {w : World} {g : Nat} (h : RfIs w g tr L) => refFind_any h k)
  have HLE := hide hle
  have hS64 : S.length ≤ 64 := by omega
  clear hok hp hSl ht hbl hfS hbr hle hS
  obtain ⟨_, vL, c1, hvL⟩ := h
  obtain ⟨pL, nL, cL, rfl⟩ := hvL.sl
  clear hvL c1
  go_enter Try.func29, Try.ntmps29
  go_wp2_with fail
  refine HB0.out.mono ?_
  rintro e1 w1 ⟨v1, rfl, ho1, hb1⟩
  obtain ⟨p1, n1, cc1, rfl⟩ := ho1.brs.sl
  have hR1 := HR.out.below hb1
  obtain ⟨_, vL1, c1, hvL1⟩ := hR1
  obtain ⟨pL, nL, cL, rfl⟩ := hvL1.sl
  have H1 := hide (And.intro ho1 (And.intro hb1 (HR.out.below hb1)))
  have HS1 := hide (HSRT.out _ _ hvL1)
  clear ho1 hb1 hvL1
  go_wp2_with fail
  refine HS1.out.mono ?_
  rintro e2 w2 ⟨v2, rfl, ho2, hb2⟩
  obtain ⟨pS, nS, cS, rfl⟩ := ho2.sps.sl
  obtain rfl : nS = S.length := ho2.sps.len.1
  have hne2 : S = [] ∨ ∀ k, (Value.slice pS S.length cS).ownBlock = some k → (Value.slice p1 n1 cc1).ownBlock ≠ some k := .inr fun k hk e => by
    have h1 := (H1.out.1.lt k e).2
    have h2 := (ho2.lt k hk).1
    omega
  have H2 := hide (And.intro (And.intro ho2.sps hne2) (And.intro (H1.out.1.below hb2) (And.intro (H1.out.2.1.trans (hb2.mono H1.out.2.1.size)) (H1.out.2.2.below hb2))))
  clear ho2 hb2 c1 hne2
  go_wp2_with fail
  go_loopw [3, 5, 6, 7, 16] (fun v3 _ _ _ ix wr => ∃ (j : Nat) (p : Option Addr) (n c : Nat), v3 = .slice p n c ∧ j ≤ S.length ∧ ix = .int .i64 j ∧ Hid (OwnB w.heap.size wr (.slice p n c) (benP S 65 0 0 ++ orQ L S (S.take j)) ∧ Ext2 w2 (.slice p1 n1 cc1) wr (.slice p n c))) (fun _ _ _ _ ix _ => S.length - (intOf ix).toNat)
  case atStart =>
    refine ⟨0, p1, n1, cc1, rfl, by omega, rfl, hide ⟨?_, Ext2.refl _ _⟩⟩
    rw [List.take_zero, show orQ L S [] = [] from rfl, List.append_nil]
    exact H2.out.2.1
  case round =>
    obtain ⟨j, p, n, c, rfl, hj, rfl, HJ⟩ := hrel
    have hown : ∀ k, (Value.slice p1 n1 cc1).ownBlock = some k → w.heap.size ≤ k := fun k hk => (H2.out.2.1.lt k hk).1
    have hsz2 := H2.out.2.2.1.size
    have hbw := H2.out.2.2.1.grown HJ.out.2.1 hsz2 hown
    have HBW := hide (And.intro hown (And.intro hsz2 hbw))
    clear hown hsz2 hbw
    by_cases hlt : (j : Int) < (S.length : Int)
    · have hS := H2.out.1.1.grown HJ.out.2.1 H2.out.1.2
      have hR := HR.out.below HBW.out.2.2
      obtain ⟨gv, ov, rfl, hx⟩ := hS.at_ (by omega)
      obtain ⟨x, hxk⟩ : ∃ x, S[j]? = some x := ⟨_, List.getElem?_eq_getElem (by omega)⟩
      have hat := hx j x hxk
      obtain ⟨oo, hoo⟩ : ∃ oo, ov + j * 6 = oo := ⟨_, rfl⟩
      rw [hoo] at hat
      have z0 := hat.c0
      have z1 := hat.c1
      have z2 := hat.c2
      have z3 := hat.c3
      have z4 := hat.c4
      have z5 := hat.c5
      have htk : S.take (j + 1) = S.take j ++ [x] := by rw [List.take_add_one, hxk]; rfl
      have hnew := spAt_new wr x
      have hbx := (Below.refl wr.heap.size wr).alloc (Nat.le_refl _) (.cells #[.int .i64 x.t, .int .i64 x.i, .int .i64 x.p, .int .i64 x.s, .int .i64 x.e, .string x.n] 33)
      have hFD := refFind_any (hR.below hbx) x.p
      have HX := hide (And.intro hnew hbx)
      have HFD := hide hFD
      have HTK := hide htk
      have hle1 := orQ_le (L := L) (S := S) (j + 1)
      have HLE1 := hide hle1
      clear hx hxk hat htk hnew hbx hle1 hS hR hFD
      obtain ⟨t, i, q, s, en, nn⟩ := x
      dsimp only at *
      go_wp2_with fail
      refine HFD.out.mono ?_
      rintro e3 w3 ⟨rfl, hb3⟩
      obtain ⟨u, hu⟩ : ∃ u, (fnd L q).getD sp0 = u := ⟨_, rfl⟩
      rw [hu]
      have hx3 := HX.out.1.below hb3
      have hb4 := (Below.refl w3.heap.size w3).alloc (Nat.le_refl _) (.cells #[.int .i64 u.t, .int .i64 u.i, .int .i64 u.p, .int .i64 u.s, .int .i64 u.e, .string u.n] 33)
      have hx4 := hx3.below hb4
      have he4 := (HJ.out.2.trans (Ext2.below (.slice p n c) HX.out.2)).trans ((Ext2.below (.slice p n c) hb3).trans (Ext2.below (.slice p n c) hb4))
      have ho4 := ((HJ.out.1.below HX.out.2).below hb3).below hb4
      have x1 := hx4.c1
      have x2 := hx4.c2
      have x0 := hx4.c0
      have x3 := hx4.c3
      have x4 := hx4.c4
      have x5 := hx4.c5
      dsimp only [Nat.zero_add] at x1 x2 x0 x3 x4 x5
      have H4 := hide (And.intro he4 (And.intro ho4 hx4))
      clear hb3 hx3 hb4 hx4 he4 ho4 hu
      unfold spV
      obtain ⟨b, hb⟩ : ∃ b, (fnd L q).isSome = b := ⟨_, rfl⟩
      rw [hb]
      have H4B := hide hb
      have hpn : ∀ k, (Value.slice p n c).ownBlock = some k → k < wr.heap.size := fun k hk => (HJ.out.1.lt k hk).2
      have HPN := hide hpn
      clear hb hpn
      by_cases hno : q = 0 ∨ b = true
      · have hstep := orQ_no (L := L) (S := S) (P := S.take j) (y := ⟨t, i, q, s, en, nn⟩) (hno.imp id fun e => H4B.out.trans e)
        rw [← HTK.out] at hstep
        have HST := hide hstep
        clear hstep
        cases b
        · have hq : q = 0 := by simpa using hno
          subst hq
          clear hno
          go_wp2
          go_roundw
          case rel => exact ⟨j + 1, p, n, c, rfl, by omega, by go_num, hide ⟨by rw [HST.out]; exact H4.out.2.1, H4.out.1⟩⟩
          case measure => simp [intOf]; omega
        · clear hno
          by_cases hq : q = 0
          · subst hq
            go_wp2
            go_roundw
            case rel => exact ⟨j + 1, p, n, c, rfl, by omega, by go_num, hide ⟨by rw [HST.out]; exact H4.out.2.1, H4.out.1⟩⟩
            case measure => simp [intOf]; omega
          · have hpb : (q == 0) = false := beq_eq_false_iff_ne.2 hq
            go_wp2
            all_goals
              go_roundw
              case rel => exact ⟨j + 1, p, n, c, rfl, by omega, by go_num, hide ⟨by rw [HST.out]; exact H4.out.2.1, H4.out.1⟩⟩
              case measure => simp [intOf]; omega
      · have hq : q ≠ 0 := fun e => hno (.inl e)
        obtain rfl : b = false := by cases b <;> simp_all
        have hstep := orQ_yes (L := L) (S := S) (P := S.take j) (y := ⟨t, i, q, s, en, nn⟩) hq (by have := H4B.out; rwa [Option.isSome_eq_false_iff, Option.isNone_iff_eq_none] at this)
        rw [← HTK.out] at hstep
        dsimp only at hstep
        have hll : (benP S 65 0 0 ++ orQ L S (S.take j)).length + 1 + (benP S 64 i 1).length ≤ 1000 := by
          have h1 := HLE1.out
          have h2 := HLE.out
          rw [hstep, List.length_append, List.length_cons] at h1
          rw [List.length_append]
          omega
        have HST := hide (And.intro hstep hll)
        have hpb : (q == 0) = false := beq_eq_false_iff_ne.2 hq
        have hszw : w.heap.size ≤ w3.heap.size + 1 := by
          have h1 := HBW.out.2.1
          have h2 := H4.out.1.1.size
          have h3 : (w3.alloc (.cells #[.int .i64 u.t, .int .i64 u.i, .int .i64 u.p, .int .i64 u.s, .int .i64 u.e, .string u.n] 33)).heap.size = w3.heap.size + 1 := by simp
          omega
        have HSZ := hide hszw
        clear hstep hll hno hszw
        go_wp2_with (at_builtin; go_must (refine wpList_pushB (v := .slice p n c) rfl _ _ rfl rfl ⟨0, true, ⟨t, i, q, s, en, nn⟩⟩ rfl rfl (by simp) H4.out.2.1 (by have := HSZ.out; simp; omega) (by have := HST.out.2; omega) ?_); go_loud (intro v5 w5 ho5 he5; obtain ⟨p5, n5, c5, rfl⟩ := ho5.brs.sl; have hx5 : SpAt w5 wr.heap.size 0 ⟨t, i, q, s, en, nn⟩ := (fun a b hb => cell_ext he5 (H4.out.2.2 a b hb) (fun e => by have := HPN.out _ e; omega)); have hee := H4.out.1.trans he5; have hbw5 := H2.out.2.2.1.grown hee.1 HBW.out.2.1 HBW.out.1; have hr5 := HR.out.below hbw5; have y1 := hx5.c1; try dsimp only [Nat.zero_add] at y1; have H5 := hide (And.intro ho5 (And.intro hee (And.intro hbw5 hr5))); clear ho5 he5 hx5 hee hbw5 hr5))
        have HC := hide (HBN.out i H5.out.2.2.2 (by have := HST.out.2; omega))
        refine HC.out.mono ?_
        rintro e6 w6 ⟨v6, rfl, ho6, hb6⟩
        obtain ⟨p6, n6, c6, rfl⟩ := ho6.brs.sl
        have H6 := hide (And.intro (H5.out.1.below hb6) (And.intro ho6.brs (H5.out.2.1.trans (Ext2.below _ hb6))))
        have hsz6 : w.heap.size ≤ w6.heap.size := Nat.le_trans H5.out.2.2.1.size hb6.size
        have HSZ6 := hide hsz6
        clear ho6 hb6 hsz6 y1
        go_wp2_with (at_builtin; go_must (refine wpList_pushesE rfl _ _ rfl rfl rfl rfl H6.out.1 H6.out.2.1 HSZ6.out (by have := HST.out.2; rw [List.length_append, List.length_singleton]; omega) ?_); go_loud (intro v7 w7 ho7 he7; obtain ⟨p7, n7, c7, rfl⟩ := ho7.brs.sl; have H7 := hide (And.intro ho7 (H6.out.2.2.trans he7)); clear ho7 he7))
        go_roundw
        case rel =>
          refine ⟨j + 1, p7, n7, c7, rfl, by omega, by go_num, hide ⟨?_, H7.out.2⟩⟩
          rw [HST.out.1]
          have := H7.out.1
          simpa only [List.append_assoc, List.cons_append, List.nil_append] using this
        case measure => simp [intOf]; omega
    · have hjS : j = S.length := by omega
      subst hjS
      have hfin := HJ.out.1
      rw [List.take_length] at hfin
      have HF := hide (And.intro hfin HBW.out.2.2)
      clear hfin
      go_wp2
      go_ret
      exact ⟨_, rfl, HF.out.1, HF.out.2⟩
end Go.Proofs.Ytbbdijnkgkabbaa
