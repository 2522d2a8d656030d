import Derived.Test.YtionbmlicmibgaaGreatDoorS14
import Derived.Test.YtionbmlicmibgaaGreatDoorS10
import Derived.Test.YtionbmlicmibgaaGreatDoorS9
namespace Go.Proofs.YtionbmlicmibgaaGreatDoor
set_option linter.unusedVariables false
set_option linter.unusedSimpArgs false
open Go.RowKit
noncomputable def rdL (l : List UInt8) : List Pl → Nat → Nat × Nat → List Pl
 | S, 0, _ => S
 | S, k + 1, st => if (getP (tx l (l.length - st.1) st).1).2 = 0 then rdL l (ingS S (getP (tx l (l.length - st.1) st).1).1) k (tx l (l.length - st.1) st).2 else S
noncomputable def ldS (l : List UInt8) : List Pl := rdL l [] (nx l (0, 0)).1 (nx l (0, 0)).2
theorem bytes_posL (x : Sp) : 6 ≤ x.bytes.length := by
 unfold Sp.bytes
 simp only [List.length_append]
 have h1 := digits_pos x.t.toNat
 have h2 := digits_pos x.i.toNat
 have h3 := digits_pos x.p.toNat
 have h4 := digits_pos x.s.toNat
 have h5 := digits_pos (x.e - x.s).toNat
 have h6 := digits_pos x.nl.length
 omega
theorem encL_lenL (l : List Sp) : 6 * l.length ≤ (encL l).length := by
 unfold encL
 rw [List.length_append]
 have h : ∀ l : List Sp, 6 * l.length ≤ (l.map Sp.bytes).flatten.length := by
  intro l
  induction l with
  | nil => simp
  | cons x r ih =>
   have h1 := bytes_posL x
   simp only [List.map_cons, List.flatten_cons, List.length_append, List.length_cons]
   omega
 have := h l
 omega
theorem getP_lens (l : List UInt8) : 6 * (getP l).1.length ≤ l.length ∧ ∀ x ∈ (getP l).1, x.n.size ≤ 1100000 := by
 rcases getP_is l with ⟨_, h2, h3⟩ | ⟨_, h2, _⟩
 ·refine ⟨?_, fun x hx => ?_⟩
  ·have := encL_lenL (getP l).1
   rw [h3] at this
   exact this
  ·have h4 := h2 x hx
   unfold Sp.ok at h4
   rw [Bool.and_eq_true] at h4
   have h5 := h4.2
   unfold okName at h5
   rw [Bool.and_eq_true, Bool.and_eq_true, decide_eq_true_eq, decide_eq_true_eq] at h5
   have h6 := h5.1.2
   have h7 : x.nl.length = x.n.size := by unfold Sp.nl; rfl
   omega
 ·rw [h2]
  exact ⟨by simp, fun x hx => by cases hx⟩
theorem getP_e (l : List UInt8) : (getP l).2 = 0 ∨ (getP l).2 = 30 := by
 rcases getP_is l with ⟨h, _⟩ | ⟨h, _⟩
 ·exact .inl h
 ·exact .inr h
theorem Sc.below {w w' : World} {g : Nat} {v : Value} {at_ E : Nat} (h : Sc w g v at_ E) (hb : Below w.heap.size w w') : Sc w' g v at_ E := by
 have := h.lt
 unfold Sc at *
 rw [hb.block g this]
 exact h
theorem Sc.chg {w w' : World} {g : Nat} {v : Value} {at_ E : Nat} {S : Nat → Prop} (h : Sc w g v at_ E) (hc : Chg w w' S) (hn : ¬ S g) : Sc w' g v at_ E := by
 have := h.lt
 unfold Sc at *
 rw [hc.block g this hn]
 exact h
set_option maxRecDepth 200000 in
theorem sleft_any {w : World} {g : Nat} {p : Option Addr} {n c at_ E : Nat} (hS : Sc w g (.slice p n c) at_ E) (hat : at_ ≤ n) (hn : (n : Int) ≤ 9223372036854775807) :
  Calls Tryz.prog 146 #[.pointer (some ⟨g, 0, none⟩)] w fun e w' => e = .returned (.int .i64 ((n : Int) - (at_ : Int))) ∧ ∃ q, w' = w.drewN q := by
 have h0 := hS.c0
 have h1 := hS.c1
 go_enter Tryz.func146, Tryz.ntmps146
 go_wp2_with fail
 refine (left_any h0 h1 hat hn).mono ?_
 rintro e w1 ⟨rfl, q, rfl⟩
 go_wp2
 go_ret
 exact ⟨rfl, _, rfl⟩
theorem str_size2 (l : List UInt8) : (str l).size = l.length := by rw [str_eq]; rfl
theorem str_list2 (l : List UInt8) : (str l).data.toList = l := by rw [str_eq]
theorem conv_own (w : World) (T : List UInt8) (hs : T.length ≤ 5000000) :
  ∃ (q : Nat) (w' : World), (convert 9 32 (.string (str T))).run Tryz.prog w = .ok (.slice (some ⟨w.heap.size, 0, none⟩) T.length q) w' ∧ Own w.heap.size w' (.slice (some ⟨w.heap.size, 0, none⟩) T.length q) T ∧ Below w.heap.size w w' := by
 have hl : (str T).size = T.length := str_size2 T
 have hll : (str T).data.toList = T := str_list2 T
 have hr := run_bytes_of_string (P := Tryz.prog) w 9 32 5 (str T) Tryz.underlying9 Tryz.underlying32 Tryz.underlying5
 have h1 := grownCap_ge w (str T).size 0 5
 have h2 := grownCap_le_maxLen w (str T).size 0 5 (by simp only [maxLen]; omega)
 generalize grownCap w (str T).size 0 5 = q at h1 h2 hr
 have hz : (bytesRow (str T) q).size = q := by
  have hh : (str T).data.size = (str T).size := rfl
  unfold bytesRow
  simp [Builtin.zeroCells]
  omega
 rw [hl] at hr h1
 refine ⟨q, _, hr, .inr ⟨w.heap.size, q, rfl, Nat.le_refl _, h1, h2, fun i x hx => ?_, fun i hi => ?_, fun i hi => ?_⟩, (Below.refl _ w).drew.alloc (Nat.le_refl _) _⟩
 ·have := World.cell?_alloc_mark w.drew (bytesRow (str T) q) 5 ((bytesRow (str T) q).size, (bytesRow (str T) q).size + 1) i
  rw [show w.drew.heap.size = w.heap.size from rfl] at this
  rw [this]
  have hi : i < T.length := (List.getElem?_eq_some_iff.1 hx).1
  have hx' : (str T).data[i]? = some x := by
   rw [← hll] at hx
   simpa using hx
  have hi' : i < (str T).data.size := by
   have hh : (str T).data.size = (str T).size := rfl
   omega
  unfold bytesRow
  rw [Array.getElem?_append_left (by simpa using hi'), Array.getElem?_map, hx']
  rfl
 ·have := World.cell?_alloc_mark w.drew (bytesRow (str T) q) 5 ((bytesRow (str T) q).size, (bytesRow (str T) q).size + 1) i
  rw [show w.drew.heap.size = w.heap.size from rfl] at this
  rw [this, Array.getElem?_eq_getElem (by omega)]
  rfl
 ·have := World.frozen?_alloc_mark w.drew (bytesRow (str T) q) 5 (bytesRow (str T) q).size ((bytesRow (str T) q).size + 1) i
  rw [show w.drew.heap.size = w.heap.size from rfl] at this
  rw [this, hz]
  simp
  omega
def StL (w0 : World) (gs bm g : Nat) (v : Value) (l : List UInt8) (wr : World) (S : List Pl) (st : Nat × Nat) : Prop :=
 ∃ R, SoIs wr gs bm R ∧ R.map Tr.pl = S ∧ (∀ k, SoS gs bm R k → w0.heap.size ≤ k) ∧ Below w0.heap.size w0 wr ∧ Sc wr g v st.1 st.2 ∧ By wr v l ∧ ¬ SoS gs bm R g
set_option maxRecDepth 200000 in
set_option maxHeartbeats 4000000 in
theorem sread_any {w0 w : World} {gs bm g : Nat} {p : Option Addr} {n c : Nat} {l : List UInt8} (h : StL w0 gs bm g (.slice p n c) l w [] (0, 0)) (hg : w0.heap.size ≤ g) (hne : l = [] ∨ ∀ k, (Value.slice p n c).ownBlock = some k → some g ≠ some k) (hl : l.length ≤ 500000) :
  Calls Tryz.prog 161 #[.pointer (some ⟨gs, 0, none⟩), .pointer (some ⟨g, 0, none⟩)] w fun e w' => e = .returned (.tuple #[]) ∧ ∃ R, SoIs w' gs bm R ∧ R.map Tr.pl = ldS l ∧ (∀ k, SoS gs bm R k → w0.heap.size ≤ k) ∧ Below w0.heap.size w0 w' := by
 have HNE := hide hne
 have HG := hide hg
 have HL := hide hl
 obtain ⟨R0, k1, k2, k3, k4, k5, k6, k7⟩ := h
 have hnl := k6.len.1
 obtain ⟨N, a0, E0, hN⟩ : ∃ n a e, nx l (0, 0) = (n, a, e) := ⟨_, _, _, rfl⟩
 have hNl := nx_le (l := l) (st := (0, 0)) (Nat.zero_le _)
 rw [hN] at hNl
 dsimp only at hNl
 have hLD : rdL l [] N (a0, E0) = ldS l := by unfold ldS; rw [hN]
 have HLD := hide hLD
 have HNL := hide hnl
 have HNN := hide hNl
 have N1 := hide (scanNumber_any k5 k6 (Nat.zero_le _) (show _ = (N, a0, E0) from hN))
 have H := hide (And.intro k1 (And.intro k2 (And.intro k3 (And.intro k4 (And.intro k6 k7)))))
 clear k1 k2 k3 k4 k5 k6 k7 hNl hLD hN hnl hne hg hl
 go_enter Tryz.func161, Tryz.ntmps161
 go_wp2_with fail
 refine N1.out.mono ?_
 rintro e w1 ⟨rfl, hs1, hg1⟩
 have H1 : Hid (StL w0 gs bm g (.slice p n c) l w1 [] (a0, E0)) := hide (by
  have hc : Chg w w1 fun k => k = g := Chg.of_grown hg1 _ (fun k e => by injection e with e; exact .inl e.symm)
  obtain ⟨k1, k2, k3, k4, k6, k7⟩ := H.out
  exact ⟨R0, k1.chg hc (fun k hk e => k7 (e ▸ hk)), k2, k3, Chg.to_below k4 hc (fun k e => by rw [e]; exact HG.out), hs1, k6.grown hg1 HNE.out, k7⟩)
 clear hs1 hg1 N1 H
 go_wp2_with fail
 go_loopw [8] (fun ix wr => ∃ (j : Nat) (S : List Pl) (st : Nat × Nat), j ≤ N ∧ ix = .int .i64 j ∧ Hid (StL w0 gs bm g (.slice p n c) l wr S st ∧ st.1 ≤ l.length ∧ rdL l S (N - j) st = ldS l)) (fun ix _ => N - (intOf ix).toNat)
 case atStart => exact ⟨0, [], (a0, E0), Nat.zero_le _, rfl, hide ⟨H1.out, HNN.out.1, HLD.out⟩⟩
 case round =>
  obtain ⟨j, S, st, hj, rfl, HR⟩ := hrel
  obtain ⟨a, E⟩ := st
  by_cases hlt : (j : Int) < (N : Int)
  ·obtain ⟨⟨R, r1, r2, r3, r4, r5, r6, r7⟩, hal, hrd⟩ := HR.out
   dsimp only at r5 hal
   have hn9 : (n : Int) ≤ 9223372036854775807 := r6.lenMax
   have hN63 : (N : Int) ≤ 9223372036854775807 := by have := HNN.out.2; omega
   have hnl := HNL.out
   have L1 := hide (sleft_any r5 (by omega) hn9)
   obtain ⟨T, a', E', hT⟩ : ∃ T a' E', tx l (l.length - a) (a, E) = (T, a', E') := ⟨_, _, _, rfl⟩
   have hTl : T.length ≤ 500000 := by
    have h1 := tx_len (l := l) (most := l.length - a) (st := (a, E))
    rw [hT] at h1
    have := HL.out
    dsimp only at h1
    omega
   have hal' : a' ≤ l.length := by
    have h1 := tx_le (l := l) (most := l.length - a) (st := (a, E)) hal
    rw [hT] at h1
    exact h1
   have hstep : rdL l S (N - j) (a, E) = if (getP T).2 = 0 then rdL l (ingS S (getP T).1) (N - (j + 1)) (a', E') else S := by
    have e1 : N - j = (N - (j + 1)) + 1 := by omega
    rw [e1, rdL]
    dsimp only
    rw [hT]
   have T1 := hide (fun q => scanText_any (w := wr.drewN q) r5 (r6.below (bdrew wr q)) HNE.out (by omega) ((n : Int) - (a : Int)) (l.length - a) (by omega) (show _ = (T, a', E') from hT))
   have TP := getP_lens T
   obtain ⟨L, e9, hP⟩ : ∃ L e9, getP T = (L, e9) := ⟨_, _, rfl⟩
   have hE9 := getP_e T
   rw [hP] at hstep TP hE9
   dsimp only at hstep TP hE9
   have HSP := hide (And.intro hrd (And.intro hstep (And.intro hal' (And.intro hTl TP))))
   have HP := hide hP
   have HS := hide (And.intro r1 (And.intro r2 (And.intro r3 (And.intro r4 (And.intro r6 r7)))))
   clear r1 r2 r3 r4 r5 r6 r7 hrd hstep hal' hTl TP hT hP hal hnl
   go_wp2_with fail
   refine L1.out.mono ?_
   rintro e w2 ⟨rfl, q, rfl⟩
   go_wp2_with fail
   refine (T1.out q).mono ?_
   rintro e w3 ⟨rfl, hs3, hg3⟩
   obtain ⟨q4, w4, hcv, ho4, hb4⟩ := conv_own w3 T (by have := HSP.out.2.2.2.1; omega)
   have GT := hide (get_any ho4.by_ (by have := HSP.out.2.2.2.1; omega) (R := L) (E := e9) HP.out)
   have hgl : g < w3.heap.size := hs3.lt
   have H4 : Hid (SoIs w4 gs bm R ∧ Below w0.heap.size w0 w4 ∧ Sc w4 g (.slice p n c) a' E' ∧ By w4 (.slice p n c) l) := hide (by
    obtain ⟨k1, k2, k3, k4, k6, k7⟩ := HS.out
    have hc : Chg (wr.drewN q) w3 fun k => k = g := Chg.of_grown hg3 _ (fun k e => by injection e with e; exact .inl e.symm)
    have z3 : SoIs w3 gs bm R := (k1.drewN q).chg hc (fun k hk e => k7 (e ▸ hk))
    have b3 : Below w0.heap.size w0 w3 := Chg.to_below (k4.trans ((bdrew wr q).mono k4.size)) hc (fun k e => by rw [e]; exact HG.out)
    exact ⟨z3.below hb4, b3.trans (hb4.mono b3.size), hs3.below hb4, ((k6.below (bdrew wr q)).grown hg3 HNE.out).below hb4⟩)
   clear ho4 hb4 hs3 hg3 L1 T1 hgl
   go_wp2_with fail
   refine GT.out.mono ?_
   rintro e w5 ⟨v5, rfl, ho5, hb5⟩
   obtain ⟨p5, n5, c5, rfl⟩ := ho5.sps.sl
   have HI := hide (singest_any (H4.out.1.below hb5) ho5.sps (by have := HSP.out.2.2.2.2.1; have := HSP.out.2.2.2.1; omega) HSP.out.2.2.2.2.2)
   have H5 : Hid (SoIs w5 gs bm R ∧ Below w0.heap.size w0 w5 ∧ Sc w5 g (.slice p n c) a' E' ∧ By w5 (.slice p n c) l) := hide ⟨H4.out.1.below hb5, H4.out.2.1.trans (hb5.mono H4.out.2.1.size), H4.out.2.2.1.below hb5, H4.out.2.2.2.below hb5⟩
   clear ho5 hb5 GT H4 hcv
   rcases hE9 with he | he
   ·subst he
    go_wp2_with fail
    refine HI.out.mono ?_
    rintro e w6 ⟨rfl, R6, ht6⟩
    have H6 : Hid (StL w0 gs bm g (.slice p n c) l w6 (ingS S L) (a', E')) := hide (by
     obtain ⟨k1, k2, k3, k4, k6, k7⟩ := HS.out
     obtain ⟨m1, m2, m3, m4⟩ := H5.out
     refine ⟨R6, ht6.is, by rw [ht6.pl, k2], fun k hk => ?_, ?_, ?_, ?_, fun hk => ?_⟩
     ·rcases ht6.new k hk with h | h
      ·exact k3 k h
      ·have := m2.size; omega
     ·exact Chg.to_below m2 ht6.chg (fun k hk => k3 k hk.sub)
     ·exact m3.chg ht6.chg (m1.ne_row m3)
     ·exact By.keep m1 ht6.chg m4
     ·rcases ht6.new g hk with h | h
      ·exact k7 h
      ·have := m3.lt; omega)
    clear ht6 HI
    go_wp2
    go_roundw
    case rel =>
     refine ⟨j + 1, ingS S L, (a', E'), by omega, by go_num, hide ⟨H6.out, HSP.out.2.2.1, ?_⟩⟩
     have h1 := HSP.out.2.1
     simp only [if_true, ite_true] at h1
     rw [← h1]
     exact HSP.out.1
    case measure => simp [intOf]; omega
   ·subst he
    go_wp2
    refine bodyPost_ret (results_none rfl _ _ _) rfl ?_
    refine ⟨rfl, R, H5.out.1, ?_, HS.out.2.2.1, H5.out.2.1⟩
    have h1 := HSP.out.2.1
    rw [if_neg (by decide)] at h1
    rw [HS.out.2.1, ← HSP.out.1, h1]
  ·have hjN : j = N := by omega
   subst hjN
   obtain ⟨⟨R, r1, r2, r3, r4, r5, r6, r7⟩, hal, hrd⟩ := HR.out
   have HZ := hide (And.intro r1 (And.intro r2 (And.intro r3 r4)))
   rw [Nat.sub_self, rdL] at hrd
   have HRD := hide hrd
   clear r1 r2 r3 r4 r5 r6 r7 hal hrd
   go_wp2
   go_end0
   exact ⟨rfl, R, HZ.out.1, HZ.out.2.1.trans HRD.out, HZ.out.2.2.1, HZ.out.2.2.2⟩
def LdPost (w : World) (l : List UInt8) (e : Ending) (w' : World) : Prop :=
 (imgS (ldS l) = l ∧ ∃ gs bm R, e = .returned (.tuple #[.pointer (some ⟨gs, 0, none⟩), .int .i64 0]) ∧ SoIs w' gs bm R ∧ R.map Tr.pl = ldS l ∧ (∀ k, SoS gs bm R k → w.heap.size ≤ k) ∧ Below w.heap.size w w') ∨
 (imgS (ldS l) ≠ l ∧ e = .returned (.tuple #[.pointer none, .int .i64 70]) ∧ Below w.heap.size w w')
set_option maxRecDepth 200000 in
set_option maxHeartbeats 4000000 in
theorem sload_any {w : World} {v : Value} {l : List UInt8} (hv : By w v l) (hl : l.length ≤ 500000) : Calls Tryz.prog 123 #[v] w (LdPost w l) := by
 obtain ⟨p, n, c, rfl⟩ := hv.sl
 have HV := hide hv
 have HL := hide hl
 clear hv hl
 go_enter Tryz.func123, Tryz.ntmps123
 go_wp2_with fail
 refine (snew_any w).mono ?_
 intro e w1 hn
 obtain ⟨gs, bm, R0, rfl, hs0, hr0, hn0, hb1⟩ := hn
 have hr0' : R0 = [] := by simpa using hr0
 subst hr0'
 have H1 := hide (And.intro hs0 (And.intro hn0 hb1))
 clear hs0 hr0 hn0 hb1
 go_wp2_with fail
 refine (over_any (HV.out.below H1.out.2.2) (by have := HL.out; omega)).mono ?_
 rintro e w2 ⟨g, u, rfl, hwg, hs, hu, hne, hb⟩
 obtain ⟨q1, m1, c1, rfl⟩ := hu.by_.sl
 have RD := hide (sread_any (w0 := w) (gs := gs) (bm := bm) (g := g) (p := q1) (n := m1) (c := c1) (l := l) (w := w2)
  ⟨[], H1.out.1.below hb, rfl, H1.out.2.1, H1.out.2.2.trans (hb.mono H1.out.2.2.size), hs, hu.by_, fun hk => by have := H1.out.1.lt g hk; omega⟩ (Nat.le_trans H1.out.2.2.size hwg) hne HL.out)
 clear hs hu hne hb hwg
 go_wp2_with fail
 refine RD.out.mono ?_
 rintro e w3 ⟨rfl, R, k1, k2, k3, k4⟩
 have H3 := hide (And.intro k1 (And.intro k2 (And.intro k3 k4)))
 have IM := hide (simage_any k1)
 rw [k2] at IM
 clear k1 k2 k3 k4 RD
 go_wp2_with fail
 refine IM.out.mono ?_
 intro e w4 hp
 obtain ⟨v4, rfl, ho4, hb4⟩ := hp
 obtain ⟨p4, n4, c4, rfl⟩ := ho4.by_.sl
 have EQ := hide (equal_any ho4.by_ (HV.out.below (H3.out.2.2.2.trans (hb4.mono H3.out.2.2.2.size))))
 have H4 : Hid (SoIs w4 gs bm R ∧ R.map Tr.pl = ldS l ∧ (∀ k, SoS gs bm R k → w.heap.size ≤ k) ∧ Below w.heap.size w w4) := hide ⟨H3.out.1.below hb4, H3.out.2.1, H3.out.2.2.1, H3.out.2.2.2.trans (hb4.mono H3.out.2.2.2.size)⟩
 clear ho4 hb4 IM H3
 by_cases hi : imgS (ldS l) = l
 ·have hbq : (imgS (ldS l) == l) = true := by rw [hi]; simp
  rw [hbq] at EQ
  have HI := hide hi
  clear hi hbq
  go_wp2_with fail
  refine EQ.out.mono ?_
  rintro e w5 ⟨rfl, rfl⟩
  clear EQ
  go_wp2
  go_ret2
  exact .inl ⟨HI.out, gs, bm, R, rfl, H4.out.1, H4.out.2.1, H4.out.2.2.1, H4.out.2.2.2⟩
 ·have hbq : (imgS (ldS l) == l) = false := by simpa using hi
  rw [hbq] at EQ
  have HI := hide hi
  clear hi hbq
  go_wp2_with fail
  refine EQ.out.mono ?_
  rintro e w5 ⟨rfl, rfl⟩
  clear EQ
  go_wp2
  go_ret2
  exact .inr ⟨HI.out, rfl, H4.out.2.2.2⟩
end Go.Proofs.YtionbmlicmibgaaGreatDoor
namespace Go.Proofs.YtionbmlicmibgaaGreatDoor
set_option linter.unusedVariables false
set_option linter.unusedSimpArgs false
theorem tx_digitsL {l : List UInt8} {most a : Nat} {x r : List UInt8} (hx : x.length ≤ most) (hm : x.length < 9223372036854775808) (ha : a ≤ l.length) (h : l.drop a = digits x.length ++ (x ++ r)) : tx l most (a, 0) = (x, a + (digits x.length).length + x.length, 0) := by
 have hl := congrArg List.length h
 rw [List.length_drop, List.length_append, List.length_append] at hl
 unfold tx
 rw [if_neg (by simp)]
 dsimp only
 rw [h, readNum_digits (by omega)]
 dsimp only
 rw [if_neg (by simp), if_neg (by omega), if_neg (by omega), drop_more h, List.take_left]
theorem rdL_img {l : List UInt8} : ∀ (rest T : List Pl) (a : Nat), SoOk (T ++ rest) → a ≤ l.length → l.drop a = rest.flatMap bytesS → rdL l (nrm T) rest.length (a, 0) = nrm (T ++ rest)
 | [], T, a, h, ha, hd => by rw [List.append_nil]; rfl
 | y :: rest, T, a, h, ha, hd => by
  have hyo := h.ok y (List.mem_append_right _ (List.mem_cons_self ..))
  have hel := enc_len hyo.1
  have h1 : l.drop a = digits (encL (sortS y.2)).length ++ (encL (sortS y.2) ++ rest.flatMap bytesS) := by
   rw [hd, List.flatMap_cons]
   unfold bytesS
   rw [List.append_assoc]
  have hl := congrArg List.length h1
  rw [List.length_drop, List.length_append, List.length_append] at hl
  have h2 := tx_digitsL (most := l.length - a) (x := encL (sortS y.2)) (by omega) (by omega) ha h1
  have h3 : getP (encL (sortS y.2)) = (sortS y.2, 0) := getP_enc _ (by have := hyo.1.len; rw [sortS_length]; omega) fun x hx => (hyo.1.ok x (sortS_mem.1 hx)).1
  have h4 : l.drop (a + (digits (encL (sortS y.2)).length).length + (encL (sortS y.2)).length) = rest.flatMap bytesS := drop_more (drop_more h1)
  have hT : ∀ z ∈ nrm T, kP z < y.1 := by
   intro z hz
   obtain ⟨z', hz', rfl⟩ := List.mem_map.1 hz
   exact (List.pairwise_append.1 h.rises).2.2 z' hz' y (List.mem_cons_self ..)
  have hlen : (nrm T).length < 32 := by
   have := h.len
   rw [List.length_append, List.length_cons] at this
   rw [nrm_len]
   omega
  have h5 : ingS (nrm T) (sortS y.2) = nrm (T ++ [y]) := by
   rw [ing_last hT hlen hyo.1.sort (fun e => hyo.2.1 (by
    have h1 : (sortS y.2).length = 0 := by rw [e]; rfl
    rw [sortS_length] at h1
    exact List.length_eq_zero_iff.1 h1))]
   unfold nrm
   rw [List.map_append]
   rfl
  show rdL l (nrm T) (rest.length + 1) (a, 0) = _
  rw [rdL]
  dsimp only
  rw [h2]
  dsimp only
  rw [h3]
  dsimp only
  rw [if_pos rfl, h5, rdL_img rest (T ++ [y]) _ (by rw [List.append_assoc]; exact h) (by omega) h4, List.append_assoc]
  rfl
theorem ld_img {S : List Pl} (h : SoOk S) : ldS (imgS S) = nrm S := by
 have h0 : (imgS S).drop 0 = digits S.length ++ S.flatMap bytesS := rfl
 have hn := nx_digits (l := imgS S) (a := 0) (n := S.length) (by have := h.len; omega) h0
 unfold ldS
 rw [hn]
 dsimp only
 have hl := congrArg List.length h0
 rw [List.length_drop, List.length_append] at hl
 exact rdL_img S [] _ h (by omega) (drop_more h0)
theorem ld_img_ok {S : List Pl} (h : SoOk S) : imgS (ldS (imgS S)) = imgS S := by rw [ld_img h, nrm_img]
theorem imgS_len {S : List Pl} (h : SoOk S) : (imgS S).length ≤ 300000 := by
 have h1 := lens_imgs (S := S) fun y hy => (h.ok y hy).1
 have h2 := h.len
 have h3 := digits_length S.length (by omega)
 rw [imgS_flat, List.flatten_cons, List.length_append]
 have h4 : (S.map bytesS).flatten.length = Lib.lens (S.map bytesS) := by rw [List.length_flatten]; rfl
 omega
end Go.Proofs.YtionbmlicmibgaaGreatDoor
