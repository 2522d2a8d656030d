/- Several texts made one: SoLoad SoLdImg SoRlPure SoRLoad. -/
import Derived.Test.YtfedkjaollioaaaGreatS14
import Derived.Test.YtfedkjaollioaaaGreatS10
import Derived.Test.YtfedkjaollioaaaGreatS9
import Derived.Test.YtfedkjaollioaaaGreatS13
import Derived.Test.YtfedkjaollioaaaGreatS11
/- Load: a store of bytes. -/
namespace Go.Proofs.YtfedkjaollioaaaGreat
set_option linter.unusedVariables false
set_option linter.unusedSimpArgs false
open Go.RowKit

/-- What reading an image puts into a store. -/
noncomputable def rdL (l : List UInt8) : List Pl → Nat → Nat × Nat → List Pl
  | S, 0, _ => S
  | S, k + 1, st => if (getP (tx l (l.length - st.1) st).1).2 = 0 then rdL l (ingS S (getP (tx l (l.length - st.1) st).1).1) k (tx l (l.length - st.1) st).2 else S
noncomputable def ldS (l : List UInt8) : List Pl := rdL l [] (nx l (0, 0)).1 (nx l (0, 0)).2
theorem bytes_posL (x : Sp) : 6 ≤ x.bytes.length := by
  unfold Sp.bytes
  simp only [List.length_append]
  have h1 := digits_pos x.t.toNat
  have h2 := digits_pos x.i.toNat
  have h3 := digits_pos x.p.toNat
  have h4 := digits_pos x.s.toNat
  have h5 := digits_pos (x.e - x.s).toNat
  have h6 := digits_pos x.nl.length
  omega
theorem encL_lenL (l : List Sp) : 6 * l.length ≤ (encL l).length := by
  unfold encL
  rw [List.length_append]
  have h : ∀ l : List Sp, 6 * l.length ≤ (l.map Sp.bytes).flatten.length := by
    intro l
    induction l with
    | nil => simp
    | cons x r ih =>
      have h1 := bytes_posL x
      simp only [List.map_cons, List.flatten_cons, List.length_append, List.length_cons]
      omega
  have := h l
  omega
theorem getP_lens (l : List UInt8) : 6 * (getP l).1.length ≤ l.length ∧ ∀ x ∈ (getP l).1, x.n.size ≤ 1000000 := by
  rcases getP_is l with ⟨_, h2, h3⟩ | ⟨_, h2, _⟩
  · refine ⟨?_, fun x hx => ?_⟩
    · have := encL_lenL (getP l).1
      rw [h3] at this
      exact this
    · have h4 := h2 x hx
      unfold Sp.ok at h4
      rw [Bool.and_eq_true] at h4
      have h5 := h4.2
      unfold okName at h5
      rw [Bool.and_eq_true, Bool.and_eq_true, decide_eq_true_eq, decide_eq_true_eq] at h5
      have h6 := h5.1.2
      have h7 : x.nl.length = x.n.size := by unfold Sp.nl; rfl
      omega
  · rw [h2]
    exact ⟨by simp, fun x hx => by cases hx⟩
theorem getP_e (l : List UInt8) : (getP l).2 = 0 ∨ (getP l).2 = 30 := by
  rcases getP_is l with ⟨h, _⟩ | ⟨h, _⟩
  · exact .inl h
  · exact .inr h
theorem Sc.below {w w' : World} {g : Nat} {v : Value} {at_ E : Nat} (h : Sc w g v at_ E) (hb : Below w.heap.size w w') : Sc w' g v at_ E := by
  have := h.lt
  unfold Sc at *
  rw [hb.block g this]
  exact h
theorem Sc.chg {w w' : World} {g : Nat} {v : Value} {at_ E : Nat} {S : Nat → Prop} (h : Sc w g v at_ E) (hc : Chg w w' S) (hn : ¬ S g) : Sc w' g v at_ E := by
  have := h.lt
  unfold Sc at *
  rw [hc.block g this hn]
  exact h
set_option maxRecDepth 200000 in
theorem sleft_any {w : World} {g : Nat} {p : Option Addr} {n c at_ E : Nat} (hS : Sc w g (.slice p n c) at_ E) (hat : at_ ≤ n) (hn : (n : Int) ≤ 9223372036854775807) :
    Calls Tryz.prog 73 #[.pointer (some ⟨g, 0, none⟩)] w fun e w' => e = .returned (.int .i64 ((n : Int) - (at_ : Int))) ∧ ∃ q, w' = w.drewN q := by
  have h0 := hS.c0
  have h1 := hS.c1
  go_enter Tryz.func73, Tryz.ntmps73
  go_wp2_with fail
  refine (left_any h0 h1 hat hn).mono ?_
  rintro e w1 ⟨rfl, q, rfl⟩
  go_wp2
  go_ret
  exact ⟨rfl, _, rfl⟩
theorem str_size2 (l : List UInt8) : (str l).size = l.length := by rw [str_eq]; rfl
theorem str_list2 (l : List UInt8) : (str l).data.toList = l := by rw [str_eq]
theorem conv_own (w : World) (T : List UInt8) (hs : T.length ≤ 5000000) :
    ∃ (q : Nat) (w' : World), (convert 9 47 (.string (str T))).run Tryz.prog w = .ok (.slice (some ⟨w.heap.size, 0, none⟩) T.length q) w' ∧ Own w.heap.size w' (.slice (some ⟨w.heap.size, 0, none⟩) T.length q) T ∧ Below w.heap.size w w' := by
  have hl : (str T).size = T.length := str_size2 T
  have hll : (str T).data.toList = T := str_list2 T
  have hr := run_bytes_of_string (P := Tryz.prog) w 9 47 5 (str T) Tryz.underlying9 Tryz.underlying47 Tryz.underlying5
  have h1 := grownCap_ge w (str T).size 0 5
  have h2 := grownCap_le_maxLen w (str T).size 0 5 (by simp only [maxLen]; omega)
  generalize grownCap w (str T).size 0 5 = q at h1 h2 hr
  have hz : (bytesRow (str T) q).size = q := by
    have hh : (str T).data.size = (str T).size := rfl
    unfold bytesRow
    simp [Builtin.zeroCells]
    omega
  rw [hl] at hr h1
  refine ⟨q, _, hr, .inr ⟨w.heap.size, q, rfl, Nat.le_refl _, h1, h2, fun i x hx => ?_, fun i hi => ?_, fun i hi => ?_⟩, (Below.refl _ w).drew.alloc (Nat.le_refl _) _⟩
  · have := World.cell?_alloc_mark w.drew (bytesRow (str T) q) 5 ((bytesRow (str T) q).size, (bytesRow (str T) q).size + 1) i
    rw [show w.drew.heap.size = w.heap.size from rfl] at this
    rw [this]
    have hi : i < T.length := (List.getElem?_eq_some_iff.1 hx).1
    have hx' : (str T).data[i]? = some x := by
      rw [← hll] at hx
      simpa using hx
    have hi' : i < (str T).data.size := by
      have hh : (str T).data.size = (str T).size := rfl
      omega
    unfold bytesRow
    rw [Array.getElem?_append_left (by simpa using hi'), Array.getElem?_map, hx']
    rfl
  · have := World.cell?_alloc_mark w.drew (bytesRow (str T) q) 5 ((bytesRow (str T) q).size, (bytesRow (str T) q).size + 1) i
    rw [show w.drew.heap.size = w.heap.size from rfl] at this
    rw [this, Array.getElem?_eq_getElem (by omega)]
    rfl
  · have := World.frozen?_alloc_mark w.drew (bytesRow (str T) q) 5 (bytesRow (str T) q).size ((bytesRow (str T) q).size + 1) i
    rw [show w.drew.heap.size = w.heap.size from rfl] at this
    rw [this, hz]
    simp
    omega

def StL (w0 : World) (gs bm g : Nat) (v : Value) (l : List UInt8) (wr : World) (S : List Pl) (st : Nat × Nat) : Prop :=
  ∃ R, SoIs wr gs bm R ∧ R.map Tr.pl = S ∧ (∀ k, SoS gs bm R k → w0.heap.size ≤ k) ∧ Below w0.heap.size w0 wr ∧ Sc wr g v st.1 st.2 ∧ By wr v l ∧ ¬ SoS gs bm R g
set_option maxRecDepth 200000 in
set_option maxHeartbeats 4000000 in
/-- read. -/
theorem sread_any {w0 w : World} {gs bm g : Nat} {p : Option Addr} {n c : Nat} {l : List UInt8} (h : StL w0 gs bm g (.slice p n c) l w [] (0, 0)) (hg : w0.heap.size ≤ g) (hne : l = [] ∨ ∀ k, (Value.slice p n c).ownBlock = some k → some g ≠ some k) (hl : l.length ≤ 500000) :
    Calls Tryz.prog 42 #[.pointer (some ⟨gs, 0, none⟩), .pointer (some ⟨g, 0, none⟩)] w fun e w' => e = .returned (.tuple #[]) ∧ ∃ R, SoIs w' gs bm R ∧ R.map Tr.pl = ldS l ∧ (∀ k, SoS gs bm R k → w0.heap.size ≤ k) ∧ Below w0.heap.size w0 w' := by
  have HNE := hide hne
  have HG := hide hg
  have HL := hide hl
  obtain ⟨R0, k1, k2, k3, k4, k5, k6, k7⟩ := h
  have hnl := k6.len.1
  obtain ⟨N, a0, E0, hN⟩ : ∃ n a e, nx l (0, 0) = (n, a, e) := ⟨_, _, _, rfl⟩
  have hNl := nx_le (l := l) (st := (0, 0)) (Nat.zero_le _)
  rw [hN] at hNl
  dsimp only at hNl
  have hLD : rdL l [] N (a0, E0) = ldS l := by unfold ldS; rw [hN]
  have HLD := hide hLD
  have HNL := hide hnl
  have HNN := hide hNl
  have N1 := hide (scanNumber_any k5 k6 (Nat.zero_le _) (show _ = (N, a0, E0) from hN))
  have H := hide (And.intro k1 (And.intro k2 (And.intro k3 (And.intro k4 (And.intro k6 k7)))))
  clear k1 k2 k3 k4 k5 k6 k7 hNl hLD hN hnl hne hg hl
  go_enter Tryz.func42, Tryz.ntmps42
  go_wp2_with fail
  refine N1.out.mono ?_
  rintro e w1 ⟨rfl, hs1, hg1⟩
  have H1 : Hid (StL w0 gs bm g (.slice p n c) l w1 [] (a0, E0)) := hide (by
    have hc : Chg w w1 fun k => k = g := Chg.of_grown hg1 _ (fun k e => by injection e with e; exact .inl e.symm)
    obtain ⟨k1, k2, k3, k4, k6, k7⟩ := H.out
    exact ⟨R0, k1.chg hc (fun k hk e => k7 (e ▸ hk)), k2, k3, Chg.to_below k4 hc (fun k e => by rw [e]; exact HG.out), hs1, k6.grown hg1 HNE.out, k7⟩)
  clear hs1 hg1 N1 H
  go_wp2_with fail
  go_loopw [8] (fun ix wr => ∃ (j : Nat) (S : List Pl) (st : Nat × Nat), j ≤ N ∧ ix = .int .i64 j ∧ Hid (StL w0 gs bm g (.slice p n c) l wr S st ∧ st.1 ≤ l.length ∧ rdL l S (N - j) st = ldS l)) (fun ix _ => N - (intOf ix).toNat)
  case atStart => exact ⟨0, [], (a0, E0), Nat.zero_le _, rfl, hide ⟨H1.out, HNN.out.1, HLD.out⟩⟩
  case round =>
    obtain ⟨j, S, st, hj, rfl, HR⟩ := hrel
    obtain ⟨a, E⟩ := st
    by_cases hlt : (j : Int) < (N : Int)
    · obtain ⟨⟨R, r1, r2, r3, r4, r5, r6, r7⟩, hal, hrd⟩ := HR.out
      dsimp only at r5 hal
      have hn9 : (n : Int) ≤ 9223372036854775807 := r6.lenMax
      have hN63 : (N : Int) ≤ 9223372036854775807 := by have := HNN.out.2; omega
      have hnl := HNL.out
      have L1 := hide (sleft_any r5 (by omega) hn9)
      obtain ⟨T, a', E', hT⟩ : ∃ T a' E', tx l (l.length - a) (a, E) = (T, a', E') := ⟨_, _, _, rfl⟩
      have hTl : T.length ≤ 500000 := by
        have h1 := tx_len (l := l) (most := l.length - a) (st := (a, E))
        rw [hT] at h1
        have := HL.out
        dsimp only at h1
        omega
      have hal' : a' ≤ l.length := by
        have h1 := tx_le (l := l) (most := l.length - a) (st := (a, E)) hal
        rw [hT] at h1
        exact h1
      have hstep : rdL l S (N - j) (a, E) = if (getP T).2 = 0 then rdL l (ingS S (getP T).1) (N - (j + 1)) (a', E') else S := by
        have e1 : N - j = (N - (j + 1)) + 1 := by omega
        rw [e1, rdL]
        dsimp only
        rw [hT]
      have T1 := hide (fun q => scanText_any (w := wr.drewN q) r5 (r6.below (bdrew wr q)) HNE.out (by omega) ((n : Int) - (a : Int)) (l.length - a) (by omega) (show _ = (T, a', E') from hT))
      have TP := getP_lens T
      obtain ⟨L, e9, hP⟩ : ∃ L e9, getP T = (L, e9) := ⟨_, _, rfl⟩
      have hE9 := getP_e T
      rw [hP] at hstep TP hE9
      dsimp only at hstep TP hE9
      have HSP := hide (And.intro hrd (And.intro hstep (And.intro hal' (And.intro hTl TP))))
      have HP := hide hP
      have HS := hide (And.intro r1 (And.intro r2 (And.intro r3 (And.intro r4 (And.intro r6 r7)))))
      clear r1 r2 r3 r4 r5 r6 r7 hrd hstep hal' hTl TP hT hP hal hnl
      go_wp2_with fail
      refine L1.out.mono ?_
      rintro e w2 ⟨rfl, q, rfl⟩
      go_wp2_with fail
      refine (T1.out q).mono ?_
      rintro e w3 ⟨rfl, hs3, hg3⟩
      obtain ⟨q4, w4, hcv, ho4, hb4⟩ := conv_own w3 T (by have := HSP.out.2.2.2.1; omega)
      have GT := hide (get_any ho4.by_ (by have := HSP.out.2.2.2.1; omega) (R := L) (E := e9) HP.out)
      have hgl : g < w3.heap.size := hs3.lt
      have H4 : Hid (SoIs w4 gs bm R ∧ Below w0.heap.size w0 w4 ∧ Sc w4 g (.slice p n c) a' E' ∧ By w4 (.slice p n c) l) := hide (by
        obtain ⟨k1, k2, k3, k4, k6, k7⟩ := HS.out
        have hc : Chg (wr.drewN q) w3 fun k => k = g := Chg.of_grown hg3 _ (fun k e => by injection e with e; exact .inl e.symm)
        have z3 : SoIs w3 gs bm R := (k1.drewN q).chg hc (fun k hk e => k7 (e ▸ hk))
        have b3 : Below w0.heap.size w0 w3 := Chg.to_below (k4.trans ((bdrew wr q).mono k4.size)) hc (fun k e => by rw [e]; exact HG.out)
        exact ⟨z3.below hb4, b3.trans (hb4.mono b3.size), hs3.below hb4, ((k6.below (bdrew wr q)).grown hg3 HNE.out).below hb4⟩)
      clear ho4 hb4 hs3 hg3 L1 T1 hgl
      go_wp2_with fail
      refine GT.out.mono ?_
      rintro e w5 ⟨v5, rfl, ho5, hb5⟩
      obtain ⟨p5, n5, c5, rfl⟩ := ho5.sps.sl
      have HI := hide (singest_any (H4.out.1.below hb5) ho5.sps (by have := HSP.out.2.2.2.2.1; have := HSP.out.2.2.2.1; omega) HSP.out.2.2.2.2.2)
      have H5 : Hid (SoIs w5 gs bm R ∧ Below w0.heap.size w0 w5 ∧ Sc w5 g (.slice p n c) a' E' ∧ By w5 (.slice p n c) l) := hide ⟨H4.out.1.below hb5, H4.out.2.1.trans (hb5.mono H4.out.2.1.size), H4.out.2.2.1.below hb5, H4.out.2.2.2.below hb5⟩
      clear ho5 hb5 GT H4 hcv
      rcases hE9 with he | he
      · subst he
        go_wp2_with fail
        refine HI.out.mono ?_
        rintro e w6 ⟨rfl, R6, ht6⟩
        have H6 : Hid (StL w0 gs bm g (.slice p n c) l w6 (ingS S L) (a', E')) := hide (by
          obtain ⟨k1, k2, k3, k4, k6, k7⟩ := HS.out
          obtain ⟨m1, m2, m3, m4⟩ := H5.out
          refine ⟨R6, ht6.is, by rw [ht6.pl, k2], fun k hk => ?_, ?_, ?_, ?_, fun hk => ?_⟩
          · rcases ht6.new k hk with h | h
            · exact k3 k h
            · have := m2.size; omega
          · exact Chg.to_below m2 ht6.chg (fun k hk => k3 k hk.sub)
          · exact m3.chg ht6.chg (m1.ne_row m3)
          · exact By.keep m1 ht6.chg m4
          · rcases ht6.new g hk with h | h
            · exact k7 h
            · have := m3.lt; omega)
        clear ht6 HI
        go_wp2
        go_roundw
        case rel =>
          refine ⟨j + 1, ingS S L, (a', E'), by omega, by go_num, hide ⟨H6.out, HSP.out.2.2.1, ?_⟩⟩
          have h1 := HSP.out.2.1
          simp only [if_true, ite_true] at h1
          rw [← h1]
          exact HSP.out.1
        case measure => simp [intOf]; omega
      · subst he
        go_wp2
        refine bodyPost_ret (results_none rfl _ _ _) rfl ?_
        refine ⟨rfl, R, H5.out.1, ?_, HS.out.2.2.1, H5.out.2.1⟩
        have h1 := HSP.out.2.1
        rw [if_neg (by decide)] at h1
        rw [HS.out.2.1, ← HSP.out.1, h1]
    · have hjN : j = N := by omega
      subst hjN
      obtain ⟨⟨R, r1, r2, r3, r4, r5, r6, r7⟩, hal, hrd⟩ := HR.out
      have HZ := hide (And.intro r1 (And.intro r2 (And.intro r3 r4)))
      rw [Nat.sub_self, rdL] at hrd
      have HRD := hide hrd
      clear r1 r2 r3 r4 r5 r6 r7 hal hrd
      go_wp2
      go_end0
      exact ⟨rfl, R, HZ.out.1, HZ.out.2.1.trans HRD.out, HZ.out.2.2.1, HZ.out.2.2.2⟩

def LdPost (w : World) (l : List UInt8) (e : Ending) (w' : World) : Prop :=
  (imgS (ldS l) = l ∧ ∃ gs bm R, e = .returned (.tuple #[.pointer (some ⟨gs, 0, none⟩), .int .i64 0]) ∧ SoIs w' gs bm R ∧ R.map Tr.pl = ldS l ∧ (∀ k, SoS gs bm R k → w.heap.size ≤ k) ∧ Below w.heap.size w w') ∨
  (imgS (ldS l) ≠ l ∧ e = .returned (.tuple #[.pointer none, .int .i64 70]) ∧ Below w.heap.size w w')
set_option maxRecDepth 200000 in
set_option maxHeartbeats 4000000 in
/-- Load. -/
theorem sload_any {w : World} {v : Value} {l : List UInt8} (hv : By w v l) (hl : l.length ≤ 500000) : Calls Tryz.prog 17 #[v] w (LdPost w l) := by
  obtain ⟨p, n, c, rfl⟩ := hv.sl
  have HV := hide hv
  have HL := hide hl
  clear hv hl
  go_enter Tryz.func17, Tryz.ntmps17
  go_wp2_with fail
  refine (snew_any w).mono ?_
  intro e w1 hn
  obtain ⟨gs, bm, R0, rfl, hs0, hr0, hn0, hb1⟩ := hn
  have hr0' : R0 = [] := by simpa using hr0
  subst hr0'
  have H1 := hide (And.intro hs0 (And.intro hn0 hb1))
  clear hs0 hr0 hn0 hb1
  go_wp2_with fail
  refine (over_any (HV.out.below H1.out.2.2) (by have := HL.out; omega)).mono ?_
  rintro e w2 ⟨g, u, rfl, hwg, hs, hu, hne, hb⟩
  obtain ⟨q1, m1, c1, rfl⟩ := hu.by_.sl
  have RD := hide (sread_any (w0 := w) (gs := gs) (bm := bm) (g := g) (p := q1) (n := m1) (c := c1) (l := l) (w := w2)
    ⟨[], H1.out.1.below hb, rfl, H1.out.2.1, H1.out.2.2.trans (hb.mono H1.out.2.2.size), hs, hu.by_, fun hk => by have := H1.out.1.lt g hk; omega⟩ (Nat.le_trans H1.out.2.2.size hwg) hne HL.out)
  clear hs hu hne hb hwg
  go_wp2_with fail
  refine RD.out.mono ?_
  rintro e w3 ⟨rfl, R, k1, k2, k3, k4⟩
  have H3 := hide (And.intro k1 (And.intro k2 (And.intro k3 k4)))
  have IM := hide (simage_any k1)
  rw [k2] at IM
  clear k1 k2 k3 k4 RD
  go_wp2_with fail
  refine IM.out.mono ?_
  intro e w4 hp
  obtain ⟨v4, rfl, ho4, hb4⟩ := hp
  obtain ⟨p4, n4, c4, rfl⟩ := ho4.by_.sl
  have EQ := hide (equal_any ho4.by_ (HV.out.below (H3.out.2.2.2.trans (hb4.mono H3.out.2.2.2.size))))
  have H4 : Hid (SoIs w4 gs bm R ∧ R.map Tr.pl = ldS l ∧ (∀ k, SoS gs bm R k → w.heap.size ≤ k) ∧ Below w.heap.size w w4) := hide ⟨H3.out.1.below hb4, H3.out.2.1, H3.out.2.2.1, H3.out.2.2.2.trans (hb4.mono H3.out.2.2.2.size)⟩
  clear ho4 hb4 IM H3
  by_cases hi : imgS (ldS l) = l
  · have hbq : (imgS (ldS l) == l) = true := by rw [hi]; simp
    rw [hbq] at EQ
    have HI := hide hi
    clear hi hbq
    go_wp2_with fail
    refine EQ.out.mono ?_
    rintro e w5 ⟨rfl, rfl⟩
    clear EQ
    go_wp2
    go_ret2
    exact .inl ⟨HI.out, gs, bm, R, rfl, H4.out.1, H4.out.2.1, H4.out.2.2.1, H4.out.2.2.2⟩
  · have hbq : (imgS (ldS l) == l) = false := by simpa using hi
    rw [hbq] at EQ
    have HI := hide hi
    clear hi hbq
    go_wp2_with fail
    refine EQ.out.mono ?_
    rintro e w5 ⟨rfl, rfl⟩
    clear EQ
    go_wp2
    go_ret2
    exact .inr ⟨HI.out, rfl, H4.out.2.2.2⟩
end Go.Proofs.YtfedkjaollioaaaGreat
/- What is read out of a store's image is the store. -/
namespace Go.Proofs.YtfedkjaollioaaaGreat
set_option linter.unusedVariables false
set_option linter.unusedSimpArgs false

theorem tx_digitsL {l : List UInt8} {most a : Nat} {x r : List UInt8} (hx : x.length ≤ most) (hm : x.length < 9223372036854775808) (ha : a ≤ l.length) (h : l.drop a = digits x.length ++ (x ++ r)) : tx l most (a, 0) = (x, a + (digits x.length).length + x.length, 0) := by
  have hl := congrArg List.length h
  rw [List.length_drop, List.length_append, List.length_append] at hl
  unfold tx
  rw [if_neg (by simp)]
  dsimp only
  rw [h, readNum_digits (by omega)]
  dsimp only
  rw [if_neg (by simp), if_neg (by omega), if_neg (by omega), drop_more h, List.take_left]
theorem rdL_img {l : List UInt8} : ∀ (rest T : List Pl) (a : Nat), SoOk (T ++ rest) → a ≤ l.length → l.drop a = rest.flatMap bytesS → rdL l (nrm T) rest.length (a, 0) = nrm (T ++ rest)
  | [], T, a, h, ha, hd => by rw [List.append_nil]; rfl
  | y :: rest, T, a, h, ha, hd => by
    have hyo := h.ok y (List.mem_append_right _ (List.mem_cons_self ..))
    have hel := enc_len hyo.1
    have h1 : l.drop a = digits (encL (sortS y.2)).length ++ (encL (sortS y.2) ++ rest.flatMap bytesS) := by
      rw [hd, List.flatMap_cons]
      unfold bytesS
      rw [List.append_assoc]
    have hl := congrArg List.length h1
    rw [List.length_drop, List.length_append, List.length_append] at hl
    have h2 := tx_digitsL (most := l.length - a) (x := encL (sortS y.2)) (by omega) (by omega) ha h1
    have h3 : getP (encL (sortS y.2)) = (sortS y.2, 0) := getP_enc _ (by have := hyo.1.len; rw [sortS_length]; omega) fun x hx => (hyo.1.ok x (sortS_mem.1 hx)).1
    have h4 : l.drop (a + (digits (encL (sortS y.2)).length).length + (encL (sortS y.2)).length) = rest.flatMap bytesS := drop_more (drop_more h1)
    have hT : ∀ z ∈ nrm T, kP z < y.1 := by
      intro z hz
      obtain ⟨z', hz', rfl⟩ := List.mem_map.1 hz
      exact (List.pairwise_append.1 h.rises).2.2 z' hz' y (List.mem_cons_self ..)
    have hlen : (nrm T).length < 32 := by
      have := h.len
      rw [List.length_append, List.length_cons] at this
      rw [nrm_len]
      omega
    have h5 : ingS (nrm T) (sortS y.2) = nrm (T ++ [y]) := by
      rw [ing_last hT hlen hyo.1.sort (fun e => hyo.2.1 (by
        have h1 : (sortS y.2).length = 0 := by rw [e]; rfl
        rw [sortS_length] at h1
        exact List.length_eq_zero_iff.1 h1))]
      unfold nrm
      rw [List.map_append]
      rfl
    show rdL l (nrm T) (rest.length + 1) (a, 0) = _
    rw [rdL]
    dsimp only
    rw [h2]
    dsimp only
    rw [h3]
    dsimp only
    rw [if_pos rfl, h5, rdL_img rest (T ++ [y]) _ (by rw [List.append_assoc]; exact h) (by omega) h4, List.append_assoc]
    rfl
theorem ld_img {S : List Pl} (h : SoOk S) : ldS (imgS S) = nrm S := by
  have h0 : (imgS S).drop 0 = digits S.length ++ S.flatMap bytesS := rfl
  have hn := nx_digits (l := imgS S) (a := 0) (n := S.length) (by have := h.len; omega) h0
  unfold ldS
  rw [hn]
  dsimp only
  have hl := congrArg List.length h0
  rw [List.length_drop, List.length_append] at hl
  exact rdL_img S [] _ h (by omega) (drop_more h0)
theorem ld_img_ok {S : List Pl} (h : SoOk S) : imgS (ldS (imgS S)) = imgS S := by rw [ld_img h, nrm_img]
theorem imgS_len {S : List Pl} (h : SoOk S) : (imgS S).length ≤ 300000 := by
  have h1 := lens_imgs (S := S) fun y hy => (h.ok y hy).1
  have h2 := h.len
  have h3 := digits_length S.length (by omega)
  rw [imgS_flat, List.flatten_cons, List.length_append]
  have h4 : (S.map bytesS).flatten.length = Lib.lens (S.map bytesS) := by rw [List.length_flatten]; rfl
  omega
end Go.Proofs.YtfedkjaollioaaaGreat
/- The document's reading of an image, plainly. -/
namespace Go.Proofs.YtfedkjaollioaaaGreat
set_option linter.unusedVariables false
set_option linter.unusedSimpArgs false

theorem getIs_len {l : List UInt8} {r : List Sp} {e : Nat} (h : GetIs l r e) : r.length ≤ l.length := by
  rcases h with ⟨_, _, h3⟩ | ⟨_, h2, _⟩
  · have := encL_lenL r
    rw [h3] at this
    omega
  · rw [h2]
    simp
theorem refP_get {l : List UInt8} (hl : l.length ≤ 1000000) : refP l = getP l := by
  have h := GetIs.one (refP_is l) (getP_is l) (by have := getIs_len (refP_is l); omega) (by have := getIs_len (getP_is l); omega)
  exact Prod.ext h.1 h.2
theorem tx_len2 {l : List UInt8} {most : Nat} {st : Nat × Nat} : (tx l most st).1.length ≤ l.length := by
  unfold tx
  split
  · simp
  · split
    · simp
    · split
      · simp
      · split
        · simp
        · dsimp only
          rw [List.length_take, List.length_drop]
          omega
/-- What the document's reading puts into a store. -/
noncomputable def rdX (l : List UInt8) : List Pl → Nat → Nat × Nat → List Pl
  | S, 0, _ => S
  | S, k + 1, st => rdX l (ingS S (getP (tx l 262144 st).1).1) k (tx l 262144 st).2
noncomputable def ldX (l : List UInt8) : List Pl := rdX l [] (min (nx l (0, 0)).1 33) (nx l (0, 0)).2
theorem rdX_img {l : List UInt8} : ∀ (rest T : List Pl) (a : Nat), SoOk (T ++ rest) → a ≤ l.length → l.drop a = rest.flatMap bytesS → rdX l (nrm T) rest.length (a, 0) = nrm (T ++ rest)
  | [], T, a, h, ha, hd => by rw [List.append_nil]; rfl
  | y :: rest, T, a, h, ha, hd => by
    have hyo := h.ok y (List.mem_append_right _ (List.mem_cons_self ..))
    have hel := enc_len hyo.1
    have h1 : l.drop a = digits (encL (sortS y.2)).length ++ (encL (sortS y.2) ++ rest.flatMap bytesS) := by
      rw [hd, List.flatMap_cons]
      unfold bytesS
      rw [List.append_assoc]
    have hl := congrArg List.length h1
    rw [List.length_drop, List.length_append, List.length_append] at hl
    have h2 := tx_digitsL (most := 262144) (x := encL (sortS y.2)) (by omega) (by omega) ha h1
    have h3 : getP (encL (sortS y.2)) = (sortS y.2, 0) := getP_enc _ (by have := hyo.1.len; rw [sortS_length]; omega) fun x hx => (hyo.1.ok x (sortS_mem.1 hx)).1
    have h4 : l.drop (a + (digits (encL (sortS y.2)).length).length + (encL (sortS y.2)).length) = rest.flatMap bytesS := drop_more (drop_more h1)
    have hT : ∀ z ∈ nrm T, kP z < y.1 := by
      intro z hz
      obtain ⟨z', hz', rfl⟩ := List.mem_map.1 hz
      exact (List.pairwise_append.1 h.rises).2.2 z' hz' y (List.mem_cons_self ..)
    have hlen : (nrm T).length < 32 := by
      have := h.len
      rw [List.length_append, List.length_cons] at this
      rw [nrm_len]
      omega
    have h5 : ingS (nrm T) (sortS y.2) = nrm (T ++ [y]) := by
      rw [ing_last hT hlen hyo.1.sort (fun e => hyo.2.1 (by
        have h1 : (sortS y.2).length = 0 := by rw [e]; rfl
        rw [sortS_length] at h1
        exact List.length_eq_zero_iff.1 h1))]
      unfold nrm
      rw [List.map_append]
      rfl
    show rdX l (nrm T) (rest.length + 1) (a, 0) = _
    rw [rdX, h2]
    dsimp only
    rw [h3]
    dsimp only
    rw [h5, rdX_img rest (T ++ [y]) _ (by rw [List.append_assoc]; exact h) (by omega) h4, List.append_assoc]
    rfl
theorem ldX_img {S : List Pl} (h : SoOk S) : ldX (imgS S) = nrm S := by
  have h0 : (imgS S).drop 0 = digits S.length ++ S.flatMap bytesS := rfl
  have hn := nx_digits (l := imgS S) (a := 0) (n := S.length) (by have := h.len; omega) h0
  unfold ldX
  rw [hn]
  dsimp only
  have hl := congrArg List.length h0
  rw [List.length_drop, List.length_append] at hl
  rw [Nat.min_eq_left (by have := h.len; omega)]
  exact rdX_img S [] _ h (by omega) (drop_more h0)
/-- Both readings tell alike whether bytes are an image, and of which store. -/
theorem ld_one {l : List UInt8} (hs : SoOk (ldS l)) (h : imgS (ldS l) = l) : imgS (ldX l) = l ∧ ldX l = ldS l := by
  have a := ld_img hs
  have b := ldX_img hs
  rw [h] at a b
  have e : ldX l = ldS l := b.trans a.symm
  exact ⟨by rw [e]; exact h, e⟩
theorem ld_two {l : List UInt8} (hx : SoOk (ldX l)) (h : imgS (ldX l) = l) : imgS (ldS l) = l := by
  have a := ld_img hx
  rw [h] at a
  rw [a, nrm_img]
  exact h
end Go.Proofs.YtfedkjaollioaaaGreat
/- The document's Load. -/
namespace Go.Proofs.YtfedkjaollioaaaGreat
set_option linter.unusedVariables false
set_option linter.unusedSimpArgs false
open Go.RowKit

theorem rs_newL (w : World) : RsIs (w.alloc (.cells #[.slice none 0 0] 30)) w.heap.size [] := by
  have h := heap_alloc_new w (.cells #[.slice none 0 0] 30)
  have c0 := cell_of_row _ w.heap.size 0 _ 30 (0, 0) h
  exact ⟨⟨_, c0, RrRow.nil _, .inl rfl⟩, frozen_of_row _ w.heap.size 0 _ 30 h, SoOk.nil, by simp, by simp, by simp⟩
theorem Sr.below {w w' : World} {g : Nat} {v : Value} {a E : Nat} (h : Sr w g v a E) (hb : Below w.heap.size w w') : Sr w' g v a E := by
  have := h.lt
  unfold Sr at *
  rw [hb.block g this]
  exact h
theorem Sr.chg {w w' : World} {g : Nat} {v : Value} {a E : Nat} {S : Nat → Prop} (h : Sr w g v a E) (hc : Chg w w' S) (hn : ¬ S g) : Sr w' g v a E := by
  have := h.lt
  unfold Sr at *
  rw [hc.block g this hn]
  exact h
theorem By.chgL {w w' : World} {S : Nat → Prop} {v : Value} {l : List UInt8} (h : By w v l) (hc : Chg w w' S) (hne : l = [] ∨ ∀ k, v.ownBlock = some k → ¬ S k) : By w' v l := by
  obtain ⟨p, c, e, h1, h2, h3, h4⟩ := h
  refine ⟨p, c, e, h1, h2, h3, fun a ha i x hx => ?_⟩
  refine hc.cell (h4 a ha i x hx) ?_
  subst e
  rcases hne with rfl | hne
  · simp at hx
  · rw [block_add]
    exact hne _ (by rw [ha]; rfl)
theorem Sr.vals {w : World} {g : Nat} {a E : Nat} {p : Option Addr} {n c : Nat} (h : Sr w g (.slice p n c) a E) {i : Nat} {u : Value} (hu : w.cell? ⟨g, i, none⟩ = some u) : (∃ z, u = .int .i64 z) ∨ u = .slice p n c := by
  unfold Sr at h
  rw [cell_of_row w g i _ 82 (0, 0) h] at hu
  unfold refC at hu
  match i, hu with
  | 0, hu => exact .inr (by simpa using hu.symm)
  | 1, hu => exact .inl ⟨_, by simpa using hu.symm⟩
  | 2, hu => exact .inl ⟨_, by simpa using hu.symm⟩
  | n + 3, hu => simp at hu
theorem RsIs.otherS {w w' : World} {gx : Nat} {R : List Rr} {r a E : Nat} {p : Option Addr} {n c : Nat} (h : RsIs w gx R) (hc : Chg w w' fun k => k = r) (hr : Sr w r (.slice p n c) a E) (hne : ¬ RxT gx R r) : RsIs w' gx R := by
  obtain ⟨v, c0, hrow, hvb⟩ := h.c0
  have hgx : gx ≠ r := fun e => hne (.inl e.symm)
  refine ⟨⟨v, hc.cell c0 hgx, hrow.chg hc ?_, hvb⟩, (World.frozen?_of_block (a := ⟨gx, 0, none⟩) (hc.block gx (lt_of_cell c0) hgx)).trans h.fr, h.ok, fun x hx => ?_, h.ids, h.ne⟩
  · obtain ⟨p, d, rfl, _, _, _, hrx⟩ := hrow
    by_cases h0 : R = []
    · exact .inl h0
    · refine .inr fun k hk e => ?_
      obtain ⟨g, o, rfl, hx4⟩ := hrx (List.length_pos_iff.2 h0)
      have hk' : g = k := by injection hk
      have hRp : 0 < R.length := List.length_pos_iff.2 h0
      have h1 := hx4 0 R[0] (List.getElem?_eq_getElem hRp)
      rcases hr.vals (show w.cell? ⟨r, o + 0, none⟩ = _ by rw [← e, ← hk']; exact h1) with ⟨z, hz⟩ | hz <;> cases hz
  · obtain ⟨a0, a1, u, u1, u2, u3⟩ := h.fo x hx
    have hxr : x.g ≠ r := fun e => hne (.inr ⟨x, hx, e.symm⟩)
    have hb : w'.heap[x.g]? = w.heap[x.g]? := hc.block x.g (lt_of_cell a0) hxr
    refine ⟨(World.cell?_of_block (a := ⟨x.g, 0, none⟩) hb).trans a0, (World.frozen?_of_block (a := ⟨x.g, 1, none⟩) hb).trans a1, u, (World.cell?_of_block (a := ⟨x.g, 1, none⟩) hb).trans u1, u2.chgT hc ?_, u3⟩
    by_cases h0 : x.L = []
    · exact .inl h0
    · refine .inr fun k hk e => ?_
      obtain ⟨p, n, d, rfl⟩ := u2.sl
      have hl := u2.len.1
      have hp : 0 < x.L.length := List.length_pos_iff.2 h0
      obtain ⟨g, o, rfl, hx5⟩ := u2.at_ (by omega)
      have hk' : g = k := by injection hk
      have h1 := (hx5 0 x.L[0] (List.getElem?_eq_getElem hp)).c5
      rcases hr.vals (show w.cell? ⟨r, _, none⟩ = _ by rw [← e, ← hk']; exact h1) with ⟨z, hz⟩ | hz <;> cases hz
/-- Where reading stands. -/
def RxL (w0 : World) (gx g : Nat) (v : Value) (l : List UInt8) (wr : World) (S : List Pl) (st : Nat × Nat) : Prop :=
  ∃ R, RsIs wr gx R ∧ R.map Rr.pl = S ∧ (∀ k, RxT gx R k → w0.heap.size ≤ k) ∧ Below w0.heap.size w0 wr ∧ Sr wr g v st.1 st.2 ∧ By wr v l ∧ ¬ RxT gx R g
/-- What Load answers. -/
def RLdPost (w : World) (l : List UInt8) (e : Ending) (w' : World) : Prop :=
  (imgS (ldX l) = l ∧ ∃ gx R, e = .returned (.tuple #[.pointer (some ⟨gx, 0, none⟩), .int .i64 0]) ∧ RsIs w' gx R ∧ R.map Rr.pl = ldX l ∧ (∀ k, RxT gx R k → w.heap.size ≤ k) ∧ Below w.heap.size w w') ∨
  (imgS (ldX l) ≠ l ∧ e = .returned (.tuple #[.pointer none, .int .i64 70]) ∧ Below w.heap.size w w')
set_option maxRecDepth 200000 in
set_option maxHeartbeats 8000000 in
theorem rload_any {w : World} {v : Value} {l : List UInt8} (hv : By w v l) (hl : l.length ≤ 65536) : Calls Tryz.prog 18 #[v] w (RLdPost w l) := by
  obtain ⟨p, n, c, rfl⟩ := hv.sl
  have HN := hide hv.len.1
  have hn9 : (n : Int) ≤ 9223372036854775807 := hv.lenMax
  have hb0 : l = [] ∨ ∀ k, (Value.slice p n c).ownBlock = some k → k < w.heap.size := by
    by_cases h0 : l = []
    · exact .inl h0
    · refine .inr fun k hk => ?_
      obtain ⟨p', c', e2, _, _, _, hc⟩ := hv
      injection e2 with e2
      subst e2
      cases hl : l with
      | nil => exact absurd hl h0
      | cons y r =>
        cases p with
        | none => cases hk
        | some ad =>
          simp only [Value.ownBlock, Option.some.injEq] at hk
          have := lt_of_cell (hc ad rfl 0 y (by rw [hl]; rfl))
          rw [block_add] at this
          omega
  have HBK := hide hb0
  have HLL := hide hl
  obtain ⟨g, hg⟩ : ∃ g, w.heap.size = g := ⟨_, rfl⟩
  obtain ⟨X, hX⟩ : ∃ X, w.alloc (.cells #[.slice p n c, .int .i64 0, .int .i64 0] 82) = X := ⟨_, rfl⟩
  have hS : Sr X g (.slice p n c) 0 0 := by rw [← hX, ← hg]; exact heap_alloc_new w _
  have HS := hide hS
  have HBY := hide (show By X (.slice p n c) l by rw [← hX]; exact hv.alloc _)
  have HBX := hide (show Below w.heap.size w X by rw [← hX]; exact (Below.refl _ _).alloc (Nat.le_refl _) _)
  have HVW := hide hv
  have HNE := hide (show l = [] ∨ ∀ k, (Value.slice p n c).ownBlock = some k → some g ≠ some k from hb0.imp id fun h k hk e => by
    injection e with e
    have := h k hk
    omega)
  have HG := hide hg
  clear hv hl hb0 hS
  obtain ⟨N, a0, E0, hN⟩ : ∃ n a e, nx l (0, 0) = (n, a, e) := ⟨_, _, _, rfl⟩
  have hNl := (nx_le (l := l) (st := (0, 0)) (Nat.zero_le _))
  rw [hN] at hNl
  dsimp only at hNl
  have hLD : rdX l [] (min N 33) (a0, E0) = ldX l := by unfold ldX; rw [hN]
  have hN63 : (N : Int) ≤ 9223372036854775807 := by omega
  have HNN := hide (And.intro hN (And.intro hLD hNl.1))
  clear hN hLD hNl
  go_enter Tryz.func18, Tryz.ntmps18
  go_wp2_with fail
  clear hX hg
  refine (refScanNumber_any HS.out HBY.out (Nat.zero_le _) (show _ = (N, a0, E0) from HNN.out.1)).mono ?_
  rintro e2 w2 ⟨rfl, hs2, hg2⟩
  have hc2 : Chg X w2 fun k => k = g := Chg.of_grown hg2 _ (fun k e => by injection e with e; exact .inl e.symm)
  have hBw2 : Below w.heap.size w w2 := Chg.to_below HBX.out hc2 (fun k e => by rw [e, HG.out]; exact Nat.le_refl _)
  have hgx : g < w2.heap.size := hs2.lt
  obtain ⟨gx, hgxe⟩ : ∃ b, w2.heap.size = b := ⟨_, rfl⟩
  obtain ⟨Y, hY⟩ : ∃ Y, w2.alloc (.cells #[.slice none 0 0] 30) = Y := ⟨_, rfl⟩
  have hbY : Below w2.heap.size w2 Y := by rw [← hY]; exact (Below.refl _ _).alloc (Nat.le_refl _) _
  have H0 : Hid (RxL w gx g (.slice p n c) l Y [] (a0, E0)) := hide ⟨[], by rw [← hY, ← hgxe]; exact rs_newL w2, rfl, (fun k hk => by
    rcases hk with rfl | ⟨x, hx, _⟩
    · rw [← hgxe]; exact hBw2.size
    · cases hx), hBw2.trans (hbY.mono hBw2.size), hs2.below hbY, (HBY.out.chgL hc2 (HNE.out.imp id fun h k hk e => h k hk (by rw [e]))).below hbY, fun hk => by
    rcases hk with h | ⟨x, hx, _⟩
    · omega
    · cases hx⟩
  clear hs2 hg2 hc2 hBw2 hgx hbY
  have HK : Hid (∀ (b : Nat) (R : List Rr), (∀ k, RxT gx R k → w.heap.size ≤ k) → l = [] ∨ ∀ k, (Value.slice p n c).ownBlock = some k → ¬ RxT gx R k) := hide fun b R hR => HBK.out.imp id fun h k hk hx => by
    have h1 := h k hk
    have h2 := hR k hx
    omega
  go_upto_region 4 with fail
  clear hY hgxe
  go_wp2_with fail
  go_loopw [7, 8, 9] (fun i _ _ wr => ∃ (j : Nat) (S : List Pl) (st : Nat × Nat), j ≤ min N 33 ∧ i = .int .i64 j ∧ Hid (RxL w gx g (.slice p n c) l wr S st ∧ st.1 ≤ l.length ∧ rdX l S (min N 33 - j) st = ldX l)) (fun i _ _ _ => min N 33 - (intOf i).toNat)
  case atStart => exact ⟨0, [], (a0, E0), Nat.zero_le _, rfl, hide ⟨H0.out, HNN.out.2.2, HNN.out.2.1⟩⟩
  case round =>
    obtain ⟨j, S, st, hj, rfl, HR⟩ := hrel
    obtain ⟨a, E⟩ := st
    by_cases hlt : j < min N 33
    · obtain ⟨⟨R, r1, r2, r3, r4, r5, r6, r7⟩, hal, hrd⟩ := HR.out
      dsimp only at r5 hal
      obtain ⟨T, a', E', hT⟩ : ∃ T a' E', tx l 262144 (a, E) = (T, a', E') := ⟨_, _, _, rfl⟩
      have hTl : T.length ≤ 65536 := by
        have h1 := tx_len2 (l := l) (most := 262144) (st := (a, E))
        rw [hT] at h1
        have := HLL.out
        dsimp only at h1
        omega
      have hal' : a' ≤ l.length := by
        have h1 := tx_le (l := l) (most := 262144) (st := (a, E)) hal
        rw [hT] at h1
        exact h1
      have hstep : rdX l (ingS S (getP T).1) (min N 33 - (j + 1)) (a', E') = ldX l := by
        have e1 : min N 33 - j = (min N 33 - (j + 1)) + 1 := by omega
        rw [e1, rdX, hT] at hrd
        exact hrd
      have T1 := hide (refScanText_any r5 r6 HNE.out (by have := HN.out; omega) 262144 262144 rfl (show _ = (T, a', E') from hT))
      have TP := getP_lens T
      obtain ⟨L, e9, hP⟩ : ∃ L e9, getP T = (L, e9) := ⟨_, _, rfl⟩
      rw [hP] at hstep TP
      dsimp only at hstep TP
      have HSP := hide (And.intro hstep (And.intro hal' (And.intro hTl TP)))
      have HP := hide (show refP T = (L, e9) from (refP_get (by omega)).trans hP)
      have HSR := hide r5
      have HSS := hide (And.intro r1 (And.intro r2 (And.intro r3 (And.intro r4 (And.intro r6 r7)))))
      have q1 : (j : Int) < (N : Int) := by omega
      have q2 : (j : Int) ≤ 32 := by omega
      clear r1 r2 r3 r4 r5 r6 r7 hrd hstep hal' hTl TP hT hP hal
      go_wp2_with fail
      refine T1.out.mono ?_
      rintro e w3 ⟨rfl, hs3, hg3⟩
      obtain ⟨q4, w4, hcv, ho4, hb4⟩ := conv_own w3 T (by have := HSP.out.2.2.1; omega)
      have GT := hide (refGet_any ho4.by_ (by have := HSP.out.2.2.1; omega) HP.out)
      have H4 : Hid (RsIs w4 gx R ∧ Below w.heap.size w w4 ∧ Sr w4 g (.slice p n c) a' E' ∧ By w4 (.slice p n c) l) := hide (by
        obtain ⟨k1, k2, k3, k4, k6, k7⟩ := HSS.out
        have hc : Chg wr w3 fun k => k = g := Chg.of_grown hg3 _ (fun k e => by injection e with e; exact .inl e.symm)
        have z3 : RsIs w3 gx R := k1.otherS hc HSR.out k7
        have b3 : Below w.heap.size w w3 := Chg.to_below k4 hc (fun k e => by rw [e, HG.out]; exact Nat.le_refl _)
        exact ⟨z3.below hb4, b3.trans (hb4.mono b3.size), hs3.below hb4, (k6.chgL hc (HNE.out.imp id fun h k hk e => h k hk (by rw [e]))).below hb4⟩)
      clear ho4 hb4 hs3 hg3 T1
      go_wp2_with fail
      refine GT.out.mono ?_
      rintro e w5 ⟨v5, rfl, ho5, hb5⟩
      obtain ⟨p5, n5, c5, rfl⟩ := ho5.sps.sl
      have HI := hide (ringest_any (H4.out.1.below hb5) ho5.sps (.inr fun k hk hx => by have h1 := (ho5.lt k hk).1; have h2 := H4.out.1.lt k hx; omega) (by have := HSP.out.2.2.2.1; have := HSP.out.2.2.1; omega) HSP.out.2.2.2.2)
      have H5 : Hid (RsIs w5 gx R ∧ Below w.heap.size w w5 ∧ Sr w5 g (.slice p n c) a' E' ∧ By w5 (.slice p n c) l) := hide ⟨H4.out.1.below hb5, H4.out.2.1.trans (hb5.mono H4.out.2.1.size), H4.out.2.2.1.below hb5, H4.out.2.2.2.below hb5⟩
      clear ho5 hb5 GT H4 hcv
      go_wp2_with fail
      refine HI.out.mono ?_
      rintro e w6 ⟨rfl, R6, ht6⟩
      have H6 : Hid (RxL w gx g (.slice p n c) l w6 (ingS S L) (a', E')) := hide (by
        obtain ⟨k1, k2, k3, k4, k6, k7⟩ := HSS.out
        obtain ⟨m1, m2, m3, m4⟩ := H5.out
        refine ⟨R6, ht6.is, by rw [ht6.pl, k2], fun k hk => ?_, ?_, ?_, ?_, fun hk => ?_⟩
        · rcases ht6.new k hk with h | h
          · exact k3 k h
          · have := m2.size; omega
        · exact Chg.to_below m2 ht6.chg (fun k hk => k3 k hk)
        · exact m3.chg ht6.chg k7
        · exact m4.chgL ht6.chg (HK.out 0 R k3)
        · rcases ht6.new g hk with h | h
          · exact k7 h
          · have := m3.lt; omega)
      clear ht6 HI
      go_wp2
      go_roundw
      case rel => exact ⟨j + 1, ingS S L, (a', E'), by omega, by go_num, hide ⟨H6.out, HSP.out.2.1, HSP.out.1⟩⟩
      case measure => simp [intOf]; omega
    · have hjN : min N 33 - j = 0 := by omega
      obtain ⟨⟨R, r1, r2, r3, r4, r5, r6, r7⟩, hal, hrd⟩ := HR.out
      rw [hjN, rdX] at hrd
      have HZ := hide (And.intro r1 (And.intro (r2.trans hrd) (And.intro r3 r4)))
      have HIM := hide (rimage_any (HZ.out.1.below (bdrew wr 1)))
      rw [HZ.out.2.1] at HIM
      have HVR := hide (HVW.out.below r4)
      have HBW := hide r4
      have d1 := conv_by HVR.out
      have d0 := conv_at HVR.out
      have d2 : (convert 47 9 (.slice p n c)).run Tryz.prog wr.drew = .ok (.string (str l)) wr.drew := conv_by HVR.out 1
      have hsp : ((j : Int) < (N : Int) ∧ ¬ (j : Int) ≤ 32) ∨ ¬ (j : Int) < (N : Int) := by omega
      clear r1 r2 r3 r4 r5 r6 r7 hal hrd hjN
      by_cases hq : imgS (ldX l) = l
      · have heq : ((str (imgS (ldX l))).toList == (str l).toList) = true := by rw [str_beq]; exact decide_eq_true hq
        have HQ := hide hq
        clear hq
        rcases hsp with ⟨q1, q2⟩ | q1
        all_goals
          go_wp2
          go_region_with (first | (go_at_call 39; refine (HIM.out).mono ?_; rintro e w5 ⟨v5, rfl, ho5, hb5⟩; obtain ⟨p5, n5, c5, rfl⟩ := ho5.by_.sl; have z0 := conv_at ho5.by_; have z1 := conv_by ho5.by_; have u0 := conv_at (HVR.out.below (show Below wr.heap.size wr w5 from (bdrew wr 1).trans hb5)); have HB5 := hide (show Below wr.heap.size wr w5 from (bdrew wr 1).trans hb5); clear ho5 hb5))
          all_goals
            go_wp2
            go_ret2
            exact .inl ⟨HQ.out, gx, R, rfl, HZ.out.1.below HB5.out, HZ.out.2.1, HZ.out.2.2.1, HBW.out.trans (HB5.out.mono HBW.out.size)⟩
      · have heq : ((str (imgS (ldX l))).toList == (str l).toList) = false := by rw [str_beq]; exact decide_eq_false hq
        have HQ := hide hq
        clear hq
        rcases hsp with ⟨q1, q2⟩ | q1
        all_goals
          go_wp2
          go_region_with (first | (go_at_call 39; refine (HIM.out).mono ?_; rintro e w5 ⟨v5, rfl, ho5, hb5⟩; obtain ⟨p5, n5, c5, rfl⟩ := ho5.by_.sl; have z0 := conv_at ho5.by_; have z1 := conv_by ho5.by_; have u0 := conv_at (HVR.out.below (show Below wr.heap.size wr w5 from (bdrew wr 1).trans hb5)); have HB5 := hide (show Below wr.heap.size wr w5 from (bdrew wr 1).trans hb5); clear ho5 hb5))
          all_goals
            go_wp2
            go_ret2
            exact .inr ⟨HQ.out, rfl, HBW.out.trans (HB5.out.mono HBW.out.size)⟩
end Go.Proofs.YtfedkjaollioaaaGreat
