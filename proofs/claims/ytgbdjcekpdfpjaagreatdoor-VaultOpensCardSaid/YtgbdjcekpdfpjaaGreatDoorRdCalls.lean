import Derived.Test.YtgbdjcekpdfpjaaGreatDoorRc
import Derived.Test.YtgbdjcekpdfpjaaGreatDoorDDoes
import Derived.OrdersHeld
set_option linter.unusedVariables false
set_option linter.unusedSimpArgs false
namespace Go.Proofs.YtgbdjcekpdfpjaaGreatDoor
set_option maxRecDepth 200000
set_option maxHeartbeats 8000000
open Go.RowKit
theorem RdIs.at {w w' : World} {Z R : Nat → Prop} {g : Nat} {st : Dk} (h : RdIs w Z R g st) (hc : Chg w w' (fun _ => False)) : RdIs w' Z R g st := h.chg hc (fun _ h => h.elim) fun i hi => .inl hi
theorem RPost.same {w w' : World} {Z R : Nat → Prop} {g : Nat} {st : Dk} (h : RdIs w Z R g st) (hc : Chg w w' (fun _ => False)) : RPost w Z R g st w' := ⟨R, h.at hc, hc.mono fun _ h => h.elim, fun i hi => .inl hi⟩
theorem okN_size {s : ByteArray} (h : okN s.data.toList = true) : s.size ≤ 32 := by
 unfold okN at h
 simp only [Bool.and_eq_true, decide_eq_true_eq] at h
 have hl : s.data.toList.length = s.size := by rw [Array.length_toList]; rfl
 omega
theorem Dk.why_zero {st : Dk} {k : List UInt8} (h : st.why k = 0) : st.down = false ∧ okN k = true ∧ (get st.seen k).isSome = true := by
 unfold Dk.why at h
 rcases h1 : st.down with _ | _ <;> rcases h2 : okN k with _ | _ <;> rcases h3 : (get st.seen k).isSome with _ | _ <;> rw [h1, h2, h3] at h <;> simp at h ⊢
theorem Dk.why_cases (st : Dk) (k : List UInt8) : st.why k = 22 ∨ st.why k = 20 ∨ st.why k = 21 ∨ st.why k = 0 := by
 unfold Dk.why
 rcases st.down <;> rcases okN k <;> rcases (get st.seen k).isSome <;> simp
theorem Dk.why_21 {st : Dk} {k : List UInt8} (h : st.why k = 21) : st.down = false ∧ okN k = true ∧ get st.seen k = none := by
 unfold Dk.why at h
 rcases h1 : st.down with _ | _ <;> rcases h2 : okN k with _ | _ <;> rcases h3 : get st.seen k with _ | o <;> rw [h1, h2, h3] at h <;> simp at h ⊢
theorem rdy_why {st : Dk} {k : List UInt8} (h : st.down = false ∧ okN k = true) : rdy st.down k = 0 := by
 unfold rdy
 rw [h.1, h.2]
 rfl
theorem rdy_why2 {st : Dk} {k : List UInt8} (h : st.why k = 22 ∨ st.why k = 20) : rdy st.down k = st.why k ∧ st.why k ≠ 0 := by
 unfold rdy
 unfold Dk.why at h ⊢
 rcases h1 : st.down with _ | _ <;> rcases h2 : okN k with _ | _ <;> rcases h3 : (get st.seen k).isSome with _ | _ <;> rw [h1, h2, h3] at h <;> simp at h ⊢
structure Rq (w : World) (Z R : Nat → Prop) (g : Nat) (st : Dk) : Prop where
 is_ : RdIs w Z R g st
 ok : st.Ok
 cl : st.Calm
theorem Rq.at {w w' : World} {Z R : Nat → Prop} {g : Nat} {st : Dk} (h : Rq w Z R g st) (hc : Chg w w' (fun _ => False)) : Rq w' Z R g st := ⟨h.is_.at hc, h.ok, h.cl⟩
theorem Rq.add {w : World} {Z R : Nat → Prop} {g : Nat} {st : Dk} (h : Rq w Z R g st) {d : Deed} (ok : (st.act d).Ok) : ∀ w2, Chg w w2 (fun _ => False) → ∀ e, Ae w2 (fun i => Z i ∨ R i) e d →
  Calls Tryz.prog 81 #[.pointer (some ⟨g, 0, none⟩), acV e] w2 fun r w' => r = .returned (.int .i64 ((st.perf d).1 : Nat)) ∧ RPost w Z R g (st.perf d).2 w' := fun w2 hc e he =>
 (radd_any (h.is_.at hc) ok h.cl.few h.ok.fuse he h.cl.k1 h.cl.k2 h.cl.t1 h.cl.t2).mono fun r w' hp => ⟨hp.1, hp.2.after (hc.mono fun _ h => h.elim) fun i hi => .inl hi⟩
theorem Rq.zr {w : World} {Z R : Nat → Prop} {g : Nat} {st : Dk} (h : Rq w Z R g st) : ∀ i, (Z i ∨ R i) → i < w.heap.size := fun i hi => hi.elim (h.is_.zap i) (h.is_.rap i)
theorem Rq.got {w : World} {Z R : Nat → Prop} {g : Nat} {st : Dk} (h : Rq w Z R g st) (s : ByteArray) : ∀ w2, Chg w w2 (fun _ => False) → Calls Tryz.prog 79 #[.pointer (some ⟨g, 0, none⟩)] w2 fun e w3 => ∃ p n c, e = .returned (.slice p n c) ∧ n = st.seen.length ∧ Chg w w3 (fun _ => False) ∧
  ∀ w4, Chg w3 w4 (fun _ => False) → Calls Tryz.prog 80 #[.slice p n c, .string s] w4 fun e w5 => ∃ q m d, e = .returned (.tuple #[.slice q m d, .bool (get st.seen s.data.toList).isSome]) ∧ By w5 (.slice q m d) ((get st.seen s.data.toList).getD []) ∧ Chg w w5 (fun _ => False) := fun w2 hc =>
 (rfiles_any (h.is_.at hc) h.ok).mono fun e w3 hp => by
  obtain ⟨p, n, c, rfl, hf, hc3⟩ := hp
  refine ⟨p, n, c, rfl, hf.len.1, hc.trans hc3 fun _ h => .inl h, fun w4 hc4 => ?_⟩
  refine (rget_any (hf.chg hc4 fun _ h => h.elim) s).mono fun e w5 hp => ?_
  obtain ⟨q, m, d, rfl, hb, _, hc5⟩ := hp
  exact ⟨q, m, d, rfl, hb, ((hc.trans hc3 fun _ h => .inl h).trans hc4 fun _ h => .inl h).trans hc5 fun _ h => .inl h⟩
theorem rdrop_any {w : World} {Z R : Nat → Prop} {g : Nat} {st : Dk} (h : Rq w Z R g st) {s : ByteArray} (hs : s.size ≤ maxLen) :
  Calls Tryz.prog 51 #[.pointer (some ⟨g, 0, none⟩), .string s] w fun e w' => e = .returned (.int .i64 ((st.drop s.data.toList).1 : Nat)) ∧ RPost w Z R g (st.drop s.data.toList).2 w' := by
 have HW := hide (rwhy_any h.is_ h.ok s hs)
 by_cases h0 : st.why s.data.toList = 0
 ·obtain ⟨h1, h2, h3⟩ := Dk.why_zero h0
  obtain ⟨o, ho⟩ := Option.isSome_iff_exists.1 h3
  have HA := hide (h.add (ok_drop h.ok h1 h.cl.few (k := s.data.toList)))
  have hsz := okN_size h2
  have e1 : st.drop s.data.toList = st.perf (.drop s.data.toList) := by
   unfold Dk.drop
   rw [if_neg (by rw [rdy_why ⟨h1, h2⟩]; simp), ho]
  have E1 := hide e1
  rw [h0] at HW
  have HAE := hide (fun W => (⟨rfl, rfl, rfl, by dsimp only; omega, Nat.zero_le 1000, rfl, By.nil W, .inl rfl⟩ : Ae W (fun i => Z i ∨ R i) ⟨3, s, ⟨#[]⟩, 0, none, 0, 0⟩ (.drop s.data.toList)))
  clear h h0 h1 h2 h3 ho e1 hs
  go_enter Tryz.func51, Tryz.ntmps51
  go_wp2_with fail
  refine HW.out.mono ?_
  rintro e w2 ⟨rfl, hc2⟩
  have HAD := hide (HA.out _ hc2 _ (HAE.out w2))
  unfold acV at HAD
  dsimp only at HAD
  clear hc2
  rw [show ((0 : Nat) : Int) = 0 from rfl]
  go_wp2_with fail
  refine HAD.out.mono ?_
  rintro e w3 ⟨rfl, hp⟩
  have HP := hide hp
  clear hp
  go_wp2
  go_ret
  rw [E1.out]
  exact ⟨rfl, HP.out⟩
 ·have e1 : st.drop s.data.toList = (st.why s.data.toList, st) := by
   unfold Dk.drop
   rcases Dk.why_cases st s.data.toList with h1 | h1 | h1 | h1
   ·rw [(rdy_why2 (.inl h1)).1, if_pos (by omega)]
   ·rw [(rdy_why2 (.inr h1)).1, if_pos (by omega)]
   ·obtain ⟨a, b, c⟩ := Dk.why_21 h1
    rw [if_neg (by rw [rdy_why ⟨a, b⟩]; simp), c, h1]
   ·exact absurd h1 h0
  rw [e1]
  obtain ⟨y, hy⟩ : ∃ y, st.why s.data.toList = y := ⟨_, rfl⟩
  rw [hy] at HW h0 ⊢
  have q : ((y : Int) != 0) = true := by simp; omega
  have HS := hide (fun w' hc => RPost.same (w' := w') h.is_ hc)
  clear h h0 hy e1 hs
  go_enter Tryz.func51, Tryz.ntmps51
  go_wp2_with fail
  refine HW.out.mono ?_
  rintro e w2 ⟨rfl, hc2⟩
  have HP := hide (HS.out _ hc2)
  clear hc2
  go_wp2
  go_ret
  exact ⟨rfl, HP.out⟩
theorem rwrite_any {w : World} {Z R : Nat → Prop} {g : Nat} {st : Dk} (h : Rq w Z R g st) {s : ByteArray} (hs : s.size ≤ maxLen) {at_ : Int} (ha : at_ ≤ 9223372036854775807) (ha2 : -9223372036854775808 ≤ at_) {p : Option Addr} {n c : Nat} {b : List UInt8} (hb : By w (.slice p n c) b) :
  Calls Tryz.prog 30 #[.pointer (some ⟨g, 0, none⟩), .string s, .int .i64 at_, .slice p n c] w fun e w' => e = .returned (.int .i64 ((st.write s.data.toList at_ b).1 : Nat)) ∧ RPost w Z R g (st.write s.data.toList at_ b).2 w' := by
 have HW := hide (rwhy_any h.is_ h.ok s hs)
 have HS := hide (fun w' hc => RPost.same (w' := w') h.is_ hc)
 have HB := hide hb
 have HG := hide (h.got s)
 have HR := hide h
 have HRM := hide (show st.room ≤ 16777216 from h.ok.most)
 rcases Dk.why_cases st s.data.toList with h0 | h0 | h0 | h0
 ·have e1 : st.write s.data.toList at_ b = (22, st) := by
   unfold Dk.write
   rw [(rdy_why2 (.inl h0)).1, if_pos (by omega), h0]
  rw [e1]
  rw [h0] at HW
  clear h h0 e1 hs hb HG HR
  go_enter Tryz.func30, Tryz.ntmps30
  go_wp2_with fail
  refine HW.out.mono ?_
  rintro e w2 ⟨rfl, hc2⟩
  have HP := hide (HS.out _ hc2)
  clear hc2
  rw [show ((22 : Nat) : Int) = 22 from rfl]
  go_wp2
  go_ret
  exact ⟨rfl, HP.out⟩
 ·have e1 : st.write s.data.toList at_ b = (20, st) := by
   unfold Dk.write
   rw [(rdy_why2 (.inr h0)).1, if_pos (by omega), h0]
  rw [e1]
  rw [h0] at HW
  clear h h0 e1 hs hb HG HR
  go_enter Tryz.func30, Tryz.ntmps30
  go_wp2_with fail
  refine HW.out.mono ?_
  rintro e w2 ⟨rfl, hc2⟩
  have HP := hide (HS.out _ hc2)
  clear hc2
  rw [show ((20 : Nat) : Int) = 20 from rfl]
  go_wp2
  go_ret
  exact ⟨rfl, HP.out⟩
 ·obtain ⟨h1, h2, h3⟩ := Dk.why_21 h0
  have e1 : st.write s.data.toList at_ b = if at_ ≠ 0 then (21, st) else if 4096 ≤ st.seen.length then (7, st) else if st.room < st.used + b.length then (7, st) else st.perf (.put s.data.toList 0 b) := by
   unfold Dk.write
   rw [if_neg (by rw [rdy_why ⟨h1, h2⟩]; simp), h3]
  rw [h0] at HW
  by_cases h4 : at_ = 0
  ·subst h4
   rw [if_neg (by simp)] at e1
   by_cases h6 : 4096 ≤ st.seen.length
   ·rw [if_pos h6] at e1
    have E1 := hide e1
    have H6 := hide h6
    clear h h0 h1 h2 h3 e1 hs hb h6 ha ha2
    go_enter Tryz.func30, Tryz.ntmps30
    go_wp2_with fail
    refine HW.out.mono ?_
    rintro e w2 ⟨rfl, hc2⟩
    have HCW := hide hc2
    clear hc2
    rw [show ((21 : Nat) : Int) = 21 from rfl]
    go_wp2_with fail
    refine (HG.out _ HCW.out).mono ?_
    rintro e w3 ⟨p3, n3, c3, rfl, hn3, hc3, hg3⟩
    have hn4 : (4096 : Int) ≤ (n3 : Int) := by have := H6.out; omega
    have HP := hide (HS.out _ hc3)
    clear hc3 hg3 hn3
    go_wp2
    go_ret
    rw [E1.out]
    exact ⟨rfl, HP.out⟩
   ·rw [if_neg h6] at e1
    have E1 := hide e1
    have H6 := hide h6
    have hsz := okN_size h2
    have HD := hide h1
    have HG9 := hide h3
    have HOKP := hide (fun (h7 : ¬ st.room < st.used + b.length) => h.add (ok_put h.ok h1 h.cl.few (k := s.data.toList) (a := 0) (b := b) (Nat.zero_le _) (by omega) (.inr (by omega))))
    clear h h0 h1 h2 h3 e1 hs hb h6 ha ha2
    go_enter Tryz.func30, Tryz.ntmps30
    go_wp2_with fail
    refine HW.out.mono ?_
    rintro e w2 ⟨rfl, hc2⟩
    have HCW0 := hide hc2
    clear hc2
    rw [show ((21 : Nat) : Int) = 21 from rfl]
    go_wp2_with fail
    refine (HG.out _ HCW0.out).mono ?_
    rintro e w3 ⟨p3, n3, c3, rfl, hn3, hc3, hg3⟩
    have hn4 : ((4096 : Int) ≤ (n3 : Int)) = False := eq_false (by have := H6.out; omega)
    have HCW := hide hc3
    clear hc3 hg3 hn3
    go_wp2_with fail
    refine (HG.out _ HCW.out).mono ?_
    rintro e w3 ⟨p3, n3, c3, rfl, hn3, hc3, hg3⟩
    have HG3 := hide (hg3 w3 (Chg.refl _ _))
    clear hc3 hg3 hn3
    go_wp2_with fail
    refine HG3.out.mono ?_
    rintro e w4 ⟨q, m, d, rfl, hb4, hc4⟩
    have HM := hide (show m = ((get st.seen s.data.toList).getD []).length from hb4.len.1)
    have HC4 := hide hc4
    clear hb4 hc4
    obtain rfl : m = 0 := by have := HM.out; rw [HG9.out] at this; exact this
    have hnb := HB.out.len.1
    have HNB := hide hnb
    by_cases h5 : (16777216 : Int) < (n : Int)
    ·have hP := HS.out _ HC4.out
     have E9 := hide (E1.out.trans (if_pos (by have := HRM.out; omega)))
     have g5 : decide ((16777216 : Int) < (n : Int)) = true := decide_eq_true h5
     have HP := hide hP
     clear hP hnb E1
     go_wp2_with fail
     go_quiet (fail)
     all_goals
      go_wp2
      go_ret
      rw [E9.out]
      exact ⟨rfl, HS.out _ (HC4.out.drewN _)⟩
    ·have g5 : decide ((16777216 : Int) < (n : Int)) = false := decide_eq_false h5
     have hwr : IntKind.i64.wrap ((st.used : Int) + (n : Int)) = (st.used : Int) + (n : Int) := by rw [IntKind.wrap_i64]; have := HRM.out; have := HR.out.ok.room; omega
     have hc0 : ∀ V, Chg w V (fun _ => False) → V.cell? ⟨g, 0, none⟩ = some (.int .i64 (st.room : Nat)) := fun V hV => by
      obtain ⟨vl, va, kp, tr, hh, _⟩ := (HR.out.at hV).is_.parts
      exact hh.c0
     have HC0 := hide hc0
     have hus : ∀ V, Chg w V (fun _ => False) → Calls Tryz.prog 70 #[.pointer (some ⟨g, 0, none⟩)] V fun e w' => e = .returned (.int .i64 (st.used : Nat)) ∧ Chg w w' (fun _ => False) := fun V hV => by
      have := rused_any (HR.out.at hV).is_ HR.out.ok
      rw [HD.out] at this
      exact this.mono fun e w' hp => ⟨hp.1, hV.trans hp.2 fun _ h => .inl h⟩
     have HUS := hide hus
     have k0 := hc0 _ HC4.out
     have k0d : w4.drew.cell? ⟨g, 0, none⟩ = some (.int .i64 (st.room : Nat)) := hc0 _ (HC4.out.drewN 1)
     clear hc0 hus hnb
     by_cases h7 : st.room < st.used + b.length
     ·have g7 : (st.room : Int) < (st.used : Int) + (n : Int) := by have := HNB.out; omega
      have E9 := hide (E1.out.trans (if_pos h7))
      clear h7 E1
      go_wp2_with fail
      refine wp_region_held_drew (S := fun V => V.cell? ⟨g, 0, none⟩ = some (.int .i64 (st.room : Nat))) (by kernel_rfl) ?_ (fun hHeld => ?_)
      ·exact k0d
      refine tkL 0 rfl ?_
      refine tkL 1 rfl ?_
      refine tkI (i := 2) (v := (.bool false)) (tkD rfl) (by rfl) ?_ ?_
      ·intro w hSw
       (try dsimp only at hSw)
       go_simp
       try with_reducible rfl
      try simp only [Act.put, qA, qB, qC]
      refine tkL 3 rfl ?_
      refine tkL 4 rfl ?_
      refine tkL 6 rfl ?_
      refine tkL 7 rfl ?_
      refine tkL 9 rfl ?_
      refine tkL 10 rfl ?_
      refine tkL 11 rfl ?_
      refine tkL 12 rfl ?_
      refine wpAnyH_ready (rs := [5]) (by kernel_rfl) (by simp) ?_
      refine acL rfl (fun K hK => ?_) AllReadyH.nil
      go_simp
      go_at_call 70
      refine (HUS.out _ (HC4.out.drewN 1)).mono ?_
      rintro e w5 ⟨rfl, hc5⟩
      first
       | refine hK.out _ _ ?_ (fun hHeld => ?_)
       | (go_wp2_with fail; refine hK.out _ _ ?_ (fun hHeld => ?_))
      ·exact (HC0.out _ hc5)
      clear hK K
      try simp only [Act.put, qA, qB, qC]
      refine tkL 8 rfl ?_
      refine tkI (i := 13) (v := (.bool true)) (tkD rfl) (by rfl) ?_ ?_
      ·intro w hSw
       (try dsimp only at hSw)
       go_simp
       try with_reducible rfl
      try simp only [Act.put, qA, qB, qC]
      refine tkL 14 rfl ?_
      refine wpAnyH_done (by kernel_rfl) ?_ _
      have HC5 := hide hc5
      clear hc5
      focus
       go_wp2
       go_ret
       rw [E9.out]
       exact ⟨rfl, HS.out _ HC5.out⟩
     ·have g7 : ((st.room : Int) < (st.used : Int) + (n : Int)) = False := eq_false (by have := HNB.out; omega)
      have E9 := hide (E1.out.trans (if_neg h7))
      have HADD := hide (HOKP.out h7)
      clear h7 E1
      go_wp2_with fail
      refine wp_region_held_drew (S := fun V => V.cell? ⟨g, 0, none⟩ = some (.int .i64 (st.room : Nat))) (by kernel_rfl) ?_ (fun hHeld => ?_)
      ·exact k0d
      refine tkL 0 rfl ?_
      refine tkL 1 rfl ?_
      refine tkI (i := 2) (v := (.bool false)) (tkD rfl) (by rfl) ?_ ?_
      ·intro w hSw
       (try dsimp only at hSw)
       go_simp
       try with_reducible rfl
      try simp only [Act.put, qA, qB, qC]
      refine tkL 3 rfl ?_
      refine tkL 4 rfl ?_
      refine tkL 6 rfl ?_
      refine tkL 7 rfl ?_
      refine tkL 9 rfl ?_
      refine tkL 10 rfl ?_
      refine tkL 11 rfl ?_
      refine tkL 12 rfl ?_
      refine wpAnyH_ready (rs := [5]) (by kernel_rfl) (by simp) ?_
      refine acL rfl (fun K hK => ?_) AllReadyH.nil
      go_simp
      go_at_call 70
      refine (HUS.out _ (HC4.out.drewN 1)).mono ?_
      rintro e w5 ⟨rfl, hc5⟩
      first
       | refine hK.out _ _ ?_ (fun hHeld => ?_)
       | (go_wp2_with fail; refine hK.out _ _ ?_ (fun hHeld => ?_))
      ·exact (HC0.out _ hc5)
      clear hK K
      try simp only [Act.put, qA, qB, qC]
      refine tkL 8 rfl ?_
      refine tkI (i := 13) (v := (.bool false)) (tkD rfl) (by rfl) ?_ ?_
      ·intro w hSw
       (try dsimp only at hSw)
       go_simp
       try with_reducible rfl
      try simp only [Act.put, qA, qB, qC]
      refine tkL 14 rfl ?_
      refine wpAnyH_done (by kernel_rfl) ?_ _
      have HC5 := hide hc5
      clear hc5
      focus
       have HB5 := hide (HB.out.chg HC5.out (.inr fun _ _ h => h))
       have HZ5 := hide (show ∀ i, (Z i ∨ R i) → i < w5.heap.size from fun i hi => Nat.lt_of_lt_of_le (HR.out.zr i hi) HC5.out.size)
       go_wp2_with (at_builtin; go_must (refine wpList_append_row_by rfl _ _ rfl rfl rfl rfl (row_made0 w5) (HB5.out.alloc _) (by simp; have := HNB.out; omega) (by simp) ?_); intro v6 w6 ho6 hb6; obtain ⟨p6, n6, c6, rfl⟩ := (by_row ho6).sl; rw [List.nil_append] at ho6; have H6 := hide (And.intro ho6 hb6); clear ho6 hb6)
       have hc6 : Chg w w6 (fun _ => False) := (HC5.out.trans (chgA w5 (.cells #[] 5)) fun _ h => .inl h).bel (H6.out.2.mono HC5.out.size)
       have HAD := hide (HADD.out w6 hc6 ⟨0, s, ⟨#[]⟩, 0, p6, n6, c6⟩ ⟨rfl, rfl, rfl, by dsimp only; omega, Nat.zero_le 1000, rfl, by_row H6.out.1, .inr fun k hk hz => by have h1 := (H6.out.1.lt k hk).1; have h2 := HZ5.out k hz; omega⟩)
       unfold acV at HAD
       dsimp only at HAD
       clear hc6
       go_wp2_with fail
       refine HAD.out.mono ?_
       rintro e w7 ⟨rfl, hp⟩
       have HP := hide hp
       clear hp
       go_wp2
       go_ret
       rw [E9.out]
       exact ⟨rfl, HP.out⟩
  ·rw [if_pos h4] at e1
   have E1 := hide e1
   have g4 : (at_ == 0) = false := beq_eq_false_iff_ne.2 h4
   clear h h0 h1 h2 h3 e1 hs hb HG HR h4
   go_enter Tryz.func30, Tryz.ntmps30
   go_wp2_with fail
   refine HW.out.mono ?_
   rintro e w2 ⟨rfl, hc2⟩
   have HP := hide (HS.out _ hc2)
   clear hc2
   rw [show ((21 : Nat) : Int) = 21 from rfl]
   go_wp2
   go_ret
   rw [E1.out]
   exact ⟨rfl, HP.out⟩
 ·obtain ⟨h1, h2, h3⟩ := Dk.why_zero h0
  obtain ⟨o, ho⟩ := Option.isSome_iff_exists.1 h3
  have hsz := okN_size h2
  have e1 : st.write s.data.toList at_ b = if at_ < 0 ∨ (o.length : Int) < at_ then (1, st) else if st.room < st.used + b.length then (7, st) else st.perf (.put s.data.toList at_.toNat b) := by
   unfold Dk.write
   rw [if_neg (by rw [rdy_why ⟨h1, h2⟩]; simp), ho]
  rw [h0] at HW
  have HD := hide h1
  have HG9 := hide ho
  by_cases hc : at_ < 0 ∨ (o.length : Int) < at_
  ·rw [if_pos hc] at e1
   have E1 := hide e1
   have hcc : at_ < 0 ∨ (0 ≤ at_ ∧ (o.length : Int) < at_) := by omega
   have HCC := hide hcc
   clear h h0 h1 h2 h3 ho e1 hs hb hc hcc ha ha2
   go_enter Tryz.func30, Tryz.ntmps30
   go_wp2_with fail
   refine HW.out.mono ?_
   rintro e w2 ⟨rfl, hc2⟩
   have HCW := hide hc2
   clear hc2
   rw [show ((0 : Nat) : Int) = 0 from rfl]
   go_wp2_with fail
   refine (HG.out _ HCW.out).mono ?_
   rintro e w3 ⟨p3, n3, c3, rfl, hn3, hc3, hg3⟩
   have HG3 := hide (hg3 w3 (Chg.refl _ _))
   clear hc3 hg3 hn3
   go_wp2_with fail
   refine HG3.out.mono ?_
   rintro e w4 ⟨q, m, d, rfl, hb4, hc4⟩
   have HM := hide (show m = ((get st.seen s.data.toList).getD []).length from hb4.len.1)
   have HC4 := hide hc4
   clear hb4 hc4
   have hm := HM.out
   rw [HG9.out] at hm
   have HP := hide (HS.out _ HC4.out)
   rcases HCC.out with hx | ⟨hx, hy⟩
   ·clear hm
    go_wp2
    go_ret
    rw [E1.out]
    exact ⟨rfl, HP.out⟩
   ·have hz : (at_ < 0) = False := eq_false (by omega)
    have hy2 : (m : Int) < at_ := by rw [show m = o.length from hm]; exact hy
    clear hm hy hx
    go_wp2
    go_ret
    rw [E1.out]
    exact ⟨rfl, HP.out⟩
  ·rw [if_neg hc] at e1
   have E1 := hide e1
   have HY := hide (show ¬ (o.length : Int) < at_ by omega)
   have hx : (at_ < 0) = False := eq_false (by omega)
   have HAT := hide (show at_ = (at_.toNat : Int) by omega)
   have HOKP := hide (fun (h7 : ¬ st.room < st.used + b.length) => h.add (ok_put h.ok h1 h.cl.few (k := s.data.toList) (a := at_.toNat) (b := b) (by rw [ho]; show at_.toNat ≤ o.length; omega) (by omega) (.inl h3)))
   clear h h0 h1 h2 h3 ho e1 hs hb hc ha ha2
   go_enter Tryz.func30, Tryz.ntmps30
   go_wp2_with fail
   refine HW.out.mono ?_
   rintro e w2 ⟨rfl, hc2⟩
   have HCW := hide hc2
   clear hc2
   rw [show ((0 : Nat) : Int) = 0 from rfl]
   go_wp2_with fail
   refine (HG.out _ HCW.out).mono ?_
   rintro e w3 ⟨p3, n3, c3, rfl, hn3, hc3, hg3⟩
   have HG3 := hide (hg3 w3 (Chg.refl _ _))
   clear hc3 hg3 hn3
   go_wp2_with fail
   refine HG3.out.mono ?_
   rintro e w4 ⟨q, m, d, rfl, hb4, hc4⟩
   have HM := hide (show m = ((get st.seen s.data.toList).getD []).length from hb4.len.1)
   have HC4 := hide hc4
   clear hb4 hc4
   have hy2 : ((m : Int) < at_) = False := eq_false (by have hm := HM.out; rw [HG9.out] at hm; rw [show m = o.length from hm]; have := HY.out; omega)
   have hnb := HB.out.len.1
   have HNB := hide hnb
   by_cases h5 : (16777216 : Int) < (n : Int)
   ·have hP := HS.out _ HC4.out
    have E9 := hide (E1.out.trans (if_pos (by have := HRM.out; omega)))
    have g5 : decide ((16777216 : Int) < (n : Int)) = true := decide_eq_true h5
    have HP := hide hP
    clear hP hnb E1
    go_wp2_with fail
    go_quiet (fail)
    all_goals
     go_wp2
     go_ret
     rw [E9.out]
     exact ⟨rfl, HS.out _ (HC4.out.drewN _)⟩
   ·have g5 : decide ((16777216 : Int) < (n : Int)) = false := decide_eq_false h5
    have hwr : IntKind.i64.wrap ((st.used : Int) + (n : Int)) = (st.used : Int) + (n : Int) := by rw [IntKind.wrap_i64]; have := HRM.out; have := HR.out.ok.room; omega
    have hc0 : ∀ V, Chg w V (fun _ => False) → V.cell? ⟨g, 0, none⟩ = some (.int .i64 (st.room : Nat)) := fun V hV => by
     obtain ⟨vl, va, kp, tr, hh, _⟩ := (HR.out.at hV).is_.parts
     exact hh.c0
    have HC0 := hide hc0
    have hus : ∀ V, Chg w V (fun _ => False) → Calls Tryz.prog 70 #[.pointer (some ⟨g, 0, none⟩)] V fun e w' => e = .returned (.int .i64 (st.used : Nat)) ∧ Chg w w' (fun _ => False) := fun V hV => by
     have := rused_any (HR.out.at hV).is_ HR.out.ok
     rw [HD.out] at this
     exact this.mono fun e w' hp => ⟨hp.1, hV.trans hp.2 fun _ h => .inl h⟩
    have HUS := hide hus
    have k0 := hc0 _ HC4.out
    have k0d : w4.drew.cell? ⟨g, 0, none⟩ = some (.int .i64 (st.room : Nat)) := hc0 _ (HC4.out.drewN 1)
    clear hc0 hus hnb
    by_cases h7 : st.room < st.used + b.length
    ·have g7 : (st.room : Int) < (st.used : Int) + (n : Int) := by have := HNB.out; omega
     have E9 := hide (E1.out.trans (if_pos h7))
     clear h7 E1
     go_wp2_with fail
     refine wp_region_held_drew (S := fun V => V.cell? ⟨g, 0, none⟩ = some (.int .i64 (st.room : Nat))) (by kernel_rfl) ?_ (fun hHeld => ?_)
     ·exact k0d
     refine tkL 0 rfl ?_
     refine tkL 1 rfl ?_
     refine tkI (i := 2) (v := (.bool false)) (tkD rfl) (by rfl) ?_ ?_
     ·intro w hSw
      (try dsimp only at hSw)
      go_simp
      try with_reducible rfl
     try simp only [Act.put, qA, qB, qC]
     refine tkL 3 rfl ?_
     refine tkL 4 rfl ?_
     refine tkL 6 rfl ?_
     refine tkL 7 rfl ?_
     refine tkL 9 rfl ?_
     refine tkL 10 rfl ?_
     refine tkL 11 rfl ?_
     refine tkL 12 rfl ?_
     refine wpAnyH_ready (rs := [5]) (by kernel_rfl) (by simp) ?_
     refine acL rfl (fun K hK => ?_) AllReadyH.nil
     go_simp
     go_at_call 70
     refine (HUS.out _ (HC4.out.drewN 1)).mono ?_
     rintro e w5 ⟨rfl, hc5⟩
     first
      | refine hK.out _ _ ?_ (fun hHeld => ?_)
      | (go_wp2_with fail; refine hK.out _ _ ?_ (fun hHeld => ?_))
     ·exact (HC0.out _ hc5)
     clear hK K
     try simp only [Act.put, qA, qB, qC]
     refine tkL 8 rfl ?_
     refine tkI (i := 13) (v := (.bool true)) (tkD rfl) (by rfl) ?_ ?_
     ·intro w hSw
      (try dsimp only at hSw)
      go_simp
      try with_reducible rfl
     try simp only [Act.put, qA, qB, qC]
     refine tkL 14 rfl ?_
     refine wpAnyH_done (by kernel_rfl) ?_ _
     have HC5 := hide hc5
     clear hc5
     focus
      go_wp2
      go_ret
      rw [E9.out]
      exact ⟨rfl, HS.out _ HC5.out⟩
    ·have g7 : ((st.room : Int) < (st.used : Int) + (n : Int)) = False := eq_false (by have := HNB.out; omega)
     have E9 := hide (E1.out.trans (if_neg h7))
     have HADD := hide (HOKP.out h7)
     clear h7 E1
     go_wp2_with fail
     refine wp_region_held_drew (S := fun V => V.cell? ⟨g, 0, none⟩ = some (.int .i64 (st.room : Nat))) (by kernel_rfl) ?_ (fun hHeld => ?_)
     ·exact k0d
     refine tkL 0 rfl ?_
     refine tkL 1 rfl ?_
     refine tkI (i := 2) (v := (.bool false)) (tkD rfl) (by rfl) ?_ ?_
     ·intro w hSw
      (try dsimp only at hSw)
      go_simp
      try with_reducible rfl
     try simp only [Act.put, qA, qB, qC]
     refine tkL 3 rfl ?_
     refine tkL 4 rfl ?_
     refine tkL 6 rfl ?_
     refine tkL 7 rfl ?_
     refine tkL 9 rfl ?_
     refine tkL 10 rfl ?_
     refine tkL 11 rfl ?_
     refine tkL 12 rfl ?_
     refine wpAnyH_ready (rs := [5]) (by kernel_rfl) (by simp) ?_
     refine acL rfl (fun K hK => ?_) AllReadyH.nil
     go_simp
     go_at_call 70
     refine (HUS.out _ (HC4.out.drewN 1)).mono ?_
     rintro e w5 ⟨rfl, hc5⟩
     first
      | refine hK.out _ _ ?_ (fun hHeld => ?_)
      | (go_wp2_with fail; refine hK.out _ _ ?_ (fun hHeld => ?_))
     ·exact (HC0.out _ hc5)
     clear hK K
     try simp only [Act.put, qA, qB, qC]
     refine tkL 8 rfl ?_
     refine tkI (i := 13) (v := (.bool false)) (tkD rfl) (by rfl) ?_ ?_
     ·intro w hSw
      (try dsimp only at hSw)
      go_simp
      try with_reducible rfl
     try simp only [Act.put, qA, qB, qC]
     refine tkL 14 rfl ?_
     refine wpAnyH_done (by kernel_rfl) ?_ _
     have HC5 := hide hc5
     clear hc5
     focus
      have HB5 := hide (HB.out.chg HC5.out (.inr fun _ _ h => h))
      have HZ5 := hide (show ∀ i, (Z i ∨ R i) → i < w5.heap.size from fun i hi => Nat.lt_of_lt_of_le (HR.out.zr i hi) HC5.out.size)
      go_wp2_with (at_builtin; go_must (refine wpList_append_row_by rfl _ _ rfl rfl rfl rfl (row_made0 w5) (HB5.out.alloc _) (by simp; have := HNB.out; omega) (by simp) ?_); intro v6 w6 ho6 hb6; obtain ⟨p6, n6, c6, rfl⟩ := (by_row ho6).sl; rw [List.nil_append] at ho6; have H6 := hide (And.intro ho6 hb6); clear ho6 hb6)
      have hc6 : Chg w w6 (fun _ => False) := (HC5.out.trans (chgA w5 (.cells #[] 5)) fun _ h => .inl h).bel (H6.out.2.mono HC5.out.size)
      have HAD := hide (HADD.out w6 hc6 ⟨0, s, ⟨#[]⟩, at_, p6, n6, c6⟩ ⟨rfl, rfl, rfl, by dsimp only; omega, Nat.zero_le 1000, HAT.out, by_row H6.out.1, .inr fun k hk hz => by have h1 := (H6.out.1.lt k hk).1; have h2 := HZ5.out k hz; omega⟩)
      unfold acV at HAD
      dsimp only at HAD
      clear hc6
      go_wp2_with fail
      refine HAD.out.mono ?_
      rintro e w7 ⟨rfl, hp⟩
      have HP := hide hp
      clear hp
      go_wp2
      go_ret
      rw [E9.out]
      exact ⟨rfl, HP.out⟩
theorem rsync_any {w : World} {Z R : Nat → Prop} {g : Nat} {st : Dk} (h : Rq w Z R g st) :
  Calls Tryz.prog 52 #[.pointer (some ⟨g, 0, none⟩)] w fun e w' => e = .returned (.int .i64 ((st.sync).1 : Nat)) ∧ RPost w Z R g (st.sync).2 w' := by
 have h9 := h
 obtain ⟨vl, va, kp, tr, hh, hkt, hl, ha⟩ := h.is_.parts
 have c3 := hh.c3
 rcases hd : st.down with _ | _
 ·rw [hd] at c3
  have HHIT := hide (rhit_any hh h.ok.fuse)
  have hRg := h.is_.in_
  have hst : ∀ W3, Chg w W3 (fun i => i = g) → Rh W3 g { st with fn := st.fn - 1 } vl va kp tr → Rq W3 Z R g { st with fn := st.fn - 1 } ∧ Chg w W3 R := fun W3 hc3 hr3 => by
   have hcR : Chg w W3 R := hc3.mono fun i hi => hi ▸ hRg
   refine ⟨⟨⟨hRg, fun i hi => Nat.lt_of_lt_of_le (h9.is_.rap i hi) hc3.size, fun i hi => Nat.lt_of_lt_of_le (h9.is_.zap i hi) hc3.size, h9.is_.sep, vl, va, kp, tr, hr3, ?_, hl.chg hc3 fun i hi => .inr (hi ▸ hRg), ha.chg hc3 (fun i hi => .inr (hi ▸ hRg)) fun i hi => hi.2⟩, ⟨h9.ok.rises, h9.ok.fits, h9.ok.few, h9.ok.room, h9.ok.most, h9.ok.idle, h9.ok.many, by show ((st.fn - 1 : Nat) : Int) ≤ _; have := h9.ok.fuse; omega⟩, ⟨h9.cl.k1, h9.cl.k2, h9.cl.t1, h9.cl.t2, h9.cl.few⟩⟩, hcR⟩
   rcases hkt with h | h
   ·exact .inl (by show st.fn - 1 = 0; omega)
   ·exact .inr h
  have HST := hide hst
  have HKT := hide hkt
  have HQ := hide h9
  clear hst hkt hl ha h h9 hh hRg
  go_enter Tryz.func52, Tryz.ntmps52
  go_wp2_with fail
  refine HHIT.out.mono ?_
  rintro r w3 ⟨rfl, hr3, hc3⟩
  obtain ⟨hQ3, hc03⟩ := HST.out _ hc3 hr3
  by_cases hfn : st.fn = 1
  ·rw [show (st.fn == 1) = true from beq_iff_eq.2 hfn]
   have hkp : kp = st.keep ∧ tr = st.tear := by
    rcases HKT.out with h | h
    ·omega
    ·exact h
   obtain ⟨hkp1, hkp2⟩ := hkp
   have z5 := hr3.c5
   have z6 := hr3.c6
   rw [hkp1] at z5
   rw [hkp2] at z6
   have hcd : Chg w w3.drew R := hc03.drewN 1
   have hQd : Rq w3.drew Z R g { st with fn := st.fn - 1 } := hQ3.at ((Chg.refl w3 _).drewN 1)
   have e0 : Dk.fall { st with fn := st.fn - 1 } st.keep st.tear = st.fall st.keep st.tear := rfl
   have HFD := hide (show Calls Tryz.prog 55 #[.pointer (some ⟨g, 0, none⟩), .int .i64 st.keep, .int .i64 st.tear] w3.drew fun e w' => e = .returned (.tuple #[]) ∧ RPost w Z R g (st.fall st.keep st.tear) w' from
    (rfall_any hQd.is_ hQd.ok HQ.out.cl.k1 HQ.out.cl.k2 HQ.out.cl.t1 HQ.out.cl.t2).mono fun e w' hp => ⟨hp.1, hp.2.after hcd fun i hi => .inl hi⟩)
   have e1 : st.sync = (22, st.fall st.keep st.tear) := by unfold Dk.sync; rw [hd, if_neg (by decide), if_pos hfn]
   have E1 := hide e1
   clear hQ3 hQd hcd hc03 hr3 hc3 e1 hkp1 hkp2 hfn HHIT e0 c3
   go_wp2_with fail
   go_region_law (go_simp; refine HFD.out.mono ?_; rintro r w4 ⟨rfl, hp4⟩; have HP4 := hide hp4; clear hp4)
   all_goals
    go_wp2
    go_ret
    rw [E1.out]
    exact ⟨rfl, HP4.out⟩
  ·rw [show (st.fn == 1) = false from beq_eq_false_iff_ne.2 hfn]
   have e1 : st.sync = (0, st.clean (st.fn - 1)) := by unfold Dk.sync Dk.clean; rw [hd, if_neg (by decide), if_neg hfn]
   have E1 := hide e1
   have HF3 := hide (rfiles_any hQ3.is_ hQ3.ok)
   have HQ3 := hide hQ3
   have HC03 := hide hc03
   have HR3 := hide hr3
   clear hQ3 hc03 hr3 hc3 e1 hfn HHIT c3
   go_wp2_with fail
   refine HF3.out.mono ?_
   rintro r w4 ⟨p4, n4, c4, rfl, hf4, hc4⟩
   have hr4 := HR3.out.chg hc4 fun h => h
   have y1 := hr4.c1
   have y2 := hr4.c2
   have yf1 := hr4.fr 1
   have yf2 := hr4.fr 2
   have hHP : RPost w Z R g (st.clean (st.fn - 1)) ((w4.setCell ⟨g, 1, none⟩ (.slice p4 n4 c4)).setCell ⟨g, 2, none⟩ (.slice none 0 0)) := by
    have hRg := HQ3.out.is_.in_
    have s1 := hr4.set 1 (.slice p4 n4 c4)
    have s2 := heap_setCell_same _ g 2 _ 53 (.slice none 0 0) s1
    have hcs : Chg w4 ((w4.setCell ⟨g, 1, none⟩ (.slice p4 n4 c4)).setCell ⟨g, 2, none⟩ (.slice none 0 0)) (fun i => i = g) := (rchg_set _ _ _ _).trans (rchg_set _ _ _ _) fun _ h => .inl h
    have hcR : Chg w ((w4.setCell ⟨g, 1, none⟩ (.slice p4 n4 c4)).setCell ⟨g, 2, none⟩ (.slice none 0 0)) R := (HC03.out.trans hc4 fun _ h => h.elim).trans hcs fun i hi => .inl (hi ▸ hRg)
    refine ⟨R, ⟨hRg, fun i hi => Nat.lt_of_lt_of_le (HQ.out.is_.rap i hi) hcR.size, fun i hi => Nat.lt_of_lt_of_le (HQ.out.is_.zap i hi) hcR.size, HQ.out.is_.sep, .slice p4 n4 c4, .slice none 0 0, kp, tr, ?_, ?_, hf4.chg hcs fun i hi => .inr (hi ▸ hRg), ActR.nil _ _ _⟩, hcR, fun i hi => .inl hi⟩
    ·unfold Rh
     rw [s2]
     unfold rdC Dk.clean
     simp only [List.setIfInBounds_toArray, List.set_cons_succ, List.set_cons_zero]
    ·rcases HKT.out with h | h
     ·exact .inl (by show st.fn - 1 = 0; omega)
     ·exact .inr h
   have HP4 := hide hHP
   clear hf4 hc4 hr4 hHP
   go_wp2
   go_ret
   rw [E1.out]
   exact ⟨rfl, HP4.out⟩
 ·rw [hd] at c3
  have e1 : st.sync = (22, st) := by unfold Dk.sync; rw [hd]; rfl
  rw [e1]
  have HP := hide (RPost.same h.is_ (Chg.refl w _))
  clear h h9 hh hkt hl ha e1
  go_enter Tryz.func52, Tryz.ntmps52
  go_wp2
  go_ret
  exact ⟨rfl, HP.out⟩
theorem row_sl' {w : World} {B n : Nat} {e : TypeId} {v : Value} {xs : List Value} (h : w.ownsRow B e 1 v n xs) : ∃ p m c, v = .slice p m c := by
 rcases h.2 with ⟨rfl, _⟩ | ⟨g, cap, cur, rfl, _⟩
 ·exact ⟨_, _, _, rfl⟩
 ·exact ⟨_, _, _, rfl⟩
theorem row_base {w : World} {B B' n : Nat} {e : TypeId} {v : Value} {xs : List Value} (h : w.ownsRow B e 1 v n xs) (hB : B' ≤ B) : w.ownsRow B' e 1 v n xs := ⟨h.1, h.2.imp id fun ⟨g, cap, cur, e, hb, r⟩ => ⟨g, cap, cur, e, Nat.le_trans hB hb, r⟩⟩
theorem readE_why (st : Dk) (k : List UInt8) : st.readE k = st.why k := by rw [Dk.why_rdy]; rfl
theorem readB_why (st : Dk) (k : List UInt8) : st.readB k = if st.why k = 0 then (get st.seen k).getD [] else [] := by
 unfold Dk.readB
 rcases Dk.why_cases st k with h | h | h | h
 ·rw [if_pos (by rw [(rdy_why2 (.inl h)).1]; omega), if_neg (by omega)]
 ·rw [if_pos (by rw [(rdy_why2 (.inr h)).1]; omega), if_neg (by omega)]
 ·obtain ⟨a, b, c⟩ := Dk.why_21 h
  rw [if_neg (by rw [rdy_why ⟨a, b⟩]; simp), if_neg (by omega), c]
  rfl
 ·obtain ⟨a, b, c⟩ := Dk.why_zero h
  rw [if_neg (by rw [rdy_why ⟨a, b⟩]; simp), if_pos h]
def RReadPost (w : World) (st : Dk) (k : List UInt8) (e : Ending) (w' : World) : Prop := ∃ p n c, e = .returned (.tuple #[.slice p n c, .int .i64 (st.readE k : Nat)]) ∧ By w' (.slice p n c) (st.readB k) ∧ Chg w w' (fun _ => False)
theorem rread_any {w : World} {Z R : Nat → Prop} {g : Nat} {st : Dk} (h : Rq w Z R g st) {s : ByteArray} (hs : s.size ≤ maxLen) :
  Calls Tryz.prog 47 #[.pointer (some ⟨g, 0, none⟩), .string s] w (RReadPost w st s.data.toList) := by
 have HW := hide (rwhy_any h.is_ h.ok s hs)
 have HG := hide (h.got s)
 by_cases h0 : st.why s.data.toList = 0
 ·have e1 : ∀ p n c W, By W (.slice p n c) ((get st.seen s.data.toList).getD []) → Chg w W (fun _ => False) → RReadPost w st s.data.toList (.returned (.tuple #[.slice p n c, .int .i64 0])) W := fun p n c W hb hc => ⟨p, n, c, by rw [readE_why, h0]; rfl, by rw [readB_why, if_pos h0]; exact hb, hc⟩
  have E1 := hide e1
  rw [h0] at HW
  clear h h0 e1 hs
  go_enter Tryz.func47, Tryz.ntmps47
  go_wp2_with fail
  refine HW.out.mono ?_
  rintro e w2 ⟨rfl, hc2⟩
  have HC2 := hide hc2
  clear hc2
  rw [show ((0 : Nat) : Int) = 0 from rfl]
  go_wp2_with fail
  refine (HG.out _ HC2.out).mono ?_
  rintro e w3 ⟨p3, n3, c3, rfl, hn3, hc3, hg3⟩
  have HG3 := hide (hg3 w3 (Chg.refl _ _))
  clear hc3 hg3 hn3
  go_wp2_with fail
  refine HG3.out.mono ?_
  rintro e w4 ⟨q, m, d, rfl, hb, hc4⟩
  have HP := hide (E1.out _ _ _ _ hb hc4)
  clear hb hc4
  go_wp2
  go_ret2
  exact HP.out
 ·have e1 : ∀ W, Chg w W (fun _ => False) → RReadPost w st s.data.toList (.returned (.tuple #[.slice none 0 0, .int .i64 (st.why s.data.toList : Nat)])) W := fun W hc => ⟨none, 0, 0, by rw [readE_why], by rw [readB_why, if_neg h0]; exact By.nil _, hc⟩
  have E1 := hide e1
  obtain ⟨y, hy⟩ : ∃ y, st.why s.data.toList = y := ⟨_, rfl⟩
  rw [hy] at HW h0 E1
  have q : ((y : Int) != 0) = true := by simp; omega
  clear h h0 hy e1 hs HG
  go_enter Tryz.func47, Tryz.ntmps47
  go_wp2_with fail
  refine HW.out.mono ?_
  rintro e w2 ⟨rfl, hc2⟩
  have HP := hide (E1.out _ hc2)
  clear hc2
  go_wp2
  go_ret2
  exact HP.out
theorem Tryz.info9' : (Tryz.prog.info? 9).map (fun i => (i.zero, i.size, i.bytes)) = some (some (.string ⟨#[]⟩), 1, 16) := by kernel_rfl
theorem rlist_any {w : World} {Z R : Nat → Prop} {g : Nat} {st : Dk} (h : Rq w Z R g st) :
  Calls Tryz.prog 46 #[.pointer (some ⟨g, 0, none⟩)] w fun e w' => ∃ v, e = .returned v ∧ w'.ownsRow w.heap.size 9 1 v st.names.length (st.names.map encStr) ∧ Chg w w' (fun _ => False) := by
 obtain ⟨i0, hi, hz0, hz1, hz2⟩ := info_parts Tryz.info9'
 obtain ⟨vl, va, kp, tr, hh, hkt, hl, ha⟩ := h.is_.parts
 have c3 := hh.c3
 have HF := hide (rfiles_any h.is_ h.ok)
 have HFW := hide (seen_few h.ok)
 clear hh hkt hl ha h
 rcases hd : st.down with _ | _
 ·have e1 : st.names = st.seen.map (·.1) := by unfold Dk.names; rw [hd]; rfl
  rw [e1, List.length_map]
  rw [hd] at c3
  clear e1
  go_enter Tryz.func46, Tryz.ntmps46
  go_wp2_with fail
  refine HF.out.mono ?_
  rintro e w2 ⟨p2, n2, c2, rfl, hf2, hc2⟩
  have hn2 := hf2.len.1
  have hnm : (n2 : Int) ≤ 4096 := by have := HFW.out; omega
  have HN := hide hn2
  have HF2 := hide hf2
  have HC2 := hide hc2
  clear hf2 hc2 hn2
  go_wp2_with fail
  go_loopw [3, 5, 14] (fun u _ i wr => ∃ (j : Nat) (q : Option Addr) (m d : Nat), u = .slice q m d ∧ j ≤ n2 ∧ i = .int .i64 j ∧ Hid (Chg w wr (fun _ => False) ∧ Below w2.heap.size w2 wr ∧ wr.ownsRow w2.heap.size 9 1 (.slice q m d) j ((st.seen.take j).map fun x => encStr x.1))) (fun _ _ i _ => n2 - (intOf i).toNat)
  case atStart => exact ⟨0, none, 0, 0, rfl, Nat.zero_le _, rfl, hide ⟨HC2.out, Below.refl _ _, World.ownsRow_nil _ _ _ _⟩⟩
  case round =>
   obtain ⟨j, q, m, d, rfl, hj, rfl, hrel⟩ := hrel
   have HC := hide hrel.out.1
   have HB := hide hrel.out.2.1
   have HO := hide hrel.out.2.2
   clear hrel
   by_cases hjn : (j : Int) < (n2 : Int)
   ·obtain ⟨x, hx⟩ : ∃ x, st.seen[j]? = some x := ⟨_, List.getElem?_eq_getElem (by have := HN.out; omega)⟩
    obtain ⟨gl, o, e, rfl, hat, hfe, hz⟩ := (HF2.out.chg (Chg.of_below HB.out (fun _ => False)) fun _ h => h.elim).at_ hx
    obtain ⟨es, ep, en, ec⟩ := e
    obtain ⟨oo, hoo⟩ : ∃ oo, o + j * 2 = oo := ⟨_, rfl⟩
    rw [hoo] at hat
    have e0 := hat.c0
    have e1 := hat.c1
    have hgl := hat.lt
    dsimp only at e0 e1
    have hes : Value.string es = encStr x.1 := by
     rw [← hfe.nm]
    have HES := hide hes
    have htk : (st.seen.take (j + 1)).map (fun x => encStr x.1) = (st.seen.take j).map (fun x => encStr x.1) ++ [Value.string es] := by
     rw [List.take_add_one, hx, List.map_append, hes]
     try rfl
    have HTK := hide htk
    have hsz : w2.heap.size ≤ wr.heap.size := HB.out.size
    have HA := hide (And.intro (HC.out.trans (chgA wr (.cells #[.string es, .slice ep en ec] 137)) fun _ h => .inl h) (And.intro (HB.out.alloc hsz (.cells #[.string es, .slice ep en ec] 137)) (HO.out.alloc (.cells #[.string es, .slice ep en ec] 137))))
    have hjl : j ≤ 4096 := by omega
    have hsz2 : w.heap.size ≤ w2.heap.size := HC2.out.size
    clear hat hfe hz hx htk hes
    go_wp2_with (at_builtin; go_must (refine wpList_append_own _ rfl _ _ 103 rfl w2.heap.size 9 i0 (.string ⟨#[]⟩) 1 16 Tryz.underlying103 hi hz0 hz1 hz2 rfl (by decide) _ _ _ rfl (HA.out.2.2.alloc _) ⟨wr.heap.size + 1, 0, none⟩ 1 1 [.string es] rfl rfl (by have h := cell_one_new (wr.alloc (.cells #[.string es, .slice ep en ec] 137)) (.string es) 9; rw [size_alloc'] at h; exact h) (by simp [Value.oneCell']) (by unfold maxLen; omega) (by omega) (by simp; omega) ?_); intro v5 w5 ho5 hg5 hn5; have hb5 : Below w2.heap.size w2 w5 := (HA.out.2.1.alloc HA.out.2.1.size _).grown hg5 (by simp; omega) (fun k hk => (HO.out.lt k hk).1); have hO5 := hide ho5; have HB5 := hide hb5; clear ho5 hg5 hn5 hb5; obtain ⟨q5, m5, d5, rfl⟩ := row_sl' hO5.out)
    go_roundw
    case rel => exact ⟨j + 1, q5, m5, d5, rfl, by omega, by go_num, hide ⟨HC2.out.bel (HB5.out.mono hsz2), HB5.out, by rw [HTK.out]; exact hO5.out⟩⟩
    case measure => simp [intOf]; omega
   ·have hj2 : j = st.seen.length := by have := HN.out; omega
    have hfin : wr.ownsRow w.heap.size 9 1 (.slice q m d) st.seen.length (st.seen.map (encStr ∘ fun x => x.1)) := by
     have h1 := HO.out
     rw [List.take_of_length_le (by omega), hj2] at h1
     exact row_base h1 HC2.out.size
    have HFIN := hide hfin
    clear hfin hj2
    go_wp2
    go_ret
    exact ⟨_, rfl, HFIN.out, HC.out⟩
 ·have e1 : st.names = [] := by unfold Dk.names; rw [hd]; rfl
  rw [e1]
  rw [hd] at c3
  go_enter Tryz.func46, Tryz.ntmps46
  go_wp2
  go_ret
  exact ⟨_, rfl, World.ownsRow_nil _ _ _ _, Chg.refl _ _⟩
end Go.Proofs.YtgbdjcekpdfpjaaGreatDoor
