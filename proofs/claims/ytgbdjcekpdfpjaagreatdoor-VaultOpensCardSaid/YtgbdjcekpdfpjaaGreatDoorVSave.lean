import Derived.Test.YtgbdjcekpdfpjaaGreatDoorVe
set_option linter.unusedVariables false
set_option linter.unusedSimpArgs false
namespace Go.Proofs.YtgbdjcekpdfpjaaGreatDoor
open Go.RowKit
def SvP (w : World) (S C : Nat → Prop) (b g : Nat) (x : Nat × Sn × Dk) (e : Ending) (w' : World) : Prop :=
 e = .returned (.int .i64 (x.1 : Nat)) ∧ ∃ S' C', Va w' S' C' b g x.2.1 x.2.2 ∧ Chg w w' (fun k => S k ∨ k = b) ∧ (∀ i, S' i → S i ∨ w.heap.size ≤ i) ∧ (∀ i, C' i → C i ∨ w.heap.size ≤ i) ∧
  ∃ vo da, Vt w' b vo da x.2.1 g ∧ ((∃ vo0 da0, Vt w b vo0 da0 x.2.1 g ∧ vo = vo0 ∧ da = da0) ∨ (Lies (fun k => w.heap.size ≤ k) vo x.2.1.vo ∧ Lies (fun k => w.heap.size ≤ k) da x.2.1.da))
theorem set5 {W : World} {g : Nat} {t : TypeId} {a b c d e : Value} (x0 x1 x2 x3 x4 : Value) (h : W.heap[g]? = some (.cells #[a, b, c, d, e] t (0, 0))) :
  (((((W.setCell ⟨g, 0, none⟩ x0).setCell ⟨g, 1, none⟩ x1).setCell ⟨g, 2, none⟩ x2).setCell ⟨g, 3, none⟩ x3).setCell ⟨g, 4, none⟩ x4).heap[g]? = some (.cells #[x0, x1, x2, x3, x4] t (0, 0)) ∧
  Chg W (((((W.setCell ⟨g, 0, none⟩ x0).setCell ⟨g, 1, none⟩ x1).setCell ⟨g, 2, none⟩ x2).setCell ⟨g, 3, none⟩ x3).setCell ⟨g, 4, none⟩ x4) (fun k => k = g) := by
 have hs : ∀ (X : World) (i : Nat) (x : Value), Chg X (X.setCell ⟨g, i, none⟩ x) (fun k => k = g) := fun X i x => Chg.of_grown (grown_set _ _ _ _) _ fun k hk => .inl (by injection hk with hk; exact hk.symm)
 obtain ⟨h1, h2⟩ := setSt x0 x1 x2 x3 h
 have h3 := heap_setCell_same _ g 4 _ t x4 h1
 simp only [List.setIfInBounds_toArray, List.set_cons_succ, List.set_cons_zero] at h3
 exact ⟨h3, h2.then (hs _ _ _) fun k h => .inl h⟩
theorem own_lies {B : Nat} {w : World} {v : Value} {l : List UInt8} {P : Nat → Prop} (h : Own B w v l) (hp : ∀ k, B ≤ k ∧ k < w.heap.size → P k) : Lies P v l := by
 by_cases hl : l = []
 ·exact .inl hl
 ·exact .inr fun k hk => hp k (h.lt (List.length_pos_iff.2 hl) k hk)
theorem SvP.same {w w' : World} {S C : Nat → Prop} {b g m : Nat} {s : Sn} {st : Dk} (h : Va w S C b g s st) (hc : Chg w w' (fun _ => False)) : SvP w S C b g (m, s, st) (.returned (.int .i64 (m : Nat))) w' := by
 obtain ⟨vo, da, hv, hl1, hl2⟩ := h.vt
 have hl : ∀ k, (¬ S k ∧ k ≠ b ∧ k < w.heap.size) → ¬ False := fun _ _ h => h
 exact ⟨rfl, S, C, h.chg hc, hc.mono' (fun _ h => h.elim), fun i h => .inl h, fun i h => .inl h, vo, da, ⟨(hc.block b hv.lt (fun h => h)).trans hv.row, hv.ns.chg hc (hl1.mono hl), hv.by_.chg hc (hl2.mono hl), hv.f0, hv.f1⟩, .inl ⟨vo, da, hv, rfl, rfl⟩⟩
theorem SvP.stay {w w9 w4 : World} {S C : Nat → Prop} {b g m : Nat} {s : Sn} {st y : Dk} (h : Va w S C b g s st) (hc0 : Chg w w9 (fun _ => False)) (hp : DPost w9 S C g y w4) : SvP w S C b g (m, s, y) (.returned (.int .i64 (m : Nat))) w4 := by
 obtain ⟨vo, da, hv, hl1, hl2⟩ := h.vt
 obtain ⟨S', C', hd, hc, hS', hC'⟩ := hp
 have hbl := hv.lt
 have hsz := hc0.size
 have hcw : Chg w w4 S := (hc0.mono' (fun _ h => h.elim)).then hc (fun k h => .inl h)
 have hl : ∀ k, (¬ S k ∧ k ≠ b ∧ k < w.heap.size) → ¬ S k := fun _ h => h.1
 have hl' : ∀ k, (¬ S k ∧ k ≠ b ∧ k < w.heap.size) → ¬ S' k ∧ k ≠ b ∧ k < w4.heap.size := fun k h => ⟨fun h' => by
  rcases hS' k h' with h1 | h1
  ·exact h.1 h1
  ·omega, h.2.1, by have := hcw.size; omega⟩
 have hvt : Vt w4 b vo da s g := ⟨(hcw.block b hbl h.nb.1).trans hv.row, hv.ns.chg hcw (hl1.mono hl), hv.by_.chg hcw (hl2.mono hl), hv.f0, hv.f1⟩
 refine ⟨rfl, S', C', ⟨hd, ⟨fun h' => ?_, fun h' => ?_⟩, vo, da, hvt, hl1.mono hl', hl2.mono hl'⟩, hcw.mono' (fun _ h => .inl h), fun i hi => (hS' i hi).imp id fun h => by omega, fun i hi => (hC' i hi).imp id fun h => by omega, vo, da, hvt, .inl ⟨vo, da, hv, rfl, rfl⟩⟩
 ·rcases hS' b h' with h1 | h1
  ·exact h.nb.1 h1
  ·omega
 ·rcases hC' b h' with h1 | h1
  ·exact h.nb.2 h1
  ·omega
theorem SvP.next {w w9 w4 F : World} {S C : Nat → Prop} {b g : Nat} {s k : Sn} {st y : Dk} {v3 v4 : Value} (h : Va w S C b g s st) (hc0 : Chg w w9 (fun _ => False)) (hp : DPost w9 S C g y w4) (hcF : Chg w4 F (fun j => j = b)) (hv : Vt F b v3 v4 k g)
  (l3 : Lies (fun j => w.heap.size ≤ j ∧ j < w9.heap.size) v3 k.vo) (l4 : Lies (fun j => w.heap.size ≤ j ∧ j < w9.heap.size) v4 k.da) :
  ∃ S' C', DiskIs F S' C' g y ∧ ¬ S' b ∧ (∀ y2 F2 m, DPost F S' C' g y2 F2 → SvP w S C b g (m, k, y2) (.returned (.int .i64 (m : Nat))) F2) ∧ (∀ i, S' i → S i ∨ w9.heap.size ≤ i) := by
 obtain ⟨vo, da, hv0, hl1, hl2⟩ := h.vt
 obtain ⟨S', C', hd, hc, hS', hC'⟩ := hp
 have hbl := hv0.lt
 have hsz := hc0.size
 have hsap := h.di.sap
 have nb1 : ¬ S' b := fun h' => by
  rcases hS' b h' with h1 | h1
  ·exact h.nb.1 h1
  ·omega
 have nb2 : ¬ C' b := fun h' => by
  rcases hC' b h' with h1 | h1
  ·exact h.nb.2 h1
  ·omega
 have hcw : Chg w F (fun j => S j ∨ j = b) := ((hc0.mono' (fun _ h => h.elim)).then (hc.mono' fun _ h => .inl h) (fun k h => .inl h)).then (hcF.mono' fun _ h => .inr h) (fun k h => .inl h)
 refine ⟨S', C', hd.chg hcF (fun i hi e => nb1 (e ▸ hi)) (fun i hi e => nb2 (e ▸ hi)), nb1, fun y2 F2 m hp2 => ?_, hS'⟩
 obtain ⟨S2, C2, hd2, hc2, hS2, hC2⟩ := hp2
 have hF9 : w9.heap.size ≤ F.heap.size := Nat.le_trans hc.size hcF.size
 have hno : ∀ j, w.heap.size ≤ j ∧ j < w9.heap.size → ¬ S' j := fun j hj h' => by
  rcases hS' j h' with h1 | h1
  ·have := hsap j h1; omega
  ·omega
 have hno2 : ∀ j, w.heap.size ≤ j ∧ j < w9.heap.size → ¬ S2 j ∧ j ≠ b ∧ j < F2.heap.size := fun j hj => ⟨fun h' => by
  rcases hS2 j h' with h1 | h1
  ·exact hno j hj h1
  ·omega, by omega, by have := hc2.size; omega⟩
 have hvt : Vt F2 b v3 v4 k g := ⟨(hc2.block b hv.lt nb1).trans hv.row, hv.ns.chg hc2 (l3.mono hno), hv.by_.chg hc2 (l4.mono hno), hv.f0, hv.f1⟩
 have hS2' : ∀ i, S2 i → S i ∨ w.heap.size ≤ i := fun i hi => by
  rcases hS2 i hi with h1 | h1
  ·exact (hS' i h1).imp id fun h => by omega
  ·exact .inr (by omega)
 have hC2' : ∀ i, C2 i → C i ∨ w.heap.size ≤ i := fun i hi => by
  rcases hC2 i hi with h1 | h1
  ·exact (hC' i h1).imp id fun h => by omega
  ·exact .inr (by omega)
 refine ⟨rfl, S2, C2, ⟨hd2, ⟨fun h' => ?_, fun h' => ?_⟩, v3, v4, hvt, l3.mono hno2, l4.mono hno2⟩, hcw.then hc2 (fun i hi => by
  rcases hS' i hi with h1 | h1
  ·exact .inl (.inl h1)
  ·exact .inr (by omega)), hS2', hC2', v3, v4, hvt, .inr ⟨l3.mono fun j hj => hj.1, l4.mono fun j hj => hj.1⟩⟩
 ·rcases hS2 b h' with h1 | h1
  ·exact nb1 h1
  ·omega
 ·rcases hC2 b h' with h1 | h1
  ·exact nb2 h1
  ·omega
set_option maxRecDepth 100000 in
set_option maxHeartbeats 4000000 in
theorem vsave_any {w : World} {S C : Nat → Prop} {b g : Nat} {s k : Sn} {st : Dk} {kv : Value} (h : Va w S C b g s st) (hk : SnV w kv k) (ht : Tab w) (htS : ¬ S tabG) (htb : tabG ≠ b) (hsx : 0 ≤ s.ix ∧ s.ix ≤ 1099511627776) {n U : Nat} (hf : st.Fine n U) (hn : n + k.recs.length ≤ 800000) (hvs : k.vo.length ≤ 1000) (hds : k.da.length ≤ 300000) (hrn : k.recs.length ≤ 90000) (hfl : k.file.length ≤ 1000000) :
  Calls Tryz.prog 22 #[.pointer (some ⟨b, 0, none⟩), kv] w (SvP w S C b g (saveL s st k)) := by
 obtain ⟨kvo, kda, rfl, hkn, hkb, hk0, hk1⟩ := hk
 obtain ⟨pv, nv, cv, rfl⟩ := hkn.sl
 obtain ⟨pd, nd, cd, rfl⟩ := hkb.sl
 obtain ⟨vo, da, hv, hl1, hl2⟩ := h.vt
 obtain ⟨po, no, co, rfl⟩ := hv.ns.sl
 obtain ⟨pe, ne, ce, rfl⟩ := hv.by_.sl
 obtain ⟨W1, hW1⟩ : ∃ W1, w.alloc (.cells #[.int .i64 k.ix, .int .i64 k.tm, .slice pv nv cv, .slice pd nd cd] 42) = W1 := ⟨_, rfl⟩
 have hb1 : Below w.heap.size w W1 := by rw [← hW1]; exact balloc (Below.refl _ _) _
 have hr1 : W1.heap[w.heap.size]? = some (.cells #[.int .i64 k.ix, .int .i64 k.tm, .slice pv nv cv, .slice pd nd cd] 42 (0, 0)) := by rw [← hW1]; exact Array.getElem?_push_size
 have hs1 : W1.heap.size = w.heap.size + 1 := by rw [← hW1]; simp
 have hkv : ∀ W, Below w.heap.size w W → SnV W (.agg #[.int .i64 k.ix, .int .i64 k.tm, .slice pv nv cv, .slice pd nd cd]) k := fun W hW => ⟨_, _, rfl, hkn.below hW, hkb.below hW, hk0, hk1⟩
 have hc1 := Chg.of_below hb1 (fun _ => False)
 have H := hide (h.chg hc1)
 have HV := hide (hv.below hb1)
 have z4 := HV.out.c4
 have z0 := HV.out.c0
 have k0 : W1.cell? ⟨w.heap.size, 0, none⟩ = some (.int .i64 k.ix) := by rw [cell_of_row W1 _ 0 _ _ (0, 0) hr1]; rfl
 have k1 : W1.cell? ⟨w.heap.size, 1, none⟩ = some (.int .i64 k.tm) := by rw [cell_of_row W1 _ 1 _ _ (0, 0) hr1]; rfl
 have k2 : W1.cell? ⟨w.heap.size, 2, none⟩ = some (.slice pv nv cv) := by rw [cell_of_row W1 _ 2 _ _ (0, 0) hr1]; rfl
 have k3 : W1.cell? ⟨w.heap.size, 3, none⟩ = some (.slice pd nd cd) := by rw [cell_of_row W1 _ 3 _ _ (0, 0) hr1]; rfl
 have HCK := hide (check_any' (hkv W1 hb1))
 have HT := hide (ht.chg hc1 (fun h => h))
 have HTT := hide ht
 have HF := hide hf
 have HH := hide h
 have HL1 := hide hl1
 have HL2 := hide hl2
 have HC1 := hide hc1
 have HW1 := hide hW1
 have HB1 := hide hb1
 have HR1 := hide hr1
 have HKV := hide hkv
 obtain ⟨ck, hck⟩ : ∃ ck, k.chk = ck := ⟨_, rfl⟩
 clear h hl1 hl2 ht hf hb1 hr1 hkv hc1
 unfold ChP at HCK
 rw [hck] at HCK
 by_cases hc0 : ck = 0
 ·subst hc0
  have ec : (((0 : Nat) : Int) != 0) = false := rfl
  by_cases hix : k.ix ≤ s.ix
  ·have hsv : saveL s st k = (51, s, st) := by unfold saveL; rw [hck, if_neg (by simp), if_pos hix]
   rw [hsv]
   have ei : decide (k.ix ≤ s.ix) = true := decide_eq_true hix
   go_enter Tryz.func22, Tryz.ntmps22
   go_wp2_with (first
    | (go_at_call 57; refine (vmade_any z4).mono ?_; rintro e w2 ⟨rfl, hw⟩; subst w2)
    | (go_at_call 31; refine HCK.out.mono ?_; rintro e w2 ⟨rfl, hb2⟩; have y0 := (hb2.cell (lt_of_cell z0)).trans z0; have y1 := (hb2.cell (lt_of_cell k0)).trans k0; have HB2 := hide hb2; clear hb2))
   have q0 : ∀ q, (w2.drewN q).cell? ⟨b, 0, none⟩ = some (.int .i64 s.ix) := fun q => y0
   have q1 : ∀ q, (w2.drewN q).cell? ⟨w.heap.size, 0, none⟩ = some (.int .i64 k.ix) := fun q => y1
   go_quiet (fail)
   go_wp2
   go_ret
   exact SvP.same HH.out ((Chg.of_below HB1.out _).then ((Chg.of_below HB2.out (fun _ => False)).drewN _) fun _ h => h.elim)
  ·have ei : decide (k.ix ≤ s.ix) = false := decide_eq_false hix
   have HKS : Hid (saveL s st k = if (st.keepS k).1 ≠ 0 then ((st.keepS k).1, s, (st.keepS k).2) else if 0 < s.ix then (((st.keepS k).2.drop s.name).1, k, ((st.keepS k).2.drop s.name).2) else (0, k, (st.keepS k).2)) := hide (by unfold saveL; rw [if_neg (by rw [hck]; simp), if_neg hix])
   have hki := chk_ix hck
   go_enter Tryz.func22, Tryz.ntmps22
   go_wp2_with (first
    | (go_at_call 57; refine (vmade_any z4).mono ?_; rintro e w2 ⟨rfl, hw⟩; subst w2)
    | (go_at_call 31; refine HCK.out.mono ?_; rintro e w2 ⟨rfl, hb2⟩; have y0 := (hb2.cell (lt_of_cell z0)).trans z0; have y1 := (hb2.cell (lt_of_cell k0)).trans k0; have HB2 := hide hb2; clear hb2))
   have q0 : ∀ q, (w2.drewN q).cell? ⟨b, 0, none⟩ = some (.int .i64 s.ix) := fun q => y0
   have q1 : ∀ q, (w2.drewN q).cell? ⟨w.heap.size, 0, none⟩ = some (.int .i64 k.ix) := fun q => y1
   go_quiet (fail)
   go_wp2_with fail
   have HSK : Hid (∀ W, Below w2.heap.size w2 W → (W.cell? ⟨w.heap.size, 0, none⟩ = some (.int .i64 k.ix) ∧ W.cell? ⟨w.heap.size, 1, none⟩ = some (.int .i64 k.tm) ∧ W.cell? ⟨w.heap.size, 2, none⟩ = some (.slice pv nv cv) ∧ W.cell? ⟨w.heap.size, 3, none⟩ = some (.slice pd nd cd) ∧ W.cell? ⟨b, 4, none⟩ = some (.pointer (some ⟨g, 0, none⟩)))) := hide (by
    have hb2 := HB2.out
    have g0 := (hb2.cell (lt_of_cell k0)).trans k0
    have g1 := (hb2.cell (lt_of_cell k1)).trans k1
    have g2 := (hb2.cell (lt_of_cell k2)).trans k2
    have g3 := (hb2.cell (lt_of_cell k3)).trans k3
    have g4 := (hb2.cell (lt_of_cell z4)).trans z4
    intro W hW
    exact ⟨(hW.cell (lt_of_cell g0)).trans g0, (hW.cell (lt_of_cell g1)).trans g1, (hW.cell (lt_of_cell g2)).trans g2, (hW.cell (lt_of_cell g3)).trans g3, (hW.cell (lt_of_cell g4)).trans g4⟩)
   have HB2z4 : Hid (w2.cell? ⟨b, 4, none⟩ = some (.pointer (some ⟨g, 0, none⟩))) := hide ((HB2.out.cell (lt_of_cell z4)).trans z4)
   have HOW := hide (fun (W : World) (hW : Below w2.heap.size w2 W) => own_any (w := W) (v := .agg #[.int .i64 k.ix, .int .i64 k.tm, .slice pv nv cv, .slice pd nd cd]) (s := k) (HKV.out W ((HB1.out.trans (HB2.out.mono HB1.out.size)).trans (hW.mono (Nat.le_trans HB1.out.size HB2.out.size)))) (by omega) (by omega))
   unfold OwP at HOW
   rename_i K hK
   have HREST : Hid (∀ (W : World) (nb : Nat) (p3 p4 : Option Addr) (n3 c3 n4 c4 : Nat), W.heap[nb]? = some (.cells #[.int .i64 k.ix, .int .i64 k.tm, .slice p3 n3 c3, .slice p4 n4 c4, .pointer (some ⟨g, 0, none⟩)] 88 (0, 0)) → w2.heap.size ≤ nb → Ns W (.slice p3 n3 c3) k.vo → By W (.slice p4 n4 c4) k.da → Lies (fun j => w2.heap.size ≤ j ∧ j ≠ nb ∧ j < W.heap.size) (.slice p3 n3 c3) k.vo → Lies (fun j => w2.heap.size ≤ j ∧ j ≠ nb ∧ j < W.heap.size) (.slice p4 n4 c4) k.da → Below w2.heap.size w2 W →
     K { tmps := #[.pointer (some ⟨b, 0, none⟩), .agg #[.int .i64 k.ix, .int .i64 k.tm, .slice pv nv cv, .slice pd nd cd], undef, .pointer (some ⟨w.heap.size, 0, none⟩), .int .i64 0, .int .i64 0, .pointer (some ⟨nb, 0, none⟩), undef, undef, .pointer (some ⟨b, 0, none⟩), .bool true, .bool false, .agg #[.int .i64 k.ix, .int .i64 k.tm, .slice pv nv cv, .slice pd nd cd], .int .i64 0, .int .i64 0, .bool false, undef, .pointer (some ⟨w.heap.size, 0, none⟩), .int .i64 k.ix, .pointer (some ⟨b, 0, none⟩), .pointer (some ⟨b, 0, none⟩), .pointer (some ⟨b, 0, none⟩), .pointer (some ⟨b, 0, none⟩), .pointer (some ⟨b, 0, none⟩), .int .i64 s.ix, .bool false, .agg #[.int .i64 k.ix, .int .i64 k.tm, .slice pv nv cv, .slice pd nd cd], .agg #[.int .i64 k.ix, .int .i64 k.tm, .slice p3 n3 c3, .slice p4 n4 c4], .agg #[.int .i64 k.ix, .int .i64 k.tm, .slice p3 n3 c3, .slice p4 n4 c4], .pointer (some ⟨b, 0, none⟩), .pointer (some ⟨b, 0, none⟩), .pointer (some ⟨b, 4, none⟩), .pointer (some ⟨g, 0, none⟩), .agg #[.int .i64 k.ix, .int .i64 k.tm, .slice p3 n3 c3, .slice p4 n4 c4, .pointer (some ⟨g, 0, none⟩)], undef, undef, undef, undef, undef, undef, undef, undef, undef, undef, undef, undef, undef, undef, undef, undef, undef, undef, undef, undef, undef, undef, undef, undef, undef, undef, undef, undef, undef, undef, undef, undef], defers := [] } W) := hide (by
    intro W nb p3 p4 n3 c3 n4 c4 hrn hnb hon hod hne1 hne2 hbw
    have hwsz : w.heap.size ≤ W.heap.size := Nat.le_trans HB1.out.size (Nat.le_trans HB2.out.size hbw.size)
    have hw2sz : w.heap.size < w2.heap.size := by have := HB2.out.size; omega
    have HBW := hide ((HB1.out.trans (HB2.out.mono HB1.out.size)).trans (hbw.mono (Nat.le_trans HB1.out.size HB2.out.size)))
    have HVN : Hid (Vt W nb (.slice p3 n3 c3) (.slice p4 n4 c4) k g) := hide ⟨hrn, hon, hod, hk0, hk1⟩
    have HLN := hide hne1
    have HLD := hide hne2
    have HNS : Hid (∀ j, w.heap.size ≤ j → ¬ S j) := hide fun j hj h => by have := HH.out.di.sap j h; omega
    have HTW := hide (HTT.out.chg (Chg.of_below HBW.out (fun _ => False)) (fun h => h))
    have hnbl := HVN.out.lt
    have g4 := (hbw.cell (lt_of_cell (HB2z4.out))).trans HB2z4.out
    have HBW2 := hide hbw
    clear hrn hon hod hne1 hne2 hbw
    refine hK _ _ ?_
    clear hK K
    go_wp2_with fail
    refine wp_region_held_drew (S := fun X => X.cell? ⟨b, 4, none⟩ = some (.pointer (some ⟨g, 0, none⟩))) (by kernel_rfl) ?_ (fun hHeld => ?_)
    ·(try dsimp only)
     exact g4
    refine tkL 0 rfl ?_
    refine tkL 1 rfl ?_
    refine tkL 2 rfl ?_
    refine tkL 3 rfl ?_
    refine tkL 4 rfl ?_
    refine tkL 5 rfl ?_
    refine tkL 6 rfl ?_
    refine tkL 7 rfl ?_
    refine tkL 8 rfl ?_
    refine tkL 9 rfl ?_
    refine tkL 10 rfl ?_
    refine tkL 11 rfl ?_
    refine wpAnyH_ready (rs := [12]) (by kernel_rfl) (by simp) ?_
    refine acL rfl (fun K hK => ?_) ?_
    ·go_simp
     obtain ⟨W9, hW9⟩ : ∃ W9, (W.alloc (.cells #[.func (.func 59) #[.pointer (some ⟨nb, 0, none⟩)] #[], .func (.func 34) #[.pointer (some ⟨g, 0, none⟩)] #[], .func (.func 60) #[.pointer (some ⟨nb, 0, none⟩)] #[], .func (.func 34) #[.pointer (some ⟨g, 0, none⟩)] #[]] 54)).drew = W9 := ⟨_, rfl⟩
     have hb9 : Below W.heap.size W W9 := by rw [← hW9]; exact Below.drew (balloc (Below.refl _ _) _)
     have hr9 : W9.heap[W.heap.size]? = some (.cells #[.func (.func 59) #[.pointer (some ⟨nb, 0, none⟩)] #[], .func (.func 34) #[.pointer (some ⟨g, 0, none⟩)] #[], .func (.func 60) #[.pointer (some ⟨nb, 0, none⟩)] #[], .func (.func 34) #[.pointer (some ⟨g, 0, none⟩)] #[]] 54 (0, 0)) := by rw [← hW9]; exact Array.getElem?_push_size (xs := W.heap)
     have hs9 : W9.heap.size = W.heap.size + 1 := by rw [← hW9]; exact Array.size_push ..
     rw [hW9]
     have hc9 := Chg.of_below (HBW.out.trans (hb9.mono HBW.out.size)) (fun _ => False)
     have hv9 := HVN.out.below hb9
     have HKE := hide (vkeep_any (sb := W.heap.size) hv9 (HH.out.di.chg hc9 (fun _ _ h => h) (fun _ _ h => h)) (HNS.out nb (by omega)) (HNS.out _ (by omega)) (HLN.out.mono fun j hj => ⟨HNS.out j (by omega), by omega⟩) (HLD.out.mono fun j hj => ⟨HNS.out j (by omega), by omega⟩) hr9 (HTT.out.chg hc9 (fun h => h)) htS (by have := hki.1; omega) hki.2 HF.out hn hvs hds hrn hfl)
     have HB9 := hide hb9
     have HC9 := hide hc9
     have HS9 := hide hs9
     clear hb9 hr9 hW9 hc9 hv9 hs9
     first
      | refine hK.out _ _ ?_ (fun hHeld => ?_)
      | (go_wp2_with fail; refine hK.out _ _ ?_ (fun hHeld => ?_))
     ·(try dsimp only)
      exact (HB9.out.cell (lt_of_cell g4)).trans g4
     clear hK K
     try simp only [Act.put, qA, qB, qC]
     refine wpAnyH_ready (rs := [13]) (by kernel_rfl) (by simp) ?_
     refine acL rfl (fun K hK => ?_) ?_
     ·go_simp
      go_at_call 44
      refine HKE.out.mono ?_
      rintro e w4 ⟨rfl, hp4⟩
      have HP4 := hide hp4
      clear hp4 HKE
      first
       | refine hK.out _ _ ?_ (fun hHeld => ?_)
       | (go_wp2_with fail; refine hK.out _ _ ?_ (fun hHeld => ?_))
      ·(try dsimp only)
       exact HP4.out.cg.cell ((HB9.out.cell (lt_of_cell g4)).trans g4) HH.out.nb.1
      clear hK K
      try simp only [Act.put, qA, qB, qC]
      refine tkL 14 rfl ?_
      refine wpAnyH_done (by kernel_rfl) ?_ _
      obtain ⟨m, y, hm⟩ : ∃ m y, st.keepS k = (m, y) := ⟨_, _, rfl⟩
      have HFY := hide (HF.out.keepS k (by omega))
      rw [hm] at HP4 HKS HFY ⊢
      have HKS : Hid (saveL s st k = if m ≠ 0 then (m, s, y) else if 0 < s.ix then ((y.drop s.name).1, k, (y.drop s.name).2) else (0, k, y)) := HKS
      have HP4 : Hid (DPost W9 S C g y w4) := HP4
      clear hm g4
      by_cases hm : m = 0
      ·subst hm
       have e0 : (((0 : Nat) : Int) != 0) = false := rfl
       have hc94 := HP4.out.cg
       have hsz4 := hc94.size
       have hsz9 := HS9.out
       have hc04 : Chg w w4 S := (HC9.out.mono' fun _ h => h.elim).then hc94 (fun _ h => .inl h)
       have hr4 := (hc04.block b hv.lt HH.out.nb.1).trans hv.row
       have hn4 := (hc94.block nb (by omega) (HNS.out nb (by omega))).trans ((HB9.out.block nb (by omega)).trans HVN.out.row)
       obtain ⟨W5, hW5⟩ : ∃ W5, w4.alloc (.cells #[.int .i64 s.ix, .int .i64 s.tm, .slice po no co, .slice pe ne ce] 86) = W5 := ⟨_, rfl⟩
       have hb5 : Below w4.heap.size w4 W5 := by rw [← hW5]; exact balloc (Below.refl _ _) _
       have hs5 : W5.heap.size = w4.heap.size + 1 := by rw [← hW5]; simp
       have ho5 : W5.heap[w4.heap.size]? = some (.cells #[.int .i64 s.ix, .int .i64 s.tm, .slice po no co, .slice pe ne ce] 86 (0, 0)) := by rw [← hW5]; exact Array.getElem?_push_size
       have hr5 := (hb5.block b (Array.getElem?_eq_some_iff.1 hr4).1).trans hr4
       have hn5 := (hb5.block nb (Array.getElem?_eq_some_iff.1 hn4).1).trans hn4
       have p0 : w4.cell? ⟨b, 0, none⟩ = some (.int .i64 s.ix) := by rw [cell_of_row w4 _ 0 _ _ (0, 0) hr4]; rfl
       have p1 : w4.cell? ⟨b, 1, none⟩ = some (.int .i64 s.tm) := by rw [cell_of_row w4 _ 1 _ _ (0, 0) hr4]; rfl
       have p2 : w4.cell? ⟨b, 2, none⟩ = some (.slice po no co) := by rw [cell_of_row w4 _ 2 _ _ (0, 0) hr4]; rfl
       have p3' : w4.cell? ⟨b, 3, none⟩ = some (.slice pe ne ce) := by rw [cell_of_row w4 _ 3 _ _ (0, 0) hr4]; rfl
       have r0 : W5.cell? ⟨b, 0, none⟩ = some (.int .i64 s.ix) := by rw [cell_of_row W5 _ 0 _ _ (0, 0) hr5]; rfl
       have r1 : W5.cell? ⟨b, 1, none⟩ = some (.int .i64 s.tm) := by rw [cell_of_row W5 _ 1 _ _ (0, 0) hr5]; rfl
       have r2 : W5.cell? ⟨b, 2, none⟩ = some (.slice po no co) := by rw [cell_of_row W5 _ 2 _ _ (0, 0) hr5]; rfl
       have r3 : W5.cell? ⟨b, 3, none⟩ = some (.slice pe ne ce) := by rw [cell_of_row W5 _ 3 _ _ (0, 0) hr5]; rfl
       have r4 : W5.cell? ⟨b, 4, none⟩ = some (.pointer (some ⟨g, 0, none⟩)) := by rw [cell_of_row W5 _ 4 _ _ (0, 0) hr5]; rfl
       have u0 := frozen_of_row W5 b 0 _ _ hr5
       have u1 := frozen_of_row W5 b 1 _ _ hr5
       have u2 := frozen_of_row W5 b 2 _ _ hr5
       have u3 := frozen_of_row W5 b 3 _ _ hr5
       have u4 := frozen_of_row W5 b 4 _ _ hr5
       have m0 : W5.cell? ⟨nb, 0, none⟩ = some (.int .i64 k.ix) := by rw [cell_of_row W5 _ 0 _ _ (0, 0) hn5]; rfl
       have m1 : W5.cell? ⟨nb, 1, none⟩ = some (.int .i64 k.tm) := by rw [cell_of_row W5 _ 1 _ _ (0, 0) hn5]; rfl
       have m2 : W5.cell? ⟨nb, 2, none⟩ = some (.slice p3 n3 c3) := by rw [cell_of_row W5 _ 2 _ _ (0, 0) hn5]; rfl
       have m3 : W5.cell? ⟨nb, 3, none⟩ = some (.slice p4 n4 c4) := by rw [cell_of_row W5 _ 3 _ _ (0, 0) hn5]; rfl
       have m4 : W5.cell? ⟨nb, 4, none⟩ = some (.pointer (some ⟨g, 0, none⟩)) := by rw [cell_of_row W5 _ 4 _ _ (0, 0) hn5]; rfl
       obtain ⟨hq1, hq2⟩ := set5 (.int .i64 k.ix) (.int .i64 k.tm) (.slice p3 n3 c3) (.slice p4 n4 c4) (.pointer (some ⟨g, 0, none⟩)) hr5
       obtain ⟨F, hF⟩ : ∃ F, (((((W5.setCell ⟨b, 0, none⟩ (.int .i64 k.ix)).setCell ⟨b, 1, none⟩ (.int .i64 k.tm)).setCell ⟨b, 2, none⟩ (.slice p3 n3 c3)).setCell ⟨b, 3, none⟩ (.slice p4 n4 c4)).setCell ⟨b, 4, none⟩ (.pointer (some ⟨g, 0, none⟩))) = F := ⟨_, rfl⟩
       rw [hF] at hq1 hq2
       have hbl0 := hv.lt
       have hoF := (hq2.block w4.heap.size (by omega) (by omega)).trans ho5
       have hcWF : Chg W F (fun j => S j ∨ j = b) := (((Chg.of_below HB9.out (fun j => S j ∨ j = b)).then (hc94.mono' fun _ h => .inl h) (fun _ h => .inl h)).then (Chg.of_below hb5 (fun _ => False)) (fun _ h => h.elim)).then hq2 (fun _ h => .inl (.inr h))
       have hvF : Vt F b (.slice p3 n3 c3) (.slice p4 n4 c4) k g := ⟨hq1, HVN.out.ns.chg hcWF (HLN.out.mono fun j hj h => h.elim (HNS.out j (by omega)) (by omega)), HVN.out.by_.chg hcWF (HLD.out.mono fun j hj h => h.elim (HNS.out j (by omega)) (by omega)), hk0, hk1⟩
       have HNX := hide (SvP.next HH.out HC9.out HP4.out ((Chg.of_below hb5 (fun j => j = b)).then hq2 (fun _ h => .inl h)) hvF (HLN.out.mono fun j hj => by omega) (HLD.out.mono fun j hj => by omega))
       have hTF := HTT.out.chg (((hc04.mono' fun j h => (.inl h : S j ∨ j = b)).then (Chg.of_below hb5 (fun _ => False)) (fun _ h => h.elim)).then hq2 (fun _ h => .inl (.inr h))) (fun h => h.elim htS htb)
       have HTF := hide hTF
       have HO0 := hide (show F.cell? ⟨w4.heap.size, 0, none⟩ = some (.int .i64 s.ix) by rw [cell_of_row F _ 0 _ _ (0, 0) hoF]; rfl)
       have HC4 := hide hvF.c4
       clear hc94 hc04 hr4 hn4 hb5 ho5 hr5 hn5 hq1 hq2 hoF hcWF hvF hTF hsz4 hsz9 hs5
       by_cases hs0 : 0 < s.ix
       ·have es : decide (0 < s.ix) = true := by simpa using hs0
        have hsv : saveL s st k = ((y.drop s.name).1, k, (y.drop s.name).2) := by rw [HKS.out]; simp [hs0]
        have HSV := hide hsv
        have HSX := hide hsx
        clear hsv
        go_wp2_with (go_at_call 61; refine (there_any HO0.out).mono ?_; rintro e w6 ⟨rfl, hw⟩; subst w6)
        obtain ⟨S', C', hd, h2, h3, h4⟩ := HNX.out
        have hcal := HFY.out.calm (by omega)
        have hnl := nameL_len (ix := s.ix) (by omega) HSX.out.2
        have hfv : fileV s.ix = .string (str s.name) := rfl
        have hnm : s.name = nameL s.ix := by unfold Sn.name; rw [if_pos hs0]
        have HFL := hide (fun (X : World) (hX : Below F.heap.size F X) => file_any ((hX.cell (lt_of_cell HO0.out)).trans HO0.out) (by have := HSX.out.1; omega) HSX.out.2 (HTF.out.below hX HTF.out.lt))
        rw [hfv] at HFL
        have HDR := hide (fun (X : World) (hX : Below F.heap.size F X) => drop_call (s := str s.name) (hd.chg (Chg.of_below hX _) (fun _ _ h => h) (fun _ _ h => h)) (by rw [str_eq, hnm]; show (nameL s.ix).toArray.size ≤ maxLen; simp [maxLen]; omega) hcal.few hcal.k1 hcal.k2 hcal.t1 hcal.t2)
        rw [show (str s.name).data.toList = s.name by rw [str_eq]] at HDR
        have HC4' := hide (fun (X : World) (hX : Chg F X S') => hX.cell HC4.out h2)
        have HSP := hide h3
        clear hd h2 h3 h4 hcal hnl hfv hnm HNX
        go_region_held3 (fun X => X.cell? ⟨b, 4, none⟩ = some (.pointer (some ⟨g, 0, none⟩))) (first | assumption | exact HC4'.out _ (by first | exact Chg.refl _ _ | exact (Chg.refl _ _).drewN _ | exact Chg.of_below HB6.out _ | exact hc7)) (first
         | (go_at_call 63; refine (HFL.out _ (by first | exact Below.refl _ _ | exact below_drewN (Below.refl _ _) _)).mono ?_; rintro e w6 ⟨rfl, hb6⟩; have HB6 := hide ((below_drewN (Below.refl F.heap.size F) 1).trans hb6); clear hb6)
         | (go_at_call 62; refine (HDR.out _ HB6.out).mono ?_; rintro e w7 ⟨rfl, hp7⟩; have hc7 := (Chg.of_below HB6.out S').then hp7.cg (fun k h => .inl h); have HP7 := hide (hp7.from (Chg.of_below HB6.out _))))
        go_wp2
        go_ret
        rw [HSV.out]
        exact HSP.out _ _ _ HP7.out
       ·have es : decide (0 < s.ix) = false := by simpa using hs0
        have hsv : saveL s st k = (0, k, y) := by rw [HKS.out]; simp [hs0]
        have HSV := hide hsv
        clear hsv
        go_wp2_with (go_at_call 61; refine (there_any HO0.out).mono ?_; rintro e w6 ⟨rfl, hw⟩; subst w6)
        go_ret
        rw [HSV.out]
        obtain ⟨S', C', hd, h2, h3, h4⟩ := HNX.out
        exact h3 _ _ 0 (DPost.self hd)
      ·have e0 : ((m : Int) != 0) = true := by simpa using hm
       have hsv : saveL s st k = (m, s, y) := by rw [HKS.out, if_pos hm]
       have HSV := hide hsv
       clear hsv
       go_wp2
       go_ret
       rw [HSV.out]
       exact SvP.stay HH.out HC9.out HP4.out
     exact AllReadyH.nil
    exact AllReadyH.nil
    )
   refine wp_region_held_drew (S := fun W => W.cell? ⟨w.heap.size, 0, none⟩ = some (.int .i64 k.ix) ∧ W.cell? ⟨w.heap.size, 1, none⟩ = some (.int .i64 k.tm) ∧ W.cell? ⟨w.heap.size, 2, none⟩ = some (.slice pv nv cv) ∧ W.cell? ⟨w.heap.size, 3, none⟩ = some (.slice pd nd cd) ∧ W.cell? ⟨b, 4, none⟩ = some (.pointer (some ⟨g, 0, none⟩))) (by kernel_rfl) ?_ (fun hHeld => ?_)
   ·(try dsimp only)
    exact HSK.out _ (by first | exact below_drewN (Below.refl _ _) _ | exact below_drewN (below_drewN (Below.refl _ _) _) 1)
   refine tkL 0 rfl ?_
   refine tkL 3 rfl ?_
   refine tkL 4 rfl ?_
   refine tkL 5 rfl ?_
   refine tkL 6 rfl ?_
   refine wpAnyH_ready (rs := [1, 8]) (by kernel_rfl) (by simp) ?_
   refine acL rfl (fun K hK => ?_) ?_
   ·go_simp
    go_at_call 58
    refine (HOW.out _ (show Below w2.heap.size w2 _ by first | exact HAB.out | exact below_drewN (Below.refl _ _) _ | exact below_drewN (below_drewN (Below.refl _ _) _) 1)).mono ?_
    rintro e w3 ⟨v3, rfl, ho3, hb3⟩
    obtain ⟨vo3, da3, rfl, h31, h32, h33⟩ := ho3
    obtain ⟨p3, n3, c3, rfl⟩ := h31.ns.sl
    obtain ⟨p4, n4, c4, rfl⟩ := h32.by_.sl
    have HO3W := hide h31
    have HD3W := hide h32
    have HO3 : Hid (OwnN w2.heap.size w3 (.slice p3 n3 c3) k.vo) := hide (h31.mono (by first | exact Nat.le_refl _ | exact HAB.out.size))
    have HD3 : Hid (Own w2.heap.size w3 (.slice p4 n4 c4) k.da) := hide (h32.mono (by first | exact Nat.le_refl _ | exact HAB.out.size))
    have HB3 : Hid (Below w2.heap.size w2 w3) := hide (Below.trans (show Below w2.heap.size w2 _ by first | exact HAB.out | exact below_drewN (Below.refl _ _) _ | exact below_drewN (below_drewN (Below.refl _ _) _) 1) (hb3.mono (Below.size (show Below w2.heap.size w2 _ by first | exact HAB.out | exact below_drewN (Below.refl _ _) _ | exact below_drewN (below_drewN (Below.refl _ _) _) 1))))
    clear h31 h32 h33
    first
     | refine hK.out _ _ ?_ (fun hHeld => ?_)
     | (go_wp2_with fail; refine hK.out _ _ ?_ (fun hHeld => ?_))
    ·(try dsimp only)
     exact HSK.out _ (by first | exact HB3.out | exact HAB.out | exact HB3.out.alloc HB3.out.size _ | exact below_drewN (Below.refl _ _) _ | exact below_drewN (below_drewN (Below.refl _ _) _) 1)
    clear hK K
    try simp only [Act.put, qA, qB, qC]
    refine tkL 2 rfl ?_
    refine tkL 7 rfl ?_
    refine wpAnyH_ready (rs := [8]) (by kernel_rfl) (by simp) ?_
    refine acL rfl (fun K hK => ?_) ?_
    ·go_simp
     first
      | refine hK.out _ _ ?_ (fun hHeld => ?_)
      | (go_wp2_with fail; refine hK.out _ _ ?_ (fun hHeld => ?_))
     ·(try dsimp only)
      exact HSK.out _ (by first | exact HB3.out | exact HAB.out | exact HB3.out.alloc HB3.out.size _ | exact below_drewN (Below.refl _ _) _ | exact below_drewN (below_drewN (Below.refl _ _) _) 1)
     clear hK K
     try simp only [Act.put, qA, qB, qC]
     refine wpAnyH_ready (rs := [9]) (by kernel_rfl) (by simp) ?_
     refine acL rfl (fun K hK => ?_) ?_
     ·go_simp
      first
       | refine hK.out _ _ ?_ (fun hHeld => ?_)
       | (go_wp2_with fail; refine hK.out _ _ ?_ (fun hHeld => ?_))
      ·(try dsimp only)
       exact HSK.out _ (HB3.out.alloc HB3.out.size _)
      clear hK K
      try simp only [Act.put, qA, qB, qC]
      refine wpAnyH_done (by kernel_rfl) ?_ _
      have hs3 := HB3.out.size
      have hbl := balloc (Below.refl w3.heap.size w3) (.cells #[.int .i64 k.ix, .int .i64 k.tm, .slice p3 n3 c3, .slice p4 n4 c4, .pointer (some ⟨g, 0, none⟩)] 88)
      have hsz := hbl.size
      have hx := HREST.out _ w3.heap.size p3 p4 n3 c3 n4 c4 Array.getElem?_push_size hs3 (HO3.out.below hbl).ns (HD3.out.below hbl).by_ (.inr fun j hj => by have := HO3.out.lt j hj; omega) (own_lies HD3.out fun j hj => by omega) (HB3.out.trans (hbl.mono hs3))
      exact hx
     exact AllReadyH.nil
    exact AllReadyH.nil
   refine acL rfl (fun K hK => ?_) ?_
   ·go_simp
    obtain ⟨WA, hWA⟩ : ∃ WA, (w2.drewN (nq + 1)).alloc (.cells #[.int .i64 0, .int .i64 0, .slice none 0 0, .slice none 0 0, .pointer none] 88) = WA := ⟨_, rfl⟩
    have hAB : Below w2.heap.size w2 WA := by rw [← hWA]; exact (below_drewN (Below.refl _ _) _).alloc (Nat.le_refl _) _
    have hRA : WA.heap[w2.heap.size]? = some (.cells #[.int .i64 0, .int .i64 0, .slice none 0 0, .slice none 0 0, .pointer none] 88 (0, 0)) := by rw [← hWA]; exact Array.getElem?_push_size (xs := (w2.drewN (nq + 1)).heap)
    have hSA : WA.heap.size = w2.heap.size + 1 := by rw [← hWA]; simp
    rw [hWA]
    have HAB := hide hAB
    have HRA := hide hRA
    have HSA := hide hSA
    clear hAB hRA hSA hWA
    first
     | refine hK.out _ _ ?_ (fun hHeld => ?_)
     | (go_wp2_with fail; refine hK.out _ _ ?_ (fun hHeld => ?_))
    ·(try dsimp only)
     exact HSK.out _ (by first | exact HB3.out | exact HAB.out | exact HB3.out.alloc HB3.out.size _ | exact below_drewN (Below.refl _ _) _ | exact below_drewN (below_drewN (Below.refl _ _) _) 1)
    clear hK K
    try simp only [Act.put, qA, qB, qC]
    refine wpAnyH_ready (rs := [1]) (by kernel_rfl) (by simp) ?_
    refine acL rfl (fun K hK => ?_) ?_
    ·go_simp
     go_at_call 58
     refine (HOW.out _ (show Below w2.heap.size w2 _ by first | exact HAB.out | exact below_drewN (Below.refl _ _) _ | exact below_drewN (below_drewN (Below.refl _ _) _) 1)).mono ?_
     rintro e w3 ⟨v3, rfl, ho3, hb3⟩
     obtain ⟨vo3, da3, rfl, h31, h32, h33⟩ := ho3
     obtain ⟨p3, n3, c3, rfl⟩ := h31.ns.sl
     obtain ⟨p4, n4, c4, rfl⟩ := h32.by_.sl
     have HO3W := hide h31
     have HD3W := hide h32
     have HO3 : Hid (OwnN w2.heap.size w3 (.slice p3 n3 c3) k.vo) := hide (h31.mono (by first | exact Nat.le_refl _ | exact HAB.out.size))
     have HD3 : Hid (Own w2.heap.size w3 (.slice p4 n4 c4) k.da) := hide (h32.mono (by first | exact Nat.le_refl _ | exact HAB.out.size))
     have HB3 : Hid (Below w2.heap.size w2 w3) := hide (Below.trans (show Below w2.heap.size w2 _ by first | exact HAB.out | exact below_drewN (Below.refl _ _) _ | exact below_drewN (below_drewN (Below.refl _ _) _) 1) (hb3.mono (Below.size (show Below w2.heap.size w2 _ by first | exact HAB.out | exact below_drewN (Below.refl _ _) _ | exact below_drewN (below_drewN (Below.refl _ _) _) 1))))
     clear h31 h32 h33
     have hr3 := (hb3.block w2.heap.size (Array.getElem?_eq_some_iff.1 HRA.out).1).trans HRA.out
     have y0 : w3.cell? ⟨w2.heap.size, 0, none⟩ = some (.int .i64 0) := by rw [cell_of_row w3 _ 0 _ _ (0, 0) hr3]; rfl
     have y1 : w3.cell? ⟨w2.heap.size, 1, none⟩ = some (.int .i64 0) := by rw [cell_of_row w3 _ 1 _ _ (0, 0) hr3]; rfl
     have y2 : w3.cell? ⟨w2.heap.size, 2, none⟩ = some (.slice none 0 0) := by rw [cell_of_row w3 _ 2 _ _ (0, 0) hr3]; rfl
     have y3 : w3.cell? ⟨w2.heap.size, 3, none⟩ = some (.slice none 0 0) := by rw [cell_of_row w3 _ 3 _ _ (0, 0) hr3]; rfl
     have y4 : w3.cell? ⟨w2.heap.size, 4, none⟩ = some (.pointer none) := by rw [cell_of_row w3 _ 4 _ _ (0, 0) hr3]; rfl
     have u0 := frozen_of_row w3 w2.heap.size 0 _ _ hr3
     have u1 := frozen_of_row w3 w2.heap.size 1 _ _ hr3
     have u2 := frozen_of_row w3 w2.heap.size 2 _ _ hr3
     have u3 := frozen_of_row w3 w2.heap.size 3 _ _ hr3
     have u4 := frozen_of_row w3 w2.heap.size 4 _ _ hr3
     have HR3 := hide hr3
     clear hr3
     first
      | refine hK.out _ _ ?_ (fun hHeld => ?_)
      | (go_wp2_with fail; refine hK.out _ _ ?_ (fun hHeld => ?_))
     ·(try dsimp only)
      exact HSK.out _ (by first | exact HB3.out | exact HAB.out | exact HB3.out.alloc HB3.out.size _ | exact below_drewN (Below.refl _ _) _ | exact below_drewN (below_drewN (Below.refl _ _) _) 1)
     clear hK K
     try simp only [Act.put, qA, qB, qC]
     refine tkL 2 rfl ?_
     refine tkL 7 rfl ?_
     refine wpAnyH_ready (rs := [9]) (by kernel_rfl) (by simp) ?_
     refine acL rfl (fun K hK => ?_) ?_
     ·go_simp
      first
       | refine hK.out _ _ ?_ (fun hHeld => ?_)
       | (go_wp2_with fail; refine hK.out _ _ ?_ (fun hHeld => ?_))
      ·(try dsimp only)
       exact HSK.out _ (Chg.to_below HB3.out (set5 (.int .i64 k.ix) (.int .i64 k.tm) (.slice p3 n3 c3) (.slice p4 n4 c4) (.pointer (some ⟨g, 0, none⟩)) HR3.out).2 (fun k e => by omega))
      clear hK K
      try simp only [Act.put, qA, qB, qC]
      refine wpAnyH_done (by kernel_rfl) ?_ _
      have hs3 := HB3.out.size
      have hsa := HSA.out
      obtain ⟨hq1, hq2⟩ := set5 (.int .i64 k.ix) (.int .i64 k.tm) (.slice p3 n3 c3) (.slice p4 n4 c4) (.pointer (some ⟨g, 0, none⟩)) HR3.out
      obtain ⟨F, hF⟩ : ∃ F, (((((w3.setCell ⟨w2.heap.size, 0, none⟩ (.int .i64 k.ix)).setCell ⟨w2.heap.size, 1, none⟩ (.int .i64 k.tm)).setCell ⟨w2.heap.size, 2, none⟩ (.slice p3 n3 c3)).setCell ⟨w2.heap.size, 3, none⟩ (.slice p4 n4 c4)).setCell ⟨w2.heap.size, 4, none⟩ (.pointer (some ⟨g, 0, none⟩))) = F := ⟨_, rfl⟩
      rw [hF] at hq1 hq2
      rw [hF]
      have hsz := hq2.size
      have hx := HREST.out F w2.heap.size p3 p4 n3 c3 n4 c4 hq1 (Nat.le_refl _) (HO3W.out.ns.chg hq2 (.inr fun j hj => by have := HO3W.out.lt j hj; omega)) (HD3W.out.by_.chg hq2 ((own_lies (P := fun j => ¬ j = w2.heap.size) HD3W.out fun j hj => by omega))) (.inr fun j hj => by have := HO3W.out.lt j hj; omega) (own_lies HD3W.out fun j hj => by omega) (Chg.to_below HB3.out hq2 (fun k e => by omega))
      exact hx
     exact AllReadyH.nil
    exact AllReadyH.nil
   exact AllReadyH.nil
 ·have ec : ((ck : Int) != 0) = true := by simpa using hc0
  have hsv : saveL s st k = (ck, s, st) := by unfold saveL; rw [hck, if_pos hc0]
  rw [hsv]
  go_enter Tryz.func22, Tryz.ntmps22
  go_wp2_with (first
   | (go_at_call 57; refine (vmade_any z4).mono ?_; rintro e w2 ⟨rfl, hw⟩; subst w2)
   | (go_at_call 31; refine HCK.out.mono ?_; rintro e w2 ⟨rfl, hb2⟩))
  go_ret
  exact SvP.same HH.out ((Chg.of_below HB1.out _).then (Chg.of_below hb2 (fun _ => False)) fun _ h => h.elim)
end Go.Proofs.YtgbdjcekpdfpjaaGreatDoor
