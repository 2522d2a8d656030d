/- Several texts made one. -/
import Derived.Test.YtgbdjcekpdfpjaaGreatDoorVc
import Derived.Test.YtgbdjcekpdfpjaaGreatDoorVState
import Derived.Test.YtgbdjcekpdfpjaaGreatDoorVa
import Derived.Test.YtgbdjcekpdfpjaaGreatDoorDc
import Derived.RangeFuncCalls
set_option linter.unusedVariables false
set_option linter.unusedSimpArgs false
namespace Go.Proofs.YtgbdjcekpdfpjaaGreatDoor
open Go.RowKit
attribute [local go_sem] Oper.semAt_some
def findN (st : Dk) : List (List UInt8) → Option Sn
 | [] => none
 | n :: r => match stateL n (st.readB n) with
  | some s => some s
  | none => findN st r
def Dk.found (st : Dk) : Sn := (findN st (st.names.filter isV).reverse).getD sn0
theorem findN_snoc {st : Dk} {n : List UInt8} : ∀ {l : List (List UInt8)} {k : Nat}, findN st (l.take k) = none → l[k]? = some n → findN st (l.take (k + 1)) = stateL n (st.readB n)
 | [], k, _, h => by simp at h
 | a :: r, 0, _, h => by
  simp only [List.getElem?_cons_zero, Option.some.injEq] at h
  subst h
  simp only [List.take_succ_cons, List.take_zero, findN]
  cases stateL a (st.readB a) <;> rfl
 | a :: r, k + 1, h0, h => by
  simp only [List.take_succ_cons, findN] at h0 ⊢
  cases ha : stateL a (st.readB a) with
  | some s => rw [ha] at h0; cases h0
  | none =>
   rw [ha] at h0
   simp only at h0 ⊢
   exact findN_snoc h0 (by simpa using h)
theorem findN_hit {st : Dk} {s : Sn} : ∀ {l : List (List UInt8)} {k : Nat}, findN st (l.take k) = some s → findN st l = some s
 | [], k, h => by simp [findN] at h
 | a :: r, 0, h => by simp [findN] at h
 | a :: r, k + 1, h => by
  simp only [List.take_succ_cons, findN] at h ⊢
  cases ha : stateL a (st.readB a) with
  | some s' => rw [ha] at h; exact h
  | none =>
   rw [ha] at h
   simp only at h ⊢
   exact findN_hit h
theorem setSt {W : World} {g : Nat} {t : TypeId} {a b c d e : Value} (x0 x1 x2 x3 : Value) (h : W.heap[g]? = some (.cells #[a, b, c, d, e] t (0, 0))) :
  ((((W.setCell ⟨g, 0, none⟩ x0).setCell ⟨g, 1, none⟩ x1).setCell ⟨g, 2, none⟩ x2).setCell ⟨g, 3, none⟩ x3).heap[g]? = some (.cells #[x0, x1, x2, x3, e] t (0, 0)) ∧
  Chg W ((((W.setCell ⟨g, 0, none⟩ x0).setCell ⟨g, 1, none⟩ x1).setCell ⟨g, 2, none⟩ x2).setCell ⟨g, 3, none⟩ x3) (fun k => k = g) := by
 have hs : ∀ (X : World) (i : Nat) (x : Value), Chg X (X.setCell ⟨g, i, none⟩ x) (fun k => k = g) := fun X i x => Chg.of_grown (grown_set _ _ _ _) _ fun k hk => .inl (by injection hk with hk; exact hk.symm)
 have h1 := heap_setCell_same W g 0 _ t x0 h
 have h2 := heap_setCell_same _ g 1 _ t x1 h1
 have h3 := heap_setCell_same _ g 2 _ t x2 h2
 have h4 := heap_setCell_same _ g 3 _ t x3 h3
 exact ⟨h4.trans rfl, ((hs _ _ _).then (hs _ _ _) (fun k h => .inl h)).then ((hs _ _ _).then (hs _ _ _) (fun k h => .inl h)) (fun k h => .inl h)⟩
def Lies {α : Type} (P : Nat → Prop) (v : Value) (l : List α) : Prop := l = [] ∨ ∀ k, v.ownBlock = some k → P k
theorem Lies.mono {α : Type} {P Q : Nat → Prop} {v : Value} {l : List α} (h : Lies P v l) (hq : ∀ k, P k → Q k) : Lies Q v l := h.imp id fun h k hk => hq k (h k hk)
theorem Strs.sl {B : Nat} {w : World} {v : Value} {m : List (List UInt8)} (h : Strs B w v m) : ∃ p c, v = .slice p m.length c ∧ (0 < m.length → ∃ g, p = some ⟨g, 0, none⟩ ∧ B ≤ g ∧ g < w.heap.size) ∧ m.length ≤ c ∧ ∀ g, p = some ⟨g, 0, none⟩ → StrsAt w g 0 m := by
 rcases h with ⟨rfl, rfl⟩ | ⟨g, c, rfl, h1, h2, h3, h4⟩
 ·exact ⟨none, 0, rfl, fun h => by simp at h, Nat.le_refl _, fun g hg => by cases hg⟩
 ·refine ⟨_, c, rfl, fun _ => ⟨g, rfl, h2, h3⟩, h1, fun g' hg => ?_⟩
  injection hg with hg
  injection hg with hg
  subst hg
  intro i s hi
  rw [Nat.zero_add]
  exact h4 i s hi
def FdP (w : World) (b g : Nat) (s : Sn) (e : Ending) (w' : World) : Prop :=
 ∃ vo da, (∃ v, e = .returned v) ∧ Vt w' b vo da s g ∧ Lies (fun k => w.heap.size ≤ k ∧ k < w'.heap.size) vo s.vo ∧ Lies (fun k => w.heap.size ≤ k ∧ k < w'.heap.size) da s.da ∧ Chg w w' (fun k => k = b)
def fdI (st : Dk) (l : List (List UInt8)) (X : World) (b : Nat) (pre : List (Int × List UInt8)) (M : Nat → Prop) (W : World) : Prop :=
 (∀ k, M k ↔ k = b) ∧ b < W.heap.size ∧ Below X.heap.size X W ∧ findN st (l.take pre.length) = none
def fdX (st : Dk) (l : List (List UInt8)) (X : World) (b g : Nat) (c : Code) (pre : List (Int × List UInt8)) (M : Nat → Prop) (W : World) : Prop :=
 c = .ret ∧ ∃ s vo da, findN st l = some s ∧ Vt W b vo da s g ∧ Lies (fun k => X.heap.size ≤ k ∧ M k) vo s.vo ∧ Lies (fun k => X.heap.size ≤ k ∧ M k) da s.da ∧ (∀ k, M k → (k = b ∨ X.heap.size ≤ k) ∧ k < W.heap.size) ∧ Chg X W (fun k => k = b)
set_option maxRecDepth 100000 in
set_option maxHeartbeats 4000000 in
theorem vfind_any {w : World} {S C : Nat → Prop} {b g : Nat} {st : Dk} (h : Vt w b (.slice none 0 0) (.slice none 0 0) sn0 g) (ho : DiskIs w S C g st) (hbS : ¬ S b) (hbC : ¬ C b) (ht : Tab w) (hbT : b ≠ tabG) {n U : Nat} (hf : st.Fine n U) (hU : U ≤ 900000) :
  Calls Tryz.prog 43 #[.pointer (some ⟨b, 0, none⟩)] w (FdP w b g st.found) := by
 have HO := hide ho
 have H := hide h
 have HT := hide ht
 have HF := hide hf
 have hbl := h.lt
 have q4 := h.c4
 obtain ⟨ns, hns⟩ : ∃ ns, st.names.filter isV = ns := ⟨_, rfl⟩
 have HNS := hide hns
 have HFI := hide (fun (W : World) (hW : Below w.heap.size w W) => hns ▸ vfiles_any (h.below hW).c4 (ho.chg (Chg.of_below hW _) (fun _ _ h => h) (fun _ _ h => h)) (Nat.le_trans (names_few ho.ok) (by omega)))
 clear h ho ht hf hns
 refine (callsIn_wide (n := 3)).1 (callsIn_of_wp_marks Tryz.func43 rfl trivial ?_)
 simp only [Tryz.ntmps43, List.size_toArray, List.length_cons, List.length_nil, Nat.reduceAdd, Nat.reduceSub, Array.replicate_succ, Array.replicate_zero, List.push_toArray, List.append_toArray, List.nil_append, List.cons_append]
 have hb0 := balloc (Below.refl w.heap.size w) (.cells #[.pointer (some ⟨b, 0, none⟩)] 33)
 have HB0 := hide hb0
 clear hb0
 gi_wp2_with (first
  | (refine ⟨trivial, ?_⟩; gi_at_call 88; refine CallsIn.mono (callsIn_wide.2 (HFI.out _ HB0.out)) ?_; rintro e w1 ⟨v1, rfl, hs1, hb1⟩; obtain ⟨p1, c1, rfl, hp1, hc1, hS1⟩ := hs1.sl; have HS1 := hide hS1; have HP1 := hide hp1; have HC1 := hide hc1; have hv1 := (hb1.cell (p := ⟨w.heap.size, 0, none⟩) (by simp)).trans (show (w.alloc (.cells #[.pointer (some ⟨b, 0, none⟩)] 33)).cell? ⟨w.heap.size, 0, none⟩ = some (.pointer (some ⟨b, 0, none⟩)) by simp); have hsz1 := hb1.size; have HV1 := hide hv1; have HB1 := hide (HB0.out.trans (hb1.mono HB0.out.size)); clear hv1 hs1 hb1 hS1 hp1 hc1)
  | (refine ⟨trivial, ?_⟩; gi_at_call 87; refine CallsIn.mono (callsIn_wide.2 backward_any) ?_; rintro e w2 ⟨rfl, hw2⟩; have HW2 := hide hw2; clear hw2))
 have hs2 : w2.heap.size = w1.heap.size + 1 := by rw [HW2.out]; simp
 have hbx : w2.cell? ⟨w1.heap.size, 0, none⟩ = some (.slice p1 ns.length c1) := by rw [HW2.out]; simp
 have hb12 : Below w1.heap.size w1 w2 := by rw [HW2.out]; exact balloc (Below.refl _ _) _
 have hv2 : w2.cell? ⟨w.heap.size, 0, none⟩ = some (.pointer (some ⟨b, 0, none⟩)) := (hb12.cell (lt_of_cell HV1.out)).trans HV1.out
 have hb2 : Below w.heap.size w w2 := HB1.out.trans (hb12.mono HB1.out.size)
 have hsw : w.heap.size < w1.heap.size := lt_of_cell HV1.out
 have HNL : Hid (ns.length ≤ 4096) := hide (by rw [← HNS.out]; exact Nat.le_trans (List.length_filter_le _ _) (names_few HO.out.ok))
 have HB12 := hide hb12
 have HB2 := hide hb2
 have HV2 := hide hv2
 clear hb12 hb2 hv2
 refine range_any (gf := 108) (lb := #[.pointer (some ⟨w1.heap.size, 0, none⟩)]) rfl (enters_of Tryz.func108 (by kernel_rfl) rfl) (encs := fun x : Int × List UInt8 => #[.int .i64 x.1, .string ⟨x.2.toArray⟩]) (Y := bkY ns) (Dn := fun pre => pre.length = ns.length) (Tk := fun _ _ => False) (fun _ => rfl) (fun k => k = b) (fun k hk => by omega)
  (fun W5 hc5 hs5 => ?hit)
  (fun pre x N N' W o hlp hNN hy => hy)
  (fun pre x N W k hy hk => hk.elim)
  (fdI st ns.reverse w2 b) (fdX st ns.reverse w2 b g)
  ⟨?i1, ?i2⟩ (fun c => ⟨?x1, ?x2⟩)
  ?h0
  (fun x => { tmps := #[.pointer (some ⟨b, 0, none⟩), .pointer (some ⟨w.heap.size, 0, none⟩), undef, .string ⟨x.2.toArray⟩, undef, undef, undef, undef, .pointer (some ⟨b, 0, none⟩), .slice p1 ns.length c1, .func (.func 108) #[] #[.pointer (some ⟨w1.heap.size, 0, none⟩)], .int .i64 x.1, .string ⟨x.2.toArray⟩, undef, undef, undef, undef, undef, undef, undef, undef, undef, undef, undef, undef, undef, undef, undef, undef, undef, undef, undef, undef], defers := [] })
  ?assign ?body ?done ?stop
 case hit =>
  by_cases h0 : 0 < ns.length
  ·obtain ⟨gl, e1, h1, h2⟩ := HP1.out h0
   have hst : StrsAt W5 gl 0 ns := fun i s hi => hc5.cell ((HB12.out.cell (lt_of_cell (HS1.out gl e1 i s hi))).trans (HS1.out gl e1 i s hi)) (fun h => h)
   simp at h1
   exact backward_gives (o := 0) (hc5.cell hbx (fun h => h)) (fun _ => e1) (by have := HNL.out; omega) hst (fun h => by omega) (fun h => by omega) (fun _ => by have := hc5.size; omega) HC1.out
  ·exact backward_gives (g := w1.heap.size) (o := 0) (hc5.cell hbx (fun h => h)) (fun h => absurd h h0) (by have := HNL.out; omega) (fun i s hi => by have := (List.getElem?_eq_some_iff.1 hi).1; omega) (fun h => by omega) (fun h => by omega) (fun h => absurd h h0) HC1.out
 case i1 =>
  rintro pre M W ⟨h1, h2, h3, h4⟩ k hk
  exact ⟨.inl ((h1 k).1 hk), by rw [(h1 k).1 hk]; exact h2⟩
 case i2 =>
  rintro pre M W W' ⟨h1, h2, h3, h4⟩ hc
  exact ⟨h1, Nat.lt_of_lt_of_le h2 hc.size, Chg.to_below h3 hc (fun k h => by omega), h4⟩
 case x1 =>
  rintro pre M W ⟨rfl, s, vo, da, h1, h2, h3, h4, h5, h6⟩ k hk
  exact h5 k hk
 case x2 =>
  rintro pre M W W' ⟨rfl, s, vo, da, h1, h2, h3, h4, h5, h6⟩ hc
  have hno : ∀ k, w2.heap.size ≤ k ∧ M k → ¬ (w2.heap.size ≤ k ∧ ¬ M k) := fun k h h' => h'.2 h.2
  refine ⟨rfl, s, vo, da, h1, ⟨(hc.block b h2.lt (fun h => by omega)).trans h2.row, h2.ns.chg hc (h3.mono hno), h2.by_.chg hc (h4.mono hno), h2.f0, h2.f1⟩, h3, h4, fun k hk => ⟨(h5 k hk).1, Nat.lt_of_lt_of_le (h5 k hk).2 hc.size⟩, h6.then hc (fun k h => .inr h.1)⟩
 case h0 => exact ⟨fun k => Iff.rfl, by omega, Below.refl _ _, by simp [findN]⟩
 case assign =>
  intro x W K hK
  gi_wp2
  exact hK
 case body =>
  rintro pre ⟨x1, x2⟩ M W ⟨hM, hbW, hbl2, hnf⟩ ⟨k, hpl, hk, hx1, hx2⟩ hsW
  dsimp only at hx1 hx2 ⊢
  have hbw : Below w.heap.size w W := HB2.out.trans (hbl2.mono HB2.out.size)
  have hcw := Chg.of_below hbw (fun _ => False)
  have hv : W.cell? ⟨w.heap.size, 0, none⟩ = some (.pointer (some ⟨b, 0, none⟩)) := (hbl2.cell (lt_of_cell HV2.out)).trans HV2.out
  have hr5 := (hbw.block b hbl).trans H.out.row
  have hg4 : W.cell? ⟨b, 4, none⟩ = some (.pointer (some ⟨g, 0, none⟩)) := (hbw.cell hbl).trans q4
  have hmem : x2 ∈ st.names := by
   have := List.mem_of_getElem? hx2
   rw [← HNS.out] at this
   exact (List.mem_filter.1 this).1
  have hxl := okN_len (HF.out.names hmem)
  have hRD := read_call (s := ⟨x2.toArray⟩) (HO.out.chg hcw (fun _ _ h => h) (fun _ _ h => h)) (by show x2.toArray.size ≤ maxLen; simp [maxLen]; omega)
  have HRD := hide hRD
  have HTW := hide (HT.out.chg hcw (fun h => h))
  have HSN := hide (findN_snoc hnf (by rw [hpl, List.getElem?_reverse hk]; exact hx2) : findN st (ns.reverse.take (pre.length + 1)) = stateL x2 (st.readB x2))
  have HR5 := hide hr5
  have HBL2 := hide hbl2
  have HM := hide hM
  have HLR := hide (HF.out.read x2)
  clear hRD hr5 hbl2 hM hx1 hx2 hnf hbw hcw hmem hxl
  gi_wp2_with (first
   | (refine ⟨trivial, ?_⟩; gi_at_call 71; refine CallsIn.mono (CallsIn.inRound _ (callsIn_wide.2 HRD.out)) ?_; rintro e w3 ⟨v3, rfl, hr3, hb3⟩; have HY3 := hide (by_row hr3); have HB3 := hide hb3; clear hr3 hb3)
   | (refine ⟨trivial, ?_⟩; gi_at_call 89; rw [← str_eq]; refine CallsIn.mono (CallsIn.inRound _ (callsIn_wide.2 (stateOf_any HY3.out (Nat.le_trans HLR.out hU) (HTW.out.below HB3.out HTW.out.lt)))) ?_; rintro e w4 ⟨iv, ok, s, rfl, ho4, hst, hb4⟩; obtain ⟨vo, da, rfl, hn4, hd4, hf40, hf41⟩ := ho4; obtain ⟨pv, nv, cv, rfl⟩ := hn4.ns.sl; obtain ⟨pd, nd, cd, rfl⟩ := hd4.by_.sl; have HST := hide hst; have HB4 := hide (HB3.out.trans (hb4.mono HB3.out.size)); obtain ⟨X, hX⟩ : ∃ X, w4.alloc (.cells #[.int .i64 s.ix, .int .i64 s.tm, .slice pv nv cv, .slice pd nd cd] 86) = X := ⟨_, rfl⟩; have hbX : Below W.heap.size W X := (by rw [← hX]; exact HB4.out.alloc HB4.out.size _); have hsX : X.heap.size = w4.heap.size + 1 := (by rw [← hX]; simp); have hs0 : X.cell? ⟨w4.heap.size, 0, none⟩ = some (.int .i64 s.ix) := (by rw [← hX]; simp); have hs1 : X.cell? ⟨w4.heap.size, 1, none⟩ = some (.int .i64 s.tm) := (by rw [← hX]; simp); have hs2 : X.cell? ⟨w4.heap.size, 2, none⟩ = some (.slice pv nv cv) := (by rw [← hX]; simp); have hs3 : X.cell? ⟨w4.heap.size, 3, none⟩ = some (.slice pd nd cd) := (by rw [← hX]; simp); have hvX := (hbX.cell (lt_of_cell hv)).trans hv; have hrX := (hbX.block b hbW).trans HR5.out; have z0 : X.cell? ⟨b, 0, none⟩ = some (.int .i64 0) := (by rw [cell_of_row X _ 0 _ _ (0, 0) hrX]; rfl); have z1 : X.cell? ⟨b, 1, none⟩ = some (.int .i64 0) := (by rw [cell_of_row X _ 1 _ _ (0, 0) hrX]; rfl); have z2 : X.cell? ⟨b, 2, none⟩ = some (.slice none 0 0) := (by rw [cell_of_row X _ 2 _ _ (0, 0) hrX]; rfl); have z3 : X.cell? ⟨b, 3, none⟩ = some (.slice none 0 0) := (by rw [cell_of_row X _ 3 _ _ (0, 0) hrX]; rfl); have u0 := frozen_of_row X b 0 _ _ hrX; have u1 := frozen_of_row X b 1 _ _ hrX; have u2 := frozen_of_row X b 2 _ _ hrX; have u3 := frozen_of_row X b 3 _ _ hrX; have HBX := hide hbX; have HRX := hide hrX; have HN4 := hide (hn4.below (show Below w4.heap.size w4 X by rw [← hX]; exact balloc (Below.refl _ _) _)); have HD4 := hide (hd4.below (show Below w4.heap.size w4 X by rw [← hX]; exact balloc (Below.refl _ _) _)); have HSX := hide (And.intro hsX hb4.size); clear hn4 hd4 hst hb4 hbX hrX hsX; rcases ok with _ | _))
  ·have hst := HST.out
   simp only [Bool.false_eq_true, if_false] at hst
   exact ⟨M, ⟨HM.out, Nat.lt_of_lt_of_le hbW HBX.out.size, HBL2.out.trans (HBX.out.mono HBL2.out.size), by rw [List.length_append]; exact HSN.out.trans hst⟩, Chg.of_below HBX.out _, fun k hk => .inl hk⟩
  ·have hst := HST.out
   simp only [if_true] at hst
   have hfd := findN_hit (HSN.out.trans hst)
   obtain ⟨hq1, hq2⟩ := setSt (.int .i64 s.ix) (.int .i64 s.tm) (.slice pv nv cv) (.slice pd nd cd) HRX.out
   obtain ⟨F, hF⟩ : ∃ F, ((((X.setCell ⟨b, 0, none⟩ (.int .i64 s.ix)).setCell ⟨b, 1, none⟩ (.int .i64 s.tm)).setCell ⟨b, 2, none⟩ (.slice pv nv cv)).setCell ⟨b, 3, none⟩ (.slice pd nd cd)) = F := ⟨_, rfl⟩
   rw [hF] at hq1 hq2
   rw [hF]
   have hsz3 := HB3.out.size
   have hszF := hq2.size
   have hl1 : ∀ k, (Value.slice pv nv cv).ownBlock = some k → W.heap.size ≤ k ∧ k < F.heap.size := fun k hk => by have := HN4.out.lt k hk; omega
   have hl2 : s.da = [] ∨ ∀ k, (Value.slice pd nd cd).ownBlock = some k → W.heap.size ≤ k ∧ k < F.heap.size := by
    by_cases hd : s.da = []
    ·exact .inl hd
    ·exact .inr fun k hk => by have := HD4.out.lt (List.length_pos_iff.2 hd) k hk; omega
   have hXF : Chg w2 F (fun k => k = b) := (Chg.of_below (HBL2.out.trans (HBX.out.mono HBL2.out.size)) _).then hq2 (fun k h => .inl h)
   have hWF : Chg W F M := (Chg.of_below HBX.out _).then hq2 (fun k h => .inl ((HM.out k).2 h))
   refine ⟨fun k => k = b ∨ (W.heap.size ≤ k ∧ k < F.heap.size), ⟨rfl, s, _, _, hfd, ⟨hq1, HN4.out.ns.chg hq2 (.inr fun k hk => by have := hl1 k hk; omega), HD4.out.by_.chg hq2 (hl2.imp id fun h k hk => by have := h k hk; omega), hf40, hf41⟩, .inr fun k hk => ⟨by have := hl1 k hk; omega, .inr (hl1 k hk)⟩, hl2.imp id fun h k hk => ⟨by have := h k hk; omega, .inr (h k hk)⟩, fun k hk => ?_, hXF⟩, hWF, fun k hk => ?_⟩
   ·rcases hk with rfl | hk
    ·exact ⟨.inl rfl, by have := HBX.out.size; omega⟩
    ·exact ⟨.inr (by omega), hk.2⟩
   ·rcases hk with rfl | hk
    ·exact .inl ((HM.out _).2 rfl)
    ·exact .inr (.inl hk.1)
 case done =>
  rintro pre M W hd ⟨hM, hbW, hbl2, hnf⟩ hnM hsW hdf
  have hc : Chg W (W.putObj w2.heap.size (.deferred none)) (fun k => k = w2.heap.size) := Chg.putObj _
  have hfd : st.found = sn0 := by
   unfold Dk.found
   rw [HNS.out]
   rw [hd, ← List.length_reverse, List.take_length] at hnf
   rw [hnf]; rfl
  have hb2 := Chg.to_below (HB2.out.trans (hbl2.mono HB2.out.size)) hc (fun k e => by omega)
  have HV := hide (H.out.below hb2)
  have HC := hide (Chg.of_below hb2 (fun k => k = b))
  have HFD := hide hfd
  clear hb2 hc hfd hnf
  gi_wp2
  refine ⟨by simp, .inl ⟨_, _, rfl, run_takeDeferred hdf, ?_⟩⟩
  rw [HFD.out]
  exact ⟨_, results_none rfl _ _ _, _, _, ⟨_, rfl⟩, HV.out, .inl rfl, .inl rfl, HC.out⟩
 case stop =>
  rintro c pre M W ⟨rfl, s, vo, da, h1, h2, h3, h4, h5, h6⟩ hnM hsW hdf
  have hc : Chg W (W.putObj w2.heap.size (.deferred none)) (fun k => k = w2.heap.size) := Chg.putObj _
  have hfd : st.found = s := by
   unfold Dk.found
   rw [HNS.out, h1]; rfl
  have hne : ∀ k, w2.heap.size ≤ k ∧ M k → ¬ k = w2.heap.size := fun k h e => by subst e; exact hnM h.2
  have hszp := hc.size
  have hin : ∀ k, w2.heap.size ≤ k ∧ M k → w.heap.size ≤ k ∧ k < (W.putObj w2.heap.size (.deferred none)).heap.size := fun k h => ⟨by omega, by have := (h5 k h.2).2; omega⟩
  have HV : Hid (Vt (W.putObj w2.heap.size (.deferred none)) b vo da s g) := hide ⟨(hc.block b h2.lt (by omega)).trans h2.row, h2.ns.chg hc (h3.mono hne), h2.by_.chg hc (h4.mono hne), h2.f0, h2.f1⟩
  have HL1 := hide (h3.mono hin)
  have HL2 := hide (h4.mono hin)
  have HC : Hid (Chg w (W.putObj w2.heap.size (.deferred none)) (fun k => k = b)) := hide ((((Chg.of_below HB2.out (fun k => k = b)).then h6 (fun k h => .inl h))).then hc (fun k h => .inr (by omega)))
  have HFD := hide hfd
  clear hc hfd h3 h4 h5 h6 hne hin hszp h1 h2
  gi_wp2
  refine ⟨by simp, .inl ⟨_, _, rfl, run_takeDeferred hdf, ?_⟩⟩
  rw [HFD.out]
  exact ⟨_, results_none rfl _ _ _, _, _, ⟨_, rfl⟩, HV.out, HL1.out, HL2.out, HC.out⟩
end Go.Proofs.YtgbdjcekpdfpjaaGreatDoor
namespace Go.Proofs.YtgbdjcekpdfpjaaGreatDoor
open Go.RowKit
def othersL (own : List UInt8) : List (List UInt8) → Dk → Nat × Dk
 | [], st => (0, st)
 | n :: r, st => if n = own then othersL own r st else if (st.drop n).1 = 0 then othersL own r (st.drop n).2 else st.drop n
def Dk.others (st : Dk) (own : List UInt8) : Nat × Dk := othersL own (st.names.filter isV) st
def Dk.openV (st : Dk) : Nat × Dk := if (st.others st.found.name).1 ≠ 0 then st.others st.found.name else (st.others st.found.name).2.sync
def giveUpL (e : Nat) (st : Dk) : Dk := if e = 7 then (st.drop freshN).2.sync.2 else st
def writesL : List (List UInt8) → Nat → Dk → Nat × Dk
 | [], _, st => (0, st)
 | b :: r, a, st => if (st.write freshN a b).1 = 0 then writesL r (a + b.length) (st.write freshN a b).2 else ((st.write freshN a b).1, giveUpL (st.write freshN a b).1 (st.write freshN a b).2)
def seqE (x : Nat × Dk) (f : Dk → Nat × Dk) : Nat × Dk := if x.1 ≠ 0 then x else f x.2
def Dk.keepS (st : Dk) (k : Sn) : Nat × Dk := seqE (seqE (seqE (writesL k.recs 0 st) Dk.sync) fun st => st.move freshN k.name) Dk.sync
def saveL (s : Sn) (st : Dk) (k : Sn) : Nat × Sn × Dk :=
 if k.chk ≠ 0 then (k.chk, s, st) else if k.ix ≤ s.ix then (51, s, st) else
 if (st.keepS k).1 ≠ 0 then ((st.keepS k).1, s, (st.keepS k).2) else
 if 0 < s.ix then (((st.keepS k).2.drop s.name).1, k, ((st.keepS k).2.drop s.name).2) else (0, k, (st.keepS k).2)
section
variable {st : Dk} {n U : Nat}
theorem othersL_fine {own : List UInt8} : ∀ {l : List (List UInt8)} {st : Dk} {n : Nat}, st.Fine n U → n + l.length < 1000000 → (othersL own l st).2.Fine (n + l.length) U
 | [], st, n, h, _ => h
 | a :: r, st, n, h, hn => by
  simp only [List.length_cons] at hn
  unfold othersL
  have hd := h.drop (by omega) a
  split
  ·exact (othersL_fine h (by omega)).mono (by simp) (Nat.le_refl _)
  ·split
   ·exact (othersL_fine hd (by omega)).mono (by simp; omega) (Nat.le_refl _)
   ·exact hd.mono (by simp) (Nat.le_refl _)
theorem Dk.Fine.others (h : st.Fine n U) (hn : n + 4096 < 1000000) (own : List UInt8) : (st.others own).2.Fine (n + 4096) U := by
 have hl : (st.names.filter isV).length ≤ 4096 := Nat.le_trans (List.length_filter_le _ _) (names_few h.ok)
 exact (othersL_fine h (by omega)).mono (by omega) (Nat.le_refl _)
theorem Dk.Fine.openV (h : st.Fine n U) (hn : n + 4096 < 1000000) : st.openV.2.Fine (n + 4096) U := by
 unfold Dk.openV
 split
 ·exact h.others hn _
 ·exact (h.others hn _).sync
theorem Dk.Fine.giveUp (h : st.Fine n U) (hn : n < 1000000) (e : Nat) : (giveUpL e st).Fine (n + 1) U := by
 unfold giveUpL
 split
 ·exact (h.drop hn _).sync
 ·exact h.mono (by omega) (Nat.le_refl _)
theorem writesL_fine : ∀ {l : List (List UInt8)} {a : Nat} {st : Dk} {n U : Nat}, st.Fine n U → n + l.length + 1 < 1000000 → (writesL l a st).2.Fine (n + l.length + 1) (U + l.flatten.length)
 | [], a, st, n, U, h, _ => h.mono (by simp) (by simp)
 | b :: r, a, st, n, U, h, hn => by
  simp only [List.length_cons] at hn
  unfold writesL
  have hd := h.write (by omega) freshN a b
  split
  ·exact (writesL_fine hd (by omega)).mono (by simp; omega) (by simp; omega)
  ·exact (hd.giveUp (by omega) _).mono (by simp) (by simp)
theorem seqE_fine {x : Nat × Dk} {f : Dk → Nat × Dk} {m : Nat} (h : x.2.Fine n U) (hf : (f x.2).2.Fine m U) (hm : n ≤ m) : (seqE x f).2.Fine m U := by
 unfold seqE
 split
 ·exact h.mono hm (Nat.le_refl _)
 ·exact hf
theorem Dk.Fine.keepS (h : st.Fine n U) (k : Sn) (hn : n + k.recs.length + 2 < 1000000) : (st.keepS k).2.Fine (n + k.recs.length + 2) (U + k.file.length) := by
 have h1 := writesL_fine (a := 0) h (l := k.recs) (by omega)
 have h2 := seqE_fine h1 h1.sync (Nat.le_refl _)
 have h3 := seqE_fine (f := fun st => st.move freshN k.name) h2 (h2.move (by omega) freshN k.name) (Nat.le_succ _)
 exact seqE_fine h3 h3.sync (Nat.le_refl _)
theorem saveL_fine (h : st.Fine n U) (s k : Sn) (hn : n + k.recs.length + 3 < 1000000) : (saveL s st k).2.2.Fine (n + k.recs.length + 3) (U + k.file.length) := by
 have h1 := h.keepS k (by omega)
 have h0 := h.mono (m := n + k.recs.length + 3) (V := U + k.file.length) (by omega) (by omega)
 unfold saveL
 split
 ·exact h0
 ·split
  ·exact h0
  ·split
   ·exact h1.mono (by omega) (Nat.le_refl _)
   ·split
    ·exact h1.drop (by omega) _
    ·exact h1.mono (by omega) (Nat.le_refl _)
end
end Go.Proofs.YtgbdjcekpdfpjaaGreatDoor
namespace Go.Proofs.YtgbdjcekpdfpjaaGreatDoor
set_option maxRecDepth 100000
set_option maxHeartbeats 4000000
open Go.RowKit
theorem DPost.go {w w1 : World} {S C : Nat → Prop} {g : Nat} {st : Dk} (h : DPost w S C g st w1) : ∃ S' C', DiskIs w1 S' C' g st ∧ Chg w w1 S ∧ (∀ i, S' i → S i ∨ w.heap.size ≤ i) ∧ (∀ i, C' i → C i ∨ w.heap.size ≤ i) ∧ ∀ st2 w2, DPost w1 S' C' g st2 w2 → DPost w S C g st2 w2 := by
 obtain ⟨S', C', h1, h2, h3, h4⟩ := h
 refine ⟨S', C', h1, h2, h3, h4, fun st2 w2 ⟨S2, C2, k1, k2, k3, k4⟩ => ⟨S2, C2, k1, h2.then k2 h3, fun i hi => ?_, fun i hi => ?_⟩⟩
 ·rcases k3 i hi with h | h
  ·exact h3 i h
  ·exact .inr (Nat.le_trans h2.size h)
 ·rcases k4 i hi with h | h
  ·exact h4 i h
  ·exact .inr (Nat.le_trans h2.size h)
theorem DPost.chg {w w1 w2 : World} {S C : Nat → Prop} {g : Nat} {st : Dk} (h : DPost w S C g st w1) (hc : Chg w1 w2 (fun _ => False)) : DPost w S C g st w2 := by
 obtain ⟨S', C', h1, h2, h3, h4⟩ := h
 exact ⟨S', C', h1.chg hc (fun _ _ h => h) (fun _ _ h => h), h2.then hc (fun _ h => h.elim), h3, h4⟩
theorem DPost.from {w w1 w2 : World} {S C : Nat → Prop} {g : Nat} {st : Dk} (hc : Chg w w1 (fun _ => False)) (h : DPost w1 S C g st w2) : DPost w S C g st w2 := by
 obtain ⟨S', C', h1, h2, h3, h4⟩ := h
 exact ⟨S', C', h1, (hc.mono' fun _ h => h.elim).then h2 (fun _ h => .inl h), fun i hi => (h3 i hi).imp id fun h => Nat.le_trans hc.size h, fun i hi => (h4 i hi).imp id fun h => Nat.le_trans hc.size h⟩
theorem DPost.cg {w w1 : World} {S C : Nat → Prop} {g : Nat} {st : Dk} (h : DPost w S C g st w1) : Chg w w1 S := by
 obtain ⟨S', C', h1, h2, h3, h4⟩ := h
 exact h2
theorem DPost.self {w : World} {S C : Nat → Prop} {g : Nat} {st : Dk} (h : DiskIs w S C g st) : DPost w S C g st w := ⟨S, C, h, Chg.refl _ _, fun i h => .inl h, fun i h => .inl h⟩
theorem othersL_own {own x : List UInt8} {r : List (List UInt8)} {s : Dk} (h : x = own) : othersL own (x :: r) s = othersL own r s := by
 conv => lhs; unfold othersL
 rw [if_pos h]
theorem othersL_go {own x : List UInt8} {r : List (List UInt8)} {s y : Dk} {m : Nat} (h : ¬ x = own) (hm : s.drop x = (m, y)) : othersL own (x :: r) s = if m = 0 then othersL own r y else (m, y) := by
 conv => lhs; unfold othersL
 rw [if_neg h, hm]
def AnP (w : World) (S C : Nat → Prop) (g : Nat) (x : Nat × Dk) (e : Ending) (w' : World) : Prop := e = .returned (.int .i64 (x.1 : Nat)) ∧ DPost w S C g x.2 w'
theorem vothers_any {w : World} {S C : Nat → Prop} {b g : Nat} {ix : Int} {st : Dk} (c0 : w.cell? ⟨b, 0, none⟩ = some (.int .i64 ix)) (c4 : w.cell? ⟨b, 4, none⟩ = some (.pointer (some ⟨g, 0, none⟩))) (hx1 : -1099511627776 ≤ ix) (hx2 : ix ≤ 1099511627776)
  (ho : DiskIs w S C g st) (hbS : ¬ S b) (ht : Tab w) (htS : ¬ S tabG) {n U : Nat} (hf : st.Fine n U) (hn : n ≤ 900000) :
  Calls Tryz.prog 45 #[.pointer (some ⟨b, 0, none⟩)] w (AnP w S C g (st.others (if 0 < ix then nameL ix else []))) := by
 have hbl := lt_of_cell c0
 have HF := hide hf
 have HO := hide ho
 have HT := hide ht
 have C0 := hide c0
 have C4 := hide c4
 obtain ⟨ns, hns⟩ : ∃ ns, st.names.filter isV = ns := ⟨_, rfl⟩
 have HFI := hide (vfiles_any c4 ho (Nat.le_trans (names_few ho.ok) (by omega)))
 rw [hns] at HFI
 have HNL : Hid (ns.length ≤ 4096) := hide (by rw [← hns]; exact Nat.le_trans (List.length_filter_le _ _) (names_few ho.ok))
 have HNM : Hid (∀ x ∈ ns, okN x = true) := hide fun x hx => hf.names (by rw [← hns] at hx; exact (List.mem_filter.1 hx).1)
 obtain ⟨own, hown⟩ : ∃ own, (if 0 < ix then nameL ix else []) = own := ⟨_, rfl⟩
 have HOW : Hid (st.others own = othersL own ns st) := hide (by unfold Dk.others; rw [hns])
 have hfv : fileV ix = .string (str own) := by unfold fileV; rw [hown]
 rw [hown]
 have HFV := hide hfv
 clear ho ht hf c0 c4 hns hown hfv
 go_enter Tryz.func45, Tryz.ntmps45
 go_wp2_with (go_at_call 88; refine HFI.out.mono ?_; rintro e w1 ⟨v1, rfl, hs1, hb1⟩; obtain ⟨p1, c1, rfl, hp1, hc1, hS1⟩ := hs1.sl; have HS1 := hide hS1; have HP1 := hide hp1; have HC1 := hide hc1; have HB1 := hide hb1; clear hs1 hb1 hS1 hp1 hc1)
 go_loopw [9] (fun v wr => ∃ (k : Nat) (sk : Dk), k ≤ ns.length ∧ v = .int .i64 k ∧ othersL own (ns.drop k) sk = othersL own ns st ∧ sk.Fine (n + k) U ∧ DPost w1 S C g sk wr) (fun v _ => ns.length - (intOf v).toNat)
 case atStart => exact ⟨0, st, Nat.zero_le _, rfl, rfl, HF.out, DPost.self (HO.out.chg (Chg.of_below HB1.out _) (fun _ _ h => h) (fun _ _ h => h))⟩
 case round =>
  obtain ⟨k, sk, hk, rfl, hoth, hfk, hdp⟩ := hrel
  have hnl := HNL.out
  have HDP := hide hdp
  have HFK := hide hfk
  have HOT := hide hoth
  have hcw : Chg w wr S := (Chg.of_below HB1.out S).then hdp.cg (fun k h => .inl h)
  clear hdp hfk hoth
  by_cases hlt : k < ns.length
  ·obtain ⟨x, hx⟩ : ∃ x, ns[k]? = some x := ⟨_, List.getElem?_eq_getElem hlt⟩
   obtain ⟨gl, rfl, hg1, hg2⟩ := HP1.out (by omega)
   have hel : wr.cell? ⟨gl, k, none⟩ = some (.string (str x)) := by
    have := HS1.out gl rfl k x hx
    rw [Nat.zero_add, ← str_eq] at this
    exact HDP.out.cg.cell this (fun (h : S gl) => by have := HO.out.sap _ h; omega)
   have hd0 := hcw.cell C0.out hbS
   have hd4 := hcw.cell C4.out hbS
   have HTR := hide (HT.out.chg hcw htS)
   have HXN := hide (HNM.out x (List.mem_of_getElem? hx))
   have hdr : ns.drop k = x :: ns.drop (k + 1) := by rw [List.drop_eq_getElem_cons hlt]; congr 1; rw [List.getElem?_eq_getElem hlt] at hx; exact Option.some.inj hx
   have HDR := hide hdr
   have e9 : decide ((k : Int) < (ns.length : Int)) = true := by simpa using hlt
   clear hdr hx
   by_cases hxo : x = own
   ·have eq1 : ((str x).toList == (str own).toList) = true := by rw [str_beq]; exact decide_eq_true hxo
    go_wp2_with (go_at_call 63; refine (file_any hd0 hx1 hx2 HTR.out).mono ?_; rw [HFV.out]; rintro e w2 ⟨rfl, hb2⟩; have HB2 := hide hb2; clear hb2)
    go_roundw
    case rel => exact ⟨k + 1, sk, by omega, by go_num, by have := HOT.out; rw [HDR.out, othersL_own hxo] at this; exact this, HFK.out.mono (by omega) (Nat.le_refl _), HDP.out.chg (Chg.of_below HB2.out _)⟩
    case measure => simp [intOf] <;> omega
   ·have eq1 : ((str x).toList == (str own).toList) = false := by rw [str_beq]; exact decide_eq_false hxo
    obtain ⟨S', C', hd, hcg, hS', hC', hback⟩ := HDP.out.go
    have hcal := HFK.out.calm (by omega)
    have hxl := okN_len HXN.out
    have hod : ∀ w2, Below wr.heap.size wr w2 → Calls Tryz.prog 62 #[.pointer (some ⟨g, 0, none⟩), .string (str x)] w2 (AnP w1 S C g (sk.drop x)) := fun w2 hb2 => by
     have hc2 := Chg.of_below hb2 (fun _ => False)
     have := drop_call (s := str x) (hd.chg hc2 (fun _ _ h => h) (fun _ _ h => h)) (by rw [str_eq]; show x.toArray.size ≤ maxLen; simp [maxLen]; omega) hcal.few hcal.k1 hcal.k2 hcal.t1 hcal.t2
     rw [show (str x).data.toList = x by rw [str_eq]] at this
     exact this.mono fun e w3 h => ⟨h.1, hback _ _ (h.2.from hc2)⟩
    have HOD := hide hod
    have HFD := hide (HFK.out.drop (by omega) x)
    obtain ⟨m, y, hm⟩ : ∃ m y, sk.drop x = (m, y) := ⟨_, _, rfl⟩
    have HSP : Hid ((if m = 0 then othersL own (ns.drop (k + 1)) y else (m, y)) = othersL own ns st) := hide (by have := HOT.out; rw [HDR.out, othersL_go hxo hm] at this; exact this)
    rw [hm] at HOD HFD
    clear hd hcg hS' hC' hback hcal hxl hod hm
    go_wp2_with (first
     | (go_at_call 63; refine (file_any hd0 hx1 hx2 HTR.out).mono ?_; rw [HFV.out]; rintro e w2 ⟨rfl, hb2⟩; have hd4' := (hb2.cell (lt_of_cell hd4)).trans hd4; have HB2 := hide hb2; clear hb2)
     | (go_at_call 62; refine (HOD.out _ HB2.out).mono ?_; rintro e w3 ⟨rfl, hp3⟩; have HP3 := hide hp3; clear hp3; by_cases hm : m = 0; (subst hm; have e0 : (((0 : Nat) : Int) != 0) = false := rfl); rotate_left; (have e0 : ((m : Int) != 0) = true := (by simpa using hm)); rotate_left))
    ·go_roundw
     case rel => exact ⟨k + 1, y, by omega, by go_num, by have := HSP.out; simpa using this, HFD.out.mono (by omega) (Nat.le_refl _), HP3.out⟩
     case measure => simp [intOf] <;> omega
    ·go_ret
     have h2 := HSP.out
     rw [if_neg hm] at h2
     rw [HOW.out, ← h2]
     exact ⟨rfl, HP3.out.from (Chg.of_below HB1.out _)⟩
  ·obtain rfl : k = ns.length := by omega
   have e9 : decide ((ns.length : Int) < (ns.length : Int)) = false := by simp
   go_wp2
   go_ret
   have h2 := HOT.out
   rw [List.drop_length] at h2
   rw [HOW.out, ← h2]
   exact ⟨rfl, HDP.out.from (Chg.of_below HB1.out _)⟩
theorem vgiveUp_any {w : World} {S C : Nat → Prop} {b g e : Nat} {st : Dk} (c4 : w.cell? ⟨b, 4, none⟩ = some (.pointer (some ⟨g, 0, none⟩))) (hbS : ¬ S b)
  (ho : DiskIs w S C g st) {n U : Nat} (hf : st.Fine n U) (hn : n ≤ 900000) :
  Calls Tryz.prog 97 #[.pointer (some ⟨b, 0, none⟩), .int .i64 e] w fun v w' => v = .returned (.tuple #[]) ∧ DPost w S C g (giveUpL e st) w' := by
 have HO := hide ho
 have hcal := hf.calm (by omega)
 have HD := hide (drop_call (s := str freshN) ho (by rw [str_eq]; decide) hcal.few hcal.k1 hcal.k2 hcal.t1 hcal.t2)
 rw [show (str freshN).data.toList = freshN by rw [str_eq]] at HD
 have HFD := hide (hf.drop (by omega) freshN)
 have HC4 := hide c4
 clear ho hf hcal
 by_cases he : e = 7
 ·subst he
  have e0 : (((7 : Nat) : Int) != 7) = false := rfl
  have hg : giveUpL 7 st = (st.drop freshN).2.sync.2 := by unfold giveUpL; rw [if_pos rfl]
  have HG := hide hg
  clear hg
  go_enter Tryz.func97, Tryz.ntmps97
  go_wp2_with (first
   | (go_at_call 62; refine HD.out.mono ?_; rintro e w3 ⟨rfl, hp3⟩; have hc4 := hp3.cg.cell HC4.out hbS; have HP3 := hide hp3; clear hp3)
   | (go_at_call 34; obtain ⟨S', C', hd, hcg, hS', hC', hback⟩ := HP3.out.go; have hcal := HFD.out.calm (by omega); refine (sync_call hd hcal.k1 hcal.k2 hcal.t1 hcal.t2).mono ?_; rintro e w4 ⟨rfl, hp4⟩; have HP4 := hide (hback _ _ hp4); clear hp4 hback))
  go_end0
  rw [HG.out]
  exact ⟨rfl, HP4.out⟩
 ·have e0 : ((e : Int) != 7) = true := by simp; omega
  have hg : giveUpL e st = st := by unfold giveUpL; rw [if_neg he]
  have HG := hide hg
  clear hg
  go_enter Tryz.func97, Tryz.ntmps97
  go_wp2
  refine bodyPost_ret (results_none rfl _ _ _) rfl ?_
  rw [HG.out]
  exact ⟨rfl, DPost.self HO.out⟩
theorem nameL_len {ix : Int} (h1 : 0 ≤ ix) (h2 : ix ≤ 1099511627776) : (nameL ix).length ≤ 30 := by
 unfold nameL
 rw [List.length_append, List.length_drop]
 have : (Lib.itoa (10000000000000 + ix)).length ≤ 20 := by
  unfold Lib.itoa
  rw [if_neg (by omega)]
  have := decDigits_len 13 (10000000000000 + ix).toNat (by omega)
  omega
 simp [pre5]
 omega
theorem vname_any {w : World} {S C : Nat → Prop} {b g : Nat} {ix : Int} {st : Dk} (c0 : w.cell? ⟨b, 0, none⟩ = some (.int .i64 ix)) (c4 : w.cell? ⟨b, 4, none⟩ = some (.pointer (some ⟨g, 0, none⟩))) (hx1 : 0 < ix) (hx2 : ix ≤ 1099511627776)
  (ho : DiskIs w S C g st) (hbS : ¬ S b) (ht : Tab w) {n U : Nat} (hf : st.Fine n U) (hn : n ≤ 900000) :
  Calls Tryz.prog 60 #[.pointer (some ⟨b, 0, none⟩)] w (AnP w S C g (st.move freshN (nameL ix))) := by
 have hfv : fileV ix = .string (str (nameL ix)) := by unfold fileV; rw [if_pos hx1]
 have hix : -1099511627776 ≤ ix := by omega
 have hcal := hf.calm (by omega)
 have hnl := nameL_len (ix := ix) (by omega) hx2
 have HMV := hide (fun (W : World) (hW : Below w.heap.size w W) => (move_call (s := { data := #[115, 110, 97, 112, 46, 110, 101, 119] }) (t := str (nameL ix)) (ho.chg (Chg.of_below hW _) (fun _ _ h => h) (fun _ _ h => h)) (by decide) (by rw [str_eq]; show (nameL ix).toArray.size ≤ maxLen; simp [maxLen]; omega) hcal.few hcal.k1 hcal.k2 hcal.t1 hcal.t2))
 rw [show ({ data := #[115, 110, 97, 112, 46, 110, 101, 119] } : ByteArray).data.toList = freshN from rfl, show (str (nameL ix)).data.toList = nameL ix by rw [str_eq]] at HMV
 have HFL := hide (fun (W : World) (hW : Below w.heap.size w W) => file_any ((hW.cell (lt_of_cell c0)).trans c0) hix hx2 (ht.below hW ht.lt))
 rw [hfv] at HFL
 have C4 := hide (fun (W : World) (hW : Chg w W S) => hW.cell c4 hbS)
 clear ho ht hf hcal hfv c0 hnl
 go_enter Tryz.func60, Tryz.ntmps60
 go_wp2_with fail
 go_region_held3 (fun W => W.cell? ⟨b, 4, none⟩ = some (.pointer (some ⟨g, 0, none⟩))) (first | assumption | exact C4.out _ (by first | exact Chg.refl _ _ | exact (Chg.refl _ _).drewN _ | exact Chg.of_below HB2.out _ | exact hc3)) (first
  | (go_at_call 63; refine (HFL.out _ (by first | exact Below.refl _ _ | exact below_drewN (Below.refl _ _) _)).mono ?_; rintro e w2 ⟨rfl, hb2⟩; have HB2 := hide ((below_drewN (Below.refl w.heap.size w) 1).trans hb2); clear hb2)
  | (go_at_call 98; refine (HMV.out _ HB2.out).mono ?_; rintro e w3 ⟨rfl, hp3⟩; have hc3 := (Chg.of_below HB2.out S).then hp3.cg (fun k h => .inl h); have HP3 := hide (hp3.from (Chg.of_below HB2.out _))))
 go_wp2
 go_ret
 exact ⟨rfl, HP3.out⟩
end Go.Proofs.YtgbdjcekpdfpjaaGreatDoor
namespace Go.Proofs.YtgbdjcekpdfpjaaGreatDoor
open Go.RowKit
def StepV (x : Nat × Array Value) : Value := .func (.func x.1) x.2 #[]
def DoP (I : Nat → World → Prop) (F : Int → World → Prop) (n : Nat) (e : Ending) (w' : World) : Prop := ∃ m : Int, e = .returned (.int .i64 m) ∧ (m = 0 → I n w') ∧ (m ≠ 0 → F m w')
set_option maxRecDepth 100000 in
set_option maxHeartbeats 2000000 in
theorem turnDo_any {w : World} {g : Nat} (fs : List (Nat × Array Value)) (hf : fs.length ≤ 10) (I : Nat → World → Prop) (F : Int → World → Prop) (h0 : I 0 w)
  (hen : ∀ x ∈ fs, ∀ args w, (callFunc x.1 args).run Tryz.prog w = .ok (.enter x.1 args) w)
  (hrow : ∀ k x W, fs[k]? = some x → I k W → W.cell? ⟨g, k, none⟩ = some (StepV x))
  (hstep : ∀ k x W, fs[k]? = some x → I k W → Calls Tryz.prog x.1 x.2 W (DoP (fun _ W' => I (k + 1) W') F 0)) :
  Calls Tryz.prog 44 #[.slice (some ⟨g, 0, none⟩) fs.length fs.length] w (DoP I F fs.length) := by
 have H0 := hide h0
 have HR := hide hrow
 have HS := hide hstep
 have HE := hide hen
 clear h0 hrow hstep hen
 go_enter Tryz.func44, Tryz.ntmps44
 go_wp2
 go_loopw [8] (fun v wr => ∃ k : Nat, k ≤ fs.length ∧ v = .int .i64 k ∧ I k wr) (fun v _ => fs.length - (intOf v).toNat)
 case atStart => exact ⟨0, Nat.zero_le _, rfl, H0.out⟩
 case round =>
  obtain ⟨k, hk, rfl, hI⟩ := hrel
  have HI := hide hI
  clear hI
  by_cases hlt : k < fs.length
  ·obtain ⟨⟨f, a⟩, hx⟩ : ∃ x, fs[k]? = some x := ⟨_, List.getElem?_eq_getElem hlt⟩
   have hc := HR.out k _ _ hx HI.out
   have hC := HS.out k _ _ hx HI.out
   have hE := HE.out (f, a) (List.mem_of_getElem? hx)
   unfold StepV at hc
   dsimp only at hc hC hE
   have HC := hide hC
   clear hC
   go_wp2_with (refine HC.out.mono ?_; rintro e w1 ⟨m, rfl, hm0, hm1⟩; by_cases hm : m = 0; (have HM0 := hide (hm0 hm); subst hm; clear hm0 hm1); rotate_left; (have HM1 := hide (hm1 hm); have em : (m != 0) = true := (by simpa using hm); have HM := hide hm; clear hm hm0 hm1); rotate_left)
   ·go_roundw
    case rel => exact ⟨k + 1, by omega, by go_num, HM0.out⟩
    case measure => simp [intOf] <;> omega
   ·go_ret
    exact ⟨m, rfl, fun h => absurd h HM.out, fun _ => HM1.out⟩
  ·obtain rfl : k = fs.length := by omega
   go_wp2
   go_ret
   exact ⟨0, rfl, fun _ => HI.out, fun h => absurd rfl h⟩
end Go.Proofs.YtgbdjcekpdfpjaaGreatDoor
namespace Go.Proofs.YtgbdjcekpdfpjaaGreatDoor
open Go.RowKit
structure Va (w : World) (S C : Nat → Prop) (b g : Nat) (s : Sn) (st : Dk) : Prop where
 di : DiskIs w S C g st
 nb : ¬ S b ∧ ¬ C b
 vt : ∃ vo da, Vt w b vo da s g ∧ Lies (fun k => ¬ S k ∧ k ≠ b ∧ k < w.heap.size) vo s.vo ∧ Lies (fun k => ¬ S k ∧ k ≠ b ∧ k < w.heap.size) da s.da
theorem Va.chg {w w' : World} {S C : Nat → Prop} {b g : Nat} {s : Sn} {st : Dk} (h : Va w S C b g s st) (hc : Chg w w' (fun _ => False)) : Va w' S C b g s st := by
 obtain ⟨vo, da, h1, h2, h3⟩ := h.vt
 have hl : ∀ k, (¬ S k ∧ k ≠ b ∧ k < w.heap.size) → ¬ S k ∧ k ≠ b ∧ k < w'.heap.size := fun k hk => ⟨hk.1, hk.2.1, Nat.lt_of_lt_of_le hk.2.2 hc.size⟩
 exact ⟨h.di.chg hc (fun _ _ h => h) (fun _ _ h => h), h.nb, vo, da, ⟨(hc.block b h1.lt (fun h => h)).trans h1.row, h1.ns.chg hc (h2.mono fun _ _ h => h), h1.by_.chg hc (h3.mono fun _ _ h => h), h1.f0, h1.f1⟩, h2.mono hl, h3.mono hl⟩
theorem stateL_some {n b : List UInt8} {s : Sn} (h : stateL n b = some s) : s.chk = 0 ∧ s.name = n ∧ s.file = b := by
 unfold stateL at h
 cases hr : readB 7 b with
 | none => rw [hr] at h; cases h
 | some s' =>
  rw [hr] at h
  simp only [Option.bind_some] at h
  split at h
  ·rename_i hn
   obtain rfl := Option.some.inj h
   refine ⟨?_, hn, ?_⟩
   all_goals
    unfold readB at hr
    split at hr
    ·cases hr
    ·split at hr
     ·rename_i hc
      obtain rfl := Option.some.inj hr
      first | exact hc.1 | exact hc.2
     ·cases hr
  ·cases h
theorem findN_in {st : Dk} {s : Sn} : ∀ {l : List (List UInt8)}, findN st l = some s → ∃ n, n ∈ l ∧ stateL n (st.readB n) = some s
 | [], h => by simp [findN] at h
 | a :: r, h => by
  unfold findN at h
  cases ha : stateL a (st.readB a) with
  | some s' =>
   rw [ha] at h
   obtain rfl := Option.some.inj h
   exact ⟨a, List.mem_cons_self .., ha⟩
  | none =>
   rw [ha] at h
   obtain ⟨n, h1, h2⟩ := findN_in h
   exact ⟨n, List.mem_cons_of_mem _ h1, h2⟩
theorem found_cases (st : Dk) : st.found = sn0 ∨ (st.found.chk = 0 ∧ st.found.name ∈ st.names ∧ st.found.file = st.readB st.found.name) := by
 unfold Dk.found
 cases h : findN st (st.names.filter isV).reverse with
 | none => exact .inl rfl
 | some s =>
  obtain ⟨n, h1, h2⟩ := findN_in h
  obtain ⟨h3, rfl, h5⟩ := stateL_some h2
  exact .inr ⟨h3, (List.mem_filter.1 (List.mem_reverse.1 h1)).1, h5⟩
theorem chk_ix {s : Sn} (h : s.chk = 0) : 1 ≤ s.ix ∧ s.ix ≤ 1099511627776 := by
 unfold Sn.chk at h
 split at h
 ·rename_i hc
  simp only [Bool.and_eq_true, decide_eq_true_eq] at hc
  exact hc.1.1
 ·cases h
theorem found_ix (st : Dk) : 0 ≤ st.found.ix ∧ st.found.ix ≤ 1099511627776 := by
 rcases found_cases st with h | h
 ·rw [h]; unfold sn0; decide
 ·have := chk_ix h.1; omega
def OpP (w : World) (S C : Nat → Prop) (g : Nat) (st : Dk) (e : Ending) (w' : World) : Prop :=
 (st.openV.1 ≠ 0 ∧ e = .returned (.tuple #[.pointer none, .int .i64 (st.openV.1 : Nat)]) ∧ DPost w S C g st.openV.2 w') ∨
 (st.openV.1 = 0 ∧ ∃ b S' C', e = .returned (.tuple #[.pointer (some ⟨b, 0, none⟩), .int .i64 0]) ∧ Va w' S' C' b g st.found st.openV.2 ∧ w.heap.size ≤ b ∧ Chg w w' S ∧ (∀ i, S' i → S i ∨ w.heap.size ≤ i) ∧ (∀ i, C' i → C i ∨ w.heap.size ≤ i) ∧
  ∃ vo da, Vt w' b vo da st.found g ∧ Lies (fun k => w.heap.size ≤ k) vo st.found.vo ∧ Lies (fun k => w.heap.size ≤ k) da st.found.da)
def opI (w3 : World) (S C : Nat → Prop) (g : Nat) (st : Dk) : Nat → World → Prop
 | 0, W => W = w3
 | 1, W => (st.others st.found.name).1 = 0 ∧ DPost w3 S C g (st.others st.found.name).2 W
 | _, W => st.openV.1 = 0 ∧ DPost w3 S C g st.openV.2 W
def opF (w3 : World) (S C : Nat → Prop) (g : Nat) (st : Dk) (m : Int) (W : World) : Prop := m = (st.openV.1 : Nat) ∧ DPost w3 S C g st.openV.2 W
set_option maxRecDepth 100000 in
set_option maxHeartbeats 4000000 in
theorem vopen_any {w : World} {S C : Nat → Prop} {g : Nat} {st : Dk} (ho : DiskIs w S C g st) (ht : Tab w) (htS : ¬ S tabG) {n U : Nat} (hf : st.Fine n U) (hn : n ≤ 800000) (hU : U ≤ 900000) :
  Calls Tryz.prog 15 #[.pointer (some ⟨g, 0, none⟩)] w (OpP w S C g st) := by
 obtain ⟨W1, hW1⟩ : ∃ W1, w.alloc (.cells #[.int .i64 0, .int .i64 0, .slice none 0 0, .slice none 0 0, .pointer (some ⟨g, 0, none⟩)] 88) = W1 := ⟨_, rfl⟩
 have hb1 : Below w.heap.size w W1 := by rw [← hW1]; exact balloc (Below.refl _ _) _
 have hr1 : W1.heap[w.heap.size]? = some (.cells #[.int .i64 0, .int .i64 0, .slice none 0 0, .slice none 0 0, .pointer (some ⟨g, 0, none⟩)] 88 (0, 0)) := by rw [← hW1]; exact Array.getElem?_push_size
 have hs1 : W1.heap.size = w.heap.size + 1 := by rw [← hW1]; simp
 have htl := ht.lt
 have hbS : ¬ S w.heap.size := fun h => by have := ho.sap _ h; omega
 have hbC : ¬ C w.heap.size := fun h => by have := ho.cap _ h; omega
 have hc1 := Chg.of_below hb1 (fun _ => False)
 have hd1 := ho.chg hc1 (fun _ _ h => h) (fun _ _ h => h)
 have HFD := hide (vfind_any (w := W1) (b := w.heap.size) ⟨hr1, Ns.nil _, By.nil _, by unfold fits; decide, by unfold fits; decide⟩ hd1 hbS hbC (ht.chg hc1 (fun h => h)) (by omega) hf hU)
 have HO := hide hd1
 have HT := hide (ht.chg hc1 (fun h => h))
 have HF := hide hf
 have HB1 := hide hb1
 clear ho ht hf hb1 hr1 hc1 hd1
 go_enter Tryz.func15, Tryz.ntmps15
 have hb0 : ∃ b, w.heap.size = b := ⟨_, rfl⟩
 go_wp2_with (go_at_call 43; refine HFD.out.mono ?_; rintro e w2 ⟨vo, da, ⟨v, rfl⟩, hv2, hl1, hl2, hc2⟩; have HV2 := hide hv2; have HL1 := hide hl1; have HL2 := hide hl2; have HC2 := hide hc2; clear hv2 hl1 hl2 hc2 hW1 HFD)
 obtain ⟨b, hb⟩ := hb0
 obtain ⟨W3, hW3⟩ : ∃ W3, w2.alloc (.cells #[StepV (45, #[.pointer (some ⟨b, 0, none⟩)]), StepV (34, #[.pointer (some ⟨g, 0, none⟩)])] 54) = W3 := ⟨_, rfl⟩
 rw [hb] at HV2 HC2 hbS hbC hs1 htl ⊢
 have hr3 : W3.heap[w2.heap.size]? = some (.cells #[StepV (45, #[.pointer (some ⟨b, 0, none⟩)]), StepV (34, #[.pointer (some ⟨g, 0, none⟩)])] 54 (0, 0)) := by rw [← hW3]; exact Array.getElem?_push_size
 have hb3 : Below w2.heap.size w2 W3 := by rw [← hW3]; exact balloc (Below.refl _ _) _
 have hs3 : W3.heap.size = w2.heap.size + 1 := by rw [← hW3]; simp
 have hs2 := HC2.out.size
 have hc3 : Chg W1 W3 (fun k => k = b) := HC2.out.then (Chg.of_below hb3 (fun _ => False)) fun _ h => h.elim
 have HV3 := hide (HV2.out.below hb3)
 have HD3 := hide (HO.out.chg hc3 (fun k hk e => hbS (e ▸ hk)) (fun k hk e => hbC (e ▸ hk)))
 have HT3 := hide (HT.out.chg hc3 (show ¬ tabG = b by omega))
 have hx0 : 0 ≤ st.found.ix ∧ st.found.ix ≤ 1099511627776 := found_ix st
 have HX := hide hx0
 have hown : (if 0 < st.found.ix then nameL st.found.ix else []) = st.found.name := rfl
 have hOT : ∀ W, W = W3 → Calls Tryz.prog 45 #[.pointer (some ⟨b, 0, none⟩)] W (AnP W3 S C g (st.others st.found.name)) := fun W e => by
  subst e
  exact vothers_any HV3.out.c0 HV3.out.c4 (by have := HX.out; omega) HX.out.2 HD3.out hbS HT3.out htS HF.out (by omega)
 have hSY : ∀ W, DPost W3 S C g (st.others st.found.name).2 W → Calls Tryz.prog 34 #[.pointer (some ⟨g, 0, none⟩)] W (AnP W3 S C g (st.others st.found.name).2.sync) := fun W hp => by
  obtain ⟨S', C', hd, hcg, hS', hC', hback⟩ := hp.go
  have hcal := (HF.out.others (by omega) st.found.name).calm (by omega)
  exact (sync_call hd hcal.k1 hcal.k2 hcal.t1 hcal.t2).mono fun e w' h => ⟨h.1, hback _ _ h.2⟩
 have hDO := turnDo_any (w := W3) (g := w2.heap.size) [(45, #[.pointer (some ⟨b, 0, none⟩)]), (34, #[.pointer (some ⟨g, 0, none⟩)])] (by simp) (opI W3 S C g st) (opF W3 S C g st) rfl
  (by
   intro x hx
   rcases List.mem_cons.1 hx with rfl | hx
   ·exact enters_of Tryz.func45 (by kernel_rfl) rfl
   ·rw [List.mem_singleton.1 hx]; exact enters_of Tryz.func34 (by kernel_rfl) rfl)
  (by
   intro k x W hk hI
   have hr : W.heap[w2.heap.size]? = W3.heap[w2.heap.size]? := by
    have hn : ¬ S w2.heap.size := fun h => by have := HO.out.sap _ h; omega
    match k, hI with
    | 0, h => rw [show W = W3 from h]
    | 1, h => exact h.2.cg.block _ (by omega) hn
    | k + 2, h => exact h.2.cg.block _ (by omega) hn
   rw [cell_of_row W w2.heap.size k _ _ (0, 0) (hr.trans hr3)]
   match k, hk with
   | 0, hk => simp at hk; rw [← hk]; rfl
   | 1, hk => simp at hk; rw [← hk]; rfl
   | k + 2, hk => simp at hk)
  (by
   intro k x W hk hI
   match k, hk, hI with
   | 0, hk, hI =>
    simp at hk
    subst hk
    refine (hOT W hI).mono ?_
    rintro e w' ⟨rfl, hp⟩
    refine ⟨_, rfl, fun h => ⟨by omega, hp⟩, fun h => ?_⟩
    have ho : st.openV = st.others st.found.name := by unfold Dk.openV; rw [if_pos (by omega)]
    exact ⟨by rw [ho], by rw [ho]; exact hp⟩
   | 1, hk, hI =>
    simp at hk
    subst hk
    refine (hSY W hI.2).mono ?_
    rintro e w' ⟨rfl, hp⟩
    have ho : st.openV = (st.others st.found.name).2.sync := by unfold Dk.openV; rw [if_neg (by have := hI.1; omega)]
    refine ⟨_, rfl, fun h => ⟨by rw [ho]; omega, by rw [ho]; exact hp⟩, fun h => ⟨by rw [ho], by rw [ho]; exact hp⟩⟩
   | k + 2, hk, hI => simp at hk)
 have HDO := hide hDO
 have HW3 : Hid (w2.alloc (.cells #[.func (.func 45) #[.pointer (some ⟨b, 0, none⟩)] #[], .func (.func 34) #[.pointer (some ⟨g, 0, none⟩)] #[]] 54) = W3) := hide hW3
 have HC3 := hide hc3
 have HB := hide hb
 clear hOT hSY hDO hown hx0 hr3 hb3 hc3 hW3 hb
 go_wp2_with (go_at_call 44; rw [HW3.out]; refine HDO.out.mono ?_; rintro e w4 ⟨m, rfl, hm0, hm1⟩; by_cases hm : m = 0; (have HM0 := hide (hm0 hm); subst hm; clear hm0 hm1); rotate_left; (have HM1 := hide (hm1 hm); have em : (m != 0) = true := (by simpa using hm); have HM := hide hm; clear hm hm0 hm1); rotate_left)
 ·refine bodyPost_ret (v := .tuple #[.pointer (some ⟨b, 0, none⟩), .int .i64 0]) (by simp [results, Tryz.results15, go_sem]) rfl ?_
  obtain ⟨h0, hp⟩ : st.openV.1 = 0 ∧ DPost W3 S C g st.openV.2 w4 := HM0.out
  obtain ⟨S', C', hd, hc, hS', hC'⟩ := hp
  have hbb := HB.out
  have hSl : ∀ k, S k → k < w.heap.size := fun k h => by
   by_cases hk : k < w.heap.size
   ·exact hk
   ·have := HO.out.sap k h
    have : k = w.heap.size := by omega
    subst this
    rw [hbb] at h
    exact absurd h hbS
  have hvl : ∀ k, W1.heap.size ≤ k ∧ k < w2.heap.size → ¬ S k := fun k h h' => by have := hSl k h'; omega
  have hvl' : ∀ k, W1.heap.size ≤ k ∧ k < w2.heap.size → ¬ S' k ∧ k ≠ b ∧ k < w4.heap.size := fun k h => ⟨fun h' => by
   rcases hS' k h' with h1 | h1
   ·exact hvl k h h1
   ·omega, by omega, by have := hc.size; omega⟩
  have hbW : b < W3.heap.size := by omega
  have hvt : Vt w4 b vo da st.found g := ⟨(hc.block b hbW hbS).trans HV3.out.row, HV3.out.ns.chg hc (HL1.out.mono hvl), HV3.out.by_.chg hc (HL2.out.mono hvl), HV3.out.f0, HV3.out.f1⟩
  have hcw : Chg w w4 S := ((Chg.of_below HB1.out S).then HC3.out (fun k h => .inr (by omega))).then hc (fun k h => .inl h)
  refine .inr ⟨h0, b, S', C', rfl, ⟨hd, ⟨fun h => ?_, fun h => ?_⟩, vo, da, hvt, HL1.out.mono hvl', HL2.out.mono hvl'⟩, by omega, hcw, fun k hk => ?_, fun k hk => ?_, vo, da, hvt, HL1.out.mono fun k h => by omega, HL2.out.mono fun k h => by omega⟩
  ·rcases hS' b h with h | h
   ·exact hbS h
   ·omega
  ·rcases hC' b h with h | h
   ·exact hbC h
   ·omega
  ·exact (hS' k hk).imp id fun h => by omega
  ·exact (hC' k hk).imp id fun h => by omega
 ·refine bodyPost_ret (v := .tuple #[.pointer none, .int .i64 m]) (by simp [results, Tryz.results15, go_sem]) rfl ?_
  obtain ⟨h0, hp⟩ : m = (st.openV.1 : Nat) ∧ DPost W3 S C g st.openV.2 w4 := HM1.out
  obtain ⟨S', C', hd, hc, hS', hC'⟩ := hp
  have hbb := HB.out
  refine .inl ⟨fun h => HM.out (by rw [h0, h]; rfl), by rw [h0], S', C', hd, ((Chg.of_below HB1.out S).then HC3.out (fun k h => .inr (by omega))).then hc (fun k h => .inl h), fun k hk => ?_, fun k hk => ?_⟩
  ·exact (hS' k hk).imp id fun h => by omega
  ·exact (hC' k hk).imp id fun h => by omega
end Go.Proofs.YtgbdjcekpdfpjaaGreatDoor
