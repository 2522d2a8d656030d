import Derived.Test.YtionbmlicmibgaaGreatDoorMcChk
namespace Go.Proofs.YtionbmlicmibgaaGreatDoor
set_option linter.unusedVariables false
set_option linter.unusedSimpArgs false
open Go.RowKit
theorem nmB_len : ∀ l : List Int, (∀ n ∈ l, 0 ≤ n ∧ n ≤ 9223372036854775807) → (nmB l).length ≤ 9 * l.length
 | [], _ => by simp [nmB]
 | n :: l, h => by
  have h1 := nmB_len l fun m hm => h m (List.mem_cons_of_mem _ hm)
  have h2 := h n (List.mem_cons_self ..)
  have h3 := digits_length n.toNat (by omega)
  rw [nmB_cons, List.length_append, List.length_cons]
  omega
set_option maxRecDepth 200000 in
set_option maxHeartbeats 4000000 in
theorem nums_any {B0 : Nat} {w : World} {v u : Value} {B : List UInt8} {l : List Int} (hv : Own B0 w v B) (hB0 : B0 ≤ w.heap.size) (hu : Ns w u l) (hn : ∀ n ∈ l, 0 ≤ n) (hb : B.length + 9 * l.length ≤ 1100000) :
  Calls Tryz.prog 55 #[v, u] w fun e w' => ∃ p n c, e = .returned (.slice p n c) ∧ Own B0 w' (.slice p n c) (B ++ nmB l) ∧ Below w.heap.size w w' := by
 obtain ⟨p0, n0, c0, rfl⟩ := hv.by_.sl
 obtain ⟨pu, m, cu, rfl⟩ := hu.sl
 have hm := hu.len.1
 have hft : ∀ n ∈ l, 0 ≤ n ∧ n ≤ 9223372036854775807 := fun n hn' => ⟨hn n hn', (hu.fits n hn').2⟩
 have hm9 : (m : Int) ≤ 1100000 := by omega
 have HV := hide hv
 have HU := hide hu
 have HM := hide (And.intro hm (And.intro hft (And.intro hb hB0)))
 have HB0 := hide (Below.refl w.heap.size w)
 clear hv hu hm hft hb hn hB0
 go_enter Tryz.func55, Tryz.ntmps55
 go_wp2_with fail
 go_loopw [0, 6, 9] (fun x _ i wr => ∃ k : Nat, k ≤ m ∧ i = .int .i64 k ∧ (∃ p n c, x = .slice p n c) ∧ Hid (Own B0 wr x (B ++ nmB (l.take k)) ∧ Below w.heap.size w wr)) (fun _ _ i _ => m - (intOf i).toNat)
 case atStart => exact ⟨0, by omega, rfl, ⟨_, _, _, rfl⟩, hide ⟨by rw [List.take_zero]; show Own _ _ _ (B ++ []); rw [List.append_nil]; exact HV.out, HB0.out⟩⟩
 case round =>
  obtain ⟨k, hk, rfl, ⟨px, nx', cx, rfl⟩, HR⟩ := hrel
  by_cases hlt : k < m
  ·obtain ⟨g, o, rfl, hx⟩ := HU.out.at_ (by omega)
   obtain ⟨x, hxk⟩ : ∃ x, l[k]? = some x := ⟨_, List.getElem?_eq_getElem (by have := HM.out.1; omega)⟩
   have hcell := (HR.out.2.cell (p := ⟨g, o + k, none⟩) (lt_of_cell (hx k x hxk))).trans (hx k x hxk)
   have hxf := HM.out.2.1 x (List.mem_of_getElem? hxk)
   have hlen : (nmB (l.take k)).length ≤ 9 * k := by
    have h1 := nmB_len (l.take k) fun y hy => HM.out.2.1 y (List.mem_of_mem_take hy)
    rw [List.length_take] at h1
    omega
   have HNB := hide (wireNumber_any HR.out.1.by_ (by rw [List.length_append]; have := HM.out; omega) x x.toNat (by omega) (by unfold lim; omega))
   have HT := hide (nmB_take hxk)
   clear hx hxk hxf hlen
   go_wp2_with fail
   refine HNB.out.mono ?_
   rintro e w2 ⟨v2, rfl, ho2, hb2⟩
   obtain ⟨p2, n2, c2, rfl⟩ := ho2.by_.sl
   have H2 : Hid (Own B0 w2 (.slice p2 n2 c2) (B ++ nmB (l.take (k + 1))) ∧ Below w.heap.size w w2) := hide ⟨by rw [HT.out, ← List.append_assoc]; exact ho2.mono (Nat.le_trans HM.out.2.2.2 HR.out.2.size), HR.out.2.trans (hb2.mono HR.out.2.size)⟩
   clear ho2 hb2 HNB
   go_wp2
   go_roundw
   case rel => exact ⟨k + 1, by omega, by go_num, ⟨_, _, _, rfl⟩, H2⟩
   case measure => simp [intOf]; omega
  ·have hE : l.take k = l := List.take_of_length_le (by have := HM.out.1; omega)
   have HE : Hid (Own B0 wr (.slice px nx' cx) (B ++ nmB l)) := hide (by have h1 := HR.out.1; rw [hE] at h1; exact h1)
   clear hE
   go_wp2
   go_ret
   exact ⟨_, _, _, rfl, HE.out, HR.out.2⟩
theorem ns_one (w : World) (a : Int) (ha : fits a) : Ns (w.alloc (.cells #[.int .i64 a] 3)) (.slice (some ⟨w.heap.size, 0, none⟩) 1 1) [a] := by
 refine ⟨_, 1, rfl, Nat.le_refl _, by simp [maxLen], (fun e => by cases e), (by simpa using ha), fun _ => ⟨w.heap.size, 0, rfl, fun i x hx => ?_⟩⟩
 have h := cell_of_row _ w.heap.size i _ 3 (0, 0) (heap_alloc_new w (.cells #[.int .i64 a] 3))
 rw [Nat.zero_add, h]
 match i, hx with
 | 0, hx => simpa using hx
 | i + 1, hx => simp at hx
theorem ns_two (w : World) (a b : Int) (ha : fits a) (hb : fits b) : Ns (w.alloc (.cells #[.int .i64 a, .int .i64 b] 3)) (.slice (some ⟨w.heap.size, 0, none⟩) 2 2) [a, b] := by
 refine ⟨_, 2, rfl, Nat.le_refl _, by simp [maxLen], (fun e => by cases e), (by simpa using ⟨ha, hb⟩), fun _ => ⟨w.heap.size, 0, rfl, fun i x hx => ?_⟩⟩
 have h := cell_of_row _ w.heap.size i _ 3 (0, 0) (heap_alloc_new w (.cells #[.int .i64 a, .int .i64 b] 3))
 rw [Nat.zero_add, h]
 match i, hx with
 | 0, hx => simpa using hx
 | 1, hx => simpa using hx
 | i + 2, hx => simp at hx
def PutP (w : World) (c : Cm) (e : Ending) (w' : World) : Prop := (c.ok = true ∧ ∃ p n d, e = .returned (.tuple #[.slice p n d, .int .i64 0]) ∧ Own w.heap.size w' (.slice p n d) c.bytes ∧ Below w.heap.size w w') ∨ (c.ok = false ∧ e = .returned (.tuple #[.slice none 0 0, .int .i64 90]) ∧ Below w.heap.size w w')
set_option maxRecDepth 200000 in
set_option maxHeartbeats 4000000 in
theorem putNo_any {w : World} {vs vv : Value} {c : Cm} (h : CmAt w vs vv c) (hc : c.ok = false) : Calls Tryz.prog 18 #[cmV c vs vv] w (PutP w c) := by
 have HA := hide (mcheck_any (h.below ((Below.refl w.heap.size w).alloc (Nat.le_refl _) (.cells #[.int .i64 c.k, .int .i64 c.se, .int .i64 c.sq, .int .i64 c.a, vs, vv] 25))))
 have HB := hide ((Below.refl w.heap.size w).alloc (Nat.le_refl _) (.cells #[.int .i64 c.k, .int .i64 c.se, .int .i64 c.sq, .int .i64 c.a, vs, vv] 25))
 obtain ⟨p, n, d, rfl⟩ := h.sp.sl
 obtain ⟨q, m, f, rfl⟩ := h.vo.sl
 unfold ChkC at HA
 rw [hc] at HA
 have HC := hide hc
 obtain ⟨k, se, sq, a, sp, vo⟩ := c
 unfold cmV at *
 dsimp only at *
 clear h hc
 go_enter Tryz.func18, Tryz.ntmps18
 go_wp2_with fail
 refine HA.out.mono ?_
 rintro e w1 ⟨rfl, hb1⟩
 have HB1 := hide (HB.out.trans (hb1.mono HB.out.size))
 clear hb1
 unfold eno
 go_wp2
 go_ret2
 exact .inr ⟨HC.out, rfl, HB1.out⟩
set_option maxRecDepth 200000 in
set_option maxHeartbeats 8000000 in
theorem put0_any {w : World} {p : Option Addr} {n d : Nat} {q : Option Addr} {m f : Nat} {se sq a : Int} {sp : List Sp} {vo : List Int} (h : CmAt w (.slice p n d) (.slice q m f) ⟨0, se, sq, a, sp, vo⟩) (hc : Cm.ok ⟨0, se, sq, a, sp, vo⟩ = true) : Calls Tryz.prog 18 #[.agg #[.int .i64 0, .int .i64 se, .int .i64 sq, .int .i64 a, .slice p n d, .slice q m f]] w (PutP w ⟨0, se, sq, a, sp, vo⟩) := by
 have hb0 := (Below.refl w.heap.size w).alloc (Nat.le_refl _) (.cells #[.int .i64 0, .int .i64 se, .int .i64 sq, .int .i64 a, .slice p n d, .slice q m f] 25)
 have HA := hide (mcheck_any (h.below hb0))
 have HB := hide hb0
 have HX := hide (BoxC.new w 0 se sq a (.slice p n d) (.slice q m f))
 have HW := hide h
 unfold ChkC at HA
 rw [hc] at HA
 unfold cmV at HA
 have HC := hide hc
 dsimp only at HA
 clear h hc hb0
 go_enter Tryz.func18, Tryz.ntmps18
 go_wp2_with fail
 refine HA.out.mono ?_
 rintro e w1 ⟨rfl, hb1⟩
 have HB1 := hide (HB.out.trans (hb1.mono HB.out.size))
 have HX1 := hide (HX.out.below hb1)
 obtain ⟨z0, z1, z2, z3, z4, z5⟩ := HX.out.below hb1
 have HWN := hide (wireNumber_any (By.nil w1) (by simp) 0 0 (by omega) (by unfold lim; omega))
 clear hb1 HA
 unfold eno
 go_wp2_with fail
 refine HWN.out.mono ?_
 rintro e w2 ⟨v2, rfl, ho2, hb2⟩
 obtain ⟨p2, n2, c2, rfl⟩ := ho2.by_.sl
 have HO2 : Hid (Own w.heap.size w2 (.slice p2 n2 c2) (digits 0)) := hide (by have h1 := ho2.mono HB1.out.size; simpa using h1)
 have HB2 := hide (HB1.out.trans (hb2.mono HB1.out.size))
 have HX2 := hide (HX1.out.below hb2)
 obtain ⟨z0, z1, z2, z3, z4, z5⟩ := HX1.out.below hb2
 clear ho2 hb2 HWN
 go_wp2
 go_ret2
 refine .inl ⟨HC.out, _, _, _, rfl, ?_, HB2.out⟩
 have h1 := HO2.out
 unfold Cm.bytes
 dsimp only
 simpa using h1
set_option maxRecDepth 200000 in
set_option maxHeartbeats 8000000 in
theorem put1_any {w : World} {p : Option Addr} {n d : Nat} {q : Option Addr} {m f : Nat} {se sq a : Int} {sp : List Sp} {vo : List Int} (h : CmAt w (.slice p n d) (.slice q m f) ⟨1, se, sq, a, sp, vo⟩) (hc : Cm.ok ⟨1, se, sq, a, sp, vo⟩ = true) : Calls Tryz.prog 18 #[.agg #[.int .i64 1, .int .i64 se, .int .i64 sq, .int .i64 a, .slice p n d, .slice q m f]] w (PutP w ⟨1, se, sq, a, sp, vo⟩) := by
 have hb0 := (Below.refl w.heap.size w).alloc (Nat.le_refl _) (.cells #[.int .i64 1, .int .i64 se, .int .i64 sq, .int .i64 a, .slice p n d, .slice q m f] 25)
 have HA := hide (mcheck_any (h.below hb0))
 have HB := hide hb0
 have HX := hide (BoxC.new w 1 se sq a (.slice p n d) (.slice q m f))
 have HW := hide h
 unfold ChkC at HA
 rw [hc] at HA
 unfold cmV at HA
 have HC := hide hc
 dsimp only at HA
 clear h hc hb0
 go_enter Tryz.func18, Tryz.ntmps18
 go_wp2_with fail
 refine HA.out.mono ?_
 rintro e w1 ⟨rfl, hb1⟩
 have HB1 := hide (HB.out.trans (hb1.mono HB.out.size))
 have HX1 := hide (HX.out.below hb1)
 obtain ⟨z0, z1, z2, z3, z4, z5⟩ := HX.out.below hb1
 have HWN := hide (wireNumber_any (By.nil w1) (by simp) 1 1 (by omega) (by unfold lim; omega))
 clear hb1 HA
 unfold eno
 go_wp2_with fail
 refine HWN.out.mono ?_
 rintro e w2 ⟨v2, rfl, ho2, hb2⟩
 obtain ⟨p2, n2, c2, rfl⟩ := ho2.by_.sl
 have HO2 : Hid (Own w.heap.size w2 (.slice p2 n2 c2) (digits 1)) := hide (by have h1 := ho2.mono HB1.out.size; simpa using h1)
 have HB2 := hide (HB1.out.trans (hb2.mono HB1.out.size))
 have HX2 := hide (HX1.out.below hb2)
 obtain ⟨z0, z1, z2, z3, z4, z5⟩ := HX1.out.below hb2
 clear ho2 hb2 HWN
 go_wp2
 go_ret2
 refine .inl ⟨HC.out, _, _, _, rfl, ?_, HB2.out⟩
 have h1 := HO2.out
 unfold Cm.bytes
 dsimp only
 simpa using h1
set_option maxRecDepth 200000 in
set_option maxHeartbeats 8000000 in
theorem put3_any {w : World} {p : Option Addr} {n d : Nat} {q : Option Addr} {m f : Nat} {se sq a : Int} {sp : List Sp} {vo : List Int} (h : CmAt w (.slice p n d) (.slice q m f) ⟨3, se, sq, a, sp, vo⟩) (hc : Cm.ok ⟨3, se, sq, a, sp, vo⟩ = true) : Calls Tryz.prog 18 #[.agg #[.int .i64 3, .int .i64 se, .int .i64 sq, .int .i64 a, .slice p n d, .slice q m f]] w (PutP w ⟨3, se, sq, a, sp, vo⟩) := by
 have hb0 := (Below.refl w.heap.size w).alloc (Nat.le_refl _) (.cells #[.int .i64 3, .int .i64 se, .int .i64 sq, .int .i64 a, .slice p n d, .slice q m f] 25)
 have HA := hide (mcheck_any (h.below hb0))
 have HB := hide hb0
 have HX := hide (BoxC.new w 3 se sq a (.slice p n d) (.slice q m f))
 have HW := hide h
 unfold ChkC at HA
 rw [hc] at HA
 unfold cmV at HA
 have HC := hide hc
 dsimp only at HA
 clear h hc hb0
 go_enter Tryz.func18, Tryz.ntmps18
 go_wp2_with fail
 refine HA.out.mono ?_
 rintro e w1 ⟨rfl, hb1⟩
 have HB1 := hide (HB.out.trans (hb1.mono HB.out.size))
 have HX1 := hide (HX.out.below hb1)
 obtain ⟨z0, z1, z2, z3, z4, z5⟩ := HX.out.below hb1
 have HWN := hide (wireNumber_any (By.nil w1) (by simp) 3 3 (by omega) (by unfold lim; omega))
 clear hb1 HA
 unfold eno
 go_wp2_with fail
 refine HWN.out.mono ?_
 rintro e w2 ⟨v2, rfl, ho2, hb2⟩
 obtain ⟨p2, n2, c2, rfl⟩ := ho2.by_.sl
 have HO2 : Hid (Own w.heap.size w2 (.slice p2 n2 c2) (digits 3)) := hide (by have h1 := ho2.mono HB1.out.size; simpa using h1)
 have HB2 := hide (HB1.out.trans (hb2.mono HB1.out.size))
 have HX2 := hide (HX1.out.below hb2)
 obtain ⟨z0, z1, z2, z3, z4, z5⟩ := HX1.out.below hb2
 clear ho2 hb2 HWN
 have ha : 0 ≤ a ∧ a ≤ 1099511627777 := by
  have h1 := HC.out
  unfold Cm.ok Cm.may at h1
  simp [btw_iff] at h1
  omega
 have HN := hide (show Ns (w2.alloc (.cells #[.int .i64 a] 3)) (.slice (some ⟨w2.heap.size, 0, none⟩) 1 1) [a] from ns_one w2 a (by unfold fits; omega))
 have hb3 := (Below.refl w2.heap.size w2).alloc (Nat.le_refl _) (.cells #[.int .i64 a] 3)
 have HB3 := hide hb3
 have HNU := hide (nums_any (HO2.out.below hb3) (Nat.le_trans HB2.out.size hb3.size) HN.out (by simp; omega) (by have := digits_length 3 (by omega); simp; omega))
 clear ha hb3 HN
 go_wp2_with fail
 refine HNU.out.mono ?_
 rintro e w4 ⟨p4, n4, c4, rfl, ho4, hb4⟩
 have HO4 := hide ho4
 have HB4 := hide (HB2.out.trans ((HB3.out.trans (hb4.mono HB3.out.size)).mono HB2.out.size))
 clear ho4 hb4 HNU
 go_wp2
 go_ret2
 refine .inl ⟨HC.out, _, _, _, rfl, ?_, HB4.out⟩
 have h1 := HO4.out
 unfold Cm.bytes
 dsimp only
 simpa using h1
set_option maxRecDepth 200000 in
set_option maxHeartbeats 8000000 in
theorem put4_any {w : World} {p : Option Addr} {n d : Nat} {q : Option Addr} {m f : Nat} {se sq a : Int} {sp : List Sp} {vo : List Int} (h : CmAt w (.slice p n d) (.slice q m f) ⟨4, se, sq, a, sp, vo⟩) (hc : Cm.ok ⟨4, se, sq, a, sp, vo⟩ = true) : Calls Tryz.prog 18 #[.agg #[.int .i64 4, .int .i64 se, .int .i64 sq, .int .i64 a, .slice p n d, .slice q m f]] w (PutP w ⟨4, se, sq, a, sp, vo⟩) := by
 have hb0 := (Below.refl w.heap.size w).alloc (Nat.le_refl _) (.cells #[.int .i64 4, .int .i64 se, .int .i64 sq, .int .i64 a, .slice p n d, .slice q m f] 25)
 have HA := hide (mcheck_any (h.below hb0))
 have HB := hide hb0
 have HX := hide (BoxC.new w 4 se sq a (.slice p n d) (.slice q m f))
 have HW := hide h
 unfold ChkC at HA
 rw [hc] at HA
 unfold cmV at HA
 have HC := hide hc
 dsimp only at HA
 clear h hc hb0
 go_enter Tryz.func18, Tryz.ntmps18
 go_wp2_with fail
 refine HA.out.mono ?_
 rintro e w1 ⟨rfl, hb1⟩
 have HB1 := hide (HB.out.trans (hb1.mono HB.out.size))
 have HX1 := hide (HX.out.below hb1)
 obtain ⟨z0, z1, z2, z3, z4, z5⟩ := HX.out.below hb1
 have HWN := hide (wireNumber_any (By.nil w1) (by simp) 4 4 (by omega) (by unfold lim; omega))
 clear hb1 HA
 unfold eno
 go_wp2_with fail
 refine HWN.out.mono ?_
 rintro e w2 ⟨v2, rfl, ho2, hb2⟩
 obtain ⟨p2, n2, c2, rfl⟩ := ho2.by_.sl
 have HO2 : Hid (Own w.heap.size w2 (.slice p2 n2 c2) (digits 4)) := hide (by have h1 := ho2.mono HB1.out.size; simpa using h1)
 have HB2 := hide (HB1.out.trans (hb2.mono HB1.out.size))
 have HX2 := hide (HX1.out.below hb2)
 obtain ⟨z0, z1, z2, z3, z4, z5⟩ := HX1.out.below hb2
 clear ho2 hb2 HWN
 have ha : 0 ≤ a ∧ a ≤ 1099511627777 := by
  have h1 := HC.out
  unfold Cm.ok Cm.may at h1
  simp [btw_iff] at h1
  omega
 have HN := hide (show Ns (w2.alloc (.cells #[.int .i64 a] 3)) (.slice (some ⟨w2.heap.size, 0, none⟩) 1 1) [a] from ns_one w2 a (by unfold fits; omega))
 have hb3 := (Below.refl w2.heap.size w2).alloc (Nat.le_refl _) (.cells #[.int .i64 a] 3)
 have HB3 := hide hb3
 have HNU := hide (nums_any (HO2.out.below hb3) (Nat.le_trans HB2.out.size hb3.size) HN.out (by simp; omega) (by have := digits_length 4 (by omega); simp; omega))
 clear ha hb3 HN
 go_wp2_with fail
 refine HNU.out.mono ?_
 rintro e w4 ⟨p4, n4, c4, rfl, ho4, hb4⟩
 have HO4 := hide ho4
 have HB4 := hide (HB2.out.trans ((HB3.out.trans (hb4.mono HB3.out.size)).mono HB2.out.size))
 clear ho4 hb4 HNU
 go_wp2
 go_ret2
 refine .inl ⟨HC.out, _, _, _, rfl, ?_, HB4.out⟩
 have h1 := HO4.out
 unfold Cm.bytes
 dsimp only
 simpa using h1
set_option maxRecDepth 200000 in
set_option maxHeartbeats 8000000 in
theorem put2_any {w : World} {p : Option Addr} {n d : Nat} {q : Option Addr} {m f : Nat} {se sq a : Int} {sp : List Sp} {vo : List Int} (h : CmAt w (.slice p n d) (.slice q m f) ⟨2, se, sq, a, sp, vo⟩) (hc : Cm.ok ⟨2, se, sq, a, sp, vo⟩ = true) : Calls Tryz.prog 18 #[.agg #[.int .i64 2, .int .i64 se, .int .i64 sq, .int .i64 a, .slice p n d, .slice q m f]] w (PutP w ⟨2, se, sq, a, sp, vo⟩) := by
 have hb0 := (Below.refl w.heap.size w).alloc (Nat.le_refl _) (.cells #[.int .i64 2, .int .i64 se, .int .i64 sq, .int .i64 a, .slice p n d, .slice q m f] 25)
 have HA := hide (mcheck_any (h.below hb0))
 have HB := hide hb0
 have HX := hide (BoxC.new w 2 se sq a (.slice p n d) (.slice q m f))
 have HW := hide h
 unfold ChkC at HA
 rw [hc] at HA
 unfold cmV at HA
 have HC := hide hc
 dsimp only at HA
 clear h hc hb0
 go_enter Tryz.func18, Tryz.ntmps18
 go_wp2_with fail
 refine HA.out.mono ?_
 rintro e w1 ⟨rfl, hb1⟩
 have HB1 := hide (HB.out.trans (hb1.mono HB.out.size))
 have HX1 := hide (HX.out.below hb1)
 obtain ⟨z0, z1, z2, z3, z4, z5⟩ := HX.out.below hb1
 have HWN := hide (wireNumber_any (By.nil w1) (by simp) 2 2 (by omega) (by unfold lim; omega))
 clear hb1 HA
 unfold eno
 go_wp2_with fail
 refine HWN.out.mono ?_
 rintro e w2 ⟨v2, rfl, ho2, hb2⟩
 obtain ⟨p2, n2, c2, rfl⟩ := ho2.by_.sl
 have HO2 : Hid (Own w.heap.size w2 (.slice p2 n2 c2) (digits 2)) := hide (by have h1 := ho2.mono HB1.out.size; simpa using h1)
 have HB2 := hide (HB1.out.trans (hb2.mono HB1.out.size))
 have HX2 := hide (HX1.out.below hb2)
 obtain ⟨z0, z1, z2, z3, z4, z5⟩ := HX1.out.below hb2
 clear ho2 hb2 HWN
 have hk : (1 ≤ se ∧ se ≤ 1099511627776) ∧ (1 ≤ sq ∧ sq ≤ 1099511627776) ∧ spsOk sp = true := by
  have h1 := HC.out
  unfold Cm.ok Cm.may at h1
  simp [btw_iff] at h1
  exact ⟨h1.1.1.1, h1.1.1.2, h1.1.2⟩
 obtain ⟨hse, hsq, hsp⟩ := hk
 obtain ⟨hl1, hl8, hall⟩ := spsOk_ok hsp
 have hel := spsOk_len hsp
 have hP : putB sp = (encL sp, 0) := by
  unfold putB
  rw [if_pos (List.all_eq_true.2 hall)]
 have HSP := hide (spanPut_any (HW.out.sp.below HB2.out) (by dsimp only; omega) HW.out.nm hP)
 have HEL := hide hel
 have HF2 := hide (And.intro (show fits se by unfold fits; omega) (And.intro (show fits sq by unfold fits; omega) (And.intro hse.1 hsq.1)))
 clear hse hsq hsp hl1 hl8 hall hP hel
 go_wp2_with fail
 refine HSP.out.mono ?_
 rintro e w3 ⟨v3, rfl, ho3, hb3⟩
 obtain ⟨p3, n3, c3, rfl⟩ := ho3.by_.sl
 have HB3 := hide (HB2.out.trans (hb3.mono HB2.out.size))
 have HV3 := hide ho3.by_
 have HO3 := hide (HO2.out.below hb3)
 have HX3 := hide (HX2.out.below hb3)
 obtain ⟨z0, z1, z2, z3, z4, z5⟩ := HX2.out.below hb3
 clear ho3 hb3 HSP z0 z3 z4 z5
 have d0 : (convert 32 9 (.slice p3 n3 c3)).run Tryz.prog w3 = .ok (.string (str (encL sp))) w3 := conv_at HV3.out
 have HKEEP : Hid (∀ U, Below w3.heap.size w3 U → U.cell? ⟨w.heap.size, 1, none⟩ = some (.int .i64 se) ∧ U.cell? ⟨w.heap.size, 2, none⟩ = some (.int .i64 sq) ∧ (convert 32 9 (.slice p3 n3 c3)).run Tryz.prog U = .ok (.string (str (encL sp))) U) := hide fun U hU => ⟨(HX3.out.below hU).2.1, (HX3.out.below hU).2.2.1, conv_at (HV3.out.below hU)⟩
 have hb4 := (Below.refl w3.heap.size w3).alloc (Nat.le_refl _) (.cells #[.int .i64 se, .int .i64 sq] 3)
 have HB4 := hide hb4
 have HNU := hide (nums_any (w := (w3.alloc (.cells #[.int .i64 se, .int .i64 sq] 3)).drew) (HO3.out.below hb4.drew) (Nat.le_trans HB3.out.size hb4.size) (ns_two w3 se sq HF2.out.1 HF2.out.2.1) (by simp; have := HF2.out.2.2; omega) (by have := digits_length 2 (by omega); simp; omega))
 clear hb4
 go_wp2_with fail
 go_region_held3 (fun U => U.cell? ⟨w.heap.size, 1, none⟩ = some (.int .i64 se) ∧ U.cell? ⟨w.heap.size, 2, none⟩ = some (.int .i64 sq) ∧ (convert 32 9 (.slice p3 n3 c3)).run Tryz.prog U = .ok (.string (str (encL sp))) U) (first | exact HKEEP.out _ (bdrew w3 1) | exact HKEEP.out _ (Below.refl _ _) | exact HKEEP.out _ HB4.out | exact HKEEP.out _ HB4.out.drew | exact HKEEP.out _ (HB4.out.drew.trans (hb5.mono HB4.out.size)) | exact HKEEP.out _ ((HB4.out.drew.trans (hb5.mono HB4.out.size)).trans (hb6.mono (Nat.le_trans HB4.out.size hb5.size)))) (first | (go_at_call 55; refine HNU.out.mono ?_; rintro e5 w5 ⟨p5, n5, c5, rfl, ho5, hb5⟩) | (go_at_call 54; refine (wireText_any ho5.by_ (by have := digits_length 2 (by omega); have := nmB_len [se, sq] (by have := HF2.out; unfold fits at this; simp; omega); rw [List.length_append]; simp at this ⊢; omega) (str (encL sp)) (by rw [str_size2]; have := HEL.out; omega)).mono ?_; rintro e6 w6 ⟨v6, rfl, ho6, hb6⟩; obtain ⟨p6, n6, c6, rfl⟩ := ho6.by_.sl))
 have hs5 : w.heap.size ≤ w5.heap.size := Nat.le_trans HB3.out.size (Nat.le_trans HB4.out.size hb5.size)
 have HB6 := hide (HB3.out.trans (((HB4.out.drew.trans (hb5.mono HB4.out.size)).trans (hb6.mono (Nat.le_trans HB4.out.size hb5.size))).mono HB3.out.size))
 rw [str_size2, str_list2] at ho6
 have HO6 := hide (ho6.mono hs5)
 clear ho5 hb5 hb6 ho6 hs5 HNU
 go_wp2
 go_ret2
 refine .inl ⟨HC.out, _, _, _, rfl, ?_, HB6.out⟩
 have h1 := HO6.out
 unfold Cm.bytes
 dsimp only
 simpa [txB] using h1
set_option maxRecDepth 200000 in
set_option maxHeartbeats 8000000 in
theorem put5_any {w : World} {p : Option Addr} {n d : Nat} {q : Option Addr} {m f : Nat} {se sq a : Int} {sp : List Sp} {vo : List Int} (h : CmAt w (.slice p n d) (.slice q m f) ⟨5, se, sq, a, sp, vo⟩) (hc : Cm.ok ⟨5, se, sq, a, sp, vo⟩ = true) : Calls Tryz.prog 18 #[.agg #[.int .i64 5, .int .i64 se, .int .i64 sq, .int .i64 a, .slice p n d, .slice q m f]] w (PutP w ⟨5, se, sq, a, sp, vo⟩) := by
 have hb0 := (Below.refl w.heap.size w).alloc (Nat.le_refl _) (.cells #[.int .i64 5, .int .i64 se, .int .i64 sq, .int .i64 a, .slice p n d, .slice q m f] 25)
 have HA := hide (mcheck_any (h.below hb0))
 have HB := hide hb0
 have HX := hide (BoxC.new w 5 se sq a (.slice p n d) (.slice q m f))
 have HW := hide h
 unfold ChkC at HA
 rw [hc] at HA
 unfold cmV at HA
 have HC := hide hc
 dsimp only at HA
 clear h hc hb0
 go_enter Tryz.func18, Tryz.ntmps18
 go_wp2_with fail
 refine HA.out.mono ?_
 rintro e w1 ⟨rfl, hb1⟩
 have HB1 := hide (HB.out.trans (hb1.mono HB.out.size))
 have HX1 := hide (HX.out.below hb1)
 obtain ⟨z0, z1, z2, z3, z4, z5⟩ := HX.out.below hb1
 have HWN := hide (wireNumber_any (By.nil w1) (by simp) 5 5 (by omega) (by unfold lim; omega))
 clear hb1 HA
 unfold eno
 go_wp2_with fail
 refine HWN.out.mono ?_
 rintro e w2 ⟨v2, rfl, ho2, hb2⟩
 obtain ⟨p2, n2, c2, rfl⟩ := ho2.by_.sl
 have HO2 : Hid (Own w.heap.size w2 (.slice p2 n2 c2) (digits 5)) := hide (by have h1 := ho2.mono HB1.out.size; simpa using h1)
 have HB2 := hide (HB1.out.trans (hb2.mono HB1.out.size))
 have HX2 := hide (HX1.out.below hb2)
 obtain ⟨z0, z1, z2, z3, z4, z5⟩ := HX1.out.below hb2
 clear ho2 hb2 HWN
 have hk : okR vo = true := by
  have h1 := HC.out
  unfold Cm.ok Cm.may at h1
  simp at h1
  exact h1.1
 obtain ⟨hv7, hvn⟩ := okR_len hk
 have hmv := HW.out.vo.len.1
 dsimp only at hmv
 have HMV := hide (And.intro hmv (And.intro hv7 hvn))
 have hm7 : (m : Int) ≤ 7 := by omega
 clear hk hv7 hvn z1 z2 z3 z4 hmv
 have HKEEP : Hid (∀ U, Below w2.heap.size w2 U → U.cell? ⟨w.heap.size, 5, none⟩ = some (.slice q m f)) := hide fun U hU => (HX2.out.below hU).2.2.2.2.2
 have hb4 := (Below.refl w2.heap.size w2).alloc (Nat.le_refl _) (.cells #[.int .i64 (m : Int)] 3)
 have HB4 := hide hb4
 have HNU := hide (nums_any (w := (w2.alloc (.cells #[.int .i64 (m : Int)] 3)).drew) (HO2.out.below hb4.drew) (Nat.le_trans HB2.out.size hb4.size) (ns_one w2 (m : Int) (by unfold fits; omega)) (by simp) (by have := digits_length 5 (by omega); simp; omega))
 have HVO := hide (fun U (hU : Below w2.heap.size w2 U) => HW.out.vo.below (w' := U) (HB2.out.trans (hU.mono HB2.out.size)))
 clear hb4
 go_wp2_with fail
 go_region_held3 (fun U => U.cell? ⟨w.heap.size, 5, none⟩ = some (.slice q m f)) (first | exact HKEEP.out _ (bdrew w2 1) | exact HKEEP.out _ (Below.refl _ _) | exact HKEEP.out _ HB4.out | exact HKEEP.out _ HB4.out.drew | exact HKEEP.out _ (HB4.out.drew.trans (hb5.mono HB4.out.size)) | exact HKEEP.out _ ((HB4.out.drew.trans (hb5.mono HB4.out.size)).trans (hb6.mono (Nat.le_trans HB4.out.size hb5.size)))) (first | (go_at_call 55; (with_reducible refine HNU.out.mono ?_); rintro e5 w5 ⟨p5, n5, c5, rfl, ho5, hb5⟩) | (go_at_call 55; refine (nums_any ho5 (Nat.le_trans HB2.out.size (Nat.le_trans HB4.out.size hb5.size)) (HVO.out _ (HB4.out.drew.trans (hb5.mono HB4.out.size))) (fun y hy => (HMV.out.2.2 y hy).1) (by have := digits_length 5 (by omega); have q1 := nmB_len [(m : Int)] (by simp; omega); rw [List.length_singleton] at q1; have := HMV.out; rw [List.length_append]; omega)).mono ?_; rintro e6 w6 ⟨p6, n6, c6, rfl, ho6, hb6⟩))
 have HB6 := hide (HB2.out.trans (((HB4.out.drew.trans (hb5.mono HB4.out.size)).trans (hb6.mono (Nat.le_trans HB4.out.size hb5.size))).mono HB2.out.size))
 have HO6 := hide ho6
 clear ho5 hb5 hb6 ho6 HNU
 go_wp2
 go_ret2
 refine .inl ⟨HC.out, _, _, _, rfl, ?_, HB6.out⟩
 have h1 := HO6.out
 rw [HMV.out.1] at h1
 unfold Cm.bytes
 dsimp only
 simpa using h1
theorem mput_any {w : World} {vs vv : Value} {c : Cm} (h : CmAt w vs vv c) : Calls Tryz.prog 18 #[cmV c vs vv] w (PutP w c) := by
 by_cases hc : c.ok = true
 ·obtain ⟨p, n, d, rfl⟩ := h.sp.sl
  obtain ⟨q, m, f, rfl⟩ := h.vo.sl
  obtain ⟨k, se, sq, a, sp, vo⟩ := c
  have hk : k = 0 ∨ k = 1 ∨ k = 2 ∨ k = 3 ∨ k = 4 ∨ k = 5 := by
   rcases (Cm.ok_iff _).1 hc with h1 | h1 | h1 | h1 | h1
   ·exact h1.1.imp id fun e => .inl e
   ·exact .inr (.inr (.inl h1.1))
   ·exact .inr (.inr (.inr (.inl h1.1)))
   ·exact .inr (.inr (.inr (.inr (.inl h1.1))))
   ·exact .inr (.inr (.inr (.inr (.inr h1.1))))
  rcases hk with rfl | rfl | rfl | rfl | rfl | rfl
  ·exact put0_any h hc
  ·exact put1_any h hc
  ·exact put2_any h hc
  ·exact put3_any h hc
  ·exact put4_any h hc
  ·exact put5_any h hc
 ·exact putNo_any h (by simpa using hc)
end Go.Proofs.YtionbmlicmibgaaGreatDoor
