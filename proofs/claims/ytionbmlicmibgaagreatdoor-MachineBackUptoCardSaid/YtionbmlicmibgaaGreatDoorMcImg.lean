import Derived.Test.YtionbmlicmibgaaGreatDoorMcNew
namespace Go.Proofs.YtionbmlicmibgaaGreatDoor
set_option linter.unusedVariables false
set_option linter.unusedSimpArgs false
open Go.RowKit
theorem ns_three (w : World) (a b c : Int) (ha : fits a) (hb : fits b) (hc : fits c) : Ns (w.alloc (.cells #[.int .i64 a, .int .i64 b, .int .i64 c] 3)) (.slice (some ⟨w.heap.size, 0, none⟩) 3 3) [a, b, c] := by
 refine ⟨_, 3, rfl, Nat.le_refl _, by simp [maxLen], (fun e => by cases e), (by simpa using ⟨ha, hb, hc⟩), fun _ => ⟨w.heap.size, 0, rfl, fun i x hx => ?_⟩⟩
 have h := cell_of_row _ w.heap.size i _ 3 (0, 0) (heap_alloc_new w (.cells #[.int .i64 a, .int .i64 b, .int .i64 c] 3))
 rw [Nat.zero_add, h]
 match i, hx with
 | 0, hx => simpa using hx
 | 1, hx => simpa using hx
 | 2, hx => simpa using hx
 | i + 3, hx => simp at hx
def imgM (m : Mp) : List UInt8 := ((nmB [m.ix, m.tm, (m.vo.length : Int)] ++ nmB m.vo) ++ txB (imgS m.S)) ++ txB (imgT m.L)
set_option maxRecDepth 200000 in
set_option maxHeartbeats 8000000 in
theorem mimg_any {w : World} {P : Pm} {m : Mp} (h : McIs w P m) (hs : (imgS m.S).length ≤ 400000) (ht : (imgT m.L).length ≤ 400000) : Calls Tryz.prog 90 #[.pointer (some ⟨P.gi, 0, none⟩)] w (ImgPost w (imgM m)) := by
 obtain ⟨pv, nv, cv, hvv⟩ : ∃ p n c, P.vv = .slice p n c := by
  obtain ⟨_, ⟨e1, _⟩ | ⟨g, cap, cur, e1, _⟩⟩ := h.vo.1
  ·exact ⟨_, _, _, e1⟩
  ·exact ⟨_, _, _, e1⟩
 have hnv : nv = m.vo.length := by
  have h1 := h.vo.ns
  rw [hvv] at h1
  exact h1.len.1
 have hlen := okR_len h.ok.vo
 have HM := hide h
 have HVV := hide (And.intro hvv hnv)
 have HLN := hide (And.intro hs (And.intro ht hlen))
 have HF : Hid (fits m.ix ∧ fits m.tm ∧ fits (nv : Int)) := hide (by
  have h1 := h.ok
  have := h1.i0; have := h1.i1; have := h1.t0; have := h1.t1
  unfold fits
  omega)
 have HNN : Hid (∀ n ∈ [m.ix, m.tm, (nv : Int)], 0 ≤ n) := hide (by
  have h1 := h.ok
  have := h1.i0; have := h1.t0
  intro n hn
  simp at hn
  rcases hn with e | e | e <;> omega)
 have HKP : Hid (∀ U, Below w.heap.size w U → U.cell? ⟨P.gi, 2, none⟩ = some (.int .i64 m.ix) ∧ U.cell? ⟨P.gi, 3, none⟩ = some (.int .i64 m.tm) ∧ U.cell? ⟨P.gi, 4, none⟩ = some (.slice pv nv cv)) := hide fun U hU => ⟨(h.below hU).row.c2, (h.below hU).row.c3, by rw [← hvv]; exact (h.below hU).row.c4⟩
 have HAL : Hid (Below w.heap.size w ((w.drew).alloc (.cells #[.int .i64 m.ix, .int .i64 m.tm, .int .i64 (nv : Int)] 3))) := hide ((show Below w.heap.size w w.drew from bdrew w 1).alloc (show Below w.heap.size w w.drew from bdrew w 1).size _)
 clear h hvv hnv hlen hs ht
 go_enter Tryz.func90, Tryz.ntmps90
 go_upto_region 1 with fail
 refine wp_region_held_drew (S := (fun U => U.cell? ⟨P.gi, 2, none⟩ = some (.int .i64 m.ix) ∧ U.cell? ⟨P.gi, 3, none⟩ = some (.int .i64 m.tm) ∧ U.cell? ⟨P.gi, 4, none⟩ = some (.slice pv nv cv))) (by kernel_rfl) ?_ (fun hHeld => ?_)
 ·(try dsimp only)
  exact HKP.out _ (bdrew w 1)
 refine tkI (i := 0) (oi := ⟨some 4, Op.move (Operand.tmp 0), 97, _, _, none⟩) (v := ?_) rfl (by rfl) ?_ ?_
 rotate_left
 ·intro w hSw
  (try dsimp only at hSw)
  go_simp
  try with_reducible rfl
 try simp only [Act.put, qA, qB, qC]
 refine tkI (i := 1) (oi := ⟨some 5, Op.nilCheck (Operand.tmp 4), 0, _, _, none⟩) (v := ?_) rfl (by rfl) ?_ ?_
 rotate_left
 ·intro w hSw
  (try dsimp only at hSw)
  go_simp
  try with_reducible rfl
 try simp only [Act.put, qA, qB, qC]
 refine tkI (i := 2) (oi := ⟨some 6, Op.fieldAddr 131 (Operand.tmp 5) 2, 0, _, _, none⟩) (v := ?_) rfl (by rfl) ?_ ?_
 rotate_left
 ·intro w hSw
  (try dsimp only at hSw)
  go_simp
  try with_reducible rfl
 try simp only [Act.put, qA, qB, qC]
 refine tkI (i := 3) (oi := ⟨some 7, Op.load 3 (Operand.tmp 6), 3, _, _, none⟩) (v := ?_) rfl (by rfl) ?_ ?_
 rotate_left
 ·intro w hSw
  (try dsimp only at hSw)
  go_simp
  try with_reducible rfl
 try simp only [Act.put, qA, qB, qC]
 refine tkI (i := 4) (oi := ⟨some 8, Op.move (Operand.tmp 0), 97, _, _, none⟩) (v := ?_) rfl (by rfl) ?_ ?_
 rotate_left
 ·intro w hSw
  (try dsimp only at hSw)
  go_simp
  try with_reducible rfl
 try simp only [Act.put, qA, qB, qC]
 refine tkI (i := 5) (oi := ⟨some 9, Op.nilCheck (Operand.tmp 8), 0, _, _, none⟩) (v := ?_) rfl (by rfl) ?_ ?_
 rotate_left
 ·intro w hSw
  (try dsimp only at hSw)
  go_simp
  try with_reducible rfl
 try simp only [Act.put, qA, qB, qC]
 refine tkI (i := 6) (oi := ⟨some 10, Op.fieldAddr 131 (Operand.tmp 9) 3, 0, _, _, none⟩) (v := ?_) rfl (by rfl) ?_ ?_
 rotate_left
 ·intro w hSw
  (try dsimp only at hSw)
  go_simp
  try with_reducible rfl
 try simp only [Act.put, qA, qB, qC]
 refine tkI (i := 7) (oi := ⟨some 11, Op.load 3 (Operand.tmp 10), 3, _, _, none⟩) (v := ?_) rfl (by rfl) ?_ ?_
 rotate_left
 ·intro w hSw
  (try dsimp only at hSw)
  go_simp
  try with_reducible rfl
 try simp only [Act.put, qA, qB, qC]
 refine tkI (i := 8) (oi := ⟨some 12, Op.move (Operand.tmp 0), 97, _, _, none⟩) (v := ?_) rfl (by rfl) ?_ ?_
 rotate_left
 ·intro w hSw
  (try dsimp only at hSw)
  go_simp
  try with_reducible rfl
 try simp only [Act.put, qA, qB, qC]
 refine tkI (i := 9) (oi := ⟨some 13, Op.nilCheck (Operand.tmp 12), 0, _, _, none⟩) (v := ?_) rfl (by rfl) ?_ ?_
 rotate_left
 ·intro w hSw
  (try dsimp only at hSw)
  go_simp
  try with_reducible rfl
 try simp only [Act.put, qA, qB, qC]
 refine tkI (i := 10) (oi := ⟨some 14, Op.fieldAddr 131 (Operand.tmp 13) 4, 0, _, _, none⟩) (v := ?_) rfl (by rfl) ?_ ?_
 rotate_left
 ·intro w hSw
  (try dsimp only at hSw)
  go_simp
  try with_reducible rfl
 try simp only [Act.put, qA, qB, qC]
 refine tkI (i := 11) (oi := ⟨some 15, Op.load 23 (Operand.tmp 14), 23, _, _, none⟩) (v := ?_) rfl (by rfl) ?_ ?_
 rotate_left
 ·intro w hSw
  (try dsimp only at hSw)
  go_simp
  try with_reducible rfl
 try simp only [Act.put, qA, qB, qC]
 refine tkI (i := 12) (oi := ⟨some 16, Op.call { callee := Callee.builtin Builtin.len, args := #[Operand.tmp 15], argTypes := #[23] }, 3, _, _, none⟩) (v := ?_) rfl (by rfl) ?_ ?_
 rotate_left
 ·intro w hSw
  (try dsimp only at hSw)
  go_simp
  try with_reducible rfl
 try simp only [Act.put, qA, qB, qC]
 refine wpAnyH_ready (rs := [13]) (by kernel_rfl) (by simp) ?_
 refine AllReadyH.cons (o := ⟨some 17, Op.buildSlice 23 3 #[(0, Operand.tmp 7), (1, Operand.tmp 11), (2, Operand.tmp 16)], 23, _, _, none⟩) rfl (fun K hK => ?_) ?_
 ·go_simp
  first
   | refine hK.out _ _ ?_ (fun hHeld => ?_)
   | (go_wp2_with fail; refine hK.out _ _ ?_ (fun hHeld => ?_))
  ·(try dsimp only)
   exact HKP.out _ HAL.out
  clear hK K
  try simp only [Act.put, qA, qB, qC]
  refine wpAnyH_ready (rs := [14]) (by kernel_rfl) (by simp) ?_
  refine AllReadyH.cons (o := ⟨some 18, Op.call { callee := Callee.value (Operand.func 55), args := #[Operand.const (Value.slice none 0 0), Operand.tmp 17], argTypes := #[32, 23] }, 32, _, _, none⟩) rfl (fun K hK => ?_) ?_
  ·go_simp
   go_at_call 55
   refine (nums_any (Own.nil w.heap.size _) (by simp) (show Ns ((w.drew).alloc (.cells #[.int .i64 m.ix, .int .i64 m.tm, .int .i64 (nv : Int)] 3)) (.slice (some ⟨w.heap.size, 0, none⟩) 3 3) [m.ix, m.tm, (nv : Int)] from ns_three w.drew _ _ _ HF.out.1 HF.out.2.1 HF.out.2.2) HNN.out (by simp)).mono ?_
   rintro e5 w5 ⟨p5, n5, c5, rfl, ho5, hb5⟩
   have HO5 := hide (show Own w.heap.size w5 (.slice p5 n5 c5) (nmB [m.ix, m.tm, (nv : Int)]) from ho5)
   have HB5 : Hid (Below w.heap.size w w5) := hide (HAL.out.trans (hb5.mono HAL.out.size))
   clear ho5 hb5
   first
    | refine hK.out _ _ ?_ (fun hHeld => ?_)
    | (go_wp2_with fail; refine hK.out _ _ ?_ (fun hHeld => ?_))
   ·(try dsimp only)
    exact HKP.out _ HB5.out
   clear hK K
   try simp only [Act.put, qA, qB, qC]
   refine tkI (i := 15) (oi := ⟨some 3, Op.assign (Operand.tmp 18), 32, _, _, none⟩) (v := ?_) rfl (by rfl) ?_ ?_
   rotate_left
   ·intro w hSw
    (try dsimp only at hSw)
    go_simp
    try with_reducible rfl
   try simp only [Act.put, qA, qB, qC]
   refine wpAnyH_done (by kernel_rfl) ?_ _
   clear hHeld
   have z4 := (HM.out.below HB5.out).row.c4
   rw [HVV.out.1] at z4
   go_wp2_with fail
   have HNS := hide ((HM.out.below HB5.out).vo.ns)
   rw [HVV.out.1] at HNS
   have HD3 : Hid ((nmB [m.ix, m.tm, (nv : Int)]).length ≤ 27) := hide (by
    have h1 := HM.out.ok
    have := h1.i0; have := h1.i1; have := h1.t0; have := h1.t1
    have h2 := HLN.out.2.2.1
    have h3 := HVV.out.2
    have := nmB_len [m.ix, m.tm, (nv : Int)] (by simp; omega)
    simpa using this)
   refine (nums_any HO5.out HB5.out.size HNS.out (fun n hn => (HLN.out.2.2.2 n hn).1) (by have := HD3.out; have := HLN.out.2.2.1; simp at *; omega)).mono ?_
   rintro e6 w6 ⟨p6, n6, c6, rfl, ho6, hb6⟩
   have HO6 := hide ho6
   have HB6 : Hid (Below w.heap.size w w6) := hide (HB5.out.trans (hb6.mono HB5.out.size))
   clear ho6 hb6 z4
   have z0 := (HM.out.below HB6.out).row.c0
   go_wp2_with fail
   have HSI := simage_any (HM.out.below HB6.out).so
   rw [HM.out.pl] at HSI
   refine HSI.mono ?_
   rintro e7 w7 ⟨v7, rfl, ho7, hb7⟩
   obtain ⟨p7, n7, c7, rfl⟩ := ho7.by_.sl
   have hcv := conv_at ho7.by_
   have HB7 : Hid (Below w.heap.size w w7) := hide (HB6.out.trans (hb7.mono HB6.out.size))
   have HO67 := hide (HO6.out.below hb7)
   go_wp2_with fail
   have hsz : (str (imgS m.S)).size = (imgS m.S).length := by rw [str_eq]; rfl
   have hdt : (str (imgS m.S)).data.toList = imgS m.S := by rw [str_eq]
   have HL6 : Hid ((nmB [m.ix, m.tm, (nv : Int)] ++ nmB m.vo).length ≤ 100) := hide (by
    have h1 := HD3.out
    have h2 := HLN.out.2.2
    have := nmB_len m.vo (fun n hn => by have := h2.2 n hn; omega)
    rw [List.length_append]; omega)
   refine (wireText_any HO67.out.by_ (by have := HL6.out; omega) (str (imgS m.S)) (by rw [hsz]; have := HLN.out.1; omega)).mono ?_
   rintro e8 w8 ⟨v8, rfl, ho8, hb8⟩
   rw [hsz, hdt, List.append_assoc] at ho8
   obtain ⟨p8, n8, c8, rfl⟩ := ho8.by_.sl
   have HO8 := hide (ho8.mono HB7.out.size)
   have HB8 : Hid (Below w.heap.size w w8) := hide (HB7.out.trans (hb8.mono HB7.out.size))
   clear ho8 hb8 hsz hdt hcv ho7 hb7 HSI z0
   have z1 := (HM.out.below HB8.out).row.c1
   go_wp2_with fail
   refine (ses_image_any (HM.out.below HB8.out).tb).mono ?_
   rintro e9 w9 ⟨v9, rfl, ho9, hb9⟩
   obtain ⟨p9, n9, c9, rfl⟩ := ho9.by_.sl
   have hcv := conv_at ho9.by_
   have HB9 : Hid (Below w.heap.size w w9) := hide (HB8.out.trans (hb9.mono HB8.out.size))
   have HO89 := hide (HO8.out.below hb9)
   go_wp2_with fail
   have hsz : (str (imgT m.L)).size = (imgT m.L).length := by rw [str_eq]; rfl
   have hdt : (str (imgT m.L)).data.toList = imgT m.L := by rw [str_eq]
   refine (wireText_any HO89.out.by_ (by have := HL6.out; have := HLN.out.1; have := digits_length (imgS m.S).length (by omega); simp only [List.length_append] at *; omega) (str (imgT m.L)) (by rw [hsz]; have := HLN.out.2.1; omega)).mono ?_
   rintro e10 w10 ⟨v10, rfl, ho10, hb10⟩
   rw [hsz, hdt, List.append_assoc] at ho10
   go_wp2_with fail
   go_ret
   refine ⟨_, rfl, ?_, HB9.out.trans (hb10.mono HB9.out.size)⟩
   have h1 := ho10.mono HB9.out.size
   rw [HVV.out.2] at h1
   exact h1
  exact AllReadyH.nil
 exact AllReadyH.nil
theorem mimage_any {w : World} {gm : Nat} {P : Pm} {m : Mp} (h : MkIs w gm P m) (hs : (imgS m.S).length ≤ 400000) (ht : (imgT m.L).length ≤ 400000) : Calls Tryz.prog 39 #[.pointer (some ⟨gm, 0, none⟩)] w (ImgPost w (imgM m)) := by
 have h0 := h.cell
 have HM := hide h
 have HC := hide (mimg_any h.is hs ht)
 clear h hs ht
 go_enter Tryz.func39, Tryz.ntmps39
 go_wp2_with fail
 refine (mmade_any HM.out).mono ?_
 rintro e w2 ⟨rfl, rfl⟩
 go_wp2_with fail
 refine HC.out.mono ?_
 rintro e w3 ⟨v', rfl, ho, hb⟩
 go_wp2_with fail
 go_ret
 exact ⟨_, rfl, ho, hb⟩
end Go.Proofs.YtionbmlicmibgaaGreatDoor
