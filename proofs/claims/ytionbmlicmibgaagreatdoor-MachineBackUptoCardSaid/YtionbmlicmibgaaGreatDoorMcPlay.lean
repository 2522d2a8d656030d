import Derived.Test.YtionbmlicmibgaaGreatDoorMcEnt
import Derived.Test.YtionbmlicmibgaaGreatDoorMcOut
import Derived.Test.YtionbmlicmibgaaGreatDoorMcShort
import Derived.Test.YtionbmlicmibgaaGreatDoorMcAw
namespace Go.Proofs.YtionbmlicmibgaaGreatDoor
set_option linter.unusedVariables false
set_option linter.unusedSimpArgs false
open Go.RowKit
noncomputable def stepM (m : Mp) (d : Dm) : Mp := (appM m (d.eI m.ix) (d.eT m.tm) d.eL).2.2
noncomputable def playM (m : Mp) (D : List Dm) : Mp := D.foldl stepM m
theorem playM_snoc (m : Mp) (D : List Dm) (d : Dm) : playM m (D ++ [d]) = stepM (playM m D) d := by simp [playM]
structure McTs (w w' : World) (gm : Nat) (P P' : Pm) (m' : Mp) : Prop where
 am : MkIs w' gm P' m'
 gi : P'.gi = P.gi
 new : ∀ k, McS P' k → McS P k ∨ w.heap.size ≤ k
 chg : Chg w w' (McS P)
theorem McTs.refl {w : World} {gm : Nat} {P : Pm} {m : Mp} (h : MkIs w gm P m) : McTs w w gm P P m := ⟨h, rfl, fun k hk => .inl hk, Chg.refl _ _⟩
theorem McTs.step {w w6 v w7 : World} {gm : Nat} {P P4 P8 : Pm} {m4 m8 : Mp} (h : McTs w w6 gm P P4 m4) (hb : Below w6.heap.size w6 v) (_ : MkIs v gm P4 m4) (hs : McTo v w7 P4 P8 m8 ∧ MkIs w7 gm P8 m8) : McTs w w7 gm P P8 m8 :=
 ⟨hs.2, hs.1.gi.trans h.gi, fun k hk => by
  rcases hs.1.new k hk with e | e
  ·exact h.new k e
  ·have := h.chg.size; have := hb.size; exact .inr (by omega), by
  have h1 : Chg w6 w7 (McS P4) := ((Chg.of_below hb (McC P4)).trans hs.1.chg (fun k e => .inl e)).mono (fun k e => McC.sub e)
  exact h.chg.trans h1 (fun k e => h.new k e)⟩
set_option maxRecDepth 200000 in
set_option maxHeartbeats 16000000 in
theorem mplay_any {w : World} {gm : Nat} {P : Pm} {m : Mp} (h : MkIs w gm P m) {v : Value} {D : List Dm} (hD : ∀ W, Chg w W (McS P) → Dms W v D) (hnm : ∀ d ∈ D, SmS d.sp) (hby : ∀ d ∈ D, d.by_.length ≤ 1048576) : Calls Tryz.prog 38 #[.pointer (some ⟨gm, 0, none⟩), v] w fun e w' => e = .returned (.tuple #[]) ∧ ∃ P', McTs w w' gm P P' (playM m D) := by
 have HD := hide hD
 obtain ⟨p, c, rfl, hlc, hcm, _⟩ := hD w (Chg.refl _ _)
 obtain ⟨n, hn⟩ : ∃ n, D.length = n := ⟨_, rfl⟩
 have hn9 : (n : Int) ≤ 9223372036854775807 := by unfold maxLen at hcm; omega
 rw [hn] at HD ⊢
 have HN := hide hn
 have HM0 := hide h
 have HS := hide (And.intro hnm hby)
 clear hlc hcm hn hD h hnm hby
 go_enter Tryz.func38, Tryz.ntmps38
 go_wp2_with fail
 go_loopw [8] (fun i wr => ∃ j : Nat, j ≤ n ∧ i = .int .i64 j ∧ Hid (∃ P', McTs w wr gm P P' (playM m (D.take j)))) (fun i _ => n - (intOf i).toNat)
 case atStart => exact ⟨0, by omega, rfl, hide ⟨P, McTs.refl HM0.out⟩⟩
 case round =>
  obtain ⟨j, hj, rfl, HR⟩ := hrel
  by_cases hlt : j < n
  ·obtain ⟨P4, hrt⟩ := HR.out
   have HRT := hide hrt
   obtain ⟨d, hd⟩ : ∃ y, D[j]? = some y := ⟨_, List.getElem?_eq_getElem (by have := HN.out; omega)⟩
   have HPK : Hid (playM m (D.take (j + 1)) = stepM (playM m (D.take j)) d) := hide (by rw [List.take_add_one, hd]; exact playM_snoc _ _ _)
   have hdm := List.mem_of_getElem? hd
   have HNM : Hid (∀ x ∈ d.sp, x.n.size ≤ 1100000) := hide (fun x hx => by have := (HS.out.1 d hdm).2 x hx; omega)
   have HLE : Hid (d.eL.length ≤ 1100000) := hide (by
    have h1 := HS.out.2 d hdm
    unfold Dm.eL
    split
    ·omega
    ·split
     ·omega
     ·unfold pB
      split
      ·rename_i hok
       have := Cm.bytes_len hok
       omega
      ·simp)
   obtain ⟨p', c', hpe, _, _, hms⟩ := HD.out wr hrt.chg
   injection hpe with hpe1 hpe2 hpe3
   subst hpe1 hpe3
   clear hpe2
   obtain ⟨g, o, rfl, hin, hc⟩ := hms j d hd
   obtain ⟨mm, hmm⟩ : ∃ mm, playM m (D.take j) = mm := ⟨_, rfl⟩
   rw [hmm] at HRT HPK hrt
   have HIX := hide (And.intro hrt.am.is.ok.i0 hrt.am.is.ok.i1)
   have HTM := hide (And.intro hrt.am.is.ok.t0 hrt.am.is.ok.t1)
   clear hd hms hdm hmm HR
   obtain ⟨op, k, se, sq, a, p1, n1, d1, p2, n2, d2, tm, ei, et, p3, n3, d3, sp, vo, by_⟩ := d
   dsimp only at HNM
   have c0 := hc 0 _ rfl
   rw [Nat.add_zero] at c0
   have c1 := hc 1 _ rfl
   have c2 := hc 2 _ rfl
   have c3 := hc 3 _ rfl
   have c4 := hc 4 _ rfl
   have c5 := hc 5 _ rfl
   have c6 := hc 6 _ rfl
   have c7 := hc 7 _ rfl
   have c8 := hc 8 _ rfl
   have c9 := hc 9 _ rfl
   have c10 := hc 10 _ rfl
   clear hc
   go_upto_region 3 with fail
   have hbA := (Below.refl wr.heap.size wr).alloc (Nat.le_refl _) (.cells #[.int .i64 op, .int .i64 k, .int .i64 se, .int .i64 sq, .int .i64 a, .slice p1 n1 d1, .slice p2 n2 d2, .int .i64 tm, .int .i64 ei, .int .i64 et, .slice p3 n3 d3] 57)
   have hrA := heap_alloc_new wr (.cells #[.int .i64 op, .int .i64 k, .int .i64 se, .int .i64 sq, .int .i64 a, .slice p1 n1 d1, .slice p2 n2 d2, .int .i64 tm, .int .i64 ei, .int .i64 et, .slice p3 n3 d3] 57)
   obtain ⟨W, hW⟩ : ∃ W, wr.alloc (.cells #[.int .i64 op, .int .i64 k, .int .i64 se, .int .i64 sq, .int .i64 a, .slice p1 n1 d1, .slice p2 n2 d2, .int .i64 tm, .int .i64 ei, .int .i64 et, .slice p3 n3 d3] 57) = W := ⟨_, rfl⟩
   rw [hW] at hbA hrA ⊢
   obtain ⟨b, hbb⟩ : ∃ b, wr.heap.size = b := ⟨_, rfl⟩
   have HBA := hide hbA
   have HM := hide (hrt.am.below hbA)
   have HIN := hide (hin.below hbA)
   have HNB : Hid (¬ McS P4 b) := hide (fun e => by have := hrt.am.is.lt b e; omega)
   rw [hbb] at hrA ⊢
   have HKP : Hid (∀ U, Below W.heap.size W U → U.cell? ⟨b, 0, none⟩ = some (.int .i64 op) ∧ U.cell? ⟨b, 1, none⟩ = some (.int .i64 k) ∧ U.cell? ⟨b, 2, none⟩ = some (.int .i64 se) ∧ U.cell? ⟨b, 3, none⟩ = some (.int .i64 sq) ∧ U.cell? ⟨b, 4, none⟩ = some (.int .i64 a) ∧ U.cell? ⟨b, 5, none⟩ = some (.slice p1 n1 d1) ∧ U.cell? ⟨b, 6, none⟩ = some (.slice p2 n2 d2) ∧ U.cell? ⟨b, 7, none⟩ = some (.int .i64 tm) ∧ U.cell? ⟨b, 8, none⟩ = some (.int .i64 ei) ∧ U.cell? ⟨b, 9, none⟩ = some (.int .i64 et) ∧ U.cell? ⟨b, 10, none⟩ = some (.slice p3 n3 d3)) := hide fun U hU => (by
    have h1 := (hU.block b (Array.getElem?_eq_some_iff.1 hrA).1).trans hrA
    exact ⟨cell_of_row U b 0 _ 57 (0, 0) h1, cell_of_row U b 1 _ 57 (0, 0) h1, cell_of_row U b 2 _ 57 (0, 0) h1, cell_of_row U b 3 _ 57 (0, 0) h1, cell_of_row U b 4 _ 57 (0, 0) h1, cell_of_row U b 5 _ 57 (0, 0) h1, cell_of_row U b 6 _ 57 (0, 0) h1, cell_of_row U b 7 _ 57 (0, 0) h1, cell_of_row U b 8 _ 57 (0, 0) h1, cell_of_row U b 9 _ 57 (0, 0) h1, cell_of_row U b 10 _ 57 (0, 0) h1⟩)
   clear hbA hrA hW hbb hin hrt c0 c1 c2 c3 c4 c5 c6 c7 c8 c9 c10
   refine wp_region_held_drew (S := (fun U => U.cell? ⟨b, 0, none⟩ = some (.int .i64 op) ∧ U.cell? ⟨b, 1, none⟩ = some (.int .i64 k) ∧ U.cell? ⟨b, 2, none⟩ = some (.int .i64 se) ∧ U.cell? ⟨b, 3, none⟩ = some (.int .i64 sq) ∧ U.cell? ⟨b, 4, none⟩ = some (.int .i64 a) ∧ U.cell? ⟨b, 5, none⟩ = some (.slice p1 n1 d1) ∧ U.cell? ⟨b, 6, none⟩ = some (.slice p2 n2 d2) ∧ U.cell? ⟨b, 7, none⟩ = some (.int .i64 tm) ∧ U.cell? ⟨b, 8, none⟩ = some (.int .i64 ei) ∧ U.cell? ⟨b, 9, none⟩ = some (.int .i64 et) ∧ U.cell? ⟨b, 10, none⟩ = some (.slice p3 n3 d3))) (by kernel_rfl) ?_ (fun hHeld => ?_)
   ·(try dsimp only)
    exact HKP.out _ (bdrew W 1)
   refine tkI (i := 0) (oi := ⟨some 12, Op.move (Operand.tmp 0), 47, _, _, none⟩) (v := ?_) rfl (by rfl) ?_ ?_
   rotate_left
   ·intro w hSw
    (try dsimp only at hSw)
    go_simp
    try with_reducible rfl
   try simp only [Act.put, qA, qB, qC]
   refine tkI (i := 1) (oi := ⟨some 13, Op.load 57 (Operand.tmp 5), 57, _, _, none⟩) (v := ?_) rfl (by rfl) ?_ ?_
   rotate_left
   ·intro w hSw
    (try dsimp only at hSw)
    go_simp
    try with_reducible rfl
   try simp only [Act.put, qA, qB, qC]
   refine tkI (i := 2) (oi := ⟨some 14, Op.move (Operand.tmp 0), 47, _, _, none⟩) (v := ?_) rfl (by rfl) ?_ ?_
   rotate_left
   ·intro w hSw
    (try dsimp only at hSw)
    go_simp
    try with_reducible rfl
   try simp only [Act.put, qA, qB, qC]
   refine tkI (i := 4) (oi := ⟨some 16, Op.move (Operand.tmp 0), 47, _, _, none⟩) (v := ?_) rfl (by rfl) ?_ ?_
   rotate_left
   ·intro w hSw
    (try dsimp only at hSw)
    go_simp
    try with_reducible rfl
   try simp only [Act.put, qA, qB, qC]
   refine wpAnyH_ready (rs := [3]) (by kernel_rfl) (by simp) ?_
   refine AllReadyH.cons (o := ⟨some 15, Op.call { callee := Callee.value (Operand.func 40), args := #[Operand.tmp 14], argTypes := #[47] }, 3, _, _, none⟩) rfl (fun K hK => ?_) ?_
   ·go_simp
    go_at_call 40
    refine (mindex_any (HM.out.below (bdrew W 1))).mono ?_
    rintro e3 W3 ⟨rfl, rfl⟩
    first
     | refine hK.out _ _ ?_ (fun hHeld => ?_)
     | (go_wp2_with fail; refine hK.out _ _ ?_ (fun hHeld => ?_))
    ·(try dsimp only)
     exact HKP.out _ (bdrew W 1)
    clear hK K
    try simp only [Act.put, qA, qB, qC]
    refine wpAnyH_ready (rs := [5]) (by kernel_rfl) (by simp) ?_
    refine AllReadyH.cons (o := ⟨some 17, Op.call { callee := Callee.value (Operand.func 41), args := #[Operand.tmp 16], argTypes := #[47] }, 3, _, _, none⟩) rfl (fun K hK => ?_) ?_
    ·go_simp
     go_at_call 41
     refine (mterm_any (HM.out.below (bdrew W 1))).mono ?_
     rintro e5 W5 ⟨rfl, rfl⟩
     first
      | refine hK.out _ _ ?_ (fun hHeld => ?_)
      | (go_wp2_with fail; refine hK.out _ _ ?_ (fun hHeld => ?_))
     ·(try dsimp only)
      exact HKP.out _ (bdrew W 1)
     clear hK K
     try simp only [Act.put, qA, qB, qC]
     refine wpAnyH_ready (rs := [6]) (by kernel_rfl) (by simp) ?_
     refine AllReadyH.cons (o := ⟨some 18, Op.call { callee := Callee.value (Operand.func 31), args := #[Operand.tmp 13, Operand.tmp 15, Operand.tmp 17], argTypes := #[57, 3, 3] }, 55, _, _, none⟩) rfl (fun K hK => ?_) ?_
     ·go_simp
      go_at_call 31
      refine (mentry_any (d := ⟨op, k, se, sq, a, p1, n1, d1, p2, n2, d2, tm, ei, et, p3, n3, d3, sp, vo, by_⟩) (HIN.out.below (bdrew W 1)) HNM.out HIX.out HTM.out).mono ?_
      rintro e6 W6 ⟨pe, ne, ce, rfl, hby6, hb6⟩
      have HB6 : Hid (Below W.heap.size W W6) := hide ((bdrew W 1).trans hb6)
      have HBY := hide hby6
      clear hby6 hb6
      first
       | refine hK.out _ _ ?_ (fun hHeld => ?_)
       | (go_wp2_with fail; refine hK.out _ _ ?_ (fun hHeld => ?_))
      ·(try dsimp only)
       exact HKP.out _ HB6.out
      clear hK K
      try simp only [Act.put, qA, qB, qC]
      refine wpAnyH_ready (rs := [7]) (by kernel_rfl) (by simp) ?_
      refine AllReadyH.cons (o := ⟨some 19, Op.call { callee := Callee.value (Operand.func 32), args := #[Operand.tmp 12, Operand.tmp 18], argTypes := #[47, 55] }, 67, _, _, none⟩) rfl (fun K hK => ?_) ?_
      ·go_simp
       go_at_call 32
       have HM4 := hide (HM.out.below HB6.out)
       refine (mapply_any HM4.out HBY.out HLE.out).mono ?_
       rintro e7 W7 ⟨rfl, P8, hto, hmk⟩
       have HTO := hide (And.intro hto hmk)
       have HK7 : Hid (W7.cell? ⟨b, 0, none⟩ = some (.int .i64 op) ∧ W7.cell? ⟨b, 1, none⟩ = some (.int .i64 k) ∧ W7.cell? ⟨b, 2, none⟩ = some (.int .i64 se) ∧ W7.cell? ⟨b, 3, none⟩ = some (.int .i64 sq) ∧ W7.cell? ⟨b, 4, none⟩ = some (.int .i64 a) ∧ W7.cell? ⟨b, 5, none⟩ = some (.slice p1 n1 d1) ∧ W7.cell? ⟨b, 6, none⟩ = some (.slice p2 n2 d2) ∧ W7.cell? ⟨b, 7, none⟩ = some (.int .i64 tm) ∧ W7.cell? ⟨b, 8, none⟩ = some (.int .i64 ei) ∧ W7.cell? ⟨b, 9, none⟩ = some (.int .i64 et) ∧ W7.cell? ⟨b, 10, none⟩ = some (.slice p3 n3 d3)) := hide (by
        obtain ⟨a0, a1, a2, a3, a4, a5, a6, a7, a8, a9, a10⟩ := HKP.out _ HB6.out
        have hk : ∀ (i : Nat) (u : Value), W6.cell? ⟨b, i, none⟩ = some u → W7.cell? ⟨b, i, none⟩ = some u := fun i u hu => hto.chg.cell hu (fun e => HNB.out (McC.sub e))
        exact ⟨hk 0 _ a0, hk 1 _ a1, hk 2 _ a2, hk 3 _ a3, hk 4 _ a4, hk 5 _ a5, hk 6 _ a6, hk 7 _ a7, hk 8 _ a8, hk 9 _ a9, hk 10 _ a10⟩)
       clear hto hmk
       have HBXW : Hid (Below wr.heap.size wr W6) := hide (HBA.out.trans (HB6.out.mono HBA.out.size))
       first
        | refine hK.out _ _ ?_ (fun hHeld => ?_)
        | (go_wp2_with fail; refine hK.out _ _ ?_ (fun hHeld => ?_))
       ·(try dsimp only)
        exact HK7.out
       clear hK K
       try simp only [Act.put, qA, qB, qC]
       refine wpAnyH_done (by kernel_rfl) ?_ _
       clear hHeld
       have HTT := hide (HRT.out.step HBXW.out HM4.out HTO.out)
       go_wp2_with fail
       go_roundw
       case rel => exact ⟨j + 1, by omega, by go_num, hide ⟨P8, by rw [HPK.out]; exact HTT.out⟩⟩
       case measure => simp [intOf]; omega
      exact AllReadyH.nil
     exact AllReadyH.nil
    exact AllReadyH.nil
   exact AllReadyH.nil
  ·obtain ⟨P4, hrt⟩ := HR.out
   rw [List.take_of_length_le (by have := HN.out; omega)] at hrt
   have HF := hide hrt
   clear hrt HR
   go_wp2_with fail
   go_end0
   exact ⟨rfl, P4, HF.out⟩
end Go.Proofs.YtionbmlicmibgaaGreatDoor
