import Derived.Test.YtionbmlicmibgaaGreatDoorS9
import Derived.Test.YtionbmlicmibgaaGreatDoorS6c
namespace Go.Proofs.YtionbmlicmibgaaGreatDoor
set_option linter.unusedVariables false
set_option linter.unusedSimpArgs false
open Go.RowKit
set_option maxRecDepth 200000 in
set_option maxHeartbeats 2000000 in
theorem refPut_any {w : World} {v : Value} {l : List Sp} (hv : Sps w v l) (hl : l.length ≤ 100000) (hnm : ∀ x ∈ l, x.n.size ≤ 1100000) {B : List UInt8} {E : Nat} (hP : putB l = (B, E)) :
  Calls Tryz.prog 57 #[v] w fun e w' => ∃ v', e = .returned (.tuple #[v', .int .i64 (E : Int)]) ∧ Own w.heap.size w' v' B ∧ Below w.heap.size w w' := by
 obtain ⟨p, n, c, rfl⟩ := hv.sl
 obtain ⟨hn, hnc, hcm⟩ := hv.len
 have HV := hide hv
 have HN := hide hn
 have HP := hide hP
 have HM := hide hnm
 have hn1 : n ≤ 100000 := by omega
 clear hv hn hP hnm hl
 go_enter Tryz.func57, Tryz.ntmps57
 go_wp2_with fail
 refine (refNumber_own (By.nil w) (by simp) n n (by omega) (by unfold lim; omega)).mono ?_
 rintro e1 w1 ⟨v1, rfl, ho, hb⟩
 rw [List.nil_append] at ho
 have HG := hide ho
 have HB := hide hb
 clear hb ho
 go_wp2_with fail
 go_loopw [4, 6, 12] (fun v _ c wr => ∃ k : Nat, k ≤ n ∧ c = .int .i64 k ∧ Hid (Own w.heap.size wr v (digits n ++ ((l.take k).map Sp.bytes).flatten) ∧ Below w.heap.size w wr ∧ (l.take k).all Sp.ok = true)) (fun _ _ c _ => n - (intOf c).toNat)
 case atStart => exact ⟨0, by omega, rfl, hide ⟨by simpa using HG.out, HB.out, rfl⟩⟩
 case round =>
  obtain ⟨k, hk, rfl, HR⟩ := hrel
  by_cases hlt : (k : Int) < (n : Int)
  ·obtain ⟨g, o, rfl, hx⟩ := HV.out.at_ (by omega)
   obtain ⟨x, hxk⟩ : ∃ x, l[k]? = some x := ⟨_, List.getElem?_eq_getElem (by have := HN.out; omega)⟩
   have hat := (hx k x hxk).below (HR.out.2.1)
   obtain ⟨oo, hoo⟩ : ∃ oo, o + k * 6 = oo := ⟨_, rfl⟩
   rw [hoo] at hat
   have c0 := hat.c0
   have c1' := hat.c1
   have c2 := hat.c2
   have c3 := hat.c3
   have c4 := hat.c4
   have c5 := hat.c5
   have hxn := HM.out x (List.mem_of_getElem? hxk)
   have HXK := hide hxk
   have HAT := hide hat
   have hck := refCheck_any x hxn
   have HCK := hide hck
   have HBX := hide (refBytes_any x)
   clear hx hxk hat hck
   have hnew := spAt_new wr x
   have HNEW := hide hnew
   have hbn : Below wr.heap.size wr (wr.alloc (.cells #[.int .i64 x.t, .int .i64 x.i, .int .i64 x.p, .int .i64 x.s, .int .i64 x.e, .string x.n] 30)) := (Below.refl _ _).alloc (Nat.le_refl _) _
   have HBN := hide hbn
   have hsn : wr.heap.size < (wr.alloc (.cells #[.int .i64 x.t, .int .i64 x.i, .int .i64 x.p, .int .i64 x.s, .int .i64 x.e, .string x.n] 30)).heap.size := by simp
   have HSN := hide hsn
   clear hnew hbn hsn
   by_cases hok : x.ok = true
   ·have HOK := hide hok
    obtain ⟨t, i, p, s, e, nm⟩ := x
    dsimp only at *
    unfold spV at *
    rw [if_pos hok] at HCK
    clear hok
    go_wp2_with fail
    refine (HCK.out _).mono ?_
    rintro e2 w2 ⟨rfl, hb2⟩
    obtain ⟨d0, d1, d2, d3, d4, d5⟩ := (HNEW.out.below hb2).z
    dsimp only at d0 d1 d2 d3 d4 d5
    have HB2 : Hid (Below wr.heap.size wr w2) := hide (HBN.out.trans (hb2.mono (Nat.le_of_lt HSN.out)))
    clear hb2
    go_wp2_with fail
    refine (HBX.out HOK.out _).mono ?_
    rintro e3 w3 ⟨v3, rfl, ho3, hb3⟩
    have HG3 := hide (HR.out.1.below (HB2.out.trans (hb3.mono HB2.out.size)))
    have HB3 := hide (HR.out.2.1.trans ((HB2.out.trans (hb3.mono HB2.out.size)).mono HR.out.2.1.size))
    have HP3 := hide ho3.by_
    have hbs3 := HB3.out.size
    have HOK2 : Hid ((l.take (k + 1)).all Sp.ok = true ∧ digits n ++ ((l.take (k + 1)).map Sp.bytes).flatten = (digits n ++ ((l.take k).map Sp.bytes).flatten) ++ Sp.bytes ⟨t, i, p, s, e, nm⟩) := hide (by
     have h1 : l.take (k + 1) = l.take k ++ [⟨t, i, p, s, e, nm⟩] := by rw [List.take_add_one, HXK.out]; rfl
     rw [h1, List.all_append, HR.out.2.2]
     refine ⟨?_, by simp⟩
     simp only [List.all_cons, List.all_nil, Bool.and_true, Bool.true_and]
     exact HOK.out)
    have hlk : (digits n ++ ((l.take k).map Sp.bytes).flatten).length + (Sp.bytes ⟨t, i, p, s, e, nm⟩).length ≤ 140737488355328 := by
     have h1 := lens_puts HR.out.2.2
     have h2 := bytes_length HOK.out
     have h3 := digits_length n (by omega)
     rw [List.length_append, flatten_length]
     rw [List.length_take] at h1
     omega
    have HLK := hide hlk
    clear ho3 hb3 d0 d1 d2 d3 d4 d5 hlk
    go_wp2_with (at_builtin; go_must (refine wpList_append_by rfl _ _ rfl rfl rfl rfl HG3.out HP3.out HLK.out hbs3 ?_); intro v4 w4 hg4 _ hb4 _)
    go_roundw
    case rel => exact ⟨k + 1, by omega, by go_num, hide ⟨by rw [HOK2.out.2]; exact hg4, HB3.out.trans hb4, HOK2.out.1⟩⟩
    case measure => simp [intOf]; omega
   ·have hBE : B = [] ∧ E = 30 := by
     have hall : l.all Sp.ok = false := by
      rw [Bool.eq_false_iff]
      intro h
      exact hok (List.all_eq_true.1 h x (List.mem_of_getElem? HXK.out))
     have := HP.out
     unfold putB at this
     rw [hall] at this
     simp only [Bool.false_eq_true, if_false, Prod.mk.injEq] at this
     exact ⟨this.1.symm, this.2.symm⟩
    obtain ⟨rfl, rfl⟩ := hBE
    obtain ⟨t, i, p, s, e, nm⟩ := x
    dsimp only at *
    unfold spV at *
    rw [if_neg hok] at HCK
    clear hok
    go_wp2_with fail
    refine (HCK.out _).mono ?_
    rintro e2 w2 ⟨rfl, hb2⟩
    have HB2 : Hid (Below wr.heap.size wr w2) := hide (HBN.out.trans (hb2.mono (Nat.le_of_lt HSN.out)))
    clear hb2
    go_wp2
    go_ret2
    exact ⟨_, rfl, Own.nil _ _, HR.out.2.1.trans (HB2.out.mono HR.out.2.1.size)⟩
  ·have hkn : k = n := by omega
   subst hkn
   have hall : l.all Sp.ok = true := by
    have := HR.out.2.2
    rwa [List.take_of_length_le (by have := HN.out; omega)] at this
   have hG : Own w.heap.size wr u4 (digits k ++ (l.map Sp.bytes).flatten) := by
    have := HR.out.1
    rwa [List.take_of_length_le (by have := HN.out; omega)] at this
   have hBE : B = digits k ++ (l.map Sp.bytes).flatten ∧ E = 0 := by
    have := HP.out
    unfold putB at this
    rw [hall] at this
    simp only [if_true, Prod.mk.injEq] at this
    refine ⟨?_, this.2.symm⟩
    rw [← this.1]
    unfold encL
    rw [HN.out]
   obtain ⟨rfl, rfl⟩ := hBE
   have HJ := hide hG
   have HBW := hide HR.out.2.1
   clear hG hall
   go_wp2
   go_ret2
   exact ⟨_, rfl, HJ.out, HBW.out⟩
end Go.Proofs.YtionbmlicmibgaaGreatDoor
