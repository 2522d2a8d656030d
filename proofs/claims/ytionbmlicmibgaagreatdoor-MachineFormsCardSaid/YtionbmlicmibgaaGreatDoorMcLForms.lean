/- The law MachineForms. -/
import Derived.Test.YtionbmlicmibgaaGreatDoorMcAw
import Derived.Test.YtionbmlicmibgaaGreatDoorMcHvy
namespace Go.Proofs.YtionbmlicmibgaaGreatDoor
set_option linter.unusedVariables false
set_option linter.unusedSimpArgs false
open Go.RowKit

theorem Cm.ok_names {c : Cm} (h : c.ok = true) : ∀ x ∈ c.sp, x.n.size ≤ 1100000 := by
 rcases (Cm.ok_iff _).1 h with ⟨_, h1⟩ | ⟨_, _, _, _, h4⟩ | ⟨_, h1, _⟩ | ⟨_, h1, _⟩ | ⟨_, h1, _⟩
 ·rw [h1]; simp
 ·intro x hx
  have h5 := (spsOk_ok h4).2.2 x hx
  obtain ⟨_, _, _, _, _, _, _, _, _, _, _, h6, _⟩ := (Sp.ok_iff x).1 h5
  have e : x.n.size = x.nl.length := rfl
  omega
 ·rw [h1]; simp
 ·rw [h1]; simp
 ·rw [h1]; simp
set_option maxRecDepth 200000 in
set_option maxHeartbeats 16000000 in
theorem lawMForms_any {w : World} (hE : ErrT w) {k se sq a : Int} {p : Option Addr} {n d : Nat} {q : Option Addr} {m f : Nat} {sp : List Sp} {vo : List Int} (hs : Sps w (.slice p n d) sp) (hnm : ∀ x ∈ sp, x.n.size ≤ maxLen) (hv : Ns w (.slice q m f) vo) (_ : fits k ∧ fits se ∧ fits sq ∧ fits a) {pb : Option Addr} {nb cb : Nat} {l : List UInt8} (hb : By w (.slice pb nb cb) l) : Calls Tryz.prog 5 #[.agg #[.int .i64 k, .int .i64 se, .int .i64 sq, .int .i64 a, .slice p n d, .slice q m f], .slice pb nb cb] w fun e w' => e = .returned (.bool true) ∧ Below w.heap.size w w' := by
 have HE := hide hE
 have HBY := hide hb
 have HNB := hide hb.len.1
 have hb9 := hb.lenMax
 have hbx := (Below.refl w.heap.size w).alloc (Nat.le_refl _) (.cells #[.int .i64 k, .int .i64 se, .int .i64 sq, .int .i64 a, .slice p n d, .slice q m f] 25)
 have hbc := BoxC.new w k se sq a (.slice p n d) (.slice q m f)
 obtain ⟨X, hX⟩ : ∃ X, w.alloc (.cells #[.int .i64 k, .int .i64 se, .int .i64 sq, .int .i64 a, .slice p n d, .slice q m f] 25) = X := ⟨_, rfl⟩
 obtain ⟨b, hbq⟩ : ∃ b, w.heap.size = b := ⟨_, rfl⟩
 rw [hX] at hbx hbc
 have HB0 : Hid (Below w.heap.size w X) := hide hbx
 rw [hbq] at hbc
 have HBX : Hid (∀ U, Below X.heap.size X U → BoxC U b k se sq a (.slice p n d) (.slice q m f)) := hide fun U hU => hbc.below hU
 have HV := hide (mheavy_any (k := k) (se := se) (sq := sq) (a := a) (hs.below hbx) (Nat.le_trans (hv.below hbx).len.2.1 (hv.below hbx).len.2.2) hnm (q := q) (f := f) (d := d) (p := p))
 have HCA := hide (And.intro hs (And.intro hv hnm))
 obtain ⟨x0, x1, x2, x3, x4, x5⟩ := hbc
 clear hs hv hnm hb hbx hE
 go_enter Tryz.func5, Tryz.ntmps5
 go_wp2_with fail
 refine HV.out.mono ?_
 rintro e w1 ⟨⟨y, rfl, hy0, hy1, hsm⟩, hb1⟩
 have HB1 : Hid (Below w.heap.size w w1) := hide (HB0.out.trans (hb1.mono HB0.out.size))
 have HX1 : Hid (∀ U, Below w1.heap.size w1 U → BoxC U b k se sq a (.slice p n d) (.slice q m f)) := hide fun U hU => HBX.out U (hb1.trans (hU.mono hb1.size))
 have HSM := hide hsm
 clear hb1 hsm HV x0 x1 x2 x3 x4 x5
 by_cases hy : 32768 < y
 ·have e1 : decide (32768 < y) = true := decide_eq_true hy
  go_wp2_with fail
  refine (mawake_any (HE.out.below HB1.out)).mono ?_
  rintro e wz ⟨rfl, hbz⟩
  go_wp2_with fail
  go_ret
  exact ⟨rfl, HB1.out.trans (hbz.mono HB1.out.size)⟩
 ·have e1 : decide (32768 < y) = false := decide_eq_false hy
  have HCM : Hid (CmAt w (.slice p n d) (.slice q m f) ⟨k, se, sq, a, sp, vo⟩) := hide ⟨HCA.out.1, HCA.out.2.1, fun x hx => by have := (HSM.out (by omega)).2 x hx; omega⟩
  by_cases hl : 32768 < (nb : Int)
  ·have e2 : decide (32768 < (nb : Int)) = true := decide_eq_true hl
   go_wp2_with fail
   refine (mawake_any (HE.out.below HB1.out)).mono ?_
   rintro e wz ⟨rfl, hbz⟩
   go_wp2_with fail
   go_ret
   exact ⟨rfl, HB1.out.trans (hbz.mono HB1.out.size)⟩
  ·have e2 : decide (32768 < (nb : Int)) = false := decide_eq_false hl
   have HLB : Hid (l.length ≤ 32768) := hide (by have := HNB.out; omega)
   obtain ⟨x0, x1, x2, x3, x4, x5⟩ := HX1.out w1 (Below.refl _ _)
   have HMP := hide (mput_any (HCM.out.below HB1.out))
   unfold cmV at HMP
   dsimp only at HMP
   go_wp2_with fail
   refine HMP.out.mono ?_
   intro e w2 hp2
   rcases hp2 with ⟨hok, p2, n2, c2, rfl, ho2, hb2⟩ | ⟨hno, rfl, hb2⟩
   ·have HB2 : Hid (Below w.heap.size w w2) := hide (HB1.out.trans (hb2.mono HB1.out.size))
    have HX2 : Hid (∀ U, Below w2.heap.size w2 U → BoxC U b k se sq a (.slice p n d) (.slice q m f)) := hide fun U hU => HX1.out U (hb2.trans (hU.mono hb2.size))
    have HOK := hide hok
    have HG0 := mget_any ho2.by_ (by have := Cm.bytes_len hok; omega)
    rw [getC_bytes hok] at HG0
    have HGX := hide HG0
    clear hok ho2 hb2 HG0 HMP x0 x1 x2 x3 x4 x5
    go_wp2_with fail
    refine HGX.out.mono ?_
    rintro e w3 ⟨xp, xn, xd, xq, xm, xf, rfl, hos, hon, hb3⟩
    have HB3 : Hid (Below w.heap.size w w3) := hide (HB2.out.trans (hb3.mono HB2.out.size))
    have HBA : Hid (Below w3.heap.size w3 (w3.alloc (.cells #[.int .i64 k, .int .i64 se, .int .i64 sq, .int .i64 a, .slice xp xn xd, .slice xq xm xf] 25))) := hide ((Below.refl w3.heap.size w3).alloc (Nat.le_refl _) _)
    have HXA := hide (HX2.out _ (hb3.trans (HBA.out.mono hb3.size)))
    have HBA0 : Hid (Below w.heap.size w (w3.alloc (.cells #[.int .i64 k, .int .i64 se, .int .i64 sq, .int .i64 a, .slice xp xn xd, .slice xq xm xf] 25))) := hide (HB3.out.trans (HBA.out.mono HB3.out.size))
    have HSA := hide (same_true (k := k) (se := se) (sq := sq) (a := a) (hos.sps.below HBA.out) (HCM.out.sp.below HBA0.out) (hon.ns.below HBA.out) (HCM.out.vo.below HBA0.out))
    obtain ⟨x0, x1, x2, x3, x4, x5⟩ := HXA.out
    clear hos hon hb3 HGX
    unfold cmV
    dsimp only
    go_wp2_with fail
    refine HSA.out.mono ?_
    rintro e w4 ⟨rfl, hb4⟩
    have HB4 : Hid (Below w.heap.size w w4) := hide (HBA0.out.trans (hb4.mono HBA0.out.size))
    clear x0 x1 x2 x3 x4 x5
    obtain ⟨x0, x1, x2, x3, x4, x5⟩ := HXA.out.below hb4
    have HCK := hide (mcheck_any (HCM.out.below HB4.out))
    unfold ChkC cmV at HCK
    rw [HOK.out] at HCK
    unfold eno at HCK
    dsimp only at HCK
    clear hb4 HSA
    go_wp2_with fail
    refine HCK.out.mono ?_
    rintro e w5 ⟨rfl, hb5⟩
    have HB5 : Hid (Below w.heap.size w w5) := hide (HB4.out.trans (hb5.mono HB4.out.size))
    clear hb5 HCK x0 x1 x2 x3 x4 x5
    have HG := hide (mget_any (HBY.out.below HB5.out) (by have := HLB.out; omega))
    obtain ⟨gc, hgc⟩ : ∃ g, getC l = g := ⟨_, rfl⟩
    rw [hgc] at HG
    cases gc with
    | none =>
     clear hgc
     go_wp2_with fail
     refine HG.out.mono ?_
     rintro e w7 ⟨rfl, hb⟩
     have HB7 : Hid (Below w.heap.size w w7) := hide (HB5.out.trans (hb.mono HB5.out.size))
     clear hb
     unfold cmV cm0
     dsimp only
     have HB8 : Hid (Below w.heap.size w (w7.alloc (.cells #[.int .i64 0, .int .i64 0, .int .i64 0, .int .i64 0, .slice none 0 0, .slice none 0 0] 25))) := hide (HB7.out.trans ((Below.refl w7.heap.size w7).alloc (Nat.le_refl _) _ |>.mono HB7.out.size))
     go_wp2_with fail
     refine (same_true (Sps.nil _) (Sps.nil _) (Ns.nil _) (Ns.nil _)).mono ?_
     rintro e w9 ⟨rfl, hb⟩
     have HB9 : Hid (Below w.heap.size w w9) := hide (HB8.out.trans (hb.mono HB8.out.size))
     clear hb
     go_wp2_with fail
     refine (mawake_any (HE.out.below HB9.out)).mono ?_
     rintro e wz ⟨rfl, hbz⟩
     go_wp2_with fail
     go_ret
     exact ⟨rfl, HB9.out.trans (hbz.mono HB9.out.size)⟩
    | some gc =>
     obtain ⟨hgo, hgb, _⟩ := getC_some hgc
     have HGO := hide (And.intro hgo hgb)
     clear hgc hgo hgb
     go_wp2_with fail
     refine HG.out.mono ?_
     rintro e w7 ⟨gp, gn, gd, gq, gm, gf, rfl, hos, hon, hb⟩
     have HB7 : Hid (Below w.heap.size w w7) := hide (HB5.out.trans (hb.mono HB5.out.size))
     have hnx : ∀ x ∈ gc.sp, x.n.size ≤ 1100000 := Cm.ok_names HGO.out.1
     have HCX := hide (show CmAt w7 (.slice gp gn gd) (.slice gq gm gf) gc from ⟨hos.sps, hon.ns, hnx⟩)
     clear hb hos hon hnx
     have HBQ : Hid (Below w7.heap.size w7 (w7.alloc (.cells #[.int .i64 gc.k, .int .i64 gc.se, .int .i64 gc.sq, .int .i64 gc.a, .slice gp gn gd, .slice gq gm gf] 25))) := hide ((Below.refl w7.heap.size w7).alloc (Nat.le_refl _) _)
     have HMP := hide (mput_any (HCX.out.below HBQ.out))
     unfold cmV at HMP ⊢
     go_wp2_with fail
     refine HMP.out.mono ?_
     intro e w8 hp8
     rcases hp8 with ⟨_, pb8, nb8, cb8, rfl, hob8, hb⟩ | ⟨hno, _⟩
     case inr => rw [HGO.out.1] at hno; cases hno
     have HB8 : Hid (Below w.heap.size w w8) := hide (HB7.out.trans ((HBQ.out.trans (hb.mono HBQ.out.size)).mono HB7.out.size))
     have HEQ := hide (equal_any hob8.by_ (HBY.out.below HB8.out))
     rw [HGO.out.2, beq_self_eq_true] at HEQ
     clear hob8 hb HMP
     go_wp2_with fail
     refine HEQ.out.mono ?_
     rintro e w9 ⟨rfl, rfl⟩
     go_wp2_with fail
     refine (mawake_any (HE.out.below HB8.out)).mono ?_
     rintro e wz ⟨rfl, hbz⟩
     go_wp2_with fail
     go_ret
     exact ⟨rfl, HB8.out.trans (hbz.mono HB8.out.size)⟩
   ·have HB4 : Hid (Below w.heap.size w w2) := hide (HB1.out.trans (hb2.mono HB1.out.size))
    have HX4 := hide (HX1.out _ hb2)
    have HOK := hide hno
    clear hno hb2 HMP x0 x1 x2 x3 x4 x5
    obtain ⟨x0, x1, x2, x3, x4, x5⟩ := HX4.out
    have HCK := hide (mcheck_any (HCM.out.below HB4.out))
    unfold ChkC cmV at HCK
    rw [HOK.out] at HCK
    unfold eno at HCK
    dsimp only at HCK
    go_wp2_with fail
    refine HCK.out.mono ?_
    rintro e w5 ⟨rfl, hb5⟩
    have HB5 : Hid (Below w.heap.size w w5) := hide (HB4.out.trans (hb5.mono HB4.out.size))
    clear hb5 HCK x0 x1 x2 x3 x4 x5
    have HG := hide (mget_any (HBY.out.below HB5.out) (by have := HLB.out; omega))
    obtain ⟨gc, hgc⟩ : ∃ g, getC l = g := ⟨_, rfl⟩
    rw [hgc] at HG
    cases gc with
    | none =>
     clear hgc
     go_wp2_with fail
     refine HG.out.mono ?_
     rintro e w7 ⟨rfl, hb⟩
     have HB7 : Hid (Below w.heap.size w w7) := hide (HB5.out.trans (hb.mono HB5.out.size))
     clear hb
     unfold cmV cm0
     dsimp only
     have HB8 : Hid (Below w.heap.size w (w7.alloc (.cells #[.int .i64 0, .int .i64 0, .int .i64 0, .int .i64 0, .slice none 0 0, .slice none 0 0] 25))) := hide (HB7.out.trans ((Below.refl w7.heap.size w7).alloc (Nat.le_refl _) _ |>.mono HB7.out.size))
     go_wp2_with fail
     refine (same_true (Sps.nil _) (Sps.nil _) (Ns.nil _) (Ns.nil _)).mono ?_
     rintro e w9 ⟨rfl, hb⟩
     have HB9 : Hid (Below w.heap.size w w9) := hide (HB8.out.trans (hb.mono HB8.out.size))
     clear hb
     go_wp2_with fail
     refine (mawake_any (HE.out.below HB9.out)).mono ?_
     rintro e wz ⟨rfl, hbz⟩
     go_wp2_with fail
     go_ret
     exact ⟨rfl, HB9.out.trans (hbz.mono HB9.out.size)⟩
    | some gc =>
     obtain ⟨hgo, hgb, _⟩ := getC_some hgc
     have HGO := hide (And.intro hgo hgb)
     clear hgc hgo hgb
     go_wp2_with fail
     refine HG.out.mono ?_
     rintro e w7 ⟨gp, gn, gd, gq, gm, gf, rfl, hos, hon, hb⟩
     have HB7 : Hid (Below w.heap.size w w7) := hide (HB5.out.trans (hb.mono HB5.out.size))
     have hnx : ∀ x ∈ gc.sp, x.n.size ≤ 1100000 := Cm.ok_names HGO.out.1
     have HCX := hide (show CmAt w7 (.slice gp gn gd) (.slice gq gm gf) gc from ⟨hos.sps, hon.ns, hnx⟩)
     clear hb hos hon hnx
     have HBQ : Hid (Below w7.heap.size w7 (w7.alloc (.cells #[.int .i64 gc.k, .int .i64 gc.se, .int .i64 gc.sq, .int .i64 gc.a, .slice gp gn gd, .slice gq gm gf] 25))) := hide ((Below.refl w7.heap.size w7).alloc (Nat.le_refl _) _)
     have HMP := hide (mput_any (HCX.out.below HBQ.out))
     unfold cmV at HMP ⊢
     go_wp2_with fail
     refine HMP.out.mono ?_
     intro e w8 hp8
     rcases hp8 with ⟨_, pb8, nb8, cb8, rfl, hob8, hb⟩ | ⟨hno, _⟩
     case inr => rw [HGO.out.1] at hno; cases hno
     have HB8 : Hid (Below w.heap.size w w8) := hide (HB7.out.trans ((HBQ.out.trans (hb.mono HBQ.out.size)).mono HB7.out.size))
     have HEQ := hide (equal_any hob8.by_ (HBY.out.below HB8.out))
     rw [HGO.out.2, beq_self_eq_true] at HEQ
     clear hob8 hb HMP
     go_wp2_with fail
     refine HEQ.out.mono ?_
     rintro e w9 ⟨rfl, rfl⟩
     go_wp2_with fail
     refine (mawake_any (HE.out.below HB8.out)).mono ?_
     rintro e wz ⟨rfl, hbz⟩
     go_wp2_with fail
     go_ret
     exact ⟨rfl, HB8.out.trans (hbz.mono HB8.out.size)⟩
end Go.Proofs.YtionbmlicmibgaaGreatDoor
