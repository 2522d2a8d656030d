/- The law SessionLoads. -/
import Derived.Test.YtfbndbmhnpleoaaTRLoad
import Derived.Test.YtfbndbmhnpleoaaTLawBack
import Derived.Test.YtfbndbmhnpleoaaApp
namespace Go.Proofs.Ytfbndbmhnpleoaa
set_option linter.unusedVariables false
set_option linter.unusedSimpArgs false
open Go.RowKit

set_option maxRecDepth 200000 in
set_option maxHeartbeats 4000000 in
theorem slClone_any {w : World} {p : Option Addr} {n c : Nat} {l : List UInt8} (h : By w (.slice p n c) l) (hl : l.length ≤ 1000000) : Calls Try.prog 5 #[.slice p n c] w fun e w' => (∃ p' n' c', e = .returned (.slice p' n' c') ∧ By w' (.slice p' n' c') l) ∧ Below w.heap.size w w' := by
  have qsp : ∀ (w : World) (a : Option Addr) (n c n' c' : Nat), (binOp .eql 22 (.slice a n c) (.slice none n' c')).run Try.prog w = .ok (.bool a.isNone) w := fun w a n c n' c' => Lib.run_eql_slice_nil w _ _ a n c n' c' Try.underlying22
  cases p with
  | none =>
    have HB := hide (Below.refl w.heap.size w)
    have h1 := h.len.1
    obtain ⟨p', cap, e, _, _, h2, _⟩ := h
    injection e with e1 e2 e3
    have hc := h2 e1.symm
    have hE0 : l = [] := List.eq_nil_of_length_eq_zero (by omega)
    subst hE0
    have HN := hide ((Own.nil w.heap.size w).by_)
    clear h1 h2 hc e1 e2 e3 hl
    go_enter Try.func5, Try.ntmps5
    go_wp2
    go_ret
    exact ⟨⟨_, _, _, rfl, HN.out⟩, HB.out⟩
  | some a =>
    have bE := (Below.refl w.heap.size w).alloc (Nat.le_refl _) (.cells #[] 5)
    have oE : Own w.heap.size (w.alloc (.cells #[] 5)) (.slice (some ⟨w.heap.size, 0, none⟩) 0 0) [] := Own.of_row (World.ownsRow_lit w #[] 0 (Nat.le_refl _) (by decide) rfl)
    have HEE := hide (h.below bE)
    have HOE := hide oE
    have HBE := hide bE
    have HEL := hide hl
    clear bE oE h hl
    go_enter Try.func5, Try.ntmps5
    go_wp2_with (at_builtin; go_loud (refine wpList_append_by (v := .slice (some ⟨w.heap.size, 0, none⟩) 0 0) (y := .slice (some a) n c) (l := []) (m := l) (B := w.heap.size) rfl (.tmp 5) (.tmp 6) rfl rfl rfl rfl HOE.out HEE.out (by have := HEL.out; simp; omega) HBE.out.size ?_); intro v4 w4 ho4 hg4 hb4 hk4; rw [List.nil_append] at ho4; obtain ⟨p4, n4, c4, rfl⟩ := ho4.by_.sl; have HB4 := hide (HBE.out.trans hb4); have HO4 := hide ho4.by_; clear ho4 hg4 hb4 hk4)
    go_ret
    exact ⟨⟨_, _, _, rfl, HO4.out⟩, HB4.out⟩

set_option maxRecDepth 200000 in
set_option maxHeartbeats 4000000 in
theorem lawLoads_any {w : World} {pb : Option Addr} {nb cb : Nat} {m : List UInt8} (hm : By w (.slice pb nb cb) m) : Calls Try.prog 3 #[.slice pb nb cb] w (LawPost w) := by
  have hb64 := hm.lenMax
  have hnb := hm.len.1
  have hA := awake_any w
  by_cases hn2 : 65536 < nb
  · clear hm hnb
    go_enter Try.func3, Try.ntmps3
    go_wp2_with fail
    refine hA.mono ?_
    rintro e w1 ⟨rfl, hb⟩
    go_wp2
    go_ret
    exact ⟨by rfl, hb⟩
  have HM := hide hm
  have HNB := hide hnb
  clear hA hm hnb
  go_enter Try.func3, Try.ntmps3
  go_wp2_with fail
  refine (slClone_any HM.out (by have := HNB.out; omega)).mono ?_
  rintro e w1 ⟨⟨p1, n1, c1, rfl, hm1⟩, hb1⟩
  have G1 := hide hm1
  have M1 := hide (HM.out.below hb1)
  have B1 := hide hb1
  have k2 := hide (load_any hm1 (by have := HNB.out; omega))
  clear hm1 hb1
  cases hld : loadT m with
  | none =>
    rw [hld] at k2
    have HLD := hide hld
    clear hld
    go_wp2_with fail
    refine k2.out.mono ?_
    rintro e w2 ⟨rfl, hb2⟩
    have G2 := hide (G1.out.below hb2)
    have M2 := hide (M1.out.below hb2)
    have B2 := hide (B1.out.trans (hb2.mono B1.out.size))
    have k3 := hide (refLoad_any M2.out (by have := HNB.out; omega))
    rw [HLD.out] at k3
    clear hb2 k2
    go_wp2_with fail
    refine k3.out.mono ?_
    rintro e w3 ⟨rfl, hb3⟩
    have B3 := hide (B2.out.trans (hb3.mono B2.out.size))
    have k4 := hide (equal_any (G2.out.below hb3) (M2.out.below hb3))
    rw [beq_self_eq_true] at k4
    clear hb3 k3
    go_wp2_with fail
    refine k4.out.mono ?_
    rintro e w4 ⟨rfl, rfl⟩
    go_wp2_with fail
    refine (awake_any _).mono ?_
    rintro e w8 ⟨rfl, hb8⟩
    have B8 := hide (B3.out.trans (hb8.mono B3.out.size))
    clear hb8
    go_wp2
    go_ret
    exact ⟨by rfl, B8.out⟩
  | some L =>
    rw [hld] at k2
    have HLD := hide hld
    clear hld
    go_wp2_with fail
    refine k2.out.mono ?_
    rintro e w2 ⟨rfl, hT2⟩
    have G2 := hide (G1.out.below hT2.below)
    have M2 := hide (M1.out.below hT2.below)
    have B2 := hide (B1.out.trans (hT2.below.mono B1.out.size))
    obtain ⟨g2, hg2⟩ : ∃ g2, w1.heap.size + 1 = g2 := ⟨_, rfl⟩
    obtain ⟨b2, hb2⟩ : ∃ b2, w1.heap.size = b2 := ⟨_, rfl⟩
    have C2 : Hid (TbIs w2 g2 b2 L) := hide (by rw [← hb2, ← hg2]; exact hT2.tb)
    rw [hg2]
    have k3 := hide (refLoad_any M2.out (by have := HNB.out; omega))
    rw [HLD.out] at k3
    clear hT2 hg2 hb2 k2
    go_wp2_with fail
    refine k3.out.mono ?_
    rintro e w3 ⟨gx, v3, rfl, hr3, hgx3, hb3⟩
    have B3 := hide (B2.out.trans (hb3.mono B2.out.size))
    have G3 := hide (G2.out.below hb3)
    have M3 := hide (M2.out.below hb3)
    have k4 := hide (tells_any (C2.out.below hb3) hr3)
    clear hb3 k3 hr3 hgx3
    go_wp2_with fail
    refine k4.out.mono ?_
    rintro e w4 ⟨rfl, hb4⟩
    have B4 := hide (B3.out.trans (hb4.mono B3.out.size))
    have k5 := hide (equal_any (G3.out.below hb4) (M3.out.below hb4))
    rw [beq_self_eq_true] at k5
    clear hb4 k4
    go_wp2_with fail
    refine k5.out.mono ?_
    rintro e w5 ⟨rfl, rfl⟩
    go_wp2_with fail
    refine (awake_any _).mono ?_
    rintro e w8 ⟨rfl, hb8⟩
    have B8 := hide (B4.out.trans (hb8.mono B4.out.size))
    clear hb8
    go_wp2
    go_ret
    exact ⟨by rfl, B8.out⟩
end Go.Proofs.Ytfbndbmhnpleoaa
