/- A table copied; what the law asks of two tables. -/
import Derived.Test.YtfbndbmhnpleoaaShelfC
import Derived.Test.YtfbndbmhnpleoaaTRef6
import Derived.Test.YtfbndbmhnpleoaaTEq
import Derived.Test.YtfbndbmhnpleoaaTImage
import Derived.Test.YtfbndbmhnpleoaaTLawBack
namespace Go.Proofs.Ytfbndbmhnpleoaa
set_option linter.unusedVariables false
set_option linter.unusedSimpArgs false
open Go.RowKit

/-- The new table's blocks are new. -/
def TClonePost (w : World) (L : List St) (e : Ending) (w' : World) : Prop := ∃ g b, e = .returned (.pointer (some ⟨g, 0, none⟩)) ∧ TbIs w' g b L ∧ w.heap.size ≤ g ∧ w.heap.size ≤ b ∧ Below w.heap.size w w'
theorem below_of_chg {w w' : World} (h : Chg w w' fun _ => False) : Below w.heap.size w w' := ⟨h.os, h.tape, h.output, h.size, fun k hk => h.block k hk fun e => e⟩
set_option maxRecDepth 200000 in
set_option maxHeartbeats 4000000 in
theorem tells_any {w : World} {g b gx : Nat} {v : Value} {L : List St} (h : TbIs w g b L) (hx : RtAt w gx v L) : Calls Try.prog 8 #[.pointer (some ⟨g, 0, none⟩), .pointer (some ⟨gx, 0, none⟩)] w (LawPost w) := by
  have HS := hide (seats_any h)
  have HH := hide h
  have HR := hide hx
  obtain ⟨pv, nv, cv, rfl⟩ := hx.own.sts.sl
  clear h hx
  go_enter Try.func8, Try.ntmps8
  go_wp2_with fail
  refine HS.out.mono ?_
  rintro e w2 ⟨v2, rfl, ho2, hb2⟩
  have HO2 := hide ho2
  have HB2 := hide hb2
  have HR2 := hide (HR.out.below hb2)
  have HH2 := hide (HH.out.below hb2)
  obtain ⟨p2, n2, c2, rfl⟩ := ho2.sts.sl
  have c0 := HR2.out.c0
  have HEQ := hide (equalT_true HO2.out.sts HR2.out.own.sts)
  clear ho2 hb2 HS
  go_wp2_with fail
  refine HEQ.out.mono ?_
  rintro e w3 ⟨rfl, hb3⟩
  have HB3 := hide hb3
  have HIM := hide (image_any (HH2.out.below HB3.out))
  have HR3 := hide (HR2.out.below HB3.out)
  clear hb3 c0 HEQ
  go_wp2_with fail
  refine HIM.out.mono ?_
  rintro e w4 ⟨v4, rfl, ho4, hb4⟩
  have HO4 := hide ho4
  have HB4 := hide hb4
  obtain ⟨p4, n4, c4, rfl⟩ := ho4.by_.sl
  have HXI := hide (refImage_any (HR3.out.below hb4) HH.out.ok)
  clear ho4 hb4 HIM
  go_wp2_with fail
  refine HXI.out.mono ?_
  rintro e w5 ⟨v5, rfl, ho5, hb5⟩
  have HB5 := hide hb5
  obtain ⟨p5, n5, c5, rfl⟩ := ho5.by_.sl
  have HBQ := hide (equal_any ((HO4.out.below hb5).by_) ho5.by_)
  rw [show ((imgT L) == (imgT L)) = true from beq_self_eq_true _] at HBQ
  have HBL := hide ((((HB2.out.trans (HB3.out.mono HB2.out.size))).trans (HB4.out.mono (Nat.le_trans HB2.out.size HB3.out.size))).trans (hb5.mono (Nat.le_trans HB2.out.size (Nat.le_trans HB3.out.size HB4.out.size))))
  have HO5 := hide (((HO2.out.below HB3.out).below HB4.out).below hb5)
  clear ho5 hb5 HXI
  go_wp2_with fail
  refine HBQ.out.mono ?_
  rintro e w6 ⟨rfl, rfl⟩
  clear HBQ
  go_wp2_with fail
  have hn2 : n2 ≤ 1000 := by have h1 := HO5.out.sts.len.1; have h2 := HH.out.ok.len; omega
  go_loopw [25] (fun i wr => ∃ k : Nat, k ≤ n2 ∧ i = .int .i64 k ∧ Hid ((∃ cs, wr.ownsRow w.heap.size 51 11 (.slice p2 n2 c2) n2 cs) ∧ Below w.heap.size w wr)) (fun i _ => n2 - (intOf i).toNat)
  case atStart => exact ⟨0, by omega, rfl, hide ⟨⟨_, by have h1 := HO5.out; have h2 := h1.sts.len.1; unfold OwnT at h1; rw [← h2] at h1; exact h1⟩, HBL.out⟩⟩
  case round =>
    obtain ⟨k, hk, rfl, HR⟩ := hrel
    by_cases hlt : k < n2
    · obtain ⟨cs, hcs⟩ := HR.out.1
      have hp : ∃ gg, p2 = some ⟨gg, 0, none⟩ ∧ w.heap.size ≤ gg := by
        rcases hcs.2 with ⟨e, h0⟩ | ⟨g', cap', cur, e, hB, _⟩
        · injection e with _ e2
          omega
        · injection e with e1
          exact ⟨g', e1, hB⟩
      obtain ⟨gg, rfl, hgg⟩ := hp
      have hfr : ∀ o, wr.frozen? ⟨gg, o, none⟩ = false := fun o => World.ownsRow.frozenAt hcs o
      have HST := hide (World.ownsRow.stored hcs (k * 11 + 1) (.int .i64 (-7))).1
      have HGG := hide (bset HR.out.2 (i := k * 11 + 1) (x := .int .i64 (-7)) hgg)
      have hcell : ∃ u, wr.cell? ⟨gg, k * 11 + 1, none⟩ = some u := by
        have h1 := World.ownsRow.cellAt hcs (k * 11 + 1) (by omega)
        have h2 := hcs.1
        have h3 : k * 11 + 1 < cs.length := by omega
        exact ⟨_, h1.trans (List.getElem?_eq_getElem h3)⟩
      obtain ⟨u0, hu0⟩ := hcell
      clear hcs hgg
      go_wp2_with fail
      go_roundw
      case rel => exact ⟨k + 1, by omega, by go_num, hide ⟨⟨_, HST.out⟩, HGG.out⟩⟩
      case measure => simp [intOf]; omega
    · go_wp2
      go_ret
      exact ⟨by rfl, HR.out.2⟩
end Go.Proofs.Ytfbndbmhnpleoaa
