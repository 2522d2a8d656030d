/- Calls of a ledger that have an error. -/
import Derived.Test.YtmalhdiholblgaaLNob
namespace Go.Proofs.Ytmalhdiholblgaa
set_option linter.unusedVariables false
set_option linter.unusedSimpArgs false
open Go.RowKit

set_option maxRecDepth 200000 in
set_option maxHeartbeats 4000000 in
theorem addErr_any {w : World} {g : Nat} {x : Lg} (h : LgIs w g x) {v : Value} {L : List En} (hv : Ens w v L) (hq : goOn x.end_.1 x.end_.2 L = false) (hf : fits x.end_.1) : Calls Try.prog 17 #[.pointer (some ⟨g, 0, none⟩), v] w fun e w' => e = .returned (.int .i64 110) ∧ Below w.heap.size w w' := by
  obtain ⟨p, n, c, rfl⟩ := hv.sl
  have HM := hide (made_any h)
  have HE := hide (end_any h)
  have HG := hide (fun W (hW : Below w.heap.size w W) => mayGoOn_any (tm := x.end_.2) (hv.below hW) hf)
  rw [hq] at HG
  obtain ⟨a, ha⟩ : ∃ a, x.end_.1 = a := ⟨_, rfl⟩
  obtain ⟨b, hb⟩ : ∃ b, x.end_.2 = b := ⟨_, rfl⟩
  rw [ha, hb] at HE
  rw [ha, hb] at HG
  clear h hv hq hf ha hb
  go_enter Try.func17, Try.ntmps17
  go_wp2_with fail
  refine HM.out.mono ?_
  rintro e w9 ⟨rfl, rfl⟩
  go_wp2_with fail
  refine HE.out.mono ?_
  rintro e w2 ⟨rfl, hb2⟩
  have HB2 := hide hb2
  clear hb2
  go_wp2_with fail
  refine (HG.out _ HB2.out).mono ?_
  rintro e w3 ⟨rfl, hb3⟩
  have HB3 := hide (HB2.out.trans (hb3.mono HB2.out.size))
  clear hb3
  go_wp2
  go_ret
  exact ⟨rfl, HB3.out⟩
set_option maxRecDepth 200000 in
set_option maxHeartbeats 4000000 in
theorem cutErr_any {w : World} {g : Nat} {x : Lg} (h : LgIs w g x) {i : Int} (hq : hasI x i = false) : Calls Try.prog 10 #[.pointer (some ⟨g, 0, none⟩), .int .i64 i] w fun e w' => e = .returned (.int .i64 51) ∧ Below w.heap.size w w' := by
  have HM := hide (made_any h)
  have HE := hide (has_any h i)
  rw [hq] at HE
  clear h hq
  go_enter Try.func10, Try.ntmps10
  go_wp2_with fail
  refine HM.out.mono ?_
  rintro e w9 ⟨rfl, rfl⟩
  go_wp2_with fail
  refine HE.out.mono ?_
  rintro e w2 ⟨rfl, hb2⟩
  have HB2 := hide hb2
  clear hb2
  go_wp2
  go_ret
  exact ⟨rfl, HB2.out⟩
set_option maxRecDepth 200000 in
set_option maxHeartbeats 4000000 in
theorem rebErr_any {w : World} {g : Nat} {x : Lg} (h : LgIs w g x) {i t : Int} (hq : (good i t && decide (x.ix ≤ i)) = false) : Calls Try.prog 12 #[.pointer (some ⟨g, 0, none⟩), .int .i64 i, .int .i64 t] w fun e w' => e = .returned (.int .i64 110) ∧ Below w.heap.size w w' := by
  have b1 : Below w.heap.size w (w.alloc (.cells #[.int .i64 i, .int .i64 t] 66)) := (Below.refl _ _).alloc (Nat.le_refl _) _
  have hX := Box2.new w i t 66
  have h1 := h.below b1
  obtain ⟨Y, hY⟩ : ∃ Y, w.alloc (.cells #[.int .i64 i, .int .i64 t] 66) = Y := ⟨_, rfl⟩
  rw [hY] at b1 hX h1
  have HB := hide b1
  have HM := hide (made_any h1)
  have HG := hide (mayBe_any (w := Y) i t)
  have HW := hide h1
  have x0 := hX.1
  have x1 := hX.2.1
  obtain ⟨ix, hix⟩ : ∃ ix, x.ix = ix := ⟨_, rfl⟩
  obtain ⟨q, hg⟩ : ∃ q, good i t = q := ⟨_, rfl⟩
  rw [hg] at HG hq
  rw [hix] at hq
  have HIX := hide hix
  have HXX := hide hX
  clear h h1 b1 hg hix
  go_enter Try.func12, Try.ntmps12
  go_wp2_with fail
  refine HM.out.mono ?_
  rintro e w9 ⟨rfl, rfl⟩
  go_wp2_with fail
  refine HG.out.mono ?_
  rintro e w2 ⟨rfl, hb2⟩
  have HB2 := hide (HB.out.trans (hb2.mono HB.out.size))
  have c0 := (HW.out.below hb2).c0
  rw [HIX.out] at c0
  clear hb2
  cases q
  · go_wp2
    go_ret
    exact ⟨rfl, HB2.out⟩
  · have e1 : decide (i < ix) = true := by
      have : ¬ ix ≤ i := by simpa using hq
      exact decide_eq_true (by omega)
    clear hq
    go_wp2
    go_ret
    exact ⟨rfl, HB2.out⟩
end Go.Proofs.Ytmalhdiholblgaa
