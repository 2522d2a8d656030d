/- Clone. -/
import Derived.Test.YtmalhdiholblgaaLRebF
namespace Go.Proofs.Ytmalhdiholblgaa
set_option linter.unusedVariables false
set_option linter.unusedSimpArgs false
open Go.RowKit

set_option maxRecDepth 200000 in
set_option maxHeartbeats 4000000 in
theorem cloneL_any {w : World} {g : Nat} {x : Lg} (h : LgIs w g x) (h6 : x.l.length ≤ 100000) : Calls Try.prog 19 #[.pointer (some ⟨g, 0, none⟩)] w fun e w' => (∃ g', e = .returned (.pointer (some ⟨g', 0, none⟩)) ∧ LgOwn w.heap.size w' g' x) ∧ Below w.heap.size w w' := by
  have HM := hide (made_any h)
  have HOK := hide h.ok
  have H6 := hide h6
  have c0 := h.c0
  have c1 := h.c1
  obtain ⟨p, n, c, c2, hv⟩ := h.c2
  have HOW := hide (fun V (hV : Below w.heap.size w V) => own_any (hv.below hV) h6 (goOn_data h.ok.on))
  have kp : ∀ V, Below w.heap.size w V → V.cell? ⟨g, 0, none⟩ = some (.int .i64 x.ix) ∧ V.cell? ⟨g, 1, none⟩ = some (.int .i64 x.tm) ∧ V.cell? ⟨g, 2, none⟩ = some (.slice p n c) := fun V hV => ⟨(hV.cell (lt_of_cell c0)).trans c0, (hV.cell (lt_of_cell c1)).trans c1, (hV.cell (lt_of_cell c2)).trans c2⟩
  have KEEP := hide kp
  obtain ⟨ix, hix⟩ : ∃ ix, x.ix = ix := ⟨_, rfl⟩
  obtain ⟨tm, htm⟩ : ∃ tm, x.tm = tm := ⟨_, rfl⟩
  simp only [hix, htm] at KEEP c0 c1
  have HXX := hide (And.intro hix htm)
  clear h hv h6 kp hix htm
  go_enter Try.func19, Try.ntmps19
  go_wp2_with fail
  refine HM.out.mono ?_
  rintro e w9 ⟨rfl, rfl⟩
  go_wp2_with fail
  go_region_held3 (fun V => V.cell? ⟨g, 0, none⟩ = some (.int .i64 ix) ∧ V.cell? ⟨g, 1, none⟩ = some (.int .i64 tm) ∧ V.cell? ⟨g, 2, none⟩ = some (.slice p n c)) (first | go_keep | exact KEEP.out _ HBO.out)
    ((go_at_call 40; (refine (HOW.out _ (by first | exact Below.refl _ _ | exact bel_drewN (Below.refl _ _) _ | exact bel_drewN (Below.refl _ _) 1)).mono ?_); rintro e w5 ⟨v5, rfl, ho5, hb5⟩; obtain ⟨E5, hE5, hD5⟩ := ho5; obtain ⟨p5, n5, c5, rfl⟩ := hE5.ecs.sl; have HO5 := hide (And.intro hE5 hD5); have HBO : Hid (Below w.heap.size w w5) := hide ((bel_drewN (Below.refl _ w) 1).trans hb5); clear hE5 hD5 hb5))
  all_goals
    have hL5 := LgOwn.new (B := w.heap.size) (ix := ix) (tm := tm) rfl HO5.out.1 HO5.out.2 HBO.out.size (by have h := HOK.out; have e := HXX.out; rw [← e.1, ← e.2]; exact h) H6.out
    have HL5 := hide hL5
    have HBZ : Hid (Below w.heap.size w (w5.alloc (.cells #[.int .i64 ix, .int .i64 tm, .slice p5 n5 c5, .bool true] 68))) := hide (HBO.out.alloc HBO.out.size _)
    clear hL5
    go_wp2
    go_ret
    refine ⟨⟨_, rfl, ?_⟩, HBZ.out⟩
    have h := HL5.out
    rw [← HXX.out.1, ← HXX.out.2] at h ⊢
    exact h
end Go.Proofs.Ytmalhdiholblgaa
