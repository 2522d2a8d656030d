/- same; the document's Sum. -/
import Derived.Test.YtfedkjaollioaaaGreatS10
namespace Go.Proofs.YtfedkjaollioaaaGreat
set_option linter.unusedVariables false
set_option linter.unusedSimpArgs false
open Go.RowKit

theorem eqI_any {w : World} {B B' n : Nat} {v u : Value} {l : List Int} (hv : w.ownsRow B 3 1 v n (l.map (Value.int .i64))) (hu : w.ownsRow B' 3 1 u n (l.map (Value.int .i64))) : Calls Tryz.prog 37 #[v, u] w fun e w' => e = .returned (.bool true) ∧ Below w.heap.size w w' := by
  obtain ⟨p, c, rfl, hn, hm, hcl⟩ := ints_row hv
  obtain ⟨q, d, rfl, _, _, hcl2⟩ := ints_row hu
  have hmx : maxLen = 9223372036854775807 := rfl
  by_cases h0 : 0 < n
  · obtain ⟨g, rfl, _, hc⟩ := hcl h0
    obtain ⟨g', rfl, _, hc'⟩ := hcl2 h0
    have e1 : ∀ j, (hj : j < l.length) → l.getD j 0 = l[j] := fun j hj => by simp [List.getD, hj]
    refine (Tryz.slices_Equal_int g 0 n c g' 0 n d l l w (by omega) (by omega) (by omega) (by omega) (fun j hj => by rw [e1 j hj, Nat.zero_add]; exact hc j _ (List.getElem?_eq_getElem hj)) (fun j hj => by rw [e1 j hj, Nat.zero_add]; exact hc' j _ (List.getElem?_eq_getElem hj))).mono fun e w' ⟨he, q, hw⟩ => ⟨?_, by rw [hw]; exact bdrew w q⟩
    rw [he]
    simp
  · obtain rfl : n = 0 := by omega
    refine (Tryz.slices_Equal_int_empty p q c 0 d w (by omega)).mono fun e w' ⟨he, hw⟩ => ⟨?_, by rw [hw]; exact Below.refl _ _⟩
    rw [he]
    rfl
set_option maxRecDepth 200000 in
set_option maxHeartbeats 2000000 in
theorem refSum_any (w : World) (a b : Cn) (ha : a.sum ≤ 1000000) (hb : b.sum ≤ 1000000) : Calls Tryz.prog 36 #[cnV a, cnV b] w fun e w' => e = .returned (cnV (a.plus b)) ∧ Below w.heap.size w w' := by
  obtain ⟨a0, a1, a2, a3, a4⟩ := a
  obtain ⟨b0, b1, b2, b3, b4⟩ := b
  unfold Cn.sum at ha hb
  unfold cnV Cn.plus
  dsimp only at *
  have h0 : (a0 : Int) ≤ 1000000 := by omega
  have h1 : (a1 : Int) ≤ 1000000 := by omega
  have h2 : (a2 : Int) ≤ 1000000 := by omega
  have h3 : (a3 : Int) ≤ 1000000 := by omega
  have h4 : (a4 : Int) ≤ 1000000 := by omega
  have k0 : (b0 : Int) ≤ 1000000 := by omega
  have k1 : (b1 : Int) ≤ 1000000 := by omega
  have k2 : (b2 : Int) ≤ 1000000 := by omega
  have k3 : (b3 : Int) ≤ 1000000 := by omega
  have k4 : (b4 : Int) ≤ 1000000 := by omega
  clear ha hb
  go_enter Tryz.func36, Tryz.ntmps36
  go_wp2
  refine bodyPost_ret (v := .agg #[.int .i64 ((a0 : Int) + b0), .int .i64 ((a1 : Int) + b1), .int .i64 ((a2 : Int) + b2), .int .i64 ((a3 : Int) + b3), .int .i64 ((a4 : Int) + b4)]) (by
    simp [results, Tryz.results36, go_sem]) rfl ⟨by simp only [Int.natCast_add], ?_⟩
  have h1 := (Below.refl w.heap.size w).alloc (Nat.le_refl _) (.cells #[.int .i64 ((a0 : Int) + b0), .int .i64 ((a1 : Int) + b1), .int .i64 ((a2 : Int) + b2), .int .i64 ((a3 : Int) + b3), .int .i64 ((a4 : Int) + b4)] 40)
  have h2 := h1.alloc h1.size (.cells #[.int .i64 b0, .int .i64 b1, .int .i64 b2, .int .i64 b3, .int .i64 b4] 40)
  exact h2.alloc h2.size _
end Go.Proofs.YtfedkjaollioaaaGreat
