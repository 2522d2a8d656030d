/- Two disks that are seen alike. -/
import Derived.Test.YtdghkmpcjjmlfaaDNamed
namespace Go.Proofs.Ytdghkmpcjjmlfaa
open Go.RowKit Go.Maps Go.Sort

theorem row_cell {w : World} {B n : Nat} {g c : Nat} {xs : List Value} (h : w.ownsRow B 9 1 (.slice (some ⟨g, 0, none⟩) n c) n xs) {i : Nat} {v : Value} (hv : xs[i]? = some v) : w.cell? ⟨g, i, none⟩ = some v := by
  rcases h.2 with ⟨e, _⟩ | ⟨g', cap, cur, e, _, hg, _, _, _, h5⟩
  · cases e
  · injection e with e1 e2 e3
    injection e1 with e1
    injection e1 with e1
    subst e1
    rw [cell_of_row w g i cur 9 (0, 0) hg]
    rw [← h5, List.getElem?_take] at hv
    split at hv
    · simpa using hv
    · cases hv

def mkB (k : List UInt8) : ByteArray := ⟨k.toArray⟩
theorem enc_mk (k : List UInt8) : encStr k = .string (mkB k) := rfl
theorem mkB_data (k : List UInt8) : (mkB k).data.toList = k := rfl

theorem namesEqual_any {W : World} {B1 B2 : Nat} {v1 v2 : Value} {L : List (List UInt8)} (h1 : W.ownsRow B1 9 1 v1 L.length (L.map encStr)) (h2 : W.ownsRow B2 9 1 v2 L.length (L.map encStr)) (hl : L.length ≤ 1000000) :
    Calls Try.prog 40 #[v1, v2] W fun e w' => e = .returned (.bool true) ∧ Chg W w' (fun _ => False) := by
  obtain ⟨p1, c1, rfl⟩ := row_sl h1
  obtain ⟨p2, c2, rfl⟩ := row_sl h2
  rcases Nat.eq_zero_or_pos L.length with h0 | h0
  · rw [h0]
    refine (Try.slices_Equal_string_empty p1 p2 c1 0 c2 W (by omega)).mono ?_
    rintro e w' ⟨rfl, rfl⟩
    exact ⟨rfl, Chg.refl _ _⟩
  · have hp : ∀ {B : Nat} {p : Option Addr} {c : Nat}, W.ownsRow B 9 1 (.slice p L.length c) L.length (L.map encStr) → ∃ g, p = some ⟨g, 0, none⟩ := fun {B p c} h => by
      rcases h.2 with ⟨_, h2⟩ | ⟨g, cap, cur, e, _⟩
      · omega
      · injection e with e1 e2 e3
        exact ⟨g, e1⟩
    obtain ⟨g1, rfl⟩ := hp h1
    obtain ⟨g2, rfl⟩ := hp h2
    have hc : ∀ {B g c : Nat}, W.ownsRow B 9 1 (.slice (some ⟨g, 0, none⟩) L.length c) L.length (L.map encStr) → ∀ j, j < (L.map mkB).length → W.cell? ⟨g, 0 + j, none⟩ = some (.string ((L.map mkB).getD j ByteArray.empty)) := fun {B g c} h j hj => by
      rw [List.length_map] at hj
      rw [Nat.zero_add]
      refine row_cell h ?_
      rw [List.getElem?_map, List.getElem?_eq_getElem hj, List.getD_eq_getElem?_getD, List.getElem?_map, List.getElem?_eq_getElem hj]
      rfl
    refine (Try.slices_Equal_string g1 0 L.length c1 g2 0 L.length c2 (L.map mkB) (L.map mkB) W (by simp) (by simp) (by omega) (by omega) (hc h1) (hc h2)).mono ?_
    rintro e w' ⟨rfl, q, rfl⟩
    exact ⟨by simp, (Chg.refl _ _).drewN q⟩

end Go.Proofs.Ytdghkmpcjjmlfaa
