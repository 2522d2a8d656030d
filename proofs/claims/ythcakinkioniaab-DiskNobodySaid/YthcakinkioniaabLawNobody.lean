/- A disk that no call made answers nothing. -/
import Derived.Test.YthcakinkioniaabDDoes
namespace Go.Proofs.Ythcakinkioniaab
open Go.RowKit

set_option maxRecDepth 200000 in
set_option maxHeartbeats 4000000 in
theorem nobody_any (w : World) (op : Int) (name to : ByteArray) (at_ : Int) (p : Option Addr) (m c : Nat) (n keep tear : Int) :
    Calls Try.prog 11 #[doV op name to at_ (.slice p m c) n keep tear] w fun e w' => e = .returned (.bool true) ∧ Below w.heap.size w w' := by
  unfold doV
  obtain ⟨X, hX⟩ : ∃ X, X = ((w.alloc (.cells #[.int .i64 op, .string name, .string to, .int .i64 at_, .slice p m c, .int .i64 n, .int .i64 keep, .int .i64 tear] 35)).alloc (.cells #[.int .i64 0, .int .i64 0, .bool false, .map none, .map none, .slice none 0 0, .int .i64 0, .int .i64 0, .int .i64 0] 65)).alloc (.cells #[.pointer none, .pointer (some ⟨w.heap.size + 1, 0, none⟩)] 23) := ⟨_, rfl⟩
  have hcX : Below w.heap.size w X := by rw [hX]; exact balloc (balloc (balloc (Below.refl _ _) _) _) _
  obtain ⟨x1, hx1⟩ : ∃ x1, x1 = w.alloc (.cells #[.int .i64 op, .string name, .string to, .int .i64 at_, .slice p m c, .int .i64 n, .int .i64 keep, .int .i64 tear] 35) := ⟨_, rfl⟩
  obtain ⟨x2, hx2⟩ : ∃ x2, x2 = x1.alloc (.cells #[.int .i64 0, .int .i64 0, .bool false, .map none, .map none, .slice none 0 0, .int .i64 0, .int .i64 0, .int .i64 0] 65) := ⟨_, rfl⟩
  have s1 : x1.heap.size = w.heap.size + 1 := by rw [hx1, size_alloc']
  have s2 : x2.heap.size = w.heap.size + 1 + 1 := by rw [hx2, size_alloc', s1]
  have hX2 : X = x2.alloc (.cells #[.pointer none, .pointer (some ⟨w.heap.size + 1, 0, none⟩)] 23) := by rw [hX, hx2, hx1]
  have hc2 : Chg x2 X (fun _ => False) := hX2 ▸ chg_alloc _ _
  have hc1 : Chg x1 X (fun _ => False) := (hx2 ▸ chg_alloc x1 _ : Chg x1 x2 (fun _ => False)).trans hc2 fun _ h => .inl h
  have kk : ∀ i v, #[Value.int .i64 op, .string name, .string to, .int .i64 at_, .slice p m c, .int .i64 n, .int .i64 keep, .int .i64 tear][i]? = some v → X.cell? ⟨w.heap.size, i, none⟩ = some v := fun i v h => hc1.cell (by rw [hx1, World.cell?_alloc_new]; exact h) fun h => h
  have k0 := kk 0 _ rfl
  have k1 := kk 1 _ rfl
  have k2 := kk 2 _ rfl
  have k3 := kk 3 _ rfl
  have k4 := kk 4 _ rfl
  have k5 := kk 5 _ rfl
  have k6 := kk 6 _ rfl
  have k7 := kk 7 _ rfl
  have a0 : X.cell? ⟨w.heap.size + 1 + 1, 0, none⟩ = some (.pointer none) := by rw [hX2, ← s2, World.cell?_alloc_new]; rfl
  have a1 : X.cell? ⟨w.heap.size + 1 + 1, 1, none⟩ = some (.pointer (some ⟨w.heap.size + 1, 0, none⟩)) := by rw [hX2, ← s2, World.cell?_alloc_new]; rfl
  have d3 : X.cell? ⟨w.heap.size + 1, 3, none⟩ = some (.map none) := hc2.cell (by rw [hx2, ← s1, World.cell?_alloc_new]; rfl) fun h => h
  clear kk hc1 hc2 hX2 hx1 hx2 s1 s2
  have n0 : No X (.pointer none) := .inl rfl
  have n1 : No X (.pointer (some ⟨w.heap.size + 1, 0, none⟩)) := .inr ⟨_, rfl, d3⟩
  go_enter Try.func11, Try.ntmps11
  go_wp2_with fail
  rw [← hX]
  have HX := hide hX
  clear hX d3
  go_loopw [11] (fun i wr => ∃ j : Nat, j ≤ 2 ∧ i = .int .i64 j ∧ Chg X wr (fun _ => False)) (fun i _ => 2 - (intOf i).toNat)
  case atStart => exact ⟨0, by omega, rfl, Chg.refl _ _⟩
  case round =>
    obtain ⟨j, hj, rfl, hc⟩ := hrel
    have z0 := hc.cell k0 fun h => h
    have z1 := hc.cell k1 fun h => h
    have z2 := hc.cell k2 fun h => h
    have z3 := hc.cell k3 fun h => h
    have z4 := hc.cell k4 fun h => h
    have z5 := hc.cell k5 fun h => h
    have z6 := hc.cell k6 fun h => h
    have z7 := hc.cell k7 fun h => h
    have b0 := hc.cell a0 fun h => h
    have b1 := hc.cell a1 fun h => h
    have N0 := hide (n0.chg hc)
    have N1 := hide (n1.chg hc)
    have HC := hide hc
    clear hc
    rcases (show j = 0 ∨ j = 1 ∨ j = 2 by omega) with rfl | rfl | rfl
    · go_wp2_with fail
      refine (read_no N0.out name).mono ?_
      rintro e wr1 ⟨rfl, rfl⟩
      go_wp2_with fail
      have hdoes := does_no N0.out op name to at_ p m c n keep tear
      unfold doV at hdoes
      refine hdoes.mono ?_
      rintro e w2 ⟨rfl, hc2⟩
      have M := hide (N0.out.chg hc2)
      have HC2 := hide (HC.out.trans hc2 fun _ h => .inl h)
      clear hdoes hc2
      go_wp2_with fail
      refine (clone_no M.out).mono ?_
      rintro e w3 ⟨rfl, rfl⟩
      go_wp2_with fail
      refine (list_no M.out).mono ?_
      rintro e w3 ⟨rfl, rfl⟩
      go_wp2_with fail
      refine (pending_no M.out).mono ?_
      rintro e w3 ⟨rfl, rfl⟩
      go_wp2_with fail
      refine (used_no M.out).mono ?_
      rintro e w3 ⟨rfl, rfl⟩
      go_wp2
      go_roundw
      case rel => exact ⟨1, by omega, by go_num, HC2.out⟩
      case measure => simp [intOf]
    · go_wp2_with fail
      refine (read_no N1.out name).mono ?_
      rintro e wr1 ⟨rfl, rfl⟩
      go_wp2_with fail
      have hdoes := does_no N1.out op name to at_ p m c n keep tear
      unfold doV at hdoes
      refine hdoes.mono ?_
      rintro e w2 ⟨rfl, hc2⟩
      have M := hide (N1.out.chg hc2)
      have HC2 := hide (HC.out.trans hc2 fun _ h => .inl h)
      clear hdoes hc2
      go_wp2_with fail
      refine (clone_no M.out).mono ?_
      rintro e w3 ⟨rfl, rfl⟩
      go_wp2_with fail
      refine (list_no M.out).mono ?_
      rintro e w3 ⟨rfl, rfl⟩
      go_wp2_with fail
      refine (pending_no M.out).mono ?_
      rintro e w3 ⟨rfl, rfl⟩
      go_wp2_with fail
      refine (used_no M.out).mono ?_
      rintro e w3 ⟨rfl, rfl⟩
      go_wp2
      go_roundw
      case rel => exact ⟨2, by omega, by go_num, HC2.out⟩
      case measure => simp [intOf]
    · go_wp2_with fail
      have haw := awake_any wr
      refine haw.mono ?_
      rintro e w2 ⟨rfl, hb⟩
      go_wp2
      go_ret
      exact ⟨rfl, (Chg.to_below hcX HC.out fun _ h => h.elim).trans (hb.mono (Nat.le_trans hcX.size HC.out.size))⟩
end Go.Proofs.Ythcakinkioniaab
