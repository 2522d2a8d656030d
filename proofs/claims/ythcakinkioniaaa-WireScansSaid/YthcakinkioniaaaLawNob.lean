/- The walk of the statement on scans that no call made. -/
import Derived.Test.YthcakinkioniaaaScan2
namespace Go.Proofs.Ythcakinkioniaaa
open Go.RowKit

theorem seven : (if (0 : Nat) ≠ 0 then (0, 0, 0) else ((readNum (List.drop 0 [7])).1, 0 + (readNum (List.drop 0 [7])).2.1, (readNum (List.drop 0 [7])).2.2)) = (7, 1, 0) := by decide

/-- The two that no call made, in their row. -/
def Two (w : World) (v : Value) : Prop := ∃ g u, v = .slice (some ⟨g, 0, none⟩) 2 2 ∧ w.cell? ⟨g, 0, none⟩ = some (.pointer none) ∧ w.cell? ⟨g, 1, none⟩ = some u ∧ Nob w u
theorem Two.at {w : World} {g : Nat} (h : Two w (.slice (some ⟨g, 0, none⟩) 2 2)) {k : Nat} (hk : (k : Int) < 2) : ∃ u, w.cell? ⟨g, k, none⟩ = some u ∧ Nob w u := by
  obtain ⟨g', u, e, h0, h1, hn⟩ := h
  injection e with e
  injection e with e
  injection e with e
  subst e
  match k, hk with
  | 0, _ => exact ⟨_, h0, .inl rfl⟩
  | 1, _ => exact ⟨_, h1, hn⟩
  | k + 2, hk => omega

theorem two_new (w : World) : Two ((w.alloc (.cells #[.slice none 0 0, .int .i64 0, .int .i64 0, .bool false] 66)).alloc (.cells #[.pointer none, .pointer (some ⟨w.heap.size, 0, none⟩)] 46)) (.slice (some ⟨w.heap.size + 1, 0, none⟩) 2 2) := by
  have e : (w.alloc (.cells #[.slice none 0 0, .int .i64 0, .int .i64 0, .bool false] 66)).heap.size = w.heap.size + 1 := size_alloc' _ _
  have h := heap_alloc_new (w.alloc (.cells #[.slice none 0 0, .int .i64 0, .int .i64 0, .bool false] 66)) (.cells #[.pointer none, .pointer (some ⟨w.heap.size, 0, none⟩)] 46)
  rw [e] at h
  refine ⟨w.heap.size + 1, _, rfl, by rw [cell_of_row _ _ 0 _ 46 (0, 0) h]; rfl, by rw [cell_of_row _ _ 1 _ 46 (0, 0) h]; rfl, .inr ⟨_, rfl, ?_⟩⟩
  have hb : Below (w.heap.size + 1) (w.alloc (.cells #[.slice none 0 0, .int .i64 0, .int .i64 0, .bool false] 66)) ((w.alloc (.cells #[.slice none 0 0, .int .i64 0, .int .i64 0, .bool false] 66)).alloc (.cells #[.pointer none, .pointer (some ⟨w.heap.size, 0, none⟩)] 46)) := (Below.refl _ _).alloc (by omega) _
  rw [hb.block w.heap.size (by omega)]
  exact heap_alloc_new w _

set_option maxRecDepth 200000 in
set_option maxHeartbeats 1000000 in
theorem nobody_law (most : Int) (w : World) :
    Calls Try.prog 13 #[.int .i64 most] w fun e w' => e = .returned (.bool true) ∧ Below w.heap.size w w' := by
  go_enter Try.func13, Try.ntmps13
  go_wp2_with fail
  have hT := two_new w
  have hB : Below w.heap.size w ((w.alloc (.cells #[.slice none 0 0, .int .i64 0, .int .i64 0, .bool false] 66)).alloc (.cells #[.pointer none, .pointer (some ⟨w.heap.size, 0, none⟩)] 46)) := balloc (balloc (Below.refl _ _) _) _
  obtain ⟨g, hg⟩ : ∃ g, w.heap.size + 1 = g := ⟨_, rfl⟩
  rw [hg] at hT
  rw [hg]
  generalize ((w.alloc (.cells #[.slice none 0 0, .int .i64 0, .int .i64 0, .bool false] 66)).alloc (.cells #[.pointer none, .pointer (some ⟨w.heap.size, 0, none⟩)] 46)) = W at hT hB ⊢
  have HT := hide hT
  have HB := hide hB
  clear hT hB hg
  go_loopw [4, 9] (fun _ i wr => ∃ k q : Nat, k ≤ 2 ∧ i = .int .i64 k ∧ wr = W.drewN q) (fun _ i _ => 2 - (intOf i).toNat)
  case atStart => exact ⟨0, 0, by omega, rfl, rfl⟩
  case round =>
    obtain ⟨k, q, hk, rfl, rfl⟩ := hrel
    by_cases hkm : (k : Int) < 2
    · obtain ⟨u, hu, hn⟩ := HT.out.at hkm
      have HN := hide hn
      clear hn
      go_wp2_with fail
      refine (nob_number (w := W.drewN q) HN.out).mono ?_
      rintro e w1 ⟨rfl, rfl⟩
      go_wp2_with fail
      refine (nob_text (w := W.drewN q) HN.out most).mono ?_
      rintro e w1 ⟨rfl, rfl⟩
      go_wp2_with fail
      refine (nob_flag (w := W.drewN q) HN.out).mono ?_
      rintro e w1 ⟨rfl, rfl⟩
      go_wp2_with fail
      refine (nob_left (w := W.drewN q) HN.out).mono ?_
      rintro e w1 ⟨rfl, q2, rfl⟩
      rw [World.drewN_drewN]
      go_wp2_with fail
      refine (nob_err (w := W.drewN (q + q2)) HN.out).mono ?_
      rintro e w1 ⟨rfl, rfl⟩
      go_wp2_with fail
      refine (nob_end (w := W.drewN (q + q2)) HN.out).mono ?_
      rintro e w1 ⟨rfl, rfl⟩
      go_wp2_with fail
      go_roundw
      case rel => exact ⟨k + 1, q + q2, by omega, by go_num, rfl⟩
      case measure => simp [intOf]; omega
    · have hBq : Below w.heap.size w (W.drewN q) := below_drewN HB.out q
      have hs := hBq.size
      have HY := hide (one_lit (W.drewN q) 7 7 rfl)
      have HB' := hide hBq
      clear hBq HT HB
      go_wp2_with fail
      refine (over_any HY.out (by decide)).mono ?_
      rintro e w2 ⟨g2, u, rfl, hg2, hS, ho, _, hb2⟩
      obtain ⟨p3, n3, c3, rfl⟩ := ho.by_.sl
      have HS := hide hS
      have HO := hide ho.by_
      have hbz : Below (W.drewN q).heap.size (W.drewN q) w2 := (balloc (Below.refl _ _) _).trans (hb2.mono (by rw [size_alloc']; omega))
      have HB2 := hide (HB'.out.trans (hbz.mono hs))
      have hge : w.heap.size ≤ g2 := by rw [size_alloc'] at hg2; omega
      clear hS ho hb2 hbz hg2
      go_wp2_with fail
      refine (scanNumber_any (l := [7]) (N := 7) (A := 1) (E := 0) HS.out HO.out (Nat.zero_le _) seven).mono ?_
      rintro e w3 ⟨rfl, _, hg⟩
      have HB3 := hide (HB2.out.grown hg HB2.out.size (fun k hk => by injection hk with hk; omega))
      clear hg HY HS HO
      go_wp2
      go_ret
      exact ⟨rfl, HB3.out⟩
end Go.Proofs.Ythcakinkioniaaa
