import Derived.Test.YtionbmlicmibgaaGreatDoorMcImg
import Derived.Test.YtionbmlicmibgaaGreatDoorMcAwP
namespace Go.Proofs.YtionbmlicmibgaaGreatDoor
set_option linter.unusedVariables false
set_option linter.unusedSimpArgs false
open Go.RowKit
set_option maxRecDepth 200000 in
set_option maxHeartbeats 1100000 in
theorem mone_any (w : World) : Calls Tryz.prog 51 #[] w fun e w' => e = .returned (.agg #[.int .i64 1, .int .i64 2, .int .i64 0, .int .i64 0, .int .i64 7, .string ⟨#[97]⟩]) ∧ Below w.heap.size w w' := by
 go_enter Tryz.func51, Tryz.ntmps51
 go_wp2
 refine bodyPost_ret (v := .agg #[.int .i64 1, .int .i64 2, .int .i64 0, .int .i64 0, .int .i64 7, .string ⟨#[97]⟩]) (by
  simp [results, Tryz.results51, go_sem]) rfl ⟨rfl, ?_⟩
 exact (Below.refl w.heap.size w).alloc (Nat.le_refl _) _
def BegP (w : World) (e : Ending) (w' : World) : Prop := ∃ gm P, e = .returned (.tuple #[.pointer (some ⟨gm, 0, none⟩), .bool true]) ∧ MkIs w' gm P ⟨0, 0, [0, 1, 2], [], []⟩ ∧ (∀ k, McS P k → w.heap.size ≤ k) ∧ w.heap.size ≤ gm ∧ Below w.heap.size w w'
set_option maxRecDepth 200000 in
set_option maxHeartbeats 4000000 in
theorem mbegun_any {w : World} (hE : ErrT w) : Calls Tryz.prog 37 #[] w (BegP w) := by
 have hA := (Below.refl w.heap.size w).alloc (Nat.le_refl _) (.cells #[.int .i64 0, .int .i64 1, .int .i64 2] 3)
 have HN := hide (mnew_any (hE.below hA) (ns_three w 0 1 2 (by unfold fits; omega) (by unfold fits; omega) (by unfold fits; omega)))
 have HA := hide hA
 clear hA hE
 go_enter Tryz.func37, Tryz.ntmps37
 go_wp2_with fail
 refine HN.out.mono ?_
 intro e w2 hp
 obtain ⟨hb2, hp⟩ := hp
 rw [if_pos (show okR [0, 1, 2] = true by decide)] at hp
 obtain ⟨gm, P, rfl, hm, hn, hg⟩ := hp
 have hs := HA.out.size
 have H2 := hide (And.intro hm (And.intro (fun k hk => Nat.le_trans hs (hn k hk) : ∀ k, McS P k → w.heap.size ≤ k) (And.intro (Nat.le_trans hs hg) (HA.out.trans (hb2.mono hs)))))
 clear hm hn hg hb2 hs HN HA
 go_wp2_with fail
 go_ret2
 exact ⟨gm, P, rfl, H2.out.1, H2.out.2.1, H2.out.2.2.1, H2.out.2.2.2⟩
end Go.Proofs.YtionbmlicmibgaaGreatDoor
