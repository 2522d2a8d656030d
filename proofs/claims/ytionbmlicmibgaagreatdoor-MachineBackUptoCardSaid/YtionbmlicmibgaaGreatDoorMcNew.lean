import Derived.Test.YtionbmlicmibgaaGreatDoorMcOut
namespace Go.Proofs.YtionbmlicmibgaaGreatDoor
set_option linter.unusedVariables false
set_option linter.unusedSimpArgs false
open Go.RowKit
def NewMk (w : World) (ok : Bool) (m : Mp) (x : Int) (e : Ending) (w' : World) : Prop :=
 Below w.heap.size w w' ∧ if ok = true then ∃ gm P, e = .returned (.tuple #[.pointer (some ⟨gm, 0, none⟩), .int .i64 0]) ∧ MkIs w' gm P m ∧ (∀ k, McS P k → w.heap.size ≤ k) ∧ w.heap.size ≤ gm
 else e = .returned (.tuple #[.pointer none, .int .i64 x])
set_option maxHeartbeats 4000000 in
theorem mnew_any {w : World} (hE : ErrT w) {v : Value} {l : List Int} (hv : Ns w v l) : Calls Tryz.prog 28 #[v] w (NewMk w (okR l) ⟨0, 0, l, [], []⟩ 1) := by
 have HE := hide hE
 have HV := hide hv
 have HV0 := hide (mvote_any hv)
 clear hE hv
 go_enter Tryz.func28, Tryz.ntmps28
 go_wp2_with fail
 refine HV0.out.mono ?_
 rintro e w1 ⟨rfl, hb1⟩
 have HB1 := hide hb1
 clear hb1
 cases ho : okR l
 ·go_wp2_with fail
  refine bodyPost_ret (v := .tuple #[.pointer none, .int .i64 1]) (by simp [results, Tryz.results28, go_sem]) rfl ?_
  exact ⟨HB1.out, by rw [ho]; rfl⟩
 ·go_wp2_with fail
  refine (snew_any _).mono ?_
  rintro e w2 ⟨gs, bm, R, rfl, hso, hpl, hns, hb2⟩
  have H2 := hide (And.intro hso (And.intro hpl (And.intro hns hb2)))
  clear hso hpl hns hb2
  go_wp2_with fail
  refine (ses_new_any _).mono ?_
  rintro e w3 ⟨rfl, htb, hb3⟩
  have H3 := hide (And.intro htb hb3)
  clear htb hb3
  go_wp2_with fail
  have hb13 := HB1.out.trans ((H2.out.2.2.2.trans (H3.out.2.mono H2.out.2.2.2.size)).mono HB1.out.size)
  refine (cloneN_any (HV.out.below hb13) (by have := okR_len ho; omega)).mono ?_
  rintro e w4 ⟨vv, rfl, hov, hb4⟩
  obtain ⟨pv, nv, cv, rfl⟩ : ∃ p n c, vv = .slice p n c := by
   obtain ⟨_, ⟨e1, _⟩ | ⟨g, cap, cur, e1, _⟩⟩ := hov.1
   ·exact ⟨_, _, _, e1⟩
   ·exact ⟨_, _, _, e1⟩
  have H4 := hide (And.intro hov hb4)
  have H13 := hide hb13
  clear hov hb4 hb13
  go_wp2_with fail
  obtain ⟨hso, hpl, hns, hb2⟩ := H2.out
  obtain ⟨htb, hb3⟩ := H3.out
  obtain ⟨hov, hb4⟩ := H4.out
  have hA := (Below.refl w4.heap.size w4).alloc (Nat.le_refl _) (.cells #[.pointer (some ⟨gs, 0, none⟩), .pointer (some ⟨w2.heap.size + 1, 0, none⟩), .int .i64 0, .int .i64 0, .slice pv nv cv] 131)
  have hB := hA.alloc (o := .cells #[.pointer (some ⟨w4.heap.size, 0, none⟩)] 99) hA.size
  have hr1 := ((Below.refl _ _).alloc (Nat.le_refl _) (.cells #[.pointer (some ⟨w4.heap.size, 0, none⟩)] 99)).block w4.heap.size (by simp) |>.trans (heap_alloc_new w4 (.cells #[.pointer (some ⟨gs, 0, none⟩), .pointer (some ⟨w2.heap.size + 1, 0, none⟩), .int .i64 0, .int .i64 0, .slice pv nv cv] 131))
  have hr2 := heap_alloc_new (w4.alloc (.cells #[.pointer (some ⟨gs, 0, none⟩), .pointer (some ⟨w2.heap.size + 1, 0, none⟩), .int .i64 0, .int .i64 0, .slice pv nv cv] 131)) (.cells #[.pointer (some ⟨w4.heap.size, 0, none⟩)] 99)
  rw [show (w4.alloc (.cells #[.pointer (some ⟨gs, 0, none⟩), .pointer (some ⟨w2.heap.size + 1, 0, none⟩), .int .i64 0, .int .i64 0, .slice pv nv cv] 131)).heap.size = w4.heap.size + 1 by simp] at hr2
  refine bodyPost_ret (v := .tuple #[.pointer (some ⟨w4.heap.size + 1, 0, none⟩), .int .i64 0]) (by simp [results, Tryz.results28, go_sem]) rfl ?_
  generalize ((w4.alloc (.cells #[.pointer (some ⟨gs, 0, none⟩), .pointer (some ⟨w2.heap.size + 1, 0, none⟩), .int .i64 0, .int .i64 0, .slice pv nv cv] 131)).alloc (.cells #[.pointer (some ⟨w4.heap.size, 0, none⟩)] 99)) = W at hB hr1 hr2 ⊢
  have s1 := HB1.out.size
  have s2 := hb2.size
  have s3 := hb3.size
  have s4 := hb4.size
  have g1 := htb.gl
  have g2 := htb.bl
  have p0 := HE.out.pos
  have hlo : ∀ k, McS ⟨w4.heap.size, gs, bm, w2.heap.size + 1, w2.heap.size, R, .slice pv nv cv⟩ k → w.heap.size ≤ k := by
   rintro k (e | e | e | e | e)
   ·have e : k = w4.heap.size := e; omega
   ·have e : k = w2.heap.size + 1 := e; omega
   ·have e : k = w2.heap.size := e; omega
   ·have := hns k e; omega
   ·have := (hov.lt k e).1; omega
  refine ⟨(H13.out.trans ((hb4.trans (hB.mono s4)).mono H13.out.size)), ?_⟩
  rw [if_pos ho]
  refine ⟨_, ⟨w4.heap.size, gs, bm, w2.heap.size + 1, w2.heap.size, R, .slice pv nv cv⟩, rfl, ⟨hr2, ⟨hr1, hso.below ((hb3.trans (hb4.mono s3)).trans (hB.mono (by omega))), hpl, htb.below (hb4.trans (hB.mono s4)), (hov.below hB).mono (Nat.zero_le _), ⟨by simp, by simp, by simp, by simp, ho⟩, HE.out.below (H13.out.trans ((hb4.trans (hB.mono s4)).mono H13.out.size)), fun k hk => ?_, ⟨?_, ?_⟩, fun k hk => ?_, fun k hk => ?_⟩, fun hk => ?_, by omega⟩, hlo, by omega⟩
  ·have := hso.lt k hk
   exact ⟨by show k ≠ w4.heap.size; omega, by show k ≠ w2.heap.size + 1; omega, by show k ≠ w2.heap.size; omega⟩
  ·show w4.heap.size ≠ w2.heap.size + 1; omega
  ·show w4.heap.size ≠ w2.heap.size; omega
  ·have h5 := hov.lt k hk
   exact ⟨by show k ≠ w4.heap.size; omega, by show k ≠ w2.heap.size + 1; omega, by show k ≠ w2.heap.size; omega, fun e => by have := hso.lt k e; omega⟩
  ·have := hlo k hk; omega
  ·rcases hk with e | e | e | e | e
   ·have e : w4.heap.size + 1 = w4.heap.size := e; omega
   ·have e : w4.heap.size + 1 = w2.heap.size + 1 := e; omega
   ·have e : w4.heap.size + 1 = w2.heap.size := e; omega
   ·have := hso.lt _ e; omega
   ·have := (hov.lt _ e).2; omega
end Go.Proofs.YtionbmlicmibgaaGreatDoor
