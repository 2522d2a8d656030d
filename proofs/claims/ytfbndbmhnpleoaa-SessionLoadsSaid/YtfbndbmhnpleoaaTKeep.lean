/- Keep. -/
import Derived.Test.YtfbndbmhnpleoaaTAsk
namespace Go.Proofs.Ytfbndbmhnpleoaa
set_option linter.unusedVariables false
set_option linter.unusedSimpArgs false
open Go.RowKit

theorem st_ok_of {L : List St} {n m : Int} (h : (askT L n m).2.2 = 0) (hd : (askT L n m).2.1 = false) (ho : TbOk L) : ∃ y, fndT L n = some y ∧ m = y.q + 1 ∧ y ∈ L ∧ y.s = n ∧ 0 ≤ y.q ∧ y.q ≤ 1099511627776 ∧ 1 ≤ n ∧ n ≤ 1099511627776 := by
  unfold askT at h hd
  cases hf : fndT L n with
  | none => rw [hf] at h; simp at h
  | some y =>
    rw [hf] at h hd
    dsimp only at h hd
    obtain ⟨hy, hs⟩ := fndT_mem hf
    have hok := St.ok_iff.1 (ho.ok y hy)
    refine ⟨y, rfl, ?_, hy, hs, hok.2.1.1, hok.2.1.2, by rw [← hs]; exact hok.1.1, by rw [← hs]; exact hok.1.2⟩
    split at h
    · simp at h
    · rename_i h1
      split at h
      · rename_i h2
        rw [if_neg h1, if_pos h2] at hd
        simp at hd
      · split at h
        · simp at h
        · omega

set_option maxRecDepth 200000 in
set_option maxHeartbeats 2000000 in
theorem keep_any {w : World} {g b : Nat} {L : List St} (h : TbIs w g b L) {n m a : Int} {r : Rp} (hk : (Lit.int .i64 n).wf = true) (hm0 : -9223372036854775808 ≤ m) (hm1 : m ≤ 9223372036854775807) : Calls Try.prog 12 #[.pointer (some ⟨g, 0, none⟩), .int .i64 n, .int .i64 m, .int .i64 a, rpV r] w (TabPost w g b (keepT L n m a r).1 (keepT L n m a r).2) := by
  obtain ⟨A, hA⟩ : ∃ A, w.alloc (.cells (rpC r).toArray 41) = A := ⟨_, rfl⟩
  have hA' : TbIs A g b L := by rw [← hA]; exact h.alloc _
  have hcA : Chg w A (fun _ => False) := by rw [← hA]; exact (Chg.refl w _).alloc _
  have hrA : ∀ i v, (rpC r)[i]? = some v → A.cell? ⟨w.heap.size, i, none⟩ = some v := fun i v hi => by rw [← hA, World.cell?_alloc_new]; simpa using hi
  have hwA : w.heap.size < A.heap.size := by rw [← hA]; simp
  have HASK := hide (ask_any hA' hk hm0 hm1)
  have HH := hide hA'
  have HCA := hide hcA
  have HK := hide hk
  have HRA := hide hrA
  have HOK : Hid (TbOk (keepT L n m a r).2) := hide (h.ok.keep n m a r)
  have HOL := hide h.ok
  have HST := fun w => stand_any w ⟨n, m, a, r⟩
  obtain ⟨p, hp⟩ : ∃ p, askT L n m = p := ⟨_, rfl⟩
  rw [hp] at HASK
  have HP := hide hp
  clear h hA' hcA hrA hk hp
  obtain ⟨r', d, er⟩ := p
  unfold rpC at hA HRA
  unfold rpV
  go_enter Try.func12, Try.ntmps12
  go_wp2_with fail
  refine HASK.out.mono ?_
  rintro e X ⟨rfl, hbX⟩
  dsimp only
  have hX := HH.out.below hbX
  have HX := hide hX
  have hcX := HCA.out.belowed hbX
  have HCX := hide hcX
  have hwX : w.heap.size < X.heap.size := Nat.lt_of_lt_of_le hwA hbX.size
  have xr : ∀ i v, (rpC r)[i]? = some v → X.cell? ⟨w.heap.size, i, none⟩ = some v := fun i v hi => (hbX.cell (p := ⟨w.heap.size, i, none⟩) hwA).trans (HRA.out i v hi)
  clear hbX hX hcX
  obtain ⟨r1, r2, r3, r4, r5, r6, r7, r8⟩ := r'
  unfold rpV
  dsimp only
  obtain ⟨Y, hY⟩ : ∃ Y, X.alloc (.cells #[.int .i64 r1, .int .i64 r2, .int .i64 r3, .int .i64 r4, .int .i64 r5, .int .i64 r6, .int .i64 r7, .int .i64 r8] 41) = Y := ⟨_, rfl⟩
  have HY : Hid (TbIs Y g b L) := hide (by rw [← hY]; exact HX.out.alloc _)
  have HCY : Hid (Chg w Y (fun _ => False)) := hide (by rw [← hY]; exact HCX.out.alloc _)
  have yr : ∀ i v, (rpC r)[i]? = some v → Y.cell? ⟨w.heap.size, i, none⟩ = some v := fun i v hi => by rw [← hY]; exact Lib.cell?_alloc_some _ (xr i v hi)
  clear xr
  have HYR := hide yr
  clear yr
  by_cases he : er = 0
  · subst he
    cases d
    · obtain ⟨y, hfy, hmy, hy, hys, hy0, hy1, hn0, hn1⟩ := st_ok_of (L := L) (n := n) (m := m) (by rw [HP.out]) (by rw [HP.out]) HOL.out
      have hkeep : keepT L n m a r = if (⟨n, m, a, r⟩ : St).ok then (0, insT L ⟨n, m, a, r⟩) else (1, L) := by
        unfold keepT
        rw [HP.out]
        rfl
      have y0 := HYR.out 0 _ rfl
      have y1 := HYR.out 1 _ rfl
      have y2 := HYR.out 2 _ rfl
      have y3 := HYR.out 3 _ rfl
      have y4 := HYR.out 4 _ rfl
      have y5 := HYR.out 5 _ rfl
      have y6 := HYR.out 6 _ rfl
      have y7 := HYR.out 7 _ rfl
      have HF := hide (And.intro hfy hmy)
      have HKP := hide hkeep
      clear hfy hmy hkeep hy hys hy0 hy1
      obtain ⟨Z, hZ⟩ : ∃ Z, Y.alloc (.cells #[.int .i64 n, .int .i64 m, .int .i64 a, .int .i64 r.er, .int .i64 r.rs, .int .i64 r.gn, .int .i64 r.ad, .int .i64 r.sa, .int .i64 r.ot, .int .i64 r.cy, .int .i64 r.fu] 51) = Z := ⟨_, rfl⟩
      have HZ : Hid (TbIs Z g b L) := hide (by rw [← hZ]; exact HY.out.alloc _)
      have HCZ : Hid (Chg w Z (fun _ => False)) := hide (by rw [← hZ]; exact HCY.out.alloc _)
      have hzr : ∀ i v, (stC ⟨n, m, a, r⟩)[i]? = some v → Z.cell? ⟨Y.heap.size, i, none⟩ = some v := fun i v hi => by
        rw [← hZ, World.cell?_alloc_new]
        unfold stC at hi
        simpa using hi
      have hyZ : Y.heap.size < Z.heap.size := by rw [← hZ]; simp
      have z0 : Z.cell? ⟨Y.heap.size, 0, none⟩ = some (.int .i64 n) := hzr 0 _ rfl
      have z1 : Z.cell? ⟨Y.heap.size, 1, none⟩ = some (.int .i64 m) := hzr 1 _ rfl
      have z2 : Z.cell? ⟨Y.heap.size, 2, none⟩ = some (.int .i64 a) := hzr 2 _ rfl
      have z3 : Z.cell? ⟨Y.heap.size, 3, none⟩ = some (.int .i64 r.er) := hzr 3 _ rfl
      have z4 : Z.cell? ⟨Y.heap.size, 4, none⟩ = some (.int .i64 r.rs) := hzr 4 _ rfl
      have z5 : Z.cell? ⟨Y.heap.size, 5, none⟩ = some (.int .i64 r.gn) := hzr 5 _ rfl
      have z6 : Z.cell? ⟨Y.heap.size, 6, none⟩ = some (.int .i64 r.ad) := hzr 6 _ rfl
      have z7 : Z.cell? ⟨Y.heap.size, 7, none⟩ = some (.int .i64 r.sa) := hzr 7 _ rfl
      have z8 : Z.cell? ⟨Y.heap.size, 8, none⟩ = some (.int .i64 r.ot) := hzr 8 _ rfl
      have z9 : Z.cell? ⟨Y.heap.size, 9, none⟩ = some (.int .i64 r.cy) := hzr 9 _ rfl
      have z10 : Z.cell? ⟨Y.heap.size, 10, none⟩ = some (.int .i64 r.fu) := hzr 10 _ rfl
      have HZR := hide hzr
      clear hzr
      cases hok : (⟨n, m, a, r⟩ : St).ok
      · rw [hok] at HST
        have HR : Hid (keepT L n m a r = (1, L)) := hide (by rw [HKP.out, hok]; rfl)
        clear hok
        unfold stV at HST
        dsimp only at HST
        go_wp2_with fail
        refine (HST _).mono ?_
        rintro e w3 ⟨rfl, hb3⟩
        have HB3 := hide hb3
        clear hb3
        go_wp2
        go_ret
        rw [HR.out]
        exact ⟨by rfl, HZ.out.below HB3.out, (HCZ.out.belowed HB3.out).nope _⟩
      · rw [hok] at HST
        have HR : Hid (keepT L n m a r = (0, insT L ⟨n, m, a, r⟩)) := hide (by rw [HKP.out, hok]; rfl)
        clear hok
        unfold stV at HST
        dsimp only at HST
        go_wp2_with fail
        refine (HST _).mono ?_
        rintro e w3 ⟨rfl, hb3⟩
        have h3 := HZ.out.below hb3
        have c0 := h3.c0
        have hz3 : ∀ i v, (stC ⟨n, m, a, r⟩)[i]? = some v → w3.cell? ⟨Y.heap.size, i, none⟩ = some v := fun i v hi => (hb3.cell (p := ⟨Y.heap.size, i, none⟩) hyZ).trans (HZR.out i v hi)
        have x0 : w3.cell? ⟨Y.heap.size, 0, none⟩ = some (.int .i64 n) := hz3 0 _ rfl
        have x1 : w3.cell? ⟨Y.heap.size, 1, none⟩ = some (.int .i64 m) := hz3 1 _ rfl
        have x2 : w3.cell? ⟨Y.heap.size, 2, none⟩ = some (.int .i64 a) := hz3 2 _ rfl
        have x3 : w3.cell? ⟨Y.heap.size, 3, none⟩ = some (.int .i64 r.er) := hz3 3 _ rfl
        have x4 : w3.cell? ⟨Y.heap.size, 4, none⟩ = some (.int .i64 r.rs) := hz3 4 _ rfl
        have x5 : w3.cell? ⟨Y.heap.size, 5, none⟩ = some (.int .i64 r.gn) := hz3 5 _ rfl
        have x6 : w3.cell? ⟨Y.heap.size, 6, none⟩ = some (.int .i64 r.ad) := hz3 6 _ rfl
        have x7 : w3.cell? ⟨Y.heap.size, 7, none⟩ = some (.int .i64 r.sa) := hz3 7 _ rfl
        have x8 : w3.cell? ⟨Y.heap.size, 8, none⟩ = some (.int .i64 r.ot) := hz3 8 _ rfl
        have x9 : w3.cell? ⟨Y.heap.size, 9, none⟩ = some (.int .i64 r.cy) := hz3 9 _ rfl
        have x10 : w3.cell? ⟨Y.heap.size, 10, none⟩ = some (.int .i64 r.fu) := hz3 10 _ rfl
        obtain ⟨D, hD⟩ := h3.map
        have hD' : TmIs w3.drew b L D := hD.drewN 1
        obtain ⟨w4, D4, hrun, hg4, hm4⟩ := hD'.store (x := ⟨n, m, a, r⟩) HK.out (by have := HOL.out.len; simp [maxLen]; omega)
        unfold stV at hrun
        dsimp only at hrun
        have H3 := hide (And.intro hb3 (And.intro hg4 hm4))
        have HT3 := hide h3
        clear hb3 hg4 hm4 h3 hz3 hD hD'
        go_wp2
        go_region
        all_goals
          go_wp2
          go_ret
          have hc4 : Chg w3.drew w4 (fun k => k = b) := Chg.of_grown H3.out.2.1 _ (fun k e => by injection e with e; exact .inl e.symm)
          have hcd : Chg w3 w4 (fun k => k = b) := ((Chg.refl w3 (fun k => k = b)).drewN 1).trans hc4 fun k hk => .inl hk
          rw [HR.out] at HOK ⊢
          exact ⟨by rfl, HT3.out.with_ hcd H3.out.2.2 HOK.out, ((HCZ.out.belowed H3.out.1).nope _).trans hcd fun k hk => .inl hk⟩
    · have HR : Hid (keepT L n m a r = (81, L)) := hide (by unfold keepT; rw [HP.out]; rfl)
      go_wp2
      go_ret
      rw [HR.out]
      exact ⟨by rfl, HY.out, HCY.out.nope _⟩
  · have HR : Hid (keepT L n m a r = (er, L)) := hide (by unfold keepT; rw [HP.out]; exact if_pos he)
    go_wp2
    go_ret
    rw [HR.out]
    exact ⟨by rfl, HY.out, HCY.out.nope _⟩
end Go.Proofs.Ytfbndbmhnpleoaa
