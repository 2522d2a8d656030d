/- The document's From. -/
import Derived.Test.YtfbkgnkgpbpphaaLTells
namespace Go.Proofs.Ytfbkgnkgpbpphaa
set_option linter.unusedVariables false
set_option linter.unusedSimpArgs false
open Go.RowKit

/-- What has been gathered behind k entries: those from the k0-th on, at most M. -/
def outF (l : List En) (k0 M k : Nat) : List En := ((l.drop k0).take (k - k0)).take M
theorem outF_len {l : List En} {k0 M k : Nat} (hk : k ≤ l.length) : (outF l k0 M k).length = min (k - k0) M := by
  unfold outF
  rw [List.length_take, List.length_take, List.length_drop]
  omega
theorem outF_succ {l : List En} {k0 M k : Nat} {e : En} (he : l[k]? = some e) : outF l k0 M (k + 1) = outF l k0 M k ++ if k0 ≤ k ∧ k - k0 < M then [e] else [] := by
  have hk := (List.getElem?_eq_some_iff.1 he).1
  unfold outF
  by_cases h1 : k0 ≤ k
  · have e1 : k + 1 - k0 = (k - k0) + 1 := by omega
    have h2 : (l.drop k0)[k - k0]? = some e := by rw [List.getElem?_drop, show k0 + (k - k0) = k by omega, he]
    have a1 : ((l.drop k0).take (k - k0)).length = k - k0 := by
      rw [List.length_take, List.length_drop]
      omega
    rw [e1, List.take_add_one, h2]
    by_cases h3 : k - k0 < M
    · have b1 : ((l.drop k0).take (k - k0) ++ (some e).toList).take M = (l.drop k0).take (k - k0) ++ (some e).toList := List.take_of_length_le (by rw [List.length_append, a1]; simp; omega)
      have b2 : ((l.drop k0).take (k - k0)).take M = (l.drop k0).take (k - k0) := List.take_of_length_le (by rw [a1]; omega)
      rw [if_pos ⟨h1, h3⟩, b1, b2]
      rfl
    · rw [if_neg (by omega), List.append_nil, List.take_append_of_le_length (by rw [a1]; omega)]
  · rw [if_neg (by omega), show k + 1 - k0 = 0 by omega, show k - k0 = 0 by omega]
    simp
set_option maxRecDepth 200000 in
set_option maxHeartbeats 4000000 in
theorem refFrom_any {w : World} {g : Nat} {x : Lg} (h : RgIs w g x) (index most : Int) : Calls Try.prog 21 #[.pointer (some ⟨g, 0, none⟩), .int .i64 index, .int .i64 most] w fun e w' => (∃ v, e = .returned v ∧ Ens w' v (x.from_ index most)) ∧ Below w.heap.size w w' := by
  have h9 : (x.l.length : Int) ≤ 100000 := by have := h.few; omega
  have hbd := good_le h.ok.good
  have HGET : Hid (∀ (k : Nat) e, x.l[k]? = some e → e.i = x.ix + k + 1) := hide fun k e he => (goOn_get h.ok.on hbd.1 hbd.2.1 k e he).1
  obtain ⟨p, c, d2, hens⟩ := h.c2
  have HEN := hide hens
  obtain ⟨E0, hE0, hD0⟩ := hens
  have HE0 := hide (And.intro hE0 hD0)
  -- where the run begins, or behind all
  obtain ⟨k0, hk0⟩ : ∃ k0 : Nat, (hasI x index = true ∧ index = x.ix + k0 + 1 ∧ k0 < x.l.length) ∨ (hasI x index = false ∧ k0 = x.l.length) := by
    by_cases hh : hasI x index = true
    · simp only [hasI, Bool.and_eq_true, decide_eq_true_eq] at hh
      exact ⟨(index - x.ix - 1).toNat, .inl ⟨by unfold hasI; simp [hh.1, hh.2], by omega, by omega⟩⟩
    · exact ⟨x.l.length, .inr ⟨by simpa using hh, rfl⟩⟩
  have HQ : Hid (∀ (k : Nat) e, x.l[k]? = some e → (e.i = index ↔ k = k0)) := hide fun k e he => by
    have h1 := HGET.out k e he
    have hl := (List.getElem?_eq_some_iff.1 he).1
    rcases hk0 with ⟨_, h2, h3⟩ | ⟨h2, h3⟩
    · omega
    · simp only [hasI, Bool.and_eq_false_iff, decide_eq_false_iff_not] at h2
      omega
  have HX : Hid (x.from_ index most = outF x.l k0 most.toNat x.l.length) := hide (by
    unfold Lg.from_ outF
    rcases hk0 with ⟨h1, h2, h3⟩ | ⟨h2, h3⟩
    · simp only [hasI, Bool.and_eq_true, decide_eq_true_eq] at h1
      have b1 : (x.l.drop k0).take (x.l.length - k0) = x.l.drop k0 := List.take_of_length_le (by rw [List.length_drop]; omega)
      rw [if_pos h1, show (index - x.ix - 1).toNat = k0 by omega, b1]
    · simp only [hasI, Bool.and_eq_false_iff, decide_eq_false_iff_not] at h2
      rw [if_neg (by omega), h3]
      simp)
  clear h hbd hE0 hD0 hk0
  go_enter Try.func21, Try.ntmps21
  go_wp2_with fail
  go_loopw [7, 9, 15] (fun u _ i wr => ∃ k : Nat, k ≤ x.l.length ∧ i = .int .i64 k ∧ (∃ p n c, u = .slice p n c) ∧ Hid ((∃ E, OwnE w.heap.size wr u E ∧ Dat w E (outF x.l k0 most.toNat k)) ∧ Below w.heap.size w wr)) (fun _ _ i _ => x.l.length - (intOf i).toNat)
  case atStart => exact ⟨0, by omega, rfl, ⟨_, _, _, rfl⟩, hide ⟨⟨[], OwnE.nil _ _, by unfold outF; simp [Dat.nil]⟩, Below.refl _ _⟩⟩
  case round =>
    obtain ⟨k, hk, rfl, ⟨pu, nu, cu, rfl⟩, HR⟩ := hrel
    by_cases hlt : k < x.l.length
    · obtain ⟨e, he⟩ : ∃ e, x.l[k]? = some e := ⟨_, List.getElem?_eq_getElem hlt⟩
      obtain ⟨g2, o2, pd, nd, cd, rfl, hat0, hby, hnd⟩ := HEN.out.at_ he
      have hat := hat0.below HR.out.2
      obtain ⟨oo, hoo⟩ : ∃ oo, o2 + k * 3 = oo := ⟨_, rfl⟩
      rw [hoo] at hat
      have c0 := hat.c0
      have c1 := hat.c1
      have c2 := hat.c2
      dsimp only at c0 c1 c2
      obtain ⟨E, hE, hD⟩ := HR.out.1
      have hnu := hE.ecs.len.1
      rw [hD.1, outF_len hk] at hnu
      have HEE := hide (And.intro hE hD)
      have HELN : Hid (E.length ≤ 1000000) := hide (by rw [hD.1, outF_len hk]; omega)
      have HSUC := hide (outF_succ (k0 := k0) (M := most.toNat) he)
      have HFIT : Hid (e.fits) := hide (HEN.out.fits e (List.mem_of_getElem? he))
      have HBY : Hid (By w (.slice pd nd cd) e.d) := hide hby
      have hqi := HQ.out k e he
      obtain ⟨ei, hei⟩ : ∃ ei, e.i = ei := ⟨_, rfl⟩
      obtain ⟨et, het⟩ : ∃ et, e.t = et := ⟨_, rfl⟩
      rw [hei] at c0 hqi
      rw [het] at c1
      have HEI := hide (And.intro hei het)
      have bZ : Below wr.heap.size wr (wr.alloc (.cells #[.int .i64 ei, .int .i64 et, .slice pd nd cd] 57)) := (Below.refl _ _).alloc (Nat.le_refl _) _
      have hN0 : EcAt (wr.alloc (.cells #[.int .i64 ei, .int .i64 et, .slice pd nd cd] 57)) wr.heap.size 0 ⟨ei, et, pd, nd, cd⟩ := fun j u hj => by
        rw [Nat.zero_add, cell_of_row _ wr.heap.size _ _ _ (0, 0) (heap_alloc_new wr _)]
        simpa [ecC] using hj
      obtain ⟨Z, hZ⟩ : ∃ Z, wr.alloc (.cells #[.int .i64 ei, .int .i64 et, .slice pd nd cd] 57) = Z := ⟨_, rfl⟩
      rw [hZ] at bZ hN0
      have z0 := hN0.c0
      have z1 := hN0.c1
      have z2 := hN0.c2
      rw [Nat.zero_add] at z1 z2
      dsimp only at z0 z1 z2
      have HBZ := hide (HR.out.2.trans (bZ.mono HR.out.2.size))
      have HOZ := hide (hE.below bZ)
      by_cases hpush : k0 ≤ k ∧ k - k0 < most.toNat
      · have HSU : Hid (outF x.l k0 most.toNat (k + 1) = outF x.l k0 most.toNat k ++ [e]) := hide (by rw [HSUC.out, if_pos hpush])
        have t3 : decide ((nu : Int) < most) = true := decide_eq_true (by omega)
        by_cases hq : ei = index
        · have t1 : (ei == index) = true := by simpa using hq
          clear hq hqi he hat0 hat hby hnd hE hD hnu hpush hei het bZ hN0
          go_wp2_with (at_builtin; go_loud (refine wpList_pushE2 (w := Z) (v := .slice pu nu cu) (l := E) (B := w.heap.size) (H := Z.heap.size) rfl (.tmp 34) (.tmp 36) rfl rfl ⟨ei, et, pd, nd, cd⟩ rfl rfl rfl HOZ.out HBZ.out.size HELN.out ?_); intro v6 w6 ho6 hb6 hg6 he6; obtain ⟨p6, n6, c6, rfl⟩ := ho6.ecs.sl; have HO6 := hide ho6; have HB6 := hide (HBZ.out.trans hb6); have HD6 := hide (HEE.out.2.push (e := ⟨ei, et, pd, nd, cd⟩) (x := e) HEI.out.1.symm HEI.out.2.symm HBY.out HFIT.out); clear ho6 hb6 hg6 he6)
          go_wp2
          go_roundw
          case rel => exact ⟨k + 1, by omega, by go_num, ⟨_, _, _, rfl⟩, hide ⟨⟨_, HO6.out, by rw [HSU.out]; exact HD6.out⟩, HB6.out⟩⟩
          case measure => simp [intOf]; omega
        · have t1 : (ei == index) = false := by simpa using hq
          have t2n : 0 < nu := by omega
          have t2 : decide ((0 : Int) < (nu : Int)) = true := decide_eq_true (by omega)
          clear hq hqi he hat0 hat hby hnd hE hD hnu hpush hei het bZ hN0
          go_wp2_with (at_builtin; go_loud (refine wpList_pushE2 (w := Z) (v := .slice pu nu cu) (l := E) (B := w.heap.size) (H := Z.heap.size) rfl (.tmp 34) (.tmp 36) rfl rfl ⟨ei, et, pd, nd, cd⟩ rfl rfl rfl HOZ.out HBZ.out.size HELN.out ?_); intro v6 w6 ho6 hb6 hg6 he6; obtain ⟨p6, n6, c6, rfl⟩ := ho6.ecs.sl; have HO6 := hide ho6; have HB6 := hide (HBZ.out.trans hb6); have HD6 := hide (HEE.out.2.push (e := ⟨ei, et, pd, nd, cd⟩) (x := e) HEI.out.1.symm HEI.out.2.symm HBY.out HFIT.out); clear ho6 hb6 hg6 he6)
          go_wp2
          go_roundw
          case rel => exact ⟨k + 1, by omega, by go_num, ⟨_, _, _, rfl⟩, hide ⟨⟨_, HO6.out, by rw [HSU.out]; exact HD6.out⟩, HB6.out⟩⟩
          case measure => simp [intOf]; omega
      · have HSU : Hid (outF x.l k0 most.toNat (k + 1) = outF x.l k0 most.toNat k) := hide (by rw [HSUC.out, if_neg hpush, List.append_nil])
        by_cases hq : ei = index
        · have t1 : (ei == index) = true := by simpa using hq
          have t3 : decide ((nu : Int) < most) = false := decide_eq_false (by omega)
          clear hq hqi he hat0 hat hby hnd hE hD hnu hpush hei het bZ hN0
          go_wp2
          go_roundw
          case rel => exact ⟨k + 1, by omega, by go_num, ⟨_, _, _, rfl⟩, hide ⟨⟨_, HOZ.out, by rw [HSU.out]; exact HEE.out.2⟩, HBZ.out⟩⟩
          case measure => simp [intOf]; omega
        · have t1 : (ei == index) = false := by simpa using hq
          by_cases hn0 : 0 < nu
          · have t2 : decide ((0 : Int) < (nu : Int)) = true := decide_eq_true (by omega)
            have t2n : 0 < nu := hn0
            have t3 : decide ((nu : Int) < most) = false := decide_eq_false (by omega)
            clear hq hqi he hat0 hat hby hnd hE hD hnu hpush hei het bZ hN0
            go_wp2
            go_roundw
            case rel => exact ⟨k + 1, by omega, by go_num, ⟨_, _, _, rfl⟩, hide ⟨⟨_, HOZ.out, by rw [HSU.out]; exact HEE.out.2⟩, HBZ.out⟩⟩
            case measure => simp [intOf]; omega
          · obtain rfl : nu = 0 := by omega
            have t2 : decide ((0 : Int) < ((0 : Nat) : Int)) = false := decide_eq_false (by omega)
            clear hq hqi he hat0 hat hby hnd hE hD hnu hpush hei het bZ hN0
            go_wp2
            go_roundw
            case rel => exact ⟨k + 1, by omega, by go_num, ⟨_, _, _, rfl⟩, hide ⟨⟨_, HOZ.out, by rw [HSU.out]; exact HEE.out.2⟩, HBZ.out⟩⟩
            case measure => simp [intOf]; omega
    · obtain rfl : k = x.l.length := by omega
      have HF := HR.out
      rw [← HX.out] at HF
      have HFF := hide HF
      clear hlt HF
      go_wp2
      go_ret
      obtain ⟨⟨E, hE, hD⟩, hb⟩ := HFF.out
      exact ⟨⟨_, rfl, E, hE.ecs, hD.below hb⟩, hb⟩
end Go.Proofs.Ytfbkgnkgpbpphaa
