/- The law SessionBack. -/
import Derived.Test.YtkjebpebfcgnjaaTLoad
import Derived.Test.YtkjebpebfcgnjaaTLawEnds
namespace Go.Proofs.Ytkjebpebfcgnjaa
set_option linter.unusedVariables false
set_option linter.unusedSimpArgs false
open Go.RowKit Go.Deep Go.ChangeShapes

theorem Try.cells5 : Try.prog.cellsOf 5 = 1 := by kernel_rfl
theorem by_of_arg {H : Type} {enc : TypeId × Value → H} {W : World} {a0 : Option Addr} {len cap : Nat} {d0 : DataW H} {p0 : List MemPlace}
    (h : DataW.Trod enc Try.prog W 0 (fun _ => true) true 47 (.slice a0 len cap) d0 p0) : ∃ l : List UInt8, l.length = len ∧ By W (.slice a0 len cap) l := by
  obtain ⟨fuel, hf⟩ := h
  rcases open_ints Try.underlying47 Try.underlying5 Try.cells5 hf with ⟨hcs, _⟩ | ⟨x, l, c, zs, hcs, _, hl, hm, hz, _, hcell, hwz⟩
  · simp [Value.cells] at hcs
    obtain ⟨rfl, rfl, rfl⟩ := hcs
    exact by_of_row (zs := []) (.inl ⟨rfl, rfl, rfl, rfl⟩)
  · simp [Value.cells] at hcs
    obtain ⟨rfl, rfl, rfl⟩ := hcs
    exact by_of_row (.inr ⟨_, rfl, hl, hm, by simpa using hz, hcell, hwz⟩)

set_option maxRecDepth 200000 in
set_option maxHeartbeats 4000000 in
theorem lawBack_any {w : World} {p : Option Addr} {n c : Nat} {l : List Dt} (h : Dts w p n c l) {pb : Option Addr} {nb cb : Nat} {m : List UInt8} (hm : By w (.slice pb nb cb) m) : Calls Try.prog 8 #[.slice p n c, .slice pb nb cb] w (LawPost w) := by
  have hcm := h.cap_
  have hmm := h.max_
  have hn64 : (n : Int) ≤ 9223372036854775807 := by unfold maxLen at hmm; omega
  have hb64 := hm.lenMax
  have hnb := hm.len.1
  have hA := awake_any w
  by_cases hn : 200 < n
  · clear h hcm hmm hm hnb
    go_enter Try.func8, Try.ntmps8
    go_wp2_with fail
    refine hA.mono ?_
    rintro e w1 ⟨rfl, hb⟩
    go_wp2
    go_ret
    exact ⟨by rfl, hb⟩
  by_cases hn2 : 65536 < nb
  · clear h hcm hmm hm hnb
    go_enter Try.func8, Try.ntmps8
    go_wp2_with fail
    refine hA.mono ?_
    rintro e w1 ⟨rfl, hb⟩
    go_wp2
    go_ret
    exact ⟨by rfl, hb⟩
  have hP := hide (play_any h (by omega))
  obtain ⟨L, hL⟩ : ∃ L, playT l = L := ⟨_, rfl⟩
  rw [hL] at hP
  have HM := hide hm
  have HNB := hide hnb
  clear h hL hcm hmm hA hm hnb
  go_enter Try.func8, Try.ntmps8
  go_wp2_with fail
  refine hP.out.mono ?_
  rintro e w1 ⟨rfl, hT⟩
  obtain ⟨g, hg⟩ : ∃ g, w.heap.size + 1 = g := ⟨_, rfl⟩
  obtain ⟨b, hb⟩ : ∃ b, w.heap.size = b := ⟨_, rfl⟩
  have T1 : Hid (TbOwn w g b w1 L) := hide (by rw [← hb, ← hg]; exact hT)
  rw [hg]
  clear hT hg hb
  go_wp2_with fail
  refine (image_any T1.out.tb).mono ?_
  rintro e w2 ⟨v2, rfl, ho2, hb2⟩
  obtain ⟨p2, n2, c2, rfl⟩ := ho2.by_.sl
  have T2 := hide (T1.out.bel hb2)
  have hlen := imgT_len T1.out.tb.ok
  have k2 := hide (load_any ho2.by_ (by omega))
  rw [loadT_put T1.out.tb.ok] at k2
  clear ho2 hb2 hlen
  go_wp2_with fail
  refine k2.out.mono ?_
  rintro e w3 ⟨rfl, hT3⟩
  have T3 := hide (T2.out.bel hT3.below)
  obtain ⟨g3, hg3⟩ : ∃ g3, w2.heap.size + 1 = g3 := ⟨_, rfl⟩
  obtain ⟨b3, hb3⟩ : ∃ b3, w2.heap.size = b3 := ⟨_, rfl⟩
  have C3 : Hid (TbIs w3 g3 b3 L) := hide (by rw [← hb3, ← hg3]; exact hT3.tb)
  rw [hg3]
  clear hT3 hg3 hb3 k2
  go_wp2_with fail
  refine (seats_any T3.out.tb).mono ?_
  rintro e w4 ⟨v4, rfl, ho4, hb4⟩
  obtain ⟨p4, n4, c4, rfl⟩ := ho4.sts.sl
  have T4 := hide (T3.out.bel hb4)
  have C4 := hide (C3.out.below hb4)
  have S4 := hide ho4.sts
  clear ho4 hb4
  go_wp2_with fail
  refine (seats_any C4.out).mono ?_
  rintro e w5 ⟨v5, rfl, ho5, hb5⟩
  obtain ⟨p5, n5, c5, rfl⟩ := ho5.sts.sl
  have T5 := hide (T4.out.bel hb5)
  have S45 := hide (S4.out.below hb5)
  have S5 := hide ho5.sts
  clear ho5 hb5
  go_wp2_with fail
  refine (equalT_true S45.out S5.out).mono ?_
  rintro e w6 ⟨rfl, hb6⟩
  have T6 := hide (T5.out.bel hb6)
  have HM6 := hide (HM.out.below T6.out.below)
  have HL6 := hide (load_any HM6.out (by have := HNB.out; omega))
  clear hb6
  cases hld : loadT m with
  | none =>
    rw [hld] at HL6
    clear hld
    go_wp2_with fail
    refine HL6.out.mono ?_
    rintro e w7 ⟨rfl, hb7⟩
    have T7 := hide (T6.out.bel hb7)
    clear hb7 HL6
    go_wp2_with fail
    refine (awake_any w7).mono ?_
    rintro e w8 ⟨rfl, hb8⟩
    have T8 := hide (T7.out.bel hb8)
    clear hb8
    go_wp2
    go_ret
    exact ⟨by rfl, T8.out.below⟩
  | some M =>
    have himg := loadT_img hld
    rw [hld] at HL6
    have HIMG := hide himg.1
    clear hld himg
    go_wp2_with fail
    refine HL6.out.mono ?_
    rintro e w7 ⟨rfl, hT7⟩
    have T7 := hide (T6.out.bel hT7.below)
    have HM7 := hide (HM6.out.below hT7.below)
    obtain ⟨g7, hg7⟩ : ∃ g7, w6.heap.size + 1 = g7 := ⟨_, rfl⟩
    obtain ⟨b7, hb7⟩ : ∃ b7, w6.heap.size = b7 := ⟨_, rfl⟩
    have C7 : Hid (TbIs w7 g7 b7 M) := hide (by rw [← hb7, ← hg7]; exact hT7.tb)
    rw [hg7]
    clear hT7 hg7 hb7 HL6
    go_wp2_with fail
    refine (image_any C7.out).mono ?_
    rintro e w8 ⟨v8, rfl, ho8, hb8⟩
    obtain ⟨p8, n8, c8, rfl⟩ := ho8.by_.sl
    have T8 := hide (T7.out.bel hb8)
    have HE := hide (equal_any ho8.by_ (HM7.out.below hb8))
    rw [HIMG.out, show (m == m) = true by simp] at HE
    clear ho8 hb8
    go_wp2_with fail
    refine HE.out.mono ?_
    rintro e w9 ⟨rfl, rfl⟩
    have HAW := hide (awake_any w8)
    go_wp2_with fail
    refine HAW.out.mono ?_
    rintro e w9 ⟨rfl, hb9⟩
    have T9 := hide (T8.out.bel hb9)
    clear hb9
    go_wp2
    go_ret
    exact ⟨by rfl, T9.out.below⟩
end Go.Proofs.Ytkjebpebfcgnjaa
