/- The document's Expire. -/
import Derived.Test.YtkjebpebfcgnjaaTRef3
namespace Go.Proofs.Ytkjebpebfcgnjaa
set_option linter.unusedVariables false
set_option linter.unusedSimpArgs false
open Go.RowKit

set_option maxRecDepth 200000 in
set_option maxHeartbeats 4000000 in
theorem refExpire_any {w : World} {gx : Nat} {v : Value} {L : List St} (h : RtAt w gx v L) (hT : TbOk L) (f : Int) : Calls Try.prog 18 #[.pointer (some ⟨gx, 0, none⟩), .int .i64 f] w (RefPost w gx v ((L.length : Int) - (expT L f).length) (expT L f)) := by
  have HH := hide h
  have hL8 := hT.len
  have c0 := h.c0
  have f0 := h.f0
  have hgx := h.lt
  obtain ⟨pv, nv, cv, rfl⟩ := h.own.sts.sl
  obtain rfl : nv = L.length := h.own.sts.len.1
  obtain ⟨sn, hsn⟩ : ∃ sn : Int, (L.length : Int) - (expT L f).length = sn := ⟨_, rfl⟩
  rw [hsn]
  have HSN := hide hsn
  clear h hT hsn
  go_enter Try.func18, Try.ntmps18
  go_wp2
  go_loopw [5, 14] (fun v i wr => ∃ k : Nat, k ≤ L.length ∧ i = .int .i64 k ∧ (∃ p n c, v = .slice p n c) ∧ Hid (OwnT w.heap.size wr v (stayT L f k) ∧ Below w.heap.size w wr)) (fun _ i _ => L.length - (intOf i).toNat)
  case atStart => exact ⟨0, by omega, rfl, ⟨_, _, _, rfl⟩, hide ⟨OwnT.nil _ _, Below.refl _ _⟩⟩
  case round =>
    obtain ⟨k, hk, rfl, ⟨p3, n3, c3, rfl⟩, HR⟩ := hrel
    by_cases hlt : k < L.length
    · obtain ⟨y, hy⟩ : ∃ y, L[k]? = some y := ⟨_, List.getElem?_eq_getElem hlt⟩
      obtain ⟨gd, o, rfl, hc⟩ := HH.out.own.sts.at_ (by omega)
      obtain ⟨d0, d1, d2, d3, d4, d5, d6, d7, d8, d9, d10⟩ := ((hc k y hy).below HR.out.2).all
      have HSY := hide (fun h => stayT_yes (f := f) hy h)
      have HSN' := hide (fun h => stayT_no (f := f) hy h)
      have hsl := stayT_len L f k
      obtain ⟨s, q, a, ⟨e1, e2, e3, e4, e5, e6, e7, e8⟩⟩ := y
      dsimp only at d0 d1 d2 d3 d4 d5 d6 d7 d8 d9 d10 HSY HSN'
      obtain ⟨Y, hY⟩ : ∃ Y, wr.alloc (.cells #[.int .i64 s, .int .i64 q, .int .i64 a, .int .i64 e1, .int .i64 e2, .int .i64 e3, .int .i64 e4, .int .i64 e5, .int .i64 e6, .int .i64 e7, .int .i64 e8] 60) = Y := ⟨_, rfl⟩
      have hbY : Below wr.heap.size wr Y := by rw [← hY]; exact (Below.refl _ _).alloc (Nat.le_refl _) _
      have HOY : Hid (OwnT w.heap.size Y (.slice p3 n3 c3) (stayT L f k) ∧ Below w.heap.size w Y) := hide ⟨HR.out.1.below hbY, HR.out.2.trans (hbY.mono HR.out.2.size)⟩
      obtain ⟨y0, y1, y2, y3, y4, y5, y6, y7, y8, y9, y10⟩ := (StAt.box wr ⟨s, q, a, ⟨e1, e2, e3, e4, e5, e6, e7, e8⟩⟩).all
      dsimp only at y0 y1 y2 y3 y4 y5 y6 y7 y8 y9 y10
      rw [hY] at y0 y1 y2 y3 y4 y5 y6 y7 y8 y9 y10
      simp only [Nat.zero_add] at y0 y1 y2 y3 y4 y5 y6 y7 y8 y9 y10
      have HSL : Hid ((stayT L f k).length ≤ 1000000) := hide (by omega)
      clear hbY hc hy hsl
      by_cases hf : f ≤ a
      · go_wp2_with (at_builtin; go_loud (refine wpList_pushT (w := Y) (v := .slice p3 n3 c3) (l := stayT L f k) (B := w.heap.size) (H := Y.heap.size) rfl (.tmp 22) (.tmp 24) rfl rfl ⟨s, q, a, ⟨e1, e2, e3, e4, e5, e6, e7, e8⟩⟩ rfl rfl rfl HOY.out.1 HOY.out.2.size HSL.out ?_); intro v5 w5 ho5 hb5 hg5)
        obtain ⟨p5, n5, c5, rfl⟩ := ho5.sts.sl
        have HO5 := hide ho5
        have HB5 := hide (HOY.out.2.trans hb5)
        clear ho5 hb5 hg5
        go_wp2
        go_roundw
        case rel => exact ⟨k + 1, by omega, by go_num, ⟨_, _, _, rfl⟩, hide ⟨by rw [HSY.out hf]; exact HO5.out, HB5.out⟩⟩
        case measure => simp [intOf]; omega
      · go_wp2
        go_roundw
        case rel => exact ⟨k + 1, by omega, by go_num, ⟨_, _, _, rfl⟩, hide ⟨by rw [HSN'.out hf]; exact HOY.out.1, HOY.out.2⟩⟩
        case measure => simp [intOf]; omega
    · have e : stayT L f k = expT L f := by unfold stayT; rw [List.take_of_length_le (by omega)]
      have HE : Hid (OwnT w.heap.size wr (.slice p3 n3 c3) (expT L f)) := hide (by have := HR.out.1; rwa [e] at this)
      have HN3 := hide HE.out.sts.len.1
      have c0r := (HH.out.below HR.out.2).c0
      have f0r := (HH.out.below HR.out.2).f0
      have hE8 : (expT L f).length ≤ L.length := List.length_filter_le _ _
      have hfin : sn = (L.length : Int) - (n3 : Int) := by have := HSN.out; have := HN3.out; omega
      have hn3 : n3 ≤ 8 := by have := HN3.out; omega
      have HFIN := hide hfin
      clear e hE8 hfin
      go_wp2
      go_ret
      rw [HFIN.out]
      exact ref_fin HH.out HR.out.2 HE.out rfl
end Go.Proofs.Ytkjebpebfcgnjaa
