/- The document's ledger: what makes one. -/
import Derived.Test.YtlmoiaeppehiiaaLRead
namespace Go.Proofs.Ytlmoiaeppehiiaa
set_option linter.unusedVariables false
set_option linter.unusedSimpArgs false
open Go.RowKit

theorem rises_step (ix y : Int) (k : Nat) (e : En) (r : List En) (hf : e.fits) (hix : fits ix) (hk : (k : Int) ≤ 4611686018427387904) (hx : 0 < k → ix + k ≤ 1099511627776) (w1 w2 : Int) (h1 : IntKind.i64.wrap (e.i - 1) = w1) (h2 : IntKind.i64.wrap (w1 - k) = w2) :
    rises (ix + k) y (e :: r) = (!decide (1099511627776 < ix) && !decide (1099511627776 < e.i) && !(w2 != ix) && !decide (e.t < 1) && !decide (e.t < y) && !decide (1099511627776 < e.t) && !decide (4096 < (e.d.length : Int)) && rises e.i e.t r) := by
  conv => lhs; unfold rises
  unfold follow cnt
  obtain ⟨hf1, hf2⟩ := hf
  unfold fits at hf1 hf2 hix
  rw [IntKind.wrap_i64] at h1 h2
  have key : (decide (ix + k ≤ 1099511627776) && (decide (e.i = nxt (ix + k)) && decide (e.i ≤ 1099511627776) && decide (y ≤ e.t) && (decide (0 < e.t) && decide (e.t ≤ 1099511627776)) && decide (e.d.length ≤ 4096))) = (!decide (1099511627776 < ix) && !decide (1099511627776 < e.i) && !(w2 != ix) && !decide (e.t < 1) && !decide (e.t < y) && !decide (1099511627776 < e.t) && !decide (4096 < (e.d.length : Int))) := by
    rw [Bool.eq_iff_iff]
    simp only [Bool.and_eq_true, Bool.not_eq_true', decide_eq_true_eq, decide_eq_false_iff_not, bne_eq_false_iff_eq]
    unfold nxt
    split <;> omega
  rw [key]
set_option maxRecDepth 200000 in
set_option maxHeartbeats 4000000 in
theorem refRises_any {w : World} {ix tm : Int} {v : Value} {L : List En} (hv : Ens w v L) (hix : fits ix) (h9 : L.length ≤ 100000) : Calls Try.prog 74 #[.int .i64 ix, .int .i64 tm, v] w fun e w' => e = .returned (.bool (rises ix tm L)) ∧ Below w.heap.size w w' := by
  obtain ⟨p, n, c, rfl⟩ := hv.sl
  obtain ⟨hn, _, _⟩ := hv.len
  subst hn
  have HV := hide hv
  have HIX := hide hix
  clear hv hix
  have HN := hide h9
  have h9' : (L.length : Int) ≤ 100000 := by omega
  clear h9
  go_enter Try.func74, Try.ntmps74
  go_wp2_with fail
  go_loopw [1, 7, 8, 11] (fun t _ _ i wr => ∃ (k : Nat) (y : Int), k ≤ L.length ∧ i = .int .i64 k ∧ t = .int .i64 y ∧ Hid (rises ix tm L = rises (ix + k) y (L.drop k) ∧ (0 < k → ix + k ≤ 1099511627776) ∧ Below w.heap.size w wr)) (fun _ _ _ i _ => L.length - (intOf i).toNat)
  case atStart => exact ⟨0, tm, by omega, rfl, rfl, hide ⟨by simp, by omega, Below.refl _ _⟩⟩
  case round =>
    obtain ⟨k, y, hk, rfl, rfl, HR⟩ := hrel
    by_cases hlt : k < L.length
    · have he := List.getElem?_eq_getElem hlt
      obtain ⟨e, hee⟩ : ∃ e, L[k] = e := ⟨_, rfl⟩
      have HD : Hid (L.drop k = e :: L.drop (k + 1)) := hide (by rw [← hee]; exact List.drop_eq_getElem_cons hlt)
      rw [hee] at he
      obtain ⟨g, o, pd, nd, cd, rfl, hat, hby, hnd⟩ := (HV.out.below HR.out.2.2).at_ he
      obtain ⟨oo, hoo⟩ : ∃ oo, o + k * 3 = oo := ⟨_, rfl⟩
      rw [hoo] at hat
      have c0 := hat.c0
      have c1 := hat.c1
      have c2 := hat.c2
      dsimp only at c0 c1 c2
      have hndm : (nd : Int) ≤ 9223372036854775807 := by
        obtain ⟨_, cap, e1, h1, h2, _⟩ := hby
        injection e1
        unfold maxLen at h2
        omega
      have HEF : Hid (e.fits) := hide (HV.out.fits e (List.mem_of_getElem? he))
      obtain ⟨w1, hw1⟩ : ∃ w1, IntKind.i64.wrap (e.i - 1) = w1 := ⟨_, rfl⟩
      obtain ⟨w2, hw2⟩ : ∃ w2, IntKind.i64.wrap (w1 - (k : Int)) = w2 := ⟨_, rfl⟩
      have HST := hide (rises_step ix y k e (L.drop (k + 1)) HEF.out HIX.out (by omega) HR.out.2.1 w1 w2 hw1 hw2)
      rw [← hnd] at HST
      obtain ⟨ei, hei⟩ : ∃ ei, e.i = ei := ⟨_, rfl⟩
      obtain ⟨et, het⟩ : ∃ et, e.t = et := ⟨_, rfl⟩
      rw [hei] at c0 hw1 HST
      rw [het] at c1 HST
      have bZ : Below wr.heap.size wr (wr.alloc (.cells #[.int .i64 ei, .int .i64 et, .slice pd nd cd] 70)) := (Below.refl _ _).alloc (Nat.le_refl _) _
      have hN0 : EcAt (wr.alloc (.cells #[.int .i64 ei, .int .i64 et, .slice pd nd cd] 70)) wr.heap.size 0 ⟨ei, et, pd, nd, cd⟩ := fun j u hj => by
        rw [Nat.zero_add, cell_of_row _ wr.heap.size _ _ _ (0, 0) (heap_alloc_new wr _)]
        simpa [ecC] using hj
      obtain ⟨Z, hZ⟩ : ∃ Z, wr.alloc (.cells #[.int .i64 ei, .int .i64 et, .slice pd nd cd] 70) = Z := ⟨_, rfl⟩
      rw [hZ] at bZ hN0
      have z0 := hN0.c0
      have z1 := hN0.c1
      have z2 := hN0.c2
      rw [Nat.zero_add] at z1 z2
      dsimp only at z0 z1 z2
      have HBZ := hide (HR.out.2.2.trans (bZ.mono HR.out.2.2.size))
      have HLE : Hid (ei ≤ 1099511627776 → w2 = ix → ix ≤ 1099511627776 → ix + ((k + 1 : Nat) : Int) = ei) := hide fun a1 a2 a3 => by
        have f := HEF.out.1
        have f2 := HIX.out
        unfold fits at f f2
        rw [hei] at f
        rw [IntKind.wrap_i64] at hw1 hw2
        omega
      clear he hee hat hby hnd hei het bZ hN0
      cases t1 : decide (1099511627776 < ix)
      · cases t2 : decide (1099511627776 < ei)
        · cases t3 : (w2 != ix)
          · cases t4 : decide (et < 1)
            · cases t5 : decide (et < y)
              · cases t6 : decide (1099511627776 < et)
                · cases t7 : decide (4096 < (nd : Int))
                  · have HX : Hid (rises ix tm L = rises ei et (L.drop (k + 1))) := hide (by
                      rw [HR.out.1, HD.out, HST.out, t1, t2, t3, t4, t5, t6, t7]
                      rfl)
                    have h1 : ei ≤ 1099511627776 := by simpa using t2
                    have h2 : w2 = ix := by simpa using t3
                    have h3 : ix ≤ 1099511627776 := by simpa using t1
                    have HEQ := hide (HLE.out h1 h2 h3)
                    have HEI := hide h1
                    clear h1 h2 h3
                    go_wp2
                    go_roundw
                    case rel => exact ⟨k + 1, et, by omega, by go_num, rfl, hide ⟨by rw [HEQ.out]; exact HX.out, fun _ => by rw [HEQ.out]; exact HEI.out, HBZ.out⟩⟩
                    case measure => simp [intOf]; omega
                  · have HX : Hid (rises ix tm L = false) := hide (by
                      rw [HR.out.1, HD.out, HST.out, t1, t2, t3, t4, t5, t6, t7]
                      simp)
                    go_wp2
                    go_ret
                    exact ⟨ret_b HX.out, HBZ.out⟩
                · have HX : Hid (rises ix tm L = false) := hide (by
                    rw [HR.out.1, HD.out, HST.out, t1, t2, t3, t4, t5, t6]
                    simp)
                  go_wp2
                  go_ret
                  exact ⟨ret_b HX.out, HBZ.out⟩
              · have HX : Hid (rises ix tm L = false) := hide (by
                  rw [HR.out.1, HD.out, HST.out, t1, t2, t3, t4, t5]
                  simp)
                go_wp2
                go_ret
                exact ⟨ret_b HX.out, HBZ.out⟩
            · have HX : Hid (rises ix tm L = false) := hide (by
                rw [HR.out.1, HD.out, HST.out, t1, t2, t3, t4]
                simp)
              go_wp2
              go_ret
              exact ⟨ret_b HX.out, HBZ.out⟩
          · have HX : Hid (rises ix tm L = false) := hide (by
              rw [HR.out.1, HD.out, HST.out, t1, t2, t3]
              simp)
            go_wp2
            go_ret
            exact ⟨ret_b HX.out, HBZ.out⟩
        · have HX : Hid (rises ix tm L = false) := hide (by
            rw [HR.out.1, HD.out, HST.out, t1, t2]
            simp)
          go_wp2
          go_ret
          exact ⟨ret_b HX.out, HBZ.out⟩
      · have HX : Hid (rises ix tm L = false) := hide (by
          rw [HR.out.1, HD.out, HST.out, t1]
          simp)
        go_wp2
        go_ret
        exact ⟨ret_b HX.out, HBZ.out⟩
    · have HX : Hid (rises ix tm L = true) := hide (by
        rw [HR.out.1, List.drop_eq_nil_of_le (by omega)]
        rfl)
      go_wp2
      go_ret
      exact ⟨ret_b HX.out, HR.out.2.2⟩
end Go.Proofs.Ytlmoiaeppehiiaa
