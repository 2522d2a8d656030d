/- The document's files that are seen. -/
import Derived.Test.YtdghkmpcjjmlfaaRdDo
namespace Go.Proofs.Ytdghkmpcjjmlfaa
set_option linter.unusedVariables false
set_option linter.unusedSimpArgs false
open Go.RowKit

theorem runs_step {F : Fl} {D : List Deed} {j : Nat} {d : Deed} (hd : D[j]? = some d) : runs F (D.take (j + 1)) = d.run (runs F (D.take j)) 0 := by
  rw [List.take_add_one, hd, Option.toList_some, runs_snoc]

set_option maxRecDepth 200000 in
set_option maxHeartbeats 4000000 in
theorem rfiles_any {w : World} {Z R : Nat → Prop} {g : Nat} {st : Dk} (h : RdIs w Z R g st) (ok : st.Ok) : Calls Try.prog 32 #[.pointer (some ⟨g, 0, none⟩)] w (FPost w (fun i => Z i ∨ R i) st.seen) := by
  obtain ⟨vl, va, kp, tr, hh, hkt, hl, ha⟩ := h.parts
  obtain ⟨pl, nl, cl, rfl⟩ := hl.sl
  obtain ⟨pa, na, ca, rfl⟩ := ha.sl
  have hna := ha.len.1
  have hnm : (na : Int) ≤ 9223372036854775807 := by have := ha.len; unfold maxLen at this; omega
  have c1 := hh.c1
  have c2 := hh.c2
  have hZ : ∀ i, (Z i ∨ R i) → i < w.heap.size := fun i hi => hi.elim (h.zap i) (h.rap i)
  have HL := hide hl
  have HA := hide ha
  have HZ := hide hZ
  have HNA := hide hna
  have HOK := hide ok
  clear hl ha h hh hkt hna hZ ok
  go_enter Try.func32, Try.ntmps32
  go_wp2_with fail
  go_loopw [3, 5, 15] (fun u _ i wr => ∃ (j : Nat) (q : Option Addr) (m d : Nat), u = .slice q m d ∧ j ≤ na ∧ i = .int .i64 j ∧ Hid (Chg w wr (fun _ => False) ∧ Fil wr (fun i => Z i ∨ R i) (.slice q m d) (runs st.last (st.acts.take j)))) (fun _ _ i _ => na - (intOf i).toNat)
  case atStart => exact ⟨0, _, _, _, rfl, Nat.zero_le _, rfl, hide ⟨Chg.refl _ _, HL.out⟩⟩
  case round =>
    obtain ⟨j, q, m, d, rfl, hj, rfl, hrel⟩ := hrel
    have HC := hide hrel.out.1
    have HF := hide hrel.out.2
    clear hrel
    by_cases hjn : (j : Int) < (na : Int)
    · obtain ⟨x, hx⟩ : ∃ x, st.acts[j]? = some x := ⟨_, List.getElem?_eq_getElem (by have := HNA.out; omega)⟩
      obtain ⟨ga, oa, e, rfl, hat, hae, hra⟩ := (HA.out.chg HC.out (fun _ h => h.elim) fun _ _ h => h).at_ hx
      have hfit := HOK.out.fits j x hx
      have hfew := HOK.out.few j (by have := HNA.out; omega)
      have HST := hide (runs_step (F := st.last) hx)
      have hcA := chgA wr (.cells #[.int .i64 e.k, .string e.s, .string e.t, .int .i64 e.a, .slice e.p e.n e.c] 66)
      have hZr : ∀ i, (Z i ∨ R i) → i < (wr.alloc (.cells #[.int .i64 e.k, .string e.s, .string e.t, .int .i64 e.a, .slice e.p e.n e.c] 66)).heap.size := fun i hi => Nat.lt_of_lt_of_le (HZ.out i hi) (Nat.le_trans HC.out.size hcA.size)
      have HDO := hide (rdo_any (HF.out.chg hcA fun _ h => h.elim) hZr (by omega) (hae.chg hcA fun _ h => h.elim) hfit)
      have HCA := hide (HC.out.trans hcA fun _ h => .inl h)
      unfold acV at HDO
      obtain ⟨oo, hoo⟩ : ∃ oo, oa + j * 5 = oo := ⟨_, rfl⟩
      rw [hoo] at hat
      have e0 := hat.c0
      have e1 := hat.c1
      have e2 := hat.c2
      have e3 := hat.c3
      have e4 := hat.c4
      have hgl := lt_of_cell e0
      dsimp only at hgl
      obtain ⟨ek, es, et, ea, ep, en, ec⟩ := e
      dsimp only at e0 e1 e2 e3 e4 HDO HCA
      clear hat hae hra hfit hfew hcA hZr hx
      go_wp2_with fail
      refine HDO.out.mono ?_
      rintro e5 w5 ⟨p5, n5, c5, rfl, hf5, hc5⟩
      have H5 := hide (And.intro hf5 (HCA.out.trans hc5 fun _ h => .inl h))
      clear hf5 hc5
      go_wp2
      go_roundw
      case rel => exact ⟨j + 1, p5, n5, c5, rfl, by omega, by go_num, hide ⟨H5.out.2, by rw [HST.out]; exact H5.out.1⟩⟩
      case measure => simp [intOf]; omega
    · have e1 : st.acts.take j = st.acts := List.take_of_length_le (by have := HNA.out; omega)
      rw [e1] at HF
      have HP := hide (show FPost w (fun i => Z i ∨ R i) st.seen (.returned (.slice q m d)) wr from ⟨_, _, _, rfl, HF.out, HC.out⟩)
      clear e1
      go_wp2
      go_ret
      exact HP.out
end Go.Proofs.Ytdghkmpcjjmlfaa
