/- Voters with one more, with one less. -/
import Derived.Test.YtmiphealijbndaaRMay
namespace Go.Proofs.Ytmiphealijbndaa
set_option linter.unusedVariables false
set_option linter.unusedSimpArgs false
open Go.RowKit

def leaveN (l : List Int) (n : Int) : List Int := l.filter (· != n)
def joinN (l : List Int) (n : Int) : List Int := if hasN l n then l else sortN (l ++ [n])
/-- A slice of the call's own comes back. -/
def OwnPost (w : World) (L : List Int) (e : Ending) (w' : World) : Prop := ∃ v, e = .returned v ∧ OwnN w.heap.size w' v L ∧ Below w.heap.size w w'
def NsPost (w : World) (L : List Int) (e : Ending) (w' : World) : Prop := ∃ v, e = .returned v ∧ Ns w' v L ∧ Below w.heap.size w w'

set_option maxRecDepth 100000 in
set_option maxHeartbeats 1000000 in
theorem leave_any {w : World} {v : Value} {l : List Int} {n : Int} (hv : Ns w v l) (h9 : l.length ≤ 1000) (hn : fits n) : Calls Try.prog 24 #[v, .int .i64 n] w (OwnPost w (leaveN l n)) := by
  obtain ⟨p, m, c, rfl⟩ := hv.sl
  obtain ⟨rfl, _, _⟩ := hv.len
  have HV := hide hv
  have HF := hide hv.fits
  have HC := hide (fun h0 : 0 < l.length => hv.at_ h0)
  clear hv hn
  go_enter Try.func24, Try.ntmps24
  go_wp2
  go_loopw [5, 10] (fun v i wr => ∃ k : Nat, k ≤ l.length ∧ i = .int .i64 k ∧ (∃ p n c, v = .slice p n c) ∧ Hid (OwnN w.heap.size wr v (leaveN (l.take k) n) ∧ Below w.heap.size w wr)) (fun _ i _ => l.length - (intOf i).toNat)
  case atStart => exact ⟨0, by omega, rfl, ⟨_, _, _, rfl⟩, hide ⟨OwnN.nil _ _, Below.refl _ _⟩⟩
  case round =>
    obtain ⟨k, hk, rfl, ⟨p3, n3, c3, rfl⟩, HR⟩ := hrel
    by_cases hlt : k < l.length
    · obtain ⟨g, o, rfl, hc⟩ := HC.out (by omega)
      have hx := List.getElem?_eq_getElem hlt
      have hc0 := hc k _ hx
      obtain ⟨x, hxx⟩ : ∃ x, l[k] = x := ⟨_, rfl⟩
      have hfx := HF.out _ (List.getElem_mem hlt)
      have HT : Hid (l.take (k + 1) = l.take k ++ [x]) := hide (by rw [List.take_succ_eq_append_getElem hlt, hxx])
      have HTL : Hid ((leaveN (l.take k) n).length ≤ 1000000) := hide (by
        have := List.length_filter_le (· != n) (l.take k)
        rw [List.length_take] at this
        unfold leaveN
        omega)
      rw [hxx] at hc0 hfx
      have hcell : wr.cell? ⟨g, o + k, none⟩ = some (.int .i64 x) := (HR.out.2.cell (lt_of_cell hc0)).trans hc0
      have HFX := hide hfx
      clear hx hxx hc hc0 hfx
      by_cases e : x = n
      · have HX : Hid (leaveN (l.take (k + 1)) n = leaveN (l.take k) n) := hide (by rw [HT.out]; unfold leaveN; rw [List.filter_append]; simp [e])
        subst e
        clear HT
        go_wp2
        go_roundw
        case rel => exact ⟨k + 1, by omega, by go_num, ⟨_, _, _, rfl⟩, hide ⟨by rw [HX.out]; exact HR.out.1, HR.out.2⟩⟩
        case measure => simp [intOf]; omega
      · have e1 : (x != n) = true := by simpa using e
        have HX : Hid (leaveN (l.take (k + 1)) n = leaveN (l.take k) n ++ [x]) := hide (by rw [HT.out]; unfold leaveN; rw [List.filter_append]; simp [e])
        clear HT e
        go_wp2_with (at_builtin; go_loud (refine wpList_pushN (w := wr) (v := .slice p3 n3 c3) (l := leaveN (l.take k) n) (B := w.heap.size) (H := wr.heap.size) rfl (.tmp 17) (.tmp 19) rfl rfl x HFX.out rfl rfl rfl HR.out.1 HR.out.2.size HTL.out ?_); intro v5 w5 ho5 hb5 hg5)
        obtain ⟨p5, n5, c5, rfl⟩ := ho5.ns.sl
        have HO5 := hide ho5
        have HB5 := hide (HR.out.2.trans hb5)
        clear ho5 hb5 hg5
        go_wp2
        go_roundw
        case rel => exact ⟨k + 1, by omega, by go_num, ⟨_, _, _, rfl⟩, hide ⟨by rw [HX.out]; exact HO5.out, HB5.out⟩⟩
        case measure => simp [intOf]; omega
    · have HT : Hid (l.take k = l) := hide (List.take_of_length_le (by omega))
      go_wp2
      go_ret
      have h := HR.out
      rw [HT.out] at h
      exact ⟨_, rfl, h.1, h.2⟩

set_option maxRecDepth 100000 in
set_option maxHeartbeats 1000000 in
theorem refLeave_any {w : World} {v : Value} {l : List Int} {n : Int} (hv : Ns w v l) (h9 : l.length ≤ 1000) (hn : fits n) : Calls Try.prog 26 #[v, .int .i64 n] w (OwnPost w (leaveN l n)) := by
  obtain ⟨p, m, c, rfl⟩ := hv.sl
  obtain ⟨rfl, _, _⟩ := hv.len
  have HV := hide hv
  have HF := hide hv.fits
  have HC := hide (fun h0 : 0 < l.length => hv.at_ h0)
  clear hv hn
  go_enter Try.func26, Try.ntmps26
  go_wp2
  go_loopw [5, 10] (fun v i wr => ∃ k : Nat, k ≤ l.length ∧ i = .int .i64 k ∧ (∃ p n c, v = .slice p n c) ∧ Hid (OwnN w.heap.size wr v (leaveN (l.take k) n) ∧ Below w.heap.size w wr)) (fun _ i _ => l.length - (intOf i).toNat)
  case atStart => exact ⟨0, by omega, rfl, ⟨_, _, _, rfl⟩, hide ⟨OwnN.nil _ _, Below.refl _ _⟩⟩
  case round =>
    obtain ⟨k, hk, rfl, ⟨p3, n3, c3, rfl⟩, HR⟩ := hrel
    by_cases hlt : k < l.length
    · obtain ⟨g, o, rfl, hc⟩ := HC.out (by omega)
      have hx := List.getElem?_eq_getElem hlt
      have hc0 := hc k _ hx
      obtain ⟨x, hxx⟩ : ∃ x, l[k] = x := ⟨_, rfl⟩
      have hfx := HF.out _ (List.getElem_mem hlt)
      have HT : Hid (l.take (k + 1) = l.take k ++ [x]) := hide (by rw [List.take_succ_eq_append_getElem hlt, hxx])
      have HTL : Hid ((leaveN (l.take k) n).length ≤ 1000000) := hide (by
        have := List.length_filter_le (· != n) (l.take k)
        rw [List.length_take] at this
        unfold leaveN
        omega)
      rw [hxx] at hc0 hfx
      have hcell : wr.cell? ⟨g, o + k, none⟩ = some (.int .i64 x) := (HR.out.2.cell (lt_of_cell hc0)).trans hc0
      have HFX := hide hfx
      clear hx hxx hc hc0 hfx
      by_cases e : x = n
      · have HX : Hid (leaveN (l.take (k + 1)) n = leaveN (l.take k) n) := hide (by rw [HT.out]; unfold leaveN; rw [List.filter_append]; simp [e])
        subst e
        clear HT
        go_wp2
        go_roundw
        case rel => exact ⟨k + 1, by omega, by go_num, ⟨_, _, _, rfl⟩, hide ⟨by rw [HX.out]; exact HR.out.1, HR.out.2⟩⟩
        case measure => simp [intOf]; omega
      · have e1 : (x != n) = true := by simpa using e
        have HX : Hid (leaveN (l.take (k + 1)) n = leaveN (l.take k) n ++ [x]) := hide (by rw [HT.out]; unfold leaveN; rw [List.filter_append]; simp [e])
        clear HT e
        go_wp2_with (at_builtin; go_loud (refine wpList_pushN (w := wr) (v := .slice p3 n3 c3) (l := leaveN (l.take k) n) (B := w.heap.size) (H := wr.heap.size) rfl (.tmp 17) (.tmp 19) rfl rfl x HFX.out rfl rfl rfl HR.out.1 HR.out.2.size HTL.out ?_); intro v5 w5 ho5 hb5 hg5)
        obtain ⟨p5, n5, c5, rfl⟩ := ho5.ns.sl
        have HO5 := hide ho5
        have HB5 := hide (HR.out.2.trans hb5)
        clear ho5 hb5 hg5
        go_wp2
        go_roundw
        case rel => exact ⟨k + 1, by omega, by go_num, ⟨_, _, _, rfl⟩, hide ⟨by rw [HX.out]; exact HO5.out, HB5.out⟩⟩
        case measure => simp [intOf]; omega
    · have HT : Hid (l.take k = l) := hide (List.take_of_length_le (by omega))
      go_wp2
      go_ret
      have h := HR.out
      rw [HT.out] at h
      exact ⟨_, rfl, h.1, h.2⟩


set_option maxRecDepth 100000 in
set_option maxHeartbeats 1000000 in
theorem join_any {w : World} {v : Value} {l : List Int} {n : Int} (hv : Ns w v l) (h9 : l.length ≤ 1000) (hn : fits n) : Calls Try.prog 23 #[v, .int .i64 n] w (OwnPost w (joinN l n)) := by
  have HC := hide (cloneN_any hv (by omega))
  have HV : Hid (∀ w', Below w.heap.size w w' → Calls Try.prog 16 #[v, .int .i64 n] w' (Vts w' l n)) := hide fun w' hb => votes_any (hv.below hb)
  obtain ⟨p, m, c, rfl⟩ := hv.sl
  unfold Vts at HV
  have HN := hide hn
  clear hv hn
  obtain ⟨q, hq⟩ : ∃ q, hasN l n = q := ⟨_, rfl⟩
  have HJ : Hid (joinN l n = if q then l else sortN (l ++ [n])) := hide (by unfold joinN; rw [hq])
  rw [hq] at HV
  clear hq
  go_enter Try.func23, Try.ntmps23
  go_wp2_with fail
  refine HC.out.mono ?_
  rintro e w1 ⟨v1, rfl, ho1, hb1⟩
  obtain ⟨p1, n1, c1, rfl⟩ := ho1.ns.sl
  have HO1 := hide ho1
  have HB1 := hide hb1
  clear ho1 hb1
  go_wp2_with fail
  refine (HV.out _ HB1.out).mono ?_
  rintro e w2 ⟨rfl, hw⟩
  subst w2
  cases q
  · simp only [Bool.false_eq_true, if_false] at HJ
    go_wp2_with (at_builtin; go_loud (refine wpList_pushN (w := w1) (v := .slice p1 n1 c1) (l := l) (B := w.heap.size) (H := w1.heap.size) rfl (.tmp 12) (.tmp 14) rfl rfl n HN.out rfl rfl rfl HO1.out HB1.out.size (by omega) ?_); intro v2 w2 ho2 hb2 hg2)
    obtain ⟨p2, n2, c2, rfl⟩ := ho2.ns.sl
    have HS := hide (sortN_any ho2 (by rw [List.length_append]; simp; omega))
    have HB2 := hide (HB1.out.trans hb2)
    have HL2 := hide ho2.lt
    clear ho2 hb2 hg2
    go_wp2_with fail
    refine HS.out.mono ?_
    rintro e w3 ⟨rfl, ho3, hg3⟩
    have HO3 := hide ho3
    have HB3 : Hid (Below w.heap.size w w3) := hide (HB2.out.grown hg3 HB2.out.size fun k hk => (HL2.out k hk).1)
    clear ho3 hg3
    go_wp2
    go_ret
    exact ⟨_, rfl, by rw [HJ.out]; exact HO3.out, HB3.out⟩
  · simp only [if_true] at HJ
    go_wp2
    go_ret
    exact ⟨_, rfl, by rw [HJ.out]; exact HO1.out, HB1.out⟩
end Go.Proofs.Ytmiphealijbndaa
