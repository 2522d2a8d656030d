/- A vault's disk that none made: files, others; no intake. -/
import Derived.Test.YtgbdjcekpdfpjaaGreatDoorVd
import Derived.Test.YtgbdjcekpdfpjaaGreatDoorDNo
namespace Go.Proofs.YtgbdjcekpdfpjaaGreatDoor
set_option linter.unusedVariables false
set_option linter.unusedSimpArgs false
open Go.RowKit

theorem vfiles_no {w : World} {b : Nat} {dv : Value} (h : w.cell? ⟨b, 4, none⟩ = some dv) (hd : No w dv) :
    Calls Tryz.prog 88 #[.pointer (some ⟨b, 0, none⟩)] w fun e w' => e = .returned (.slice none 0 0) ∧ w' = w := by
  have HL := hide (list_no hd)
  clear hd
  go_enter Tryz.func88, Tryz.ntmps88
  go_wp2_with (first
    | (go_at_call 68; refine HL.out.mono ?_; rintro e w1 ⟨rfl, rfl⟩)
    | (go_at_call 109; refine (delete_nil _ _).mono ?_; rintro e w2 ⟨rfl, rfl⟩))
  go_ret
  exact ⟨rfl, rfl⟩
set_option maxRecDepth 100000 in
theorem vothers_no {w : World} {b : Nat} {dv : Value} (h : w.cell? ⟨b, 4, none⟩ = some dv) (hd : No w dv) :
    Calls Tryz.prog 45 #[.pointer (some ⟨b, 0, none⟩)] w fun e w' => e = .returned (.int .i64 0) ∧ w' = w := by
  have HF := hide (vfiles_no h hd)
  clear h hd
  go_enter Tryz.func45, Tryz.ntmps45
  go_wp2_with (go_at_call 88; refine HF.out.mono ?_; rintro e w1 ⟨rfl, rfl⟩)
  go_loopw [9] (fun v wr => v = .int .i64 0 ∧ wr = w1) (fun _ _ => 0)
  case atStart => exact ⟨by first | trivial | rfl, by first | trivial | rfl⟩
  case round =>
    obtain ⟨rfl, hw⟩ := hrel
    have hw' := hw.symm
    subst hw'
    clear hw
    go_wp2
    go_ret
    exact ⟨rfl, rfl⟩

attribute [local go_sem] Oper.semAt_some
set_option maxRecDepth 100000 in
set_option maxHeartbeats 2000000 in
theorem vfind_no {w : World} {b : Nat} {dv : Value} (h : w.cell? ⟨b, 4, none⟩ = some dv) (hd : No w dv) :
    Calls Tryz.prog 43 #[.pointer (some ⟨b, 0, none⟩)] w fun e w' => (∃ v, e = .returned v) ∧ Below w.heap.size w w' := by
  have HFI := hide (fun (W : World) (hW : Below w.heap.size w W) => vfiles_no ((hW.cell (lt_of_cell h)).trans h) (hd.chg (Chg.of_below hW _)))
  clear h hd
  refine (callsIn_wide (n := 3)).1 (callsIn_of_wp_marks Tryz.func43 rfl trivial ?_)
  simp only [Tryz.ntmps43, List.size_toArray, List.length_cons, List.length_nil, Nat.reduceAdd, Nat.reduceSub, Array.replicate_succ, Array.replicate_zero, List.push_toArray, List.append_toArray, List.nil_append, List.cons_append]
  have hb0 := balloc (Below.refl w.heap.size w) (.cells #[.pointer (some ⟨b, 0, none⟩)] 33)
  have HB0 := hide hb0
  clear hb0
  gi_wp2_with (first
    | (refine ⟨trivial, ?_⟩; gi_at_call 88; refine CallsIn.mono (callsIn_wide.2 (HFI.out _ HB0.out)) ?_; rintro e w1 ⟨rfl, hw1⟩; have HB1 : Hid (Below w.heap.size w w1) := hide (hw1 ▸ HB0.out); have hv1 : w1.cell? ⟨w.heap.size, 0, none⟩ = some (.pointer (some ⟨b, 0, none⟩)) := (by rw [hw1]; simp); have HV1 := hide hv1; clear hv1 hw1)
    | (refine ⟨trivial, ?_⟩; gi_at_call 87; refine CallsIn.mono (callsIn_wide.2 backward_any) ?_; rintro e w2 ⟨rfl, hw2⟩; have HW2 := hide hw2; clear hw2))
  have hs2 : w2.heap.size = w1.heap.size + 1 := by rw [HW2.out]; simp
  have hbx : w2.cell? ⟨w1.heap.size, 0, none⟩ = some (.slice none 0 0) := by rw [HW2.out]; simp
  have hb12 : Below w1.heap.size w1 w2 := by rw [HW2.out]; exact balloc (Below.refl _ _) _
  have hb2 : Below w.heap.size w w2 := HB1.out.trans (hb12.mono HB1.out.size)
  have HB2 := hide hb2
  clear hb12 hb2
  refine range_any (gf := 108) (lb := #[.pointer (some ⟨w1.heap.size, 0, none⟩)]) rfl (enters_of Tryz.func108 (by kernel_rfl) rfl) (encs := fun x : Int × List UInt8 => #[.int .i64 x.1, .string ⟨x.2.toArray⟩]) (Y := bkY []) (Dn := fun pre => pre.length = ([] : List (List UInt8)).length) (Tk := fun _ _ => False) (fun _ => rfl) (fun _ => False) (fun k hk => hk.elim)
    (fun W5 hc5 hs5 => ?hit)
    (fun pre x N N' W o hlp hNN hy => hy)
    (fun pre x N W k hy hk => hk.elim)
    (fun _ M W => (∀ k, ¬ M k) ∧ Below w2.heap.size w2 W) (fun _ _ _ _ => False)
    ⟨?i1, ?i2⟩ (fun c => ⟨fun _ _ _ h => h.elim, fun _ _ _ _ h => h.elim⟩)
    ?h0
    (fun x => { tmps := #[.pointer (some ⟨b, 0, none⟩), .pointer (some ⟨w.heap.size, 0, none⟩), undef, .string ⟨x.2.toArray⟩, undef, undef, undef, undef, .pointer (some ⟨b, 0, none⟩), .slice none 0 0, .func (.func 108) #[] #[.pointer (some ⟨w1.heap.size, 0, none⟩)], .int .i64 x.1, .string ⟨x.2.toArray⟩, undef, undef, undef, undef, undef, undef, undef, undef, undef, undef, undef, undef, undef, undef, undef, undef, undef, undef, undef, undef], defers := [] })
    ?assign ?body ?done (fun c pre M W h => h.elim)
  case hit => exact backward_gives (g := w1.heap.size) (o := 0) (ss := []) (hc5.cell hbx (fun h => h)) (fun h => absurd h (by simp)) (by simp) (fun i s hi => by simp at hi) (fun h => by simp at h; omega) (fun h => by simp at h; omega) (fun h => absurd h (by simp)) (by simp [maxLen])
  case i1 =>
    rintro pre M W ⟨h1, h2⟩ k hk
    exact absurd hk (h1 k)
  case i2 =>
    rintro pre M W W' ⟨h1, h2⟩ hc
    exact ⟨h1, Chg.to_below h2 hc (fun k h => by omega)⟩
  case h0 => exact ⟨fun k h => h, Below.refl _ _⟩
  case assign =>
    intro x W K hK
    gi_wp2
    exact hK
  case body =>
    rintro pre ⟨x1, x2⟩ M W hI ⟨k, hpl, hk, hx1, hx2⟩ hsW
    simp at hk
  case done =>
    rintro pre M W hd ⟨hM, hbl2⟩ hnM hsW hdf
    have hc : Chg W (W.putObj w2.heap.size (.deferred none)) (fun k => k = w2.heap.size) := Chg.putObj _
    have hb2 := Chg.to_below (HB2.out.trans (hbl2.mono HB2.out.size)) hc (fun k e => by have := HB2.out.size; omega)
    have HV := hide hb2
    clear hb2 hc
    gi_wp2
    refine ⟨by simp, .inl ⟨_, _, rfl, run_takeDeferred hdf, ?_⟩⟩
    exact ⟨_, results_none rfl _ _ _, ⟨_, rfl⟩, HV.out⟩

def noI (w3 : World) : Nat → World → Prop
  | 0, W => W = w3
  | 1, W => W = w3
  | _, _ => False
def noF (w3 : World) (m : Int) (W : World) : Prop := m = 6 ∧ Chg w3 W (fun _ => False)
set_option maxRecDepth 100000 in
set_option maxHeartbeats 2000000 in
theorem vopen_no {w : World} {p : Option Addr} (hd : No w (.pointer p)) :
    Calls Tryz.prog 15 #[.pointer p] w fun e w' => e = .returned (.tuple #[.pointer none, .int .i64 6]) ∧ Below w.heap.size w w' := by
  obtain ⟨W1, hW1⟩ : ∃ W1, w.alloc (.cells #[.int .i64 0, .int .i64 0, .slice none 0 0, .slice none 0 0, .pointer p] 88) = W1 := ⟨_, rfl⟩
  have hb1 : Below w.heap.size w W1 := by rw [← hW1]; exact balloc (Below.refl _ _) _
  have hr1 : W1.heap[w.heap.size]? = some (.cells #[.int .i64 0, .int .i64 0, .slice none 0 0, .slice none 0 0, .pointer p] 88 (0, 0)) := by rw [← hW1]; exact Array.getElem?_push_size
  have c4 : W1.cell? ⟨w.heap.size, 4, none⟩ = some (.pointer p) := by rw [cell_of_row W1 _ 4 _ _ (0, 0) hr1]; rfl
  have hd1 := hd.chg (Chg.of_below hb1 _)
  have HFD := hide (vfind_no c4 hd1)
  have HB1 := hide hb1
  have HC4 := hide c4
  have HD1 := hide hd1
  clear hd hb1 hr1 c4 hd1
  go_enter Tryz.func15, Tryz.ntmps15
  have hb0 : ∃ b, w.heap.size = b := ⟨_, rfl⟩
  go_wp2_with (go_at_call 43; refine HFD.out.mono ?_; rintro e w2 ⟨⟨v, rfl⟩, hbw2⟩; have HBW2 := hide hbw2; clear hbw2 hW1 HFD)
  obtain ⟨b, hb⟩ := hb0
  obtain ⟨W3, hW3⟩ : ∃ W3, w2.alloc (.cells #[StepV (45, #[.pointer (some ⟨b, 0, none⟩)]), StepV (34, #[.pointer p])] 54) = W3 := ⟨_, rfl⟩
  rw [hb] at HC4 ⊢
  have hr3 : W3.heap[w2.heap.size]? = some (.cells #[StepV (45, #[.pointer (some ⟨b, 0, none⟩)]), StepV (34, #[.pointer p])] 54 (0, 0)) := by rw [← hW3]; exact Array.getElem?_push_size
  have hb3 : Below w2.heap.size w2 W3 := by rw [← hW3]; exact balloc (Below.refl _ _) _
  have hb13 : Below W1.heap.size W1 W3 := HBW2.out.trans (hb3.mono HBW2.out.size)
  have h43 : W3.cell? ⟨b, 4, none⟩ = some (.pointer p) := (hb13.cell (lt_of_cell HC4.out)).trans HC4.out
  have hd3 := HD1.out.chg (Chg.of_below hb13 _)
  have hDO := turnDo_any (w := W3) (g := w2.heap.size) [(45, #[.pointer (some ⟨b, 0, none⟩)]), (34, #[.pointer p])] (by simp) (noI W3) (noF W3) rfl
    (by
      intro x hx
      rcases List.mem_cons.1 hx with rfl | hx
      · exact enters_of Tryz.func45 (by kernel_rfl) rfl
      · rw [List.mem_singleton.1 hx]; exact enters_of Tryz.func34 (by kernel_rfl) rfl)
    (by
      intro k x W hk hI
      match k, hk, hI with
      | 0, hk, hI => rw [show W = W3 from hI, cell_of_row W3 w2.heap.size 0 _ _ (0, 0) hr3]; simp at hk; rw [← hk]; rfl
      | 1, hk, hI => rw [show W = W3 from hI, cell_of_row W3 w2.heap.size 1 _ _ (0, 0) hr3]; simp at hk; rw [← hk]; rfl
      | k + 2, hk, hI => simp at hk)
    (by
      intro k x W hk hI
      match k, hk, hI with
      | 0, hk, hI =>
        simp at hk
        subst hk
        rw [show W = W3 from hI]
        refine (vothers_no h43 hd3).mono ?_
        rintro e w' ⟨rfl, rfl⟩
        exact ⟨0, rfl, fun h => rfl, fun h => absurd rfl h⟩
      | 1, hk, hI =>
        simp at hk
        subst hk
        rw [show W = W3 from hI]
        refine (sync_no hd3).mono ?_
        rintro e w' ⟨rfl, hc⟩
        exact ⟨6, rfl, fun h => absurd h (by omega), fun h => ⟨rfl, hc⟩⟩
      | k + 2, hk, hI => simp at hk)
  have HDO := hide hDO
  have HW3 : Hid (w2.alloc (.cells #[.func (.func 45) #[.pointer (some ⟨b, 0, none⟩)] #[], .func (.func 34) #[.pointer p] #[]] 54) = W3) := hide hW3
  have HB13 := hide hb13
  have HB := hide hb
  clear hDO hr3 hb3 hb13 h43 hd3 hW3 hb
  go_wp2_with (go_at_call 44; rw [HW3.out]; refine HDO.out.mono ?_; rintro e w4 ⟨m, rfl, hm0, hm1⟩; by_cases hm : m = 0; (exact (hm0 hm).elim); have HM1 := hide (hm1 hm); have em : (m != 0) = true := (by simpa using hm); clear hm hm0 hm1)
  obtain ⟨rfl, hc⟩ := HM1.out
  refine bodyPost_ret (v := .tuple #[.pointer none, .int .i64 6]) (by simp [results, Tryz.results15, go_sem]) rfl ?_
  exact ⟨rfl, HB1.out.trans ((Chg.to_below HB13.out hc fun k h => h.elim).mono HB1.out.size)⟩
end Go.Proofs.YtgbdjcekpdfpjaaGreatDoor
