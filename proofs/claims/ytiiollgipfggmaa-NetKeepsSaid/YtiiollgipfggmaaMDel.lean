/- slices.Delete of one message; slices.Clone of messages. -/
import Derived.Test.YtiiollgipfggmaaMSl
namespace Go.Proofs.Ytiiollgipfggmaa
set_option linter.unusedVariables false
set_option linter.unusedSimpArgs false
open Go.RowKit

theorem step_append_runM {w : World} {ops : Array Oper} {o : Oper} {a : Act} {K : Act → World → Prop} {Q : Exit → Act → World → Prop} {E : Prop} (hgd : o.guard = none) (s x : Operand)
    (ho : o.op = .call { callee := .builtin .append, args := #[s, x], argTypes := #[28, 28] }) (hty : o.type = 28) {v u v' : Value} {w' : World}
    (hs : a.eval s = v) (hx : a.eval x = u) (hr : (Builtin.append_ #[28, 28] 28 #[v, u]).run Try.prog w = .ok v' w')
    (h : K (a.put o.dst v') w') : if Region.wanted o (yielded ops a.tmps) = true then Oper.wp Try.prog o a w K Q else E := by
  have hw : Region.wanted o (yielded ops a.tmps) = true := by simp [Region.wanted, hgd]
  rw [if_pos hw]
  exact Lib.wp_append_run_sl _ s x 28 ho v u hs hx (by rw [hty]; exact hr) h

set_option maxRecDepth 200000 in
set_option maxHeartbeats 4000000 in
theorem deleteM_any {B : Nat} {w : World} {g cap : Nat} {E : List Mc} (h : OwnM B w (.slice (some ⟨g, 0, none⟩) E.length cap) E) {k : Nat} (hk : k < E.length) (hcm : E.length ≤ cap ∧ cap ≤ maxLen) :
    Calls Try.prog 36 #[.slice (some ⟨g, 0, none⟩) E.length cap, .int .i64 k, .int .i64 ((k : Int) + 1)] w fun e w' => e = .returned (.slice (some ⟨g, 0, none⟩) (E.length - 1) cap) ∧ OwnM B w' (.slice (some ⟨g, 0, none⟩) (E.length - 1) cap) (E.eraseIdx k) ∧ w.grownBy w' (some g) := by
  have h' : OwnM B w.drew (.slice (some ⟨g, 0, none⟩) E.length cap) E := World.ownsRow.drew h
  obtain ⟨w1, hap, hcs, hfs, hg1, hz1, hd⟩ := h'.del hk
  have HZ1 : Hid (E.length = k + 1 → w1 = w.drew) := hide hz1
  obtain ⟨hc1, hc2⟩ := hcm
  obtain ⟨n, hn⟩ : ∃ n, E.length = n := ⟨_, rfl⟩
  rw [hn] at hap hd hk hc1 HZ1 ⊢
  have HAP := hide hap
  have HCL := hide (fun ty c => run_clearM w1 ty g ((n - 1) * 13) c (fun j hj => hcs _ (by omega)) (fun j hj => hfs _ (by omega)))
  obtain ⟨w2, hw2⟩ : ∃ w2, w1.setCells g ((n - 1) * 13) [.int .i64 0, .int .i64 0, .int .i64 0, .int .i64 0, .int .i64 0, .int .i64 0, .int .i64 0, .int .i64 0, .bool false, .bool false, .slice none 0 0, .slice none 0 0, .slice none 0 0] = w2 := ⟨_, rfl⟩
  obtain ⟨hd1, hd2⟩ := hd w2 hw2.symm
  rw [hw2] at HCL
  have HD := hide (And.intro hd1 (show w.grownBy w2 (some g) from ⟨hd2.os, hd2.tape, hd2.output, hd2.size, hd2.block⟩))
  obtain ⟨n1, hn1⟩ : ∃ m, n - 1 = m := ⟨_, rfl⟩
  have hnn : n = n1 + 1 := by omega
  rw [hn1] at HAP HCL HD ⊢
  have hm : (cap : Int) ≤ 9223372036854775807 := by unfold maxLen at hc2; omega
  have hkn : ((k : Int) == (k : Int) + 1) = false := by simp; omega
  have q0 : (0 : Int) ≤ (k : Int) + 1 := by omega
  have HN := hide hnn
  have q1 : (k : Int) + 1 ≤ (n : Int) := by omega
  have q2 : (n : Int) ≤ (cap : Int) := by omega
  have q3 : (n1 : Int) ≤ (n : Int) := by omega
  have q4 : k ≤ cap := by omega
  have q5 : k + 1 ≤ n := by omega
  have q6 : n1 ≤ n := by omega
  have q7 : n ≤ cap := hc1
  have q8 : n1 ≤ cap := by omega
  clear h h' hap hcs hfs hg1 hz1 hd hd1 hd2 hw2 hn1 hnn hn hc1 hc2
  by_cases hck : cap = k + 1
  · obtain rfl : n = k + 1 := by omega
    obtain rfl : n1 = k := by have := HN.out; omega
    subst hck
    have r1 : (n1 : Int) ≤ (n1 : Int) + 1 := by omega
    have r2 : n1 ≤ n1 + 1 := by omega
    have r3 : n1 + 1 - n1 = 1 := by omega
    have r4 : (n1 : Int) + 1 ≤ 9223372036854775807 := by omega
    obtain rfl : w1 = w.drew := HZ1.out rfl
    clear q1 q2 q3 q4 q5 q6 q7 q8 HN
    have HAPA := hide (fun (a : Addr) c (ha : a = ⟨g, (n1 + 1) * 13, none⟩ ∨ n1 + 1 = n1 + 1) => HAP.out a c ha)
    go_enter Try.func36, Try.ntmps36
    go_wp2_with fail
    go_region_law (refine step_append_runM (by rfl) _ _ (by rfl) (by rfl) (by rfl) (by rfl) (HAPA.out _ _ (by first | exact Or.inl rfl | exact Or.inr rfl)) ?_)
    have hcl := fun c => HCL.out 0 c
    go_wp2
    all_goals
      go_ret
      exact ⟨rfl, HD.out⟩
  · have h31 : n - n1 = 1 := by have := HN.out; omega
    have h32 : ¬ cap = n1 := by have := HN.out; omega
    have HAPA := hide (fun (a : Addr) c (ha : a = ⟨g, (k + 1) * 13, none⟩ ∨ n = k + 1) => HAP.out a c ha)
    go_enter Try.func36, Try.ntmps36
    go_wp2_with fail
    go_region_law (refine step_append_runM (by rfl) _ _ (by rfl) (by rfl) (by rfl) (by rfl) (HAPA.out _ _ (by first | exact Or.inl rfl | exact Or.inr rfl)) ?_)
    have hcl := fun c => HCL.out 0 c
    go_wp2
    all_goals
      go_ret
      exact ⟨rfl, HD.out⟩
set_option maxRecDepth 200000 in
set_option maxHeartbeats 4000000 in
theorem cloneM_any {w : World} {v : Value} {E : List Mc} (h : Mcs w v E) (hl : E.length ≤ 1000000) : Calls Try.prog 37 #[v] w fun e w' => ∃ p n c, e = .returned (.slice p n c) ∧ OwnM w.heap.size w' (.slice p n c) E ∧ Below w.heap.size w w' := by
  have qsp : ∀ (w : World) (a : Option Addr) (n c n' c' : Nat), (binOp .eql 28 (.slice a n c) (.slice none n' c')).run Try.prog w = .ok (.bool a.isNone) w := fun w a n c n' c' => Lib.run_eql_slice_nil w _ _ a n c n' c' Try.underlying28
  obtain ⟨p, n, c, rfl⟩ := h.sl
  cases p with
  | none =>
    have hn : E = [] := by
      obtain ⟨p', c', e, hl, hm, hn, hc⟩ := h
      injection e with e1 e2 e3
      exact List.eq_nil_of_length_eq_zero (by have := hn e1.symm; omega)
    subst hn
    have HB := hide (Below.refl w.heap.size w)
    clear h hl
    go_enter Try.func37, Try.ntmps37
    go_wp2
    go_ret
    exact ⟨_, _, _, rfl, OwnM.nil _ _, HB.out⟩
  | some a =>
    have bE := (Below.refl w.heap.size w).alloc (Nat.le_refl _) (.cells #[] 26)
    have oE : OwnM w.heap.size (w.alloc (.cells #[] 26)) (.slice (some ⟨w.heap.size, 0, none⟩) 0 0) [] := World.ownsRow_lit w #[] 0 (Nat.le_refl _) (by decide) rfl
    have HEE := hide (h.below bE)
    have HOE := hide oE
    have HBE := hide bE
    have HEL := hide hl
    clear bE oE h hl
    go_enter Try.func37, Try.ntmps37
    go_wp2_with (at_builtin; go_loud (refine wpList_pushesM (v := .slice (some ⟨w.heap.size, 0, none⟩) 0 0) (u := .slice (some a) n c) (l := []) (m := E) (B := w.heap.size) rfl (.tmp 5) (.tmp 6) rfl rfl rfl rfl HOE.out HEE.out HBE.out.size (by have := HEL.out; simp; omega) ?_); intro v4 w4 ho4 hb4 hg4; rw [List.nil_append] at ho4; have HO4 := hide ho4; have HB4 := hide (HBE.out.trans hb4); obtain ⟨p4, n4, c4, rfl⟩ := ho4.mcs.sl; clear ho4 hb4 hg4)
    go_ret
    exact ⟨_, _, _, rfl, HO4.out, HB4.out⟩
end Go.Proofs.Ytiiollgipfggmaa
