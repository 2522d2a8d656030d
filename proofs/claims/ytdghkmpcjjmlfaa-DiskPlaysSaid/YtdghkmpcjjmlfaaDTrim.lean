/- Trim, move, drop. -/
import Derived.Test.YtdghkmpcjjmlfaaDWrite
namespace Go.Proofs.Ytdghkmpcjjmlfaa
open Go.RowKit

def Dk.trim (st : Dk) (k : List UInt8) (n : Int) : Nat × Dk :=
  if rdy st.down k ≠ 0 then (rdy st.down k, st) else
  match get st.seen k with
  | none => (21, st)
  | some o => if n < 0 ∨ (o.length : Int) < n then (1, st) else st.perf (.trim k n.toNat)
def Dk.move (st : Dk) (k t : List UInt8) : Nat × Dk :=
  if rdy st.down k ≠ 0 then (rdy st.down k, st) else
  match get st.seen k with
  | none => (21, st)
  | some _ => if okN t = false then (20, st) else st.perf (.move k t)
def Dk.drop (st : Dk) (k : List UInt8) : Nat × Dk :=
  if rdy st.down k ≠ 0 then (rdy st.down k, st) else
  match get st.seen k with
  | none => (21, st)
  | some _ => st.perf (.drop k)

theorem rdy_down {d : Bool} {k : List UInt8} (h : rdy d k = 0) : d = false := by
  unfold rdy at h
  by_cases hd : d = true
  · rw [hd] at h; simp at h
  · simpa using hd

set_option maxRecDepth 200000 in
set_option maxHeartbeats 4000000 in
theorem drop_call {w : World} {S C : Nat → Prop} {g : Nat} {st : Dk} (h : DiskIs w S C g st) {s : ByteArray} (hs : s.size ≤ maxLen) (hmany : st.acts.length < 1000000)
    (hk : st.keep ≤ 9223372036854775807) (hk' : -9223372036854775808 ≤ st.keep) (ht : st.tear ≤ 9223372036854775807) (ht' : -9223372036854775808 ≤ st.tear) :
    Calls Try.prog 28 #[.pointer (some ⟨g, 0, none⟩), .string s] w fun e w' => e = .returned (.int .i64 ((st.drop s.data.toList).1 : Nat)) ∧ DPost w S C g (st.drop s.data.toList).2 w' := by
  obtain ⟨W, hW⟩ : ∃ W, W = w.alloc (.cells #[.string s] 9) := ⟨_, rfl⟩
  have hcW : Chg w W (fun _ => False) := by rw [hW]; exact Chg.of_below (balloc (Below.refl _ _) _) _
  have hsW : W.heap.size = w.heap.size + 1 := by rw [hW, size_alloc']
  have hD := h.chg hcW (fun _ _ h => h) (fun _ _ h => h)
  obtain ⟨A, L, bs, bl, a, xs, Vs, Vl, Ds, Dl, hh, hA, hL, hacts, sA, sL, sa⟩ := hD.parts
  have c2 := hh.c2
  have c3 := hh.c3
  have c4 := hh.c4
  have cs : W.cell? ⟨w.heap.size, 0, none⟩ = some (.string s) := by rw [hW]; simp
  have hrdy := ready_any c2 c3 s
  have HRDY := hide hrdy
  have HSAME := hide (fun V (hc : Chg W V (fun _ => False)) => DPost.same h (hcW.trans hc fun _ h => .inl h))
  clear hrdy c3
  by_cases hr : rdy st.down s.data.toList = 0
  · have hdn := rdy_down hr
    rcases hg : get st.seen s.data.toList with _ | o
    · have hlook := fun q => ((hA.look hs).2 hg q).1
      have e1 : st.drop s.data.toList = (21, st) := by
        unfold Dk.drop
        rw [if_neg (by omega), hg]
      have E1 := hide e1
      clear e1
      go_enter Try.func28, Try.ntmps28
      go_wp2_with fail
      rw [← hW]
      refine HRDY.out.mono ?_
      rintro e W1 ⟨rfl, rfl⟩
      rw [hr]
      clear hW c2
      go_wp2_with fail
      go_quiet (fail)
      go_wp2
      go_ret
      rw [E1.out]
      exact ⟨rfl, HSAME.out _ (by first | exact (Chg.refl _ _).drewN _ | exact ((Chg.refl _ _).drewN _).drewN _)⟩
    · have hlook := fun q => ((hA.look hs).1 o hg q).1
      have hrow := (hA.vals _ _ hg).2
      obtain ⟨q0, n0, c0, hv⟩ : ∃ q n c, Vs s.data.toList = .slice q n c := (by_row hrow).sl
      rw [hv] at hlook
      have e1 : st.drop s.data.toList = st.perf (.drop s.data.toList) := by
        unfold Dk.drop
        rw [if_neg (by omega), hg]
      have E1 := hide e1
      clear e1 hrow
      go_enter Try.func28, Try.ntmps28
      go_wp2_with fail
      rw [← hW]
      refine HRDY.out.mono ?_
      rintro e W1 ⟨rfl, rfl⟩
      rw [hr]
      have HW := hide hW
      clear hW c2
      go_wp2_with fail
      go_quiet (fail)
      go_wp2_with fail
      generalize hX : World.drewN _ _ = X
      have hcX : Chg W X (fun _ => False) := hX ▸ (by first | exact (Chg.refl W _).drewN _ | exact ((Chg.refl W _).drewN _).drewN _)
      have csX := hcX.cell cs (fun h => h)
      have hsX : X.heap.size = w.heap.size + 1 := by rw [← hX]; exact hsW
      obtain ⟨C2, hD2, hd2, hback⟩ := h.boxed (hcW.trans hcX fun _ h => .inl h) (f := 59) (cs := #[.pointer (some ⟨w.heap.size, 0, none⟩)]) (.drop csX hs ⟨Nat.le_refl _, by omega⟩)
      have hper := perform_any hD2 hd2 trivial (by
        show (del st.seen _).length ≤ 4096
        have h1 := length_del (F := st.seen) (runs_rises h.ok.rises st.acts) s.data.toList
        have h2 := seen_few h.ok
        omega) (by show st.used + 0 ≤ st.room; have := h.ok.room; omega) hdn hmany hk hk' ht ht'
      refine hper.mono ?_
      rintro e w4 ⟨rfl, hp⟩
      have HP := hide (hback _ _ hp)
      clear hper hp hD2 hd2 hback
      go_wp2
      go_ret
      rw [E1.out]
      exact ⟨rfl, HP.out⟩
  · go_enter Try.func28, Try.ntmps28
    go_wp2_with fail
    rw [← hW]
    have e1 : st.drop s.data.toList = (rdy st.down s.data.toList, st) := by unfold Dk.drop; rw [if_pos hr]
    have E1 := hide e1
    have g0 : (((rdy st.down s.data.toList : Nat) : Int) != 0) = true := ine_true (by omega)
    refine HRDY.out.mono ?_
    rintro e W1 ⟨rfl, rfl⟩
    clear hW c2 e1
    go_wp2
    go_ret
    rw [E1.out]
    exact ⟨rfl, HSAME.out _ (Chg.refl _ _)⟩
set_option maxRecDepth 200000 in
set_option maxHeartbeats 4000000 in
theorem trim_call {w : World} {S C : Nat → Prop} {g : Nat} {st : Dk} (h : DiskIs w S C g st) {s : ByteArray} (hs : s.size ≤ maxLen) {m : Int} (hm1 : m ≤ 9223372036854775807) (hm2 : -9223372036854775808 ≤ m) (hmany : st.acts.length < 1000000)
    (hk : st.keep ≤ 9223372036854775807) (hk' : -9223372036854775808 ≤ st.keep) (ht : st.tear ≤ 9223372036854775807) (ht' : -9223372036854775808 ≤ st.tear) :
    Calls Try.prog 26 #[.pointer (some ⟨g, 0, none⟩), .string s, .int .i64 m] w fun e w' => e = .returned (.int .i64 ((st.trim s.data.toList m).1 : Nat)) ∧ DPost w S C g (st.trim s.data.toList m).2 w' := by
  obtain ⟨W, hW⟩ : ∃ W, W = (w.alloc (.cells #[.string s] 9)).alloc (.cells #[.int .i64 m] 3) := ⟨_, rfl⟩
  have hcW : Chg w W (fun _ => False) := by rw [hW]; exact Chg.of_below (balloc (balloc (Below.refl _ _) _) _) _
  have hsW : W.heap.size = w.heap.size + 2 := by rw [hW, size_alloc', size_alloc']
  have hD := h.chg hcW (fun _ _ h => h) (fun _ _ h => h)
  obtain ⟨A, L, bs, bl, a, xs, Vs, Vl, Ds, Dl, hh, hA, hL, hacts, sA, sL, sa⟩ := hD.parts
  have c2 := hh.c2
  have c3 := hh.c3
  have c4 := hh.c4
  have cs : W.cell? ⟨w.heap.size, 0, none⟩ = some (.string s) := by rw [hW]; simp
  have ca : W.cell? ⟨w.heap.size + 1, 0, none⟩ = some (.int .i64 m) := by rw [hW]; simp
  have hrdy := ready_any c2 c3 s
  have HRDY := hide hrdy
  have HSAME := hide (fun V (hc : Chg W V (fun _ => False)) => DPost.same h (hcW.trans hc fun _ h => .inl h))
  clear hrdy c3
  by_cases hr : rdy st.down s.data.toList = 0
  · have hdn := rdy_down hr
    rcases hg : get st.seen s.data.toList with _ | o
    · have hlook := fun q => ((hA.look hs).2 hg q).1
      have e1 : st.trim s.data.toList m = (21, st) := by
        unfold Dk.trim
        rw [if_neg (by omega), hg]
      have E1 := hide e1
      clear e1
      go_enter Try.func26, Try.ntmps26
      go_wp2_with fail
      rw [← hW]
      refine HRDY.out.mono ?_
      rintro e W1 ⟨rfl, rfl⟩
      rw [hr]
      clear hW c2
      go_wp2_with fail
      go_quiet (fail)
      go_wp2
      go_ret
      rw [E1.out]
      exact ⟨rfl, HSAME.out _ (by first | exact (Chg.refl _ _).drewN _ | exact ((Chg.refl _ _).drewN _).drewN _)⟩
    · have hlook := fun q => ((hA.look hs).1 o hg q).1
      have hrow := (hA.vals _ _ hg).2
      obtain ⟨q0, n0, c0, hv⟩ : ∃ q n c, Vs s.data.toList = .slice q n c := (by_row hrow).sl
      rw [hv] at hlook
      rw [hv] at hrow
      have hn0 := (by_row hrow).len
      have hm0 := (by_row hrow).lenMax
      have HN0 := hide hn0.1
      obtain ⟨ol, hol⟩ : ∃ ol, ol = o.length := ⟨_, rfl⟩
      obtain rfl : n0 = ol := by omega
      by_cases h1 : m < 0 ∨ (n0 : Int) < m
      · have e1 : st.trim s.data.toList m = (1, st) := by
          unfold Dk.trim
          rw [if_neg (by omega), hg]
          simp only
          rw [if_pos (by omega)]
        have E1 := hide e1
        clear e1 hrow hn0 hol
        rcases h1 with h1 | h1
        all_goals
          go_enter Try.func26, Try.ntmps26
          go_wp2_with fail
          rw [← hW]
          refine HRDY.out.mono ?_
          rintro e W1 ⟨rfl, rfl⟩
          rw [hr]
          clear hW c2
          go_wp2_with fail
          go_quiet (fail)
          go_wp2
          go_ret
          rw [E1.out]
          exact ⟨rfl, HSAME.out _ (by first | exact (Chg.refl _ _).drewN _ | exact ((Chg.refl _ _).drewN _).drewN _)⟩
      have h2 : 0 ≤ m := by omega
      have h3 : m ≤ (n0 : Int) := by omega
      clear h1 hol
      have e1 : st.trim s.data.toList m = st.perf (.trim s.data.toList m.toNat) := by
        unfold Dk.trim
        rw [if_neg (by omega), hg]
        simp only
        rw [if_neg (by have := HN0.out; omega)]
      have E1 := hide e1
      clear e1 hrow hn0
      go_enter Try.func26, Try.ntmps26
      go_wp2_with fail
      rw [← hW]
      refine HRDY.out.mono ?_
      rintro e W1 ⟨rfl, rfl⟩
      rw [hr]
      have HW := hide hW
      clear hW c2
      go_wp2_with fail
      go_quiet (fail)
      go_wp2_with fail
      generalize hX : World.drewN _ _ = X
      have hcX : Chg W X (fun _ => False) := hX ▸ (by first | exact (Chg.refl W _).drewN _ | exact ((Chg.refl W _).drewN _).drewN _)
      have csX := hcX.cell cs (fun h => h)
      have caX := hcX.cell ca (fun h => h)
      have ea : m = ((m.toNat : Nat) : Int) := by omega
      rw [ea] at caX
      clear ea
      have hsX : X.heap.size = w.heap.size + 2 := by rw [← hX]; exact hsW
      obtain ⟨C2, hD2, hd2, hback⟩ := h.boxed (hcW.trans hcX fun _ h => .inl h) (f := 54) (cs := #[.pointer (some ⟨w.heap.size, 0, none⟩), .pointer (some ⟨w.heap.size + 1, 0, none⟩)]) (.trim csX caX hs ⟨Nat.le_refl _, by omega⟩ ⟨by omega, by omega⟩)
      have hper := perform_any hD2 hd2 ⟨o, hg, by have := HN0.out; omega, by have h1 := seen_get h.ok s.data.toList; rw [hg] at h1; have h2 := h.ok.room; have h3 := h.ok.most; simp at h1; omega⟩ (by
        show (put st.seen _ _).length ≤ 4096
        rw [length_put (F := st.seen) (runs_rises h.ok.rises st.acts), hg]
        have h2 := seen_few h.ok
        show st.seen.length ≤ 4096
        omega) (by show st.used + 0 ≤ st.room; have := h.ok.room; omega) hdn hmany hk hk' ht ht'
      refine hper.mono ?_
      rintro e w4 ⟨rfl, hp⟩
      have HP := hide (hback _ _ hp)
      clear hper hp hD2 hd2 hback
      go_wp2
      go_ret
      rw [E1.out]
      exact ⟨rfl, HP.out⟩
  · go_enter Try.func26, Try.ntmps26
    go_wp2_with fail
    rw [← hW]
    have e1 : st.trim s.data.toList m = (rdy st.down s.data.toList, st) := by unfold Dk.trim; rw [if_pos hr]
    have E1 := hide e1
    have g0 : (((rdy st.down s.data.toList : Nat) : Int) != 0) = true := ine_true (by omega)
    refine HRDY.out.mono ?_
    rintro e W1 ⟨rfl, rfl⟩
    clear hW c2 e1
    go_wp2
    go_ret
    rw [E1.out]
    exact ⟨rfl, HSAME.out _ (Chg.refl _ _)⟩
set_option maxRecDepth 200000 in
set_option maxHeartbeats 4000000 in
theorem move_call {w : World} {S C : Nat → Prop} {g : Nat} {st : Dk} (h : DiskIs w S C g st) {s t : ByteArray} (hs : s.size ≤ maxLen) (ht2 : t.size ≤ maxLen) (hmany : st.acts.length < 1000000)
    (hk : st.keep ≤ 9223372036854775807) (hk' : -9223372036854775808 ≤ st.keep) (ht : st.tear ≤ 9223372036854775807) (ht' : -9223372036854775808 ≤ st.tear) :
    Calls Try.prog 27 #[.pointer (some ⟨g, 0, none⟩), .string s, .string t] w fun e w' => e = .returned (.int .i64 ((st.move s.data.toList t.data.toList).1 : Nat)) ∧ DPost w S C g (st.move s.data.toList t.data.toList).2 w' := by
  obtain ⟨W, hW⟩ : ∃ W, W = (w.alloc (.cells #[.string s] 9)).alloc (.cells #[.string t] 9) := ⟨_, rfl⟩
  have hcW : Chg w W (fun _ => False) := by rw [hW]; exact Chg.of_below (balloc (balloc (Below.refl _ _) _) _) _
  have hsW : W.heap.size = w.heap.size + 2 := by rw [hW, size_alloc', size_alloc']
  have hD := h.chg hcW (fun _ _ h => h) (fun _ _ h => h)
  obtain ⟨A, L, bs, bl, a, xs, Vs, Vl, Ds, Dl, hh, hA, hL, hacts, sA, sL, sa⟩ := hD.parts
  have c2 := hh.c2
  have c3 := hh.c3
  have c4 := hh.c4
  have cs : W.cell? ⟨w.heap.size, 0, none⟩ = some (.string s) := by rw [hW]; simp
  have ca : W.cell? ⟨w.heap.size + 1, 0, none⟩ = some (.string t) := by rw [hW]; simp
  have hrdy := ready_any c2 c3 s
  have HRDY := hide hrdy
  have HSAME := hide (fun V (hc : Chg W V (fun _ => False)) => DPost.same h (hcW.trans hc fun _ h => .inl h))
  clear hrdy c3
  by_cases hr : rdy st.down s.data.toList = 0
  · have hdn := rdy_down hr
    rcases hg : get st.seen s.data.toList with _ | o
    · have hlook := fun q => ((hA.look hs).2 hg q).1
      have e1 : st.move s.data.toList t.data.toList = (21, st) := by
        unfold Dk.move
        rw [if_neg (by omega), hg]
      have E1 := hide e1
      clear e1
      go_enter Try.func27, Try.ntmps27
      go_wp2_with fail
      rw [← hW]
      refine HRDY.out.mono ?_
      rintro e W1 ⟨rfl, rfl⟩
      rw [hr]
      clear hW c2
      go_wp2_with fail
      go_quiet (fail)
      go_wp2
      go_ret
      rw [E1.out]
      exact ⟨rfl, HSAME.out _ (by first | exact (Chg.refl _ _).drewN _ | exact ((Chg.refl _ _).drewN _).drewN _)⟩
    · have hlook := fun q => ((hA.look hs).1 o hg q).1
      have hrow := (hA.vals _ _ hg).2
      obtain ⟨q0, n0, c0, hv⟩ : ∃ q n c, Vs s.data.toList = .slice q n c := (by_row hrow).sl
      rw [hv] at hlook
      rcases hnm : okN t.data.toList with _ | _
      · have e1 : st.move s.data.toList t.data.toList = (20, st) := by
          unfold Dk.move
          rw [if_neg (by omega), hg]
          simp only
          rw [if_pos hnm]
        have E1 := hide e1
        clear e1 hrow
        go_enter Try.func27, Try.ntmps27
        go_wp2_with fail
        rw [← hW]
        refine HRDY.out.mono ?_
        rintro e W1 ⟨rfl, rfl⟩
        rw [hr]
        clear hW c2
        go_wp2_with fail
        go_quiet (fail)
        go_wp2_with fail
        generalize hX : World.drewN _ _ = X
        refine (named_any t X).mono ?_
        rintro e X1 ⟨rfl, rfl⟩
        rw [hnm]
        go_wp2
        go_ret
        rw [E1.out]
        exact ⟨rfl, HSAME.out _ (hX ▸ (by first | exact (Chg.refl _ _).drewN _ | exact ((Chg.refl _ _).drewN _).drewN _))⟩
      have e1 : st.move s.data.toList t.data.toList = st.perf (.move s.data.toList t.data.toList) := by
        unfold Dk.move
        rw [if_neg (by omega), hg]
        simp only
        rw [if_neg (by rw [hnm]; decide)]
      have E1 := hide e1
      clear e1 hrow
      go_enter Try.func27, Try.ntmps27
      go_wp2_with fail
      rw [← hW]
      refine HRDY.out.mono ?_
      rintro e W1 ⟨rfl, rfl⟩
      rw [hr]
      have HW := hide hW
      clear hW c2
      go_wp2_with fail
      go_quiet (fail)
      go_wp2_with fail
      generalize hX : World.drewN _ _ = X
      refine (named_any t X).mono ?_
      rintro e X1 ⟨rfl, rfl⟩
      rw [hnm]
      have hcX : Chg W X (fun _ => False) := hX ▸ (by first | exact (Chg.refl W _).drewN _ | exact ((Chg.refl W _).drewN _).drewN _)
      have csX := hcX.cell cs (fun h => h)
      have caX := hcX.cell ca (fun h => h)
      go_wp2_with fail
      have hsX : X.heap.size = w.heap.size + 2 := by rw [← hX]; exact hsW
      obtain ⟨C2, hD2, hd2, hback⟩ := h.boxed (hcW.trans hcX fun _ h => .inl h) (f := 57) (cs := #[.pointer (some ⟨w.heap.size, 0, none⟩), .pointer (some ⟨w.heap.size + 1, 0, none⟩)]) (.move csX caX hs ht2 ⟨Nat.le_refl _, by omega⟩ ⟨by omega, by omega⟩)
      have hper := perform_any hD2 hd2 ⟨o, hg⟩ (by
        show (put (del st.seen s.data.toList) _ _).length ≤ 4096
        have hre : Rises st.seen := runs_rises h.ok.rises st.acts
        rw [length_put (hre.del _)]
        have h1 := length_del hre s.data.toList
        rw [hg] at h1
        have h2 := seen_few h.ok
        simp at h1
        split
        all_goals omega
        ) (by show st.used + 0 ≤ st.room; have := h.ok.room; omega) hdn hmany hk hk' ht ht'
      refine hper.mono ?_
      rintro e w4 ⟨rfl, hp⟩
      have HP := hide (hback _ _ hp)
      clear hper hp hD2 hd2 hback
      go_wp2
      go_ret
      rw [E1.out]
      exact ⟨rfl, HP.out⟩
  · go_enter Try.func27, Try.ntmps27
    go_wp2_with fail
    rw [← hW]
    have e1 : st.move s.data.toList t.data.toList = (rdy st.down s.data.toList, st) := by unfold Dk.move; rw [if_pos hr]
    have E1 := hide e1
    have g0 : (((rdy st.down s.data.toList : Nat) : Int) != 0) = true := ine_true (by omega)
    refine HRDY.out.mono ?_
    rintro e W1 ⟨rfl, rfl⟩
    clear hW c2 e1
    go_wp2
    go_ret
    rw [E1.out]
    exact ⟨rfl, HSAME.out _ (Chg.refl _ _)⟩
end Go.Proofs.Ytdghkmpcjjmlfaa
