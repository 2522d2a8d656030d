/- The document's Sort. -/
import Derived.Test.YtbbdijnkgkabbaaSpSort2
import Derived.Test.YtbbdijnkgkabbaaSpPush
namespace Go.Proofs.Ytbbdijnkgkabbaa
set_option linter.unusedVariables false
set_option linter.unusedSimpArgs false
open Go.RowKit Go.Sort

/-- One step of laying a span at its place. -/
def stepI (s : Sp) (a : List Sp × Bool) (x : Sp) : List Sp × Bool := if a.2 = false ∧ ltS s x = true then (a.1 ++ [s] ++ [x], true) else (a.1 ++ [x], a.2)
def foldI (s : Sp) (l : List Sp) (a : List Sp × Bool) : List Sp × Bool := l.foldl (stepI s) a
def endI (s : Sp) (a : List Sp × Bool) : List Sp := if a.2 then a.1 else a.1 ++ [s]
theorem foldI_done (s : Sp) : ∀ (l : List Sp) (a : List Sp), foldI s l (a, true) = (a ++ l, true)
  | [], a => by simp [foldI]
  | x :: r, a => by
    have := foldI_done s r (a ++ [x])
    unfold foldI at this ⊢
    rw [List.foldl_cons, stepI, if_neg (by simp), this]
    simp
theorem foldI_ins (s : Sp) : ∀ (l : List Sp) (a : List Sp), endI s (foldI s l (a, false)) = a ++ insS s l
  | [], a => by simp [foldI, endI, insS]
  | x :: r, a => by
    unfold foldI
    rw [List.foldl_cons, stepI]
    by_cases h : ltS s x = true
    · rw [if_pos ⟨rfl, h⟩]
      have := foldI_done s r (a ++ [s] ++ [x])
      unfold foldI at this
      rw [this, insS, if_pos h]
      simp [endI]
    · rw [if_neg (fun hh => h hh.2)]
      have := foldI_ins s r (a ++ [x])
      unfold foldI at this
      rw [this, insS, if_neg h]
      simp
theorem foldI_succ {s : Sp} {l : List Sp} {k : Nat} {x : Sp} (h : l[k]? = some x) (a : List Sp × Bool) : foldI s (l.take (k + 1)) a = stepI s (foldI s (l.take k) a) x := by
  unfold foldI
  rw [List.take_add_one, h, List.foldl_append]
  rfl
theorem foldI_len (s : Sp) : ∀ (l : List Sp) (a : List Sp × Bool), (foldI s l a).1.length ≤ a.1.length + l.length + 1
  | l, (a, true) => by rw [foldI_done]; simp
  | [], (a, false) => by simp [foldI]
  | x :: r, (a, false) => by
    unfold foldI
    rw [List.foldl_cons, stepI]
    by_cases h : ltS s x = true
    · rw [if_pos ⟨rfl, h⟩]
      have := foldI_done s r (a ++ [s] ++ [x])
      unfold foldI at this
      rw [this]
      simp
      omega
    · rw [if_neg (fun hh => h hh.2)]
      have := foldI_len s r (a ++ [x], false)
      unfold foldI at this
      simp only [List.length_append, List.length_cons, List.length_nil] at this ⊢
      omega
def insUp (l : List Sp) : List Sp := l.foldl (fun a s => insS s a) []
theorem insUp_succ {l : List Sp} {k : Nat} {x : Sp} (h : l[k]? = some x) : insUp (l.take (k + 1)) = insS x (insUp (l.take k)) := by
  unfold insUp
  rw [List.take_add_one, h, List.foldl_append]
  rfl
theorem insUp_len (l : List Sp) : (insUp l).length = l.length := by
  have := (insAll_perm l []).length_eq
  simpa [insUp] using this

set_option maxRecDepth 200000 in
set_option maxHeartbeats 4000000 in
/-- The document's Sort. -/
theorem refSort_any {w : World} {v : Value} {l : List Sp} (hv : Sps w v l) (hl : l.length ≤ 1000) : Calls Try.prog 27 #[v] w fun e w' => ∃ v', e = .returned v' ∧ OwnS w.heap.size w' v' (sortS l) ∧ Below w.heap.size w w' := by
  rw [← insAll_eq]
  obtain ⟨p, n, c, rfl⟩ := hv.sl
  obtain ⟨hn, hnc, hcm⟩ := hv.len
  have HV := hide hv
  have HN := hide hn
  have hn1 : n ≤ 1000 := by omega
  clear hv hn hl
  go_enter Try.func27, Try.ntmps27
  go_wp2_with fail
  go_loopw [3, 5, 6, 7, 9, 12, 16, 17, 18] (fun v _ _ _ _ c _ _ _ wr => ∃ k : Nat, k ≤ n ∧ c = .int .i64 k ∧ Hid (OwnS w.heap.size wr v (insUp (l.take k)) ∧ RowKit.Below w.heap.size w wr)) (fun _ _ _ _ _ c _ _ _ _ => n - (intOf c).toNat)
  case atStart => exact ⟨0, by omega, rfl, hide ⟨OwnS.nil _ _, Below.refl _ _⟩⟩
  case round =>
    obtain ⟨k, hk, rfl, HR⟩ := hrel
    by_cases hlt : (k : Int) < (n : Int)
    · obtain ⟨g, o, rfl, hx⟩ := HV.out.at_ (by omega)
      obtain ⟨s, hsk⟩ : ∃ x, l[k]? = some x := ⟨_, List.getElem?_eq_getElem (by have := HN.out; omega)⟩
      have hat := (hx k s hsk).below HR.out.2
      obtain ⟨oo, hoo⟩ : ∃ oo, o + k * 6 = oo := ⟨_, rfl⟩
      rw [hoo] at hat
      have c0 := hat.c0
      have c1' := hat.c1
      have c2' := hat.c2
      have c3' := hat.c3
      have c4' := hat.c4
      have c5' := hat.c5
      have HSK := hide hsk
      obtain ⟨pu, nu, cu, rfl⟩ := HR.out.1.sps.sl
      have hnu := HR.out.1.sps.len.1
      have hnuk : (insUp (l.take k)).length = k := by rw [insUp_len, List.length_take]; have := HN.out; omega
      have hnu1 : nu ≤ 1000 := by omega
      have HNU := hide hnu
      have HNK := hide hnuk
      obtain ⟨t, i, p', st, en, nm⟩ := s
      dsimp only at *
      clear hx hsk hat hnu hnuk
      go_wp2_with fail
      obtain ⟨W1, hW1⟩ : ∃ W, wr.alloc (.cells #[.int .i64 t, .int .i64 i, .int .i64 p', .int .i64 st, .int .i64 en, .string nm] 33) = W := ⟨_, rfl⟩
      have hB1 : RowKit.Below wr.heap.size wr W1 := by rw [← hW1]; exact (Below.refl _ _).alloc (Nat.le_refl _) _
      have hS1 : SpAt W1 wr.heap.size 0 ⟨t, i, p', st, en, nm⟩ := by rw [← hW1]; exact spAt_new wr ⟨t, i, p', st, en, nm⟩
      have hz1 : wr.heap.size < W1.heap.size := by rw [← hW1]; simp
      obtain ⟨b, hb⟩ : ∃ b, wr.heap.size = b := ⟨_, rfl⟩
      have HB1 := hide (show RowKit.Below w.heap.size w W1 from HR.out.2.trans (hB1.mono HR.out.2.size))
      have HS1 := hide (show SpAt W1 b 0 ⟨t, i, p', st, en, nm⟩ by rw [← hb]; exact hS1)
      have HBL := hide (show b < W1.heap.size by rw [← hb]; exact hz1)
      have hout := HR.out.1.sps.below hB1
      obtain ⟨O, hO⟩ : ∃ O, insUp (l.take k) = O := ⟨_, rfl⟩
      have hnx : insUp (l.take (k + 1)) = insS ⟨t, i, p', st, en, nm⟩ O := by rw [insUp_succ HSK.out, hO]
      have hnu2 := HNU.out
      have hnk2 := HNK.out
      rw [hO] at hout hnu2 hnk2
      have HOUT := hide hout
      have HNQ := hide hnx
      have HOL := hide (And.intro hnu2 hnk2)
      have HLESS := hide (fun x W => refLess_any ⟨t, i, p', st, en, nm⟩ x W)
      unfold spV at HLESS
      dsimp only at HLESS
      rw [hW1, hb]
      clear hW1 hB1 hS1 hz1 hb hout hnx hnu2 hnk2 hO c0 c1' c2' c3' c4' c5' hoo
      go_loopw [6, 7, 9, 18] (fun u d _ j wi => ∃ (m : Nat) (a : List Sp) (f : Bool), m ≤ nu ∧ j = .int .i64 m ∧ d = .bool f ∧ Hid ((a, f) = foldI ⟨t, i, p', st, en, nm⟩ (O.take m) ([], false) ∧ OwnS W1.heap.size wi u a ∧ RowKit.Below W1.heap.size W1 wi)) (fun _ _ _ j _ => nu - (intOf j).toNat)
      case atStart => exact ⟨0, [], false, by omega, rfl, rfl, hide ⟨rfl, OwnS.nil _ _, Below.refl _ _⟩⟩
      case round =>
        obtain ⟨m, a, f, hm, rfl, rfl, H⟩ := hrel
        by_cases hlt2 : (m : Int) < (nu : Int)
        · obtain ⟨g3, o3, rfl, hx3⟩ := HOUT.out.at_ (by omega)
          obtain ⟨x, hxm⟩ : ∃ x, O[m]? = some x := ⟨_, List.getElem?_eq_getElem (by have := HOL.out.1; omega)⟩
          have hat3 := (hx3 m x hxm).below H.out.2.2
          obtain ⟨o4, ho4⟩ : ∃ o4, o3 + m * 6 = o4 := ⟨_, rfl⟩
          rw [ho4] at hat3
          have x0 := hat3.c0
          have x1 := hat3.c1
          have x2 := hat3.c2
          have x3 := hat3.c3
          have x4 := hat3.c4
          have x5 := hat3.c5
          have hstep := foldI_succ (s := ⟨t, i, p', st, en, nm⟩) hxm ([], false)
          rw [← H.out.1] at hstep
          have HST := hide hstep
          have hal := foldI_len ⟨t, i, p', st, en, nm⟩ (O.take m) ([], false)
          rw [← H.out.1, List.length_take] at hal
          have hal2 : a.length ≤ 2000 := by have := HOL.out; simp only [List.length_nil] at hal; omega
          have HAL := hide hal2
          have HNEWX := hide (fun W => spAt_new W x)
          have HLQ := hide (fun W => HLESS.out x W)
          obtain ⟨t', i', q', st', en', nm'⟩ := x
          dsimp only at *
          clear hx3 hxm hat3 hstep hal hal2
          have HSB := hide (show W1.heap.size ≤ wr.heap.size from H.out.2.2.size)
          have HBX := hide (show RowKit.Below wr.heap.size wr (wr.alloc (.cells #[.int .i64 t', .int .i64 i', .int .i64 q', .int .i64 st', .int .i64 en', .string nm'] 33)) from (Below.refl _ _).alloc (Nat.le_refl _) _)
          have HNW := hide (HNEWX.out wr)
          obtain ⟨y0, y1, y2, y3, y4, y5⟩ := ((HS1.out.below H.out.2.2).below HBX.out).z
          dsimp only at y0 y1 y2 y3 y4 y5
          cases f
          · go_wp2_with fail
            refine (HLQ.out _).mono ?_
            rintro e2 w2 ⟨rfl, hb2⟩
            have hw2 : RowKit.Below wr.heap.size wr w2 := HBX.out.trans (hb2.mono HBX.out.size)
            have hx2 := HNW.out.below hb2
            have hrow2 := H.out.2.1.below hw2
            have hs2 := (HS1.out.below H.out.2.2).below hw2
            have HW2 := hide (show RowKit.Below W1.heap.size W1 w2 from H.out.2.2.trans (hw2.mono H.out.2.2.size))
            have HROW2 := hide hrow2
            obtain ⟨y0, y1, y2, y3, y4, y5⟩ := hs2.z
            obtain ⟨z0, z1, z2, z3, z4, z5⟩ := hx2.z
            dsimp only at y0 y1 y2 y3 y4 y5 z0 z1 z2 z3 z4 z5
            have HX2 := hide hx2
            have HSZ2 := hide HW2.out.size
            clear hb2 hw2 hx2 hrow2 hs2
            cases hltv : ltS ⟨t, i, p', st, en, nm⟩ ⟨t', i', q', st', en', nm'⟩
            · have hst : stepI ⟨t, i, p', st, en, nm⟩ (a, false) ⟨t', i', q', st', en', nm'⟩ = (a ++ [⟨t', i', q', st', en', nm'⟩], false) := by unfold stepI; rw [if_neg (by rw [hltv]; simp)]
              have HST2 := hide (HST.out.trans hst)
              clear hst hltv
              go_wp2_with (at_builtin; go_must (refine wpList_push (v := u6) rfl _ _ rfl rfl ⟨t', i', q', st', en', nm'⟩ rfl rfl HROW2.out HSZ2.out (by have := HAL.out; omega) ?_); intro v5 w5 ho5 hb5 hg5)
              go_roundw
              case rel => exact ⟨m + 1, a ++ [⟨t', i', q', st', en', nm'⟩], false, by omega, by go_num, rfl, hide ⟨HST2.out.symm, ho5, HW2.out.trans hb5⟩⟩
              case measure => simp [intOf]; omega
            · have hst : stepI ⟨t, i, p', st, en, nm⟩ (a, false) ⟨t', i', q', st', en', nm'⟩ = (a ++ [⟨t, i, p', st, en, nm⟩] ++ [⟨t', i', q', st', en', nm'⟩], true) := by unfold stepI; rw [if_pos ⟨rfl, hltv⟩]
              have HST2 := hide (HST.out.trans hst)
              have HUB := hide (show ∀ q, u6.ownBlock = some q → q ≠ wr.heap.size from fun q hq e => by have := (H.out.2.1.lt q hq).2; omega)
              clear hst hltv
              have HNEQ := hide (show u6.ownBlock ≠ some wr.heap.size from fun e => HUB.out _ e rfl)
              have tok1 : True := trivial
              clear z0 z1 z2 z3 z4 z5
              go_wp2_with (at_builtin; first
                | (have _t := tok1; go_must (refine wpList_push (v := u6) rfl _ _ rfl rfl ⟨t, i, p', st, en, nm⟩ rfl rfl HROW2.out HSZ2.out (by have := HAL.out; omega) ?_); intro v5 w5 ho5 hb5 hg5; clear tok1; obtain ⟨z0, z1, z2, z3, z4, z5⟩ := (HX2.out.grown hg5 HNEQ.out).z; dsimp only at z0 z1 z2 z3 z4 z5; have HO5 := hide (And.intro ho5 hb5); have HS5 := hide (Nat.le_trans HSZ2.out (show w2.heap.size ≤ w5.heap.size from hg5.size)); clear ho5 hb5 hg5)
                | (go_must (refine wpList_push (v := v5) rfl _ _ rfl rfl ⟨t', i', q', st', en', nm'⟩ rfl rfl HO5.out.1 HS5.out (by have := HAL.out; simp; omega) ?_); intro v7 w7 ho7 hb7 hg7))
              go_roundw
              case rel => exact ⟨m + 1, a ++ [⟨t, i, p', st, en, nm⟩] ++ [⟨t', i', q', st', en', nm'⟩], true, by omega, by go_num, rfl, hide ⟨HST2.out.symm, ho7, (HW2.out.trans HO5.out.2).trans hb7⟩⟩
              case measure => simp [intOf]; omega
          · have hst : stepI ⟨t, i, p', st, en, nm⟩ (a, true) ⟨t', i', q', st', en', nm'⟩ = (a ++ [⟨t', i', q', st', en', nm'⟩], true) := by unfold stepI; rw [if_neg (by simp)]
            have HST2 := hide (HST.out.trans hst)
            have hrow2 := H.out.2.1.below HBX.out
            have HROW2 := hide hrow2
            clear hst hrow2
            obtain ⟨W2, hW2⟩ : ∃ W2, wr.alloc (.cells #[.int .i64 t', .int .i64 i', .int .i64 q', .int .i64 st', .int .i64 en', .string nm'] 33) = W2 := ⟨_, rfl⟩
            rw [hW2] at HROW2 HBX
            have HSZ2 := hide (show W1.heap.size ≤ W2.heap.size from Nat.le_trans HSB.out HBX.out.size)
            have HZW := hide (HNW.out.z)
            rw [hW2] at HZW y0 y1 y2 y3 y4 y5
            obtain ⟨z0, z1, z2, z3, z4, z5⟩ := HZW.out
            dsimp only at z0 z1 z2 z3 z4 z5
            go_wp2_with (at_builtin; go_must (refine wpList_push (v := u6) rfl _ _ rfl rfl ⟨t', i', q', st', en', nm'⟩ rfl rfl HROW2.out HSZ2.out (by have := HAL.out; omega) ?_); intro v5 w5 ho5 hb5 hg5)
            go_roundw
            case rel => exact ⟨m + 1, a ++ [⟨t', i', q', st', en', nm'⟩], true, by omega, by go_num, rfl, hide ⟨HST2.out.symm, ho5, (H.out.2.2.trans (HBX.out.mono H.out.2.2.size)).trans hb5⟩⟩
            case measure => simp [intOf]; omega
        · have hmn : m = nu := by omega
          subst hmn
          have hfold : (a, f) = foldI ⟨t, i, p', st, en, nm⟩ O ([], false) := by
            have := H.out.1
            rwa [List.take_of_length_le (by have := HOL.out; omega)] at this
          have hins := foldI_ins ⟨t, i, p', st, en, nm⟩ O []
          rw [← hfold, List.nil_append] at hins
          have HINS := hide hins
          have hal := foldI_len ⟨t, i, p', st, en, nm⟩ O ([], false)
          rw [← hfold] at hal
          have HAL := hide (show a.length ≤ 2000 by have := HOL.out; simp only [List.length_nil] at hal; omega)
          obtain ⟨y0, y1, y2, y3, y4, y5⟩ := (HS1.out.below H.out.2.2).z
          dsimp only at y0 y1 y2 y3 y4 y5
          have HROW := hide H.out.2.1
          have HW := hide H.out.2.2
          have HSZ := hide H.out.2.2.size
          clear hfold hins hal
          cases f
          · go_wp2_with (at_builtin; go_must (refine wpList_push (v := u6) rfl _ _ rfl rfl ⟨t, i, p', st, en, nm⟩ rfl rfl HROW.out HSZ.out (by have := HAL.out; omega) ?_); intro v5 w5 ho5 hb5 hg5)
            go_roundw
            case rel =>
              have h1 := HINS.out
              unfold endI at h1
              refine ⟨k + 1, by omega, by go_num, hide ⟨?_, HB1.out.trans ((HW.out.trans hb5).mono HB1.out.size)⟩⟩
              rw [HNQ.out, ← h1]
              exact ho5.mono HB1.out.size
            case measure => simp [intOf]; omega
          · go_wp2
            go_roundw
            case rel =>
              have h1 := HINS.out
              unfold endI at h1
              refine ⟨k + 1, by omega, by go_num, hide ⟨?_, HB1.out.trans (HW.out.mono HB1.out.size)⟩⟩
              rw [HNQ.out, ← h1]
              exact HROW.out.mono HB1.out.size
            case measure => simp [intOf]; omega
    · have hkn : k = n := by omega
      subst hkn
      have hrow : OwnS w.heap.size wr u3 (insAll l) := by
        have := HR.out.1
        rwa [List.take_of_length_le (by have := HN.out; omega)] at this
      have HROW := hide hrow
      clear hrow
      go_wp2
      go_ret
      exact ⟨_, rfl, HROW.out, HR.out.2⟩
end Go.Proofs.Ytbbdijnkgkabbaa
