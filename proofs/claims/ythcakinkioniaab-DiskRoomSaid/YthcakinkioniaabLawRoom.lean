/- What is used is never more than there is room for. -/
import Derived.Test.YthcakinkioniaabDPlain6
import Derived.Deep.RegionHeld3
namespace Go.Proofs.Ythcakinkioniaab
open Go.RowKit Go.Maps Go.Sort

theorem clone_K {w0 w : World} {K : Nat → Prop} {g : Nat} {st : Dk} (h : OwnK w0 K g st w) : Calls Try.prog 15 #[.pointer (some ⟨g, 0, none⟩)] w fun e w' => ∃ g', e = .returned (.pointer (some ⟨g', 0, none⟩)) ∧ TwoK w0 K w' g st g' st ∧ Chg w w' (fun _ => False) := by
  obtain ⟨S, C, h1, h2, h3, h4⟩ := h
  refine (clone_call h1).mono ?_
  rintro e w' ⟨g', S', he, k1, k2, k3⟩
  have hs := h4.size
  have hc : Chg w w' (fun _ => False) := Chg.of_below k3 _
  exact ⟨g', he, ⟨S, C, S', C, h1.chg hc (fun _ _ h => h) (fun _ _ h => h), k1, fun i hi => ⟨(h2 i hi).1, fun hj => by have := h1.sap i hi; have := k2 i hj; omega, h1.sep i hi⟩, fun i hi => ⟨by have := k2 i hi; omega, fun hj => by have := h1.sap i hj; have := k2 i hi; omega, fun hj => by have := h1.cap i hj; have := k2 i hi; omega⟩, Chg.to_below h4 hc fun _ h => h.elim,
    fun i hi => ⟨fun hs => (h2 i hs).2 hi, fun hs => by have := h3 i hi; have := k2 i hs; omega, Nat.lt_of_lt_of_le (h3 i hi) hc.size⟩⟩, hc⟩

theorem total_take {F : Fl} {i : Nat} {p : List UInt8 × List UInt8} (h : F[i]? = some p) : total (F.take (i + 1)) = total (F.take i) + p.2.length := by
  unfold total
  rw [List.take_add_one, h]
  simp
theorem total_take_le (F : Fl) (i : Nat) : total (F.take i) ≤ total F := by
  unfold total
  rw [List.map_take]
  conv => rhs; rw [← List.take_append_drop i (F.map fun p => p.2.length), List.sum_append]
  omega

set_option maxRecDepth 200000 in
set_option maxHeartbeats 8000000 in
theorem room_any {w : World} {room : Int} {p : Option Addr} {len cap : Nat} {l : List Rec} (h : Dos w p len cap l) :
    Calls Try.prog 8 #[.int .i64 room, .slice p len cap] w fun e w' => e = .returned (.bool true) ∧ Below w.heap.size w w' := by
  have HD := hide h
  have hcap := h.cap_
  have hmax := h.max_
  unfold maxLen at hmax
  obtain ⟨r1, r2⟩ := modOf_ok (m := 3000) (by omega) (by omega) room
  have HR := hide r1
  clear r1 h
  go_enter Try.func8, Try.ntmps8
  go_wp2_with fail
  refine (short_any HD.out).mono ?_
  rintro e w1 ⟨rfl, hc1⟩
  have hb1 : Below w.heap.size w w1 := ⟨hc1.os, hc1.tape, hc1.output, hc1.size, fun k hk => hc1.block k hk fun h => h⟩
  rcases hs : isShort l with _ | _
  · clear hc1
    go_wp2_with fail
    refine (awake_any w1).mono ?_
    rintro e w2 ⟨rfl, hb⟩
    go_wp2
    go_ret
    exact ⟨rfl, hb1.trans (hb.mono hb1.size)⟩
  obtain ⟨R, hRR⟩ : ∃ R, R = modOf 3000 room := ⟨_, rfl⟩
  have HRR := hide HR.out
  rw [← hRR] at HRR r2
  have hlen : len ≤ 120 := by
    unfold isShort at hs
    simp only [Bool.and_eq_true, decide_eq_true_eq] at hs
    have := HD.out.len_
    omega
  have HS := hide hs
  have HB1 := hide hb1
  clear hRR hs hc1 hb1
  go_wp2_with fail
  rw [show wrap64 ((IntKind.u64.wrap room).tmod 3000) = (R : Int) from HRR.out.symm]
  refine (new_any w1 (room := R) (by omega)).mono ?_
  rintro e w2 hf
  obtain ⟨g, rfl, hd0⟩ := Own1.fresh hf
  have hd1 : Own1 w g (Dk.new R) w2 := by
    obtain ⟨S, C, k1, k2, k3⟩ := hd0
    have := HB1.out.size
    exact ⟨S, C, k1, fun i hi => by have := k2 i hi; omega, HB1.out.trans (k3.mono HB1.out.size)⟩
  have HD1 := hide hd1
  clear hf hd0 hd1
  go_wp2_with fail
  go_loopw [33] (fun i wr => ∃ (k : Nat) (st : Dk), k ≤ len ∧ i = .int .i64 k ∧ st.CalmN k ∧ st.Named ∧ st.room = R ∧ Own1 w g st wr) (fun i _ => len - (intOf i).toNat)
  case atStart => exact ⟨0, Dk.new R, by omega, rfl, new_calm R, new_named R, rfl, HD1.out⟩
  case round =>
    obtain ⟨k, st, hk, rfl, hcm, hnm, hrm, hown⟩ := hrel
    have hki : (k : Int) ≤ 120 := by omega
    by_cases hkl : (k : Int) < (len : Int)
    · obtain ⟨a, o, rfl, hx⟩ := HD.out.at_ (by omega)
      obtain ⟨x, hget⟩ : ∃ x, l[k]? = some x := ⟨l[k]'(by have := HD.out.len_; omega), List.getElem?_eq_getElem _⟩
      obtain ⟨q, m, c, hr0⟩ := hx k x hget
      have HIS0 := hide hr0.is_
      have hr := hr0.chg (Chg.of_below hown.below (fun _ => False))
      have hmb := hr0.is_.hb.len.1
      clear hr0
      have c0 := hr.c0
      have c1 := hr.c1
      have c2 := hr.c2
      have c3 := hr.c3
      have c4 := hr.c4
      have c5 := hr.c5
      have c6 := hr.c6
      have c7 := hr.c7
      have hbl := isShort_b HS.out hget
      obtain ⟨X, hX⟩ : ∃ X, X = wr.alloc (.cells (recC x q m c) 35) := ⟨_, rfl⟩
      have hcX : Chg wr X (fun _ => False) := hX ▸ chg_alloc _ _
      have hszX : X.heap.size = wr.heap.size + 1 := by rw [hX, size_alloc']
      have h7 := hown.keep.more hcX
      have hbx : BoxAt X wr.heap.size x q m c := hX ▸ BoxAt.new wr x q m c
      obtain ⟨K, hK⟩ : ∃ K : Nat → Prop, K = fun i => (fun _ => False) i ∨ (wr.heap.size ≤ i ∧ i < X.heap.size) := ⟨_, rfl⟩
      rw [← hK] at h7
      have hKB : K wr.heap.size := by rw [hK]; exact .inr ⟨Nat.le_refl _, by omega⟩
      have H7 := hide h7
      have HBX := hide hbx
      have HKB := hide hKB
      have HCM := hide (And.intro hcm (And.intro hnm hrm))
      have HBL := hide hbl
      have HMB := hide hmb
      have hmi : (m : Int) ≤ 32768 := by omega
      have HNEXT := hide (show (st.step x).2.CalmN (k + 1) ∧ (st.step x).2.Named ∧ (st.step x).2.room = R from ⟨hcm.step x HIS0.out.h5 HIS0.out.h6, hnm.step x, by rw [step_room]; exact hrm⟩)
      clear hr hx hget hcX h7 hbx hcm hnm hrm hown hbl hK hKB hszX hmb
      unfold recC at hX
      go_wp2_with fail
      rw [← hX]
      refine (clone_K H7.out).mono ?_
      rintro e X1 ⟨g', rfl, h8, hc8⟩
      have hb8 := HBX.out.chg hc8 fun h => h
      have HIS8 := hide (HIS0.out.chg (Chg.of_below h8.two.below (fun _ => False)))
      have H8 := hide h8
      have z0 := hb8.c0
      have z1 := hb8.c1
      have z2 := hb8.c2
      have z3 := hb8.c3
      have z4 := hb8.c4
      have z5 := hb8.c5
      have z6 := hb8.c6
      have z7 := hb8.c7
      clear h8 hc8 hX c0 c1 c2 c3 c4 c5 c6 c7
      go_wp2_with fail
      have hdo := does_two H8.out (HCM.out.1.calm (by omega)) HIS8.out (by have := HBL.out; omega)
      unfold doV at hdo
      refine hdo.mono ?_
      rintro e X2 ⟨rfl, h9, hc9⟩
      have hb9 := hb8.chg hc9 fun h => h HKB.out
      have y4 := hb9.c4
      have HT := hide h9
      have hu : ((st.step x).2.usedN : Int) ≤ (R : Int) := by
        have h1 := usedN_le h9.two.one.ok
        have h2 := HNEXT.out.2.2
        omega
      clear hdo hb8 hb9 h9 hc9 z0 z1 z2 z3 z4 z5 z6 z7
      go_wp2_with fail
      refine (used_two HT.out).mono ?_
      rintro e X3 ⟨rfl, rfl⟩
      obtain ⟨U, hU⟩ : ∃ U, U = (st.step x).2.usedN := ⟨_, rfl⟩
      rw [← hU] at hu ⊢
      have HREF := hide (step_refused st x)
      obtain ⟨r, hr⟩ : ∃ r, r = (st.step x).1 := ⟨_, rfl⟩
      rw [← hr]
      have HRR2 := hide hr
      clear hU hr
      rcases (show r = 0 ∨ r = 22 ∨ (r ≠ 0 ∧ r ≠ 22) by omega) with rfl | rfl | ⟨hr0, hr22⟩
      · rw [show ((0 : Nat) : Int) = 0 from rfl]
        go_wp2_with fail
        go_quiet (fail)
        go_wp2
        all_goals
          go_roundw
          case rel => exact ⟨k + 1, (st.step x).2, by omega, by go_num, HNEXT.out.1, HNEXT.out.2.1, HNEXT.out.2.2, (HT.out.chg (by first | exact (Chg.refl _ _).drewN _ | exact Chg.refl _ _)).two.one⟩
          case measure => simp [intOf]; omega
      · rw [show ((22 : Nat) : Int) = 22 from rfl]
        go_wp2_with fail
        go_quiet (fail)
        go_wp2
        all_goals
          go_roundw
          case rel => exact ⟨k + 1, (st.step x).2, by omega, by go_num, HNEXT.out.1, HNEXT.out.2.1, HNEXT.out.2.2, (HT.out.chg (by first | exact (Chg.refl _ _).drewN _ | exact Chg.refl _ _)).two.one⟩
          case measure => simp [intOf]; omega
      · have g0 : ((r : Int) != 0) = true := ine_true (by omega)
        have g22 : ((r : Int) != 22) = true := ine_true (by omega)
        have hsame := HREF.out.same (by rw [← HRR2.out]; exact hr0) (by rw [← HRR2.out]; exact hr22)
        have HSAME := hide hsame
        have hT := HT.out
        rw [hsame] at hT
        have HTT := hide hT
        have hsm := same_any hT.two.swap HCM.out.2.1 rfl rfl
        have HSM := hide hsm
        clear hsame hT hsm hr0 hr22
        go_wp2_with fail
        refine HSM.out.mono ?_
        rintro e X4 ⟨rfl, hc4⟩
        have HT4 := hide (HTT.out.chg hc4)
        have HT4' := hide (HT.out.chg hc4)
        have y4' := hc4.cell y4 fun h => h
        clear y4 hc4
        go_wp2_with fail
        refine (pending_two HT4.out.swap).mono ?_
        rintro e X5 ⟨rfl, rfl⟩
        go_wp2_with fail
        refine (pending_two HT4.out).mono ?_
        rintro e X5 ⟨rfl, rfl⟩
        by_cases h7 : r = 7
        · subst h7
          rw [show ((7 : Nat) : Int) = 7 from rfl]
          obtain ⟨hdn, hfull⟩ := HREF.out.full HRR2.out.symm
          have HUN := hide (show st.usedN = st.used from by unfold Dk.usedN; rw [if_neg (by rw [hdn]; decide)])
          have hub : (st.used : Int) ≤ 16777216 := by
            have h1 := HT4.out.two.one.ok.room
            have h2 := HT4.out.two.one.ok.most
            omega
          have HFULL := hide (And.intro hfull hdn)
          clear hfull hdn
          have HU := hide (fun V (hV : ∃ q, V = X4.drewN q) => (by
            obtain ⟨q, rfl⟩ := hV
            have h1 := used_two (HT4.out.swap.chg ((Chg.refl X4 _).drewN q))
            rw [HUN.out] at h1
            exact h1.mono fun e w' hh => ⟨hh.1, hh.2, by rw [← hh.2]; exact y4'⟩ : Calls Try.prog 18 #[.pointer (some ⟨g', 0, none⟩)] V fun e w' => e = .returned (.int .i64 (st.used : Nat)) ∧ V = w' ∧ w'.cell? ⟨wr.heap.size, 4, none⟩ = some (.slice q m c)))
          have hwr : IntKind.i64.wrap ((st.used : Int) + (m : Int)) = (st.used : Int) + (m : Int) := by rw [IntKind.wrap_i64]; omega
          have hw64 : wrap64 ((st.used : Int) + (m : Int)) = (st.used : Int) + (m : Int) := by unfold wrap64; omega
          by_cases hno : (st.used : Int) + (m : Int) ≤ (R : Int)
          · have hdec : decide ((st.used : Int) + (m : Int) ≤ (R : Int)) = true := decide_eq_true hno
            have hlist : 4096 ≤ st.seen.length := by
              rcases HFULL.out.1 with h | h
              · have := HCM.out.2.2
                have := HMB.out
                omega
              · exact h
            obtain ⟨n7, hn7⟩ : ∃ n7, n7 = st.names.length := ⟨_, rfl⟩
            have hdec2 : decide ((n7 : Int) < 4096) = false := by
              refine decide_eq_false ?_
              rw [hn7, names_len HFULL.out.2]
              omega
            have hn1 : ¬ (n7 : Int) < 4096 := by
              rw [hn7, names_len HFULL.out.2]
              omega
            have hn2 : (n7 : Int) ≤ 4096 := by
              rw [hn7, names_len HFULL.out.2]
              have := seen_few HT4.out.two.one.ok
              omega
            have HLI := hide (fun V (hV : ∃ q, V = X4.drewN q) => (by
              obtain ⟨q, rfl⟩ := hV
              refine (list_own (HT4.out.swap.chg ((Chg.refl X4 _).drewN q)).two.one).mono ?_
              rintro e X7 ⟨v7, rfl, hr7, hc7, _⟩
              rw [← hn7] at hr7
              obtain ⟨q7, c7, rfl⟩ := row_sl hr7
              exact ⟨q7, c7, rfl, ⟨hc7.os, hc7.tape, hc7.output, hc7.size, hc7.block⟩, hc7.cell (w := X4.drewN q) y4' fun h => h⟩ : Calls Try.prog 24 #[.pointer (some ⟨g', 0, none⟩)] V fun e w' => ∃ q7 c7, e = .returned (.slice q7 n7 c7) ∧ Chg X4 w' (fun _ => False) ∧ w'.cell? ⟨wr.heap.size, 4, none⟩ = some (.slice q m c)))
            clear hlist hn7
            go_wp2_with fail
            go_region_held3 (fun W => W.cell? ⟨wr.heap.size, 4, none⟩ = some (.slice q m c)) (first | exact y4' | exact hy7 | exact y6) (first
              | (go_at_call 18; refine (HU.out _ (by first | exact ⟨_, rfl⟩ | exact ⟨0, rfl⟩ | exact ⟨1, rfl⟩)).mono ?_; rintro e X6 ⟨rfl, rfl, y6⟩)
              | (go_at_call 24; refine (HLI.out _ (by first | exact ⟨_, rfl⟩ | exact ⟨0, rfl⟩ | exact ⟨1, rfl⟩)).mono ?_; rintro e X7 ⟨q7, c7, rfl, hc7, hy7⟩))
            all_goals
              have HT := hide (HT4'.out.chg hc7)
              go_wp2
              go_roundw
              case rel => exact ⟨k + 1, (st.step x).2, by omega, by go_num, HNEXT.out.1, HNEXT.out.2.1, HNEXT.out.2.2, HT.out.two.one⟩
              case measure => simp [intOf]; omega
          · have HT := HT4'
            have HNO := hide hno
            clear hno
            go_wp2_with fail
            obtain ⟨e, he⟩ : ∃ e : Nat, (st.used : Int) + (m : Int) = (R : Int) + ((e : Int) + 1) := ⟨((st.used : Int) + (m : Int) - (R : Int) - 1).toNat, by have := HNO.out; omega⟩
            rw [he] at hw64 hwr
            have hz2 : decide ((R : Int) + ((e : Int) + 1) ≤ (R : Int)) = false := decide_eq_false (by omega)
            have hz3 : decide ((e : Int) + 1 ≤ 0) = false := decide_eq_false (by omega)
            clear hub
            have hu0 : ∀ q, Calls Try.prog 18 #[.pointer (some ⟨g', 0, none⟩)] (X4.drewN q) fun e w' => e = .returned (.int .i64 (st.used : Nat)) ∧ X4.drewN q = w' := fun q => (HU.out (X4.drewN q) ⟨q, rfl⟩).mono fun e w' hh => ⟨hh.1, hh.2.1⟩
            have HU0 := hide hu0
            clear hu0
            go_quiet ((first
              | (go_at_call 18; refine quiet_same (HU0.out _))))
            all_goals
              go_wp2
              go_roundw
              case rel => exact ⟨k + 1, (st.step x).2, by omega, by go_num, HNEXT.out.1, HNEXT.out.2.1, HNEXT.out.2.2, (HT.out.chg (by first | exact (Chg.refl _ _).drewN _ | exact Chg.refl _ _ | exact (Chg.refl _ _).drew1 | exact (Chg.refl _ _).drew1.drew1)).two.one⟩
              case measure => simp [intOf]; omega
        · have g7 : ((r : Int) == 7) = false := ieq_false (by omega)
          have HT := HT4'
          clear h7
          go_wp2_with fail
          go_quiet (fail)
          go_wp2
          all_goals
            go_roundw
            case rel => exact ⟨k + 1, (st.step x).2, by omega, by go_num, HNEXT.out.1, HNEXT.out.2.1, HNEXT.out.2.2, (HT.out.chg (by first | exact (Chg.refl _ _).drewN _ | exact Chg.refl _ _)).two.one⟩
            case measure => simp [intOf]; omega
    · have HCM := hide (And.intro hcm (And.intro hnm hrm))
      obtain ⟨y, hy⟩ : ∃ y, y = (st.woken.fall 120 0).start := ⟨_, rfl⟩
      clear hcm hnm hrm
      go_wp2_with fail
      refine (start_own hown).mono ?_
      rintro e w3 ⟨rfl, h3⟩
      rw [show ((0 : Nat) : Int) = 0 from rfl]
      clear hown
      go_wp2_with fail
      refine (arm_own h3 (n := 0) (keep := 0) (tear := 0) (by omega) (by omega)).mono ?_
      rintro e w4 ⟨rfl, h4⟩
      replace h4 : Own1 w g st.woken w4 := h4
      clear h3
      go_wp2_with fail
      refine (crash_own h4 (keep := 120) (tear := 0) (by omega) (by omega) (by omega) (by omega)).mono ?_
      rintro e w5 ⟨rfl, h5⟩
      replace h5 : Own1 w g (st.woken.fall 120 0) w5 := h5
      clear h4
      go_wp2_with fail
      refine (start_own h5).mono ?_
      rintro e w6 ⟨rfl, h6⟩
      rw [show ((0 : Nat) : Int) = 0 from rfl]
      rw [← hy] at h6
      have hyd : y.down = false := by rw [hy]; rfl
      have hyn : y.Named := by rw [hy]; exact (HCM.out.2.1.woken.fall 120 0).start
      have hyr : y.room = R := by rw [hy]; exact HCM.out.2.2
      have hya : y.acts = [] := by rw [hy]; rfl
      have hyu : y.usedN = total y.seen := by
        unfold Dk.usedN Dk.used Dk.seen
        rw [hyd, hya]
        simp [sizes, runs]
      have HY := hide (And.intro hyd (And.intro hyn (And.intro hyr hyu)))
      clear h5 hy hyd hyn hyr hya hyu
      go_wp2_with fail
      refine (list_own h6).mono ?_
      rintro e w7 ⟨v7, rfl, hr7, hc7, h7⟩
      have hnl := names_len HY.out.1
      have hn0 : y.names = y.seen.map (·.1) := by unfold Dk.names; rw [if_neg (by rw [HY.out.1]; decide)]
      rw [hnl, hn0] at hr7
      obtain ⟨F, hF⟩ : ∃ F, F = y.seen := ⟨_, rfl⟩
      obtain ⟨nn, hnn⟩ : ∃ nn, nn = F.length := ⟨_, rfl⟩
      rw [← hF, ← hnn] at hr7
      obtain ⟨q7, c7, rfl⟩ := row_sl hr7
      have hfw : nn ≤ 4096 := by
        rw [hnn, hF]
        exact seen_few h7.ok
      have htot : total F ≤ R := by
        rw [hF, ← HY.out.2.2.2, ← HY.out.2.2.1]
        exact usedN_le h7.ok
      have hris : Rises F := by
        rw [hF]
        exact runs_rises h7.ok.rises y.acts
      have HF := hide (And.intro hF (And.intro hnn (And.intro htot hris)))
      have H7 := hide h7
      have HR7 := hide hr7
      have hnni : (nn : Int) ≤ 4096 := by omega
      have hRi : (R : Int) ≤ 3000 := by omega
      clear h6 hr7 hc7 hnl hn0 hF hnn htot hris h7
      go_wp2_with fail
      go_loopw [11, 97] (fun nv i wv => ∃ j : Nat, j ≤ nn ∧ i = .int .i64 j ∧ nv = .int .i64 (total (F.take j) : Nat) ∧ Own1 w g y wv ∧ wv.ownsRow w6.heap.size 9 1 (.slice q7 nn c7) nn ((F.map (·.1)).map encStr)) (fun _ i _ => nn - (intOf i).toNat)
      case atStart => exact ⟨0, by omega, rfl, by simp [total], H7.out, HR7.out⟩
      case round =>
        obtain ⟨j, hj, rfl, rfl, hown, hrow⟩ := hrel
        have htl := total_take_le F j
        obtain ⟨T, hT⟩ : ∃ T, T = total (F.take j) := ⟨_, rfl⟩
        rw [← hT] at htl ⊢
        have hTi : (T : Int) ≤ 3000 := by have := HF.out.2.2.1; omega
        have HTT := hide hT
        clear htl hT
        by_cases hjn : (j : Int) < (nn : Int)
        · obtain ⟨gq, rfl⟩ : ∃ gq, q7 = some ⟨gq, 0, none⟩ := by
            rcases hrow.2 with ⟨_, h2⟩ | ⟨gq, cap, cur, e, _⟩
            · omega
            · injection e with e1 e2 e3
              exact ⟨gq, e1⟩
          obtain ⟨pr, hp⟩ : ∃ pr, F[j]? = some pr := ⟨F[j]'(by have := HF.out.2.1; omega), List.getElem?_eq_getElem _⟩
          have hcell : wr.cell? ⟨gq, j, none⟩ = some (.string (mkB pr.1)) := row_cell hrow (by rw [List.getElem?_map, List.getElem?_map, hp]; rfl)
          have hmem : pr ∈ y.seen := by rw [← HF.out.1]; exact List.mem_of_getElem? hp
          have hok : okN pr.1 = true := HY.out.2.1.seen pr hmem
          have hxs : (mkB pr.1).size ≤ maxLen := by
            have h1 := okN_len hok
            show pr.1.toArray.size ≤ maxLen
            unfold maxLen
            simp
            omega
          have hrb : y.readB (mkB pr.1).data.toList = pr.2 := by
            rw [mkB_data]
            exact (read_of HY.out.1 hok (get_of_mem (F := y.seen) (by rw [← HF.out.1]; exact HF.out.2.2.2) (x := pr.1) (b := pr.2) hmem)).2
          have htk := total_take hp
          rw [← HTT.out] at htk
          have htk2 := total_take_le F (j + 1)
          have hlb : T + pr.2.length ≤ 3000 := by have := HF.out.2.2.1; omega
          have HROW := hide hrow
          have HTK := hide htk
          clear hrow hmem hok htk htk2 hp
          go_wp2_with fail
          refine (read_own hown hxs).mono ?_
          rintro e w8 ⟨v8, rfl, hr8, hc8, h8⟩
          rw [hrb] at hr8
          obtain ⟨n8, hn8⟩ : ∃ n8, n8 = pr.2.length := ⟨_, rfl⟩
          rw [← hn8] at hr8 hlb
          obtain ⟨q8, c8, rfl⟩ := row_sl hr8
          have HROW8 := hide (row_chg HROW.out hc8 fun _ _ h => h)
          have H8 := hide h8
          have HN8 := hide hn8
          have hsum : (T : Int) + (n8 : Int) ≤ 3000 := by omega
          clear hr8 hc8 h8 hn8 hrb hown
          go_wp2
          all_goals
            go_roundw
            case rel => exact ⟨j + 1, by omega, by go_num, by rw [HTK.out, ← HN8.out]; go_num, H8.out, HROW8.out⟩
            case measure => simp [intOf]; omega
        · have hTF : T = y.usedN := by
            rw [HTT.out, List.take_of_length_le (by have := HF.out.2.1; omega), HF.out.1, HY.out.2.2.2]
          have hTR : (T : Int) ≤ (R : Int) := by
            have h1 := usedN_le hown.ok
            have h2 := HY.out.2.2.1
            omega
          have H8 := hide hown
          have HTF := hide hTF
          clear hown hrow hTF
          go_wp2_with fail
          refine (used_own H8.out).mono ?_
          rintro e w9 ⟨rfl, rfl⟩
          rw [← HTF.out]
          go_wp2_with fail
          refine (awake_any wr).mono ?_
          rintro e w10 ⟨rfl, hb⟩
          go_wp2
          go_ret
          exact ⟨rfl, H8.out.below.trans (hb.mono H8.out.below.size)⟩
end Go.Proofs.Ythcakinkioniaab
