/- An act changes no files but those that it names. -/
import Derived.Test.YthcakinkioniaabDPlain7
namespace Go.Proofs.Ythcakinkioniaab
open Go.RowKit Go.Maps Go.Sort

theorem str_self' (s : ByteArray) : str s.data.toList = s := by rw [str_eq]
theorem toList_iff (s t : ByteArray) : s.toList = t.toList ↔ s.data.toList = t.data.toList := by
  have h := str_beq s.data.toList t.data.toList
  rw [str_self', str_self'] at h
  rw [← decide_eq_true_iff (p := s.data.toList = t.data.toList), ← h, beq_iff_eq]

set_option maxRecDepth 200000 in
/-- 'append(names, more...)'. -/
theorem run_append_names {w : World} {B B2 : Nat} {v u : Value} {L M : List (List UInt8)} (hv : w.ownsRow B 9 1 v L.length (L.map encStr)) (hu : w.ownsRow B2 9 1 u M.length (M.map encStr)) (hB : B ≤ w.heap.size) (hl : L.length + M.length ≤ 1000000) :
    ∃ q c w', (Builtin.append_ #[40, 40] 40 #[v, u]).run Try.prog w = .ok (.slice q (L.length + M.length) c) w' ∧ w'.ownsRow B 9 1 (.slice q (L.length + M.length) c) (L.length + M.length) ((L ++ M).map encStr) ∧ w.grownBy w' v.ownBlock := by
  obtain ⟨i0, hi, hz0, hz1, hz2⟩ := info_parts Try.info9
  rcases hu.2 with ⟨rfl, h0⟩ | ⟨g, cap, cur, rfl, _, hg, hcap, hmx, _, h5⟩
  · obtain ⟨q, c, rfl⟩ := row_sl hv
    have hM : M = [] := List.eq_nil_of_length_eq_zero h0
    subst hM
    refine ⟨q, c, w, ?_, by simpa using hv, World.grownBy.refl _ _⟩
    rcases hv.2 with ⟨e, h0⟩ | ⟨g, cap, cur, e, _, hg, hl2, _⟩
    · injection e with e1 e2 e3
      subst e1 e3
      rw [h0]
      simp [Builtin.append_, run_underlying Try.underlying40, Go.sizeOf, typeInfo, hi, Builtin.lenOf, Builtin.firstCells]
    · injection e with e1 e2 e3
      subst e1 e3
      simp [Builtin.append_, run_underlying Try.underlying40, Go.sizeOf, typeInfo, hi, Builtin.lenOf, Builtin.firstCells, hl2, storeCells, loadCells]
  · obtain ⟨v', w', hr, h1, h2, _, _⟩ := run_append_own_at (P := Try.prog) w B 40 40 9 i0 (.string ⟨#[]⟩) 1 16 Try.underlying40 hi hz0 hz1 hz2 rfl (by decide) v L.length (L.map encStr) hv
      ⟨g, 0, none⟩ M.length cap (M.map encStr) (by simp) (fun j y hj => by
        rw [Addr.add_lit, Nat.zero_add]
        exact row_cell hu hj) (fun y hy => by obtain ⟨k, _, rfl⟩ := List.mem_map.1 hy; rfl) (by unfold maxLen; omega) (by omega) hB
    obtain ⟨q, c, rfl⟩ := row_sl h1
    exact ⟨q, c, w', hr, by rw [List.map_append]; exact h1, h2⟩

theorem Two.touch {w0 w w' : World} {g1 g2 : Nat} {s1 s2 : Dk} (h : Two w0 w g1 s1 g2 s2) (hc : Chg w w' (fun i => w.heap.size ≤ i)) : Two w0 w' g1 s1 g2 s2 := by
  obtain ⟨S1, C1, S2, C2, h1, h2, h3, h4, h5⟩ := h
  exact ⟨S1, C1, S2, C2, h1.chg hc (fun i hi h => by have := h1.sap i hi; omega) (fun i hi h => by have := h1.cap i hi; omega), h2.chg hc (fun i hi h => by have := h2.sap i hi; omega) (fun i hi h => by have := h2.cap i hi; omega), h3, h4, Chg.to_below h5 hc fun i hi => by have := h5.size; omega⟩

/-- One call in new memory. -/
theorem dos_one {w : World} {x : Rec} {q : Option Addr} {m c : Nat} (h : DoIs w (doV x.op x.name x.to x.at_ (.slice q m c) x.n x.keep x.tear) x.op x.name x.to x.at_ q m c x.b x.n x.keep x.tear) :
    Dos (w.alloc (.cells (recC x q m c) 35)) (some ⟨w.heap.size, 0, none⟩) 1 1 [x] := by
  have hb := BoxAt.new w x q m c
  refine ⟨rfl, Nat.le_refl _, by decide, fun _ => ⟨w.heap.size, 0, rfl, fun i y hi => ?_⟩⟩
  match i, hi with
  | 0, hi =>
    simp at hi
    subst hi
    exact ⟨q, m, c, by simpa using hb.c0, by simpa using hb.c1, by simpa using hb.c2, by simpa using hb.c3, by simpa using hb.c4, by simpa using hb.c5, by simpa using hb.c6, by simpa using hb.c7, h.chg (chg_alloc _ _)⟩

set_option maxRecDepth 200000 in
set_option maxHeartbeats 8000000 in
theorem apart_any {w : World} {room : Int} {p : Option Addr} {len cap : Nat} {l : List Rec} (h : Dos w p len cap l) {x : Rec} {q : Option Addr} {m c : Nat} (hx : DoIs w (doV x.op x.name x.to x.at_ (.slice q m c) x.n x.keep x.tear) x.op x.name x.to x.at_ q m c x.b x.n x.keep x.tear) :
    Calls Try.prog 9 #[.int .i64 room, .slice p len cap, doV x.op x.name x.to x.at_ (.slice q m c) x.n x.keep x.tear] w fun e w' => e = .returned (.bool true) ∧ Below w.heap.size w w' := by
  unfold doV
  obtain ⟨X, hX⟩ : ∃ X, X = w.alloc (.cells (recC x q m c) 35) := ⟨_, rfl⟩
  have hcX : Chg w X (fun _ => False) := hX ▸ chg_alloc _ _
  have hbx : BoxAt X w.heap.size x q m c := hX ▸ BoxAt.new w x q m c
  have hsX : X.heap.size = w.heap.size + 1 := by rw [hX, size_alloc']
  have HM := hide (made_law (room := room) (h.chg hcX))
  have HX := hide hx
  have HH := hide h
  unfold recC at hX
  go_enter Try.func9, Try.ntmps9
  go_wp2_with fail
  rw [← hX]
  refine HM.out.mono ?_
  rintro e w1 ⟨g, rfl, hd⟩
  have HXB := hide (show Below w.heap.size w X from ⟨hcX.os, hcX.tape, hcX.output, hcX.size, fun k hk => hcX.block k hk fun h => h⟩)
  have HBX := hide hbx
  have HSX := hide hsX
  clear hX hcX hbx hsX h hx
  rcases hs : isShort l with _ | _
  · have HB := hide hd.below
    clear hd
    go_wp2_with fail
    refine (awake_any w1).mono ?_
    rintro e wz ⟨rfl, hb⟩
    go_wp2
    go_ret
    exact ⟨rfl, HXB.out.trans (HB.out.trans (hb.mono HB.out.size) |>.mono HXB.out.size)⟩
  have hcal := made_calm (HH.out.chg (Chg.of_below HXB.out _)) hs (roomOf room)
  rw [if_pos hs] at hd
  have hb1 := HBX.out.chg (Chg.of_below hd.below (fun _ => False)) fun h => h
  have z0 := hb1.c0
  have z1 := hb1.c1
  have z2 := hb1.c2
  have z3 := hb1.c3
  have z4 := hb1.c4
  have z5 := hb1.c5
  have z6 := hb1.c6
  have z7 := hb1.c7
  have hx1 := HX.out.chg ((Chg.of_below HXB.out (fun _ => False)).trans (Chg.of_below hd.below (fun _ => False)) fun _ h => .inl h)
  have HSH := hide (short_any (dos_one hx1))
  have HX1 := hide hx1
  have hd := hd.alloc (.cells (recC x q m c) 35)
  obtain ⟨Y, hY⟩ : ∃ Y, Y = w1.alloc (.cells (recC x q m c) 35) := ⟨_, rfl⟩
  rw [← hY] at hd
  have HD := hide hd
  have HY := hide hY
  have HYB := hide (show BoxAt Y w.heap.size x q m c from HBX.out.chg (Chg.of_below hd.below (fun _ => False)) fun h => h)
  clear hb1 hx1 hd
  unfold recC at hY
  go_wp2_with fail
  rw [← hY]
  have hsh := HSH.out
  rw [← HY.out] at hsh
  refine hsh.mono ?_
  rintro e w2 ⟨rfl, hc2⟩
  have hd := HD.out.chg hc2
  clear hsh hY z0 z1 z2 z3 z4 z5 z6 z7
  rcases hs1 : isShort [x] with _ | _
  · have HB := hide hd.below
    clear hd hc2
    go_wp2_with fail
    refine (awake_any w2).mono ?_
    rintro e wz ⟨rfl, hb⟩
    go_wp2
    go_ret
    exact ⟨rfl, HXB.out.trans (HB.out.trans (hb.mono HB.out.size) |>.mono HXB.out.size)⟩
  have hb2 := HYB.out.chg hc2 fun h => h
  have z0 := hb2.c0
  have z1 := hb2.c1
  have z2 := hb2.c2
  have z3 := hb2.c3
  have z4 := hb2.c4
  have z5 := hb2.c5
  have z6 := hb2.c6
  have z7 := hb2.c7
  have HB2 := hide hb2
  have HD2 := hide hd
  have HS1 := hide (isShort_b hs1 (i := 0) (x := x) rfl)
  clear hb2 hd hc2 hs1
  go_wp2_with fail
  have hac := acts_any w2 x.op x.name x.to x.at_ q m c x.n x.keep x.tear
  unfold doV at hac
  refine hac.mono ?_
  rintro e w3 ⟨rfl, hc3⟩
  have hd := HD2.out.chg hc3
  have HB3 := hide (HB2.out.chg hc3 fun h => h)
  clear hac hc3 z0 z1 z2 z3 z4 z5 z6 z7
  by_cases hkd : kind x.op < 6
  · rw [show decide (kind x.op < 6) = true from decide_eq_true hkd]
    obtain ⟨s, hse⟩ : ∃ s, s = (plays (Dk.new (roomOf room)) l).woken := ⟨_, rfl⟩
    have hnm : s.Named := hse ▸ (plays_named (new_named _) l).woken
    go_wp2_with fail
    refine (start_own hd).mono ?_
    rintro e w4 ⟨rfl, hd4⟩
    rw [show ((0 : Nat) : Int) = 0 from rfl]
    clear hd
    go_wp2_with fail
    refine (arm_own hd4 (n := 0) (keep := 0) (tear := 0) (by omega) (by omega)).mono ?_
    rintro e w5 ⟨rfl, hd5⟩
    replace hd5 : Own1 X g (plays (Dk.new (roomOf room)) l).woken w5 := hd5
    rw [← hse] at hd5
    have hcs : s.CalmN 120 := hse ▸ hcal.woken
    have hdn : s.down = false := by rw [hse]; rfl
    have hfn : s.fn = 0 := by rw [hse]; rfl
    have HPL := hide (And.intro hcs (And.intro hdn (And.intro hfn hnm)))
    clear hd4 hcs hdn hfn hnm hse hcal
    go_wp2_with fail
    refine (clone_two hd5).mono ?_
    rintro e w6 ⟨g', rfl, h6⟩
    have hb6 := HBX.out.chg (Chg.of_below h6.below (fun _ => False)) fun h => h
    have z0 := hb6.c0
    have z1 := hb6.c1
    have z2 := hb6.c2
    have z3 := hb6.c3
    have z4 := hb6.c4
    have z5 := hb6.c5
    have z6 := hb6.c6
    have z7 := hb6.c7
    have HX6 := hide (HX.out.chg ((Chg.of_below HXB.out (fun _ => False)).trans (Chg.of_below h6.below (fun _ => False)) fun _ h => .inl h))
    have HKD := hide hkd
    clear hd5 hb6 hkd
    go_wp2_with fail
    have hdo := h6.call (fun S C hD => does_disk hD (HPL.out.1.calm (by omega)) (op := x.op) (at_ := x.at_) (b := x.b) (n := x.n) (keep := x.keep) (tear := x.tear) HX6.out.h1 HX6.out.h2 HX6.out.h3 HX6.out.hb (by have := HS1.out; omega) HX6.out.h4 HX6.out.h5 HX6.out.h6)
    unfold doV at hdo
    refine hdo.mono ?_
    rintro e w7 ⟨rfl, h7⟩
    have H7 := hide (show Two X w7 g (s.step x).2 g' s from h7)
    clear hdo h6 h7 z0 z1 z2 z3 z4 z5 z6 z7
    go_wp2_with fail
    obtain ⟨sd, hsd⟩ : ∃ sd, sd = (s.step x).2 := ⟨_, rfl⟩
    have hsdn : sd.Named := by rw [hsd]; exact HPL.out.2.2.2.step x
    have H7' := H7
    rw [← hsd] at H7'
    have HSD := hide (And.intro hsd hsdn)
    clear hsd hsdn H7
    refine (list_own H7'.out.swap.one).mono ?_
    rintro e w8 ⟨v8, rfl, hr8, hc8, _⟩
    have hl8 : s.names.length ≤ 4096 := by
      have h1 := seen_few H7'.out.swap.one.ok
      unfold Dk.names
      split
      · simp
      · simpa using h1
    obtain ⟨n8, hn8⟩ : ∃ n8, n8 = s.names.length := ⟨_, rfl⟩
    rw [← hn8] at hr8
    obtain ⟨q8, c8, rfl⟩ := row_sl hr8
    have HL8 := hide hl8
    have HN8 := hide hn8
    have HR8 := hide hr8
    have HC8 := hide hc8
    clear hr8 hc8 hl8 hn8
    go_wp2_with fail
    refine (list_own (H7'.out.chg HC8.out).one).mono ?_
    rintro e w9 ⟨v9, rfl, hr9, hc9, _⟩
    have hl9 : sd.names.length ≤ 4096 := by
      have h1 := seen_few H7'.out.one.ok
      unfold Dk.names
      split
      · simp
      · simpa using h1
    obtain ⟨n9, hn9⟩ : ∃ n9, n9 = sd.names.length := ⟨_, rfl⟩
    have hr8' := row_chg HR8.out hc9 fun _ _ h => h
    have hlt8 := hr8'.lt
    rw [HN8.out] at hr8'
    obtain ⟨q10, c10, w10, happ, hr10, hg10⟩ := run_append_names hr8' hr9 (by have := HC8.out.size; have := hc9.size; omega) (by have := HL8.out; omega)
    rw [← HN8.out] at happ hr10 hg10
    rw [← hn9] at happ hr10 hr9
    obtain ⟨q9, c9, rfl⟩ := row_sl hr9
    obtain ⟨N, hN⟩ : ∃ N, N = n8 + n9 := ⟨_, rfl⟩
    rw [← hN] at happ hr10
    have hNi : (N : Int) ≤ 8192 := by have := HL8.out; have := HN8.out; omega
    have hc10 : Chg w7 w10 (fun i => w7.heap.size ≤ i) := (((HC8.out.trans hc9 (S := fun _ => False) fun _ h => .inl h).mono (S' := fun i => w7.heap.size ≤ i) fun _ h => h.elim)).trans (Chg.of_grown hg10 (fun i => w7.heap.size ≤ i) fun i hi => .inl (hlt8 i hi).1) fun _ h => .inl h
    have H10 := hide (H7'.out.touch hc10)
    have HR10 := hide hr10
    have HNN := hide (And.intro hN hn9)
    have hcapN : N ≤ c10 := by
      have := hr10.2
      rcases this with ⟨e, h0⟩ | ⟨_, cap, _, e, _, _, hl, _⟩
      · omega
      · injection e with e1 e2 e3
        omega
    clear hl9 hr8' hlt8 hr10 hg10 hr9 hc9 hc10 hN hn9
    go_wp2_with (at_builtin; refine Lib.wpList_append_run_sl _ rfl _ _ 40 rfl _ _ rfl rfl happ ?_)
    go_loopw [51] (fun i wr => ∃ k : Nat, k ≤ N ∧ i = .int .i64 k ∧ Two X wr g sd g' s ∧ wr.ownsRow w7.heap.size 9 1 (.slice q10 N c10) N ((s.names ++ sd.names).map encStr)) (fun i _ => N - (intOf i).toNat)
    case atStart => exact ⟨0, by omega, rfl, H10.out, HR10.out⟩
    case round =>
      obtain ⟨k, hk, rfl, h11, hrow⟩ := hrel
      by_cases hkn : (k : Int) < (N : Int)
      · obtain ⟨gq, rfl⟩ : ∃ gq, q10 = some ⟨gq, 0, none⟩ := by
          rcases hrow.2 with ⟨_, h2⟩ | ⟨gq, cap, cur, e, _⟩
          · omega
          · injection e with e1 e2 e3
            exact ⟨gq, e1⟩
        have hll : (s.names ++ sd.names).length = N := by
          have h1 := hrow.1
          rw [List.length_map] at h1
          omega
        obtain ⟨y, hy⟩ : ∃ y, (s.names ++ sd.names)[k]? = some y := ⟨(s.names ++ sd.names)[k]'(by omega), List.getElem?_eq_getElem _⟩
        have hcell : wr.cell? ⟨gq, k, none⟩ = some (.string (mkB y)) := row_cell hrow (by rw [List.getElem?_map, hy]; rfl)
        have hok : okN y = true := by
          rcases List.mem_append.1 (List.mem_of_getElem? hy) with h | h
          · exact names_okN HPL.out.2.2.2 h
          · exact names_okN HSD.out.2 h
        have hys : (mkB y).size ≤ maxLen := by
          have h1 := okN_len hok
          show y.toArray.size ≤ maxLen
          unfold maxLen
          simp
          omega
        have H11 := hide h11
        have HROW := hide hrow
        clear hrow h11 hll hy hok
        go_wp2_with fail
        refine (read_own H11.out.swap.one hys).mono ?_
        rintro e w12 ⟨v12, rfl, hr12, hc12, _⟩
        obtain ⟨q12, n12, c12, rfl⟩ := (by_row (row_mono hr12)).sl
        have HR12 := hide hr12
        have HC12 := hide hc12
        clear hr12 hc12
        go_wp2_with fail
        refine (read_own (H11.out.chg HC12.out).one hys).mono ?_
        rintro e w13 ⟨v13, rfl, hr13, hc13, _⟩
        obtain ⟨q13, n13, c13, rfl⟩ := (by_row (row_mono hr13)).sl
        have HEQ := hide (equal_any ((by_row (row_mono HR12.out)).chg hc13 (.inr fun _ _ h => h)) (by_row (row_mono hr13)))
        have H12 := hide ((H11.out.chg HC12.out).chg hc13)
        have HROW12 := hide (row_chg (row_chg HROW.out HC12.out fun _ _ h => h) hc13 fun _ _ h => h)
        have hb13 := HBX.out.chg (Chg.of_below H12.out.below (fun _ => False)) fun h => h
        have z0 := hb13.c0
        have z1 := hb13.c1
        have z2 := hb13.c2
        have z3 := hb13.c3
        have z4 := hb13.c4
        have z5 := hb13.c5
        have z6 := hb13.c6
        have z7 := hb13.c7
        have htn := toList_iff (mkB y) x.name
        have htt := toList_iff (mkB y) x.to
        rw [mkB_data] at htn htt
        clear hr13 hc13 hb13 hcell
        obtain ⟨E1, hE1⟩ : ∃ E1, E1 = s.readE (mkB y).data.toList := ⟨_, rfl⟩
        obtain ⟨E2, hE2⟩ : ∃ E2, E2 = sd.readE (mkB y).data.toList := ⟨_, rfl⟩
        rw [← hE1, ← hE2]
        have HE1 := hide hE1
        have HE2 := hide hE2
        clear hE1 hE2
        by_cases hyn : y = x.name.data.toList
        · have g1 : ((mkB y).toList == x.name.toList) = true := beq_iff_eq.2 (htn.2 hyn)
          clear htn htt hyn
          go_wp2
          all_goals
            go_roundw
            case rel => exact ⟨k + 1, by omega, by go_num, H12.out, HROW12.out⟩
            case measure => simp [intOf]; omega
        · have g1 : ((mkB y).toList == x.name.toList) = false := beq_eq_false_iff_ne.2 fun h => hyn (htn.1 h)
          by_cases hyt : y = x.to.data.toList ∧ kind x.op = 4
          · have g2 : ((mkB y).toList == x.to.toList) = true := beq_iff_eq.2 (htt.2 hyt.1)
            have g3 : (wrap64 ((IntKind.u64.wrap x.op).tmod 10) != 4) = false := ine_false hyt.2
            clear htn htt hyn hyt
            go_wp2
            all_goals
              go_roundw
              case rel => exact ⟨k + 1, by omega, by go_num, H12.out, HROW12.out⟩
              case measure => simp [intOf]; omega
          · have hfr := framed_read (s := s) (s' := sd) (k := x.name.data.toList) (t := if kind x.op = 4 then x.to.data.toList else x.name.data.toList) (r := (s.step x).1) (by
              have h1 := step_framed (s := s) HPL.out.2.2.1 HKD.out (if kind x.op = 4 then x.to.data.toList else x.name.data.toList) (fun h => by rw [if_pos h])
              rw [HSD.out.1]
              exact h1) hyn (by
              split
              · rename_i h4
                exact fun h => hyt ⟨h, h4⟩
              · exact hyn)
            have hE : E2 = E1 := by rw [HE1.out, HE2.out, mkB_data]; exact hfr.1
            have HBB := hide (show (s.readB (mkB y).data.toList == sd.readB (mkB y).data.toList) = true from beq_iff_eq.2 (by rw [mkB_data]; exact hfr.2.symm))
            subst hE
            have gcase : ((mkB y).toList == x.to.toList) = false ∨ (((mkB y).toList == x.to.toList) = true ∧ (wrap64 ((IntKind.u64.wrap x.op).tmod 10) != 4) = true) := by
              by_cases hyt2 : y = x.to.data.toList
              · exact .inr ⟨beq_iff_eq.2 (htt.2 hyt2), ine_true fun h => hyt ⟨hyt2, h⟩⟩
              · exact .inl (beq_eq_false_iff_ne.2 fun h => hyt2 (htt.1 h))
            clear htn htt hyn hyt hfr
            rcases gcase with g2 | ⟨g2, g3⟩
            all_goals
              go_wp2_with fail
              refine HEQ.out.mono ?_
              rintro e w14 ⟨rfl, rfl⟩
              rw [HBB.out]
              go_wp2
              all_goals
                go_roundw
                case rel => exact ⟨k + 1, by omega, by go_num, H12.out, HROW12.out⟩
                case measure => simp [intOf]; omega
      · clear hrow
        have HB := hide h11.below
        clear h11
        go_wp2_with fail
        refine (awake_any wr).mono ?_
        rintro e wz ⟨rfl, hb⟩
        go_wp2
        go_ret
        exact ⟨rfl, HXB.out.trans (HB.out.trans (hb.mono HB.out.size) |>.mono HXB.out.size)⟩
  · rw [show decide (kind x.op < 6) = false from decide_eq_false hkd]
    have HB := hide hd.below
    clear hd hkd
    go_wp2_with fail
    refine (awake_any w3).mono ?_
    rintro e wz ⟨rfl, hb⟩
    go_wp2
    go_ret
    exact ⟨rfl, HXB.out.trans (HB.out.trans (hb.mono HB.out.size) |>.mono HXB.out.size)⟩
end Go.Proofs.Ythcakinkioniaab
