/- DiskPlays: the law. -/
import Derived.Test.YtdghkmpcjjmlfaaRdAlike
import Derived.Test.YtdghkmpcjjmlfaaDMade
import Derived.Deep.RegionHeld3
namespace Go.Proofs.Ytdghkmpcjjmlfaa
set_option linter.unusedVariables false
set_option linter.unusedSimpArgs false
open Go.RowKit

theorem Own.lit0 (w : World) : Own w.heap.size (w.alloc (.cells #[] 5)) (.slice (some ⟨w.heap.size, 0, none⟩) 0 0) [] :=
  .inr ⟨w.heap.size, 0, rfl, Nat.le_refl _, Nat.le_refl _, by simp [maxLen], by simp, fun i h => by omega, fun i h => by omega⟩
set_option maxRecDepth 200000 in
set_option maxHeartbeats 4000000 in
theorem cloneB_any {w : World} {v : Value} {l : List UInt8} (h : By w v l) (hl : l.length ≤ 1000000) : Calls Try.prog 8 #[v] w fun e w' => ∃ p n c, e = .returned (.slice p n c) ∧ Own w.heap.size w' (.slice p n c) l ∧ Below w.heap.size w w' := by
  have qsp : ∀ (w : World) (a : Option Addr) (n c n' c' : Nat), (binOp .eql 32 (.slice a n c) (.slice none n' c')).run Try.prog w = .ok (.bool a.isNone) w := fun w a n c n' c' => Lib.run_eql_slice_nil w _ _ a n c n' c' Try.underlying32
  obtain ⟨p, n, c, rfl⟩ := h.sl
  cases p with
  | none =>
    have hn : l = [] := by
      obtain ⟨p', c', e, hl, hm, hn, hc⟩ := h
      injection e with e1 e2 e3
      exact List.eq_nil_of_length_eq_zero (by have := hn e1.symm; omega)
    subst hn
    have HB := hide (Below.refl w.heap.size w)
    clear h hl
    go_enter Try.func8, Try.ntmps8
    go_wp2
    go_ret
    exact ⟨_, _, _, rfl, Own.nil _ _, HB.out⟩
  | some a =>
    have bE := (Below.refl w.heap.size w).alloc (Nat.le_refl _) (.cells #[] 5)
    have HEE := hide (h.below bE)
    have HOE := hide (Own.lit0 w)
    have HBE := hide bE
    have HEL := hide hl
    clear bE h hl
    go_enter Try.func8, Try.ntmps8
    go_wp2_with (at_builtin; go_loud (refine wpList_append_by rfl (.tmp 5) (.tmp 6) rfl rfl (v := .slice (some ⟨w.heap.size, 0, none⟩) 0 0) (y := .slice (some a) n c) (l := []) (m := l) (B := w.heap.size) rfl rfl HOE.out HEE.out (by have := HEL.out; simp; omega) HBE.out.size ?_); intro v4 w4 ho4 hg4 hb4 hk4; rw [List.nil_append] at ho4; have HO4 := hide ho4; have HB4 := hide (HBE.out.trans hb4); obtain ⟨p4, n4, c4, rfl⟩ := ho4.by_.sl; clear ho4 hg4 hb4 hk4)
    go_ret
    exact ⟨_, _, _, rfl, HO4.out, HB4.out⟩

theorem calm_of {s : Dk} {i : Nat} (h : s.CalmN i) (hi : i < 1000000) : s.Calm := h.calm hi
/-- A byte of one's own is set. -/
theorem own_set {B : Nat} {w : World} {p : Option Addr} {n c : Nat} {l : List UInt8} (h : Own B w (.slice p n c) l) {j : Nat} (hj : j < n) :
    ∃ (g : Nat) (y : UInt8), p = some ⟨g, 0, none⟩ ∧ B ≤ g ∧ w.cell? ⟨g, j, none⟩ = some (.int .u8 (y.toNat : Int)) ∧ w.frozen? ⟨g, j, none⟩ = false ∧ ∃ l' : List UInt8, l'.length = l.length ∧ Own B (w.setCell ⟨g, j, none⟩ (.int .u8 (bits BinOp.xor IntKind.u8 (y.toNat : Int) 255))) (.slice p n c) l' := by
  obtain ⟨g, y, h1, h2, h3, h4, h5, h6⟩ := Own.cellAt h hj
  have hx : ∃ u : UInt8, bits BinOp.xor IntKind.u8 (y.toNat : Int) 255 = (u.toNat : Int) := by
    have key : ∀ z : Fin 256, bits BinOp.xor IntKind.u8 (z.val : Int) 255 = ((UInt8.ofNat (255 - z.val)).toNat : Int) := by decide +kernel
    exact ⟨_, key ⟨y.toNat, y.toNat_lt⟩⟩
  obtain ⟨u, hu⟩ := hx
  refine ⟨g, y, h1, h2, h4, h5, l.set j u, by simp, ?_⟩
  rw [hu]
  exact h6 u

theorem own_chg {B : Nat} {w w' : World} {T : Nat → Prop} {v : Value} {l : List UInt8} (h : Own B w v l) (hc : Chg w w' T) (hne : ∀ k, v.ownBlock = some k → ¬ T k) : Own B w' v l := by
  rcases h with h | ⟨g, cap, rfl, hB, hl, hm, h1, h2, h3⟩
  · exact .inl h
  · by_cases h0 : cap = 0
    · subst h0
      exact .inr ⟨g, 0, rfl, hB, hl, hm, fun i x hx => by simp at hl; subst hl; simp at hx, fun i hi => by omega, fun i hi => by omega⟩
    · obtain ⟨u, hu⟩ := Option.isSome_iff_exists.1 (h2 0 (by omega))
      have hg := lt_of_cell hu
      have hb := hc.block g hg (hne g rfl)
      exact .inr ⟨g, cap, rfl, hB, hl, hm, fun i x hx => hc.cell (h1 i x hx) (hne g rfl), fun i hi => by
        obtain ⟨u, hu⟩ := Option.isSome_iff_exists.1 (h2 i hi)
        rw [hc.cell hu (hne g rfl)]
        rfl, fun i hi => by have := h3 i hi; unfold World.frozen? at this ⊢; simp only [hb]; exact this⟩
theorem own_block {B : Nat} {w : World} {v : Value} {l : List UInt8} (h : Own B w v l) : l = [] ∨ ∀ k, v.ownBlock = some k → B ≤ k ∧ k < w.heap.size := by
  by_cases hl : l = []
  · exact .inl hl
  · refine .inr fun k hk => ⟨?_, h.by_.lt_of hl k hk⟩
    rcases h with ⟨_, e⟩ | ⟨g, cap, rfl, hB, _⟩
    · exact absurd e hl
    · injection hk with hk
      dsimp only at hk
      omega
theorem own_ge {B : Nat} {w : World} {v : Value} {l : List UInt8} (h : Own B w v l) : ∀ k, v.ownBlock = some k → B ≤ k := by
  intro k hk
  rcases h with ⟨rfl, _⟩ | ⟨g, cap, rfl, hB, _⟩
  · cases hk
  · injection hk with hk
    dsimp only at hk
    omega

/-- What the round's calls leave. -/
def RKP (w0 W : World) (N : Nat → Prop) (g : Nat) (s : Dk) (x : Nat) (t : Dk) (c : Nat) (e : Ending) (w' : World) : Prop := e = .returned (.int .i64 (c : Nat)) ∧ Pr w0 w' N N g s x t ∧ Chg W w' (fun i => ¬ N i ∧ w0.heap.size ≤ i)

set_option maxRecDepth 200000 in
set_option maxHeartbeats 40000000 in
theorem dplays_any {w : World} {room : Int} {p : Option Addr} {len cap : Nat} {l : List Rec} (h : Dos w p len cap l) : Calls Try.prog 3 #[.int .i64 room, .slice p len cap] w fun e w' => e = .returned (.bool true) ∧ Below w.heap.size w w' := by
  have hl := h.len_
  have hcap := h.cap_
  have hmax := h.max_
  have H := hide h
  have HL := hide hl
  unfold maxLen at hmax
  clear h hl
  by_cases hb : room < 0 ∨ 16777216 < room
  · have HN := hide (newBad w hb)
    have HR := hide (rnewBad w hb)
    have HA := hide (awake_any w)
    clear hb
    go_enter Try.func3, Try.ntmps3
    go_wp2_with fail
    refine HN.out.mono ?_
    rintro e w1 ⟨rfl, rfl⟩
    go_wp2_with fail
    refine HR.out.mono ?_
    rintro e w1 ⟨rfl, rfl⟩
    go_wp2_with fail
    refine HA.out.mono ?_
    rintro e w1 ⟨rfl, hb1⟩
    have HB1 := hide hb1
    clear hb1
    go_wp2
    go_ret
    exact ⟨rfl, HB1.out⟩
  · obtain ⟨rm, rfl⟩ : ∃ rm : Nat, room = (rm : Int) := ⟨room.toNat, by omega⟩
    have hrm : rm ≤ 16777216 := by omega
    have HRM := hide hrm
    clear hb
    go_enter Try.func3, Try.ntmps3
    go_wp2_with fail
    refine (new_any w HRM.out).mono ?_
    rintro e w1 ⟨g, S, rfl, hd1, hS, hb1⟩
    have HRN := hide (rnew_any (w := w1) (w0 := w) (g := g) (e0 := .returned .nilIface) HRM.out ⟨S, hd1, hS, hb1⟩)
    clear hd1 hS hb1
    go_wp2_with fail
    refine HRN.out.mono ?_
    rintro e w2 ⟨x, rfl, hP⟩
    have hb2 := hP.below
    have HP := hide hP
    have HC2 := hide (Chg.of_below hb2 (fun _ => False))
    have HSH := hide (short_any (H.out.chg HC2.out))
    clear hP hb2
    go_wp2_with fail
    refine HSH.out.mono ?_
    rintro e w3 ⟨rfl, hc3⟩
    have HP3 := hide (HP.out.at hc3)
    clear hc3
    rcases hs : isShort l with _ | _
    · have HA := hide (awake_any w3)
      have HB3 := hide HP3.out.below
      go_wp2_with fail
      refine HA.out.mono ?_
      rintro e w4 ⟨rfl, hb4⟩
      have HB4 := hide (HB3.out.trans (hb4.mono HB3.out.size))
      clear hb4
      go_wp2
      go_ret
      exact ⟨rfl, HB4.out⟩
    · have hlen : len ≤ 120 := by
        unfold isShort at hs
        simp only [Bool.and_eq_true, decide_eq_true_eq] at hs
        have := HL.out
        omega
      have HS := hide hs
      clear hs
      go_wp2_with fail
      go_loopw [10, 11, 12, 13, 14, 15, 16, 17, 18, 19, 50] (fun _ _ _ _ _ _ _ _ _ _ i wr => ∃ j : Nat, j ≤ len ∧ i = .int .i64 j ∧ Hid (Pr w wr (fun _ => False) (fun _ => False) g (plays (Dk.new rm) (l.take j)) x (plays (Dk.new rm) (l.take j)))) (fun _ _ _ _ _ _ _ _ _ _ i _ => len - (intOf i).toNat)
      case atStart => exact ⟨0, Nat.zero_le _, rfl, hide (by rw [List.take_zero]; exact HP3.out)⟩
      case round =>
        obtain ⟨j, hj, rfl, hrel⟩ := hrel
        have HR := hide hrel.out
        clear hrel
        by_cases hjn : (j : Int) < (len : Int)
        · obtain ⟨r, hr⟩ : ∃ r, l[j]? = some r := ⟨_, List.getElem?_eq_getElem (by have := HL.out; omega)⟩
          have hcw : Chg w wr (fun _ => False) := Chg.of_below HR.out.below _
          obtain ⟨gl, o, rfl, hat⟩ := H.out.at_ (by omega)
          obtain ⟨qb, mb, cb, hrecw⟩ := hat j r hr
          have HBW0 := hide hrecw.is_.hb
          have hrec := hrecw.chg hcw
          obtain ⟨oo, hoo⟩ : ∃ oo, o + j * 8 = oo := ⟨_, rfl⟩
          rw [hoo] at hrec
          have e0 := hrec.c0
          have e1 := hrec.c1
          have e2 := hrec.c2
          have e3 := hrec.c3
          have e4 := hrec.c4
          have e5 := hrec.c5
          have e6 := hrec.c6
          have e7 := hrec.c7
          have hgl := lt_of_cell e0
          dsimp only at hgl
          have hI := hrec.is_
          have hb32 := isShort_b HS.out hr
          have hcalm : (plays (Dk.new rm) (l.take j)).CalmN j := plays_calm (new_calm rm) (fun i y hy => by
            obtain ⟨g9, o9, hp9, hx9⟩ := H.out.at_ (by have := (List.getElem?_eq_some_iff.1 hy).1; have := HL.out; omega)
            obtain ⟨q9, m9, c9, h9⟩ := hx9 i y hy
            exact ⟨h9.is_.h5, h9.is_.h6⟩) j (by have := HL.out; omega)
          have hnamed : (plays (Dk.new rm) (l.take j)).Named := plays_named (new_named rm) _
          have hsuc := plays_succ (st := Dk.new rm) hr
          obtain ⟨s, hs0⟩ : ∃ s, plays (Dk.new rm) (l.take j) = s := ⟨_, rfl⟩
          rw [hs0] at HR hcalm hnamed hsuc
          have HSUC := hide hsuc
          have HQ := hide (hcalm.calm (by omega))
          have HNM := hide hnamed
          have HI := hide hI
          have HB32 := hide hb32
          have HSTC := hide (hcalm.step r hI.h5 hI.h6)
          have HSTN := hide (hnamed.step r)
          clear hs0 hcalm hnamed hsuc hI hb32 hat hr hrec hrecw
          obtain ⟨op, nm, tt, at_, bb, nn, kk, te⟩ := r
          dsimp only at e0 e1 e2 e3 e4 e5 e6 e7 HI HB32 HBW0
          obtain ⟨CC, hCC⟩ : ∃ CC : Array Value, CC = #[.int .i64 op, .string nm, .string tt, .int .i64 at_, .slice qb mb cb, .int .i64 nn, .int .i64 kk, .int .i64 te] := ⟨_, rfl⟩
          obtain ⟨W2, hW2⟩ : ∃ W2, W2 = (wr.alloc (.cells CC 34)).alloc (.cells CC 34) := ⟨_, rfl⟩
          have hcW : Chg wr W2 (fun _ => False) := hW2 ▸ (chgA wr _).trans (chgA _ _) fun _ h => .inl h
          have hsz : W2.heap.size = wr.heap.size + 2 := by rw [hW2]; simp
          have hz10 : W2.heap[wr.heap.size]? = some (.cells CC 34) := by
            rw [hW2, heap_alloc_old _ _ (by simp)]
            exact heap_alloc_new wr _
          have hz11 : W2.heap[wr.heap.size + 1]? = some (.cells CC 34) := by
            have := heap_alloc_new (wr.alloc (.cells CC 34)) (.cells CC 34)
            rw [size_alloc'] at this
            rw [hW2]
            exact this
          have hbW := HI.out.hb.chg hcW (.inr fun _ _ h => h)
          have HCLN := hide (cloneB_any hbW (by have := HB32.out; omega))
          have HZ10 := hide hz10
          have HZ11 := hide hz11
          have HCW := hide hcW
          have HSZ := hide hsz
          have HBW := hide hbW
          have HCC := hide hCC
          have b4 : W2.cell? ⟨wr.heap.size, 4, none⟩ = some (.slice qb mb cb) := by rw [cell_of_row W2 wr.heap.size 4 _ 34 (0, 0) hz10, hCC]; rfl
          have hW9 : ((wr.alloc (.cells #[.int .i64 op, .string nm, .string tt, .int .i64 at_, .slice qb mb cb, .int .i64 nn, .int .i64 kk, .int .i64 te] 34)).alloc (.cells #[.int .i64 op, .string nm, .string tt, .int .i64 at_, .slice qb mb cb, .int .i64 nn, .int .i64 kk, .int .i64 te] 34)) = W2 := by rw [hW2, hCC]
          clear hcW hsz hz10 hz11 hbW hW2 hCC
          go_wp2_with fail
          refine HCLN.out.mono ?_
          rintro e w4 ⟨p4, n4, c4, rfl, ho4, hb4⟩
          have HO4 := hide ho4
          have HB4 := hide hb4
          have hn4 : n4 = bb.length := ho4.by_.len.1
          have HN4 := hide hn4
          have hs4 : wr.heap.size + 1 < w4.heap.size := by have := hb4.size; have := HSZ.out; omega
          have hr10 := (hb4.block wr.heap.size (by have := HSZ.out; omega)).trans HZ10.out
          have hr11 := (hb4.block (wr.heap.size + 1) (by have := HSZ.out; omega)).trans HZ11.out
          obtain ⟨W5, hW5⟩ : ∃ W5, W5 = w4.setCell ⟨wr.heap.size + 1, 4, none⟩ (.slice p4 n4 c4) := ⟨_, rfl⟩
          have hc5 : Chg w4 W5 (fun i => i = wr.heap.size + 1) := hW5 ▸ rchg_set _ _ _ _
          have hq11 : W5.heap[wr.heap.size + 1]? = some (.cells #[.int .i64 op, .string nm, .string tt, .int .i64 at_, .slice p4 n4 c4, .int .i64 nn, .int .i64 kk, .int .i64 te] 34) := by
            rw [hW5, heap_setCell_same w4 (wr.heap.size + 1) 4 _ 34 (.slice p4 n4 c4) hr11, HCC.out]
            rfl
          have hq10 : W5.heap[wr.heap.size]? = some (.cells CC 34) := (hc5.block wr.heap.size (by omega) (by omega)).trans hr10
          have hcr5 : Chg wr W5 (fun _ => False) := by
            have h1 := (HCW.out.trans (Chg.of_below hb4 (fun _ => False)) fun _ h => .inl h)
            exact ⟨hc5.os.trans h1.os, hc5.tape.trans h1.tape, hc5.output.trans h1.output, Nat.le_trans h1.size hc5.size, fun k hk hn => (hc5.block k (by omega) (by omega)).trans (h1.block k hk hn)⟩
          have hb5 : By W5 (.slice p4 n4 c4) bb := ho4.by_.chg hc5 (by
            rcases ho4 with ⟨e, hbb⟩ | ⟨g9, cap9, e, hB9, _⟩
            · exact .inl hbb
            · refine .inr fun k hk hk2 => ?_
              injection e with e1 e2 e3
              rw [e1] at hk
              injection hk with hk
              have := HSZ.out
              dsimp only at hk
              omega)
          have y4 := cell_of_row w4 (wr.heap.size + 1) 4 _ 34 (0, 0) hr11
          have yf4 := frozen_of_row w4 (wr.heap.size + 1) 4 _ 34 hr11
          rw [HCC.out] at y4
          have hP5 : Pr w W5 (fun i => wr.heap.size ≤ i ∧ i < W5.heap.size) (fun i => wr.heap.size ≤ i ∧ i < W5.heap.size) g s x s := by
            obtain ⟨S0, C0, Z0, R0, a1, a2, a3, a4, a5, a6, a7, a8⟩ := HR.out.new hcr5 (N := fun i => wr.heap.size ≤ i ∧ i < W5.heap.size) fun i hi => hi
            exact ⟨S0, C0, Z0, R0, a1, a2, a3, fun i hi => ⟨(a4 i (.inr hi)).1, hi⟩, fun i hi => a5 i (.inr hi), a6, a7, a8⟩
          obtain ⟨N, hN⟩ : ∃ N : Nat → Prop, (fun i => wr.heap.size ≤ i ∧ i < W5.heap.size) = N := ⟨_, rfl⟩
          rw [hN] at hP5
          have hN10 : N wr.heap.size := by rw [← hN]; exact ⟨Nat.le_refl _, by have := hc5.size; omega⟩
          have hN11 : N (wr.heap.size + 1) := by rw [← hN]; exact ⟨by omega, by have := hc5.size; omega⟩
          have hNw : ∀ i, N i → w.heap.size ≤ i := fun i hi => by rw [← hN] at hi; have h1 := hi.1; have h2 := HR.out.below.size; omega
          have hNlt : ∀ i, wr.heap.size ≤ i → i < W5.heap.size → N i := fun i h1 h2 => by rw [← hN]; exact ⟨h1, h2⟩
          obtain ⟨S1, C1, hD5, hpost⟩ := hP5.prog
          have hDOES := does_disk hD5 HQ.out (op := op) HI.out.h1 HI.out.h2 HI.out.h3 hb5 (by have := HB32.out; omega) HI.out.h4 HI.out.h5 HI.out.h6
          have HDOES := hide (hDOES.mono (R' := RKP w W5 N g (s.doer op nm.data.toList tt.data.toList at_ bb nn kk te).2 x s (s.doer op nm.data.toList tt.data.toList at_ bb nn kk te).1) fun e w' hp => ⟨hp.1, hpost _ _ hp.2⟩)
          unfold doV at HDOES
          have HQ10 := hide hq10
          have HQ11 := hide hq11
          have HN10 := hide hN10
          have HN11 := hide hN11
          have HNW := hide hNw
          have HNL := hide hNlt
          have HB5 := hide hb5
          have HCR5 := hide hcr5
          have z0 := cell_of_row W5 (wr.heap.size + 1) 0 _ 34 (0, 0) hq11
          have z1 := cell_of_row W5 (wr.heap.size + 1) 1 _ 34 (0, 0) hq11
          have z2 := cell_of_row W5 (wr.heap.size + 1) 2 _ 34 (0, 0) hq11
          have z3 := cell_of_row W5 (wr.heap.size + 1) 3 _ 34 (0, 0) hq11
          have z4 := cell_of_row W5 (wr.heap.size + 1) 4 _ 34 (0, 0) hq11
          have z5 := cell_of_row W5 (wr.heap.size + 1) 5 _ 34 (0, 0) hq11
          have z6 := cell_of_row W5 (wr.heap.size + 1) 6 _ 34 (0, 0) hq11
          have z7 := cell_of_row W5 (wr.heap.size + 1) 7 _ 34 (0, 0) hq11
          have hW59 := hW5.symm
          clear ho4 hb4 hn4 hr10 hr11 hc5 hq10 hq11 hcr5 hb5 hP5 hN hN10 hN11 hNw hNlt hD5 hpost hDOES hW5
          go_wp2_with fail
          refine HDOES.out.mono ?_
          rintro e w6 ⟨rfl, hP6, hc6⟩
          have HP6 := hide hP6
          have HC6 := hide hc6
          have HHQ := hide (show ∀ V, Chg W5 V (fun i => ¬ N i ∧ w.heap.size ≤ i) → V.heap[wr.heap.size]? = some (.cells #[.int .i64 op, .string nm, .string tt, .int .i64 at_, .slice qb mb cb, .int .i64 nn, .int .i64 kk, .int .i64 te] 34) ∧ V.heap[wr.heap.size + 1]? = some (.cells #[.int .i64 op, .string nm, .string tt, .int .i64 at_, .slice p4 n4 c4, .int .i64 nn, .int .i64 kk, .int .i64 te] 34) from fun V hV => by
            have h10 := (hV.block wr.heap.size (Array.getElem?_eq_some_iff.1 HQ10.out).1 fun h => h.1 HN10.out).trans HQ10.out
            have h11 := (hV.block (wr.heap.size + 1) (Array.getElem?_eq_some_iff.1 HQ11.out).1 fun h => h.1 HN11.out).trans HQ11.out
            rw [HCC.out] at h10
            exact ⟨h10, h11⟩)
          obtain ⟨r10, r11⟩ := HHQ.out _ HC6.out
          have x0 := cell_of_row w6 wr.heap.size 0 _ 34 (0, 0) r10
          have x1 := cell_of_row w6 wr.heap.size 1 _ 34 (0, 0) r10
          have x2 := cell_of_row w6 wr.heap.size 2 _ 34 (0, 0) r10
          have x3 := cell_of_row w6 wr.heap.size 3 _ 34 (0, 0) r10
          have x4 := cell_of_row w6 wr.heap.size 4 _ 34 (0, 0) r10
          have x5 := cell_of_row w6 wr.heap.size 5 _ 34 (0, 0) r10
          have x6 := cell_of_row w6 wr.heap.size 6 _ 34 (0, 0) r10
          have x7 := cell_of_row w6 wr.heap.size 7 _ 34 (0, 0) r10
          obtain ⟨Z6, R6, hR6, hpost6⟩ := hP6.ref
          have HRQ := hide (⟨hR6, HR.out.ok, HQ.out⟩ : Rq w6 Z6 R6 x s)
          have HARG := hide (show ∀ V, Chg W5 V (fun i => ¬ N i ∧ w.heap.size ≤ i) → By V (.slice qb mb cb) bb from fun V hV => by
            have h1 : Chg w V (fun i => w.heap.size ≤ i) := ((Chg.of_below HR.out.below (fun i => w.heap.size ≤ i)).trans HCR5.out fun _ h => h.elim).trans hV fun i hi => .inl hi.2
            refine HBW0.out.chg h1 ?_
            by_cases hbb : bb = []
            · exact .inl hbb
            · exact .inr fun k hk h => by have := HBW0.out.lt_of hbb k hk; omega)
          have HBA := hide (HARG.out _ HC6.out)
          obtain ⟨c', s', hds⟩ : ∃ c' s', s.doer op nm.data.toList tt.data.toList at_ bb nn kk te = (c', s') := ⟨_, _, rfl⟩
          have HPX := hide (show ∀ t' w', RPost w6 Z6 R6 x t' w' → Pr w w' N N g s' x t' ∧ Chg w6 w' (fun i => ¬ N i ∧ w.heap.size ≤ i) from fun t' w' hp => by have h := hpost6 t' w' hp; rw [hds] at h; exact h)
          have HDS := hide hds
          have hsuc2 : (s.step ⟨op, nm, tt, at_, bb, nn, kk, te⟩).2 = s' := by unfold Dk.step; rw [hds]
          rw [hsuc2] at HSUC HSTC HSTN
          have hs5 : w4.heap.size ≤ W5.heap.size := by rw [hW59.symm]; exact (rchg_set _ _ _ _).size
          have HOB := hide (show bb = [] ∨ ∀ k, (Value.slice p4 n4 c4).ownBlock = some k → N k from (own_block HO4.out).imp id fun h k hk => HNL.out k (by have := (h k hk).1; have := HSZ.out; omega) (by have := (h k hk).2; omega))
          have HBK := hide (show ∀ k, (Value.slice p4 n4 c4).ownBlock = some k → wr.heap.size + 1 < k from fun k hk => by have := own_ge HO4.out k hk; have := HSZ.out; omega)
          have HO5 := hide (show Own W2.heap.size W5 (.slice p4 n4 c4) bb from by
            rw [← hW59]
            exact own_chg HO4.out (rchg_set _ _ _ _) fun k hk e => by have := HBK.out k hk; omega)
          rw [hds]
          dsimp only
          clear hP6 hc6 r10 r11 hR6 hpost6 z0 z1 z2 z3 z4 z5 z6 z7 hW59 hW9 e0 e1 e2 e3 e4 e5 e6 e7 y4 yf4 b4 hsuc2 hds HDOES HCLN hs5
          obtain ⟨kd, hkd⟩ : ∃ kd, wrap64 ((IntKind.u64.wrap op).tmod 10) = kd := ⟨_, rfl⟩
          have HREF : Hid (∀ (f : Nat) (args : Array Value) (c0 : Nat) (s0 : Dk), (c0, s0) = (c', s') → Calls Try.prog f args w6 (fun e w' => e = .returned (.int .i64 (c0 : Nat)) ∧ RPost w6 Z6 R6 x s0 w') → Calls Try.prog f args w6 (fun e w' => e = .returned (.int .i64 (c' : Nat)) ∧ Pr w w' N N g s' x s' ∧ Chg w6 w' (fun i => ¬ N i ∧ w.heap.size ≤ i))) := hide fun f args c0 s0 he hcall => by
            injection he with h1 h2
            subst h1 h2
            exact hcall.mono fun e w' hp => ⟨hp.1, HPX.out _ _ hp.2⟩
          have hcase : kd = 3 ∨ kd = 4 ∨ kd = 5 ∨ kd = 6 ∨ kd = 7 ∨ kd = 8 ∨ kd = 9 ∨ (kd ≠ 3 ∧ kd ≠ 4 ∧ kd ≠ 5 ∧ kd ≠ 6 ∧ kd ≠ 7 ∧ kd ≠ 8 ∧ kd ≠ 9) := by omega
          rcases hcase with rfl | rfl | rfl | rfl | rfl | rfl | rfl | ⟨d3, d4, d5, d6, d7, d8, d9⟩
          · have hd9 : s.trim nm.data.toList at_ = (c', s') := by
              have h := HDS.out
              unfold Dk.doer kind at h
              rw [hkd] at h
              simpa using h
            have HX := hide (HREF.out _ _ _ _ hd9 (rtrim_any HRQ.out HI.out.h1 HI.out.h3.2 HI.out.h3.1))
            clear hd9 HREF
            go_wp2_with fail
            refine HX.out.mono ?_
            rintro e w7 ⟨rfl, hP7, hc7⟩
            have HP7 := hide hP7
            have HC7 := hide (HC6.out.trans hc7 fun i hi => .inl hi)
            clear hP7 hc7 HX HRQ HBA x0 x1 x2 x3 x4 x5 x6 x7 hkd
            obtain ⟨s10, s11⟩ := HHQ.out _ HC7.out
            have y1 := cell_of_row w7 wr.heap.size 1 _ 34 (0, 0) s10
            have y4 := cell_of_row w7 wr.heap.size 4 _ 34 (0, 0) s10
            have z4 := cell_of_row w7 (wr.heap.size + 1) 4 _ 34 (0, 0) s11
            have HS10 := hide s10
            have HS11 := hide s11
            have HEQ := hide (equal_any (HB5.out.chg HC7.out (HOB.out.imp id fun h k hk h2 => h2.1 (h k hk))) (HARG.out _ HC7.out))
            rw [show ((bb == bb) : Bool) = true from beq_self_eq_true _] at HEQ
            have HO7 : Hid (∃ l' : List UInt8, l'.length = n4 ∧ Own W2.heap.size w7 (.slice p4 n4 c4) l') := hide (by
              rcases HOB.out with h | h
              · refine ⟨[], by rw [HN4.out, h], ?_⟩
                rcases HO5.out with ⟨e, _⟩ | ⟨g9, cap9, e, h1, h2, h3, h4, h5, h6⟩
                · exact .inl ⟨e, rfl⟩
                · rw [e]
                  by_cases hc9 : cap9 = 0
                  · subst hc9
                    rw [h]
                    exact .inr ⟨g9, 0, rfl, h1, Nat.le_refl _, h3, fun i x hx => by simp at hx, fun i hi => by omega, fun i hi => by omega⟩
                  · obtain ⟨u, hu⟩ := Option.isSome_iff_exists.1 (h5 0 (by omega))
                    have hg := lt_of_cell hu
                    dsimp only at hg
                    have hNg : N g9 := HNL.out g9 (by have := HSZ.out; omega) hg
                    have := own_chg (.inr ⟨g9, cap9, rfl, h1, h2, h3, h4, h5, h6⟩ : Own W2.heap.size W5 _ bb) HC7.out fun k hk h9 => by
                      injection hk with hk
                      dsimp only at hk
                      subst hk
                      exact h9.1 hNg
                    rw [h] at this ⊢
                    exact this
              · exact ⟨bb, HN4.out.symm, own_chg HO5.out HC7.out fun k hk h9 => h9.1 (h k hk)⟩)
            have hn4 : (n4 : Int) ≤ 32768 := by have := HN4.out; have := HB32.out; omega
            clear s10 s11
            go_wp2_with fail
            refine HEQ.out.mono ?_
            rintro e w8 ⟨rfl, rfl⟩
            obtain ⟨T, hT⟩ : ∃ T : Nat → Prop, T = (fun i => N i ∧ wr.heap.size + 1 < i) := ⟨_, rfl⟩
            have HTN := hide (show ∀ i, T i → N i from fun i hi => by rw [hT] at hi; exact hi.1)
            have HBX := hide (show ∀ V, Chg w7 V T → V.heap[wr.heap.size]? = some (.cells #[.int .i64 op, .string nm, .string tt, .int .i64 at_, .slice qb mb cb, .int .i64 nn, .int .i64 kk, .int .i64 te] 34) ∧ V.heap[wr.heap.size + 1]? = some (.cells #[.int .i64 op, .string nm, .string tt, .int .i64 at_, .slice p4 n4 c4, .int .i64 nn, .int .i64 kk, .int .i64 te] 34) from fun V hV => by
              have h1 := hV.block wr.heap.size (Array.getElem?_eq_some_iff.1 HS10.out).1 (fun h => by rw [hT] at h; omega)
              have h2 := hV.block (wr.heap.size + 1) (Array.getElem?_eq_some_iff.1 HS11.out).1 (fun h => by rw [hT] at h; omega)
              exact ⟨h1.trans HS10.out, h2.trans HS11.out⟩)
            have HBXC := hide (show ∀ V, Chg w7 V T → V.cell? ⟨wr.heap.size + 1, 4, none⟩ = some (.slice p4 n4 c4) ∧ V.cell? ⟨wr.heap.size, 1, none⟩ = some (.string nm) from fun V hV => by
              obtain ⟨h1, h2⟩ := HBX.out V hV
              exact ⟨cell_of_row V (wr.heap.size + 1) 4 _ 34 (0, 0) h2, cell_of_row V wr.heap.size 1 _ 34 (0, 0) h1⟩)
            have HSTP := hide (show ∀ (V : World) (l' : List UInt8) (k : Nat), Chg w7 V T → l'.length = n4 → Own W2.heap.size V (.slice p4 n4 c4) l' → k < n4 → ∃ (gg : Nat) (y : UInt8), p4 = some ⟨gg, 0, none⟩ ∧ V.cell? ⟨gg, k, none⟩ = some (.int .u8 (y.toNat : Int)) ∧ V.frozen? ⟨gg, k, none⟩ = false ∧
                Hid ((∃ l2 : List UInt8, l2.length = n4 ∧ Own W2.heap.size (V.setCell ⟨gg, k, none⟩ (.int .u8 (bits BinOp.xor IntKind.u8 (y.toNat : Int) 255))) (.slice p4 n4 c4) l2) ∧ Chg w7 (V.setCell ⟨gg, k, none⟩ (.int .u8 (bits BinOp.xor IntKind.u8 (y.toNat : Int) 255))) T) from fun V l' k hV hl' hO hk => by
              obtain ⟨gg, y, e1, e2, e3, e4, l2, e5, e6⟩ := own_set hO hk
              have hNg : N gg := by
                rcases HOB.out with h | h
                · have := HN4.out
                  rw [h] at this
                  simp at this
                  omega
                · exact h gg (by rw [e1]; rfl)
              refine ⟨gg, y, e1, e3, e4, hide ⟨⟨l2, by omega, e6⟩, hV.trans (rchg_set V gg k _) fun i hi => ?_⟩⟩
              rw [hi, hT]
              exact .inl ⟨hNg, by have := HSZ.out; omega⟩)
            have HC7T := hide (Chg.refl w7 T)
            go_wp2_with fail
            go_loopw [15, 131] (fun _ i wr2 => ∃ k : Nat, k ≤ n4 ∧ i = .int .i64 k ∧ Hid ((∃ l' : List UInt8, l'.length = n4 ∧ Own W2.heap.size wr2 (.slice p4 n4 c4) l') ∧ Chg w7 wr2 T)) (fun _ i _ => n4 - (intOf i).toNat)
            case atStart => exact ⟨0, Nat.zero_le _, rfl, hide ⟨HO7.out, HC7T.out⟩⟩
            case round =>
              obtain ⟨k, hk, rfl, hrel⟩ := hrel
              obtain ⟨⟨l2, hl2, hO2⟩, hcT⟩ := hrel.out
              have HCT := hide hcT
              obtain ⟨v4, v1⟩ := HBXC.out _ hcT
              by_cases hkn : (k : Int) < (n4 : Int)
              · obtain ⟨gg, y, rfl, v5, v6, hnx⟩ := HSTP.out _ l2 k hcT hl2 hO2 (by omega)
                clear hO2 hcT hrel hl2
                go_wp2
                go_roundw
                case rel => exact ⟨k + 1, by omega, by go_num, hnx⟩
                case measure => simp [intOf]; omega
              · have hP8 := HP7.out.mut (hcT.mono HTN.out) (fun i hi => HNW.out i hi)
                have HP8 := hide hP8
                have hcal := HSTC.out.calm (by omega)
                have HCAL := hide hcal
                obtain ⟨S8, C8, hD8, _⟩ := HP8.out.prog
                have HRD := hide (read_call hD8 HI.out.h1)
                obtain ⟨E9, hE9⟩ : ∃ E9 : Nat, s'.readE nm.data.toList = E9 := ⟨_, rfl⟩
                obtain ⟨B9, hB9⟩ : ∃ B9, s'.readB nm.data.toList = B9 := ⟨_, rfl⟩
                have HE9 := hide hE9
                have HB9 := hide hB9
                rw [hE9, hB9] at HRD
                clear hO2 hrel hl2 hcT hP8 hcal hD8 hE9 hB9
                go_wp2_with fail
                refine HRD.out.mono ?_
                rintro e w9 ⟨v9, rfl, hr9, hb9⟩
                obtain ⟨p9, n9, c9, rfl⟩ := (by_row hr9).sl
                have v1b := (hb9.cell (lt_of_cell v1)).trans v1
                have HP9 := hide (HP8.out.at (Chg.of_below hb9 _))
                have HR9 := hide (by_row hr9)
                obtain ⟨Z9, R9, hR9, _⟩ := HP9.out.ref
                have HRR := hide (rread_any (⟨hR9, HP9.out.ok, HCAL.out⟩ : Rq w9 Z9 R9 x s') (s := nm) HI.out.h1)
                clear hr9 hb9 hR9
                go_wp2_with fail
                refine HRR.out.mono ?_
                rintro e w10 ⟨p10, n10, c10, rfl, hb10, hc10⟩
                rw [HB9.out] at hb10
                rw [HE9.out]
                have heq10 := equal_any (HR9.out.chg hc10 (.inr fun _ _ h => h)) hb10
                rw [show ((B9 == B9) : Bool) = true from beq_self_eq_true _] at heq10
                have HEQ10 := hide heq10
                have HP10 := hide (HP9.out.at hc10)
                have HAL := hide (ralike_any HP10.out HSTN.out HCAL.out)
                clear hb10 hc10 heq10 v1 v4 v1b
                go_wp2_with fail
                refine HEQ10.out.mono ?_
                rintro e w11 ⟨rfl, rfl⟩
                go_wp2_with fail
                refine HAL.out.mono ?_
                rintro e w12 ⟨rfl, hc12⟩
                have HP12 := hide (HP10.out.at hc12).drop
                clear hc12
                go_wp2
                go_roundw
                case rel => exact ⟨j + 1, by omega, by go_num, hide (by rw [HSUC.out]; exact HP12.out)⟩
                case measure => simp [intOf]; omega
          · have hd9 : s.move nm.data.toList tt.data.toList = (c', s') := by
              have h := HDS.out
              unfold Dk.doer kind at h
              rw [hkd] at h
              simpa using h
            have HX := hide (HREF.out _ _ _ _ hd9 (rmove_any HRQ.out HI.out.h1 HI.out.h2))
            clear hd9 HREF
            go_wp2_with fail
            refine HX.out.mono ?_
            rintro e w7 ⟨rfl, hP7, hc7⟩
            have HP7 := hide hP7
            have HC7 := hide (HC6.out.trans hc7 fun i hi => .inl hi)
            clear hP7 hc7 HX HRQ HBA x0 x1 x2 x3 x4 x5 x6 x7 hkd
            obtain ⟨s10, s11⟩ := HHQ.out _ HC7.out
            have y1 := cell_of_row w7 wr.heap.size 1 _ 34 (0, 0) s10
            have y4 := cell_of_row w7 wr.heap.size 4 _ 34 (0, 0) s10
            have z4 := cell_of_row w7 (wr.heap.size + 1) 4 _ 34 (0, 0) s11
            have HS10 := hide s10
            have HS11 := hide s11
            have HEQ := hide (equal_any (HB5.out.chg HC7.out (HOB.out.imp id fun h k hk h2 => h2.1 (h k hk))) (HARG.out _ HC7.out))
            rw [show ((bb == bb) : Bool) = true from beq_self_eq_true _] at HEQ
            have HO7 : Hid (∃ l' : List UInt8, l'.length = n4 ∧ Own W2.heap.size w7 (.slice p4 n4 c4) l') := hide (by
              rcases HOB.out with h | h
              · refine ⟨[], by rw [HN4.out, h], ?_⟩
                rcases HO5.out with ⟨e, _⟩ | ⟨g9, cap9, e, h1, h2, h3, h4, h5, h6⟩
                · exact .inl ⟨e, rfl⟩
                · rw [e]
                  by_cases hc9 : cap9 = 0
                  · subst hc9
                    rw [h]
                    exact .inr ⟨g9, 0, rfl, h1, Nat.le_refl _, h3, fun i x hx => by simp at hx, fun i hi => by omega, fun i hi => by omega⟩
                  · obtain ⟨u, hu⟩ := Option.isSome_iff_exists.1 (h5 0 (by omega))
                    have hg := lt_of_cell hu
                    dsimp only at hg
                    have hNg : N g9 := HNL.out g9 (by have := HSZ.out; omega) hg
                    have := own_chg (.inr ⟨g9, cap9, rfl, h1, h2, h3, h4, h5, h6⟩ : Own W2.heap.size W5 _ bb) HC7.out fun k hk h9 => by
                      injection hk with hk
                      dsimp only at hk
                      subst hk
                      exact h9.1 hNg
                    rw [h] at this ⊢
                    exact this
              · exact ⟨bb, HN4.out.symm, own_chg HO5.out HC7.out fun k hk h9 => h9.1 (h k hk)⟩)
            have hn4 : (n4 : Int) ≤ 32768 := by have := HN4.out; have := HB32.out; omega
            clear s10 s11
            go_wp2_with fail
            refine HEQ.out.mono ?_
            rintro e w8 ⟨rfl, rfl⟩
            obtain ⟨T, hT⟩ : ∃ T : Nat → Prop, T = (fun i => N i ∧ wr.heap.size + 1 < i) := ⟨_, rfl⟩
            have HTN := hide (show ∀ i, T i → N i from fun i hi => by rw [hT] at hi; exact hi.1)
            have HBX := hide (show ∀ V, Chg w7 V T → V.heap[wr.heap.size]? = some (.cells #[.int .i64 op, .string nm, .string tt, .int .i64 at_, .slice qb mb cb, .int .i64 nn, .int .i64 kk, .int .i64 te] 34) ∧ V.heap[wr.heap.size + 1]? = some (.cells #[.int .i64 op, .string nm, .string tt, .int .i64 at_, .slice p4 n4 c4, .int .i64 nn, .int .i64 kk, .int .i64 te] 34) from fun V hV => by
              have h1 := hV.block wr.heap.size (Array.getElem?_eq_some_iff.1 HS10.out).1 (fun h => by rw [hT] at h; omega)
              have h2 := hV.block (wr.heap.size + 1) (Array.getElem?_eq_some_iff.1 HS11.out).1 (fun h => by rw [hT] at h; omega)
              exact ⟨h1.trans HS10.out, h2.trans HS11.out⟩)
            have HBXC := hide (show ∀ V, Chg w7 V T → V.cell? ⟨wr.heap.size + 1, 4, none⟩ = some (.slice p4 n4 c4) ∧ V.cell? ⟨wr.heap.size, 1, none⟩ = some (.string nm) from fun V hV => by
              obtain ⟨h1, h2⟩ := HBX.out V hV
              exact ⟨cell_of_row V (wr.heap.size + 1) 4 _ 34 (0, 0) h2, cell_of_row V wr.heap.size 1 _ 34 (0, 0) h1⟩)
            have HSTP := hide (show ∀ (V : World) (l' : List UInt8) (k : Nat), Chg w7 V T → l'.length = n4 → Own W2.heap.size V (.slice p4 n4 c4) l' → k < n4 → ∃ (gg : Nat) (y : UInt8), p4 = some ⟨gg, 0, none⟩ ∧ V.cell? ⟨gg, k, none⟩ = some (.int .u8 (y.toNat : Int)) ∧ V.frozen? ⟨gg, k, none⟩ = false ∧
                Hid ((∃ l2 : List UInt8, l2.length = n4 ∧ Own W2.heap.size (V.setCell ⟨gg, k, none⟩ (.int .u8 (bits BinOp.xor IntKind.u8 (y.toNat : Int) 255))) (.slice p4 n4 c4) l2) ∧ Chg w7 (V.setCell ⟨gg, k, none⟩ (.int .u8 (bits BinOp.xor IntKind.u8 (y.toNat : Int) 255))) T) from fun V l' k hV hl' hO hk => by
              obtain ⟨gg, y, e1, e2, e3, e4, l2, e5, e6⟩ := own_set hO hk
              have hNg : N gg := by
                rcases HOB.out with h | h
                · have := HN4.out
                  rw [h] at this
                  simp at this
                  omega
                · exact h gg (by rw [e1]; rfl)
              refine ⟨gg, y, e1, e3, e4, hide ⟨⟨l2, by omega, e6⟩, hV.trans (rchg_set V gg k _) fun i hi => ?_⟩⟩
              rw [hi, hT]
              exact .inl ⟨hNg, by have := HSZ.out; omega⟩)
            have HC7T := hide (Chg.refl w7 T)
            go_wp2_with fail
            go_loopw [15, 131] (fun _ i wr2 => ∃ k : Nat, k ≤ n4 ∧ i = .int .i64 k ∧ Hid ((∃ l' : List UInt8, l'.length = n4 ∧ Own W2.heap.size wr2 (.slice p4 n4 c4) l') ∧ Chg w7 wr2 T)) (fun _ i _ => n4 - (intOf i).toNat)
            case atStart => exact ⟨0, Nat.zero_le _, rfl, hide ⟨HO7.out, HC7T.out⟩⟩
            case round =>
              obtain ⟨k, hk, rfl, hrel⟩ := hrel
              obtain ⟨⟨l2, hl2, hO2⟩, hcT⟩ := hrel.out
              have HCT := hide hcT
              obtain ⟨v4, v1⟩ := HBXC.out _ hcT
              by_cases hkn : (k : Int) < (n4 : Int)
              · obtain ⟨gg, y, rfl, v5, v6, hnx⟩ := HSTP.out _ l2 k hcT hl2 hO2 (by omega)
                clear hO2 hcT hrel hl2
                go_wp2
                go_roundw
                case rel => exact ⟨k + 1, by omega, by go_num, hnx⟩
                case measure => simp [intOf]; omega
              · have hP8 := HP7.out.mut (hcT.mono HTN.out) (fun i hi => HNW.out i hi)
                have HP8 := hide hP8
                have hcal := HSTC.out.calm (by omega)
                have HCAL := hide hcal
                obtain ⟨S8, C8, hD8, _⟩ := HP8.out.prog
                have HRD := hide (read_call hD8 HI.out.h1)
                obtain ⟨E9, hE9⟩ : ∃ E9 : Nat, s'.readE nm.data.toList = E9 := ⟨_, rfl⟩
                obtain ⟨B9, hB9⟩ : ∃ B9, s'.readB nm.data.toList = B9 := ⟨_, rfl⟩
                have HE9 := hide hE9
                have HB9 := hide hB9
                rw [hE9, hB9] at HRD
                clear hO2 hrel hl2 hcT hP8 hcal hD8 hE9 hB9
                go_wp2_with fail
                refine HRD.out.mono ?_
                rintro e w9 ⟨v9, rfl, hr9, hb9⟩
                obtain ⟨p9, n9, c9, rfl⟩ := (by_row hr9).sl
                have v1b := (hb9.cell (lt_of_cell v1)).trans v1
                have HP9 := hide (HP8.out.at (Chg.of_below hb9 _))
                have HR9 := hide (by_row hr9)
                obtain ⟨Z9, R9, hR9, _⟩ := HP9.out.ref
                have HRR := hide (rread_any (⟨hR9, HP9.out.ok, HCAL.out⟩ : Rq w9 Z9 R9 x s') (s := nm) HI.out.h1)
                clear hr9 hb9 hR9
                go_wp2_with fail
                refine HRR.out.mono ?_
                rintro e w10 ⟨p10, n10, c10, rfl, hb10, hc10⟩
                rw [HB9.out] at hb10
                rw [HE9.out]
                have heq10 := equal_any (HR9.out.chg hc10 (.inr fun _ _ h => h)) hb10
                rw [show ((B9 == B9) : Bool) = true from beq_self_eq_true _] at heq10
                have HEQ10 := hide heq10
                have HP10 := hide (HP9.out.at hc10)
                have HAL := hide (ralike_any HP10.out HSTN.out HCAL.out)
                clear hb10 hc10 heq10 v1 v4 v1b
                go_wp2_with fail
                refine HEQ10.out.mono ?_
                rintro e w11 ⟨rfl, rfl⟩
                go_wp2_with fail
                refine HAL.out.mono ?_
                rintro e w12 ⟨rfl, hc12⟩
                have HP12 := hide (HP10.out.at hc12).drop
                clear hc12
                go_wp2
                go_roundw
                case rel => exact ⟨j + 1, by omega, by go_num, hide (by rw [HSUC.out]; exact HP12.out)⟩
                case measure => simp [intOf]; omega
          · have hd9 : s.drop nm.data.toList = (c', s') := by
              have h := HDS.out
              unfold Dk.doer kind at h
              rw [hkd] at h
              simpa using h
            have HX := hide (HREF.out _ _ _ _ hd9 (rdrop_any HRQ.out HI.out.h1))
            clear hd9 HREF
            go_wp2_with fail
            refine HX.out.mono ?_
            rintro e w7 ⟨rfl, hP7, hc7⟩
            have HP7 := hide hP7
            have HC7 := hide (HC6.out.trans hc7 fun i hi => .inl hi)
            clear hP7 hc7 HX HRQ HBA x0 x1 x2 x3 x4 x5 x6 x7 hkd
            obtain ⟨s10, s11⟩ := HHQ.out _ HC7.out
            have y1 := cell_of_row w7 wr.heap.size 1 _ 34 (0, 0) s10
            have y4 := cell_of_row w7 wr.heap.size 4 _ 34 (0, 0) s10
            have z4 := cell_of_row w7 (wr.heap.size + 1) 4 _ 34 (0, 0) s11
            have HS10 := hide s10
            have HS11 := hide s11
            have HEQ := hide (equal_any (HB5.out.chg HC7.out (HOB.out.imp id fun h k hk h2 => h2.1 (h k hk))) (HARG.out _ HC7.out))
            rw [show ((bb == bb) : Bool) = true from beq_self_eq_true _] at HEQ
            have HO7 : Hid (∃ l' : List UInt8, l'.length = n4 ∧ Own W2.heap.size w7 (.slice p4 n4 c4) l') := hide (by
              rcases HOB.out with h | h
              · refine ⟨[], by rw [HN4.out, h], ?_⟩
                rcases HO5.out with ⟨e, _⟩ | ⟨g9, cap9, e, h1, h2, h3, h4, h5, h6⟩
                · exact .inl ⟨e, rfl⟩
                · rw [e]
                  by_cases hc9 : cap9 = 0
                  · subst hc9
                    rw [h]
                    exact .inr ⟨g9, 0, rfl, h1, Nat.le_refl _, h3, fun i x hx => by simp at hx, fun i hi => by omega, fun i hi => by omega⟩
                  · obtain ⟨u, hu⟩ := Option.isSome_iff_exists.1 (h5 0 (by omega))
                    have hg := lt_of_cell hu
                    dsimp only at hg
                    have hNg : N g9 := HNL.out g9 (by have := HSZ.out; omega) hg
                    have := own_chg (.inr ⟨g9, cap9, rfl, h1, h2, h3, h4, h5, h6⟩ : Own W2.heap.size W5 _ bb) HC7.out fun k hk h9 => by
                      injection hk with hk
                      dsimp only at hk
                      subst hk
                      exact h9.1 hNg
                    rw [h] at this ⊢
                    exact this
              · exact ⟨bb, HN4.out.symm, own_chg HO5.out HC7.out fun k hk h9 => h9.1 (h k hk)⟩)
            have hn4 : (n4 : Int) ≤ 32768 := by have := HN4.out; have := HB32.out; omega
            clear s10 s11
            go_wp2_with fail
            refine HEQ.out.mono ?_
            rintro e w8 ⟨rfl, rfl⟩
            obtain ⟨T, hT⟩ : ∃ T : Nat → Prop, T = (fun i => N i ∧ wr.heap.size + 1 < i) := ⟨_, rfl⟩
            have HTN := hide (show ∀ i, T i → N i from fun i hi => by rw [hT] at hi; exact hi.1)
            have HBX := hide (show ∀ V, Chg w7 V T → V.heap[wr.heap.size]? = some (.cells #[.int .i64 op, .string nm, .string tt, .int .i64 at_, .slice qb mb cb, .int .i64 nn, .int .i64 kk, .int .i64 te] 34) ∧ V.heap[wr.heap.size + 1]? = some (.cells #[.int .i64 op, .string nm, .string tt, .int .i64 at_, .slice p4 n4 c4, .int .i64 nn, .int .i64 kk, .int .i64 te] 34) from fun V hV => by
              have h1 := hV.block wr.heap.size (Array.getElem?_eq_some_iff.1 HS10.out).1 (fun h => by rw [hT] at h; omega)
              have h2 := hV.block (wr.heap.size + 1) (Array.getElem?_eq_some_iff.1 HS11.out).1 (fun h => by rw [hT] at h; omega)
              exact ⟨h1.trans HS10.out, h2.trans HS11.out⟩)
            have HBXC := hide (show ∀ V, Chg w7 V T → V.cell? ⟨wr.heap.size + 1, 4, none⟩ = some (.slice p4 n4 c4) ∧ V.cell? ⟨wr.heap.size, 1, none⟩ = some (.string nm) from fun V hV => by
              obtain ⟨h1, h2⟩ := HBX.out V hV
              exact ⟨cell_of_row V (wr.heap.size + 1) 4 _ 34 (0, 0) h2, cell_of_row V wr.heap.size 1 _ 34 (0, 0) h1⟩)
            have HSTP := hide (show ∀ (V : World) (l' : List UInt8) (k : Nat), Chg w7 V T → l'.length = n4 → Own W2.heap.size V (.slice p4 n4 c4) l' → k < n4 → ∃ (gg : Nat) (y : UInt8), p4 = some ⟨gg, 0, none⟩ ∧ V.cell? ⟨gg, k, none⟩ = some (.int .u8 (y.toNat : Int)) ∧ V.frozen? ⟨gg, k, none⟩ = false ∧
                Hid ((∃ l2 : List UInt8, l2.length = n4 ∧ Own W2.heap.size (V.setCell ⟨gg, k, none⟩ (.int .u8 (bits BinOp.xor IntKind.u8 (y.toNat : Int) 255))) (.slice p4 n4 c4) l2) ∧ Chg w7 (V.setCell ⟨gg, k, none⟩ (.int .u8 (bits BinOp.xor IntKind.u8 (y.toNat : Int) 255))) T) from fun V l' k hV hl' hO hk => by
              obtain ⟨gg, y, e1, e2, e3, e4, l2, e5, e6⟩ := own_set hO hk
              have hNg : N gg := by
                rcases HOB.out with h | h
                · have := HN4.out
                  rw [h] at this
                  simp at this
                  omega
                · exact h gg (by rw [e1]; rfl)
              refine ⟨gg, y, e1, e3, e4, hide ⟨⟨l2, by omega, e6⟩, hV.trans (rchg_set V gg k _) fun i hi => ?_⟩⟩
              rw [hi, hT]
              exact .inl ⟨hNg, by have := HSZ.out; omega⟩)
            have HC7T := hide (Chg.refl w7 T)
            go_wp2_with fail
            go_loopw [15, 131] (fun _ i wr2 => ∃ k : Nat, k ≤ n4 ∧ i = .int .i64 k ∧ Hid ((∃ l' : List UInt8, l'.length = n4 ∧ Own W2.heap.size wr2 (.slice p4 n4 c4) l') ∧ Chg w7 wr2 T)) (fun _ i _ => n4 - (intOf i).toNat)
            case atStart => exact ⟨0, Nat.zero_le _, rfl, hide ⟨HO7.out, HC7T.out⟩⟩
            case round =>
              obtain ⟨k, hk, rfl, hrel⟩ := hrel
              obtain ⟨⟨l2, hl2, hO2⟩, hcT⟩ := hrel.out
              have HCT := hide hcT
              obtain ⟨v4, v1⟩ := HBXC.out _ hcT
              by_cases hkn : (k : Int) < (n4 : Int)
              · obtain ⟨gg, y, rfl, v5, v6, hnx⟩ := HSTP.out _ l2 k hcT hl2 hO2 (by omega)
                clear hO2 hcT hrel hl2
                go_wp2
                go_roundw
                case rel => exact ⟨k + 1, by omega, by go_num, hnx⟩
                case measure => simp [intOf]; omega
              · have hP8 := HP7.out.mut (hcT.mono HTN.out) (fun i hi => HNW.out i hi)
                have HP8 := hide hP8
                have hcal := HSTC.out.calm (by omega)
                have HCAL := hide hcal
                obtain ⟨S8, C8, hD8, _⟩ := HP8.out.prog
                have HRD := hide (read_call hD8 HI.out.h1)
                obtain ⟨E9, hE9⟩ : ∃ E9 : Nat, s'.readE nm.data.toList = E9 := ⟨_, rfl⟩
                obtain ⟨B9, hB9⟩ : ∃ B9, s'.readB nm.data.toList = B9 := ⟨_, rfl⟩
                have HE9 := hide hE9
                have HB9 := hide hB9
                rw [hE9, hB9] at HRD
                clear hO2 hrel hl2 hcT hP8 hcal hD8 hE9 hB9
                go_wp2_with fail
                refine HRD.out.mono ?_
                rintro e w9 ⟨v9, rfl, hr9, hb9⟩
                obtain ⟨p9, n9, c9, rfl⟩ := (by_row hr9).sl
                have v1b := (hb9.cell (lt_of_cell v1)).trans v1
                have HP9 := hide (HP8.out.at (Chg.of_below hb9 _))
                have HR9 := hide (by_row hr9)
                obtain ⟨Z9, R9, hR9, _⟩ := HP9.out.ref
                have HRR := hide (rread_any (⟨hR9, HP9.out.ok, HCAL.out⟩ : Rq w9 Z9 R9 x s') (s := nm) HI.out.h1)
                clear hr9 hb9 hR9
                go_wp2_with fail
                refine HRR.out.mono ?_
                rintro e w10 ⟨p10, n10, c10, rfl, hb10, hc10⟩
                rw [HB9.out] at hb10
                rw [HE9.out]
                have heq10 := equal_any (HR9.out.chg hc10 (.inr fun _ _ h => h)) hb10
                rw [show ((B9 == B9) : Bool) = true from beq_self_eq_true _] at heq10
                have HEQ10 := hide heq10
                have HP10 := hide (HP9.out.at hc10)
                have HAL := hide (ralike_any HP10.out HSTN.out HCAL.out)
                clear hb10 hc10 heq10 v1 v4 v1b
                go_wp2_with fail
                refine HEQ10.out.mono ?_
                rintro e w11 ⟨rfl, rfl⟩
                go_wp2_with fail
                refine HAL.out.mono ?_
                rintro e w12 ⟨rfl, hc12⟩
                have HP12 := hide (HP10.out.at hc12).drop
                clear hc12
                go_wp2
                go_roundw
                case rel => exact ⟨j + 1, by omega, by go_num, hide (by rw [HSUC.out]; exact HP12.out)⟩
                case measure => simp [intOf]; omega
          · have hd9 : s.sync = (c', s') := by
              have h := HDS.out
              unfold Dk.doer kind at h
              rw [hkd] at h
              simpa using h
            have HX := hide (HREF.out _ _ _ _ hd9 (rsync_any HRQ.out))
            clear hd9 HREF
            go_wp2_with fail
            refine HX.out.mono ?_
            rintro e w7 ⟨rfl, hP7, hc7⟩
            have HP7 := hide hP7
            have HC7 := hide (HC6.out.trans hc7 fun i hi => .inl hi)
            clear hP7 hc7 HX HRQ HBA x0 x1 x2 x3 x4 x5 x6 x7 hkd
            obtain ⟨s10, s11⟩ := HHQ.out _ HC7.out
            have y1 := cell_of_row w7 wr.heap.size 1 _ 34 (0, 0) s10
            have y4 := cell_of_row w7 wr.heap.size 4 _ 34 (0, 0) s10
            have z4 := cell_of_row w7 (wr.heap.size + 1) 4 _ 34 (0, 0) s11
            have HS10 := hide s10
            have HS11 := hide s11
            have HEQ := hide (equal_any (HB5.out.chg HC7.out (HOB.out.imp id fun h k hk h2 => h2.1 (h k hk))) (HARG.out _ HC7.out))
            rw [show ((bb == bb) : Bool) = true from beq_self_eq_true _] at HEQ
            have HO7 : Hid (∃ l' : List UInt8, l'.length = n4 ∧ Own W2.heap.size w7 (.slice p4 n4 c4) l') := hide (by
              rcases HOB.out with h | h
              · refine ⟨[], by rw [HN4.out, h], ?_⟩
                rcases HO5.out with ⟨e, _⟩ | ⟨g9, cap9, e, h1, h2, h3, h4, h5, h6⟩
                · exact .inl ⟨e, rfl⟩
                · rw [e]
                  by_cases hc9 : cap9 = 0
                  · subst hc9
                    rw [h]
                    exact .inr ⟨g9, 0, rfl, h1, Nat.le_refl _, h3, fun i x hx => by simp at hx, fun i hi => by omega, fun i hi => by omega⟩
                  · obtain ⟨u, hu⟩ := Option.isSome_iff_exists.1 (h5 0 (by omega))
                    have hg := lt_of_cell hu
                    dsimp only at hg
                    have hNg : N g9 := HNL.out g9 (by have := HSZ.out; omega) hg
                    have := own_chg (.inr ⟨g9, cap9, rfl, h1, h2, h3, h4, h5, h6⟩ : Own W2.heap.size W5 _ bb) HC7.out fun k hk h9 => by
                      injection hk with hk
                      dsimp only at hk
                      subst hk
                      exact h9.1 hNg
                    rw [h] at this ⊢
                    exact this
              · exact ⟨bb, HN4.out.symm, own_chg HO5.out HC7.out fun k hk h9 => h9.1 (h k hk)⟩)
            have hn4 : (n4 : Int) ≤ 32768 := by have := HN4.out; have := HB32.out; omega
            clear s10 s11
            go_wp2_with fail
            refine HEQ.out.mono ?_
            rintro e w8 ⟨rfl, rfl⟩
            obtain ⟨T, hT⟩ : ∃ T : Nat → Prop, T = (fun i => N i ∧ wr.heap.size + 1 < i) := ⟨_, rfl⟩
            have HTN := hide (show ∀ i, T i → N i from fun i hi => by rw [hT] at hi; exact hi.1)
            have HBX := hide (show ∀ V, Chg w7 V T → V.heap[wr.heap.size]? = some (.cells #[.int .i64 op, .string nm, .string tt, .int .i64 at_, .slice qb mb cb, .int .i64 nn, .int .i64 kk, .int .i64 te] 34) ∧ V.heap[wr.heap.size + 1]? = some (.cells #[.int .i64 op, .string nm, .string tt, .int .i64 at_, .slice p4 n4 c4, .int .i64 nn, .int .i64 kk, .int .i64 te] 34) from fun V hV => by
              have h1 := hV.block wr.heap.size (Array.getElem?_eq_some_iff.1 HS10.out).1 (fun h => by rw [hT] at h; omega)
              have h2 := hV.block (wr.heap.size + 1) (Array.getElem?_eq_some_iff.1 HS11.out).1 (fun h => by rw [hT] at h; omega)
              exact ⟨h1.trans HS10.out, h2.trans HS11.out⟩)
            have HBXC := hide (show ∀ V, Chg w7 V T → V.cell? ⟨wr.heap.size + 1, 4, none⟩ = some (.slice p4 n4 c4) ∧ V.cell? ⟨wr.heap.size, 1, none⟩ = some (.string nm) from fun V hV => by
              obtain ⟨h1, h2⟩ := HBX.out V hV
              exact ⟨cell_of_row V (wr.heap.size + 1) 4 _ 34 (0, 0) h2, cell_of_row V wr.heap.size 1 _ 34 (0, 0) h1⟩)
            have HSTP := hide (show ∀ (V : World) (l' : List UInt8) (k : Nat), Chg w7 V T → l'.length = n4 → Own W2.heap.size V (.slice p4 n4 c4) l' → k < n4 → ∃ (gg : Nat) (y : UInt8), p4 = some ⟨gg, 0, none⟩ ∧ V.cell? ⟨gg, k, none⟩ = some (.int .u8 (y.toNat : Int)) ∧ V.frozen? ⟨gg, k, none⟩ = false ∧
                Hid ((∃ l2 : List UInt8, l2.length = n4 ∧ Own W2.heap.size (V.setCell ⟨gg, k, none⟩ (.int .u8 (bits BinOp.xor IntKind.u8 (y.toNat : Int) 255))) (.slice p4 n4 c4) l2) ∧ Chg w7 (V.setCell ⟨gg, k, none⟩ (.int .u8 (bits BinOp.xor IntKind.u8 (y.toNat : Int) 255))) T) from fun V l' k hV hl' hO hk => by
              obtain ⟨gg, y, e1, e2, e3, e4, l2, e5, e6⟩ := own_set hO hk
              have hNg : N gg := by
                rcases HOB.out with h | h
                · have := HN4.out
                  rw [h] at this
                  simp at this
                  omega
                · exact h gg (by rw [e1]; rfl)
              refine ⟨gg, y, e1, e3, e4, hide ⟨⟨l2, by omega, e6⟩, hV.trans (rchg_set V gg k _) fun i hi => ?_⟩⟩
              rw [hi, hT]
              exact .inl ⟨hNg, by have := HSZ.out; omega⟩)
            have HC7T := hide (Chg.refl w7 T)
            go_wp2_with fail
            go_loopw [15, 131] (fun _ i wr2 => ∃ k : Nat, k ≤ n4 ∧ i = .int .i64 k ∧ Hid ((∃ l' : List UInt8, l'.length = n4 ∧ Own W2.heap.size wr2 (.slice p4 n4 c4) l') ∧ Chg w7 wr2 T)) (fun _ i _ => n4 - (intOf i).toNat)
            case atStart => exact ⟨0, Nat.zero_le _, rfl, hide ⟨HO7.out, HC7T.out⟩⟩
            case round =>
              obtain ⟨k, hk, rfl, hrel⟩ := hrel
              obtain ⟨⟨l2, hl2, hO2⟩, hcT⟩ := hrel.out
              have HCT := hide hcT
              obtain ⟨v4, v1⟩ := HBXC.out _ hcT
              by_cases hkn : (k : Int) < (n4 : Int)
              · obtain ⟨gg, y, rfl, v5, v6, hnx⟩ := HSTP.out _ l2 k hcT hl2 hO2 (by omega)
                clear hO2 hcT hrel hl2
                go_wp2
                go_roundw
                case rel => exact ⟨k + 1, by omega, by go_num, hnx⟩
                case measure => simp [intOf]; omega
              · have hP8 := HP7.out.mut (hcT.mono HTN.out) (fun i hi => HNW.out i hi)
                have HP8 := hide hP8
                have hcal := HSTC.out.calm (by omega)
                have HCAL := hide hcal
                obtain ⟨S8, C8, hD8, _⟩ := HP8.out.prog
                have HRD := hide (read_call hD8 HI.out.h1)
                obtain ⟨E9, hE9⟩ : ∃ E9 : Nat, s'.readE nm.data.toList = E9 := ⟨_, rfl⟩
                obtain ⟨B9, hB9⟩ : ∃ B9, s'.readB nm.data.toList = B9 := ⟨_, rfl⟩
                have HE9 := hide hE9
                have HB9 := hide hB9
                rw [hE9, hB9] at HRD
                clear hO2 hrel hl2 hcT hP8 hcal hD8 hE9 hB9
                go_wp2_with fail
                refine HRD.out.mono ?_
                rintro e w9 ⟨v9, rfl, hr9, hb9⟩
                obtain ⟨p9, n9, c9, rfl⟩ := (by_row hr9).sl
                have v1b := (hb9.cell (lt_of_cell v1)).trans v1
                have HP9 := hide (HP8.out.at (Chg.of_below hb9 _))
                have HR9 := hide (by_row hr9)
                obtain ⟨Z9, R9, hR9, _⟩ := HP9.out.ref
                have HRR := hide (rread_any (⟨hR9, HP9.out.ok, HCAL.out⟩ : Rq w9 Z9 R9 x s') (s := nm) HI.out.h1)
                clear hr9 hb9 hR9
                go_wp2_with fail
                refine HRR.out.mono ?_
                rintro e w10 ⟨p10, n10, c10, rfl, hb10, hc10⟩
                rw [HB9.out] at hb10
                rw [HE9.out]
                have heq10 := equal_any (HR9.out.chg hc10 (.inr fun _ _ h => h)) hb10
                rw [show ((B9 == B9) : Bool) = true from beq_self_eq_true _] at heq10
                have HEQ10 := hide heq10
                have HP10 := hide (HP9.out.at hc10)
                have HAL := hide (ralike_any HP10.out HSTN.out HCAL.out)
                clear hb10 hc10 heq10 v1 v4 v1b
                go_wp2_with fail
                refine HEQ10.out.mono ?_
                rintro e w11 ⟨rfl, rfl⟩
                go_wp2_with fail
                refine HAL.out.mono ?_
                rintro e w12 ⟨rfl, hc12⟩
                have HP12 := hide (HP10.out.at hc12).drop
                clear hc12
                go_wp2
                go_roundw
                case rel => exact ⟨j + 1, by omega, by go_num, hide (by rw [HSUC.out]; exact HP12.out)⟩
                case measure => simp [intOf]; omega
          · have hd9 : s.arm nn kk te = (c', s') := by
              have h := HDS.out
              unfold Dk.doer kind at h
              rw [hkd] at h
              simpa using h
            have HX := hide (HREF.out _ _ _ _ hd9 (rarm_any HRQ.out (keep := kk) (tear := te) HI.out.h4.2 HI.out.h4.1))
            clear hd9 HREF
            go_wp2_with fail
            refine HX.out.mono ?_
            rintro e w7 ⟨rfl, hP7, hc7⟩
            have HP7 := hide hP7
            have HC7 := hide (HC6.out.trans hc7 fun i hi => .inl hi)
            clear hP7 hc7 HX HRQ HBA x0 x1 x2 x3 x4 x5 x6 x7 hkd
            obtain ⟨s10, s11⟩ := HHQ.out _ HC7.out
            have y1 := cell_of_row w7 wr.heap.size 1 _ 34 (0, 0) s10
            have y4 := cell_of_row w7 wr.heap.size 4 _ 34 (0, 0) s10
            have z4 := cell_of_row w7 (wr.heap.size + 1) 4 _ 34 (0, 0) s11
            have HS10 := hide s10
            have HS11 := hide s11
            have HEQ := hide (equal_any (HB5.out.chg HC7.out (HOB.out.imp id fun h k hk h2 => h2.1 (h k hk))) (HARG.out _ HC7.out))
            rw [show ((bb == bb) : Bool) = true from beq_self_eq_true _] at HEQ
            have HO7 : Hid (∃ l' : List UInt8, l'.length = n4 ∧ Own W2.heap.size w7 (.slice p4 n4 c4) l') := hide (by
              rcases HOB.out with h | h
              · refine ⟨[], by rw [HN4.out, h], ?_⟩
                rcases HO5.out with ⟨e, _⟩ | ⟨g9, cap9, e, h1, h2, h3, h4, h5, h6⟩
                · exact .inl ⟨e, rfl⟩
                · rw [e]
                  by_cases hc9 : cap9 = 0
                  · subst hc9
                    rw [h]
                    exact .inr ⟨g9, 0, rfl, h1, Nat.le_refl _, h3, fun i x hx => by simp at hx, fun i hi => by omega, fun i hi => by omega⟩
                  · obtain ⟨u, hu⟩ := Option.isSome_iff_exists.1 (h5 0 (by omega))
                    have hg := lt_of_cell hu
                    dsimp only at hg
                    have hNg : N g9 := HNL.out g9 (by have := HSZ.out; omega) hg
                    have := own_chg (.inr ⟨g9, cap9, rfl, h1, h2, h3, h4, h5, h6⟩ : Own W2.heap.size W5 _ bb) HC7.out fun k hk h9 => by
                      injection hk with hk
                      dsimp only at hk
                      subst hk
                      exact h9.1 hNg
                    rw [h] at this ⊢
                    exact this
              · exact ⟨bb, HN4.out.symm, own_chg HO5.out HC7.out fun k hk h9 => h9.1 (h k hk)⟩)
            have hn4 : (n4 : Int) ≤ 32768 := by have := HN4.out; have := HB32.out; omega
            clear s10 s11
            go_wp2_with fail
            refine HEQ.out.mono ?_
            rintro e w8 ⟨rfl, rfl⟩
            obtain ⟨T, hT⟩ : ∃ T : Nat → Prop, T = (fun i => N i ∧ wr.heap.size + 1 < i) := ⟨_, rfl⟩
            have HTN := hide (show ∀ i, T i → N i from fun i hi => by rw [hT] at hi; exact hi.1)
            have HBX := hide (show ∀ V, Chg w7 V T → V.heap[wr.heap.size]? = some (.cells #[.int .i64 op, .string nm, .string tt, .int .i64 at_, .slice qb mb cb, .int .i64 nn, .int .i64 kk, .int .i64 te] 34) ∧ V.heap[wr.heap.size + 1]? = some (.cells #[.int .i64 op, .string nm, .string tt, .int .i64 at_, .slice p4 n4 c4, .int .i64 nn, .int .i64 kk, .int .i64 te] 34) from fun V hV => by
              have h1 := hV.block wr.heap.size (Array.getElem?_eq_some_iff.1 HS10.out).1 (fun h => by rw [hT] at h; omega)
              have h2 := hV.block (wr.heap.size + 1) (Array.getElem?_eq_some_iff.1 HS11.out).1 (fun h => by rw [hT] at h; omega)
              exact ⟨h1.trans HS10.out, h2.trans HS11.out⟩)
            have HBXC := hide (show ∀ V, Chg w7 V T → V.cell? ⟨wr.heap.size + 1, 4, none⟩ = some (.slice p4 n4 c4) ∧ V.cell? ⟨wr.heap.size, 1, none⟩ = some (.string nm) from fun V hV => by
              obtain ⟨h1, h2⟩ := HBX.out V hV
              exact ⟨cell_of_row V (wr.heap.size + 1) 4 _ 34 (0, 0) h2, cell_of_row V wr.heap.size 1 _ 34 (0, 0) h1⟩)
            have HSTP := hide (show ∀ (V : World) (l' : List UInt8) (k : Nat), Chg w7 V T → l'.length = n4 → Own W2.heap.size V (.slice p4 n4 c4) l' → k < n4 → ∃ (gg : Nat) (y : UInt8), p4 = some ⟨gg, 0, none⟩ ∧ V.cell? ⟨gg, k, none⟩ = some (.int .u8 (y.toNat : Int)) ∧ V.frozen? ⟨gg, k, none⟩ = false ∧
                Hid ((∃ l2 : List UInt8, l2.length = n4 ∧ Own W2.heap.size (V.setCell ⟨gg, k, none⟩ (.int .u8 (bits BinOp.xor IntKind.u8 (y.toNat : Int) 255))) (.slice p4 n4 c4) l2) ∧ Chg w7 (V.setCell ⟨gg, k, none⟩ (.int .u8 (bits BinOp.xor IntKind.u8 (y.toNat : Int) 255))) T) from fun V l' k hV hl' hO hk => by
              obtain ⟨gg, y, e1, e2, e3, e4, l2, e5, e6⟩ := own_set hO hk
              have hNg : N gg := by
                rcases HOB.out with h | h
                · have := HN4.out
                  rw [h] at this
                  simp at this
                  omega
                · exact h gg (by rw [e1]; rfl)
              refine ⟨gg, y, e1, e3, e4, hide ⟨⟨l2, by omega, e6⟩, hV.trans (rchg_set V gg k _) fun i hi => ?_⟩⟩
              rw [hi, hT]
              exact .inl ⟨hNg, by have := HSZ.out; omega⟩)
            have HC7T := hide (Chg.refl w7 T)
            go_wp2_with fail
            go_loopw [15, 131] (fun _ i wr2 => ∃ k : Nat, k ≤ n4 ∧ i = .int .i64 k ∧ Hid ((∃ l' : List UInt8, l'.length = n4 ∧ Own W2.heap.size wr2 (.slice p4 n4 c4) l') ∧ Chg w7 wr2 T)) (fun _ i _ => n4 - (intOf i).toNat)
            case atStart => exact ⟨0, Nat.zero_le _, rfl, hide ⟨HO7.out, HC7T.out⟩⟩
            case round =>
              obtain ⟨k, hk, rfl, hrel⟩ := hrel
              obtain ⟨⟨l2, hl2, hO2⟩, hcT⟩ := hrel.out
              have HCT := hide hcT
              obtain ⟨v4, v1⟩ := HBXC.out _ hcT
              by_cases hkn : (k : Int) < (n4 : Int)
              · obtain ⟨gg, y, rfl, v5, v6, hnx⟩ := HSTP.out _ l2 k hcT hl2 hO2 (by omega)
                clear hO2 hcT hrel hl2
                go_wp2
                go_roundw
                case rel => exact ⟨k + 1, by omega, by go_num, hnx⟩
                case measure => simp [intOf]; omega
              · have hP8 := HP7.out.mut (hcT.mono HTN.out) (fun i hi => HNW.out i hi)
                have HP8 := hide hP8
                have hcal := HSTC.out.calm (by omega)
                have HCAL := hide hcal
                obtain ⟨S8, C8, hD8, _⟩ := HP8.out.prog
                have HRD := hide (read_call hD8 HI.out.h1)
                obtain ⟨E9, hE9⟩ : ∃ E9 : Nat, s'.readE nm.data.toList = E9 := ⟨_, rfl⟩
                obtain ⟨B9, hB9⟩ : ∃ B9, s'.readB nm.data.toList = B9 := ⟨_, rfl⟩
                have HE9 := hide hE9
                have HB9 := hide hB9
                rw [hE9, hB9] at HRD
                clear hO2 hrel hl2 hcT hP8 hcal hD8 hE9 hB9
                go_wp2_with fail
                refine HRD.out.mono ?_
                rintro e w9 ⟨v9, rfl, hr9, hb9⟩
                obtain ⟨p9, n9, c9, rfl⟩ := (by_row hr9).sl
                have v1b := (hb9.cell (lt_of_cell v1)).trans v1
                have HP9 := hide (HP8.out.at (Chg.of_below hb9 _))
                have HR9 := hide (by_row hr9)
                obtain ⟨Z9, R9, hR9, _⟩ := HP9.out.ref
                have HRR := hide (rread_any (⟨hR9, HP9.out.ok, HCAL.out⟩ : Rq w9 Z9 R9 x s') (s := nm) HI.out.h1)
                clear hr9 hb9 hR9
                go_wp2_with fail
                refine HRR.out.mono ?_
                rintro e w10 ⟨p10, n10, c10, rfl, hb10, hc10⟩
                rw [HB9.out] at hb10
                rw [HE9.out]
                have heq10 := equal_any (HR9.out.chg hc10 (.inr fun _ _ h => h)) hb10
                rw [show ((B9 == B9) : Bool) = true from beq_self_eq_true _] at heq10
                have HEQ10 := hide heq10
                have HP10 := hide (HP9.out.at hc10)
                have HAL := hide (ralike_any HP10.out HSTN.out HCAL.out)
                clear hb10 hc10 heq10 v1 v4 v1b
                go_wp2_with fail
                refine HEQ10.out.mono ?_
                rintro e w11 ⟨rfl, rfl⟩
                go_wp2_with fail
                refine HAL.out.mono ?_
                rintro e w12 ⟨rfl, hc12⟩
                have HP12 := hide (HP10.out.at hc12).drop
                clear hc12
                go_wp2
                go_roundw
                case rel => exact ⟨j + 1, by omega, by go_num, hide (by rw [HSUC.out]; exact HP12.out)⟩
                case measure => simp [intOf]; omega
          · have hd9 : s.crash kk te = (c', s') := by
              have h := HDS.out
              unfold Dk.doer kind at h
              rw [hkd] at h
              simpa using h
            have HX := hide (HREF.out _ _ _ _ hd9 (rcrash_any HRQ.out HI.out.h5.2 HI.out.h5.1 HI.out.h6.2 HI.out.h6.1))
            clear hd9 HREF
            go_wp2_with fail
            refine HX.out.mono ?_
            rintro e w7 ⟨rfl, hP7, hc7⟩
            have HP7 := hide hP7
            have HC7 := hide (HC6.out.trans hc7 fun i hi => .inl hi)
            clear hP7 hc7 HX HRQ HBA x0 x1 x2 x3 x4 x5 x6 x7 hkd
            obtain ⟨s10, s11⟩ := HHQ.out _ HC7.out
            have y1 := cell_of_row w7 wr.heap.size 1 _ 34 (0, 0) s10
            have y4 := cell_of_row w7 wr.heap.size 4 _ 34 (0, 0) s10
            have z4 := cell_of_row w7 (wr.heap.size + 1) 4 _ 34 (0, 0) s11
            have HS10 := hide s10
            have HS11 := hide s11
            have HEQ := hide (equal_any (HB5.out.chg HC7.out (HOB.out.imp id fun h k hk h2 => h2.1 (h k hk))) (HARG.out _ HC7.out))
            rw [show ((bb == bb) : Bool) = true from beq_self_eq_true _] at HEQ
            have HO7 : Hid (∃ l' : List UInt8, l'.length = n4 ∧ Own W2.heap.size w7 (.slice p4 n4 c4) l') := hide (by
              rcases HOB.out with h | h
              · refine ⟨[], by rw [HN4.out, h], ?_⟩
                rcases HO5.out with ⟨e, _⟩ | ⟨g9, cap9, e, h1, h2, h3, h4, h5, h6⟩
                · exact .inl ⟨e, rfl⟩
                · rw [e]
                  by_cases hc9 : cap9 = 0
                  · subst hc9
                    rw [h]
                    exact .inr ⟨g9, 0, rfl, h1, Nat.le_refl _, h3, fun i x hx => by simp at hx, fun i hi => by omega, fun i hi => by omega⟩
                  · obtain ⟨u, hu⟩ := Option.isSome_iff_exists.1 (h5 0 (by omega))
                    have hg := lt_of_cell hu
                    dsimp only at hg
                    have hNg : N g9 := HNL.out g9 (by have := HSZ.out; omega) hg
                    have := own_chg (.inr ⟨g9, cap9, rfl, h1, h2, h3, h4, h5, h6⟩ : Own W2.heap.size W5 _ bb) HC7.out fun k hk h9 => by
                      injection hk with hk
                      dsimp only at hk
                      subst hk
                      exact h9.1 hNg
                    rw [h] at this ⊢
                    exact this
              · exact ⟨bb, HN4.out.symm, own_chg HO5.out HC7.out fun k hk h9 => h9.1 (h k hk)⟩)
            have hn4 : (n4 : Int) ≤ 32768 := by have := HN4.out; have := HB32.out; omega
            clear s10 s11
            go_wp2_with fail
            refine HEQ.out.mono ?_
            rintro e w8 ⟨rfl, rfl⟩
            obtain ⟨T, hT⟩ : ∃ T : Nat → Prop, T = (fun i => N i ∧ wr.heap.size + 1 < i) := ⟨_, rfl⟩
            have HTN := hide (show ∀ i, T i → N i from fun i hi => by rw [hT] at hi; exact hi.1)
            have HBX := hide (show ∀ V, Chg w7 V T → V.heap[wr.heap.size]? = some (.cells #[.int .i64 op, .string nm, .string tt, .int .i64 at_, .slice qb mb cb, .int .i64 nn, .int .i64 kk, .int .i64 te] 34) ∧ V.heap[wr.heap.size + 1]? = some (.cells #[.int .i64 op, .string nm, .string tt, .int .i64 at_, .slice p4 n4 c4, .int .i64 nn, .int .i64 kk, .int .i64 te] 34) from fun V hV => by
              have h1 := hV.block wr.heap.size (Array.getElem?_eq_some_iff.1 HS10.out).1 (fun h => by rw [hT] at h; omega)
              have h2 := hV.block (wr.heap.size + 1) (Array.getElem?_eq_some_iff.1 HS11.out).1 (fun h => by rw [hT] at h; omega)
              exact ⟨h1.trans HS10.out, h2.trans HS11.out⟩)
            have HBXC := hide (show ∀ V, Chg w7 V T → V.cell? ⟨wr.heap.size + 1, 4, none⟩ = some (.slice p4 n4 c4) ∧ V.cell? ⟨wr.heap.size, 1, none⟩ = some (.string nm) from fun V hV => by
              obtain ⟨h1, h2⟩ := HBX.out V hV
              exact ⟨cell_of_row V (wr.heap.size + 1) 4 _ 34 (0, 0) h2, cell_of_row V wr.heap.size 1 _ 34 (0, 0) h1⟩)
            have HSTP := hide (show ∀ (V : World) (l' : List UInt8) (k : Nat), Chg w7 V T → l'.length = n4 → Own W2.heap.size V (.slice p4 n4 c4) l' → k < n4 → ∃ (gg : Nat) (y : UInt8), p4 = some ⟨gg, 0, none⟩ ∧ V.cell? ⟨gg, k, none⟩ = some (.int .u8 (y.toNat : Int)) ∧ V.frozen? ⟨gg, k, none⟩ = false ∧
                Hid ((∃ l2 : List UInt8, l2.length = n4 ∧ Own W2.heap.size (V.setCell ⟨gg, k, none⟩ (.int .u8 (bits BinOp.xor IntKind.u8 (y.toNat : Int) 255))) (.slice p4 n4 c4) l2) ∧ Chg w7 (V.setCell ⟨gg, k, none⟩ (.int .u8 (bits BinOp.xor IntKind.u8 (y.toNat : Int) 255))) T) from fun V l' k hV hl' hO hk => by
              obtain ⟨gg, y, e1, e2, e3, e4, l2, e5, e6⟩ := own_set hO hk
              have hNg : N gg := by
                rcases HOB.out with h | h
                · have := HN4.out
                  rw [h] at this
                  simp at this
                  omega
                · exact h gg (by rw [e1]; rfl)
              refine ⟨gg, y, e1, e3, e4, hide ⟨⟨l2, by omega, e6⟩, hV.trans (rchg_set V gg k _) fun i hi => ?_⟩⟩
              rw [hi, hT]
              exact .inl ⟨hNg, by have := HSZ.out; omega⟩)
            have HC7T := hide (Chg.refl w7 T)
            go_wp2_with fail
            go_loopw [15, 131] (fun _ i wr2 => ∃ k : Nat, k ≤ n4 ∧ i = .int .i64 k ∧ Hid ((∃ l' : List UInt8, l'.length = n4 ∧ Own W2.heap.size wr2 (.slice p4 n4 c4) l') ∧ Chg w7 wr2 T)) (fun _ i _ => n4 - (intOf i).toNat)
            case atStart => exact ⟨0, Nat.zero_le _, rfl, hide ⟨HO7.out, HC7T.out⟩⟩
            case round =>
              obtain ⟨k, hk, rfl, hrel⟩ := hrel
              obtain ⟨⟨l2, hl2, hO2⟩, hcT⟩ := hrel.out
              have HCT := hide hcT
              obtain ⟨v4, v1⟩ := HBXC.out _ hcT
              by_cases hkn : (k : Int) < (n4 : Int)
              · obtain ⟨gg, y, rfl, v5, v6, hnx⟩ := HSTP.out _ l2 k hcT hl2 hO2 (by omega)
                clear hO2 hcT hrel hl2
                go_wp2
                go_roundw
                case rel => exact ⟨k + 1, by omega, by go_num, hnx⟩
                case measure => simp [intOf]; omega
              · have hP8 := HP7.out.mut (hcT.mono HTN.out) (fun i hi => HNW.out i hi)
                have HP8 := hide hP8
                have hcal := HSTC.out.calm (by omega)
                have HCAL := hide hcal
                obtain ⟨S8, C8, hD8, _⟩ := HP8.out.prog
                have HRD := hide (read_call hD8 HI.out.h1)
                obtain ⟨E9, hE9⟩ : ∃ E9 : Nat, s'.readE nm.data.toList = E9 := ⟨_, rfl⟩
                obtain ⟨B9, hB9⟩ : ∃ B9, s'.readB nm.data.toList = B9 := ⟨_, rfl⟩
                have HE9 := hide hE9
                have HB9 := hide hB9
                rw [hE9, hB9] at HRD
                clear hO2 hrel hl2 hcT hP8 hcal hD8 hE9 hB9
                go_wp2_with fail
                refine HRD.out.mono ?_
                rintro e w9 ⟨v9, rfl, hr9, hb9⟩
                obtain ⟨p9, n9, c9, rfl⟩ := (by_row hr9).sl
                have v1b := (hb9.cell (lt_of_cell v1)).trans v1
                have HP9 := hide (HP8.out.at (Chg.of_below hb9 _))
                have HR9 := hide (by_row hr9)
                obtain ⟨Z9, R9, hR9, _⟩ := HP9.out.ref
                have HRR := hide (rread_any (⟨hR9, HP9.out.ok, HCAL.out⟩ : Rq w9 Z9 R9 x s') (s := nm) HI.out.h1)
                clear hr9 hb9 hR9
                go_wp2_with fail
                refine HRR.out.mono ?_
                rintro e w10 ⟨p10, n10, c10, rfl, hb10, hc10⟩
                rw [HB9.out] at hb10
                rw [HE9.out]
                have heq10 := equal_any (HR9.out.chg hc10 (.inr fun _ _ h => h)) hb10
                rw [show ((B9 == B9) : Bool) = true from beq_self_eq_true _] at heq10
                have HEQ10 := hide heq10
                have HP10 := hide (HP9.out.at hc10)
                have HAL := hide (ralike_any HP10.out HSTN.out HCAL.out)
                clear hb10 hc10 heq10 v1 v4 v1b
                go_wp2_with fail
                refine HEQ10.out.mono ?_
                rintro e w11 ⟨rfl, rfl⟩
                go_wp2_with fail
                refine HAL.out.mono ?_
                rintro e w12 ⟨rfl, hc12⟩
                have HP12 := hide (HP10.out.at hc12).drop
                clear hc12
                go_wp2
                go_roundw
                case rel => exact ⟨j + 1, by omega, by go_num, hide (by rw [HSUC.out]; exact HP12.out)⟩
                case measure => simp [intOf]; omega
          · have hd9 : (0, s.start) = (c', s') := by
              have h := HDS.out
              unfold Dk.doer kind at h
              rw [hkd] at h
              simpa using h
            have HX := hide (HREF.out _ _ _ _ hd9 (rstart_any HRQ.out))
            clear hd9 HREF
            go_wp2_with fail
            refine HX.out.mono ?_
            rintro e w7 ⟨rfl, hP7, hc7⟩
            have HP7 := hide hP7
            have HC7 := hide (HC6.out.trans hc7 fun i hi => .inl hi)
            clear hP7 hc7 HX HRQ HBA x0 x1 x2 x3 x4 x5 x6 x7 hkd
            obtain ⟨s10, s11⟩ := HHQ.out _ HC7.out
            have y1 := cell_of_row w7 wr.heap.size 1 _ 34 (0, 0) s10
            have y4 := cell_of_row w7 wr.heap.size 4 _ 34 (0, 0) s10
            have z4 := cell_of_row w7 (wr.heap.size + 1) 4 _ 34 (0, 0) s11
            have HS10 := hide s10
            have HS11 := hide s11
            have HEQ := hide (equal_any (HB5.out.chg HC7.out (HOB.out.imp id fun h k hk h2 => h2.1 (h k hk))) (HARG.out _ HC7.out))
            rw [show ((bb == bb) : Bool) = true from beq_self_eq_true _] at HEQ
            have HO7 : Hid (∃ l' : List UInt8, l'.length = n4 ∧ Own W2.heap.size w7 (.slice p4 n4 c4) l') := hide (by
              rcases HOB.out with h | h
              · refine ⟨[], by rw [HN4.out, h], ?_⟩
                rcases HO5.out with ⟨e, _⟩ | ⟨g9, cap9, e, h1, h2, h3, h4, h5, h6⟩
                · exact .inl ⟨e, rfl⟩
                · rw [e]
                  by_cases hc9 : cap9 = 0
                  · subst hc9
                    rw [h]
                    exact .inr ⟨g9, 0, rfl, h1, Nat.le_refl _, h3, fun i x hx => by simp at hx, fun i hi => by omega, fun i hi => by omega⟩
                  · obtain ⟨u, hu⟩ := Option.isSome_iff_exists.1 (h5 0 (by omega))
                    have hg := lt_of_cell hu
                    dsimp only at hg
                    have hNg : N g9 := HNL.out g9 (by have := HSZ.out; omega) hg
                    have := own_chg (.inr ⟨g9, cap9, rfl, h1, h2, h3, h4, h5, h6⟩ : Own W2.heap.size W5 _ bb) HC7.out fun k hk h9 => by
                      injection hk with hk
                      dsimp only at hk
                      subst hk
                      exact h9.1 hNg
                    rw [h] at this ⊢
                    exact this
              · exact ⟨bb, HN4.out.symm, own_chg HO5.out HC7.out fun k hk h9 => h9.1 (h k hk)⟩)
            have hn4 : (n4 : Int) ≤ 32768 := by have := HN4.out; have := HB32.out; omega
            clear s10 s11
            go_wp2_with fail
            refine HEQ.out.mono ?_
            rintro e w8 ⟨rfl, rfl⟩
            obtain ⟨T, hT⟩ : ∃ T : Nat → Prop, T = (fun i => N i ∧ wr.heap.size + 1 < i) := ⟨_, rfl⟩
            have HTN := hide (show ∀ i, T i → N i from fun i hi => by rw [hT] at hi; exact hi.1)
            have HBX := hide (show ∀ V, Chg w7 V T → V.heap[wr.heap.size]? = some (.cells #[.int .i64 op, .string nm, .string tt, .int .i64 at_, .slice qb mb cb, .int .i64 nn, .int .i64 kk, .int .i64 te] 34) ∧ V.heap[wr.heap.size + 1]? = some (.cells #[.int .i64 op, .string nm, .string tt, .int .i64 at_, .slice p4 n4 c4, .int .i64 nn, .int .i64 kk, .int .i64 te] 34) from fun V hV => by
              have h1 := hV.block wr.heap.size (Array.getElem?_eq_some_iff.1 HS10.out).1 (fun h => by rw [hT] at h; omega)
              have h2 := hV.block (wr.heap.size + 1) (Array.getElem?_eq_some_iff.1 HS11.out).1 (fun h => by rw [hT] at h; omega)
              exact ⟨h1.trans HS10.out, h2.trans HS11.out⟩)
            have HBXC := hide (show ∀ V, Chg w7 V T → V.cell? ⟨wr.heap.size + 1, 4, none⟩ = some (.slice p4 n4 c4) ∧ V.cell? ⟨wr.heap.size, 1, none⟩ = some (.string nm) from fun V hV => by
              obtain ⟨h1, h2⟩ := HBX.out V hV
              exact ⟨cell_of_row V (wr.heap.size + 1) 4 _ 34 (0, 0) h2, cell_of_row V wr.heap.size 1 _ 34 (0, 0) h1⟩)
            have HSTP := hide (show ∀ (V : World) (l' : List UInt8) (k : Nat), Chg w7 V T → l'.length = n4 → Own W2.heap.size V (.slice p4 n4 c4) l' → k < n4 → ∃ (gg : Nat) (y : UInt8), p4 = some ⟨gg, 0, none⟩ ∧ V.cell? ⟨gg, k, none⟩ = some (.int .u8 (y.toNat : Int)) ∧ V.frozen? ⟨gg, k, none⟩ = false ∧
                Hid ((∃ l2 : List UInt8, l2.length = n4 ∧ Own W2.heap.size (V.setCell ⟨gg, k, none⟩ (.int .u8 (bits BinOp.xor IntKind.u8 (y.toNat : Int) 255))) (.slice p4 n4 c4) l2) ∧ Chg w7 (V.setCell ⟨gg, k, none⟩ (.int .u8 (bits BinOp.xor IntKind.u8 (y.toNat : Int) 255))) T) from fun V l' k hV hl' hO hk => by
              obtain ⟨gg, y, e1, e2, e3, e4, l2, e5, e6⟩ := own_set hO hk
              have hNg : N gg := by
                rcases HOB.out with h | h
                · have := HN4.out
                  rw [h] at this
                  simp at this
                  omega
                · exact h gg (by rw [e1]; rfl)
              refine ⟨gg, y, e1, e3, e4, hide ⟨⟨l2, by omega, e6⟩, hV.trans (rchg_set V gg k _) fun i hi => ?_⟩⟩
              rw [hi, hT]
              exact .inl ⟨hNg, by have := HSZ.out; omega⟩)
            have HC7T := hide (Chg.refl w7 T)
            go_wp2_with fail
            go_loopw [15, 131] (fun _ i wr2 => ∃ k : Nat, k ≤ n4 ∧ i = .int .i64 k ∧ Hid ((∃ l' : List UInt8, l'.length = n4 ∧ Own W2.heap.size wr2 (.slice p4 n4 c4) l') ∧ Chg w7 wr2 T)) (fun _ i _ => n4 - (intOf i).toNat)
            case atStart => exact ⟨0, Nat.zero_le _, rfl, hide ⟨HO7.out, HC7T.out⟩⟩
            case round =>
              obtain ⟨k, hk, rfl, hrel⟩ := hrel
              obtain ⟨⟨l2, hl2, hO2⟩, hcT⟩ := hrel.out
              have HCT := hide hcT
              obtain ⟨v4, v1⟩ := HBXC.out _ hcT
              by_cases hkn : (k : Int) < (n4 : Int)
              · obtain ⟨gg, y, rfl, v5, v6, hnx⟩ := HSTP.out _ l2 k hcT hl2 hO2 (by omega)
                clear hO2 hcT hrel hl2
                go_wp2
                go_roundw
                case rel => exact ⟨k + 1, by omega, by go_num, hnx⟩
                case measure => simp [intOf]; omega
              · have hP8 := HP7.out.mut (hcT.mono HTN.out) (fun i hi => HNW.out i hi)
                have HP8 := hide hP8
                have hcal := HSTC.out.calm (by omega)
                have HCAL := hide hcal
                obtain ⟨S8, C8, hD8, _⟩ := HP8.out.prog
                have HRD := hide (read_call hD8 HI.out.h1)
                obtain ⟨E9, hE9⟩ : ∃ E9 : Nat, s'.readE nm.data.toList = E9 := ⟨_, rfl⟩
                obtain ⟨B9, hB9⟩ : ∃ B9, s'.readB nm.data.toList = B9 := ⟨_, rfl⟩
                have HE9 := hide hE9
                have HB9 := hide hB9
                rw [hE9, hB9] at HRD
                clear hO2 hrel hl2 hcT hP8 hcal hD8 hE9 hB9
                go_wp2_with fail
                refine HRD.out.mono ?_
                rintro e w9 ⟨v9, rfl, hr9, hb9⟩
                obtain ⟨p9, n9, c9, rfl⟩ := (by_row hr9).sl
                have v1b := (hb9.cell (lt_of_cell v1)).trans v1
                have HP9 := hide (HP8.out.at (Chg.of_below hb9 _))
                have HR9 := hide (by_row hr9)
                obtain ⟨Z9, R9, hR9, _⟩ := HP9.out.ref
                have HRR := hide (rread_any (⟨hR9, HP9.out.ok, HCAL.out⟩ : Rq w9 Z9 R9 x s') (s := nm) HI.out.h1)
                clear hr9 hb9 hR9
                go_wp2_with fail
                refine HRR.out.mono ?_
                rintro e w10 ⟨p10, n10, c10, rfl, hb10, hc10⟩
                rw [HB9.out] at hb10
                rw [HE9.out]
                have heq10 := equal_any (HR9.out.chg hc10 (.inr fun _ _ h => h)) hb10
                rw [show ((B9 == B9) : Bool) = true from beq_self_eq_true _] at heq10
                have HEQ10 := hide heq10
                have HP10 := hide (HP9.out.at hc10)
                have HAL := hide (ralike_any HP10.out HSTN.out HCAL.out)
                clear hb10 hc10 heq10 v1 v4 v1b
                go_wp2_with fail
                refine HEQ10.out.mono ?_
                rintro e w11 ⟨rfl, rfl⟩
                go_wp2_with fail
                refine HAL.out.mono ?_
                rintro e w12 ⟨rfl, hc12⟩
                have HP12 := hide (HP10.out.at hc12).drop
                clear hc12
                go_wp2
                go_roundw
                case rel => exact ⟨j + 1, by omega, by go_num, hide (by rw [HSUC.out]; exact HP12.out)⟩
                case measure => simp [intOf]; omega
          · have hd9 : s.write nm.data.toList at_ bb = (c', s') := by
              have h := HDS.out
              unfold Dk.doer kind at h
              rw [hkd] at h
              simpa [d3, d4, d5, d6, d7, d8, d9] using h
            have HX := hide (HREF.out _ _ _ _ hd9 (rwrite_any HRQ.out HI.out.h1 HI.out.h3.2 HI.out.h3.1 HBA.out))
            clear hd9 HREF
            have g3 : (kd == 3) = false := beq_eq_false_iff_ne.2 d3
            have g4 : (kd == 4) = false := beq_eq_false_iff_ne.2 d4
            have g5 : (kd == 5) = false := beq_eq_false_iff_ne.2 d5
            have g6 : (kd == 6) = false := beq_eq_false_iff_ne.2 d6
            have g7 : (kd == 7) = false := beq_eq_false_iff_ne.2 d7
            have g8 : (kd == 8) = false := beq_eq_false_iff_ne.2 d8
            have g9 : (kd == 9) = false := beq_eq_false_iff_ne.2 d9
            clear d3 d4 d5 d6 d7 d8 d9
            go_wp2_with fail
            refine HX.out.mono ?_
            rintro e w7 ⟨rfl, hP7, hc7⟩
            have HP7 := hide hP7
            have HC7 := hide (HC6.out.trans hc7 fun i hi => .inl hi)
            clear hP7 hc7 HX HRQ HBA x0 x1 x2 x3 x4 x5 x6 x7 hkd
            obtain ⟨s10, s11⟩ := HHQ.out _ HC7.out
            have y1 := cell_of_row w7 wr.heap.size 1 _ 34 (0, 0) s10
            have y4 := cell_of_row w7 wr.heap.size 4 _ 34 (0, 0) s10
            have z4 := cell_of_row w7 (wr.heap.size + 1) 4 _ 34 (0, 0) s11
            have HS10 := hide s10
            have HS11 := hide s11
            have HEQ := hide (equal_any (HB5.out.chg HC7.out (HOB.out.imp id fun h k hk h2 => h2.1 (h k hk))) (HARG.out _ HC7.out))
            rw [show ((bb == bb) : Bool) = true from beq_self_eq_true _] at HEQ
            have HO7 : Hid (∃ l' : List UInt8, l'.length = n4 ∧ Own W2.heap.size w7 (.slice p4 n4 c4) l') := hide (by
              rcases HOB.out with h | h
              · refine ⟨[], by rw [HN4.out, h], ?_⟩
                rcases HO5.out with ⟨e, _⟩ | ⟨g9, cap9, e, h1, h2, h3, h4, h5, h6⟩
                · exact .inl ⟨e, rfl⟩
                · rw [e]
                  by_cases hc9 : cap9 = 0
                  · subst hc9
                    rw [h]
                    exact .inr ⟨g9, 0, rfl, h1, Nat.le_refl _, h3, fun i x hx => by simp at hx, fun i hi => by omega, fun i hi => by omega⟩
                  · obtain ⟨u, hu⟩ := Option.isSome_iff_exists.1 (h5 0 (by omega))
                    have hg := lt_of_cell hu
                    dsimp only at hg
                    have hNg : N g9 := HNL.out g9 (by have := HSZ.out; omega) hg
                    have := own_chg (.inr ⟨g9, cap9, rfl, h1, h2, h3, h4, h5, h6⟩ : Own W2.heap.size W5 _ bb) HC7.out fun k hk h9 => by
                      injection hk with hk
                      dsimp only at hk
                      subst hk
                      exact h9.1 hNg
                    rw [h] at this ⊢
                    exact this
              · exact ⟨bb, HN4.out.symm, own_chg HO5.out HC7.out fun k hk h9 => h9.1 (h k hk)⟩)
            have hn4 : (n4 : Int) ≤ 32768 := by have := HN4.out; have := HB32.out; omega
            clear s10 s11
            go_wp2_with fail
            refine HEQ.out.mono ?_
            rintro e w8 ⟨rfl, rfl⟩
            obtain ⟨T, hT⟩ : ∃ T : Nat → Prop, T = (fun i => N i ∧ wr.heap.size + 1 < i) := ⟨_, rfl⟩
            have HTN := hide (show ∀ i, T i → N i from fun i hi => by rw [hT] at hi; exact hi.1)
            have HBX := hide (show ∀ V, Chg w7 V T → V.heap[wr.heap.size]? = some (.cells #[.int .i64 op, .string nm, .string tt, .int .i64 at_, .slice qb mb cb, .int .i64 nn, .int .i64 kk, .int .i64 te] 34) ∧ V.heap[wr.heap.size + 1]? = some (.cells #[.int .i64 op, .string nm, .string tt, .int .i64 at_, .slice p4 n4 c4, .int .i64 nn, .int .i64 kk, .int .i64 te] 34) from fun V hV => by
              have h1 := hV.block wr.heap.size (Array.getElem?_eq_some_iff.1 HS10.out).1 (fun h => by rw [hT] at h; omega)
              have h2 := hV.block (wr.heap.size + 1) (Array.getElem?_eq_some_iff.1 HS11.out).1 (fun h => by rw [hT] at h; omega)
              exact ⟨h1.trans HS10.out, h2.trans HS11.out⟩)
            have HBXC := hide (show ∀ V, Chg w7 V T → V.cell? ⟨wr.heap.size + 1, 4, none⟩ = some (.slice p4 n4 c4) ∧ V.cell? ⟨wr.heap.size, 1, none⟩ = some (.string nm) from fun V hV => by
              obtain ⟨h1, h2⟩ := HBX.out V hV
              exact ⟨cell_of_row V (wr.heap.size + 1) 4 _ 34 (0, 0) h2, cell_of_row V wr.heap.size 1 _ 34 (0, 0) h1⟩)
            have HSTP := hide (show ∀ (V : World) (l' : List UInt8) (k : Nat), Chg w7 V T → l'.length = n4 → Own W2.heap.size V (.slice p4 n4 c4) l' → k < n4 → ∃ (gg : Nat) (y : UInt8), p4 = some ⟨gg, 0, none⟩ ∧ V.cell? ⟨gg, k, none⟩ = some (.int .u8 (y.toNat : Int)) ∧ V.frozen? ⟨gg, k, none⟩ = false ∧
                Hid ((∃ l2 : List UInt8, l2.length = n4 ∧ Own W2.heap.size (V.setCell ⟨gg, k, none⟩ (.int .u8 (bits BinOp.xor IntKind.u8 (y.toNat : Int) 255))) (.slice p4 n4 c4) l2) ∧ Chg w7 (V.setCell ⟨gg, k, none⟩ (.int .u8 (bits BinOp.xor IntKind.u8 (y.toNat : Int) 255))) T) from fun V l' k hV hl' hO hk => by
              obtain ⟨gg, y, e1, e2, e3, e4, l2, e5, e6⟩ := own_set hO hk
              have hNg : N gg := by
                rcases HOB.out with h | h
                · have := HN4.out
                  rw [h] at this
                  simp at this
                  omega
                · exact h gg (by rw [e1]; rfl)
              refine ⟨gg, y, e1, e3, e4, hide ⟨⟨l2, by omega, e6⟩, hV.trans (rchg_set V gg k _) fun i hi => ?_⟩⟩
              rw [hi, hT]
              exact .inl ⟨hNg, by have := HSZ.out; omega⟩)
            have HC7T := hide (Chg.refl w7 T)
            go_wp2_with fail
            go_loopw [15, 131] (fun _ i wr2 => ∃ k : Nat, k ≤ n4 ∧ i = .int .i64 k ∧ Hid ((∃ l' : List UInt8, l'.length = n4 ∧ Own W2.heap.size wr2 (.slice p4 n4 c4) l') ∧ Chg w7 wr2 T)) (fun _ i _ => n4 - (intOf i).toNat)
            case atStart => exact ⟨0, Nat.zero_le _, rfl, hide ⟨HO7.out, HC7T.out⟩⟩
            case round =>
              obtain ⟨k, hk, rfl, hrel⟩ := hrel
              obtain ⟨⟨l2, hl2, hO2⟩, hcT⟩ := hrel.out
              have HCT := hide hcT
              obtain ⟨v4, v1⟩ := HBXC.out _ hcT
              by_cases hkn : (k : Int) < (n4 : Int)
              · obtain ⟨gg, y, rfl, v5, v6, hnx⟩ := HSTP.out _ l2 k hcT hl2 hO2 (by omega)
                clear hO2 hcT hrel hl2
                go_wp2
                go_roundw
                case rel => exact ⟨k + 1, by omega, by go_num, hnx⟩
                case measure => simp [intOf]; omega
              · have hP8 := HP7.out.mut (hcT.mono HTN.out) (fun i hi => HNW.out i hi)
                have HP8 := hide hP8
                have hcal := HSTC.out.calm (by omega)
                have HCAL := hide hcal
                obtain ⟨S8, C8, hD8, _⟩ := HP8.out.prog
                have HRD := hide (read_call hD8 HI.out.h1)
                obtain ⟨E9, hE9⟩ : ∃ E9 : Nat, s'.readE nm.data.toList = E9 := ⟨_, rfl⟩
                obtain ⟨B9, hB9⟩ : ∃ B9, s'.readB nm.data.toList = B9 := ⟨_, rfl⟩
                have HE9 := hide hE9
                have HB9 := hide hB9
                rw [hE9, hB9] at HRD
                clear hO2 hrel hl2 hcT hP8 hcal hD8 hE9 hB9
                go_wp2_with fail
                refine HRD.out.mono ?_
                rintro e w9 ⟨v9, rfl, hr9, hb9⟩
                obtain ⟨p9, n9, c9, rfl⟩ := (by_row hr9).sl
                have v1b := (hb9.cell (lt_of_cell v1)).trans v1
                have HP9 := hide (HP8.out.at (Chg.of_below hb9 _))
                have HR9 := hide (by_row hr9)
                obtain ⟨Z9, R9, hR9, _⟩ := HP9.out.ref
                have HRR := hide (rread_any (⟨hR9, HP9.out.ok, HCAL.out⟩ : Rq w9 Z9 R9 x s') (s := nm) HI.out.h1)
                clear hr9 hb9 hR9
                go_wp2_with fail
                refine HRR.out.mono ?_
                rintro e w10 ⟨p10, n10, c10, rfl, hb10, hc10⟩
                rw [HB9.out] at hb10
                rw [HE9.out]
                have heq10 := equal_any (HR9.out.chg hc10 (.inr fun _ _ h => h)) hb10
                rw [show ((B9 == B9) : Bool) = true from beq_self_eq_true _] at heq10
                have HEQ10 := hide heq10
                have HP10 := hide (HP9.out.at hc10)
                have HAL := hide (ralike_any HP10.out HSTN.out HCAL.out)
                clear hb10 hc10 heq10 v1 v4 v1b
                go_wp2_with fail
                refine HEQ10.out.mono ?_
                rintro e w11 ⟨rfl, rfl⟩
                go_wp2_with fail
                refine HAL.out.mono ?_
                rintro e w12 ⟨rfl, hc12⟩
                have HP12 := hide (HP10.out.at hc12).drop
                clear hc12
                go_wp2
                go_roundw
                case rel => exact ⟨j + 1, by omega, by go_num, hide (by rw [HSUC.out]; exact HP12.out)⟩
                case measure => simp [intOf]; omega
        · have HB := hide HR.out.below
          have HA := hide (awake_any wr)
          clear HR
          go_wp2_with fail
          refine HA.out.mono ?_
          rintro e w4 ⟨rfl, hb4⟩
          have HB4 := hide (HB.out.trans (hb4.mono HB.out.size))
          clear hb4
          go_wp2
          go_ret
          exact ⟨rfl, HB4.out⟩
end Go.Proofs.Ytdghkmpcjjmlfaa
