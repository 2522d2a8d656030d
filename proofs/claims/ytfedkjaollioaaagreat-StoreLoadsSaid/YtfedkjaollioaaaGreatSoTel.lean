/- tells: a store, and the document's. -/
import Derived.Test.YtfedkjaollioaaaGreatS11
import Derived.Test.YtfedkjaollioaaaGreatSoSame
namespace Go.Proofs.YtfedkjaollioaaaGreat
set_option linter.unusedVariables false
set_option linter.unusedSimpArgs false
open Go.RowKit

theorem look_no {S : List Pl} (h : SoOk S) {k : Int} (hk : k < 1) : lookS S k = [] := by
  unfold lookS
  cases hf : fndK kP S k with
  | none => rfl
  | some y =>
    obtain ⟨hy, e⟩ := fndK_mem hf
    have := (h.ok y hy).2.2.1
    have e' : y.1 = k := e
    omega
/-- Numbers' cells that may be written. -/
def MutI (B : Nat) (w : World) (p : Option Addr) (n : Nat) : Prop := 0 < n → ∃ g, p = some ⟨g, 0, none⟩ ∧ B ≤ g ∧ ∀ i, i < n → (∃ z, w.cell? ⟨g, i, none⟩ = some z) ∧ w.frozen? ⟨g, i, none⟩ = false
theorem MutI.of {B n : Nat} {w : World} {p : Option Addr} {c : Nat} {l : List Int} (h : w.ownsRow B 3 1 (.slice p n c) n (l.map (Value.int .i64))) : MutI B w p n := by
  intro h0
  obtain ⟨p', c', he, hl, _, hcl⟩ := ints_row h
  injection he with he1 _ _
  subst he1
  obtain ⟨g, rfl, _, hx⟩ := hcl h0
  refine ⟨g, rfl, (World.ownsRow.lt h g rfl).1, fun i hi => ⟨⟨_, hx i _ (List.getElem?_eq_getElem (by omega))⟩, World.ownsRow.frozenAt h _⟩⟩
theorem MutI.set {B n : Nat} {w : World} {g j : Nat} {x : Value} (h : MutI B w (some ⟨g, 0, none⟩) n) : MutI B (w.setCell ⟨g, j, none⟩ x) (some ⟨g, 0, none⟩) n := by
  intro h0
  obtain ⟨g', e, hB, hx⟩ := h h0
  obtain rfl : g = g' := by injection e with e; injection e
  refine ⟨g, rfl, hB, fun i hi => ?_⟩
  obtain ⟨⟨z, hz⟩, hf⟩ := hx i hi
  refine ⟨?_, by rw [World.frozen?_setCell]; exact hf⟩
  by_cases e : i = j
  · subst e
    exact ⟨_, World.cell?_setCell_same _ _ _ hz⟩
  · exact ⟨z, (World.cell?_setCell_other _ _ _ _ (by first | (simp; done) | (simp; omega))).trans hz⟩
set_option maxRecDepth 200000 in
set_option maxHeartbeats 4000000 in
theorem tells_any {w : World} {gs bm gx : Nat} {R : List Tr} {R2 : List Rr} (h : SoIs w gs bm R) (h2 : RsIs w gx R2) (he : R2.map Rr.pl = R.map Tr.pl) : Calls Tryz.prog 15 #[.pointer (some ⟨gs, 0, none⟩), .pointer (some ⟨gx, 0, none⟩)] w fun e w' => e = .returned (.bool true) ∧ Below w.heap.size w w' := by
  have HA := hide (fun V (hV : Below w.heap.size w V) => h.below hV)
  have HB := hide (fun V (hV : Below w.heap.size w V) => h2.below hV)
  have HE := hide he
  have HOK := hide h.ok
  have hl2 : R2.length = R.length := by have := congrArg List.length he; simpa using this
  have hl32 := h.len
  obtain ⟨n, hn⟩ : ∃ n, R.length = n := ⟨_, rfl⟩
  rw [hn] at hl32 hl2
  have HL := hide (And.intro hn hl2)
  have hfst : R2.map (·.t) = R.map (·.t) := by rw [tr_fst, ← he, List.map_map]; rfl
  have HFS := hide hfst
  clear h h2 he hn hl2 hfst
  go_enter Tryz.func15, Tryz.ntmps15
  go_wp2_with fail
  refine (straces_any (HA.out _ (Below.refl _ _))).mono ?_
  intro e w1 hp
  obtain ⟨v1, rfl, hrow1, hb1⟩ := hp
  rw [HL.out.1] at hrow1
  obtain ⟨p1, c1, rfl, _, _, hcl⟩ := ints_row hrow1
  have HB1 := hide hb1
  have HR1 := hide hrow1
  clear hrow1 hb1 hcl
  go_wp2_with fail
  refine (rtraces_any (HB.out _ HB1.out)).mono ?_
  intro e w2 hp
  obtain ⟨v2, rfl, hrow2, hb2⟩ := hp
  unfold OwnI at hrow2
  rw [HFS.out, List.length_map, HL.out.1] at hrow2
  have hr1 := row_below HR1.out hb2
  have HB2 := hide (HB1.out.trans (hb2.mono HB1.out.size))
  have HEQ := hide (eqI_any hr1 hrow2)
  have HR1' := hide hr1
  obtain ⟨p2, c2, rfl, _⟩ := ints_row hrow2
  clear hrow2 hb2 hr1
  go_wp2_with fail
  refine HEQ.out.mono ?_
  rintro e w3 ⟨rfl, hb3⟩
  have HB3 := hide (HB2.out.trans (hb3.mono HB2.out.size))
  have HR3 := hide (row_below HR1'.out hb3)
  clear hb3 HEQ
  go_wp2_with fail
  refine (simage_any (HA.out _ HB3.out)).mono ?_
  intro e w4 hp
  obtain ⟨v4, rfl, ho4, hb4⟩ := hp
  obtain ⟨p4, n4, c4, rfl⟩ := ho4.by_.sl
  have HI4 := hide ho4.by_
  have HB4 := hide (HB3.out.trans (hb4.mono HB3.out.size))
  have HR4 := hide (row_below HR3.out hb4)
  clear ho4 hb4
  go_wp2_with fail
  refine (rimage_any (HB.out _ HB4.out)).mono ?_
  intro e w5 hp
  obtain ⟨v5, rfl, ho5, hb5⟩ := hp
  rw [HE.out] at ho5
  have HEQ := hide (equal_any (HI4.out.below hb5) ho5.by_)
  rw [show (imgS (R.map Tr.pl) == imgS (R.map Tr.pl)) = true by simp] at HEQ
  obtain ⟨p5, n5, c5, rfl⟩ := ho5.by_.sl
  have HB5 := hide (HB4.out.trans (hb5.mono HB4.out.size))
  have HR5 := hide (row_below HR4.out hb5)
  clear ho5 hb5
  go_wp2_with fail
  refine HEQ.out.mono ?_
  rintro e w6 ⟨rfl, rfl⟩
  clear HEQ
  obtain ⟨p1', c1', he1, hl1, hm1, hcl⟩ := ints_row HR5.out
  injection he1 with he1 _ he2
  subst he1 he2
  have HCL := hide hcl
  have hmi : (n : Int) ≤ 9223372036854775807 := by omega
  clear hcl hm1 hl1
  go_wp2_with fail
  go_loopw [6, 8, 25] (fun v6 _ i wr => ∃ k : Nat, v6 = .bool true ∧ k ≤ n ∧ i = .int .i64 k ∧ Hid (Below w5.heap.size w5 wr)) (fun _ _ i _ => n - (intOf i).toNat)
  case atStart => exact ⟨0, rfl, by omega, rfl, hide (Below.refl _ _)⟩
  case round =>
    obtain ⟨k, rfl, hk, rfl, HR⟩ := hrel
    by_cases hlt : k < n
    · obtain ⟨y, hy⟩ : ∃ y, R[k]? = some y := ⟨_, List.getElem?_eq_getElem (by have := HL.out.1; omega)⟩
      obtain ⟨gk, rfl, hgk', hc⟩ := HCL.out (by omega)
      have ck : wr.cell? ⟨gk, k, none⟩ = some (.int .i64 y.t) := (HR.out.cell (p := ⟨gk, k, none⟩) hgk').trans (hc k y.t (by simp [hy]))
      have hyo := HOK.out.ok y.pl (List.mem_map.2 ⟨y, List.mem_of_getElem? hy, rfl⟩)
      have hwf : (Lit.int .i64 y.t).wf = true := WalkArith.wf_i64 (by have h1 : 1 ≤ y.t := hyo.2.2.1; have h2 : y.t ≤ 1099511627776 := hyo.2.2.2; omega)
      have hbr : Below w.heap.size w wr := HB5.out.trans (HR.out.mono HB5.out.size)
      have HLW := hide (fun V (hV : Below wr.heap.size wr V) => slookup_any (HA.out _ (hbr.trans (hV.mono hbr.size))) hwf)
      have HLS := hide (fun V (hV : Below wr.heap.size wr V) => rlookup_any (HB.out _ (hbr.trans (hV.mono hbr.size))) y.t)
      obtain ⟨t, ht⟩ : ∃ t, y.t = t := ⟨_, rfl⟩
      rw [ht] at ck HLW HLS
      clear hy hc hyo hwf hgk' hbr ht
      go_wp2_with fail
      refine (HLW.out _ (Below.refl _ _)).mono ?_
      rintro e w7 ⟨v7, rfl, ho7, hb7⟩
      have HB7 : Hid (Below wr.heap.size wr w7) := hide hb7
      obtain ⟨p7, n7, c7, rfl⟩ := ho7.brs.sl
      have HO7 := hide ho7.brs
      clear ho7 hb7
      go_wp2_with fail
      refine (HLS.out _ HB7.out).mono ?_
      rintro e w8 ⟨v8, rfl, ho8, hb8⟩
      rw [HE.out] at ho8
      have HB8 : Hid (Below wr.heap.size wr w8) := hide (HB7.out.trans (hb8.mono HB7.out.size))
      have HEQ := hide (equalBr_any (HO7.out.below hb8) ho8.brs)
      obtain ⟨p8, n8, c8, rfl⟩ := ho8.brs.sl
      rw [decide_eq_true rfl] at HEQ
      clear ho8 hb8
      go_wp2_with fail
      refine HEQ.out.mono ?_
      rintro e w9 ⟨rfl, hw9⟩
      have HB9 : Hid (Below wr.heap.size wr w9) := hide (by obtain ⟨q9, hq9⟩ := hw9; rw [hq9]; exact HB8.out.trans (bdrew w8 q9))
      clear hw9 HEQ
      go_wp2
      go_roundw
      case rel => exact ⟨k + 1, rfl, by omega, by go_num, hide (HR.out.trans (HB9.out.mono HR.out.size))⟩
      case measure => simp [intOf]; omega
    · have HRX := hide (row_below HR5.out HR.out)
      have HBX := hide (HB5.out.trans (HR.out.mono HB5.out.size))
      obtain ⟨X, hX⟩ : ∃ X, wr = X := ⟨_, rfl⟩
      subst hX
      go_wp2_with fail
      have HMU := hide (MutI.of HRX.out)
      go_loopw [9, 42] (fun _ i wi => ∃ j : Nat, j ≤ n ∧ i = .int .i64 j ∧ Hid (Below w.heap.size w wi ∧ MutI w.heap.size wi p1 n)) (fun _ i _ => n - (intOf i).toNat)
      case atStart => exact ⟨0, by omega, rfl, hide ⟨HBX.out, HMU.out⟩⟩
      case round =>
        obtain ⟨j, hj, rfl, HQ⟩ := hrel
        by_cases hjt : j < n
        · obtain ⟨gk, rfl, hBk, hx⟩ := HQ.out.2 (by omega)
          obtain ⟨⟨z, cz⟩, fz⟩ := hx j hjt
          have HBK := hide hBk
          clear hx hBk
          go_wp2_with fail
          go_roundw
          case rel => exact ⟨j + 1, by omega, by go_num, hide ⟨HQ.out.1.setCell (p := ⟨gk, j, none⟩) HBK.out _, HQ.out.2.set⟩⟩
          case measure => simp [intOf]; omega
        · have HLN := hide (slookup_any (HA.out _ HQ.out.1) (k := -7) (WalkArith.wf_i64 (by omega)))
          rw [look_no HOK.out (by omega)] at HLN
          go_wp2_with fail
          refine HLN.out.mono ?_
          rintro e w9 ⟨v9, rfl, ho9, hb9⟩
          have hl9 := ho9.brs
          obtain ⟨p9, n9, c9, rfl⟩ := hl9.sl
          have hn9 : n9 = 0 := hl9.len.1
          subst hn9
          have HB9 := hide (HQ.out.1.trans (hb9.mono HQ.out.1.size))
          clear ho9 hb9 hl9
          go_wp2
          go_ret
          exact ⟨rfl, HB9.out⟩
end Go.Proofs.YtfedkjaollioaaaGreat
