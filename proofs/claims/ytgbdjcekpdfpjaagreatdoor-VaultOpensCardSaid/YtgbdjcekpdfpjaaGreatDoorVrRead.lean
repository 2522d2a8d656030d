import Derived.Test.YtgbdjcekpdfpjaaGreatDoorVrRd
import Derived.Deep.RegionHeld3
set_option linter.unusedVariables false
set_option linter.unusedSimpArgs false
namespace Go.Proofs.YtgbdjcekpdfpjaaGreatDoor
open Go.RowKit
def RrP (w : World) (b : List UInt8) (e : Ending) (w' : World) : Prop := ∃ (s : Sn) (vo da : Value), e = .returned (.tuple #[.agg #[.int .i64 s.ix, .int .i64 s.tm, vo, da], .bool (readB 7 b).isSome]) ∧ OwnN w.heap.size w' vo s.vo ∧ Own w.heap.size w' da s.da ∧ Go.Proofs.YtgbdjcekpdfpjaaGreatDoor.fits s.ix ∧ Go.Proofs.YtgbdjcekpdfpjaaGreatDoor.fits s.tm ∧ Below w.heap.size w w' ∧ ∀ s', readB 7 b = some s' → s' = s
theorem fits0 : Go.Proofs.YtgbdjcekpdfpjaaGreatDoor.fits 0 := by unfold Go.Proofs.YtgbdjcekpdfpjaaGreatDoor.fits; omega
theorem lens_flat : ∀ l : List (List UInt8), l.flatten.length ≤ Lib.lens l
 | [] => by simp
 | a :: r => by
  have := lens_flat r
  simp [Lib.lens] at this ⊢
theorem rows_flat (f : Nat) (b : List UInt8) : (rowsL f b).1.flatten.length ≤ b.length := Nat.le_trans (lens_flat _) (rows_lens f b).1
theorem rdi_end {w W1 wr w9 W10 : World} {g Bs : Nat} {u : Value} {h : List UInt8} {st : Nat × Nat} {i1 t1 : Int} {r : List Int} {vv : Value} {dd : List UInt8} {dv : Value} (H : RdI W1 wr g Bs u h st i1 t1 r vv dd dv) (hb : Below wr.heap.size wr w9) (hc : Chg w9 W10 (fun k => k = w.heap.size)) (hlt : w.heap.size < W1.heap.size) (hbw : Below w.heap.size w W1) : OwnN w.heap.size W10 vv r ∧ Own w.heap.size W10 dv dd ∧ Below w.heap.size w W10 := by
 have h1 := H.vo.below hb
 have h2 := H.da.below hb
 refine ⟨OwnN.mono (B := W1.heap.size + 2) ⟨row_chg h1.1 hc fun k hk e => by have := (h1.lt k hk).1; omega, h1.2⟩ (by omega), ?_, ?_⟩
 ·rcases h2 with h | ⟨gj, cap, e1, hB, k1, k2, k3, k4, k5⟩
  ·exact .inl h
  ·refine .inr ⟨gj, cap, e1, by omega, k1, k2, fun i x hx => hc.cell (k3 i x hx) (fun e => by dsimp only at e; omega), fun i hi => ?_, fun i hi => ?_⟩
   ·obtain ⟨u, hu⟩ := Option.isSome_iff_exists.1 (k4 i hi)
    rw [hc.cell hu (fun e => by dsimp only at e; omega)]; rfl
   ·obtain ⟨u, hu⟩ := Option.isSome_iff_exists.1 (k4 i hi)
    have e : W10.frozen? ⟨gj, i, none⟩ = w9.frozen? ⟨gj, i, none⟩ := by
     unfold World.frozen?
     rw [hc.block gj (lt_of_cell hu) (fun e => by omega)]
    rw [e]; exact k5 i hi
 ·exact Chg.to_below (hbw.trans ((H.bw.trans (hb.mono H.bw.size)).mono hbw.size)) hc fun k e => by omega
set_option maxRecDepth 200000 in
set_option maxHeartbeats 32000000 in
theorem rread6_any {w : World} {v : Value} {b : List UInt8} (hv : By w v b) (hl : b.length ≤ 1000000) : Calls Tryz.prog 48 #[v] w (RrP w b) := by
 obtain ⟨pb, nb, cb, rfl⟩ := hv.sl
 obtain ⟨RR, ZZ, hR⟩ : ∃ RR ZZ, rowsL b.length b = (RR, ZZ) := ⟨_, _, rfl⟩
 obtain ⟨W0, hW0⟩ : ∃ W0, w.alloc (.cells #[.int .i64 0, .int .i64 0, .slice none 0 0, .slice none 0 0] 42) = W0 := ⟨_, rfl⟩
 have hb0 : Below w.heap.size w W0 := by rw [← hW0]; exact balloc (Below.refl _ _) _
 have hs0 : W0.heap.size = w.heap.size + 1 := by rw [← hW0]; simp
 have hr0 : W0.heap[w.heap.size]? = some (.cells #[.int .i64 0, .int .i64 0, .slice none 0 0, .slice none 0 0] 42 (0, 0)) := by rw [← hW0]; exact Array.getElem?_push_size
 have HRW := hide (refRows_any (hv.below hb0) hl hR)
 have HV := hide (hv.below hb0)
 have HVM := hide hv.ltM
 have HR := hide (show (rowsL b.length b).1 = RR by rw [hR])
 have HBL := hide hl
 have HB0 := hide hb0
 have HS0 := hide hs0
 have HR0 := hide hr0
 clear hv hl hR hb0 hs0 hr0
 go_enter Tryz.func48, Tryz.ntmps48
 go_wp2_with fail
 clear hW0
 refine HRW.out.mono ?_
 rintro e W1 ⟨v1, rfl, hbss, hb1⟩
 obtain ⟨p1, n1, c1, rfl⟩ := hbss.sl
 have hn1 := hbss.len
 have HBS := hide hbss
 have HB1 := hide (HB0.out.trans (hb1.mono HB0.out.size))
 have HV1 := hide (HV.out.below hb1)
 have HZ1 := hide ((hb1.block w.heap.size (by have := HS0.out; omega)).trans HR0.out)
 have HW1 := hide (show w.heap.size < W1.heap.size from by have := hb1.size; have := HS0.out; omega)
 clear hbss hb1 HRW HV HR0
 cases hRR : RR with
 | nil =>
  rw [hRR] at hn1 HR HBS
  obtain rfl : n1 = 0 := by simpa using hn1.1
  have hz := HZ1.out
  have z0 : W1.cell? ⟨w.heap.size, 0, none⟩ = some (.int .i64 0) := by rw [cell_of_row W1 _ 0 _ _ (0, 0) hz]; rfl
  have z1 : W1.cell? ⟨w.heap.size, 1, none⟩ = some (.int .i64 0) := by rw [cell_of_row W1 _ 1 _ _ (0, 0) hz]; rfl
  have z2 : W1.cell? ⟨w.heap.size, 2, none⟩ = some (.slice none 0 0) := by rw [cell_of_row W1 _ 2 _ _ (0, 0) hz]; rfl
  have z3 : W1.cell? ⟨w.heap.size, 3, none⟩ = some (.slice none 0 0) := by rw [cell_of_row W1 _ 3 _ _ (0, 0) hz]; rfl
  have u0 := frozen_of_row W1 w.heap.size 0 _ _ hz
  have u1 := frozen_of_row W1 w.heap.size 1 _ _ hz
  have u2 := frozen_of_row W1 w.heap.size 2 _ _ hz
  have u3 := frozen_of_row W1 w.heap.size 3 _ _ hz
  obtain ⟨hq1, hq2⟩ := set4 (.int .i64 0) (.int .i64 0) (.slice none 0 0) (.slice none 0 0) hz
  obtain ⟨F, hF⟩ : ∃ F, ((((W1.setCell ⟨w.heap.size, 0, none⟩ (.int .i64 0)).setCell ⟨w.heap.size, 1, none⟩ (.int .i64 0)).setCell ⟨w.heap.size, 2, none⟩ (.slice none 0 0)).setCell ⟨w.heap.size, 3, none⟩ (.slice none 0 0)) = F := ⟨_, rfl⟩
  rw [hF] at hq1 hq2
  have HQ1 := hide hq1
  have HQ2 := hide hq2
  have HF := hide hF
  clear hz hRR hn1 hq1 hq2 hF
  go_wp2
  rw [HF.out]
  have v0 : F.cell? ⟨w.heap.size, 0, none⟩ = some (.int .i64 0) := by rw [cell_of_row F _ 0 _ _ (0, 0) HQ1.out]; rfl
  have v1 : F.cell? ⟨w.heap.size, 1, none⟩ = some (.int .i64 0) := by rw [cell_of_row F _ 1 _ _ (0, 0) HQ1.out]; rfl
  have v2 : F.cell? ⟨w.heap.size, 2, none⟩ = some (.slice none 0 0) := by rw [cell_of_row F _ 2 _ _ (0, 0) HQ1.out]; rfl
  have v3 : F.cell? ⟨w.heap.size, 3, none⟩ = some (.slice none 0 0) := by rw [cell_of_row F _ 3 _ _ (0, 0) HQ1.out]; rfl
  refine bodyPost_ret (v := .tuple #[.agg #[.int .i64 0, .int .i64 0, .slice none 0 0, .slice none 0 0], .bool false]) (by simp [results, Tryz.results48, go_sem, v0, v1, v2, v3]) rfl ?_
  refine ⟨sn0, .slice none 0 0, .slice none 0 0, by rw [readB_nil HR.out]; rfl, OwnN.nil _ _, Own.nil _ _, fits0, fits0, Chg.to_below HB1.out HQ2.out fun k e => by omega, fun s' h => by rw [readB_nil HR.out] at h; cases h⟩
 | cons h rr =>
  rw [hRR] at hn1 HR HBS
  have hnp : ¬ (n1 : Int) = 0 := by have := hn1.1; simp at this; omega
  have hn0 : (0 : Int) < (n1 : Int) := by have := hn1.1; simp at this; omega
  obtain ⟨bb, oo, q, m, dd, l, rfl, hl0, hcell, hby⟩ := HBS.out.cellAt (k := 0) (by omega)
  obtain rfl : h = l := by simpa using hl0
  rw [Nat.add_zero] at hcell
  have HGO := hide (readB_go HR.out)
  obtain ⟨W3, hW3⟩ : ∃ W3, (W1.alloc (.cells #[.slice q m dd, .int .i64 0, .int .i64 0] 142)).alloc (.cells #[.int .i64 0, .int .i64 0, .slice none 0 0, .slice none 0 0] 42) = W3 := ⟨_, rfl⟩
  obtain ⟨g, hg⟩ : ∃ g, W1.heap.size = g := ⟨_, rfl⟩
  obtain ⟨Bs, hBs⟩ : ∃ Bs, g + 1 = Bs := ⟨_, rfl⟩
  have HI0 : Hid (RdI W1 W3 g Bs (.slice q m dd) h (0, 0) 0 0 [] (.slice none 0 0) [] (.slice none 0 0)) := hide (by
   have hbb : Below W1.heap.size W1 W3 := by rw [← hW3]; exact balloc (balloc (Below.refl _ _) _) _
   refine ⟨?_, hby.below hbb, Nat.zero_le _, hby.ltM, hg.symm, by omega, ?_, OwnN.nil _ _, Own.nil _ _, .inl rfl, hbb⟩
   ·show W3.heap[g]? = _
    rw [← hW3, ← hg, heap_alloc_old _ _ (by simp)]
    exact Array.getElem?_push_size
   ·rw [← hW3, ← hBs, ← hg]
    have := World.alloc_heap_new (W1.alloc (.cells #[.slice q m dd, .int .i64 0, .int .i64 0] 142)) (.cells #[.int .i64 0, .int .i64 0, .slice none 0 0, .slice none 0 0] 42)
    simpa using this)
  have HW3 := hide hW3
  have HG := hide hg
  have HBB := hide hBs
  have HFL := hide (show (h :: rr).flatten.length ≤ 1000000 from by
   have h1 := rows_flat b.length b
   rw [HR.out] at h1
   exact Nat.le_trans h1 HBL.out)
  obtain ⟨i1, hi1⟩ : ∃ x, (nx h (0, 0)).1 = x := ⟨_, rfl⟩
  obtain ⟨s1, hs1⟩ : ∃ x, (nx h (0, 0)).2 = x := ⟨_, rfl⟩
  obtain ⟨t1, ht1⟩ : ∃ x, (nx h s1).1 = x := ⟨_, rfl⟩
  obtain ⟨s2, hs2⟩ : ∃ x, (nx h s1).2 = x := ⟨_, rfl⟩
  obtain ⟨nn, hnn⟩ : ∃ x, (nx h s2).1 = x := ⟨_, rfl⟩
  obtain ⟨s3, hs3⟩ : ∃ x, (nx h s2).2 = x := ⟨_, rfl⟩
  have HSN : Hid (snapOf 8 h rr = ⟨(i1 : Nat), (t1 : Nat), (rdNs h (min nn 8) s3.1 s3.2).1, rr.flatten⟩) := hide (by rw [← hs3, ← hnn, ← hs2, ← ht1, ← hs1, ← hi1]; rfl)
  have N1 := hide (HI0.out.step rfl (Below.refl _ _))
  rw [hi1, hs1] at N1
  have HIL := hide (show i1 < 9223372036854775808 from hi1 ▸ (nx_le HI0.out.at_).2)
  have HE2 := hide (And.intro ht1 (And.intro hs2 (And.intro hnn hs3)))
  clear hW3 hg hBs hl0 hby hi1 hs1 ht1 hs2 hnn hs3 hRR hn1
  go_wp2_with fail
  rw [HW3.out, HG.out, HBB.out]
  clear hcell
  refine N1.out.mono ?_
  rintro e w4 ⟨rfl, hi4, _⟩
  obtain ⟨c0, c1', c2, c3⟩ := hi4.cells
  have f0 := hi4.fr 0
  have HI5 := hide (hi4.set0 (i1 : Nat))
  obtain ⟨W5, hW5⟩ : ∃ W5, w4.setCell ⟨Bs, 0, none⟩ (.int .i64 (i1 : Nat)) = W5 := ⟨_, rfl⟩
  rw [hW5] at HI5
  have N2 := hide (HI5.out.step rfl (Below.refl _ _))
  have HTL := hide (show t1 < 9223372036854775808 from HE2.out.1 ▸ (nx_le HI5.out.at_).2)
  rw [HE2.out.1, HE2.out.2.1] at N2
  clear hi4 N1 HI0
  go_wp2_with fail
  clear hW5 c0 c1' c2 c3 f0
  refine N2.out.mono ?_
  rintro e w6 ⟨rfl, hi6, _⟩
  obtain ⟨c0, c1', c2, c3⟩ := hi6.cells
  have f1 := hi6.fr 1
  have HI7 := hide (hi6.set1 (t1 : Nat))
  obtain ⟨W7, hW7⟩ : ∃ W7, w6.setCell ⟨Bs, 1, none⟩ (.int .i64 (t1 : Nat)) = W7 := ⟨_, rfl⟩
  rw [hW7] at HI7
  have N3 := hide (HI7.out.step rfl (Below.refl _ _))
  have HNL := hide (show nn < 9223372036854775808 from HE2.out.2.2.1 ▸ (nx_le HI7.out.at_).2)
  rw [HE2.out.2.2.1, HE2.out.2.2.2] at N3
  clear hi6 N2 HI5
  go_wp2_with fail
  clear hW7 c0 c1' c2 c3 f1
  refine N3.out.mono ?_
  rintro e w8 ⟨rfl, hi8, _⟩
  have HI8 := hide hi8
  clear hi8 N3 HI7 HE2
  obtain ⟨M, hM⟩ : ∃ M, min nn 8 = M := ⟨_, rfl⟩
  have hM8 : M ≤ 8 := by omega
  have hMn : M ≤ nn := by omega
  have hMm : nn ≤ M ∨ M = 8 := by omega
  rw [hM] at HSN
  clear hM
  go_wp2_with fail
  go_loopw [9] (fun i wr => ∃ (k : Nat) (r : List Int) (s : Nat × Nat) (p : Option Addr) (n c : Nat), k ≤ M ∧ i = .int .i64 k ∧ Hid (RdI W1 wr g Bs (.slice q m dd) h s (i1 : Nat) (t1 : Nat) r (.slice p n c) [] (.slice none 0 0) ∧ r.length = k ∧ r ++ (rdNs h (M - k) s.1 s.2).1 = (rdNs h M s3.1 s3.2).1)) (fun i _ => M - (intOf i).toNat)
  case atStart => exact ⟨0, [], s3, none, 0, 0, by omega, rfl, hide ⟨HI8.out, rfl, rfl⟩⟩
  case round =>
   obtain ⟨k, r, s, pv, nv, cv, hk, rfl, HR2⟩ := hrel
   by_cases hlt : k < M
   ·have e1 : (k : Int) < (nn : Int) := by omega
    have e2 : (k : Int) < 8 := by omega
    obtain ⟨x, hx⟩ : ∃ x, (nx h s).1 = x := ⟨_, rfl⟩
    obtain ⟨s2', hs2'⟩ : ∃ y, (nx h s).2 = y := ⟨_, rfl⟩
    have HXL := hide (show x < 9223372036854775808 from hx ▸ (nx_le HR2.out.1.at_).2)
    have HNX : Hid (∀ W, (∃ q, W = wr.drewN q) → Calls Tryz.prog 91 #[.pointer (some ⟨g, 0, none⟩)] W fun e w' => e = .returned (.int .i64 (x : Nat)) ∧ RdI W1 w' g Bs (.slice q m dd) h s2' (i1 : Nat) (t1 : Nat) r (.slice pv nv cv) [] (.slice none 0 0)) := hide (by
     rintro W ⟨q, rfl⟩
     have h1 := HR2.out.1.step rfl (below_drewN (Below.refl wr.heap.size wr) q)
     rw [hx, hs2'] at h1
     exact h1.mono fun e w' ⟨h1, h2, h3⟩ => ⟨h1, h2⟩)
    have HRL : Hid (r.length ≤ 1000000) := hide (by have := HR2.out.2.1; omega)
    have HST := hide (fun (w5 w9 : World) p9 n9 c9 (hs : RdI W1 w5 g Bs (.slice q m dd) h s2' (i1 : Nat) (t1 : Nat) r (.slice pv nv cv) [] (.slice none 0 0)) (ho : OwnN (W1.heap.size + 2) w9 (.slice p9 n9 c9) (r ++ [(x : Int)])) (h9 : w5.grownBy w9 (Value.slice pv nv cv).ownBlock) => (⟨hs.push h9 ho, by rw [List.length_append, HR2.out.2.1]; rfl, by
     have h1 := HR2.out.2.2
     rw [show M - k = (M - (k + 1)) + 1 by omega, rdNs] at h1
     rw [← h1, List.append_assoc, ← hs2', ← hx]
     rfl⟩ : RdI W1 (w9.setCell ⟨Bs, 2, none⟩ (.slice p9 n9 c9)) g Bs (.slice q m dd) h s2' (i1 : Nat) (t1 : Nat) (r ++ [(x : Int)]) (.slice p9 n9 c9) [] (.slice none 0 0) ∧ (r ++ [(x : Int)]).length = k + 1 ∧ (r ++ [(x : Int)]) ++ (rdNs h (M - (k + 1)) s2'.1 s2'.2).1 = (rdNs h M s3.1 s3.2).1))
    have hv0 := HR2.out.1.cells.2.2.1
    have hf0 := HR2.out.1.fr 2
    clear hx hs2'
    go_wp2_with fail
    refine wp_region_held_drew (S := fun _ => True) (by kernel_rfl) ?_ (fun hHeld => ?_)
    ·(try dsimp only)
     try trivial
    refine tkL 0 rfl ?_
    refine tkL 2 rfl ?_
    refine wpAnyH_ready (rs := [1, 3]) (by kernel_rfl) (by simp) ?_
    refine acL rfl (fun K hK => ?_) ?_
    ·go_simp
     first
      | refine hK.out _ _ ?_ (fun hHeld => ?_)
      | (go_wp2_with fail; refine hK.out _ _ ?_ (fun hHeld => ?_))
     ·(try dsimp only)
      try trivial
     clear hK K
     try simp only [Act.put, qA, qB, qC]
     refine wpAnyH_ready (rs := [3]) (by kernel_rfl) (by simp) ?_
     refine acL rfl (fun K hK => ?_) ?_
     ·go_simp
      refine (HNX.out _ (by first | exact ⟨1, rfl⟩ | exact ⟨0, rfl⟩)).mono ?_
      rintro e w5 ⟨rfl, hi5⟩
      have H5 := hide hi5
      have hv5 := hi5.cells.2.2.1
      have hf5 := hi5.fr 2
      have hv5a : (w5.alloc (.cells #[.int .i64 (x : Int)] 3)).cell? ⟨Bs, 2, none⟩ = some (.slice pv nv cv) := ((balloc (Below.refl w5.heap.size w5) _).cell (lt_of_cell hv5)).trans hv5
      clear hi5
      first
       | refine hK.out _ _ ?_ (fun hHeld => ?_)
       | (go_wp2_with fail; refine hK.out _ _ ?_ (fun hHeld => ?_))
      ·(try dsimp only)
       try trivial
      clear hK K
      try simp only [Act.put, qA, qB, qC]
      refine wpAnyH_ready (rs := [4]) (by kernel_rfl) (by simp) ?_
      refine acL rfl (fun K hK => ?_) ?_
      ·go_simp
       first
        | refine hK.out _ _ ?_ (fun hHeld => ?_)
        | (go_wp2_with fail; refine hK.out _ _ ?_ (fun hHeld => ?_))
       ·(try dsimp only)
        try trivial
       clear hK K
       try simp only [Act.put, qA, qB, qC]
       refine wpAnyH_ready (rs := [5]) (by kernel_rfl) (by simp) ?_
       refine acL rfl (fun K hK => ?_) ?_
       ·refine step_pushN1 (by rfl) _ _ (by rfl) (by rfl) (x : Int) (by rfl) (by rfl) (by rfl) H5.out.vo (by have := HXL.out; unfold fits; omega) (by have := H5.out.lt; have := H5.out.bl; omega) (by have := HRL.out; omega) ?_
        intro v9 w9 ho9 hg9
        obtain ⟨p9, n9, c9, rfl⟩ := ho9.ns.sl
        have H9 := hide (And.intro ho9 hg9)
        have hne9 : some (⟨Bs, 2, none⟩ : Addr).block ≠ (Value.slice pv nv cv).ownBlock := fun e => by have := (H5.out.vo.lt Bs e.symm).1; have := H5.out.bl; omega
        have hv9 := hg9.cell hv5 hne9
        have hf9 := (frozen_grown hg9 (lt_of_cell hv5) hne9.symm).trans hf5
        clear ho9 hg9 hne9
        first
         | refine hK.out _ _ ?_ (fun hHeld => ?_)
         | (go_wp2_with fail; refine hK.out _ _ ?_ (fun hHeld => ?_))
        ·(try dsimp only)
         try trivial
        clear hK K
        try simp only [Act.put, qA, qB, qC]
        refine tkL 6 rfl ?_
        refine wpAnyH_ready (rs := [7]) (by kernel_rfl) (by simp) ?_
        refine acL rfl (fun K hK => ?_) ?_
        ·go_simp
         first
          | refine hK.out _ _ ?_ (fun hHeld => ?_)
          | (go_wp2_with fail; refine hK.out _ _ ?_ (fun hHeld => ?_))
         ·(try dsimp only)
          try trivial
         clear hK K
         try simp only [Act.put, qA, qB, qC]
         refine wpAnyH_done (by kernel_rfl) ?_ _
         (try dsimp only)
         have HEND := hide (HST.out _ _ p9 n9 c9 H5.out H9.out.1 H9.out.2)
         clear hv5 hf5 hv9 hf9 H5 H9
         go_wp2
         go_roundw
         case rel => exact ⟨k + 1, _, _, _, _, _, by omega, by go_num, HEND⟩
         case measure => simp [intOf] <;> omega
        exact AllReadyH.nil
       exact AllReadyH.nil
      exact AllReadyH.nil
     exact AllReadyH.nil
    refine acL rfl (fun K hK => ?_) ?_
    ·go_simp
     refine (HNX.out _ (by first | exact ⟨1, rfl⟩ | exact ⟨0, rfl⟩)).mono ?_
     rintro e w5 ⟨rfl, hi5⟩
     have H5 := hide hi5
     have hv5 := hi5.cells.2.2.1
     have hf5 := hi5.fr 2
     have hv5a : (w5.alloc (.cells #[.int .i64 (x : Int)] 3)).cell? ⟨Bs, 2, none⟩ = some (.slice pv nv cv) := ((balloc (Below.refl w5.heap.size w5) _).cell (lt_of_cell hv5)).trans hv5
     clear hi5
     first
      | refine hK.out _ _ ?_ (fun hHeld => ?_)
      | (go_wp2_with fail; refine hK.out _ _ ?_ (fun hHeld => ?_))
     ·(try dsimp only)
      try trivial
     clear hK K
     try simp only [Act.put, qA, qB, qC]
     refine wpAnyH_ready (rs := [1, 4]) (by kernel_rfl) (by simp) ?_
     refine acL rfl (fun K hK => ?_) ?_
     ·go_simp
      first
       | refine hK.out _ _ ?_ (fun hHeld => ?_)
       | (go_wp2_with fail; refine hK.out _ _ ?_ (fun hHeld => ?_))
      ·(try dsimp only)
       try trivial
      clear hK K
      try simp only [Act.put, qA, qB, qC]
      refine wpAnyH_ready (rs := [4]) (by kernel_rfl) (by simp) ?_
      refine acL rfl (fun K hK => ?_) ?_
      ·go_simp
       first
        | refine hK.out _ _ ?_ (fun hHeld => ?_)
        | (go_wp2_with fail; refine hK.out _ _ ?_ (fun hHeld => ?_))
       ·(try dsimp only)
        try trivial
       clear hK K
       try simp only [Act.put, qA, qB, qC]
       refine wpAnyH_ready (rs := [5]) (by kernel_rfl) (by simp) ?_
       refine acL rfl (fun K hK => ?_) ?_
       ·refine step_pushN1 (by rfl) _ _ (by rfl) (by rfl) (x : Int) (by rfl) (by rfl) (by rfl) H5.out.vo (by have := HXL.out; unfold fits; omega) (by have := H5.out.lt; have := H5.out.bl; omega) (by have := HRL.out; omega) ?_
        intro v9 w9 ho9 hg9
        obtain ⟨p9, n9, c9, rfl⟩ := ho9.ns.sl
        have H9 := hide (And.intro ho9 hg9)
        have hne9 : some (⟨Bs, 2, none⟩ : Addr).block ≠ (Value.slice pv nv cv).ownBlock := fun e => by have := (H5.out.vo.lt Bs e.symm).1; have := H5.out.bl; omega
        have hv9 := hg9.cell hv5 hne9
        have hf9 := (frozen_grown hg9 (lt_of_cell hv5) hne9.symm).trans hf5
        clear ho9 hg9 hne9
        first
         | refine hK.out _ _ ?_ (fun hHeld => ?_)
         | (go_wp2_with fail; refine hK.out _ _ ?_ (fun hHeld => ?_))
        ·(try dsimp only)
         try trivial
        clear hK K
        try simp only [Act.put, qA, qB, qC]
        refine tkL 6 rfl ?_
        refine wpAnyH_ready (rs := [7]) (by kernel_rfl) (by simp) ?_
        refine acL rfl (fun K hK => ?_) ?_
        ·go_simp
         first
          | refine hK.out _ _ ?_ (fun hHeld => ?_)
          | (go_wp2_with fail; refine hK.out _ _ ?_ (fun hHeld => ?_))
         ·(try dsimp only)
          try trivial
         clear hK K
         try simp only [Act.put, qA, qB, qC]
         refine wpAnyH_done (by kernel_rfl) ?_ _
         (try dsimp only)
         have HEND := hide (HST.out _ _ p9 n9 c9 H5.out H9.out.1 H9.out.2)
         clear hv5 hf5 hv9 hf9 H5 H9
         go_wp2
         go_roundw
         case rel => exact ⟨k + 1, _, _, _, _, _, by omega, by go_num, HEND⟩
         case measure => simp [intOf] <;> omega
        exact AllReadyH.nil
       exact AllReadyH.nil
      exact AllReadyH.nil
     refine acL rfl (fun K hK => ?_) ?_
     ·go_simp
      first
       | refine hK.out _ _ ?_ (fun hHeld => ?_)
       | (go_wp2_with fail; refine hK.out _ _ ?_ (fun hHeld => ?_))
      ·(try dsimp only)
       try trivial
      clear hK K
      try simp only [Act.put, qA, qB, qC]
      refine wpAnyH_ready (rs := [1]) (by kernel_rfl) (by simp) ?_
      refine acL rfl (fun K hK => ?_) ?_
      ·go_simp
       first
        | refine hK.out _ _ ?_ (fun hHeld => ?_)
        | (go_wp2_with fail; refine hK.out _ _ ?_ (fun hHeld => ?_))
       ·(try dsimp only)
        try trivial
       clear hK K
       try simp only [Act.put, qA, qB, qC]
       refine wpAnyH_ready (rs := [5]) (by kernel_rfl) (by simp) ?_
       refine acL rfl (fun K hK => ?_) ?_
       ·refine step_pushN1 (by rfl) _ _ (by rfl) (by rfl) (x : Int) (by rfl) (by rfl) (by rfl) H5.out.vo (by have := HXL.out; unfold fits; omega) (by have := H5.out.lt; have := H5.out.bl; omega) (by have := HRL.out; omega) ?_
        intro v9 w9 ho9 hg9
        obtain ⟨p9, n9, c9, rfl⟩ := ho9.ns.sl
        have H9 := hide (And.intro ho9 hg9)
        have hne9 : some (⟨Bs, 2, none⟩ : Addr).block ≠ (Value.slice pv nv cv).ownBlock := fun e => by have := (H5.out.vo.lt Bs e.symm).1; have := H5.out.bl; omega
        have hv9 := hg9.cell hv5 hne9
        have hf9 := (frozen_grown hg9 (lt_of_cell hv5) hne9.symm).trans hf5
        clear ho9 hg9 hne9
        first
         | refine hK.out _ _ ?_ (fun hHeld => ?_)
         | (go_wp2_with fail; refine hK.out _ _ ?_ (fun hHeld => ?_))
        ·(try dsimp only)
         try trivial
        clear hK K
        try simp only [Act.put, qA, qB, qC]
        refine tkL 6 rfl ?_
        refine wpAnyH_ready (rs := [7]) (by kernel_rfl) (by simp) ?_
        refine acL rfl (fun K hK => ?_) ?_
        ·go_simp
         first
          | refine hK.out _ _ ?_ (fun hHeld => ?_)
          | (go_wp2_with fail; refine hK.out _ _ ?_ (fun hHeld => ?_))
         ·(try dsimp only)
          try trivial
         clear hK K
         try simp only [Act.put, qA, qB, qC]
         refine wpAnyH_done (by kernel_rfl) ?_ _
         (try dsimp only)
         have HEND := hide (HST.out _ _ p9 n9 c9 H5.out H9.out.1 H9.out.2)
         clear hv5 hf5 hv9 hf9 H5 H9
         go_wp2
         go_roundw
         case rel => exact ⟨k + 1, _, _, _, _, _, by omega, by go_num, HEND⟩
         case measure => simp [intOf] <;> omega
        exact AllReadyH.nil
       exact AllReadyH.nil
      exact AllReadyH.nil
     exact AllReadyH.nil
    exact AllReadyH.nil
   ·have e1 : ¬ ((k : Int) < (nn : Int) ∧ (k : Int) < 8) := by omega
    have HKM := hide (show k = M by omega)
    have HE1 : Hid (r = (rdNs h M s3.1 s3.2).1) := hide (by
     have h1 := HR2.out.2.2
     rw [show M - k = 0 by have := HKM.out; omega, rdNs, List.append_nil] at h1
     exact h1)
    have HI9 := hide HR2.out.1
    obtain ⟨q2, hcut, htl⟩ := bss_tail HBS.out
    have htn := htl.len.1
    obtain ⟨nt, hnt⟩ : ∃ nt, n1 - 1 = nt := ⟨_, rfl⟩
    obtain ⟨ct, hct⟩ : ∃ ct, c1 - 1 = ct := ⟨_, rfl⟩
    rw [hnt] at htn
    simp only [hnt, hct] at hcut htl
    have HTL2 := hide htl
    have HTN := hide htn
    have htm := htl.len.2.1
    unfold maxLen at htm
    have hap0 : ∀ kk, (Value.slice pv nv cv).ownBlock = some kk → (Value.slice none 0 0).ownBlock ≠ some kk := fun kk _ e => by cases e
    have HAP0 := hide hap0
    clear HR2 hnt hct htl htn HI8 hlt hap0
    have e3 : (k : Int) < (nn : Int) → ¬ (k : Int) < 8 := by omega
    by_cases hkn : (k : Int) < (nn : Int)
    ·have hk8 : ¬ (k : Int) < 8 := e3 hkn
     clear e1 e3
     go_wp2_with fail
     clear hcut
     go_loopw [11, 54] (fun _ i wr2 => ∃ (j : Nat) (dl : List UInt8) (p n c : _), j ≤ nt ∧ i = .int .i64 j ∧ Hid (dl = (rr.take j).flatten ∧ (RdI W1 wr2 g Bs (.slice q m dd) h s (i1 : Nat) (t1 : Nat) r (.slice pv nv cv) dl (.slice p n c) ∧ ∀ kk, (Value.slice pv nv cv).ownBlock = some kk → (Value.slice p n c).ownBlock ≠ some kk))) (fun _ i _ => nt - (intOf i).toNat)
     case atStart => exact ⟨0, [], none, 0, 0, Nat.zero_le _, rfl, hide ⟨rfl, HI9.out, HAP0.out⟩⟩
     case round =>
      obtain ⟨j, dl, p5, n5, c5, hj, rfl, hrel⟩ := hrel
      have HR3 := hide hrel.out
      clear hrel HI9 HAP0
      by_cases hjt : (j : Int) < (nt : Int)
      ·obtain ⟨bb2, oo2, q6, m6, d6, x6, rfl, hx6, hcell6, hby6⟩ := (HTL2.out.below HR3.out.2.1.bw).cellAt (k := j) (by omega)
       have HX6 := hide hx6
       have HBY6 := hide hby6
       have HLE6 : Hid (dl.length + x6.length ≤ 140737488355328) := hide (by
        have h1 := flat_take_le rr (j + 1)
        rw [List.take_add_one, HX6.out] at h1
        have h2 := HFL.out
        rw [HR3.out.1]
        simp at h1 h2 ⊢
        omega)
       have hbl3 := HR3.out.2.1.bl
       have hge : W1.heap.size + 2 ≤ wr.heap.size := by have := HR3.out.2.1.lt; omega
       have HBL3 := hide hbl3
       obtain ⟨cc0, cc1, cc2, cc3⟩ := HR3.out.2.1.cells
       clear hx6 hby6 hbl3
       go_wp2_with (at_builtin; go_must (refine wpList_append_by (v := .slice p5 n5 c5) rfl _ _ rfl rfl rfl rfl HR3.out.2.1.da HBY6.out HLE6.out hge ?_); intro v3 w3 ho3 hg3 hb3 hk3; obtain ⟨p7, n7, c7, rfl⟩ := ho3.by_.sl; have hr3 := (hb3.block Bs (by have := HBL3.out; omega)).trans HR3.out.2.1.row; have a3 : w3.cell? ⟨Bs, 3, none⟩ = some (.slice p5 n5 c5) := (by rw [cell_of_row w3 _ 3 _ _ (0, 0) hr3]; rfl); have zz3 := frozen_of_row w3 Bs 3 _ 42 hr3)
       have HN3 := hide (HR3.out.2.1.app hg3 hb3 ho3 hk3 HR3.out.2.2)
       have HDN : Hid (dl ++ x6 = (rr.take (j + 1)).flatten) := hide (by rw [HR3.out.1, List.take_add_one, HX6.out]; simp)
       clear ho3 hg3 hb3 hk3 hr3 a3 zz3 cc0 cc1 cc2 cc3
       exact ⟨⟨j + 1, dl ++ x6, p7, n7, c7, by omega, by go_num, hide ⟨HDN.out, HN3.out⟩⟩, by simp [intOf]; omega⟩
      ·have hdl : dl = rr.flatten := by rw [HR3.out.1, List.take_of_length_le (by have := HTN.out; omega)]
       have HS8 : Hid (snapOf 8 h rr = (⟨(i1 : Nat), (t1 : Nat), r, dl⟩ : Sn)) := hide (by rw [HSN.out, ← HE1.out, hdl])
       obtain ⟨sS, hsS⟩ : ∃ sS : Sn, (⟨(i1 : Nat), (t1 : Nat), r, dl⟩ : Sn) = sS := ⟨_, rfl⟩
       have HF0 : Hid (Go.Proofs.YtgbdjcekpdfpjaaGreatDoor.fits (i1 : Nat) ∧ Go.Proofs.YtgbdjcekpdfpjaaGreatDoor.fits (t1 : Nat)) := hide (by
        have h1 := HIL.out
        have h2 := HTL.out
        exact ⟨⟨by omega, by omega⟩, ⟨by omega, by omega⟩⟩)
       have HSV := hide (HR3.out.2.1.snv HF0.out.1 HF0.out.2)
       rw [hsS] at HS8 HSV
       rw [HS8.out] at HGO
       have HSS := hide hsS
       have HIF := hide HR3.out.2.1
       have HVF := hide (HV1.out.below HIF.out.bw)
       have HKF := hide (fun (W : World) (hW : Below wr.heap.size wr W) => (show W.cell? ⟨Bs, 0, none⟩ = some (.int .i64 (i1 : Nat)) ∧ W.cell? ⟨Bs, 1, none⟩ = some (.int .i64 (t1 : Nat)) ∧ W.cell? ⟨Bs, 2, none⟩ = some (.slice pv nv cv) ∧ W.cell? ⟨Bs, 3, none⟩ = some (.slice p5 n5 c5) ∧ By W (.slice pb nb cb) b from ⟨(hW.cell (lt_of_cell HIF.out.cells.1)).trans HIF.out.cells.1, (hW.cell (lt_of_cell HIF.out.cells.2.1)).trans HIF.out.cells.2.1, (hW.cell (lt_of_cell HIF.out.cells.2.2.1)).trans HIF.out.cells.2.2.1, (hW.cell (lt_of_cell HIF.out.cells.2.2.2)).trans HIF.out.cells.2.2.2, HVF.out.below hW⟩))
       have HZR := hide (fun (W : World) (hW : Below wr.heap.size wr W) => (show W.heap[w.heap.size]? = some (.cells #[.int .i64 0, .int .i64 0, .slice none 0 0, .slice none 0 0] 42 (0, 0)) from (hW.block w.heap.size (by have := HIF.out.bw.size; have := HW1.out; omega)).trans ((HIF.out.bw.block w.heap.size HW1.out).trans HZ1.out)))
       have HEND := hide (fun (w9 W10 : World) (hb : Below wr.heap.size wr w9) (hc : Chg w9 W10 (fun k => k = w.heap.size)) => rdi_end HIF.out hb hc HW1.out HB1.out)
       have hbne : Bs ≠ w.heap.size := by have := HIF.out.bl; have := HW1.out; omega
       have HBN := hide hbne
       clear hdl hsS HR3 hbne
       by_cases hck : sS.chk = 0
       ·have HCK := hide hck
        rw [hck] at HGO
        obtain ⟨bq, hbq⟩ : ∃ bq, ((str sS.file).toList == (str b).toList) = bq := ⟨_, rfl⟩
        have HRB : Hid ((readB 7 b).isSome = bq ∧ ∀ s', readB 7 b = some s' → s' = sS) := hide (by
         rw [HGO.out, ← hbq, str_beq]
         by_cases hf : sS.file = b
         ·rw [if_pos ⟨rfl, hf⟩, decide_eq_true hf]
          exact ⟨rfl, fun s' h => (Option.some.inj h).symm⟩
         ·rw [if_neg fun h => hf h.2, decide_eq_false hf]
          exact ⟨rfl, fun s' h => by cases h⟩)
        have HBQ := hide hbq
        clear hck hbq
        go_wp2_with fail
        refine wp_region_held_drew (S := fun W => W.cell? ⟨Bs, 0, none⟩ = some (.int .i64 (i1 : Nat)) ∧ W.cell? ⟨Bs, 1, none⟩ = some (.int .i64 (t1 : Nat)) ∧ W.cell? ⟨Bs, 2, none⟩ = some (.slice pv nv cv) ∧ W.cell? ⟨Bs, 3, none⟩ = some (.slice p5 n5 c5) ∧ By W (.slice pb nb cb) b) (by kernel_rfl) ?_ (fun hHeld => ?_)
        ·(try dsimp only)
         exact HKF.out _ (below_drewN (Below.refl _ _) 1)
        refine tkL 0 rfl ?_
        refine tkL 1 rfl ?_
        refine wpAnyH_ready (rs := [2]) (by kernel_rfl) (by simp) ?_
        refine acL rfl (fun K hK => ?_) ?_
        ·go_simp
         go_at_call 32
         refine (vrcheck_any (HSV.out.below (below_drewN (Below.refl wr.heap.size wr) 1))).mono ?_
         rintro e w8 ⟨rfl, hb8⟩
         rw [HCK.out]
         have HB8 : Hid (Below wr.heap.size wr w8) := hide ((below_drewN (Below.refl wr.heap.size wr) 1).trans hb8)
         clear hb8
         first
          | refine hK.out _ _ ?_ (fun hHeld => ?_)
          | (go_wp2_with fail; refine hK.out _ _ ?_ (fun hHeld => ?_))
         ·(try dsimp only)
          exact HKF.out _ HB8.out
         clear hK K
         try simp only [Act.put, qA, qB, qC]
         refine tkL 3 rfl ?_
         refine tkL 4 rfl ?_
         refine tkL 5 rfl ?_
         refine tkL 8 rfl ?_
         refine tkI (i := 9) (v := (.string (str b))) (tkD rfl) (by rfl) ?_ ?_
         ·intro w hSw
          (try dsimp only at hSw)
          have hcv := conv_at hSw.2.2.2.2
          go_simp
          try with_reducible rfl
         try simp only [Act.put, qA, qB, qC]
         refine wpAnyH_ready (rs := [6]) (by kernel_rfl) (by simp) ?_
         refine acL rfl (fun K hK => ?_) ?_
         ·go_simp
          go_at_call 92
          refine (rfile_any (HSV.out.below HB8.out) HCK.out).mono ?_
          rintro e w9 ⟨vf, rfl, hof, hbf⟩
          obtain ⟨pf, nf, cf, rfl⟩ := hof.by_.sl
          have HB9 : Hid (Below wr.heap.size wr w9) := hide (HB8.out.trans (hbf.mono HB8.out.size))
          have hcv7 := conv_at hof.by_
          have hzr := HZR.out w9 HB9.out
          obtain ⟨hq1, hq2⟩ := set4 (.int .i64 (i1 : Nat)) (.int .i64 (t1 : Nat)) (.slice pv nv cv) (.slice p5 n5 c5) hzr
          obtain ⟨W10, hW10⟩ : ∃ W10, ((((w9.setCell ⟨w.heap.size, 0, none⟩ (.int .i64 (i1 : Nat))).setCell ⟨w.heap.size, 1, none⟩ (.int .i64 (t1 : Nat))).setCell ⟨w.heap.size, 2, none⟩ (.slice pv nv cv)).setCell ⟨w.heap.size, 3, none⟩ (.slice p5 n5 c5)) = W10 := ⟨_, rfl⟩
          rw [hW10] at hq1 hq2
          have z0 : w9.cell? ⟨w.heap.size, 0, none⟩ = some (.int .i64 0) := by rw [cell_of_row w9 _ 0 _ _ (0, 0) hzr]; rfl
          have z1 : w9.cell? ⟨w.heap.size, 1, none⟩ = some (.int .i64 0) := by rw [cell_of_row w9 _ 1 _ _ (0, 0) hzr]; rfl
          have z2 : w9.cell? ⟨w.heap.size, 2, none⟩ = some (.slice none 0 0) := by rw [cell_of_row w9 _ 2 _ _ (0, 0) hzr]; rfl
          have z3 : w9.cell? ⟨w.heap.size, 3, none⟩ = some (.slice none 0 0) := by rw [cell_of_row w9 _ 3 _ _ (0, 0) hzr]; rfl
          have u0 := frozen_of_row w9 w.heap.size 0 _ _ hzr
          have u1 := frozen_of_row w9 w.heap.size 1 _ _ hzr
          have u2 := frozen_of_row w9 w.heap.size 2 _ _ hzr
          have u3 := frozen_of_row w9 w.heap.size 3 _ _ hzr
          have HQ1 := hide hq1
          have HQ2 := hide hq2
          have HK10 : Hid (W10.cell? ⟨Bs, 0, none⟩ = some (.int .i64 (i1 : Nat)) ∧ W10.cell? ⟨Bs, 1, none⟩ = some (.int .i64 (t1 : Nat)) ∧ W10.cell? ⟨Bs, 2, none⟩ = some (.slice pv nv cv) ∧ W10.cell? ⟨Bs, 3, none⟩ = some (.slice p5 n5 c5) ∧ By W10 (.slice pb nb cb) b) := hide (by
           obtain ⟨k0, k1, k2, k3, k4⟩ := HKF.out w9 HB9.out
           exact ⟨HQ2.out.cell k0 HBN.out, HQ2.out.cell k1 HBN.out, HQ2.out.cell k2 HBN.out, HQ2.out.cell k3 HBN.out, k4.chg HQ2.out (HVM.out.imp id fun h k hk e => by have := h k hk; omega)⟩)
          clear hq1 hq2
          have hcv10 : (convert 40 9 (.slice pf nf cf)).run Tryz.prog W10 = .ok (.string (str sS.file)) W10 := conv_at (hof.by_.chg HQ2.out (by
           rcases own_lies hof (P := fun k => w8.heap.size ≤ k) (fun k hk => hk.1) with h | h
           ·exact .inl h
           ·exact .inr fun k hk e => by have := h k hk; have := HB8.out.size; have := HIF.out.bw.size; have := HW1.out; omega))
          have hbq : ((str sS.file).toList == (str b).toList) = bq := HBQ.out
          clear hof hbf
          first
           | refine hK.out _ _ ?_ (fun hHeld => ?_)
           | (go_wp2_with fail; refine hK.out _ _ ?_ (fun hHeld => ?_))
          ·(try dsimp only)
           exact HKF.out _ HB9.out
          clear hK K
          try simp only [Act.put, qA, qB, qC]
          refine wpAnyH_ready (rs := [7, 12]) (by kernel_rfl) (by simp) ?_
          refine acL rfl (fun K hK => ?_) ?_
          ·go_simp
           first
            | refine hK.out _ _ ?_ (fun hHeld => ?_)
            | (go_wp2_with fail; refine hK.out _ _ ?_ (fun hHeld => ?_))
           ·(try dsimp only)
            exact HKF.out _ HB9.out
           clear hK K
           try simp only [Act.put, qA, qB, qC]
           refine tkL 10 rfl ?_
           refine tkL 11 rfl ?_
           refine wpAnyH_ready (rs := [12]) (by kernel_rfl) (by simp) ?_
           refine acL rfl (fun K hK => ?_) ?_
           ·go_simp
            first
             | refine hK.out _ _ ?_ (fun hHeld => ?_)
             | (go_wp2_with fail; refine hK.out _ _ ?_ (fun hHeld => ?_))
            ·(try dsimp only)
             exact HK10.out
            clear hK K
            try simp only [Act.put, qA, qB, qC]
            refine tkL 13 rfl ?_
            refine wpAnyH_done (by kernel_rfl) ?_ _
            (try dsimp only)
            have v0 : W10.cell? ⟨w.heap.size, 0, none⟩ = some (.int .i64 (i1 : Nat)) := by rw [cell_of_row W10 _ 0 _ _ (0, 0) HQ1.out]; rfl
            have v1 : W10.cell? ⟨w.heap.size, 1, none⟩ = some (.int .i64 (t1 : Nat)) := by rw [cell_of_row W10 _ 1 _ _ (0, 0) HQ1.out]; rfl
            have v2 : W10.cell? ⟨w.heap.size, 2, none⟩ = some (.slice pv nv cv) := by rw [cell_of_row W10 _ 2 _ _ (0, 0) HQ1.out]; rfl
            have v3 : W10.cell? ⟨w.heap.size, 3, none⟩ = some (.slice p5 n5 c5) := by rw [cell_of_row W10 _ 3 _ _ (0, 0) HQ1.out]; rfl
            go_wp2_with fail
            refine bodyPost_ret (v := .tuple #[.agg #[.int .i64 (i1 : Nat), .int .i64 (t1 : Nat), .slice pv nv cv, .slice p5 n5 c5], .bool bq]) (by simp [results, Tryz.results48, go_sem, v0, v1, v2, v3]) rfl ?_
            obtain ⟨q1, q2, q3⟩ := HEND.out w9 W10 HB9.out HQ2.out
            exact ⟨⟨(i1 : Nat), (t1 : Nat), r, dl⟩, .slice pv nv cv, .slice p5 n5 c5, by rw [HRB.out.1], q1, q2, HF0.out.1, HF0.out.2, q3, fun s' hs => (HRB.out.2 s' hs).trans HSS.out.symm⟩
           exact AllReadyH.nil
          refine acL rfl (fun K hK => ?_) ?_
          ·go_simp
           first
            | refine hK.out _ _ ?_ (fun hHeld => ?_)
            | (go_wp2_with fail; refine hK.out _ _ ?_ (fun hHeld => ?_))
           ·(try dsimp only)
            exact HK10.out
           clear hK K
           try simp only [Act.put, qA, qB, qC]
           refine wpAnyH_ready (rs := [7]) (by kernel_rfl) (by simp) ?_
           refine acL rfl (fun K hK => ?_) ?_
           ·go_simp
            first
             | refine hK.out _ _ ?_ (fun hHeld => ?_)
             | (go_wp2_with fail; refine hK.out _ _ ?_ (fun hHeld => ?_))
            ·(try dsimp only)
             exact HK10.out
            clear hK K
            try simp only [Act.put, qA, qB, qC]
            refine tkL 10 rfl ?_
            refine tkL 11 rfl ?_
            refine tkL 13 rfl ?_
            refine wpAnyH_done (by kernel_rfl) ?_ _
            (try dsimp only)
            have v0 : W10.cell? ⟨w.heap.size, 0, none⟩ = some (.int .i64 (i1 : Nat)) := by rw [cell_of_row W10 _ 0 _ _ (0, 0) HQ1.out]; rfl
            have v1 : W10.cell? ⟨w.heap.size, 1, none⟩ = some (.int .i64 (t1 : Nat)) := by rw [cell_of_row W10 _ 1 _ _ (0, 0) HQ1.out]; rfl
            have v2 : W10.cell? ⟨w.heap.size, 2, none⟩ = some (.slice pv nv cv) := by rw [cell_of_row W10 _ 2 _ _ (0, 0) HQ1.out]; rfl
            have v3 : W10.cell? ⟨w.heap.size, 3, none⟩ = some (.slice p5 n5 c5) := by rw [cell_of_row W10 _ 3 _ _ (0, 0) HQ1.out]; rfl
            go_wp2_with fail
            refine bodyPost_ret (v := .tuple #[.agg #[.int .i64 (i1 : Nat), .int .i64 (t1 : Nat), .slice pv nv cv, .slice p5 n5 c5], .bool bq]) (by simp [results, Tryz.results48, go_sem, v0, v1, v2, v3]) rfl ?_
            obtain ⟨q1, q2, q3⟩ := HEND.out w9 W10 HB9.out HQ2.out
            exact ⟨⟨(i1 : Nat), (t1 : Nat), r, dl⟩, .slice pv nv cv, .slice p5 n5 c5, by rw [HRB.out.1], q1, q2, HF0.out.1, HF0.out.2, q3, fun s' hs => (HRB.out.2 s' hs).trans HSS.out.symm⟩
           exact AllReadyH.nil
          exact AllReadyH.nil
         exact AllReadyH.nil
        exact AllReadyH.nil
       ·have HRB : Hid ((readB 7 b).isSome = false ∧ ∀ s', readB 7 b = some s' → s' = sS) := hide (by
         rw [HGO.out, if_neg fun h => hck h.1]
         exact ⟨rfl, fun s' h => by cases h⟩)
        obtain ⟨ck, hckk⟩ : ∃ ck : Nat, sS.chk = ck := ⟨_, rfl⟩
        have hcn : ((ck : Int) == 0) = false := by
         have : ¬ (ck : Int) = 0 := by omega
         simpa using this
        have HCC := hide hckk
        clear hck hckk
        go_wp2_with fail
        refine wp_region_held_drew (S := fun W => W.cell? ⟨Bs, 0, none⟩ = some (.int .i64 (i1 : Nat)) ∧ W.cell? ⟨Bs, 1, none⟩ = some (.int .i64 (t1 : Nat)) ∧ W.cell? ⟨Bs, 2, none⟩ = some (.slice pv nv cv) ∧ W.cell? ⟨Bs, 3, none⟩ = some (.slice p5 n5 c5) ∧ By W (.slice pb nb cb) b) (by kernel_rfl) ?_ (fun hHeld => ?_)
        ·(try dsimp only)
         exact HKF.out _ (below_drewN (Below.refl _ _) 1)
        refine tkL 0 rfl ?_
        refine tkL 1 rfl ?_
        refine wpAnyH_ready (rs := [2]) (by kernel_rfl) (by simp) ?_
        refine acL rfl (fun K hK => ?_) ?_
        ·go_simp
         go_at_call 32
         refine (vrcheck_any (HSV.out.below (below_drewN (Below.refl wr.heap.size wr) 1))).mono ?_
         rintro e w8 ⟨rfl, hb8⟩
         rw [HCC.out]
         have HB8 : Hid (Below wr.heap.size wr w8) := hide ((below_drewN (Below.refl wr.heap.size wr) 1).trans hb8)
         clear hb8
         first
          | refine hK.out _ _ ?_ (fun hHeld => ?_)
          | (go_wp2_with fail; refine hK.out _ _ ?_ (fun hHeld => ?_))
         ·(try dsimp only)
          exact HKF.out _ HB8.out
         clear hK K
         try simp only [Act.put, qA, qB, qC]
         refine tkL 3 rfl ?_
         refine tkL 4 rfl ?_
         refine tkM 5 rfl ?_
         refine tkM 6 rfl ?_
         refine tkM 7 rfl ?_
         refine tkM 8 rfl ?_
         refine tkM 9 rfl ?_
         refine tkM 10 rfl ?_
         refine tkL 11 rfl ?_
         refine wpAnyH_ready (rs := [12]) (by kernel_rfl) (by simp) ?_
         refine acL rfl (fun K hK => ?_) ?_
         ·have hzr := HZR.out w8 HB8.out
          obtain ⟨hq1, hq2⟩ := set4 (.int .i64 (i1 : Nat)) (.int .i64 (t1 : Nat)) (.slice pv nv cv) (.slice p5 n5 c5) hzr
          obtain ⟨W10, hW10⟩ : ∃ W10, ((((w8.setCell ⟨w.heap.size, 0, none⟩ (.int .i64 (i1 : Nat))).setCell ⟨w.heap.size, 1, none⟩ (.int .i64 (t1 : Nat))).setCell ⟨w.heap.size, 2, none⟩ (.slice pv nv cv)).setCell ⟨w.heap.size, 3, none⟩ (.slice p5 n5 c5)) = W10 := ⟨_, rfl⟩
          rw [hW10] at hq1 hq2
          have z0 : w8.cell? ⟨w.heap.size, 0, none⟩ = some (.int .i64 0) := by rw [cell_of_row w8 _ 0 _ _ (0, 0) hzr]; rfl
          have z1 : w8.cell? ⟨w.heap.size, 1, none⟩ = some (.int .i64 0) := by rw [cell_of_row w8 _ 1 _ _ (0, 0) hzr]; rfl
          have z2 : w8.cell? ⟨w.heap.size, 2, none⟩ = some (.slice none 0 0) := by rw [cell_of_row w8 _ 2 _ _ (0, 0) hzr]; rfl
          have z3 : w8.cell? ⟨w.heap.size, 3, none⟩ = some (.slice none 0 0) := by rw [cell_of_row w8 _ 3 _ _ (0, 0) hzr]; rfl
          have u0 := frozen_of_row w8 w.heap.size 0 _ _ hzr
          have u1 := frozen_of_row w8 w.heap.size 1 _ _ hzr
          have u2 := frozen_of_row w8 w.heap.size 2 _ _ hzr
          have u3 := frozen_of_row w8 w.heap.size 3 _ _ hzr
          have HQ1 := hide hq1
          have HQ2 := hide hq2
          have HK10 : Hid (W10.cell? ⟨Bs, 0, none⟩ = some (.int .i64 (i1 : Nat)) ∧ W10.cell? ⟨Bs, 1, none⟩ = some (.int .i64 (t1 : Nat)) ∧ W10.cell? ⟨Bs, 2, none⟩ = some (.slice pv nv cv) ∧ W10.cell? ⟨Bs, 3, none⟩ = some (.slice p5 n5 c5) ∧ By W10 (.slice pb nb cb) b) := hide (by
           obtain ⟨k0, k1, k2, k3, k4⟩ := HKF.out w8 HB8.out
           exact ⟨HQ2.out.cell k0 HBN.out, HQ2.out.cell k1 HBN.out, HQ2.out.cell k2 HBN.out, HQ2.out.cell k3 HBN.out, k4.chg HQ2.out (HVM.out.imp id fun h k hk e => by have := h k hk; omega)⟩)
          clear hq1 hq2
          go_simp
          first
           | refine hK.out _ _ ?_ (fun hHeld => ?_)
           | (go_wp2_with fail; refine hK.out _ _ ?_ (fun hHeld => ?_))
          ·(try dsimp only)
           exact HK10.out
          clear hK K
          try simp only [Act.put, qA, qB, qC]
          refine tkL 13 rfl ?_
          refine wpAnyH_done (by kernel_rfl) ?_ _
          (try dsimp only)
          have v0 : W10.cell? ⟨w.heap.size, 0, none⟩ = some (.int .i64 (i1 : Nat)) := by rw [cell_of_row W10 _ 0 _ _ (0, 0) HQ1.out]; rfl
          have v1 : W10.cell? ⟨w.heap.size, 1, none⟩ = some (.int .i64 (t1 : Nat)) := by rw [cell_of_row W10 _ 1 _ _ (0, 0) HQ1.out]; rfl
          have v2 : W10.cell? ⟨w.heap.size, 2, none⟩ = some (.slice pv nv cv) := by rw [cell_of_row W10 _ 2 _ _ (0, 0) HQ1.out]; rfl
          have v3 : W10.cell? ⟨w.heap.size, 3, none⟩ = some (.slice p5 n5 c5) := by rw [cell_of_row W10 _ 3 _ _ (0, 0) HQ1.out]; rfl
          go_wp2_with fail
          refine bodyPost_ret (v := .tuple #[.agg #[.int .i64 (i1 : Nat), .int .i64 (t1 : Nat), .slice pv nv cv, .slice p5 n5 c5], .bool false]) (by simp [results, Tryz.results48, go_sem, v0, v1, v2, v3]) rfl ?_
          obtain ⟨q1, q2, q3⟩ := HEND.out w8 W10 HB8.out HQ2.out
          exact ⟨⟨(i1 : Nat), (t1 : Nat), r, dl⟩, .slice pv nv cv, .slice p5 n5 c5, by rw [HRB.out.1], q1, q2, HF0.out.1, HF0.out.2, q3, fun s' hs => (HRB.out.2 s' hs).trans HSS.out.symm⟩
         exact AllReadyH.nil
        exact AllReadyH.nil
    ·clear e1 e3
     go_wp2_with fail
     clear hcut
     go_loopw [11, 54] (fun _ i wr2 => ∃ (j : Nat) (dl : List UInt8) (p n c : _), j ≤ nt ∧ i = .int .i64 j ∧ Hid (dl = (rr.take j).flatten ∧ (RdI W1 wr2 g Bs (.slice q m dd) h s (i1 : Nat) (t1 : Nat) r (.slice pv nv cv) dl (.slice p n c) ∧ ∀ kk, (Value.slice pv nv cv).ownBlock = some kk → (Value.slice p n c).ownBlock ≠ some kk))) (fun _ i _ => nt - (intOf i).toNat)
     case atStart => exact ⟨0, [], none, 0, 0, Nat.zero_le _, rfl, hide ⟨rfl, HI9.out, HAP0.out⟩⟩
     case round =>
      obtain ⟨j, dl, p5, n5, c5, hj, rfl, hrel⟩ := hrel
      have HR3 := hide hrel.out
      clear hrel HI9 HAP0
      by_cases hjt : (j : Int) < (nt : Int)
      ·obtain ⟨bb2, oo2, q6, m6, d6, x6, rfl, hx6, hcell6, hby6⟩ := (HTL2.out.below HR3.out.2.1.bw).cellAt (k := j) (by omega)
       have HX6 := hide hx6
       have HBY6 := hide hby6
       have HLE6 : Hid (dl.length + x6.length ≤ 140737488355328) := hide (by
        have h1 := flat_take_le rr (j + 1)
        rw [List.take_add_one, HX6.out] at h1
        have h2 := HFL.out
        rw [HR3.out.1]
        simp at h1 h2 ⊢
        omega)
       have hbl3 := HR3.out.2.1.bl
       have hge : W1.heap.size + 2 ≤ wr.heap.size := by have := HR3.out.2.1.lt; omega
       have HBL3 := hide hbl3
       obtain ⟨cc0, cc1, cc2, cc3⟩ := HR3.out.2.1.cells
       clear hx6 hby6 hbl3
       go_wp2_with (at_builtin; go_must (refine wpList_append_by (v := .slice p5 n5 c5) rfl _ _ rfl rfl rfl rfl HR3.out.2.1.da HBY6.out HLE6.out hge ?_); intro v3 w3 ho3 hg3 hb3 hk3; obtain ⟨p7, n7, c7, rfl⟩ := ho3.by_.sl; have hr3 := (hb3.block Bs (by have := HBL3.out; omega)).trans HR3.out.2.1.row; have a3 : w3.cell? ⟨Bs, 3, none⟩ = some (.slice p5 n5 c5) := (by rw [cell_of_row w3 _ 3 _ _ (0, 0) hr3]; rfl); have zz3 := frozen_of_row w3 Bs 3 _ 42 hr3)
       have HN3 := hide (HR3.out.2.1.app hg3 hb3 ho3 hk3 HR3.out.2.2)
       have HDN : Hid (dl ++ x6 = (rr.take (j + 1)).flatten) := hide (by rw [HR3.out.1, List.take_add_one, HX6.out]; simp)
       clear ho3 hg3 hb3 hk3 hr3 a3 zz3 cc0 cc1 cc2 cc3
       exact ⟨⟨j + 1, dl ++ x6, p7, n7, c7, by omega, by go_num, hide ⟨HDN.out, HN3.out⟩⟩, by simp [intOf]; omega⟩
      ·have hdl : dl = rr.flatten := by rw [HR3.out.1, List.take_of_length_le (by have := HTN.out; omega)]
       have HS8 : Hid (snapOf 8 h rr = (⟨(i1 : Nat), (t1 : Nat), r, dl⟩ : Sn)) := hide (by rw [HSN.out, ← HE1.out, hdl])
       obtain ⟨sS, hsS⟩ : ∃ sS : Sn, (⟨(i1 : Nat), (t1 : Nat), r, dl⟩ : Sn) = sS := ⟨_, rfl⟩
       have HF0 : Hid (Go.Proofs.YtgbdjcekpdfpjaaGreatDoor.fits (i1 : Nat) ∧ Go.Proofs.YtgbdjcekpdfpjaaGreatDoor.fits (t1 : Nat)) := hide (by
        have h1 := HIL.out
        have h2 := HTL.out
        exact ⟨⟨by omega, by omega⟩, ⟨by omega, by omega⟩⟩)
       have HSV := hide (HR3.out.2.1.snv HF0.out.1 HF0.out.2)
       rw [hsS] at HS8 HSV
       rw [HS8.out] at HGO
       have HSS := hide hsS
       have HIF := hide HR3.out.2.1
       have HVF := hide (HV1.out.below HIF.out.bw)
       have HKF := hide (fun (W : World) (hW : Below wr.heap.size wr W) => (show W.cell? ⟨Bs, 0, none⟩ = some (.int .i64 (i1 : Nat)) ∧ W.cell? ⟨Bs, 1, none⟩ = some (.int .i64 (t1 : Nat)) ∧ W.cell? ⟨Bs, 2, none⟩ = some (.slice pv nv cv) ∧ W.cell? ⟨Bs, 3, none⟩ = some (.slice p5 n5 c5) ∧ By W (.slice pb nb cb) b from ⟨(hW.cell (lt_of_cell HIF.out.cells.1)).trans HIF.out.cells.1, (hW.cell (lt_of_cell HIF.out.cells.2.1)).trans HIF.out.cells.2.1, (hW.cell (lt_of_cell HIF.out.cells.2.2.1)).trans HIF.out.cells.2.2.1, (hW.cell (lt_of_cell HIF.out.cells.2.2.2)).trans HIF.out.cells.2.2.2, HVF.out.below hW⟩))
       have HZR := hide (fun (W : World) (hW : Below wr.heap.size wr W) => (show W.heap[w.heap.size]? = some (.cells #[.int .i64 0, .int .i64 0, .slice none 0 0, .slice none 0 0] 42 (0, 0)) from (hW.block w.heap.size (by have := HIF.out.bw.size; have := HW1.out; omega)).trans ((HIF.out.bw.block w.heap.size HW1.out).trans HZ1.out)))
       have HEND := hide (fun (w9 W10 : World) (hb : Below wr.heap.size wr w9) (hc : Chg w9 W10 (fun k => k = w.heap.size)) => rdi_end HIF.out hb hc HW1.out HB1.out)
       have hbne : Bs ≠ w.heap.size := by have := HIF.out.bl; have := HW1.out; omega
       have HBN := hide hbne
       clear hdl hsS HR3 hbne
       by_cases hck : sS.chk = 0
       ·have HCK := hide hck
        rw [hck] at HGO
        obtain ⟨bq, hbq⟩ : ∃ bq, ((str sS.file).toList == (str b).toList) = bq := ⟨_, rfl⟩
        have HRB : Hid ((readB 7 b).isSome = bq ∧ ∀ s', readB 7 b = some s' → s' = sS) := hide (by
         rw [HGO.out, ← hbq, str_beq]
         by_cases hf : sS.file = b
         ·rw [if_pos ⟨rfl, hf⟩, decide_eq_true hf]
          exact ⟨rfl, fun s' h => (Option.some.inj h).symm⟩
         ·rw [if_neg fun h => hf h.2, decide_eq_false hf]
          exact ⟨rfl, fun s' h => by cases h⟩)
        have HBQ := hide hbq
        clear hck hbq
        go_wp2_with fail
        refine wp_region_held_drew (S := fun W => W.cell? ⟨Bs, 0, none⟩ = some (.int .i64 (i1 : Nat)) ∧ W.cell? ⟨Bs, 1, none⟩ = some (.int .i64 (t1 : Nat)) ∧ W.cell? ⟨Bs, 2, none⟩ = some (.slice pv nv cv) ∧ W.cell? ⟨Bs, 3, none⟩ = some (.slice p5 n5 c5) ∧ By W (.slice pb nb cb) b) (by kernel_rfl) ?_ (fun hHeld => ?_)
        ·(try dsimp only)
         exact HKF.out _ (below_drewN (Below.refl _ _) 1)
        refine tkL 0 rfl ?_
        refine tkL 1 rfl ?_
        refine wpAnyH_ready (rs := [2]) (by kernel_rfl) (by simp) ?_
        refine acL rfl (fun K hK => ?_) ?_
        ·go_simp
         go_at_call 32
         refine (vrcheck_any (HSV.out.below (below_drewN (Below.refl wr.heap.size wr) 1))).mono ?_
         rintro e w8 ⟨rfl, hb8⟩
         rw [HCK.out]
         have HB8 : Hid (Below wr.heap.size wr w8) := hide ((below_drewN (Below.refl wr.heap.size wr) 1).trans hb8)
         clear hb8
         first
          | refine hK.out _ _ ?_ (fun hHeld => ?_)
          | (go_wp2_with fail; refine hK.out _ _ ?_ (fun hHeld => ?_))
         ·(try dsimp only)
          exact HKF.out _ HB8.out
         clear hK K
         try simp only [Act.put, qA, qB, qC]
         refine tkL 3 rfl ?_
         refine tkL 4 rfl ?_
         refine tkL 5 rfl ?_
         refine tkL 8 rfl ?_
         refine tkI (i := 9) (v := (.string (str b))) (tkD rfl) (by rfl) ?_ ?_
         ·intro w hSw
          (try dsimp only at hSw)
          have hcv := conv_at hSw.2.2.2.2
          go_simp
          try with_reducible rfl
         try simp only [Act.put, qA, qB, qC]
         refine wpAnyH_ready (rs := [6]) (by kernel_rfl) (by simp) ?_
         refine acL rfl (fun K hK => ?_) ?_
         ·go_simp
          go_at_call 92
          refine (rfile_any (HSV.out.below HB8.out) HCK.out).mono ?_
          rintro e w9 ⟨vf, rfl, hof, hbf⟩
          obtain ⟨pf, nf, cf, rfl⟩ := hof.by_.sl
          have HB9 : Hid (Below wr.heap.size wr w9) := hide (HB8.out.trans (hbf.mono HB8.out.size))
          have hcv7 := conv_at hof.by_
          have hzr := HZR.out w9 HB9.out
          obtain ⟨hq1, hq2⟩ := set4 (.int .i64 (i1 : Nat)) (.int .i64 (t1 : Nat)) (.slice pv nv cv) (.slice p5 n5 c5) hzr
          obtain ⟨W10, hW10⟩ : ∃ W10, ((((w9.setCell ⟨w.heap.size, 0, none⟩ (.int .i64 (i1 : Nat))).setCell ⟨w.heap.size, 1, none⟩ (.int .i64 (t1 : Nat))).setCell ⟨w.heap.size, 2, none⟩ (.slice pv nv cv)).setCell ⟨w.heap.size, 3, none⟩ (.slice p5 n5 c5)) = W10 := ⟨_, rfl⟩
          rw [hW10] at hq1 hq2
          have z0 : w9.cell? ⟨w.heap.size, 0, none⟩ = some (.int .i64 0) := by rw [cell_of_row w9 _ 0 _ _ (0, 0) hzr]; rfl
          have z1 : w9.cell? ⟨w.heap.size, 1, none⟩ = some (.int .i64 0) := by rw [cell_of_row w9 _ 1 _ _ (0, 0) hzr]; rfl
          have z2 : w9.cell? ⟨w.heap.size, 2, none⟩ = some (.slice none 0 0) := by rw [cell_of_row w9 _ 2 _ _ (0, 0) hzr]; rfl
          have z3 : w9.cell? ⟨w.heap.size, 3, none⟩ = some (.slice none 0 0) := by rw [cell_of_row w9 _ 3 _ _ (0, 0) hzr]; rfl
          have u0 := frozen_of_row w9 w.heap.size 0 _ _ hzr
          have u1 := frozen_of_row w9 w.heap.size 1 _ _ hzr
          have u2 := frozen_of_row w9 w.heap.size 2 _ _ hzr
          have u3 := frozen_of_row w9 w.heap.size 3 _ _ hzr
          have HQ1 := hide hq1
          have HQ2 := hide hq2
          have HK10 : Hid (W10.cell? ⟨Bs, 0, none⟩ = some (.int .i64 (i1 : Nat)) ∧ W10.cell? ⟨Bs, 1, none⟩ = some (.int .i64 (t1 : Nat)) ∧ W10.cell? ⟨Bs, 2, none⟩ = some (.slice pv nv cv) ∧ W10.cell? ⟨Bs, 3, none⟩ = some (.slice p5 n5 c5) ∧ By W10 (.slice pb nb cb) b) := hide (by
           obtain ⟨k0, k1, k2, k3, k4⟩ := HKF.out w9 HB9.out
           exact ⟨HQ2.out.cell k0 HBN.out, HQ2.out.cell k1 HBN.out, HQ2.out.cell k2 HBN.out, HQ2.out.cell k3 HBN.out, k4.chg HQ2.out (HVM.out.imp id fun h k hk e => by have := h k hk; omega)⟩)
          clear hq1 hq2
          have hcv10 : (convert 40 9 (.slice pf nf cf)).run Tryz.prog W10 = .ok (.string (str sS.file)) W10 := conv_at (hof.by_.chg HQ2.out (by
           rcases own_lies hof (P := fun k => w8.heap.size ≤ k) (fun k hk => hk.1) with h | h
           ·exact .inl h
           ·exact .inr fun k hk e => by have := h k hk; have := HB8.out.size; have := HIF.out.bw.size; have := HW1.out; omega))
          have hbq : ((str sS.file).toList == (str b).toList) = bq := HBQ.out
          clear hof hbf
          first
           | refine hK.out _ _ ?_ (fun hHeld => ?_)
           | (go_wp2_with fail; refine hK.out _ _ ?_ (fun hHeld => ?_))
          ·(try dsimp only)
           exact HKF.out _ HB9.out
          clear hK K
          try simp only [Act.put, qA, qB, qC]
          refine wpAnyH_ready (rs := [7, 12]) (by kernel_rfl) (by simp) ?_
          refine acL rfl (fun K hK => ?_) ?_
          ·go_simp
           first
            | refine hK.out _ _ ?_ (fun hHeld => ?_)
            | (go_wp2_with fail; refine hK.out _ _ ?_ (fun hHeld => ?_))
           ·(try dsimp only)
            exact HKF.out _ HB9.out
           clear hK K
           try simp only [Act.put, qA, qB, qC]
           refine tkL 10 rfl ?_
           refine tkL 11 rfl ?_
           refine wpAnyH_ready (rs := [12]) (by kernel_rfl) (by simp) ?_
           refine acL rfl (fun K hK => ?_) ?_
           ·go_simp
            first
             | refine hK.out _ _ ?_ (fun hHeld => ?_)
             | (go_wp2_with fail; refine hK.out _ _ ?_ (fun hHeld => ?_))
            ·(try dsimp only)
             exact HK10.out
            clear hK K
            try simp only [Act.put, qA, qB, qC]
            refine tkL 13 rfl ?_
            refine wpAnyH_done (by kernel_rfl) ?_ _
            (try dsimp only)
            have v0 : W10.cell? ⟨w.heap.size, 0, none⟩ = some (.int .i64 (i1 : Nat)) := by rw [cell_of_row W10 _ 0 _ _ (0, 0) HQ1.out]; rfl
            have v1 : W10.cell? ⟨w.heap.size, 1, none⟩ = some (.int .i64 (t1 : Nat)) := by rw [cell_of_row W10 _ 1 _ _ (0, 0) HQ1.out]; rfl
            have v2 : W10.cell? ⟨w.heap.size, 2, none⟩ = some (.slice pv nv cv) := by rw [cell_of_row W10 _ 2 _ _ (0, 0) HQ1.out]; rfl
            have v3 : W10.cell? ⟨w.heap.size, 3, none⟩ = some (.slice p5 n5 c5) := by rw [cell_of_row W10 _ 3 _ _ (0, 0) HQ1.out]; rfl
            go_wp2_with fail
            refine bodyPost_ret (v := .tuple #[.agg #[.int .i64 (i1 : Nat), .int .i64 (t1 : Nat), .slice pv nv cv, .slice p5 n5 c5], .bool bq]) (by simp [results, Tryz.results48, go_sem, v0, v1, v2, v3]) rfl ?_
            obtain ⟨q1, q2, q3⟩ := HEND.out w9 W10 HB9.out HQ2.out
            exact ⟨⟨(i1 : Nat), (t1 : Nat), r, dl⟩, .slice pv nv cv, .slice p5 n5 c5, by rw [HRB.out.1], q1, q2, HF0.out.1, HF0.out.2, q3, fun s' hs => (HRB.out.2 s' hs).trans HSS.out.symm⟩
           exact AllReadyH.nil
          refine acL rfl (fun K hK => ?_) ?_
          ·go_simp
           first
            | refine hK.out _ _ ?_ (fun hHeld => ?_)
            | (go_wp2_with fail; refine hK.out _ _ ?_ (fun hHeld => ?_))
           ·(try dsimp only)
            exact HK10.out
           clear hK K
           try simp only [Act.put, qA, qB, qC]
           refine wpAnyH_ready (rs := [7]) (by kernel_rfl) (by simp) ?_
           refine acL rfl (fun K hK => ?_) ?_
           ·go_simp
            first
             | refine hK.out _ _ ?_ (fun hHeld => ?_)
             | (go_wp2_with fail; refine hK.out _ _ ?_ (fun hHeld => ?_))
            ·(try dsimp only)
             exact HK10.out
            clear hK K
            try simp only [Act.put, qA, qB, qC]
            refine tkL 10 rfl ?_
            refine tkL 11 rfl ?_
            refine tkL 13 rfl ?_
            refine wpAnyH_done (by kernel_rfl) ?_ _
            (try dsimp only)
            have v0 : W10.cell? ⟨w.heap.size, 0, none⟩ = some (.int .i64 (i1 : Nat)) := by rw [cell_of_row W10 _ 0 _ _ (0, 0) HQ1.out]; rfl
            have v1 : W10.cell? ⟨w.heap.size, 1, none⟩ = some (.int .i64 (t1 : Nat)) := by rw [cell_of_row W10 _ 1 _ _ (0, 0) HQ1.out]; rfl
            have v2 : W10.cell? ⟨w.heap.size, 2, none⟩ = some (.slice pv nv cv) := by rw [cell_of_row W10 _ 2 _ _ (0, 0) HQ1.out]; rfl
            have v3 : W10.cell? ⟨w.heap.size, 3, none⟩ = some (.slice p5 n5 c5) := by rw [cell_of_row W10 _ 3 _ _ (0, 0) HQ1.out]; rfl
            go_wp2_with fail
            refine bodyPost_ret (v := .tuple #[.agg #[.int .i64 (i1 : Nat), .int .i64 (t1 : Nat), .slice pv nv cv, .slice p5 n5 c5], .bool bq]) (by simp [results, Tryz.results48, go_sem, v0, v1, v2, v3]) rfl ?_
            obtain ⟨q1, q2, q3⟩ := HEND.out w9 W10 HB9.out HQ2.out
            exact ⟨⟨(i1 : Nat), (t1 : Nat), r, dl⟩, .slice pv nv cv, .slice p5 n5 c5, by rw [HRB.out.1], q1, q2, HF0.out.1, HF0.out.2, q3, fun s' hs => (HRB.out.2 s' hs).trans HSS.out.symm⟩
           exact AllReadyH.nil
          exact AllReadyH.nil
         exact AllReadyH.nil
        exact AllReadyH.nil
       ·have HRB : Hid ((readB 7 b).isSome = false ∧ ∀ s', readB 7 b = some s' → s' = sS) := hide (by
         rw [HGO.out, if_neg fun h => hck h.1]
         exact ⟨rfl, fun s' h => by cases h⟩)
        obtain ⟨ck, hckk⟩ : ∃ ck : Nat, sS.chk = ck := ⟨_, rfl⟩
        have hcn : ((ck : Int) == 0) = false := by
         have : ¬ (ck : Int) = 0 := by omega
         simpa using this
        have HCC := hide hckk
        clear hck hckk
        go_wp2_with fail
        refine wp_region_held_drew (S := fun W => W.cell? ⟨Bs, 0, none⟩ = some (.int .i64 (i1 : Nat)) ∧ W.cell? ⟨Bs, 1, none⟩ = some (.int .i64 (t1 : Nat)) ∧ W.cell? ⟨Bs, 2, none⟩ = some (.slice pv nv cv) ∧ W.cell? ⟨Bs, 3, none⟩ = some (.slice p5 n5 c5) ∧ By W (.slice pb nb cb) b) (by kernel_rfl) ?_ (fun hHeld => ?_)
        ·(try dsimp only)
         exact HKF.out _ (below_drewN (Below.refl _ _) 1)
        refine tkL 0 rfl ?_
        refine tkL 1 rfl ?_
        refine wpAnyH_ready (rs := [2]) (by kernel_rfl) (by simp) ?_
        refine acL rfl (fun K hK => ?_) ?_
        ·go_simp
         go_at_call 32
         refine (vrcheck_any (HSV.out.below (below_drewN (Below.refl wr.heap.size wr) 1))).mono ?_
         rintro e w8 ⟨rfl, hb8⟩
         rw [HCC.out]
         have HB8 : Hid (Below wr.heap.size wr w8) := hide ((below_drewN (Below.refl wr.heap.size wr) 1).trans hb8)
         clear hb8
         first
          | refine hK.out _ _ ?_ (fun hHeld => ?_)
          | (go_wp2_with fail; refine hK.out _ _ ?_ (fun hHeld => ?_))
         ·(try dsimp only)
          exact HKF.out _ HB8.out
         clear hK K
         try simp only [Act.put, qA, qB, qC]
         refine tkL 3 rfl ?_
         refine tkL 4 rfl ?_
         refine tkM 5 rfl ?_
         refine tkM 6 rfl ?_
         refine tkM 7 rfl ?_
         refine tkM 8 rfl ?_
         refine tkM 9 rfl ?_
         refine tkM 10 rfl ?_
         refine tkL 11 rfl ?_
         refine wpAnyH_ready (rs := [12]) (by kernel_rfl) (by simp) ?_
         refine acL rfl (fun K hK => ?_) ?_
         ·have hzr := HZR.out w8 HB8.out
          obtain ⟨hq1, hq2⟩ := set4 (.int .i64 (i1 : Nat)) (.int .i64 (t1 : Nat)) (.slice pv nv cv) (.slice p5 n5 c5) hzr
          obtain ⟨W10, hW10⟩ : ∃ W10, ((((w8.setCell ⟨w.heap.size, 0, none⟩ (.int .i64 (i1 : Nat))).setCell ⟨w.heap.size, 1, none⟩ (.int .i64 (t1 : Nat))).setCell ⟨w.heap.size, 2, none⟩ (.slice pv nv cv)).setCell ⟨w.heap.size, 3, none⟩ (.slice p5 n5 c5)) = W10 := ⟨_, rfl⟩
          rw [hW10] at hq1 hq2
          have z0 : w8.cell? ⟨w.heap.size, 0, none⟩ = some (.int .i64 0) := by rw [cell_of_row w8 _ 0 _ _ (0, 0) hzr]; rfl
          have z1 : w8.cell? ⟨w.heap.size, 1, none⟩ = some (.int .i64 0) := by rw [cell_of_row w8 _ 1 _ _ (0, 0) hzr]; rfl
          have z2 : w8.cell? ⟨w.heap.size, 2, none⟩ = some (.slice none 0 0) := by rw [cell_of_row w8 _ 2 _ _ (0, 0) hzr]; rfl
          have z3 : w8.cell? ⟨w.heap.size, 3, none⟩ = some (.slice none 0 0) := by rw [cell_of_row w8 _ 3 _ _ (0, 0) hzr]; rfl
          have u0 := frozen_of_row w8 w.heap.size 0 _ _ hzr
          have u1 := frozen_of_row w8 w.heap.size 1 _ _ hzr
          have u2 := frozen_of_row w8 w.heap.size 2 _ _ hzr
          have u3 := frozen_of_row w8 w.heap.size 3 _ _ hzr
          have HQ1 := hide hq1
          have HQ2 := hide hq2
          have HK10 : Hid (W10.cell? ⟨Bs, 0, none⟩ = some (.int .i64 (i1 : Nat)) ∧ W10.cell? ⟨Bs, 1, none⟩ = some (.int .i64 (t1 : Nat)) ∧ W10.cell? ⟨Bs, 2, none⟩ = some (.slice pv nv cv) ∧ W10.cell? ⟨Bs, 3, none⟩ = some (.slice p5 n5 c5) ∧ By W10 (.slice pb nb cb) b) := hide (by
           obtain ⟨k0, k1, k2, k3, k4⟩ := HKF.out w8 HB8.out
           exact ⟨HQ2.out.cell k0 HBN.out, HQ2.out.cell k1 HBN.out, HQ2.out.cell k2 HBN.out, HQ2.out.cell k3 HBN.out, k4.chg HQ2.out (HVM.out.imp id fun h k hk e => by have := h k hk; omega)⟩)
          clear hq1 hq2
          go_simp
          first
           | refine hK.out _ _ ?_ (fun hHeld => ?_)
           | (go_wp2_with fail; refine hK.out _ _ ?_ (fun hHeld => ?_))
          ·(try dsimp only)
           exact HK10.out
          clear hK K
          try simp only [Act.put, qA, qB, qC]
          refine tkL 13 rfl ?_
          refine wpAnyH_done (by kernel_rfl) ?_ _
          (try dsimp only)
          have v0 : W10.cell? ⟨w.heap.size, 0, none⟩ = some (.int .i64 (i1 : Nat)) := by rw [cell_of_row W10 _ 0 _ _ (0, 0) HQ1.out]; rfl
          have v1 : W10.cell? ⟨w.heap.size, 1, none⟩ = some (.int .i64 (t1 : Nat)) := by rw [cell_of_row W10 _ 1 _ _ (0, 0) HQ1.out]; rfl
          have v2 : W10.cell? ⟨w.heap.size, 2, none⟩ = some (.slice pv nv cv) := by rw [cell_of_row W10 _ 2 _ _ (0, 0) HQ1.out]; rfl
          have v3 : W10.cell? ⟨w.heap.size, 3, none⟩ = some (.slice p5 n5 c5) := by rw [cell_of_row W10 _ 3 _ _ (0, 0) HQ1.out]; rfl
          go_wp2_with fail
          refine bodyPost_ret (v := .tuple #[.agg #[.int .i64 (i1 : Nat), .int .i64 (t1 : Nat), .slice pv nv cv, .slice p5 n5 c5], .bool false]) (by simp [results, Tryz.results48, go_sem, v0, v1, v2, v3]) rfl ?_
          obtain ⟨q1, q2, q3⟩ := HEND.out w8 W10 HB8.out HQ2.out
          exact ⟨⟨(i1 : Nat), (t1 : Nat), r, dl⟩, .slice pv nv cv, .slice p5 n5 c5, by rw [HRB.out.1], q1, q2, HF0.out.1, HF0.out.2, q3, fun s' hs => (HRB.out.2 s' hs).trans HSS.out.symm⟩
         exact AllReadyH.nil
        exact AllReadyH.nil
end Go.Proofs.YtgbdjcekpdfpjaaGreatDoor
