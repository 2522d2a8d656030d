import Derived.Test.YtgbdjcekpdfpjaaGreatDoorVrPiece
import Derived.Test.YtgbdjcekpdfpjaaGreatDoorVn
import Derived.Test.YtgbdjcekpdfpjaaGreatDoorVf
set_option linter.unusedVariables false
set_option linter.unusedSimpArgs false
namespace Go.Proofs.YtgbdjcekpdfpjaaGreatDoor
open Go.RowKit
theorem flip_set {B : Nat} {w : World} {p : Option Addr} {n c : Nat} {l : List UInt8} (h : Own B w (.slice p n c) l) {j : Nat} (hj : j < n) :
  ∃ (g : Nat) (y : UInt8), p = some ⟨g, 0, none⟩ ∧ B ≤ g ∧ w.cell? ⟨g, j, none⟩ = some (.int .u8 (y.toNat : Int)) ∧ w.frozen? ⟨g, j, none⟩ = false ∧ ∃ l' : List UInt8, l'.length = l.length ∧ Own B (w.setCell ⟨g, j, none⟩ (.int .u8 (bits BinOp.xor IntKind.u8 (y.toNat : Int) 255))) (.slice p n c) l' := by
 obtain ⟨g, y, h1, h2, h3, h4, h5, h6⟩ := Own.cellAt h hj
 have hx : ∃ u : UInt8, bits BinOp.xor IntKind.u8 (y.toNat : Int) 255 = (u.toNat : Int) := by
  have key : ∀ z : Fin 256, bits BinOp.xor IntKind.u8 (z.val : Int) 255 = ((UInt8.ofNat (255 - z.val)).toNat : Int) := by decide +kernel
  exact ⟨_, key ⟨y.toNat, y.toNat_lt⟩⟩
 obtain ⟨u, hu⟩ := hx
 refine ⟨g, y, h1, h2, h4, h5, l.set j u, by simp, ?_⟩
 rw [hu]
 exact h6 u
theorem beq_bool (b : Bool) : (b == b) = true := by cases b <;> rfl
set_option maxRecDepth 200000 in
set_option maxHeartbeats 64000000 in
theorem vtells_any {w : World} {b g xb x : Nat} {vo da vo' da' : Value} {s : Sn} (h1 : Vt w b vo da s g) (h2 : RvAt w xb x s vo' da') (hg : s = sn0 ∨ s.chk = 0) :
  Calls Tryz.prog 28 #[.pointer (some ⟨b, 0, none⟩), .pointer (some ⟨xb, 0, none⟩)] w fun e w' => e = .returned (.bool true) ∧ Below w.heap.size w w' := by
 obtain ⟨pq, nq, cq, rfl⟩ := h2.ns.sl
 obtain ⟨p4, n4, c4, rfl⟩ := h2.by_.sl
 have HLA := hide (vlast_all h1 hg)
 have H1 := hide (fun (W : World) (hW : Below w.heap.size w W) => h1.below hW)
 have H2 := hide (fun (W : World) (hW : Below w.heap.size w W) => h2.chg (Chg.of_below hW (fun _ => False)) (fun e => e) (.inr fun _ _ e => e) (.inr fun _ _ e => e))
 have HLN := hide (good_many hg)
 have HN4 := hide h2.by_.len.1
 have HXL := hide h2.lt
 have hn4 : (n4 : Int) ≤ 300000 := by have := h2.by_.len.1; have := (good_many hg).2.1; omega
 have HG := hide hg
 have h2w := h2
 clear h1 h2 hg h2w
 go_enter Tryz.func28, Tryz.ntmps28
 go_wp2_with fail
 refine HLA.out.mono ?_
 rintro e wL ⟨vL, dL, rfl, hov, hod, f0, f1, hbL⟩
 obtain ⟨pv, nv, cv, rfl⟩ := hov.ns.sl
 obtain ⟨pd, nd, cd, rfl⟩ := hod.by_.sl
 have hnd := hod.by_.len.1
 obtain ⟨W5, hW5⟩ : ∃ W5, wL.alloc (.cells #[.int .i64 s.ix, .int .i64 s.tm, .slice pv nv cv, .slice pd nd cd] 42) = W5 := ⟨_, rfl⟩
 have hb5 : Below wL.heap.size wL W5 := by rw [← hW5]; exact balloc (Below.refl _ _) _
 have hs5 : W5.heap.size = wL.heap.size + 1 := by rw [← hW5]; simp
 have hr5 : W5.heap[wL.heap.size]? = some (.cells #[.int .i64 s.ix, .int .i64 s.tm, .slice pv nv cv, .slice pd nd cd] 42 (0, 0)) := by rw [← hW5]; exact Array.getElem?_push_size
 by_cases h0 : 0 < s.ix
 ·rw [decide_eq_true h0]
  obtain ⟨W7, hW7⟩ : ∃ W7, W5.alloc (.cells #[.int .i64 s.ix, .int .i64 s.tm, .slice pq nq cq, .slice p4 n4 c4] 42) = W7 := ⟨_, rfl⟩
  have hb7 : Below W5.heap.size W5 W7 := by rw [← hW7]; exact balloc (Below.refl _ _) _
  have hr7 : W7.heap[W5.heap.size]? = some (.cells #[.int .i64 s.ix, .int .i64 s.tm, .slice pq nq cq, .slice p4 n4 c4] 42 (0, 0)) := by rw [← hW7]; exact Array.getElem?_push_size
  have hr57 := (hb7.block wL.heap.size (by omega)).trans hr5
  have hbL7 := (hb5.trans (hb7.mono hb5.size))
  have hb07 := hbL.trans (hbL7.mono hbL.size)
  have hx7 := H2.out W7 hb07
  have n0 : W7.cell? ⟨wL.heap.size, 0, none⟩ = some (.int .i64 s.ix) := by rw [cell_of_row W7 _ 0 _ _ (0, 0) hr57]; rfl
  have n1 : W7.cell? ⟨wL.heap.size, 1, none⟩ = some (.int .i64 s.tm) := by rw [cell_of_row W7 _ 1 _ _ (0, 0) hr57]; rfl
  have n2 : W7.cell? ⟨wL.heap.size, 2, none⟩ = some (.slice pv nv cv) := by rw [cell_of_row W7 _ 2 _ _ (0, 0) hr57]; rfl
  have n3 : W7.cell? ⟨wL.heap.size, 3, none⟩ = some (.slice pd nd cd) := by rw [cell_of_row W7 _ 3 _ _ (0, 0) hr57]; rfl
  have m0 : W7.cell? ⟨W5.heap.size, 0, none⟩ = some (.int .i64 s.ix) := by rw [cell_of_row W7 _ 0 _ _ (0, 0) hr7]; rfl
  have m1 : W7.cell? ⟨W5.heap.size, 1, none⟩ = some (.int .i64 s.tm) := by rw [cell_of_row W7 _ 1 _ _ (0, 0) hr7]; rfl
  have m2 : W7.cell? ⟨W5.heap.size, 2, none⟩ = some (.slice pq nq cq) := by rw [cell_of_row W7 _ 2 _ _ (0, 0) hr7]; rfl
  have m3 : W7.cell? ⟨W5.heap.size, 3, none⟩ = some (.slice p4 n4 c4) := by rw [cell_of_row W7 _ 3 _ _ (0, 0) hr7]; rfl
  have hxz := H2.out (W5.alloc (.cells #[.int .i64 0, .int .i64 0, .slice none 0 0, .slice none 0 0] 42)) ((hbL.trans (hb5.mono hbL.size)).trans ((balloc (Below.refl _ _) _).mono (hbL.trans (hb5.mono hbL.size)).size))
  have z1 := hxz.c1
  have z2 := hxz.c2
  have z3 := hxz.c3
  have z4 := hxz.c4
  have z5 := hxz.c5
  rw [decide_eq_true h0] at z5
  have x5 := hx7.c5
  rw [decide_eq_true h0] at x5
  have hsn : SnV W7 (.agg #[.int .i64 s.ix, .int .i64 s.tm, .slice pv nv cv, .slice pd nd cd]) s := ⟨_, _, rfl, hov.ns.below hbL7, hod.by_.below hbL7, f0, f1⟩
  have HSM := hide (same_any hsn (⟨_, _, rfl, hx7.ns, hx7.by_, f0, f1⟩ : SnV W7 (.agg #[.int .i64 s.ix, .int .i64 s.tm, .slice pq nq cq, .slice p4 n4 c4]) s) (by have := HLN.out.1; omega))
  unfold SmP at HSM
  rw [decide_eq_true (rfl : s = s)] at HSM
  have HOD := hide (show Own w.heap.size W7 (.slice pd nd cd) s.da from hod.below hbL7)
  have HB07 := hide hb07
  have HND := hide hnd
  have HR5 := hide hr57
  have HR7 := hide hr7
  have HZ7 := hide (show wL.heap.size + 1 = W5.heap.size ∧ w.heap.size ≤ wL.heap.size ∧ W5.heap.size < W7.heap.size from ⟨by omega, hbL.size, (Array.getElem?_eq_some_iff.1 hr7).1⟩)
  have HDB := hide (show 0 < nd → ∀ k, (Value.slice pd nd cd).ownBlock = some k → w.heap.size ≤ k ∧ k < wL.heap.size from fun h k hk => hod.lt (by omega) k hk)
  have hnd3 : (nd : Int) ≤ 300000 := by have := HLN.out.2.1; omega
  have HH0 := hide h0
  clear hb5 hs5 hr5 hb7 hr7 hr57 hbL7 hb07 hx7 hsn hov hod f0 f1 hbL hnd h0
  clear hxz
  go_wp2_with fail
  clear hW5 hW7 n0 n1 n2 n3 m0 m1 m2 m3 x5 z1 z2 z3 z4 z5
  refine HSM.out.mono ?_
  rintro e w8 ⟨rfl, hb8⟩
  have HB8 := hide hb8
  have HB08 := hide (HB07.out.trans (hb8.mono HB07.out.size))
  have HO8 := hide (HOD.out.below hb8)
  have hk8 := (hb8.block wL.heap.size (by have := HZ7.out; omega)).trans HR5.out
  have hm8 := (hb8.block W5.heap.size (by have := HZ7.out; omega)).trans HR7.out
  have n3 : w8.cell? ⟨wL.heap.size, 3, none⟩ = some (.slice pd nd cd) := by rw [cell_of_row w8 _ 3 _ _ (0, 0) hk8]; rfl
  have HK8 := hide hk8
  have HM8 := hide hm8
  have HS8 := hide hb8.size
  obtain ⟨T, hT⟩ : ∃ T : Nat → Prop, T = (fun k => 0 < nd ∧ w.heap.size ≤ k ∧ k < wL.heap.size) := ⟨_, rfl⟩
  have HTT := hide (show ∀ k, T k → 0 < nd ∧ w.heap.size ≤ k ∧ k < wL.heap.size from fun k hk => by rw [hT] at hk; exact hk)
  have HSTP := hide (show ∀ (V : World) (l' : List UInt8) (k : Nat), Chg w8 V T → l'.length = nd → Own w.heap.size V (.slice pd nd cd) l' → k < nd → ∃ (gg : Nat) (y : UInt8), pd = some ⟨gg, 0, none⟩ ∧ V.cell? ⟨gg, k, none⟩ = some (.int .u8 (y.toNat : Int)) ∧ V.frozen? ⟨gg, k, none⟩ = false ∧
    Hid ((∃ l2 : List UInt8, l2.length = nd ∧ Own w.heap.size (V.setCell ⟨gg, k, none⟩ (.int .u8 (bits BinOp.xor IntKind.u8 (y.toNat : Int) 255))) (.slice pd nd cd) l2) ∧ Chg w8 (V.setCell ⟨gg, k, none⟩ (.int .u8 (bits BinOp.xor IntKind.u8 (y.toNat : Int) 255))) T) from fun V l' k hV hl' hO hk => by
   obtain ⟨gg, y, e1, e2, e3, e4, l2, e5, e6⟩ := flip_set hO hk
   have hlt := HDB.out (by omega) gg (by rw [e1]; rfl)
   refine ⟨gg, y, e1, e3, e4, hide ⟨⟨l2, by omega, e6⟩, hV.trans (chg_set V gg k _) fun i hi => ?_⟩⟩
   rw [hi, hT]
   exact .inl ⟨by omega, e2, hlt.2⟩)
  clear hT hb8 hk8 hm8 HSM HOD
  go_wp2_with fail
  clear n3
  go_loopw [9, 46] (fun _ i wr => ∃ k : Nat, k ≤ nd ∧ i = .int .i64 k ∧ Hid ((∃ l' : List UInt8, l'.length = nd ∧ Own w.heap.size wr (.slice pd nd cd) l') ∧ Chg w8 wr T)) (fun _ i _ => nd - (intOf i).toNat)
  case atStart => exact ⟨0, Nat.zero_le _, rfl, hide ⟨⟨s.da, HND.out.symm, HO8.out⟩, Chg.refl _ _⟩⟩
  case round =>
   obtain ⟨k, hk, rfl, hrel⟩ := hrel
   obtain ⟨⟨l2, hl2, hO2⟩, hcT⟩ := hrel.out
   by_cases hkn : (k : Int) < (nd : Int)
   ·obtain ⟨gg, y, rfl, v5, v6, hnx⟩ := HSTP.out _ l2 k hcT hl2 hO2 (by omega)
    have hkr := (hcT.block wL.heap.size (by have := HZ7.out; have := HS8.out; omega) (fun e => by have := HTT.out _ e; omega)).trans HK8.out
    have n3 : wr.cell? ⟨wL.heap.size, 3, none⟩ = some (.slice (some ⟨gg, 0, none⟩) nd cd) := by rw [cell_of_row wr _ 3 _ _ (0, 0) hkr]; rfl
    clear hO2 hcT hrel hl2 hkr
    go_wp2
    go_roundw
    case rel => exact ⟨k + 1, by omega, by go_num, hnx⟩
    case measure => simp [intOf]; omega
   ·have hbr : Below w.heap.size w wr := Chg.to_below HB08.out hcT fun i hi => (HTT.out i hi).2.1
    have hmr := (hcT.block W5.heap.size (by have := HZ7.out; have := HS8.out; omega) (fun e => by have := HTT.out _ e; have := HZ7.out; omega)).trans HM8.out
    have m3 : wr.cell? ⟨W5.heap.size, 3, none⟩ = some (.slice p4 n4 c4) := by rw [cell_of_row wr _ 3 _ _ (0, 0) hmr]; rfl
    obtain ⟨Lx, hLx⟩ : ∃ Lx : List Int, Lx = [0, 1, 512, (n4 : Int) - 1, (n4 : Int), (n4 : Int) + 1, -1] := ⟨_, rfl⟩
    obtain ⟨W10, hW10⟩ : ∃ W10, wr.alloc (.cells (Lx.map (Value.int .i64)).toArray 3) = W10 := ⟨_, rfl⟩
    have hW10' : wr.alloc (.cells #[.int .i64 0, .int .i64 1, .int .i64 512, .int .i64 ((n4 : Int) - 1), .int .i64 n4, .int .i64 ((n4 : Int) + 1), .int .i64 (-1)] 3) = W10 := by rw [← hW10, hLx]; rfl
    have hb10 : Below wr.heap.size wr W10 := by rw [← hW10]; exact balloc (Below.refl _ _) _
    have hr10 : W10.heap[wr.heap.size]? = some (.cells (Lx.map (Value.int .i64)).toArray 3 (0, 0)) := by rw [← hW10]; exact Array.getElem?_push_size
    have HC10 := hide (fun (W : World) (hW : Below W10.heap.size W10 W) (k : Nat) a (hk : Lx[k]? = some a) => (show W.cell? ⟨wr.heap.size, k, none⟩ = some (.int .i64 a) from by
     have h1 : W10.cell? ⟨wr.heap.size, k, none⟩ = some (.int .i64 a) := by
      rw [cell_of_row W10 _ k _ _ (0, 0) hr10]
      simp [hk]
     exact (hW.cell (lt_of_cell h1)).trans h1))
    have HB10 := hide (hbr.trans (hb10.mono hbr.size))
    have HLX := hide (show Lx.length = 7 by rw [hLx]; rfl)
    have es1 : IntKind.i64.wrap ((n4 : Int) - 1) = (n4 : Int) - 1 := by rw [IntKind.wrap_i64]; omega
    have es2 : wrap64 ((n4 : Int) - 1) = (n4 : Int) - 1 := by unfold wrap64; omega
    clear hO2 hcT hrel hl2 hbr hmr hb10 hr10 hW10 hLx
    go_wp2_with fail
    clear hW10' es1 es2 m3
    obtain ⟨gx, hgx⟩ : ∃ gx, wr.heap.size = gx := ⟨_, rfl⟩
    rw [hgx] at HC10 ⊢
    clear hgx
    go_loopw [8, 11, 12, 13, 14, 15, 16, 17, 70] (fun u8 _ _ _ _ _ _ _ i wq => u8 = .bool true ∧ ∃ k : Nat, k ≤ 7 ∧ i = .int .i64 k ∧ Hid (Below W10.heap.size W10 wq)) (fun _ _ _ _ _ _ _ _ i _ => 7 - (intOf i).toNat)
    case atStart => exact ⟨rfl, 0, Nat.zero_le _, rfl, hide (Below.refl _ _)⟩
    case round =>
     obtain ⟨rfl, k7, hk7, rfl, hrel⟩ := hrel
     have HBQ := hide hrel.out
     have HBW := hide (HB10.out.trans (hrel.out.mono HB10.out.size))
     clear hrel
     by_cases hk8 : (k7 : Int) < 7
     ·obtain ⟨a, ha⟩ : ∃ a, Lx[k7]? = some a := ⟨_, List.getElem?_eq_getElem (by have := HLX.out; omega)⟩
      have hcell := HC10.out wr HBQ.out k7 a ha
      have HP1 := hide (fun (W : World) (hW : Below wr.heap.size wr W) => vpiece_all (H1.out W (HBW.out.trans (hW.mono HBW.out.size))) (by have := HLN.out.2.1; omega) a)
      have HP2 := hide (fun (W : World) (hW : Below wr.heap.size wr W) => rvpiece_all (H2.out W (HBW.out.trans (hW.mono HBW.out.size))) (by have := HLN.out.2.1; omega) a)
      unfold PcA at HP1 HP2
      obtain ⟨⟨pl, pb, pc⟩, hpp⟩ : ∃ q, s.piece a = q := ⟨_, rfl⟩
      rw [hpp] at HP1 HP2
      dsimp only at HP1 HP2
      clear ha hpp
      go_wp2_with fail
      clear hcell
      refine (HP1.out wr (Below.refl _ _)).mono ?_
      rintro e wa ⟨pa, na, ca, rfl, hbya, hba⟩
      have HYA := hide hbya
      have HBA := hide hba
      clear hbya hba
      go_wp2_with fail
      refine (HP2.out wa HBA.out).mono ?_
      rintro e wb ⟨pb2, nb2, cb2, rfl, hbyb, hbb⟩
      have HEQ := hide (equal_any (HYA.out.below hbb) hbyb)
      rw [show ((pl == pl) : Bool) = true from beq_self_eq_true _] at HEQ
      have HBB := hide (HBQ.out.trans ((HBA.out.trans (hbb.mono HBA.out.size)).mono HBQ.out.size))
      have ebb := beq_bool pb
      have ecc : ((pc : Int) == (pc : Int)) = true := beq_self_eq_true _
      clear hbyb hbb
      go_wp2_with fail
      refine HEQ.out.mono ?_
      rintro e wc ⟨rfl, rfl⟩
      go_wp2_with fail
      go_roundw
      case rel => exact ⟨rfl, k7 + 1, by omega, by go_num, hide HBB.out⟩
      case measure => simp [intOf]; omega
     ·go_wp2
      go_ret
      exact ⟨rfl, HBW.out⟩
 ·rw [decide_eq_false h0]
  obtain ⟨W7, hW7⟩ : ∃ W7, W5.alloc (.cells #[.int .i64 0, .int .i64 0, .slice none 0 0, .slice none 0 0] 42) = W7 := ⟨_, rfl⟩
  have hb7 : Below W5.heap.size W5 W7 := by rw [← hW7]; exact balloc (Below.refl _ _) _
  have hr7 : W7.heap[W5.heap.size]? = some (.cells #[.int .i64 0, .int .i64 0, .slice none 0 0, .slice none 0 0] 42 (0, 0)) := by rw [← hW7]; exact Array.getElem?_push_size
  have hr57 := (hb7.block wL.heap.size (by omega)).trans hr5
  have hbL7 := (hb5.trans (hb7.mono hb5.size))
  have hb07 := hbL.trans (hbL7.mono hbL.size)
  have hx7 := H2.out W7 hb07
  have n0 : W7.cell? ⟨wL.heap.size, 0, none⟩ = some (.int .i64 s.ix) := by rw [cell_of_row W7 _ 0 _ _ (0, 0) hr57]; rfl
  have n1 : W7.cell? ⟨wL.heap.size, 1, none⟩ = some (.int .i64 s.tm) := by rw [cell_of_row W7 _ 1 _ _ (0, 0) hr57]; rfl
  have n2 : W7.cell? ⟨wL.heap.size, 2, none⟩ = some (.slice pv nv cv) := by rw [cell_of_row W7 _ 2 _ _ (0, 0) hr57]; rfl
  have n3 : W7.cell? ⟨wL.heap.size, 3, none⟩ = some (.slice pd nd cd) := by rw [cell_of_row W7 _ 3 _ _ (0, 0) hr57]; rfl
  have m0 : W7.cell? ⟨W5.heap.size, 0, none⟩ = some (.int .i64 0) := by rw [cell_of_row W7 _ 0 _ _ (0, 0) hr7]; rfl
  have m1 : W7.cell? ⟨W5.heap.size, 1, none⟩ = some (.int .i64 0) := by rw [cell_of_row W7 _ 1 _ _ (0, 0) hr7]; rfl
  have m2 : W7.cell? ⟨W5.heap.size, 2, none⟩ = some (.slice none 0 0) := by rw [cell_of_row W7 _ 2 _ _ (0, 0) hr7]; rfl
  have m3 : W7.cell? ⟨W5.heap.size, 3, none⟩ = some (.slice none 0 0) := by rw [cell_of_row W7 _ 3 _ _ (0, 0) hr7]; rfl
  have x5 := hx7.c5
  rw [decide_eq_false h0] at x5
  have hsn : SnV W7 (.agg #[.int .i64 s.ix, .int .i64 s.tm, .slice pv nv cv, .slice pd nd cd]) s := ⟨_, _, rfl, hov.ns.below hbL7, hod.by_.below hbL7, f0, f1⟩
  have hs0 : s = sn0 := by
   rcases HG.out with e | e
   ·exact e
   ·have := chk_ix e; omega
  have HSM := hide (same_any hsn (⟨_, _, rfl, Ns.nil _, By.nil _, fits0, fits0⟩ : SnV W7 (.agg #[.int .i64 0, .int .i64 0, .slice none 0 0, .slice none 0 0]) sn0) (by have := HLN.out.1; omega))
  unfold SmP at HSM
  rw [decide_eq_true hs0] at HSM
  have HOD := hide (show Own w.heap.size W7 (.slice pd nd cd) s.da from hod.below hbL7)
  have HB07 := hide hb07
  have HND := hide hnd
  have HR5 := hide hr57
  have HR7 := hide hr7
  have HZ7 := hide (show wL.heap.size + 1 = W5.heap.size ∧ w.heap.size ≤ wL.heap.size ∧ W5.heap.size < W7.heap.size from ⟨by omega, hbL.size, (Array.getElem?_eq_some_iff.1 hr7).1⟩)
  have HDB := hide (show 0 < nd → ∀ k, (Value.slice pd nd cd).ownBlock = some k → w.heap.size ≤ k ∧ k < wL.heap.size from fun h k hk => hod.lt (by omega) k hk)
  have hnd3 : (nd : Int) ≤ 300000 := by have := HLN.out.2.1; omega
  have HH0 := hide h0
  clear hb5 hs5 hr5 hb7 hr7 hr57 hbL7 hb07 hx7 hsn hov hod f0 f1 hbL hnd h0 hs0
  rw [← hW7] at n0 n1 n2 n3 x5 HSM
  have HW7 := hide hW7
  clear hW7 m0 m1 m2 m3
  go_wp2_with fail
  clear hW5 n0 n1 n2 n3 x5
  refine HSM.out.mono ?_
  rintro e w8 ⟨rfl, hb8⟩
  rw [HW7.out] at hb8
  have HB8 := hide hb8
  have HB08 := hide (HB07.out.trans (hb8.mono HB07.out.size))
  have HO8 := hide (HOD.out.below hb8)
  have hk8 := (hb8.block wL.heap.size (by have := HZ7.out; omega)).trans HR5.out
  have hm8 := (hb8.block W5.heap.size (by have := HZ7.out; omega)).trans HR7.out
  have n3 : w8.cell? ⟨wL.heap.size, 3, none⟩ = some (.slice pd nd cd) := by rw [cell_of_row w8 _ 3 _ _ (0, 0) hk8]; rfl
  have HK8 := hide hk8
  have HM8 := hide hm8
  have HS8 := hide hb8.size
  obtain ⟨T, hT⟩ : ∃ T : Nat → Prop, T = (fun k => 0 < nd ∧ w.heap.size ≤ k ∧ k < wL.heap.size) := ⟨_, rfl⟩
  have HTT := hide (show ∀ k, T k → 0 < nd ∧ w.heap.size ≤ k ∧ k < wL.heap.size from fun k hk => by rw [hT] at hk; exact hk)
  have HSTP := hide (show ∀ (V : World) (l' : List UInt8) (k : Nat), Chg w8 V T → l'.length = nd → Own w.heap.size V (.slice pd nd cd) l' → k < nd → ∃ (gg : Nat) (y : UInt8), pd = some ⟨gg, 0, none⟩ ∧ V.cell? ⟨gg, k, none⟩ = some (.int .u8 (y.toNat : Int)) ∧ V.frozen? ⟨gg, k, none⟩ = false ∧
    Hid ((∃ l2 : List UInt8, l2.length = nd ∧ Own w.heap.size (V.setCell ⟨gg, k, none⟩ (.int .u8 (bits BinOp.xor IntKind.u8 (y.toNat : Int) 255))) (.slice pd nd cd) l2) ∧ Chg w8 (V.setCell ⟨gg, k, none⟩ (.int .u8 (bits BinOp.xor IntKind.u8 (y.toNat : Int) 255))) T) from fun V l' k hV hl' hO hk => by
   obtain ⟨gg, y, e1, e2, e3, e4, l2, e5, e6⟩ := flip_set hO hk
   have hlt := HDB.out (by omega) gg (by rw [e1]; rfl)
   refine ⟨gg, y, e1, e3, e4, hide ⟨⟨l2, by omega, e6⟩, hV.trans (chg_set V gg k _) fun i hi => ?_⟩⟩
   rw [hi, hT]
   exact .inl ⟨by omega, e2, hlt.2⟩)
  clear hT hb8 hk8 hm8 HSM HOD
  go_wp2_with fail
  clear n3
  go_loopw [9, 46] (fun _ i wr => ∃ k : Nat, k ≤ nd ∧ i = .int .i64 k ∧ Hid ((∃ l' : List UInt8, l'.length = nd ∧ Own w.heap.size wr (.slice pd nd cd) l') ∧ Chg w8 wr T)) (fun _ i _ => nd - (intOf i).toNat)
  case atStart => exact ⟨0, Nat.zero_le _, rfl, hide ⟨⟨s.da, HND.out.symm, HO8.out⟩, Chg.refl _ _⟩⟩
  case round =>
   obtain ⟨k, hk, rfl, hrel⟩ := hrel
   obtain ⟨⟨l2, hl2, hO2⟩, hcT⟩ := hrel.out
   by_cases hkn : (k : Int) < (nd : Int)
   ·obtain ⟨gg, y, rfl, v5, v6, hnx⟩ := HSTP.out _ l2 k hcT hl2 hO2 (by omega)
    have hkr := (hcT.block wL.heap.size (by have := HZ7.out; have := HS8.out; omega) (fun e => by have := HTT.out _ e; omega)).trans HK8.out
    have n3 : wr.cell? ⟨wL.heap.size, 3, none⟩ = some (.slice (some ⟨gg, 0, none⟩) nd cd) := by rw [cell_of_row wr _ 3 _ _ (0, 0) hkr]; rfl
    clear hO2 hcT hrel hl2 hkr
    go_wp2
    go_roundw
    case rel => exact ⟨k + 1, by omega, by go_num, hnx⟩
    case measure => simp [intOf]; omega
   ·have hbr : Below w.heap.size w wr := Chg.to_below HB08.out hcT fun i hi => (HTT.out i hi).2.1
    have hmr := (hcT.block W5.heap.size (by have := HZ7.out; have := HS8.out; omega) (fun e => by have := HTT.out _ e; have := HZ7.out; omega)).trans HM8.out
    have m3 : wr.cell? ⟨W5.heap.size, 3, none⟩ = some (.slice none 0 0) := by rw [cell_of_row wr _ 3 _ _ (0, 0) hmr]; rfl
    obtain ⟨Lx, hLx⟩ : ∃ Lx : List Int, Lx = [0, 1, 512, ((0 : Nat) : Int) - 1, ((0 : Nat) : Int), ((0 : Nat) : Int) + 1, -1] := ⟨_, rfl⟩
    obtain ⟨W10, hW10⟩ : ∃ W10, wr.alloc (.cells (Lx.map (Value.int .i64)).toArray 3) = W10 := ⟨_, rfl⟩
    have hW10' : wr.alloc (.cells #[.int .i64 0, .int .i64 1, .int .i64 512, .int .i64 (-1), .int .i64 0, .int .i64 1, .int .i64 (-1)] 3) = W10 := by rw [← hW10, hLx]; rfl
    have hb10 : Below wr.heap.size wr W10 := by rw [← hW10]; exact balloc (Below.refl _ _) _
    have hr10 : W10.heap[wr.heap.size]? = some (.cells (Lx.map (Value.int .i64)).toArray 3 (0, 0)) := by rw [← hW10]; exact Array.getElem?_push_size
    have HC10 := hide (fun (W : World) (hW : Below W10.heap.size W10 W) (k : Nat) a (hk : Lx[k]? = some a) => (show W.cell? ⟨wr.heap.size, k, none⟩ = some (.int .i64 a) from by
     have h1 : W10.cell? ⟨wr.heap.size, k, none⟩ = some (.int .i64 a) := by
      rw [cell_of_row W10 _ k _ _ (0, 0) hr10]
      simp [hk]
     exact (hW.cell (lt_of_cell h1)).trans h1))
    have HB10 := hide (hbr.trans (hb10.mono hbr.size))
    have HLX := hide (show Lx.length = 7 by rw [hLx]; rfl)
    have es1 : IntKind.i64.wrap (((0 : Nat) : Int) - 1) = ((0 : Nat) : Int) - 1 := by rw [IntKind.wrap_i64]; omega
    have es2 : wrap64 (((0 : Nat) : Int) - 1) = ((0 : Nat) : Int) - 1 := by unfold wrap64; omega
    clear hO2 hcT hrel hl2 hbr hmr hb10 hr10 hW10 hLx
    go_wp2_with fail
    clear hW10' es1 es2 m3
    obtain ⟨gx, hgx⟩ : ∃ gx, wr.heap.size = gx := ⟨_, rfl⟩
    rw [hgx] at HC10 ⊢
    clear hgx
    go_loopw [8, 11, 12, 13, 14, 15, 16, 17, 70] (fun u8 _ _ _ _ _ _ _ i wq => u8 = .bool true ∧ ∃ k : Nat, k ≤ 7 ∧ i = .int .i64 k ∧ Hid (Below W10.heap.size W10 wq)) (fun _ _ _ _ _ _ _ _ i _ => 7 - (intOf i).toNat)
    case atStart => exact ⟨rfl, 0, Nat.zero_le _, rfl, hide (Below.refl _ _)⟩
    case round =>
     obtain ⟨rfl, k7, hk7, rfl, hrel⟩ := hrel
     have HBQ := hide hrel.out
     have HBW := hide (HB10.out.trans (hrel.out.mono HB10.out.size))
     clear hrel
     by_cases hk8 : (k7 : Int) < 7
     ·obtain ⟨a, ha⟩ : ∃ a, Lx[k7]? = some a := ⟨_, List.getElem?_eq_getElem (by have := HLX.out; omega)⟩
      have hcell := HC10.out wr HBQ.out k7 a ha
      have HP1 := hide (fun (W : World) (hW : Below wr.heap.size wr W) => vpiece_all (H1.out W (HBW.out.trans (hW.mono HBW.out.size))) (by have := HLN.out.2.1; omega) a)
      have HP2 := hide (fun (W : World) (hW : Below wr.heap.size wr W) => rvpiece_all (H2.out W (HBW.out.trans (hW.mono HBW.out.size))) (by have := HLN.out.2.1; omega) a)
      unfold PcA at HP1 HP2
      obtain ⟨⟨pl, pb, pc⟩, hpp⟩ : ∃ q, s.piece a = q := ⟨_, rfl⟩
      rw [hpp] at HP1 HP2
      dsimp only at HP1 HP2
      clear ha hpp
      go_wp2_with fail
      clear hcell
      refine (HP1.out wr (Below.refl _ _)).mono ?_
      rintro e wa ⟨pa, na, ca, rfl, hbya, hba⟩
      have HYA := hide hbya
      have HBA := hide hba
      clear hbya hba
      go_wp2_with fail
      refine (HP2.out wa HBA.out).mono ?_
      rintro e wb ⟨pb2, nb2, cb2, rfl, hbyb, hbb⟩
      have HEQ := hide (equal_any (HYA.out.below hbb) hbyb)
      rw [show ((pl == pl) : Bool) = true from beq_self_eq_true _] at HEQ
      have HBB := hide (HBQ.out.trans ((HBA.out.trans (hbb.mono HBA.out.size)).mono HBQ.out.size))
      have ebb := beq_bool pb
      have ecc : ((pc : Int) == (pc : Int)) = true := beq_self_eq_true _
      clear hbyb hbb
      go_wp2_with fail
      refine HEQ.out.mono ?_
      rintro e wc ⟨rfl, rfl⟩
      go_wp2_with fail
      go_roundw
      case rel => exact ⟨rfl, k7 + 1, by omega, by go_num, hide HBB.out⟩
      case measure => simp [intOf]; omega
     ·go_wp2
      go_ret
      exact ⟨rfl, HBW.out⟩
end Go.Proofs.YtgbdjcekpdfpjaaGreatDoor
