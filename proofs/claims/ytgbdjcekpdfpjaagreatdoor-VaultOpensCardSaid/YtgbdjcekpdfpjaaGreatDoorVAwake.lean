import Derived.Test.YtgbdjcekpdfpjaaGreatDoorVh
import Derived.Test.YtgbdjcekpdfpjaaGreatDoorVg
import Derived.Deep.RegionHeld3
set_option linter.unusedVariables false
set_option linter.unusedSimpArgs false
namespace Go.Proofs.YtgbdjcekpdfpjaaGreatDoor
set_option maxRecDepth 100000
set_option maxHeartbeats 4000000
open Go.RowKit
theorem pieces_count : ∀ (f : Nat) (l : List UInt8), (piecesL f l).length * 512 ≤ l.length + 511
 | 0, l => by simp [piecesL]
 | f + 1, l => by
  unfold piecesL
  split
  ·simp
  ·rename_i hl
   have h := pieces_count f (l.drop 512)
   have hp := List.length_pos_iff.2 hl
   rw [List.length_drop] at h
   simp only [List.length_cons]
   omega
theorem rec_short (p : List UInt8) (hp : p.length ≤ 65536) : (recL p).length ≤ p.length + 14 := by
 unfold recL
 rw [List.length_append, front_length, tailL_length]
 have := digits_length p.length (by omega)
 omega
theorem flat_len : ∀ (l : List (List UInt8)), (∀ p ∈ l, p.length ≤ 65536) → ((l.map recL).flatten).length ≤ l.flatten.length + 14 * l.length
 | [], _ => by simp
 | p :: r, h => by
  have h1 := rec_short p (h p (List.mem_cons_self ..))
  have h2 := flat_len r fun q hq => h q (List.mem_cons_of_mem _ hq)
  simp only [List.map_cons, List.flatten_cons, List.length_append, List.length_cons]
  omega
theorem recs_len (s : Sn) : s.recs.length = s.pieces.length + 1 := by unfold Sn.recs; simp
theorem file_len {s : Sn} (hv : s.vo.length ≤ 1000) (hi : ∀ x ∈ s.vo, Go.Proofs.YtgbdjcekpdfpjaaGreatDoor.fits x) (h0 : s.ix ≤ 9223372036854775807) (h1 : s.tm ≤ 9223372036854775807) (hd : s.da.length ≤ 1000000) : s.file.length ≤ 36 + 9 * s.vo.length + s.da.length + 14 * s.recs.length ∧ s.recs.length ≤ s.da.length / 512 + 2 := by
 have hvn := numsB_len s.vo hi
 have a := numB_len s.ix h0
 have b := numB_len s.tm h1
 have c := numB_len s.vo.length (by omega)
 have d := numB_len s.da.length (by omega)
 have hh : s.head.length ≤ 36 + 9 * s.vo.length := by
  unfold Sn.head
  simp only [List.length_append]
  omega
 have hf := flat_len (s.head :: s.pieces) (fun p hp => by
  rcases List.mem_cons.1 hp with rfl | hp
  ·omega
  ·have := piece_le _ _ p hp; omega)
 have hpf : s.pieces.flatten = s.da := pieces_flat _ _ (Nat.le_refl _)
 have hpc := pieces_count s.da.length s.da
 have hpc' : s.pieces.length * 512 ≤ s.da.length + 511 := hpc
 rw [recs_len]
 constructor
 ·have : s.file.length = (((s.head :: s.pieces).map recL).flatten).length := rfl
  rw [this]
  simp only [List.flatten_cons, List.length_append, List.length_cons, hpf] at hf
  omega
 ·omega
def K3 : Sn := oneS 3 600
theorem K3_chk : K3.chk = 0 := by decide +kernel
theorem K3_len : K3.file.length ≤ 2000 ∧ K3.recs.length ≤ 4 := by
 have h := file_len (s := K3) (by decide) (fun x hx => by
  have : x = 0 ∨ x = 1 := by have hx' : x ∈ [(0 : Int), 1] := hx; simpa using hx'
  unfold Go.Proofs.YtgbdjcekpdfpjaaGreatDoor.fits; omega) (by decide) (by decide) (by show (List.replicate 600 (0 : UInt8)).length ≤ 1000000; rw [List.length_replicate]; omega)
 have h1 : K3.vo.length = 2 := rfl
 have h2 : K3.da.length = 600 := by show (List.replicate 600 (0 : UInt8)).length = 600; rw [List.length_replicate]
 omega
theorem rest_new {r : Nat} (hr : r ≤ 16777216) : Rest (Dk.new r) sn0 := ⟨⟨rfl, rfl, List.Pairwise.nil⟩, Dk.Ok.new hr, rfl, .inl rfl⟩
theorem K3_save : ∃ y, saveL sn0 (Dk.new 10000) K3 = (0, K3, y) ∧ y.Quiet ∧ y.seen = filesOf K3 ∧ y.acts = [] := by
 obtain ⟨y, h1, h2, h3, h4, h5, h6, h7, h8, h9⟩ := (rest_new (r := 10000) (by omega)).save K3_chk (by decide) (by have := K3_len.1; show 0 + K3.file.length ≤ 10000; omega) (by decide)
 exact ⟨y, h1, h2, h3, h9 (by decide)⟩
theorem rest_crash {y : Dk} {s : Sn} (h1 : y.Quiet) (h2 : y.seen = filesOf s) (h3 : y.acts = []) (ok : y.Ok) (hg : s = sn0 ∨ s.chk = 0) (keep tear : Int) : Rest (y.crash keep tear).2.start s := by
 have hl : y.last = filesOf s := by rw [← h2]; unfold Dk.seen; rw [h3]; rfl
 have e : (y.crash keep tear).2.start = { y with fn := 0, keep := 0, tear := 0 } := by
  unfold Dk.crash
  rw [if_neg (by rw [h1.down]; simp)]
  show (y.fall keep tear).start = _
  unfold Dk.fall Dk.start
  rw [h3]
  have : settleF y.last [] (min (max keep 0).toNat ([] : List Deed).length) (max tear 0).toNat = y.last := by
   unfold settleF
   rw [if_pos (by simp)]
  rw [this]
  cases y
  simp only at h3
  subst h3
  have := h1.down
  simp only at this
  subst this
  rfl
 refine ⟨⟨?_, ?_, ?_⟩, ?_, ?_, hg⟩
 ·rw [e]; exact h1.down
 ·rw [e]
 ·rw [e]; exact h1.rises
 ·have := (ok.fall keep tear)
  have hok : (y.crash keep tear).2.Ok := by
   unfold Dk.crash
   rw [if_neg (by rw [h1.down]; simp)]
   exact this
  exact ⟨hok.rises, hok.fits, hok.few, hok.room, hok.most, fun h1 => by simp [Dk.start] at h1, hok.many, hok.fuse⟩
 ·rw [e]
  show runs y.last y.acts = _
  rw [h3]; exact hl
theorem filesOf_okN {s : Sn} (hg : s = sn0 ∨ s.chk = 0) : AllOk (filesOf s) := by
 rcases hg with rfl | hc
 ·intro p hp; simp [filesOf, sn0] at hp
 ·have hx := chk_ix hc
  intro p hp
  unfold filesOf at hp
  rw [if_pos (by omega)] at hp
  rw [List.mem_singleton.1 hp]
  exact (name_chk hc).2.1
theorem vawake_any {w : World} (ht : Tab w) : Calls Tryz.prog 12 #[] w fun e w' => e = .returned (.bool true) ∧ Below w.heap.size w w' := by
 obtain ⟨y, hy1, hy2, hy3, hy4⟩ := K3_save
 have HY1 := hide hy1
 have HY2 := hide hy2
 have HY3 := hide hy3
 have HY4 := hide hy4
 have HT := hide ht
 have HBG := hide (begun_any ht (r := 10000) (by omega))
 clear ht hy1 hy2 hy3 hy4
 go_enter Tryz.func12, Tryz.ntmps12
 have hkc := K3_chk
 have hkl := K3_len
 have hkv : K3.vo.length = 2 := rfl
 have hkd : K3.da.length = 600 := by show (List.replicate 600 (0 : UInt8)).length = 600; rw [List.length_replicate]
 have HKC := hide hkc
 have HKL := hide (And.intro hkl (And.intro hkv hkd))
 have hfy : y.Fine 7 2000 := by
  have h := saveL_fine (Dk.Fine.new (r := 10000) (by omega)) sn0 K3 (by omega)
  rw [HY1.out] at h
  exact h.mono (by omega) (by omega)
 have HFY := hide hfy
 clear hkc hkl hkv hkd hfy
 go_wp2_with fail
 refine HBG.out.mono ?_
 rintro e w1 ⟨d, b, rfl, hv1⟩
 have HV1 := hide hv1
 clear hv1
 go_wp2_with fail
 refine (one_any (w := w1) (ix := 3) (n := 600) (by unfold Go.Proofs.YtgbdjcekpdfpjaaGreatDoor.fits; decide) (by omega)).mono ?_
 rintro e w2 ⟨v2, rfl, ho2, hb2⟩
 have HSV := hide ((HV1.out.at (Chg.of_below hb2 _)).save (k := K3) ho2.snv HT.out (by decide) (Dk.Fine.new (r := 10000) (by omega)) (by have := HKL.out; omega) (by have := HKL.out; omega) (by have := HKL.out; omega) (by have := HKL.out; omega) (by have := HKL.out; omega))
 unfold VoR at HSV
 rw [HY1.out] at HSV
 clear ho2 hb2 HV1
 go_wp2_with fail
 refine HSV.out.mono ?_
 rintro e w3 ⟨rfl, hv3, hc3⟩
 have HV3 := hide hv3
 have e0 : (((0 : Nat) : Int) != 0) = false := rfl
 dsimp only at HV3 ⊢
 clear hv3 hc3 HSV
 go_wp2_with fail
 refine (one_any (w := w3) (ix := 3) (n := 600) (by unfold Go.Proofs.YtgbdjcekpdfpjaaGreatDoor.fits; decide) (by omega)).mono ?_
 rintro e w4 ⟨v4, rfl, ho4, hb4⟩
 have HSV := hide ((HV3.out.at (Chg.of_below hb4 _)).save (k := K3) ho4.snv HT.out (by decide) HFY.out (by have := HKL.out; omega) (by have := HKL.out; omega) (by have := HKL.out; omega) (by have := HKL.out; omega) (by have := HKL.out; omega))
 unfold VoR at HSV
 rw [save_old HKC.out (Int.le_refl _)] at HSV
 clear ho4 hb4 HV3
 go_wp2_with fail
 refine HSV.out.mono ?_
 rintro e w5 ⟨rfl, hv5, hc5⟩
 have HV5 := hide hv5
 have e51 : (((51 : Nat) : Int) != 51) = false := rfl
 dsimp only at HV5 ⊢
 clear hv5 hc5 HSV
 go_wp2_with fail
 obtain ⟨vo5, da5, hvt5⟩ := HV5.out.vt
 refine (vpiece_any (k := 512) hvt5 (by decide) (by have := HKL.out; omega) (by have := HKL.out; omega)).mono ?_
 rintro e w6 ⟨v6, rfl, ho6, hb6⟩
 have hl6 : ((K3.da.drop 512).take 512).length = 88 := by rw [List.length_take, List.length_drop]; have := HKL.out; omega
 obtain ⟨p6, n6, c6, rfl⟩ := ho6.by_.sl
 obtain rfl : n6 = 88 := ho6.by_.len.1.trans hl6
 have hdn : decide (K3.da.length ≤ 512 + 512) = true := decide_eq_true (by have := HKL.out; omega)
 rw [hdn]
 have HV6 := hide (HV5.out.at (Chg.of_below hb6 _))
 clear ho6 hb6 hl6 hvt5 HV5 hdn
 go_wp2_with fail
 obtain ⟨S, C, hdi, hbk⟩ := HV6.out.disk
 refine (crash_call hdi (keep := 9) (tear := 0) (by omega) (by omega) (by omega) (by omega)).mono ?_
 rintro e w7 ⟨rfl, hp7⟩
 have HV7 := hide (hbk _ _ hp7).1
 clear hp7 hbk hdi HV6
 go_wp2_with fail
 obtain ⟨S, C, hdi, hbk⟩ := HV7.out.disk
 refine (start_call hdi).mono ?_
 rintro e w8 ⟨rfl, hp8⟩
 have HV8 := hide (hbk _ _ hp8).1
 have hrs := rest_crash HY2.out HY3.out HY4.out HFY.out.ok (.inr HKC.out) 9 0
 obtain ⟨z, hz⟩ : ∃ z, (y.crash 9 0).2.start = z := ⟨_, rfl⟩
 rw [hz] at HV8 hrs
 have hfz : z.Fine 7 2000 := by rw [← hz]; exact (HFY.out.crash 9 0).start
 obtain ⟨x, hx1, hx2, hx3, hx4, hx5, hx6, hx7⟩ := openV_ok hrs.q (by rw [hrs.seen]; exact filesOf_okN (.inr HKC.out))
 have HOP := hide (HV8.out.open HT.out hfz (by omega) (by omega))
 unfold VnP at HOP
 rw [hrs.found, hx1] at HOP
 clear hp8 hbk hdi HV7 hz hrs hx1 hx2 hx3 hx4 hx5 hx6 hx7 hfz HV8
 go_wp2_with fail
 refine HOP.out.mono ?_
 rintro e w9 (⟨k1, k2⟩ | ⟨k1, b9, rfl, k2, k3⟩)
 ·exact absurd rfl k1
 have HV9 := hide k2
 clear k1 k2 k3 HOP
 go_wp2_with fail
 obtain ⟨vo9, da9, hvt9⟩ := HV9.out.vt
 refine (vlast_any hvt9 (by decide) (by have := HKL.out; omega) (by have := HKL.out; omega)).mono ?_
 rintro e w10 ⟨v10, rfl, ho10, hb10⟩
 have HB10 := hide (HV9.out.below.trans (hb10.mono HV9.out.below.size))
 obtain ⟨vo10, da10, rfl, h101, h102, h103, h104⟩ := ho10
 obtain ⟨p1, n1, c1, rfl⟩ := h101.ns.sl
 obtain ⟨p2, n2, c2, rfl⟩ := h102.by_.sl
 have HSN := hide (show SnV w10 (.agg #[.int .i64 K3.ix, .int .i64 K3.tm, .slice p1 n1 c1, .slice p2 n2 c2]) K3 from ⟨_, _, rfl, h101.ns, h102.by_, h103, h104⟩)
 clear hvt9 HV9 hb10 h101 h102 h103 h104
 obtain ⟨X, hX⟩ : ∃ X, w10.alloc (.cells #[.int .i64 K3.ix, .int .i64 K3.tm, .slice p1 n1 c1, .slice p2 n2 c2] 42) = X := ⟨_, rfl⟩
 have hbX : Below w10.heap.size w10 X := by rw [← hX]; exact balloc (Below.refl _ _) _
 have hrX : X.heap[w10.heap.size]? = some (.cells #[.int .i64 K3.ix, .int .i64 K3.tm, .slice p1 n1 c1, .slice p2 n2 c2] 42 (0, 0)) := by rw [← hX]; exact Array.getElem?_push_size
 have x0 : X.cell? ⟨w10.heap.size, 0, none⟩ = some (.int .i64 K3.ix) := by rw [cell_of_row X _ 0 _ _ (0, 0) hrX]; rfl
 have x1 : X.cell? ⟨w10.heap.size, 1, none⟩ = some (.int .i64 K3.tm) := by rw [cell_of_row X _ 1 _ _ (0, 0) hrX]; rfl
 have x2 : X.cell? ⟨w10.heap.size, 2, none⟩ = some (.slice p1 n1 c1) := by rw [cell_of_row X _ 2 _ _ (0, 0) hrX]; rfl
 have x3 : X.cell? ⟨w10.heap.size, 3, none⟩ = some (.slice p2 n2 c2) := by rw [cell_of_row X _ 3 _ _ (0, 0) hrX]; rfl
 have HKX := hide (fun (W : World) (hW : Below X.heap.size X W) => And.intro ((hW.cell (lt_of_cell x0)).trans x0) (And.intro ((hW.cell (lt_of_cell x1)).trans x1) (And.intro ((hW.cell (lt_of_cell x2)).trans x2) ((hW.cell (lt_of_cell x3)).trans x3))))
 have HSN := hide (HSN.out.below hbX)
 have HBX := hide (HB10.out.trans (hbX.mono HB10.out.size))
 clear hbX hrX HB10
 go_wp2_with fail
 refine wp_region_held_drew (S := fun W => W.cell? ⟨w10.heap.size, 0, none⟩ = some (.int .i64 K3.ix) ∧ W.cell? ⟨w10.heap.size, 1, none⟩ = some (.int .i64 K3.tm) ∧ W.cell? ⟨w10.heap.size, 2, none⟩ = some (.slice p1 n1 c1) ∧ W.cell? ⟨w10.heap.size, 3, none⟩ = some (.slice p2 n2 c2)) (by kernel_rfl) ?_ (fun hHeld => ?_)
 ·(try dsimp only)
  exact ⟨x0, x1, x2, x3⟩
 refine tkL 0 rfl ?_
 refine tkL 1 rfl ?_
 refine tkL 2 rfl ?_
 refine tkL 3 rfl ?_
 refine tkL 4 rfl ?_
 refine tkL 5 rfl ?_
 refine tkL 6 rfl ?_
 refine tkL 7 rfl ?_
 refine tkL 8 rfl ?_
 refine tkL 9 rfl ?_
 refine tkL 10 rfl ?_
 refine tkL 11 rfl ?_
 refine tkL 12 rfl ?_
 refine tkL 13 rfl ?_
 refine tkL 14 rfl ?_
 refine tkL 15 rfl ?_
 refine tkL 16 rfl ?_
 refine tkL 17 rfl ?_
 refine tkL 18 rfl ?_
 refine wpAnyH_ready (rs := [19]) (by kernel_rfl) (by simp) ?_
 refine acL rfl (fun K hK => ?_) ?_
 ·go_simp
  go_at_call 42
  refine (one_any (ix := 3) (n := 600) (by unfold Go.Proofs.YtgbdjcekpdfpjaaGreatDoor.fits; decide) (by omega)).mono ?_
  rintro e w11 ⟨v11, rfl, ho11, hb11⟩
  have HB11 : Hid (Below X.heap.size X w11) := hide ((below_drewN (Below.refl X.heap.size X) 1).trans hb11)
  have HS11 := hide (same_any (HSN.out.below HB11.out) ho11.snv (by have := HKL.out; omega))
  clear ho11 hb11
  first
   | refine hK.out _ _ ?_ (fun hHeld => ?_)
   | (go_wp2_with fail; refine hK.out _ _ ?_ (fun hHeld => ?_))
  ·(try dsimp only)
   exact HKX.out _ HB11.out
  clear hK K
  try simp only [Act.put, qA, qB, qC]
  refine wpAnyH_ready (rs := [20]) (by kernel_rfl) (by simp) ?_
  refine acL rfl (fun K hK => ?_) ?_
  ·go_simp
   go_at_call 24
   refine HS11.out.mono ?_
   rintro e w12 ⟨rfl, hb12⟩
   have hdt : decide (K3 = oneS 3 600) = true := decide_eq_true rfl
   rw [hdt]
   have HB12 : Hid (Below X.heap.size X w12) := hide (HB11.out.trans (hb12.mono HB11.out.size))
   clear hb12 hdt
   first
    | refine hK.out _ _ ?_ (fun hHeld => ?_)
    | (go_wp2_with fail; refine hK.out _ _ ?_ (fun hHeld => ?_))
   ·(try dsimp only)
    exact HKX.out _ HB12.out
   clear hK K
   try simp only [Act.put, qA, qB, qC]
   refine tkL 21 rfl ?_
   refine tkL 22 rfl ?_
   refine wpAnyH_done (by kernel_rfl) ?_ _
   go_wp2_with fail
   go_ret
   exact ⟨rfl, HBX.out.trans (HB12.out.mono HBX.out.size)⟩
  exact AllReadyH.nil
 exact AllReadyH.nil
end Go.Proofs.YtgbdjcekpdfpjaaGreatDoor
