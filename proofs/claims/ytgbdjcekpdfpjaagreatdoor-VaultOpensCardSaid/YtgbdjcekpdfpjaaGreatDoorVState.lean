import Derived.Test.YtgbdjcekpdfpjaaGreatDoorVCol
import Derived.Test.YtgbdjcekpdfpjaaGreatDoorVSnap
set_option linter.unusedVariables false
set_option linter.unusedSimpArgs false
namespace Go.Proofs.YtgbdjcekpdfpjaaGreatDoor
open Go.RowKit
theorem rows_lens : ∀ (f : Nat) (b : List UInt8), Lib.lens (rowsL f b).1 ≤ b.length ∧ (rowsL f b).1.length ≤ b.length
 | 0, b => by simp [rowsL, Lib.lens]
 | f + 1, b => by
  obtain ⟨p, k, e, h⟩ : ∃ p k e, pickL b = (p, k, e) := ⟨_, _, _, rfl⟩
  by_cases he : e = 0
  ·subst he
   obtain ⟨h1, h2, h3, h4⟩ := pick_ok h
   obtain ⟨h5, h6⟩ := rows_lens f (b.drop k)
   have hk : p.length + 1 ≤ k := by rw [h4]; simp [recL, front]; omega
   rw [rowsL_go h]
   rw [List.length_drop] at h5 h6
   have e1 : Lib.lens (p :: (rowsL f (b.drop k)).1) = p.length + Lib.lens (rowsL f (b.drop k)).1 := by simp [Lib.lens]
   rw [e1]
   refine ⟨by omega, ?_⟩
   simp only [List.length_cons]
   omega
  ·rw [rowsL_stop h he]
   simp [Lib.lens]
theorem elemBB : Tryz.prog.elem 115 = 40 := by simp [Program.elem, Tryz.underlying115]
theorem underBB : Tryz.prog.underlying 115 = some (.slice (Tryz.prog.elem 115)) := by rw [elemBB]; exact Tryz.underlying115
theorem bss_tail {w : World} {p : Option Addr} {n c : Nat} {x : List UInt8} {ls : List (List UInt8)} (h : Bss w (.slice p n c) (x :: ls)) :
  ∃ q, (∀ W : World, (Instr.slice 115 (.slice p n c) (some (.int .i64 1)) none none).run Tryz.prog W = .ok (.slice q (n - 1) (c - 1)) W) ∧ Bss w (.slice q (n - 1) (c - 1)) ls := by
 obtain ⟨p', c', e, hl, hm, hn, hc⟩ := h
 injection e with e1 e2 e3
 subst e1 e2 e3
 simp only [List.length_cons] at hl
 refine ⟨if c = 1 then p else p.map (·.add 1), fun W => ?_, ?_⟩
 ·rw [run_slice_l W 115 _ _ _ underBB .i64 _ (by omega) (by simp; omega), elemBB, Tryz.sizeOf40]
  simp [Result.andThen, sliced]
 ·refine ⟨if c = 1 then p else p.map (·.add 1), c - 1, by simp, by omega, by omega, fun h0 => ?_, fun a ha i l hi => ?_⟩
  ·by_cases h1 : c = 1
   ·rw [if_pos h1] at h0
    have := hn h0
    omega
   ·rw [if_neg h1] at h0
    cases p with
    | none => have := hn rfl; omega
    | some a => simp at h0
  ·have hls : 0 < ls.length := by
    have := (List.getElem?_eq_some_iff.1 hi).1
    omega
   rw [if_neg (by omega)] at ha
   cases p with
   | none => simp at ha
   | some a0 =>
    simp only [Option.map_some, Option.some.injEq] at ha
    subst ha
    obtain ⟨u, h1, h2⟩ := hc a0 rfl (i + 1) l (by simpa using hi)
    refine ⟨u, ?_, h2⟩
    have e : (a0.add 1).add i = a0.add (i + 1) := by
     unfold Addr.add
     by_cases hi : i = 0 <;> simp [hi] <;> omega
    rw [e]; exact h1
theorem Own.chg {B : Nat} {w w' : World} {v : Value} {l : List UInt8} {S : Nat → Prop} (h : Own B w v l) (hc : Chg w w' S) (hS : ∀ k, S k → k < B) : Own B w' v l := by
 rcases h with h | ⟨g, cap, e, hB, hl, hm, hx, hs, hf⟩
 ·exact .inl h
 ·refine .inr ⟨g, cap, e, hB, hl, hm, ?_⟩
  by_cases h0 : cap = 0
  ·subst h0
   exact ⟨fun i x hi => by have := (List.getElem?_eq_some_iff.1 hi).1; omega, fun i hi => by omega, fun i hi => by omega⟩
  ·have hlt : g < w.heap.size := by
    obtain ⟨u, hu⟩ := Option.isSome_iff_exists.1 (hs 0 (by omega))
    exact lt_of_cell hu
   have hb := hc.block g hlt (fun hk => by have := hS g hk; omega)
   have hcell : ∀ i, w'.cell? ⟨g, i, none⟩ = w.cell? ⟨g, i, none⟩ := fun i => by unfold World.cell?; simp only [hb]
   have hfro : ∀ i, w'.frozen? ⟨g, i, none⟩ = w.frozen? ⟨g, i, none⟩ := fun i => by unfold World.frozen?; simp only [hb]
   exact ⟨fun i x hi => by rw [hcell]; exact hx i x hi, fun i hi => by rw [hcell]; exact hs i hi, fun i hi => by rw [hfro]; exact hf i hi⟩
theorem ownsRow_chg {w w' : World} {B n z : Nat} {e : TypeId} {v : Value} {xs : List Value} {S : Nat → Prop} (h : w.ownsRow B e z v n xs) (hc : Chg w w' S) (hS : ∀ k, S k → k < B) : w'.ownsRow B e z v n xs := by
 obtain ⟨h0, h1 | ⟨g, cap, cur, e1, hB, hh, r⟩⟩ := h
 ·exact ⟨h0, .inl h1⟩
 ·have hlt : g < w.heap.size := (Array.getElem?_eq_some_iff.1 hh).1
  exact ⟨h0, .inr ⟨g, cap, cur, e1, hB, (hc.block g hlt (fun hk => by have := hS g hk; omega)).trans hh, r⟩⟩
theorem OwnN.chg {B : Nat} {w w' : World} {v : Value} {L : List Int} {S : Nat → Prop} (h : OwnN B w v L) (hc : Chg w w' S) (hS : ∀ k, S k → k < B) : OwnN B w' v L := ⟨ownsRow_chg h.1 hc hS, h.2⟩
theorem SnO.chg {B : Nat} {w w' : World} {v : Value} {s : Sn} {S : Nat → Prop} (h : SnO B w v s) (hc : Chg w w' S) (hS : ∀ k, S k → k < B) : SnO B w' v s := by
 obtain ⟨vo, da, rfl, h1, h2, h3⟩ := h
 exact ⟨vo, da, rfl, h1.chg hc hS, h2.chg hc hS, h3⟩
theorem SnO.mono {B B' : Nat} {w : World} {v : Value} {s : Sn} (h : SnO B w v s) (hB : B' ≤ B) : SnO B' w v s := by
 obtain ⟨vo, da, rfl, h1, h2, h3⟩ := h
 exact ⟨vo, da, rfl, h1.mono hB, h2.mono hB, h3⟩
theorem SnO.below {B : Nat} {w w' : World} {v : Value} {s : Sn} (h : SnO B w v s) (hb : Below w.heap.size w w') : SnO B w' v s := by
 obtain ⟨vo, da, rfl, h1, h2, h3⟩ := h
 exact ⟨vo, da, rfl, h1.below hb, h2.below hb, h3⟩
theorem recL_len {l : List UInt8} (h : l.length ≤ 65536) : (recL l).length ≤ 66000 := by
 have := digits_length l.length (by omega)
 simp [recL, front, tailL]
 omega
theorem lens_le : ∀ (ls : List (List UInt8)) (m : Nat), (∀ l ∈ ls, l.length ≤ m) → Lib.lens ls ≤ ls.length * m
 | [], _, _ => by simp [Lib.lens]
 | l :: r, m, h => by
  have h1 := h l (List.mem_cons_self ..)
  have h2 := lens_le r m fun x hx => h x (List.mem_cons_of_mem _ hx)
  have e : Lib.lens (l :: r) = l.length + Lib.lens r := by simp [Lib.lens]
  rw [e, List.length_cons, Nat.add_mul]
  omega
theorem recs_lens {w : World} {b : Nat} {vo da : Value} {s : Sn} (h : StAt w b vo da s) (hvs : s.vo.length ≤ 1000) (hds : s.da.length ≤ 900000) : Lib.lens s.recs ≤ 140737488355328 ∧ s.recs.length ≤ 140737488355328 := by
 have h1 := piecesL_few s.da.length s.da
 have h2 : s.recs.length ≤ 900001 := by unfold Sn.recs Sn.pieces; simp; omega
 refine ⟨?_, by omega⟩
 refine Nat.le_trans (lens_le s.recs 66000 fun l hl => ?_) (Nat.le_trans (Nat.mul_le_mul_right _ h2) (by decide))
 unfold Sn.recs at hl
 rcases List.mem_cons.1 hl with rfl | hl
 ·exact recL_len (head_len s h hvs (by omega))
 ·obtain ⟨y, hy, rfl⟩ := List.mem_map.1 hl
  obtain ⟨k, hk⟩ := List.mem_iff_getElem?.1 hy
  exact recL_len (Nat.le_trans (piece_len (Nat.le_refl _) hk) (by omega))
theorem collect_any {w : World} {bs b : Nat} {vo da : Value} {s : Sn} (h : Src w.heap.size (fun _ => False) w bs b vo da s) (hvs : s.vo.length ≤ 1000) (hds : s.da.length ≤ 900000) :
  Calls Tryz.prog 114 #[.func (.func 120) #[] #[.pointer (some ⟨bs, 0, none⟩)]] w fun e w' => ∃ v, e = .returned v ∧ Bss w' v s.recs ∧ Below w.heap.size w w' := by
 have H := hide h
 clear h
 go_enter Tryz.func114, Tryz.ntmps114
 go_wp2_with fail
 refine (appendSeq_any H.out hvs hds).mono ?_
 rintro e w1 ⟨v1, rfl, hb, hbb⟩
 obtain ⟨p, n, c, rfl⟩ := hb.sl
 go_wp2
 go_ret
 exact ⟨_, rfl, hb, hbb⟩
theorem okFrom_few : ∀ {lo : Int} {l : List Int}, lo ≤ 7 → okFrom lo l = true → (l.length : Int) ≤ 7 - lo
 | lo, [], h, _ => by simp; omega
 | lo, n :: r, h, h1 => by
  simp only [okFrom, Bool.and_eq_true, decide_eq_true_eq] at h1
  have := okFrom_few (lo := n + 1) (by omega) h1.2
  simp only [List.length_cons]
  omega
theorem okR_few {l : List Int} (h : okR l = true) : l.length ≤ 7 := by
 simp only [okR, Bool.and_eq_true] at h
 have := okFrom_few (by omega) h.2
 omega
theorem chk_ok {s : Sn} (h : s.chk = 0) : 1 ≤ s.ix ∧ s.ix ≤ 1099511627776 ∧ (s.vo.length ≤ 7 ∧ s.da.length ≤ 262144) := by
 unfold Sn.chk at h
 split at h
 ·rename_i h1
  split at h
  ·simp at h
  ·rename_i h2
   simp only [Bool.and_eq_true, decide_eq_true_eq] at h1
   refine ⟨h1.1.1.1, h1.1.1.2, ?_, by omega⟩
   exact okR_few h1.2
 ·simp at h
def StP (w : World) (name b : List UInt8) (e : Ending) (w' : World) : Prop :=
 ∃ iv ok s, e = .returned (.tuple #[iv, .bool ok]) ∧ SnO w.heap.size w' iv s ∧ stateL name b = (if ok = true then some s else none) ∧ Below w.heap.size w w'
theorem stateL_nil {name b : List UInt8} (h : (rowsL b.length b).1 = []) : stateL name b = none := by
 unfold stateL readB; rw [h]; rfl
theorem stateL_cons {name b h : List UInt8} {ps : List (List UInt8)} (hr : (rowsL b.length b).1 = h :: ps) (ok : Bool) (hok : ok = true ↔ (snapOf 7 h ps).chk = 0 ∧ (snapOf 7 h ps).name = name ∧ (snapOf 7 h ps).file = b) : stateL name b = (if ok = true then some (snapOf 7 h ps) else none) := by
 unfold stateL readB
 rw [hr]
 dsimp only
 by_cases h1 : (snapOf 7 h ps).chk = 0 ∧ (snapOf 7 h ps).file = b
 ·rw [if_pos h1]
  by_cases h2 : (snapOf 7 h ps).name = name
  ·rw [if_pos (hok.2 ⟨h1.1, h2, h1.2⟩)]
   simp [h2]
  ·rw [if_neg (fun e => h2 (hok.1 e).2.1)]
   simp [h2]
 ·rw [if_neg h1, if_neg (fun e => h1 ⟨(hok.1 e).1, (hok.1 e).2.2⟩)]
  rfl
set_option maxRecDepth 200000 in
set_option maxHeartbeats 8000000 in
theorem stateOf_any {w : World} {v : Value} {name b : List UInt8} (hb : By w v b) (hl : b.length ≤ 900000) (ht : Tab w) :
  Calls Tryz.prog 89 #[.string (str name), v] w (StP w name b) := by
 obtain ⟨p, n, c, rfl⟩ := hb.sl
 have HBY := hide hb
 have HT := hide ht
 obtain ⟨R, Z, hR⟩ : ∃ R Z, rowsL b.length b = (R, Z) := ⟨_, _, rfl⟩
 have HR := hide hR
 clear hb ht hR
 go_enter Tryz.func89, Tryz.ntmps89
 go_wp2_with fail
 obtain ⟨W0, hW0⟩ : ∃ W0, w.alloc (.cells #[.int .i64 0, .int .i64 0, .slice none 0 0, .slice none 0 0] 86) = W0 := ⟨_, rfl⟩
 have HB0 := hide (show Below w.heap.size w W0 by rw [← hW0]; exact balloc (Below.refl _ _) _)
 have HR0 : Hid (W0.heap[w.heap.size]? = some (.cells #[.int .i64 0, .int .i64 0, .slice none 0 0, .slice none 0 0] 86 (0, 0))) := hide (by rw [← hW0]; exact Array.getElem?_push_size)
 have HS0 := hide (show W0.heap.size = w.heap.size + 1 by rw [← hW0]; simp)
 rw [hW0]
 clear hW0
 refine (wireRows_any (HBY.out.below HB0.out) (by omega) HR.out).mono ?_
 rintro e w1 ⟨vr, rfl, hbs, hb1⟩
 obtain ⟨pr, nr, cr, rfl⟩ := hbs.sl
 have hnr := hbs.len.1
 have HRS := hide hbs
 have HB1 := hide hb1
 have hrw := (hb1.block w.heap.size (by have := HS0.out; omega)).trans HR0.out
 have HRW := hide hrw
 have z0 : w1.cell? ⟨w.heap.size, 0, none⟩ = some (.int .i64 0) := by rw [cell_of_row w1 _ 0 _ _ (0, 0) hrw]; rfl
 have z1 : w1.cell? ⟨w.heap.size, 1, none⟩ = some (.int .i64 0) := by rw [cell_of_row w1 _ 1 _ _ (0, 0) hrw]; rfl
 have z2 : w1.cell? ⟨w.heap.size, 2, none⟩ = some (.slice none 0 0) := by rw [cell_of_row w1 _ 2 _ _ (0, 0) hrw]; rfl
 have z3 : w1.cell? ⟨w.heap.size, 3, none⟩ = some (.slice none 0 0) := by rw [cell_of_row w1 _ 3 _ _ (0, 0) hrw]; rfl
 have u0 := frozen_of_row w1 w.heap.size 0 _ _ hrw
 have u1 := frozen_of_row w1 w.heap.size 1 _ _ hrw
 have u2 := frozen_of_row w1 w.heap.size 2 _ _ hrw
 have u3 := frozen_of_row w1 w.heap.size 3 _ _ hrw
 have HBW := hide (HB0.out.trans (hb1.mono HB0.out.size))
 cases R with
 | nil =>
  have hn0 : nr = 0 := hnr
  subst hn0
  have HST := hide (stateL_nil (name := name) (b := b) (by rw [HR.out]))
  clear hbs hb1 hrw hnr
  go_wp2_with fail
  have HRWE := HRW
  obtain ⟨hq1, hq2⟩ := set4 (.int .i64 0) (.int .i64 0) (.slice none 0 0) (.slice none 0 0) HRWE.out
  obtain ⟨F, hF⟩ : ∃ F, ((((w1.setCell ⟨w.heap.size, 0, none⟩ (.int .i64 0)).setCell ⟨w.heap.size, 1, none⟩ (.int .i64 0)).setCell ⟨w.heap.size, 2, none⟩ (.slice none 0 0)).setCell ⟨w.heap.size, 3, none⟩ (.slice none 0 0)) = F := ⟨_, rfl⟩
  rw [hF] at hq1 hq2
  have v0 : F.cell? ⟨w.heap.size, 0, none⟩ = some (.int .i64 0) := by rw [cell_of_row F _ 0 _ _ (0, 0) hq1]; rfl
  have v1 : F.cell? ⟨w.heap.size, 1, none⟩ = some (.int .i64 0) := by rw [cell_of_row F _ 1 _ _ (0, 0) hq1]; rfl
  have v2 : F.cell? ⟨w.heap.size, 2, none⟩ = some (.slice none 0 0) := by rw [cell_of_row F _ 2 _ _ (0, 0) hq1]; rfl
  have v3 : F.cell? ⟨w.heap.size, 3, none⟩ = some (.slice none 0 0) := by rw [cell_of_row F _ 3 _ _ (0, 0) hq1]; rfl
  have HOWN : Hid (SnO w.heap.size F (.agg #[.int .i64 0, .int .i64 0, .slice none 0 0, .slice none 0 0]) sn0) := hide (⟨_, _, rfl, OwnN.nil _ _, Own.nil _ _, by unfold fits; decide, by unfold fits; decide⟩)
  have HBF := hide (Chg.to_below HBW.out hq2 (fun k e => by omega))
  rw [hF]
  clear hF hq1 hq2
  refine bodyPost_ret (v := .tuple #[.agg #[.int .i64 0, .int .i64 0, .slice none 0 0, .slice none 0 0], .bool false]) (by simp [results, Tryz.results89, go_sem, v0, v1, v2, v3]) rfl ?_
  exact ⟨_, _, _, rfl, HOWN.out, by rw [HST.out]; rfl, HBF.out⟩
 | cons h ps =>
  obtain ⟨q, hcut, htl⟩ := bss_tail hbs
  obtain ⟨n1, hn1⟩ : ∃ n1, nr - 1 = n1 := ⟨_, rfl⟩
  obtain ⟨c1, hc1⟩ : ∃ c1, cr - 1 = c1 := ⟨_, rfl⟩
  rw [hn1, hc1] at hcut htl
  obtain ⟨gr, or_, p0, n0, c0, u0', rfl, hu0', hcell, hby0⟩ := hbs.cellAt (k := 0) (by rw [hnr]; simp)
  obtain rfl : h = u0' := by simpa using hu0'
  clear hu0'
  have hlens := rows_lens b.length b
  rw [HR.out] at hlens
  have hl1 : h.length + Lib.lens ps ≤ b.length := by simpa [Lib.lens] using hlens.1
  have hl2 : ps.length + 1 ≤ b.length := by simpa using hlens.2
  have hnr' : nr = ps.length + 1 := hnr
  have e1 : ((nr : Int) == 0) = false := by simp; omega
  have hcap : nr ≤ cr := hbs.len.2.2
  have hpos : 0 < nr := by omega
  have hposI : (0 : Int) < (nr : Int) := by omega
  obtain ⟨s, hs⟩ : ∃ s, snapOf 7 h ps = s := ⟨_, rfl⟩
  have HSO : Hid (∀ W, Below w1.heap.size w1 W → Calls Tryz.prog 113 #[.slice p0 n0 c0, .slice q n1 c1] W fun e w' => ∃ v, e = .returned v ∧ SnO W.heap.size w' v s ∧ Below W.heap.size W w') := hide (fun W hW => by
   have := snapOf_any (w := W) (hby0.below hW) (htl.below hW) (by omega) (by omega) (by omega)
   rw [hs] at this
   exact this)
  have hcell0 : w1.cell? ⟨gr, or_, none⟩ = some (.slice p0 n0 c0) := hcell
  have HD1 := hide (show Below w1.heap.size w1 w1.drew from below_drewN (Below.refl _ _) 1)
  have HD2 := hide (show Below w1.heap.size w1 (w1.alloc (.cells #[.int .i64 0, .int .i64 0, .slice none 0 0, .slice none 0 0] 86)).drew from below_drewN (balloc (Below.refl _ _) _) 1)
  have HDC1 := hide (show w1.drew.cell? ⟨gr, or_, none⟩ = some (.slice p0 n0 c0) from hcell0)
  have HDC2 := hide ((HD2.out.cell (lt_of_cell hcell0)).trans hcell0)
  have HDC3 := hide (fun (X : World) (o : Obj) (hx : X.cell? ⟨gr, or_, none⟩ = some (.slice p0 n0 c0)) => ((balloc (Below.refl X.heap.size X) o).cell (lt_of_cell hx)).trans hx)
  have HS1 := hide (show w.heap.size < w1.heap.size from (Array.getElem?_eq_some_iff.1 hrw).1)
  have HBYP := hide (And.intro hl1 hl2)
  have HSS := hide hs
  have HGN : Hid (gr ≠ w1.heap.size) := hide (Nat.ne_of_lt (lt_of_cell hcell0))
  clear hbs hb1 hrw hnr hnr' htl hby0 hlens hl1 hl2 hs hcell z0 z1 z2 z3 u0 u1 u2 u3 hn1 hc1
  go_wp2_with fail
  refine wp_region_held_drew (S := fun W => W.cell? ⟨gr, or_, none⟩ = some (.slice p0 n0 c0)) (by kernel_rfl) ?_ (fun hHeld => ?_)
  ·(try dsimp only)
   exact HDC1.out
  refine tkL 0 rfl ?_
  refine tkL 1 rfl ?_
  refine tkL 2 rfl ?_
  refine tkL 3 rfl ?_
  refine tkL 4 rfl ?_
  refine wpAnyH_ready (rs := [5, 7]) (by kernel_rfl) (by simp) ?_
  refine acL rfl (fun K hK => ?_) ?_
  ·go_simp
   refine (HSO.out _ (by first | exact HD1.out | exact HD2.out)).mono ?_
   rintro e w3 ⟨sv, rfl, hso, hb3⟩
   obtain ⟨vo, da, rfl, hn3, hd3, hf3⟩ := hso
   obtain ⟨p3, n3, c3, rfl⟩ := hn3.ns.sl
   obtain ⟨p4, n4, c4, rfl⟩ := hd3.by_.sl
   have hcell3 := (hb3.cell (lt_of_cell (by first | exact HDC2.out | exact HDC1.out))).trans (by first | exact HDC2.out | exact HDC1.out)
   have H3 := hide (And.intro hn3 (And.intro hd3 (And.intro hf3 hb3)))
   clear hn3 hd3 hf3 hb3
   first
    | refine hK.out _ _ ?_ (fun hHeld => ?_)
    | (go_wp2_with fail; refine hK.out _ _ ?_ (fun hHeld => ?_))
   ·(try dsimp only)
    first | exact hcell3 | (simp; exact hcell3)
   clear hK K
   try simp only [Act.put, qA, qB, qC]
   refine tkL 6 rfl ?_
   refine wpAnyH_ready (rs := [7]) (by kernel_rfl) (by simp) ?_
   refine acL rfl (fun K hK => ?_) ?_
   ·go_simp
    first
     | refine hK.out _ _ ?_ (fun hHeld => ?_)
     | (go_wp2_with fail; refine hK.out _ _ ?_ (fun hHeld => ?_))
    ·(try dsimp only)
     first | exact HDC2.out | exact HDC3.out _ _ hcell3 | exact hcell3
    clear hK K
    try simp only [Act.put, qA, qB, qC]
    refine wpAnyH_ready (rs := [8]) (by kernel_rfl) (by simp) ?_
    refine acL rfl (fun K hK => ?_) ?_
    ·go_simp
     first
      | refine hK.out _ _ ?_ (fun hHeld => ?_)
      | (go_wp2_with fail; refine hK.out _ _ ?_ (fun hHeld => ?_))
     ·(try dsimp only)
      first | exact ((set4 (.int .i64 s.ix) (.int .i64 s.tm) (.slice p3 n3 c3) (.slice p4 n4 c4) HZR.out).2.cell hcell3 (fun e => HGN.out e)) | exact HDC3.out _ _ hcell3 | assumption | go_keep
     clear hK K
     try simp only [Act.put, qA, qB, qC]
     refine wpAnyH_done (by kernel_rfl) ?_ _
     obtain ⟨W7, hW7⟩ : ∃ W7, w3.alloc (.cells #[.int .i64 s.ix, .int .i64 s.tm, .slice p3 n3 c3, .slice p4 n4 c4] 86) = W7 := ⟨_, rfl⟩
     obtain ⟨Bq, hBq⟩ : ∃ Bq, w3.heap.size = Bq := ⟨_, rfl⟩
     have hb37 : Below w3.heap.size w3 W7 := by rw [← hW7]; exact balloc (Below.refl _ _) _
     have hq : W7.heap[Bq]? = some (.cells #[.int .i64 s.ix, .int .i64 s.tm, .slice p3 n3 c3, .slice p4 n4 c4] 86 (0, 0)) := by rw [← hW7, ← hBq]; exact Array.getElem?_push_size
     have hb13 := H3.out.2.2.2
     have hs13 := hb13.size
     have hb3w : Below w.heap.size w w3 := HBW.out.trans (((below_drewN (Below.refl w1.heap.size w1) 1).trans hb13).mono HBW.out.size)
     have HB7 := hide (hb3w.trans (hb37.mono hb3w.size))
     have HRW7 := hide ((hb37.block w.heap.size (by have := HS1.out; have : w1.heap.size ≤ w3.heap.size := hs13; omega)).trans ((((below_drewN (Below.refl w1.heap.size w1) 1).trans hb13).block w.heap.size HS1.out).trans HRW.out))
     have hbq : w.heap.size < Bq := by have := HS1.out; have : w1.heap.size ≤ w3.heap.size := hs13; omega
     have HO7 : Hid (OwnN (w.heap.size + 1) W7 (.slice p3 n3 c3) s.vo ∧ Own (w.heap.size + 1) W7 (.slice p4 n4 c4) s.da ∧ Go.Proofs.YtgbdjcekpdfpjaaGreatDoor.fits s.ix ∧ Go.Proofs.YtgbdjcekpdfpjaaGreatDoor.fits s.tm) := hide ⟨(H3.out.1.below hb37).mono HS1.out, (H3.out.2.1.below hb37).mono HS1.out, H3.out.2.2.1⟩
     rw [hW7, hBq]
     clear hW7 hBq hb37 hb13 hs13 hb3w
     have HQ := hide hq
     have HBQ := hide hbq
     have h70 : W7.cell? ⟨Bq, 0, none⟩ = some (.int .i64 s.ix) := by rw [cell_of_row W7 Bq 0 _ _ (0, 0) hq]; rfl
     have h71 : W7.cell? ⟨Bq, 1, none⟩ = some (.int .i64 s.tm) := by rw [cell_of_row W7 Bq 1 _ _ (0, 0) hq]; rfl
     have h72 : W7.cell? ⟨Bq, 2, none⟩ = some (.slice p3 n3 c3) := by rw [cell_of_row W7 Bq 2 _ _ (0, 0) hq]; rfl
     have h73 : W7.cell? ⟨Bq, 3, none⟩ = some (.slice p4 n4 c4) := by rw [cell_of_row W7 Bq 3 _ _ (0, 0) hq]; rfl
     have hsnv : SnV W7 (.agg #[.int .i64 s.ix, .int .i64 s.tm, .slice p3 n3 c3, .slice p4 n4 c4]) s := ⟨_, _, rfl, HO7.out.1.ns, HO7.out.2.1.by_, HO7.out.2.2.1, HO7.out.2.2.2⟩
     have HCK := hide (check_any' hsnv)
     clear hsnv hq hbq
     obtain ⟨ck, hck⟩ : ∃ ck, s.chk = ck := ⟨_, rfl⟩
     unfold ChP at HCK
     rw [hck] at HCK
     have HCH := hide hck
     clear hck
     by_cases hc0 : ck = 0
     ·subst hc0
      obtain ⟨hx1, hx2, hx3⟩ := chk_ok HCH.out
      by_cases hnm : s.name = name
      ·have hne : ((str s.name).toList == (str name).toList) = true := by rw [str_beq]; exact decide_eq_true hnm
       have hfv : fileV s.ix = .string (str s.name) := by unfold fileV Sn.name; rfl
       go_wp2_with (first
        | (go_at_call 31; refine HCK.out.mono ?_; rintro e w8 ⟨rfl, hb8⟩; have HB8 := hide hb8; have h80 := (hb8.cell (lt_of_cell h70)).trans h70; have HT8 := hide (HT.out.below (HB7.out.trans (hb8.mono HB7.out.size)) HT.out.lt); clear hb8)
        | (go_at_call 63; refine (file_any h80 (by omega) (by omega) HT8.out).mono ?_; rw [hfv]; rintro e w9 ⟨rfl, hb9⟩; have HB9 := hide hb9; clear hb9)
        | (go_at_call 96; refine records_any.mono ?_; rintro e w10 ⟨rfl, rfl⟩))
       obtain ⟨W10, hW10⟩ : ∃ W10, w9.alloc (.cells #[.pointer (some ⟨Bq, 0, none⟩)] 150) = W10 := ⟨_, rfl⟩
       have hb910 : Below w9.heap.size w9 W10 := by rw [← hW10]; exact balloc (Below.refl _ _) _
       have hc10 : W10.cell? ⟨w9.heap.size, 0, none⟩ = some (.pointer (some ⟨Bq, 0, none⟩)) := by rw [← hW10]; simp
       have hs10 : W10.heap.size = w9.heap.size + 1 := by rw [← hW10]; simp
       have hb79 : Below W7.heap.size W7 w9 := HB8.out.trans (HB9.out.mono HB8.out.size)
       have hb710 : Below W7.heap.size W7 W10 := hb79.trans (hb910.mono hb79.size)
       have hst : StAt W7 Bq (.slice p3 n3 c3) (.slice p4 n4 c4) s := ⟨h70, h71, h72, h73, HO7.out.1.ns, HO7.out.2.1.by_, HO7.out.2.2.1, HO7.out.2.2.2⟩
       have hst10 := hst.below hb710
       have hsrc : Src W10.heap.size (fun _ => False) W10 w9.heap.size Bq (.slice p3 n3 c3) (.slice p4 n4 c4) s :=
        ⟨hc10, hst10, ⟨fun h => h, by omega⟩, ⟨fun h => h, lt_of_cell hst10.c0⟩, .inr fun k hk => ⟨fun h => h, ((HO7.out.1.below hb710).lt k hk).2⟩, hst10.by_.ltM.imp id fun h k hk => ⟨fun h => h, h k hk⟩⟩
       have HCOL := hide (collect_any hsrc (by omega) (by omega))
       have HST10 := hide hst10
       have HB10 := hide (HB7.out.trans (hb710.mono HB7.out.size))
       have HR10 := hide ((hb710.block w.heap.size (Array.getElem?_eq_some_iff.1 HRW7.out).1).trans HRW7.out)
       have HO10 : Hid (SnO (w.heap.size + 1) W10 (.agg #[.int .i64 s.ix, .int .i64 s.tm, .slice p3 n3 c3, .slice p4 n4 c4]) s) := hide ⟨_, _, rfl, HO7.out.1.below hb710, HO7.out.2.1.below hb710, HO7.out.2.2⟩
       rw [hW10]
       clear hW10 hb910 hc10 hs10 hb79 hb710 hst hst10 hsrc h70 h71 h72 h73 h80
       refine HCOL.out.mono ?_
       rintro e w11 ⟨va, rfl, hbs11, hb11⟩
       obtain ⟨pa, na, ca, rfl⟩ := hbs11.sl
       have hst11 := HST10.out.below hb11
       have HJ := hide hbs11
       have g0 := hst11.c0
       have g1 := hst11.c1
       have g2 := hst11.c2
       have g3 := hst11.c3
       have HLF : Hid (Lib.lens s.recs ≤ 140737488355328 ∧ s.recs.length ≤ 140737488355328) := hide (recs_lens hst11 (by omega) (by omega))
       have HB11 := hide (HB10.out.trans (hb11.mono HB10.out.size))
       have HR11 := hide ((hb11.block w.heap.size (Array.getElem?_eq_some_iff.1 HR10.out).1).trans HR10.out)
       have HO11 := hide (HO10.out.below hb11)
       have HBYB := hide (HBY.out.below HB11.out)
       clear hbs11 hst11 hb11
       go_wp2_with fail
       refine wp_region_held_drew (S := fun W => W.cell? ⟨Bq, 0, none⟩ = some (.int .i64 s.ix) ∧ W.cell? ⟨Bq, 1, none⟩ = some (.int .i64 s.tm) ∧ W.cell? ⟨Bq, 2, none⟩ = some (.slice p3 n3 c3) ∧ W.cell? ⟨Bq, 3, none⟩ = some (.slice p4 n4 c4)) (by kernel_rfl) ?_ (fun hHeld => ?_)
       ·(try dsimp only)
        exact ⟨g0, g1, g2, g3⟩
       refine tkL 0 rfl ?_
       refine tkL 1 rfl ?_
       refine tkL 3 rfl ?_
       refine wpAnyH_ready (rs := [2]) (by kernel_rfl) (by simp) ?_
       refine acL rfl (fun K hK => ?_) ?_
       ·go_simp
        refine (join_any (w := w11.drew) (HJ.out.below (below_drewN (Below.refl _ _) 1)) HLF.out.1 HLF.out.2).mono ?_
        rintro e w12 ⟨vj, rfl, hoj, hb12'⟩
        have hb12 : Below w11.heap.size w11 w12 := (below_drewN (Below.refl w11.heap.size w11) 1).trans hb12'
        obtain ⟨pj, nj, cj, rfl⟩ := hoj.by_.sl
        have HEQ := hide (equal_any hoj.by_ (HBYB.out.below hb12))
        have hr12 := (hb12.block w.heap.size (Array.getElem?_eq_some_iff.1 HR11.out).1).trans HR11.out
        have z0 : w12.cell? ⟨w.heap.size, 0, none⟩ = some (.int .i64 0) := by rw [cell_of_row w12 _ 0 _ _ (0, 0) hr12]; rfl
        have u0 := frozen_of_row w12 w.heap.size 0 _ _ hr12
        have z1 : w12.cell? ⟨w.heap.size, 1, none⟩ = some (.int .i64 0) := by rw [cell_of_row w12 _ 1 _ _ (0, 0) hr12]; rfl
        have u1 := frozen_of_row w12 w.heap.size 1 _ _ hr12
        have z2 : w12.cell? ⟨w.heap.size, 2, none⟩ = some (.slice none 0 0) := by rw [cell_of_row w12 _ 2 _ _ (0, 0) hr12]; rfl
        have u2 := frozen_of_row w12 w.heap.size 2 _ _ hr12
        have z3 : w12.cell? ⟨w.heap.size, 3, none⟩ = some (.slice none 0 0) := by rw [cell_of_row w12 _ 3 _ _ (0, 0) hr12]; rfl
        have u3 := frozen_of_row w12 w.heap.size 3 _ _ hr12
        have HRWE := hide hr12
        have HS12 := hide (And.intro ((hb12.cell (lt_of_cell g0)).trans g0) (And.intro ((hb12.cell (lt_of_cell g1)).trans g1) (And.intro ((hb12.cell (lt_of_cell g2)).trans g2) ((hb12.cell (lt_of_cell g3)).trans g3))))
        have HBF12 := hide (HB11.out.trans (hb12.mono HB11.out.size))
        have HO12 := hide (HO11.out.below hb12)
        clear hoj hb12 hb12' hr12
        first
         | refine hK.out _ _ ?_ (fun hHeld => ?_)
         | (go_wp2_with fail; refine hK.out _ _ ?_ (fun hHeld => ?_))
        ·(try dsimp only)
         exact HS12.out
        clear hK K
        try simp only [Act.put, qA, qB, qC]
        refine wpAnyH_ready (rs := [4]) (by kernel_rfl) (by simp) ?_
        refine acL rfl (fun K hK => ?_) ?_
        ·go_simp
         refine HEQ.out.mono ?_
         rintro e w13 ⟨rfl, rfl⟩
         first
          | refine hK.out _ _ ?_ (fun hHeld => ?_)
          | (go_wp2_with fail; refine hK.out _ _ ?_ (fun hHeld => ?_))
         ·(try dsimp only)
          exact HS12.out
         clear hK K
         try simp only [Act.put, qA, qB, qC]
         refine wpAnyH_ready (rs := [5]) (by kernel_rfl) (by simp) ?_
         refine acL rfl (fun K hK => ?_) ?_
         ·go_simp
          first
           | refine hK.out _ _ ?_ (fun hHeld => ?_)
           | (go_wp2_with fail; refine hK.out _ _ ?_ (fun hHeld => ?_))
          ·(try dsimp only)
           exact ⟨(set4 (.int .i64 s.ix) (.int .i64 s.tm) (.slice p3 n3 c3) (.slice p4 n4 c4) HRWE.out).2.cell HS12.out.1 (fun e => by have := HBQ.out; dsimp only at e; omega), (set4 (.int .i64 s.ix) (.int .i64 s.tm) (.slice p3 n3 c3) (.slice p4 n4 c4) HRWE.out).2.cell HS12.out.2.1 (fun e => by have := HBQ.out; dsimp only at e; omega), (set4 (.int .i64 s.ix) (.int .i64 s.tm) (.slice p3 n3 c3) (.slice p4 n4 c4) HRWE.out).2.cell HS12.out.2.2.1 (fun e => by have := HBQ.out; dsimp only at e; omega), (set4 (.int .i64 s.ix) (.int .i64 s.tm) (.slice p3 n3 c3) (.slice p4 n4 c4) HRWE.out).2.cell HS12.out.2.2.2 (fun e => by have := HBQ.out; dsimp only at e; omega)⟩
          clear hK K
          try simp only [Act.put, qA, qB, qC]
          refine tkL 6 rfl ?_
          refine wpAnyH_done (by kernel_rfl) ?_ _
          (try dsimp only)
          have HST8 := hide (stateL_cons (name := name) (b := b) (h := h) (ps := ps) (by rw [HR.out]) (s.recs.flatten == b) (by rw [HSS.out]; simp only [beq_iff_eq]; exact ⟨fun e => ⟨HCH.out, hnm, e⟩, fun e => e.2.2⟩))
          go_wp2_with fail
          obtain ⟨hq1, hq2⟩ := set4 (.int .i64 s.ix) (.int .i64 s.tm) (.slice p3 n3 c3) (.slice p4 n4 c4) HRWE.out
          obtain ⟨F, hF⟩ : ∃ F, ((((w12.setCell ⟨w.heap.size, 0, none⟩ (.int .i64 s.ix)).setCell ⟨w.heap.size, 1, none⟩ (.int .i64 s.tm)).setCell ⟨w.heap.size, 2, none⟩ (.slice p3 n3 c3)).setCell ⟨w.heap.size, 3, none⟩ (.slice p4 n4 c4)) = F := ⟨_, rfl⟩
          rw [hF] at hq1 hq2
          have v0 : F.cell? ⟨w.heap.size, 0, none⟩ = some (.int .i64 s.ix) := by rw [cell_of_row F _ 0 _ _ (0, 0) hq1]; rfl
          have v1 : F.cell? ⟨w.heap.size, 1, none⟩ = some (.int .i64 s.tm) := by rw [cell_of_row F _ 1 _ _ (0, 0) hq1]; rfl
          have v2 : F.cell? ⟨w.heap.size, 2, none⟩ = some (.slice p3 n3 c3) := by rw [cell_of_row F _ 2 _ _ (0, 0) hq1]; rfl
          have v3 : F.cell? ⟨w.heap.size, 3, none⟩ = some (.slice p4 n4 c4) := by rw [cell_of_row F _ 3 _ _ (0, 0) hq1]; rfl
          have HOWN : Hid (SnO w.heap.size F (.agg #[.int .i64 s.ix, .int .i64 s.tm, .slice p3 n3 c3, .slice p4 n4 c4]) s) := hide ((HO12.out.chg hq2 (fun k e => by omega)).mono (by omega))
          have HBF := hide (Chg.to_below HBF12.out hq2 (fun k e => by omega))
          rw [hF]
          clear hF hq1 hq2
          refine bodyPost_ret (v := .tuple #[.agg #[.int .i64 s.ix, .int .i64 s.tm, .slice p3 n3 c3, .slice p4 n4 c4], .bool (s.recs.flatten == b)]) (by simp [results, Tryz.results89, go_sem, v0, v1, v2, v3]) rfl ?_
          exact ⟨_, _, _, rfl, HOWN.out, by rw [HST8.out, HSS.out], HBF.out⟩
         exact AllReadyH.nil
        exact AllReadyH.nil
       exact AllReadyH.nil
      ·have HSX : Hid (stateL name b = none) := hide (by
        have := stateL_cons (name := name) (b := b) (h := h) (ps := ps) (by rw [HR.out]) false ⟨fun e => by simp at e, fun e => by rw [HSS.out] at e; exact absurd e.2.1 hnm⟩
        exact this)
       have hfv : fileV s.ix = .string (str s.name) := by unfold fileV Sn.name; rfl
       have hne : ((str s.name).toList == (str name).toList) = false := by rw [str_beq]; exact decide_eq_false hnm
       go_wp2_with (first
        | (go_at_call 31; refine HCK.out.mono ?_; rintro e w8 ⟨rfl, hb8⟩; have HB8 := hide hb8; have h80 := (hb8.cell (lt_of_cell h70)).trans h70; have HT8 := hide (HT.out.below (HB7.out.trans (hb8.mono HB7.out.size)) HT.out.lt); clear hb8)
        | (go_at_call 63; refine (file_any h80 (by omega) (by omega) HT8.out).mono ?_; rw [hfv]; rintro e w9 ⟨rfl, hb9⟩; have HB9 := hide hb9; have hr9 := (hb9.block w.heap.size (by have := HB8.out.size; have := (Array.getElem?_eq_some_iff.1 HRW7.out).1; omega)).trans ((HB8.out.block w.heap.size (Array.getElem?_eq_some_iff.1 HRW7.out).1).trans HRW7.out); have z0 : w9.cell? ⟨w.heap.size, 0, none⟩ = some (.int .i64 0) := (by rw [cell_of_row w9 _ 0 _ _ (0, 0) hr9]; rfl); have u0 := frozen_of_row w9 w.heap.size 0 _ _ hr9; have z1 : w9.cell? ⟨w.heap.size, 1, none⟩ = some (.int .i64 0) := (by rw [cell_of_row w9 _ 1 _ _ (0, 0) hr9]; rfl); have u1 := frozen_of_row w9 w.heap.size 1 _ _ hr9; have z2 : w9.cell? ⟨w.heap.size, 2, none⟩ = some (.slice none 0 0) := (by rw [cell_of_row w9 _ 2 _ _ (0, 0) hr9]; rfl); have u2 := frozen_of_row w9 w.heap.size 2 _ _ hr9; have z3 : w9.cell? ⟨w.heap.size, 3, none⟩ = some (.slice none 0 0) := (by rw [cell_of_row w9 _ 3 _ _ (0, 0) hr9]; rfl); have u3 := frozen_of_row w9 w.heap.size 3 _ _ hr9; have HRWE := hide hr9; clear hr9 hb9))
       obtain ⟨hq1, hq2⟩ := set4 (.int .i64 0) (.int .i64 0) (.slice none 0 0) (.slice none 0 0) HRWE.out
       obtain ⟨F, hF⟩ : ∃ F, ((((w9.setCell ⟨w.heap.size, 0, none⟩ (.int .i64 0)).setCell ⟨w.heap.size, 1, none⟩ (.int .i64 0)).setCell ⟨w.heap.size, 2, none⟩ (.slice none 0 0)).setCell ⟨w.heap.size, 3, none⟩ (.slice none 0 0)) = F := ⟨_, rfl⟩
       rw [hF] at hq1 hq2
       have v0 : F.cell? ⟨w.heap.size, 0, none⟩ = some (.int .i64 0) := by rw [cell_of_row F _ 0 _ _ (0, 0) hq1]; rfl
       have v1 : F.cell? ⟨w.heap.size, 1, none⟩ = some (.int .i64 0) := by rw [cell_of_row F _ 1 _ _ (0, 0) hq1]; rfl
       have v2 : F.cell? ⟨w.heap.size, 2, none⟩ = some (.slice none 0 0) := by rw [cell_of_row F _ 2 _ _ (0, 0) hq1]; rfl
       have v3 : F.cell? ⟨w.heap.size, 3, none⟩ = some (.slice none 0 0) := by rw [cell_of_row F _ 3 _ _ (0, 0) hq1]; rfl
       have HOWN : Hid (SnO w.heap.size F (.agg #[.int .i64 0, .int .i64 0, .slice none 0 0, .slice none 0 0]) sn0) := hide (⟨_, _, rfl, OwnN.nil _ _, Own.nil _ _, by unfold fits; decide, by unfold fits; decide⟩)
       have HBF := hide (Chg.to_below (HB7.out.trans ((HB8.out.trans (HB9.out.mono HB8.out.size)).mono HB7.out.size)) hq2 (fun k e => by omega))
       rw [hF]
       clear hF hq1 hq2
       refine bodyPost_ret (v := .tuple #[.agg #[.int .i64 0, .int .i64 0, .slice none 0 0, .slice none 0 0], .bool false]) (by simp [results, Tryz.results89, go_sem, v0, v1, v2, v3]) rfl ?_
       exact ⟨_, _, _, rfl, HOWN.out, by rw [HSX.out]; rfl, HBF.out⟩
     ·have HSX : Hid (stateL name b = none) := hide (by
       have := stateL_cons (name := name) (b := b) (h := h) (ps := ps) (by rw [HR.out]) false ⟨fun e => by simp at e, fun e => by rw [HSS.out, HCH.out] at e; exact absurd e.1 hc0⟩
       exact this)
      have ek : ((ck : Int) != 0) = true := by simp; omega
      go_wp2_with (go_at_call 31; refine HCK.out.mono ?_; rintro e w8 ⟨rfl, hb8⟩; have HB8 := hide hb8; have hr8 := (hb8.block w.heap.size (Array.getElem?_eq_some_iff.1 HRW7.out).1).trans HRW7.out; have z0 : w8.cell? ⟨w.heap.size, 0, none⟩ = some (.int .i64 0) := (by rw [cell_of_row w8 _ 0 _ _ (0, 0) hr8]; rfl); have z1 : w8.cell? ⟨w.heap.size, 1, none⟩ = some (.int .i64 0) := (by rw [cell_of_row w8 _ 1 _ _ (0, 0) hr8]; rfl); have z2 : w8.cell? ⟨w.heap.size, 2, none⟩ = some (.slice none 0 0) := (by rw [cell_of_row w8 _ 2 _ _ (0, 0) hr8]; rfl); have z3 : w8.cell? ⟨w.heap.size, 3, none⟩ = some (.slice none 0 0) := (by rw [cell_of_row w8 _ 3 _ _ (0, 0) hr8]; rfl); have u0 := frozen_of_row w8 w.heap.size 0 _ _ hr8; have u1 := frozen_of_row w8 w.heap.size 1 _ _ hr8; have u2 := frozen_of_row w8 w.heap.size 2 _ _ hr8; have u3 := frozen_of_row w8 w.heap.size 3 _ _ hr8; have HRWE := hide hr8; clear hr8 hb8)
      obtain ⟨hq1, hq2⟩ := set4 (.int .i64 0) (.int .i64 0) (.slice none 0 0) (.slice none 0 0) HRWE.out
      obtain ⟨F, hF⟩ : ∃ F, ((((w8.setCell ⟨w.heap.size, 0, none⟩ (.int .i64 0)).setCell ⟨w.heap.size, 1, none⟩ (.int .i64 0)).setCell ⟨w.heap.size, 2, none⟩ (.slice none 0 0)).setCell ⟨w.heap.size, 3, none⟩ (.slice none 0 0)) = F := ⟨_, rfl⟩
      rw [hF] at hq1 hq2
      have v0 : F.cell? ⟨w.heap.size, 0, none⟩ = some (.int .i64 0) := by rw [cell_of_row F _ 0 _ _ (0, 0) hq1]; rfl
      have v1 : F.cell? ⟨w.heap.size, 1, none⟩ = some (.int .i64 0) := by rw [cell_of_row F _ 1 _ _ (0, 0) hq1]; rfl
      have v2 : F.cell? ⟨w.heap.size, 2, none⟩ = some (.slice none 0 0) := by rw [cell_of_row F _ 2 _ _ (0, 0) hq1]; rfl
      have v3 : F.cell? ⟨w.heap.size, 3, none⟩ = some (.slice none 0 0) := by rw [cell_of_row F _ 3 _ _ (0, 0) hq1]; rfl
      have HOWN : Hid (SnO w.heap.size F (.agg #[.int .i64 0, .int .i64 0, .slice none 0 0, .slice none 0 0]) sn0) := hide (⟨_, _, rfl, OwnN.nil _ _, Own.nil _ _, by unfold fits; decide, by unfold fits; decide⟩)
      have HBF := hide (Chg.to_below (HB7.out.trans (HB8.out.mono HB7.out.size)) hq2 (fun k e => by omega))
      rw [hF]
      clear hF hq1 hq2
      refine bodyPost_ret (v := .tuple #[.agg #[.int .i64 0, .int .i64 0, .slice none 0 0, .slice none 0 0], .bool false]) (by simp [results, Tryz.results89, go_sem, v0, v1, v2, v3]) rfl ?_
      exact ⟨_, _, _, rfl, HOWN.out, by rw [HSX.out]; rfl, HBF.out⟩
    exact AllReadyH.nil
   exact AllReadyH.nil
  refine acL rfl (fun K hK => ?_) ?_
  ·go_simp
   first
    | refine hK.out _ _ ?_ (fun hHeld => ?_)
    | (go_wp2_with fail; refine hK.out _ _ ?_ (fun hHeld => ?_))
   ·(try dsimp only)
    first | exact HDC2.out | exact HDC3.out _ _ hcell3 | exact hcell3
   clear hK K
   try simp only [Act.put, qA, qB, qC]
   refine wpAnyH_ready (rs := [5]) (by kernel_rfl) (by simp) ?_
   refine acL rfl (fun K hK => ?_) ?_
   ·go_simp
    refine (HSO.out _ (by first | exact HD1.out | exact HD2.out)).mono ?_
    rintro e w3 ⟨sv, rfl, hso, hb3⟩
    obtain ⟨vo, da, rfl, hn3, hd3, hf3⟩ := hso
    obtain ⟨p3, n3, c3, rfl⟩ := hn3.ns.sl
    obtain ⟨p4, n4, c4, rfl⟩ := hd3.by_.sl
    have hcell3 := (hb3.cell (lt_of_cell (by first | exact HDC2.out | exact HDC1.out))).trans (by first | exact HDC2.out | exact HDC1.out)
    have H3 := hide (And.intro hn3 (And.intro hd3 (And.intro hf3 hb3)))
    have hzr : w3.heap[w1.heap.size]? = some (.cells #[.int .i64 0, .int .i64 0, .slice none 0 0, .slice none 0 0] 86 (0, 0)) := (hb3.block _ (by simp)).trans (by exact Array.getElem?_push_size)
    have y0 : w3.cell? ⟨w1.heap.size, 0, none⟩ = some (.int .i64 0) := by rw [cell_of_row w3 _ 0 _ _ (0, 0) hzr]; rfl
    have q0 := frozen_of_row w3 w1.heap.size 0 _ _ hzr
    have y1 : w3.cell? ⟨w1.heap.size, 1, none⟩ = some (.int .i64 0) := by rw [cell_of_row w3 _ 1 _ _ (0, 0) hzr]; rfl
    have q1 := frozen_of_row w3 w1.heap.size 1 _ _ hzr
    have y2 : w3.cell? ⟨w1.heap.size, 2, none⟩ = some (.slice none 0 0) := by rw [cell_of_row w3 _ 2 _ _ (0, 0) hzr]; rfl
    have q2 := frozen_of_row w3 w1.heap.size 2 _ _ hzr
    have y3 : w3.cell? ⟨w1.heap.size, 3, none⟩ = some (.slice none 0 0) := by rw [cell_of_row w3 _ 3 _ _ (0, 0) hzr]; rfl
    have q3 := frozen_of_row w3 w1.heap.size 3 _ _ hzr
    have HZR := hide hzr
    clear hzr
    clear hn3 hd3 hf3 hb3
    first
     | refine hK.out _ _ ?_ (fun hHeld => ?_)
     | (go_wp2_with fail; refine hK.out _ _ ?_ (fun hHeld => ?_))
    ·(try dsimp only)
     first | exact hcell3 | (simp; exact hcell3)
    clear hK K
    try simp only [Act.put, qA, qB, qC]
    refine tkL 6 rfl ?_
    refine wpAnyH_ready (rs := [8]) (by kernel_rfl) (by simp) ?_
    refine acL rfl (fun K hK => ?_) ?_
    ·go_simp
     first
      | refine hK.out _ _ ?_ (fun hHeld => ?_)
      | (go_wp2_with fail; refine hK.out _ _ ?_ (fun hHeld => ?_))
     ·(try dsimp only)
      first | exact ((set4 (.int .i64 s.ix) (.int .i64 s.tm) (.slice p3 n3 c3) (.slice p4 n4 c4) HZR.out).2.cell hcell3 (fun e => HGN.out e)) | exact HDC3.out _ _ hcell3 | assumption | go_keep
     clear hK K
     try simp only [Act.put, qA, qB, qC]
     refine wpAnyH_done (by kernel_rfl) ?_ _
     have hb13 := H3.out.2.2.2
     have hs13 := hb13.size
     have hb13' : Below w1.heap.size w1 w3 := (below_drewN (balloc (Below.refl w1.heap.size w1) _) 1).trans (hb13.mono (by simp))
     have hb3w : Below w.heap.size w w3 := HBW.out.trans (hb13'.mono HBW.out.size)
     obtain ⟨hq, hcq⟩ := set4 (.int .i64 s.ix) (.int .i64 s.tm) (.slice p3 n3 c3) (.slice p4 n4 c4) HZR.out
     obtain ⟨W7, hW7⟩ : ∃ W7, ((((w3.setCell ⟨w1.heap.size, 0, none⟩ (.int .i64 s.ix)).setCell ⟨w1.heap.size, 1, none⟩ (.int .i64 s.tm)).setCell ⟨w1.heap.size, 2, none⟩ (.slice p3 n3 c3)).setCell ⟨w1.heap.size, 3, none⟩ (.slice p4 n4 c4)) = W7 := ⟨_, rfl⟩
     rw [hW7] at hq hcq
     have HB7 := hide (Chg.to_below hb3w hcq (fun k e => by have := HS1.out; omega))
     have HRW7 := hide ((hcq.block w.heap.size (by have := HS1.out; have := hb13'.size; omega) (fun e => by have := HS1.out; omega)).trans ((hb13'.block w.heap.size HS1.out).trans HRW.out))
     have hsz1 : w1.heap.size + 1 ≤ (w1.alloc (.cells #[.int .i64 0, .int .i64 0, .slice none 0 0, .slice none 0 0] 86)).drew.heap.size := by simp
     have HO7 : Hid (OwnN (w.heap.size + 1) W7 (.slice p3 n3 c3) s.vo ∧ Own (w.heap.size + 1) W7 (.slice p4 n4 c4) s.da ∧ Go.Proofs.YtgbdjcekpdfpjaaGreatDoor.fits s.ix ∧ Go.Proofs.YtgbdjcekpdfpjaaGreatDoor.fits s.tm) := hide (by
      have h1 := H3.out.1.mono hsz1
      have h2 := H3.out.2.1.mono hsz1
      have hl := HS1.out
      refine ⟨OwnN.mono (B := w1.heap.size + 1) ⟨row_chg h1.1 hcq (fun k hk e => by have := (h1.lt k hk).1; omega), h1.2⟩ (by omega), ?_, H3.out.2.2.1⟩
      rcases h2 with e | ⟨gj, cap, e1, hB, g1, g2, g3, g4, g5⟩
      ·exact .inl e
      ·refine .inr ⟨gj, cap, e1, by omega, g1, g2, fun i x hx => hcq.cell (g3 i x hx) (fun e => by dsimp only at e; omega), fun i hi => ?_, fun i hi => ?_⟩
       ·obtain ⟨u, hu⟩ := Option.isSome_iff_exists.1 (g4 i hi)
        rw [hcq.cell hu (fun e => by dsimp only at e; omega)]; rfl
       ·obtain ⟨u, hu⟩ := Option.isSome_iff_exists.1 (g4 i hi)
        have e : W7.frozen? ⟨gj, i, none⟩ = w3.frozen? ⟨gj, i, none⟩ := by
         unfold World.frozen?
         rw [hcq.block gj (lt_of_cell hu) (fun e => by omega)]
        rw [e]; exact g5 i hi)
     rw [hW7]
     obtain ⟨Bq, hBq⟩ : ∃ Bq, w1.heap.size = Bq := ⟨_, rfl⟩
     have hbq : w.heap.size < Bq := by have := HS1.out; omega
     rw [hBq] at hq ⊢
     clear hW7 hBq hb13 hs13 hb3w hb13' hcq hsz1
     have HQ := hide hq
     have HBQ := hide hbq
     have h70 : W7.cell? ⟨Bq, 0, none⟩ = some (.int .i64 s.ix) := by rw [cell_of_row W7 Bq 0 _ _ (0, 0) hq]; rfl
     have h71 : W7.cell? ⟨Bq, 1, none⟩ = some (.int .i64 s.tm) := by rw [cell_of_row W7 Bq 1 _ _ (0, 0) hq]; rfl
     have h72 : W7.cell? ⟨Bq, 2, none⟩ = some (.slice p3 n3 c3) := by rw [cell_of_row W7 Bq 2 _ _ (0, 0) hq]; rfl
     have h73 : W7.cell? ⟨Bq, 3, none⟩ = some (.slice p4 n4 c4) := by rw [cell_of_row W7 Bq 3 _ _ (0, 0) hq]; rfl
     have hsnv : SnV W7 (.agg #[.int .i64 s.ix, .int .i64 s.tm, .slice p3 n3 c3, .slice p4 n4 c4]) s := ⟨_, _, rfl, HO7.out.1.ns, HO7.out.2.1.by_, HO7.out.2.2.1, HO7.out.2.2.2⟩
     have HCK := hide (check_any' hsnv)
     clear hsnv hq hbq
     obtain ⟨ck, hck⟩ : ∃ ck, s.chk = ck := ⟨_, rfl⟩
     unfold ChP at HCK
     rw [hck] at HCK
     have HCH := hide hck
     clear hck
     by_cases hc0 : ck = 0
     ·subst hc0
      obtain ⟨hx1, hx2, hx3⟩ := chk_ok HCH.out
      by_cases hnm : s.name = name
      ·have hne : ((str s.name).toList == (str name).toList) = true := by rw [str_beq]; exact decide_eq_true hnm
       have hfv : fileV s.ix = .string (str s.name) := by unfold fileV Sn.name; rfl
       go_wp2_with (first
        | (go_at_call 31; refine HCK.out.mono ?_; rintro e w8 ⟨rfl, hb8⟩; have HB8 := hide hb8; have h80 := (hb8.cell (lt_of_cell h70)).trans h70; have HT8 := hide (HT.out.below (HB7.out.trans (hb8.mono HB7.out.size)) HT.out.lt); clear hb8)
        | (go_at_call 63; refine (file_any h80 (by omega) (by omega) HT8.out).mono ?_; rw [hfv]; rintro e w9 ⟨rfl, hb9⟩; have HB9 := hide hb9; clear hb9)
        | (go_at_call 96; refine records_any.mono ?_; rintro e w10 ⟨rfl, rfl⟩))
       obtain ⟨W10, hW10⟩ : ∃ W10, w9.alloc (.cells #[.pointer (some ⟨Bq, 0, none⟩)] 150) = W10 := ⟨_, rfl⟩
       have hb910 : Below w9.heap.size w9 W10 := by rw [← hW10]; exact balloc (Below.refl _ _) _
       have hc10 : W10.cell? ⟨w9.heap.size, 0, none⟩ = some (.pointer (some ⟨Bq, 0, none⟩)) := by rw [← hW10]; simp
       have hs10 : W10.heap.size = w9.heap.size + 1 := by rw [← hW10]; simp
       have hb79 : Below W7.heap.size W7 w9 := HB8.out.trans (HB9.out.mono HB8.out.size)
       have hb710 : Below W7.heap.size W7 W10 := hb79.trans (hb910.mono hb79.size)
       have hst : StAt W7 Bq (.slice p3 n3 c3) (.slice p4 n4 c4) s := ⟨h70, h71, h72, h73, HO7.out.1.ns, HO7.out.2.1.by_, HO7.out.2.2.1, HO7.out.2.2.2⟩
       have hst10 := hst.below hb710
       have hsrc : Src W10.heap.size (fun _ => False) W10 w9.heap.size Bq (.slice p3 n3 c3) (.slice p4 n4 c4) s :=
        ⟨hc10, hst10, ⟨fun h => h, by omega⟩, ⟨fun h => h, lt_of_cell hst10.c0⟩, .inr fun k hk => ⟨fun h => h, ((HO7.out.1.below hb710).lt k hk).2⟩, hst10.by_.ltM.imp id fun h k hk => ⟨fun h => h, h k hk⟩⟩
       have HCOL := hide (collect_any hsrc (by omega) (by omega))
       have HST10 := hide hst10
       have HB10 := hide (HB7.out.trans (hb710.mono HB7.out.size))
       have HR10 := hide ((hb710.block w.heap.size (Array.getElem?_eq_some_iff.1 HRW7.out).1).trans HRW7.out)
       have HO10 : Hid (SnO (w.heap.size + 1) W10 (.agg #[.int .i64 s.ix, .int .i64 s.tm, .slice p3 n3 c3, .slice p4 n4 c4]) s) := hide ⟨_, _, rfl, HO7.out.1.below hb710, HO7.out.2.1.below hb710, HO7.out.2.2⟩
       rw [hW10]
       clear hW10 hb910 hc10 hs10 hb79 hb710 hst hst10 hsrc h70 h71 h72 h73 h80
       refine HCOL.out.mono ?_
       rintro e w11 ⟨va, rfl, hbs11, hb11⟩
       obtain ⟨pa, na, ca, rfl⟩ := hbs11.sl
       have hst11 := HST10.out.below hb11
       have HJ := hide hbs11
       have g0 := hst11.c0
       have g1 := hst11.c1
       have g2 := hst11.c2
       have g3 := hst11.c3
       have HLF : Hid (Lib.lens s.recs ≤ 140737488355328 ∧ s.recs.length ≤ 140737488355328) := hide (recs_lens hst11 (by omega) (by omega))
       have HB11 := hide (HB10.out.trans (hb11.mono HB10.out.size))
       have HR11 := hide ((hb11.block w.heap.size (Array.getElem?_eq_some_iff.1 HR10.out).1).trans HR10.out)
       have HO11 := hide (HO10.out.below hb11)
       have HBYB := hide (HBY.out.below HB11.out)
       clear hbs11 hst11 hb11
       go_wp2_with fail
       refine wp_region_held_drew (S := fun W => W.cell? ⟨Bq, 0, none⟩ = some (.int .i64 s.ix) ∧ W.cell? ⟨Bq, 1, none⟩ = some (.int .i64 s.tm) ∧ W.cell? ⟨Bq, 2, none⟩ = some (.slice p3 n3 c3) ∧ W.cell? ⟨Bq, 3, none⟩ = some (.slice p4 n4 c4)) (by kernel_rfl) ?_ (fun hHeld => ?_)
       ·(try dsimp only)
        exact ⟨g0, g1, g2, g3⟩
       refine tkL 0 rfl ?_
       refine tkL 1 rfl ?_
       refine tkL 3 rfl ?_
       refine wpAnyH_ready (rs := [2]) (by kernel_rfl) (by simp) ?_
       refine acL rfl (fun K hK => ?_) ?_
       ·go_simp
        refine (join_any (w := w11.drew) (HJ.out.below (below_drewN (Below.refl _ _) 1)) HLF.out.1 HLF.out.2).mono ?_
        rintro e w12 ⟨vj, rfl, hoj, hb12'⟩
        have hb12 : Below w11.heap.size w11 w12 := (below_drewN (Below.refl w11.heap.size w11) 1).trans hb12'
        obtain ⟨pj, nj, cj, rfl⟩ := hoj.by_.sl
        have HEQ := hide (equal_any hoj.by_ (HBYB.out.below hb12))
        have hr12 := (hb12.block w.heap.size (Array.getElem?_eq_some_iff.1 HR11.out).1).trans HR11.out
        have z0 : w12.cell? ⟨w.heap.size, 0, none⟩ = some (.int .i64 0) := by rw [cell_of_row w12 _ 0 _ _ (0, 0) hr12]; rfl
        have u0 := frozen_of_row w12 w.heap.size 0 _ _ hr12
        have z1 : w12.cell? ⟨w.heap.size, 1, none⟩ = some (.int .i64 0) := by rw [cell_of_row w12 _ 1 _ _ (0, 0) hr12]; rfl
        have u1 := frozen_of_row w12 w.heap.size 1 _ _ hr12
        have z2 : w12.cell? ⟨w.heap.size, 2, none⟩ = some (.slice none 0 0) := by rw [cell_of_row w12 _ 2 _ _ (0, 0) hr12]; rfl
        have u2 := frozen_of_row w12 w.heap.size 2 _ _ hr12
        have z3 : w12.cell? ⟨w.heap.size, 3, none⟩ = some (.slice none 0 0) := by rw [cell_of_row w12 _ 3 _ _ (0, 0) hr12]; rfl
        have u3 := frozen_of_row w12 w.heap.size 3 _ _ hr12
        have HRWE := hide hr12
        have HS12 := hide (And.intro ((hb12.cell (lt_of_cell g0)).trans g0) (And.intro ((hb12.cell (lt_of_cell g1)).trans g1) (And.intro ((hb12.cell (lt_of_cell g2)).trans g2) ((hb12.cell (lt_of_cell g3)).trans g3))))
        have HBF12 := hide (HB11.out.trans (hb12.mono HB11.out.size))
        have HO12 := hide (HO11.out.below hb12)
        clear hoj hb12 hb12' hr12
        first
         | refine hK.out _ _ ?_ (fun hHeld => ?_)
         | (go_wp2_with fail; refine hK.out _ _ ?_ (fun hHeld => ?_))
        ·(try dsimp only)
         exact HS12.out
        clear hK K
        try simp only [Act.put, qA, qB, qC]
        refine wpAnyH_ready (rs := [4]) (by kernel_rfl) (by simp) ?_
        refine acL rfl (fun K hK => ?_) ?_
        ·go_simp
         refine HEQ.out.mono ?_
         rintro e w13 ⟨rfl, rfl⟩
         first
          | refine hK.out _ _ ?_ (fun hHeld => ?_)
          | (go_wp2_with fail; refine hK.out _ _ ?_ (fun hHeld => ?_))
         ·(try dsimp only)
          exact HS12.out
         clear hK K
         try simp only [Act.put, qA, qB, qC]
         refine wpAnyH_ready (rs := [5]) (by kernel_rfl) (by simp) ?_
         refine acL rfl (fun K hK => ?_) ?_
         ·go_simp
          first
           | refine hK.out _ _ ?_ (fun hHeld => ?_)
           | (go_wp2_with fail; refine hK.out _ _ ?_ (fun hHeld => ?_))
          ·(try dsimp only)
           exact ⟨(set4 (.int .i64 s.ix) (.int .i64 s.tm) (.slice p3 n3 c3) (.slice p4 n4 c4) HRWE.out).2.cell HS12.out.1 (fun e => by have := HBQ.out; dsimp only at e; omega), (set4 (.int .i64 s.ix) (.int .i64 s.tm) (.slice p3 n3 c3) (.slice p4 n4 c4) HRWE.out).2.cell HS12.out.2.1 (fun e => by have := HBQ.out; dsimp only at e; omega), (set4 (.int .i64 s.ix) (.int .i64 s.tm) (.slice p3 n3 c3) (.slice p4 n4 c4) HRWE.out).2.cell HS12.out.2.2.1 (fun e => by have := HBQ.out; dsimp only at e; omega), (set4 (.int .i64 s.ix) (.int .i64 s.tm) (.slice p3 n3 c3) (.slice p4 n4 c4) HRWE.out).2.cell HS12.out.2.2.2 (fun e => by have := HBQ.out; dsimp only at e; omega)⟩
          clear hK K
          try simp only [Act.put, qA, qB, qC]
          refine tkL 6 rfl ?_
          refine wpAnyH_done (by kernel_rfl) ?_ _
          (try dsimp only)
          have HST8 := hide (stateL_cons (name := name) (b := b) (h := h) (ps := ps) (by rw [HR.out]) (s.recs.flatten == b) (by rw [HSS.out]; simp only [beq_iff_eq]; exact ⟨fun e => ⟨HCH.out, hnm, e⟩, fun e => e.2.2⟩))
          go_wp2_with fail
          obtain ⟨hq1, hq2⟩ := set4 (.int .i64 s.ix) (.int .i64 s.tm) (.slice p3 n3 c3) (.slice p4 n4 c4) HRWE.out
          obtain ⟨F, hF⟩ : ∃ F, ((((w12.setCell ⟨w.heap.size, 0, none⟩ (.int .i64 s.ix)).setCell ⟨w.heap.size, 1, none⟩ (.int .i64 s.tm)).setCell ⟨w.heap.size, 2, none⟩ (.slice p3 n3 c3)).setCell ⟨w.heap.size, 3, none⟩ (.slice p4 n4 c4)) = F := ⟨_, rfl⟩
          rw [hF] at hq1 hq2
          have v0 : F.cell? ⟨w.heap.size, 0, none⟩ = some (.int .i64 s.ix) := by rw [cell_of_row F _ 0 _ _ (0, 0) hq1]; rfl
          have v1 : F.cell? ⟨w.heap.size, 1, none⟩ = some (.int .i64 s.tm) := by rw [cell_of_row F _ 1 _ _ (0, 0) hq1]; rfl
          have v2 : F.cell? ⟨w.heap.size, 2, none⟩ = some (.slice p3 n3 c3) := by rw [cell_of_row F _ 2 _ _ (0, 0) hq1]; rfl
          have v3 : F.cell? ⟨w.heap.size, 3, none⟩ = some (.slice p4 n4 c4) := by rw [cell_of_row F _ 3 _ _ (0, 0) hq1]; rfl
          have HOWN : Hid (SnO w.heap.size F (.agg #[.int .i64 s.ix, .int .i64 s.tm, .slice p3 n3 c3, .slice p4 n4 c4]) s) := hide ((HO12.out.chg hq2 (fun k e => by omega)).mono (by omega))
          have HBF := hide (Chg.to_below HBF12.out hq2 (fun k e => by omega))
          rw [hF]
          clear hF hq1 hq2
          refine bodyPost_ret (v := .tuple #[.agg #[.int .i64 s.ix, .int .i64 s.tm, .slice p3 n3 c3, .slice p4 n4 c4], .bool (s.recs.flatten == b)]) (by simp [results, Tryz.results89, go_sem, v0, v1, v2, v3]) rfl ?_
          exact ⟨_, _, _, rfl, HOWN.out, by rw [HST8.out, HSS.out], HBF.out⟩
         exact AllReadyH.nil
        exact AllReadyH.nil
       exact AllReadyH.nil
      ·have HSX : Hid (stateL name b = none) := hide (by
        have := stateL_cons (name := name) (b := b) (h := h) (ps := ps) (by rw [HR.out]) false ⟨fun e => by simp at e, fun e => by rw [HSS.out] at e; exact absurd e.2.1 hnm⟩
        exact this)
       have hfv : fileV s.ix = .string (str s.name) := by unfold fileV Sn.name; rfl
       have hne : ((str s.name).toList == (str name).toList) = false := by rw [str_beq]; exact decide_eq_false hnm
       go_wp2_with (first
        | (go_at_call 31; refine HCK.out.mono ?_; rintro e w8 ⟨rfl, hb8⟩; have HB8 := hide hb8; have h80 := (hb8.cell (lt_of_cell h70)).trans h70; have HT8 := hide (HT.out.below (HB7.out.trans (hb8.mono HB7.out.size)) HT.out.lt); clear hb8)
        | (go_at_call 63; refine (file_any h80 (by omega) (by omega) HT8.out).mono ?_; rw [hfv]; rintro e w9 ⟨rfl, hb9⟩; have HB9 := hide hb9; have hr9 := (hb9.block w.heap.size (by have := HB8.out.size; have := (Array.getElem?_eq_some_iff.1 HRW7.out).1; omega)).trans ((HB8.out.block w.heap.size (Array.getElem?_eq_some_iff.1 HRW7.out).1).trans HRW7.out); have z0 : w9.cell? ⟨w.heap.size, 0, none⟩ = some (.int .i64 0) := (by rw [cell_of_row w9 _ 0 _ _ (0, 0) hr9]; rfl); have u0 := frozen_of_row w9 w.heap.size 0 _ _ hr9; have z1 : w9.cell? ⟨w.heap.size, 1, none⟩ = some (.int .i64 0) := (by rw [cell_of_row w9 _ 1 _ _ (0, 0) hr9]; rfl); have u1 := frozen_of_row w9 w.heap.size 1 _ _ hr9; have z2 : w9.cell? ⟨w.heap.size, 2, none⟩ = some (.slice none 0 0) := (by rw [cell_of_row w9 _ 2 _ _ (0, 0) hr9]; rfl); have u2 := frozen_of_row w9 w.heap.size 2 _ _ hr9; have z3 : w9.cell? ⟨w.heap.size, 3, none⟩ = some (.slice none 0 0) := (by rw [cell_of_row w9 _ 3 _ _ (0, 0) hr9]; rfl); have u3 := frozen_of_row w9 w.heap.size 3 _ _ hr9; have HRWE := hide hr9; clear hr9 hb9))
       obtain ⟨hq1, hq2⟩ := set4 (.int .i64 0) (.int .i64 0) (.slice none 0 0) (.slice none 0 0) HRWE.out
       obtain ⟨F, hF⟩ : ∃ F, ((((w9.setCell ⟨w.heap.size, 0, none⟩ (.int .i64 0)).setCell ⟨w.heap.size, 1, none⟩ (.int .i64 0)).setCell ⟨w.heap.size, 2, none⟩ (.slice none 0 0)).setCell ⟨w.heap.size, 3, none⟩ (.slice none 0 0)) = F := ⟨_, rfl⟩
       rw [hF] at hq1 hq2
       have v0 : F.cell? ⟨w.heap.size, 0, none⟩ = some (.int .i64 0) := by rw [cell_of_row F _ 0 _ _ (0, 0) hq1]; rfl
       have v1 : F.cell? ⟨w.heap.size, 1, none⟩ = some (.int .i64 0) := by rw [cell_of_row F _ 1 _ _ (0, 0) hq1]; rfl
       have v2 : F.cell? ⟨w.heap.size, 2, none⟩ = some (.slice none 0 0) := by rw [cell_of_row F _ 2 _ _ (0, 0) hq1]; rfl
       have v3 : F.cell? ⟨w.heap.size, 3, none⟩ = some (.slice none 0 0) := by rw [cell_of_row F _ 3 _ _ (0, 0) hq1]; rfl
       have HOWN : Hid (SnO w.heap.size F (.agg #[.int .i64 0, .int .i64 0, .slice none 0 0, .slice none 0 0]) sn0) := hide (⟨_, _, rfl, OwnN.nil _ _, Own.nil _ _, by unfold fits; decide, by unfold fits; decide⟩)
       have HBF := hide (Chg.to_below (HB7.out.trans ((HB8.out.trans (HB9.out.mono HB8.out.size)).mono HB7.out.size)) hq2 (fun k e => by omega))
       rw [hF]
       clear hF hq1 hq2
       refine bodyPost_ret (v := .tuple #[.agg #[.int .i64 0, .int .i64 0, .slice none 0 0, .slice none 0 0], .bool false]) (by simp [results, Tryz.results89, go_sem, v0, v1, v2, v3]) rfl ?_
       exact ⟨_, _, _, rfl, HOWN.out, by rw [HSX.out]; rfl, HBF.out⟩
     ·have HSX : Hid (stateL name b = none) := hide (by
       have := stateL_cons (name := name) (b := b) (h := h) (ps := ps) (by rw [HR.out]) false ⟨fun e => by simp at e, fun e => by rw [HSS.out, HCH.out] at e; exact absurd e.1 hc0⟩
       exact this)
      have ek : ((ck : Int) != 0) = true := by simp; omega
      go_wp2_with (go_at_call 31; refine HCK.out.mono ?_; rintro e w8 ⟨rfl, hb8⟩; have HB8 := hide hb8; have hr8 := (hb8.block w.heap.size (Array.getElem?_eq_some_iff.1 HRW7.out).1).trans HRW7.out; have z0 : w8.cell? ⟨w.heap.size, 0, none⟩ = some (.int .i64 0) := (by rw [cell_of_row w8 _ 0 _ _ (0, 0) hr8]; rfl); have z1 : w8.cell? ⟨w.heap.size, 1, none⟩ = some (.int .i64 0) := (by rw [cell_of_row w8 _ 1 _ _ (0, 0) hr8]; rfl); have z2 : w8.cell? ⟨w.heap.size, 2, none⟩ = some (.slice none 0 0) := (by rw [cell_of_row w8 _ 2 _ _ (0, 0) hr8]; rfl); have z3 : w8.cell? ⟨w.heap.size, 3, none⟩ = some (.slice none 0 0) := (by rw [cell_of_row w8 _ 3 _ _ (0, 0) hr8]; rfl); have u0 := frozen_of_row w8 w.heap.size 0 _ _ hr8; have u1 := frozen_of_row w8 w.heap.size 1 _ _ hr8; have u2 := frozen_of_row w8 w.heap.size 2 _ _ hr8; have u3 := frozen_of_row w8 w.heap.size 3 _ _ hr8; have HRWE := hide hr8; clear hr8 hb8)
      obtain ⟨hq1, hq2⟩ := set4 (.int .i64 0) (.int .i64 0) (.slice none 0 0) (.slice none 0 0) HRWE.out
      obtain ⟨F, hF⟩ : ∃ F, ((((w8.setCell ⟨w.heap.size, 0, none⟩ (.int .i64 0)).setCell ⟨w.heap.size, 1, none⟩ (.int .i64 0)).setCell ⟨w.heap.size, 2, none⟩ (.slice none 0 0)).setCell ⟨w.heap.size, 3, none⟩ (.slice none 0 0)) = F := ⟨_, rfl⟩
      rw [hF] at hq1 hq2
      have v0 : F.cell? ⟨w.heap.size, 0, none⟩ = some (.int .i64 0) := by rw [cell_of_row F _ 0 _ _ (0, 0) hq1]; rfl
      have v1 : F.cell? ⟨w.heap.size, 1, none⟩ = some (.int .i64 0) := by rw [cell_of_row F _ 1 _ _ (0, 0) hq1]; rfl
      have v2 : F.cell? ⟨w.heap.size, 2, none⟩ = some (.slice none 0 0) := by rw [cell_of_row F _ 2 _ _ (0, 0) hq1]; rfl
      have v3 : F.cell? ⟨w.heap.size, 3, none⟩ = some (.slice none 0 0) := by rw [cell_of_row F _ 3 _ _ (0, 0) hq1]; rfl
      have HOWN : Hid (SnO w.heap.size F (.agg #[.int .i64 0, .int .i64 0, .slice none 0 0, .slice none 0 0]) sn0) := hide (⟨_, _, rfl, OwnN.nil _ _, Own.nil _ _, by unfold fits; decide, by unfold fits; decide⟩)
      have HBF := hide (Chg.to_below (HB7.out.trans (HB8.out.mono HB7.out.size)) hq2 (fun k e => by omega))
      rw [hF]
      clear hF hq1 hq2
      refine bodyPost_ret (v := .tuple #[.agg #[.int .i64 0, .int .i64 0, .slice none 0 0, .slice none 0 0], .bool false]) (by simp [results, Tryz.results89, go_sem, v0, v1, v2, v3]) rfl ?_
      exact ⟨_, _, _, rfl, HOWN.out, by rw [HSX.out]; rfl, HBF.out⟩
    exact AllReadyH.nil
   exact AllReadyH.nil
  exact AllReadyH.nil
end Go.Proofs.YtgbdjcekpdfpjaaGreatDoor
