import Derived.Test.YtgbdjcekpdfpjaaGreatDoorDa
import Derived.Laws.EntriesVeiled
set_option linter.unusedVariables false
set_option linter.unusedSimpArgs false
namespace Go.Proofs.YtgbdjcekpdfpjaaGreatDoor
open Go.RowKit
def settleF (F : Fl) (ds : List Deed) (keep tear : Nat) : Fl :=
 if keep = 0 then F else match ds[keep - 1]? with
  | some d => d.run (runs F (ds.take (keep - 1))) (min tear d.size)
  | none => F
theorem elemA : Tryz.prog.elem 92 = 155 := by simp [Program.elem, Tryz.underlying92]
theorem underA' : Tryz.prog.underlying 92 = some (.slice (Tryz.prog.elem 92)) := by rw [elemA]; exact Tryz.underlying92
theorem run_cut_acts (W : World) (p : Option Addr) (n c k : Nat) (hk : k ≤ c) : (Instr.slice 92 (.slice p n c) none (some (.int .i64 (k : Int))) none).run Tryz.prog W = .ok (.slice p k c) W := by
 rw [run_slice_h W 92 _ _ _ underA' .i64 _ (by omega) (by omega), elemA, Tryz.sizeOf155]
 have e4 : ((k : Int)).toNat = k := by omega
 rcases p with _ | a
 ·simp [Result.andThen, sliced, e4]
 ·by_cases hc : c = 0
  ·simp [Result.andThen, sliced, e4, hc]
  ·simp [Result.andThen, sliced, e4, Addr.add]
theorem ActsIs.sl {w : World} {C : Nat → Prop} {a : Value} {ds : List Deed} {xs : List Value} (h : ActsIs w C a ds xs) : ∃ p c, a = .slice p ds.length c ∧ ds.length ≤ c ∧ (0 < ds.length → ∃ g, p = some ⟨g, 0, none⟩) := by
 rcases h.row.2 with ⟨rfl, h2⟩ | ⟨g, cap, cur, rfl, _, _, h3, _⟩
 ·exact ⟨none, 0, by rw [h2], by omega, fun h => by omega⟩
 ·exact ⟨_, cap, rfl, h3, fun _ => ⟨g, rfl⟩⟩
theorem ActsIs.at_ {w : World} {C : Nat → Prop} {p : Option Addr} {n c : Nat} {ds : List Deed} {xs : List Value} (h : ActsIs w C (.slice p n c) ds xs) {j : Nat} {d : Deed} (hj : ds[j]? = some d) :
  ∃ g f cs, p = some ⟨g, 0, none⟩ ∧ w.cell? ⟨g, j * 2, none⟩ = some (.func (.func f) #[] cs) ∧ w.cell? ⟨g, j * 2 + 1, none⟩ = some (.int .i64 (d.size : Nat)) ∧ DeedAt w C f cs d := by
 obtain ⟨f, cs, x0, x1, hd⟩ := h.each j d hj
 have hlt : j < ds.length := (List.getElem?_eq_some_iff.1 hj).1
 rcases h.row.2 with ⟨_, h2⟩ | ⟨g, cap, cur, e, _, hg, h3, _, h4, h5⟩
 ·omega
 ·injection e with e1 e2 e3
  have hx : ∀ i v, xs[i]? = some v → w.cell? ⟨g, i, none⟩ = some v := fun i v hv => by
   rw [cell_of_row w g i cur 155 (0, 0) hg]
   rw [← h5, List.getElem?_take] at hv
   split at hv
   ·simpa using hv
   ·cases hv
  exact ⟨g, f, cs, e1, hx _ _ x0, hx _ _ x1, hd⟩
theorem DeedAt.lit {w : World} {C : Nat → Prop} {f : Nat} {cs : Array Value} {d : Deed} (h : DeedAt w C f cs d) :
  (∃ i j l, f = 76 ∧ cs = #[.pointer (some ⟨i, 0, none⟩), .pointer (some ⟨j, 0, none⟩), .pointer (some ⟨l, 0, none⟩)]) ∨
  (∃ i j, f = 124 ∧ cs = #[.pointer (some ⟨i, 0, none⟩), .pointer (some ⟨j, 0, none⟩)]) ∨ (∃ i, f = 99 ∧ cs = #[.pointer (some ⟨i, 0, none⟩)]) := by
 cases h with
 | put => exact .inl ⟨_, _, _, rfl, rfl⟩
 | move => exact .inr (.inl ⟨_, _, rfl, rfl⟩)
 | drop => exact .inr (.inr ⟨_, rfl, rfl⟩)
set_option maxRecDepth 200000 in
set_option maxHeartbeats 8000000 in
theorem settle_any {w : World} {L C : Nat → Prop} {g bl bs : Nat} {F : Fl} {V : List UInt8 → Value} {D : DataW Value} {ds : List Deed} {xs : List Value} {a : Value} {room used : Int} {down : Bool} {fn kp tr : Int}
  (hh : Hd w g room used down (.map (some bl)) (.map (some bs)) a fn kp tr) (hL : FilesIs w L bl F V D) (hA : ActsIs w C a ds xs) (hCL : ∀ i, C i → ¬ L i) (hC : ∀ i, C i → i < w.heap.size) (hLs : ∀ i, L i → i < w.heap.size) (hgL : ¬ L g) (haL : ∀ i, a.ownBlock = some i → ¬ L i)
  (hfit : ∀ (i : Nat) (d : Deed), ds[i]? = some d → d.fits (runs F (ds.take i))) (hfew : ∀ i, i ≤ ds.length → (runs F (ds.take i)).length ≤ 4096) (hds : ds.length ≤ 1000000)
  {keep tear : Nat} (hk : keep ≤ ds.length) (htot : total (settleF F ds keep tear) ≤ 140737488355328) :
  Calls Tryz.prog 86 #[.pointer (some ⟨g, 0, none⟩), .int .i64 keep, .int .i64 tear] w fun e w' => e = .returned (.tuple #[]) ∧ ∃ V' D', Hd w' g room (total (settleF F ds keep tear) : Nat) down (.map (some bl)) (.map (some bs)) (.slice none 0 0) fn kp tr ∧ FilesIs w' (Ext L w w') bl (settleF F ds keep tear) V' D' ∧ Chg w w' (fun i => L i ∨ i = g) := by
 obtain ⟨p, c, rfl, hnc, hp⟩ := hA.sl
 obtain ⟨n, hn⟩ : ∃ n, n = ds.length := ⟨_, rfl⟩
 rw [← hn] at hnc hp hk hh hA haL
 have hcut := fun W => run_cut_acts W p n c keep (by omega)
 have h5 := hh.c5
 have h3 := hh.c3
 have hfr := hh.fr 5
 have hki : (keep : Int) ≤ 1000000 := by omega
 obtain ⟨R, hR⟩ : ∃ R, R = settleF F ds keep tear := ⟨_, rfl⟩
 rw [← hR] at htot ⊢
 have HH := hide hh
 have HL := hide hL
 have HA := hide hA
 have HFIT := hide hfit
 have HFEW := hide hfew
 have HDS := hide hds
 have HCL := hide hCL
 have HC := hide hC
 have HGL := hide hgL
 have HLS := hide hLs
 have HAL := hide haL
 have HR := hide hR
 have HN := hide hn
 have HT := hide htot
 clear hh hL hA hfit hfew hds hCL hC hLs hgL haL hR hn htot hnc hp
 go_enter Tryz.func86, Tryz.ntmps86
 go_wp2_with fail
 go_loopw [16] (fun i wr => ∃ j : Nat, j ≤ keep ∧ i = .int .i64 j ∧ ∃ V' D', FilesIs wr (Ext L w wr) bl (if j < keep then runs F (ds.take j) else R) V' D' ∧ Chg w wr L) (fun i _ => keep - (intOf i).toNat)
 case atStart =>
  refine ⟨0, by omega, rfl, V, D, ?_, Chg.refl _ _⟩
  have e : (if 0 < keep then runs F (ds.take 0) else R) = F := by
   by_cases h : 0 < keep
   ·rw [if_pos h]; rfl
   ·rw [if_neg h, HR.out]
    unfold settleF
    rw [if_pos (by omega)]
  rw [e]
  exact HL.out.mono fun i hi => .inl hi
 case round =>
  obtain ⟨j, hj, rfl, V', D', hF, hcg⟩ := hrel
  by_cases hjk : (j : Int) < (keep : Int)
  ·have hjk' : j < keep := by omega
   rw [if_pos hjk'] at hF
   obtain ⟨d, hd⟩ : ∃ d, ds[j]? = some d := ⟨ds[j]'(by have := HN.out; omega), List.getElem?_eq_getElem _⟩
   obtain ⟨ga, f, cs, hpa, x0, x1, hdat⟩ := HA.out.at_ hd
   subst hpa
   have y0 := hcg.cell x0 (HAL.out ga rfl)
   have y1 := hcg.cell x1 (HAL.out ga rfl)
   have hji : (j : Int) ≤ 1000000 := by omega
   obtain ⟨X, hX⟩ : ∃ X, X = wr.alloc (.cells #[.func (.func f) #[] cs, .int .i64 (d.size : Nat)] 155) := ⟨_, rfl⟩
   have hcX : Chg wr X (fun _ => False) := hX ▸ Chg.of_below (balloc (Below.refl _ _) _) _
   have x3 : X.cell? ⟨g, 3, none⟩ = some (.map (some bl)) := hcX.cell (hcg.cell h3 HGL.out) (fun h => h)
   have hsX : X.heap.size = wr.heap.size + 1 := by rw [hX]; exact size_alloc' _ _
   have xf : X.cell? ⟨wr.heap.size, 0, none⟩ = some (.func (.func f) #[] cs) := by rw [hX, World.cell?_alloc_new]; rfl
   have hgw := World.block_lt_of_cell? w _ h3
   have hcall : ∀ (T : Nat) (tv : Int), T ≤ d.size → tv = T → ∀ Vw, (∃ q, Vw = X.drewN q) → Calls Tryz.prog f (#[.map (some bl), .int .i64 tv] ++ cs) Vw fun e w' => (e = .returned (.tuple #[]) ∧ ∃ V2 D2, FilesIs w' (Ext L w w') bl (d.run (runs F (ds.take j)) T) V2 D2 ∧ Chg w w' L) ∧ w'.cell? ⟨wr.heap.size, 0, none⟩ = some (.func (.func f) #[] cs) ∧ w'.cell? ⟨g, 3, none⟩ = some (.map (some bl)) := by
    rintro T tv hT rfl Vw ⟨q, rfl⟩
    have hcl : ∀ i, C i → ¬ Ext L w wr i := fun i hi h => by
     rcases h with h | h
     ·exact HCL.out i hi h
     ·have := HC.out i hi
      omega
    have h1 : FilesIs (X.drewN q) (Ext L w wr) bl (runs F (ds.take j)) V' D' := files_drewN (hF.chg hcX fun _ _ h => h) q
    have h2 : DeedAt (X.drewN q) C f cs d := ((hdat.chg hcg HCL.out).chg hcX fun _ _ h => h).chg ((Chg.refl X fun _ => False).drewN q) fun _ _ h => h
    refine (deed_any h1 (by have := HFEW.out j (by have := HN.out; omega); omega) h2 hcl (HFIT.out j d hd) hT).mono ?_
    rintro e w' ⟨rfl, V2, D2, hF2, hC2⟩
    have hc2 : Chg X w' (Ext L w wr) := ⟨hC2.os, hC2.tape, hC2.output, hC2.size, hC2.block⟩
    have hsz := hc2.size
    have hszw := hcg.size
    refine ⟨⟨rfl, V2, D2, hF2.mono fun i hi => ?_, (hcg.trans hcX fun _ h => h.elim).trans hc2 fun k hk => ?_⟩, hc2.cell xf fun h => ?_, hc2.cell x3 fun h => ?_⟩
    ·rcases hi with (hi | hi) | hi
     ·exact .inl hi
     ·exact .inr ⟨hi.1, by omega⟩
     ·have h4 : X.heap.size ≤ i := hi.1
      exact .inr ⟨by omega, hi.2⟩
    ·rcases hk with hk | hk
     ·exact .inl hk
     ·exact .inr hk.1
    ·rcases h with h | h
     ·have := HLS.out _ h
      simp only at this
      omega
     ·have := h.2
      simp only at this
      omega
    ·rcases h with h | h
     ·exact HGL.out h
     ·have := h.1
      simp only at this hgw
      omega
   have HCALL := hide hcall
   have HF := hide hF
   have HCG := hide hcg
   have HCX := hide hcX
   have HD := hide hd
   have hlit := hdat.lit
   clear hcall hF hcg hcX hd hdat x0 x1 hsX hgw
   obtain ⟨T, tv, HT, HTV, HRES, hbr⟩ : ∃ (T : Nat) (tv : Int), Hid (T ≤ d.size) ∧ Hid (tv = T) ∧ Hid (d.run (runs F (ds.take j)) T = if j + 1 < keep then runs F (ds.take (j + 1)) else R) ∧ ((((j : Int) == (keep : Int) - 1) = false ∧ tv = 0) ∨ (((j : Int) == (keep : Int) - 1) = true ∧ tv = min (tear : Int) (d.size : Int))) := by
    by_cases hlast : j + 1 = keep
    ·refine ⟨min tear d.size, min (tear : Int) (d.size : Int), hide (by omega), hide (by omega), hide ?_, .inr ⟨ieq_true (by omega), rfl⟩⟩
     rw [if_neg (by omega), HR.out]
     unfold settleF
     have hd := HD.out
     rw [if_neg (by omega), ← hlast, show j + 1 - 1 = j by omega, hd]
    ·refine ⟨0, 0, hide (by omega), hide rfl, hide ?_, .inl ⟨ieq_false (by omega), rfl⟩⟩
     rw [if_pos (by omega), List.take_add_one, HD.out]
     exact (runs_snoc F (ds.take j) d).symm
   rcases hlit with ⟨i1, i2, i3, rfl, rfl⟩ | ⟨i1, i2, rfl, rfl⟩ | ⟨i1, rfl, rfl⟩
   all_goals
    rcases hbr with ⟨hbr, rfl⟩ | ⟨hbr, rfl⟩
    all_goals
     go_wp2_with fail
     rw [← hX]
     clear hcut h5 y0 y1 hX
     go_region_held3 (fun W => W.cell? ⟨wr.heap.size, 0, none⟩ = X.cell? ⟨wr.heap.size, 0, none⟩ ∧ W.cell? ⟨g, 3, none⟩ = some (.map (some bl))) (first | exact ⟨rfl, x3⟩ | exact ⟨hcc.1.trans xf.symm, hcc.2⟩) (first
      | (refine (HCALL.out _ _ HT.out HTV.out _ (by first | exact ⟨_, rfl⟩ | exact ⟨0, rfl⟩ | exact ⟨1, rfl⟩)).mono ?_; rintro e w1 ⟨⟨rfl, hpost⟩, hcc⟩))
     all_goals
      obtain ⟨V3, D3, hF3, hC3⟩ := hpost
      rw [HRES.out] at hF3
      have HF3 := hide hF3
      have HC3 := hide hC3
      clear hF3 hC3 hcc
      go_wp2
      go_roundw
      case rel => exact ⟨j + 1, by omega, by go_num, V3, D3, HF3.out, HC3.out⟩
      case measure => simp [intOf]; omega
  ·have hjk' : ¬ j < keep := by omega
   rw [if_neg hjk'] at hF
   have hh1 : Hd wr g room used down (.map (some bl)) (.map (some bs)) (.slice p n c) fn kp tr := HH.out.chg hcg HGL.out
   have z5 := hh1.fr 5
   have z3 := hh1.c3
   have y5 := hh1.c5
   have hgw := HH.out.lt
   have hset : Hd (wr.setCell ⟨g, 5, none⟩ (.slice none 0 0)) g room used down (.map (some bl)) (.map (some bs)) (.slice none 0 0) fn kp tr := Hd.set hh1 5 (.slice none 0 0)
   have hc1 : Chg wr (wr.setCell ⟨g, 5, none⟩ (.slice none 0 0)) (fun i => i = g) := Chg.of_grown (grown_set _ _ _ _) _ fun k hk => .inl (by injection hk with hk; exact hk.symm)
   have hF1 := hF.chg hc1 (fun i hi e => by
    subst e
    rcases hi with hi | hi
    ·exact HGL.out hi
    ·omega)
   obtain ⟨Y, hY⟩ : ∃ Y, Y = wr.setCell ⟨g, 5, none⟩ (.slice none 0 0) := ⟨_, rfl⟩
   rw [← hY] at hset hc1 hF1
   have HSET := hide hset
   have HF1 := hide hF1
   have HC := hide ((hcg.mono (S' := fun i => L i ∨ i = g) (fun _ h => .inl h)).trans hc1 (fun _ h => .inl (.inr h)))
   go_wp2_with fail
   rw [← hY]
   refine (size_any HF1.out HT.out).mono ?_
   rintro e w3 ⟨rfl, hb3⟩
   have hh3 : Hd w3 g room used down (.map (some bl)) (.map (some bs)) (.slice none 0 0) fn kp tr := HSET.out.chg (Chg.of_below hb3 (fun _ => False)) (fun h => h)
   have v1 := hh3.fr 1
   have q1 := hh3.c1
   have HH3 := hide hh3
   have HB3 := hide hb3
   clear hb3 hh3 hset hc1 hF1 hF hcg hh1
   go_wp2
   go_end0
   have hh3 := HH3.out
   have hset2 : Hd (w3.setCell ⟨g, 1, none⟩ (.int .i64 (total R : Nat))) g room (total R : Nat) down (.map (some bl)) (.map (some bs)) (.slice none 0 0) fn kp tr := Hd.set hh3 1 (.int .i64 (total R : Nat))
   have hcz : Chg Y (w3.setCell ⟨g, 1, none⟩ (.int .i64 (total R : Nat))) (fun i => i = g) := (Chg.of_below HB3.out (fun i => i = g)).trans (Chg.of_grown (grown_set _ _ _ _) (fun i => i = g) fun k hk => .inl (by injection hk with hk; exact hk.symm)) fun _ h => .inl h
   refine ⟨rfl, V', D', hset2, ?_, HC.out.trans hcz (fun _ h => .inl (.inr h))⟩
   have hsz : wr.heap.size ≤ Y.heap.size := by rw [hY]; exact (grown_set _ _ _ _).size
   have hsz2 := hcz.size
   refine (HF1.out.chg hcz fun i hi e => ?_).mono fun i hi => ?_
   ·subst e
    rcases hi with hi | hi
    ·exact HGL.out hi
    ·omega
   ·rcases hi with hi | hi
    ·exact .inl hi
    ·exact .inr ⟨hi.1, by omega⟩
end Go.Proofs.YtgbdjcekpdfpjaaGreatDoor
