/- Several texts made one. -/
import Derived.Test.YtgbdjcekpdfpjaaGreatDoorRb
import Derived.Test.YtgbdjcekpdfpjaaGreatDoorDc
set_option linter.unusedVariables false
set_option linter.unusedSimpArgs false
namespace Go.Proofs.YtgbdjcekpdfpjaaGreatDoor
set_option maxRecDepth 200000
set_option maxHeartbeats 40000000
open Go.RowKit
section
variable {w : World} {g : Nat} {st : Dk} {vl va : Value} {kp tr : Int}
theorem Rh.set (h : Rh w g st vl va kp tr) (i : Nat) (x : Value) : (w.setCell ⟨g, i, none⟩ x).heap[g]? = some (.cells ((rdC st vl va kp tr).setIfInBounds i x) 53 (0, 0)) := heap_setCell_same w g i _ 53 x h
end
theorem rchg_set (w : World) (g i : Nat) (x : Value) : Chg w (w.setCell ⟨g, i, none⟩ x) (fun k => k = g) := Chg.of_grown (grown_set _ _ _ _) _ fun k hk => .inl (by injection hk with hk; exact hk.symm)
theorem rhit_any {w : World} {g : Nat} {st : Dk} {vl va : Value} {kp tr : Int} (h : Rh w g st vl va kp tr) (hf : (st.fn : Int) ≤ 9223372036854775807) :
  Calls Tryz.prog 93 #[.pointer (some ⟨g, 0, none⟩)] w fun e w' => e = .returned (.bool (st.fn == 1)) ∧ Rh w' g { st with fn := st.fn - 1 } vl va kp tr ∧ Chg w w' (fun i => i = g) := by
 have c4 := h.c4
 have f4 := h.fr 4
 by_cases h0 : st.fn = 0
 ·have q : ((st.fn : Int) == 0) = true := beq_iff_eq.2 (by omega)
  have e1 : (st.fn == 1) = false := beq_eq_false_iff_ne.2 (by omega)
  have HP := hide (show Rh w g { st with fn := st.fn - 1 } vl va kp tr from by
   have e2 : st.fn - 1 = st.fn := by omega
   show Rh w g { st with fn := st.fn - 1 } vl va kp tr
   rw [e2]
   exact h)
  have E1 := hide e1
  clear h e1 h0
  go_enter Tryz.func93, Tryz.ntmps93
  go_wp2
  go_ret
  exact ⟨by rw [E1.out]; rfl, HP.out, Chg.refl _ _⟩
 ·have q : ((st.fn : Int) == 0) = false := beq_eq_false_iff_ne.2 (by omega)
  have hwr : IntKind.i64.wrap ((st.fn : Int) - 1) = (st.fn : Int) - 1 := by rw [IntKind.wrap_i64]; omega
  have hm2 : (((st.fn - 1 : Nat)) : Int) = (st.fn : Int) - 1 := by omega
  have hs := h.set 4 (.int .i64 ((st.fn : Int) - 1))
  have HP := hide (show Rh (w.setCell ⟨g, 4, none⟩ (.int .i64 ((st.fn : Int) - 1))) g { st with fn := st.fn - 1 } vl va kp tr from by
   unfold Rh
   rw [hs]
   unfold rdC
   simp only [List.setIfInBounds_toArray, List.set_cons_succ, List.set_cons_zero, hm2])
  have HC := hide (rchg_set w g 4 (.int .i64 ((st.fn : Int) - 1)))
  have E1 : Hid ((st.fn == 1) = ((st.fn : Int) - 1 == 0)) := hide (by rw [Bool.eq_iff_iff]; simp; omega)
  have hcn : (w.setCell ⟨g, 4, none⟩ (.int .i64 ((st.fn : Int) - 1))).cell? ⟨g, 4, none⟩ = some (.int .i64 ((st.fn : Int) - 1)) := World.cell?_setCell_same' _ _ _ (by rw [c4]; rfl)
  clear h hm2 hs h0
  go_enter Tryz.func93, Tryz.ntmps93
  go_wp2
  go_ret
  exact ⟨by rw [E1.out]; rfl, HP.out, HC.out⟩
theorem le_sum_of_mem' {l : List Nat} {x : Nat} (h : x ∈ l) : x ≤ l.sum := by
 induction l with
 | nil => simp at h
 | cons a r ih =>
  rw [List.sum_cons]
  rcases List.mem_cons.1 h with rfl | h
  ·omega
  ·have := ih h
   omega
def fallJ (st : Dk) (K t j : Nat) : Fl := if j = K then settleF st.last st.acts K t else runs st.last (st.acts.take j)
theorem fallJ_zero (st : Dk) (K t : Nat) : fallJ st K t 0 = st.last := by
 unfold fallJ settleF
 by_cases h : 0 = K
 ·rw [if_pos h, if_pos h.symm]
 ·rw [if_neg h]
  rfl
theorem fallJ_lt {st : Dk} {K t j : Nat} (h : j < K) : fallJ st K t j = runs st.last (st.acts.take j) := by
 unfold fallJ
 rw [if_neg (by omega)]
theorem fallJ_go {st : Dk} {K t j : Nat} {d : Deed} (hd : st.acts[j]? = some d) (h : j + 1 < K) : fallJ st K t (j + 1) = d.run (fallJ st K t j) 0 := by
 rw [fallJ_lt h, fallJ_lt (by omega), runs_step hd]
theorem fallJ_last {st : Dk} {K t j : Nat} {d : Deed} (hd : st.acts[j]? = some d) (h : j + 1 = K) : fallJ st K t (j + 1) = d.run (fallJ st K t j) (min t d.size) := by
 rw [fallJ_lt (j := j) (by omega)]
 unfold fallJ settleF
 rw [if_pos h, if_neg (by omega), show K - 1 = j by omega, hd]
theorem Deed.run_un {d : Deed} (F : Fl) {t : Nat} (h : t = 0 ∨ d.kd ≠ 0) : d.run F (min t d.size) = d.run F 0 := by
 rcases h with rfl | h
 ·rw [Nat.zero_min]
 ·cases d with
  | put k a b => exact absurd rfl h
  | trim k n => rfl
  | move k s => rfl
  | drop k => rfl
theorem Deed.run_torn (F : Fl) (k : List UInt8) (a : Nat) (b : List UInt8) (t : Nat) : (Deed.put k a b).run F (min t b.length) = (Deed.put k a (b.take (b.length - min t b.length))).run F 0 := by
 unfold Deed.run
 dsimp only
 rw [Nat.sub_zero, List.take_length]
theorem size_used {st : Dk} {j : Nat} {d : Deed} (h : st.acts[j]? = some d) : d.size ≤ st.used := by
 have h1 : d.size ≤ sizes st.acts := by
  unfold sizes
  exact le_sum_of_mem' (List.mem_map.2 ⟨d, List.mem_of_getElem? h, rfl⟩)
 unfold Dk.used
 omega
theorem RPost.alloc {w W : World} {Z R : Nat → Prop} {g : Nat} {st : Dk} (h : RPost w Z R g st W) (o : Obj) : RPost w Z R g st (W.alloc o) := by
 obtain ⟨R', h1, h2, h3⟩ := h
 exact ⟨R', h1.chg (chgA _ _) (fun _ h => h.elim) (fun i hi => .inl hi), h2.trans (chgA _ _) (fun _ h => h.elim), h3⟩
theorem rfall_any {w : World} {Z R : Nat → Prop} {g : Nat} {st : Dk} (h : RdIs w Z R g st) (ok : st.Ok) {keep tear : Int} (hk : keep ≤ 9223372036854775807) (hk' : -9223372036854775808 ≤ keep) (ht : tear ≤ 9223372036854775807) (ht' : -9223372036854775808 ≤ tear) :
  Calls Tryz.prog 55 #[.pointer (some ⟨g, 0, none⟩), .int .i64 keep, .int .i64 tear] w fun e w' => e = .returned (.tuple #[]) ∧ RPost w Z R g (st.fall keep tear) w' := by
 have h9 := h
 obtain ⟨vl, va, kp, tr, hh, hkt, hl, ha⟩ := h.parts
 obtain ⟨pl, nl, cl, rfl⟩ := hl.sl
 obtain ⟨pa, na, ca, rfl⟩ := ha.sl
 have hna := ha.len.1
 have hnm : (na : Int) ≤ 1000000 := by have := ok.many; omega
 have c2 := hh.c2
 have hZ : ∀ i, (Z i ∨ R i) → i < w.heap.size := fun i hi => hi.elim (h.zap i) (h.rap i)
 obtain ⟨K, hK⟩ : ∃ K, min (max keep 0).toNat st.acts.length = K := ⟨_, rfl⟩
 obtain ⟨t, htt⟩ : ∃ t, (max tear 0).toNat = t := ⟨_, rfl⟩
 have hKn : (K : Int) = min (max keep 0) (na : Int) := by omega
 have HKN := hide hKn
 have HTT := hide htt
 have HL := hide hl
 have HA := hide ha
 have HZ := hide hZ
 have HNA := hide hna
 have HOK := hide ok
 have HH := hide hh
 have HRG := hide h.in_
 have HGL := hide hh.lt
 have HEND : Hid (∀ (W : World) (q : Option Addr) (m d : Nat), Chg w W (fun i => i = g) → Rh W g st (.slice q m d) (.slice pa na ca) kp tr → Fil W (fun i => Z i ∨ R i) (.slice q m d) (fallJ st K t K) → RPost w Z R g (st.fall keep tear) (((W.setCell ⟨g, 2, none⟩ (.slice none 0 0)).setCell ⟨g, 3, none⟩ (.bool true)).setCell ⟨g, 4, none⟩ (.int .i64 0))) := hide fun W q m d hc hr hf => by
  have s2 := hr.set 2 (.slice none 0 0)
  have s3 := heap_setCell_same _ g 3 _ 53 (.bool true) s2
  have s4 := heap_setCell_same _ g 4 _ 53 (.int .i64 0) s3
  have hcs : Chg W (((W.setCell ⟨g, 2, none⟩ (.slice none 0 0)).setCell ⟨g, 3, none⟩ (.bool true)).setCell ⟨g, 4, none⟩ (.int .i64 0)) (fun i => i = g) := ((rchg_set _ _ _ _).trans (rchg_set _ _ _ _) fun _ h => .inl h).trans (rchg_set _ _ _ _) fun _ h => .inl h
  have hca := hc.trans hcs fun _ h => .inl h
  refine ⟨R, ⟨h9.in_, fun i hi => Nat.lt_of_lt_of_le (h9.rap i hi) hca.size, fun i hi => Nat.lt_of_lt_of_le (h9.zap i hi) hca.size, h9.sep, .slice q m d, .slice none 0 0, kp, tr, ?_, .inl rfl, ?_, ActR.nil _ _ _⟩, hca.mono fun i hi => hi ▸ h9.in_, fun i hi => .inl hi⟩
  ·unfold Rh
   rw [s4]
   unfold rdC Dk.fall
   simp only [List.setIfInBounds_toArray, List.set_cons_succ, List.set_cons_zero]
   rfl
  ·have e1 : (st.fall keep tear).last = fallJ st K t K := by
    unfold Dk.fall fallJ
    rw [if_pos rfl, hK, htt]
   rw [e1]
   exact hf.chg hcs fun i hi => .inr (hi ▸ h9.in_)
 clear hl ha h hh hkt hna hZ ok hK htt h9 hKn
 go_enter Tryz.func55, Tryz.ntmps55
 go_wp2_with fail
 go_loopw [6, 7, 13] (fun _ _ i wr => ∃ (j : Nat), j ≤ K ∧ i = .int .i64 j ∧ Hid (∃ (q : Option Addr) (m d : Nat), Chg w wr (fun i => i = g) ∧ Rh wr g st (.slice q m d) (.slice pa na ca) kp tr ∧ Fil wr (fun i => Z i ∨ R i) (.slice q m d) (fallJ st K t j))) (fun _ _ i _ => na - (intOf i).toNat)
 case atStart => exact ⟨0, Nat.zero_le _, rfl, hide ⟨_, _, _, Chg.refl _ _, HH.out, by rw [fallJ_zero]; exact HL.out⟩⟩
 case round =>
  obtain ⟨j, hj, rfl, hrel⟩ := hrel
  obtain ⟨q, m, d, hc0, hr0, hf0⟩ := hrel.out
  have HC := hide hc0
  have HR := hide hr0
  have HF := hide hf0
  clear hrel hc0 hr0 hf0
  by_cases hjK : j < K
  ·have hjn : (j : Int) < (na : Int) := by have := HKN.out; omega
   have hjk : (keep ≤ (j : Int)) = False := eq_false (by have := HKN.out; omega)
   obtain ⟨x, hx⟩ : ∃ x, st.acts[j]? = some x := ⟨_, List.getElem?_eq_getElem (by have := HNA.out; omega)⟩
   obtain ⟨ga, oa, e, rfl, hat, hae, hra⟩ := (HA.out.chg HC.out (fun i hi => .inr (hi ▸ HRG.out)) fun i hi hg => hi.2 hg).at_ hx
   have hfit := HOK.out.fits j x hx
   have hfew := HOK.out.few j (by have := HNA.out; omega)
   have hsz : x.size ≤ 16777216 := Nat.le_trans (size_used hx) (Nat.le_trans HOK.out.room HOK.out.most)
   have HX := hide hx
   obtain ⟨ek, es, et, ea, ep, en, ec⟩ := e
   obtain ⟨oo, hoo⟩ : ∃ oo, oa + j * 5 = oo := ⟨_, rfl⟩
   rw [hoo] at hat
   have e0 := hat.c0
   have e1 := hat.c1
   have e2 := hat.c2
   have e3 := hat.c3
   have e4 := hat.c4
   have hgl := lt_of_cell e0
   dsimp only at e0 e1 e2 e3 e4 hgl
   have hgr : g < wr.heap.size := Nat.lt_of_lt_of_le HGL.out HC.out.size
   have r2 := HR.out.c2
   have hrun := fallJ_lt (st := st) (t := t) hjK
   have HUPX : ∀ (e' : Ac) (d' : Deed), fallJ st K t (j + 1) = d'.run (fallJ st K t j) 0 → d'.fits (fallJ st K t j) → ∀ (WA : World), WA = wr.alloc (.cells #[.int .i64 e'.k, .string e'.s, .string e'.t, .int .i64 e'.a, .slice e'.p e'.n e'.c] 128) → Ae wr (fun i => Z i ∨ R i) e' d' →
     (∀ V, Below WA.heap.size WA V → Calls Tryz.prog 95 #[.slice q m d, acV e'] V (fun e w' => ∃ p5 n5 c5, e = .returned (.slice p5 n5 c5) ∧ Fil w' (fun i => Z i ∨ R i) (.slice p5 n5 c5) (fallJ st K t (j + 1)) ∧ Below WA.heap.size WA w')) ∧
     (∀ V, Below WA.heap.size WA V → V.cell? ⟨g, 1, none⟩ = some (.slice q m d) ∧ V.frozen? ⟨g, 1, none⟩ = false) ∧
     (∀ (V : World) (p5 : Option Addr) (n5 c5 : Nat), Below WA.heap.size WA V → Fil V (fun i => Z i ∨ R i) (.slice p5 n5 c5) (fallJ st K t (j + 1)) → Hid (∃ (q : Option Addr) (m d : Nat), Chg w (V.setCell ⟨g, 1, none⟩ (.slice p5 n5 c5)) (fun i => i = g) ∧ Rh (V.setCell ⟨g, 1, none⟩ (.slice p5 n5 c5)) g st (.slice q m d) (.slice (some ⟨ga, oa, none⟩) na ca) kp tr ∧ Fil (V.setCell ⟨g, 1, none⟩ (.slice p5 n5 c5)) (fun i => Z i ∨ R i) (.slice q m d) (fallJ st K t (j + 1)))) := by
    intro e' d' hrd hfd WA hWA hae'
    have hcA : Chg wr WA (fun _ => False) := hWA ▸ chgA _ _
    have hZr : ∀ i, (Z i ∨ R i) → i < WA.heap.size := fun i hi => Nat.lt_of_lt_of_le (HZ.out i hi) (Nat.le_trans HC.out.size hcA.size)
    refine ⟨fun V hV => ?_, fun V hV => ?_, fun V p5 n5 c5 hV hf => ?_⟩
    ·have hcV : Chg wr V (fun _ => False) := hcA.trans (Chg.of_below hV _) fun _ h => .inl h
     refine (rdo_any (HF.out.chg hcV fun _ h => h.elim) (fun i hi => Nat.lt_of_lt_of_le (hZr i hi) hV.size) (by rw [hrun]; omega) (hae'.chg hcV fun _ h => h.elim) hfd).mono fun e w' hp => ?_
     obtain ⟨p5, n5, c5, rfl, hf5, hc5⟩ := hp
     rw [← hrd] at hf5
     have hz := hV.size
     exact ⟨p5, n5, c5, rfl, hf5, hc5.os.trans hV.os, hc5.tape.trans hV.tape, hc5.output.trans hV.output, Nat.le_trans hz hc5.size, fun k hk => (hc5.block k (by omega) fun h => h).trans (hV.block k hk)⟩
    ·have hcV : Chg wr V (fun _ => False) := hcA.trans (Chg.of_below hV _) fun _ h => .inl h
     have hr := HR.out.chg hcV fun h => h
     exact ⟨hr.c1, hr.fr 1⟩
    ·have hcV : Chg wr V (fun _ => False) := hcA.trans (Chg.of_below hV _) fun _ h => .inl h
     have hr := HR.out.chg hcV fun h => h
     have hcs := rchg_set V g 1 (.slice p5 n5 c5)
     refine hide ⟨p5, n5, c5, (HC.out.trans hcV fun _ h => h.elim).trans hcs fun _ h => .inl h, ?_, hf.chg hcs fun i hi => .inr (hi ▸ HRG.out)⟩
     unfold Rh
     rw [hr.set 1]
     unfold rdC
     simp only [List.setIfInBounds_toArray, List.set_cons_succ, List.set_cons_zero]
   by_cases hkd : x.kd = 0
   ·obtain ⟨k, a, b, rfl⟩ : ∃ k a b, x = .put k a b := by
     cases x with
     | put k a b => exact ⟨k, a, b, rfl⟩
     | trim k n => simp [Deed.kd] at hkd
     | move k s => simp [Deed.kd] at hkd
     | drop k => simp [Deed.kd] at hkd
    obtain rfl : ek = 0 := hae.kd
    have hwk : IntKind.i64.wrap (keep - 1) = keep - 1 := by rw [IntKind.wrap_i64]; have := HKN.out; omega
    have hwn : IntKind.i64.wrap ((na : Int) - 1) = (na : Int) - 1 := by rw [IntKind.wrap_i64]; omega
    have hbl := hae.by_.len.1
    rw [← hrun] at hfit
    by_cases h1 : (j : Int) = keep - 1
    ·have q1 : ((j : Int) == keep - 1) = true := beq_iff_eq.2 h1
     by_cases h3 : 0 < tear
     ·skip
      have hjl : j + 1 = K := by have := HKN.out; omega
      have HJL := hide hjl
      obtain ⟨M, hM⟩ : ∃ M, b.length - min t b.length = M := ⟨_, rfl⟩
      change en = b.length at hbl
      change b.length ≤ 16777216 at hsz
      have htt := HTT.out
      have hws : IntKind.i64.wrap ((en : Int) - min tear 1073741824) = (en : Int) - min tear 1073741824 := by rw [IntKind.wrap_i64]; omega
      have hmx : max 0 ((en : Int) - min tear 1073741824) = (M : Int) := by omega
      have hMe : M ≤ en := by omega
      have hec := hae.by_.len.2
      dsimp only at hec
      have hcut := fun W => run_cut_to W ep en ec M (by omega)
      have hoff2 : b.take M = [] ∨ ∀ k, (Value.slice ep M ec).ownBlock = some k → ¬ (Z k ∨ R k) := by
       rcases hae.off with h | h
       ·exact .inl (by rw [show b = [] from h]; exact List.take_nil)
       ·exact .inr fun k hk => h k (by rcases ep with _ | ep <;> exact hk)
      have hae2 : Ae wr (fun i => Z i ∨ R i) ⟨0, es, et, ea, ep, M, ec⟩ (.put k a (b.take M)) := ⟨rfl, hae.nm, hae.tt, hae.ns, hae.ts, hae.pl, cut_to hae.by_ hMe, hoff2⟩
      have hrd : fallJ st K t (j + 1) = (Deed.put k a (b.take M)).run (fallJ st K t j) 0 := by
       rw [fallJ_last hx hjl]
       show (Deed.put k a b).run _ (min t b.length) = _
       rw [Deed.run_torn, hM]
      have hfd : (Deed.put k a (b.take M)).fits (fallJ st K t j) := ⟨hfit.1, by have := hfit.2; rw [List.length_take]; omega⟩
      clear hjl htt hec hM hbl hsz h1
      obtain ⟨WA, hWA⟩ : ∃ WA, WA = wr.alloc (.cells #[.int .i64 0, .string es, .string et, .int .i64 ea, .slice ep M ec] 128) := ⟨_, rfl⟩
      obtain ⟨hdo, hcl, hup⟩ := HUPX ⟨0, es, et, ea, ep, M, ec⟩ (.put k a (b.take M)) hrd hfd WA hWA hae2
      have hbx : WA.heap[wr.heap.size]? = some (.cells #[.int .i64 0, .string es, .string et, .int .i64 ea, .slice ep M ec] 128) := hWA ▸ heap_alloc_new wr _
      have b0 := cell_of_row WA wr.heap.size 0 _ 128 (0, 0) hbx
      have b1 := cell_of_row WA wr.heap.size 1 _ 128 (0, 0) hbx
      have b2 := cell_of_row WA wr.heap.size 2 _ 128 (0, 0) hbx
      have b3 := cell_of_row WA wr.heap.size 3 _ 128 (0, 0) hbx
      have b4 := cell_of_row WA wr.heap.size 4 _ 128 (0, 0) hbx
      obtain ⟨k1, kf1⟩ := hcl WA (Below.refl _ _)
      obtain ⟨k1d, _⟩ := hcl WA.drew (bel_drewN (Below.refl _ _) 1)
      have HDO := hide hdo
      have HCL := hide hcl
      have HUP := hide hup
      unfold acV at HDO
      dsimp only at HDO b0 b1 b2 b3 b4
      have r2A : WA.cell? ⟨g, 2, none⟩ = some (.slice (some ⟨ga, oa, none⟩) na ca) := (HR.out.chg (hWA ▸ chgA _ _) fun h => h).c2
      have r2B : (wr.alloc (.cells #[.int .i64 0, .string es, .string et, .int .i64 ea, .slice ep en ec] 128)).cell? ⟨g, 2, none⟩ = some (.slice (some ⟨ga, oa, none⟩) na ca) := (HR.out.chg (chgA _ _) fun h => h).c2
      have hW9 := hWA.symm
      clear hdo hcl hup hWA HUPX hae hfit hfew hat hra hbx hrun hx
      go_wp2_with fail
      go_region_law (go_simp; refine (HDO.out _ (by first | exact Below.refl _ _ | exact bel_drewN (Below.refl _ _) 1)).mono ?_; rintro e5 w5 ⟨p5, n5, c5, rfl, hf5, hb5⟩; have HF5 := hide hf5; have HB5 := hide hb5; obtain ⟨k1, kf1⟩ := HCL.out _ hb5; clear hf5 hb5)
      all_goals
       have H6 := hide (HUP.out _ _ _ _ HB5.out HF5.out).out
       go_wp2
       go_roundw
       case rel => exact ⟨j + 1, by omega, by go_num, H6⟩
       case measure => simp [intOf]; omega
     ·have h4 : (0 < tear) = False := eq_false h3
      have hrd : fallJ st K t (j + 1) = (Deed.put k a b).run (fallJ st K t j) 0 := by
       rw [fallJ_last hx (by have := HKN.out; omega), Deed.run_un _ (.inl (by have := HTT.out; omega))]
      clear hbl hsz h1 h3
      obtain ⟨WA, hWA⟩ : ∃ WA, WA = wr.alloc (.cells #[.int .i64 0, .string es, .string et, .int .i64 ea, .slice ep en ec] 128) := ⟨_, rfl⟩
      obtain ⟨hdo, hcl, hup⟩ := HUPX ⟨0, es, et, ea, ep, en, ec⟩ (.put k a b) hrd hfit WA hWA hae
      have hbx : WA.heap[wr.heap.size]? = some (.cells #[.int .i64 0, .string es, .string et, .int .i64 ea, .slice ep en ec] 128) := hWA ▸ heap_alloc_new wr _
      have b0 := cell_of_row WA wr.heap.size 0 _ 128 (0, 0) hbx
      have b1 := cell_of_row WA wr.heap.size 1 _ 128 (0, 0) hbx
      have b2 := cell_of_row WA wr.heap.size 2 _ 128 (0, 0) hbx
      have b3 := cell_of_row WA wr.heap.size 3 _ 128 (0, 0) hbx
      have b4 := cell_of_row WA wr.heap.size 4 _ 128 (0, 0) hbx
      obtain ⟨k1, kf1⟩ := hcl WA (Below.refl _ _)
      obtain ⟨k1d, _⟩ := hcl WA.drew (bel_drewN (Below.refl _ _) 1)
      have HDO := hide hdo
      have HCL := hide hcl
      have HUP := hide hup
      unfold acV at HDO
      dsimp only at HDO b0 b1 b2 b3 b4
      have r2A : WA.cell? ⟨g, 2, none⟩ = some (.slice (some ⟨ga, oa, none⟩) na ca) := (HR.out.chg (hWA ▸ chgA _ _) fun h => h).c2
      have r2B : (wr.alloc (.cells #[.int .i64 0, .string es, .string et, .int .i64 ea, .slice ep en ec] 128)).cell? ⟨g, 2, none⟩ = some (.slice (some ⟨ga, oa, none⟩) na ca) := (HR.out.chg (chgA _ _) fun h => h).c2
      have hW9 := hWA.symm
      clear hdo hcl hup hWA HUPX hae hfit hfew hat hra hbx hrun hx
      go_wp2_with fail
      go_region_law (go_simp; refine (HDO.out _ (by first | exact Below.refl _ _ | exact bel_drewN (Below.refl _ _) 1)).mono ?_; rintro e5 w5 ⟨p5, n5, c5, rfl, hf5, hb5⟩; have HF5 := hide hf5; have HB5 := hide hb5; obtain ⟨k1, kf1⟩ := HCL.out _ hb5; clear hf5 hb5)
      all_goals
       have H6 := hide (HUP.out _ _ _ _ HB5.out HF5.out).out
       go_wp2
       go_roundw
       case rel => exact ⟨j + 1, by omega, by go_num, H6⟩
       case measure => simp [intOf]; omega
    ·have q1 : ((j : Int) == keep - 1) = false := beq_eq_false_iff_ne.2 h1
     by_cases h2 : (j : Int) = (na : Int) - 1
     ·have q2 : ((j : Int) == (na : Int) - 1) = true := beq_iff_eq.2 h2
      by_cases h3 : 0 < tear
      ·skip
       have hjl : j + 1 = K := by have := HKN.out; omega
       have HJL := hide hjl
       obtain ⟨M, hM⟩ : ∃ M, b.length - min t b.length = M := ⟨_, rfl⟩
       change en = b.length at hbl
       change b.length ≤ 16777216 at hsz
       have htt := HTT.out
       have hws : IntKind.i64.wrap ((en : Int) - min tear 1073741824) = (en : Int) - min tear 1073741824 := by rw [IntKind.wrap_i64]; omega
       have hmx : max 0 ((en : Int) - min tear 1073741824) = (M : Int) := by omega
       have hMe : M ≤ en := by omega
       have hec := hae.by_.len.2
       dsimp only at hec
       have hcut := fun W => run_cut_to W ep en ec M (by omega)
       have hoff2 : b.take M = [] ∨ ∀ k, (Value.slice ep M ec).ownBlock = some k → ¬ (Z k ∨ R k) := by
        rcases hae.off with h | h
        ·exact .inl (by rw [show b = [] from h]; exact List.take_nil)
        ·exact .inr fun k hk => h k (by rcases ep with _ | ep <;> exact hk)
       have hae2 : Ae wr (fun i => Z i ∨ R i) ⟨0, es, et, ea, ep, M, ec⟩ (.put k a (b.take M)) := ⟨rfl, hae.nm, hae.tt, hae.ns, hae.ts, hae.pl, cut_to hae.by_ hMe, hoff2⟩
       have hrd : fallJ st K t (j + 1) = (Deed.put k a (b.take M)).run (fallJ st K t j) 0 := by
        rw [fallJ_last hx hjl]
        show (Deed.put k a b).run _ (min t b.length) = _
        rw [Deed.run_torn, hM]
       have hfd : (Deed.put k a (b.take M)).fits (fallJ st K t j) := ⟨hfit.1, by have := hfit.2; rw [List.length_take]; omega⟩
       clear hjl htt hec hM hbl hsz h1 h2
       obtain ⟨WA, hWA⟩ : ∃ WA, WA = wr.alloc (.cells #[.int .i64 0, .string es, .string et, .int .i64 ea, .slice ep M ec] 128) := ⟨_, rfl⟩
       obtain ⟨hdo, hcl, hup⟩ := HUPX ⟨0, es, et, ea, ep, M, ec⟩ (.put k a (b.take M)) hrd hfd WA hWA hae2
       have hbx : WA.heap[wr.heap.size]? = some (.cells #[.int .i64 0, .string es, .string et, .int .i64 ea, .slice ep M ec] 128) := hWA ▸ heap_alloc_new wr _
       have b0 := cell_of_row WA wr.heap.size 0 _ 128 (0, 0) hbx
       have b1 := cell_of_row WA wr.heap.size 1 _ 128 (0, 0) hbx
       have b2 := cell_of_row WA wr.heap.size 2 _ 128 (0, 0) hbx
       have b3 := cell_of_row WA wr.heap.size 3 _ 128 (0, 0) hbx
       have b4 := cell_of_row WA wr.heap.size 4 _ 128 (0, 0) hbx
       obtain ⟨k1, kf1⟩ := hcl WA (Below.refl _ _)
       obtain ⟨k1d, _⟩ := hcl WA.drew (bel_drewN (Below.refl _ _) 1)
       have HDO := hide hdo
       have HCL := hide hcl
       have HUP := hide hup
       unfold acV at HDO
       dsimp only at HDO b0 b1 b2 b3 b4
       have r2A : WA.cell? ⟨g, 2, none⟩ = some (.slice (some ⟨ga, oa, none⟩) na ca) := (HR.out.chg (hWA ▸ chgA _ _) fun h => h).c2
       have r2B : (wr.alloc (.cells #[.int .i64 0, .string es, .string et, .int .i64 ea, .slice ep en ec] 128)).cell? ⟨g, 2, none⟩ = some (.slice (some ⟨ga, oa, none⟩) na ca) := (HR.out.chg (chgA _ _) fun h => h).c2
       have hW9 := hWA.symm
       clear hdo hcl hup hWA HUPX hae hfit hfew hat hra hbx hrun hx
       go_wp2_with fail
       go_region_law (go_simp; refine (HDO.out _ (by first | exact Below.refl _ _ | exact bel_drewN (Below.refl _ _) 1)).mono ?_; rintro e5 w5 ⟨p5, n5, c5, rfl, hf5, hb5⟩; have HF5 := hide hf5; have HB5 := hide hb5; obtain ⟨k1, kf1⟩ := HCL.out _ hb5; clear hf5 hb5)
       all_goals
        have H6 := hide (HUP.out _ _ _ _ HB5.out HF5.out).out
        go_wp2
        go_roundw
        case rel => exact ⟨j + 1, by omega, by go_num, H6⟩
        case measure => simp [intOf]; omega
      ·have h4 : (0 < tear) = False := eq_false h3
       have hrd : fallJ st K t (j + 1) = (Deed.put k a b).run (fallJ st K t j) 0 := by
        rw [fallJ_last hx (by have := HKN.out; omega), Deed.run_un _ (.inl (by have := HTT.out; omega))]
       clear hbl hsz h1 h2 h3
       obtain ⟨WA, hWA⟩ : ∃ WA, WA = wr.alloc (.cells #[.int .i64 0, .string es, .string et, .int .i64 ea, .slice ep en ec] 128) := ⟨_, rfl⟩
       obtain ⟨hdo, hcl, hup⟩ := HUPX ⟨0, es, et, ea, ep, en, ec⟩ (.put k a b) hrd hfit WA hWA hae
       have hbx : WA.heap[wr.heap.size]? = some (.cells #[.int .i64 0, .string es, .string et, .int .i64 ea, .slice ep en ec] 128) := hWA ▸ heap_alloc_new wr _
       have b0 := cell_of_row WA wr.heap.size 0 _ 128 (0, 0) hbx
       have b1 := cell_of_row WA wr.heap.size 1 _ 128 (0, 0) hbx
       have b2 := cell_of_row WA wr.heap.size 2 _ 128 (0, 0) hbx
       have b3 := cell_of_row WA wr.heap.size 3 _ 128 (0, 0) hbx
       have b4 := cell_of_row WA wr.heap.size 4 _ 128 (0, 0) hbx
       obtain ⟨k1, kf1⟩ := hcl WA (Below.refl _ _)
       obtain ⟨k1d, _⟩ := hcl WA.drew (bel_drewN (Below.refl _ _) 1)
       have HDO := hide hdo
       have HCL := hide hcl
       have HUP := hide hup
       unfold acV at HDO
       dsimp only at HDO b0 b1 b2 b3 b4
       have r2A : WA.cell? ⟨g, 2, none⟩ = some (.slice (some ⟨ga, oa, none⟩) na ca) := (HR.out.chg (hWA ▸ chgA _ _) fun h => h).c2
       have r2B : (wr.alloc (.cells #[.int .i64 0, .string es, .string et, .int .i64 ea, .slice ep en ec] 128)).cell? ⟨g, 2, none⟩ = some (.slice (some ⟨ga, oa, none⟩) na ca) := (HR.out.chg (chgA _ _) fun h => h).c2
       have hW9 := hWA.symm
       clear hdo hcl hup hWA HUPX hae hfit hfew hat hra hbx hrun hx
       go_wp2_with fail
       go_region_law (go_simp; refine (HDO.out _ (by first | exact Below.refl _ _ | exact bel_drewN (Below.refl _ _) 1)).mono ?_; rintro e5 w5 ⟨p5, n5, c5, rfl, hf5, hb5⟩; have HF5 := hide hf5; have HB5 := hide hb5; obtain ⟨k1, kf1⟩ := HCL.out _ hb5; clear hf5 hb5)
       all_goals
        have H6 := hide (HUP.out _ _ _ _ HB5.out HF5.out).out
        go_wp2
        go_roundw
        case rel => exact ⟨j + 1, by omega, by go_num, H6⟩
        case measure => simp [intOf]; omega
     ·have q2 : ((j : Int) == (na : Int) - 1) = false := beq_eq_false_iff_ne.2 h2
      have hrd : fallJ st K t (j + 1) = (Deed.put k a b).run (fallJ st K t j) 0 := fallJ_go hx (by have := HKN.out; omega)
      clear hbl hsz h1 h2
      obtain ⟨WA, hWA⟩ : ∃ WA, WA = wr.alloc (.cells #[.int .i64 0, .string es, .string et, .int .i64 ea, .slice ep en ec] 128) := ⟨_, rfl⟩
      obtain ⟨hdo, hcl, hup⟩ := HUPX ⟨0, es, et, ea, ep, en, ec⟩ (.put k a b) hrd hfit WA hWA hae
      have hbx : WA.heap[wr.heap.size]? = some (.cells #[.int .i64 0, .string es, .string et, .int .i64 ea, .slice ep en ec] 128) := hWA ▸ heap_alloc_new wr _
      have b0 := cell_of_row WA wr.heap.size 0 _ 128 (0, 0) hbx
      have b1 := cell_of_row WA wr.heap.size 1 _ 128 (0, 0) hbx
      have b2 := cell_of_row WA wr.heap.size 2 _ 128 (0, 0) hbx
      have b3 := cell_of_row WA wr.heap.size 3 _ 128 (0, 0) hbx
      have b4 := cell_of_row WA wr.heap.size 4 _ 128 (0, 0) hbx
      obtain ⟨k1, kf1⟩ := hcl WA (Below.refl _ _)
      obtain ⟨k1d, _⟩ := hcl WA.drew (bel_drewN (Below.refl _ _) 1)
      have HDO := hide hdo
      have HCL := hide hcl
      have HUP := hide hup
      unfold acV at HDO
      dsimp only at HDO b0 b1 b2 b3 b4
      have r2A : WA.cell? ⟨g, 2, none⟩ = some (.slice (some ⟨ga, oa, none⟩) na ca) := (HR.out.chg (hWA ▸ chgA _ _) fun h => h).c2
      have r2B : (wr.alloc (.cells #[.int .i64 0, .string es, .string et, .int .i64 ea, .slice ep en ec] 128)).cell? ⟨g, 2, none⟩ = some (.slice (some ⟨ga, oa, none⟩) na ca) := (HR.out.chg (chgA _ _) fun h => h).c2
      have hW9 := hWA.symm
      clear hdo hcl hup hWA HUPX hae hfit hfew hat hra hbx hrun hx
      go_wp2_with fail
      go_region_law (go_simp; refine (HDO.out _ (by first | exact Below.refl _ _ | exact bel_drewN (Below.refl _ _) 1)).mono ?_; rintro e5 w5 ⟨p5, n5, c5, rfl, hf5, hb5⟩; have HF5 := hide hf5; have HB5 := hide hb5; obtain ⟨k1, kf1⟩ := HCL.out _ hb5; clear hf5 hb5)
      all_goals
       have H6 := hide (HUP.out _ _ _ _ HB5.out HF5.out).out
       go_wp2
       go_roundw
       case rel => exact ⟨j + 1, by omega, by go_num, H6⟩
       case measure => simp [intOf]; omega
   ·have hek : ek ≠ 0 := by have := hae.kd; dsimp only at this; omega
    have q0 : (ek == 0) = false := beq_eq_false_iff_ne.2 hek
    have hrd : fallJ st K t (j + 1) = x.run (fallJ st K t j) 0 := by
     by_cases hl : j + 1 = K
     ·rw [fallJ_last hx hl, Deed.run_un _ (.inr hkd)]
     ·exact fallJ_go hx (by omega)
    rw [← hrun] at hfit
    obtain ⟨WA, hWA⟩ : ∃ WA, WA = wr.alloc (.cells #[.int .i64 ek, .string es, .string et, .int .i64 ea, .slice ep en ec] 128) := ⟨_, rfl⟩
    obtain ⟨hdo, hcl, hup⟩ := HUPX ⟨ek, es, et, ea, ep, en, ec⟩ x hrd hfit WA hWA hae
    have hbx : WA.heap[wr.heap.size]? = some (.cells #[.int .i64 ek, .string es, .string et, .int .i64 ea, .slice ep en ec] 128) := hWA ▸ heap_alloc_new wr _
    have b0 := cell_of_row WA wr.heap.size 0 _ 128 (0, 0) hbx
    have b1 := cell_of_row WA wr.heap.size 1 _ 128 (0, 0) hbx
    have b2 := cell_of_row WA wr.heap.size 2 _ 128 (0, 0) hbx
    have b3 := cell_of_row WA wr.heap.size 3 _ 128 (0, 0) hbx
    have b4 := cell_of_row WA wr.heap.size 4 _ 128 (0, 0) hbx
    obtain ⟨k1, kf1⟩ := hcl WA (Below.refl _ _)
    obtain ⟨k1d, _⟩ := hcl WA.drew (bel_drewN (Below.refl _ _) 1)
    have HDO := hide hdo
    have HCL := hide hcl
    have HUP := hide hup
    unfold acV at HDO
    dsimp only at HDO b0 b1 b2 b3 b4
    have r2A : WA.cell? ⟨g, 2, none⟩ = some (.slice (some ⟨ga, oa, none⟩) na ca) := (HR.out.chg (hWA ▸ chgA _ _) fun h => h).c2
    have r2B : (wr.alloc (.cells #[.int .i64 ek, .string es, .string et, .int .i64 ea, .slice ep en ec] 128)).cell? ⟨g, 2, none⟩ = some (.slice (some ⟨ga, oa, none⟩) na ca) := (HR.out.chg (chgA _ _) fun h => h).c2
    have hW9 := hWA.symm
    clear hdo hcl hup hWA HUPX hae hfit hfew hat hra hbx hrun hx
    go_wp2_with fail
    go_region_law (go_simp; refine (HDO.out _ (by first | exact Below.refl _ _ | exact bel_drewN (Below.refl _ _) 1)).mono ?_; rintro e5 w5 ⟨p5, n5, c5, rfl, hf5, hb5⟩; have HF5 := hide hf5; have HB5 := hide hb5; obtain ⟨k1, kf1⟩ := HCL.out _ hb5; clear hf5 hb5)
    all_goals
     have H6 := hide (HUP.out _ _ _ _ HB5.out HF5.out).out
     go_wp2
     go_roundw
     case rel => exact ⟨j + 1, by omega, by go_num, H6⟩
     case measure => simp [intOf]; omega
  ·obtain rfl : j = K := by omega
   have HP := hide (HEND.out _ _ _ _ HC.out HR.out HF.out)
   have f2 := HR.out.fr 2
   have f3 := HR.out.fr 3
   have f4 := HR.out.fr 4
   have g2 := HR.out.c2
   have g3 := HR.out.c3
   have g4 := HR.out.c4
   by_cases hjn : (j : Int) < (na : Int)
   ·have hjk : keep ≤ (j : Int) := by have := HKN.out; omega
    obtain ⟨x, hx⟩ : ∃ x, st.acts[j]? = some x := ⟨_, List.getElem?_eq_getElem (by have := HNA.out; omega)⟩
    obtain ⟨ga, oa, e, rfl, hat, hae, hra⟩ := (HA.out.chg HC.out (fun i hi => .inr (hi ▸ HRG.out)) fun i hi hg => hi.2 hg).at_ hx
    obtain ⟨ek, es, et, ea, ep, en, ec⟩ := e
    obtain ⟨oo, hoo⟩ : ∃ oo, oa + j * 5 = oo := ⟨_, rfl⟩
    rw [hoo] at hat
    have e0 := hat.c0
    have e1 := hat.c1
    have e2 := hat.c2
    have e3 := hat.c3
    have e4 := hat.c4
    have hgl := lt_of_cell e0
    dsimp only at e0 e1 e2 e3 e4 hgl
    have hcA := chgA wr (.cells #[.int .i64 ek, .string es, .string et, .int .i64 ea, .slice ep en ec] 128)
    have HP2 := hide (HP.out.alloc (.cells #[.int .i64 ek, .string es, .string et, .int .i64 ea, .slice ep en ec] 128))
    have hgr : g < wr.heap.size := Nat.lt_of_lt_of_le HGL.out HC.out.size
    clear hat hae hra hx hcA HP HC HR HF
    go_wp2
    go_end0
    exact ⟨rfl, HP2.out⟩
   ·clear HC HR HF
    go_wp2
    go_end0
    exact ⟨rfl, HP.out⟩
end Go.Proofs.YtgbdjcekpdfpjaaGreatDoor
namespace Go.Proofs.YtgbdjcekpdfpjaaGreatDoor
open Go.RowKit
theorem RPost.after {w W w' : World} {Z R R' : Nat → Prop} {g : Nat} {st : Dk} (h : RPost W Z R' g st w') (hc : Chg w W R) (hR : ∀ i, R' i → R i ∨ w.heap.size ≤ i) : RPost w Z R g st w' := by
 obtain ⟨R2, h1, h2, h3⟩ := h
 refine ⟨R2, h1, hc.trans h2 hR, fun i hi => ?_⟩
 rcases h3 i hi with h | h
 ·exact hR i h
 ·exact .inr (Nat.le_trans hc.size h)
theorem acs_one (w : World) (y : Ac) : Acs (w.alloc (.cells #[.int .i64 y.k, .string y.s, .string y.t, .int .i64 y.a, .slice y.p y.n y.c] 128)) (.slice (some ⟨w.heap.size, 0, none⟩) 1 1) [y] := by
 refine ⟨some ⟨w.heap.size, 0, none⟩, 1, rfl, Nat.le_refl _, by unfold maxLen; omega, (fun h => by cases h), fun _ => ⟨w.heap.size, 0, rfl, fun i x hi k u hk => ?_⟩⟩
 match i, hi with
 | 0, hi =>
  simp at hi
  subst hi
  rw [cell_of_row _ w.heap.size _ _ 128 (0, 0) (heap_alloc_new w _)]
  simpa [acC] using hk
 | (j + 1), hi => simp at hi
theorem run_pushA {w : World} {v u : Value} {l : List Ac} {y : Ac} (h : OwnAc 0 w v l) (hu : Acs w u [y]) (hs : l.length ≤ 1000000) :
  ∃ v' w', (Builtin.append_ #[51, 51] 51 #[v, u]).run Tryz.prog w = .ok v' w' ∧ OwnAc 0 w' v' (l ++ [y]) ∧ w.grownBy w' v.ownBlock ∧ (v'.ownBlock = v.ownBlock ∨ ∃ k, w.heap.size ≤ k ∧ v'.ownBlock = some k) := by
 obtain ⟨i0, hi0, hz0, hz1, hz2⟩ := info_parts Tryz.infoAc
 obtain ⟨p, n, c, rfl⟩ := hu.sl
 have hn := hu.len.1
 obtain ⟨g, o, rfl, hx⟩ := hu.at_ (by rw [hn]; simp)
 obtain ⟨v', w', hr, h1, h2, _, h4⟩ := run_append_own_at (P := Tryz.prog) w 0 51 51 128 i0 _ 5 72 Tryz.underlying51 hi0 hz0 hz1 hz2 rfl (by decide) v l.length (l.flatMap acC) h ⟨g, o, none⟩ n c ([y].flatMap acC) (by rw [hn]; rfl)
  (fun j u hj => by
   obtain ⟨x, hxj, hk⟩ := aflat_get2 hj
   have := hx (j / 5) x hxj (j % 5) u hk
   rw [show o + j / 5 * 5 + j % 5 = o + j by omega] at this
   rw [add_lit0]
   exact this)
  (fun u hu => by
   obtain ⟨x, _, hx⟩ := List.mem_flatMap.1 hu
   exact acC_one x u hx) (by simp only [maxLen, hn]; simp; omega) (by rw [hn]; simp; omega) (Nat.zero_le _)
 refine ⟨v', w', hr, ?_, h2, ?_⟩
 ·unfold OwnAc
  rw [List.flatMap_append, List.length_append, ← hn]
  exact h1
 ·rcases h4 with h4 | h4
  ·exact .inl h4
  ·exact .inr ⟨_, Nat.le_refl _, h4⟩
theorem step_pushA {w : World} {ops : Array Oper} {o : Oper} {a : Act} {K : Act → World → Prop} {Q : Exit → Act → World → Prop} {E : Prop} (hgd : o.guard = none) (s x : Operand)
  (ho : o.op = .call { callee := .builtin .append, args := #[s, x], argTypes := #[51, 51] }) (hty : o.type = 51) {v u : Value} {l : List Ac} {y : Ac}
  (hs : a.eval s = v) (hx : a.eval x = u) (h : OwnAc 0 w v l) (hu : Acs w u [y]) (hn : l.length ≤ 1000000)
  (hK : ∀ v' w', OwnAc 0 w' v' (l ++ [y]) → w.grownBy w' v.ownBlock → (v'.ownBlock = v.ownBlock ∨ ∃ k, w.heap.size ≤ k ∧ v'.ownBlock = some k) → K (a.put o.dst v') w') : if Region.wanted o (yielded ops a.tmps) = true then Oper.wp Tryz.prog o a w K Q else E := by
 have hw : Region.wanted o (yielded ops a.tmps) = true := by simp [Region.wanted, hgd]
 obtain ⟨v', w', hr, h1, h2, h3⟩ := run_pushA h hu hn
 rw [if_pos hw]
 exact Lib.wp_append_run_sl w s x 51 ho v u hs hx (by rw [hty]; exact hr) (hK v' w' h1 h2 h3)
set_option maxRecDepth 200000 in
set_option maxHeartbeats 8000000 in
theorem radd_any {w : World} {Z R : Nat → Prop} {g : Nat} {st : Dk} (h : RdIs w Z R g st) {d : Deed} (ok : (st.act d).Ok) (hmany : st.acts.length < 1000000) (hfu : (st.fn : Int) ≤ 9223372036854775807) {e : Ac} (he : Ae w (fun i => Z i ∨ R i) e d)
  (hk : st.keep ≤ 9223372036854775807) (hk' : -9223372036854775808 ≤ st.keep) (ht : st.tear ≤ 9223372036854775807) (ht' : -9223372036854775808 ≤ st.tear) :
  Calls Tryz.prog 81 #[.pointer (some ⟨g, 0, none⟩), acV e] w fun r w' => r = .returned (.int .i64 ((st.perf d).1 : Nat)) ∧ RPost w Z R g (st.perf d).2 w' := by
 have h9 := h
 obtain ⟨vl, va, kp, tr, hh, hkt, hl, E, ho, hd, hra⟩ := h.parts
 obtain ⟨pa, na, ca, rfl⟩ := ho.acs.sl
 have hEl : E.length ≤ 1000000 := by have := hd.1; omega
 obtain ⟨ek, es, et, ea, ep, en, ec⟩ := e
 obtain ⟨W, hW⟩ : ∃ W, W = w.alloc (.cells #[.int .i64 ek, .string es, .string et, .int .i64 ea, .slice ep en ec] 128) := ⟨_, rfl⟩
 have hcW : Chg w W (fun _ => False) := hW ▸ chgA _ _
 have hgW : g < W.heap.size := Nat.lt_of_lt_of_le hh.lt hcW.size
 have hbx : W.heap[w.heap.size]? = some (.cells #[.int .i64 ek, .string es, .string et, .int .i64 ea, .slice ep en ec] 128) := hW ▸ heap_alloc_new w _
 have hhW := hh.chg hcW fun h => h
 have hoW := row_chg ho hcW fun _ _ h => h
 -- the world behind the slice literal
 have H2 := hide (show ∀ V, Below W.heap.size W V → V.cell? ⟨g, 2, none⟩ = some (.slice pa na ca) ∧ V.frozen? ⟨g, 2, none⟩ = false ∧ OwnAc 0 V (.slice pa na ca) E from fun V hV => by
  have hcV : Chg W V (fun _ => False) := Chg.of_below hV _
  have hr := hhW.chg hcV fun h => h
  exact ⟨hr.c2, hr.fr 2, row_chg hoW hcV fun _ _ h => h⟩)
 have b0 := cell_of_row W w.heap.size 0 _ 128 (0, 0) hbx
 have b1 := cell_of_row W w.heap.size 1 _ 128 (0, 0) hbx
 have b2 := cell_of_row W w.heap.size 2 _ 128 (0, 0) hbx
 have b3 := cell_of_row W w.heap.size 3 _ 128 (0, 0) hbx
 have b4 := cell_of_row W w.heap.size 4 _ 128 (0, 0) hbx
 have HAO := hide (acs_one W ⟨ek, es, et, ea, ep, en, ec⟩)
 have HBL := hide (bel_al W (.cells #[.int .i64 ek, .string es, .string et, .int .i64 ea, .slice ep en ec] 128))
 obtain ⟨k1, kf1, _⟩ := H2.out W (Below.refl _ _)
 obtain ⟨k1d, _, _⟩ := H2.out W.drew (bel_drewN (Below.refl _ _) 1)
 obtain ⟨k1e, _, _⟩ := H2.out _ HBL.out
 obtain ⟨k1f, _, _⟩ := H2.out _ (bel_drewN HBL.out 1)
 have hva : ∀ k, (Value.slice pa na ca).ownBlock = some k → R k ∧ k ≠ g := hra
 have HVA := hide hva
 have HEL := hide hEl
 have HUP : Hid (∀ (V1 V2 : World) (p' : Option Addr) (n' c' : Nat), Below W.heap.size W V1 → OwnAc 0 V2 (.slice p' n' c') (E ++ [⟨ek, es, et, ea, ep, en, ec⟩]) → V1.grownBy V2 (Value.slice pa na ca).ownBlock → ((Value.slice p' n' c').ownBlock = (Value.slice pa na ca).ownBlock ∨ ∃ k, V1.heap.size ≤ k ∧ (Value.slice p' n' c').ownBlock = some k) →
   V2.cell? ⟨g, 2, none⟩ = some (.slice pa na ca) ∧ V2.frozen? ⟨g, 2, none⟩ = false ∧ ∃ R' : Nat → Prop, Chg w (V2.setCell ⟨g, 2, none⟩ (.slice p' n' c')) R ∧ (∀ i, R' i → R i ∨ w.heap.size ≤ i) ∧ (∀ i, R i → R' i) ∧ (∀ i, R' i → ¬ Z i) ∧ (∀ i, R' i → i < (V2.setCell ⟨g, 2, none⟩ (.slice p' n' c')).heap.size) ∧
    Rh (V2.setCell ⟨g, 2, none⟩ (.slice p' n' c')) g st vl (.slice p' n' c') kp tr ∧ Fil (V2.setCell ⟨g, 2, none⟩ (.slice p' n' c')) (fun i => Z i ∨ R' i) vl st.last ∧ ActR (V2.setCell ⟨g, 2, none⟩ (.slice p' n' c')) (fun i => Z i ∨ R' i) (fun i => R' i ∧ i ≠ g) (.slice p' n' c') (st.acts ++ [d])) := hide fun V1 V2 p' n' c' hV1 ho2 hg2 hbk => by
  have hc1 : Chg w V1 (fun _ => False) := hcW.trans (Chg.of_below hV1 _) fun _ h => .inl h
  have hgne : (Value.slice pa na ca).ownBlock ≠ some g := fun e => (hva g e).2 rfl
  have hc2 : Chg V1 V2 (fun i => (Value.slice pa na ca).ownBlock = some i) := Chg.of_grown hg2 _ fun k hk => .inl hk
  have hc12 : Chg w V2 (fun i => (Value.slice pa na ca).ownBlock = some i) := (hc1.mono fun _ h => h.elim).trans hc2 fun _ h => .inl h
  have hr2 := hh.chg hc12 hgne
  have hcs := rchg_set V2 g 2 (.slice p' n' c')
  have hw1 : w.heap.size ≤ V1.heap.size := hc1.size
  have hca : Chg w (V2.setCell ⟨g, 2, none⟩ (.slice p' n' c')) (fun i => i = g ∨ (Value.slice pa na ca).ownBlock = some i) := (hc12.mono fun _ h => .inr h).trans hcs fun _ h => .inl (.inl h)
  have hTR : ∀ i, (i = g ∨ (Value.slice pa na ca).ownBlock = some i) → R i := fun i hi => hi.elim (fun h => h ▸ h9.in_) fun h => (hva i h).1
  have hsz : V2.heap.size ≤ (V2.setCell ⟨g, 2, none⟩ (.slice p' n' c')).heap.size := hcs.size
  have hlt2 : ∀ k, (Value.slice p' n' c').ownBlock = some k → k < V2.heap.size := fun k hk => (ho2.lt k hk).2
  have hY : ∀ i, (Z i ∨ (R i ∨ (Value.slice p' n' c').ownBlock = some i)) → (Z i ∨ R i) ∨ w.heap.size ≤ i := fun i hi => by
   rcases hi with hi | hi | hi
   ·exact .inl (.inl hi)
   ·exact .inl (.inr hi)
   ·rcases hbk with hb | ⟨k, hk, hb⟩
    ·rw [hb] at hi
     exact .inl (.inr (hva i hi).1)
    ·rw [hb] at hi
     injection hi with hi
     exact .inr (by omega)
  refine ⟨hr2.c2, hr2.fr 2, fun i => R i ∨ (Value.slice p' n' c').ownBlock = some i, hca.mono hTR, fun i hi => ?_, fun i hi => .inl hi, fun i hi hz => ?_, fun i hi => ?_, ?_, (hl.re hY).chg hca fun i hi => .inr (.inl (hTR i hi)), E ++ [(⟨ek, es, et, ea, ep, en, ec⟩ : Ac)], row_chg ho2 hcs fun k hk e => ?_, ((hd.push he).re hY).chg hca fun i hi => .inr (.inl (hTR i hi)), fun k hk => ⟨.inr hk, fun e => ?_⟩⟩
  ·rcases hY i (.inr hi) with (h | h) | h
   ·rcases hi with hi | hi
    ·exact .inl hi
    ·rcases hbk with hb | ⟨k, hk, hb⟩
     ·rw [hb] at hi
      exact .inl (hva i hi).1
     ·rw [hb] at hi
      injection hi with hi
      exact .inr (by omega)
   ·exact .inl h
   ·exact .inr h
  ·rcases hi with hi | hi
   ·exact h9.sep i hi hz
   ·rcases hbk with hb | ⟨k, hk, hb⟩
    ·rw [hb] at hi
     exact h9.sep i (hva i hi).1 hz
    ·rw [hb] at hi
     injection hi with hi
     have := h9.zap i hz
     omega
  ·rcases hi with hi | hi
   ·have := h9.rap i hi
    have := hca.size
    omega
   ·exact Nat.lt_of_lt_of_le (hlt2 i hi) hsz
  ·unfold Rh
   rw [hr2.set 2]
   unfold rdC
   simp only [List.setIfInBounds_toArray, List.set_cons_succ, List.set_cons_zero]
  ·subst e
   rcases hbk with hb | ⟨k', hk', hb⟩
   ·rw [hb] at hk
    exact (hva k hk).2 rfl
   ·rw [hb] at hk
    injection hk with hk
    have := hh.lt
    omega
  ·subst e
   rcases hbk with hb | ⟨k', hk', hb⟩
   ·rw [hb] at hk
    exact (hva k hk).2 rfl
   ·rw [hb] at hk
    injection hk with hk
    have := hh.lt
    omega
 have hst : ∀ (W3 : World) (R' : Nat → Prop) (p' : Option Addr) (n' c' : Nat) (V : World), Chg w V R → (∀ i, R' i → R i ∨ w.heap.size ≤ i) → (∀ i, R i → R' i) → (∀ i, R' i → ¬ Z i) → (∀ i, R' i → i < V.heap.size) → Fil V (fun i => Z i ∨ R' i) vl st.last → ActR V (fun i => Z i ∨ R' i) (fun i => R' i ∧ i ≠ g) (.slice p' n' c') (st.acts ++ [d]) → Chg V W3 (fun i => i = g) → Rh W3 g { st with fn := st.fn - 1 } vl (.slice p' n' c') kp tr → RdIs W3 Z R' g (st.act d) ∧ Chg w W3 R := fun W3 R' p' n' c' V hc hR1 hR2 hR3 hR4 hf ha hc3 hr3 => by
  have hgR : R' g := hR2 g h9.in_
  have hca := hc.trans hc3 fun i hi => .inl (hi ▸ h9.in_)
  refine ⟨⟨hgR, fun i hi => Nat.lt_of_lt_of_le (hR4 i hi) hc3.size, fun i hi => Nat.lt_of_lt_of_le (h9.zap i hi) hca.size, hR3, vl, .slice p' n' c', kp, tr, hr3, ?_, hf.chg hc3 fun i hi => .inr (hi ▸ hgR), ha.chg hc3 (fun i hi => .inr (hi ▸ hgR)) fun i hi => hi.2⟩, hca⟩
  rcases hkt with h | h
  ·exact .inl (by show st.fn - 1 = 0; omega)
  ·exact .inr h
 have HST := hide hst
 have HKT := hide hkt
 have HOK := hide ok
 clear hst hkt ok he hra hva hd ho hl hh h9 h hhW hoW hbx hEl
 unfold acV
 dsimp only
 have hW9 := hW.symm
 clear hW
 go_enter Tryz.func81, Tryz.ntmps81
 go_wp2_with fail
 rename_i K hK
 go_region_law (refine step_pushA (by rfl) _ _ (by rfl) (by rfl) (v := .slice pa na ca) (u := .slice (some ⟨W.heap.size, 0, none⟩) 1 1) (l := E) (y := ⟨ek, es, et, ea, ep, en, ec⟩) (by rfl) (by rfl) (H2.out _ (by first | exact HBL.out | exact bel_drewN HBL.out 1)).2.2 HAO.out HEL.out ?_; intro v5 V5 ho5 hg5 hb5; obtain ⟨p5, n5, c5, rfl⟩ := ho5.acs.sl; have HU := hide (HUP.out _ _ _ _ _ (by first | exact HBL.out | exact bel_drewN HBL.out 1) ho5 hg5 hb5); obtain ⟨x2, xf2, _⟩ := HU.out; clear ho5 hg5 hb5)
 all_goals
  refine hK _ _ ?_
  clear hK
  obtain ⟨_, _, R', u1, u2, u3, u4, u5, u6, u7, u8⟩ := HU.out
  have HHIT := hide (rhit_any u6 hfu)
  have HU2 := hide (fun W3 hc3 hr3 => HST.out W3 R' _ _ _ _ u1 u2 u3 u4 u5 u7 u8 hc3 hr3)
  have HU3 := hide u2
  clear x2 xf2 u1 u2 u3 u4 u5 u6 u7 u8 HU HUP H2 k1 kf1 k1d k1e k1f b0 b1 b2 b3 b4 HST hW9
  go_wp2_with fail
  refine HHIT.out.mono ?_
  rintro r w3 ⟨rfl, hr3, hc3⟩
  obtain ⟨hD3, hc03⟩ := HU2.out _ hc3 hr3
  by_cases hfn : st.fn = 1
  ·rw [show (st.fn == 1) = true from beq_iff_eq.2 hfn]
   have hkp : kp = st.keep ∧ tr = st.tear := by
    rcases HKT.out with h | h
    ·omega
    ·exact h
   obtain ⟨hkp1, hkp2⟩ := hkp
   have z5 := hr3.c5
   have z6 := hr3.c6
   rw [hkp1] at z5
   rw [hkp2] at z6
   have hDd : RdIs w3.drew Z R' g (st.act d) := hD3.chg (T := fun _ => False) (Z' := Z) ((Chg.refl w3 _).drewN 1) (fun _ h => h.elim) fun i hi => .inl hi
   have hcd : Chg w w3.drew R := hc03.drewN 1
   have HFD := hide (show Calls Tryz.prog 55 #[.pointer (some ⟨g, 0, none⟩), .int .i64 st.keep, .int .i64 st.tear] w3.drew fun e w' => e = .returned (.tuple #[]) ∧ RPost w Z R g ((st.act d).fall st.keep st.tear) w' from
    (rfall_any hDd HOK.out hk hk' ht ht').mono fun e w' hp => ⟨hp.1, hp.2.after hcd HU3.out⟩)
   have e1 : st.perf d = (22, (st.act d).fall st.keep st.tear) := by unfold Dk.perf; rw [if_pos hfn]
   have E1 := hide e1
   clear hD3 hDd hcd hc03 hr3 hc3 e1 hkp1 hkp2 hfn HHIT HU2
   go_wp2_with fail
   go_region_law (go_simp; refine HFD.out.mono ?_; rintro r w4 ⟨rfl, hp4⟩; have HP4 := hide hp4; clear hp4)
   all_goals
    go_wp2
    go_ret
    rw [E1.out]
    exact ⟨rfl, HP4.out⟩
  ·rw [show (st.fn == 1) = false from beq_eq_false_iff_ne.2 hfn]
   have e1 : st.perf d = (0, st.act d) := by unfold Dk.perf; rw [if_neg hfn]
   have E1 := hide e1
   have HX := hide (show RPost w Z R g (st.act d) w3 from ⟨R', hD3, hc03, HU3.out⟩)
   clear hD3 hc03 hr3 hc3 e1 HHIT HU2
   go_wp2
   go_ret
   rw [E1.out]
   exact ⟨rfl, HX.out⟩
end Go.Proofs.YtgbdjcekpdfpjaaGreatDoor
namespace Go.Proofs.YtgbdjcekpdfpjaaGreatDoor
open Go.RowKit
theorem seen_rises {st : Dk} (ok : st.Ok) : Rises st.seen := runs_rises ok.rises st.acts
theorem ok_put {st : Dk} (ok : st.Ok) {k b : List UInt8} {a : Nat} (hd : st.down = false) (hm : st.acts.length < 1000000) (ha : a ≤ ((get st.seen k).getD []).length) (hr : st.used + b.length ≤ st.room) (hf : (get st.seen k).isSome = true ∨ st.seen.length < 4096) : (st.act (.put k a b)).Ok := by
 have h1 := seen_get ok k
 have h2 := ok.room
 have h3 := ok.most
 refine ok.act ⟨ha, by omega⟩ ?_ hr hd hm
 show (put st.seen k _).length ≤ 4096
 rw [length_put (seen_rises ok)]
 have h4 := seen_few ok
 rcases hf with h | h
 ·rw [if_pos h]
  exact h4
 ·split <;> omega
theorem ok_drop {st : Dk} (ok : st.Ok) {k : List UInt8} (hd : st.down = false) (hm : st.acts.length < 1000000) : (st.act (.drop k)).Ok := by
 have h2 := ok.room
 refine ok.act trivial ?_ (by show st.used + 0 ≤ _; omega) hd hm
 exact Nat.le_trans (del_le _ _) (seen_few ok)
theorem size_bs (d : Deed) : d.size = d.bs.length := by cases d <;> rfl
theorem sizes_take {D : List Deed} {j : Nat} {d : Deed} (h : D[j]? = some d) : sizes (D.take (j + 1)) = sizes (D.take j) + d.bs.length := by
 rw [List.take_add_one, h, Option.toList_some, sizes_snoc, size_bs]
theorem total_take {F : Fl} {j : Nat} {x : List UInt8 × List UInt8} (h : F[j]? = some x) : total (F.take (j + 1)) = total (F.take j) + x.2.length := by
 unfold total
 rw [List.take_add_one, h, Option.toList_some, List.map_append, List.sum_append]
 simp
theorem total_take_le (F : Fl) (j : Nat) : total (F.take j) ≤ total F := by
 unfold total
 have : F.map (fun p => p.2.length) = (F.take j).map (fun p => p.2.length) ++ (F.drop j).map (fun p => p.2.length) := by rw [← List.map_append, List.take_append_drop]
 rw [this, List.sum_append]
 omega
set_option maxRecDepth 200000 in
set_option maxHeartbeats 8000000 in
theorem rused_any {w : World} {Z R : Nat → Prop} {g : Nat} {st : Dk} (h : RdIs w Z R g st) (ok : st.Ok) :
  Calls Tryz.prog 70 #[.pointer (some ⟨g, 0, none⟩)] w fun e w' => e = .returned (.int .i64 ((if st.down then 0 else st.used : Nat) : Nat)) ∧ Chg w w' (fun _ => False) := by
 obtain ⟨vl, va, kp, tr, hh, hkt, hl, ha⟩ := h.parts
 obtain ⟨pl, nl, cl, rfl⟩ := hl.sl
 obtain ⟨pa, na, ca, rfl⟩ := ha.sl
 have hnl := hl.len.1
 have hna := ha.len.1
 have hnlm : (nl : Int) ≤ 9223372036854775807 := by have := hl.len; unfold maxLen at this; omega
 have hnam : (na : Int) ≤ 9223372036854775807 := by have := ha.len; unfold maxLen at this; omega
 have c3 := hh.c3
 have c1 := hh.c1
 have HH := hide hh
 have HL := hide hl
 have HA := hide ha
 have HNL := hide hnl
 have HNA := hide hna
 have HU := hide (show st.used = total st.last + sizes st.acts from rfl)
 have HUM := hide (show st.used ≤ 16777216 from Nat.le_trans ok.room ok.most)
 clear hl ha h hh hkt hnl hna ok
 rcases hd : st.down with _ | _
 ·rw [hd] at c3
  rw [if_neg (by decide)]
  go_enter Tryz.func70, Tryz.ntmps70
  go_wp2_with fail
  go_loopw [3, 5, 17] (fun u _ i wr => ∃ (j s : Nat), u = .int .i64 s ∧ j ≤ nl ∧ i = .int .i64 j ∧ Hid (Chg w wr (fun _ => False) ∧ s = total (st.last.take j))) (fun _ _ i _ => nl - (intOf i).toNat)
  case atStart => exact ⟨0, 0, rfl, Nat.zero_le _, rfl, hide ⟨Chg.refl _ _, by rw [List.take_zero]; rfl⟩⟩
  case round =>
   obtain ⟨j, s, rfl, hj, rfl, hrel⟩ := hrel
   have HC := hide hrel.out.1
   have HS := hide hrel.out.2
   clear hrel
   by_cases hjn : (j : Int) < (nl : Int)
   ·obtain ⟨x, hx⟩ : ∃ x, st.last[j]? = some x := ⟨_, List.getElem?_eq_getElem (by have := HNL.out; omega)⟩
    obtain ⟨gl, o, e, rfl, hat, hfe, hz⟩ := (HL.out.chg HC.out fun _ h => h.elim).at_ hx
    obtain ⟨es, ep, en, ec⟩ := e
    obtain ⟨oo, hoo⟩ : ∃ oo, o + j * 2 = oo := ⟨_, rfl⟩
    rw [hoo] at hat
    have e0 := hat.c0
    have e1 := hat.c1
    have hgl := hat.lt
    dsimp only at e0 e1
    have hen := hfe.by_.len.1
    dsimp only at hen
    have HT := hide (total_take hx)
    have HTL := hide (total_take_le st.last (j + 1))
    have HB := hide (HC.out.trans (chgA wr (.cells #[.string es, .slice ep en ec] 137)) fun _ h => .inl h)
    have hsum : IntKind.i64.wrap ((s : Int) + (en : Int)) = (s : Int) + (en : Int) := by
     rw [IntKind.wrap_i64]
     have := HT.out
     have := HTL.out
     have := HU.out
     have := HUM.out
     have := HS.out
     omega
    have HEN := hide hen
    clear hat hfe hz hx hen
    go_wp2
    go_roundw
    case rel => exact ⟨j + 1, s + en, by go_num, by omega, by go_num, hide ⟨HB.out, by rw [HT.out, ← HS.out, HEN.out]⟩⟩
    case measure => simp [intOf]; omega
   ·have e1 : st.last.take j = st.last := List.take_of_length_le (by have := HNL.out; omega)
    rw [e1] at HS
    have hr := HH.out.chg HC.out fun h => h
    have k2 := hr.c2
    have HC0 := hide HC.out
    have HS0 := hide HS.out
    clear hr HC HS e1
    go_wp2_with fail
    go_loopw [3, 7, 32] (fun u _ i wr => ∃ (j2 s2 : Nat), u = .int .i64 s2 ∧ j2 ≤ na ∧ i = .int .i64 j2 ∧ Hid (Chg w wr (fun _ => False) ∧ s2 = s + sizes (st.acts.take j2))) (fun _ _ i _ => na - (intOf i).toNat)
    case atStart => exact ⟨0, s, rfl, Nat.zero_le _, rfl, hide ⟨HC0.out, by rw [List.take_zero]; rfl⟩⟩
    case round =>
     obtain ⟨j2, s2, rfl, hj2, rfl, hrel⟩ := hrel
     have HC := hide hrel.out.1
     have HS := hide hrel.out.2
     clear hrel
     by_cases hjn2 : (j2 : Int) < (na : Int)
     ·obtain ⟨x, hx⟩ : ∃ x, st.acts[j2]? = some x := ⟨_, List.getElem?_eq_getElem (by have := HNA.out; omega)⟩
      obtain ⟨ga, oa, e, rfl, hat, hae, hra⟩ := (HA.out.chg HC.out (fun _ h => h.elim) fun _ _ h => h).at_ hx
      obtain ⟨ek, es, et, ea, ep, en, ec⟩ := e
      obtain ⟨oo, hoo⟩ : ∃ oo, oa + j2 * 5 = oo := ⟨_, rfl⟩
      rw [hoo] at hat
      have e0 := hat.c0
      have e1 := hat.c1
      have e2 := hat.c2
      have e3 := hat.c3
      have e4 := hat.c4
      have hgl := lt_of_cell e0
      dsimp only at e0 e1 e2 e3 e4 hgl
      have hen := hae.by_.len.1
      dsimp only at hen
      have HT := hide (sizes_take hx)
      have HTL := hide (sizes_take_le st.acts (j2 + 1))
      have HB := hide (HC.out.trans (chgA wr (.cells #[.int .i64 ek, .string es, .string et, .int .i64 ea, .slice ep en ec] 128)) fun _ h => .inl h)
      have hsum : IntKind.i64.wrap ((s2 : Int) + (en : Int)) = (s2 : Int) + (en : Int) := by
       rw [IntKind.wrap_i64]
       have := HT.out
       have := HTL.out
       have := HU.out
       have := HUM.out
       have := HS0.out
       have := HS.out
       omega
      have HEN := hide hen
      clear hat hae hra hx hen
      go_wp2
      go_roundw
      case rel => exact ⟨j2 + 1, s2 + en, by go_num, by omega, by go_num, hide ⟨HB.out, by rw [HT.out]; have := HS.out; have := HEN.out; omega⟩⟩
      case measure => simp [intOf]; omega
     ·have e1 : st.acts.take j2 = st.acts := List.take_of_length_le (by have := HNA.out; omega)
      rw [e1] at HS
      have hsu : s2 = st.used := by rw [HS.out, HS0.out, HU.out]
      have HSU := hide hsu
      clear e1 hsu
      go_wp2
      go_ret
      exact ⟨by rw [← HSU.out]; rfl, HC.out⟩
 ·rw [hd] at c3
  go_enter Tryz.func70, Tryz.ntmps70
  go_wp2
  go_ret
  exact ⟨rfl, Chg.refl _ _⟩
end Go.Proofs.YtgbdjcekpdfpjaaGreatDoor
