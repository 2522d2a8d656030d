/- The document's disk: an armed act is counted; the power goes. -/
import Derived.Test.YtdghkmpcjjmlfaaRdName
import Derived.Test.YtdghkmpcjjmlfaaDOwn
namespace Go.Proofs.Ytdghkmpcjjmlfaa
set_option linter.unusedVariables false
set_option linter.unusedSimpArgs false
open Go.RowKit

section
variable {w : World} {g : Nat} {st : Dk} {vl va : Value} {kp tr : Int}
theorem Rh.set (h : Rh w g st vl va kp tr) (i : Nat) (x : Value) : (w.setCell ⟨g, i, none⟩ x).heap[g]? = some (.cells ((rdC st vl va kp tr).setIfInBounds i x) 60 (0, 0)) := heap_setCell_same w g i _ 60 x h
end
theorem rchg_set (w : World) (g i : Nat) (x : Value) : Chg w (w.setCell ⟨g, i, none⟩ x) (fun k => k = g) := Chg.of_grown (grown_set _ _ _ _) _ fun k hk => .inl (by injection hk with hk; exact hk.symm)

set_option maxRecDepth 200000 in
set_option maxHeartbeats 2000000 in
theorem rhit_any {w : World} {g : Nat} {st : Dk} {vl va : Value} {kp tr : Int} (h : Rh w g st vl va kp tr) (hf : (st.fn : Int) ≤ 9223372036854775807) :
    Calls Try.prog 35 #[.pointer (some ⟨g, 0, none⟩)] w fun e w' => e = .returned (.bool (st.fn == 1)) ∧ Rh w' g { st with fn := st.fn - 1 } vl va kp tr ∧ Chg w w' (fun i => i = g) := by
  have c4 := h.c4
  have f4 := h.fr 4
  by_cases h0 : st.fn = 0
  · have q : ((st.fn : Int) == 0) = true := beq_iff_eq.2 (by omega)
    have e1 : (st.fn == 1) = false := beq_eq_false_iff_ne.2 (by omega)
    have HP := hide (show Rh w g { st with fn := st.fn - 1 } vl va kp tr from by
      have e2 : st.fn - 1 = st.fn := by omega
      show Rh w g { st with fn := st.fn - 1 } vl va kp tr
      rw [e2]
      exact h)
    have E1 := hide e1
    clear h e1 h0
    go_enter Try.func35, Try.ntmps35
    go_wp2
    go_ret
    exact ⟨by rw [E1.out]; rfl, HP.out, Chg.refl _ _⟩
  · have q : ((st.fn : Int) == 0) = false := beq_eq_false_iff_ne.2 (by omega)
    have hwr : IntKind.i64.wrap ((st.fn : Int) - 1) = (st.fn : Int) - 1 := by rw [IntKind.wrap_i64]; omega
    have hm2 : (((st.fn - 1 : Nat)) : Int) = (st.fn : Int) - 1 := by omega
    have hs := h.set 4 (.int .i64 ((st.fn : Int) - 1))
    have HP := hide (show Rh (w.setCell ⟨g, 4, none⟩ (.int .i64 ((st.fn : Int) - 1))) g { st with fn := st.fn - 1 } vl va kp tr from by
      unfold Rh
      rw [hs]
      unfold rdC
      simp only [List.setIfInBounds_toArray, List.set_cons_succ, List.set_cons_zero, hm2])
    have HC := hide (rchg_set w g 4 (.int .i64 ((st.fn : Int) - 1)))
    have E1 : Hid ((st.fn == 1) = ((st.fn : Int) - 1 == 0)) := hide (by rw [Bool.eq_iff_iff]; simp; omega)
    have hcn : (w.setCell ⟨g, 4, none⟩ (.int .i64 ((st.fn : Int) - 1))).cell? ⟨g, 4, none⟩ = some (.int .i64 ((st.fn : Int) - 1)) := World.cell?_setCell_same' _ _ _ (by rw [c4]; rfl)
    clear h hm2 hs h0
    go_enter Try.func35, Try.ntmps35
    go_wp2
    go_ret
    exact ⟨by rw [E1.out]; rfl, HP.out, HC.out⟩
theorem le_sum_of_mem' {l : List Nat} {x : Nat} (h : x ∈ l) : x ≤ l.sum := by
  induction l with
  | nil => simp at h
  | cons a r ih =>
    rw [List.sum_cons]
    rcases List.mem_cons.1 h with rfl | h
    · omega
    · have := ih h
      omega

/-- The files when so many acts were gone through. -/
def fallJ (st : Dk) (K t j : Nat) : Fl := if j = K then settleF st.last st.acts K t else runs st.last (st.acts.take j)
theorem fallJ_zero (st : Dk) (K t : Nat) : fallJ st K t 0 = st.last := by
  unfold fallJ settleF
  by_cases h : 0 = K
  · rw [if_pos h, if_pos h.symm]
  · rw [if_neg h]
    rfl
theorem fallJ_lt {st : Dk} {K t j : Nat} (h : j < K) : fallJ st K t j = runs st.last (st.acts.take j) := by
  unfold fallJ
  rw [if_neg (by omega)]
theorem fallJ_go {st : Dk} {K t j : Nat} {d : Deed} (hd : st.acts[j]? = some d) (h : j + 1 < K) : fallJ st K t (j + 1) = d.run (fallJ st K t j) 0 := by
  rw [fallJ_lt h, fallJ_lt (by omega), runs_step hd]
theorem fallJ_last {st : Dk} {K t j : Nat} {d : Deed} (hd : st.acts[j]? = some d) (h : j + 1 = K) : fallJ st K t (j + 1) = d.run (fallJ st K t j) (min t d.size) := by
  rw [fallJ_lt (j := j) (by omega)]
  unfold fallJ settleF
  rw [if_pos h, if_neg (by omega), show K - 1 = j by omega, hd]
theorem Deed.run_un {d : Deed} (F : Fl) {t : Nat} (h : t = 0 ∨ d.kd ≠ 0) : d.run F (min t d.size) = d.run F 0 := by
  rcases h with rfl | h
  · rw [Nat.zero_min]
  · cases d with
    | put k a b => exact absurd rfl h
    | trim k n => rfl
    | move k s => rfl
    | drop k => rfl
theorem Deed.run_torn (F : Fl) (k : List UInt8) (a : Nat) (b : List UInt8) (t : Nat) : (Deed.put k a b).run F (min t b.length) = (Deed.put k a (b.take (b.length - min t b.length))).run F 0 := by
  unfold Deed.run
  dsimp only
  rw [Nat.sub_zero, List.take_length]
theorem size_used {st : Dk} {j : Nat} {d : Deed} (h : st.acts[j]? = some d) : d.size ≤ st.used := by
  have h1 : d.size ≤ sizes st.acts := by
    unfold sizes
    exact le_sum_of_mem' (List.mem_map.2 ⟨d, List.mem_of_getElem? h, rfl⟩)
  unfold Dk.used
  omega

theorem RPost.alloc {w W : World} {Z R : Nat → Prop} {g : Nat} {st : Dk} (h : RPost w Z R g st W) (o : Obj) : RPost w Z R g st (W.alloc o) := by
  obtain ⟨R', h1, h2, h3⟩ := h
  exact ⟨R', h1.chg (chgA _ _) (fun _ h => h.elim) (fun i hi => .inl hi), h2.trans (chgA _ _) (fun _ h => h.elim), h3⟩
set_option maxRecDepth 200000 in
set_option maxHeartbeats 40000000 in
theorem rfall_any {w : World} {Z R : Nat → Prop} {g : Nat} {st : Dk} (h : RdIs w Z R g st) (ok : st.Ok) {keep tear : Int} (hk : keep ≤ 9223372036854775807) (hk' : -9223372036854775808 ≤ keep) (ht : tear ≤ 9223372036854775807) (ht' : -9223372036854775808 ≤ tear) :
    Calls Try.prog 36 #[.pointer (some ⟨g, 0, none⟩), .int .i64 keep, .int .i64 tear] w fun e w' => e = .returned (.tuple #[]) ∧ RPost w Z R g (st.fall keep tear) w' := by
  have h9 := h
  obtain ⟨vl, va, kp, tr, hh, hkt, hl, ha⟩ := h.parts
  obtain ⟨pl, nl, cl, rfl⟩ := hl.sl
  obtain ⟨pa, na, ca, rfl⟩ := ha.sl
  have hna := ha.len.1
  have hnm : (na : Int) ≤ 1000000 := by have := ok.many; omega
  have c2 := hh.c2
  have hZ : ∀ i, (Z i ∨ R i) → i < w.heap.size := fun i hi => hi.elim (h.zap i) (h.rap i)
  obtain ⟨K, hK⟩ : ∃ K, min (max keep 0).toNat st.acts.length = K := ⟨_, rfl⟩
  obtain ⟨t, htt⟩ : ∃ t, (max tear 0).toNat = t := ⟨_, rfl⟩
  have hKn : (K : Int) = min (max keep 0) (na : Int) := by omega
  have HKN := hide hKn
  have HTT := hide htt
  have HL := hide hl
  have HA := hide ha
  have HZ := hide hZ
  have HNA := hide hna
  have HOK := hide ok
  have HH := hide hh
  have HRG := hide h.in_
  have HGL := hide hh.lt
  have HEND : Hid (∀ (W : World) (q : Option Addr) (m d : Nat), Chg w W (fun i => i = g) → Rh W g st (.slice q m d) (.slice pa na ca) kp tr → Fil W (fun i => Z i ∨ R i) (.slice q m d) (fallJ st K t K) → RPost w Z R g (st.fall keep tear) (((W.setCell ⟨g, 2, none⟩ (.slice none 0 0)).setCell ⟨g, 3, none⟩ (.bool true)).setCell ⟨g, 4, none⟩ (.int .i64 0))) := hide fun W q m d hc hr hf => by
    have s2 := hr.set 2 (.slice none 0 0)
    have s3 := heap_setCell_same _ g 3 _ 60 (.bool true) s2
    have s4 := heap_setCell_same _ g 4 _ 60 (.int .i64 0) s3
    have hcs : Chg W (((W.setCell ⟨g, 2, none⟩ (.slice none 0 0)).setCell ⟨g, 3, none⟩ (.bool true)).setCell ⟨g, 4, none⟩ (.int .i64 0)) (fun i => i = g) := ((rchg_set _ _ _ _).trans (rchg_set _ _ _ _) fun _ h => .inl h).trans (rchg_set _ _ _ _) fun _ h => .inl h
    have hca := hc.trans hcs fun _ h => .inl h
    refine ⟨R, ⟨h9.in_, fun i hi => Nat.lt_of_lt_of_le (h9.rap i hi) hca.size, fun i hi => Nat.lt_of_lt_of_le (h9.zap i hi) hca.size, h9.sep, .slice q m d, .slice none 0 0, kp, tr, ?_, .inl rfl, ?_, ActR.nil _ _ _⟩, hca.mono fun i hi => hi ▸ h9.in_, fun i hi => .inl hi⟩
    · unfold Rh
      rw [s4]
      unfold rdC Dk.fall
      simp only [List.setIfInBounds_toArray, List.set_cons_succ, List.set_cons_zero]
      rfl
    · have e1 : (st.fall keep tear).last = fallJ st K t K := by
        unfold Dk.fall fallJ
        rw [if_pos rfl, hK, htt]
      rw [e1]
      exact hf.chg hcs fun i hi => .inr (hi ▸ h9.in_)
  clear hl ha h hh hkt hna hZ ok hK htt h9 hKn
  go_enter Try.func36, Try.ntmps36
  go_wp2_with fail
  go_loopw [6, 7, 13] (fun _ _ i wr => ∃ (j : Nat), j ≤ K ∧ i = .int .i64 j ∧ Hid (∃ (q : Option Addr) (m d : Nat), Chg w wr (fun i => i = g) ∧ Rh wr g st (.slice q m d) (.slice pa na ca) kp tr ∧ Fil wr (fun i => Z i ∨ R i) (.slice q m d) (fallJ st K t j))) (fun _ _ i _ => na - (intOf i).toNat)
  case atStart => exact ⟨0, Nat.zero_le _, rfl, hide ⟨_, _, _, Chg.refl _ _, HH.out, by rw [fallJ_zero]; exact HL.out⟩⟩
  case round =>
    obtain ⟨j, hj, rfl, hrel⟩ := hrel
    obtain ⟨q, m, d, hc0, hr0, hf0⟩ := hrel.out
    have HC := hide hc0
    have HR := hide hr0
    have HF := hide hf0
    clear hrel hc0 hr0 hf0
    by_cases hjK : j < K
    · have hjn : (j : Int) < (na : Int) := by have := HKN.out; omega
      have hjk : (keep ≤ (j : Int)) = False := eq_false (by have := HKN.out; omega)
      obtain ⟨x, hx⟩ : ∃ x, st.acts[j]? = some x := ⟨_, List.getElem?_eq_getElem (by have := HNA.out; omega)⟩
      obtain ⟨ga, oa, e, rfl, hat, hae, hra⟩ := (HA.out.chg HC.out (fun i hi => .inr (hi ▸ HRG.out)) fun i hi hg => hi.2 hg).at_ hx
      have hfit := HOK.out.fits j x hx
      have hfew := HOK.out.few j (by have := HNA.out; omega)
      have hsz : x.size ≤ 16777216 := Nat.le_trans (size_used hx) (Nat.le_trans HOK.out.room HOK.out.most)
      have HX := hide hx
      obtain ⟨ek, es, et, ea, ep, en, ec⟩ := e
      obtain ⟨oo, hoo⟩ : ∃ oo, oa + j * 5 = oo := ⟨_, rfl⟩
      rw [hoo] at hat
      have e0 := hat.c0
      have e1 := hat.c1
      have e2 := hat.c2
      have e3 := hat.c3
      have e4 := hat.c4
      have hgl := lt_of_cell e0
      dsimp only at e0 e1 e2 e3 e4 hgl
      have hgr : g < wr.heap.size := Nat.lt_of_lt_of_le HGL.out HC.out.size
      have r2 := HR.out.c2
      have hrun := fallJ_lt (st := st) (t := t) hjK
      have HUPX : ∀ (e' : Ac) (d' : Deed), fallJ st K t (j + 1) = d'.run (fallJ st K t j) 0 → d'.fits (fallJ st K t j) → ∀ (WA : World), WA = wr.alloc (.cells #[.int .i64 e'.k, .string e'.s, .string e'.t, .int .i64 e'.a, .slice e'.p e'.n e'.c] 66) → Ae wr (fun i => Z i ∨ R i) e' d' →
          (∀ V, Below WA.heap.size WA V → Calls Try.prog 61 #[.slice q m d, acV e'] V (fun e w' => ∃ p5 n5 c5, e = .returned (.slice p5 n5 c5) ∧ Fil w' (fun i => Z i ∨ R i) (.slice p5 n5 c5) (fallJ st K t (j + 1)) ∧ Below WA.heap.size WA w')) ∧
          (∀ V, Below WA.heap.size WA V → V.cell? ⟨g, 1, none⟩ = some (.slice q m d) ∧ V.frozen? ⟨g, 1, none⟩ = false) ∧
          (∀ (V : World) (p5 : Option Addr) (n5 c5 : Nat), Below WA.heap.size WA V → Fil V (fun i => Z i ∨ R i) (.slice p5 n5 c5) (fallJ st K t (j + 1)) → Hid (∃ (q : Option Addr) (m d : Nat), Chg w (V.setCell ⟨g, 1, none⟩ (.slice p5 n5 c5)) (fun i => i = g) ∧ Rh (V.setCell ⟨g, 1, none⟩ (.slice p5 n5 c5)) g st (.slice q m d) (.slice (some ⟨ga, oa, none⟩) na ca) kp tr ∧ Fil (V.setCell ⟨g, 1, none⟩ (.slice p5 n5 c5)) (fun i => Z i ∨ R i) (.slice q m d) (fallJ st K t (j + 1)))) := by
        intro e' d' hrd hfd WA hWA hae'
        have hcA : Chg wr WA (fun _ => False) := hWA ▸ chgA _ _
        have hZr : ∀ i, (Z i ∨ R i) → i < WA.heap.size := fun i hi => Nat.lt_of_lt_of_le (HZ.out i hi) (Nat.le_trans HC.out.size hcA.size)
        refine ⟨fun V hV => ?_, fun V hV => ?_, fun V p5 n5 c5 hV hf => ?_⟩
        · have hcV : Chg wr V (fun _ => False) := hcA.trans (Chg.of_below hV _) fun _ h => .inl h
          refine (rdo_any (HF.out.chg hcV fun _ h => h.elim) (fun i hi => Nat.lt_of_lt_of_le (hZr i hi) hV.size) (by rw [hrun]; omega) (hae'.chg hcV fun _ h => h.elim) hfd).mono fun e w' hp => ?_
          obtain ⟨p5, n5, c5, rfl, hf5, hc5⟩ := hp
          rw [← hrd] at hf5
          have hz := hV.size
          exact ⟨p5, n5, c5, rfl, hf5, hc5.os.trans hV.os, hc5.tape.trans hV.tape, hc5.output.trans hV.output, Nat.le_trans hz hc5.size, fun k hk => (hc5.block k (by omega) fun h => h).trans (hV.block k hk)⟩
        · have hcV : Chg wr V (fun _ => False) := hcA.trans (Chg.of_below hV _) fun _ h => .inl h
          have hr := HR.out.chg hcV fun h => h
          exact ⟨hr.c1, hr.fr 1⟩
        · have hcV : Chg wr V (fun _ => False) := hcA.trans (Chg.of_below hV _) fun _ h => .inl h
          have hr := HR.out.chg hcV fun h => h
          have hcs := rchg_set V g 1 (.slice p5 n5 c5)
          refine hide ⟨p5, n5, c5, (HC.out.trans hcV fun _ h => h.elim).trans hcs fun _ h => .inl h, ?_, hf.chg hcs fun i hi => .inr (hi ▸ HRG.out)⟩
          unfold Rh
          rw [hr.set 1]
          unfold rdC
          simp only [List.setIfInBounds_toArray, List.set_cons_succ, List.set_cons_zero]
      by_cases hkd : x.kd = 0
      · obtain ⟨k, a, b, rfl⟩ : ∃ k a b, x = .put k a b := by
          cases x with
          | put k a b => exact ⟨k, a, b, rfl⟩
          | trim k n => simp [Deed.kd] at hkd
          | move k s => simp [Deed.kd] at hkd
          | drop k => simp [Deed.kd] at hkd
        obtain rfl : ek = 0 := hae.kd
        have hwk : IntKind.i64.wrap (keep - 1) = keep - 1 := by rw [IntKind.wrap_i64]; have := HKN.out; omega
        have hwn : IntKind.i64.wrap ((na : Int) - 1) = (na : Int) - 1 := by rw [IntKind.wrap_i64]; omega
        have hbl := hae.by_.len.1
        rw [← hrun] at hfit
        by_cases h1 : (j : Int) = keep - 1
        · have q1 : ((j : Int) == keep - 1) = true := beq_iff_eq.2 h1
          by_cases h3 : 0 < tear
          · skip
            have hjl : j + 1 = K := by have := HKN.out; omega
            have HJL := hide hjl
            obtain ⟨M, hM⟩ : ∃ M, b.length - min t b.length = M := ⟨_, rfl⟩
            change en = b.length at hbl
            change b.length ≤ 16777216 at hsz
            have htt := HTT.out
            have hws : IntKind.i64.wrap ((en : Int) - min tear 1073741824) = (en : Int) - min tear 1073741824 := by rw [IntKind.wrap_i64]; omega
            have hmx : max 0 ((en : Int) - min tear 1073741824) = (M : Int) := by omega
            have hMe : M ≤ en := by omega
            have hec := hae.by_.len.2
            dsimp only at hec
            have hcut := fun W => run_cut_to W ep en ec M (by omega)
            have hoff2 : b.take M = [] ∨ ∀ k, (Value.slice ep M ec).ownBlock = some k → ¬ (Z k ∨ R k) := by
              rcases hae.off with h | h
              · exact .inl (by rw [show b = [] from h]; exact List.take_nil)
              · exact .inr fun k hk => h k (by rcases ep with _ | ep <;> exact hk)
            have hae2 : Ae wr (fun i => Z i ∨ R i) ⟨0, es, et, ea, ep, M, ec⟩ (.put k a (b.take M)) := ⟨rfl, hae.nm, hae.tt, hae.ns, hae.ts, hae.pl, cut_to hae.by_ hMe, hoff2⟩
            have hrd : fallJ st K t (j + 1) = (Deed.put k a (b.take M)).run (fallJ st K t j) 0 := by
              rw [fallJ_last hx hjl]
              show (Deed.put k a b).run _ (min t b.length) = _
              rw [Deed.run_torn, hM]
            have hfd : (Deed.put k a (b.take M)).fits (fallJ st K t j) := ⟨hfit.1, by have := hfit.2; rw [List.length_take]; omega⟩
            clear hjl htt hec hM hbl hsz h1
            obtain ⟨WA, hWA⟩ : ∃ WA, WA = wr.alloc (.cells #[.int .i64 0, .string es, .string et, .int .i64 ea, .slice ep M ec] 66) := ⟨_, rfl⟩
            obtain ⟨hdo, hcl, hup⟩ := HUPX ⟨0, es, et, ea, ep, M, ec⟩ (.put k a (b.take M)) hrd hfd WA hWA hae2
            have hbx : WA.heap[wr.heap.size]? = some (.cells #[.int .i64 0, .string es, .string et, .int .i64 ea, .slice ep M ec] 66) := hWA ▸ heap_alloc_new wr _
            have b0 := cell_of_row WA wr.heap.size 0 _ 66 (0, 0) hbx
            have b1 := cell_of_row WA wr.heap.size 1 _ 66 (0, 0) hbx
            have b2 := cell_of_row WA wr.heap.size 2 _ 66 (0, 0) hbx
            have b3 := cell_of_row WA wr.heap.size 3 _ 66 (0, 0) hbx
            have b4 := cell_of_row WA wr.heap.size 4 _ 66 (0, 0) hbx
            obtain ⟨k1, kf1⟩ := hcl WA (Below.refl _ _)
            obtain ⟨k1d, _⟩ := hcl WA.drew (bel_drewN (Below.refl _ _) 1)
            have HDO := hide hdo
            have HCL := hide hcl
            have HUP := hide hup
            unfold acV at HDO
            dsimp only at HDO b0 b1 b2 b3 b4
            have r2A : WA.cell? ⟨g, 2, none⟩ = some (.slice (some ⟨ga, oa, none⟩) na ca) := (HR.out.chg (hWA ▸ chgA _ _) fun h => h).c2
            have r2B : (wr.alloc (.cells #[.int .i64 0, .string es, .string et, .int .i64 ea, .slice ep en ec] 66)).cell? ⟨g, 2, none⟩ = some (.slice (some ⟨ga, oa, none⟩) na ca) := (HR.out.chg (chgA _ _) fun h => h).c2
            have hW9 := hWA.symm
            clear hdo hcl hup hWA HUPX hae hfit hfew hat hra hbx hrun hx
            go_wp2_with fail
            go_region_law (go_simp; refine (HDO.out _ (by first | exact Below.refl _ _ | exact bel_drewN (Below.refl _ _) 1)).mono ?_; rintro e5 w5 ⟨p5, n5, c5, rfl, hf5, hb5⟩; have HF5 := hide hf5; have HB5 := hide hb5; obtain ⟨k1, kf1⟩ := HCL.out _ hb5; clear hf5 hb5)
            all_goals
              have H6 := hide (HUP.out _ _ _ _ HB5.out HF5.out).out
              go_wp2
              go_roundw
              case rel => exact ⟨j + 1, by omega, by go_num, H6⟩
              case measure => simp [intOf]; omega
          · have h4 : (0 < tear) = False := eq_false h3
            have hrd : fallJ st K t (j + 1) = (Deed.put k a b).run (fallJ st K t j) 0 := by
              rw [fallJ_last hx (by have := HKN.out; omega), Deed.run_un _ (.inl (by have := HTT.out; omega))]
            clear hbl hsz h1 h3
            obtain ⟨WA, hWA⟩ : ∃ WA, WA = wr.alloc (.cells #[.int .i64 0, .string es, .string et, .int .i64 ea, .slice ep en ec] 66) := ⟨_, rfl⟩
            obtain ⟨hdo, hcl, hup⟩ := HUPX ⟨0, es, et, ea, ep, en, ec⟩ (.put k a b) hrd hfit WA hWA hae
            have hbx : WA.heap[wr.heap.size]? = some (.cells #[.int .i64 0, .string es, .string et, .int .i64 ea, .slice ep en ec] 66) := hWA ▸ heap_alloc_new wr _
            have b0 := cell_of_row WA wr.heap.size 0 _ 66 (0, 0) hbx
            have b1 := cell_of_row WA wr.heap.size 1 _ 66 (0, 0) hbx
            have b2 := cell_of_row WA wr.heap.size 2 _ 66 (0, 0) hbx
            have b3 := cell_of_row WA wr.heap.size 3 _ 66 (0, 0) hbx
            have b4 := cell_of_row WA wr.heap.size 4 _ 66 (0, 0) hbx
            obtain ⟨k1, kf1⟩ := hcl WA (Below.refl _ _)
            obtain ⟨k1d, _⟩ := hcl WA.drew (bel_drewN (Below.refl _ _) 1)
            have HDO := hide hdo
            have HCL := hide hcl
            have HUP := hide hup
            unfold acV at HDO
            dsimp only at HDO b0 b1 b2 b3 b4
            have r2A : WA.cell? ⟨g, 2, none⟩ = some (.slice (some ⟨ga, oa, none⟩) na ca) := (HR.out.chg (hWA ▸ chgA _ _) fun h => h).c2
            have r2B : (wr.alloc (.cells #[.int .i64 0, .string es, .string et, .int .i64 ea, .slice ep en ec] 66)).cell? ⟨g, 2, none⟩ = some (.slice (some ⟨ga, oa, none⟩) na ca) := (HR.out.chg (chgA _ _) fun h => h).c2
            have hW9 := hWA.symm
            clear hdo hcl hup hWA HUPX hae hfit hfew hat hra hbx hrun hx
            go_wp2_with fail
            go_region_law (go_simp; refine (HDO.out _ (by first | exact Below.refl _ _ | exact bel_drewN (Below.refl _ _) 1)).mono ?_; rintro e5 w5 ⟨p5, n5, c5, rfl, hf5, hb5⟩; have HF5 := hide hf5; have HB5 := hide hb5; obtain ⟨k1, kf1⟩ := HCL.out _ hb5; clear hf5 hb5)
            all_goals
              have H6 := hide (HUP.out _ _ _ _ HB5.out HF5.out).out
              go_wp2
              go_roundw
              case rel => exact ⟨j + 1, by omega, by go_num, H6⟩
              case measure => simp [intOf]; omega
        · have q1 : ((j : Int) == keep - 1) = false := beq_eq_false_iff_ne.2 h1
          by_cases h2 : (j : Int) = (na : Int) - 1
          · have q2 : ((j : Int) == (na : Int) - 1) = true := beq_iff_eq.2 h2
            by_cases h3 : 0 < tear
            · skip
              have hjl : j + 1 = K := by have := HKN.out; omega
              have HJL := hide hjl
              obtain ⟨M, hM⟩ : ∃ M, b.length - min t b.length = M := ⟨_, rfl⟩
              change en = b.length at hbl
              change b.length ≤ 16777216 at hsz
              have htt := HTT.out
              have hws : IntKind.i64.wrap ((en : Int) - min tear 1073741824) = (en : Int) - min tear 1073741824 := by rw [IntKind.wrap_i64]; omega
              have hmx : max 0 ((en : Int) - min tear 1073741824) = (M : Int) := by omega
              have hMe : M ≤ en := by omega
              have hec := hae.by_.len.2
              dsimp only at hec
              have hcut := fun W => run_cut_to W ep en ec M (by omega)
              have hoff2 : b.take M = [] ∨ ∀ k, (Value.slice ep M ec).ownBlock = some k → ¬ (Z k ∨ R k) := by
                rcases hae.off with h | h
                · exact .inl (by rw [show b = [] from h]; exact List.take_nil)
                · exact .inr fun k hk => h k (by rcases ep with _ | ep <;> exact hk)
              have hae2 : Ae wr (fun i => Z i ∨ R i) ⟨0, es, et, ea, ep, M, ec⟩ (.put k a (b.take M)) := ⟨rfl, hae.nm, hae.tt, hae.ns, hae.ts, hae.pl, cut_to hae.by_ hMe, hoff2⟩
              have hrd : fallJ st K t (j + 1) = (Deed.put k a (b.take M)).run (fallJ st K t j) 0 := by
                rw [fallJ_last hx hjl]
                show (Deed.put k a b).run _ (min t b.length) = _
                rw [Deed.run_torn, hM]
              have hfd : (Deed.put k a (b.take M)).fits (fallJ st K t j) := ⟨hfit.1, by have := hfit.2; rw [List.length_take]; omega⟩
              clear hjl htt hec hM hbl hsz h1 h2
              obtain ⟨WA, hWA⟩ : ∃ WA, WA = wr.alloc (.cells #[.int .i64 0, .string es, .string et, .int .i64 ea, .slice ep M ec] 66) := ⟨_, rfl⟩
              obtain ⟨hdo, hcl, hup⟩ := HUPX ⟨0, es, et, ea, ep, M, ec⟩ (.put k a (b.take M)) hrd hfd WA hWA hae2
              have hbx : WA.heap[wr.heap.size]? = some (.cells #[.int .i64 0, .string es, .string et, .int .i64 ea, .slice ep M ec] 66) := hWA ▸ heap_alloc_new wr _
              have b0 := cell_of_row WA wr.heap.size 0 _ 66 (0, 0) hbx
              have b1 := cell_of_row WA wr.heap.size 1 _ 66 (0, 0) hbx
              have b2 := cell_of_row WA wr.heap.size 2 _ 66 (0, 0) hbx
              have b3 := cell_of_row WA wr.heap.size 3 _ 66 (0, 0) hbx
              have b4 := cell_of_row WA wr.heap.size 4 _ 66 (0, 0) hbx
              obtain ⟨k1, kf1⟩ := hcl WA (Below.refl _ _)
              obtain ⟨k1d, _⟩ := hcl WA.drew (bel_drewN (Below.refl _ _) 1)
              have HDO := hide hdo
              have HCL := hide hcl
              have HUP := hide hup
              unfold acV at HDO
              dsimp only at HDO b0 b1 b2 b3 b4
              have r2A : WA.cell? ⟨g, 2, none⟩ = some (.slice (some ⟨ga, oa, none⟩) na ca) := (HR.out.chg (hWA ▸ chgA _ _) fun h => h).c2
              have r2B : (wr.alloc (.cells #[.int .i64 0, .string es, .string et, .int .i64 ea, .slice ep en ec] 66)).cell? ⟨g, 2, none⟩ = some (.slice (some ⟨ga, oa, none⟩) na ca) := (HR.out.chg (chgA _ _) fun h => h).c2
              have hW9 := hWA.symm
              clear hdo hcl hup hWA HUPX hae hfit hfew hat hra hbx hrun hx
              go_wp2_with fail
              go_region_law (go_simp; refine (HDO.out _ (by first | exact Below.refl _ _ | exact bel_drewN (Below.refl _ _) 1)).mono ?_; rintro e5 w5 ⟨p5, n5, c5, rfl, hf5, hb5⟩; have HF5 := hide hf5; have HB5 := hide hb5; obtain ⟨k1, kf1⟩ := HCL.out _ hb5; clear hf5 hb5)
              all_goals
                have H6 := hide (HUP.out _ _ _ _ HB5.out HF5.out).out
                go_wp2
                go_roundw
                case rel => exact ⟨j + 1, by omega, by go_num, H6⟩
                case measure => simp [intOf]; omega
            · have h4 : (0 < tear) = False := eq_false h3
              have hrd : fallJ st K t (j + 1) = (Deed.put k a b).run (fallJ st K t j) 0 := by
                rw [fallJ_last hx (by have := HKN.out; omega), Deed.run_un _ (.inl (by have := HTT.out; omega))]
              clear hbl hsz h1 h2 h3
              obtain ⟨WA, hWA⟩ : ∃ WA, WA = wr.alloc (.cells #[.int .i64 0, .string es, .string et, .int .i64 ea, .slice ep en ec] 66) := ⟨_, rfl⟩
              obtain ⟨hdo, hcl, hup⟩ := HUPX ⟨0, es, et, ea, ep, en, ec⟩ (.put k a b) hrd hfit WA hWA hae
              have hbx : WA.heap[wr.heap.size]? = some (.cells #[.int .i64 0, .string es, .string et, .int .i64 ea, .slice ep en ec] 66) := hWA ▸ heap_alloc_new wr _
              have b0 := cell_of_row WA wr.heap.size 0 _ 66 (0, 0) hbx
              have b1 := cell_of_row WA wr.heap.size 1 _ 66 (0, 0) hbx
              have b2 := cell_of_row WA wr.heap.size 2 _ 66 (0, 0) hbx
              have b3 := cell_of_row WA wr.heap.size 3 _ 66 (0, 0) hbx
              have b4 := cell_of_row WA wr.heap.size 4 _ 66 (0, 0) hbx
              obtain ⟨k1, kf1⟩ := hcl WA (Below.refl _ _)
              obtain ⟨k1d, _⟩ := hcl WA.drew (bel_drewN (Below.refl _ _) 1)
              have HDO := hide hdo
              have HCL := hide hcl
              have HUP := hide hup
              unfold acV at HDO
              dsimp only at HDO b0 b1 b2 b3 b4
              have r2A : WA.cell? ⟨g, 2, none⟩ = some (.slice (some ⟨ga, oa, none⟩) na ca) := (HR.out.chg (hWA ▸ chgA _ _) fun h => h).c2
              have r2B : (wr.alloc (.cells #[.int .i64 0, .string es, .string et, .int .i64 ea, .slice ep en ec] 66)).cell? ⟨g, 2, none⟩ = some (.slice (some ⟨ga, oa, none⟩) na ca) := (HR.out.chg (chgA _ _) fun h => h).c2
              have hW9 := hWA.symm
              clear hdo hcl hup hWA HUPX hae hfit hfew hat hra hbx hrun hx
              go_wp2_with fail
              go_region_law (go_simp; refine (HDO.out _ (by first | exact Below.refl _ _ | exact bel_drewN (Below.refl _ _) 1)).mono ?_; rintro e5 w5 ⟨p5, n5, c5, rfl, hf5, hb5⟩; have HF5 := hide hf5; have HB5 := hide hb5; obtain ⟨k1, kf1⟩ := HCL.out _ hb5; clear hf5 hb5)
              all_goals
                have H6 := hide (HUP.out _ _ _ _ HB5.out HF5.out).out
                go_wp2
                go_roundw
                case rel => exact ⟨j + 1, by omega, by go_num, H6⟩
                case measure => simp [intOf]; omega
          · have q2 : ((j : Int) == (na : Int) - 1) = false := beq_eq_false_iff_ne.2 h2
            have hrd : fallJ st K t (j + 1) = (Deed.put k a b).run (fallJ st K t j) 0 := fallJ_go hx (by have := HKN.out; omega)
            clear hbl hsz h1 h2
            obtain ⟨WA, hWA⟩ : ∃ WA, WA = wr.alloc (.cells #[.int .i64 0, .string es, .string et, .int .i64 ea, .slice ep en ec] 66) := ⟨_, rfl⟩
            obtain ⟨hdo, hcl, hup⟩ := HUPX ⟨0, es, et, ea, ep, en, ec⟩ (.put k a b) hrd hfit WA hWA hae
            have hbx : WA.heap[wr.heap.size]? = some (.cells #[.int .i64 0, .string es, .string et, .int .i64 ea, .slice ep en ec] 66) := hWA ▸ heap_alloc_new wr _
            have b0 := cell_of_row WA wr.heap.size 0 _ 66 (0, 0) hbx
            have b1 := cell_of_row WA wr.heap.size 1 _ 66 (0, 0) hbx
            have b2 := cell_of_row WA wr.heap.size 2 _ 66 (0, 0) hbx
            have b3 := cell_of_row WA wr.heap.size 3 _ 66 (0, 0) hbx
            have b4 := cell_of_row WA wr.heap.size 4 _ 66 (0, 0) hbx
            obtain ⟨k1, kf1⟩ := hcl WA (Below.refl _ _)
            obtain ⟨k1d, _⟩ := hcl WA.drew (bel_drewN (Below.refl _ _) 1)
            have HDO := hide hdo
            have HCL := hide hcl
            have HUP := hide hup
            unfold acV at HDO
            dsimp only at HDO b0 b1 b2 b3 b4
            have r2A : WA.cell? ⟨g, 2, none⟩ = some (.slice (some ⟨ga, oa, none⟩) na ca) := (HR.out.chg (hWA ▸ chgA _ _) fun h => h).c2
            have r2B : (wr.alloc (.cells #[.int .i64 0, .string es, .string et, .int .i64 ea, .slice ep en ec] 66)).cell? ⟨g, 2, none⟩ = some (.slice (some ⟨ga, oa, none⟩) na ca) := (HR.out.chg (chgA _ _) fun h => h).c2
            have hW9 := hWA.symm
            clear hdo hcl hup hWA HUPX hae hfit hfew hat hra hbx hrun hx
            go_wp2_with fail
            go_region_law (go_simp; refine (HDO.out _ (by first | exact Below.refl _ _ | exact bel_drewN (Below.refl _ _) 1)).mono ?_; rintro e5 w5 ⟨p5, n5, c5, rfl, hf5, hb5⟩; have HF5 := hide hf5; have HB5 := hide hb5; obtain ⟨k1, kf1⟩ := HCL.out _ hb5; clear hf5 hb5)
            all_goals
              have H6 := hide (HUP.out _ _ _ _ HB5.out HF5.out).out
              go_wp2
              go_roundw
              case rel => exact ⟨j + 1, by omega, by go_num, H6⟩
              case measure => simp [intOf]; omega
      · have hek : ek ≠ 0 := by have := hae.kd; dsimp only at this; omega
        have q0 : (ek == 0) = false := beq_eq_false_iff_ne.2 hek
        have hrd : fallJ st K t (j + 1) = x.run (fallJ st K t j) 0 := by
          by_cases hl : j + 1 = K
          · rw [fallJ_last hx hl, Deed.run_un _ (.inr hkd)]
          · exact fallJ_go hx (by omega)
        rw [← hrun] at hfit
        obtain ⟨WA, hWA⟩ : ∃ WA, WA = wr.alloc (.cells #[.int .i64 ek, .string es, .string et, .int .i64 ea, .slice ep en ec] 66) := ⟨_, rfl⟩
        obtain ⟨hdo, hcl, hup⟩ := HUPX ⟨ek, es, et, ea, ep, en, ec⟩ x hrd hfit WA hWA hae
        have hbx : WA.heap[wr.heap.size]? = some (.cells #[.int .i64 ek, .string es, .string et, .int .i64 ea, .slice ep en ec] 66) := hWA ▸ heap_alloc_new wr _
        have b0 := cell_of_row WA wr.heap.size 0 _ 66 (0, 0) hbx
        have b1 := cell_of_row WA wr.heap.size 1 _ 66 (0, 0) hbx
        have b2 := cell_of_row WA wr.heap.size 2 _ 66 (0, 0) hbx
        have b3 := cell_of_row WA wr.heap.size 3 _ 66 (0, 0) hbx
        have b4 := cell_of_row WA wr.heap.size 4 _ 66 (0, 0) hbx
        obtain ⟨k1, kf1⟩ := hcl WA (Below.refl _ _)
        obtain ⟨k1d, _⟩ := hcl WA.drew (bel_drewN (Below.refl _ _) 1)
        have HDO := hide hdo
        have HCL := hide hcl
        have HUP := hide hup
        unfold acV at HDO
        dsimp only at HDO b0 b1 b2 b3 b4
        have r2A : WA.cell? ⟨g, 2, none⟩ = some (.slice (some ⟨ga, oa, none⟩) na ca) := (HR.out.chg (hWA ▸ chgA _ _) fun h => h).c2
        have r2B : (wr.alloc (.cells #[.int .i64 ek, .string es, .string et, .int .i64 ea, .slice ep en ec] 66)).cell? ⟨g, 2, none⟩ = some (.slice (some ⟨ga, oa, none⟩) na ca) := (HR.out.chg (chgA _ _) fun h => h).c2
        have hW9 := hWA.symm
        clear hdo hcl hup hWA HUPX hae hfit hfew hat hra hbx hrun hx
        go_wp2_with fail
        go_region_law (go_simp; refine (HDO.out _ (by first | exact Below.refl _ _ | exact bel_drewN (Below.refl _ _) 1)).mono ?_; rintro e5 w5 ⟨p5, n5, c5, rfl, hf5, hb5⟩; have HF5 := hide hf5; have HB5 := hide hb5; obtain ⟨k1, kf1⟩ := HCL.out _ hb5; clear hf5 hb5)
        all_goals
          have H6 := hide (HUP.out _ _ _ _ HB5.out HF5.out).out
          go_wp2
          go_roundw
          case rel => exact ⟨j + 1, by omega, by go_num, H6⟩
          case measure => simp [intOf]; omega
    · obtain rfl : j = K := by omega
      have HP := hide (HEND.out _ _ _ _ HC.out HR.out HF.out)
      have f2 := HR.out.fr 2
      have f3 := HR.out.fr 3
      have f4 := HR.out.fr 4
      have g2 := HR.out.c2
      have g3 := HR.out.c3
      have g4 := HR.out.c4
      by_cases hjn : (j : Int) < (na : Int)
      · have hjk : keep ≤ (j : Int) := by have := HKN.out; omega
        obtain ⟨x, hx⟩ : ∃ x, st.acts[j]? = some x := ⟨_, List.getElem?_eq_getElem (by have := HNA.out; omega)⟩
        obtain ⟨ga, oa, e, rfl, hat, hae, hra⟩ := (HA.out.chg HC.out (fun i hi => .inr (hi ▸ HRG.out)) fun i hi hg => hi.2 hg).at_ hx
        obtain ⟨ek, es, et, ea, ep, en, ec⟩ := e
        obtain ⟨oo, hoo⟩ : ∃ oo, oa + j * 5 = oo := ⟨_, rfl⟩
        rw [hoo] at hat
        have e0 := hat.c0
        have e1 := hat.c1
        have e2 := hat.c2
        have e3 := hat.c3
        have e4 := hat.c4
        have hgl := lt_of_cell e0
        dsimp only at e0 e1 e2 e3 e4 hgl
        have hcA := chgA wr (.cells #[.int .i64 ek, .string es, .string et, .int .i64 ea, .slice ep en ec] 66)
        have HP2 := hide (HP.out.alloc (.cells #[.int .i64 ek, .string es, .string et, .int .i64 ea, .slice ep en ec] 66))
        have hgr : g < wr.heap.size := Nat.lt_of_lt_of_le HGL.out HC.out.size
        clear hat hae hra hx hcA HP HC HR HF
        go_wp2
        go_end0
        exact ⟨rfl, HP2.out⟩
      · clear HC HR HF
        go_wp2
        go_end0
        exact ⟨rfl, HP.out⟩
end Go.Proofs.Ytdghkmpcjjmlfaa
