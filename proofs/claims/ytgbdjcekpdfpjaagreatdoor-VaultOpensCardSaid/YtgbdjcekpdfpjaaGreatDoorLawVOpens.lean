import Derived.Test.YtgbdjcekpdfpjaaGreatDoorVrTells
import Derived.Test.YtgbdjcekpdfpjaaGreatDoorVq
import Derived.Test.YtgbdjcekpdfpjaaGreatDoorVh
import Derived.Deep.RegionHeld3
set_option linter.unusedVariables false
set_option linter.unusedSimpArgs false
namespace Go.Proofs.YtgbdjcekpdfpjaaGreatDoor
open Go.RowKit
def smF (l : List Dfi) : Nat := (l.map fun d => min d.b.length 65536).sum
def lnF (l : List Dfi) : Nat := (l.map fun d => d.b.length).sum
theorem smF_succ {l : List Dfi} {j : Nat} {d : Dfi} (h : l[j]? = some d) : smF (l.take (j + 1)) = smF (l.take j) + min d.b.length 65536 := by
 unfold smF
 rw [List.take_add_one, h]
 simp [List.sum_append]
theorem lnF_succ {l : List Dfi} {j : Nat} {d : Dfi} (h : l[j]? = some d) : lnF (l.take (j + 1)) = lnF (l.take j) + d.b.length := by
 unfold lnF
 rw [List.take_add_one, h]
 simp [List.sum_append]
theorem smF_bound : ∀ (l : List Dfi) (j : Nat), smF (l.take j) ≤ j * 65536
 | [], j => by simp [smF]
 | a :: r, 0 => by simp [smF]
 | a :: r, j + 1 => by
  have := smF_bound r j
  unfold smF at this ⊢
  simp only [List.take_succ_cons, List.map_cons, List.sum_cons]
  omega
theorem lnF_le : ∀ (l : List Dfi), smF l ≤ 32768 → lnF l ≤ 32768 ∧ lnF l = smF l
 | [], _ => by simp [lnF, smF]
 | d :: r, h => by
  unfold smF at h
  simp only [List.map_cons, List.sum_cons] at h
  have h2 := lnF_le r (by unfold smF; omega)
  unfold lnF smF at *
  simp only [List.map_cons, List.sum_cons] at *
  omega
theorem lnF_take : ∀ (l : List Dfi) (j : Nat), lnF (l.take j) ≤ lnF l
 | [], j => by simp [lnF]
 | a :: r, 0 => by simp [lnF]
 | a :: r, j + 1 => by
  have := lnF_take r j
  unfold lnF at this ⊢
  simp only [List.take_succ_cons, List.map_cons, List.sum_cons]
  omega
theorem lnF_at : ∀ {l : List Dfi} {j : Nat} {d : Dfi}, l[j]? = some d → d.b.length ≤ lnF l
 | a :: r, 0, d, h => by simp at h; subst h; simp [lnF]
 | a :: r, j + 1, d, h => by
  have := lnF_at (l := r) (j := j) (by simpa using h)
  simp [lnF] at this ⊢
  omega
theorem Dk.Quiet.write {st : Dk} (h : st.Quiet) (k : List UInt8) (a : Int) (b : List UInt8) : (st.write k a b).2.Quiet := by
 unfold Dk.write
 split
 ·exact h
 ·split
  ·split
   ·exact h
   ·split
    ·exact h
    ·split
     ·exact h
     ·rw [h.perf]; exact h.act _
  ·split
   ·exact h
   ·split
    ·exact h
    ·rw [h.perf]; exact h.act _
structure OpL (w wr : World) (D : List Dfi) (g x : Nat) (j : Nat) (t : Dk) : Prop where
 pr : Pr w wr (fun _ => False) (fun _ => False) g t x t
 q : t.Quiet
 fine : t.Fine j (lnF (D.take j))
set_option maxRecDepth 200000 in
set_option maxHeartbeats 40000000 in
theorem lawVOpens_any {w : World} (ht : Tab w) {v : Value} {D : List Dfi} (h : Dfis w v D) :
  Calls Tryz.prog 4 #[v] w fun e w' => e = .returned (.bool true) ∧ Below w.heap.size w w' := by
 obtain ⟨p, c, rfl, hc1, hc2, hat⟩ := h
 obtain ⟨len, hlen⟩ : ∃ len, D.length = len := ⟨_, rfl⟩
 rw [hlen] at hc1 ⊢
 unfold maxLen at hc2
 have HAT := hide hat
 have HL := hide hlen
 have HT := hide ht
 have HAW := hide (fun (W : World) (hb : Below w.heap.size w W) => vawake_any (ht.below hb ht.lt))
 clear hat hlen ht
 go_enter Tryz.func4, Tryz.ntmps4
 go_wp2_with fail
 go_loopw [3, 4] (fun n i wr => ∃ (j : Nat), j ≤ len ∧ j ≤ 21 ∧ n = .int .i64 (smF (D.take j) : Nat) ∧ i = .int .i64 j ∧ wr = w) (fun _ i _ => len - (intOf i).toNat)
 case atStart => exact ⟨0, by omega, by omega, by first | trivial | rfl, by first | trivial | rfl, by first | trivial | rfl⟩
 case round =>
  obtain ⟨j, hj, hj2, rfl, rfl, hw⟩ := hrel
  have hw' := hw.symm
  subst hw'
  clear hw
  obtain ⟨sm, hsm⟩ : ∃ sm, smF (D.take j) = sm := ⟨_, rfl⟩
  rw [hsm]
  have hsml : sm ≤ 21 * 65536 := by rw [← hsm]; exact Nat.le_trans (smF_bound D j) (Nat.mul_le_mul_right _ hj2)
  have HSM := hide hsm
  clear hsm
  by_cases hjn : (j : Int) < (len : Int)
  ·by_cases hj20 : (j : Int) ≤ 20
   ·obtain ⟨d, hd⟩ : ∃ d, D[j]? = some d := ⟨_, List.getElem?_eq_getElem (by have := HL.out; omega)⟩
    obtain ⟨gl, o, rfl, hin, hcell⟩ := HAT.out j d hd
    obtain ⟨oo, hoo⟩ : ∃ oo, o + j * 2 = oo := ⟨_, rfl⟩
    rw [hoo] at hcell
    have e1 : w.cell? ⟨gl, oo + 1, none⟩ = some (.slice d.pb d.nb d.db) := hcell 1 _ rfl
    have hnb : d.nb = d.b.length := hin.h1.len.1
    obtain ⟨a1, ha1⟩ : ∃ a1 : Nat, min d.nb 65536 = a1 := ⟨_, rfl⟩
    have m1 : min (d.nb : Int) 65536 = (a1 : Int) := by omega
    obtain ⟨s1, hs1⟩ : ∃ s1 : Nat, sm + a1 = s1 := ⟨_, rfl⟩
    have m3 : IntKind.i64.wrap ((sm : Int) + (a1 : Int)) = (s1 : Int) := by rw [IntKind.wrap_i64]; omega
    have m4 : wrap64 ((sm : Int) + (a1 : Int)) = (s1 : Int) := by unfold wrap64; omega
    have HSM2 := hide (show (s1 : Nat) = smF (D.take (j + 1)) by rw [smF_succ hd, HSM.out, ← hnb]; omega)
    clear hin hcell hnb ha1 hs1 hd hsml
    go_wp2
    go_roundw
    case rel => exact ⟨j + 1, by omega, by omega, by first | (rw [← HSM2.out]; done) | (rw [← HSM2.out]; go_num) | (rw [← HSM2.out, m4]) | (rw [← HSM2.out]; simp; omega), by go_num, by first | trivial | rfl⟩
    case measure => simp [intOf]; omega
   ·have hl : (20 : Int) < (len : Int) := by omega
    go_wp2_with (go_at_call 12; refine (HAW.out _ (Below.refl _ _)).mono ?_; rintro e w2 ⟨rfl, hb2⟩)
    go_ret
    exact ⟨rfl, hb2⟩
  ·by_cases hl : (20 : Int) < (len : Int)
   ·go_wp2_with (go_at_call 12; refine (HAW.out _ (Below.refl _ _)).mono ?_; rintro e w2 ⟨rfl, hb2⟩)
    go_ret
    exact ⟨rfl, hb2⟩
   ·by_cases hn : (32768 : Int) < (sm : Int)
    ·go_wp2_with (go_at_call 12; refine (HAW.out _ (Below.refl _ _)).mono ?_; rintro e w2 ⟨rfl, hb2⟩)
     go_ret
     exact ⟨rfl, hb2⟩
    ·have HSD := hide (show lnF D ≤ 32768 from (lnF_le D (by
      have h1 := HSM.out
      rw [List.take_of_length_le (by have := HL.out; omega)] at h1
      omega)).1)
     have hl20 : len ≤ 20 := by omega
     have HNW := hide (new_any w (room := 1048576) (by omega))
     clear hsml HSM hj hj2
     go_wp2_with fail
     clear hjn hn hl
     refine HNW.out.mono ?_
     rintro e w1 ⟨g, S0, rfl, hd1, hS1, hb1⟩
     have HRN := hide (rnew_any (room := 1048576) (by omega) (w := w1) (w0 := w) (g := g) (e0 := .returned (.int .i64 0)) ⟨S0, hd1, hS1, hb1⟩)
     clear hd1 hS1 hb1 HNW
     go_wp2_with fail
     refine HRN.out.mono ?_
     rintro e w2 ⟨x, rfl, hpr⟩
     have HP2 : Hid (OpL w w2 D g x 0 (Dk.new 1048576)) := hide ⟨hpr, ⟨rfl, rfl, List.Pairwise.nil⟩, (Dk.Fine.new (r := 1048576) (by omega)).mono (Nat.le_refl _) (Nat.zero_le _)⟩
     clear hpr HRN
     go_wp2_with fail
     go_loopw [10, 52] (fun _ i wr => ∃ j : Nat, j ≤ len ∧ i = .int .i64 j ∧ Hid (∃ t, OpL w wr D g x j t)) (fun _ i _ => len - (intOf i).toNat)
     case atStart => exact ⟨0, Nat.zero_le _, rfl, hide ⟨_, HP2.out⟩⟩
     case round =>
      obtain ⟨j, hj, rfl, hrel⟩ := hrel
      obtain ⟨t, hO⟩ := hrel.out
      have HO := hide hO
      clear hO hrel HP2
      by_cases hjn : (j : Int) < (len : Int)
      ·obtain ⟨d, hd⟩ : ∃ d, D[j]? = some d := ⟨_, List.getElem?_eq_getElem (by have := HL.out; omega)⟩
       obtain ⟨gl, o, rfl, hin, hcell⟩ := HAT.out j d hd
       obtain ⟨oo, hoo⟩ : ∃ oo, o + j * 2 = oo := ⟨_, rfl⟩
       rw [hoo] at hcell
       have hbw := HO.out.pr.below
       have e0 : wr.cell? ⟨gl, oo, none⟩ = some (.string d.nm) := (hbw.cell (lt_of_cell (hcell 0 _ rfl))).trans (hcell 0 _ rfl)
       have e1 : wr.cell? ⟨gl, oo + 1, none⟩ = some (.slice d.pb d.nb d.db) := (hbw.cell (lt_of_cell (hcell 1 _ rfl))).trans (hcell 1 _ rfl)
       have hlt := lnF_at hd
       have hls := lnF_succ hd
       have HIN := hide hin
       have HLB := hide (show d.b.length ≤ 32768 from Nat.le_trans hlt HSD.out)
       have HLS := hide hls
       obtain ⟨F, hF⟩ : ∃ F, wr.alloc (.cells #[.string d.nm, .slice d.pb d.nb d.db] 60) = F := ⟨_, rfl⟩
       have hbF : Below wr.heap.size wr F := by rw [← hF]; exact balloc (Below.refl _ _) _
       have hrF : F.heap[wr.heap.size]? = some (.cells #[.string d.nm, .slice d.pb d.nb d.db] 60 (0, 0)) := by rw [← hF]; exact Array.getElem?_push_size
       have f0 : F.cell? ⟨wr.heap.size, 0, none⟩ = some (.string d.nm) := by rw [cell_of_row F _ 0 _ _ (0, 0) hrF]; rfl
       have f1 : F.cell? ⟨wr.heap.size, 1, none⟩ = some (.slice d.pb d.nb d.db) := by rw [cell_of_row F _ 1 _ _ (0, 0) hrF]; rfl
       have hlF := (Array.getElem?_eq_some_iff.1 hrF).1
       obtain ⟨K, hK⟩ : ∃ K : Nat → Prop, (fun i => False ∨ i = wr.heap.size) = K := ⟨_, rfl⟩
       have hkb : K wr.heap.size := by rw [← hK]; exact .inr rfl
       have HPF := hide (HO.out.pr.new (Chg.of_below hbF _) (N := fun i => i = wr.heap.size) fun i hi => ⟨by omega, by omega⟩)
       rw [hK] at HPF
       have HFC := hide (And.intro f0 f1)
       have HKB := hide hkb
       have HFB := hide (hbw.trans (hbF.mono hbw.size))
       have hcal := HO.out.fine.calm (by omega)
       have HCAL := hide hcal
       obtain ⟨m, t2, hm⟩ : ∃ m t2, t.write d.nm.data.toList 0 d.b = (m, t2) := ⟨_, _, rfl⟩
       have HM := hide hm
       have HN2 : Hid (t2.Quiet ∧ t2.Fine (j + 1) (lnF (D.take (j + 1)))) := hide (by
        have h1 := HO.out.q.write d.nm.data.toList 0 d.b
        have h2 := HO.out.fine.write (by omega) d.nm.data.toList 0 d.b
        rw [hm] at h1 h2
        exact ⟨h1, by rw [hls]; exact h2⟩)
       clear hin hcell hbw hd hlt hls hbF hrF hlF hK hkb hcal hm
       go_wp2_with fail
       clear e0 e1 hoo hF
       refine wp_region_held_drew (S := fun W => W.cell? ⟨wr.heap.size, 0, none⟩ = some (.string d.nm) ∧ W.cell? ⟨wr.heap.size, 1, none⟩ = some (.slice d.pb d.nb d.db)) (by kernel_rfl) ?_ (fun hHeld => ?_)
       ·(try dsimp only)
        exact HFC.out
       refine tkL 0 rfl ?_
       refine tkL 1 rfl ?_
       refine tkL 2 rfl ?_
       refine tkL 3 rfl ?_
       refine tkL 4 rfl ?_
       refine tkL 6 rfl ?_
       refine tkL 7 rfl ?_
       refine tkL 8 rfl ?_
       refine tkL 9 rfl ?_
       refine tkL 10 rfl ?_
       refine wpAnyH_ready (rs := [5]) (by kernel_rfl) (by simp) ?_
       refine acL rfl (fun K hK => ?_) ?_
       ·go_simp
        go_at_call 29
        obtain ⟨S1, C1, hdi, hbk⟩ := (HPF.out.at ((Chg.refl F (fun _ => False)).drewN 1)).prog
        refine (write_any hdi HIN.out.h0 (at_ := 0) (by omega) (by omega) (HIN.out.h1.below (below_drewN HFB.out 1)) (by have := HLB.out; omega) HCAL.out.few HCAL.out.k1 HCAL.out.k2 HCAL.out.t1 HCAL.out.t2).mono ?_
        rintro e w5 ⟨rfl, hp5⟩
        have hb5 := hbk _ _ hp5
        rw [HM.out] at hb5 ⊢
        have HP5 := hide hb5.1
        have HK5 : Hid (w5.cell? ⟨wr.heap.size, 0, none⟩ = some (.string d.nm) ∧ w5.cell? ⟨wr.heap.size, 1, none⟩ = some (.slice d.pb d.nb d.db)) := hide ⟨hb5.2.cell HFC.out.1 fun e => e.1 HKB.out, hb5.2.cell HFC.out.2 fun e => e.1 HKB.out⟩
        clear hdi hbk hp5 hb5
        first
         | refine hK.out _ _ ?_ (fun hHeld => ?_)
         | (go_wp2_with fail; refine hK.out _ _ ?_ (fun hHeld => ?_))
        ·(try dsimp only)
         exact HK5.out
        clear hK K
        try simp only [Act.put, qA, qB, qC]
        refine wpAnyH_ready (rs := [11]) (by kernel_rfl) (by simp) ?_
        refine acL rfl (fun K hK => ?_) ?_
        ·go_simp
         go_at_call 30
         obtain ⟨Z1, R1, hrd, hbk⟩ := HP5.out.ref
         refine (rwrite_any (⟨hrd, HO.out.fine.ok, HCAL.out⟩ : Rq w5 Z1 R1 x t) HIN.out.h0 (at_ := 0) (by omega) (by omega) (HIN.out.h1.below HP5.out.below)).mono ?_
         rintro e w6 ⟨rfl, hp6⟩
         have hb6 := hbk _ _ hp6
         rw [HM.out] at hb6 ⊢
         have HP6 := hide hb6.1
         have HK6 : Hid (w6.cell? ⟨wr.heap.size, 0, none⟩ = some (.string d.nm) ∧ w6.cell? ⟨wr.heap.size, 1, none⟩ = some (.slice d.pb d.nb d.db)) := hide ⟨hb6.2.cell HK5.out.1 fun e => e.1 HKB.out, hb6.2.cell HK5.out.2 fun e => e.1 HKB.out⟩
         have emm : ((m : Int) != (m : Int)) = false := by simp
         clear hrd hbk hp6 hb6
         first
          | refine hK.out _ _ ?_ (fun hHeld => ?_)
          | (go_wp2_with fail; refine hK.out _ _ ?_ (fun hHeld => ?_))
         ·(try dsimp only)
          exact HK6.out
         clear hK K
         try simp only [Act.put, qA, qB, qC]
         refine tkL 12 rfl ?_
         refine wpAnyH_done (by kernel_rfl) ?_ _
         (try dsimp only)
         go_wp2_with fail
         go_roundw
         case rel => exact ⟨j + 1, by omega, by go_num, hide ⟨t2, HP6.out.drop, HN2.out.1, HN2.out.2⟩⟩
         case measure => simp [intOf]; omega
        exact AllReadyH.nil
       exact AllReadyH.nil
      ·have hjl : j = len := by omega
       obtain ⟨S1, C1, Z1, R1, hdi, hrd, hsz, hmm, hkk, hsg, hrg, hbw⟩ := HO.out.pr
       have htb := HT.out.below hbw HT.out.lt
       have HOPV := hide (vopen_any hdi htb (fun e => by have := hsg _ e; have := HT.out.lt; omega) HO.out.fine (by omega) (by have := lnF_take D j; have := HSD.out; omega))
       obtain ⟨y, hy1, hy2, _⟩ := openV_ok HO.out.q HO.out.fine.seen
       have hyf := HO.out.fine.openV (by omega)
       unfold OpP at HOPV
       rw [hy1] at HOPV hyf
       have HY := hide hy1
       have HYF := hide hyf
       have HYQ := hide hy2
       have HBW := hide hbw
       have HRD := hide hrd
       have HSZ := hide (And.intro hsz (And.intro hrg hdi.cap))
       have HSA := hide hdi.sap
       have HSG := hide hsg
       have HRP := hide (And.intro hrd.rap hrd.sep)
       clear hdi hrd hsz hmm hkk hsg hrg hbw htb hjl hy1 hy2 hyf
       go_wp2_with fail
       refine HOPV.out.mono ?_
       rintro e w3 (⟨k1, _⟩ | ⟨_, b, S', C', rfl, k2, k3, k4, k5, k6, vo, da, k7, k8, k9⟩)
       ·exact absurd rfl k1
       have hs34 := k4.size
       have hr3 : RdIs w3 Z1 R1 x t := HRD.out.chg k4 HSZ.out.1 fun i hi => .inl hi
       have hb3 : Below w.heap.size w w3 := Chg.to_below HBW.out k4 fun i hi => HSG.out i hi
       have HRO := hide (rvopen_any (⟨hr3, HO.out.fine.ok, HO.out.fine.calm (by omega)⟩ : Rq w3 Z1 R1 x t) HO.out.fine (by omega) (by have := lnF_take D j; have := HSD.out; omega))
       unfold RoP at HRO
       rw [HY.out] at HRO
       have HB3 := hide hb3
       have HV := hide (And.intro k2 (And.intro k3 (And.intro k5 (And.intro k6 (And.intro k7 (And.intro k8 k9))))))
       clear hr3 hb3 k2 k3 k4 k5 k6 k7 k8 k9 HOPV
       go_wp2_with fail
       refine HRO.out.mono ?_
       rintro e w4 (⟨k1, _⟩ | ⟨_, xb, vo', da', R', rfl, q1, q2, q3, q4, q5, _⟩)
       ·exact absurd rfl k1
       obtain ⟨k2, k3, k5, k6, k7, k8, k9⟩ := HV.out
       have hRw : ∀ i, R1 i → i < wr.heap.size := HRP.out.1
       have hRS : ∀ i, S' i → R1 i → False := fun i hs hr => by
        rcases k5 i hs with e | e
        ·exact HRP.out.2 i hr (HSZ.out.1 i e)
        ·have := hRw i hr; omega
       have hRC : ∀ i, C' i → R1 i → False := fun i hs hr => by
        rcases k6 i hs with e | e
        ·exact (HSZ.out.2.1 i hr).2 e
        ·have := hRw i hr; omega
       have hd4 : DiskIs w4 S' C' g y := k2.di.chg q2 hRS hRC
       have hv4 : Vt w4 b vo da t.found g := ⟨(q2.block b k7.lt fun e => by have := hRw _ e; omega).trans k7.row, k7.ns.chg q2 (k8.imp id fun h k hk e => by have := h k hk; have := hRw _ e; omega), k7.by_.chg q2 (k9.imp id fun h k hk e => by have := h k hk; have := hRw _ e; omega), k7.f0, k7.f1⟩
       have hb4 : Below w.heap.size w w4 := Chg.to_below HB3.out q2 fun i hi => (HSZ.out.2.1 i hi).1
       have HTL := hide (vtells_any hv4 q4 (found_good t))
       have HB4 := hide hb4
       have HAL := hide (fun (W : World) (hW : Below w4.heap.size w4 W) => valike_any (hd4.chg (Chg.of_below hW (fun _ => False)) (fun _ _ e => e) fun _ _ e => e) (⟨q1.at (Chg.of_below hW _), HYF.out.ok, HYF.out.calm (by omega)⟩ : Rq W Z1 R' x y) HYF.out.seen)
       clear k2 k3 k5 k6 k7 k8 k9 hRw hRS hRC hd4 hv4 hb4 q1 q2 q3 q4 q5 HV HRO
       go_wp2_with fail
       refine HTL.out.mono ?_
       rintro e w5 ⟨rfl, hb5⟩
       have HB5 := hide hb5
       have HBW5 := hide (HB4.out.trans (hb5.mono HB4.out.size))
       clear hb5 HTL
       go_wp2_with fail
       refine (HAL.out w5 HB5.out).mono ?_
       rintro e w6 ⟨rfl, hc6⟩
       have HB6 := hide (HBW5.out.trans ((chg_below hc6).mono HBW5.out.size))
       clear hc6
       go_wp2_with (go_at_call 12; refine (HAW.out _ HB6.out).mono ?_; rintro e wz ⟨rfl, hbz⟩)
       go_ret
       exact ⟨rfl, HB6.out.trans (hbz.mono HB6.out.size)⟩
end Go.Proofs.YtgbdjcekpdfpjaaGreatDoor
