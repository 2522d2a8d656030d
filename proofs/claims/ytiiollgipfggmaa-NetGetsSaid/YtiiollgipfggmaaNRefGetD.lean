/- The message whose bytes some bytes are: the document's Get. -/
import Derived.Test.YtiiollgipfggmaaNRfA
import Derived.Test.YtiiollgipfggmaaWRefPick
namespace Go.Proofs.Ytiiollgipfggmaa
set_option linter.unusedVariables false
set_option linter.unusedSimpArgs false
open Go.RowKit

set_option maxRecDepth 200000 in
set_option maxHeartbeats 4000000 in
theorem refGetD_any {w : World} {v : Value} {l : List UInt8} (hv : By w v l) (hE0 : (pickL l).2.2 = 0) (hK0 : ¬ (pickL l).2.1 < l.length) (hC0 : 9 < (rdC (pickL l).1).1) (hV0 : 9 < (rfV (pickL l).1).1) : Calls Try.prog 19 #[v] w (PeekPost w (getI l)) := by
  obtain ⟨p, n, c, rfl⟩ := hv.sl
  obtain ⟨X, hX⟩ : ∃ X, w.alloc (.cells #[.int .i64 0, .int .i64 0, .int .i64 0, .int .i64 0, .int .i64 0, .int .i64 0, .int .i64 0, .int .i64 0, .bool false, .bool false, .slice none 0 0, .slice none 0 0, .slice none 0 0] 26) = X := ⟨_, rfl⟩
  have hrX : X.heap[w.heap.size]? = some (.cells #[.int .i64 0, .int .i64 0, .int .i64 0, .int .i64 0, .int .i64 0, .int .i64 0, .int .i64 0, .int .i64 0, .bool false, .bool false, .slice none 0 0, .slice none 0 0, .slice none 0 0] 26 (0, 0)) := by rw [← hX]; exact heap_alloc_new w _
  have hbX : Below w.heap.size w X := by rw [← hX]; exact (Below.refl _ _).alloc (Nat.le_refl _) _
  have hwX : w.heap.size < X.heap.size := (Array.getElem?_eq_some_iff.1 hrX).1
  obtain ⟨P, K, E, hP⟩ : ∃ P K E, pickL l = (P, K, E) := ⟨_, _, _, rfl⟩
  rw [hP] at hE0 hK0 hC0 hV0
  dsimp only at hE0 hK0 hC0 hV0
  have HCC := hide (fun (N : Nat) (s : Nat × Nat) (h : rdC P = (N, s)) => (show 9 < N from by rw [h] at hC0; exact hC0))
  have HVV := hide (fun (N : Nat) (s : Nat × Nat) (h : rfV P = (N, s)) => (show 9 < N from by rw [h] at hV0; exact hV0))
  have HPK := hide (refPick_any (hv.below hbX) hP)
  have HBYL := hide (fun W (hW : Below w.heap.size w W) => hv.below hW)
  have hln := hv.len.1
  have hnm := hv.lenMax
  have HPO := hide (fun e : E = 0 => pick_ok (b := l) (p := P) (k := K) (by rw [hP, e]))
  have HGT := hide (fun (e : E = 0) (hk : ¬ K < l.length) => refGet_eq (l := l) (P := P) (K := K) (by rw [hP, e]) hk)
  have HNE := hide (show (E ≠ 0 → getI l = (ms0, (E : Int))) ∧ (E = 0 → K < l.length → getI l = (ms0, 3)) from by
    unfold getI
    rw [hP]
    dsimp only
    exact ⟨fun h => if_pos h, fun h h2 => by rw [if_neg (by omega), if_pos h2]⟩)
  have HRX := hide hrX
  have HBX := hide hbX
  have HWX := hide hwX
  have HX := hide hX
  clear hv hrX hbX hwX hX hP hC0 hV0
  by_cases hE : E = 0
  · have HQ := HPO.out hE
    have HLP := hide HQ.2.2.1
    have hKl := HQ.1
    subst hE
    clear HQ HPO
    by_cases hK : K < l.length
    · exact absurd hK hK0
    · obtain ⟨R, hR⟩ : ∃ R, getI l = R := ⟨_, rfl⟩
      have hgt := (HGT.out rfl hK).symm.trans hR
      obtain ⟨mq, hmq⟩ : ∃ m, refP P = m := ⟨_, rfl⟩
      rw [hmq] at hgt
      have HRT := hide (show (rfD P).2.2 = 0 → okM mq = true → recL (payL mq) = l → R = (mq, 0) from fun a b cc => by rw [← hgt, if_pos ⟨⟨a, b⟩, cc⟩])
      have HRF := hide (show ¬ (((rfD P).2.2 = 0 ∧ okM mq = true) ∧ recL (payL mq) = l) → R = (ms0, 122) from fun a => by rw [← hgt, if_neg a])
      have HMQ := hide hmq
      clear hgt hmq
      rw [hR]
      have hKn : ¬ (K : Int) < (n : Int) := by omega
      clear hK hK0 hE0 hln hKl hR HNE HGT
      go_enter Try.func19, Try.ntmps19
      go_wp2_with fail
      rw [HX.out]
      refine HPK.out.mono ?_
      rintro e w2 ⟨v2, rfl, ho2, hb2⟩
      obtain ⟨p2, n2, c2, rfl⟩ := ho2.by_.sl
      have HO2 := hide ho2
      have HB2 := hide (HBX.out.trans (hb2.mono HBX.out.size))
      have HR2 := hide ((hb2.block _ HWX.out).trans HRX.out)
      have HWZ2 : Hid (w.heap.size < w2.heap.size) := hide (by have := HWX.out; have := hb2.size; omega)
      clear hb2 ho2
      go_wp2_with fail
      obtain ⟨g, hg⟩ : ∃ g, w2.heap.size = g := ⟨_, rfl⟩
      obtain ⟨W, hW⟩ : ∃ W, w2.alloc (.cells #[.slice p2 n2 c2, .int .i64 0, .int .i64 0] 85) = W := ⟨_, rfl⟩
      have hWb : Below w2.heap.size w2 W := by rw [← hW]; exact (Below.refl _ _).alloc (Nat.le_refl _) _
      have hWr : W.heap[w2.heap.size]? = some (.cells #[.slice p2 n2 c2, .int .i64 0, .int .i64 0] 85 (0, 0)) := by rw [← hW]; exact heap_alloc_new w2 _
      have hWs : w2.heap.size + 1 = W.heap.size := by rw [← hW]; simp
      obtain ⟨Y, hY⟩ : ∃ Y, W.alloc (.cells #[.int .i64 0, .int .i64 0, .int .i64 0, .int .i64 0, .int .i64 0, .int .i64 0, .int .i64 0, .int .i64 0, .bool false, .bool false, .slice none 0 0, .slice none 0 0, .slice none 0 0] 26) = Y := ⟨_, rfl⟩
      have hYb : Below W.heap.size W Y := by rw [← hY]; exact (Below.refl _ _).alloc (Nat.le_refl _) _
      have hYr : Y.heap[W.heap.size]? = some (.cells #[.int .i64 0, .int .i64 0, .int .i64 0, .int .i64 0, .int .i64 0, .int .i64 0, .int .i64 0, .int .i64 0, .bool false, .bool false, .slice none 0 0, .slice none 0 0, .slice none 0 0] 26 (0, 0)) := by rw [← hY]; exact heap_alloc_new W _
      have hgW : g < W.heap.size := by omega
      have HBP := hide ((HO2.out.below hWb).by_)
      have HNB : Hid (P = [] ∨ ∀ k, (Value.slice p2 n2 c2).ownBlock = some k → some g ≠ some k) := hide (by
        rcases HO2.out.far with h0 | ⟨g2, hp2, _, hl2⟩
        · left
          have := HO2.out.by_.len
          exact List.eq_nil_of_length_eq_zero (by omega)
        · refine .inr fun k hk e => ?_
          rw [hp2] at hk
          injection hk with hk
          injection e with e
          have : (⟨g2, 0, none⟩ : Addr).block = g2 := rfl
          omega)
      have HBW := hide (HB2.out.trans (hWb.mono HB2.out.size))
      have HRW := hide ((hWb.block _ HWZ2.out).trans HR2.out)
      have HGW := hide hgW
      have HW0 : Hid (w.heap.size < g) := hide (by have := HWZ2.out; omega)
      have G0 : Hid (RfAt W Y g (.slice p2 n2 c2) (0, 0) ms0 (.slice none 0 0) []) := hide ⟨hgW, by
        rw [hg] at hWr
        exact (hYb.block g hgW).trans hWr, ⟨hYb.os, hYb.tape, hYb.output, hYb.size, fun k hk _ => hYb.block k hk⟩, hYr, ⟨[], OwnE.nil _ _, rfl, by simp⟩⟩
      have A0 : Hid ((0, 0).1 ≤ P.length) := hide (Nat.zero_le _)
      rw [hW, hY, hWs, hg]
      clear hW hWb hWr hWs hY hYb hYr hgW hg HO2 HB2 HR2 HWZ2
      obtain ⟨N1, s1, q1⟩ : ∃ N s, nx P (0, 0) = (N, s) := ⟨_, _, rfl⟩
      have A1 : Hid (s1.1 ≤ P.length) := hide (by have := (nx_le A0.out).1; rw [q1] at this; exact this)
      have Q1 := hide q1
      refine (G0.out.num2 HBP.out HNB.out A0.out q1).mono ?_
      rintro e1 w11 ⟨rfl, h1⟩
      have c1 := h1.cell 0 rfl
      have f1 := h1.fr 0
      have G1 := hide (h1.setH 0 (.int .i64 (N1 : Nat)) ⟨(N1 : Nat), 0, 0, 0, 0, 0, 0, 0, false, false, [], [], []⟩ rfl)
      clear h1 q1 G0
      go_wp2_with fail
      clear c1 f1
      obtain ⟨N2, s2, q2⟩ : ∃ N s, nx P s1 = (N, s) := ⟨_, _, rfl⟩
      have A2 : Hid (s2.1 ≤ P.length) := hide (by have := (nx_le A1.out).1; rw [q2] at this; exact this)
      have Q2 := hide q2
      refine (G1.out.num2 HBP.out HNB.out A1.out q2).mono ?_
      rintro e2 w12 ⟨rfl, h2⟩
      have c2 := h2.cell 1 rfl
      have f2 := h2.fr 1
      have G2 := hide (h2.setH 1 (.int .i64 (N2 : Nat)) ⟨(N1 : Nat), (N2 : Nat), 0, 0, 0, 0, 0, 0, false, false, [], [], []⟩ rfl)
      clear h2 q2 G1
      go_wp2_with fail
      clear c2 f2
      obtain ⟨N3, s3, q3⟩ : ∃ N s, nx P s2 = (N, s) := ⟨_, _, rfl⟩
      have A3 : Hid (s3.1 ≤ P.length) := hide (by have := (nx_le A2.out).1; rw [q3] at this; exact this)
      have Q3 := hide q3
      refine (G2.out.num2 HBP.out HNB.out A2.out q3).mono ?_
      rintro e3 w13 ⟨rfl, h3⟩
      have c3 := h3.cell 2 rfl
      have f3 := h3.fr 2
      have G3 := hide (h3.setH 2 (.int .i64 (N3 : Nat)) ⟨(N1 : Nat), (N2 : Nat), (N3 : Nat), 0, 0, 0, 0, 0, false, false, [], [], []⟩ rfl)
      clear h3 q3 G2
      go_wp2_with fail
      clear c3 f3
      obtain ⟨N4, s4, q4⟩ : ∃ N s, nx P s3 = (N, s) := ⟨_, _, rfl⟩
      have A4 : Hid (s4.1 ≤ P.length) := hide (by have := (nx_le A3.out).1; rw [q4] at this; exact this)
      have Q4 := hide q4
      refine (G3.out.num2 HBP.out HNB.out A3.out q4).mono ?_
      rintro e4 w14 ⟨rfl, h4⟩
      have c4 := h4.cell 3 rfl
      have f4 := h4.fr 3
      have G4 := hide (h4.setH 3 (.int .i64 (N4 : Nat)) ⟨(N1 : Nat), (N2 : Nat), (N3 : Nat), (N4 : Nat), 0, 0, 0, 0, false, false, [], [], []⟩ rfl)
      clear h4 q4 G3
      go_wp2_with fail
      clear c4 f4
      obtain ⟨N5, s5, q5⟩ : ∃ N s, nx P s4 = (N, s) := ⟨_, _, rfl⟩
      have A5 : Hid (s5.1 ≤ P.length) := hide (by have := (nx_le A4.out).1; rw [q5] at this; exact this)
      have Q5 := hide q5
      refine (G4.out.num2 HBP.out HNB.out A4.out q5).mono ?_
      rintro e5 w15 ⟨rfl, h5⟩
      have c5 := h5.cell 4 rfl
      have f5 := h5.fr 4
      have G5 := hide (h5.setH 4 (.int .i64 (N5 : Nat)) ⟨(N1 : Nat), (N2 : Nat), (N3 : Nat), (N4 : Nat), (N5 : Nat), 0, 0, 0, false, false, [], [], []⟩ rfl)
      clear h5 q5 G4
      go_wp2_with fail
      clear c5 f5
      obtain ⟨N6, s6, q6⟩ : ∃ N s, nx P s5 = (N, s) := ⟨_, _, rfl⟩
      have A6 : Hid (s6.1 ≤ P.length) := hide (by have := (nx_le A5.out).1; rw [q6] at this; exact this)
      have Q6 := hide q6
      refine (G5.out.num2 HBP.out HNB.out A5.out q6).mono ?_
      rintro e6 w16 ⟨rfl, h6⟩
      have c6 := h6.cell 5 rfl
      have f6 := h6.fr 5
      have G6 := hide (h6.setH 5 (.int .i64 (N6 : Nat)) ⟨(N1 : Nat), (N2 : Nat), (N3 : Nat), (N4 : Nat), (N5 : Nat), (N6 : Nat), 0, 0, false, false, [], [], []⟩ rfl)
      clear h6 q6 G5
      go_wp2_with fail
      clear c6 f6
      obtain ⟨N7, s7, q7⟩ : ∃ N s, nx P s6 = (N, s) := ⟨_, _, rfl⟩
      have A7 : Hid (s7.1 ≤ P.length) := hide (by have := (nx_le A6.out).1; rw [q7] at this; exact this)
      have Q7 := hide q7
      refine (G6.out.num2 HBP.out HNB.out A6.out q7).mono ?_
      rintro e7 w17 ⟨rfl, h7⟩
      have c7 := h7.cell 6 rfl
      have f7 := h7.fr 6
      have G7 := hide (h7.setH 6 (.int .i64 (N7 : Nat)) ⟨(N1 : Nat), (N2 : Nat), (N3 : Nat), (N4 : Nat), (N5 : Nat), (N6 : Nat), (N7 : Nat), 0, false, false, [], [], []⟩ rfl)
      clear h7 q7 G6
      go_wp2_with fail
      clear c7 f7
      obtain ⟨N8, s8, q8⟩ : ∃ N s, nx P s7 = (N, s) := ⟨_, _, rfl⟩
      have A8 : Hid (s8.1 ≤ P.length) := hide (by have := (nx_le A7.out).1; rw [q8] at this; exact this)
      have Q8 := hide q8
      refine (G7.out.num2 HBP.out HNB.out A7.out q8).mono ?_
      rintro e8 w18 ⟨rfl, h8⟩
      have c8 := h8.cell 7 rfl
      have f8 := h8.fr 7
      have G8 := hide (h8.setH 7 (.int .i64 (N8 : Nat)) ⟨(N1 : Nat), (N2 : Nat), (N3 : Nat), (N4 : Nat), (N5 : Nat), (N6 : Nat), (N7 : Nat), (N8 : Nat), false, false, [], [], []⟩ rfl)
      clear h8 q8 G7
      go_wp2_with fail
      clear c8 f8
      obtain ⟨N9, s9, q9⟩ : ∃ N s, fx P s8 = (N, s) := ⟨_, _, rfl⟩
      have A9 : Hid (s9.1 ≤ P.length) := hide (by have := fx_le A8.out; rw [q9] at this; exact this)
      have Q9 := hide q9
      refine (G8.out.flag2 HBP.out HNB.out A8.out q9).mono ?_
      rintro e9 w19 ⟨rfl, h9⟩
      have c9 := h9.cell 8 rfl
      have f9 := h9.fr 8
      have G9 := hide (h9.setH 8 (.bool N9) ⟨(N1 : Nat), (N2 : Nat), (N3 : Nat), (N4 : Nat), (N5 : Nat), (N6 : Nat), (N7 : Nat), (N8 : Nat), N9, false, [], [], []⟩ rfl)
      clear h9 q9 G8
      go_wp2_with fail
      clear c9 f9
      obtain ⟨N10, s10, q10⟩ : ∃ N s, fx P s9 = (N, s) := ⟨_, _, rfl⟩
      have A10 : Hid (s10.1 ≤ P.length) := hide (by have := fx_le A9.out; rw [q10] at this; exact this)
      have Q10 := hide q10
      refine (G9.out.flag2 HBP.out HNB.out A9.out q10).mono ?_
      rintro e10 w20 ⟨rfl, h10⟩
      have c10 := h10.cell 9 rfl
      have f10 := h10.fr 9
      have G10 := hide (h10.setH 9 (.bool N10) ⟨(N1 : Nat), (N2 : Nat), (N3 : Nat), (N4 : Nat), (N5 : Nat), (N6 : Nat), (N7 : Nat), (N8 : Nat), N9, N10, [], [], []⟩ rfl)
      clear h10 q10 G9
      go_wp2_with fail
      clear c10 f10
      obtain ⟨V, hV⟩ : ∃ V, w20.setCell ⟨W.heap.size, 9, none⟩ (.bool N10) = V := ⟨_, rfl⟩
      obtain ⟨H, hH⟩ : ∃ H : Ms, (⟨(N1 : Nat), (N2 : Nat), (N3 : Nat), (N4 : Nat), (N5 : Nat), (N6 : Nat), (N7 : Nat), (N8 : Nat), N9, N10, [], [], []⟩ : Ms) = H := ⟨_, rfl⟩
      rw [hV, hH] at G10
      rw [hV]
      have HHH := hide hH
      have hix : H.ix = (N5 : Int) := by rw [← hH]
      have HFI : Hid (N5 < 9223372036854775808) := hide (by have := (nx_le (l := P) (st := s4) A4.out).2; rw [Q5.out] at this; exact this)
      clear hV hH
      obtain ⟨NC, sC, qC⟩ : ∃ N s, nx P s10 = (N, s) := ⟨_, _, rfl⟩
      have AC : Hid (sC.1 ≤ P.length) := hide (by have := (nx_le A10.out).1; rw [qC] at this; exact this)
      have NCl : Hid (NC < 9223372036854775808) := hide (by have := (nx_le A10.out).2; rw [qC] at this; exact this)
      have QC := hide qC
      refine (G10.out.num2 HBP.out HNB.out A10.out qC).mono ?_
      rintro e21 w21 ⟨rfl, h21⟩
      have G11 := hide h21
      have HIX := hide hix
      have HRH : Hid (rdH P = (H, s10)) := hide (by
        unfold rdH
        simp only [Q1.out, Q2.out, Q3.out, Q4.out, Q5.out, Q6.out, Q7.out, Q8.out, Q9.out, Q10.out]
        rw [← HHH.out])
      have hNC : 9 < NC := HCC.out NC sC (by unfold rdC; rw [HRH.out]; exact qC)
      clear h21 qC hix G10 hKn hnm
      go_wp2_with fail
      obtain ⟨ix, hix⟩ : ∃ i, H.ix = i := ⟨_, rfl⟩
      have HIXE := hide hix
      go_loopw [10, 11] (fun i _ wr => ∃ (k : Nat) (ve : Value), k ≤ NC ∧ k ≤ 9 ∧ i = .int .i64 k ∧ (∃ p n c, ve = .slice p n c) ∧ Hid (RfAt W wr g (.slice p2 n2 c2) (rfEs P H.ix k sC).2 H ve (rfEs P H.ix k sC).1)) (fun i _ _ => 9 - (intOf i).toNat)
      case atStart => exact ⟨0, .slice none 0 0, by omega, by omega, rfl, ⟨_, _, _, rfl⟩, G11⟩
      case round =>
        obtain ⟨k, ve, hk, hk9, rfl, ⟨pe, ne, ce, rfl⟩, HR⟩ := hrel
        by_cases hlt : k < NC
        · have e1 : decide ((k : Int) < (NC : Int)) = true := decide_eq_true (by omega)
          by_cases h9 : k < 9
          · have e2 : decide ((k : Int) < 9) = true := decide_eq_true (by omega)
            have hRL := rfEs_le (ix := H.ix) AC.out k
            obtain ⟨r0, hr0⟩ : ∃ r, rfEs P H.ix k sC = r := ⟨_, rfl⟩
            have hRS : rfEs P H.ix (k + 1) sC = (r0.1 ++ [⟨idxE H.ix k, ((nx P r0.2).1 : Nat), (yl P (nx P r0.2).2).1⟩], (yl P (nx P r0.2).2).2) := by rw [← hr0]; rfl
            rw [hr0] at HR hRL
            have HR0' := hide hr0
            obtain ⟨L0, st0⟩ := r0
            dsimp only at HR hRL hRS
            have HR0 : Hid (rfEs P H.ix k sC = (L0, st0)) := HR0'
            obtain ⟨Nt, st1, qt⟩ : ∃ N s, nx P st0 = (N, s) := ⟨_, _, rfl⟩
            obtain ⟨T, st2, qx⟩ : ∃ T s, tx P 4096 st1 = (T, s) := ⟨_, _, rfl⟩
            have hA1 : st1.1 ≤ P.length := by have := (nx_le hRL.1).1; rw [qt] at this; exact this
            have hTl : T.length ≤ P.length := by have := (tx_le (most := 4096) hA1).2; rw [qx] at this; exact this
            have hNt : Nt < 9223372036854775808 := by have := (nx_le hRL.1).2; rw [qt] at this; exact this
            unfold yl at hRS
            rw [qt] at hRS
            dsimp only at hRS
            rw [qx] at hRS
            dsimp only at hRS
            have c4 := HR.out.cell 4 rfl
            rw [hix] at c4
            obtain ⟨a1, ha1⟩ : ∃ a, IntKind.i64.wrap (ix + 1) = a := ⟨_, rfl⟩
            obtain ⟨a2, ha2⟩ : ∃ a, IntKind.i64.wrap (a1 + (k : Int)) = a := ⟨_, rfl⟩
            have hidx : idxE H.ix k = a2 := by unfold idxE; rw [hix, ha1, ha2]
            rw [hidx] at hRS
            have HRS := hide hRS
            have HF2 : Hid (fits a2) := hide (by rw [← ha2]; unfold fits; rw [IntKind.wrap_i64]; omega)
            have HNT := hide hNt
            have hZb : Below wr.heap.size wr (wr.alloc (.cells #[.int .i64 a2, .int .i64 0, .slice none 0 0] 70)) := (Below.refl _ _).alloc (Nat.le_refl _) _
            have hZr := heap_alloc_new wr (.cells #[.int .i64 a2, .int .i64 0, .slice none 0 0] 70)
            have hZs : wr.heap.size < (wr.alloc (.cells #[.int .i64 a2, .int .i64 0, .slice none 0 0] 70)).heap.size := by simp
            obtain ⟨Z, hZ⟩ : ∃ Z, wr.alloc (.cells #[.int .i64 a2, .int .i64 0, .slice none 0 0] 70) = Z := ⟨_, rfl⟩
            obtain ⟨bz, hbz⟩ : ∃ bz, wr.heap.size = bz := ⟨_, rfl⟩
            rw [hZ] at hZb hZr hZs
            rw [hbz] at hZr hZs
            have hgz : g < bz := by rw [← hbz]; exact HR.out.sc.lt
            have hmz : W.heap.size < bz := by rw [← hbz]; exact HR.out.lt
            have hZg : wr.grownBy Z (some g) := ⟨hZb.os, hZb.tape, hZb.output, hZb.size, fun k hk _ => hZb.block k hk⟩
            have hscZ : Sr Z g (.slice p2 n2 c2) st0.1 st0.2 := HR.out.sc.grown (row := none) ⟨hZb.os, hZb.tape, hZb.output, hZb.size, fun k hk _ => hZb.block k hk⟩ (by simp)
            have HZ := hide hZ
            have HBZ := hide hbz
            have HZR := hide hZr
            have HZG := hide hZg
            have HGZ := hide (And.intro hgz hmz)
            have HZS := hide hZs
            have HCN := hide ((HR.out.call hscZ hZg).num3 HBP.out HNB.out hRL.1 qt)
            have HTL : Hid (T.length ≤ 1000000) := hide (by have := HLP.out; omega)
            have HA1 := hide hA1
            have HQX := hide qx
            clear hRL hRS qt qx hA1 hTl hNt hidx hZb hZr hZ hZg hscZ hgz hmz hZs
            go_wp2_with fail
            rw [HZ.out]
            clear hbz
            refine HCN.out.mono ?_
            rintro e5 w5 ⟨rfl, h5, g5⟩
            have hr5 : w5.heap[bz]? = some (.cells #[.int .i64 a2, .int .i64 0, .slice none 0 0] 70 (0, 0)) := (g5.block bz HZS.out (by intro e; injection e with e; have := HGZ.out; omega)).trans HZR.out
            have y1 := cell_of_row w5 bz 1 _ 70 (0, 0) hr5
            have f1 := frozen_of_row w5 bz 1 _ 70 hr5
            simp only [List.getElem?_toArray, List.getElem?_cons_succ, List.getElem?_cons_zero] at y1
            have hr6 := heap_setCell_same w5 bz 1 _ 70 (.int .i64 (Nt : Nat)) hr5
            simp only [List.setIfInBounds_toArray, List.set_cons_succ, List.set_cons_zero] at hr6
            have g6 : wr.grownBy (w5.setCell ⟨bz, 1, none⟩ (.int .i64 (Nt : Nat))) (some g) := grown_new (gtrans HZG.out g5) (grown_set _ _ _ _) (fun j e => by injection e with e; have := HBZ.out; omega)
            have s6 : Sr (w5.setCell ⟨bz, 1, none⟩ (.int .i64 (Nt : Nat))) g (.slice p2 n2 c2) st1.1 st1.2 := h5.grown (grown_set _ _ _ _) (by intro e; injection e with e; have := HGZ.out; omega)
            have HW5S : Hid (bz < w5.heap.size) := hide (by have := HZS.out; have := g5.size; omega)
            go_wp2_with fail
            obtain ⟨w6, hw6⟩ : ∃ w6, w5.setCell ⟨bz, 1, none⟩ (.int .i64 (Nt : Nat)) = w6 := ⟨_, rfl⟩
            have hz6 : bz < w6.heap.size := by rw [← hw6]; simpa [World.setCell] using HW5S.out
            rw [hw6] at hr6 g6 s6 ⊢
            have HR6 := hide hr6
            have HZ6 := hide hz6
            have HG6 := hide g6
            have HCT := hide ((HR.out.call s6 g6).text3 HBP.out HNB.out HA1.out 4096 rfl HQX.out)
            clear hw6 hr6 g6 s6 y1 f1 hr5 h5 g5 hz6 HCN
            refine HCT.out.mono ?_
            rintro e7 w7 ⟨rfl, h7, g7⟩
            have hr7 : w7.heap[bz]? = some (.cells #[.int .i64 a2, .int .i64 (Nt : Nat), .slice none 0 0] 70 (0, 0)) := (g7.block bz HZ6.out (by intro e; injection e with e; have := HGZ.out; omega)).trans HR6.out
            have hz7 : bz < w7.heap.size := (Array.getElem?_eq_some_iff.1 hr7).1
            obtain ⟨q8, w8, hcv, ho8, hb8⟩ := conv_own w7 T HTL.out
            obtain ⟨b8, hb8s⟩ : ∃ b, w7.heap.size = b := ⟨_, rfl⟩
            rw [hb8s] at hcv
            have hr8 := (hb8.block bz hz7).trans hr7
            have y2 := cell_of_row w8 bz 2 _ 70 (0, 0) hr8
            have f2 := frozen_of_row w8 bz 2 _ 70 hr8
            simp only [List.getElem?_toArray, List.getElem?_cons_succ, List.getElem?_cons_zero] at y2
            have hr9 := heap_setCell_same w8 bz 2 _ 70 (.slice (some ⟨b8, 0, none⟩) T.length q8) hr8
            simp only [List.setIfInBounds_toArray, List.set_cons_succ, List.set_cons_zero] at hr9
            have gb8 : w7.grownBy w8 none := ⟨hb8.os, hb8.tape, hb8.output, hb8.size, fun k hk _ => hb8.block k hk⟩
            have g9 : wr.grownBy (w8.setCell ⟨bz, 2, none⟩ (.slice (some ⟨b8, 0, none⟩) T.length q8)) (some g) := grown_new (grown_new (gtrans HG6.out g7) gb8 (fun j e => by cases e)) (grown_set _ _ _ _) (fun j e => by injection e with e; have := HBZ.out; omega)
            have s9 : Sr (w8.setCell ⟨bz, 2, none⟩ (.slice (some ⟨b8, 0, none⟩) T.length q8)) g (.slice p2 n2 c2) st2.1 st2.2 := (h7.grown gb8 (by simp)).grown (grown_set _ _ _ _) (by intro e; injection e with e; have := HGZ.out; omega)
            have o9 : Own w7.heap.size (w8.setCell ⟨bz, 2, none⟩ (.slice (some ⟨b8, 0, none⟩) T.length q8)) (.slice (some ⟨b8, 0, none⟩) T.length q8) T := by
              rw [← hb8s]
              refine ho8.grown (grown_set _ _ _ _) (.inr fun k hk e => ?_)
              injection hk with hk
              injection e with e
              have : (⟨w7.heap.size, 0, none⟩ : Addr).block = w7.heap.size := rfl
              omega
            obtain ⟨w9, hw9⟩ : ∃ w9, w8.setCell ⟨bz, 2, none⟩ (.slice (some ⟨b8, 0, none⟩) T.length q8) = w9 := ⟨_, rfl⟩
            rw [hw9] at hr9 g9 s9 o9
            have G9 := hide (HR.out.call s9 g9)
            have HW79 : Hid (wr.heap.size ≤ w7.heap.size) := hide (by have := HG6.out.size; have := g7.size; omega)
            have HO9 := hide o9
            have HW9 := hide hw9
            have HB8S := hide hb8s
            have m10 := G9.out.cell 10 rfl
            have m0 := cell_of_row w9 bz 0 _ 70 (0, 0) hr9
            have m1 := cell_of_row w9 bz 1 _ 70 (0, 0) hr9
            have m2 := cell_of_row w9 bz 2 _ 70 (0, 0) hr9
            simp only [List.getElem?_toArray, List.getElem?_cons_succ, List.getElem?_cons_zero] at m0 m1 m2
            clear hr7 hz7 ho8 hb8 hr8 hr9 gb8 g9 s9 o9 h7 g7 HCT HR6 c4
            obtain ⟨E, hE, hDE⟩ := G9.out.es
            have hlE := hE.lt
            have HEN : Hid (E.length ≤ 1000000) := hide (by
              have h1 := hDE.1
              have h2 := (rfEs_le (ix := H.ix) AC.out k).2
              have h3 : L0.length = k := by
                have := HR0.out
                rw [this] at h2
                exact h2
              omega)
            have HFAR : Hid (Far ⟨a2, (Nt : Nat), some ⟨b8, 0, none⟩, T.length, q8⟩ (.slice pe ne ce)) := hide (.inr fun j hj e2 => by
              obtain ⟨E', hE', _⟩ := HR.out.es
              have h1 := (hE'.lt j e2).2
              injection hj with hj
              have : (⟨b8, 0, none⟩ : Addr).block = b8 := rfl
              have := HB8S.out
              have := HW79.out
              omega)
            have HPSH := hide (fun w' v' hg he => hDE.push (w' := w') (v' := v') (e := ⟨a2, (Nt : Nat), some ⟨b8, 0, none⟩, T.length, q8⟩) (x := ⟨a2, (Nt : Nat), T⟩) rfl rfl (HO9.out.mono (by have := HW79.out; have := HR.out.lt; omega)) HFAR.out ⟨HF2.out, by have := HNT.out; unfold fits; dsimp only; omega⟩ hg he)
            have HE := hide hE
            have HWB : Hid (W.heap.size + 1 ≤ w9.heap.size) := hide (by have := G9.out.lt; omega)
            clear hE hDE hlE
            go_wp2_with (at_builtin; go_loud (refine wpList_pushE2 (w := w9) (v := .slice pe ne ce) (l := E) (B := W.heap.size + 1) (H := w9.heap.size) rfl (.tmp 88) (.tmp 90) rfl rfl ⟨a2, (Nt : Nat), some ⟨b8, 0, none⟩, T.length, q8⟩ rfl rfl (by simp) HE.out HWB.out HEN.out ?_); intro v10 w10 ho10 hb10 hg10 he10; obtain ⟨p10, n10, c10, rfl⟩ := ho10.ecs.sl; have HGP := hide (G9.out.put (L' := L0 ++ [⟨a2, (Nt : Nat), T⟩]) hg10 ⟨_, ho10, HPSH.out w10 _ hg10 he10⟩); obtain ⟨z10, zf10⟩ := G9.out.cellPut hg10; clear ho10 hb10 hg10 he10 m0 m1 m2 m10)
            go_roundw
            case rel => exact ⟨k + 1, _, by omega, by omega, by go_num, ⟨_, _, _, rfl⟩, hide (by rw [HRS.out]; exact HGP.out)⟩
            case measure => simp [intOf]; omega
          · have e2 : decide ((k : Int) < 9) = false := decide_eq_false (by omega)
            have hkm : k = min NC 9 := by omega
            obtain ⟨r3, hr3⟩ : ∃ r, rfEs P H.ix k sC = r := ⟨_, rfl⟩
            have hR3 := (rfEs_le (ix := H.ix) AC.out k).1
            rw [hr3] at HR hR3
            obtain ⟨L3, st3⟩ := r3
            dsimp only at HR hR3
            have HL3 := hide hr3
            have HKM := hide hkm
            have A3 := hide hR3
            have G12 := hide HR.out.next
            obtain ⟨NV, sV, qV⟩ : ∃ N s, nx P st3 = (N, s) := ⟨_, _, rfl⟩
            have AV : Hid (sV.1 ≤ P.length) := hide (by have := (nx_le hR3).1; rw [qV] at this; exact this)
            have QV := hide qV
            have HNUM := hide (G12.out.num2 HBP.out HNB.out hR3 qV)
            have HWW : Hid (W.heap.size < wr.heap.size) := hide HR.out.lt
            have HRE : Hid (rfE P = (L3, st3)) := hide (by
              have hC : rdC P = (NC, sC) := by unfold rdC; rw [HRH.out]; exact QC.out
              unfold rfE; rw [hC, HRH.out]; dsimp only; rw [← HKM.out]; exact HL3.out)
            have hNV : 9 < NV := HVV.out NV sV (by unfold rfV; rw [HRE.out]; exact qV)
            clear hkm hr3 hR3 qV
            go_wp2_with fail
            refine HNUM.out.mono ?_
            rintro e31 w31 ⟨rfl, h31⟩
            have G13 := hide h31
            clear h31 HNUM
            go_wp2_with fail
            go_loopw [12] (fun i V => ∃ (j : Nat) (vv : Value), j ≤ NV ∧ j ≤ 9 ∧ i = .int .i64 j ∧ (∃ p n c, vv = .slice p n c) ∧ Hid (RfBt W wr V g (.slice p2 n2 c2) (rdNs P j sV).2 H (.slice pe ne ce) vv L3 (rdNs P j sV).1)) (fun i _ => 9 - (intOf i).toNat)
            case atStart => exact ⟨0, .slice none 0 0, by omega, by omega, rfl, ⟨_, _, _, rfl⟩, G13⟩
            case round =>
              obtain ⟨j, vv, hj, hj9, rfl, ⟨pv, nv, cv, rfl⟩, HQ⟩ := hrel
              by_cases hjl : j < NV
              · have e3 : decide ((j : Int) < (NV : Int)) = true := decide_eq_true (by omega)
                by_cases hj8 : j < 9
                · have e4 : decide ((j : Int) < 9) = true := decide_eq_true (by omega)
                  have hRL := rdNs_le AV.out j
                  obtain ⟨r0, hr0⟩ : ∃ r, rdNs P j sV = r := ⟨_, rfl⟩
                  have hRS : rdNs P (j + 1) sV = (r0.1 ++ [((nx P r0.2).1 : Int)], (nx P r0.2).2) := by rw [← hr0]; rfl
                  rw [hr0] at HQ hRL
                  obtain ⟨V0, st0⟩ := r0
                  dsimp only at HQ hRL hRS
                  obtain ⟨na, sa, qa⟩ : ∃ N s, nx P st0 = (N, s) := ⟨_, _, rfl⟩
                  rw [qa] at hRS
                  dsimp only at hRS
                  have HFI : Hid (fits ((na : Nat) : Int)) := hide (by have := nx_fits (l := P) hRL.1; rw [qa] at this; exact this)
                  have HLV : Hid (V0.length ≤ 1000000) := hide (by have := hRL.2; omega)
                  have HSUC := hide hRS
                  have HN1 := hide (fun q => (HQ.out.drewN q).num3 HBP.out HNB.out hRL.1 qa)
                  have d11 := HQ.out.cell 11 rfl
                  have d11' : wr.drew.cell? ⟨W.heap.size, 11, none⟩ = some (.slice pv nv cv) := d11
                  clear hRL hRS qa hr0
                  go_wp2_with fail
                  refine wp_region_held_drew (S := fun _ => True) (by kernel_rfl) ?_ (fun hHeld => ?_)
                  · (try dsimp only)
                    try trivial
                  refine wpAnyH_take (i := 0) (oi := { dst := some 104, op := Op.fieldAddr 26 (Operand.tmp 8) 11, type := 0, pos := "ref.go:69", after := #[], guard := none }) (v := ?_) rfl (by kernel_rfl) (by kernel_rfl) (by kernel_rfl) (fun _ _ _ h => h) (Or.inl ⟨by rfl, ?_⟩) (by assumption) ?_
                  rotate_left
                  · intro w hSw
                    (try dsimp only at hSw)
                    go_simp
                    try with_reducible rfl
                  try simp only [Act.put, List.setIfInBounds_toArray, List.set_cons_zero, List.set_cons_succ]
                  refine wpAnyH_take (i := 2) (oi := { dst := some 106, op := Op.move (Operand.tmp 7), type := 83, pos := "ref.go:69", after := #[], guard := none }) (v := ?_) rfl (by kernel_rfl) (by kernel_rfl) (by kernel_rfl) (fun _ _ _ h => h) (Or.inl ⟨by rfl, ?_⟩) (by assumption) ?_
                  rotate_left
                  · intro w hSw
                    (try dsimp only at hSw)
                    go_simp
                    try with_reducible rfl
                  try simp only [Act.put, List.setIfInBounds_toArray, List.set_cons_zero, List.set_cons_succ]
                  refine wpAnyH_ready (rs := [1, 3]) (by kernel_rfl) (by simp) ?_
                  refine AllReadyH.cons (o := { dst := some 105, op := Op.load 23 (Operand.tmp 104), type := 23, pos := "ref.go:69", after := _, guard := none }) rfl (fun K hK => ?_) ?_
                  · go_simp
                    first
                      | refine hK.out _ _ ?_ (fun hHeld => ?_)
                      | (go_wp2_with fail; refine hK.out _ _ ?_ (fun hHeld => ?_))
                    · (try dsimp only)
                      try trivial
                    clear hK K
                    try simp only [Act.put, List.setIfInBounds_toArray, List.set_cons_zero, List.set_cons_succ]
                    refine wpAnyH_ready (rs := [3]) (by kernel_rfl) (by simp) ?_
                    refine AllReadyH.cons (o := { dst := some 107, op := Op.call { callee := Callee.value (Operand.func 54), args := #[Operand.tmp 106], argTypes := #[83] }, type := 3, pos := "ref.go:69", after := _, guard := none }) rfl (fun K hK => ?_) ?_
                    · go_simp
                      refine (HN1.out 1).mono ?_
                      rintro e5 w5 ⟨rfl, hs5, hg5⟩
                      have HR5 := hide ((HQ.out.drewN 1).call (st' := sa) hs5 hg5)
                      have f11 := HR5.out.cell 11 rfl
                      have z11 := Lib.cell?_alloc_some (.cells #[.int .i64 (na : Nat)] 3) f11
                      have HB5 : Hid (wr.heap.size ≤ w5.heap.size) := hide hg5.size
                      clear hs5 hg5
                      first
                        | refine hK.out _ _ ?_ (fun hHeld => ?_)
                        | (go_wp2_with fail; refine hK.out _ _ ?_ (fun hHeld => ?_))
                      · (try dsimp only)
                        try trivial
                      clear hK K
                      try simp only [Act.put, List.setIfInBounds_toArray, List.set_cons_zero, List.set_cons_succ]
                      refine wpAnyH_ready (rs := [4]) (by kernel_rfl) (by simp) ?_
                      refine AllReadyH.cons (o := { dst := some 108, op := Op.buildSlice 23 1 #[(0, Operand.tmp 107)], type := 23, pos := "ref.go:69", after := _, guard := none }) rfl (fun K hK => ?_) ?_
                      · go_simp
                        first
                          | refine hK.out _ _ ?_ (fun hHeld => ?_)
                          | (go_wp2_with fail; refine hK.out _ _ ?_ (fun hHeld => ?_))
                        · (try dsimp only)
                          try trivial
                        clear hK K
                        try simp only [Act.put, List.setIfInBounds_toArray, List.set_cons_zero, List.set_cons_succ]
                        refine wpAnyH_ready (rs := [5]) (by kernel_rfl) (by simp) ?_
                        refine AllReadyH.cons (o := { dst := some 109, op := Op.call { callee := Callee.builtin Builtin.append, args := #[Operand.tmp 105, Operand.tmp 108], argTypes := #[23, 23] }, type := 23, pos := "ref.go:69", after := _, guard := none }) rfl (fun K hK => ?_) ?_
                        · refine step_pushN1 (by rfl) _ _ (by rfl) (by rfl) (na : Int) (by rfl) (by rfl) (by rfl) HR5.out.vs HFI.out (by have := HQ.out.ch.size; have := HB5.out; omega) HLV.out ?_
                          intro v9 w9 ho9 hg9
                          obtain ⟨p9, n9, c9, rfl⟩ := ho9.ns.sl
                          have HP9 := hide (HR5.out.put hg9 ho9)
                          obtain ⟨m11, mf11⟩ := HR5.out.cellPut hg9
                          clear ho9 hg9
                          first
                            | refine hK.out _ _ ?_ (fun hHeld => ?_)
                            | (go_wp2_with fail; refine hK.out _ _ ?_ (fun hHeld => ?_))
                          · (try dsimp only)
                            try trivial
                          clear hK K
                          try simp only [Act.put, List.setIfInBounds_toArray, List.set_cons_zero, List.set_cons_succ]
                          refine wpAnyH_take (i := 6) (oi := { dst := some 110, op := Op.fieldAddr 26 (Operand.tmp 8) 11, type := 0, pos := "ref.go:69", after := _, guard := none }) (v := ?_) rfl (by kernel_rfl) (by kernel_rfl) (by kernel_rfl) (fun _ _ _ h => h) (Or.inl ⟨by rfl, ?_⟩) (by assumption) ?_
                          rotate_left
                          · intro w hSw
                            (try dsimp only at hSw)
                            go_simp
                            try with_reducible rfl
                          try simp only [Act.put, List.setIfInBounds_toArray, List.set_cons_zero, List.set_cons_succ]
                          refine wpAnyH_ready (rs := [7]) (by kernel_rfl) (by simp) ?_
                          refine AllReadyH.cons (o := { dst := none, op := Op.store 23 (Operand.tmp 110) (Operand.tmp 109), type := 0, pos := "ref.go:69", after := _, guard := none }) rfl (fun K hK => ?_) ?_
                          · go_simp
                            first
                              | refine hK.out _ _ ?_ (fun hHeld => ?_)
                              | (go_wp2_with fail; refine hK.out _ _ ?_ (fun hHeld => ?_))
                            · (try dsimp only)
                              try trivial
                            clear hK K
                            try simp only [Act.put, List.setIfInBounds_toArray, List.set_cons_zero, List.set_cons_succ]
                            refine wpAnyH_done (by kernel_rfl) ?_ _
                            go_wp2
                            go_roundw
                            case rel => exact ⟨j + 1, .slice p9 n9 c9, by omega, by omega, by go_num, ⟨_, _, _, rfl⟩, hide (by rw [HSUC.out]; exact HP9.out)⟩
                            case measure => simp [intOf]; omega
                          exact AllReadyH.nil
                        exact AllReadyH.nil
                      exact AllReadyH.nil
                    exact AllReadyH.nil
                  refine AllReadyH.cons (o := { dst := some 107, op := Op.call { callee := Callee.value (Operand.func 54), args := #[Operand.tmp 106], argTypes := #[83] }, type := 3, pos := "ref.go:69", after := _, guard := none }) rfl (fun K hK => ?_) ?_
                  · go_simp
                    refine (HN1.out 1).mono ?_
                    rintro e5 w5 ⟨rfl, hs5, hg5⟩
                    have HR5 := hide ((HQ.out.drewN 1).call (st' := sa) hs5 hg5)
                    have f11 := HR5.out.cell 11 rfl
                    have z11 := Lib.cell?_alloc_some (.cells #[.int .i64 (na : Nat)] 3) f11
                    have HB5 : Hid (wr.heap.size ≤ w5.heap.size) := hide hg5.size
                    clear hs5 hg5
                    first
                      | refine hK.out _ _ ?_ (fun hHeld => ?_)
                      | (go_wp2_with fail; refine hK.out _ _ ?_ (fun hHeld => ?_))
                    · (try dsimp only)
                      try trivial
                    clear hK K
                    try simp only [Act.put, List.setIfInBounds_toArray, List.set_cons_zero, List.set_cons_succ]
                    refine wpAnyH_ready (rs := [1, 4]) (by kernel_rfl) (by simp) ?_
                    refine AllReadyH.cons (o := { dst := some 105, op := Op.load 23 (Operand.tmp 104), type := 23, pos := "ref.go:69", after := _, guard := none }) rfl (fun K hK => ?_) ?_
                    · go_simp
                      first
                        | refine hK.out _ _ ?_ (fun hHeld => ?_)
                        | (go_wp2_with fail; refine hK.out _ _ ?_ (fun hHeld => ?_))
                      · (try dsimp only)
                        try trivial
                      clear hK K
                      try simp only [Act.put, List.setIfInBounds_toArray, List.set_cons_zero, List.set_cons_succ]
                      refine wpAnyH_ready (rs := [4]) (by kernel_rfl) (by simp) ?_
                      refine AllReadyH.cons (o := { dst := some 108, op := Op.buildSlice 23 1 #[(0, Operand.tmp 107)], type := 23, pos := "ref.go:69", after := _, guard := none }) rfl (fun K hK => ?_) ?_
                      · go_simp
                        first
                          | refine hK.out _ _ ?_ (fun hHeld => ?_)
                          | (go_wp2_with fail; refine hK.out _ _ ?_ (fun hHeld => ?_))
                        · (try dsimp only)
                          try trivial
                        clear hK K
                        try simp only [Act.put, List.setIfInBounds_toArray, List.set_cons_zero, List.set_cons_succ]
                        refine wpAnyH_ready (rs := [5]) (by kernel_rfl) (by simp) ?_
                        refine AllReadyH.cons (o := { dst := some 109, op := Op.call { callee := Callee.builtin Builtin.append, args := #[Operand.tmp 105, Operand.tmp 108], argTypes := #[23, 23] }, type := 23, pos := "ref.go:69", after := _, guard := none }) rfl (fun K hK => ?_) ?_
                        · refine step_pushN1 (by rfl) _ _ (by rfl) (by rfl) (na : Int) (by rfl) (by rfl) (by rfl) HR5.out.vs HFI.out (by have := HQ.out.ch.size; have := HB5.out; omega) HLV.out ?_
                          intro v9 w9 ho9 hg9
                          obtain ⟨p9, n9, c9, rfl⟩ := ho9.ns.sl
                          have HP9 := hide (HR5.out.put hg9 ho9)
                          obtain ⟨m11, mf11⟩ := HR5.out.cellPut hg9
                          clear ho9 hg9
                          first
                            | refine hK.out _ _ ?_ (fun hHeld => ?_)
                            | (go_wp2_with fail; refine hK.out _ _ ?_ (fun hHeld => ?_))
                          · (try dsimp only)
                            try trivial
                          clear hK K
                          try simp only [Act.put, List.setIfInBounds_toArray, List.set_cons_zero, List.set_cons_succ]
                          refine wpAnyH_take (i := 6) (oi := { dst := some 110, op := Op.fieldAddr 26 (Operand.tmp 8) 11, type := 0, pos := "ref.go:69", after := _, guard := none }) (v := ?_) rfl (by kernel_rfl) (by kernel_rfl) (by kernel_rfl) (fun _ _ _ h => h) (Or.inl ⟨by rfl, ?_⟩) (by assumption) ?_
                          rotate_left
                          · intro w hSw
                            (try dsimp only at hSw)
                            go_simp
                            try with_reducible rfl
                          try simp only [Act.put, List.setIfInBounds_toArray, List.set_cons_zero, List.set_cons_succ]
                          refine wpAnyH_ready (rs := [7]) (by kernel_rfl) (by simp) ?_
                          refine AllReadyH.cons (o := { dst := none, op := Op.store 23 (Operand.tmp 110) (Operand.tmp 109), type := 0, pos := "ref.go:69", after := _, guard := none }) rfl (fun K hK => ?_) ?_
                          · go_simp
                            first
                              | refine hK.out _ _ ?_ (fun hHeld => ?_)
                              | (go_wp2_with fail; refine hK.out _ _ ?_ (fun hHeld => ?_))
                            · (try dsimp only)
                              try trivial
                            clear hK K
                            try simp only [Act.put, List.setIfInBounds_toArray, List.set_cons_zero, List.set_cons_succ]
                            refine wpAnyH_done (by kernel_rfl) ?_ _
                            go_wp2
                            go_roundw
                            case rel => exact ⟨j + 1, .slice p9 n9 c9, by omega, by omega, by go_num, ⟨_, _, _, rfl⟩, hide (by rw [HSUC.out]; exact HP9.out)⟩
                            case measure => simp [intOf]; omega
                          exact AllReadyH.nil
                        exact AllReadyH.nil
                      exact AllReadyH.nil
                    refine AllReadyH.cons (o := { dst := some 108, op := Op.buildSlice 23 1 #[(0, Operand.tmp 107)], type := 23, pos := "ref.go:69", after := _, guard := none }) rfl (fun K hK => ?_) ?_
                    · go_simp
                      first
                        | refine hK.out _ _ ?_ (fun hHeld => ?_)
                        | (go_wp2_with fail; refine hK.out _ _ ?_ (fun hHeld => ?_))
                      · (try dsimp only)
                        try trivial
                      clear hK K
                      try simp only [Act.put, List.setIfInBounds_toArray, List.set_cons_zero, List.set_cons_succ]
                      refine wpAnyH_ready (rs := [1]) (by kernel_rfl) (by simp) ?_
                      refine AllReadyH.cons (o := { dst := some 105, op := Op.load 23 (Operand.tmp 104), type := 23, pos := "ref.go:69", after := _, guard := none }) rfl (fun K hK => ?_) ?_
                      · go_simp
                        first
                          | refine hK.out _ _ ?_ (fun hHeld => ?_)
                          | (go_wp2_with fail; refine hK.out _ _ ?_ (fun hHeld => ?_))
                        · (try dsimp only)
                          try trivial
                        clear hK K
                        try simp only [Act.put, List.setIfInBounds_toArray, List.set_cons_zero, List.set_cons_succ]
                        refine wpAnyH_ready (rs := [5]) (by kernel_rfl) (by simp) ?_
                        refine AllReadyH.cons (o := { dst := some 109, op := Op.call { callee := Callee.builtin Builtin.append, args := #[Operand.tmp 105, Operand.tmp 108], argTypes := #[23, 23] }, type := 23, pos := "ref.go:69", after := _, guard := none }) rfl (fun K hK => ?_) ?_
                        · refine step_pushN1 (by rfl) _ _ (by rfl) (by rfl) (na : Int) (by rfl) (by rfl) (by rfl) HR5.out.vs HFI.out (by have := HQ.out.ch.size; have := HB5.out; omega) HLV.out ?_
                          intro v9 w9 ho9 hg9
                          obtain ⟨p9, n9, c9, rfl⟩ := ho9.ns.sl
                          have HP9 := hide (HR5.out.put hg9 ho9)
                          obtain ⟨m11, mf11⟩ := HR5.out.cellPut hg9
                          clear ho9 hg9
                          first
                            | refine hK.out _ _ ?_ (fun hHeld => ?_)
                            | (go_wp2_with fail; refine hK.out _ _ ?_ (fun hHeld => ?_))
                          · (try dsimp only)
                            try trivial
                          clear hK K
                          try simp only [Act.put, List.setIfInBounds_toArray, List.set_cons_zero, List.set_cons_succ]
                          refine wpAnyH_take (i := 6) (oi := { dst := some 110, op := Op.fieldAddr 26 (Operand.tmp 8) 11, type := 0, pos := "ref.go:69", after := _, guard := none }) (v := ?_) rfl (by kernel_rfl) (by kernel_rfl) (by kernel_rfl) (fun _ _ _ h => h) (Or.inl ⟨by rfl, ?_⟩) (by assumption) ?_
                          rotate_left
                          · intro w hSw
                            (try dsimp only at hSw)
                            go_simp
                            try with_reducible rfl
                          try simp only [Act.put, List.setIfInBounds_toArray, List.set_cons_zero, List.set_cons_succ]
                          refine wpAnyH_ready (rs := [7]) (by kernel_rfl) (by simp) ?_
                          refine AllReadyH.cons (o := { dst := none, op := Op.store 23 (Operand.tmp 110) (Operand.tmp 109), type := 0, pos := "ref.go:69", after := _, guard := none }) rfl (fun K hK => ?_) ?_
                          · go_simp
                            first
                              | refine hK.out _ _ ?_ (fun hHeld => ?_)
                              | (go_wp2_with fail; refine hK.out _ _ ?_ (fun hHeld => ?_))
                            · (try dsimp only)
                              try trivial
                            clear hK K
                            try simp only [Act.put, List.setIfInBounds_toArray, List.set_cons_zero, List.set_cons_succ]
                            refine wpAnyH_done (by kernel_rfl) ?_ _
                            go_wp2
                            go_roundw
                            case rel => exact ⟨j + 1, .slice p9 n9 c9, by omega, by omega, by go_num, ⟨_, _, _, rfl⟩, hide (by rw [HSUC.out]; exact HP9.out)⟩
                            case measure => simp [intOf]; omega
                          exact AllReadyH.nil
                        exact AllReadyH.nil
                      exact AllReadyH.nil
                    exact AllReadyH.nil
                  exact AllReadyH.nil
                · have e4 : decide ((j : Int) < 9) = false := decide_eq_false (by omega)
                  have hjm : j = min NV 9 := by omega
                  obtain ⟨r4, hr4⟩ : ∃ r, rdNs P j sV = r := ⟨_, rfl⟩
                  have hR4 := (rdNs_le AV.out j).1
                  rw [hr4] at HQ hR4
                  obtain ⟨V4, st4⟩ := r4
                  dsimp only at HQ hR4
                  obtain ⟨T, st5, qT⟩ : ∃ T s, tx P 512 st4 = (T, s) := ⟨_, _, rfl⟩
                  have hTl : T.length ≤ P.length := by have := (tx_le (most := 512) hR4).2; rw [qT] at this; exact this
                  have HTL : Hid (T.length ≤ 1000000) := hide (by have := HLP.out; omega)
                  have HREF : Hid (mq = ⟨H.k, H.f, H.t, H.tm, H.ix, H.lt, H.cm, H.rd, H.ys, H.dn, L3, V4, T⟩ ∧ (rfD P).2 = st5 ∧ H.Fits) := hide (by
                    have hH : rdH P = (H, s10) := by
                      unfold rdH
                      simp only [Q1.out, Q2.out, Q3.out, Q4.out, Q5.out, Q6.out, Q7.out, Q8.out, Q9.out, Q10.out]
                      rw [← HHH.out]
                    have hC : rdC P = (NC, sC) := by unfold rdC; rw [hH]; exact QC.out
                    have hE : rfE P = (L3, st3) := by unfold rfE; rw [hC, hH]; dsimp only; rw [← HKM.out]; exact HL3.out
                    have hV : rfV P = (NV, sV) := by unfold rfV; rw [hE]; exact QV.out
                    have hW : rfW P = (V4, st4) := by unfold rfW; rw [hV]; dsimp only; rw [← hjm]; exact hr4
                    have hD : rfD P = (T, st5) := by unfold rfD; rw [hW]; exact qT
                    refine ⟨?_, by rw [hD], by have h1 := rdH_fits P; rw [hH] at h1; exact h1⟩
                    rw [← HMQ.out]
                    unfold refP
                    rw [hH, hE, hW, hD, ← HHH.out])
                  have HTX := hide (HQ.out.text3 HBP.out HNB.out hR4 512 rfl qT)
                  clear hjm hr4 hR4 qT hTl
                  go_wp2_with fail
                  refine HTX.out.mono ?_
                  rintro e41 w41 ⟨rfl, h41, g41⟩
                  obtain ⟨q8, w8, hcv, ho8, hb8⟩ := conv_own w41 T HTL.out
                  obtain ⟨b8, hb8s⟩ : ∃ b, w41.heap.size = b := ⟨_, rfl⟩
                  rw [hb8s] at hcv
                  have gb8 : w41.grownBy w8 none := ⟨hb8.os, hb8.tape, hb8.output, hb8.size, fun k hk _ => hb8.block k hk⟩
                  have Q8 := HQ.out.call (st' := st5) (h41.grown gb8 (by simp)) (gtrans g41 ⟨gb8.os, gb8.tape, gb8.output, gb8.size, fun k hk _ => hb8.block k hk⟩)
                  have y12 := Q8.cell 12 rfl
                  have f12 := Q8.fr 12
                  have hr9 := heap_setCell_same w8 W.heap.size 12 _ 26 (.slice (some ⟨b8, 0, none⟩) T.length q8) Q8.row
                  simp only [List.setIfInBounds_toArray, List.set_cons_succ, List.set_cons_zero] at hr9
                  obtain ⟨V9, hV9⟩ : ∃ V9, w8.setCell ⟨W.heap.size, 12, none⟩ (.slice (some ⟨b8, 0, none⟩) T.length q8) = V9 := ⟨_, rfl⟩
                  have gV9 : w8.grownBy V9 (some W.heap.size) := by rw [← hV9]; exact grown_set _ _ _ _
                  have s9 : Sr V9 g (.slice p2 n2 c2) st5.1 st5.2 := Q8.sc.grown gV9 (by intro e; injection e with e; have := HGW.out; omega)
                  rw [hV9] at hr9
                  have hbw : W.heap.size < w41.heap.size := by
                    have h2 := HQ.out.lt
                    have h3 := g41.size
                    omega
                  have HMO : Hid (MsO (W.heap.size + 1) V9 ⟨H.k, H.f, H.t, H.tm, H.ix, H.lt, H.cm, H.rd, H.ys, H.dn, L3, V4, T⟩ (.slice pe ne ce) (.slice pv nv cv) (.slice (some ⟨b8, 0, none⟩) T.length q8)) := hide (by
                    refine ⟨Q8.ens.grownLt gV9 (by omega), (Q8.vs.grownLt gV9 Q8.w2).mono Q8.w2, ?_, HREF.out.2.2⟩
                    have h1 := (ho8.grownLt gV9 hbw).mono (B' := W.heap.size + 1) hbw
                    rw [hb8s] at h1
                    exact h1)
                  have HW8 : Below w.heap.size w w8 := HBW.out.grown Q8.gr HBW.out.size fun k hk => by injection hk with hk; have := HW0.out; omega
                  have HWV : Hid (Below w.heap.size w V9) := hide (HW8.grown gV9 HW8.size fun k hk => by injection hk with hk; have := HW0.out; have := HGW.out; omega)
                  have HRV : Hid (V9.heap[w.heap.size]? = some (.cells #[.int .i64 0, .int .i64 0, .int .i64 0, .int .i64 0, .int .i64 0, .int .i64 0, .int .i64 0, .int .i64 0, .bool false, .bool false, .slice none 0 0, .slice none 0 0, .slice none 0 0] 26 (0, 0))) := hide (by
                    have h0 : w.heap.size < W.heap.size := by have := HW0.out; have := HGW.out; omega
                    have h1 := (Q8.gr.block w.heap.size h0 (by intro e; injection e with e; have := HW0.out; omega)).trans HRW.out
                    exact (gV9.block w.heap.size (Array.getElem?_eq_some_iff.1 h1).1 (by intro e; injection e with e; omega)).trans h1)
                  have HPT := hide (refPut_any HMO.out.v)
                  rw [← HREF.out.1] at HPT
                  unfold PutPost at HPT
                  unfold msA at HPT
                  have HMF : Hid (mq.k = H.k ∧ mq.f = H.f ∧ mq.t = H.t ∧ mq.tm = H.tm ∧ mq.ix = H.ix ∧ mq.lt = H.lt ∧ mq.cm = H.cm ∧ mq.rd = H.rd ∧ mq.ys = H.ys ∧ mq.dn = H.dn) := hide (by rw [HREF.out.1]; exact ⟨rfl, rfl, rfl, rfl, rfl, rfl, rfl, rfl, rfl, rfl⟩)
                  obtain ⟨h0, h1, h2, h3, h4, h5, h6, h7, h8, h9⟩ := HMF.out
                  rw [← h0, ← h1, ← h2, ← h3, ← h4, ← h5, ← h6, ← h7, ← h8, ← h9] at hr9
                  have hMO := HMO.out
                  rw [← HREF.out.1] at hMO
                  have HMQO := hide hMO
                  clear h0 h1 h2 h3 h4 h5 h6 h7 h8 h9 HMF hMO
                  have HX9 := hide (Box13.of_row hr9)
                  obtain ⟨z0, z1, z2, z3, z4, z5, z6, z7, z8, z9, z10, z11, z12⟩ := Box13.of_row hr9
                  have HS9 := hide s9
                  have HEE : Hid ((rfD P).2.2 = st5.2) := hide (by rw [HREF.out.2.1])
                  obtain ⟨EA, EE⟩ := st5
                  dsimp only at HS9 HEE
                  have HGV := hide s9.lt
                  clear h41 g41 gb8 hb8 ho8 hr9 gV9 s9 hbw HW8 Q8 HTX
                  go_wp2_with fail
                  clear z0 z1 z2 z3 z4 z5 z6 z7 z8 z9 z10 z11 z12 y12 f12 hV9 hcv hb8s
                  refine HPT.out.mono ?_
                  rintro e42 w42 ⟨v42, rfl, ho42, hb42⟩
                  obtain ⟨p42, n42, c42, rfl⟩ := ho42.by_.sl
                  have HWL := hide (HWV.out.trans (hb42.mono HWV.out.size))
                  have HX42 := hide (HX9.out.below hb42)
                  have HRL := hide ((hb42.block w.heap.size (by have := HWV.out.size; exact (Array.getElem?_eq_some_iff.1 HRV.out).1)).trans HRV.out)
                  have HM42 := hide (HMQO.out.below hb42)
                  have s42 : Sr w42 g (.slice p2 n2 c2) EA EE := (hb42.block g HGV.out).trans HS9.out
                  have r2 := s42.c2
                  have v1 := conv_at ho42.by_
                  have v2 := conv_at (HBYL.out w42 HWL.out)
                  clear hb42 ho42 s42
                  obtain ⟨ck, hck⟩ : ∃ c, chkM mq = c := ⟨_, rfl⟩
                  obtain ⟨qo, hqo⟩ : ∃ q, okM mq = q := ⟨_, rfl⟩
                  have hck2 : ck = if qo then 0 else 122 := by rw [← hck, ← hqo]; rfl
                  obtain ⟨S1, hS1⟩ : ∃ s, str (putL mq) = s := ⟨_, rfl⟩
                  obtain ⟨S2, hS2⟩ : ∃ s, str l = s := ⟨_, rfl⟩
                  rw [hS1] at v1
                  rw [hS2] at v2
                  rw [hck]
                  have hrl := HRL.out
                  have m0 := cell_of_row w42 w.heap.size 0 _ 26 (0, 0) hrl
                  have mf0 := frozen_of_row w42 w.heap.size 0 _ 26 hrl
                  have m1 := cell_of_row w42 w.heap.size 1 _ 26 (0, 0) hrl
                  have mf1 := frozen_of_row w42 w.heap.size 1 _ 26 hrl
                  have m2 := cell_of_row w42 w.heap.size 2 _ 26 (0, 0) hrl
                  have mf2 := frozen_of_row w42 w.heap.size 2 _ 26 hrl
                  have m3 := cell_of_row w42 w.heap.size 3 _ 26 (0, 0) hrl
                  have mf3 := frozen_of_row w42 w.heap.size 3 _ 26 hrl
                  have m4 := cell_of_row w42 w.heap.size 4 _ 26 (0, 0) hrl
                  have mf4 := frozen_of_row w42 w.heap.size 4 _ 26 hrl
                  have m5 := cell_of_row w42 w.heap.size 5 _ 26 (0, 0) hrl
                  have mf5 := frozen_of_row w42 w.heap.size 5 _ 26 hrl
                  have m6 := cell_of_row w42 w.heap.size 6 _ 26 (0, 0) hrl
                  have mf6 := frozen_of_row w42 w.heap.size 6 _ 26 hrl
                  have m7 := cell_of_row w42 w.heap.size 7 _ 26 (0, 0) hrl
                  have mf7 := frozen_of_row w42 w.heap.size 7 _ 26 hrl
                  have m8 := cell_of_row w42 w.heap.size 8 _ 26 (0, 0) hrl
                  have mf8 := frozen_of_row w42 w.heap.size 8 _ 26 hrl
                  have m9 := cell_of_row w42 w.heap.size 9 _ 26 (0, 0) hrl
                  have mf9 := frozen_of_row w42 w.heap.size 9 _ 26 hrl
                  have m10 := cell_of_row w42 w.heap.size 10 _ 26 (0, 0) hrl
                  have mf10 := frozen_of_row w42 w.heap.size 10 _ 26 hrl
                  have m11 := cell_of_row w42 w.heap.size 11 _ 26 (0, 0) hrl
                  have mf11 := frozen_of_row w42 w.heap.size 11 _ 26 hrl
                  have m12 := cell_of_row w42 w.heap.size 12 _ 26 (0, 0) hrl
                  have mf12 := frozen_of_row w42 w.heap.size 12 _ 26 hrl
                  simp only [List.getElem?_toArray, List.getElem?_cons_succ, List.getElem?_cons_zero] at m0 m1 m2 m3 m4 m5 m6 m7 m8 m9 m10 m11 m12
                  clear hrl
                  by_cases hEE : EE = 0
                  · cases qo with
                    | false =>
                      obtain rfl : R = (ms0, 122) := HRF.out (by intro h; have := h.1.2; rw [hqo] at this; cases this)
                      have hk2 : ck = 122 := hck2
                      subst hk2
                      subst hEE
                      clear hck hqo hck2 hS1 hS2 HRT HRF HEE
                      go_wp2
                      have hs9 := set13 w42 w.heap.size 26 _ _ _ _ _ _ _ _ _ _ _ _ _ (.int .i64 0) (.int .i64 0) (.int .i64 0) (.int .i64 0) (.int .i64 0) (.int .i64 0) (.int .i64 0) (.int .i64 0) (.bool false) (.bool false) (.slice none 0 0) (.slice none 0 0) (.slice none 0 0) HRL.out
                      have hG9 := grownAll13 w42 w.heap.size (.int .i64 0) (.int .i64 0) (.int .i64 0) (.int .i64 0) (.int .i64 0) (.int .i64 0) (.int .i64 0) (.int .i64 0) (.bool false) (.bool false) (.slice none 0 0) (.slice none 0 0) (.slice none 0 0)
                      obtain ⟨W9, hW9⟩ : ∃ W9, (((((((((((((w42).setCell ⟨w.heap.size, 0, none⟩ (.int .i64 0)).setCell ⟨w.heap.size, 1, none⟩ (.int .i64 0)).setCell ⟨w.heap.size, 2, none⟩ (.int .i64 0)).setCell ⟨w.heap.size, 3, none⟩ (.int .i64 0)).setCell ⟨w.heap.size, 4, none⟩ (.int .i64 0)).setCell ⟨w.heap.size, 5, none⟩ (.int .i64 0)).setCell ⟨w.heap.size, 6, none⟩ (.int .i64 0)).setCell ⟨w.heap.size, 7, none⟩ (.int .i64 0)).setCell ⟨w.heap.size, 8, none⟩ (.bool false)).setCell ⟨w.heap.size, 9, none⟩ (.bool false)).setCell ⟨w.heap.size, 10, none⟩ (.slice none 0 0)).setCell ⟨w.heap.size, 11, none⟩ (.slice none 0 0)).setCell ⟨w.heap.size, 12, none⟩ (.slice none 0 0) = W9 := ⟨_, rfl⟩
                      rw [hW9] at hs9 hG9 ⊢
                      clear hW9
                      have n0_ := cell_of_row W9 w.heap.size 0 _ 26 (0, 0) hs9
                      have n1_ := cell_of_row W9 w.heap.size 1 _ 26 (0, 0) hs9
                      have n2_ := cell_of_row W9 w.heap.size 2 _ 26 (0, 0) hs9
                      have n3_ := cell_of_row W9 w.heap.size 3 _ 26 (0, 0) hs9
                      have n4_ := cell_of_row W9 w.heap.size 4 _ 26 (0, 0) hs9
                      have n5_ := cell_of_row W9 w.heap.size 5 _ 26 (0, 0) hs9
                      have n6_ := cell_of_row W9 w.heap.size 6 _ 26 (0, 0) hs9
                      have n7_ := cell_of_row W9 w.heap.size 7 _ 26 (0, 0) hs9
                      have n8_ := cell_of_row W9 w.heap.size 8 _ 26 (0, 0) hs9
                      have n9_ := cell_of_row W9 w.heap.size 9 _ 26 (0, 0) hs9
                      have n10_ := cell_of_row W9 w.heap.size 10 _ 26 (0, 0) hs9
                      have n11_ := cell_of_row W9 w.heap.size 11 _ 26 (0, 0) hs9
                      have n12_ := cell_of_row W9 w.heap.size 12 _ 26 (0, 0) hs9
                      simp only [List.getElem?_toArray, List.getElem?_cons_succ, List.getElem?_cons_zero] at n0_ n1_ n2_ n3_ n4_ n5_ n6_ n7_ n8_ n9_ n10_ n11_ n12_
                      have hz9 : w.heap.size < W9.heap.size := lt_of_cell n0_
                      refine bodyPost_ret (v := .tuple #[.agg #[.int .i64 0, .int .i64 0, .int .i64 0, .int .i64 0, .int .i64 0, .int .i64 0, .int .i64 0, .int .i64 0, .bool false, .bool false, .slice none 0 0, .slice none 0 0, .slice none 0 0], .int .i64 122]) (by simp [results, Try.results19, go_sem, n0_, n1_, n2_, n3_, n4_, n5_, n6_, n7_, n8_, n9_, n10_, n11_, n12_, hz9]) rfl ⟨.slice none 0 0, .slice none 0 0, .slice none 0 0, rfl, MsO.zero _ _, HWL.out.grown hG9 HWL.out.size fun k hk => by injection hk with hk; omega⟩
                    | true =>
                      have hk2 : ck = 0 := hck2
                      subst hk2
                      have hpl : putL mq = recL (payL mq) := by unfold putL; rw [hqo]; rfl
                      have hsb : (S1.toList == S2.toList) = decide (recL (payL mq) = l) := by rw [← hS1, ← hS2, str_beq, hpl]
                      by_cases hq : recL (payL mq) = l
                      · obtain rfl : R = (mq, 0) := HRT.out (by rw [HEE.out]; exact hEE) hqo hq
                        rw [decide_eq_true hq] at hsb
                        subst hEE
                        obtain ⟨y0, y1, y2, y3, y4, y5, y6, y7, y8, y9, y10, y11, y12⟩ := HX42.out
                        clear hck hqo hck2 hS1 hS2 HRT HRF HEE hq hpl
                        go_wp2
                        have hs9 := set13 w42 w.heap.size 26 _ _ _ _ _ _ _ _ _ _ _ _ _ (.int .i64 mq.k) (.int .i64 mq.f) (.int .i64 mq.t) (.int .i64 mq.tm) (.int .i64 mq.ix) (.int .i64 mq.lt) (.int .i64 mq.cm) (.int .i64 mq.rd) (.bool mq.ys) (.bool mq.dn) (.slice pe ne ce) (.slice pv nv cv) (.slice (some ⟨b8, 0, none⟩) T.length q8) HRL.out
                        have hG9 := grownAll13 w42 w.heap.size (.int .i64 mq.k) (.int .i64 mq.f) (.int .i64 mq.t) (.int .i64 mq.tm) (.int .i64 mq.ix) (.int .i64 mq.lt) (.int .i64 mq.cm) (.int .i64 mq.rd) (.bool mq.ys) (.bool mq.dn) (.slice pe ne ce) (.slice pv nv cv) (.slice (some ⟨b8, 0, none⟩) T.length q8)
                        obtain ⟨W9, hW9⟩ : ∃ W9, (((((((((((((w42).setCell ⟨w.heap.size, 0, none⟩ (.int .i64 mq.k)).setCell ⟨w.heap.size, 1, none⟩ (.int .i64 mq.f)).setCell ⟨w.heap.size, 2, none⟩ (.int .i64 mq.t)).setCell ⟨w.heap.size, 3, none⟩ (.int .i64 mq.tm)).setCell ⟨w.heap.size, 4, none⟩ (.int .i64 mq.ix)).setCell ⟨w.heap.size, 5, none⟩ (.int .i64 mq.lt)).setCell ⟨w.heap.size, 6, none⟩ (.int .i64 mq.cm)).setCell ⟨w.heap.size, 7, none⟩ (.int .i64 mq.rd)).setCell ⟨w.heap.size, 8, none⟩ (.bool mq.ys)).setCell ⟨w.heap.size, 9, none⟩ (.bool mq.dn)).setCell ⟨w.heap.size, 10, none⟩ (.slice pe ne ce)).setCell ⟨w.heap.size, 11, none⟩ (.slice pv nv cv)).setCell ⟨w.heap.size, 12, none⟩ (.slice (some ⟨b8, 0, none⟩) T.length q8) = W9 := ⟨_, rfl⟩
                        rw [hW9] at hs9 hG9 ⊢
                        clear hW9
                        have n0_ := cell_of_row W9 w.heap.size 0 _ 26 (0, 0) hs9
                        have n1_ := cell_of_row W9 w.heap.size 1 _ 26 (0, 0) hs9
                        have n2_ := cell_of_row W9 w.heap.size 2 _ 26 (0, 0) hs9
                        have n3_ := cell_of_row W9 w.heap.size 3 _ 26 (0, 0) hs9
                        have n4_ := cell_of_row W9 w.heap.size 4 _ 26 (0, 0) hs9
                        have n5_ := cell_of_row W9 w.heap.size 5 _ 26 (0, 0) hs9
                        have n6_ := cell_of_row W9 w.heap.size 6 _ 26 (0, 0) hs9
                        have n7_ := cell_of_row W9 w.heap.size 7 _ 26 (0, 0) hs9
                        have n8_ := cell_of_row W9 w.heap.size 8 _ 26 (0, 0) hs9
                        have n9_ := cell_of_row W9 w.heap.size 9 _ 26 (0, 0) hs9
                        have n10_ := cell_of_row W9 w.heap.size 10 _ 26 (0, 0) hs9
                        have n11_ := cell_of_row W9 w.heap.size 11 _ 26 (0, 0) hs9
                        have n12_ := cell_of_row W9 w.heap.size 12 _ 26 (0, 0) hs9
                        simp only [List.getElem?_toArray, List.getElem?_cons_succ, List.getElem?_cons_zero] at n0_ n1_ n2_ n3_ n4_ n5_ n6_ n7_ n8_ n9_ n10_ n11_ n12_
                        have hz9 : w.heap.size < W9.heap.size := lt_of_cell n0_
                        refine bodyPost_ret (v := .tuple #[.agg #[.int .i64 mq.k, .int .i64 mq.f, .int .i64 mq.t, .int .i64 mq.tm, .int .i64 mq.ix, .int .i64 mq.lt, .int .i64 mq.cm, .int .i64 mq.rd, .bool mq.ys, .bool mq.dn, .slice pe ne ce, .slice pv nv cv, .slice (some ⟨b8, 0, none⟩) T.length q8], .int .i64 0]) (by simp [results, Try.results19, go_sem, n0_, n1_, n2_, n3_, n4_, n5_, n6_, n7_, n8_, n9_, n10_, n11_, n12_, hz9]) rfl ⟨.slice pe ne ce, .slice pv nv cv, .slice (some ⟨b8, 0, none⟩) T.length q8, rfl, (HM42.out.grownLt hG9 (by have := HW0.out; have := HGW.out; omega)).mono (by have := HW0.out; have := HGW.out; omega), HWL.out.grown hG9 HWL.out.size fun k hk => by injection hk with hk; omega⟩
                      · obtain rfl : R = (ms0, 122) := HRF.out (by intro h; exact hq h.2)
                        rw [decide_eq_false hq] at hsb
                        subst hEE
                        clear hck hqo hck2 hS1 hS2 HRT HRF HEE hq hpl
                        go_wp2
                        have hs9 := set13 w42 w.heap.size 26 _ _ _ _ _ _ _ _ _ _ _ _ _ (.int .i64 0) (.int .i64 0) (.int .i64 0) (.int .i64 0) (.int .i64 0) (.int .i64 0) (.int .i64 0) (.int .i64 0) (.bool false) (.bool false) (.slice none 0 0) (.slice none 0 0) (.slice none 0 0) HRL.out
                        have hG9 := grownAll13 w42 w.heap.size (.int .i64 0) (.int .i64 0) (.int .i64 0) (.int .i64 0) (.int .i64 0) (.int .i64 0) (.int .i64 0) (.int .i64 0) (.bool false) (.bool false) (.slice none 0 0) (.slice none 0 0) (.slice none 0 0)
                        obtain ⟨W9, hW9⟩ : ∃ W9, (((((((((((((w42).setCell ⟨w.heap.size, 0, none⟩ (.int .i64 0)).setCell ⟨w.heap.size, 1, none⟩ (.int .i64 0)).setCell ⟨w.heap.size, 2, none⟩ (.int .i64 0)).setCell ⟨w.heap.size, 3, none⟩ (.int .i64 0)).setCell ⟨w.heap.size, 4, none⟩ (.int .i64 0)).setCell ⟨w.heap.size, 5, none⟩ (.int .i64 0)).setCell ⟨w.heap.size, 6, none⟩ (.int .i64 0)).setCell ⟨w.heap.size, 7, none⟩ (.int .i64 0)).setCell ⟨w.heap.size, 8, none⟩ (.bool false)).setCell ⟨w.heap.size, 9, none⟩ (.bool false)).setCell ⟨w.heap.size, 10, none⟩ (.slice none 0 0)).setCell ⟨w.heap.size, 11, none⟩ (.slice none 0 0)).setCell ⟨w.heap.size, 12, none⟩ (.slice none 0 0) = W9 := ⟨_, rfl⟩
                        rw [hW9] at hs9 hG9 ⊢
                        clear hW9
                        have n0_ := cell_of_row W9 w.heap.size 0 _ 26 (0, 0) hs9
                        have n1_ := cell_of_row W9 w.heap.size 1 _ 26 (0, 0) hs9
                        have n2_ := cell_of_row W9 w.heap.size 2 _ 26 (0, 0) hs9
                        have n3_ := cell_of_row W9 w.heap.size 3 _ 26 (0, 0) hs9
                        have n4_ := cell_of_row W9 w.heap.size 4 _ 26 (0, 0) hs9
                        have n5_ := cell_of_row W9 w.heap.size 5 _ 26 (0, 0) hs9
                        have n6_ := cell_of_row W9 w.heap.size 6 _ 26 (0, 0) hs9
                        have n7_ := cell_of_row W9 w.heap.size 7 _ 26 (0, 0) hs9
                        have n8_ := cell_of_row W9 w.heap.size 8 _ 26 (0, 0) hs9
                        have n9_ := cell_of_row W9 w.heap.size 9 _ 26 (0, 0) hs9
                        have n10_ := cell_of_row W9 w.heap.size 10 _ 26 (0, 0) hs9
                        have n11_ := cell_of_row W9 w.heap.size 11 _ 26 (0, 0) hs9
                        have n12_ := cell_of_row W9 w.heap.size 12 _ 26 (0, 0) hs9
                        simp only [List.getElem?_toArray, List.getElem?_cons_succ, List.getElem?_cons_zero] at n0_ n1_ n2_ n3_ n4_ n5_ n6_ n7_ n8_ n9_ n10_ n11_ n12_
                        have hz9 : w.heap.size < W9.heap.size := lt_of_cell n0_
                        refine bodyPost_ret (v := .tuple #[.agg #[.int .i64 0, .int .i64 0, .int .i64 0, .int .i64 0, .int .i64 0, .int .i64 0, .int .i64 0, .int .i64 0, .bool false, .bool false, .slice none 0 0, .slice none 0 0, .slice none 0 0], .int .i64 122]) (by simp [results, Try.results19, go_sem, n0_, n1_, n2_, n3_, n4_, n5_, n6_, n7_, n8_, n9_, n10_, n11_, n12_, hz9]) rfl ⟨.slice none 0 0, .slice none 0 0, .slice none 0 0, rfl, MsO.zero _ _, HWL.out.grown hG9 HWL.out.size fun k hk => by injection hk with hk; omega⟩
                  · obtain rfl : R = (ms0, 122) := HRF.out (by intro h; apply hEE; rw [← HEE.out]; exact h.1.1)
                    have n1 : ((EE : Int) == 0) = false := by simp; omega
                    have n2 : ¬ (EE : Int) = 0 := by omega
                    have n3 : ((EE : Int) != 0) = true := by simp; omega
                    have n4 : decide ((EE : Int) = 0) = false := decide_eq_false n2
                    clear hck hqo hck2 hS1 hS2 HRT HRF HEE
                    go_wp2
                    have hs9 := set13 w42 w.heap.size 26 _ _ _ _ _ _ _ _ _ _ _ _ _ (.int .i64 0) (.int .i64 0) (.int .i64 0) (.int .i64 0) (.int .i64 0) (.int .i64 0) (.int .i64 0) (.int .i64 0) (.bool false) (.bool false) (.slice none 0 0) (.slice none 0 0) (.slice none 0 0) HRL.out
                    have hG9 := grownAll13 w42 w.heap.size (.int .i64 0) (.int .i64 0) (.int .i64 0) (.int .i64 0) (.int .i64 0) (.int .i64 0) (.int .i64 0) (.int .i64 0) (.bool false) (.bool false) (.slice none 0 0) (.slice none 0 0) (.slice none 0 0)
                    obtain ⟨W9, hW9⟩ : ∃ W9, (((((((((((((w42).setCell ⟨w.heap.size, 0, none⟩ (.int .i64 0)).setCell ⟨w.heap.size, 1, none⟩ (.int .i64 0)).setCell ⟨w.heap.size, 2, none⟩ (.int .i64 0)).setCell ⟨w.heap.size, 3, none⟩ (.int .i64 0)).setCell ⟨w.heap.size, 4, none⟩ (.int .i64 0)).setCell ⟨w.heap.size, 5, none⟩ (.int .i64 0)).setCell ⟨w.heap.size, 6, none⟩ (.int .i64 0)).setCell ⟨w.heap.size, 7, none⟩ (.int .i64 0)).setCell ⟨w.heap.size, 8, none⟩ (.bool false)).setCell ⟨w.heap.size, 9, none⟩ (.bool false)).setCell ⟨w.heap.size, 10, none⟩ (.slice none 0 0)).setCell ⟨w.heap.size, 11, none⟩ (.slice none 0 0)).setCell ⟨w.heap.size, 12, none⟩ (.slice none 0 0) = W9 := ⟨_, rfl⟩
                    rw [hW9] at hs9 hG9 ⊢
                    clear hW9
                    have n0_ := cell_of_row W9 w.heap.size 0 _ 26 (0, 0) hs9
                    have n1_ := cell_of_row W9 w.heap.size 1 _ 26 (0, 0) hs9
                    have n2_ := cell_of_row W9 w.heap.size 2 _ 26 (0, 0) hs9
                    have n3_ := cell_of_row W9 w.heap.size 3 _ 26 (0, 0) hs9
                    have n4_ := cell_of_row W9 w.heap.size 4 _ 26 (0, 0) hs9
                    have n5_ := cell_of_row W9 w.heap.size 5 _ 26 (0, 0) hs9
                    have n6_ := cell_of_row W9 w.heap.size 6 _ 26 (0, 0) hs9
                    have n7_ := cell_of_row W9 w.heap.size 7 _ 26 (0, 0) hs9
                    have n8_ := cell_of_row W9 w.heap.size 8 _ 26 (0, 0) hs9
                    have n9_ := cell_of_row W9 w.heap.size 9 _ 26 (0, 0) hs9
                    have n10_ := cell_of_row W9 w.heap.size 10 _ 26 (0, 0) hs9
                    have n11_ := cell_of_row W9 w.heap.size 11 _ 26 (0, 0) hs9
                    have n12_ := cell_of_row W9 w.heap.size 12 _ 26 (0, 0) hs9
                    simp only [List.getElem?_toArray, List.getElem?_cons_succ, List.getElem?_cons_zero] at n0_ n1_ n2_ n3_ n4_ n5_ n6_ n7_ n8_ n9_ n10_ n11_ n12_
                    have hz9 : w.heap.size < W9.heap.size := lt_of_cell n0_
                    refine bodyPost_ret (v := .tuple #[.agg #[.int .i64 0, .int .i64 0, .int .i64 0, .int .i64 0, .int .i64 0, .int .i64 0, .int .i64 0, .int .i64 0, .bool false, .bool false, .slice none 0 0, .slice none 0 0, .slice none 0 0], .int .i64 122]) (by simp [results, Try.results19, go_sem, n0_, n1_, n2_, n3_, n4_, n5_, n6_, n7_, n8_, n9_, n10_, n11_, n12_, hz9]) rfl ⟨.slice none 0 0, .slice none 0 0, .slice none 0 0, rfl, MsO.zero _ _, HWL.out.grown hG9 HWL.out.size fun k hk => by injection hk with hk; omega⟩
              · omega
        · omega
  · exact absurd hE0 hE
end Go.Proofs.Ytiiollgipfggmaa
