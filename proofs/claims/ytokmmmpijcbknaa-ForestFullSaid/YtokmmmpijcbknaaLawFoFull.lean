/- The law ForestFull. -/
import Derived.Test.YtokmmmpijcbknaaFLight
import Derived.Deep.RegionHeld3
namespace Go.Proofs.Ytokmmmpijcbknaa
set_option linter.unusedVariables false
set_option linter.unusedSimpArgs false
open Go.RowKit

def modOf (m : Nat) (x : Int) : Nat := (wrap64 ((IntKind.u64.wrap x).tmod m)).toNat
theorem modOf_ok {m : Nat} (h0 : 0 < m) (hm : m ≤ 1048576) (x : Int) : (modOf m x : Int) = wrap64 ((IntKind.u64.wrap x).tmod m) ∧ modOf m x < m := by
  obtain ⟨y, hy⟩ : ∃ y : Nat, IntKind.u64.wrap x = y := ⟨(IntKind.u64.wrap x).toNat, by
    have h1 : 0 ≤ IntKind.u64.wrap x := by
      rw [IntKind.wrap_u64]
      omega
    omega⟩
  have h2 : (IntKind.u64.wrap x).tmod m = ((y % m : Nat) : Int) := by
    rw [hy]
    exact Int.ofNat_tmod y m
  have h4 : y % m < m := Nat.mod_lt _ h0
  have h3 : wrap64 ((y % m : Nat) : Int) = ((y % m : Nat) : Int) := by
    unfold wrap64
    omega
  unfold modOf
  rw [h2, h3]
  omega
/-- So many spans at the top. -/
def wideP (m : Nat) : List Sp := (List.range m).map fun (i : Nat) => ofP (1000 + (i : Int)) 0
theorem wideP_succ (m : Nat) : wideP (m + 1) = wideP m ++ [ofP (1000 + m) 0] := by
  unfold wideP
  rw [List.range_succ, List.map_append]
  rfl
theorem wideP_len (m : Nat) : (wideP m).length = m := by simp [wideP]
theorem wideP_all {m : Nat} (h : m ≤ 100) : (wideP m).all (fun x => x.ok && decide (x.t = 1)) = true := by
  rw [List.all_eq_true]
  intro x hx
  unfold wideP at hx
  obtain ⟨i, hi, rfl⟩ := List.mem_map.1 hx
  have := List.mem_range.1 hi
  rw [ofP_ok (by omega) (by omega) (by omega) (by omega) (by omega), Bool.true_and]
  exact decide_eq_true rfl
theorem wideP_size {m : Nat} : ∀ x ∈ wideP m, x.n.size ≤ 1000000 := by
  intro x hx
  unfold wideP at hx
  obtain ⟨i, hi, rfl⟩ := List.mem_map.1 hx
  exact of_size _ _

set_option maxRecDepth 200000 in
set_option maxHeartbeats 4000000 in
theorem lawFoFull_any {w : World} {v1 : Value} {l1 : List Sp} (more : Int) (hwm : (Lit.int .i64 more).wf = true) (hv1 : Sps w v1 l1) (hn1 : ∀ x ∈ l1, x.n.size ≤ maxLen) : Calls Try.prog 9 #[v1, .int .i64 more] w fun e w' => e = .returned (.bool true) ∧ Below w.heap.size w w' := by
  obtain ⟨q1, m1, c1, rfl⟩ := hv1.sl
  have HL1 := hide (light_any hv1 hn1)
  have HA := hide awake_any
  have HS1 := hide hv1
  clear hv1 hn1
  cases h1 : lightL l1 with
  | false =>
    rw [h1] at HL1
    go_enter Try.func9, Try.ntmps9
    go_wp2_with fail
    refine HL1.out.mono ?_
    rintro e1 w1 ⟨rfl, hw1⟩
    have hw1 := hw1.symm
    subst hw1
    go_wp2_with fail
    refine (HA.out _).mono ?_
    rintro e2 w2 ⟨rfl, hb2⟩
    have HBf := hide ((Below.refl w.heap.size w).trans (hb2.mono (Below.refl w.heap.size w).size))
    clear hb2
    go_wp2
    go_ret
    exact ⟨rfl, HBf.out⟩
  | true =>
    rw [h1] at HL1
    have HG1 := hide (light_len h1)
    clear h1
    go_enter Try.func9, Try.ntmps9
    go_wp2_with fail
    refine HL1.out.mono ?_
    rintro e1 w1 ⟨rfl, hw1⟩
    have hw1 := hw1.symm
    subst hw1
    go_wp2_with fail
    refine (grown_any HS1.out (by have := HG1.out.1; omega) HG1.out.2).mono ?_
    rintro e2 w2 ⟨gf, bf, rfl, hf2, hg2, hbb2, hb2⟩
    have hlt2 : gf < w2.heap.size ∧ bf < w2.heap.size := ⟨lt_of_cell hf2.c0, by obtain ⟨D, hD⟩ := hf2.bag; exact hD.map.lt⟩
    have HOf := hide (And.intro hg2 (And.intro hbb2 hlt2))
    have HZf : Hid (w.heap.size ≤ gf ∧ w.heap.size ≤ bf) := hide (by have := (Below.refl w.heap.size w).size; omega)
    have HB3 : Hid (RowKit.Below w.heap.size w w2) := hide ((Below.refl w.heap.size w).trans (hb2.mono (Below.refl w.heap.size w).size))
    have HS1_3 := hide (HS1.out.below hb2)
    have HFf := hide hf2
    clear hf2 hb2 hg2 hbb2 hlt2
    have HF := HFf
    have HB := HB3
    obtain ⟨G, hG⟩ : ∃ G, growP l1 = G := ⟨_, rfl⟩
    have hok : FoOk 1 G := by rw [← hG]; exact growP_ok l1
    rw [hG] at HF
    have HOK := hide hok
    clear hG hok
    go_wp2_with fail
    refine (len_any HF.out).mono ?_
    rintro e5 w5 ⟨rfl, q5, rfl⟩
    go_wp2_with fail
    obtain ⟨M, hM⟩ : ∃ M, M = modOf 100 more := ⟨_, rfl⟩
    obtain ⟨hm1, hm2⟩ := modOf_ok (m := 100) (by decide) (by decide) more
    rw [← hM] at hm1 hm2
    rw [show wrap64 ((IntKind.u64.wrap more).tmod 100) = (M : Int) from hm1.symm]
    have HOF := hide of_any
    have hbX : RowKit.Below w2.heap.size w2 (w2.drewN q5) := bdrew _ q5
    obtain ⟨X, hX⟩ : ∃ X, w2.drewN q5 = X := ⟨_, rfl⟩
    rw [hX] at hbX
    rw [hX]
    have HBX := hide (HB.out.trans (hbX.mono HB.out.size))
    have HFX := hide (HF.out.below hbX)
    clear hX hbX hm1 hM
    go_wp2_with fail
    go_loopw [7, 8, 24] (fun v7 _ ix wr => ∃ (k : Nat) (p : Option Addr) (m c : Nat), v7 = .slice p m c ∧ k ≤ M ∧ ix = .int .i64 k ∧ Hid (OwnS X.heap.size wr (.slice p m c) (wideP k) ∧ RowKit.Below X.heap.size X wr)) (fun _ _ ix _ => M - (intOf ix).toNat)
    case atStart => exact ⟨0, none, 0, 0, rfl, by omega, rfl, hide ⟨OwnS.nil _ _, Below.refl _ _⟩⟩
    case round =>
      obtain ⟨k, p, m, c, rfl, hk, rfl, HR⟩ := hrel
      by_cases hlt : (k : Int) < (M : Int)
      · have hk2 : (k : Int) ≤ 100 := by omega
        go_wp2_with fail
        refine (HOF.out _ _ _).mono ?_
        rintro e7 w7 ⟨rfl, hb7⟩
        have H7 := hide (And.intro (HR.out.1.below hb7) (HR.out.2.trans (hb7.mono HR.out.2.size)))
        clear hb7
        unfold spV ofP
        dsimp only
        have hsz : X.heap.size ≤ w7.heap.size := H7.out.2.size
        have hml : (wideP k).length ≤ 1000000 := by rw [wideP_len]; omega
        have HSZ := hide (And.intro hsz hml)
        clear hsz hml
        go_wp2_with (at_builtin; go_must (refine wpList_pushH (v := .slice p m c) rfl _ _ rfl rfl ⟨1, 1000 + (k : Int), 0, 0, 0, ⟨#[97]⟩⟩ rfl rfl rfl H7.out.1 HSZ.out.1 HSZ.out.2 ?_); intro v5 w5 ho5 hb5 hg5; obtain ⟨p5, n5, c5, rfl⟩ := ho5.sps.sl; have H5 := hide (And.intro ho5 (H7.out.2.trans hb5)); clear ho5 hb5 hg5)
        go_roundw
        case rel =>
          refine ⟨k + 1, p5, n5, c5, rfl, by omega, by go_num, hide ⟨?_, H5.out.2⟩⟩
          rw [wideP_succ]
          exact H5.out.1
        case measure => simp [intOf]; omega
      · have hkM : k = M := by omega
        subst hkM
        have hfx := HFX.out.below HR.out.2
        have HADD := hide (add_any hfx HR.out.1.sps (by rw [wideP_len]; omega) wideP_size)
        have hall := wideP_all (m := k) (by omega)
        have hva : addV 1 G (wideP k) = .tuple #[cnV (putsP G cn0 (wideP k)).2, .int .i64 0] := by unfold addV; rw [if_pos hall]
        have hpa : addP 1 G (wideP k) = (putsP G cn0 (wideP k)).1 := by unfold addP; rw [if_pos hall]
        have hsum := putsP_sum (wideP k) G cn0
        have hlen := putsP_len (wideP k) G cn0
        have hfull := putsP_full (wideP k) G cn0
        rw [wideP_len] at hsum
        obtain ⟨C, hC⟩ : ∃ C, (putsP G cn0 (wideP k)).2 = C := ⟨_, rfl⟩
        obtain ⟨G2, hG2⟩ : ∃ G2, (putsP G cn0 (wideP k)).1 = G2 := ⟨_, rfl⟩
        rw [hC] at hva hsum hlen hfull
        rw [hG2] at hpa hlen hfull
        obtain ⟨na, ns, no, ny, nf⟩ := C
        unfold cnV at hva
        simp only [Cn.sum, cn0, Nat.zero_add, Nat.add_zero] at hsum hlen hfull hva
        have HVA := hide hva
        have HPA := hide hpa
        have HFULL := hide hfull
        have hG64 := HOK.out.len
        clear hfx hall hva hpa hC hG2 hfull
        go_wp2_with fail
        refine HADD.out.mono ?_
        rintro e7 w7 ⟨rfl, hf7, hc7⟩
        rw [HVA.out]
        have hb7 : RowKit.Below w.heap.size w w7 := Chg.to_below (HBX.out.trans (HR.out.2.mono HBX.out.size)) hc7 (fun i hi => by have := HZf.out; omega)
        rw [HPA.out] at hf7
        have hb8 := (Below.refl w7.heap.size w7).alloc (Nat.le_refl _) (.cells #[.int .i64 (na : Nat), .int .i64 (ns : Nat), .int .i64 (no : Nat), .int .i64 (ny : Nat), .int .i64 (nf : Nat)] 36)
        have hrow := heap_alloc_new w7 (.cells #[.int .i64 (na : Nat), .int .i64 (ns : Nat), .int .i64 (no : Nat), .int .i64 (ny : Nat), .int .i64 (nf : Nat)] 36)
        have hf8 := hf7.below hb8
        have hl2 : G2.length ≤ 64 := hf7.ok.len
        have HF8 := hide hf8
        have HB8 := hide (hb7.trans (hb8.mono hb7.size))
        have HROW := hide hrow
        clear hf7 hb7 hc7 hb8 hf8 hrow
        go_wp2_with fail
        obtain ⟨Y, hY⟩ : ∃ Y, w7.alloc (.cells #[.int .i64 (na : Nat), .int .i64 (ns : Nat), .int .i64 (no : Nat), .int .i64 (ny : Nat), .int .i64 (nf : Nat)] 36) = Y := ⟨_, rfl⟩
        obtain ⟨gn, hgn⟩ : ∃ g, w7.heap.size = g := ⟨_, rfl⟩
        rw [hY] at HF8 HB8
        rw [hY, hgn] at HROW
        rw [hY, hgn]
        clear hY hgn
        have n0 := cell_of_row Y gn 0 _ 36 (0, 0) HROW.out
        have n1 := cell_of_row Y gn 1 _ 36 (0, 0) HROW.out
        have n2 := cell_of_row Y gn 2 _ 36 (0, 0) HROW.out
        have n3 := cell_of_row Y gn 3 _ 36 (0, 0) HROW.out
        have n4 := cell_of_row Y gn 4 _ 36 (0, 0) HROW.out
        simp only [List.getElem?_toArray, List.getElem?_cons_zero, List.getElem?_cons_succ] at n0 n1 n2 n3 n4
        have HLN := hide (fun q => len_any (HF8.out.drewN q))
        have hna : na ≤ 100 ∧ ns ≤ 100 ∧ no ≤ 100 ∧ ny ≤ 100 ∧ nf ≤ 100 := by omega
        have HNA := hide (And.intro hna (And.intro hsum hlen))
        have hw1 : IntKind.i64.wrap ((na : Int) + (ns : Int)) = (na : Int) + (ns : Int) := IntWalk.i64_in _ (by omega)
        have hw2 : IntKind.i64.wrap ((na : Int) + (ns : Int) + (no : Int)) = (na : Int) + (ns : Int) + (no : Int) := IntWalk.i64_in _ (by omega)
        have hw3 : IntKind.i64.wrap ((na : Int) + (ns : Int) + (no : Int) + (ny : Int)) = (na : Int) + (ns : Int) + (no : Int) + (ny : Int) := IntWalk.i64_in _ (by omega)
        have hw4 : IntKind.i64.wrap ((na : Int) + (ns : Int) + (no : Int) + (ny : Int) + (nf : Int)) = (na : Int) + (ns : Int) + (no : Int) + (ny : Int) + (nf : Int) := IntWalk.i64_in _ (by omega)
        have hw5 : IntKind.i64.wrap ((G.length : Int) + (na : Int)) = (G.length : Int) + (na : Int) := IntWalk.i64_in _ (by omega)
        have hq1 : ((na : Int) + (ns : Int) + (no : Int) + (ny : Int) + (nf : Int) != (k : Int)) = false := by
          rw [bne_eq_false_iff_eq]
          omega
        have hq2 : ((G2.length : Int) != (G.length : Int) + (na : Int)) = false := by
          rw [bne_eq_false_iff_eq]
          omega
        clear hsum hlen hna
        go_region_held3 (fun W => W.cell? ⟨gn, 0, none⟩ = some (.int .i64 (na : Nat)) ∧ W.cell? ⟨gn, 1, none⟩ = some (.int .i64 (ns : Nat)) ∧ W.cell? ⟨gn, 2, none⟩ = some (.int .i64 (no : Nat)) ∧ W.cell? ⟨gn, 3, none⟩ = some (.int .i64 (ny : Nat)) ∧ W.cell? ⟨gn, 4, none⟩ = some (.int .i64 (nf : Nat))) (first | go_keep | exact ⟨n0, n1, n2, n3, n4⟩) (first | (go_at_call 26; refine (HLN.out 1).mono ?_; rintro e9 w9 ⟨rfl, q9, rfl⟩))
        clear hw1 hw2 hw3 hw4 hw5 hq1 hq2
        have HL2 := hide (len_any (HF8.out.drewN (1 + q9)))
        have HB9 := hide (HB8.out.trans ((bdrew Y (1 + q9) : RowKit.Below Y.heap.size Y (Y.drewN (1 + q9))).mono HB8.out.size))
        obtain ⟨Z, hZ⟩ : ∃ Z, Y.drewN (1 + q9) = Z := ⟨_, rfl⟩
        have n4z : Z.cell? ⟨gn, 4, none⟩ = some (.int .i64 (nf : Nat)) := by rw [← hZ]; exact n4
        have hfz : FoIs Z gf bf 1 G2 := by rw [← hZ]; exact HF8.out.drewN (1 + q9)
        rw [hZ] at HL2 HB9
        rw [hZ]
        have HFZ := hide hfz
        clear hfz n0 n1 n2 n3 n4
        go_wp2_with fail
        refine HL2.out.mono ?_
        rintro e10 w10 ⟨rfl, q10, rfl⟩
        have hb10 : RowKit.Below Z.heap.size Z (Z.drewN q10) := bdrew _ _
        have HB10 := hide (HB9.out.trans (hb10.mono HB9.out.size))
        have HF10 := hide (HFZ.out.drewN q10)
        have n4q : (Z.drewN q10).cell? ⟨gn, 4, none⟩ = some (.int .i64 (nf : Nat)) := n4z
        clear hb10
        by_cases h0 : nf = 0
        · subst h0
          go_wp2_with fail
          refine (HA.out _).mono ?_
          rintro e11 w11 ⟨rfl, hb11⟩
          have HBf := hide (HB10.out.trans (hb11.mono HB10.out.size))
          clear hb11
          go_wp2
          go_ret
          exact ⟨rfl, HBf.out⟩
        · have h64 : G2.length = 64 := by
            rcases HFULL.out with h | h
            · exact absurd h h0
            · omega
          have hnf : ((nf : Int) == 0) = false := beq_eq_false_iff_ne.2 (by omega)
          have hnf2 : ¬ (nf : Int) = 0 := by omega
          have HL3 := hide (len_any HF10.out)
          rw [h64] at HL3
          go_wp2_with fail
          refine HL3.out.mono ?_
          rintro e12 w12 ⟨rfl, q12, rfl⟩
          have hb12 : RowKit.Below Z.heap.size Z (Z.drewN (q10 + q12)) := bdrew _ _
          have HB12 := hide (HB9.out.trans (hb12.mono HB9.out.size))
          clear hb12
          go_wp2_with fail
          refine (HA.out _).mono ?_
          rintro e11 w11 ⟨rfl, hb11⟩
          have HBf := hide (HB12.out.trans (hb11.mono HB12.out.size))
          clear hb11
          go_wp2
          go_ret
          exact ⟨rfl, HBf.out⟩
end Go.Proofs.Ytokmmmpijcbknaa
