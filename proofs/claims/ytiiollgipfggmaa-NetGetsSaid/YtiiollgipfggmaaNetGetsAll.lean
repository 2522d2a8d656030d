/- Words on bytes and numbers, out of several texts made one. -/
import Derived.Test.YtiiollgipfggmaaNRefGetA
import Derived.Test.YtiiollgipfggmaaNRefGetB
import Derived.Test.YtiiollgipfggmaaNRefGetC
import Derived.Test.YtiiollgipfggmaaNRefGetD
import Derived.Test.YtiiollgipfggmaaNCln
import Derived.Test.YtiiollgipfggmaaRows
import Derived.WalkKit
import Derived.ProofKit
import Derived.OpenShut
import Derived.ShutString
import Derived.ChangeOld
import Derived.Below
import Derived.SizedLaws
/- The message whose bytes some bytes are: the document's Get. -/
namespace Go.Proofs.Ytiiollgipfggmaa
set_option linter.unusedVariables false
set_option linter.unusedSimpArgs false
open Go.RowKit

set_option maxRecDepth 200000 in
set_option maxHeartbeats 4000000 in
theorem refGet_any {w : World} {v : Value} {l : List UInt8} (hv : By w v l) : Calls Try.prog 19 #[v] w (PeekPost w (getI l)) := by
  obtain ⟨p, n, c, rfl⟩ := hv.sl
  obtain ⟨X, hX⟩ : ∃ X, w.alloc (.cells #[.int .i64 0, .int .i64 0, .int .i64 0, .int .i64 0, .int .i64 0, .int .i64 0, .int .i64 0, .int .i64 0, .bool false, .bool false, .slice none 0 0, .slice none 0 0, .slice none 0 0] 26) = X := ⟨_, rfl⟩
  have hrX : X.heap[w.heap.size]? = some (.cells #[.int .i64 0, .int .i64 0, .int .i64 0, .int .i64 0, .int .i64 0, .int .i64 0, .int .i64 0, .int .i64 0, .bool false, .bool false, .slice none 0 0, .slice none 0 0, .slice none 0 0] 26 (0, 0)) := by rw [← hX]; exact heap_alloc_new w _
  have hbX : Below w.heap.size w X := by rw [← hX]; exact (Below.refl _ _).alloc (Nat.le_refl _) _
  have hwX : w.heap.size < X.heap.size := (Array.getElem?_eq_some_iff.1 hrX).1
  obtain ⟨P, K, E, hP⟩ : ∃ P K E, pickL l = (P, K, E) := ⟨_, _, _, rfl⟩
  have hv0 := hv
  have hP0 := hP
  have HPK := hide (refPick_any (hv.below hbX) hP)
  have HBYL := hide (fun W (hW : Below w.heap.size w W) => hv.below hW)
  have hln := hv.len.1
  have hnm := hv.lenMax
  have HPO := hide (fun e : E = 0 => pick_ok (b := l) (p := P) (k := K) (by rw [hP, e]))
  have HGT := hide (fun (e : E = 0) (hk : ¬ K < l.length) => refGet_eq (l := l) (P := P) (K := K) (by rw [hP, e]) hk)
  have HNE := hide (show (E ≠ 0 → getI l = (ms0, (E : Int))) ∧ (E = 0 → K < l.length → getI l = (ms0, 3)) from by
    unfold getI
    rw [hP]
    dsimp only
    exact ⟨fun h => if_pos h, fun h h2 => by rw [if_neg (by omega), if_pos h2]⟩)
  have HRX := hide hrX
  have HBX := hide hbX
  have HWX := hide hwX
  have HX := hide hX
  clear hv hrX hbX hwX hX hP
  by_cases hE : E = 0
  · have HQ := HPO.out hE
    have HLP := hide HQ.2.2.1
    have hKl := HQ.1
    subst hE
    clear HQ HPO
    by_cases hK : K < l.length
    · rw [HNE.out.2 rfl hK]
      have hKn : (K : Int) < (n : Int) := by omega
      clear hv0 hP0
      clear hK hln hKl HLP HNE HGT
      go_enter Try.func19, Try.ntmps19
      go_wp2_with fail
      rw [HX.out]
      refine HPK.out.mono ?_
      rintro e w2 ⟨v2, rfl, ho2, hb2⟩
      obtain ⟨p2, n2, c2, rfl⟩ := ho2.by_.sl
      have HB2 := hide (HBX.out.trans (hb2.mono HBX.out.size))
      have HR2 := hide ((hb2.block _ HWX.out).trans HRX.out)
      clear hb2 ho2
      have hrl := HR2.out
      have m0 := cell_of_row w2 w.heap.size 0 _ 26 (0, 0) hrl
      have mf0 := frozen_of_row w2 w.heap.size 0 _ 26 hrl
      have m1 := cell_of_row w2 w.heap.size 1 _ 26 (0, 0) hrl
      have mf1 := frozen_of_row w2 w.heap.size 1 _ 26 hrl
      have m2 := cell_of_row w2 w.heap.size 2 _ 26 (0, 0) hrl
      have mf2 := frozen_of_row w2 w.heap.size 2 _ 26 hrl
      have m3 := cell_of_row w2 w.heap.size 3 _ 26 (0, 0) hrl
      have mf3 := frozen_of_row w2 w.heap.size 3 _ 26 hrl
      have m4 := cell_of_row w2 w.heap.size 4 _ 26 (0, 0) hrl
      have mf4 := frozen_of_row w2 w.heap.size 4 _ 26 hrl
      have m5 := cell_of_row w2 w.heap.size 5 _ 26 (0, 0) hrl
      have mf5 := frozen_of_row w2 w.heap.size 5 _ 26 hrl
      have m6 := cell_of_row w2 w.heap.size 6 _ 26 (0, 0) hrl
      have mf6 := frozen_of_row w2 w.heap.size 6 _ 26 hrl
      have m7 := cell_of_row w2 w.heap.size 7 _ 26 (0, 0) hrl
      have mf7 := frozen_of_row w2 w.heap.size 7 _ 26 hrl
      have m8 := cell_of_row w2 w.heap.size 8 _ 26 (0, 0) hrl
      have mf8 := frozen_of_row w2 w.heap.size 8 _ 26 hrl
      have m9 := cell_of_row w2 w.heap.size 9 _ 26 (0, 0) hrl
      have mf9 := frozen_of_row w2 w.heap.size 9 _ 26 hrl
      have m10 := cell_of_row w2 w.heap.size 10 _ 26 (0, 0) hrl
      have mf10 := frozen_of_row w2 w.heap.size 10 _ 26 hrl
      have m11 := cell_of_row w2 w.heap.size 11 _ 26 (0, 0) hrl
      have mf11 := frozen_of_row w2 w.heap.size 11 _ 26 hrl
      have m12 := cell_of_row w2 w.heap.size 12 _ 26 (0, 0) hrl
      have mf12 := frozen_of_row w2 w.heap.size 12 _ 26 hrl
      simp only [List.getElem?_toArray, List.getElem?_cons_succ, List.getElem?_cons_zero] at m0 m1 m2 m3 m4 m5 m6 m7 m8 m9 m10 m11 m12
      clear hrl
      go_wp2
      have hs9 := set13 w2 w.heap.size 26 _ _ _ _ _ _ _ _ _ _ _ _ _ (.int .i64 0) (.int .i64 0) (.int .i64 0) (.int .i64 0) (.int .i64 0) (.int .i64 0) (.int .i64 0) (.int .i64 0) (.bool false) (.bool false) (.slice none 0 0) (.slice none 0 0) (.slice none 0 0) HR2.out
      have hG9 := grownAll13 w2 w.heap.size (.int .i64 0) (.int .i64 0) (.int .i64 0) (.int .i64 0) (.int .i64 0) (.int .i64 0) (.int .i64 0) (.int .i64 0) (.bool false) (.bool false) (.slice none 0 0) (.slice none 0 0) (.slice none 0 0)
      obtain ⟨W9, hW9⟩ : ∃ W9, (((((((((((((w2).setCell ⟨w.heap.size, 0, none⟩ (.int .i64 0)).setCell ⟨w.heap.size, 1, none⟩ (.int .i64 0)).setCell ⟨w.heap.size, 2, none⟩ (.int .i64 0)).setCell ⟨w.heap.size, 3, none⟩ (.int .i64 0)).setCell ⟨w.heap.size, 4, none⟩ (.int .i64 0)).setCell ⟨w.heap.size, 5, none⟩ (.int .i64 0)).setCell ⟨w.heap.size, 6, none⟩ (.int .i64 0)).setCell ⟨w.heap.size, 7, none⟩ (.int .i64 0)).setCell ⟨w.heap.size, 8, none⟩ (.bool false)).setCell ⟨w.heap.size, 9, none⟩ (.bool false)).setCell ⟨w.heap.size, 10, none⟩ (.slice none 0 0)).setCell ⟨w.heap.size, 11, none⟩ (.slice none 0 0)).setCell ⟨w.heap.size, 12, none⟩ (.slice none 0 0) = W9 := ⟨_, rfl⟩
      rw [hW9] at hs9 hG9 ⊢
      clear hW9
      have n0_ := cell_of_row W9 w.heap.size 0 _ 26 (0, 0) hs9
      have n1_ := cell_of_row W9 w.heap.size 1 _ 26 (0, 0) hs9
      have n2_ := cell_of_row W9 w.heap.size 2 _ 26 (0, 0) hs9
      have n3_ := cell_of_row W9 w.heap.size 3 _ 26 (0, 0) hs9
      have n4_ := cell_of_row W9 w.heap.size 4 _ 26 (0, 0) hs9
      have n5_ := cell_of_row W9 w.heap.size 5 _ 26 (0, 0) hs9
      have n6_ := cell_of_row W9 w.heap.size 6 _ 26 (0, 0) hs9
      have n7_ := cell_of_row W9 w.heap.size 7 _ 26 (0, 0) hs9
      have n8_ := cell_of_row W9 w.heap.size 8 _ 26 (0, 0) hs9
      have n9_ := cell_of_row W9 w.heap.size 9 _ 26 (0, 0) hs9
      have n10_ := cell_of_row W9 w.heap.size 10 _ 26 (0, 0) hs9
      have n11_ := cell_of_row W9 w.heap.size 11 _ 26 (0, 0) hs9
      have n12_ := cell_of_row W9 w.heap.size 12 _ 26 (0, 0) hs9
      simp only [List.getElem?_toArray, List.getElem?_cons_succ, List.getElem?_cons_zero] at n0_ n1_ n2_ n3_ n4_ n5_ n6_ n7_ n8_ n9_ n10_ n11_ n12_
      have hz9 : w.heap.size < W9.heap.size := lt_of_cell n0_
      refine bodyPost_ret (v := .tuple #[.agg #[.int .i64 0, .int .i64 0, .int .i64 0, .int .i64 0, .int .i64 0, .int .i64 0, .int .i64 0, .int .i64 0, .bool false, .bool false, .slice none 0 0, .slice none 0 0, .slice none 0 0], .int .i64 3]) (by simp [results, Try.results19, go_sem, n0_, n1_, n2_, n3_, n4_, n5_, n6_, n7_, n8_, n9_, n10_, n11_, n12_, hz9]) rfl ⟨.slice none 0 0, .slice none 0 0, .slice none 0 0, rfl, MsO.zero _ _, HB2.out.grown hG9 HB2.out.size fun k hk => by injection hk with hk; omega⟩
    · by_cases hC : (rdC (pickL l).1).1 ≤ 9
      · by_cases hV : (rfV (pickL l).1).1 ≤ 9
        · exact refGetA_any hv0 (by rw [hP0]) (by rw [hP0]; exact hK) hC hV
        · exact refGetB_any hv0 (by rw [hP0]) (by rw [hP0]; exact hK) hC (by omega)
      · by_cases hV : (rfV (pickL l).1).1 ≤ 9
        · exact refGetC_any hv0 (by rw [hP0]) (by rw [hP0]; exact hK) (by omega) hV
        · exact refGetD_any hv0 (by rw [hP0]) (by rw [hP0]; exact hK) (by omega) (by omega)
  · rw [HNE.out.1 hE]
    clear hv0 hP0
    have n1 : ((E : Int) == 0) = false := by simp; omega
    have n2' : ¬ (E : Int) = 0 := by omega
    have n3 : ((E : Int) != 0) = true := by simp; omega
    have n4 : decide ((E : Int) = 0) = false := decide_eq_false n2'
    clear HNE HGT HPO hln hnm
    go_enter Try.func19, Try.ntmps19
    go_wp2_with fail
    rw [HX.out]
    refine HPK.out.mono ?_
    rintro e w2 ⟨v2, rfl, ho2, hb2⟩
    obtain ⟨p2, n2, c2, rfl⟩ := ho2.by_.sl
    have HB2 := hide (HBX.out.trans (hb2.mono HBX.out.size))
    have HR2 := hide ((hb2.block _ HWX.out).trans HRX.out)
    clear hb2 ho2
    have hrl := HR2.out
    have m0 := cell_of_row w2 w.heap.size 0 _ 26 (0, 0) hrl
    have mf0 := frozen_of_row w2 w.heap.size 0 _ 26 hrl
    have m1 := cell_of_row w2 w.heap.size 1 _ 26 (0, 0) hrl
    have mf1 := frozen_of_row w2 w.heap.size 1 _ 26 hrl
    have m2 := cell_of_row w2 w.heap.size 2 _ 26 (0, 0) hrl
    have mf2 := frozen_of_row w2 w.heap.size 2 _ 26 hrl
    have m3 := cell_of_row w2 w.heap.size 3 _ 26 (0, 0) hrl
    have mf3 := frozen_of_row w2 w.heap.size 3 _ 26 hrl
    have m4 := cell_of_row w2 w.heap.size 4 _ 26 (0, 0) hrl
    have mf4 := frozen_of_row w2 w.heap.size 4 _ 26 hrl
    have m5 := cell_of_row w2 w.heap.size 5 _ 26 (0, 0) hrl
    have mf5 := frozen_of_row w2 w.heap.size 5 _ 26 hrl
    have m6 := cell_of_row w2 w.heap.size 6 _ 26 (0, 0) hrl
    have mf6 := frozen_of_row w2 w.heap.size 6 _ 26 hrl
    have m7 := cell_of_row w2 w.heap.size 7 _ 26 (0, 0) hrl
    have mf7 := frozen_of_row w2 w.heap.size 7 _ 26 hrl
    have m8 := cell_of_row w2 w.heap.size 8 _ 26 (0, 0) hrl
    have mf8 := frozen_of_row w2 w.heap.size 8 _ 26 hrl
    have m9 := cell_of_row w2 w.heap.size 9 _ 26 (0, 0) hrl
    have mf9 := frozen_of_row w2 w.heap.size 9 _ 26 hrl
    have m10 := cell_of_row w2 w.heap.size 10 _ 26 (0, 0) hrl
    have mf10 := frozen_of_row w2 w.heap.size 10 _ 26 hrl
    have m11 := cell_of_row w2 w.heap.size 11 _ 26 (0, 0) hrl
    have mf11 := frozen_of_row w2 w.heap.size 11 _ 26 hrl
    have m12 := cell_of_row w2 w.heap.size 12 _ 26 (0, 0) hrl
    have mf12 := frozen_of_row w2 w.heap.size 12 _ 26 hrl
    simp only [List.getElem?_toArray, List.getElem?_cons_succ, List.getElem?_cons_zero] at m0 m1 m2 m3 m4 m5 m6 m7 m8 m9 m10 m11 m12
    clear hrl
    go_wp2
    have hs9 := set13 w2 w.heap.size 26 _ _ _ _ _ _ _ _ _ _ _ _ _ (.int .i64 0) (.int .i64 0) (.int .i64 0) (.int .i64 0) (.int .i64 0) (.int .i64 0) (.int .i64 0) (.int .i64 0) (.bool false) (.bool false) (.slice none 0 0) (.slice none 0 0) (.slice none 0 0) HR2.out
    have hG9 := grownAll13 w2 w.heap.size (.int .i64 0) (.int .i64 0) (.int .i64 0) (.int .i64 0) (.int .i64 0) (.int .i64 0) (.int .i64 0) (.int .i64 0) (.bool false) (.bool false) (.slice none 0 0) (.slice none 0 0) (.slice none 0 0)
    obtain ⟨W9, hW9⟩ : ∃ W9, (((((((((((((w2).setCell ⟨w.heap.size, 0, none⟩ (.int .i64 0)).setCell ⟨w.heap.size, 1, none⟩ (.int .i64 0)).setCell ⟨w.heap.size, 2, none⟩ (.int .i64 0)).setCell ⟨w.heap.size, 3, none⟩ (.int .i64 0)).setCell ⟨w.heap.size, 4, none⟩ (.int .i64 0)).setCell ⟨w.heap.size, 5, none⟩ (.int .i64 0)).setCell ⟨w.heap.size, 6, none⟩ (.int .i64 0)).setCell ⟨w.heap.size, 7, none⟩ (.int .i64 0)).setCell ⟨w.heap.size, 8, none⟩ (.bool false)).setCell ⟨w.heap.size, 9, none⟩ (.bool false)).setCell ⟨w.heap.size, 10, none⟩ (.slice none 0 0)).setCell ⟨w.heap.size, 11, none⟩ (.slice none 0 0)).setCell ⟨w.heap.size, 12, none⟩ (.slice none 0 0) = W9 := ⟨_, rfl⟩
    rw [hW9] at hs9 hG9 ⊢
    clear hW9
    have n0_ := cell_of_row W9 w.heap.size 0 _ 26 (0, 0) hs9
    have n1_ := cell_of_row W9 w.heap.size 1 _ 26 (0, 0) hs9
    have n2_ := cell_of_row W9 w.heap.size 2 _ 26 (0, 0) hs9
    have n3_ := cell_of_row W9 w.heap.size 3 _ 26 (0, 0) hs9
    have n4_ := cell_of_row W9 w.heap.size 4 _ 26 (0, 0) hs9
    have n5_ := cell_of_row W9 w.heap.size 5 _ 26 (0, 0) hs9
    have n6_ := cell_of_row W9 w.heap.size 6 _ 26 (0, 0) hs9
    have n7_ := cell_of_row W9 w.heap.size 7 _ 26 (0, 0) hs9
    have n8_ := cell_of_row W9 w.heap.size 8 _ 26 (0, 0) hs9
    have n9_ := cell_of_row W9 w.heap.size 9 _ 26 (0, 0) hs9
    have n10_ := cell_of_row W9 w.heap.size 10 _ 26 (0, 0) hs9
    have n11_ := cell_of_row W9 w.heap.size 11 _ 26 (0, 0) hs9
    have n12_ := cell_of_row W9 w.heap.size 12 _ 26 (0, 0) hs9
    simp only [List.getElem?_toArray, List.getElem?_cons_succ, List.getElem?_cons_zero] at n0_ n1_ n2_ n3_ n4_ n5_ n6_ n7_ n8_ n9_ n10_ n11_ n12_
    have hz9 : w.heap.size < W9.heap.size := lt_of_cell n0_
    refine bodyPost_ret (v := .tuple #[.agg #[.int .i64 0, .int .i64 0, .int .i64 0, .int .i64 0, .int .i64 0, .int .i64 0, .int .i64 0, .int .i64 0, .bool false, .bool false, .slice none 0 0, .slice none 0 0, .slice none 0 0], .int .i64 (E : Int)]) (by simp [results, Try.results19, go_sem, n0_, n1_, n2_, n3_, n4_, n5_, n6_, n7_, n8_, n9_, n10_, n11_, n12_, hz9]) rfl ⟨.slice none 0 0, .slice none 0 0, .slice none 0 0, rfl, MsO.zero _ _, HB2.out.grown hG9 HB2.out.size fun k hk => by injection hk with hk; omega⟩
end Go.Proofs.Ytiiollgipfggmaa
/- The message whose bytes any bytes are. -/
namespace Go.Proofs.Ytiiollgipfggmaa
set_option linter.unusedVariables false
set_option linter.unusedSimpArgs false
open Go.RowKit

set_option maxRecDepth 200000 in
set_option maxHeartbeats 4000000 in
theorem lawGets_any {w : World} {v : Value} {l : List UInt8} (hb : By w v l) : Calls Try.prog 4 #[v] w fun e w' => e = .returned (.bool true) ∧ Below w.heap.size w w' := by
  obtain ⟨p, n, c, rfl⟩ := hb.sl
  have hn64 := hb.lenMax
  have hln := hb.len.1
  have HCL := hide (fun (hl : l.length ≤ 1000000) => cloneB_any hb hl)
  have HGT := hide (fun W v (h : By W v l) => get_any h)
  have HRG := hide (fun W (hW : Below w.heap.size w W) => refGet_any (hb.below hW))
  have HBY := hide (fun W (hW : Below w.heap.size w W) => hb.below hW)
  have HAW := hide (fun W => awake_any W)
  obtain ⟨R, hR⟩ : ∃ R, getI l = R := ⟨_, rfl⟩
  obtain ⟨x2, e2⟩ := R
  rw [hR] at HGT HRG
  unfold PeekPost at HGT HRG
  unfold msA at HGT HRG
  try dsimp only at HGT HRG
  have HB0 := hide (Below.refl w.heap.size w)
  clear hb hR
  go_enter Try.func4, Try.ntmps4
  by_cases hn : 65536 < (n : Int)
  · have en : decide (65536 < (n : Int)) = true := decide_eq_true hn
    clear hln
    go_wp2_with fail
    refine (HAW.out _).mono ?_
    rintro e w3 ⟨rfl, hb3⟩
    go_wp2
    go_ret
    exact ⟨rfl, hb3⟩
  · have en : decide (65536 < (n : Int)) = false := decide_eq_false hn
    have HC := hide (HCL.out (by omega))
    clear hln
    go_wp2_with fail
    refine HC.out.mono ?_
    rintro e w2 ⟨p2, n2, c2, rfl, ho2, hb2⟩
    have HB2 := hide hb2
    have HO2 := hide ho2.by_
    clear hb2 ho2
    go_wp2_with fail
    refine (HGT.out _ _ HO2.out).mono ?_
    rintro e w3 ⟨ue, uv, ud, rfl, hm3, hb3⟩
    obtain ⟨pe3, ne3, ce3, rfl⟩ := hm3.es.ens.sl
    obtain ⟨pv3, nv3, cv3, rfl⟩ := hm3.vs.ns.sl
    obtain ⟨pd3, nd3, cd3, rfl⟩ := hm3.d.by_.sl
    have b4 := (Below.refl w3.heap.size w3).alloc (Nat.le_refl _) (.cells #[.int .i64 x2.k, .int .i64 x2.f, .int .i64 x2.t, .int .i64 x2.tm, .int .i64 x2.ix, .int .i64 x2.lt, .int .i64 x2.cm, .int .i64 x2.rd, .bool x2.ys, .bool x2.dn, .slice pe3 ne3 ce3, .slice pv3 nv3 cv3, .slice pd3 nd3 cd3] 26)
    have HB3 := hide (HB2.out.trans (hb3.mono HB2.out.size))
    have HB4 := hide (HB3.out.trans (b4.mono HB3.out.size))
    have HX4 := hide (Box13.new w3 26 (.int .i64 x2.k) (.int .i64 x2.f) (.int .i64 x2.t) (.int .i64 x2.tm) (.int .i64 x2.ix) (.int .i64 x2.lt) (.int .i64 x2.cm) (.int .i64 x2.rd) (.bool x2.ys) (.bool x2.dn) (.slice pe3 ne3 ce3) (.slice pv3 nv3 cv3) (.slice pd3 nd3 cd3))
    have HM4 := hide (hm3.v.below b4)
    have HO4 := hide ((HO2.out.below hb3).below b4)
    clear hm3 hb3 b4
    go_wp2_with fail
    refine (HRG.out _ HB4.out).mono ?_
    rintro e w5 ⟨ue, uv, ud, rfl, hm5, hb5⟩
    obtain ⟨pe5, ne5, ce5, rfl⟩ := hm5.es.ens.sl
    obtain ⟨pv5, nv5, cv5, rfl⟩ := hm5.vs.ns.sl
    obtain ⟨pd5, nd5, cd5, rfl⟩ := hm5.d.by_.sl
    have b6 := (Below.refl w5.heap.size w5).alloc (Nat.le_refl _) (.cells #[.int .i64 x2.k, .int .i64 x2.f, .int .i64 x2.t, .int .i64 x2.tm, .int .i64 x2.ix, .int .i64 x2.lt, .int .i64 x2.cm, .int .i64 x2.rd, .bool x2.ys, .bool x2.dn, .slice pe5 ne5 ce5, .slice pv5 nv5 cv5, .slice pd5 nd5 cd5] 26)
    have HB5 := hide (HB4.out.trans (hb5.mono HB4.out.size))
    have HB6 := hide (HB5.out.trans (b6.mono HB5.out.size))
    have HX6 := hide (Box13.new w5 26 (.int .i64 x2.k) (.int .i64 x2.f) (.int .i64 x2.t) (.int .i64 x2.tm) (.int .i64 x2.ix) (.int .i64 x2.lt) (.int .i64 x2.cm) (.int .i64 x2.rd) (.bool x2.ys) (.bool x2.dn) (.slice pe5 ne5 ce5) (.slice pv5 nv5 cv5) (.slice pd5 nd5 cd5))
    have HX46 := hide ((HX4.out.below hb5).below b6)
    have HSA := hide (sameM_any ((HM4.out.below hb5).below b6) (hm5.v.below b6))
    unfold msA at HSA
    have HEQ := hide (fun W (hW : Below (w5.alloc (.cells #[.int .i64 x2.k, .int .i64 x2.f, .int .i64 x2.t, .int .i64 x2.tm, .int .i64 x2.ix, .int .i64 x2.lt, .int .i64 x2.cm, .int .i64 x2.rd, .bool x2.ys, .bool x2.dn, .slice pe5 ne5 ce5, .slice pv5 nv5 cv5, .slice pd5 nd5 cd5] 26)).heap.size (w5.alloc (.cells #[.int .i64 x2.k, .int .i64 x2.f, .int .i64 x2.t, .int .i64 x2.tm, .int .i64 x2.ix, .int .i64 x2.lt, .int .i64 x2.cm, .int .i64 x2.rd, .bool x2.ys, .bool x2.dn, .slice pe5 ne5 ce5, .slice pv5 nv5 cv5, .slice pd5 nd5 cd5] 26)) W) => equal_any (((HO4.out.below hb5).below b6).below hW) (HBY.out _ (HB6.out.trans (hW.mono HB6.out.size))))
    rw [beq_self_eq_true] at HEQ
    obtain ⟨y0, y1, y2, y3, y4, y5, y6, y7, y8, y9, y10, y11, y12⟩ := HX46.out
    obtain ⟨z0, z1, z2, z3, z4, z5, z6, z7, z8, z9, z10, z11, z12⟩ := HX6.out
    have hqq : (e2 == e2) = true := beq_self_eq_true _
    clear hm5 hb5 b6
    go_wp2_with fail
    refine HSA.out.mono ?_
    rintro e w7 ⟨rfl, hb7⟩
    have HB7 := hide (HB6.out.trans (hb7.mono HB6.out.size))
    have HE7 := hide (HEQ.out _ hb7)
    clear hb7 y0 y1 y2 y3 y4 y5 y6 y7 y8 y9 y10 y11 y12 z0 z1 z2 z3 z4 z5 z6 z7 z8 z9 z10 z11 z12
    go_wp2_with fail
    refine HE7.out.mono ?_
    rintro e w8 ⟨rfl, rfl⟩
    go_wp2_with fail
    refine (HAW.out _).mono ?_
    rintro e w9 ⟨rfl, hb9⟩
    go_wp2
    go_ret
    exact ⟨rfl, HB7.out.trans (hb9.mono HB7.out.size)⟩
end Go.Proofs.Ytiiollgipfggmaa
/- The message whose bytes any bytes are, or why there is none, is what the document says. No condition. -/
namespace Go.Proofs.Ytiiollgipfggmaa.netGets
open Go.ChangeShapes Go.WideShapes Go.ChangeAt Go.RowKit
open Go.ChangeMaps (open_string shut_string)
set_option linter.unusedVariables false

theorem own : ownKnob Try.prog.godebug = none := by kernel_rfl
theorem laidOut : laidOutB Try.prog = true := by kernel_rfl

set_option maxRecDepth 100000 in
theorem lifted (os : Os) (started : os.Started) (H : Type) (enc : TypeId × Value → H) :
    ReturnsInHanded {} Try.checked os 4 .any (Rows.netGetsSpec.pre6 enc Try.prog Try.f4 Rows.netGetsRow.domain false) (Rows.netGetsSpec.post enc Try.prog Try.f4 false true false false) := by
  refine returnsInHanded_of_change_sized (C := Try.checked) own started (by kernel_rfl) Try.func4
    (ChangeSpec.witness6 (enc := enc) (C := Try.checked) false ⟨#[], #[.slice none 0 0], []⟩ 8 (by kernel_rfl) (by kernel_rfl) (by kernel_rfl) (by kernel_rfl)) ?_
  intro W base args ds gs before hval0 hW hcnd hsz0 _
  have hval : ∀ (j : Nat) t v, Try.f4.params[j]? = some t → args[j]? = some v → Value.okWide Try.prog W .any base t v := hval0
  have hsz : (DataW.weightsEach Try.prog (Try.f4.params.toList ++ Rows.netGetsSpec.plain.varTypes Try.prog) (ds ++ gs)).all (· ≤ reachBytes) = true := hsz0
  have hW' := hW
  obtain ⟨p, q, hA0, hV, rfl, hfz, hnd⟩ := hW
  have hA : DataW.TrodAll enc Try.prog W 0 (fun _ => true) true Try.f4.params.toList args.toList ds p := hA0
  rw [Try.params4] at hA hval hsz
  obtain ⟨v0, vs0, d0, ds0, p0, q0, hargs, rfl, rfl, h0, r0⟩ := trodAll_cons hA
  obtain ⟨rfl, rfl, rfl⟩ := trodAll_nil r0
  obtain rfl : args = #[v0] := by cases args; simp_all
  obtain ⟨rfl, rfl⟩ := trodVars_none hV
  obtain ⟨a0, len0, cap0, rfl⟩ := okWide_slice Try.underlying24 (hval 0 24 v0 rfl rfl)
  have k0 := h0
  have lt0 : ∀ x ∈ p0, x.block < W.heap.size := by obtain ⟨m, hm⟩ := k0; exact DataW.trod_lt m _ _ _ hm
  obtain ⟨l0, hl0, hb0⟩ := by_of_arg h0
  clear hA0 hval0
  refine (lawGets_any hb0).mono fun e W' ⟨he, bel⟩ => ?_
  subst he
  exact ⟨_, rfl, _, _, _, [], _, [], hW', trodAll_mk1 (shut_bool Try.underlying4 _), (trodAll_cons_mk (Below.trod laidOut (by kernel_rfl) (of_decide_eq_true (by kernel_rfl)) k0 bel lt0) trodAll_mk0), rfl, bel.frame _, fun h => by cases h⟩

theorem over : Rows.netGetsRow.holds Try.pinned (OpenSpec.ofChange Rows.netGetsSpec) :=
  OpenClaim.holds_of_wide 4 Try.f4 rfl rfl rfl rfl rfl rfl rfl ⟨rfl, rfl, rfl, rfl, rfl⟩ rfl rfl rfl rfl rfl (by kernel_rfl) Try.func4 (by kernel_rfl)
    (of_decide_eq_true (by kernel_rfl)) (by unfold Func.isWrapper; first | (rw [if_pos (by decide +kernel)]; kernel_rfl) | (rw [if_neg (by decide +kernel)]; exact ⟨rfl, rfl⟩))
    (fun os started H enc _ => lifted os started H enc)

theorem proved : Rows.NetGetsSaid := over
end Go.Proofs.Ytiiollgipfggmaa.netGets
