/- The law RosterReached. -/
import Derived.Test.YtmiphealijbndaaRLaw
namespace Go.Proofs.Ytmiphealijbndaa
set_option linter.unusedVariables false
set_option linter.unusedSimpArgs false
open Go.RowKit

theorem tops_all {R : List Int} {x n : Int} (h : 0 ≤ n) : (tops R x R.length).contains n = (decide (n.toNat < R.length) && decide (x ≤ R.getD n.toNat 0)) := by
  rw [Bool.eq_iff_iff, List.contains_iff_mem]
  unfold tops
  rw [List.mem_map]
  constructor
  · rintro ⟨m, hm, rfl⟩
    rw [List.mem_filter] at hm
    rw [Int.toNat_natCast]
    exact hm.2
  · intro hh
    have h1 := hh
    simp only [Bool.and_eq_true, decide_eq_true_eq] at h1
    exact ⟨n.toNat, List.mem_filter.2 ⟨List.mem_range.2 h1.1, hh⟩, by omega⟩
theorem maj_all {V : List Int} (h : okR V = true) (R : List Int) (x : Int) : maj V (tops R x R.length) = decide (V.length < 2 * reach V R x) := by
  have e : among V (tops R x R.length) = reach V R x := by
    unfold among reach
    exact List.countP_congr fun n hn => by rw [tops_all (okR_mem h n hn).1]
  unfold maj
  rw [h, e, Bool.true_and]
theorem reached_pos {V R : List Int} {c : Int} (h : okR V = true) (ha : Agr V R c) (hc : 0 < c) : maj V (tops R c R.length) = true := by
  rw [maj_all h, decide_eq_true_eq]
  rcases ha.at_ with e | ⟨_, h2⟩
  · omega
  · exact h2
theorem reached_up {V R : List Int} {c : Int} (h : okR V = true) (ha : Agr V R c) : maj V (tops R (c + 1) R.length) = false := by
  rw [maj_all h, decide_eq_false_iff_not]
  exact ha.up _ (by omega)
theorem getD_set (R : List Int) (j i : Nat) (y : Int) (hj : j < R.length) : (R.set j y).getD i 0 = if j = i then y else R.getD i 0 := by
  rw [List.getD_eq_getElem?_getD, List.getElem?_set]
  by_cases e : j = i
  · subst e
    rw [if_pos rfl, if_pos rfl, if_pos hj]
    rfl
  · rw [if_neg e, if_neg e, List.getD_eq_getElem?_getD]
theorem run_pushN2 {B : Nat} {w : World} {v : Value} {l : List Int} (h : OwnN B w v l) (x : Int) (hx : fits x) (hB : B ≤ w.heap.size) (hs : l.length ≤ 1000000) :
    ∃ v' w', (Builtin.append_ #[22, 22] 22 #[v, .slice (some ⟨w.heap.size, 0, none⟩) 1 1]).run Try.prog (w.alloc (.cells #[.int .i64 x] 3)) = .ok v' w' ∧ OwnN B w' v' (l ++ [x]) ∧ Below B w w' ∧ w.grownBy w' v.ownBlock ∧ (v'.ownBlock = v.ownBlock ∨ v'.ownBlock = some (w.heap.size + 1)) := by
  obtain ⟨i0, hi0, hz0, hz1, hz2⟩ := info_parts Try.infoN
  have ho' := World.ownsRow.alloc h.1 (.cells #[.int .i64 x] 3)
  obtain ⟨v', w', hr, h1, h2, _, h4⟩ := run_append_own_at (P := Try.prog) (w.alloc (.cells #[.int .i64 x] 3)) B 22 22 3 i0 _ 1 8 Try.underlying22 hi0 hz0 hz1 hz2 rfl (by decide) v l.length (l.map (Value.int .i64)) ho' ⟨w.heap.size, 0, none⟩ 1 1 [.int .i64 x] rfl
    (fun j u hj => by
      rw [add_lit0, Nat.zero_add, cell_of_row _ w.heap.size j _ 3 (0, 0) (heap_alloc_new w _)]
      simpa using hj)
    (ncell_one [x]) (by simp only [maxLen]; omega) (by omega) (by simp; omega)
  have hb0 : Below B w (w.alloc (.cells #[.int .i64 x] 3)) := (Below.refl _ _).alloc hB _
  refine ⟨v', w', hr, ⟨?_, ?_⟩, hb0.grown h2 (by simp; omega) fun k hk => (World.ownsRow.lt h.1 k hk).1, ?_, by simpa using h4⟩
  · rw [List.map_append, List.length_append]
    exact h1
  · intro y hy
    rcases List.mem_append.1 hy with hy | hy
    · exact h.2 y hy
    · rw [List.mem_singleton.1 hy]
      exact hx
  · refine ⟨h2.os, h2.tape, h2.output, ?_, fun k hk hne => ?_⟩
    · have := h2.size
      simp at this
      omega
    · rw [h2.block k (by simp; omega) hne]
      exact heap_alloc_old _ _ hk
theorem wpList_pushN2 {w : World} {ops : Array Oper} {rest : List Oper} {o : Oper} {a : Act} {Q : Exit → Act → World → Prop} (hgd : o.guard = none) (s t : Operand)
    (ho : o.op = .call { callee := .builtin .append, args := #[s, t], argTypes := #[22, 22] }) (hty : o.type = 22) {B : Nat} {v : Value} {l : List Int} (x : Int) (hx : fits x) {H : Nat}
    (hs : a.eval s = v) (ht : a.eval t = .slice (some ⟨H, 0, none⟩) 1 1) (hH : H = w.heap.size) (h : OwnN B w v l) (hB : B ≤ w.heap.size) (hn : l.length ≤ 1000000)
    (hK : ∀ v' w', OwnN B w' v' (l ++ [x]) → Below B w w' → w.grownBy w' v.ownBlock → (v'.ownBlock = v.ownBlock ∨ v'.ownBlock = some (w.heap.size + 1)) → wpList Try.prog ops Q rest (a.put o.dst v') w') : wpList Try.prog ops Q (o :: rest) a (w.alloc (.cells #[.int .i64 x] 3)) := by
  subst hH
  obtain ⟨v', w', hr, h1, h2, h3, h4⟩ := run_pushN2 h x hx hB hn
  exact Lib.wpList_append_run_sl _ hgd s t 22 ho v _ hs ht (by rw [hty]; exact hr) (hK v' w' h1 h2 h3 h4)
/-- Two slices that grow side by side. -/
def Pair (B : Nat) (w : World) (x y : Value) (l m : List Int) : Prop := OwnN B w x l ∧ OwnN B w y m ∧ (x.ownBlock = none ∨ x.ownBlock ≠ y.ownBlock)
theorem Pair.left {B : Nat} {w w' : World} {x y x' : Value} {l m l' : List Int} (h : Pair B w x y l m) (ho : OwnN B w' x' l') (hg : w.grownBy w' x.ownBlock) (he : x'.ownBlock = x.ownBlock ∨ x'.ownBlock = some (w.heap.size + 1)) : Pair B w' x' y l' m := by
  obtain ⟨h1, h2, h3⟩ := h
  refine ⟨ho, h2.grown hg ?_, ?_⟩
  · rcases e1 : y.ownBlock with _ | b
    · exact .inl rfl
    · refine .inr fun e2 => ?_
      rcases h3 with h3 | h3
      · rw [h3] at e2
        cases e2
      · exact h3 (by rw [e1]; exact e2.symm)
  · rcases he with e | e
    · rw [e]
      exact h3
    · refine .inr fun e2 => ?_
      have := (h2.lt _ (by rw [← e2]; exact e)).2
      omega
theorem Pair.right {B : Nat} {w w' : World} {x y y' : Value} {l m m' : List Int} (h : Pair B w x y l m) (ho : OwnN B w' y' m') (hg : w.grownBy w' y.ownBlock) (he : y'.ownBlock = y.ownBlock ∨ y'.ownBlock = some (w.heap.size + 1)) : Pair B w' x y' l m' := by
  obtain ⟨h1, h2, h3⟩ := h
  refine ⟨h1.grown hg ?_, ho, ?_⟩
  · rcases h3 with h3 | h3
    · exact .inl h3
    · exact .inr h3
  · rcases h3 with h3 | h3
    · exact .inl h3
    · rcases he with e | e
      · rw [e]
        exact .inr h3
      · refine .inr fun e2 => ?_
        have := (h1.lt _ (by rw [e2]; exact e)).2
        omega

set_option maxRecDepth 200000 in
set_option maxHeartbeats 4000000 in
theorem lawReached_any {w : World} {v : Value} {Lv : List Int} (hv : Ns w v Lv) {u : Value} {Lu : List Int} (hu : Ns w u Lu) (n : Int) (hn : fits n) (m : Int) (hm : fits m) : Calls Try.prog 9 #[v, u, .int .i64 n, .int .i64 m] w (Good w) := by
  have HAW := hide awake_any
  obtain ⟨pv, nv, cv, rfl⟩ := hv.sl
  obtain ⟨pu, nu, cu, rfl⟩ := hu.sl
  have b1 : Below w.heap.size w (w.alloc (.cells #[.slice pv nv cv, .slice pu nu cu] 22)) := (Below.refl _ _).alloc (Nat.le_refl _) _
  have HL := hide (light2 hv hu)
  have HNv := hide (hv.below b1)
  have HNu := hide (hu.below b1)
  have HFn := hide hn
  have HFm := hide hm
  have HB := hide b1
  obtain ⟨Y, hY⟩ : ∃ Y, w.alloc (.cells #[.slice pv nv cv, .slice pu nu cu] 22) = Y := ⟨_, rfl⟩
  obtain ⟨q, hq⟩ : ∃ q, lightN [Lv, Lu] = q := ⟨_, rfl⟩
  rw [hY] at HL HB HNv HNu
  rw [hq] at HL
  have HQ := hide hq
  clear b1 hq hv hu hn hm
  go_enter Try.func9, Try.ntmps9
  cases q
  · go_wp2_with fail
    refine HL.out.mono ?_
    rintro e w9 ⟨rfl, rfl⟩
    go_wp2_with fail
    refine (HAW.out _).mono ?_
    rintro e wz ⟨rfl, hbz⟩
    have HBZ := hide (HB.out.trans (hbz.mono HB.out.size))
    clear hbz
    go_wp2
    go_ret
    exact ⟨rfl, HBZ.out⟩
  · go_wp2_with fail
    refine HL.out.mono ?_
    rintro e w9 ⟨rfl, rfl⟩
    have HL9 : Hid (Lu.length ≤ 300) := hide (lightN_of HQ.out (by simp))
    have hl9 : (Lu.length : Int) ≤ 300 := by have := HL9.out; omega
    have HCK := hide (check_any HNv.out)
    unfold Chk at HCK
    obtain ⟨c1, hc1⟩ : ∃ q, okR Lv = q := ⟨_, rfl⟩
    rw [chkI_of hc1] at HCK
    have HOK := hide hc1
    clear hc1
    cases c1
    · simp only [Bool.false_eq_true, if_false] at HCK
      go_wp2_with fail
      refine HCK.out.mono ?_
      rintro e w9 ⟨rfl, rfl⟩
      go_wp2_with fail
      refine (HAW.out _).mono ?_
      rintro e wz ⟨rfl, hbz⟩
      have HBZ := hide (HB.out.trans (hbz.mono HB.out.size))
      clear hbz
      go_wp2
      go_ret
      exact ⟨rfl, HBZ.out⟩
    · simp only [if_true] at HCK
      go_wp2_with fail
      refine HCK.out.mono ?_
      rintro e w9 ⟨rfl, rfl⟩
      have HAG := hide (agreed_any HNv.out HNu.out)
      obtain ⟨c, hc⟩ : ∃ c, agrV Lv Lu = c := ⟨_, rfl⟩
      have HAC : Hid (Agr Lv Lu c) := hide (by rw [← hc]; exact agrV_agr Lu HOK.out)
      rw [hc] at HAG
      have hc0 := HAC.out.nn
      have HFC : Hid (c = 0 ∨ c ∈ Lu) := hide (HAC.out.at_.imp id fun h => h.1)
      have hcf : c ≤ 9223372036854775807 := by
        rcases HFC.out with e | e
        · omega
        · have := HNu.out.fits c e
          unfold fits at this
          omega
      clear hc
      go_wp2_with fail
      refine HAG.out.mono ?_
      rintro e w2 ⟨rfl, hb2⟩
      have HB2 := hide hb2
      have HBW := hide (HB.out.trans (hb2.mono HB.out.size))
      have HV2 := hide (HNv.out.below hb2)
      have HU2 := hide (HNu.out.below hb2)
      obtain ⟨hnu1, _, _⟩ := HNu.out.len
      subst hnu1
      clear hb2
      go_wp2_with fail
      go_loopw [10, 11, 12, 13, 32] (fun x y _ _ i wr => ∃ k : Nat, k ≤ Lu.length ∧ i = .int .i64 k ∧ (∃ p n c, x = .slice p n c) ∧ (∃ p n c, y = .slice p n c) ∧ Hid (Pair w2.heap.size wr x y (tops Lu c k) (tops Lu (c + 1) k) ∧ Below w2.heap.size w2 wr)) (fun _ _ _ _ i _ => Lu.length - (intOf i).toNat)
      case atStart => exact ⟨0, by omega, rfl, ⟨_, _, _, rfl⟩, ⟨_, _, _, rfl⟩, hide ⟨⟨OwnN.nil _ _, OwnN.nil _ _, .inl rfl⟩, Below.refl _ _⟩⟩
      case round =>
        obtain ⟨k, hk, rfl, ⟨px, nx, cx, rfl⟩, ⟨py, ny, cy, rfl⟩, HR⟩ := hrel
        by_cases hlt : k < Lu.length
        · obtain ⟨z, hz⟩ : ∃ z, Lu[k]? = some z := ⟨_, List.getElem?_eq_getElem hlt⟩
          obtain ⟨g, o, rfl, hcu⟩ := HU2.out.at_ (by omega)
          have hcell := (HR.out.2.cell (lt_of_cell (hcu k z hz))).trans (hcu k z hz)
          have HT1 := hide (tops_succ Lu c k)
          have HT2 := hide (tops_succ Lu (c + 1) k)
          have HTL := hide (And.intro (tops_len Lu c k) (tops_len Lu (c + 1) k))
          have HKF : Hid (fits (k : Int)) := hide (by unfold fits; omega)
          have htop : ∀ x, top Lu x k = decide (x ≤ z) := fun x => by
            unfold top
            rw [decide_eq_true hlt, List.getD_eq_getElem?_getD, hz]
            rfl
          rw [htop] at HT1 HT2
          clear htop hcu hz
          by_cases h1 : c ≤ z
          · have e1 : decide (c ≤ z) = true := by simpa using h1
            have HT1' : Hid (tops Lu c (k + 1) = tops Lu c k ++ [(k : Int)]) := hide (by rw [HT1.out, e1]; rfl)
            by_cases h2 : c < z
            · have e2 : decide (c < z) = true := by simpa using h2
              have HT2' : Hid (tops Lu (c + 1) (k + 1) = tops Lu (c + 1) k ++ [(k : Int)]) := hide (by rw [HT2.out, decide_eq_true (by omega : c + 1 ≤ z)]; rfl)
              clear HT1 HT2 h1 h2
              go_wp2_with (at_builtin; first
                | (refine wpList_pushN2 (w := wr) (v := .slice px nx cx) (l := tops Lu c k) (B := w2.heap.size) (H := wr.heap.size) rfl (.tmp 40) (.tmp 42) rfl rfl (k : Int) HKF.out rfl rfl rfl HR.out.1.1 HR.out.2.size (by have := HTL.out; omega) ?_; intro v5 w5 ho5 hb5 hg5 he5; obtain ⟨p5, n5, c5, rfl⟩ := ho5.ns.sl; have HR5 := hide (And.intro (HR.out.1.left ho5 hg5 he5) (HR.out.2.trans hb5)); clear ho5 hb5 hg5 he5)
                | (go_loud (refine wpList_pushN2 (w := w5) (v := .slice py ny cy) (l := tops Lu (c + 1) k) (B := w2.heap.size) (H := w5.heap.size) rfl (.tmp 47) (.tmp 49) rfl rfl (k : Int) HKF.out rfl rfl rfl HR5.out.1.2.1 HR5.out.2.size (by have := HTL.out; omega) ?_); intro v6 w6 ho6 hb6 hg6 he6; obtain ⟨p6, n6, c6, rfl⟩ := ho6.ns.sl; have HR6 := hide (And.intro (HR5.out.1.right ho6 hg6 he6) (HR5.out.2.trans hb6)); clear ho6 hb6 hg6 he6))
              go_wp2
              go_roundw
              case rel => exact ⟨k + 1, by omega, by go_num, ⟨_, _, _, rfl⟩, ⟨_, _, _, rfl⟩, hide ⟨by rw [HT1'.out, HT2'.out]; exact HR6.out.1, HR6.out.2⟩⟩
              case measure => simp [intOf]; omega
            · have e2 : decide (c < z) = false := by simpa using h2
              have HT2' : Hid (tops Lu (c + 1) (k + 1) = tops Lu (c + 1) k) := hide (by rw [HT2.out, decide_eq_false (by omega : ¬ c + 1 ≤ z)]; simp)
              clear HT1 HT2 h1 h2
              go_wp2_with (at_builtin; (refine wpList_pushN2 (w := wr) (v := .slice px nx cx) (l := tops Lu c k) (B := w2.heap.size) (H := wr.heap.size) rfl (.tmp 40) (.tmp 42) rfl rfl (k : Int) HKF.out rfl rfl rfl HR.out.1.1 HR.out.2.size (by have := HTL.out; omega) ?_; intro v5 w5 ho5 hb5 hg5 he5; obtain ⟨p5, n5, c5, rfl⟩ := ho5.ns.sl; have HR5 := hide (And.intro (HR.out.1.left ho5 hg5 he5) (HR.out.2.trans hb5)); clear ho5 hb5 hg5 he5))
              go_wp2
              go_roundw
              case rel => exact ⟨k + 1, by omega, by go_num, ⟨_, _, _, rfl⟩, ⟨_, _, _, rfl⟩, hide ⟨by rw [HT1'.out, HT2'.out]; exact HR5.out.1, HR5.out.2⟩⟩
              case measure => simp [intOf]; omega
          · have e1 : decide (c ≤ z) = false := by simpa using h1
            have e2 : decide (c < z) = false := by simp; omega
            have HT1' : Hid (tops Lu c (k + 1) = tops Lu c k) := hide (by rw [HT1.out, e1]; simp)
            have HT2' : Hid (tops Lu (c + 1) (k + 1) = tops Lu (c + 1) k) := hide (by rw [HT2.out, decide_eq_false (by omega : ¬ c + 1 ≤ z)]; simp)
            clear HT1 HT2 h1
            go_wp2
            go_roundw
            case rel => exact ⟨k + 1, by omega, by go_num, ⟨_, _, _, rfl⟩, ⟨_, _, _, rfl⟩, hide ⟨by rw [HT1'.out, HT2'.out]; exact HR.out.1, HR.out.2⟩⟩
            case measure => simp [intOf]; omega
        · obtain rfl : k = Lu.length := by omega
          have HGE : Hid (Below w.heap.size w wr) := hide (HBW.out.trans (HR.out.2.mono HBW.out.size))
          have HVR := hide (HV2.out.below HR.out.2)
          have HUR := hide (HU2.out.below HR.out.2)
          have HM1 := hide (majority_any HVR.out HR.out.1.1.ns)
          have HM2 := hide (majority_any HVR.out HR.out.1.2.1.ns)
          unfold Maj at HM1 HM2
          rw [reached_up HOK.out HAC.out] at HM2
          have HMP := hide (fun h : 0 < c => reached_pos HOK.out HAC.out h)
          have e0 : decide (c < 0) = false := decide_eq_false (by omega)
          by_cases hcp : 0 < c
          · have e1 : decide (0 < c) = true := by simpa using hcp
            rw [HMP.out hcp] at HM1
            clear hcp
            go_wp2_with fail
            refine HM1.out.mono ?_
            rintro e w9 ⟨rfl, rfl⟩
            go_wp2_with fail
            refine HM2.out.mono ?_
            rintro e w9 ⟨rfl, rfl⟩
            by_cases hl0 : Lu.length = 0
            · have e8 : decide ((0 : Int) < (Lu.length : Int)) = false := decide_eq_false (by omega)
              go_wp2_with fail
              refine (HAW.out _).mono ?_
              rintro e wz ⟨rfl, hbz⟩
              have HBZ := hide (HGE.out.trans (hbz.mono HGE.out.size))
              clear hbz
              go_wp2
              go_ret
              exact ⟨rfl, HBZ.out⟩
            · have e8 : decide ((0 : Int) < (Lu.length : Int)) = true := decide_eq_true (by omega)
              have HCL := hide (cloneN_any HUR.out (by have := HL9.out; omega))
              obtain ⟨zu, hzu⟩ : ∃ zu : Nat, IntKind.u64.wrap n = (zu : Int) := ⟨(IntKind.u64.wrap n).toNat, by rw [IntKind.wrap_u64]; omega⟩
              have hzb : (zu : Int) ≤ 18446744073709551615 := by rw [← hzu, IntKind.wrap_u64]; omega
              have hwm : IntKind.u64.wrap (Lu.length : Int) = (Lu.length : Int) := by rw [IntKind.wrap_u64]; omega
              obtain ⟨bi, hbi⟩ : ∃ bi, zu % Lu.length = bi := ⟨_, rfl⟩
              have hbl : bi < Lu.length := by rw [← hbi]; exact Nat.mod_lt _ (by omega)
              have ht1 : Int.tmod (zu : Int) (Lu.length : Int) = (bi : Int) := by rw [← hbi]; rfl
              have hwb : IntKind.i64.wrap (bi : Int) = (bi : Int) := by rw [IntKind.wrap_i64]; omega
              clear hbi hl0
              go_wp2_with fail
              refine HCL.out.mono ?_
              rintro e w5 ⟨v5, rfl, ho5, hb5⟩
              obtain ⟨g5, c5, hv5⟩ : ∃ g c, v5 = .slice (some ⟨g, 0, none⟩) Lu.length c := by
                obtain ⟨⟨_, ⟨h1, h2⟩ | ⟨g, cap, cur, h1, _⟩⟩, _⟩ := ho5
                · omega
                · exact ⟨g, cap, h1⟩
              subst hv5
              obtain ⟨y, hy⟩ : ∃ y, Lu[bi]? = some y := ⟨_, List.getElem?_eq_getElem hbl⟩
              have HFY : Hid (fits y) := hide (HUR.out.fits y (List.mem_of_getElem? hy))
              have hcell : w5.cell? ⟨g5, bi, none⟩ = some (.int .i64 y) := by
                obtain ⟨g', o', e3, h3⟩ := ho5.ns.at_ (by omega)
                injection e3 with e3
                injection e3 with e3 e4
                subst e3 e4
                have := h3 bi y hy
                rwa [Nat.zero_add] at this
              have hfr : w5.frozen? ⟨g5, bi, none⟩ = false := World.ownsRow.frozenAt ho5.1 bi
              have HST := hide (own_setN ho5 hbl (max y m) (by
                have h1 := HFY.out
                have h2 := HFm.out
                unfold fits at h1 h2 ⊢
                omega))
              have HB5 : Hid (Below wr.heap.size wr (w5.setCell ⟨g5, bi, none⟩ (.int .i64 (max y m)))) := hide (hb5.grown HST.out.2 hb5.size fun b hb => by cases hb; exact (ho5.lt g5 rfl).1)
              have HAG2 := hide (agreed_any (HVR.out.below HB5.out) HST.out.1.ns)
              obtain ⟨d, hd⟩ : ∃ d, agrV Lv (Lu.set bi (max y m)) = d := ⟨_, rfl⟩
              have hcd : c ≤ d := by
                rw [← hd]
                refine HAC.out.mono (agrV_agr _ HOK.out) (by rw [List.length_set]) fun i hi => ?_
                rw [getD_set _ _ _ _ hbl]
                by_cases e : bi = i
                · subst e
                  rw [if_pos rfl, List.getD_eq_getElem?_getD, hy]
                  simp only [Option.getD_some]
                  omega
                · rw [if_neg e]
                  exact Int.le_refl _
              rw [hd] at HAG2
              have e9 : decide (d < c) = false := decide_eq_false (by omega)
              clear ho5 hb5 hy hd hcd
              go_wp2_with fail
              refine HAG2.out.mono ?_
              rintro e w6 ⟨rfl, hb6⟩
              have HB6 : Hid (Below w.heap.size w w6) := hide (HGE.out.trans ((HB5.out.trans (hb6.mono HB5.out.size)).mono HGE.out.size))
              clear hb6
              go_wp2_with fail
              refine (HAW.out _).mono ?_
              rintro e wz ⟨rfl, hbz⟩
              have HBZ := hide (HB6.out.trans (hbz.mono HB6.out.size))
              clear hbz
              go_wp2
              go_ret
              exact ⟨rfl, HBZ.out⟩
          · have e1 : decide (0 < c) = false := by simpa using hcp
            clear hcp HM1
            go_wp2_with fail
            refine HM2.out.mono ?_
            rintro e w9 ⟨rfl, rfl⟩
            by_cases hl0 : Lu.length = 0
            · have e8 : decide ((0 : Int) < (Lu.length : Int)) = false := decide_eq_false (by omega)
              go_wp2_with fail
              refine (HAW.out _).mono ?_
              rintro e wz ⟨rfl, hbz⟩
              have HBZ := hide (HGE.out.trans (hbz.mono HGE.out.size))
              clear hbz
              go_wp2
              go_ret
              exact ⟨rfl, HBZ.out⟩
            · have e8 : decide ((0 : Int) < (Lu.length : Int)) = true := decide_eq_true (by omega)
              have HCL := hide (cloneN_any HUR.out (by have := HL9.out; omega))
              obtain ⟨zu, hzu⟩ : ∃ zu : Nat, IntKind.u64.wrap n = (zu : Int) := ⟨(IntKind.u64.wrap n).toNat, by rw [IntKind.wrap_u64]; omega⟩
              have hzb : (zu : Int) ≤ 18446744073709551615 := by rw [← hzu, IntKind.wrap_u64]; omega
              have hwm : IntKind.u64.wrap (Lu.length : Int) = (Lu.length : Int) := by rw [IntKind.wrap_u64]; omega
              obtain ⟨bi, hbi⟩ : ∃ bi, zu % Lu.length = bi := ⟨_, rfl⟩
              have hbl : bi < Lu.length := by rw [← hbi]; exact Nat.mod_lt _ (by omega)
              have ht1 : Int.tmod (zu : Int) (Lu.length : Int) = (bi : Int) := by rw [← hbi]; rfl
              have hwb : IntKind.i64.wrap (bi : Int) = (bi : Int) := by rw [IntKind.wrap_i64]; omega
              clear hbi hl0
              go_wp2_with fail
              refine HCL.out.mono ?_
              rintro e w5 ⟨v5, rfl, ho5, hb5⟩
              obtain ⟨g5, c5, hv5⟩ : ∃ g c, v5 = .slice (some ⟨g, 0, none⟩) Lu.length c := by
                obtain ⟨⟨_, ⟨h1, h2⟩ | ⟨g, cap, cur, h1, _⟩⟩, _⟩ := ho5
                · omega
                · exact ⟨g, cap, h1⟩
              subst hv5
              obtain ⟨y, hy⟩ : ∃ y, Lu[bi]? = some y := ⟨_, List.getElem?_eq_getElem hbl⟩
              have HFY : Hid (fits y) := hide (HUR.out.fits y (List.mem_of_getElem? hy))
              have hcell : w5.cell? ⟨g5, bi, none⟩ = some (.int .i64 y) := by
                obtain ⟨g', o', e3, h3⟩ := ho5.ns.at_ (by omega)
                injection e3 with e3
                injection e3 with e3 e4
                subst e3 e4
                have := h3 bi y hy
                rwa [Nat.zero_add] at this
              have hfr : w5.frozen? ⟨g5, bi, none⟩ = false := World.ownsRow.frozenAt ho5.1 bi
              have HST := hide (own_setN ho5 hbl (max y m) (by
                have h1 := HFY.out
                have h2 := HFm.out
                unfold fits at h1 h2 ⊢
                omega))
              have HB5 : Hid (Below wr.heap.size wr (w5.setCell ⟨g5, bi, none⟩ (.int .i64 (max y m)))) := hide (hb5.grown HST.out.2 hb5.size fun b hb => by cases hb; exact (ho5.lt g5 rfl).1)
              have HAG2 := hide (agreed_any (HVR.out.below HB5.out) HST.out.1.ns)
              obtain ⟨d, hd⟩ : ∃ d, agrV Lv (Lu.set bi (max y m)) = d := ⟨_, rfl⟩
              have hcd : c ≤ d := by
                rw [← hd]
                refine HAC.out.mono (agrV_agr _ HOK.out) (by rw [List.length_set]) fun i hi => ?_
                rw [getD_set _ _ _ _ hbl]
                by_cases e : bi = i
                · subst e
                  rw [if_pos rfl, List.getD_eq_getElem?_getD, hy]
                  simp only [Option.getD_some]
                  omega
                · rw [if_neg e]
                  exact Int.le_refl _
              rw [hd] at HAG2
              have e9 : decide (d < c) = false := decide_eq_false (by omega)
              clear ho5 hb5 hy hd hcd
              go_wp2_with fail
              refine HAG2.out.mono ?_
              rintro e w6 ⟨rfl, hb6⟩
              have HB6 : Hid (Below w.heap.size w w6) := hide (HGE.out.trans ((HB5.out.trans (hb6.mono HB5.out.size)).mono HGE.out.size))
              clear hb6
              go_wp2_with fail
              refine (HAW.out _).mono ?_
              rintro e wz ⟨rfl, hbz⟩
              have HBZ := hide (HB6.out.trans (hbz.mono HB6.out.size))
              clear hbz
              go_wp2
              go_ret
              exact ⟨rfl, HBZ.out⟩
end Go.Proofs.Ytmiphealijbndaa
