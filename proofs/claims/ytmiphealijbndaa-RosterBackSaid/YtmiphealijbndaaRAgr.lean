/- What a majority has reached: the program's Agreed. -/
import Derived.Test.YtmiphealijbndaaRJoin
namespace Go.Proofs.Ytmiphealijbndaa
set_option linter.unusedVariables false
set_option linter.unusedSimpArgs false
open Go.RowKit

def agrV (V R : List Int) : Int := if okR V then (sortN (nums V R)).getD ((V.length - 1) / 2) 0 else 0
theorem agrV_agr {V : List Int} (R : List Int) (h : okR V = true) : Agr V R (agrV V R) := by
  unfold agrV
  rw [if_pos h]
  exact agr_nth (okR_pos h) (sortN_perm _) (sortN_rise _)
theorem okFrom_len : ∀ {lo : Int} {l : List Int}, okFrom lo l = true → lo ≤ 7 → (l.length : Int) ≤ 7 - lo
  | lo, [], _, h => by simp; omega
  | lo, n :: r, h, h7 => by
    simp only [okFrom, Bool.and_eq_true, decide_eq_true_eq] at h
    have := okFrom_len h.2 (by omega)
    simp only [List.length_cons]
    omega
theorem okR_len {l : List Int} (h : okR l = true) : l.length ≤ 7 := by
  simp only [okR, Bool.and_eq_true] at h
  have := okFrom_len h.2 (by omega)
  omega
/-- What the loop has laid behind k voters. -/
def laid (V R : List Int) (k : Nat) : List Int := nums (V.take k) R ++ List.replicate (V.length - k) 0
theorem laid_length (V R : List Int) (k : Nat) (h : k ≤ V.length) : (laid V R k).length = V.length := by
  unfold laid nums
  rw [List.length_append, List.length_map, List.length_take, List.length_replicate]
  omega
theorem laid_succ {V R : List Int} {k : Nat} (h : k < V.length) : laid V R (k + 1) = (laid V R k).set k (num R V[k]) := by
  unfold laid nums
  rw [List.take_succ_eq_append_getElem h, List.map_append, List.set_append_right _ _ (by rw [List.length_map, List.length_take]; omega), List.length_map, List.length_take, Nat.min_eq_left (by omega), Nat.sub_self,
    show V.length - k = (V.length - (k + 1)) + 1 by omega, List.replicate_succ, List.set_cons_zero, List.append_assoc]
  rfl
theorem laid_same {V R : List Int} {k : Nat} (h : k < V.length) (h0 : num R V[k] = 0) : laid V R (k + 1) = laid V R k := by
  rw [laid_succ h, h0]
  apply List.ext_getElem (by rw [List.length_set])
  intro i h1 h2
  rw [List.getElem_set]
  by_cases e : k = i
  · subst e
    rw [if_pos rfl]
    have h3 : (laid V R k)[k]? = some 0 := by
      unfold laid nums
      rw [List.getElem?_append_right (by rw [List.length_map, List.length_take]; omega), List.length_map, List.length_take, Nat.min_eq_left (by omega), Nat.sub_self, List.getElem?_replicate, if_pos (by omega)]
    rw [List.getElem?_eq_getElem h2] at h3
    injection h3 with h3
    exact h3.symm
  · rw [if_neg e]
theorem own_setN {B : Nat} {w : World} {g n c : Nat} {l : List Int} (h : OwnN B w (.slice (some ⟨g, 0, none⟩) n c) l) {i : Nat} (hi : i < l.length) (y : Int) (hy : fits y) :
    OwnN B (w.setCell ⟨g, i, none⟩ (.int .i64 y)) (.slice (some ⟨g, 0, none⟩) n c) (l.set i y) ∧ w.grownBy (w.setCell ⟨g, i, none⟩ (.int .i64 y)) (some g) := by
  have hn : n = l.length := h.ns.len.1
  subst hn
  obtain ⟨h1, g1⟩ := World.ownsRow.stored h.1 i (.int .i64 y)
  refine ⟨⟨?_, fun x hx => ?_⟩, g1⟩
  · rw [List.length_set, List.map_set]
    exact h1
  · rcases List.mem_or_eq_of_mem_set hx with h2 | rfl
    · exact h.2 x h2
    · exact hy
theorem num_fits {R : List Int} (h : ∀ x ∈ R, fits x) (n : Int) : fits (num R n) := by
  unfold num fits
  by_cases hl : n.toNat < R.length
  · rw [if_pos hl, List.getD_eq_getElem?_getD, List.getElem?_eq_getElem hl]
    have := h _ (List.getElem_mem hl)
    unfold fits at this
    simp only [Option.getD_some]
    omega
  · rw [if_neg hl]
    omega

set_option maxRecDepth 200000 in
set_option maxHeartbeats 4000000 in
theorem agreed_any {w : World} {v u : Value} {V R : List Int} (hv : Ns w v V) (hu : Ns w u R) : Calls Try.prog 27 #[v, u] w fun e w' => e = .returned (.int .i64 (agrV V R)) ∧ Below w.heap.size w w' := by
  have HCK := hide (check_any hv)
  unfold Chk at HCK
  have HV := hide hv
  have HU := hide hu
  obtain ⟨p, m, c, rfl⟩ := hv.sl
  obtain ⟨p2, m2, c2, rfl⟩ := hu.sl
  obtain ⟨rfl, _, _⟩ := hv.len
  obtain ⟨rfl, hr1, hr2⟩ := hu.len
  have hrb : (R.length : Int) ≤ 9223372036854775807 := by unfold maxLen at hr2; omega
  clear hv hu hr1 hr2
  obtain ⟨q, hq⟩ : ∃ q, okR V = q := ⟨_, rfl⟩
  rw [chkI_of hq] at HCK
  cases q
  · have HX : Hid (agrV V R = 0) := hide (by unfold agrV; rw [hq]; rfl)
    simp only [Bool.false_eq_true, if_false] at HCK
    clear hq
    go_enter Try.func27, Try.ntmps27
    go_wp2_with fail
    refine HCK.out.mono ?_
    rintro e w' ⟨rfl, rfl⟩
    go_wp2
    go_ret
    exact ⟨ret_i HX.out, Below.refl _ _⟩
  · have HX : Hid (agrV V R = (sortN (nums V R)).getD ((V.length - 1) / 2) 0) := hide (by unfold agrV; rw [hq]; rfl)
    simp only [if_true] at HCK
    have hl7 := okR_len hq
    have hl0 := okR_pos hq
    have HM := hide (okR_mem hq)
    clear hq
    go_enter Try.func27, Try.ntmps27
    go_wp2_with fail
    refine HCK.out.mono ?_
    rintro e w' ⟨rfl, rfl⟩
    obtain ⟨i0, hi0, hz0, hz1, hz2⟩ := info_parts Try.infoN
    obtain ⟨w1, hmk, hrow, hg1⟩ := run_makeSlice_full (P := Try.prog) w w.heap.size 22 3 i0 (.int .i64 0) 1 Try.underlying22 hi0 hz0 hz1 .i64 .i64 V.length (by omega) (by rw [hz2]; omega) (by unfold maxLen; omega) (Nat.le_refl _)
    have HO1 : Hid (OwnN w.heap.size w1 (.slice (some ⟨w.heap.size, 0, none⟩) V.length V.length) (laid V R 0)) := hide (by
      have e : laid V R 0 = List.replicate V.length 0 := rfl
      refine ⟨?_, fun x hx => ?_⟩
      · have : (madeCells (Value.int .i64 0).cells (V.length * 1)).toList = (laid V R 0).map (Value.int .i64) := by
          rw [e]
          apply List.ext_getElem (by simp [madeCells])
          intro i h1 h2
          simp [madeCells, Value.cells, Nat.mod_one]
        rw [laid_length V R 0 (by omega), ← this]
        exact hrow
      · rw [e] at hx
        rw [(List.mem_replicate.1 hx).2]
        unfold fits
        omega)
    have HB1 : Hid (Below w.heap.size w w1) := hide ⟨hg1.os, hg1.tape, hg1.output, hg1.size, fun k hk => hg1.block k hk (by simp)⟩
    obtain ⟨b, hb⟩ : ∃ b, w.heap.size = b := ⟨_, rfl⟩
    rw [hb] at hmk HO1 HB1
    clear hrow hg1 hi0 hz0 hz1 hz2 HCK
    go_wp2_with fail
    clear hmk
    go_loopw [6, 7, 16] (fun _ _ i wr => ∃ k : Nat, k ≤ V.length ∧ i = .int .i64 k ∧ Hid (OwnN b wr (.slice (some ⟨b, 0, none⟩) V.length V.length) (laid V R k) ∧ Below b w wr)) (fun _ _ i _ => V.length - (intOf i).toNat)
    case atStart => exact ⟨0, by omega, rfl, hide ⟨HO1.out, HB1.out⟩⟩
    case round =>
      obtain ⟨k, hk, rfl, HR⟩ := hrel
      by_cases hlt : k < V.length
      · obtain ⟨x, hx⟩ : ∃ x, V[k]? = some x := ⟨_, List.getElem?_eq_getElem hlt⟩
        obtain ⟨g, o, rfl, hcv⟩ := HV.out.at_ (by omega)
        have hcw := hcv k x hx
        have hcell := (HR.out.2.cell (p := ⟨g, o + k, none⟩) (by rw [← hb]; exact lt_of_cell hcw)).trans hcw
        have hxr := HM.out x (List.mem_of_getElem? hx)
        have hxg : V[k] = x := by
          rw [List.getElem?_eq_getElem hlt] at hx
          injection hx
        have HXG := hide hxg
        obtain ⟨xn, rfl⟩ : ∃ xn : Nat, x = (xn : Int) := ⟨x.toNat, by omega⟩
        have hfr : wr.frozen? ⟨b, k, none⟩ = false := by
          have h1 := HR.out.1.1
          rw [laid_length V R k hk] at h1
          exact World.ownsRow.frozenAt h1 k
        clear hcv hcw hx hxg hxr
        by_cases hn : xn < R.length
        · obtain ⟨y, hy⟩ : ∃ y, R[xn]? = some y := ⟨_, List.getElem?_eq_getElem hn⟩
          obtain ⟨g2, o2, rfl, hcr⟩ := HU.out.at_ (by omega)
          have hcw2 := hcr xn y hy
          have hcell2 := (HR.out.2.cell (p := ⟨g2, o2 + xn, none⟩) (by rw [← hb]; exact lt_of_cell hcw2)).trans hcw2
          have HNUM : Hid (num R V[k] = max y 0) := hide (by
            rw [HXG.out]
            unfold num
            rw [Int.toNat_natCast, if_pos hn, List.getD_eq_getElem?_getD, hy]
            rfl)
          have hkl : k < (laid V R k).length := by rw [laid_length V R k hk]; omega
          have HST := hide (own_setN HR.out.1 hkl (max y 0) (by
            have h1 := HU.out.fits y (List.mem_of_getElem? hy)
            unfold fits at h1 ⊢
            omega))
          have HLS := hide (laid_succ (R := R) hlt)
          have hcb : ∃ u, wr.cell? ⟨b, k, none⟩ = some u := by
            obtain ⟨g3, o3, e3, h3⟩ := HR.out.1.ns.at_ (by omega)
            injection e3 with e3
            injection e3 with e3 e4
            subst e3 e4
            have h4 := h3 k _ (List.getElem?_eq_getElem hkl)
            rw [Nat.zero_add] at h4
            exact ⟨_, h4⟩
          obtain ⟨ub, hcb⟩ := hcb
          clear hcr hcw2 hy hkl
          go_wp2
          go_roundw
          case rel =>
            refine ⟨k + 1, by omega, by go_num, hide ⟨?_, ?_⟩⟩
            · rw [HLS.out, HNUM.out]
              exact HST.out.1
            · exact HR.out.2.grown HST.out.2 (by rw [← hb]; exact Nat.le_trans (Nat.le_of_eq rfl) (by have := HR.out.2.size; omega)) fun k hk => by cases hk; exact Nat.le_refl _
          case measure => simp [intOf]; omega
        · have HLS : Hid (laid V R (k + 1) = laid V R k) := hide (laid_same hlt (by
            rw [HXG.out]
            unfold num
            rw [Int.toNat_natCast, if_neg hn]))
          go_wp2
          go_roundw
          case rel => exact ⟨k + 1, by omega, by go_num, hide ⟨by rw [HLS.out]; exact HR.out.1, HR.out.2⟩⟩
          case measure => simp [intOf]; omega
      · obtain rfl : k = V.length := by omega
        have HF : Hid (OwnN b wr (.slice (some ⟨b, 0, none⟩) V.length V.length) (nums V R)) := hide (by
          have := HR.out.1
          have e : laid V R V.length = nums V R := by unfold laid; rw [List.take_length, Nat.sub_self]; simp
          rwa [e] at this)
        have hnl : (nums V R).length = V.length := by unfold nums; rw [List.length_map]
        have HS := hide (sortN_any HF.out (by omega))
        clear hlt
        go_wp2_with fail
        refine HS.out.mono ?_
        rintro e w3 ⟨rfl, ho3, hg3⟩
        have HB3 : Hid (Below b w w3) := hide (HR.out.2.grown hg3 (by have := HR.out.2.size; omega) fun k hk => by cases hk; exact Nat.le_refl _)
        obtain ⟨kk, hkk⟩ : ∃ kk, (V.length - 1) / 2 = kk := ⟨_, rfl⟩
        have hkl : kk < V.length := by omega
        have hki : ((V.length : Int) - 1) / 2 = (kk : Int) := by omega
        have hcell : w3.cell? ⟨b, kk, none⟩ = some (.int .i64 ((sortN (nums V R)).getD kk 0)) := by
          have := ho3.ns.getD kk (by rw [sortN_length]; omega)
          rwa [Nat.zero_add] at this
        rw [hkk] at HX
        obtain ⟨rr, hrr⟩ : ∃ rr, (sortN (nums V R)).getD kk 0 = rr := ⟨_, rfl⟩
        rw [hrr] at hcell HX
        clear ho3 hg3 hkk hnl hrr
        go_wp2
        go_ret
        exact ⟨ret_i HX.out, by rw [hb]; exact HB3.out⟩
end Go.Proofs.Ytmiphealijbndaa
