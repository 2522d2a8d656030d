/- The document's files: with one. -/
import Derived.Test.YtdghkmpcjjmlfaaRdLess
import Derived.Sort.Walk0
import Derived.Laws.Strings
namespace Go.Proofs.Ytdghkmpcjjmlfaa
set_option linter.unusedVariables false
set_option linter.unusedSimpArgs false
open Go.RowKit

theorem lay_none {A : Fl} {x b : List UInt8} (h : ∀ p ∈ A, ¬ x < p.1) : lay A x b = A ++ [(x, b)] := by
  induction A with
  | nil => rfl
  | cons p r ih =>
    unfold lay
    rw [if_neg (h p (List.mem_cons_self ..)), ih fun q hq => h q (List.mem_cons_of_mem _ hq)]
    rfl
theorem lay_hit {A : Fl} {x b : List UInt8} {y : List UInt8 × List UInt8} (h : ∀ p ∈ A, ¬ x < p.1) (hy : x < y.1) : lay (A ++ [y]) x b = A ++ [(x, b)] ++ [y] := by
  induction A with
  | nil =>
    show (if x < y.1 then (x, b) :: y :: [] else y :: lay [] x b) = _
    rw [if_pos hy]
    rfl
  | cons p r ih =>
    rw [List.cons_append]
    unfold lay
    rw [if_neg (h p (List.mem_cons_self ..)), ih fun q hq => h q (List.mem_cons_of_mem _ hq)]
    rfl
theorem lay_past {A : Fl} {x b : List UInt8} {y : List UInt8 × List UInt8} (h : ∃ p ∈ A, x < p.1) : lay (A ++ [y]) x b = lay A x b ++ [y] := by
  induction A with
  | nil => obtain ⟨p, hp, _⟩ := h; simp at hp
  | cons p r ih =>
    rw [List.cons_append]
    unfold lay
    by_cases hp : x < p.1
    · rw [if_pos hp, if_pos hp]
      rfl
    · rw [if_neg hp, if_neg hp, ih]
      · rfl
      · obtain ⟨q, hq, hx⟩ := h
        rcases List.mem_cons.1 hq with rfl | hq
        · exact absurd hx hp
        · exact ⟨q, hq, hx⟩
/-- Files of which so many were gone through. -/
def LayS (A : Fl) (x b : List UInt8) (D : Bool) (O : Fl) : Prop := (D = true ∧ (∃ p ∈ A, x < p.1) ∧ O = lay A x b) ∨ (D = false ∧ (∀ p ∈ A, ¬ x < p.1) ∧ O = A)
theorem LayS.nil (x b : List UInt8) : LayS [] x b false [] := .inr ⟨rfl, by simp, rfl⟩
theorem LayS.yes {A : Fl} {x b : List UInt8} {O : Fl} (h : LayS A x b true O) (y : List UInt8 × List UInt8) : LayS (A ++ [y]) x b true (O ++ [y]) := by
  rcases h with ⟨_, h2, h3⟩ | ⟨h1, _⟩
  · obtain ⟨p, hp, hx⟩ := h2
    exact .inl ⟨rfl, ⟨p, List.mem_append_left _ hp, hx⟩, by rw [lay_past ⟨p, hp, hx⟩, h3]⟩
  · cases h1
theorem LayS.hit {A : Fl} {x b : List UInt8} {O : Fl} (h : LayS A x b false O) {y : List UInt8 × List UInt8} (hy : x < y.1) : LayS (A ++ [y]) x b true (O ++ [(x, b)] ++ [y]) := by
  rcases h with ⟨h1, _⟩ | ⟨_, h2, h3⟩
  · cases h1
  · exact .inl ⟨rfl, ⟨y, by simp, hy⟩, by rw [lay_hit h2 hy, h3]⟩
theorem LayS.no {A : Fl} {x b : List UInt8} {O : Fl} (h : LayS A x b false O) {y : List UInt8 × List UInt8} (hy : ¬ x < y.1) : LayS (A ++ [y]) x b false (O ++ [y]) := by
  rcases h with ⟨h1, _⟩ | ⟨_, h2, h3⟩
  · cases h1
  · refine .inr ⟨rfl, fun p hp => ?_, by rw [h3]⟩
    rcases List.mem_append.1 hp with hp | hp
    · exact h2 p hp
    · simp at hp
      rw [hp]
      exact hy
theorem LayS.endT {A : Fl} {x b : List UInt8} {O : Fl} (h : LayS A x b true O) : O = lay A x b := by
  rcases h with ⟨_, _, h⟩ | ⟨h, _⟩
  · exact h
  · cases h
theorem LayS.endF {A : Fl} {x b : List UInt8} {O : Fl} (h : LayS A x b false O) : O ++ [(x, b)] = lay A x b := by
  rcases h with ⟨h, _⟩ | ⟨_, h2, h⟩
  · cases h
  · rw [lay_none h2, h]
theorem del_le (F : Fl) (k : List UInt8) : (del F k).length ≤ F.length := List.length_filter_le _ _
theorem sl_lt (a b : ByteArray) : Op.bytesLess a.toList b.toList = decide (a.data.toList < b.data.toList) := by rw [bytesLess_eq, ByteArray.toList_eq, ByteArray.toList_eq]

set_option maxRecDepth 200000 in
set_option maxHeartbeats 8000000 in
theorem rwith_any {w : World} {Z : Nat → Prop} {v : Value} {F : Fl} (h : Fil w Z v F) (hZ : ∀ i, Z i → i < w.heap.size) (hl : F.length ≤ 10000) {s : ByteArray} (hs : s.size ≤ 1000) {pb : Option Addr} {nb cb : Nat} {b : List UInt8} (hb : By w (.slice pb nb cb) b) (hbo : b = [] ∨ ∀ k, (Value.slice pb nb cb).ownBlock = some k → ¬ Z k) :
    Calls Try.prog 65 #[v, .string s, .slice pb nb cb] w (RowPost w Z (put F s.data.toList b)) := by
  obtain ⟨p, n, c, rfl⟩ := h.sl
  have HL := hide (rless_any h hl s)
  have HX := hide (show Fe w Z ⟨s, pb, nb, cb⟩ (s.data.toList, b) from ⟨rfl, hs, hb, hbo⟩)
  have hdl : (del F s.data.toList).length ≤ 10000 := Nat.le_trans (del_le _ _) hl
  obtain ⟨G, hG⟩ : ∃ G, del F s.data.toList = G := ⟨_, rfl⟩
  have hput : put F s.data.toList b = lay G s.data.toList b := by rw [← hG]; rfl
  rw [hput]
  rw [hG] at HL hdl
  clear hb hbo h hput hG
  go_enter Try.func65, Try.ntmps65
  go_wp2_with fail
  refine HL.out.mono ?_
  rintro e1 w1 ⟨p1, n1, c1, E1, rfl, ho1, hd1, hc1⟩
  have hn1 : n1 = G.length := by rw [ho1.fcs.len.1, hd1.1]
  have hnm : (n1 : Int) ≤ 9223372036854775807 := by omega
  have HN := hide hn1
  have HO1 := hide ho1.fcs
  have HD1 := hide hd1
  have HC1 := hide hc1
  clear ho1 hd1 hc1 hn1
  go_wp2_with fail
  go_loopw [7, 8, 10, 15] (fun u D _ i wr => ∃ (j : Nat) (q : Option Addr) (m d : Nat) (DD : Bool), u = .slice q m d ∧ D = .bool DD ∧ j ≤ n1 ∧ i = .int .i64 j ∧ Hid (Below w1.heap.size w1 wr ∧ ∃ E O, OwnFc w1.heap.size wr (.slice q m d) E ∧ FilD w Z E O ∧ E.length ≤ j + DD.toNat ∧ LayS (G.take j) s.data.toList b DD O)) (fun _ _ _ i _ => n1 - (intOf i).toNat)
  case atStart => exact ⟨0, none, 0, 0, false, rfl, rfl, Nat.zero_le _, rfl, hide ⟨Below.refl _ _, [], [], OwnFc.nil _ _, FilD.nil _ _, by simp, LayS.nil _ _⟩⟩
  case round =>
    obtain ⟨j, q, m, d, DD, rfl, rfl, hj, rfl, hrel⟩ := hrel
    obtain ⟨hb0, E, O, ho0, hd0, hEl, hLS⟩ := hrel.out
    have HB0 := hide hb0
    have HO := hide ho0
    have HDD := hide hd0
    have HLS := hide hLS
    have HEL := hide hEl
    clear hrel hb0 ho0 hd0 hLS hEl
    by_cases hjn : (j : Int) < (n1 : Int)
    · obtain ⟨g, o, rfl, hat0⟩ := HO1.out.at_ (by omega)
      have hjE : j < E1.length := by have := HD1.out.1; have := HN.out; omega
      obtain ⟨e, he⟩ : ∃ e, E1[j]? = some e := ⟨_, List.getElem?_eq_getElem hjE⟩
      obtain ⟨x, hx⟩ : ∃ x, G[j]? = some x := ⟨_, List.getElem?_eq_getElem (by have := HN.out; omega)⟩
      have hfe := HD1.out.2 j e x he hx
      have hat := (hat0 j e he).below HB0.out
      obtain ⟨es, ep, en, ec⟩ := e
      obtain ⟨oo, hoo⟩ : ∃ oo, o + j * 2 = oo := ⟨_, rfl⟩
      rw [hoo] at hat
      have e0 := hat.c0
      have e1 := hat.c1
      have hgl := hat.lt
      dsimp only at e0 e1
      have HE := hide hfe
      have htk : G.take (j + 1) = G.take j ++ [x] := by rw [List.take_add_one, hx]; rfl
      have HTK := hide htk
      have hsz : w1.heap.size ≤ wr.heap.size := HB0.out.size
      have HB := hide (And.intro (HB0.out.alloc hsz (.cells #[.string es, .slice ep en ec] 74)) (HO.out.below ((Below.refl _ _).alloc (Nat.le_refl _) (.cells #[.string es, .slice ep en ec] 74))))
      have hjl : j ≤ 10000 := by have := HN.out; omega
      have hnew := heap_alloc_new wr (.cells #[.string es, .slice ep en ec] 74)
      have HNW := hide hnew
      clear hat hat0 hx he hfe htk hjE hnew
      cases DD
      · by_cases hk : s.data.toList < x.1
        · have q1 : Op.bytesLess s.toList es.toList = true := by rw [sl_lt, HE.out.nm, decide_eq_true hk]
          have HNX := hide (HLS.out.hit hk)
          clear hk
          go_wp2_with (at_builtin; first
            | (refine wpList_pushFc (v := .slice q m d) rfl _ _ rfl rfl ⟨s, pb, nb, cb⟩ rfl rfl (by simp) HB.out.2 (by simp; omega) (by have := HEL.out; simp at this; omega) ?_; intro v5 w5 ho5 hb5 hg5; obtain ⟨p5, n5, c5, rfl⟩ := ho5.fcs.sl; have hz5 : w5.heap[wr.heap.size]? = some (.cells #[.string es, .slice ep en ec] 74) := (hg5.block wr.heap.size (by simp) (fun e => by have := (HO.out.lt wr.heap.size e.symm).2; omega)).trans HNW.out; have k0 := cell_of_row w5 wr.heap.size 0 _ 74 (0, 0) hz5; have k1 := cell_of_row w5 wr.heap.size 1 _ 74 (0, 0) hz5; have hs5 : w1.heap.size ≤ w5.heap.size := by { have := hb5.size; simp at this; omega }; have H5 := hide (And.intro ho5 hb5); clear ho5 hb5 hg5 hz5)
            | (refine wpList_pushFc (v := .slice p5 n5 c5) rfl _ _ rfl rfl ⟨es, ep, en, ec⟩ rfl rfl (by simp) H5.out.1 hs5 (by have := HEL.out; rw [List.length_append]; simp at this ⊢; omega) ?_; intro v6 w6 ho6 hb6 hg6; obtain ⟨p6, n6, c6, rfl⟩ := ho6.fcs.sl; have H6 := hide (And.intro ho6 hb6); clear ho6 hb6 hg6))
          go_roundw
          case rel => exact ⟨j + 1, p6, n6, c6, true, rfl, rfl, by omega, by go_num, hide ⟨(HB.out.1.trans H5.out.2).trans H6.out.2, _, _, H6.out.1, (HDD.out.push HX.out).push HE.out, by rw [List.length_append, List.length_append]; have := HEL.out; simp at this ⊢; omega, by rw [HTK.out]; exact HNX.out⟩⟩
          case measure => simp [intOf]; omega
        · have q1 : Op.bytesLess s.toList es.toList = false := by rw [sl_lt, HE.out.nm, decide_eq_false hk]
          have HNX := hide (HLS.out.no hk)
          clear hk
          go_wp2_with (at_builtin; go_must (refine wpList_pushFc (v := .slice q m d) rfl _ _ rfl rfl ⟨es, ep, en, ec⟩ rfl rfl (by simp) HB.out.2 (by simp; omega) (by have := HEL.out; simp at this; omega) ?_); intro v5 w5 ho5 hb5 hg5; obtain ⟨p5, n5, c5, rfl⟩ := ho5.fcs.sl; have H5 := hide (And.intro ho5 hb5); clear ho5 hb5 hg5)
          go_roundw
          case rel => exact ⟨j + 1, p5, n5, c5, false, rfl, rfl, by omega, by go_num, hide ⟨HB.out.1.trans H5.out.2, _, _, H5.out.1, HDD.out.push HE.out, by rw [List.length_append]; have := HEL.out; simp at this ⊢; omega, by rw [HTK.out]; exact HNX.out⟩⟩
          case measure => simp [intOf]; omega
      · have HNX := hide (HLS.out.yes x)
        go_wp2_with (at_builtin; go_must (refine wpList_pushFc (v := .slice q m d) rfl _ _ rfl rfl ⟨es, ep, en, ec⟩ rfl rfl (by simp) HB.out.2 (by simp; omega) (by have := HEL.out; simp at this; omega) ?_); intro v5 w5 ho5 hb5 hg5; obtain ⟨p5, n5, c5, rfl⟩ := ho5.fcs.sl; have H5 := hide (And.intro ho5 hb5); clear ho5 hb5 hg5)
        go_roundw
        case rel => exact ⟨j + 1, p5, n5, c5, true, rfl, rfl, by omega, by go_num, hide ⟨HB.out.1.trans H5.out.2, _, _, H5.out.1, HDD.out.push HE.out, by rw [List.length_append]; have := HEL.out; simp at this ⊢; omega, by rw [HTK.out]; exact HNX.out⟩⟩
        case measure => simp [intOf]; omega
    · have e1 : G.take j = G := List.take_of_length_le (by have := HN.out; omega)
      rw [e1] at HLS
      have hsz : w1.heap.size ≤ wr.heap.size := HB0.out.size
      have hcw : Chg w wr (fun _ => False) := HC1.out.bel (HB0.out.mono HC1.out.size)
      have hmo : ∀ (W : World) (u : Value) (E : List Fc), OwnFc w1.heap.size W u E → OwnFc w.heap.size W u E := fun _ _ _ h => h.mono HC1.out.size
      cases DD
      · have HLE := hide HLS.out.endF
        have HCW := hide hcw
        have HMO := hide hmo
        clear hcw hmo e1
        go_wp2_with (at_builtin; go_must (refine wpList_pushFc (v := .slice q m d) rfl _ _ rfl rfl ⟨s, pb, nb, cb⟩ rfl rfl rfl HO.out hsz (by have := HEL.out; have h2 := HN.out; simp at this; omega) ?_); intro v5 w5 ho5 hb5 hg5; obtain ⟨p5, n5, c5, rfl⟩ := ho5.fcs.sl; have H5 := hide (And.intro ho5 hb5); clear ho5 hb5 hg5)
        go_ret
        exact ⟨_, _, _, _, rfl, HMO.out _ _ _ H5.out.1, by rw [← HLE.out]; exact HDD.out.push HX.out, HCW.out.bel (H5.out.2.mono HC1.out.size)⟩
      · have hP := hide (show RowPost w Z (lay G s.data.toList b) (.returned (.slice q m d)) wr from ⟨_, _, _, _, rfl, hmo _ _ _ HO.out, by rw [← HLS.out.endT]; exact HDD.out, hcw⟩)
        clear hcw hmo e1
        go_wp2
        go_ret
        exact hP.out
end Go.Proofs.Ytdghkmpcjjmlfaa
