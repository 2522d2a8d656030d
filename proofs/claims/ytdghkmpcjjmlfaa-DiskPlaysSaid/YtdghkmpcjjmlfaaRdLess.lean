/- The document's files: without one; with one. -/
import Derived.Test.YtdghkmpcjjmlfaaRdGet
namespace Go.Proofs.Ytdghkmpcjjmlfaa
set_option linter.unusedVariables false
set_option linter.unusedSimpArgs false
open Go.RowKit

theorem Chg.bel {a b c : World} {T : Nat → Prop} (h : Chg a b T) (hb : Below a.heap.size b c) : Chg a c T :=
  ⟨hb.os.trans h.os, hb.tape.trans h.tape, hb.output.trans h.output, Nat.le_trans h.size hb.size, fun k hk hn => (hb.block k hk).trans (h.block k hk hn)⟩
/-- Files in a row of the call's own, their bytes older. -/
def RowPost (w : World) (Z : Nat → Prop) (F : Fl) (e : Ending) (w' : World) : Prop :=
  ∃ p n c E, e = .returned (.slice p n c) ∧ OwnFc w.heap.size w' (.slice p n c) E ∧ FilD w Z E F ∧ Chg w w' (fun _ => False)
theorem RowPost.fil {w w' : World} {Z : Nat → Prop} {F : Fl} {e : Ending} (h : RowPost w Z F e w') (hZ : ∀ i, Z i → i < w.heap.size) : ∃ p n c, e = .returned (.slice p n c) ∧ Fil w' Z (.slice p n c) F ∧ Chg w w' (fun _ => False) := by
  obtain ⟨p, n, c, E, rfl, h1, h2, h3⟩ := h
  exact ⟨p, n, c, rfl, FilO.fil ⟨E, h1, h2.chg h3 fun _ h => h.elim⟩ hZ, h3⟩

theorem del_yes {F : Fl} {k : List UInt8} {j : Nat} {x : List UInt8 × List UInt8} (hx : F[j]? = some x) (hk : x.1 = k) : del (F.take (j + 1)) k = del (F.take j) k := by
  unfold del
  rw [List.take_add_one, hx, List.filter_append, Option.toList_some, List.filter_cons_of_neg (by simp [hk])]
  simp
theorem del_no {F : Fl} {k : List UInt8} {j : Nat} {x : List UInt8 × List UInt8} (hx : F[j]? = some x) (hk : x.1 ≠ k) : del (F.take (j + 1)) k = del (F.take j) k ++ [x] := by
  unfold del
  rw [List.take_add_one, hx, List.filter_append, Option.toList_some, List.filter_cons_of_pos (by simp [hk])]
  simp

set_option maxRecDepth 200000 in
set_option maxHeartbeats 4000000 in
theorem rless_any {w : World} {Z : Nat → Prop} {v : Value} {F : Fl} (h : Fil w Z v F) (hl : F.length ≤ 10000) (s : ByteArray) : Calls Try.prog 66 #[v, .string s] w (RowPost w Z (del F s.data.toList)) := by
  obtain ⟨p, n, c, rfl⟩ := h.sl
  have hnm : (n : Int) ≤ 9223372036854775807 := by have := h.len; unfold maxLen at this; omega
  have HN := hide h.len.1
  have HF := hide h
  clear h
  go_enter Try.func66, Try.ntmps66
  go_wp2_with fail
  go_loopw [5, 7, 10] (fun u _ i wr => ∃ (j : Nat) (q : Option Addr) (m d : Nat), u = .slice q m d ∧ j ≤ n ∧ i = .int .i64 j ∧ Hid (Chg w wr (fun _ => False) ∧ ∃ E, OwnFc w.heap.size wr (.slice q m d) E ∧ FilD w Z E (del (F.take j) s.data.toList) ∧ E.length ≤ j)) (fun _ _ i _ => n - (intOf i).toNat)
  case atStart => exact ⟨0, none, 0, 0, rfl, Nat.zero_le _, rfl, hide ⟨Chg.refl _ _, [], OwnFc.nil _ _, FilD.nil _ _, Nat.le_refl _⟩⟩
  case round =>
    obtain ⟨j, q, m, d, rfl, hj, rfl, hrel⟩ := hrel
    obtain ⟨hc0, E, ho0, hd0, hEl⟩ := hrel.out
    have HC := hide hc0
    have HO := hide ho0
    have HDD := hide hd0
    clear hrel hc0 ho0 hd0
    by_cases hjn : (j : Int) < (n : Int)
    · obtain ⟨x, hx⟩ : ∃ x, F[j]? = some x := ⟨_, List.getElem?_eq_getElem (by have := HN.out; omega)⟩
      obtain ⟨g, o, e, rfl, hat0, hfe, hz⟩ := HF.out.at_ hx
      have hat := hat0.chg HC.out fun h => h
      obtain ⟨es, ep, en, ec⟩ := e
      obtain ⟨oo, hoo⟩ : ∃ oo, o + j * 2 = oo := ⟨_, rfl⟩
      rw [hoo] at hat
      have e0 := hat.c0
      have e1 := hat.c1
      have hgl := hat.lt
      dsimp only at e0 e1
      have HE := hide hfe
      have hb := chgA wr (.cells #[.string es, .slice ep en ec] 74)
      have hsz : w.heap.size ≤ wr.heap.size := HC.out.size
      have HB := hide (And.intro (HC.out.trans hb fun _ h => .inl h) (HO.out.below ((Below.refl _ _).alloc (Nat.le_refl _) (.cells #[.string es, .slice ep en ec] 74))))
      by_cases hk : x.1 = s.data.toList
      · have q1 : (es.toList == s.toList) = true := by rw [tl_beq, HE.out.nm, decide_eq_true hk]
        have HNX := hide (del_yes hx hk)
        clear hb hk hat0 hat hx hfe hz
        go_wp2
        go_roundw
        case rel => exact ⟨j + 1, q, m, d, rfl, by omega, by go_num, hide ⟨HB.out.1, E, HB.out.2, by rw [HNX.out]; exact HDD.out, by omega⟩⟩
        case measure => simp [intOf]; omega
      · have q1 : (es.toList == s.toList) = false := by rw [tl_beq, HE.out.nm, decide_eq_false hk]
        have HNX := hide (del_no hx hk)
        have HEL := hide hEl
        have hjl : j ≤ 10000 := by have := HN.out; omega
        clear hb hk hat0 hat hx hfe hz hEl
        go_wp2_with (at_builtin; go_must (refine wpList_pushFc (v := .slice q m d) rfl _ _ rfl rfl ⟨es, ep, en, ec⟩ rfl rfl (by simp) HB.out.2 (by simp; omega) (by have := HEL.out; omega) ?_); intro v5 w5 ho5 hb5 hg5; obtain ⟨p5, n5, c5, rfl⟩ := ho5.fcs.sl; have H5 := hide (And.intro ho5 hb5); clear ho5 hb5 hg5)
        go_roundw
        case rel => exact ⟨j + 1, p5, n5, c5, rfl, by omega, by go_num, hide ⟨HB.out.1.bel H5.out.2, _, H5.out.1, by rw [HNX.out]; exact HDD.out.push HE.out, by rw [List.length_append]; have := HEL.out; simp; omega⟩⟩
        case measure => simp [intOf]; omega
    · have e1 : F.take j = F := List.take_of_length_le (by have := HN.out; omega)
      rw [e1] at HDD
      have HP := hide (show RowPost w Z (del F s.data.toList) (.returned (.slice q m d)) wr from ⟨_, _, _, _, rfl, HO.out, HDD.out, HC.out⟩)
      clear e1
      go_wp2
      go_ret
      exact HP.out
end Go.Proofs.Ytdghkmpcjjmlfaa
