/- The document's files: asked for one. -/
import Derived.Test.YtdghkmpcjjmlfaaRdMem
import Derived.Laws.StructEq
namespace Go.Proofs.Ytdghkmpcjjmlfaa
set_option linter.unusedVariables false
set_option linter.unusedSimpArgs false
open Go.RowKit

def GetPost (w : World) (Z : Nat → Prop) (r : Option (List UInt8)) (e : Ending) (w' : World) : Prop :=
  ∃ p n c, e = .returned (.tuple #[.slice p n c, .bool r.isSome]) ∧ By w' (.slice p n c) (r.getD []) ∧ (r.getD [] = [] ∨ ∀ k, (Value.slice p n c).ownBlock = some k → ¬ Z k) ∧ Chg w w' (fun _ => False)

theorem tl_beq (a b : ByteArray) : (a.toList == b.toList) = decide (a.data.toList = b.data.toList) := by
  rw [← beq_toListBytes, Bool.eq_iff_iff, decide_eq_true_eq]
  show (a.data == b.data) = true ↔ _
  obtain ⟨⟨a⟩⟩ := a
  obtain ⟨⟨b⟩⟩ := b
  simp

set_option maxRecDepth 200000 in
set_option maxHeartbeats 4000000 in
theorem rget_any {w : World} {Z : Nat → Prop} {v : Value} {F : Fl} (h : Fil w Z v F) (s : ByteArray) : Calls Try.prog 31 #[v, .string s] w (GetPost w Z (get F s.data.toList)) := by
  obtain ⟨p, n, c, rfl⟩ := h.sl
  have hnm : (n : Int) ≤ 9223372036854775807 := by have := h.len; unfold maxLen at this; omega
  have HN := hide h.len.1
  have HF := hide h
  clear h
  go_enter Try.func31, Try.ntmps31
  go_wp2_with fail
  go_loopw [7, 10] (fun _ i wr => ∃ j : Nat, j ≤ n ∧ i = .int .i64 j ∧ Hid (Chg w wr (fun _ => False) ∧ get F s.data.toList = get (F.drop j) s.data.toList)) (fun _ i _ => n - (intOf i).toNat)
  case atStart => exact ⟨0, Nat.zero_le _, rfl, hide ⟨Chg.refl _ _, by rw [List.drop_zero]⟩⟩
  case round =>
    obtain ⟨j, hj, rfl, hrel⟩ := hrel
    have HC := hide hrel.out.1
    have HG := hide hrel.out.2
    clear hrel
    by_cases hjn : (j : Int) < (n : Int)
    · obtain ⟨x, hx⟩ : ∃ x, F[j]? = some x := ⟨_, List.getElem?_eq_getElem (by have := HN.out; omega)⟩
      obtain ⟨g, o, e, rfl, hat, hfe, hz⟩ := (HF.out.chg HC.out fun _ h => h.elim).at_ hx
      obtain ⟨oo, hoo⟩ : ∃ oo, o + j * 2 = oo := ⟨_, rfl⟩
      rw [hoo] at hat
      have e0 := hat.c0
      have e1 := hat.c1
      have hgl := hat.lt
      have hdrop : F.drop j = x :: F.drop (j + 1) := List.drop_eq_getElem?_toList_append.trans (by rw [hx]; rfl)
      have HD := hide hdrop
      have HE := hide hfe
      clear hat hx hdrop hfe hz
      have hb := chgA wr (.cells #[.string e.s, .slice e.p e.n e.c] 74)
      have HB := hide hb
      by_cases hk : x.1 = s.data.toList
      · have q : (e.s.toList == s.toList) = true := by rw [tl_beq, HE.out.nm, decide_eq_true hk]
        have hres : get F s.data.toList = some x.2 := by rw [HG.out, HD.out]; unfold get; rw [if_pos hk]
        have hP : GetPost w Z (get F s.data.toList) (.returned (.tuple #[.slice e.p e.n e.c, .bool true])) (wr.alloc (.cells #[.string e.s, .slice e.p e.n e.c] 74)) := by
          rw [hres]
          exact ⟨_, _, _, rfl, HE.out.by_.chg hb (.inr fun _ _ h => h), HE.out.off, HC.out.trans hb fun _ h => .inl h⟩
        have HP := hide hP
        clear hb hk hP hres
        go_wp2
        go_ret2
        exact HP.out
      · have q : (e.s.toList == s.toList) = false := by rw [tl_beq, HE.out.nm, decide_eq_false hk]
        have hnx : get F s.data.toList = get (F.drop (j + 1)) s.data.toList := by
          rw [HG.out, HD.out]
          conv => lhs; unfold get
          rw [if_neg hk]
        have HNX := hide hnx
        clear hnx hb hk
        go_wp2
        go_roundw
        case rel => exact ⟨j + 1, by omega, by go_num, hide ⟨HC.out.trans HB.out fun _ h => .inl h, HNX.out⟩⟩
        case measure => simp [intOf]; omega
    · have hres : get F s.data.toList = none := by
        rw [HG.out, List.drop_eq_nil_of_le (by have := HN.out; omega)]
        rfl
      have hP : GetPost w Z (get F s.data.toList) (.returned (.tuple #[.slice none 0 0, .bool false])) wr := by
        rw [hres]
        exact ⟨_, _, _, rfl, By.nil _, .inl rfl, HC.out⟩
      have HP := hide hP
      clear hP hres
      go_wp2
      go_ret2
      exact HP.out
end Go.Proofs.Ytdghkmpcjjmlfaa
