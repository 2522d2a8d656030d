/- Numbers' rows: the place of one, one deleted; a row that stays while others change. -/
import Derived.Test.YtiiollgipfggmaaMDel
import Derived.Test.YtiiollgipfggmaaNCln
import Derived.Lib.OwnBridge
namespace Go.Proofs.Ytiiollgipfggmaa
set_option linter.unusedVariables false
set_option linter.unusedSimpArgs false
open Go.RowKit

theorem idx_find (id : Int) : ∀ (l : List (Int × Ms)) (i : Nat), Lib.idxFrom (l.map (·.1)) id i = match l.findIdx? (fun y => y.1 == id) with | none => -1 | some k => ((i + k : Nat) : Int)
  | [], i => rfl
  | y :: r, i => by
    rw [List.map_cons, Lib.idxFrom, List.findIdx?_cons]
    by_cases h : y.1 = id
    · rw [if_pos h, if_pos (by simpa using h)]
      simp
    · rw [if_neg h, if_neg (by simpa using h), idx_find id r (i + 1)]
      cases r.findIdx? (fun y => y.1 == id) with
      | none => rfl
      | some k => show ((i + 1 + k : Nat) : Int) = ((i + (k + 1) : Nat) : Int); omega
theorem index_any {w : World} {v : Value} {l : List Int} (hv : Ns w v l) (x : Int) : Calls Try.prog 35 #[v, .int .i64 x] w fun e w' => e = .returned (.int .i64 (Lib.idxOf l x)) ∧ w = w' := by
  obtain ⟨p, n, c, rfl⟩ := hv.sl
  obtain ⟨hn, hc, hm⟩ := hv.len
  unfold maxLen at hm
  rcases Nat.eq_zero_or_pos n with h0 | h0
  · have hl0 : l = [] := List.eq_nil_of_length_eq_zero (by omega)
    subst hl0
    subst h0
    exact (Try.slices_Index_int_empty p c x w).mono fun e w' ⟨he, hw⟩ => ⟨he, hw.symm⟩
  · obtain ⟨g, o, rfl, hcl⟩ := hv.at_ h0
    refine (Try.slices_Index_int g o n c l x w (by omega) (by omega) fun j hj => ?_).mono fun e w' ⟨he, hw⟩ => ⟨?_, hw.symm⟩
    · rw [hcl j l[j] (List.getElem?_eq_getElem hj)]
      simp [List.getD, hj]
    · rw [he, List.take_of_length_le (by omega)]
theorem OwnN.form {B : Nat} {w : World} {p : Option Addr} {n c : Nat} {l : List Int} (h : OwnN B w (.slice p n c) l) (hn : 0 < l.length) : ∃ g, p = some ⟨g, 0, none⟩ ∧ n = l.length ∧ n ≤ c ∧ c ≤ maxLen ∧ B ≤ g := by
  rcases h.1.2 with ⟨e, h0⟩ | ⟨g, cap, cur, e, hB, hh, h1, h2, _⟩
  · omega
  · injection e with e1 e2 e3
    subst e1 e2 e3
    exact ⟨g, rfl, rfl, h1, h2, hB⟩
theorem OwnM.form {B : Nat} {w : World} {p : Option Addr} {n c : Nat} {l : List Mc} (h : OwnM B w (.slice p n c) l) (hn : 0 < l.length) : ∃ g, p = some ⟨g, 0, none⟩ ∧ n = l.length ∧ n ≤ c ∧ c ≤ maxLen ∧ B ≤ g := by
  rcases h.2 with ⟨e, h0⟩ | ⟨g, cap, cur, e, hB, hh, h1, h2, _⟩
  · omega
  · injection e with e1 e2 e3
    subst e1 e2 e3
    exact ⟨g, rfl, rfl, h1, h2, hB⟩
theorem deleteN_any {B : Nat} {w : World} {g cap : Nat} {l : List Int} (h : OwnN B w (.slice (some ⟨g, 0, none⟩) l.length cap) l) {k : Nat} (hk : k < l.length) :
    Calls Try.prog 38 #[.slice (some ⟨g, 0, none⟩) l.length cap, .int .i64 k, .int .i64 ((k : Int) + 1)] w fun e w' => e = .returned (.slice (some ⟨g, 0, none⟩) (l.length - 1) cap) ∧ OwnN B w' (.slice (some ⟨g, 0, none⟩) (l.length - 1) cap) (l.eraseIdx k) ∧ (∀ B0 w0, Below B0 w0 w → B0 ≤ g → Below B0 w0 w') := by
  obtain ⟨g', cap', e, hB, hlt, hcap, hm, hl, hH⟩ := Lib.holds_of_ownsRow (enc := Value.int .i64) h.1 (by simp)
  injection e with e1 _ e3
  injection e1 with e1
  injection e1 with e1
  subst e1 e3
  have hel : (l.eraseIdx k).length = l.length - 1 := List.length_eraseIdx_of_lt hk
  have hys : (l.take k ++ l.drop (k + 1) ++ List.replicate (k + 1 - k) 0).length = l.length := by
    simp only [List.length_append, List.length_take, List.length_drop, List.length_replicate]
    omega
  have htk : (l.take k ++ l.drop (k + 1) ++ List.replicate (k + 1 - k) 0).take (l.length - 1) = l.eraseIdx k := by
    rw [← List.eraseIdx_eq_take_drop_succ, List.take_append_of_le_length (by omega), List.take_of_length_le (by omega)]
  have h1 := Try.slices_Delete_int g 0 cap k (k + 1) l w hH hcap (by unfold maxLen at hm; omega) (by omega) (by omega)
  rw [show ((k + 1 : Nat) : Int) = (k : Int) + 1 by omega] at h1
  refine h1.mono fun e w' ⟨he, q, hw⟩ => ?_
  rw [show l.length - (k + 1 - k) = l.length - 1 by omega] at he
  have hr := Lib.ownsRow_putRow (q := q) (k := l.length - 1) h.1 hys (by omega)
  rw [htk, ← hw] at hr
  refine ⟨he, ⟨by rw [hel]; exact hr, fun x hx => h.2 x (List.mem_of_mem_eraseIdx hx)⟩, fun B0 w0 hb hg => ?_⟩
  rw [hw]
  exact Lib.below_putRow hb hg
theorem ownsRow_chgN {w w' : World} {B n z : Nat} {e : TypeId} {v : Value} {xs : List Value} {S : Nat → Prop} (h : w.ownsRow B e z v n xs) (hc : Chg w w' S) (hS : ∀ k, v.ownBlock = some k → ¬ S k) : w'.ownsRow B e z v n xs := by
  rcases h with ⟨h0, ⟨rfl, h1⟩ | ⟨g, cap, cur, rfl, hB, hh, r⟩⟩
  · exact ⟨h0, .inl ⟨rfl, h1⟩⟩
  · exact ⟨h0, .inr ⟨g, cap, cur, rfl, hB, (hc.block g (Array.getElem?_eq_some_iff.1 hh).1 (hS g rfl)).trans hh, r⟩⟩
theorem ownsRow_kind {w : World} {B n z : Nat} {e : TypeId} {v : Value} {xs : List Value} (h : w.ownsRow B e z v n xs) {k : Nat} (hk : v.ownBlock = some k) : ∃ cur, w.heap[k]? = some (.cells cur e (0, 0)) := by
  rcases h with ⟨h0, ⟨rfl, h1⟩ | ⟨g, cap, cur, rfl, hB, hh, r⟩⟩
  · cases hk
  · injection hk with hk
    subst hk
    exact ⟨cur, hh⟩
/-- Rows of unlike kinds lie in unlike blocks. -/
theorem kinds_apart {w : World} {B n z B' n' z' : Nat} {e e' : TypeId} {v v' : Value} {xs xs' : List Value} (h : w.ownsRow B e z v n xs) (h' : w.ownsRow B' e' z' v' n' xs') (hne : e ≠ e') {k : Nat} (hk : v.ownBlock = some k) : v'.ownBlock ≠ some k := fun hk' => by
  obtain ⟨c, h1⟩ := ownsRow_kind h hk
  obtain ⟨c', h2⟩ := ownsRow_kind h' hk'
  rw [h1] at h2
  injection h2 with h2
  injection h2 with _ h2
  exact hne h2
end Go.Proofs.Ytiiollgipfggmaa
