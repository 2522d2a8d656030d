/- What calls mean to one another, plainly. -/
import Derived.Test.YtdghkmpcjjmlfaaDMade
namespace Go.Proofs.Ytdghkmpcjjmlfaa
open Go.RowKit

/-- On, and nothing armed. -/
def Dk.woken (st : Dk) : Dk := { st with down := false, fn := 0, keep := 0, tear := 0 }
theorem woken_eq (st : Dk) : st.start.arm 0 0 0 = (0, st.woken) := rfl
theorem Dk.CalmN.woken {st : Dk} {i : Nat} (h : st.CalmN i) : st.woken.CalmN i := ⟨i64_zero, i64_zero, h.few⟩
theorem made_calm {w : World} {p : Option Addr} {len cap : Nat} {l : List Rec} (h : Dos w p len cap l) (hs : isShort l = true) (r : Nat) : (plays (Dk.new r) l).CalmN 120 := by
  have h1 := plays_calm (new_calm r) (l := l) (fun i x hi => by
    obtain ⟨g, o, _, hx⟩ := h.at_ (by have := (List.getElem?_eq_some_iff.1 hi).1; have := h.len_; omega)
    obtain ⟨_, _, _, hr⟩ := hx i x hi
    exact ⟨hr.is_.h5, hr.is_.h6⟩) l.length (Nat.le_refl _)
  rw [List.take_length] at h1
  refine h1.mono ?_
  unfold isShort at hs
  simp only [Bool.and_eq_true, decide_eq_true_eq] at hs
  exact hs.1

theorem perf_zero {s : Dk} (hf : s.fn = 0) (d : Deed) : s.perf d = (0, s.act d) := by
  unfold Dk.perf
  rw [if_neg (by omega)]
theorem act_seen (s : Dk) (d : Deed) : (s.act d).seen = d.run s.seen 0 := runs_snoc _ _ _

theorem rdy_on {k : List UInt8} : rdy false k = if okN k then 0 else 20 := rfl

theorem move_refused {s : Dk} (hd : s.down = false) {k t : List UInt8} (h : s.readE k ≠ 0) : s.move k t = (s.readE k, s) := by
  unfold Dk.readE at h ⊢
  unfold Dk.move
  rw [hd] at h ⊢
  by_cases hr : rdy false k ≠ 0
  · rw [if_pos hr, if_pos hr]
  · rw [if_neg hr] at h ⊢
    rw [if_neg hr]
    rcases hg : get s.seen k with _ | o
    · rfl
    · rw [hg] at h
      simp at h
theorem move_named {s : Dk} (hd : s.down = false) {k t : List UInt8} (h : s.readE k = 0) (ht : okN t = false) : s.move k t = (20, s) ∧ s.readE t = 20 := by
  unfold Dk.readE at h ⊢
  unfold Dk.move
  rw [hd] at h ⊢
  by_cases hr : rdy false k ≠ 0
  · rw [if_pos hr] at h
    exact absurd h hr
  · rw [if_neg hr] at h ⊢
    rcases hg : get s.seen k with _ | o
    · rw [hg] at h
      simp at h
    · refine ⟨by simp [ht], ?_⟩
      rw [rdy_on, ht]
      rfl
theorem read_some {s : Dk} (hd : s.down = false) {k : List UInt8} (h : s.readE k = 0) : okN k = true ∧ ∃ o, get s.seen k = some o ∧ s.readB k = o := by
  unfold Dk.readE at h
  rw [hd, rdy_on] at h
  have hk : okN k = true := by
    by_cases hk : okN k = true
    · exact hk
    · rw [if_neg hk] at h
      simp at h
  rw [hk] at h
  simp at h
  obtain ⟨o, ho⟩ := Option.ne_none_iff_exists'.1 h
  refine ⟨hk, o, ho, ?_⟩
  unfold Dk.readB
  rw [hd, rdy_on, hk]
  simp [ho]
theorem read_of {s : Dk} (hd : s.down = false) {k o : List UInt8} (hk : okN k = true) (h : get s.seen k = some o) : s.readE k = 0 ∧ s.readB k = o := by
  unfold Dk.readE Dk.readB
  rw [hd, rdy_on, hk, h]
  simp
theorem read_none {s : Dk} (hd : s.down = false) {k : List UInt8} (hk : okN k = true) (h : get s.seen k = none) : s.readE k = 21 := by
  unfold Dk.readE
  rw [hd, rdy_on, hk, h]
  simp
theorem names_len {s : Dk} (hd : s.down = false) : s.names.length = s.seen.length := by
  unfold Dk.names
  rw [hd]
  simp
/-- A file that is moved. -/
theorem move_done {s : Dk} (ok : s.Ok) (hd : s.down = false) (hf : s.fn = 0) {k t : List UInt8} (h : s.readE k = 0) (ht : okN t = true) :
    (s.move k t).1 = 0 ∧ (s.move k t).2.readE t = 0 ∧ (s.move k t).2.readB t = s.readB k ∧ (k = t ∨ (s.move k t).2.readE k = 21) ∧ ((s.readE t = 0 ∧ k ≠ t) ↔ (s.move k t).2.names.length + 1 = s.names.length) := by
  obtain ⟨hk, o, ho, hb⟩ := read_some hd h
  have e : s.move k t = (0, s.act (.move k t)) := by
    unfold Dk.move
    rw [hd, rdy_on, hk, ho]
    simp [ht, perf_zero hf]
  rw [e]
  have hs : (s.act (.move k t)).seen = put (del s.seen k) t o := by
    rw [act_seen]
    show put (del s.seen k) t ((get s.seen k).getD []) = _
    rw [ho]
    rfl
  have hd' : (s.act (.move k t)).down = false := hd
  have hre : Rises s.seen := runs_rises ok.rises s.acts
  have hl1 := length_del hre k
  rw [ho] at hl1
  have hl2 := length_put (hre.del k) t o
  obtain ⟨r1, r2⟩ := read_of hd' ht (o := o) (by rw [hs, get_put, if_pos rfl])
  refine ⟨rfl, r1, by rw [hb]; exact r2, ?_, ?_⟩
  · by_cases hkt : k = t
    · exact .inl hkt
    · refine .inr (read_none hd' hk ?_)
      rw [hs, get_put, if_neg (fun h => hkt h.symm), get_del, if_pos rfl]
  · rw [names_len hd, names_len hd', hs, hl2, get_del]
    simp at hl1
    by_cases hkt : k = t
    · subst hkt
      rw [if_pos rfl]
      simp
      omega
    · rw [if_neg hkt]
      rcases hg : get s.seen t with _ | o2
      · have := read_none hd ht hg
        rw [this]
        simp
        omega
      · have := (read_of hd ht hg).1
        rw [this]
        simp [hkt]
        omega
end Go.Proofs.Ytdghkmpcjjmlfaa
