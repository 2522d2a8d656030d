/- A write that is torn, plainly. -/
import Derived.Test.YtdghkmpcjjmlfaaDConcat
namespace Go.Proofs.Ytdghkmpcjjmlfaa
open Go.RowKit

theorem sync_woken {s : Dk} (hd : s.down = false) (hf : s.fn = 0) : s.sync = (0, s.clean 0) := by
  unfold Dk.sync
  rw [if_neg (by rw [hd]; decide), if_neg (by omega), hf]
  rfl

theorem write_done {s : Dk} (hd : s.down = false) (hf : s.fn = 0) {k b : List UInt8} (h : (s.write k ((s.readB k).length : Nat) b).1 = 0) :
    okN k = true ∧ s.write k ((s.readB k).length : Nat) b = (0, s.act (.put k (s.readB k).length b)) ∧ s.readB k = (get s.seen k).getD [] := by
  by_cases hk : okN k = true
  · have hr : s.readB k = (get s.seen k).getD [] := by
      unfold Dk.readB
      rw [hd, rdy_on, hk]
      rfl
    refine ⟨hk, ?_, hr⟩
    unfold Dk.write at h ⊢
    rw [hd, rdy_on, hk] at h ⊢
    rw [if_neg (by simp)] at h ⊢
    rw [hr] at h ⊢
    rcases hg : get s.seen k with _ | o
    · rw [hg] at h
      simp only at h ⊢
      by_cases h1 : 4096 ≤ s.seen.length
      · rw [if_neg (by simp), if_pos h1] at h
        simp at h
      · rw [if_neg (by simp), if_neg h1] at h ⊢
        by_cases h2 : s.room < s.used + b.length
        · rw [if_pos h2] at h
          simp at h
        · rw [if_neg h2, perf_zero hf]
          rfl
    · rw [hg] at h
      simp only [Option.getD_some] at h ⊢
      rw [if_neg (by omega)] at h ⊢
      by_cases h2 : s.room < s.used + b.length
      · rw [if_pos h2] at h
        simp at h
      · rw [if_neg h2, perf_zero hf]
        rfl
  · exfalso
    unfold Dk.write at h
    rw [hd, rdy_on, if_neg hk] at h
    simp at h

theorem over_end (o m : List UInt8) : over o o.length m = o ++ m := by
  unfold over
  rw [List.take_length, List.drop_eq_nil_of_le (by omega), List.append_nil]

theorem readB_len {s : Dk} (ok : s.Ok) (k : List UInt8) : (s.readB k).length ≤ 16777216 := by
  have h1 := seen_get ok k
  have h2 := ok.room
  have h3 := ok.most
  unfold Dk.readB
  split
  · simp
  · omega

/-- What a torn write leaves. -/
theorem torn_done {s : Dk} (hd : s.down = false) (ha : s.acts = []) {k b : List UInt8} (hk : okN k = true) (hr : s.readB k = (get s.seen k).getD []) (tear : Int) :
    (((s.act (.put k (s.readB k).length b)).crash 1 tear).1 = 0) ∧ (((s.act (.put k (s.readB k).length b)).crash 1 tear).2.start.readE k = 0) ∧
      (((s.act (.put k (s.readB k).length b)).crash 1 tear).2.start.readB k = s.readB k ++ b.take (b.length - (max 0 (min tear (b.length : Int))).toNat)) := by
  have hd' : (s.act (.put k (s.readB k).length b)).down = false := hd
  have e1 : (s.act (.put k (s.readB k).length b)).crash 1 tear = (0, (s.act (.put k (s.readB k).length b)).fall 1 tear) := by
    unfold Dk.crash
    rw [if_neg (by rw [hd']; decide)]
  rw [e1]
  have hacts : (s.act (.put k (s.readB k).length b)).acts = [.put k (s.readB k).length b] := by
    show s.acts ++ [_] = _
    rw [ha]
    rfl
  have hseen : s.seen = s.last := by
    unfold Dk.seen
    rw [ha]
    rfl
  have hlast : ((s.act (.put k (s.readB k).length b)).fall 1 tear).last = put s.last k (s.readB k ++ b.take (b.length - (max 0 (min tear (b.length : Int))).toNat)) := by
    show settleF s.last (s.act (.put k (s.readB k).length b)).acts (min (max (1 : Int) 0).toNat (s.act (.put k (s.readB k).length b)).acts.length) (max tear 0).toNat = _
    rw [hacts]
    show settleF s.last [.put k (s.readB k).length b] 1 (max tear 0).toNat = _
    unfold settleF
    rw [if_neg (by omega)]
    show (Deed.put k (s.readB k).length b).run (runs s.last []) (min (max tear 0).toNat b.length) = _
    show put s.last k (over ((get s.last k).getD []) (s.readB k).length (b.take (b.length - min (max tear 0).toNat b.length))) = _
    rw [← hseen, ← hr, over_end]
    congr 3
    omega
  have hsn : ((s.act (.put k (s.readB k).length b)).fall 1 tear).start.seen = ((s.act (.put k (s.readB k).length b)).fall 1 tear).last := rfl
  obtain ⟨r1, r2⟩ := read_of (s := ((s.act (.put k (s.readB k).length b)).fall 1 tear).start) rfl hk (o := s.readB k ++ b.take (b.length - (max 0 (min tear (b.length : Int))).toNat)) (by rw [hsn, hlast, get_put, if_pos rfl])
  exact ⟨rfl, r1, r2⟩
end Go.Proofs.Ytdghkmpcjjmlfaa
