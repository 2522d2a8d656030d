/- A disk that is struck, beside one that is not, plainly. -/
import Derived.Test.YthcakinkioniaabLawPrefix
namespace Go.Proofs.Ythcakinkioniaab
open Go.RowKit

theorem woken_seen (s : Dk) : s.woken.seen = s.seen := rfl
/-- Two disks that answer alike. -/
structure Like (t s : Dk) : Prop where
  down : t.down = s.down
  seen : t.seen = s.seen
  used : t.used = s.used
  room : t.room = s.room
def Chosen (s : Dk) (f : Dk → Nat × Dk) : Prop := (∃ d, ∀ t, Like t s → f t = t.perf d) ∨ ∃ r, r ≠ 0 ∧ r ≠ 22 ∧ ∀ t, Like t s → f t = (r, t)
theorem write_chosen {s : Dk} (hd : s.down = false) (k : List UInt8) (a : Int) (b : List UInt8) : Chosen s fun t => t.write k a b := by
  by_cases hk : okN k = true
  · rcases hg : get s.seen k with _ | o
    · by_cases h1 : a = 0
      · by_cases h2 : 4096 ≤ s.seen.length
        · exact .inr ⟨7, by simp, by simp, fun t ht => by simp [Dk.write, ht.down, ht.seen, hd, rdy_on, hk, hg, h1, h2]⟩
        · by_cases h3 : s.room < s.used + b.length
          · exact .inr ⟨7, by simp, by simp, fun t ht => by simp [Dk.write, ht.down, ht.seen, ht.used, ht.room, hd, rdy_on, hk, hg, h1, h2, h3]⟩
          · exact .inl ⟨_, fun t ht => by simp [Dk.write, ht.down, ht.seen, ht.used, ht.room, hd, rdy_on, hk, hg, h1, h2, h3]; rfl⟩
      · exact .inr ⟨21, by simp, by simp, fun t ht => by simp [Dk.write, ht.down, ht.seen, hd, rdy_on, hk, hg, h1]⟩
    · by_cases h1 : a < 0 ∨ (o.length : Int) < a
      · exact .inr ⟨1, by simp, by simp, fun t ht => by simp [Dk.write, ht.down, ht.seen, hd, rdy_on, hk, hg, h1]⟩
      · by_cases h3 : s.room < s.used + b.length
        · exact .inr ⟨7, by simp, by simp, fun t ht => by simp [Dk.write, ht.down, ht.seen, ht.used, ht.room, hd, rdy_on, hk, hg, h1, h3]⟩
        · exact .inl ⟨_, fun t ht => by simp [Dk.write, ht.down, ht.seen, ht.used, ht.room, hd, rdy_on, hk, hg, h1, h3]; rfl⟩
  · exact .inr ⟨20, by simp, by simp, fun t ht => by simp [Dk.write, ht.down, hd, rdy_on, hk]⟩
theorem trim_chosen {s : Dk} (hd : s.down = false) (k : List UInt8) (a : Int) : Chosen s fun t => t.trim k a := by
  by_cases hk : okN k = true
  · rcases hg : get s.seen k with _ | o
    · exact .inr ⟨21, by simp, by simp, fun t ht => by simp [Dk.trim, ht.down, ht.seen, hd, rdy_on, hk, hg]⟩
    · by_cases h1 : a < 0 ∨ (o.length : Int) < a
      · exact .inr ⟨1, by simp, by simp, fun t ht => by simp [Dk.trim, ht.down, ht.seen, hd, rdy_on, hk, hg, h1]⟩
      · exact .inl ⟨_, fun t ht => by simp [Dk.trim, ht.down, ht.seen, hd, rdy_on, hk, hg, h1]; rfl⟩
  · exact .inr ⟨20, by simp, by simp, fun t ht => by simp [Dk.trim, ht.down, hd, rdy_on, hk]⟩
theorem move_chosen {s : Dk} (hd : s.down = false) (k x : List UInt8) : Chosen s fun t => t.move k x := by
  by_cases hk : okN k = true
  · rcases hg : get s.seen k with _ | o
    · exact .inr ⟨21, by simp, by simp, fun t ht => by simp [Dk.move, ht.down, ht.seen, hd, rdy_on, hk, hg]⟩
    · by_cases h1 : okN x = true
      · exact .inl ⟨_, fun t ht => by simp [Dk.move, ht.down, ht.seen, hd, rdy_on, hk, hg, h1]; rfl⟩
      · exact .inr ⟨20, by simp, by simp, fun t ht => by simp [Dk.move, ht.down, ht.seen, hd, rdy_on, hk, hg, h1]⟩
  · exact .inr ⟨20, by simp, by simp, fun t ht => by simp [Dk.move, ht.down, hd, rdy_on, hk]⟩
theorem drop_chosen {s : Dk} (hd : s.down = false) (k : List UInt8) : Chosen s fun t => t.drop k := by
  by_cases hk : okN k = true
  · rcases hg : get s.seen k with _ | o
    · exact .inr ⟨21, by simp, by simp, fun t ht => by simp [Dk.drop, ht.down, ht.seen, hd, rdy_on, hk, hg]⟩
    · exact .inl ⟨_, fun t ht => by simp [Dk.drop, ht.down, ht.seen, hd, rdy_on, hk, hg]; rfl⟩
  · exact .inr ⟨20, by simp, by simp, fun t ht => by simp [Dk.drop, ht.down, hd, rdy_on, hk]⟩
theorem step_chosen {s : Dk} (hd : s.down = false) {x : Rec} (hk : kind x.op < 6) : Chosen s fun t => t.step x := by
  by_cases h3 : kind x.op = 3
  · have e : (fun t : Dk => t.step x) = fun t => t.trim x.name.data.toList x.at_ := by funext t; simp [Dk.step, Dk.doer, h3]
    rw [e]
    exact trim_chosen hd _ _
  by_cases h4 : kind x.op = 4
  · have e : (fun t : Dk => t.step x) = fun t => t.move x.name.data.toList x.to.data.toList := by funext t; simp [Dk.step, Dk.doer, h4]
    rw [e]
    exact move_chosen hd _ _
  by_cases h5 : kind x.op = 5
  · have e : (fun t : Dk => t.step x) = fun t => t.drop x.name.data.toList := by funext t; simp [Dk.step, Dk.doer, h5]
    rw [e]
    exact drop_chosen hd _
  have h6 : kind x.op ≠ 6 := by omega
  have h7 : kind x.op ≠ 7 := by omega
  have h8 : kind x.op ≠ 8 := by omega
  have h9 : kind x.op ≠ 9 := by omega
  have e : (fun t : Dk => t.step x) = fun t => t.write x.name.data.toList x.at_ x.b := by funext t; simp [Dk.step, Dk.doer, h3, h4, h5, h6, h7, h8, h9]
  rw [e]
  exact write_chosen hd _ _ _
theorem like_refl (s : Dk) : Like s s := ⟨rfl, rfl, rfl, rfl⟩
theorem like_woken {s : Dk} (hd : s.down = false) : Like s.woken s := ⟨by rw [hd]; rfl, rfl, rfl, rfl⟩
theorem step_woken {s : Dk} (hd : s.down = false) {x : Rec} (hk : kind x.op < 6) : (∃ d, s.woken.step x = (0, s.woken.act d) ∧ s.step x = s.perf d) ∨ ∃ r, r ≠ 0 ∧ r ≠ 22 ∧ s.woken.step x = (r, s.woken) ∧ s.step x = (r, s) := by
  rcases step_chosen hd hk with ⟨d, h⟩ | ⟨r, h1, h2, h⟩
  · exact .inl ⟨d, (h _ (like_woken hd)).trans (perf_zero rfl d), h _ (like_refl s)⟩
  · exact .inr ⟨r, h1, h2, h _ (like_woken hd), h _ (like_refl s)⟩
theorem step_sync {s : Dk} {x : Rec} (hk : kind x.op = 6) : s.step x = s.sync := by
  unfold Dk.step Dk.doer
  rw [hk]
  rfl
theorem act_woken (s : Dk) (d : Deed) : (s.act d).woken = s.woken.act d := rfl
theorem clean_woken (s : Dk) (n : Nat) : (s.clean n).woken = s.woken.clean 0 := rfl
theorem fall_last {s t : Dk} (hl : s.last = t.last) (ha : s.acts = t.acts) (keep tear : Int) : (s.fall keep tear).start.seen = (t.fall keep tear).start.seen := by
  show settleF s.last s.acts _ _ = settleF t.last t.acts _ _
  rw [hl, ha]
end Go.Proofs.Ythcakinkioniaab
