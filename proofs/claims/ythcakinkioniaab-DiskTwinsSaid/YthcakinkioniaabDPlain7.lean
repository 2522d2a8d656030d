/- An act changes no files but those that it names, plainly. -/
import Derived.Test.YthcakinkioniaabDPlain6
namespace Go.Proofs.Ythcakinkioniaab
open Go.RowKit

def Framed (k t : List UInt8) (d : Deed) : Prop := ∀ F n, n ≠ k → n ≠ t → get (d.run F 0) n = get F n
theorem framed_put (k t : List UInt8) (a : Nat) (b : List UInt8) : Framed k t (.put k a b) := fun F n h _ => by
  show get (Go.Proofs.Ythcakinkioniaab.put F k _) n = _
  rw [get_put, if_neg (fun e => h e.symm)]
theorem framed_trim (k t : List UInt8) (m : Nat) : Framed k t (.trim k m) := fun F n h _ => by
  show get (Go.Proofs.Ythcakinkioniaab.put F k _) n = _
  rw [get_put, if_neg (fun e => h e.symm)]
theorem framed_drop (k t : List UInt8) : Framed k t (.drop k) := fun F n h _ => by
  show get (del F k) n = _
  rw [get_del, if_neg (fun e => h e.symm)]
theorem framed_move (k t : List UInt8) : Framed k t (.move k t) := fun F n h h2 => by
  show get (Go.Proofs.Ythcakinkioniaab.put (del F k) t _) n = _
  rw [get_put, if_neg (fun e => h2 e.symm), get_del, if_neg (fun e => h e.symm)]
def FramedCall (s : Dk) (k t : List UInt8) (r : Nat × Dk) : Prop := (∃ d, Framed k t d ∧ r = (0, s.act d)) ∨ r.2 = s
theorem write_framed {s : Dk} (hf : s.fn = 0) (k t : List UInt8) (a : Int) (b : List UInt8) : FramedCall s k t (s.write k a b) := by
  unfold Dk.write
  split
  · exact .inr rfl
  · split
    · split
      · exact .inr rfl
      · split
        · exact .inr rfl
        · split
          · exact .inr rfl
          · rw [perf_zero hf]
            exact .inl ⟨_, framed_put _ _ _ _, rfl⟩
    · split
      · exact .inr rfl
      · split
        · exact .inr rfl
        · rw [perf_zero hf]
          exact .inl ⟨_, framed_put _ _ _ _, rfl⟩
theorem step_framed {s : Dk} (hf : s.fn = 0) {x : Rec} (hk : kind x.op < 6) (t : List UInt8) (ht : kind x.op = 4 → t = x.to.data.toList) : FramedCall s x.name.data.toList t (s.step x) := by
  unfold Dk.step Dk.doer
  split
  · unfold Dk.trim
    split
    · exact .inr rfl
    · split
      · exact .inr rfl
      · split
        · exact .inr rfl
        · rw [perf_zero hf]
          exact .inl ⟨_, framed_trim _ _ _, rfl⟩
  · split
    · rename_i h4
      have e4 := ht (beq_iff_eq.1 h4)
      subst e4
      unfold Dk.move
      split
      · exact .inr rfl
      · split
        · exact .inr rfl
        · split
          · exact .inr rfl
          · rw [perf_zero hf]
            exact .inl ⟨_, framed_move _ _, rfl⟩
    · split
      · unfold Dk.drop
        split
        · exact .inr rfl
        · split
          · exact .inr rfl
          · rw [perf_zero hf]
            exact .inl ⟨_, framed_drop _ _, rfl⟩
      · rw [if_neg (by simp; omega), if_neg (by simp; omega), if_neg (by simp; omega), if_neg (by simp; omega)]
        exact write_framed hf _ _ _ _
/-- Of a file that is not named nothing is seen to change. -/
theorem framed_read {s s' : Dk} {k t : List UInt8} {r : Nat} (h : FramedCall s k t (r, s')) {n : List UInt8} (h1 : n ≠ k) (h2 : n ≠ t) : s'.readE n = s.readE n ∧ s'.readB n = s.readB n := by
  rcases h with ⟨d, hd, e⟩ | e
  · have e2 : s' = s.act d := congrArg Prod.snd e
    have hg : get s'.seen n = get s.seen n := by
      rw [e2, act_seen]
      exact hd _ _ h1 h2
    have hdn : s'.down = s.down := by rw [e2]; rfl
    unfold Dk.readE Dk.readB
    rw [hdn, hg]
    exact ⟨rfl, rfl⟩
  · have e : s' = s := e
    rw [e]
    exact ⟨rfl, rfl⟩
end Go.Proofs.Ythcakinkioniaab
