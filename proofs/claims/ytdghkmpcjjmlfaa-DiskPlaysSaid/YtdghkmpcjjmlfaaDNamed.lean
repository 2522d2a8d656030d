/- All files have names that may be. -/
import Derived.Test.YtdghkmpcjjmlfaaDPlain3
import Derived.Test.YtdghkmpcjjmlfaaDClone
namespace Go.Proofs.Ytdghkmpcjjmlfaa
open Go.RowKit

def AllOk (F : Fl) : Prop := ∀ p ∈ F, okN p.1 = true
def Deed.named : Deed → Prop
  | .put k _ _ => okN k = true
  | .trim k _ => okN k = true
  | .move _ t => okN t = true
  | .drop _ => True
theorem AllOk.del {F : Fl} (h : AllOk F) (k : List UInt8) : AllOk (del F k) := fun p hp => h p (List.mem_filter.1 hp).1
theorem AllOk.put {F : Fl} (h : AllOk F) {k : List UInt8} (hk : okN k = true) (b : List UInt8) : AllOk (put F k b) := fun p hp => by
  rcases mem_lay hp with rfl | hp
  · exact hk
  · exact h.del k p hp
theorem AllOk.run {F : Fl} (h : AllOk F) {d : Deed} (hd : d.named) (t : Nat) : AllOk (d.run F t) := by
  cases d with
  | put k a b => exact h.put hd _
  | trim k n => exact h.put hd _
  | move k s => exact (h.del _).put hd _
  | drop k => exact h.del _
theorem AllOk.runs {F : Fl} (h : AllOk F) {ds : List Deed} (hd : ∀ d ∈ ds, d.named) : AllOk (runs F ds) := by
  unfold Go.Proofs.Ytdghkmpcjjmlfaa.runs
  induction ds generalizing F with
  | nil => exact h
  | cons d r ih => exact ih (h.run (hd d (List.mem_cons_self ..)) 0) fun e he => hd e (List.mem_cons_of_mem _ he)
structure Dk.Named (st : Dk) : Prop where
  last : AllOk st.last
  acts : ∀ d ∈ st.acts, d.named
theorem Dk.Named.seen {st : Dk} (h : st.Named) : AllOk st.seen := h.last.runs h.acts
theorem Dk.Named.settle {st : Dk} (h : st.Named) (K T : Nat) : AllOk (settleF st.last st.acts K T) := by
  unfold settleF
  split
  · exact h.last
  · split
    · rename_i d hd
      exact (h.last.runs fun e he => h.acts e (List.mem_of_mem_take he)).run (h.acts d (List.mem_of_getElem? hd)) _
    · exact h.last
theorem Dk.Named.fall {st : Dk} (h : st.Named) (keep tear : Int) : (st.fall keep tear).Named := ⟨h.settle _ _, fun d hd => by simp [Dk.fall] at hd⟩
theorem Dk.Named.clean {st : Dk} (h : st.Named) (n : Nat) : (st.clean n).Named := ⟨h.seen, fun d hd => by simp [Dk.clean] at hd⟩
theorem Dk.Named.perf {st : Dk} (h : st.Named) {d : Deed} (hd : d.named) : (st.perf d).2.Named := by
  have ha : (st.act d).Named := ⟨h.last, fun e he => by
    rcases List.mem_append.1 he with he | he
    · exact h.acts e he
    · rw [List.mem_singleton.1 he]
      exact hd⟩
  unfold Dk.perf
  split
  · exact ha.fall _ _
  · exact ha
theorem rdy_okN {d : Bool} {k : List UInt8} (h : ¬ rdy d k ≠ 0) : okN k = true := by
  unfold rdy at h
  by_cases hd : d = true
  · rw [hd] at h; simp at h
  · rw [if_neg hd] at h
    by_cases hk : okN k = true
    · exact hk
    · rw [if_neg hk] at h; simp at h
theorem Dk.Named.write {st : Dk} (h : st.Named) (k : List UInt8) (a : Int) (b : List UInt8) : (st.write k a b).2.Named := by
  unfold Dk.write
  split
  · exact h
  · rename_i hr
    have hk := rdy_okN hr
    split
    · split
      · exact h
      · split
        · exact h
        · split
          · exact h
          · exact h.perf hk
    · split
      · exact h
      · split
        · exact h
        · exact h.perf hk
theorem Dk.Named.trim {st : Dk} (h : st.Named) (k : List UInt8) (a : Int) : (st.trim k a).2.Named := by
  unfold Dk.trim
  split
  · exact h
  · rename_i hr
    have hk := rdy_okN hr
    split
    · exact h
    · split
      · exact h
      · exact h.perf hk
theorem Dk.Named.move {st : Dk} (h : st.Named) (k t : List UInt8) : (st.move k t).2.Named := by
  unfold Dk.move
  split
  · exact h
  · split
    · exact h
    · split
      · exact h
      · rename_i ht
        exact h.perf (by simpa [Deed.named] using ht)
theorem Dk.Named.drop {st : Dk} (h : st.Named) (k : List UInt8) : (st.drop k).2.Named := by
  unfold Dk.drop
  split
  · exact h
  · split
    · exact h
    · exact h.perf trivial
theorem Dk.Named.sync {st : Dk} (h : st.Named) : st.sync.2.Named := by
  unfold Dk.sync
  split
  · exact h
  · split
    · exact h.fall _ _
    · exact h.clean _
theorem Dk.Named.arm {st : Dk} (h : st.Named) (n keep tear : Int) : (st.arm n keep tear).2.Named := by
  unfold Dk.arm
  split
  · exact h
  · exact ⟨h.last, h.acts⟩
theorem Dk.Named.crash {st : Dk} (h : st.Named) (keep tear : Int) : (st.crash keep tear).2.Named := by
  unfold Dk.crash
  split
  · exact h
  · exact h.fall _ _
theorem Dk.Named.start {st : Dk} (h : st.Named) : st.start.Named := ⟨h.last, h.acts⟩
theorem Dk.Named.woken {st : Dk} (h : st.Named) : st.woken.Named := ⟨h.last, h.acts⟩
theorem Dk.Named.step {st : Dk} (h : st.Named) (x : Rec) : (st.step x).2.Named := by
  unfold Dk.step Dk.doer
  split
  · exact h.trim _ _
  · split
    · exact h.move _ _
    · split
      · exact h.drop _
      · split
        · exact h.sync
        · split
          · exact h.arm _ _ _
          · split
            · exact h.crash _ _
            · split
              · exact h.start
              · exact h.write _ _ _
theorem new_named (r : Nat) : (Dk.new r).Named := ⟨fun p hp => by simp [Dk.new] at hp, fun d hd => by simp [Dk.new] at hd⟩
theorem plays_named {st : Dk} (h : st.Named) (l : List Rec) : (plays st l).Named := by
  unfold plays
  induction l generalizing st with
  | nil => exact h
  | cons x r ih => exact ih (h.step x)
theorem names_okN {st : Dk} (h : st.Named) {k : List UInt8} (hk : k ∈ st.names) : okN k = true := by
  unfold Dk.names at hk
  split at hk
  · cases hk
  · obtain ⟨p, hp, rfl⟩ := List.mem_map.1 hk
    exact h.seen p hp
theorem okN_len {k : List UInt8} (h : okN k = true) : k.length ≤ 32 := by
  unfold okN at h
  simp only [Bool.and_eq_true, decide_eq_true_eq] at h
  omega

/-- Two disks apart from one another. -/
def Two (w0 w : World) (g1 : Nat) (s1 : Dk) (g2 : Nat) (s2 : Dk) : Prop := ∃ S1 C1 S2 C2, DiskIs w S1 C1 g1 s1 ∧ DiskIs w S2 C2 g2 s2 ∧ (∀ i, S1 i → w0.heap.size ≤ i ∧ ¬ S2 i ∧ ¬ C2 i) ∧ (∀ i, S2 i → w0.heap.size ≤ i ∧ ¬ S1 i ∧ ¬ C1 i) ∧ Below w0.heap.size w0 w
section
variable {w0 w : World} {g1 g2 : Nat} {s1 s2 : Dk}
theorem Two.swap (h : Two w0 w g1 s1 g2 s2) : Two w0 w g2 s2 g1 s1 := by
  obtain ⟨S1, C1, S2, C2, h1, h2, h3, h4, h5⟩ := h
  exact ⟨S2, C2, S1, C1, h2, h1, h4, h3, h5⟩
theorem Two.below (h : Two w0 w g1 s1 g2 s2) : Below w0.heap.size w0 w := by
  obtain ⟨S1, C1, S2, C2, h1, h2, h3, h4, h5⟩ := h
  exact h5
theorem Two.one (h : Two w0 w g1 s1 g2 s2) : Own1 w0 g1 s1 w := by
  obtain ⟨S1, C1, S2, C2, h1, h2, h3, h4, h5⟩ := h
  exact ⟨S1, C1, h1, fun i hi => (h3 i hi).1, h5⟩
theorem Two.chg {w' : World} (h : Two w0 w g1 s1 g2 s2) (hc : Chg w w' (fun _ => False)) : Two w0 w' g1 s1 g2 s2 := by
  obtain ⟨S1, C1, S2, C2, h1, h2, h3, h4, h5⟩ := h
  exact ⟨S1, C1, S2, C2, h1.chg hc (fun _ _ h => h) (fun _ _ h => h), h2.chg hc (fun _ _ h => h) (fun _ _ h => h), h3, h4, Chg.to_below h5 hc fun _ h => h.elim⟩
/-- A call of the first. -/
theorem Two.call {f : Nat} {args : Array Value} {r : Nat} {s1' : Dk} (h : Two w0 w g1 s1 g2 s2)
    (hcall : ∀ S C, DiskIs w S C g1 s1 → Calls Try.prog f args w fun e w' => e = .returned (.int .i64 (r : Nat)) ∧ DPost w S C g1 s1' w') :
    Calls Try.prog f args w fun e w' => e = .returned (.int .i64 (r : Nat)) ∧ Two w0 w' g1 s1' g2 s2 := by
  obtain ⟨S1, C1, S2, C2, h1, h2, h3, h4, h5⟩ := h
  refine (hcall S1 C1 h1).mono ?_
  rintro e w' ⟨he, S', C', k1, k2, k3, k4⟩
  have hs := h5.size
  refine ⟨he, S', C', S2, C2, k1, h2.chg k2 (fun i hi hj => (h4 i hi).2.1 hj) (fun i hi hj => (h3 i hj).2.2 hi), fun i hi => ?_, fun i hi => ⟨(h4 i hi).1, fun hj => ?_, fun hj => ?_⟩, Chg.to_below h5 k2 fun i hi => (h3 i hi).1⟩
  · rcases k3 i hi with hi | hi
    · exact h3 i hi
    · exact ⟨by omega, fun hj => by have := h2.sap i hj; omega, fun hj => by have := h2.cap i hj; omega⟩
  · rcases k3 i hj with hj | hj
    · exact (h4 i hi).2.1 hj
    · have := h2.sap i hi; omega
  · rcases k4 i hj with hj | hj
    · exact (h4 i hi).2.2 hj
    · have := h2.sap i hi; omega
end
end Go.Proofs.Ytdghkmpcjjmlfaa
