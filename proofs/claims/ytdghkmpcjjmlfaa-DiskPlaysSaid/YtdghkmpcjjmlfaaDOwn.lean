/- A disk of one's own. -/
import Derived.Test.YtdghkmpcjjmlfaaDNew
namespace Go.Proofs.Ytdghkmpcjjmlfaa
open Go.RowKit

/-- A disk that was made behind w0, and all that changed since is its own. -/
def Own1 (w0 : World) (g : Nat) (st : Dk) (w : World) : Prop := ∃ S C, DiskIs w S C g st ∧ (∀ i, S i → w0.heap.size ≤ i) ∧ Below w0.heap.size w0 w

section
variable {w0 w : World} {g : Nat} {st : Dk}
theorem Own1.below (h : Own1 w0 g st w) : Below w0.heap.size w0 w := by
  obtain ⟨S, C, h1, h2, h3⟩ := h
  exact h3
theorem Own1.ok (h : Own1 w0 g st w) : st.Ok := by
  obtain ⟨S, C, h1, h2, h3⟩ := h
  exact h1.ok
theorem Own1.chg {w' : World} (h : Own1 w0 g st w) (hc : Chg w w' (fun _ => False)) : Own1 w0 g st w' := by
  obtain ⟨S, C, h1, h2, h3⟩ := h
  exact ⟨S, C, h1.chg hc (fun _ _ h => h) (fun _ _ h => h), h2, Chg.to_below h3 hc fun _ h => h.elim⟩
theorem Own1.alloc (h : Own1 w0 g st w) (o : Obj) : Own1 w0 g st (w.alloc o) := h.chg (Chg.of_below (balloc (Below.refl _ _) o) _)
theorem Own1.drewN (h : Own1 w0 g st w) (n : Nat) : Own1 w0 g st (w.drewN n) := h.chg ((Chg.refl _ _).drewN n)
theorem Own1.post {w' : World} {S C : Nat → Prop} {st' : Dk} (hS : ∀ i, S i → w0.heap.size ≤ i) (hb : Below w0.heap.size w0 w) (h : DPost w S C g st' w') : Own1 w0 g st' w' := by
  obtain ⟨S', C', h1, h2, h3, h4⟩ := h
  refine ⟨S', C', h1, fun i hi => ?_, Chg.to_below hb h2 hS⟩
  rcases h3 i hi with h | h
  · exact hS i h
  · have := hb.size
    omega
theorem Own1.fresh {e : Ending} {w' : World} (h : Fresh w0 st e w') : ∃ g, e = .returned (.tuple #[.pointer (some ⟨g, 0, none⟩), .int .i64 0]) ∧ Own1 w0 g st w' := by
  obtain ⟨g, S, he, h1, h2, h3⟩ := h
  exact ⟨g, he, S, _, h1, h2, h3⟩

/-- The fuse's numbers are numbers. -/
structure Dk.Calm (st : Dk) : Prop where
  k1 : st.keep ≤ 9223372036854775807
  k2 : -9223372036854775808 ≤ st.keep
  t1 : st.tear ≤ 9223372036854775807
  t2 : -9223372036854775808 ≤ st.tear
  few : st.acts.length < 1000000

theorem write_own (h : Own1 w0 g st w) (hq : st.Calm) {s : ByteArray} (hs : s.size ≤ maxLen) {at_ : Int} (ha : at_ ≤ 9223372036854775807) (ha' : -9223372036854775808 ≤ at_) {v : Value} {b : List UInt8} (hb : By w v b) (hbl : b.length ≤ 140737488355328) :
    Calls Try.prog 22 #[.pointer (some ⟨g, 0, none⟩), .string s, .int .i64 at_, v] w fun e w' => e = .returned (.int .i64 ((st.write s.data.toList at_ b).1 : Nat)) ∧ Own1 w0 g (st.write s.data.toList at_ b).2 w' := by
  obtain ⟨S, C, h1, h2, h3⟩ := h
  exact (write_any h1 hs ha ha' hb hbl hq.few hq.k1 hq.k2 hq.t1 hq.t2).mono fun e w' hp => ⟨hp.1, Own1.post h2 h3 hp.2⟩
theorem trim_own (h : Own1 w0 g st w) (hq : st.Calm) {s : ByteArray} (hs : s.size ≤ maxLen) {n : Int} (ha : n ≤ 9223372036854775807) (ha' : -9223372036854775808 ≤ n) :
    Calls Try.prog 26 #[.pointer (some ⟨g, 0, none⟩), .string s, .int .i64 n] w fun e w' => e = .returned (.int .i64 ((st.trim s.data.toList n).1 : Nat)) ∧ Own1 w0 g (st.trim s.data.toList n).2 w' := by
  obtain ⟨S, C, h1, h2, h3⟩ := h
  exact (trim_call h1 hs ha ha' hq.few hq.k1 hq.k2 hq.t1 hq.t2).mono fun e w' hp => ⟨hp.1, Own1.post h2 h3 hp.2⟩
theorem move_own (h : Own1 w0 g st w) (hq : st.Calm) {s t : ByteArray} (hs : s.size ≤ maxLen) (ht : t.size ≤ maxLen) :
    Calls Try.prog 27 #[.pointer (some ⟨g, 0, none⟩), .string s, .string t] w fun e w' => e = .returned (.int .i64 ((st.move s.data.toList t.data.toList).1 : Nat)) ∧ Own1 w0 g (st.move s.data.toList t.data.toList).2 w' := by
  obtain ⟨S, C, h1, h2, h3⟩ := h
  exact (move_call h1 hs ht hq.few hq.k1 hq.k2 hq.t1 hq.t2).mono fun e w' hp => ⟨hp.1, Own1.post h2 h3 hp.2⟩
theorem drop_own (h : Own1 w0 g st w) (hq : st.Calm) {s : ByteArray} (hs : s.size ≤ maxLen) :
    Calls Try.prog 28 #[.pointer (some ⟨g, 0, none⟩), .string s] w fun e w' => e = .returned (.int .i64 ((st.drop s.data.toList).1 : Nat)) ∧ Own1 w0 g (st.drop s.data.toList).2 w' := by
  obtain ⟨S, C, h1, h2, h3⟩ := h
  exact (drop_call h1 hs hq.few hq.k1 hq.k2 hq.t1 hq.t2).mono fun e w' hp => ⟨hp.1, Own1.post h2 h3 hp.2⟩
theorem sync_own (h : Own1 w0 g st w) (hq : st.Calm) :
    Calls Try.prog 23 #[.pointer (some ⟨g, 0, none⟩)] w fun e w' => e = .returned (.int .i64 (st.sync.1 : Nat)) ∧ Own1 w0 g st.sync.2 w' := by
  obtain ⟨S, C, h1, h2, h3⟩ := h
  exact (sync_call h1 hq.k1 hq.k2 hq.t1 hq.t2).mono fun e w' hp => ⟨hp.1, Own1.post h2 h3 hp.2⟩
theorem arm_own (h : Own1 w0 g st w) {n keep tear : Int} (hn : n ≤ 9223372036854775807) (hn' : -9223372036854775808 ≤ n) :
    Calls Try.prog 29 #[.pointer (some ⟨g, 0, none⟩), .int .i64 n, .int .i64 keep, .int .i64 tear] w fun e w' => e = .returned (.int .i64 ((st.arm n keep tear).1 : Nat)) ∧ Own1 w0 g (st.arm n keep tear).2 w' := by
  obtain ⟨S, C, h1, h2, h3⟩ := h
  exact (arm_call h1 hn hn').mono fun e w' hp => ⟨hp.1, Own1.post h2 h3 hp.2⟩
theorem crash_own (h : Own1 w0 g st w) {keep tear : Int} (hk : keep ≤ 9223372036854775807) (hk' : -9223372036854775808 ≤ keep) (ht : tear ≤ 9223372036854775807) (ht' : -9223372036854775808 ≤ tear) :
    Calls Try.prog 24 #[.pointer (some ⟨g, 0, none⟩), .int .i64 keep, .int .i64 tear] w fun e w' => e = .returned (.int .i64 ((st.crash keep tear).1 : Nat)) ∧ Own1 w0 g (st.crash keep tear).2 w' := by
  obtain ⟨S, C, h1, h2, h3⟩ := h
  exact (crash_call h1 hk hk' ht ht').mono fun e w' hp => ⟨hp.1, Own1.post h2 h3 hp.2⟩
theorem start_own (h : Own1 w0 g st w) :
    Calls Try.prog 25 #[.pointer (some ⟨g, 0, none⟩)] w fun e w' => e = .returned (.int .i64 (0 : Nat)) ∧ Own1 w0 g st.start w' := by
  obtain ⟨S, C, h1, h2, h3⟩ := h
  exact (start_call h1).mono fun e w' hp => ⟨hp.1, Own1.post h2 h3 hp.2⟩
theorem read_own (h : Own1 w0 g st w) {s : ByteArray} (hs : s.size ≤ maxLen) :
    Calls Try.prog 19 #[.pointer (some ⟨g, 0, none⟩), .string s] w fun e w' => ∃ v, e = .returned (.tuple #[v, .int .i64 (st.readE s.data.toList : Nat)]) ∧ w'.ownsRow w.heap.size 5 1 v (st.readB s.data.toList).length ((st.readB s.data.toList).map bv) ∧ Chg w w' (fun _ => False) ∧ Own1 w0 g st w' := by
  have h' := h
  obtain ⟨S, C, h1, h2, h3⟩ := h
  refine (read_call h1 hs).mono fun e w' hp => ?_
  obtain ⟨v, he, hr, hb⟩ := hp
  exact ⟨v, he, hr, Chg.of_below hb _, h'.chg (Chg.of_below hb _)⟩
theorem list_own (h : Own1 w0 g st w) :
    Calls Try.prog 41 #[.pointer (some ⟨g, 0, none⟩)] w fun e w' => ∃ v, e = .returned v ∧ w'.ownsRow w.heap.size 9 1 v st.names.length (st.names.map encStr) ∧ Chg w w' (fun _ => False) ∧ Own1 w0 g st w' := by
  have h' := h
  obtain ⟨S, C, h1, h2, h3⟩ := h
  refine (list_call h1).mono fun e w' hp => ?_
  obtain ⟨v, he, hr, hb⟩ := hp
  exact ⟨v, he, hr, Chg.of_below hb _, h'.chg (Chg.of_below hb _)⟩
end
end Go.Proofs.Ytdghkmpcjjmlfaa
