/- A disk of one's own beside what else is one's own. -/
import Derived.Test.YtdghkmpcjjmlfaaDPlain2
namespace Go.Proofs.Ytdghkmpcjjmlfaa
open Go.RowKit

/-- As Own1; the blocks in K are none of the disk's. -/
def OwnK (w0 : World) (K : Nat → Prop) (g : Nat) (st : Dk) (w : World) : Prop := ∃ S C, DiskIs w S C g st ∧ (∀ i, S i → w0.heap.size ≤ i ∧ ¬ K i) ∧ (∀ i, K i → i < w.heap.size) ∧ Below w0.heap.size w0 w

section
variable {w0 w : World} {K : Nat → Prop} {g : Nat} {st : Dk}
theorem Own1.keep (h : Own1 w0 g st w) : OwnK w0 (fun _ => False) g st w := by
  obtain ⟨S, C, h1, h2, h3⟩ := h
  exact ⟨S, C, h1, fun i hi => ⟨h2 i hi, fun h => h⟩, fun i h => h.elim, h3⟩
theorem OwnK.own (h : OwnK w0 K g st w) : Own1 w0 g st w := by
  obtain ⟨S, C, h1, h2, h3, h4⟩ := h
  exact ⟨S, C, h1, fun i hi => (h2 i hi).1, h4⟩
theorem OwnK.chg {w' : World} (h : OwnK w0 K g st w) (hc : Chg w w' (fun _ => False)) : OwnK w0 K g st w' := by
  obtain ⟨S, C, h1, h2, h3, h4⟩ := h
  exact ⟨S, C, h1.chg hc (fun _ _ h => h) (fun _ _ h => h), h2, fun i hi => Nat.lt_of_lt_of_le (h3 i hi) hc.size, Chg.to_below h4 hc fun _ h => h.elim⟩
/-- What is new is none of the disk's. -/
theorem OwnK.more {w' : World} (h : OwnK w0 K g st w) (hc : Chg w w' (fun _ => False)) : OwnK w0 (fun i => K i ∨ (w.heap.size ≤ i ∧ i < w'.heap.size)) g st w' := by
  obtain ⟨S, C, h1, h2, h3, h4⟩ := h
  refine ⟨S, C, h1.chg hc (fun _ _ h => h) (fun _ _ h => h), fun i hi => ⟨(h2 i hi).1, fun hk => ?_⟩, fun i hi => ?_, Chg.to_below h4 hc fun _ h => h.elim⟩
  · rcases hk with hk | hk
    · exact (h2 i hi).2 hk
    · have := h1.sap i hi
      omega
  · rcases hi with hi | hi
    · exact Nat.lt_of_lt_of_le (h3 i hi) hc.size
    · exact hi.2
/-- Behind a call. -/
def KPost (w0 w : World) (K : Nat → Prop) (g : Nat) (st' : Dk) (w' : World) : Prop := OwnK w0 K g st' w' ∧ Chg w w' (fun i => ¬ K i)
theorem OwnK.post {w' : World} {S C : Nat → Prop} {st' : Dk} (h2 : ∀ i, S i → w0.heap.size ≤ i ∧ ¬ K i) (h3 : ∀ i, K i → i < w.heap.size) (h4 : Below w0.heap.size w0 w) (h : DPost w S C g st' w') : KPost w0 w K g st' w' := by
  obtain ⟨S', C', k1, k2, k3, k4⟩ := h
  have hs := k2.size
  refine ⟨⟨S', C', k1, fun i hi => ?_, fun i hi => Nat.lt_of_lt_of_le (h3 i hi) hs, Chg.to_below h4 k2 fun i hi => (h2 i hi).1⟩, k2.mono fun i hi => (h2 i hi).2⟩
  rcases k3 i hi with h | h
  · exact h2 i h
  · have := h4.size
    exact ⟨by omega, fun hk => by have := h3 i hk; omega⟩

theorem write_K (h : OwnK w0 K g st w) (hq : st.Calm) {s : ByteArray} (hs : s.size ≤ maxLen) {at_ : Int} (ha : at_ ≤ 9223372036854775807) (ha' : -9223372036854775808 ≤ at_) {v : Value} {b : List UInt8} (hb : By w v b) (hbl : b.length ≤ 140737488355328) :
    Calls Try.prog 22 #[.pointer (some ⟨g, 0, none⟩), .string s, .int .i64 at_, v] w fun e w' => e = .returned (.int .i64 ((st.write s.data.toList at_ b).1 : Nat)) ∧ KPost w0 w K g (st.write s.data.toList at_ b).2 w' := by
  obtain ⟨S, C, h1, h2, h3, h4⟩ := h
  exact (write_any h1 hs ha ha' hb hbl hq.few hq.k1 hq.k2 hq.t1 hq.t2).mono fun e w' hp => ⟨hp.1, OwnK.post h2 h3 h4 hp.2⟩
theorem move_K (h : OwnK w0 K g st w) (hq : st.Calm) {s t : ByteArray} (hs : s.size ≤ maxLen) (ht : t.size ≤ maxLen) :
    Calls Try.prog 27 #[.pointer (some ⟨g, 0, none⟩), .string s, .string t] w fun e w' => e = .returned (.int .i64 ((st.move s.data.toList t.data.toList).1 : Nat)) ∧ KPost w0 w K g (st.move s.data.toList t.data.toList).2 w' := by
  obtain ⟨S, C, h1, h2, h3, h4⟩ := h
  exact (move_call h1 hs ht hq.few hq.k1 hq.k2 hq.t1 hq.t2).mono fun e w' hp => ⟨hp.1, OwnK.post h2 h3 h4 hp.2⟩
theorem crash_K (h : OwnK w0 K g st w) {keep tear : Int} (hk : keep ≤ 9223372036854775807) (hk' : -9223372036854775808 ≤ keep) (ht : tear ≤ 9223372036854775807) (ht' : -9223372036854775808 ≤ tear) :
    Calls Try.prog 24 #[.pointer (some ⟨g, 0, none⟩), .int .i64 keep, .int .i64 tear] w fun e w' => e = .returned (.int .i64 ((st.crash keep tear).1 : Nat)) ∧ KPost w0 w K g (st.crash keep tear).2 w' := by
  obtain ⟨S, C, h1, h2, h3, h4⟩ := h
  exact (crash_call h1 hk hk' ht ht').mono fun e w' hp => ⟨hp.1, OwnK.post h2 h3 h4 hp.2⟩
theorem start_K (h : OwnK w0 K g st w) :
    Calls Try.prog 25 #[.pointer (some ⟨g, 0, none⟩)] w fun e w' => e = .returned (.int .i64 (0 : Nat)) ∧ KPost w0 w K g st.start w' := by
  obtain ⟨S, C, h1, h2, h3, h4⟩ := h
  exact (start_call h1).mono fun e w' hp => ⟨hp.1, OwnK.post h2 h3 h4 hp.2⟩
theorem read_K (h : OwnK w0 K g st w) {s : ByteArray} (hs : s.size ≤ maxLen) :
    Calls Try.prog 19 #[.pointer (some ⟨g, 0, none⟩), .string s] w fun e w' => ∃ v, e = .returned (.tuple #[v, .int .i64 (st.readE s.data.toList : Nat)]) ∧ w'.ownsRow w.heap.size 5 1 v (st.readB s.data.toList).length ((st.readB s.data.toList).map bv) ∧ Chg w w' (fun _ => False) := by
  obtain ⟨S, C, h1, h2, h3, h4⟩ := h
  refine (read_call h1 hs).mono fun e w' hp => ?_
  obtain ⟨v, he, hr, hb⟩ := hp
  exact ⟨v, he, hr, Chg.of_below hb _⟩
theorem list_K (h : OwnK w0 K g st w) :
    Calls Try.prog 41 #[.pointer (some ⟨g, 0, none⟩)] w fun e w' => ∃ v, e = .returned v ∧ w'.ownsRow w.heap.size 9 1 v st.names.length (st.names.map encStr) ∧ Chg w w' (fun _ => False) := by
  obtain ⟨S, C, h1, h2, h3, h4⟩ := h
  refine (list_call h1).mono fun e w' hp => ?_
  obtain ⟨v, he, hr, hb⟩ := hp
  exact ⟨v, he, hr, Chg.of_below hb _⟩
/-- A row in K stays. -/
theorem By.kept {w w' : World} {B n : Nat} {v : Value} {b : List UInt8} {K : Nat → Prop} (h : w.ownsRow B 5 1 v n (b.map bv)) (hc : Chg w w' (fun i => ¬ K i)) (hK : ∀ i, v.ownBlock = some i → K i) : By w' v b :=
  (by_row (row_mono h)).chg hc (.inr fun k hk h => h (hK k hk))
end
theorem row_sl {w : World} {B n s : Nat} {e : TypeId} {v : Value} {xs : List Value} (h : w.ownsRow B e s v n xs) : ∃ q c, v = .slice q n c := by
  rcases h.2 with ⟨rfl, h2⟩ | ⟨g, cap, cur, rfl, _⟩
  · exact ⟨none, 0, by rw [h2]⟩
  · exact ⟨_, _, rfl⟩
end Go.Proofs.Ytdghkmpcjjmlfaa
