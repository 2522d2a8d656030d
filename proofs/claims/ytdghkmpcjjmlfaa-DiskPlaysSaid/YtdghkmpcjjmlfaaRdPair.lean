/- A disk and the document's, side by side. -/
import Derived.Test.YtdghkmpcjjmlfaaRdCalls
import Derived.Test.YtdghkmpcjjmlfaaDDoes2
import Derived.Test.YtdghkmpcjjmlfaaDAwake
import Derived.Test.YtdghkmpcjjmlfaaDDos
namespace Go.Proofs.Ytdghkmpcjjmlfaa
set_option linter.unusedVariables false
set_option linter.unusedSimpArgs false
open Go.RowKit

/-- The program's disk g is s, the document's x is t; K is kept by their calls, M (of K) may be changed by others. -/
def Pr (w0 w : World) (K M : Nat → Prop) (g : Nat) (s : Dk) (x : Nat) (t : Dk) : Prop :=
  ∃ S C Z R, DiskIs w S C g s ∧ RdIs w Z R x t ∧ (∀ i, S i → Z i) ∧ (∀ i, M i → Z i ∧ K i) ∧ (∀ i, K i → ¬ S i ∧ ¬ C i ∧ ¬ R i ∧ i < w.heap.size) ∧ (∀ i, S i → w0.heap.size ≤ i) ∧ (∀ i, R i → w0.heap.size ≤ i ∧ ¬ C i) ∧ Below w0.heap.size w0 w
section
variable {w0 w : World} {K M : Nat → Prop} {g x : Nat} {s t : Dk}
theorem Pr.below (h : Pr w0 w K M g s x t) : Below w0.heap.size w0 w := by
  obtain ⟨S, C, Z, R, _, _, _, _, _, _, _, h⟩ := h
  exact h
theorem Pr.lt (h : Pr w0 w K M g s x t) : ∀ i, K i → i < w.heap.size := by
  obtain ⟨S, C, Z, R, _, _, _, _, h, _⟩ := h
  exact fun i hi => (h i hi).2.2.2
theorem Pr.at (h : Pr w0 w K M g s x t) {w' : World} (hc : Chg w w' (fun _ => False)) : Pr w0 w' K M g s x t := by
  obtain ⟨S, C, Z, R, h1, h2, h3, h4, h5, h6, h7, h8⟩ := h
  exact ⟨S, C, Z, R, h1.chg hc (fun _ _ h => h) (fun _ _ h => h), h2.at hc, h3, h4, fun i hi => ⟨(h5 i hi).1, (h5 i hi).2.1, (h5 i hi).2.2.1, Nat.lt_of_lt_of_le (h5 i hi).2.2.2 hc.size⟩, h6, h7, Chg.to_below h8 hc fun _ h => h.elim⟩
/-- What is new is kept from now on, and may be changed. -/
theorem Pr.new (h : Pr w0 w K M g s x t) {w' : World} (hc : Chg w w' (fun _ => False)) {N : Nat → Prop} (hN : ∀ i, N i → w.heap.size ≤ i ∧ i < w'.heap.size) : Pr w0 w' (fun i => K i ∨ N i) (fun i => M i ∨ N i) g s x t := by
  obtain ⟨S, C, Z, R, h1, h2, h3, h4, h5, h6, h7, h8⟩ := h
  refine ⟨S, C, fun i => Z i ∨ N i, R, h1.chg hc (fun _ _ h => h) (fun _ _ h => h), h2.chg hc (fun _ h => h.elim) fun i hi => hi.imp id (hN i), fun i hi => .inl (h3 i hi), fun i hi => ?_, fun i hi => ?_, h6, h7, Chg.to_below h8 hc fun _ h => h.elim⟩
  · rcases hi with hi | hi
    · exact ⟨.inl (h4 i hi).1, .inl (h4 i hi).2⟩
    · exact ⟨.inr hi, .inr hi⟩
  · rcases hi with hi | hi
    · exact ⟨(h5 i hi).1, (h5 i hi).2.1, (h5 i hi).2.2.1, Nat.lt_of_lt_of_le (h5 i hi).2.2.2 hc.size⟩
    · obtain ⟨a, b⟩ := hN i hi
      exact ⟨fun h => by have := h1.sap i h; omega, fun h => by have := h1.cap i h; omega, fun h => by have := h2.rap i h; omega, b⟩
theorem Pr.mut (h : Pr w0 w K M g s x t) {w' : World} (hc : Chg w w' M) (hM : ∀ i, M i → w0.heap.size ≤ i) : Pr w0 w' K M g s x t := by
  obtain ⟨S, C, Z, R, h1, h2, h3, h4, h5, h6, h7, h8⟩ := h
  exact ⟨S, C, Z, R, h1.chg hc (fun i hi hm => (h5 i (h4 i hm).2).1 hi) (fun i hi hm => (h5 i (h4 i hm).2).2.1 hi), h2.chg hc (fun i hi => (h4 i hi).1) fun i hi => .inl hi, h3, h4, fun i hi => ⟨(h5 i hi).1, (h5 i hi).2.1, (h5 i hi).2.2.1, Nat.lt_of_lt_of_le (h5 i hi).2.2.2 hc.size⟩, h6, h7, Chg.to_below h8 hc hM⟩
theorem Pr.drop (h : Pr w0 w K M g s x t) : Pr w0 w (fun _ => False) (fun _ => False) g s x t := by
  obtain ⟨S, C, Z, R, h1, h2, h3, h4, h5, h6, h7, h8⟩ := h
  exact ⟨S, C, Z, R, h1, h2, h3, fun _ h => h.elim, fun _ h => h.elim, h6, h7, h8⟩
/-- A call of the program's disk. -/
theorem Pr.prog (h : Pr w0 w K M g s x t) : ∃ S C, DiskIs w S C g s ∧ ∀ s' w', DPost w S C g s' w' → Pr w0 w' K M g s' x t ∧ Chg w w' (fun i => ¬ K i ∧ w0.heap.size ≤ i) := by
  obtain ⟨S, C, Z, R, h1, h2, h3, h4, h5, h6, h7, h8⟩ := h
  refine ⟨S, C, h1, fun s' w' hp => ?_⟩
  obtain ⟨S', C', p1, p2, p3, p4⟩ := hp
  refine ⟨⟨S', C', fun i => Z i ∨ S' i, R, p1, h2.chg p2 h3 fun i hi => ?_, fun i hi => .inr hi, fun i hi => ⟨.inl (h4 i hi).1, (h4 i hi).2⟩, fun i hi => ?_, fun i hi => ?_, fun i hi => ⟨(h7 i hi).1, fun hc => ?_⟩, Chg.to_below h8 p2 h6⟩, p2.mono fun i hi => ⟨fun hk => (h5 i hk).1 hi, h6 i hi⟩⟩
  · rcases hi with hi | hi
    · exact .inl hi
    · rcases p3 i hi with h | h
      · exact .inl (h3 i h)
      · exact .inr ⟨h, p1.sap i hi⟩
  · obtain ⟨a, b, c, d⟩ := h5 i hi
    refine ⟨fun h => ?_, fun h => ?_, c, Nat.lt_of_lt_of_le d p2.size⟩
    · rcases p3 i h with h | h
      · exact a h
      · omega
    · rcases p4 i h with h | h
      · exact b h
      · omega
  · rcases p3 i hi with h | h
    · exact h6 i h
    · have := h8.size
      omega
  · rcases p4 i hc with h | h
    · exact (h7 i hi).2 h
    · have := h2.rap i hi
      omega
/-- A call of the document's. -/
theorem Pr.ref (h : Pr w0 w K M g s x t) : ∃ Z R, RdIs w Z R x t ∧ ∀ t' w', RPost w Z R x t' w' → Pr w0 w' K M g s x t' ∧ Chg w w' (fun i => ¬ K i ∧ w0.heap.size ≤ i) := by
  obtain ⟨S, C, Z, R, h1, h2, h3, h4, h5, h6, h7, h8⟩ := h
  refine ⟨Z, R, h2, fun t' w' hp => ?_⟩
  obtain ⟨R', p1, p2, p3⟩ := hp
  refine ⟨⟨S, C, Z, R', h1.chg p2 (fun i hi hr => h2.sep i hr (h3 i hi)) (fun i hi hr => (h7 i hr).2 hi), p1, h3, h4, fun i hi => ?_, h6, fun i hi => ?_, Chg.to_below h8 p2 fun i hi => (h7 i hi).1⟩, p2.mono fun i hi => ⟨fun hk => (h5 i hk).2.2.1 hi, (h7 i hi).1⟩⟩
  · obtain ⟨a, b, c, d⟩ := h5 i hi
    refine ⟨a, b, fun h => ?_, Nat.lt_of_lt_of_le d p2.size⟩
    rcases p3 i h with h | h
    · exact c h
    · omega
  · rcases p3 i hi with h | h
    · exact h7 i h
    · have := h8.size
      exact ⟨by omega, fun hc => by have := h1.cap i hc; omega⟩
theorem Pr.ok (h : Pr w0 w K M g s x t) : s.Ok := by
  obtain ⟨S, C, Z, R, h1, _⟩ := h
  exact h1.ok
end

/-- New, refused by both. -/
theorem newBad (w : World) {room : Int} (h : room < 0 ∨ 16777216 < room) : Calls Try.prog 4 #[.int .i64 room] w fun e w' => e = .returned (.tuple #[.pointer none, .int .i64 1]) ∧ w = w' := by
  rcases h with h | h
  · go_enter Try.func4, Try.ntmps4
    go_wp2
    go_ret2
    exact ⟨rfl, rfl⟩
  · have h0 : (room < 0) = False := eq_false (by omega)
    go_enter Try.func4, Try.ntmps4
    go_wp2
    go_ret2
    exact ⟨rfl, rfl⟩
theorem rnewBad (w : World) {room : Int} (h : room < 0 ∨ 16777216 < room) : Calls Try.prog 5 #[.int .i64 room] w fun e w' => e = .returned (.tuple #[.pointer none, .int .i64 1]) ∧ w = w' := by
  rcases h with h | h
  · go_enter Try.func5, Try.ntmps5
    go_wp2
    go_ret2
    exact ⟨rfl, rfl⟩
  · have h0 : (room < 0) = False := eq_false (by omega)
    go_enter Try.func5, Try.ntmps5
    go_wp2
    go_ret2
    exact ⟨rfl, rfl⟩
/-- New of both. -/
theorem rnew_any {w : World} {room : Nat} (h : room ≤ 16777216) {w0 : World} {g : Nat} {e0 : Ending} (hd : ∃ S, DiskIs w S (fun _ => False) g (Dk.new room) ∧ (∀ i, S i → w0.heap.size ≤ i) ∧ Below w0.heap.size w0 w) :
    Calls Try.prog 5 #[.int .i64 (room : Nat)] w fun e w' => ∃ x, e = .returned (.tuple #[.pointer (some ⟨x, 0, none⟩), .int .i64 0]) ∧ Pr w0 w' (fun _ => False) (fun _ => False) g (Dk.new room) x (Dk.new room) := by
  obtain ⟨S, h1, h2, h3⟩ := hd
  have hc := chgA w (.cells #[.int .i64 (room : Nat), .slice none 0 0, .slice none 0 0, .bool false, .int .i64 0, .int .i64 0, .int .i64 0] 60)
  have hsz : w0.heap.size ≤ w.heap.size := h3.size
  have hP : Pr w0 (w.alloc (.cells #[.int .i64 (room : Nat), .slice none 0 0, .slice none 0 0, .bool false, .int .i64 0, .int .i64 0, .int .i64 0] 60)) (fun _ => False) (fun _ => False) g (Dk.new room) w.heap.size (Dk.new room) := by
    refine ⟨S, fun _ => False, S, fun i => i = w.heap.size, h1.chg hc (fun _ _ h => h) (fun _ _ h => h), ⟨rfl, fun i hi => by subst hi; simp, fun i hi => Nat.lt_of_lt_of_le (h1.sap i hi) hc.size, fun i hi hs => by have := h1.sap i hs; omega, .slice none 0 0, .slice none 0 0, 0, 0, ?_, .inl rfl, Fil.nil _ _, ActR.nil _ _ _⟩, fun i hi => hi, fun _ h => h.elim, fun _ h => h.elim, h2, fun i hi => ⟨by omega, fun h => h⟩, Chg.to_below h3 hc fun _ h => h.elim⟩
    exact heap_alloc_new w _
  have HP := hide hP
  have hr : ¬ (room : Int) < 0 := by omega
  have hr2 : (room : Int) ≤ 16777216 := by omega
  clear hP hc h1 h2 h3
  go_enter Try.func5, Try.ntmps5
  go_wp2
  go_ret2
  exact ⟨_, rfl, HP.out⟩
end Go.Proofs.Ytdghkmpcjjmlfaa
