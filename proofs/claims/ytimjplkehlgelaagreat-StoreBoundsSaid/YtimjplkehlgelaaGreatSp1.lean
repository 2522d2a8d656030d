/- Words on bytes and numbers, out of several texts made one. -/
import Derived.Shelf.SlicesQ.Equal
import Derived.Shelf.SlMaps.Clone
import Derived.Test.YtimjplkehlgelaaGreatShelf
import Derived.Test.YtimjplkehlgelaaGreatSpPure
import Derived.Test.YtimjplkehlgelaaGreatScan
import Derived.Maps.AppendAt
import Derived.Laws.OwnMore
import Derived.WalkLawsBesides
import Derived.Deep.LoopGhost
import Derived.Laws.StructEq
/- The shelf's contracts of generic functions are laid in the shelf's own text here. -/
/- Spans in memory: one as a value, many as a slice. -/
namespace Go.Proofs.YtimjplkehlgelaaGreat
set_option linter.unusedVariables false
set_option linter.unusedSimpArgs false
open Go.RowKit

/-- A span's cells, and the span as a value. -/
def spC (x : Sp) : List Value := [.int .i64 x.t, .int .i64 x.i, .int .i64 x.p, .int .i64 x.s, .int .i64 x.e, .string x.n]
def spV (x : Sp) : Value := .agg #[.int .i64 x.t, .int .i64 x.i, .int .i64 x.p, .int .i64 x.s, .int .i64 x.e, .string x.n]
theorem spV_eq (x : Sp) : spV x = .agg (spC x).toArray := rfl
theorem spC_length (x : Sp) : (spC x).length = 6 := rfl
theorem spC_one (x : Sp) : ∀ v ∈ spC x, v.oneCell' = true := by
  intro v hv
  simp only [spC, List.mem_cons, List.not_mem_nil, or_false] at hv
  rcases hv with rfl | rfl | rfl | rfl | rfl | rfl <;> rfl
theorem spC_inj {x y : Sp} (h : spC x = spC y) : x = y := by
  obtain ⟨a, b, c, d, e, f⟩ := x
  obtain ⟨a', b', c', d', e', f'⟩ := y
  simp only [spC, List.cons.injEq, Value.int.injEq, Value.string.injEq, true_and, and_true] at h
  obtain ⟨rfl, rfl, rfl, rfl, rfl, rfl⟩ := h
  rfl

theorem flat_len (l : List Sp) : (l.flatMap spC).length = l.length * 6 := by
  induction l with
  | nil => rfl
  | cons x r ih => rw [List.flatMap_cons, List.length_append, ih, spC_length, List.length_cons]; omega
theorem flat_at : ∀ (l : List Sp) (i k : Nat) {x : Sp}, l[i]? = some x → k < 6 → (l.flatMap spC)[i * 6 + k]? = (spC x)[k]?
  | [], i, k, x, h, _ => by simp at h
  | y :: r, 0, k, x, h, hk => by
    simp only [List.getElem?_cons_zero, Option.some.injEq] at h
    subst h
    rw [List.flatMap_cons, Nat.zero_mul, Nat.zero_add, List.getElem?_append_left (by rw [spC_length]; exact hk)]
  | y :: r, i + 1, k, x, h, hk => by
    rw [List.getElem?_cons_succ] at h
    rw [List.flatMap_cons, List.getElem?_append_right (by rw [spC_length]; omega), spC_length, show (i + 1) * 6 + k - 6 = i * 6 + k by omega]
    exact flat_at r i k h hk

/-- A span's cells at a place. -/
def SpAt (w : World) (g o : Nat) (x : Sp) : Prop := ∀ (k : Nat) u, (spC x)[k]? = some u → w.cell? ⟨g, o + k, none⟩ = some u
theorem SpAt.c0 {w : World} {g o : Nat} {x : Sp} (h : SpAt w g o x) : w.cell? ⟨g, o, none⟩ = some (.int .i64 x.t) := h 0 _ rfl
theorem SpAt.c1 {w : World} {g o : Nat} {x : Sp} (h : SpAt w g o x) : w.cell? ⟨g, o + 1, none⟩ = some (.int .i64 x.i) := h 1 _ rfl
theorem SpAt.c2 {w : World} {g o : Nat} {x : Sp} (h : SpAt w g o x) : w.cell? ⟨g, o + 2, none⟩ = some (.int .i64 x.p) := h 2 _ rfl
theorem SpAt.c3 {w : World} {g o : Nat} {x : Sp} (h : SpAt w g o x) : w.cell? ⟨g, o + 3, none⟩ = some (.int .i64 x.s) := h 3 _ rfl
theorem SpAt.c4 {w : World} {g o : Nat} {x : Sp} (h : SpAt w g o x) : w.cell? ⟨g, o + 4, none⟩ = some (.int .i64 x.e) := h 4 _ rfl
theorem SpAt.c5 {w : World} {g o : Nat} {x : Sp} (h : SpAt w g o x) : w.cell? ⟨g, o + 5, none⟩ = some (.string x.n) := h 5 _ rfl
theorem SpAt.lt {w : World} {g o : Nat} {x : Sp} (h : SpAt w g o x) : g < w.heap.size := lt_of_cell h.c0
theorem SpAt.below {w w' : World} {g o : Nat} {x : Sp} (h : SpAt w g o x) (hb : Below w.heap.size w w') : SpAt w' g o x := fun k u hk => (hb.cell (lt_of_cell (h k u hk))).trans (h k u hk)
theorem SpAt.grown {w w' : World} {g o : Nat} {x : Sp} {row : Option Nat} (h : SpAt w g o x) (hg : w.grownBy w' row) (hne : row ≠ some g) : SpAt w' g o x := fun k u hk => hg.cell (h k u hk) fun e => hne e.symm
theorem SpAt.drewN {w : World} {g o : Nat} {x : Sp} (h : SpAt w g o x) (n : Nat) : SpAt (w.drewN n) g o x := h
theorem SpAt.one {w : World} {g o : Nat} {x y : Sp} (h : SpAt w g o x) (h' : SpAt w g o y) : x = y := by
  obtain ⟨a, b, c, d, e, f⟩ := x
  obtain ⟨a', b', c', d', e', f'⟩ := y
  have q0 := h.c0.symm.trans h'.c0
  have q1 := h.c1.symm.trans h'.c1
  have q2 := h.c2.symm.trans h'.c2
  have q3 := h.c3.symm.trans h'.c3
  have q4 := h.c4.symm.trans h'.c4
  have q5 := h.c5.symm.trans h'.c5
  simp only [Option.some.injEq, Value.int.injEq, Value.string.injEq, true_and] at q0 q1 q2 q3 q4 q5
  subst q0 q1 q2 q3 q4 q5
  rfl

/-- The slice v reads as the spans l. -/
def Sps (w : World) (v : Value) (l : List Sp) : Prop :=
  ∃ (p : Option Addr) (cap : Nat), v = .slice p l.length cap ∧ l.length ≤ cap ∧ cap ≤ maxLen ∧ (p = none → cap = 0) ∧
    (0 < l.length → ∃ g o, p = some ⟨g, o, none⟩ ∧ ∀ (i : Nat) x, l[i]? = some x → SpAt w g (o + i * 6) x)
theorem Sps.nil (w : World) : Sps w (.slice none 0 0) [] := ⟨none, 0, rfl, Nat.le_refl _, by simp [maxLen], fun _ => rfl, fun h => absurd h (Nat.lt_irrefl _)⟩
theorem Sps.none_ (w : World) (p : Option Addr) (c : Nat) (hc : c ≤ maxLen) (hp : p = none → c = 0) : Sps w (.slice p 0 c) [] := ⟨p, c, rfl, Nat.zero_le _, hc, hp, fun h => absurd h (Nat.lt_irrefl _)⟩
theorem Sps.sl {w : World} {v : Value} {l : List Sp} (h : Sps w v l) : ∃ p n c, v = .slice p n c := by
  obtain ⟨p, c, e, _⟩ := h
  exact ⟨p, _, c, e⟩
theorem Sps.len {w : World} {p : Option Addr} {n c : Nat} {l : List Sp} (h : Sps w (.slice p n c) l) : n = l.length ∧ n ≤ c ∧ c ≤ maxLen := by
  obtain ⟨p', c', e, hl, hm, _⟩ := h
  injection e with _ e2 e3
  subst e2 e3
  exact ⟨rfl, hl, hm⟩
theorem Sps.at_ {w : World} {p : Option Addr} {n c : Nat} {l : List Sp} (h : Sps w (.slice p n c) l) (hn : 0 < n) : ∃ g o, p = some ⟨g, o, none⟩ ∧ ∀ (i : Nat) x, l[i]? = some x → SpAt w g (o + i * 6) x := by
  obtain ⟨p', c', e, _, _, _, hx⟩ := h
  injection e with e1 e2 e3
  subst e1 e2
  exact hx hn
theorem Sps.below {w w' : World} {v : Value} {l : List Sp} (h : Sps w v l) (hb : Below w.heap.size w w') : Sps w' v l := by
  obtain ⟨p, c, rfl, hl, hm, hn, hx⟩ := h
  refine ⟨p, c, rfl, hl, hm, hn, fun h0 => ?_⟩
  obtain ⟨g, o, e, hx⟩ := hx h0
  exact ⟨g, o, e, fun i x hi => (hx i x hi).below hb⟩
theorem Sps.grown {w w' : World} {v : Value} {l : List Sp} {row : Option Nat} (h : Sps w v l) (hg : w.grownBy w' row) (hne : l = [] ∨ ∀ k, v.ownBlock = some k → row ≠ some k) : Sps w' v l := by
  obtain ⟨p, c, rfl, hl, hm, hn, hx⟩ := h
  refine ⟨p, c, rfl, hl, hm, hn, fun h0 => ?_⟩
  obtain ⟨g, o, e, hx⟩ := hx h0
  refine ⟨g, o, e, fun i x hi => (hx i x hi).grown hg ?_⟩
  rcases hne with rfl | hne
  · simp at h0
  · exact hne g (by rw [e]; rfl)
theorem Sps.drewN {w : World} {v : Value} {l : List Sp} (h : Sps w v l) (n : Nat) : Sps (w.drewN n) v l := h
theorem Sps.one {w : World} {v : Value} {l m : List Sp} (h : Sps w v l) (h' : Sps w v m) : l = m := by
  obtain ⟨p, c, rfl, _, _, _, hx⟩ := h
  obtain ⟨p', c', e, _, _, _, hx'⟩ := h'
  injection e with e1 e2 e3
  subst e1
  apply List.ext_getElem? 
  intro i
  by_cases hi : i < l.length
  · have h0 : 0 < l.length := by omega
    obtain ⟨g, o, e, hx⟩ := hx h0
    obtain ⟨g', o', e', hx'⟩ := hx' (by omega)
    rw [e] at e'
    injection e' with e'
    injection e' with e1 e2
    subst e1 e2
    have hi' : i < m.length := by omega
    have q1 := List.getElem?_eq_getElem hi
    have q2 := List.getElem?_eq_getElem hi'
    rw [q1, q2, (hx i _ q1).one (hx' i _ q2)]
  · rw [List.getElem?_eq_none (by omega), List.getElem?_eq_none (by omega)]

/-- The slice v reads as the spans l, in a block of its own from B on; or it is nil. -/
def OwnS (B : Nat) (w : World) (v : Value) (l : List Sp) : Prop := w.ownsRow B 38 6 v l.length (l.flatMap spC)
theorem OwnS.nil (B : Nat) (w : World) : OwnS B w (.slice none 0 0) [] := World.ownsRow_nil _ _ _ _
theorem OwnS.sps {B : Nat} {w : World} {v : Value} {l : List Sp} (h : OwnS B w v l) : Sps w v l := by
  obtain ⟨hl, ⟨rfl, h0⟩ | ⟨g, cap, cur, rfl, hB, hh, hc, hm, hs, ht⟩⟩ := h
  · obtain rfl : l = [] := List.eq_nil_of_length_eq_zero h0
    exact Sps.nil w
  · refine ⟨_, cap, rfl, hc, hm, (fun e => by cases e), fun _ => ⟨g, 0, rfl, fun i x hi k u hk => ?_⟩⟩
    have hk6 : k < 6 := by
      have := (List.getElem?_eq_some_iff.1 hk).1
      rwa [spC_length] at this
    have hil := (List.getElem?_eq_some_iff.1 hi).1
    have h1 := flat_at l i k hi hk6
    rw [hk, ← ht, List.getElem?_take_of_lt (by omega), Array.getElem?_toList] at h1
    rw [cell_of_row w g (0 + i * 6 + k) cur _ (0, 0) hh, Nat.zero_add]
    exact h1
theorem OwnS.lt {B : Nat} {w : World} {v : Value} {l : List Sp} (h : OwnS B w v l) : ∀ k, v.ownBlock = some k → B ≤ k ∧ k < w.heap.size := World.ownsRow.lt h
theorem OwnS.below {B : Nat} {w w' : World} {v : Value} {l : List Sp} (h : OwnS B w v l) (hb : Below w.heap.size w w') : OwnS B w' v l := World.ownsRow.kept (row := none) h ⟨hb.os, hb.tape, hb.output, hb.size, fun k hk _ => hb.block k hk⟩ (by cases v.ownBlock <;> simp)
theorem OwnS.mono {B B' : Nat} {w : World} {v : Value} {l : List Sp} (h : OwnS B w v l) (hB : B' ≤ B) : OwnS B' w v l := ⟨h.1, h.2.imp id fun ⟨g, cap, cur, e, hb, r⟩ => ⟨g, cap, cur, e, Nat.le_trans hB hb, r⟩⟩
theorem OwnS.grown {B : Nat} {w w' : World} {v : Value} {l : List Sp} {row : Option Nat} (h : OwnS B w v l) (hg : w.grownBy w' row) (hne : v.ownBlock = none ∨ v.ownBlock ≠ row) : OwnS B w' v l := World.ownsRow.kept h hg hne
end Go.Proofs.YtimjplkehlgelaaGreat
/- Which span may be: the program's Check and the document's. -/
namespace Go.Proofs.YtimjplkehlgelaaGreat
set_option linter.unusedVariables false
set_option linter.unusedSimpArgs false
open Go.RowKit

set_option maxRecDepth 200000 in
set_option maxHeartbeats 400000 in
theorem between_int (a x b : Int) (w : World) : Calls Tryz.prog 90 #[.int .i64 a, .int .i64 x, .int .i64 b] w fun e w' => e = .returned (.bool (decide (a ≤ x) && decide (x ≤ b))) ∧ w' = w := by
  by_cases h : a ≤ x
  · go_enter Tryz.func90, Tryz.ntmps90
    go_wp2
    go_ret
    simp [h]
  · have h' : decide (a ≤ x) = false := decide_eq_false h
    rw [h', Bool.false_and]
    clear h'
    go_enter Tryz.func90, Tryz.ntmps90
    go_wp2
    go_ret
    exact ⟨rfl, rfl⟩

set_option maxRecDepth 200000 in
set_option maxHeartbeats 400000 in
theorem between_byte (a x b : Int) (w : World) : Calls Tryz.prog 91 #[.int .u8 a, .int .u8 x, .int .u8 b] w fun e w' => e = .returned (.bool (decide (a ≤ x) && decide (x ≤ b))) ∧ w' = w := by
  by_cases h : a ≤ x
  · go_enter Tryz.func91, Tryz.ntmps91
    go_wp2
    go_ret
    simp [h]
  · have h' : decide (a ≤ x) = false := decide_eq_false h
    rw [h', Bool.false_and]
    clear h'
    go_enter Tryz.func91, Tryz.ntmps91
    go_wp2
    go_ret
    exact ⟨rfl, rfl⟩

theorem between_q {a x b : Int} {r : Bool} (h : (decide (a ≤ x) && decide (x ≤ b)) = r) (w : World) : Calls Tryz.prog 90 #[.int .i64 a, .int .i64 x, .int .i64 b] w fun e w' => e = .returned (.bool r) ∧ w' = w :=
  (between_int a x b w).mono fun _ _ ⟨he, hw⟩ => ⟨by rw [he, h], hw⟩
theorem between_u {a x b : Int} {r : Bool} (h : (decide (a ≤ x) && decide (x ≤ b)) = r) (w : World) : Calls Tryz.prog 91 #[.int .u8 a, .int .u8 x, .int .u8 b] w fun e w' => e = .returned (.bool r) ∧ w' = w :=
  (between_byte a x b w).mono fun _ _ ⟨he, hw⟩ => ⟨by rw [he, h], hw⟩

set_option maxRecDepth 200000 in
set_option maxHeartbeats 1000000 in
theorem mayStand_any (x : Sp) (w : World) : Calls Tryz.prog 63 #[spV x] w fun e w' => e = .returned (.bool (okStand x)) ∧ Below w.heap.size w w' := by
  obtain ⟨t, i, p, s, e, n⟩ := x
  unfold spV okStand
  dsimp only
  obtain ⟨A, hA⟩ : ∃ A, (decide (1 ≤ t) && decide (t ≤ 1099511627776)) = A := ⟨_, rfl⟩
  obtain ⟨B, hB⟩ : ∃ A, (decide (1 ≤ i) && decide (i ≤ 1099511627776)) = A := ⟨_, rfl⟩
  obtain ⟨C, hC⟩ : ∃ A, (decide (0 ≤ p) && decide (p ≤ 1099511627776)) = A := ⟨_, rfl⟩
  rw [hA, hB, hC]
  cases A <;> cases B <;> cases C
  all_goals
    go_enter Tryz.func63, Tryz.ntmps63
    go_wp2_with (go_at_call 90; refine (between_int _ _ _ _).mono ?_; rintro e w' ⟨rfl, rfl⟩; first | rw [hA] | rw [hB] | rw [hC])
    go_ret
    exact ⟨by first | (simp; done) | (by_cases h : p = i <;> simp [h]), (Below.refl _ _).alloc (Nat.le_refl _) _⟩

set_option maxRecDepth 200000 in
set_option maxHeartbeats 1000000 in
theorem mayTake_any (x : Sp) (w : World) : Calls Tryz.prog 64 #[spV x] w fun e w' => e = .returned (.bool (okTake x)) ∧ Below w.heap.size w w' := by
  obtain ⟨t, i, p, s, e, n⟩ := x
  unfold spV okTake
  dsimp only
  obtain ⟨A, hA⟩ : ∃ A, (decide (0 ≤ s) && decide (s ≤ e)) = A := ⟨_, rfl⟩
  rw [hA]
  cases A
  all_goals
    go_enter Tryz.func64, Tryz.ntmps64
    go_wp2_with (go_at_call 90; refine (between_int _ _ _ _).mono ?_; rintro e w' ⟨rfl, rfl⟩; rw [hA])
    go_ret
    exact ⟨by simp, (Below.refl _ _).alloc (Nat.le_refl _) _⟩

theorem all_drop {l : List UInt8} {k : Nat} {y : UInt8} (h : l[k]? = some y) (p : UInt8 → Bool) : (l.drop k).all p = (p y && (l.drop (k + 1)).all p) := by
  have hk := (List.getElem?_eq_some_iff.1 h).1
  rw [List.drop_eq_getElem_cons hk, List.all_cons]
  rw [List.getElem?_eq_getElem hk] at h
  injection h with h
  rw [h]

set_option maxRecDepth 200000 in
set_option maxHeartbeats 1000000 in
theorem mayBeCalled_any (n : ByteArray) (hn : n.size ≤ 1000000) (w : World) : Calls Tryz.prog 65 #[.string n] w fun e w' => e = .returned (.bool (okName n.data.toList)) ∧ Below w.heap.size w w' := by
  obtain ⟨A, hA⟩ : ∃ A, (decide ((1 : Int) ≤ n.size) && decide ((n.size : Int) ≤ 32)) = A := ⟨_, rfl⟩
  have hl : n.data.toList.length = n.size := by rw [Array.length_toList]; rfl
  have hok : okName n.data.toList = (A && n.data.toList.all okByte) := by
    unfold okName
    rw [← hA, hl]
    congr 2
    · rw [decide_eq_decide]; omega
    · rw [decide_eq_decide]; omega
  rw [hok]
  clear hok
  cases A
  · go_enter Tryz.func65, Tryz.ntmps65
    go_wp2_with (go_at_call 90; refine (between_int _ _ _ _).mono ?_; rintro e w' ⟨rfl, rfl⟩; rw [hA])
    go_ret
    exact ⟨rfl, Below.refl _ _⟩
  · obtain ⟨q, w2, hcv, hby, hb2, hlt⟩ := conv_string w n hn
    obtain ⟨L, hL⟩ : ∃ L, n.data.toList = L := ⟨_, rfl⟩
    rw [hL] at hby hl ⊢
    have HBY := hide hby
    have HB := hide hb2
    have HL := hide hl
    clear hby hb2 hlt hl hL
    go_enter Tryz.func65, Tryz.ntmps65
    go_wp2_with (go_at_call 90; refine (between_int _ _ _ _).mono ?_; rintro e w' ⟨rfl, rfl⟩; rw [hA])
    clear hcv
    go_loop [4, 12] (fun _ i => ∃ k : Nat, k ≤ n.size ∧ i = .int .i64 k ∧ Hid ((L.drop k).all okByte = L.all okByte)) (fun _ i => n.size - (intOf i).toNat)
    case atStart => exact ⟨0, by omega, rfl, hide rfl⟩
    case round =>
      obtain ⟨k, hk, rfl, H⟩ := hrel
      by_cases hkm : (k : Int) < (n.size : Int)
      · obtain ⟨b2, o2, y, e2, hy, hcell⟩ := HBY.out.cellAt (k := k) (by omega)
        injection e2 with e2
        injection e2 with e2 e3
        subst e2 e3
        have hd := H.out
        rw [all_drop hy] at hd
        have HD := hide hd
        obtain ⟨Z, hZ⟩ : ∃ Z, (decide ((33 : Int) ≤ y.toNat) && decide ((y.toNat : Int) ≤ 126)) = Z := ⟨_, rfl⟩
        have hzy : okByte y = Z := by
          unfold okByte
          rw [← hZ]
          congr 1
          · rw [decide_eq_decide]; omega
          · rw [decide_eq_decide]; omega
        have HZ := hide hzy
        clear hy hd hzy H
        rw [Nat.zero_add] at hcell
        cases Z
        · go_wp2_with (go_at_call 91; refine (between_byte _ _ _ _).mono ?_; rintro e w' ⟨rfl, rfl⟩; rw [hZ])
          go_ret
          refine ⟨?_, HB.out⟩
          rw [← HD.out, HZ.out]
          rfl
        · go_wp2_with (go_at_call 91; refine (between_byte _ _ _ _).mono ?_; rintro e w' ⟨rfl, rfl⟩; rw [hZ])
          go_round
          case rel => exact ⟨k + 1, by omega, by go_num, hide (by rw [← HD.out, HZ.out, Bool.true_and])⟩
          case measure => simp [intOf]; omega
      · go_wp2
        go_ret
        refine ⟨?_, HB.out⟩
        have := H.out
        rw [List.drop_eq_nil_of_le (by have := HL.out; omega)] at this
        rw [← this]
        rfl

theorem spAt_new (w : World) (x : Sp) : SpAt (w.alloc (.cells #[.int .i64 x.t, .int .i64 x.i, .int .i64 x.p, .int .i64 x.s, .int .i64 x.e, .string x.n] 38)) w.heap.size 0 x := fun k u hk => by
  rw [cell_of_row _ w.heap.size (0 + k) _ 38 (0, 0) (heap_alloc_new w _), Nat.zero_add]
  simpa [spC] using hk
structure SpZ (w : World) (g : Nat) (t i p s e : Int) (n : ByteArray) : Prop where
  d0 : w.cell? ⟨g, 0, none⟩ = some (.int .i64 t)
  d1 : w.cell? ⟨g, 1, none⟩ = some (.int .i64 i)
  d2 : w.cell? ⟨g, 2, none⟩ = some (.int .i64 p)
  d3 : w.cell? ⟨g, 3, none⟩ = some (.int .i64 s)
  d4 : w.cell? ⟨g, 4, none⟩ = some (.int .i64 e)
  d5 : w.cell? ⟨g, 5, none⟩ = some (.string n)
theorem SpAt.z {w : World} {g : Nat} {x : Sp} (h : SpAt w g 0 x) : SpZ w g x.t x.i x.p x.s x.e x.n := ⟨h.c0, h.c1, h.c2, h.c3, h.c4, h.c5⟩

set_option maxRecDepth 200000 in
set_option maxHeartbeats 1000000 in
/-- span.Check. -/
theorem check_any (x : Sp) (hn : x.n.size ≤ 1000000) (w : World) : Calls Tryz.prog 34 #[spV x] w fun e w' => e = .returned (.int .i64 (if x.ok then 0 else 30)) ∧ Below w.heap.size w w' := by
  have h1 := mayStand_any x
  have h2 := mayTake_any x
  have h3 := mayBeCalled_any x.n hn
  obtain ⟨A, hA⟩ : ∃ A, okStand x = A := ⟨_, rfl⟩
  obtain ⟨B, hB⟩ : ∃ A, okTake x = A := ⟨_, rfl⟩
  obtain ⟨C, hC⟩ : ∃ A, okName x.n.data.toList = A := ⟨_, rfl⟩
  have hx : x.ok = (A && B && C) := by unfold Sp.ok Sp.nl; rw [hA, hB, hC]
  rw [hA] at h1
  rw [hB] at h2
  rw [hC] at h3
  rw [hx]
  clear hx hA hB hC
  have hnew := spAt_new w x
  obtain ⟨t, i, p, s, e, n⟩ := x
  unfold spV at *
  dsimp only at *
  have H1 := hide h1
  have H2 := hide h2
  have H3 := hide h3
  have HN := hide hnew
  obtain ⟨R, hR⟩ : ∃ R : Int, (if (A && B && C) = true then 0 else 30) = R := ⟨_, rfl⟩
  rw [hR]
  have HR := hide hR
  clear h1 h2 h3 hnew hR
  cases A
  · go_enter Tryz.func34, Tryz.ntmps34
    go_wp2_with fail
    refine (H1.out _).mono ?_
    rintro e1 w1 ⟨rfl, hb1⟩
    have HB1 := hide (((Below.refl w.heap.size w).alloc (Nat.le_refl _) _).trans (hb1.mono (by simp)))
    clear hb1
    go_wp2
    go_ret
    exact ⟨by rw [← HR.out]; rfl, HB1.out⟩
  · go_enter Tryz.func34, Tryz.ntmps34
    go_wp2_with fail
    refine (H1.out _).mono ?_
    rintro e1 w1 ⟨rfl, hb1⟩
    obtain ⟨d0, d1, d2, d3, d4, d5⟩ := (HN.out.below hb1).z
    have HS1 := hide (HN.out.below hb1)
    have HB1 := hide (((Below.refl w.heap.size w).alloc (Nat.le_refl _) _).trans (hb1.mono (by simp)))
    clear hb1
    dsimp only at d0 d1 d2 d3 d4 d5
    go_wp2_with fail
    refine (H2.out _).mono ?_
    rintro e2 w2 ⟨rfl, hb2⟩
    obtain ⟨f0, f1, f2, f3, f4, f5⟩ := (HS1.out.below hb2).z
    have HB2 := hide (HB1.out.trans (hb2.mono HB1.out.size))
    clear hb2 d0 d1 d2 d3 d4 d5
    dsimp only at f0 f1 f2 f3 f4 f5
    cases B
    · go_wp2
      go_ret
      exact ⟨by rw [← HR.out]; rfl, HB2.out⟩
    · go_wp2_with fail
      refine (H3.out _).mono ?_
      rintro e3 w3 ⟨rfl, hb3⟩
      have HB3 := hide (HB2.out.trans (hb3.mono HB2.out.size))
      clear hb3
      cases C
      all_goals
        go_wp2
        go_ret
        exact ⟨by rw [← HR.out]; rfl, HB3.out⟩
end Go.Proofs.YtimjplkehlgelaaGreat
/- Which span may be: the document's Check. -/
namespace Go.Proofs.YtimjplkehlgelaaGreat
set_option linter.unusedVariables false
set_option linter.unusedSimpArgs false
open Go.RowKit

theorem str_none (n : ByteArray) : n.toList = [] ↔ ¬ 1 ≤ n.size := by
  have hl : n.data.toList.length = n.size := by rw [Array.length_toList]; rfl
  rw [ByteArray.toList_eq, ← hl]
  cases n.data.toList <;> simp

set_option maxRecDepth 200000 in
set_option maxHeartbeats 4000000 in
/-- The document's Check. -/
theorem refCheck_any (x : Sp) (hn : x.n.size ≤ 1000000) (w : World) : Calls Tryz.prog 37 #[spV x] w fun e w' => e = .returned (.int .i64 (if x.ok then 0 else 30)) ∧ Below w.heap.size w w' := by
  obtain ⟨X, hX⟩ : ∃ X, x.ok = X := ⟨_, rfl⟩
  have HX : Hid ((x.ok = true ↔ x.Ok) ∧ x.ok = X) := hide ⟨Sp.ok_iff x, hX⟩
  rw [hX]
  clear hX
  obtain ⟨R, hR⟩ : ∃ R : Int, (if X = true then 0 else 30) = R := ⟨_, rfl⟩
  rw [hR]
  have HR := hide hR
  clear hR
  have hnew := spAt_new w x
  obtain ⟨t, i, p, s, e, n⟩ := x
  have hl : n.data.toList.length = n.size := by rw [Array.length_toList]; rfl
  obtain ⟨L, hL⟩ : ∃ L, n.data.toList = L := ⟨_, rfl⟩
  rw [hL] at hl
  have HL := hide hL
  have HLL := hide hl
  clear hL hl
  unfold spV
  dsimp only at *
  have HN := hide ((Below.refl w.heap.size w).alloc (Nat.le_refl _) (.cells #[.int .i64 t, .int .i64 i, .int .i64 p, .int .i64 s, .int .i64 e, .string n] 38))
  obtain ⟨d0, d1, d2, d3, d4, d5⟩ := hnew.z
  dsimp only at d0 d1 d2 d3 d4 d5
  clear hnew
  by_cases hc0 : 1 ≤ t
  rotate_left
  · have hX : X = false := by
      rw [← HX.out.2, Bool.eq_false_iff]
      intro h
      have := (HX.out.1.1 h).t1
      exact hc0 this
    have hR : R = 30 := by rw [← HR.out, hX]; rfl
    subst hR
    go_enter Tryz.func37, Tryz.ntmps37
    go_wp2_with fail
    go_loop [3, 4, 71] (fun ok _ i => ok = .bool false ∧ ∃ k : Nat, k ≤ n.size ∧ i = .int .i64 k) (fun _ _ i => n.size - (intOf i).toNat)
    case atStart => exact ⟨rfl, 0, by omega, rfl⟩
    case round =>
      obtain ⟨rfl, k, hk, rfl⟩ := hrel
      by_cases hkm : (k : Int) < (n.size : Int)
      · go_wp2
        go_round
        case rel => exact ⟨rfl, k + 1, by omega, by go_num⟩
        case measure => simp [intOf]; omega
      · go_wp2
        go_ret
        exact ⟨rfl, HN.out⟩
  by_cases hc1 : t ≤ 1099511627776
  rotate_left
  · have hX : X = false := by
      rw [← HX.out.2, Bool.eq_false_iff]
      intro h
      have := (HX.out.1.1 h).t2
      exact hc1 this
    have hR : R = 30 := by rw [← HR.out, hX]; rfl
    subst hR
    go_enter Tryz.func37, Tryz.ntmps37
    go_wp2_with fail
    go_loop [3, 4, 71] (fun ok _ i => ok = .bool false ∧ ∃ k : Nat, k ≤ n.size ∧ i = .int .i64 k) (fun _ _ i => n.size - (intOf i).toNat)
    case atStart => exact ⟨rfl, 0, by omega, rfl⟩
    case round =>
      obtain ⟨rfl, k, hk, rfl⟩ := hrel
      by_cases hkm : (k : Int) < (n.size : Int)
      · go_wp2
        go_round
        case rel => exact ⟨rfl, k + 1, by omega, by go_num⟩
        case measure => simp [intOf]; omega
      · go_wp2
        go_ret
        exact ⟨rfl, HN.out⟩
  by_cases hc2 : 1 ≤ i
  rotate_left
  · have hX : X = false := by
      rw [← HX.out.2, Bool.eq_false_iff]
      intro h
      have := (HX.out.1.1 h).i1
      exact hc2 this
    have hR : R = 30 := by rw [← HR.out, hX]; rfl
    subst hR
    go_enter Tryz.func37, Tryz.ntmps37
    go_wp2_with fail
    go_loop [3, 4, 71] (fun ok _ i => ok = .bool false ∧ ∃ k : Nat, k ≤ n.size ∧ i = .int .i64 k) (fun _ _ i => n.size - (intOf i).toNat)
    case atStart => exact ⟨rfl, 0, by omega, rfl⟩
    case round =>
      obtain ⟨rfl, k, hk, rfl⟩ := hrel
      by_cases hkm : (k : Int) < (n.size : Int)
      · go_wp2
        go_round
        case rel => exact ⟨rfl, k + 1, by omega, by go_num⟩
        case measure => simp [intOf]; omega
      · go_wp2
        go_ret
        exact ⟨rfl, HN.out⟩
  by_cases hc3 : i ≤ 1099511627776
  rotate_left
  · have hX : X = false := by
      rw [← HX.out.2, Bool.eq_false_iff]
      intro h
      have := (HX.out.1.1 h).i2
      exact hc3 this
    have hR : R = 30 := by rw [← HR.out, hX]; rfl
    subst hR
    go_enter Tryz.func37, Tryz.ntmps37
    go_wp2_with fail
    go_loop [3, 4, 71] (fun ok _ i => ok = .bool false ∧ ∃ k : Nat, k ≤ n.size ∧ i = .int .i64 k) (fun _ _ i => n.size - (intOf i).toNat)
    case atStart => exact ⟨rfl, 0, by omega, rfl⟩
    case round =>
      obtain ⟨rfl, k, hk, rfl⟩ := hrel
      by_cases hkm : (k : Int) < (n.size : Int)
      · go_wp2
        go_round
        case rel => exact ⟨rfl, k + 1, by omega, by go_num⟩
        case measure => simp [intOf]; omega
      · go_wp2
        go_ret
        exact ⟨rfl, HN.out⟩
  by_cases hc4 : 0 ≤ p
  rotate_left
  · have hX : X = false := by
      rw [← HX.out.2, Bool.eq_false_iff]
      intro h
      have := (HX.out.1.1 h).p1
      exact hc4 this
    have hR : R = 30 := by rw [← HR.out, hX]; rfl
    subst hR
    go_enter Tryz.func37, Tryz.ntmps37
    go_wp2_with fail
    go_loop [3, 4, 71] (fun ok _ i => ok = .bool false ∧ ∃ k : Nat, k ≤ n.size ∧ i = .int .i64 k) (fun _ _ i => n.size - (intOf i).toNat)
    case atStart => exact ⟨rfl, 0, by omega, rfl⟩
    case round =>
      obtain ⟨rfl, k, hk, rfl⟩ := hrel
      by_cases hkm : (k : Int) < (n.size : Int)
      · go_wp2
        go_round
        case rel => exact ⟨rfl, k + 1, by omega, by go_num⟩
        case measure => simp [intOf]; omega
      · go_wp2
        go_ret
        exact ⟨rfl, HN.out⟩
  by_cases hc5 : p ≤ 1099511627776
  rotate_left
  · have hX : X = false := by
      rw [← HX.out.2, Bool.eq_false_iff]
      intro h
      have := (HX.out.1.1 h).p2
      exact hc5 this
    have hR : R = 30 := by rw [← HR.out, hX]; rfl
    subst hR
    go_enter Tryz.func37, Tryz.ntmps37
    go_wp2_with fail
    go_loop [3, 4, 71] (fun ok _ i => ok = .bool false ∧ ∃ k : Nat, k ≤ n.size ∧ i = .int .i64 k) (fun _ _ i => n.size - (intOf i).toNat)
    case atStart => exact ⟨rfl, 0, by omega, rfl⟩
    case round =>
      obtain ⟨rfl, k, hk, rfl⟩ := hrel
      by_cases hkm : (k : Int) < (n.size : Int)
      · go_wp2
        go_round
        case rel => exact ⟨rfl, k + 1, by omega, by go_num⟩
        case measure => simp [intOf]; omega
      · go_wp2
        go_ret
        exact ⟨rfl, HN.out⟩
  by_cases hc6 : 0 ≤ s
  rotate_left
  · have hX : X = false := by
      rw [← HX.out.2, Bool.eq_false_iff]
      intro h
      have := (HX.out.1.1 h).s1
      exact hc6 this
    have hR : R = 30 := by rw [← HR.out, hX]; rfl
    subst hR
    go_enter Tryz.func37, Tryz.ntmps37
    go_wp2_with fail
    go_loop [3, 4, 71] (fun ok _ i => ok = .bool false ∧ ∃ k : Nat, k ≤ n.size ∧ i = .int .i64 k) (fun _ _ i => n.size - (intOf i).toNat)
    case atStart => exact ⟨rfl, 0, by omega, rfl⟩
    case round =>
      obtain ⟨rfl, k, hk, rfl⟩ := hrel
      by_cases hkm : (k : Int) < (n.size : Int)
      · go_wp2
        go_round
        case rel => exact ⟨rfl, k + 1, by omega, by go_num⟩
        case measure => simp [intOf]; omega
      · go_wp2
        go_ret
        exact ⟨rfl, HN.out⟩
  by_cases hc7 : s ≤ e
  rotate_left
  · have hX : X = false := by
      rw [← HX.out.2, Bool.eq_false_iff]
      intro h
      have := (HX.out.1.1 h).s2
      exact hc7 this
    have hR : R = 30 := by rw [← HR.out, hX]; rfl
    subst hR
    go_enter Tryz.func37, Tryz.ntmps37
    go_wp2_with fail
    go_loop [3, 4, 71] (fun ok _ i => ok = .bool false ∧ ∃ k : Nat, k ≤ n.size ∧ i = .int .i64 k) (fun _ _ i => n.size - (intOf i).toNat)
    case atStart => exact ⟨rfl, 0, by omega, rfl⟩
    case round =>
      obtain ⟨rfl, k, hk, rfl⟩ := hrel
      by_cases hkm : (k : Int) < (n.size : Int)
      · go_wp2
        go_round
        case rel => exact ⟨rfl, k + 1, by omega, by go_num⟩
        case measure => simp [intOf]; omega
      · go_wp2
        go_ret
        exact ⟨rfl, HN.out⟩
  by_cases hc8 : e ≤ 1099511627776
  rotate_left
  · have hX : X = false := by
      rw [← HX.out.2, Bool.eq_false_iff]
      intro h
      have := (HX.out.1.1 h).e2
      exact hc8 this
    have hR : R = 30 := by rw [← HR.out, hX]; rfl
    subst hR
    go_enter Tryz.func37, Tryz.ntmps37
    go_wp2_with fail
    go_loop [3, 4, 71] (fun ok _ i => ok = .bool false ∧ ∃ k : Nat, k ≤ n.size ∧ i = .int .i64 k) (fun _ _ i => n.size - (intOf i).toNat)
    case atStart => exact ⟨rfl, 0, by omega, rfl⟩
    case round =>
      obtain ⟨rfl, k, hk, rfl⟩ := hrel
      by_cases hkm : (k : Int) < (n.size : Int)
      · go_wp2
        go_round
        case rel => exact ⟨rfl, k + 1, by omega, by go_num⟩
        case measure => simp [intOf]; omega
      · go_wp2
        go_ret
        exact ⟨rfl, HN.out⟩
  by_cases hc9 : ¬ (p = i)
  rotate_left
  · have hX : X = false := by
      rw [← HX.out.2, Bool.eq_false_iff]
      intro h
      have := (HX.out.1.1 h).ne
      exact hc9 this
    have hR : R = 30 := by rw [← HR.out, hX]; rfl
    subst hR
    go_enter Tryz.func37, Tryz.ntmps37
    go_wp2_with fail
    go_loop [3, 4, 71] (fun ok _ i => ok = .bool false ∧ ∃ k : Nat, k ≤ n.size ∧ i = .int .i64 k) (fun _ _ i => n.size - (intOf i).toNat)
    case atStart => exact ⟨rfl, 0, by omega, rfl⟩
    case round =>
      obtain ⟨rfl, k, hk, rfl⟩ := hrel
      by_cases hkm : (k : Int) < (n.size : Int)
      · go_wp2
        go_round
        case rel => exact ⟨rfl, k + 1, by omega, by go_num⟩
        case measure => simp [intOf]; omega
      · go_wp2
        go_ret
        exact ⟨rfl, HN.out⟩
  by_cases hc10 : ¬ (n.toList = [])
  rotate_left
  · have hX : X = false := by
      rw [← HX.out.2, Bool.eq_false_iff]
      intro h
      have := (HX.out.1.1 h).n1
      exact hc10 (fun h5 => (str_none n).1 h5 (by have h2 := HLL.out; rw [← HL.out] at h2; rw [← h2]; exact this))
    have hR : R = 30 := by rw [← HR.out, hX]; rfl
    subst hR
    replace hc10 := Decidable.not_not.1 hc10
    go_enter Tryz.func37, Tryz.ntmps37
    go_wp2_with fail
    go_loop [3, 4, 71] (fun ok _ i => ok = .bool false ∧ ∃ k : Nat, k ≤ n.size ∧ i = .int .i64 k) (fun _ _ i => n.size - (intOf i).toNat)
    case atStart => exact ⟨rfl, 0, by omega, rfl⟩
    case round =>
      obtain ⟨rfl, k, hk, rfl⟩ := hrel
      by_cases hkm : (k : Int) < (n.size : Int)
      · go_wp2
        go_round
        case rel => exact ⟨rfl, k + 1, by omega, by go_num⟩
        case measure => simp [intOf]; omega
      · go_wp2
        go_ret
        exact ⟨rfl, HN.out⟩
  by_cases hc11 : (n.size : Int) ≤ 32
  rotate_left
  · have hX : X = false := by
      rw [← HX.out.2, Bool.eq_false_iff]
      intro h
      have := (HX.out.1.1 h).n2
      exact hc11 (by have h2 := HLL.out; rw [← HL.out] at h2; have h3 : n.data.toList.length ≤ 32 := this; omega)
    have hR : R = 30 := by rw [← HR.out, hX]; rfl
    subst hR
    go_enter Tryz.func37, Tryz.ntmps37
    go_wp2_with fail
    go_loop [3, 4, 71] (fun ok _ i => ok = .bool false ∧ ∃ k : Nat, k ≤ n.size ∧ i = .int .i64 k) (fun _ _ i => n.size - (intOf i).toNat)
    case atStart => exact ⟨rfl, 0, by omega, rfl⟩
    case round =>
      obtain ⟨rfl, k, hk, rfl⟩ := hrel
      by_cases hkm : (k : Int) < (n.size : Int)
      · go_wp2
        go_round
        case rel => exact ⟨rfl, k + 1, by omega, by go_num⟩
        case measure => simp [intOf]; omega
      · go_wp2
        go_ret
        exact ⟨rfl, HN.out⟩
  have hX : X = L.all okByte := by
    rw [← HX.out.2, Bool.eq_iff_iff, HX.out.1]
    have hname : Sp.nl ⟨t, i, p, s, e, n⟩ = L := HL.out
    constructor
    · intro h
      have := h.n3
      rwa [hname] at this
    · intro h
      have h4 : 1 ≤ n.size := by
        by_cases h5 : 1 ≤ n.size
        · exact h5
        · exact absurd ((str_none n).2 h5) hc10
      have h2 := HLL.out
      exact ⟨hc0, hc1, hc2, hc3, hc4, hc5, hc6, hc7, hc8, hc9, by rw [hname]; omega, by rw [hname]; omega, by rw [hname]; exact h⟩
  have HXX := hide hX
  clear hX
  go_enter Tryz.func37, Tryz.ntmps37
  go_wp2_with fail
  go_loop [3, 4, 71] (fun ok _ i => ∃ (O : Bool) (k : Nat), ok = .bool O ∧ k ≤ n.size ∧ i = .int .i64 k ∧ Hid ((O && (L.drop k).all okByte) = L.all okByte)) (fun _ _ i => n.size - (intOf i).toNat)
  case atStart => exact ⟨true, 0, by simp [hc9, hc10], by omega, rfl, hide rfl⟩
  case round =>
    obtain ⟨O, k, rfl, hk, rfl, H⟩ := hrel
    by_cases hkm : (k : Int) < (n.size : Int)
    · cases O
      · go_wp2
        go_round
        case rel => exact ⟨false, k + 1, rfl, by omega, by go_num, hide (by have := H.out; rw [Bool.false_and] at this ⊢; exact this)⟩
        case measure => simp [intOf]; omega
      · have hkn : k < n.size := by omega
        have hy : L[k]? = some n[k] := by
          rw [← HL.out, Array.getElem?_toList]
          exact Array.getElem?_eq_getElem hkn
        have hok : okByte n[k] = (decide ((33 : Int) ≤ (n[k].toNat : Int)) && decide ((n[k].toNat : Int) ≤ 126)) := by
          unfold okByte
          congr 1
          · rw [decide_eq_decide]; omega
          · rw [decide_eq_decide]; omega
        have hH := H.out
        rw [all_drop hy, hok, Bool.true_and] at hH
        have HH := hide hH
        clear hH hok hy H
        by_cases h33 : (33 : Int) ≤ (n[k].toNat : Int)
        · go_wp2
          go_round
          case rel => exact ⟨decide ((n[k].toNat : Int) ≤ 126), k + 1, rfl, by omega, by go_num, hide (by rw [← HH.out, decide_eq_true h33, Bool.true_and])⟩
          case measure => simp [intOf]; omega
        · go_wp2
          go_round
          case rel => exact ⟨false, k + 1, rfl, by omega, by go_num, hide (by rw [← HH.out, decide_eq_false h33]; rfl)⟩
          case measure => simp [intOf]; omega
    · cases O
      all_goals
        go_wp2
        go_ret
        refine ⟨?_, HN.out⟩
        have := H.out
        rw [List.drop_eq_nil_of_le (by have := HLL.out; omega)] at this
        have hR := HR.out
        rw [HXX.out, ← this] at hR
        rw [← hR]
        rfl
end Go.Proofs.YtimjplkehlgelaaGreat
/- One span's bytes: the program's and the document's. -/
namespace Go.Proofs.YtimjplkehlgelaaGreat
set_option linter.unusedVariables false
set_option linter.unusedSimpArgs false
open Go.RowKit

/-- Numbers' bytes. -/
def flatD (l : List Int) : List UInt8 := (l.map fun z => digits z.toNat).flatten
theorem flatD_succ {l : List Int} {k : Nat} {z : Int} (h : l[k]? = some z) : flatD (l.take (k + 1)) = flatD (l.take k) ++ digits z.toNat := by
  unfold flatD
  rw [List.take_add_one, h]
  simp
theorem flatD_len (l : List Int) (h : ∀ z ∈ l, z ≤ 1099511627776) (k : Nat) : (flatD (l.take k)).length ≤ 9 * l.length := by
  have one : ∀ m : List Int, (∀ z ∈ m, z ≤ 1099511627776) → (flatD m).length ≤ 9 * m.length := by
    intro m
    induction m with
    | nil => intro _; simp [flatD]
    | cons x r ih =>
      intro hm
      have := ih fun z hz => hm z (by simp [hz])
      have h1 := digits_length x.toNat (by have := hm x (by simp); omega)
      simp only [flatD, List.map_cons, List.flatten_cons, List.length_append, List.length_cons] at this ⊢
      omega
  have := one (l.take k) fun z hz => h z (List.mem_of_mem_take hz)
  rw [List.length_take] at this
  omega
theorem refNumber_own {w : World} {v : Value} {l : List UInt8} (hv : By w v l) (hl : l.length ≤ 140737488000000) (n : Int) (N : Nat) (hN : max n 0 = (N : Int)) (hn2 : N < lim) :
    Calls Tryz.prog 70 #[v, .int .i64 n] w fun e w' => ∃ v', e = .returned v' ∧ Own w.heap.size w' v' (l ++ digits N) ∧ Below w.heap.size w w' :=
  (refNumber_any hv hl n N hN hn2).mono fun _ _ ⟨v', he, ho, hb⟩ => ⟨v', he, Own.of_row ho, hb⟩
theorem Sp.Ok.nums {t i p s e : Int} {n : ByteArray} (h : Sp.Ok ⟨t, i, p, s, e, n⟩) : ∀ z ∈ [t, i, p, s, e - s], 0 ≤ z ∧ z ≤ 1099511627776 := by
  obtain ⟨t1, t2, i1, i2, p1, p2, s1, s2, e2, _, _, _, _⟩ := h
  dsimp only at *
  intro z hz
  simp only [List.mem_cons, List.not_mem_nil, or_false] at hz
  rcases hz with rfl | rfl | rfl | rfl | rfl <;> omega

set_option maxRecDepth 200000 in
set_option maxHeartbeats 1000000 in
/-- One span's bytes. -/
theorem bytesOf_any (x : Sp) (hok : x.ok = true) (w : World) : Calls Tryz.prog 82 #[spV x] w fun e w' => ∃ v', e = .returned v' ∧ Own w.heap.size w' v' x.bytes ∧ Below w.heap.size w w' := by
  have hk := (Sp.ok_iff x).1 hok
  obtain ⟨t, i, p, s, e, n⟩ := x
  have hz := hk.nums
  have hby : Sp.bytes ⟨t, i, p, s, e, n⟩ = flatD [t, i, p, s, e - s] ++ digits n.size ++ n.data.toList := by
    have hl : n.data.toList.length = n.size := by rw [Array.length_toList]; rfl
    unfold Sp.bytes flatD Sp.nl
    simp [hl]
  have hns : n.size ≤ 32 := by
    have := hk.n2
    have hl : n.data.toList.length = n.size := by rw [Array.length_toList]; rfl
    have h2 : n.data.toList.length ≤ 32 := this
    omega
  rw [hby]
  have hs1 := hk.s1
  have hs2 := hk.s2
  have he2 : e ≤ 9223372036854775807 := Int.le_trans hk.e2 (by decide)
  have hse : e - s ≤ 9223372036854775807 := by dsimp only at hs1; omega
  have hse0 : 0 ≤ e - s := by dsimp only at hs2; omega
  have hwr : IntKind.i64.wrap (e - s) = e - s := by rw [IntKind.wrap_i64]; omega
  have HZ := hide hz
  clear hk hok hz hby
  unfold spV
  dsimp only at *
  obtain ⟨X, hX⟩ : ∃ X, (w.alloc (.cells #[.int .i64 t, .int .i64 i, .int .i64 p, .int .i64 s, .int .i64 e, .string n] 38)).alloc (.cells #[.int .i64 t, .int .i64 i, .int .i64 p, .int .i64 s, .int .i64 (e - s)] 3) = X := ⟨_, rfl⟩
  have hlit : ∀ (k : Nat) z, [t, i, p, s, e - s][k]? = some z → X.cell? ⟨w.heap.size + 1, k, none⟩ = some (.int .i64 z) := by
    rw [← hX]
    intro k z hk
    rw [cell_of_row _ (w.heap.size + 1) k _ 3 (0, 0) (by have := heap_alloc_new (w.alloc (.cells #[.int .i64 t, .int .i64 i, .int .i64 p, .int .i64 s, .int .i64 e, .string n] 38)) (.cells #[.int .i64 t, .int .i64 i, .int .i64 p, .int .i64 s, .int .i64 (e - s)] 3); simpa using this)]
    match k, hk with
    | 0, hk => simp at hk; subst hk; rfl
    | 1, hk => simp at hk; subst hk; rfl
    | 2, hk => simp at hk; subst hk; rfl
    | 3, hk => simp at hk; subst hk; rfl
    | 4, hk => simp at hk; subst hk; rfl
  have hname : X.cell? ⟨w.heap.size, 5, none⟩ = some (.string n) := by
    rw [← hX]
    have := (spAt_new w ⟨t, i, p, s, e, n⟩).c5
    exact ((Below.refl _ _).alloc (Nat.le_refl _) _).cell (lt_of_cell this) |>.trans this
  have hXb : Below w.heap.size w X := by rw [← hX]; exact ((Below.refl _ _).alloc (Nat.le_refl _) _).alloc (by simp) _
  have hXs : X.heap.size = w.heap.size + 2 := by rw [← hX]; simp
  have HL := hide hlit
  have HNM := hide hname
  have HXB := hide hXb
  have HXS := hide hXs
  clear hlit hname hXb hXs
  go_enter Tryz.func82, Tryz.ntmps82
  go_wp2_with fail
  clear hX hwr
  go_loopw [3, 5, 21] (fun v _ c wr => ∃ k : Nat, k ≤ 5 ∧ c = .int .i64 k ∧ Hid (Own X.heap.size wr v (flatD ([t, i, p, s, e - s].take k)) ∧ Below X.heap.size X wr)) (fun _ _ c _ => 5 - (intOf c).toNat)
  case atStart => exact ⟨0, by omega, rfl, hide ⟨Own.nil _ _, Below.refl _ _⟩⟩
  case round =>
    obtain ⟨k, hk, rfl, HR⟩ := hrel
    by_cases hlt : (k : Int) < 5
    · obtain ⟨z, hz⟩ : ∃ z, [t, i, p, s, e - s][k]? = some z := ⟨_, List.getElem?_eq_getElem (by simp; omega)⟩
      have hz2 := HZ.out z (List.mem_of_getElem? hz)
      have hcell := HL.out k z hz
      have hcell := (HR.out.2.cell (lt_of_cell hcell)).trans hcell
      have HZ2 := hide hz2
      have HZK := hide hz
      have hle : (flatD ([t, i, p, s, e - s].take k)).length ≤ 45 := flatD_len [t, i, p, s, e - s] (by intro y hy; exact (HZ.out y hy).2) k
      have HLE := hide hle
      clear hz hz2 hle
      go_wp2_with fail
      refine (wireNumber_any (HR.out.1.by_) (by have := HLE.out; omega) z z.toNat (by have := HZ2.out.1; omega) (by have := HZ2.out; unfold lim; omega)).mono ?_
      rintro e1 w1 ⟨v1, rfl, ho, hb⟩
      have HR1 : Hid (Own X.heap.size w1 v1 (flatD ([t, i, p, s, e - s].take (k + 1))) ∧ Below X.heap.size X w1) := hide ⟨by rw [flatD_succ HZK.out]; exact ho.mono HR.out.2.size, HR.out.2.trans (hb.mono HR.out.2.size)⟩
      clear ho hb hcell
      go_wp2
      go_roundw
      case rel => exact ⟨k + 1, by omega, by go_num, HR1⟩
      case measure => simp [intOf]; omega
    · obtain rfl : k = 5 := by omega
      have hcell := (HR.out.2.cell (lt_of_cell HNM.out)).trans HNM.out
      have hle : (flatD ([t, i, p, s, e - s].take 5)).length ≤ 45 := flatD_len [t, i, p, s, e - s] (by intro y hy; exact (HZ.out y hy).2) 5
      have HLE := hide hle
      clear hle
      go_wp2_with fail
      refine (wireText_any (HR.out.1.by_) (by have := HLE.out; omega) n (by omega)).mono ?_
      rintro e1 w1 ⟨v1, rfl, ho, hb⟩
      have HO := hide ho
      have HB := hide hb
      clear ho hb hcell
      go_wp2
      go_ret
      have hsz := HR.out.2.size
      have hxs := HXS.out
      exact ⟨_, rfl, HO.out.mono (by omega), (HXB.out.trans (HR.out.2.mono (by omega))).trans (HB.out.mono (by omega))⟩

set_option maxRecDepth 200000 in
set_option maxHeartbeats 1000000 in
/-- One span's bytes. -/
theorem refBytes_any (x : Sp) (hok : x.ok = true) (w : World) : Calls Tryz.prog 94 #[spV x] w fun e w' => ∃ v', e = .returned v' ∧ Own w.heap.size w' v' x.bytes ∧ Below w.heap.size w w' := by
  have hk := (Sp.ok_iff x).1 hok
  obtain ⟨t, i, p, s, e, n⟩ := x
  have hz := hk.nums
  have hby : Sp.bytes ⟨t, i, p, s, e, n⟩ = flatD [t, i, p, s, e - s] ++ digits n.size ++ n.data.toList := by
    have hl : n.data.toList.length = n.size := by rw [Array.length_toList]; rfl
    unfold Sp.bytes flatD Sp.nl
    simp [hl]
  have hns : n.size ≤ 32 := by
    have := hk.n2
    have hl : n.data.toList.length = n.size := by rw [Array.length_toList]; rfl
    have h2 : n.data.toList.length ≤ 32 := this
    omega
  rw [hby]
  have hs1 := hk.s1
  have hs2 := hk.s2
  have he2 : e ≤ 9223372036854775807 := Int.le_trans hk.e2 (by decide)
  have hse : e - s ≤ 9223372036854775807 := by dsimp only at hs1; omega
  have hse0 : 0 ≤ e - s := by dsimp only at hs2; omega
  have hwr : IntKind.i64.wrap (e - s) = e - s := by rw [IntKind.wrap_i64]; omega
  have HZ := hide hz
  clear hk hok hz hby
  unfold spV
  dsimp only at *
  obtain ⟨X, hX⟩ : ∃ X, (w.alloc (.cells #[.int .i64 t, .int .i64 i, .int .i64 p, .int .i64 s, .int .i64 e, .string n] 38)).alloc (.cells #[.int .i64 t, .int .i64 i, .int .i64 p, .int .i64 s, .int .i64 (e - s)] 3) = X := ⟨_, rfl⟩
  have hlit : ∀ (k : Nat) z, [t, i, p, s, e - s][k]? = some z → X.cell? ⟨w.heap.size + 1, k, none⟩ = some (.int .i64 z) := by
    rw [← hX]
    intro k z hk
    rw [cell_of_row _ (w.heap.size + 1) k _ 3 (0, 0) (by have := heap_alloc_new (w.alloc (.cells #[.int .i64 t, .int .i64 i, .int .i64 p, .int .i64 s, .int .i64 e, .string n] 38)) (.cells #[.int .i64 t, .int .i64 i, .int .i64 p, .int .i64 s, .int .i64 (e - s)] 3); simpa using this)]
    match k, hk with
    | 0, hk => simp at hk; subst hk; rfl
    | 1, hk => simp at hk; subst hk; rfl
    | 2, hk => simp at hk; subst hk; rfl
    | 3, hk => simp at hk; subst hk; rfl
    | 4, hk => simp at hk; subst hk; rfl
  have hname : X.cell? ⟨w.heap.size, 5, none⟩ = some (.string n) := by
    rw [← hX]
    have := (spAt_new w ⟨t, i, p, s, e, n⟩).c5
    exact ((Below.refl _ _).alloc (Nat.le_refl _) _).cell (lt_of_cell this) |>.trans this
  have hXb : Below w.heap.size w X := by rw [← hX]; exact ((Below.refl _ _).alloc (Nat.le_refl _) _).alloc (by simp) _
  have hXs : X.heap.size = w.heap.size + 2 := by rw [← hX]; simp
  have HL := hide hlit
  have HNM := hide hname
  have HXB := hide hXb
  have HXS := hide hXs
  clear hlit hname hXb hXs
  go_enter Tryz.func94, Tryz.ntmps94
  go_wp2_with fail
  clear hX hwr
  go_loopw [3, 5, 21] (fun v _ c wr => ∃ k : Nat, k ≤ 5 ∧ c = .int .i64 k ∧ Hid (Own X.heap.size wr v (flatD ([t, i, p, s, e - s].take k)) ∧ Below X.heap.size X wr)) (fun _ _ c _ => 5 - (intOf c).toNat)
  case atStart => exact ⟨0, by omega, rfl, hide ⟨Own.nil _ _, Below.refl _ _⟩⟩
  case round =>
    obtain ⟨k, hk, rfl, HR⟩ := hrel
    by_cases hlt : (k : Int) < 5
    · obtain ⟨z, hz⟩ : ∃ z, [t, i, p, s, e - s][k]? = some z := ⟨_, List.getElem?_eq_getElem (by simp; omega)⟩
      have hz2 := HZ.out z (List.mem_of_getElem? hz)
      have hcell := HL.out k z hz
      have hcell := (HR.out.2.cell (lt_of_cell hcell)).trans hcell
      have HZ2 := hide hz2
      have HZK := hide hz
      have hle : (flatD ([t, i, p, s, e - s].take k)).length ≤ 45 := flatD_len [t, i, p, s, e - s] (by intro y hy; exact (HZ.out y hy).2) k
      have HLE := hide hle
      clear hz hz2 hle
      go_wp2_with fail
      refine (refNumber_own (HR.out.1.by_) (by have := HLE.out; omega) z z.toNat (by have := HZ2.out.1; omega) (by have := HZ2.out; unfold lim; omega)).mono ?_
      rintro e1 w1 ⟨v1, rfl, ho, hb⟩
      have HR1 : Hid (Own X.heap.size w1 v1 (flatD ([t, i, p, s, e - s].take (k + 1))) ∧ Below X.heap.size X w1) := hide ⟨by rw [flatD_succ HZK.out]; exact ho.mono HR.out.2.size, HR.out.2.trans (hb.mono HR.out.2.size)⟩
      clear ho hb hcell
      go_wp2
      go_roundw
      case rel => exact ⟨k + 1, by omega, by go_num, HR1⟩
      case measure => simp [intOf]; omega
    · obtain rfl : k = 5 := by omega
      have hcell := (HR.out.2.cell (lt_of_cell HNM.out)).trans HNM.out
      have hle : (flatD ([t, i, p, s, e - s].take 5)).length ≤ 45 := flatD_len [t, i, p, s, e - s] (by intro y hy; exact (HZ.out y hy).2) 5
      have HLE := hide hle
      clear hle
      go_wp2_with fail
      refine (refText_any (HR.out.1.by_) (by have := HLE.out; omega) n (by omega)).mono ?_
      rintro e1 w1 ⟨v1, rfl, ho, hb⟩
      have HO := hide ho
      have HB := hide hb
      clear ho hb hcell
      go_wp2
      go_ret
      have hsz := HR.out.2.size
      have hxs := HXS.out
      exact ⟨_, rfl, HO.out.mono (by omega), (HXB.out.trans (HR.out.2.mono (by omega))).trans (HB.out.mono (by omega))⟩
end Go.Proofs.YtimjplkehlgelaaGreat
/- Slices of byte slices that are gathered one by one. -/
namespace Go.Proofs.YtimjplkehlgelaaGreat
set_option linter.unusedVariables false
set_option linter.unusedSimpArgs false
open Go.RowKit

/-- Where a value's bytes lie: not in the row of v, and in a block that is there. -/
def Apart (w : World) (v u : Value) (l : List UInt8) : Prop := l = [] ∨ ∀ k, u.ownBlock = some k → v.ownBlock ≠ some k ∧ k < w.heap.size

/-- The row v of slices, made by the call: its cells' values read as the lists xs, and lie elsewhere. -/
def Gath (B : Nat) (w : World) (v : Value) (xs : List (List UInt8)) : Prop :=
  ∃ us : List Value, us.length = xs.length ∧ w.ownsRow B 47 1 v xs.length us ∧ ∀ (i : Nat) u x, us[i]? = some u → xs[i]? = some x → By w u x ∧ Apart w v u x ∧ u.oneCell' = true

theorem Gath.nil (B : Nat) (w : World) : Gath B w (.slice none 0 0) [] := ⟨[], rfl, World.ownsRow_nil _ _ _ _, fun i u x hu => by simp at hu⟩

theorem Gath.below {B : Nat} {w w' : World} {v : Value} {xs : List (List UInt8)} (h : Gath B w v xs) (hb : Below w.heap.size w w') : Gath B w' v xs := by
  obtain ⟨us, hl, ho, hu⟩ := h
  refine ⟨us, hl, row_below ho hb, fun i u x h1 h2 => ?_⟩
  obtain ⟨g1, g2, g3⟩ := hu i u x h1 h2
  refine ⟨g1.below hb, ?_, g3⟩
  rcases g2 with g2 | g2
  · exact .inl g2
  · exact .inr fun k hk => ⟨(g2 k hk).1, Nat.lt_of_lt_of_le (g2 k hk).2 hb.size⟩

theorem Gath.bss {B : Nat} {w : World} {v : Value} {xs : List (List UInt8)} (h : Gath B w v xs) : Bss w v xs := by
  obtain ⟨us, hl, ho, hu⟩ := h
  rcases ho.2 with ⟨rfl, h0⟩ | ⟨g, cap, cur, rfl, hB, hg, hlc, hm, hs, ht⟩
  · obtain rfl : xs = [] := List.eq_nil_of_length_eq_zero h0
    exact Bss.nil w
  · refine Bss.of_parts (o := 0) rfl hlc hm hl (fun i u hi => ?_) fun i u x h1 h2 => (hu i u x h1 h2).1
    have := ho.cells (g := g) rfl i u hi
    rwa [add_lit0] at this

theorem Tryz.info47 : (Tryz.prog.info? 47).map (fun i => (i.zero, i.size, i.bytes)) = some (some (.slice none 0 0), 1, 24) := by kernel_rfl

/-- One more: 'rows = append(rows, p)'. -/
theorem run_gather {B : Nat} {w : World} {v : Value} {xs : List (List UInt8)} (h : Gath B w v xs) {q : Option Addr} {m c : Nat} {x : List UInt8} (hx : By w (.slice q m c) x) (hap : Apart w v (.slice q m c) x) (hB : B ≤ w.heap.size) (hs : xs.length ≤ 1000000) :
    ∃ v' w', (Builtin.append_ #[91, 91] 91 #[v, .slice (some ⟨w.heap.size, 0, none⟩) 1 1]).run Tryz.prog (w.alloc (.cells #[.slice q m c] 47)) = .ok v' w' ∧ Gath B w' v' (xs ++ [x]) ∧ Below B w w' := by
  obtain ⟨us, hl, ho, hu⟩ := h
  obtain ⟨i0, hi0, hz0, hz1, hz2⟩ := info_parts Tryz.info47
  have hlt := ho.lt
  have ho' := ho.alloc (.cells #[.slice q m c] 47)
  obtain ⟨v', w', hr, h1, h2, _, h4⟩ := run_append_own_at (P := Tryz.prog) (w.alloc (.cells #[.slice q m c] 47)) B 91 91 47 i0 (.slice none 0 0) 1 24 Tryz.underlying91 hi0 hz0 hz1 hz2 rfl (by decide) v xs.length us ho' ⟨w.heap.size, 0, none⟩ 1 1 [.slice q m c] rfl
    (cell_new1 _ _ _) (fun u hu => by simp at hu; subst hu; rfl) (by simp only [maxLen]; omega) (by omega) (by simp; omega)
  have hb0 : Below B w (w.alloc (.cells #[.slice q m c] 47)) := (Below.refl _ _).alloc hB _
  refine ⟨v', w', hr, ⟨us ++ [.slice q m c], by simp [hl], by simpa using h1, fun i u y hi hy => ?_⟩, hb0.grown h2 (by simp; omega) fun k hk => (ho.lt k hk).1⟩
  have key : ∀ (u : Value) (y : List UInt8), By w u y → Apart w v u y → By w' u y ∧ Apart w' v' u y := fun u y hb ha => by
    refine ⟨(hb.alloc _).grown h2 ?_, ?_⟩
    · rcases ha with rfl | ha
      · exact .inl rfl
      · exact .inr fun k hk => (ha k hk).1
    · rcases ha with rfl | ha
      · exact .inl rfl
      · refine .inr fun k hk => ⟨?_, ?_⟩
        · obtain ⟨n1, n2⟩ := ha k hk
          rcases h4 with e | e
          · rw [e]
            exact n1
          · rw [e]
            intro e2
            injection e2 with e2
            rw [size_alloc'] at e2
            omega
        · have := h2.size
          rw [size_alloc'] at this
          have := (ha k hk).2
          omega
  by_cases hil : i < us.length
  · rw [List.getElem?_append_left hil] at hi
    rw [List.getElem?_append_left (by omega)] at hy
    obtain ⟨g1, g2, g3⟩ := hu i u y hi hy
    obtain ⟨k1, k2⟩ := key u y g1 g2
    exact ⟨k1, k2, g3⟩
  · have hi1 : i = us.length := by
      have := (List.getElem?_eq_some_iff.1 hi).1
      simp at this
      omega
    subst hi1
    rw [List.getElem?_append_right (Nat.le_refl _), Nat.sub_self] at hi
    rw [hl, List.getElem?_append_right (Nat.le_refl _), Nat.sub_self] at hy
    simp at hi hy
    subst hi hy
    obtain ⟨k1, k2⟩ := key _ _ hx hap
    exact ⟨k1, k2, rfl⟩

theorem wpList_gather {w : World} {ops : Array Oper} {rest : List Oper} {o : Oper} {a : Act} {Q : Exit → Act → World → Prop} (hgd : o.guard = none) (s t : Operand)
    (ho : o.op = .call { callee := .builtin .append, args := #[s, t], argTypes := #[91, 91] }) (hty : o.type = 91) {B : Nat} {v : Value} {xs : List (List UInt8)} {q : Option Addr} {m c : Nat} {x : List UInt8}
    (hs : a.eval s = v) (ht : a.eval t = .slice (some ⟨w.heap.size, 0, none⟩) 1 1) (h : Gath B w v xs) (hx : By w (.slice q m c) x) (hap : Apart w v (.slice q m c) x) (hB : B ≤ w.heap.size) (hn : xs.length ≤ 1000000)
    (hK : ∀ v' w', Gath B w' v' (xs ++ [x]) → Below B w w' → wpList Tryz.prog ops Q rest (a.put o.dst v') w') : wpList Tryz.prog ops Q (o :: rest) a (w.alloc (.cells #[.slice q m c] 47)) := by
  obtain ⟨v', w', hr, h1, h2⟩ := run_gather h hx hap hB hn
  exact Lib.wpList_append_run_sl _ hgd s t 91 ho v _ hs ht (by rw [hty]; exact hr) (hK v' w' h1 h2)
end Go.Proofs.YtimjplkehlgelaaGreat
/- Spans' bytes: the program's Put. -/
namespace Go.Proofs.YtimjplkehlgelaaGreat
set_option linter.unusedVariables false
set_option linter.unusedSimpArgs false
open Go.RowKit

/-- What Put says of spans. -/
def putB (l : List Sp) : List UInt8 × Nat := if l.all Sp.ok then (encL l, 0) else ([], 30)
theorem Gath.lit {B : Nat} {w : World} {q : Option Addr} {m c : Nat} {x : List UInt8} (hB : B ≤ w.heap.size) (hx : Own B w (.slice q m c) x) : Gath B (w.alloc (.cells #[.slice q m c] 47)) (.slice (some ⟨w.heap.size, 0, none⟩) 1 1) [x] := by
  refine ⟨[.slice q m c], rfl, World.ownsRow_lit w #[.slice q m c] 1 hB (by decide) rfl, fun i u y h1 h2 => ?_⟩
  match i, h1, h2 with
  | 0, h1, h2 =>
    simp at h1 h2
    subst h1 h2
    refine ⟨hx.by_.alloc _, ?_, rfl⟩
    rcases hx.notNew with h | h
    · exact .inl h
    · rcases hx with ⟨_, rfl⟩ | ⟨g, cap, e, _, _, _, hc, _⟩
      · exact .inl rfl
      · cases x with
        | nil => exact .inl rfl
        | cons y r =>
          refine .inr fun k hk => ⟨?_, ?_⟩
          · have := h k hk
            simp only [Value.ownBlock]
            exact this
          · injection e with e1
            subst e1
            simp only [Value.ownBlock, Option.some.injEq] at hk
            subst hk
            have := lt_of_cell (hc 0 y rfl)
            simp
            simp only at this
            omega

theorem Apart.of_own {B : Nat} {w w' : World} {v u : Value} {xs : List (List UInt8)} {x : List UInt8} (hG : Gath B w v xs) (ho : Own w.heap.size w' u x) : Apart w' v u x := by
  rcases ho with ⟨e, rfl⟩ | ⟨g, cap, e, hBg, hPl, hm, hc2, hs2, hf2⟩
  · exact .inl rfl
  · by_cases h0 : x = []
    · exact .inl h0
    · refine .inr fun j hj => ?_
      subst e
      simp only [Value.ownBlock, Option.some.injEq] at hj
      subst hj
      have hPp : 0 < x.length := List.length_pos_iff.2 h0
      refine ⟨fun h => ?_, lt_of_cell (hc2 0 x[0] (List.getElem?_eq_getElem hPp))⟩
      obtain ⟨us, _, hou, _⟩ := hG
      have := (hou.lt g h).2
      omega
theorem bytes_length {x : Sp} (h : x.ok = true) : x.bytes.length ≤ 100 := by
  have hk := (Sp.ok_iff x).1 h
  obtain ⟨t1, t2, i1, i2, p1, p2, s1, s2, e2, _, _, n2, _⟩ := hk
  have q1 := digits_length x.t.toNat (by omega)
  have q2 := digits_length x.i.toNat (by omega)
  have q3 := digits_length x.p.toNat (by omega)
  have q4 := digits_length x.s.toNat (by omega)
  have q5 := digits_length (x.e - x.s).toNat (by omega)
  have q6 := digits_length x.nl.length (by omega)
  unfold Sp.bytes
  simp only [List.length_append]
  omega
theorem lens_puts : ∀ {l : List Sp}, l.all Sp.ok = true → Lib.lens (l.map Sp.bytes) ≤ 100 * l.length
  | [], _ => by simp [Lib.lens]
  | x :: r, h => by
    rw [List.all_cons, Bool.and_eq_true] at h
    have h1 := bytes_length h.1
    have h2 := lens_puts h.2
    simp only [Lib.lens, List.map_cons, List.sum_cons, List.length_cons] at h2 ⊢
    omega

set_option maxRecDepth 200000 in
set_option maxHeartbeats 2000000 in
/-- span.Put. -/
theorem spanPut_any {w : World} {v : Value} {l : List Sp} (hv : Sps w v l) (hl : l.length ≤ 100000) (hnm : ∀ x ∈ l, x.n.size ≤ 1000000) {B : List UInt8} {E : Nat} (hP : putB l = (B, E)) :
    Calls Tryz.prog 53 #[v] w fun e w' => ∃ v', e = .returned (.tuple #[v', .int .i64 (E : Int)]) ∧ Own w.heap.size w' v' B ∧ Below w.heap.size w w' := by
  obtain ⟨p, n, c, rfl⟩ := hv.sl
  obtain ⟨hn, hnc, hcm⟩ := hv.len
  have HV := hide hv
  have HN := hide hn
  have HP := hide hP
  have HM := hide hnm
  have hn1 : n ≤ 100000 := by omega
  clear hv hn hP hnm hl
  go_enter Tryz.func53, Tryz.ntmps53
  go_wp2_with fail
  refine (wireNumber_any (By.nil w) (by simp) n n (by omega) (by unfold lim; omega)).mono ?_
  rintro e1 w1 ⟨v1, rfl, ho, hb⟩
  rw [List.nil_append] at ho
  obtain ⟨q1, m1, c1, rfl⟩ := ho.by_.sl
  have hG := Gath.lit (B := w.heap.size) hb.size ho
  have HG := hide hG
  have HB := hide (hb.alloc hb.size (.cells #[.slice q1 m1 c1] 47))
  clear hG hb ho
  go_wp2_with fail
  obtain ⟨X, hX⟩ : ∃ X, w1.alloc (.cells #[.slice q1 m1 c1] 47) = X := ⟨_, rfl⟩
  rw [hX] at HG HB ⊢
  have HW1 := hide (show w1.heap.size < X.heap.size by rw [← hX]; simp)
  clear hX
  go_loopw [4, 6, 7, 14] (fun v _ _ c wr => ∃ k : Nat, k ≤ n ∧ c = .int .i64 k ∧ Hid (Gath w.heap.size wr v (digits n :: (l.take k).map Sp.bytes) ∧ Below w.heap.size w wr ∧ (l.take k).all Sp.ok = true)) (fun _ _ _ c _ => n - (intOf c).toNat)
  case atStart => exact ⟨0, by omega, rfl, hide ⟨HG.out, HB.out, rfl⟩⟩
  case round =>
    obtain ⟨k, hk, rfl, HR⟩ := hrel
    by_cases hlt : (k : Int) < (n : Int)
    · obtain ⟨g, o, rfl, hx⟩ := HV.out.at_ (by omega)
      obtain ⟨x, hxk⟩ : ∃ x, l[k]? = some x := ⟨_, List.getElem?_eq_getElem (by have := HN.out; omega)⟩
      have hat := (hx k x hxk).below (HR.out.2.1)
      obtain ⟨oo, hoo⟩ : ∃ oo, o + k * 6 = oo := ⟨_, rfl⟩
      rw [hoo] at hat
      have c0 := hat.c0
      have c1' := hat.c1
      have c2 := hat.c2
      have c3 := hat.c3
      have c4 := hat.c4
      have c5 := hat.c5
      have hxn := HM.out x (List.mem_of_getElem? hxk)
      have HXK := hide hxk
      have HAT := hide hat
      have hck := check_any x hxn
      have HCK := hide hck
      have HBX := hide (bytesOf_any x)
      clear hx hxk hat hck
      have hnew := spAt_new wr x
      have HNEW := hide hnew
      have hbn : Below wr.heap.size wr (wr.alloc (.cells #[.int .i64 x.t, .int .i64 x.i, .int .i64 x.p, .int .i64 x.s, .int .i64 x.e, .string x.n] 38)) := (Below.refl _ _).alloc (Nat.le_refl _) _
      have HBN := hide hbn
      have hsn : wr.heap.size < (wr.alloc (.cells #[.int .i64 x.t, .int .i64 x.i, .int .i64 x.p, .int .i64 x.s, .int .i64 x.e, .string x.n] 38)).heap.size := by simp
      have HSN := hide hsn
      clear hnew hbn hsn
      by_cases hok : x.ok = true
      · have HOK := hide hok
        obtain ⟨t, i, p, s, e, nm⟩ := x
        dsimp only at *
        unfold spV at *
        rw [if_pos hok] at HCK
        clear hok
        go_wp2_with fail
        refine (HCK.out _).mono ?_
        rintro e2 w2 ⟨rfl, hb2⟩
        obtain ⟨d0, d1, d2, d3, d4, d5⟩ := (HNEW.out.below hb2).z
        dsimp only at d0 d1 d2 d3 d4 d5
        have HB2 : Hid (Below wr.heap.size wr w2) := hide (HBN.out.trans (hb2.mono (Nat.le_of_lt HSN.out)))
        clear hb2
        go_wp2_with fail
        refine (HBX.out HOK.out _).mono ?_
        rintro e3 w3 ⟨v3, rfl, ho3, hb3⟩
        obtain ⟨q3, m3, c3, rfl⟩ := ho3.by_.sl
        have hap := Apart.of_own HR.out.1 (ho3.mono HB2.out.size)
        have HAP := hide hap
        have HG3 := hide (HR.out.1.below (HB2.out.trans (hb3.mono HB2.out.size)))
        have HB3 := hide (HR.out.2.1.trans ((HB2.out.trans (hb3.mono HB2.out.size)).mono HR.out.2.1.size))
        have HP3 := hide ho3.by_
        have hbs3 := HB3.out.size
        have HOK2 : Hid ((l.take (k + 1)).all Sp.ok = true ∧ digits n :: (l.take (k + 1)).map Sp.bytes = (digits n :: (l.take k).map Sp.bytes) ++ [Sp.bytes ⟨t, i, p, s, e, nm⟩]) := hide (by
          have h1 : l.take (k + 1) = l.take k ++ [⟨t, i, p, s, e, nm⟩] := by rw [List.take_add_one, HXK.out]; rfl
          rw [h1, List.all_append, HR.out.2.2]
          refine ⟨?_, by simp⟩
          simp only [List.all_cons, List.all_nil, Bool.and_true, Bool.true_and]
          exact HOK.out)
        have hlk : (digits n :: (l.take k).map Sp.bytes).length ≤ 1000000 := by
          simp only [List.length_cons, List.length_map, List.length_take]
          omega
        have HLK := hide hlk
        clear hap ho3 hb3 d0 d1 d2 d3 d4 d5 hlk
        go_wp2_with (at_builtin; go_must (refine wpList_gather (v := u4) rfl _ _ rfl rfl rfl rfl HG3.out HP3.out HAP.out hbs3 HLK.out ?_); intro v4 w4 hg4 hb4)
        go_roundw
        case rel => exact ⟨k + 1, by omega, by go_num, hide ⟨by rw [HOK2.out.2]; exact hg4, HB3.out.trans hb4, HOK2.out.1⟩⟩
        case measure => simp [intOf]; omega
      · have hBE : B = [] ∧ E = 30 := by
          have hall : l.all Sp.ok = false := by
            rw [Bool.eq_false_iff]
            intro h
            exact hok (List.all_eq_true.1 h x (List.mem_of_getElem? HXK.out))
          have := HP.out
          unfold putB at this
          rw [hall] at this
          simp only [Bool.false_eq_true, if_false, Prod.mk.injEq] at this
          exact ⟨this.1.symm, this.2.symm⟩
        obtain ⟨rfl, rfl⟩ := hBE
        obtain ⟨t, i, p, s, e, nm⟩ := x
        dsimp only at *
        unfold spV at *
        rw [if_neg hok] at HCK
        clear hok
        go_wp2_with fail
        refine (HCK.out _).mono ?_
        rintro e2 w2 ⟨rfl, hb2⟩
        have HB2 : Hid (Below wr.heap.size wr w2) := hide (HBN.out.trans (hb2.mono (Nat.le_of_lt HSN.out)))
        clear hb2
        go_wp2
        go_ret2
        exact ⟨_, rfl, Own.nil _ _, HR.out.2.1.trans (HB2.out.mono HR.out.2.1.size)⟩
    · have hkn : k = n := by omega
      subst hkn
      have hall : l.all Sp.ok = true := by
        have := HR.out.2.2
        rwa [List.take_of_length_le (by have := HN.out; omega)] at this
      have hG : Gath w.heap.size wr u4 (digits k :: l.map Sp.bytes) := by
        have := HR.out.1
        rwa [List.take_of_length_le (by have := HN.out; omega)] at this
      have hBE : B = (digits k :: l.map Sp.bytes).flatten ∧ E = 0 := by
        have := HP.out
        unfold putB at this
        rw [hall] at this
        simp only [if_true, Prod.mk.injEq] at this
        refine ⟨?_, this.2.symm⟩
        rw [← this.1]
        unfold encL
        rw [List.flatten_cons, HN.out]
      obtain ⟨rfl, rfl⟩ := hBE
      have hlens := lens_puts (l := l) hall
      have hlen1 := digits_length k (by omega)
      have HJ := hide (join_any hG.bss (by simp only [Lib.lens, List.map_cons, List.sum_cons] at hlens ⊢; have := HN.out; omega) (by simp only [List.length_cons, List.length_map]; have := HN.out; omega))
      have HBW := hide HR.out.2.1
      clear hG hall hlens hlen1
      go_wp2_with fail
      refine HJ.out.mono ?_
      rintro e2 w2 ⟨v2, rfl, ho2, hb2⟩
      have HO := hide ho2
      have HB2 := hide hb2
      clear ho2 hb2
      go_wp2
      go_ret2
      exact ⟨_, rfl, HO.out.mono HBW.out.size, HBW.out.trans (HB2.out.mono HBW.out.size)⟩
end Go.Proofs.YtimjplkehlgelaaGreat
/- A span behind others: append. -/
namespace Go.Proofs.YtimjplkehlgelaaGreat
set_option linter.unusedVariables false
set_option linter.unusedSimpArgs false
open Go.RowKit

theorem Tryz.infoSp : (Tryz.prog.info? 38).map (fun i => (i.zero, i.size, i.bytes)) = some (some (.agg #[.int .i64 0, .int .i64 0, .int .i64 0, .int .i64 0, .int .i64 0, .string ⟨#[]⟩]), 6, 56) := by kernel_rfl

/-- One more span behind others: 'l = append(l, s)'. -/
theorem run_push {B : Nat} {w : World} {v : Value} {l : List Sp} (h : OwnS B w v l) (x : Sp) (hB : B ≤ w.heap.size) (hs : l.length ≤ 1000000) :
    ∃ v' w', (Builtin.append_ #[31, 31] 31 #[v, .slice (some ⟨w.heap.size, 0, none⟩) 1 1]).run Tryz.prog (w.alloc (.cells #[.int .i64 x.t, .int .i64 x.i, .int .i64 x.p, .int .i64 x.s, .int .i64 x.e, .string x.n] 38)) = .ok v' w' ∧ OwnS B w' v' (l ++ [x]) ∧ Below B w w' ∧ w.grownBy w' v.ownBlock := by
  obtain ⟨i0, hi0, hz0, hz1, hz2⟩ := info_parts Tryz.infoSp
  have ho' := World.ownsRow.alloc h (.cells #[.int .i64 x.t, .int .i64 x.i, .int .i64 x.p, .int .i64 x.s, .int .i64 x.e, .string x.n] 38)
  obtain ⟨v', w', hr, h1, h2, _, h4⟩ := run_append_own_at (P := Tryz.prog) (w.alloc (.cells #[.int .i64 x.t, .int .i64 x.i, .int .i64 x.p, .int .i64 x.s, .int .i64 x.e, .string x.n] 38)) B 31 31 38 i0 _ 6 56 Tryz.underlying31 hi0 hz0 hz1 hz2 rfl (by decide) v l.length (l.flatMap spC) ho' ⟨w.heap.size, 0, none⟩ 1 1 (spC x) rfl
    (fun j u hj => by
      rw [add_lit0, Nat.zero_add, cell_of_row _ w.heap.size j _ 38 (0, 0) (heap_alloc_new w _)]
      simpa [spC] using hj)
    (spC_one x) (by simp only [maxLen]; omega) (by omega) (by simp; omega)
  have hb0 : Below B w (w.alloc (.cells #[.int .i64 x.t, .int .i64 x.i, .int .i64 x.p, .int .i64 x.s, .int .i64 x.e, .string x.n] 38)) := (Below.refl _ _).alloc hB _
  refine ⟨v', w', hr, ?_, hb0.grown h2 (by simp; omega) fun k hk => (World.ownsRow.lt h k hk).1, ?_⟩
  · have : (l ++ [x]).flatMap spC = l.flatMap spC ++ spC x := by simp
    unfold OwnS
    rw [this, List.length_append]
    exact h1
  · refine ⟨h2.os, h2.tape, h2.output, ?_, fun k hk hne => ?_⟩
    · have := h2.size
      simp at this
      omega
    · rw [h2.block k (by simp; omega) hne]
      exact heap_alloc_old _ _ hk

theorem wpList_push {w : World} {ops : Array Oper} {rest : List Oper} {o : Oper} {a : Act} {Q : Exit → Act → World → Prop} (hgd : o.guard = none) (s t : Operand)
    (ho : o.op = .call { callee := .builtin .append, args := #[s, t], argTypes := #[31, 31] }) (hty : o.type = 31) {B : Nat} {v : Value} {l : List Sp} (x : Sp)
    (hs : a.eval s = v) (ht : a.eval t = .slice (some ⟨w.heap.size, 0, none⟩) 1 1) (h : OwnS B w v l) (hB : B ≤ w.heap.size) (hn : l.length ≤ 1000000)
    (hK : ∀ v' w', OwnS B w' v' (l ++ [x]) → Below B w w' → w.grownBy w' v.ownBlock → wpList Tryz.prog ops Q rest (a.put o.dst v') w') : wpList Tryz.prog ops Q (o :: rest) a (w.alloc (.cells #[.int .i64 x.t, .int .i64 x.i, .int .i64 x.p, .int .i64 x.s, .int .i64 x.e, .string x.n] 38)) := by
  obtain ⟨v', w', hr, h1, h2, h3⟩ := run_push h x hB hn
  exact Lib.wpList_append_run_sl _ hgd s t 31 ho v _ hs ht (by rw [hty]; exact hr) (hK v' w' h1 h2 h3)
end Go.Proofs.YtimjplkehlgelaaGreat
/- Spans behind others: append of many. -/
namespace Go.Proofs.YtimjplkehlgelaaGreat
set_option linter.unusedVariables false
set_option linter.unusedSimpArgs false
open Go.RowKit

theorem flat_get2 {l : List Sp} {j : Nat} {u : Value} (h : (l.flatMap spC)[j]? = some u) : ∃ x, l[j / 6]? = some x ∧ (spC x)[j % 6]? = some u := by
  have hj := (List.getElem?_eq_some_iff.1 h).1
  rw [flat_len] at hj
  have hx : l[j / 6]? = some (l[j / 6]'(by omega)) := List.getElem?_eq_getElem _
  refine ⟨_, hx, ?_⟩
  rw [← flat_at l (j / 6) (j % 6) hx (Nat.mod_lt _ (by omega)), show j / 6 * 6 + j % 6 = j by omega]
  exact h

theorem run_push_none {w : World} {v : Value} {l : List Sp} {B : Nat} (hv : OwnS B w v l) (p : Option Addr) (c : Nat) : (Builtin.append_ #[31, 31] 31 #[v, .slice p 0 c]).run Tryz.prog w = .ok v w := by
  obtain ⟨i0, hi0, hz0, hz1, hz2⟩ := info_parts Tryz.infoSp
  obtain ⟨_, ⟨rfl, _⟩ | ⟨g, cap, cur, rfl, _, _, hl, _⟩⟩ := hv
  · cases p <;> simp [Builtin.append_, run_underlying Tryz.underlying31, Go.sizeOf, typeInfo, hi0, Builtin.lenOf, Builtin.firstCells, loadCells, loadCellsFrom]
  · cases p <;> simp [Builtin.append_, run_underlying Tryz.underlying31, Go.sizeOf, typeInfo, hi0, Builtin.lenOf, Builtin.firstCells, hl, storeCells, loadCells, loadCellsFrom]

theorem run_pushes {B : Nat} {w : World} {v u : Value} {l m : List Sp} (h : OwnS B w v l) (hu : Sps w u m) (hB : B ≤ w.heap.size) (hs : (l.length + m.length) * 56 ≤ 140737488355328) :
    ∃ v' w', (Builtin.append_ #[31, 31] 31 #[v, u]).run Tryz.prog w = .ok v' w' ∧ OwnS B w' v' (l ++ m) ∧ Below B w w' ∧ w.grownBy w' v.ownBlock := by
  obtain ⟨i0, hi0, hz0, hz1, hz2⟩ := info_parts Tryz.infoSp
  obtain ⟨p, n, c, rfl⟩ := hu.sl
  have hn := hu.len.1
  by_cases h0 : n = 0
  · subst h0
    obtain rfl : m = [] := List.eq_nil_of_length_eq_zero hn.symm
    exact ⟨v, w, run_push_none h p c, by rw [List.append_nil]; exact h, Below.refl _ _, World.grownBy.refl _ _⟩
  · obtain ⟨g, o, rfl, hx⟩ := hu.at_ (by omega)
    obtain ⟨v', w', hr, h1, h2, _, h4⟩ := run_append_own_at (P := Tryz.prog) w B 31 31 38 i0 _ 6 56 Tryz.underlying31 hi0 hz0 hz1 hz2 rfl (by decide) v l.length (l.flatMap spC) h ⟨g, o, none⟩ n c (m.flatMap spC) (by rw [flat_len, hn])
      (fun j u hj => by
        obtain ⟨x, hxj, hk⟩ := flat_get2 hj
        have := hx (j / 6) x hxj (j % 6) u hk
        rw [show o + j / 6 * 6 + j % 6 = o + j by omega] at this
        rw [add_lit0]
        exact this)
      (fun u hu => by
        obtain ⟨x, _, hx⟩ := List.mem_flatMap.1 hu
        exact spC_one x u hx) (by simp only [maxLen]; omega) (by omega) hB
    refine ⟨v', w', hr, ?_, (Below.refl _ _).grown h2 hB fun k hk => (World.ownsRow.lt h k hk).1, h2⟩
    unfold OwnS
    rw [List.flatMap_append, List.length_append, ← hn]
    exact h1
theorem wpList_pushes {w : World} {ops : Array Oper} {rest : List Oper} {o : Oper} {a : Act} {Q : Exit → Act → World → Prop} (hgd : o.guard = none) (s t : Operand)
    (ho : o.op = .call { callee := .builtin .append, args := #[s, t], argTypes := #[31, 31] }) (hty : o.type = 31) {B : Nat} {v u : Value} {l m : List Sp}
    (hs : a.eval s = v) (ht : a.eval t = u) (h : OwnS B w v l) (hu : Sps w u m) (hB : B ≤ w.heap.size) (hn : (l.length + m.length) * 56 ≤ 140737488355328)
    (hK : ∀ v' w', OwnS B w' v' (l ++ m) → Below B w w' → w.grownBy w' v.ownBlock → wpList Tryz.prog ops Q rest (a.put o.dst v') w') : wpList Tryz.prog ops Q (o :: rest) a w := by
  obtain ⟨v', w', hr, h1, h2, h3⟩ := run_pushes h hu hB hn
  exact Lib.wpList_append_run_sl _ hgd s t 31 ho v _ hs ht (by rw [hty]; exact hr) (hK v' w' h1 h2 h3)
end Go.Proofs.YtimjplkehlgelaaGreat
/- Spans held against each other, and slices of them. -/
namespace Go.Proofs.YtimjplkehlgelaaGreat
set_option linter.unusedVariables false
set_option linter.unusedSimpArgs false
open Go.RowKit Go.Lib

theorem name_beq (a b : ByteArray) : (a.toList == b.toList) = decide (a = b) := by
  rw [Bool.eq_iff_iff, decide_eq_true_eq, beq_iff_eq, ByteArray.toList_eq, ByteArray.toList_eq]
  constructor
  · intro h
    obtain ⟨⟨x⟩⟩ := a
    obtain ⟨⟨y⟩⟩ := b
    simp only at h
    rw [h]
  · rintro rfl
    rfl
theorem sp_beq (x y : Sp) : (x.t == y.t && (x.i == y.i && (x.p == y.p && (x.s == y.s && (x.e == y.e && (x.n.toList == y.n.toList)))))) = decide (x = y) := by
  obtain ⟨a, b, c, d, e, f⟩ := x
  obtain ⟨a', b', c', d', e', f'⟩ := y
  dsimp only
  rw [name_beq, Bool.eq_iff_iff]
  simp [Sp.mk.injEq]

theorem sp_eql (x y : Sp) (w : World) : (binOp .eql 38 (.agg (spC x).toArray) (.agg (spC y).toArray)).run Tryz.prog w = .ok (.bool (decide (x = y))) w := by
  have u3 := Tryz.underlying3
  have u9 := Tryz.underlying9
  have a3 := Tryz.isAgg3
  have z3 := Tryz.sizeOf3
  have a9 := Tryz.isAgg9
  have z9 := Tryz.sizeOf9
  have hS : Tryz.prog.underlying 38 = some (.struct (Tryz.prog.fieldsOf 38)) := by kernel_rfl
  have hp : Tryz.prog.stoodInHeld 38 = false := by kernel_rfl
  rw [← sp_beq]
  simp only [spC]
  rw [run_eql_struct, show (10000 : Nat) = 9999 + 1 from rfl, run_equalIn_agg w 9999 38 _ _ hS hp]
  simp only [Program.fieldsOf, Tryz.underlying38]
  go_simp
  (repeat' split) <;> simp_all

theorem span_eql : EqlAt Tryz.prog 38 (fun x : Sp => .agg (spC x).toArray) (fun x y => decide (x = y)) := ⟨sp_eql, GuardAt.agg (fun x : Sp => (spC x).toArray) (by kernel_rfl)⟩
theorem span_neq : NeqAt Tryz.prog 38 (fun x : Sp => .agg (spC x).toArray) (fun x y => decide (x = y)) := by
  refine ⟨fun x y w => ?_, GuardAt.agg (fun x : Sp => (spC x).toArray) (by kernel_rfl)⟩
  have h := sp_eql x y w
  rw [run_eql_struct] at h
  rw [run_neq_struct]
  cases hr : (Op.equalIn 10000 38 (.agg (spC x).toArray) (.agg (spC y).toArray)).run Tryz.prog w with
  | ok b w' =>
    rw [hr] at h
    simp only [Result.andThen_ok, Result.ok.injEq, Value.bool.injEq] at h ⊢
    rw [h.1]
    exact ⟨rfl, h.2⟩
  | halt x w' =>
    rw [hr] at h
    simp [Result.andThen] at h

theorem allEq_dec : ∀ l m : List Sp, Lib.allEq (fun x y => decide (x = y)) l m = decide (l = m)
  | [], [] => rfl
  | [], _ :: _ => rfl
  | _ :: _, [] => rfl
  | x :: r, y :: s => by
    rw [Lib.allEq, allEq_dec r s, Bool.eq_iff_iff]
    simp

set_option maxRecDepth 200000 in
set_option maxHeartbeats 400000 in
/-- slices.Equal at spans. -/
theorem equalSp_any {w : World} {v1 v2 : Value} {l1 l2 : List Sp} (h1 : Sps w v1 l1) (h2 : Sps w v2 l2) :
    Calls Tryz.prog 17 #[v1, v2] w fun e w' => e = .returned (.bool (decide (l1 = l2))) ∧ ∃ q, w' = w.drewN q := by
  obtain ⟨p1, n1, c1, rfl⟩ := h1.sl
  obtain ⟨p2, n2, c2, rfl⟩ := h2.sl
  obtain ⟨hn1, hc1, hm1⟩ := h1.len
  obtain ⟨hn2, hc2, hm2⟩ := h2.len
  unfold maxLen at hm1 hm2
  by_cases hne : n1 = n2
  · subst hne
    by_cases h0 : 0 < n1
    · obtain ⟨g1, o1, rfl, hx1⟩ := h1.at_ h0
      obtain ⟨g2, o2, rfl, hx2⟩ := h2.at_ h0
      have := AnyQ.slices_Equal Tryz.equalSp 6 Tryz.isAgg38 Tryz.sizeOf38 spC spC_length (fun x y => decide (x = y)) span_neq g1 o1 n1 c1 g2 o2 n1 c2 l1 l2 w (by omega) (by omega) (by omega) (by omega)
        (fun j hj i v hi => by
          have hj' : l1[j]? = some l1[j]! := by rw [List.getElem?_eq_getElem hj, getElem!_pos l1 j hj]
          exact hx1 j _ hj' i v hi)
        (fun j hj i v hi => by
          have hj' : l2[j]? = some l2[j]! := by rw [List.getElem?_eq_getElem hj, getElem!_pos l2 j hj]
          exact hx2 j _ hj' i v hi)
      refine this.mono fun e w' ⟨he, hw⟩ => ⟨?_, hw⟩
      rw [he, List.take_of_length_le (by omega), List.take_of_length_le (by omega), allEq_dec]
    · obtain rfl : l1 = [] := List.eq_nil_of_length_eq_zero (by omega)
      obtain rfl : l2 = [] := List.eq_nil_of_length_eq_zero (by omega)
      obtain rfl : n1 = 0 := by omega
      clear h1 h2 hn1 hn2 h0
      rw [decide_eq_true rfl]
      go_enter Tryz.func17, Tryz.ntmps17
      go_wp2
      refine wp_loop_rounds 1 ?_
      rw [rounds_succ]
      go_wp2
      go_ret
      exact ⟨rfl, 0, rfl⟩
  · have hd : decide (l1 = l2) = false := decide_eq_false (by rintro rfl; omega)
    rw [hd]
    have hi : ¬ (n1 : Int) = (n2 : Int) := by omega
    clear h1 h2 hd hn1 hn2
    go_enter Tryz.func17, Tryz.ntmps17
    go_wp2
    go_ret
    exact ⟨rfl, 0, rfl⟩

theorem Tryz.infoSp' : (Tryz.prog.info? 38).map (fun i => (i.zero, i.size, i.bytes)) = some (some (.agg #[.int .i64 0, .int .i64 0, .int .i64 0, .int .i64 0, .int .i64 0, .string ⟨#[]⟩]), 6, 56) := by kernel_rfl
theorem flat_get {l : List Sp} {j : Nat} {u : Value} (h : (l.flatMap spC)[j]? = some u) : ∃ x, l[j / 6]? = some x ∧ (spC x)[j % 6]? = some u := by
  have hj := (List.getElem?_eq_some_iff.1 h).1
  rw [flat_len] at hj
  have hx : l[j / 6]? = some (l[j / 6]'(by omega)) := List.getElem?_eq_getElem _
  refine ⟨_, hx, ?_⟩
  rw [← flat_at l (j / 6) (j % 6) hx (Nat.mod_lt _ (by omega)), show j / 6 * 6 + j % 6 = j by omega]
  exact h

set_option maxRecDepth 200000 in
set_option maxHeartbeats 400000 in
/-- slices.Clone at spans. -/
theorem cloneSp_any {w : World} {v : Value} {l : List Sp} (h : Sps w v l) (hl : l.length ≤ 1000000) :
    Calls Tryz.prog 14 #[v] w fun e w' => ∃ v', e = .returned v' ∧ OwnS w.heap.size w' v' l ∧ Below w.heap.size w w' := by
  obtain ⟨p, n, c, rfl⟩ := h.sl
  obtain ⟨hn, hnc, hm⟩ := h.len
  have qsp : ∀ (w : World) (a : Option Addr) (n c n' c' : Nat), (binOp .eql 31 (.slice a n c) (.slice none n' c')).run Tryz.prog w = .ok (.bool a.isNone) w := fun w a n c n' c' => Lib.run_eql_slice_nil w _ _ a n c n' c' Tryz.underlying31
  rcases p with _ | a
  · obtain rfl : l = [] := by
      obtain ⟨p', c', e, _, _, hn0, _⟩ := h
      injection e with e1 e2 e3
      subst e1
      exact List.eq_nil_of_length_eq_zero (by have := hn0 rfl; omega)
    go_enter Tryz.func14, Tryz.ntmps14
    go_wp2
    go_ret
    exact ⟨_, rfl, OwnS.nil _ _, Below.refl _ _⟩
  · obtain ⟨i0, hi, hz0, hz1, hz2⟩ := info_parts Tryz.infoSp'
    have A := hide h
    have HN := hide hn
    clear h hn
    go_enter Tryz.func14, Tryz.ntmps14
    go_wp2_with (at_builtin; refine wpList_append_own _ rfl _ _ 31 rfl w.heap.size 38 i0 (.agg #[.int .i64 0, .int .i64 0, .int .i64 0, .int .i64 0, .int .i64 0, .string ⟨#[]⟩]) 6 56 Tryz.underlying31 hi hz0 hz1 hz2 rfl (by decide) _ _ _ rfl (World.ownsRow_made w #[] 0 (Nat.le_refl _) (Nat.zero_le _) rfl) a n c (l.flatMap spC) rfl ?qc1 ?qc2 ?qc3 ?qc4 ?qc5 ?qc6 ?_)
    case qc1 => rw [flat_len, HN.out]
    case qc2 =>
      intro j u hj
      obtain ⟨x, hx, hu⟩ := flat_get hj
      have hpos : 0 < n := by
        have := (List.getElem?_eq_some_iff.1 hx).1
        have := HN.out
        omega
      obtain ⟨g, o, e, hc⟩ := A.out.at_ hpos
      injection e with e
      subst e
      have := hc (j / 6) x hx (j % 6) u hu
      rw [show o + j / 6 * 6 + j % 6 = o + j by omega] at this
      refine Lib.cell?_alloc_some _ ?_
      rw [add_lit0]
      exact this
    case qc3 =>
      intro u hu
      obtain ⟨x, _, hx⟩ := List.mem_flatMap.1 hu
      exact spC_one x u hx
    case qc4 => have := HN.out; simp only [maxLen]; omega
    case qc5 => have := HN.out; omega
    case qc6 => simp
    intro v' w1 hown hgrow hnil
    go_wp2
    go_ret
    refine ⟨v', rfl, ?_, ?_⟩
    · unfold OwnS
      rw [← HN.out]
      simpa using hown
    · exact ((Below.refl _ w).alloc (Nat.le_refl _) _).grown hgrow (by simp) (by intro k hk; simp [Value.ownBlock] at hk; omega)
end Go.Proofs.YtimjplkehlgelaaGreat
