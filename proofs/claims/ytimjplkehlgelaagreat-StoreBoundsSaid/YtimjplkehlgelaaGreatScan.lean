/- A scan: the program's, and the document's. -/
import Derived.Test.YtimjplkehlgelaaGreatWir
import Derived.Deep.RegionHeld3
import Derived.Deep.DrawnRows
import Derived.Laws.StructEq
import Derived.Maps.AppendAt
import Derived.BigGuard
namespace Go.Proofs.YtimjplkehlgelaaGreat
set_option linter.unusedVariables false
set_option linter.unusedSimpArgs false
open Go.RowKit

set_option maxRecDepth 200000 in
set_option maxHeartbeats 400000 in
/-- strip.left. -/
theorem left_any {w : World} {g : Nat} {p : Option Addr} {n c at_ : Nat} (hc0 : w.cell? ⟨g, 0, none⟩ = some (.slice p n c)) (hc1 : w.cell? ⟨g, 1, none⟩ = some (.int .i64 (at_ : Int))) (hat : at_ ≤ n) (hn : (n : Int) ≤ 9223372036854775807) :
    Calls Tryz.prog 102 #[.pointer (some ⟨g, 0, none⟩)] w fun e w' => e = .returned (.int .i64 ((n : Int) - (at_ : Int))) ∧ ∃ q, w' = w.drewN q := by
  go_enter Tryz.func102, Tryz.ntmps102
  go_wp2
  go_quiet (fail)
  go_wp2
  go_ret
  exact ⟨rfl, _, rfl⟩

/-- Bytes as a text. -/
def str (l : List UInt8) : ByteArray := strOfNums (Lib.numsL l)

theorem str_eq (l : List UInt8) : str l = ⟨l.toArray⟩ := by
  show (⟨(Lib.bytesOf (Lib.numsL l)).toArray⟩ : ByteArray) = _
  rw [Lib.bytesOf_numsL]

theorem str_inj {a b : List UInt8} : str a = str b ↔ a = b := by
  rw [str_eq, str_eq]
  simp

theorem str_beq (a b : List UInt8) : ((str a).toList == (str b).toList) = decide (a = b) := by
  rw [← beq_toListBytes, Bool.eq_iff_iff, str_eq, str_eq, decide_eq_true_eq]
  show (a.toArray == b.toArray) = true ↔ a = b
  simp

theorem conv_by {w : World} {p : Option Addr} {n c : Nat} {l : List UInt8} (h : By w (.slice p n c) l) (q : Nat) : (convert 47 9 (.slice p n c)).run Tryz.prog (w.drewN q) = .ok (.string (str l)) (w.drewN q) := by
  have h' : By (w.drewN q) (.slice p n c) l := h
  obtain ⟨b, hl⟩ := h'.bytesIn
  exact b.convert hl c 47 5 9 Tryz.underlying47 Tryz.underlying5 Tryz.underlying9

/-- A value's bytes stay where another row alone is written. -/
theorem By.grown {w w' : World} {v : Value} {l : List UInt8} {row : Option Nat} (h : By w v l) (hg : w.grownBy w' row) (hne : l = [] ∨ ∀ k, v.ownBlock = some k → row ≠ some k) : By w' v l := by
  obtain ⟨p, cap, rfl, hl, hm, hn, hc⟩ := h
  refine ⟨p, cap, rfl, hl, hm, hn, fun a e i x hx => ?_⟩
  rcases hne with rfl | hne
  · simp at hx
  · subst e
    refine hg.cell (hc a rfl i x hx) ?_
    rw [block_add]
    exact fun e => hne a.block rfl e.symm

/-- The cells of the program's scan. -/
def scanC (v : Value) (at_ E : Nat) : Array Value := #[v, .int .i64 (at_ : Int), .int .i64 (E : Int), .bool true]

/-- The program's scan in the block g: over v, at its place, with its error. -/
def Sc (w : World) (g : Nat) (v : Value) (at_ E : Nat) : Prop := w.heap[g]? = some (.cells (scanC v at_ E) 118 (0, 0))

theorem Sc.c0 {w : World} {g : Nat} {v : Value} {at_ E : Nat} (h : Sc w g v at_ E) : w.cell? ⟨g, 0, none⟩ = some v := by rw [cell_of_row w g 0 _ 118 (0, 0) h]; rfl

theorem Sc.c1 {w : World} {g : Nat} {v : Value} {at_ E : Nat} (h : Sc w g v at_ E) : w.cell? ⟨g, 1, none⟩ = some (.int .i64 (at_ : Int)) := by rw [cell_of_row w g 1 _ 118 (0, 0) h]; rfl

theorem Sc.c2 {w : World} {g : Nat} {v : Value} {at_ E : Nat} (h : Sc w g v at_ E) : w.cell? ⟨g, 2, none⟩ = some (.int .i64 (E : Int)) := by rw [cell_of_row w g 2 _ 118 (0, 0) h]; rfl

theorem Sc.c3 {w : World} {g : Nat} {v : Value} {at_ E : Nat} (h : Sc w g v at_ E) : w.cell? ⟨g, 3, none⟩ = some (.bool true) := by rw [cell_of_row w g 3 _ 118 (0, 0) h]; rfl

theorem Sc.fr {w : World} {g : Nat} {v : Value} {at_ E : Nat} (h : Sc w g v at_ E) (i : Nat) : w.frozen? ⟨g, i, none⟩ = false := frozen_of_row w g i _ 118 h

theorem Sc.lt {w : World} {g : Nat} {v : Value} {at_ E : Nat} (h : Sc w g v at_ E) : g < w.heap.size := lt_of_cell h.c0

theorem Sc.set1 {w : World} {g : Nat} {v : Value} {at_ E : Nat} (h : Sc w g v at_ E) {x : Int} {k : Nat} (e : x = (k : Int)) : Sc (w.setCell ⟨g, 1, none⟩ (.int .i64 x)) g v k E := by
  have := heap_setCell_same w g 1 _ 118 (.int .i64 x) h
  unfold Sc
  rw [this, e]
  rfl

theorem Sc.set2 {w : World} {g : Nat} {v : Value} {at_ E : Nat} (h : Sc w g v at_ E) {x : Int} {k : Nat} (e : x = (k : Int)) : Sc (w.setCell ⟨g, 2, none⟩ (.int .i64 x)) g v at_ k := by
  have := heap_setCell_same w g 2 _ 118 (.int .i64 x) h
  unfold Sc
  rw [this, e]
  rfl

theorem grown_set (w : World) (g i : Nat) (x : Value) : w.grownBy (w.setCell ⟨g, i, none⟩ x) (some g) :=
  ⟨rfl, rfl, rfl, by simp [World.setCell], fun j _ hj => heap_setCell_other w ⟨g, i, none⟩ j _ (fun e => hj (by rw [e]))⟩

/-- What a read of a scan's block leaves. -/
def ScPost (w : World) (g : Nat) (v : Value) (at_ E : Nat) (r : Value) (e : Ending) (w' : World) : Prop := e = .returned r ∧ Sc w' g v at_ E ∧ w.grownBy w' (some g)

theorem rd_bad : ∀ (l : List UInt8) (i z : Nat) {n k e : Nat}, rd l i z = (n, k, e) → e ≠ 0 → n = 0 ∧ k = 0
  | [], i, z, n, k, e, h, he => by simp only [rd, Prod.mk.injEq] at h; omega
  | x :: r, i, z, n, k, e, h, he => by
    rw [rd_cons] at h
    split at h
    · simp only [Prod.mk.injEq] at h; omega
    · split at h
      · simp only [Prod.mk.injEq] at h; omega
      · split at h
        · simp only [Prod.mk.injEq] at h; omega
        · exact rd_bad r _ _ h he

theorem readNum_bad {l : List UInt8} {n k e : Nat} (h : readNum l = (n, k, e)) (he : e ≠ 0) : n = 0 ∧ k = 0 := rd_bad l 0 0 h he

/-- What readNum says of its parts, whatever it says. -/
theorem readNum_any {l : List UInt8} {n k e : Nat} (h : readNum l = (n, k, e)) : k ≤ l.length ∧ n < 9223372036854775808 ∧ k ≤ 9 := by
  by_cases he : e = 0
  · subst he
    obtain ⟨h1, h2, _, h4⟩ := readNum_form h
    refine ⟨h1, Nat.lt_of_lt_of_le h4 ?_, h2⟩
    exact Nat.le_trans (Nat.pow_le_pow_right (by decide) h2) (by decide)
  · obtain ⟨rfl, rfl⟩ := readNum_bad h he
    exact ⟨Nat.zero_le _, by decide, by omega⟩

/-- A text of at most so many bytes, at a place: the text, the place behind, the error. -/
def textB (l : List UInt8) (at_ most N K E : Nat) : List UInt8 × Nat × Nat :=
  if E ≠ 0 then ([], at_, E) else if most < N then ([], at_, 4) else if l.length < at_ + K + N then ([], at_, 2) else ((l.drop (at_ + K)).take N, at_ + K + N, 0)

def textP (l : List UInt8) (at_ most : Nat) : List UInt8 × Nat × Nat := textB l at_ most (readNum (l.drop at_)).1 (readNum (l.drop at_)).2.1 (readNum (l.drop at_)).2.2

set_option maxRecDepth 200000 in
set_option maxHeartbeats 400000 in
/-- Scan.Err. -/
theorem err_any {w : World} {g : Nat} {E : Nat} (h2 : w.cell? ⟨g, 2, none⟩ = some (.int .i64 (E : Int))) (h3 : w.cell? ⟨g, 3, none⟩ = some (.bool true)) :
    Calls Tryz.prog 97 #[.pointer (some ⟨g, 0, none⟩)] w fun e w' => e = .returned (.int .i64 (E : Int)) ∧ w = w' := by
  go_enter Tryz.func97, Tryz.ntmps97
  go_wp2
  go_ret
  exact ⟨rfl, rfl⟩

theorem str_nil : str [] = ByteArray.empty := rfl

theorem conv_at {w : World} {p : Option Addr} {n c : Nat} {l : List UInt8} (h : By w (.slice p n c) l) : (convert 47 9 (.slice p n c)).run Tryz.prog w = .ok (.string (str l)) w := conv_by h 0

theorem quiet_same {f : FuncId} {args : Array Value} {w : World} {n : Nat} {v : Value}
    (h : Calls Tryz.prog f args (w.drewN n) fun e w' => e = .returned v ∧ w.drewN n = w') : Calls Tryz.prog f args (w.drewN n) fun e w'' => e = .returned v ∧ ∃ m, w'' = w.drewN m :=
  h.mono fun _ _ ⟨he, hm⟩ => ⟨he, n, hm.symm⟩

/-- What is owned lies in no block that is still to come. -/
theorem Own.notNew {B : Nat} {w : World} {v : Value} {l : List UInt8} (h : Own B w v l) : l = [] ∨ ∀ k, v.ownBlock = some k → some w.heap.size ≠ some k := by
  rcases h with ⟨_, rfl⟩ | ⟨g, cap, rfl, _, _, _, hc, _⟩
  · exact .inl rfl
  · cases l with
    | nil => exact .inl rfl
    | cons x r =>
      refine .inr fun k hk e => ?_
      simp only [Value.ownBlock, Option.some.injEq] at hk
      injection e with e
      subst hk
      have := lt_of_cell (hc 0 x rfl)
      simp only at this
      omega

theorem gtrans {a b c : World} {row : Option Nat} (h : a.grownBy b row) (h' : b.grownBy c row) : a.grownBy c row :=
  ⟨h'.os.trans h.os, h'.tape.trans h.tape, h'.output.trans h.output, Nat.le_trans h.size h'.size, fun k hk hr => (h'.block k (Nat.lt_of_lt_of_le hk h.size) hr).trans (h.block k hk hr)⟩

set_option maxRecDepth 200000 in
set_option maxHeartbeats 1000000 in
/-- strip.text, of a scan. -/
theorem stext_any {w : World} {g : Nat} {p : Option Addr} {n c at_ : Nat} {l : List UInt8} (hS : Sc w g (.slice p n c) at_ 0) (hby : By w (.slice p n c) l) (hne : l = [] ∨ ∀ k, (Value.slice p n c).ownBlock = some k → some g ≠ some k) (hat : at_ ≤ n)
    (most : Int) (M : Nat) (hM : max most 0 = (M : Int)) {T : List UInt8} {A E : Nat} (hT : textP l at_ M = (T, A, E)) :
    Calls Tryz.prog 101 #[.pointer (some ⟨g, 0, none⟩), .int .i64 most] w (ScPost w g (.slice p n c) A 0 (.tuple #[.string (str T), .int .i64 E])) := by
  obtain ⟨N, K, e0, hR⟩ : ∃ N K e0, readNum (l.drop at_) = (N, K, e0) := ⟨_, _, _, rfl⟩
  unfold textP at hT
  rw [hR] at hT
  dsimp only at hT
  have hmm := hby.lenMax
  have hn := hby.len.1
  obtain ⟨hK, hN, hK9⟩ := readNum_any hR
  rw [List.length_drop, ← hn] at hK
  have hKn : at_ + K ≤ n := by omega
  have hc0 := hS.c0
  have hc1 := hS.c1
  have HT := hide hT
  have HS := hide hS
  have HBY := hide hby
  have HNE := hide hne
  have HN := hide hn
  have HR := hide hR
  clear hT hS hby hne hn hR hK
  go_enter Tryz.func101, Tryz.ntmps101
  go_wp2_with fail
  refine (number_any HS.out rfl rfl HBY.out hat HR.out).mono ?_
  rintro e w1 ⟨rfl, hh, hg⟩
  obtain ⟨a1, ha1⟩ : ∃ a1, at_ + K = a1 := ⟨_, rfl⟩
  have S1 : Sc w1 g (.slice p n c) a1 0 := by rw [← ha1]; exact hh
  rw [ha1] at hKn
  have B1 := HBY.out.grown hg HNE.out
  have d0 := S1.c0
  have d1 := S1.c1
  have f1 := S1.fr 1
  have G1 := hide hg
  have HS1 := hide S1
  have HB1 := hide B1
  clear hh hg S1 B1 hc0 hc1
  by_cases he : e0 ≠ 0
  · have g1 : ((e0 : Int) != 0) = true := by simp; omega
    have ht := HT.out
    unfold textB at ht
    rw [if_pos he] at ht
    simp only [Prod.mk.injEq] at ht
    obtain ⟨rfl, rfl, rfl⟩ := ht
    clear he HT
    go_wp2
    go_ret2
    exact ⟨by rw [str_nil]; rfl, HS1.out.set1 rfl, gtrans G1.out (grown_set _ _ _ _)⟩
  · obtain rfl : e0 = 0 := by omega
    by_cases hbig : M < N
    · have ht := HT.out
      unfold textB at ht
      rw [if_neg he, if_pos hbig] at ht
      simp only [Prod.mk.injEq] at ht
      obtain ⟨rfl, rfl, rfl⟩ := ht
      clear he HT
      have g4 : max most 0 < (N : Int) := by omega
      go_wp2_with fail
      go_ret2
      exact ⟨by rw [str_nil]; rfl, HS1.out.set1 rfl, gtrans G1.out (grown_set _ _ _ _)⟩
    · have g4 : ¬ max most 0 < (N : Int) := by omega
      have N9 : (N : Int) ≤ 9223372036854775807 := by omega
      have hKi : (a1 : Int) ≤ (n : Int) := by omega
      go_wp2_with fail
      refine (left_any d0 d1 hKn hmm).mono ?_
      rintro e w2 ⟨rfl, q, rfl⟩
      have HS2 : Hid (Sc (w1.drewN q) g (Value.slice p n c) a1 0) := HS1
      have G2 : Hid (w.grownBy (w1.drewN q) (some g)) := hide (grown_drewN G1.out q)
      by_cases hlen : (n : Int) - (a1 : Int) < (N : Int)
      · have ht := HT.out
        unfold textB at ht
        rw [if_neg he, if_neg hbig, if_pos (by have := HN.out; omega)] at ht
        simp only [Prod.mk.injEq] at ht
        obtain ⟨rfl, rfl, rfl⟩ := ht
        clear he HT
        go_wp2_with fail
        go_ret2
        exact ⟨by rw [str_nil]; rfl, HS2.out.set1 rfl, gtrans G2.out (grown_set _ _ _ _)⟩
      · have ht := HT.out
        unfold textB at ht
        rw [if_neg he, if_neg hbig, if_neg (by have := HN.out; omega)] at ht
        simp only [Prod.mk.injEq] at ht
        obtain ⟨rfl, rfl, rfl⟩ := ht
        clear he HT
        have hsum : (a1 : Int) + (N : Int) ≤ 9223372036854775807 := by omega
        have hsum' : (a1 : Int) + (N : Int) ≤ (n : Int) := by omega
        have ha9 : (a1 : Int) ≤ 9223372036854775807 := by omega
        have haw : IntKind.i64.wrap (a1 : Int) = (a1 : Int) := by rw [IntKind.wrap_i64]; omega
        have B3 := (HB1.out.drewN q).grown (grown_set (w1.drewN q) g 1 (.int .i64 ((a1 : Int) + (N : Int)))) HNE.out
        obtain ⟨q3, hcutM, hM3⟩ := cut_mid (j := a1) (k := a1 + N) B3 (by omega) (by omega)
        obtain ⟨m3, hm3⟩ : ∃ m3, a1 + N - a1 = m3 := ⟨_, rfl⟩
        obtain ⟨d3, hd3⟩ : ∃ d3, c - a1 = d3 := ⟨_, rfl⟩
        rw [hm3, hd3] at hM3
        simp only [hm3, hd3] at hcutM
        have e1 : ((a1 + N : Nat) : Int) = (a1 : Int) + (N : Int) := by omega
        rw [e1] at hcutM
        have e2 : (l.take (a1 + N)).drop a1 = (l.drop a1).take N := by
          rw [List.drop_take, show a1 + N - a1 = N by omega]
        rw [e2] at hM3
        have hconv := fun q => conv_by hM3 q
        have hconv0 := conv_at hM3
        have S3 := HS2.out.set1 (x := (a1 : Int) + (N : Int)) (k := a1 + N) e1.symm
        have G3 := gtrans G2.out (grown_set (w1.drewN q) g 1 (.int .i64 ((a1 : Int) + (N : Int))))
        have HS3 := hide S3
        have HG3 := hide G3
        have HA1 := hide ha1
        clear S3 G3 hm3 hd3 e1 e2 B3 HB1 HBY hM3 ha1 HS2 G2 HS1 G1 hat hKi
        go_wp2_with fail
        go_quiet (fail)
        go_wp2
        go_ret2
        exact ⟨by rw [HA1.out]; rfl, by rw [HA1.out]; exact HS3.out, grown_drewN HG3.out _⟩

set_option maxRecDepth 200000 in
set_option maxHeartbeats 400000 in
/-- Scan.Number. -/
theorem scanNumber_any {w : World} {g : Nat} {p : Option Addr} {n c at_ E0 : Nat} {l : List UInt8} (hS : Sc w g (.slice p n c) at_ E0) (hby : By w (.slice p n c) l) (hat : at_ ≤ n)
    {N A E : Nat} (hT : (if E0 ≠ 0 then (0, at_, E0) else ((readNum (l.drop at_)).1, at_ + (readNum (l.drop at_)).2.1, (readNum (l.drop at_)).2.2)) = (N, A, E)) :
    Calls Tryz.prog 75 #[.pointer (some ⟨g, 0, none⟩)] w (ScPost w g (.slice p n c) A E (.int .i64 N)) := by
  have h2 := hS.c2
  have h3 := hS.c3
  have HS := hide hS
  have HBY := hide hby
  have HT := hide hT
  clear hS hby hT
  by_cases h0 : E0 ≠ 0
  · have g1 : ((E0 : Int) != 0) = true := by simp; omega
    have ht := HT.out
    rw [if_pos h0] at ht
    simp only [Prod.mk.injEq] at ht
    obtain ⟨rfl, rfl, rfl⟩ := ht
    clear HT h0
    go_enter Tryz.func75, Tryz.ntmps75
    go_wp2_with fail
    refine (err_any h2 h3).mono ?_
    rintro e w1 ⟨rfl, rfl⟩
    go_wp2
    go_ret
    exact ⟨rfl, HS.out, World.grownBy.refl _ _⟩
  · obtain rfl : E0 = 0 := by omega
    have ht := HT.out
    rw [if_neg h0] at ht
    obtain ⟨N', K, e0, hR⟩ : ∃ N K e0, readNum (l.drop at_) = (N, K, e0) := ⟨_, _, _, rfl⟩
    rw [hR] at ht
    simp only [Prod.mk.injEq] at ht
    obtain ⟨rfl, rfl, rfl⟩ := ht
    have HR := hide hR
    clear HT h0 hR
    go_enter Tryz.func75, Tryz.ntmps75
    go_wp2_with fail
    refine (err_any h2 h3).mono ?_
    rintro e w1 ⟨rfl, rfl⟩
    go_wp2_with fail
    refine (number_any HS.out rfl rfl HBY.out hat HR.out).mono ?_
    rintro e w1 ⟨rfl, hh, hg⟩
    have S1 : Sc w1 g (.slice p n c) (at_ + K) 0 := hh
    have d2 := S1.c2
    have f2 := S1.fr 2
    have G1 := hide hg
    have HS1 := hide S1
    clear hh hg S1 h2 h3
    go_wp2
    go_ret
    exact ⟨rfl, HS1.out.set2 rfl, gtrans G1.out (grown_set _ _ _ _)⟩

set_option maxRecDepth 200000 in
set_option maxHeartbeats 400000 in
/-- Scan.Text. -/
theorem scanText_any {w : World} {g : Nat} {p : Option Addr} {n c at_ E0 : Nat} {l : List UInt8} (hS : Sc w g (.slice p n c) at_ E0) (hby : By w (.slice p n c) l) (hne : l = [] ∨ ∀ k, (Value.slice p n c).ownBlock = some k → some g ≠ some k) (hat : at_ ≤ n)
    (most : Int) (M : Nat) (hM : max most 0 = (M : Int)) {T : List UInt8} {A E : Nat} (hT : (if E0 ≠ 0 then ([], at_, E0) else textP l at_ M) = (T, A, E)) :
    Calls Tryz.prog 77 #[.pointer (some ⟨g, 0, none⟩), .int .i64 most] w (ScPost w g (.slice p n c) A E (.string (str T))) := by
  have h2 := hS.c2
  have h3 := hS.c3
  have HS := hide hS
  have HBY := hide hby
  have HT := hide hT
  clear hS hby hT
  by_cases h0 : E0 ≠ 0
  · have g1 : ((E0 : Int) != 0) = true := by simp; omega
    have ht := HT.out
    rw [if_pos h0] at ht
    simp only [Prod.mk.injEq] at ht
    obtain ⟨rfl, rfl, rfl⟩ := ht
    clear HT h0
    go_enter Tryz.func77, Tryz.ntmps77
    go_wp2_with fail
    refine (err_any h2 h3).mono ?_
    rintro e w1 ⟨rfl, rfl⟩
    go_wp2
    go_ret
    exact ⟨rfl, HS.out, World.grownBy.refl _ _⟩
  · obtain rfl : E0 = 0 := by omega
    have ht := HT.out
    rw [if_neg h0] at ht
    have HT' := hide ht
    clear HT h0 ht
    go_enter Tryz.func77, Tryz.ntmps77
    go_wp2_with fail
    refine (err_any h2 h3).mono ?_
    rintro e w1 ⟨rfl, rfl⟩
    go_wp2_with fail
    refine (stext_any HS.out HBY.out hne hat most M hM HT'.out).mono ?_
    rintro e w1 ⟨rfl, S1, hg⟩
    have d2 := S1.c2
    have f2 := S1.fr 2
    have G1 := hide hg
    have HS1 := hide S1
    clear hg S1 h2 h3
    go_wp2
    go_ret
    exact ⟨rfl, HS1.out.set2 rfl, gtrans G1.out (grown_set _ _ _ _)⟩

/-- What End tells. -/
def endE (at_ n E : Nat) : Nat := if E ≠ 0 then E else if at_ < n then 3 else 0

set_option maxRecDepth 200000 in
set_option maxHeartbeats 400000 in
/-- Scan.End. -/
theorem scanEnd_any {w : World} {g : Nat} {p : Option Addr} {n c at_ E0 : Nat} (hS : Sc w g (.slice p n c) at_ E0) (hat : at_ ≤ n) (hn : (n : Int) ≤ 9223372036854775807) {E : Nat} (hE : endE at_ n E0 = E) :
    Calls Tryz.prog 100 #[.pointer (some ⟨g, 0, none⟩)] w (ScPost w g (.slice p n c) at_ E (.int .i64 E)) := by
  have h0 := hS.c0
  have h1 := hS.c1
  have h2 := hS.c2
  have h3 := hS.c3
  have f2 := hS.fr 2
  have HS := hide hS
  have HE := hide hE
  clear hS hE
  by_cases he : E0 ≠ 0
  · have g1 : ((E0 : Int) != 0) = true := by simp; omega
    have hE := HE.out
    unfold endE at hE
    rw [if_pos he] at hE
    subst hE
    clear HE he
    go_enter Tryz.func100, Tryz.ntmps100
    go_wp2_with fail
    refine (err_any h2 h3).mono ?_
    rintro e w1 ⟨rfl, rfl⟩
    go_wp2
    go_ret
    exact ⟨rfl, HS.out, World.grownBy.refl _ _⟩
  · obtain rfl : E0 = 0 := by omega
    have hE := HE.out
    unfold endE at hE
    rw [if_neg he] at hE
    by_cases hm : at_ < n
    · rw [if_pos hm] at hE
      subst hE
      clear HE he
      have g2 : (0 : Int) < (n : Int) - (at_ : Int) := by omega
      go_enter Tryz.func100, Tryz.ntmps100
      go_wp2_with fail
      refine (err_any h2 h3).mono ?_
      rintro e w1 ⟨rfl, rfl⟩
      go_wp2_with fail
      refine (left_any h0 h1 hat hn).mono ?_
      rintro e w1 ⟨rfl, q, rfl⟩
      have HS1 : Hid (Sc (w.drewN q) g (.slice p n c) at_ 0) := HS
      go_wp2
      go_ret
      exact ⟨rfl, HS1.out.set2 rfl, gtrans (grown_drewN (World.grownBy.refl _ _) _) (grown_set _ _ _ _)⟩
    · rw [if_neg hm] at hE
      subst hE
      clear HE he
      have g2 : ¬ (0 : Int) < (n : Int) - (at_ : Int) := by omega
      go_enter Tryz.func100, Tryz.ntmps100
      go_wp2_with fail
      refine (err_any h2 h3).mono ?_
      rintro e w1 ⟨rfl, rfl⟩
      go_wp2_with fail
      refine (left_any h0 h1 hat hn).mono ?_
      rintro e w1 ⟨rfl, q, rfl⟩
      have HS1 : Hid (Sc (w.drewN q) g (.slice p n c) at_ 0) := HS
      go_wp2
      go_ret
      exact ⟨rfl, HS1.out, grown_drewN (World.grownBy.refl _ _) _⟩

set_option maxRecDepth 200000 in
set_option maxHeartbeats 400000 in
/-- Over: a scan over a copy. -/
theorem over_any {w : World} {v : Value} {l : List UInt8} (hv : By w v l) (hl : l.length ≤ 140737488355328) :
    Calls Tryz.prog 48 #[v] w fun e w' => ∃ (g : Nat) (u : Value), e = .returned (.pointer (some ⟨g, 0, none⟩)) ∧ w.heap.size ≤ g ∧ Sc w' g u 0 0 ∧ Own w.heap.size w' u l ∧ (l = [] ∨ ∀ k, u.ownBlock = some k → some g ≠ some k) ∧ Below w.heap.size w w' := by
  obtain ⟨p, n, c, rfl⟩ := hv.sl
  have HV := hide hv
  clear hv
  go_enter Tryz.func48, Tryz.ntmps48
  go_wp2_with fail
  refine (clone_any HV.out hl).mono ?_
  rintro e w1 ⟨v1, rfl, ho, hb⟩
  obtain ⟨p1, n1, c1, rfl⟩ := ho.by_.sl
  have HO := hide ho
  have HB := hide hb
  clear ho hb
  go_wp2
  go_ret
  exact ⟨w1.heap.size, _, rfl, HB.out.size, heap_alloc_new _ _, HO.out.below ((Below.refl _ _).alloc (Nat.le_refl _) _), HO.out.notNew, HB.out.alloc HB.out.size _⟩

/-- The document's scan in the block g. -/
def refC (v : Value) (at_ E : Nat) : Array Value := #[v, .int .i64 (at_ : Int), .int .i64 (E : Int)]

def Sr (w : World) (g : Nat) (v : Value) (at_ E : Nat) : Prop := w.heap[g]? = some (.cells (refC v at_ E) 86 (0, 0))

theorem Sr.c0 {w : World} {g : Nat} {v : Value} {at_ E : Nat} (h : Sr w g v at_ E) : w.cell? ⟨g, 0, none⟩ = some v := by rw [cell_of_row w g 0 _ 86 (0, 0) h]; rfl

theorem Sr.c1 {w : World} {g : Nat} {v : Value} {at_ E : Nat} (h : Sr w g v at_ E) : w.cell? ⟨g, 1, none⟩ = some (.int .i64 (at_ : Int)) := by rw [cell_of_row w g 1 _ 86 (0, 0) h]; rfl

theorem Sr.c2 {w : World} {g : Nat} {v : Value} {at_ E : Nat} (h : Sr w g v at_ E) : w.cell? ⟨g, 2, none⟩ = some (.int .i64 (E : Int)) := by rw [cell_of_row w g 2 _ 86 (0, 0) h]; rfl

theorem Sr.fr {w : World} {g : Nat} {v : Value} {at_ E : Nat} (h : Sr w g v at_ E) (i : Nat) : w.frozen? ⟨g, i, none⟩ = false := frozen_of_row w g i _ 86 h

theorem Sr.lt {w : World} {g : Nat} {v : Value} {at_ E : Nat} (h : Sr w g v at_ E) : g < w.heap.size := lt_of_cell h.c0

theorem Sr.set1 {w : World} {g : Nat} {v : Value} {at_ E : Nat} (h : Sr w g v at_ E) {x : Int} {k : Nat} (e : x = (k : Int)) : Sr (w.setCell ⟨g, 1, none⟩ (.int .i64 x)) g v k E := by
  have := heap_setCell_same w g 1 _ 86 (.int .i64 x) h
  unfold Sr
  rw [this, e]
  rfl

theorem Sr.set2 {w : World} {g : Nat} {v : Value} {at_ E : Nat} (h : Sr w g v at_ E) {x : Int} {k : Nat} (e : x = (k : Int)) : Sr (w.setCell ⟨g, 2, none⟩ (.int .i64 x)) g v at_ k := by
  have := heap_setCell_same w g 2 _ 86 (.int .i64 x) h
  unfold Sr
  rw [this, e]
  rfl

def SrPost (w : World) (g : Nat) (v : Value) (at_ E : Nat) (r : Value) (e : Ending) (w' : World) : Prop := e = .returned r ∧ Sr w' g v at_ E ∧ w.grownBy w' (some g)

set_option maxRecDepth 200000 in
set_option maxHeartbeats 1000000 in
/-- The document's Number. -/
theorem refScanNumber_any {w : World} {g : Nat} {p : Option Addr} {n c at_ E0 : Nat} {l : List UInt8} (hS : Sr w g (.slice p n c) at_ E0) (hby : By w (.slice p n c) l) (hat : at_ ≤ n)
    {N A E : Nat} (hT : (if E0 ≠ 0 then (0, at_, E0) else ((readNum (l.drop at_)).1, at_ + (readNum (l.drop at_)).2.1, (readNum (l.drop at_)).2.2)) = (N, A, E)) :
    Calls Tryz.prog 49 #[.pointer (some ⟨g, 0, none⟩)] w (SrPost w g (.slice p n c) A E (.int .i64 N)) := by
  have h0 := hS.c0
  have h1 := hS.c1
  have h2 := hS.c2
  have hmm := hby.lenMax
  have hn := hby.len.1
  have HS := hide hS
  have HBY := hide hby
  have HT := hide hT
  have HN := hide hn
  clear hS hby hT hn
  by_cases he : E0 ≠ 0
  · have g1 : ((E0 : Int) != 0) = true := by simp; omega
    have ht := HT.out
    rw [if_pos he] at ht
    simp only [Prod.mk.injEq] at ht
    obtain ⟨rfl, rfl, rfl⟩ := ht
    clear HT he
    go_enter Tryz.func49, Tryz.ntmps49
    go_wp2
    go_ret
    exact ⟨rfl, HS.out, World.grownBy.refl _ _⟩
  · obtain rfl : E0 = 0 := by omega
    have ht := HT.out
    rw [if_neg he] at ht
    obtain ⟨N', K, e0, hR⟩ : ∃ N K e0, readNum (l.drop at_) = (N, K, e0) := ⟨_, _, _, rfl⟩
    rw [hR] at ht
    simp only [Prod.mk.injEq] at ht
    obtain ⟨rfl, rfl, rfl⟩ := ht
    have hk := readNum_any hR
    rw [List.length_drop, ← HN.out] at hk
    have hsum : (at_ : Int) + (K : Int) ≤ 9223372036854775807 := by omega
    have hat' : (at_ : Int) ≤ (n : Int) := by omega
    obtain ⟨q, hcut, hF⟩ := cut_from HBY.out hat
    obtain ⟨m1, hm1⟩ : ∃ m1, n - at_ = m1 := ⟨_, rfl⟩
    obtain ⟨d1, hd1⟩ : ∃ d1, c - at_ = d1 := ⟨_, rfl⟩
    rw [hm1, hd1] at hF
    simp only [hm1, hd1] at hcut
    have HR := hide hR
    have HF := hide hF
    have f1 := HS.out.fr 1
    have f2 := HS.out.fr 2
    clear HT he hR hm1 hd1 hF hk
    go_enter Tryz.func49, Tryz.ntmps49
    go_wp2_with fail
    go_quiet ((go_at_call 80; refine quiet_same (refRead_any (HF.out.drewN _) HR.out)))
    have HS1 : Hid (Sr (w.drewN nq) g (.slice p n c) at_ 0) := HS
    go_wp2
    go_ret
    exact ⟨rfl, (HS1.out.set1 (by omega)).set2 rfl, gtrans (grown_drewN (World.grownBy.refl _ _) _) (gtrans (grown_set _ _ _ _) (grown_set _ _ _ _))⟩

set_option maxRecDepth 200000 in
set_option maxHeartbeats 1000000 in
/-- The document's Text. -/
theorem refScanText_any {w : World} {g : Nat} {p : Option Addr} {n c at_ E0 : Nat} {l : List UInt8} (hS : Sr w g (.slice p n c) at_ E0) (hby : By w (.slice p n c) l) (hne : l = [] ∨ ∀ k, (Value.slice p n c).ownBlock = some k → some g ≠ some k) (hat : at_ ≤ n)
    (most : Int) (M : Nat) (hM : max most 0 = (M : Int)) {T : List UInt8} {A E : Nat} (hT : (if E0 ≠ 0 then ([], at_, E0) else textP l at_ M) = (T, A, E)) :
    Calls Tryz.prog 51 #[.pointer (some ⟨g, 0, none⟩), .int .i64 most] w (SrPost w g (.slice p n c) A E (.string (str T))) := by
  have h0 := hS.c0
  have h1 := hS.c1
  have h2 := hS.c2
  have hmm := hby.lenMax
  have hn := hby.len.1
  have HS := hide hS
  have HBY := hide hby
  have HNE := hide hne
  have HT := hide hT
  have HN := hide hn
  clear hS hby hT hn hne
  by_cases he : E0 ≠ 0
  · have g1 : ((E0 : Int) != 0) = true := by simp; omega
    have ht := HT.out
    rw [if_pos he] at ht
    simp only [Prod.mk.injEq] at ht
    obtain ⟨rfl, rfl, rfl⟩ := ht
    clear HT he
    go_enter Tryz.func51, Tryz.ntmps51
    go_wp2
    go_ret
    exact ⟨rfl, HS.out, World.grownBy.refl _ _⟩
  · obtain rfl : E0 = 0 := by omega
    have ht := HT.out
    rw [if_neg he] at ht
    obtain ⟨N, K, e0, hR⟩ : ∃ N K e0, readNum (l.drop at_) = (N, K, e0) := ⟨_, _, _, rfl⟩
    unfold textP at ht
    rw [hR] at ht
    dsimp only at ht
    have hk := readNum_any hR
    rw [List.length_drop, ← HN.out] at hk
    have hsum : (at_ : Int) + (K : Int) ≤ (n : Int) := by omega
    have hN9 : (N : Int) ≤ 9223372036854775807 := by omega
    have hat' : (at_ : Int) ≤ (n : Int) := by omega
    obtain ⟨q, hcut, hF⟩ := cut_from HBY.out hat
    obtain ⟨m1, hm1⟩ : ∃ m1, n - at_ = m1 := ⟨_, rfl⟩
    obtain ⟨d1, hd1⟩ : ∃ d1, c - at_ = d1 := ⟨_, rfl⟩
    rw [hm1, hd1] at hF
    simp only [hm1, hd1] at hcut
    have HR := hide hR
    have HF := hide hF
    have HT' := hide ht
    have f1 := HS.out.fr 1
    have f2 := HS.out.fr 2
    clear HT he hR hm1 hd1 hF hk ht
    by_cases he0 : e0 ≠ 0
    · have g1 : ((e0 : Int) != 0) = true := by simp; omega
      have ht := HT'.out
      unfold textB at ht
      rw [if_pos he0] at ht
      simp only [Prod.mk.injEq] at ht
      obtain ⟨rfl, rfl, rfl⟩ := ht
      clear HT' he0
      go_enter Tryz.func51, Tryz.ntmps51
      go_wp2_with fail
      go_quiet ((go_at_call 80; refine quiet_same (refRead_any (HF.out.drewN _) HR.out)))
      have HS1 : Hid (Sr (w.drewN nq) g (.slice p n c) at_ 0) := HS
      go_wp2
      go_ret
      exact ⟨rfl, HS1.out.set2 rfl, gtrans (grown_drewN (World.grownBy.refl _ _) _) (grown_set _ _ _ _)⟩
    · obtain rfl : e0 = 0 := by omega
      by_cases hbig : M < N
      · have ht := HT'.out
        unfold textB at ht
        rw [if_neg he0, if_pos hbig] at ht
        simp only [Prod.mk.injEq] at ht
        obtain ⟨rfl, rfl, rfl⟩ := ht
        have g4 : most < (N : Int) := by omega
        have g5 : (0 : Int) < (N : Int) := by omega
        clear HT' he0
        go_enter Tryz.func51, Tryz.ntmps51
        go_wp2_with fail
        go_quiet ((go_at_call 80; refine quiet_same (refRead_any (HF.out.drewN _) HR.out)))
        have HS1 : Hid (Sr (w.drewN nq) g (.slice p n c) at_ 0) := HS
        go_wp2
        go_ret
        exact ⟨rfl, HS1.out.set2 rfl, gtrans (grown_drewN (World.grownBy.refl _ _) _) (grown_set _ _ _ _)⟩
      · have g4 : ¬ most < (N : Int) ∨ most < (N : Int) ∧ decide ((0 : Int) < (N : Int)) = false := by
          by_cases h : most < (N : Int)
          · exact .inr ⟨h, decide_eq_false (by omega)⟩
          · exact .inl h
        clear he0
        by_cases hlen : (n : Int) - (at_ : Int) - (K : Int) < (N : Int)
        · have ht := HT'.out
          unfold textB at ht
          rw [if_neg (by simp), if_neg hbig, if_pos (by have := HN.out; omega)] at ht
          simp only [Prod.mk.injEq] at ht
          obtain ⟨rfl, rfl, rfl⟩ := ht
          clear HT'
          replace g4 : ¬ most < (N : Int) := by
            rcases g4 with g4 | ⟨g4, g5⟩
            · exact g4
            · have := of_decide_eq_false g5
              omega
          all_goals
            go_enter Tryz.func51, Tryz.ntmps51
            go_wp2_with fail
            go_quiet ((go_at_call 80; refine quiet_same (refRead_any (HF.out.drewN _) HR.out)))
            revert nq
            intro q1
            go_wp2_with fail
            go_quiet (fail)
            revert nq
            intro q2
            have HS1 : Hid (Sr (w.drewN (q1 + q2)) g (.slice p n c) at_ 0) := HS
            go_wp2
            go_ret
            exact ⟨rfl, HS1.out.set2 rfl, gtrans (grown_drewN (World.grownBy.refl _ _) _) (grown_set _ _ _ _)⟩
        · have ht := HT'.out
          unfold textB at ht
          rw [if_neg (by simp), if_neg hbig, if_neg (by have := HN.out; omega)] at ht
          simp only [Prod.mk.injEq] at ht
          obtain ⟨rfl, rfl, rfl⟩ := ht
          clear HT'
          obtain ⟨a2, ha2⟩ : ∃ a2, at_ + K = a2 := ⟨_, rfl⟩
          obtain ⟨a1, ha1⟩ : ∃ a1, at_ + K + N = a1 := ⟨_, rfl⟩
          have e1 : (at_ : Int) + ((K : Int) + (N : Int)) = (a1 : Int) := by omega
          have e2 : (a1 : Int) - (N : Int) = (a2 : Int) := by omega
          have han : (a1 : Int) ≤ (n : Int) := by omega
          have e3 : IntKind.i64.wrap (a2 : Int) = (a2 : Int) := by rw [IntKind.wrap_i64]; omega
          have hb1 : (K : Int) + (N : Int) ≤ 9223372036854775807 := by omega
          have hb2 : (at_ : Int) + ((K : Int) + (N : Int)) ≤ 9223372036854775807 := by omega
          rcases g4 with g4 | ⟨g4, g5⟩
          all_goals
            go_enter Tryz.func51, Tryz.ntmps51
            go_wp2_with fail
            go_quiet ((go_at_call 80; refine quiet_same (refRead_any (HF.out.drewN _) HR.out)))
            revert nq
            intro q1
            go_wp2_with fail
            go_quiet (fail)
            revert nq
            intro q2
            have HS1 : Hid (Sr (w.drewN (q1 + q2)) g (.slice p n c) at_ 0) := HS
            go_wp2_with fail
            have B3 := (HBY.out.drewN (q1 + q2)).grown (grown_set (w.drewN (q1 + q2)) g 1 (.int .i64 (a1 : Int))) HNE.out
            obtain ⟨q3, hcutM, hM3⟩ := cut_mid (j := a2) (k := a1) B3 (by omega) (by omega)
            obtain ⟨m3, hm3⟩ : ∃ m3, a1 - a2 = m3 := ⟨_, rfl⟩
            obtain ⟨d3, hd3⟩ : ∃ d3, c - a2 = d3 := ⟨_, rfl⟩
            rw [hm3, hd3] at hM3
            simp only [hm3, hd3] at hcutM
            rw [show (l.take a1).drop a2 = (l.drop a2).take N by rw [List.drop_take, show a1 - a2 = N by omega]] at hM3
            have hc0 := conv_at hM3
            have hc1 := fun q => conv_by hM3 q
            have HS2 := hide (HS1.out.set1 (x := (a1 : Int)) rfl)
            clear B3 hm3 hd3 hM3 HS1
            go_quiet (fail)
            go_wp2
            go_ret
            refine ⟨by rw [ha2]; rfl, by rw [ha1]; exact HS2.out, grown_drewN (gtrans (grown_drewN (World.grownBy.refl _ _) _) (grown_set _ _ _ _)) _⟩
end Go.Proofs.YtimjplkehlgelaaGreat
