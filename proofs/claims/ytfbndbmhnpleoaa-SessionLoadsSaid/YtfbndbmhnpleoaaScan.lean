/- A scan: the program's, and the document's. -/
import Derived.Test.YtfbndbmhnpleoaaPlain
import Derived.Deep.RegionHeld3
import Derived.Deep.DrawnRows
import Derived.Laws.StructEq
import Derived.Maps.AppendAt
import Derived.BigGuard
namespace Go.Proofs.Ytfbndbmhnpleoaa
set_option linter.unusedVariables false
set_option linter.unusedSimpArgs false
open Go.RowKit

/-- Bytes as a text. -/
def str (l : List UInt8) : ByteArray := strOfNums (Lib.numsL l)

theorem str_eq (l : List UInt8) : str l = ⟨l.toArray⟩ := by
  show (⟨(Lib.bytesOf (Lib.numsL l)).toArray⟩ : ByteArray) = _
  rw [Lib.bytesOf_numsL]

theorem str_inj {a b : List UInt8} : str a = str b ↔ a = b := by
  rw [str_eq, str_eq]
  simp

theorem str_beq (a b : List UInt8) : ((str a).toList == (str b).toList) = decide (a = b) := by
  rw [← beq_toListBytes, Bool.eq_iff_iff, str_eq, str_eq, decide_eq_true_eq]
  show (a.toArray == b.toArray) = true ↔ a = b
  simp

theorem conv_by {w : World} {p : Option Addr} {n c : Nat} {l : List UInt8} (h : By w (.slice p n c) l) (q : Nat) : (convert 22 9 (.slice p n c)).run Try.prog (w.drewN q) = .ok (.string (str l)) (w.drewN q) := by
  have h' : By (w.drewN q) (.slice p n c) l := h
  obtain ⟨b, hl⟩ := h'.bytesIn
  exact b.convert hl c 22 5 9 Try.underlying22 Try.underlying5 Try.underlying9

/-- A value's bytes stay where another row alone is written. -/
theorem By.grown {w w' : World} {v : Value} {l : List UInt8} {row : Option Nat} (h : By w v l) (hg : w.grownBy w' row) (hne : l = [] ∨ ∀ k, v.ownBlock = some k → row ≠ some k) : By w' v l := by
  obtain ⟨p, cap, rfl, hl, hm, hn, hc⟩ := h
  refine ⟨p, cap, rfl, hl, hm, hn, fun a e i x hx => ?_⟩
  rcases hne with rfl | hne
  · simp at hx
  · subst e
    refine hg.cell (hc a rfl i x hx) ?_
    rw [block_add]
    exact fun e => hne a.block rfl e.symm

/-- The cells of the program's scan. -/
def scanC (v : Value) (at_ E : Nat) : Array Value := #[v, .int .i64 (at_ : Int), .int .i64 (E : Int), .bool true]

/-- The program's scan in the block g: over v, at its place, with its error. -/
def Sc (w : World) (g : Nat) (v : Value) (at_ E : Nat) : Prop := w.heap[g]? = some (.cells (scanC v at_ E) 75 (0, 0))

theorem Sc.c0 {w : World} {g : Nat} {v : Value} {at_ E : Nat} (h : Sc w g v at_ E) : w.cell? ⟨g, 0, none⟩ = some v := by rw [cell_of_row w g 0 _ 75 (0, 0) h]; rfl

theorem Sc.c1 {w : World} {g : Nat} {v : Value} {at_ E : Nat} (h : Sc w g v at_ E) : w.cell? ⟨g, 1, none⟩ = some (.int .i64 (at_ : Int)) := by rw [cell_of_row w g 1 _ 75 (0, 0) h]; rfl

theorem Sc.c2 {w : World} {g : Nat} {v : Value} {at_ E : Nat} (h : Sc w g v at_ E) : w.cell? ⟨g, 2, none⟩ = some (.int .i64 (E : Int)) := by rw [cell_of_row w g 2 _ 75 (0, 0) h]; rfl

theorem Sc.c3 {w : World} {g : Nat} {v : Value} {at_ E : Nat} (h : Sc w g v at_ E) : w.cell? ⟨g, 3, none⟩ = some (.bool true) := by rw [cell_of_row w g 3 _ 75 (0, 0) h]; rfl

theorem Sc.fr {w : World} {g : Nat} {v : Value} {at_ E : Nat} (h : Sc w g v at_ E) (i : Nat) : w.frozen? ⟨g, i, none⟩ = false := frozen_of_row w g i _ 75 h

theorem Sc.lt {w : World} {g : Nat} {v : Value} {at_ E : Nat} (h : Sc w g v at_ E) : g < w.heap.size := lt_of_cell h.c0

theorem Sc.set1 {w : World} {g : Nat} {v : Value} {at_ E : Nat} (h : Sc w g v at_ E) {x : Int} {k : Nat} (e : x = (k : Int)) : Sc (w.setCell ⟨g, 1, none⟩ (.int .i64 x)) g v k E := by
  have := heap_setCell_same w g 1 _ 75 (.int .i64 x) h
  unfold Sc
  rw [this, e]
  rfl

theorem Sc.set2 {w : World} {g : Nat} {v : Value} {at_ E : Nat} (h : Sc w g v at_ E) {x : Int} {k : Nat} (e : x = (k : Int)) : Sc (w.setCell ⟨g, 2, none⟩ (.int .i64 x)) g v at_ k := by
  have := heap_setCell_same w g 2 _ 75 (.int .i64 x) h
  unfold Sc
  rw [this, e]
  rfl

theorem grown_set (w : World) (g i : Nat) (x : Value) : w.grownBy (w.setCell ⟨g, i, none⟩ x) (some g) :=
  ⟨rfl, rfl, rfl, by simp [World.setCell], fun j _ hj => heap_setCell_other w ⟨g, i, none⟩ j _ (fun e => hj (by rw [e]))⟩

/-- What a read of a scan's block leaves. -/
def ScPost (w : World) (g : Nat) (v : Value) (at_ E : Nat) (r : Value) (e : Ending) (w' : World) : Prop := e = .returned r ∧ Sc w' g v at_ E ∧ w.grownBy w' (some g)

theorem rd_bad : ∀ (l : List UInt8) (i z : Nat) {n k e : Nat}, rd l i z = (n, k, e) → e ≠ 0 → n = 0 ∧ k = 0
  | [], i, z, n, k, e, h, he => by simp only [rd, Prod.mk.injEq] at h; omega
  | x :: r, i, z, n, k, e, h, he => by
    rw [rd_cons] at h
    split at h
    · simp only [Prod.mk.injEq] at h; omega
    · split at h
      · simp only [Prod.mk.injEq] at h; omega
      · split at h
        · simp only [Prod.mk.injEq] at h; omega
        · exact rd_bad r _ _ h he

theorem readNum_bad {l : List UInt8} {n k e : Nat} (h : readNum l = (n, k, e)) (he : e ≠ 0) : n = 0 ∧ k = 0 := rd_bad l 0 0 h he

/-- What readNum says of its parts, whatever it says. -/
theorem readNum_any {l : List UInt8} {n k e : Nat} (h : readNum l = (n, k, e)) : k ≤ l.length ∧ n < 9223372036854775808 ∧ k ≤ 9 := by
  by_cases he : e = 0
  · subst he
    obtain ⟨h1, h2, _, h4⟩ := readNum_form h
    refine ⟨h1, Nat.lt_of_lt_of_le h4 ?_, h2⟩
    exact Nat.le_trans (Nat.pow_le_pow_right (by decide) h2) (by decide)
  · obtain ⟨rfl, rfl⟩ := readNum_bad h he
    exact ⟨Nat.zero_le _, by decide, by omega⟩

/-- A text of at most so many bytes, at a place: the text, the place behind, the error. -/
def textB (l : List UInt8) (at_ most N K E : Nat) : List UInt8 × Nat × Nat :=
  if E ≠ 0 then ([], at_, E) else if most < N then ([], at_, 4) else if l.length < at_ + K + N then ([], at_, 2) else ((l.drop (at_ + K)).take N, at_ + K + N, 0)

def textP (l : List UInt8) (at_ most : Nat) : List UInt8 × Nat × Nat := textB l at_ most (readNum (l.drop at_)).1 (readNum (l.drop at_)).2.1 (readNum (l.drop at_)).2.2

set_option maxRecDepth 200000 in
set_option maxHeartbeats 400000 in
/-- Scan.Err. -/
theorem err_any {w : World} {g : Nat} {E : Nat} (h2 : w.cell? ⟨g, 2, none⟩ = some (.int .i64 (E : Int))) (h3 : w.cell? ⟨g, 3, none⟩ = some (.bool true)) :
    Calls Try.prog 30 #[.pointer (some ⟨g, 0, none⟩)] w fun e w' => e = .returned (.int .i64 (E : Int)) ∧ w = w' := by
  go_enter Try.func30, Try.ntmps30
  go_wp2
  go_ret
  exact ⟨rfl, rfl⟩

theorem str_nil : str [] = ByteArray.empty := rfl

theorem conv_at {w : World} {p : Option Addr} {n c : Nat} {l : List UInt8} (h : By w (.slice p n c) l) : (convert 22 9 (.slice p n c)).run Try.prog w = .ok (.string (str l)) w := conv_by h 0

theorem quiet_same {f : FuncId} {args : Array Value} {w : World} {n : Nat} {v : Value}
    (h : Calls Try.prog f args (w.drewN n) fun e w' => e = .returned v ∧ w.drewN n = w') : Calls Try.prog f args (w.drewN n) fun e w'' => e = .returned v ∧ ∃ m, w'' = w.drewN m :=
  h.mono fun _ _ ⟨he, hm⟩ => ⟨he, n, hm.symm⟩

/-- What is owned lies in no block that is still to come. -/
theorem Own.notNew {B : Nat} {w : World} {v : Value} {l : List UInt8} (h : Own B w v l) : l = [] ∨ ∀ k, v.ownBlock = some k → some w.heap.size ≠ some k := by
  rcases h with ⟨_, rfl⟩ | ⟨g, cap, rfl, _, _, _, hc, _⟩
  · exact .inl rfl
  · cases l with
    | nil => exact .inl rfl
    | cons x r =>
      refine .inr fun k hk e => ?_
      simp only [Value.ownBlock, Option.some.injEq] at hk
      injection e with e
      subst hk
      have := lt_of_cell (hc 0 x rfl)
      simp only at this
      omega

theorem gtrans {a b c : World} {row : Option Nat} (h : a.grownBy b row) (h' : b.grownBy c row) : a.grownBy c row :=
  ⟨h'.os.trans h.os, h'.tape.trans h.tape, h'.output.trans h.output, Nat.le_trans h.size h'.size, fun k hk hr => (h'.block k (Nat.lt_of_lt_of_le hk h.size) hr).trans (h.block k hk hr)⟩

set_option maxRecDepth 200000 in
set_option maxHeartbeats 400000 in
/-- Scan.Number. -/
theorem scanNumber_any {w : World} {g : Nat} {p : Option Addr} {n c at_ E0 : Nat} {l : List UInt8} (hS : Sc w g (.slice p n c) at_ E0) (hby : By w (.slice p n c) l) (hat : at_ ≤ n)
    {N A E : Nat} (hT : (if E0 ≠ 0 then (0, at_, E0) else ((readNum (l.drop at_)).1, at_ + (readNum (l.drop at_)).2.1, (readNum (l.drop at_)).2.2)) = (N, A, E)) :
    Calls Try.prog 17 #[.pointer (some ⟨g, 0, none⟩)] w (ScPost w g (.slice p n c) A E (.int .i64 N)) := by
  have h2 := hS.c2
  have h3 := hS.c3
  have HS := hide hS
  have HBY := hide hby
  have HT := hide hT
  clear hS hby hT
  by_cases h0 : E0 ≠ 0
  · have g1 : ((E0 : Int) != 0) = true := by simp; omega
    have ht := HT.out
    rw [if_pos h0] at ht
    simp only [Prod.mk.injEq] at ht
    obtain ⟨rfl, rfl, rfl⟩ := ht
    clear HT h0
    go_enter Try.func17, Try.ntmps17
    go_wp2_with fail
    refine (err_any h2 h3).mono ?_
    rintro e w1 ⟨rfl, rfl⟩
    go_wp2
    go_ret
    exact ⟨rfl, HS.out, World.grownBy.refl _ _⟩
  · obtain rfl : E0 = 0 := by omega
    have ht := HT.out
    rw [if_neg h0] at ht
    obtain ⟨N', K, e0, hR⟩ : ∃ N K e0, readNum (l.drop at_) = (N, K, e0) := ⟨_, _, _, rfl⟩
    rw [hR] at ht
    simp only [Prod.mk.injEq] at ht
    obtain ⟨rfl, rfl, rfl⟩ := ht
    have HR := hide hR
    clear HT h0 hR
    go_enter Try.func17, Try.ntmps17
    go_wp2_with fail
    refine (err_any h2 h3).mono ?_
    rintro e w1 ⟨rfl, rfl⟩
    go_wp2_with fail
    refine (number_any HS.out rfl rfl HBY.out hat HR.out).mono ?_
    rintro e w1 ⟨rfl, hh, hg⟩
    have S1 : Sc w1 g (.slice p n c) (at_ + K) 0 := hh
    have d2 := S1.c2
    have f2 := S1.fr 2
    have G1 := hide hg
    have HS1 := hide S1
    clear hh hg S1 h2 h3
    go_wp2
    go_ret
    exact ⟨rfl, HS1.out.set2 rfl, gtrans G1.out (grown_set _ _ _ _)⟩

/-- What End tells. -/
def endE (at_ n E : Nat) : Nat := if E ≠ 0 then E else if at_ < n then 3 else 0

set_option maxRecDepth 200000 in
set_option maxHeartbeats 400000 in
/-- Over: a scan over a copy. -/
theorem over_any {w : World} {v : Value} {l : List UInt8} (hv : By w v l) (hl : l.length ≤ 140737488355328) :
    Calls Try.prog 16 #[v] w fun e w' => ∃ (g : Nat) (u : Value), e = .returned (.pointer (some ⟨g, 0, none⟩)) ∧ w.heap.size ≤ g ∧ Sc w' g u 0 0 ∧ Own w.heap.size w' u l ∧ (l = [] ∨ ∀ k, u.ownBlock = some k → some g ≠ some k) ∧ Below w.heap.size w w' := by
  obtain ⟨p, n, c, rfl⟩ := hv.sl
  have HV := hide hv
  clear hv
  go_enter Try.func16, Try.ntmps16
  go_wp2_with fail
  refine (clone_any HV.out hl).mono ?_
  rintro e w1 ⟨v1, rfl, ho, hb⟩
  obtain ⟨p1, n1, c1, rfl⟩ := ho.by_.sl
  have HO := hide ho
  have HB := hide hb
  clear ho hb
  go_wp2
  go_ret
  exact ⟨w1.heap.size, _, rfl, HB.out.size, heap_alloc_new _ _, HO.out.below ((Below.refl _ _).alloc (Nat.le_refl _) _), HO.out.notNew, HB.out.alloc HB.out.size _⟩

/-- The document's scan in the block g. -/
def refC (v : Value) (at_ E : Nat) : Array Value := #[v, .int .i64 (at_ : Int), .int .i64 (E : Int)]

def Sr (w : World) (g : Nat) (v : Value) (at_ E : Nat) : Prop := w.heap[g]? = some (.cells (refC v at_ E) 60 (0, 0))

theorem Sr.c0 {w : World} {g : Nat} {v : Value} {at_ E : Nat} (h : Sr w g v at_ E) : w.cell? ⟨g, 0, none⟩ = some v := by rw [cell_of_row w g 0 _ 60 (0, 0) h]; rfl

theorem Sr.c1 {w : World} {g : Nat} {v : Value} {at_ E : Nat} (h : Sr w g v at_ E) : w.cell? ⟨g, 1, none⟩ = some (.int .i64 (at_ : Int)) := by rw [cell_of_row w g 1 _ 60 (0, 0) h]; rfl

theorem Sr.c2 {w : World} {g : Nat} {v : Value} {at_ E : Nat} (h : Sr w g v at_ E) : w.cell? ⟨g, 2, none⟩ = some (.int .i64 (E : Int)) := by rw [cell_of_row w g 2 _ 60 (0, 0) h]; rfl

theorem Sr.fr {w : World} {g : Nat} {v : Value} {at_ E : Nat} (h : Sr w g v at_ E) (i : Nat) : w.frozen? ⟨g, i, none⟩ = false := frozen_of_row w g i _ 60 h

theorem Sr.lt {w : World} {g : Nat} {v : Value} {at_ E : Nat} (h : Sr w g v at_ E) : g < w.heap.size := lt_of_cell h.c0

theorem Sr.set1 {w : World} {g : Nat} {v : Value} {at_ E : Nat} (h : Sr w g v at_ E) {x : Int} {k : Nat} (e : x = (k : Int)) : Sr (w.setCell ⟨g, 1, none⟩ (.int .i64 x)) g v k E := by
  have := heap_setCell_same w g 1 _ 60 (.int .i64 x) h
  unfold Sr
  rw [this, e]
  rfl

theorem Sr.set2 {w : World} {g : Nat} {v : Value} {at_ E : Nat} (h : Sr w g v at_ E) {x : Int} {k : Nat} (e : x = (k : Int)) : Sr (w.setCell ⟨g, 2, none⟩ (.int .i64 x)) g v at_ k := by
  have := heap_setCell_same w g 2 _ 60 (.int .i64 x) h
  unfold Sr
  rw [this, e]
  rfl

def SrPost (w : World) (g : Nat) (v : Value) (at_ E : Nat) (r : Value) (e : Ending) (w' : World) : Prop := e = .returned r ∧ Sr w' g v at_ E ∧ w.grownBy w' (some g)

set_option maxRecDepth 200000 in
set_option maxHeartbeats 1000000 in
/-- The document's Number. -/
theorem refScanNumber_any {w : World} {g : Nat} {p : Option Addr} {n c at_ E0 : Nat} {l : List UInt8} (hS : Sr w g (.slice p n c) at_ E0) (hby : By w (.slice p n c) l) (hat : at_ ≤ n)
    {N A E : Nat} (hT : (if E0 ≠ 0 then (0, at_, E0) else ((readNum (l.drop at_)).1, at_ + (readNum (l.drop at_)).2.1, (readNum (l.drop at_)).2.2)) = (N, A, E)) :
    Calls Try.prog 21 #[.pointer (some ⟨g, 0, none⟩)] w (SrPost w g (.slice p n c) A E (.int .i64 N)) := by
  have h0 := hS.c0
  have h1 := hS.c1
  have h2 := hS.c2
  have hmm := hby.lenMax
  have hn := hby.len.1
  have HS := hide hS
  have HBY := hide hby
  have HT := hide hT
  have HN := hide hn
  clear hS hby hT hn
  by_cases he : E0 ≠ 0
  · have g1 : ((E0 : Int) != 0) = true := by simp; omega
    have ht := HT.out
    rw [if_pos he] at ht
    simp only [Prod.mk.injEq] at ht
    obtain ⟨rfl, rfl, rfl⟩ := ht
    clear HT he
    go_enter Try.func21, Try.ntmps21
    go_wp2
    go_ret
    exact ⟨rfl, HS.out, World.grownBy.refl _ _⟩
  · obtain rfl : E0 = 0 := by omega
    have ht := HT.out
    rw [if_neg he] at ht
    obtain ⟨N', K, e0, hR⟩ : ∃ N K e0, readNum (l.drop at_) = (N, K, e0) := ⟨_, _, _, rfl⟩
    rw [hR] at ht
    simp only [Prod.mk.injEq] at ht
    obtain ⟨rfl, rfl, rfl⟩ := ht
    have hk := readNum_any hR
    rw [List.length_drop, ← HN.out] at hk
    have hsum : (at_ : Int) + (K : Int) ≤ 9223372036854775807 := by omega
    have hat' : (at_ : Int) ≤ (n : Int) := by omega
    obtain ⟨q, hcut, hF⟩ := cut_from HBY.out hat
    obtain ⟨m1, hm1⟩ : ∃ m1, n - at_ = m1 := ⟨_, rfl⟩
    obtain ⟨d1, hd1⟩ : ∃ d1, c - at_ = d1 := ⟨_, rfl⟩
    rw [hm1, hd1] at hF
    simp only [hm1, hd1] at hcut
    have HR := hide hR
    have HF := hide hF
    have f1 := HS.out.fr 1
    have f2 := HS.out.fr 2
    clear HT he hR hm1 hd1 hF hk
    go_enter Try.func21, Try.ntmps21
    go_wp2_with fail
    go_quiet ((go_at_call 36; refine quiet_same (refRead_any (HF.out.drewN _) HR.out)))
    have HS1 : Hid (Sr (w.drewN nq) g (.slice p n c) at_ 0) := HS
    go_wp2
    go_ret
    exact ⟨rfl, (HS1.out.set1 (by omega)).set2 rfl, gtrans (grown_drewN (World.grownBy.refl _ _) _) (gtrans (grown_set _ _ _ _) (grown_set _ _ _ _))⟩

end Go.Proofs.Ytfbndbmhnpleoaa
