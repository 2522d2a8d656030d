import Derived.Laws.OwnMore
import Derived.Maps.AppendAt
import Derived.Test.YtionbmlicmibgaaGreatDoorBase
import Derived.Test.YtionbmlicmibgaaGreatDoorS2
namespace Go.Proofs.YtionbmlicmibgaaGreatDoor
set_option linter.unusedVariables false
set_option linter.unusedSimpArgs false
def okFrom : Int → List Int → Bool
 | _, [] => true
 | lo, n :: r => decide (lo ≤ n) && decide (n < 7) && okFrom (n + 1) r
def okR (l : List Int) : Bool := !l.isEmpty && okFrom 0 l
theorem okFrom_mem : ∀ {lo : Int} {l : List Int}, okFrom lo l = true → ∀ x ∈ l, lo ≤ x ∧ x < 7
 | lo, [], _, x, hx => by cases hx
 | lo, n :: r, h, x, hx => by
  simp only [okFrom, Bool.and_eq_true, decide_eq_true_eq] at h
  rcases List.mem_cons.1 hx with rfl | hx
  ·exact ⟨h.1.1, h.1.2⟩
  ·have := okFrom_mem h.2 x hx
   omega
theorem okR_mem {l : List Int} (h : okR l = true) : ∀ x ∈ l, 0 ≤ x ∧ x < 7 := by
 simp only [okR, Bool.and_eq_true] at h
 exact okFrom_mem h.2
end Go.Proofs.YtionbmlicmibgaaGreatDoor
namespace Go.Proofs.YtionbmlicmibgaaGreatDoor
set_option linter.unusedVariables false
set_option linter.unusedSimpArgs false
open Go.RowKit
def fits (x : Int) : Prop := -9223372036854775808 ≤ x ∧ x ≤ 9223372036854775807
def Ns (w : World) (v : Value) (l : List Int) : Prop :=
 ∃ (p : Option Addr) (c : Nat), v = .slice p l.length c ∧ l.length ≤ c ∧ c ≤ maxLen ∧ (p = none → c = 0) ∧ (∀ x ∈ l, fits x) ∧
  (0 < l.length → ∃ g o, p = some ⟨g, o, none⟩ ∧ ∀ (i : Nat) x, l[i]? = some x → w.cell? ⟨g, o + i, none⟩ = some (.int .i64 x))
theorem Ns.nil (w : World) : Ns w (.slice none 0 0) [] := ⟨none, 0, rfl, Nat.le_refl _, by simp [maxLen], fun _ => rfl, by simp, fun h => absurd h (Nat.lt_irrefl _)⟩
theorem Ns.sl {w : World} {v : Value} {l : List Int} (h : Ns w v l) : ∃ p n c, v = .slice p n c := by
 obtain ⟨p, c, e, _⟩ := h
 exact ⟨p, _, c, e⟩
theorem Ns.len {w : World} {p : Option Addr} {n c : Nat} {l : List Int} (h : Ns w (.slice p n c) l) : n = l.length ∧ n ≤ c ∧ c ≤ maxLen := by
 obtain ⟨p', c', e, hl, hm, _⟩ := h
 injection e with _ e2 e3
 subst e2 e3
 exact ⟨rfl, hl, hm⟩
theorem Ns.at_ {w : World} {p : Option Addr} {n c : Nat} {l : List Int} (h : Ns w (.slice p n c) l) (hn : 0 < n) : ∃ g o, p = some ⟨g, o, none⟩ ∧ ∀ (i : Nat) x, l[i]? = some x → w.cell? ⟨g, o + i, none⟩ = some (.int .i64 x) := by
 obtain ⟨p', c', e, _, _, _, _, hx⟩ := h
 injection e with e1 e2 e3
 subst e1 e2
 exact hx hn
theorem Ns.fits {w : World} {v : Value} {l : List Int} (h : Ns w v l) : ∀ x ∈ l, fits x := by
 obtain ⟨_, _, _, _, _, _, hf, _⟩ := h
 exact hf
theorem Ns.below {w w' : World} {v : Value} {l : List Int} (h : Ns w v l) (hb : Below w.heap.size w w') : Ns w' v l := by
 obtain ⟨p, c, rfl, hl, hm, hn, hf, hx⟩ := h
 refine ⟨p, c, rfl, hl, hm, hn, hf, fun h0 => ?_⟩
 obtain ⟨g, o, e, hx⟩ := hx h0
 exact ⟨g, o, e, fun i x hi => (hb.cell (lt_of_cell (hx i x hi))).trans (hx i x hi)⟩
theorem Ns.drewN {w : World} {v : Value} {l : List Int} (h : Ns w v l) (n : Nat) : Ns (w.drewN n) v l := h
def OwnN (B : Nat) (w : World) (v : Value) (l : List Int) : Prop := w.ownsRow B 3 1 v l.length (l.map (Value.int .i64)) ∧ ∀ x ∈ l, Go.Proofs.YtionbmlicmibgaaGreatDoor.fits x
theorem OwnN.nil (B : Nat) (w : World) : OwnN B w (.slice none 0 0) [] := ⟨World.ownsRow_nil _ _ _ _, by simp⟩
theorem OwnN.ns {B : Nat} {w : World} {v : Value} {l : List Int} (h : OwnN B w v l) : Ns w v l := by
 obtain ⟨⟨hl, ⟨rfl, h0⟩ | ⟨g, cap, cur, rfl, hB, hh, hc, hm, hs, ht⟩⟩, hf⟩ := h
 ·obtain rfl : l = [] := List.eq_nil_of_length_eq_zero h0
  exact Ns.nil w
 ·refine ⟨_, cap, rfl, hc, hm, (fun e => by cases e), hf, fun _ => ⟨g, 0, rfl, fun i x hi => ?_⟩⟩
  have hil := (List.getElem?_eq_some_iff.1 hi).1
  have h1 : (l.map (Value.int .i64))[i]? = some (.int .i64 x) := by rw [List.getElem?_map, hi]; rfl
  rw [← ht, List.getElem?_take_of_lt (by omega), Array.getElem?_toList] at h1
  rw [Nat.zero_add, cell_of_row w g i cur _ (0, 0) hh]
  exact h1
theorem OwnN.lt {B : Nat} {w : World} {v : Value} {l : List Int} (h : OwnN B w v l) : ∀ k, v.ownBlock = some k → B ≤ k ∧ k < w.heap.size := World.ownsRow.lt h.1
theorem OwnN.below {B : Nat} {w w' : World} {v : Value} {l : List Int} (h : OwnN B w v l) (hb : Below w.heap.size w w') : OwnN B w' v l := ⟨World.ownsRow.kept (row := none) h.1 ⟨hb.os, hb.tape, hb.output, hb.size, fun k hk _ => hb.block k hk⟩ (by cases v.ownBlock <;> simp), h.2⟩
theorem OwnN.mono {B B' : Nat} {w : World} {v : Value} {l : List Int} (h : OwnN B w v l) (hB : B' ≤ B) : OwnN B' w v l := ⟨⟨h.1.1, h.1.2.imp id fun ⟨g, cap, cur, e, hb, r⟩ => ⟨g, cap, cur, e, Nat.le_trans hB hb, r⟩⟩, h.2⟩
theorem OwnN.grown {B : Nat} {w w' : World} {v : Value} {l : List Int} {row : Option Nat} (h : OwnN B w v l) (hg : w.grownBy w' row) (hne : v.ownBlock = none ∨ v.ownBlock ≠ row) : OwnN B w' v l := ⟨World.ownsRow.kept h.1 hg hne, h.2⟩
end Go.Proofs.YtionbmlicmibgaaGreatDoor
namespace Go.Proofs.YtionbmlicmibgaaGreatDoor
set_option linter.unusedVariables false
set_option linter.unusedSimpArgs false
open Go.RowKit
theorem ret_b {a b : Bool} (h : b = a) : Ending.returned (.bool a) = .returned (.bool b) := by rw [h]
theorem Tryz.infoN : (Tryz.prog.info? 3).map (fun i => (i.zero, i.size, i.bytes)) = some (some (.int .i64 0), 1, 8) := by kernel_rfl
theorem ncell_one (l : List Int) : ∀ u ∈ l.map (Value.int .i64), u.oneCell' = true := by
 intro u hu
 obtain ⟨x, _, rfl⟩ := List.mem_map.1 hu
 rfl
theorem run_pushN {B : Nat} {w : World} {v : Value} {l : List Int} (h : OwnN B w v l) (x : Int) (hx : fits x) (hB : B ≤ w.heap.size) (hs : l.length ≤ 1100000) :
  ∃ v' w', (Builtin.append_ #[23, 23] 23 #[v, .slice (some ⟨w.heap.size, 0, none⟩) 1 1]).run Tryz.prog (w.alloc (.cells #[.int .i64 x] 3)) = .ok v' w' ∧ OwnN B w' v' (l ++ [x]) ∧ Below B w w' ∧ w.grownBy w' v.ownBlock := by
 obtain ⟨i0, hi0, hz0, hz1, hz2⟩ := info_parts Tryz.infoN
 have ho' := World.ownsRow.alloc h.1 (.cells #[.int .i64 x] 3)
 obtain ⟨v', w', hr, h1, h2, _, h4⟩ := run_append_own_at (P := Tryz.prog) (w.alloc (.cells #[.int .i64 x] 3)) B 23 23 3 i0 _ 1 8 Tryz.underlying23 hi0 hz0 hz1 hz2 rfl (by decide) v l.length (l.map (Value.int .i64)) ho' ⟨w.heap.size, 0, none⟩ 1 1 [.int .i64 x] rfl
  (fun j u hj => by
   rw [add_lit0, Nat.zero_add, cell_of_row _ w.heap.size j _ 3 (0, 0) (heap_alloc_new w _)]
   simpa using hj)
  (ncell_one [x]) (by simp only [maxLen]; omega) (by omega) (by simp; omega)
 have hb0 : Below B w (w.alloc (.cells #[.int .i64 x] 3)) := (Below.refl _ _).alloc hB _
 refine ⟨v', w', hr, ⟨?_, ?_⟩, hb0.grown h2 (by simp; omega) fun k hk => (World.ownsRow.lt h.1 k hk).1, ?_⟩
 ·rw [List.map_append, List.length_append]
  exact h1
 ·intro y hy
  rcases List.mem_append.1 hy with hy | hy
  ·exact h.2 y hy
  ·rw [List.mem_singleton.1 hy]
   exact hx
 ·refine ⟨h2.os, h2.tape, h2.output, ?_, fun k hk hne => ?_⟩
  ·have := h2.size
   simp at this
   omega
  ·rw [h2.block k (by simp; omega) hne]
   exact heap_alloc_old _ _ hk
theorem wpList_pushN {w : World} {ops : Array Oper} {rest : List Oper} {o : Oper} {a : Act} {Q : Exit → Act → World → Prop} (hgd : o.guard = none) (s t : Operand)
  (ho : o.op = .call { callee := .builtin .append, args := #[s, t], argTypes := #[23, 23] }) (hty : o.type = 23) {B : Nat} {v : Value} {l : List Int} (x : Int) (hx : fits x) {H : Nat}
  (hs : a.eval s = v) (ht : a.eval t = .slice (some ⟨H, 0, none⟩) 1 1) (hH : H = w.heap.size) (h : OwnN B w v l) (hB : B ≤ w.heap.size) (hn : l.length ≤ 1100000)
  (hK : ∀ v' w', OwnN B w' v' (l ++ [x]) → Below B w w' → w.grownBy w' v.ownBlock → wpList Tryz.prog ops Q rest (a.put o.dst v') w') : wpList Tryz.prog ops Q (o :: rest) a (w.alloc (.cells #[.int .i64 x] 3)) := by
 subst hH
 obtain ⟨v', w', hr, h1, h2, h3⟩ := run_pushN h x hx hB hn
 exact Lib.wpList_append_run_sl _ hgd s t 23 ho v _ hs ht (by rw [hty]; exact hr) (hK v' w' h1 h2 h3)
theorem run_pushN_none {w : World} {v : Value} {l : List Int} {B : Nat} (hv : OwnN B w v l) (p : Option Addr) (c : Nat) : (Builtin.append_ #[23, 23] 23 #[v, .slice p 0 c]).run Tryz.prog w = .ok v w := by
 obtain ⟨i0, hi0, hz0, hz1, hz2⟩ := info_parts Tryz.infoN
 obtain ⟨⟨_, ⟨rfl, _⟩ | ⟨g, cap, cur, rfl, _, _, hl, _⟩⟩, _⟩ := hv
 ·cases p <;> simp [Builtin.append_, run_underlying Tryz.underlying23, Go.sizeOf, typeInfo, hi0, Builtin.lenOf, Builtin.firstCells, loadCells, loadCellsFrom]
 ·cases p <;> simp [Builtin.append_, run_underlying Tryz.underlying23, Go.sizeOf, typeInfo, hi0, Builtin.lenOf, Builtin.firstCells, hl, storeCells, loadCells, loadCellsFrom]
theorem run_pushesN {B : Nat} {w : World} {v u : Value} {l m : List Int} (h : OwnN B w v l) (hu : Ns w u m) (hB : B ≤ w.heap.size) (hs : (l.length + m.length) * 8 ≤ 140737488355328) :
  ∃ v' w', (Builtin.append_ #[23, 23] 23 #[v, u]).run Tryz.prog w = .ok v' w' ∧ OwnN B w' v' (l ++ m) ∧ Below B w w' ∧ w.grownBy w' v.ownBlock := by
 obtain ⟨i0, hi0, hz0, hz1, hz2⟩ := info_parts Tryz.infoN
 obtain ⟨p, n, c, rfl⟩ := hu.sl
 have hn := hu.len.1
 by_cases h0 : n = 0
 ·subst h0
  obtain rfl : m = [] := List.eq_nil_of_length_eq_zero hn.symm
  exact ⟨v, w, run_pushN_none h p c, by rw [List.append_nil]; exact h, Below.refl _ _, World.grownBy.refl _ _⟩
 ·obtain ⟨g, o, rfl, hx⟩ := hu.at_ (by omega)
  obtain ⟨v', w', hr, h1, h2, _, h4⟩ := run_append_own_at (P := Tryz.prog) w B 23 23 3 i0 _ 1 8 Tryz.underlying23 hi0 hz0 hz1 hz2 rfl (by decide) v l.length (l.map (Value.int .i64)) h.1 ⟨g, o, none⟩ n c (m.map (Value.int .i64)) (by rw [List.length_map, hn]; omega)
   (fun j u hj => by
    rw [List.getElem?_map, Option.map_eq_some_iff] at hj
    obtain ⟨x, hxj, rfl⟩ := hj
    rw [add_lit0]
    exact hx j x hxj)
   (ncell_one m) (by simp only [maxLen]; omega) (by omega) hB
  refine ⟨v', w', hr, ⟨?_, ?_⟩, (Below.refl _ _).grown h2 hB fun k hk => (World.ownsRow.lt h.1 k hk).1, h2⟩
  ·rw [List.map_append, List.length_append, ← hn]
   exact h1
  ·intro y hy
   rcases List.mem_append.1 hy with hy | hy
   ·exact h.2 y hy
   ·exact hu.fits y hy
theorem Ns.getD {w : World} {g o n c : Nat} {l : List Int} (h : Ns w (.slice (some ⟨g, o, none⟩) n c) l) (j : Nat) (hj : j < l.length) : w.cell? ⟨g, o + j, none⟩ = some (.int .i64 (l.getD j 0)) := by
 obtain ⟨g', o', e, hc⟩ := h.at_ (by rw [h.len.1]; omega)
 injection e with e
 injection e with e1 e2
 subst e1 e2
 rw [hc j _ (List.getElem?_eq_getElem hj), List.getD_eq_getElem?_getD, List.getElem?_eq_getElem hj]
 rfl
theorem equalN_any {w : World} {v u : Value} {l m : List Int} (h : Ns w v l) (hu : Ns w u m) : Calls Tryz.prog 30 #[v, u] w fun e w' => e = .returned (.bool (l == m)) ∧ ∃ q, w' = w.drewN q := by
 obtain ⟨p, n, c, rfl⟩ := h.sl
 obtain ⟨p2, n2, c2, rfl⟩ := hu.sl
 have hn := h.len
 have hn2 := hu.len
 have hnl := hn.1
 have hnl2 := hn2.1
 subst hnl hnl2
 have hbig : l.length ≤ maxLen := Nat.le_trans hn.2.1 hn.2.2
 have hbig2 : m.length ≤ maxLen := Nat.le_trans hn2.2.1 hn2.2.2
 unfold maxLen at hbig hbig2
 by_cases h0 : 0 < l.length
 ·by_cases h1 : 0 < m.length
  ·obtain ⟨g, o, rfl, hc⟩ := h.at_ h0
   obtain ⟨g2, o2, rfl, hc2⟩ := hu.at_ h1
   have := Tryz.slices_Equal_int g o l.length c g2 o2 m.length c2 l m w (Nat.le_refl _) (Nat.le_refl _) (by omega) (by omega) (fun j hj => h.getD j hj) (fun j hj => hu.getD j hj)
   rwa [List.take_length, List.take_length] at this
  ·obtain rfl : m = [] := List.eq_nil_of_length_eq_zero (by omega)
   refine (Tryz.slices_Equal_int_lens p p2 l.length c 0 c2 w (by omega)).mono fun e w' ⟨he, hw⟩ => ⟨?_, 0, hw⟩
   rw [he]
   cases l with
   | nil => simp at h0
   | cons x r => rfl
 ·obtain rfl : l = [] := List.eq_nil_of_length_eq_zero (by omega)
  refine (Tryz.slices_Equal_int_empty p p2 c m.length c2 w (by omega)).mono fun e w' ⟨he, hw⟩ => ⟨?_, 0, hw⟩
  rw [he]
  cases m with
  | nil => rfl
  | cons x r => rfl
theorem cloneN_any {w : World} {v : Value} {l : List Int} (h : Ns w v l) (hs : l.length * 8 ≤ 140737488355328) : Calls Tryz.prog 17 #[v] w fun e w' => ∃ v', e = .returned v' ∧ OwnN w.heap.size w' v' l ∧ Below w.heap.size w w' := by
 obtain ⟨p, n, c, rfl⟩ := h.sl
 have hn := h.len
 have hnl := hn.1
 subst hnl
 by_cases h0 : 0 < l.length
 ·obtain ⟨g, o, rfl, hc⟩ := h.at_ h0
  have := Tryz.slices_Clone_int g o l.length c l w (Nat.le_refl _) hs fun j hj => h.getD j hj
  rw [List.take_length] at this
  exact this.mono fun e w' ⟨v', he, ho, _, hb⟩ => ⟨v', he, ⟨ho, h.fits⟩, hb⟩
 ·obtain rfl : l = [] := List.eq_nil_of_length_eq_zero (by omega)
  cases p with
  | none => exact (Tryz.slices_Clone_int_nil 0 c w).mono fun e w' ⟨he, hw⟩ => ⟨_, he, by rw [hw]; exact OwnN.nil _ _, by rw [hw]; exact Below.refl _ _⟩
  | some a => exact (Tryz.slices_Clone_int_zero a c w).mono fun e w' ⟨v', he, ho, _, hb⟩ => ⟨v', he, ⟨ho, h.fits⟩, hb⟩
end Go.Proofs.YtionbmlicmibgaaGreatDoor
