/- Several texts made one. -/
import Derived.Test.YtgbdjcekpdfpjaaGreatDoorDa
import Derived.Maps.AppendAt
import Derived.Laws.OwnMore
import Derived.Laws.StructEq
import Derived.Sort.Walk0
import Derived.Laws.Strings
set_option linter.unusedVariables false
set_option linter.unusedSimpArgs false
namespace Go.Proofs.YtgbdjcekpdfpjaaGreatDoor
open Go.RowKit
structure Fc where
 s : ByteArray
 p : Option Go.Addr
 n : Nat
 c : Nat
def fcC (x : Fc) : List Go.Value := [.string x.s, .slice x.p x.n x.c]
theorem fcC_length (x : Fc) : (fcC x).length = 2 := rfl
theorem fcC_one (x : Fc) : ∀ v ∈ fcC x, v.oneCell' = true := by
 intro v hv
 simp only [fcC, List.mem_cons, List.not_mem_nil, or_false] at hv
 rcases hv with rfl | rfl <;> rfl
theorem fflat_at : ∀ (l : List Fc) (i k : Nat) {x : Fc}, l[i]? = some x → k < 2 → (l.flatMap fcC)[i * 2 + k]? = (fcC x)[k]?
 | [], i, k, x, h, _ => by simp at h
 | y :: r, 0, k, x, h, hk => by
  simp only [List.getElem?_cons_zero, Option.some.injEq] at h
  subst h
  rw [List.flatMap_cons, Nat.zero_mul, Nat.zero_add, List.getElem?_append_left (by rw [fcC_length]; exact hk)]
 | y :: r, i + 1, k, x, h, hk => by
  rw [List.getElem?_cons_succ] at h
  rw [List.flatMap_cons, List.getElem?_append_right (by rw [fcC_length]; omega), fcC_length, show (i + 1) * 2 + k - 2 = i * 2 + k by omega]
  exact fflat_at r i k h hk
def FcAt (w : World) (g o : Nat) (x : Fc) : Prop := ∀ (k : Nat) u, (fcC x)[k]? = some u → w.cell? ⟨g, o + k, none⟩ = some u
theorem FcAt.c0 {w : World} {g o : Nat} {x : Fc} (h : FcAt w g o x) : w.cell? ⟨g, o, none⟩ = some (.string x.s) := h 0 _ rfl
theorem FcAt.c1 {w : World} {g o : Nat} {x : Fc} (h : FcAt w g o x) : w.cell? ⟨g, o + 1, none⟩ = some (.slice x.p x.n x.c) := h 1 _ rfl
theorem FcAt.lt {w : World} {g o : Nat} {x : Fc} (h : FcAt w g o x) : g < w.heap.size := lt_of_cell h.c0
theorem FcAt.below {w w' : World} {g o : Nat} {x : Fc} (h : FcAt w g o x) (hb : Below w.heap.size w w') : FcAt w' g o x := fun k u hk => (hb.cell (lt_of_cell (h k u hk))).trans (h k u hk)
def Fcs (w : World) (v : Value) (l : List Fc) : Prop :=
 ∃ (p : Option Addr) (cap : Nat), v = .slice p l.length cap ∧ l.length ≤ cap ∧ cap ≤ maxLen ∧ (p = none → cap = 0) ∧
  (0 < l.length → ∃ g o, p = some ⟨g, o, none⟩ ∧ ∀ (i : Nat) x, l[i]? = some x → FcAt w g (o + i * 2) x)
theorem Fcs.nil (w : World) : Fcs w (.slice none 0 0) [] := ⟨none, 0, rfl, Nat.le_refl _, by simp [maxLen], fun _ => rfl, fun h => absurd h (Nat.lt_irrefl _)⟩
theorem Fcs.sl {w : World} {v : Value} {l : List Fc} (h : Fcs w v l) : ∃ p n c, v = .slice p n c := by
 obtain ⟨p, c, e, _⟩ := h
 exact ⟨p, _, c, e⟩
theorem Fcs.len {w : World} {p : Option Addr} {n c : Nat} {l : List Fc} (h : Fcs w (.slice p n c) l) : n = l.length ∧ n ≤ c ∧ c ≤ maxLen := by
 obtain ⟨p', c', e, hl, hm, _⟩ := h
 injection e with _ e2 e3
 subst e2 e3
 exact ⟨rfl, hl, hm⟩
theorem Fcs.at_ {w : World} {p : Option Addr} {n c : Nat} {l : List Fc} (h : Fcs w (.slice p n c) l) (hn : 0 < n) : ∃ g o, p = some ⟨g, o, none⟩ ∧ ∀ (i : Nat) x, l[i]? = some x → FcAt w g (o + i * 2) x := by
 obtain ⟨p', c', e, _, _, _, hx⟩ := h
 injection e with e1 e2 e3
 subst e1 e2
 exact hx hn
def OwnFc (B : Nat) (w : World) (v : Value) (l : List Fc) : Prop := w.ownsRow B 137 2 v l.length (l.flatMap fcC)
theorem OwnFc.nil (B : Nat) (w : World) : OwnFc B w (.slice none 0 0) [] := World.ownsRow_nil _ _ _ _
theorem OwnFc.fcs {B : Nat} {w : World} {v : Value} {l : List Fc} (h : OwnFc B w v l) : Fcs w v l := by
 obtain ⟨hl, ⟨rfl, h0⟩ | ⟨g, cap, cur, rfl, hB, hh, hc, hm, hs, ht⟩⟩ := h
 ·obtain rfl : l = [] := List.eq_nil_of_length_eq_zero h0
  exact Fcs.nil w
 ·refine ⟨_, cap, rfl, hc, hm, (fun e => by cases e), fun _ => ⟨g, 0, rfl, fun i x hi k u hk => ?_⟩⟩
  have hk6 : k < 2 := by
   have := (List.getElem?_eq_some_iff.1 hk).1
   rwa [fcC_length] at this
  have hil := (List.getElem?_eq_some_iff.1 hi).1
  have h1 := fflat_at l i k hi hk6
  rw [hk, ← ht, List.getElem?_take_of_lt (by omega), Array.getElem?_toList] at h1
  rw [cell_of_row w g (0 + i * 2 + k) cur _ (0, 0) hh, Nat.zero_add]
  exact h1
theorem OwnFc.lt {B : Nat} {w : World} {v : Value} {l : List Fc} (h : OwnFc B w v l) : ∀ k, v.ownBlock = some k → B ≤ k ∧ k < w.heap.size := World.ownsRow.lt h
theorem OwnFc.below {B : Nat} {w w' : World} {v : Value} {l : List Fc} (h : OwnFc B w v l) (hb : Below w.heap.size w w') : OwnFc B w' v l := World.ownsRow.kept (row := none) h ⟨hb.os, hb.tape, hb.output, hb.size, fun k hk _ => hb.block k hk⟩ (by cases v.ownBlock <;> simp)
theorem OwnFc.mono {B B' : Nat} {w : World} {v : Value} {l : List Fc} (h : OwnFc B w v l) (hB : B' ≤ B) : OwnFc B' w v l := ⟨h.1, h.2.imp id fun ⟨g, cap, cur, e, hb, r⟩ => ⟨g, cap, cur, e, Nat.le_trans hB hb, r⟩⟩
theorem Tryz.infoFc : (Tryz.prog.info? 137).map (fun i => (i.zero, i.size, i.bytes)) = some (some (.agg #[.string ⟨#[]⟩, .slice none 0 0]), 2, 40) := by kernel_rfl
theorem run_pushFc {B : Nat} {w : World} {v : Value} {l : List Fc} (h : OwnFc B w v l) (x : Fc) (hB : B ≤ w.heap.size) (hs : l.length ≤ 1000000) :
  ∃ v' w', (Builtin.append_ #[50, 50] 50 #[v, .slice (some ⟨w.heap.size, 0, none⟩) 1 1]).run Tryz.prog (w.alloc (.cells #[.string x.s, .slice x.p x.n x.c] 137)) = .ok v' w' ∧ OwnFc B w' v' (l ++ [x]) ∧ Below B w w' ∧ w.grownBy w' v.ownBlock ∧ (v'.ownBlock = v.ownBlock ∨ v'.ownBlock = some (w.heap.size + 1)) := by
 obtain ⟨i0, hi0, hz0, hz1, hz2⟩ := info_parts Tryz.infoFc
 have ho' := World.ownsRow.alloc h (.cells #[.string x.s, .slice x.p x.n x.c] 137)
 obtain ⟨v', w', hr, h1, h2, _, h4⟩ := run_append_own_at (P := Tryz.prog) (w.alloc (.cells #[.string x.s, .slice x.p x.n x.c] 137)) B 50 50 137 i0 _ 2 40 Tryz.underlying50 hi0 hz0 hz1 hz2 rfl (by decide) v l.length (l.flatMap fcC) ho' ⟨w.heap.size, 0, none⟩ 1 1 (fcC x) rfl
  (fun j u hj => by
   rw [add_lit0, Nat.zero_add, cell_of_row _ w.heap.size j _ 137 (0, 0) (heap_alloc_new w _)]
   simpa [fcC] using hj)
  (fcC_one x) (by simp only [maxLen]; omega) (by omega) (by simp; omega)
 have hb0 : Below B w (w.alloc (.cells #[.string x.s, .slice x.p x.n x.c] 137)) := (Below.refl _ _).alloc hB _
 refine ⟨v', w', hr, ?_, hb0.grown h2 (by simp; omega) fun k hk => (World.ownsRow.lt h k hk).1, ?_, ?_⟩
 ·have : (l ++ [x]).flatMap fcC = l.flatMap fcC ++ fcC x := by simp
  unfold OwnFc
  rw [this, List.length_append]
  exact h1
 ·refine ⟨h2.os, h2.tape, h2.output, ?_, fun k hk hne => ?_⟩
  ·have := h2.size
   simp at this
   omega
  ·rw [h2.block k (by simp; omega) hne]
   exact heap_alloc_old _ _ hk
 ·simpa using h4
theorem wpList_pushFc {w : World} {ops : Array Oper} {rest : List Oper} {o : Oper} {a : Act} {Q : Exit → Act → World → Prop} (hgd : o.guard = none) (s t : Operand)
  (ho : o.op = .call { callee := .builtin .append, args := #[s, t], argTypes := #[50, 50] }) (hty : o.type = 50) {B : Nat} {v : Value} {l : List Fc} (x : Fc) {H : Nat}
  (hs : a.eval s = v) (ht : a.eval t = .slice (some ⟨H, 0, none⟩) 1 1) (hH : H = w.heap.size) (h : OwnFc B w v l) (hB : B ≤ w.heap.size) (hn : l.length ≤ 1000000)
  (hK : ∀ v' w', OwnFc B w' v' (l ++ [x]) → Below B w w' → w.grownBy w' v.ownBlock → wpList Tryz.prog ops Q rest (a.put o.dst v') w') : wpList Tryz.prog ops Q (o :: rest) a (w.alloc (.cells #[.string x.s, .slice x.p x.n x.c] 137)) := by
 subst hH
 obtain ⟨v', w', hr, h1, h2, h3, _⟩ := run_pushFc h x hB hn
 exact Lib.wpList_append_run_sl _ hgd s t 50 ho v _ hs ht (by rw [hty]; exact hr) (hK v' w' h1 h2 h3)
end Go.Proofs.YtgbdjcekpdfpjaaGreatDoor
namespace Go.Proofs.YtgbdjcekpdfpjaaGreatDoor
open Go.RowKit
structure Ac where
 k : Int
 s : ByteArray
 t : ByteArray
 a : Int
 p : Option Go.Addr
 n : Nat
 c : Nat
def acC (x : Ac) : List Go.Value := [.int .i64 x.k, .string x.s, .string x.t, .int .i64 x.a, .slice x.p x.n x.c]
theorem acC_length (x : Ac) : (acC x).length = 5 := rfl
theorem acC_one (x : Ac) : ∀ v ∈ acC x, v.oneCell' = true := by
 intro v hv
 simp only [acC, List.mem_cons, List.not_mem_nil, or_false] at hv
 rcases hv with rfl | rfl | rfl | rfl | rfl <;> rfl
theorem aflat_len (l : List Ac) : (l.flatMap acC).length = l.length * 5 := by
 induction l with
 | nil => rfl
 | cons x r ih => rw [List.flatMap_cons, List.length_append, ih, acC_length, List.length_cons]; omega
theorem aflat_at : ∀ (l : List Ac) (i k : Nat) {x : Ac}, l[i]? = some x → k < 5 → (l.flatMap acC)[i * 5 + k]? = (acC x)[k]?
 | [], i, k, x, h, _ => by simp at h
 | y :: r, 0, k, x, h, hk => by
  simp only [List.getElem?_cons_zero, Option.some.injEq] at h
  subst h
  rw [List.flatMap_cons, Nat.zero_mul, Nat.zero_add, List.getElem?_append_left (by rw [acC_length]; exact hk)]
 | y :: r, i + 1, k, x, h, hk => by
  rw [List.getElem?_cons_succ] at h
  rw [List.flatMap_cons, List.getElem?_append_right (by rw [acC_length]; omega), acC_length, show (i + 1) * 5 + k - 5 = i * 5 + k by omega]
  exact aflat_at r i k h hk
def AcAt (w : World) (g o : Nat) (x : Ac) : Prop := ∀ (k : Nat) u, (acC x)[k]? = some u → w.cell? ⟨g, o + k, none⟩ = some u
theorem AcAt.c0 {w : World} {g o : Nat} {x : Ac} (h : AcAt w g o x) : w.cell? ⟨g, o, none⟩ = some (.int .i64 x.k) := h 0 _ rfl
theorem AcAt.c1 {w : World} {g o : Nat} {x : Ac} (h : AcAt w g o x) : w.cell? ⟨g, o + 1, none⟩ = some (.string x.s) := h 1 _ rfl
theorem AcAt.c2 {w : World} {g o : Nat} {x : Ac} (h : AcAt w g o x) : w.cell? ⟨g, o + 2, none⟩ = some (.string x.t) := h 2 _ rfl
theorem AcAt.c3 {w : World} {g o : Nat} {x : Ac} (h : AcAt w g o x) : w.cell? ⟨g, o + 3, none⟩ = some (.int .i64 x.a) := h 3 _ rfl
theorem AcAt.c4 {w : World} {g o : Nat} {x : Ac} (h : AcAt w g o x) : w.cell? ⟨g, o + 4, none⟩ = some (.slice x.p x.n x.c) := h 4 _ rfl
def Acs (w : World) (v : Value) (l : List Ac) : Prop :=
 ∃ (p : Option Addr) (cap : Nat), v = .slice p l.length cap ∧ l.length ≤ cap ∧ cap ≤ maxLen ∧ (p = none → cap = 0) ∧
  (0 < l.length → ∃ g o, p = some ⟨g, o, none⟩ ∧ ∀ (i : Nat) x, l[i]? = some x → AcAt w g (o + i * 5) x)
theorem Acs.nil (w : World) : Acs w (.slice none 0 0) [] := ⟨none, 0, rfl, Nat.le_refl _, by simp [maxLen], fun _ => rfl, fun h => absurd h (Nat.lt_irrefl _)⟩
theorem Acs.sl {w : World} {v : Value} {l : List Ac} (h : Acs w v l) : ∃ p n c, v = .slice p n c := by
 obtain ⟨p, c, e, _⟩ := h
 exact ⟨p, _, c, e⟩
theorem Acs.len {w : World} {p : Option Addr} {n c : Nat} {l : List Ac} (h : Acs w (.slice p n c) l) : n = l.length ∧ n ≤ c ∧ c ≤ maxLen := by
 obtain ⟨p', c', e, hl, hm, _⟩ := h
 injection e with _ e2 e3
 subst e2 e3
 exact ⟨rfl, hl, hm⟩
theorem Acs.at_ {w : World} {p : Option Addr} {n c : Nat} {l : List Ac} (h : Acs w (.slice p n c) l) (hn : 0 < n) : ∃ g o, p = some ⟨g, o, none⟩ ∧ ∀ (i : Nat) x, l[i]? = some x → AcAt w g (o + i * 5) x := by
 obtain ⟨p', c', e, _, _, _, hx⟩ := h
 injection e with e1 e2 e3
 subst e1 e2
 exact hx hn
def OwnAc (B : Nat) (w : World) (v : Value) (l : List Ac) : Prop := w.ownsRow B 128 5 v l.length (l.flatMap acC)
theorem OwnAc.nil (B : Nat) (w : World) : OwnAc B w (.slice none 0 0) [] := World.ownsRow_nil _ _ _ _
theorem OwnAc.acs {B : Nat} {w : World} {v : Value} {l : List Ac} (h : OwnAc B w v l) : Acs w v l := by
 obtain ⟨hl, ⟨rfl, h0⟩ | ⟨g, cap, cur, rfl, hB, hh, hc, hm, hs, ht⟩⟩ := h
 ·obtain rfl : l = [] := List.eq_nil_of_length_eq_zero h0
  exact Acs.nil w
 ·refine ⟨_, cap, rfl, hc, hm, (fun e => by cases e), fun _ => ⟨g, 0, rfl, fun i x hi k u hk => ?_⟩⟩
  have hk6 : k < 5 := by
   have := (List.getElem?_eq_some_iff.1 hk).1
   rwa [acC_length] at this
  have hil := (List.getElem?_eq_some_iff.1 hi).1
  have h1 := aflat_at l i k hi hk6
  rw [hk, ← ht, List.getElem?_take_of_lt (by omega), Array.getElem?_toList] at h1
  rw [cell_of_row w g (0 + i * 5 + k) cur _ (0, 0) hh, Nat.zero_add]
  exact h1
theorem OwnAc.lt {B : Nat} {w : World} {v : Value} {l : List Ac} (h : OwnAc B w v l) : ∀ k, v.ownBlock = some k → B ≤ k ∧ k < w.heap.size := World.ownsRow.lt h
theorem Tryz.infoAc : (Tryz.prog.info? 128).map (fun i => (i.zero, i.size, i.bytes)) = some (some (.agg #[.int .i64 0, .string ⟨#[]⟩, .string ⟨#[]⟩, .int .i64 0, .slice none 0 0]), 5, 72) := by kernel_rfl
theorem aflat_get2 {l : List Ac} {j : Nat} {u : Value} (h : (l.flatMap acC)[j]? = some u) : ∃ x, l[j / 5]? = some x ∧ (acC x)[j % 5]? = some u := by
 have hj := (List.getElem?_eq_some_iff.1 h).1
 rw [aflat_len] at hj
 have hx : l[j / 5]? = some (l[j / 5]'(by omega)) := List.getElem?_eq_getElem _
 refine ⟨_, hx, ?_⟩
 rw [← aflat_at l (j / 5) (j % 5) hx (Nat.mod_lt _ (by omega)), show j / 5 * 5 + j % 5 = j by omega]
 exact h
end Go.Proofs.YtgbdjcekpdfpjaaGreatDoor
namespace Go.Proofs.YtgbdjcekpdfpjaaGreatDoor
open Go.RowKit
theorem chgA (w : World) (o : Obj) : Chg w (w.alloc o) (fun _ => False) := Chg.of_below (balloc (Below.refl _ _) o) _
theorem bel_al (V : World) (o : Obj) : Below V.heap.size V (V.alloc o) := (Below.refl V.heap.size V).alloc (Nat.le_refl _) o
theorem bel_drewN {B : Nat} {w V : World} (h : Below B w V) (q : Nat) : Below B w (V.drewN q) := ⟨h.os, h.tape, h.output, h.size, h.block⟩
theorem FcAt.chg {w w' : World} {T : Nat → Prop} {g o : Nat} {x : Fc} (h : FcAt w g o x) (hc : Chg w w' T) (hn : ¬ T g) : FcAt w' g o x := fun k u hk => hc.cell (h k u hk) hn
theorem Fcs.chg {w w' : World} {T : Nat → Prop} {v : Value} {l : List Fc} (h : Fcs w v l) (hc : Chg w w' T) (hne : l = [] ∨ ∀ k, v.ownBlock = some k → ¬ T k) : Fcs w' v l := by
 obtain ⟨p, c, rfl, hl, hm, hn, hx⟩ := h
 refine ⟨p, c, rfl, hl, hm, hn, fun h0 => ?_⟩
 obtain ⟨g, o, e, hx⟩ := hx h0
 refine ⟨g, o, e, fun i x hi => (hx i x hi).chg hc ?_⟩
 rcases hne with rfl | hne
 ·simp at h0
 ·exact hne g (by rw [e]; rfl)
theorem By.lt_of {w : World} {v : Value} {l : List UInt8} (h : By w v l) (hl : l ≠ []) : ∀ k, v.ownBlock = some k → k < w.heap.size := by
 obtain ⟨p, c, rfl, hlc, hm, hn, hc⟩ := h
 intro k hk
 rcases p with _ | a
 ·cases hk
 ·injection hk with hk
  subst hk
  obtain ⟨x, r, rfl⟩ := List.exists_cons_of_ne_nil hl
  have := lt_of_cell (hc a rfl 0 x rfl)
  rwa [block_add] at this
theorem Fcs.lt_of {w : World} {v : Value} {l : List Fc} (h : Fcs w v l) (hl : l ≠ []) : ∀ k, v.ownBlock = some k → k < w.heap.size := by
 obtain ⟨p, c, rfl, hlc, hm, hn, hx⟩ := h
 intro k hk
 have h0 := List.length_pos_iff.2 hl
 obtain ⟨g, o, e, hx⟩ := hx h0
 rw [e] at hk
 injection hk with hk
 subst hk
 obtain ⟨x, r, rfl⟩ := List.exists_cons_of_ne_nil hl
 exact (hx 0 x rfl).lt
structure Fe (w : World) (Z : Nat → Prop) (e : Fc) (x : List UInt8 × List UInt8) : Prop where
 nm : e.s.data.toList = x.1
 sz : e.s.size ≤ 1000
 by_ : By w (.slice e.p e.n e.c) x.2
 off : x.2 = [] ∨ ∀ k, (Value.slice e.p e.n e.c).ownBlock = some k → ¬ Z k
theorem Fe.chg {w w' : World} {Z T : Nat → Prop} {e : Fc} {x : List UInt8 × List UInt8} (h : Fe w Z e x) (hc : Chg w w' T) (hT : ∀ i, T i → Z i) : Fe w' Z e x :=
 ⟨h.nm, h.sz, h.by_.chg hc (h.off.imp id fun h1 k hk ht => h1 k hk (hT k ht)), h.off⟩
theorem Fe.re {w : World} {Z Z' : Nat → Prop} {e : Fc} {x : List UInt8 × List UInt8} (h : Fe w Z e x) (hZ : ∀ i, Z' i → Z i ∨ w.heap.size ≤ i) : Fe w Z' e x := by
 refine ⟨h.nm, h.sz, h.by_, ?_⟩
 by_cases h0 : x.2 = []
 ·exact .inl h0
 ·refine .inr fun k hk hz => ?_
  rcases hZ k hz with h1 | h1
  ·rcases h.off with h2 | h2
   ·exact h0 h2
   ·exact h2 k hk h1
  ·have := h.by_.lt_of h0 k hk
   omega
def FilD (w : World) (Z : Nat → Prop) (E : List Fc) (F : Fl) : Prop := E.length = F.length ∧ ∀ (k : Nat) e x, E[k]? = some e → F[k]? = some x → Fe w Z e x
theorem FilD.nil (w : World) (Z : Nat → Prop) : FilD w Z [] [] := ⟨rfl, by simp⟩
theorem FilD.chg {w w' : World} {Z T : Nat → Prop} {E : List Fc} {F : Fl} (h : FilD w Z E F) (hc : Chg w w' T) (hT : ∀ i, T i → Z i) : FilD w' Z E F := ⟨h.1, fun k e x h1 h2 => (h.2 k e x h1 h2).chg hc hT⟩
theorem FilD.re {w : World} {Z Z' : Nat → Prop} {E : List Fc} {F : Fl} (h : FilD w Z E F) (hZ : ∀ i, Z' i → Z i ∨ w.heap.size ≤ i) : FilD w Z' E F := ⟨h.1, fun k e x h1 h2 => (h.2 k e x h1 h2).re hZ⟩
theorem FilD.push {w : World} {Z : Nat → Prop} {E : List Fc} {F : Fl} (h : FilD w Z E F) {e : Fc} {x : List UInt8 × List UInt8} (he : Fe w Z e x) : FilD w Z (E ++ [e]) (F ++ [x]) := by
 refine ⟨by rw [List.length_append, List.length_append, h.1]; rfl, fun k e' x' h1 h2 => ?_⟩
 by_cases hk : k < E.length
 ·rw [List.getElem?_append_left hk] at h1
  rw [List.getElem?_append_left (by rw [← h.1]; exact hk)] at h2
  exact h.2 k e' x' h1 h2
 ·rw [List.getElem?_append_right (by omega)] at h1
  rw [List.getElem?_append_right (by rw [← h.1]; omega)] at h2
  have h0 : k - E.length = 0 := by
   have := (List.getElem?_eq_some_iff.1 h1).1
   simp at this
   omega
  rw [h0] at h1
  rw [← h.1, h0] at h2
  simp at h1 h2
  subst h1 h2
  exact he
def Fil (w : World) (Z : Nat → Prop) (v : Value) (F : Fl) : Prop := ∃ E, Fcs w v E ∧ FilD w Z E F ∧ (E = [] ∨ ∀ k, v.ownBlock = some k → ¬ Z k)
theorem Fil.nil (w : World) (Z : Nat → Prop) : Fil w Z (.slice none 0 0) [] := ⟨[], Fcs.nil w, FilD.nil w Z, .inl rfl⟩
theorem Fil.sl {w : World} {Z : Nat → Prop} {v : Value} {F : Fl} (h : Fil w Z v F) : ∃ p n c, v = .slice p n c := h.elim fun E h => h.1.sl
theorem Fil.len {w : World} {Z : Nat → Prop} {p : Option Addr} {n c : Nat} {F : Fl} (h : Fil w Z (.slice p n c) F) : n = F.length ∧ n ≤ c ∧ c ≤ maxLen := by
 obtain ⟨E, h1, h2, _⟩ := h
 obtain ⟨a, b, d⟩ := h1.len
 exact ⟨by rw [a, h2.1], b, d⟩
theorem Fil.chg {w w' : World} {Z T : Nat → Prop} {v : Value} {F : Fl} (h : Fil w Z v F) (hc : Chg w w' T) (hT : ∀ i, T i → Z i) : Fil w' Z v F := by
 obtain ⟨E, h1, h2, h3⟩ := h
 exact ⟨E, h1.chg hc (h3.imp id fun h k hk ht => h k hk (hT k ht)), h2.chg hc hT, h3⟩
theorem Fil.re {w : World} {Z Z' : Nat → Prop} {v : Value} {F : Fl} (h : Fil w Z v F) (hZ : ∀ i, Z' i → Z i ∨ w.heap.size ≤ i) : Fil w Z' v F := by
 obtain ⟨E, h1, h2, h3⟩ := h
 refine ⟨E, h1, h2.re hZ, ?_⟩
 by_cases h0 : E = []
 ·exact .inl h0
 ·refine .inr fun k hk hz => ?_
  rcases hZ k hz with h4 | h4
  ·rcases h3 with h5 | h5
   ·exact h0 h5
   ·exact h5 k hk h4
  ·have := h1.lt_of h0 k hk
   omega
theorem Fil.at_ {w : World} {Z : Nat → Prop} {p : Option Addr} {n c : Nat} {F : Fl} (h : Fil w Z (.slice p n c) F) {k : Nat} {x : List UInt8 × List UInt8} (hx : F[k]? = some x) :
  ∃ g o e, p = some ⟨g, o, none⟩ ∧ FcAt w g (o + k * 2) e ∧ Fe w Z e x ∧ ¬ Z g := by
 obtain ⟨E, h1, h2, h3⟩ := h
 have hl := (List.getElem?_eq_some_iff.1 hx).1
 have he := List.getElem?_eq_getElem (l := E) (i := k) (by rw [h2.1]; exact hl)
 obtain ⟨g, o, hp, hat⟩ := h1.at_ (by rw [h1.len.1]; have := h2.1; omega)
 refine ⟨g, o, _, hp, hat k _ he, h2.2 k _ x he hx, ?_⟩
 rcases h3 with h3 | h3
 ·subst h3
  have := h2.1
  simp at this
  omega
 ·exact h3 g (by rw [hp]; rfl)
def FilO (B : Nat) (w : World) (Z : Nat → Prop) (v : Value) (F : Fl) : Prop := ∃ E, OwnFc B w v E ∧ FilD w Z E F
theorem FilO.fil {B : Nat} {w : World} {Z : Nat → Prop} {v : Value} {F : Fl} (h : FilO B w Z v F) (hZ : ∀ i, Z i → i < B) : Fil w Z v F := by
 obtain ⟨E, h1, h2⟩ := h
 refine ⟨E, h1.fcs, h2, .inr fun k hk hz => ?_⟩
 have := (h1.lt k hk).1
 have := hZ k hz
 omega
def Deed.kd : Deed → Int
 | .put _ _ _ => 0
 | .trim _ _ => 1
 | .move _ _ => 2
 | .drop _ => 3
def Deed.nm : Deed → List UInt8
 | .put k _ _ => k
 | .trim k _ => k
 | .move k _ => k
 | .drop k => k
def Deed.tt : Deed → List UInt8
 | .move _ t => t
 | _ => []
def Deed.pl : Deed → Nat
 | .put _ a _ => a
 | .trim _ n => n
 | _ => 0
def Deed.bs : Deed → List UInt8
 | .put _ _ b => b
 | _ => []
structure Ae (w : World) (Z : Nat → Prop) (e : Ac) (d : Deed) : Prop where
 kd : e.k = d.kd
 nm : e.s.data.toList = d.nm
 tt : e.t.data.toList = d.tt
 ns : e.s.size ≤ 1000
 ts : e.t.size ≤ 1000
 pl : e.a = (d.pl : Int)
 by_ : By w (.slice e.p e.n e.c) d.bs
 off : d.bs = [] ∨ ∀ k, (Value.slice e.p e.n e.c).ownBlock = some k → ¬ Z k
theorem Ae.chg {w w' : World} {Z T : Nat → Prop} {e : Ac} {d : Deed} (h : Ae w Z e d) (hc : Chg w w' T) (hT : ∀ i, T i → Z i) : Ae w' Z e d :=
 ⟨h.kd, h.nm, h.tt, h.ns, h.ts, h.pl, h.by_.chg hc (h.off.imp id fun h1 k hk ht => h1 k hk (hT k ht)), h.off⟩
theorem Ae.re {w : World} {Z Z' : Nat → Prop} {e : Ac} {d : Deed} (h : Ae w Z e d) (hZ : ∀ i, Z' i → Z i ∨ w.heap.size ≤ i) : Ae w Z' e d := by
 refine ⟨h.kd, h.nm, h.tt, h.ns, h.ts, h.pl, h.by_, ?_⟩
 by_cases h0 : d.bs = []
 ·exact .inl h0
 ·refine .inr fun k hk hz => ?_
  rcases hZ k hz with h1 | h1
  ·rcases h.off with h2 | h2
   ·exact h0 h2
   ·exact h2 k hk h1
  ·have := h.by_.lt_of h0 k hk
   omega
def ActD (w : World) (Z : Nat → Prop) (E : List Ac) (D : List Deed) : Prop := E.length = D.length ∧ ∀ (k : Nat) e d, E[k]? = some e → D[k]? = some d → Ae w Z e d
theorem ActD.nil (w : World) (Z : Nat → Prop) : ActD w Z [] [] := ⟨rfl, by simp⟩
theorem ActD.chg {w w' : World} {Z T : Nat → Prop} {E : List Ac} {D : List Deed} (h : ActD w Z E D) (hc : Chg w w' T) (hT : ∀ i, T i → Z i) : ActD w' Z E D := ⟨h.1, fun k e x h1 h2 => (h.2 k e x h1 h2).chg hc hT⟩
theorem ActD.re {w : World} {Z Z' : Nat → Prop} {E : List Ac} {D : List Deed} (h : ActD w Z E D) (hZ : ∀ i, Z' i → Z i ∨ w.heap.size ≤ i) : ActD w Z' E D := ⟨h.1, fun k e x h1 h2 => (h.2 k e x h1 h2).re hZ⟩
theorem ActD.push {w : World} {Z : Nat → Prop} {E : List Ac} {D : List Deed} (h : ActD w Z E D) {e : Ac} {d : Deed} (he : Ae w Z e d) : ActD w Z (E ++ [e]) (D ++ [d]) := by
 refine ⟨by rw [List.length_append, List.length_append, h.1]; rfl, fun k e' x' h1 h2 => ?_⟩
 by_cases hk : k < E.length
 ·rw [List.getElem?_append_left hk] at h1
  rw [List.getElem?_append_left (by rw [← h.1]; exact hk)] at h2
  exact h.2 k e' x' h1 h2
 ·rw [List.getElem?_append_right (by omega)] at h1
  rw [List.getElem?_append_right (by rw [← h.1]; omega)] at h2
  have h0 : k - E.length = 0 := by
   have := (List.getElem?_eq_some_iff.1 h1).1
   simp at this
   omega
  rw [h0] at h1
  rw [← h.1, h0] at h2
  simp at h1 h2
  subst h1 h2
  exact he
def ActR (w : World) (Z R : Nat → Prop) (v : Value) (D : List Deed) : Prop := ∃ E, OwnAc 0 w v E ∧ ActD w Z E D ∧ ∀ k, v.ownBlock = some k → R k
theorem ActR.nil (w : World) (Z R : Nat → Prop) : ActR w Z R (.slice none 0 0) [] := ⟨[], OwnAc.nil _ _, ActD.nil w Z, fun k hk => by cases hk⟩
theorem ActR.sl {w : World} {Z R : Nat → Prop} {v : Value} {D : List Deed} (h : ActR w Z R v D) : ∃ p n c, v = .slice p n c := h.elim fun E h => h.1.acs.sl
theorem ActR.len {w : World} {Z R : Nat → Prop} {p : Option Addr} {n c : Nat} {D : List Deed} (h : ActR w Z R (.slice p n c) D) : n = D.length ∧ n ≤ c ∧ c ≤ maxLen := by
 obtain ⟨E, h1, h2, _⟩ := h
 obtain ⟨a, b, d⟩ := h1.acs.len
 exact ⟨by rw [a, h2.1], b, d⟩
theorem ActR.chg {w w' : World} {Z R T : Nat → Prop} {v : Value} {D : List Deed} (h : ActR w Z R v D) (hc : Chg w w' T) (hT : ∀ i, T i → Z i) (hR : ∀ i, R i → ¬ T i) : ActR w' Z R v D := by
 obtain ⟨E, h1, h2, h3⟩ := h
 exact ⟨E, row_chg h1 hc fun k hk => hR k (h3 k hk), h2.chg hc hT, h3⟩
theorem ActR.re {w : World} {Z Z' R R' : Nat → Prop} {v : Value} {D : List Deed} (h : ActR w Z R v D) (hZ : ∀ i, Z' i → Z i ∨ w.heap.size ≤ i) (hR : ∀ i, R i → R' i) : ActR w Z' R' v D := by
 obtain ⟨E, h1, h2, h3⟩ := h
 exact ⟨E, h1, h2.re hZ, fun k hk => hR k (h3 k hk)⟩
theorem ActR.at_ {w : World} {Z R : Nat → Prop} {p : Option Addr} {n c : Nat} {D : List Deed} (h : ActR w Z R (.slice p n c) D) {k : Nat} {d : Deed} (hd : D[k]? = some d) :
  ∃ g o e, p = some ⟨g, o, none⟩ ∧ AcAt w g (o + k * 5) e ∧ Ae w Z e d ∧ R g := by
 obtain ⟨E, h1, h2, h3⟩ := h
 have hl := (List.getElem?_eq_some_iff.1 hd).1
 have he := List.getElem?_eq_getElem (l := E) (i := k) (by rw [h2.1]; exact hl)
 obtain ⟨g, o, hp, hat⟩ := h1.acs.at_ (by rw [h1.acs.len.1]; have := h2.1; omega)
 exact ⟨g, o, _, hp, hat k _ he, h2.2 k _ d he hd, h3 g (by rw [hp]; rfl)⟩
def rdC (st : Dk) (vl va : Value) (kp tr : Int) : Array Value := #[.int .i64 (st.room : Nat), vl, va, .bool st.down, .int .i64 (st.fn : Nat), .int .i64 kp, .int .i64 tr]
def Rh (w : World) (g : Nat) (st : Dk) (vl va : Value) (kp tr : Int) : Prop := w.heap[g]? = some (.cells (rdC st vl va kp tr) 53 (0, 0))
section
variable {w : World} {g : Nat} {st : Dk} {vl va : Value} {kp tr : Int}
theorem Rh.c0 (h : Rh w g st vl va kp tr) : w.cell? ⟨g, 0, none⟩ = some (.int .i64 (st.room : Nat)) := by rw [cell_of_row w g 0 _ 53 (0, 0) h]; rfl
theorem Rh.c1 (h : Rh w g st vl va kp tr) : w.cell? ⟨g, 1, none⟩ = some vl := by rw [cell_of_row w g 1 _ 53 (0, 0) h]; rfl
theorem Rh.c2 (h : Rh w g st vl va kp tr) : w.cell? ⟨g, 2, none⟩ = some va := by rw [cell_of_row w g 2 _ 53 (0, 0) h]; rfl
theorem Rh.c3 (h : Rh w g st vl va kp tr) : w.cell? ⟨g, 3, none⟩ = some (.bool st.down) := by rw [cell_of_row w g 3 _ 53 (0, 0) h]; rfl
theorem Rh.c4 (h : Rh w g st vl va kp tr) : w.cell? ⟨g, 4, none⟩ = some (.int .i64 (st.fn : Nat)) := by rw [cell_of_row w g 4 _ 53 (0, 0) h]; rfl
theorem Rh.c5 (h : Rh w g st vl va kp tr) : w.cell? ⟨g, 5, none⟩ = some (.int .i64 kp) := by rw [cell_of_row w g 5 _ 53 (0, 0) h]; rfl
theorem Rh.c6 (h : Rh w g st vl va kp tr) : w.cell? ⟨g, 6, none⟩ = some (.int .i64 tr) := by rw [cell_of_row w g 6 _ 53 (0, 0) h]; rfl
theorem Rh.fr (h : Rh w g st vl va kp tr) (i : Nat) : w.frozen? ⟨g, i, none⟩ = false := frozen_of_row w g i _ 53 h
theorem Rh.lt (h : Rh w g st vl va kp tr) : g < w.heap.size := lt_of_cell h.c0
theorem Rh.chg {w' : World} {T : Nat → Prop} (h : Rh w g st vl va kp tr) (hc : Chg w w' T) (hg : ¬ T g) : Rh w' g st vl va kp tr := (hc.block g h.lt hg).trans h
end
structure RdIs (w : World) (Z R : Nat → Prop) (g : Nat) (st : Dk) : Prop where
 in_ : R g
 rap : ∀ i, R i → i < w.heap.size
 zap : ∀ i, Z i → i < w.heap.size
 sep : ∀ i, R i → ¬ Z i
 parts : ∃ vl va kp tr, Rh w g st vl va kp tr ∧ (st.fn = 0 ∨ (kp = st.keep ∧ tr = st.tear)) ∧ Fil w (fun i => Z i ∨ R i) vl st.last ∧ ActR w (fun i => Z i ∨ R i) (fun i => R i ∧ i ≠ g) va st.acts
def RPost (w : World) (Z R : Nat → Prop) (g : Nat) (st : Dk) (w' : World) : Prop := ∃ R', RdIs w' Z R' g st ∧ Chg w w' R ∧ ∀ i, R' i → R i ∨ w.heap.size ≤ i
theorem RdIs.chg {w w' : World} {Z Z' R T : Nat → Prop} {g : Nat} {st : Dk} (h : RdIs w Z R g st) (hc : Chg w w' T) (hT : ∀ i, T i → Z i) (hZ : ∀ i, Z' i → Z i ∨ (w.heap.size ≤ i ∧ i < w'.heap.size)) : RdIs w' Z' R g st := by
 obtain ⟨vl, va, kp, tr, h1, h2, h3, h4⟩ := h.parts
 have hY : ∀ i, ((Z i ∨ Z' i) ∨ R i) → (Z i ∨ R i) ∨ w.heap.size ≤ i := fun i hi => by
  rcases hi with (hi | hi) | hi
  ·exact .inl (.inl hi)
  ·rcases hZ i hi with h1 | h1
   ·exact .inl (.inl h1)
   ·exact .inr h1.1
  ·exact .inl (.inr hi)
 have hX : ∀ i, (Z' i ∨ R i) → ((Z i ∨ Z' i) ∨ R i) ∨ w'.heap.size ≤ i := fun i hi => .inl (hi.imp .inr id)
 have hTY : ∀ i, T i → ((Z i ∨ Z' i) ∨ R i) := fun i hi => .inl (.inl (hT i hi))
 refine ⟨h.in_, fun i hi => Nat.lt_of_lt_of_le (h.rap i hi) hc.size, fun i hi => ?_, fun i hi hz => ?_, vl, va, kp, tr, h1.chg hc fun ht => h.sep g h.in_ (hT g ht), h2, ((h3.re hY).chg hc hTY).re hX, ((h4.re hY fun i hi => hi).chg hc hTY fun i hi ht => h.sep i hi.1 (hT i ht)).re hX fun i hi => hi⟩
 ·rcases hZ i hi with h1 | h1
  ·exact Nat.lt_of_lt_of_le (h.zap i h1) hc.size
  ·exact h1.2
 ·rcases hZ i hz with h1 | h1
  ·exact h.sep i hi h1
  ·have := h.rap i hi
   omega
end Go.Proofs.YtgbdjcekpdfpjaaGreatDoor
namespace Go.Proofs.YtgbdjcekpdfpjaaGreatDoor
open Go.RowKit
def GetPost (w : World) (Z : Nat → Prop) (r : Option (List UInt8)) (e : Ending) (w' : World) : Prop :=
 ∃ p n c, e = .returned (.tuple #[.slice p n c, .bool r.isSome]) ∧ By w' (.slice p n c) (r.getD []) ∧ (r.getD [] = [] ∨ ∀ k, (Value.slice p n c).ownBlock = some k → ¬ Z k) ∧ Chg w w' (fun _ => False)
theorem tl_beq (a b : ByteArray) : (a.toList == b.toList) = decide (a.data.toList = b.data.toList) := by
 rw [← beq_toListBytes, Bool.eq_iff_iff, decide_eq_true_eq]
 show (a.data == b.data) = true ↔ _
 obtain ⟨⟨a⟩⟩ := a
 obtain ⟨⟨b⟩⟩ := b
 simp
set_option maxRecDepth 200000 in
set_option maxHeartbeats 4000000 in
theorem rget_any {w : World} {Z : Nat → Prop} {v : Value} {F : Fl} (h : Fil w Z v F) (s : ByteArray) : Calls Tryz.prog 80 #[v, .string s] w (GetPost w Z (get F s.data.toList)) := by
 obtain ⟨p, n, c, rfl⟩ := h.sl
 have hnm : (n : Int) ≤ 9223372036854775807 := by have := h.len; unfold maxLen at this; omega
 have HN := hide h.len.1
 have HF := hide h
 clear h
 go_enter Tryz.func80, Tryz.ntmps80
 go_wp2_with fail
 go_loopw [7, 10] (fun _ i wr => ∃ j : Nat, j ≤ n ∧ i = .int .i64 j ∧ Hid (Chg w wr (fun _ => False) ∧ get F s.data.toList = get (F.drop j) s.data.toList)) (fun _ i _ => n - (intOf i).toNat)
 case atStart => exact ⟨0, Nat.zero_le _, rfl, hide ⟨Chg.refl _ _, by rw [List.drop_zero]⟩⟩
 case round =>
  obtain ⟨j, hj, rfl, hrel⟩ := hrel
  have HC := hide hrel.out.1
  have HG := hide hrel.out.2
  clear hrel
  by_cases hjn : (j : Int) < (n : Int)
  ·obtain ⟨x, hx⟩ : ∃ x, F[j]? = some x := ⟨_, List.getElem?_eq_getElem (by have := HN.out; omega)⟩
   obtain ⟨g, o, e, rfl, hat, hfe, hz⟩ := (HF.out.chg HC.out fun _ h => h.elim).at_ hx
   obtain ⟨oo, hoo⟩ : ∃ oo, o + j * 2 = oo := ⟨_, rfl⟩
   rw [hoo] at hat
   have e0 := hat.c0
   have e1 := hat.c1
   have hgl := hat.lt
   have hdrop : F.drop j = x :: F.drop (j + 1) := List.drop_eq_getElem?_toList_append.trans (by rw [hx]; rfl)
   have HD := hide hdrop
   have HE := hide hfe
   clear hat hx hdrop hfe hz
   have hb := chgA wr (.cells #[.string e.s, .slice e.p e.n e.c] 137)
   have HB := hide hb
   by_cases hk : x.1 = s.data.toList
   ·have q : (e.s.toList == s.toList) = true := by rw [tl_beq, HE.out.nm, decide_eq_true hk]
    have hres : get F s.data.toList = some x.2 := by rw [HG.out, HD.out]; unfold get; rw [if_pos hk]
    have hP : GetPost w Z (get F s.data.toList) (.returned (.tuple #[.slice e.p e.n e.c, .bool true])) (wr.alloc (.cells #[.string e.s, .slice e.p e.n e.c] 137)) := by
     rw [hres]
     exact ⟨_, _, _, rfl, HE.out.by_.chg hb (.inr fun _ _ h => h), HE.out.off, HC.out.trans hb fun _ h => .inl h⟩
    have HP := hide hP
    clear hb hk hP hres
    go_wp2
    go_ret2
    exact HP.out
   ·have q : (e.s.toList == s.toList) = false := by rw [tl_beq, HE.out.nm, decide_eq_false hk]
    have hnx : get F s.data.toList = get (F.drop (j + 1)) s.data.toList := by
     rw [HG.out, HD.out]
     conv => lhs; unfold get
     rw [if_neg hk]
    have HNX := hide hnx
    clear hnx hb hk
    go_wp2
    go_roundw
    case rel => exact ⟨j + 1, by omega, by go_num, hide ⟨HC.out.trans HB.out fun _ h => .inl h, HNX.out⟩⟩
    case measure => simp [intOf]; omega
  ·have hres : get F s.data.toList = none := by
    rw [HG.out, List.drop_eq_nil_of_le (by have := HN.out; omega)]
    rfl
   have hP : GetPost w Z (get F s.data.toList) (.returned (.tuple #[.slice none 0 0, .bool false])) wr := by
    rw [hres]
    exact ⟨_, _, _, rfl, By.nil _, .inl rfl, HC.out⟩
   have HP := hide hP
   clear hP hres
   go_wp2
   go_ret2
   exact HP.out
end Go.Proofs.YtgbdjcekpdfpjaaGreatDoor
namespace Go.Proofs.YtgbdjcekpdfpjaaGreatDoor
open Go.RowKit
theorem Chg.bel {a b c : World} {T : Nat → Prop} (h : Chg a b T) (hb : Below a.heap.size b c) : Chg a c T :=
 ⟨hb.os.trans h.os, hb.tape.trans h.tape, hb.output.trans h.output, Nat.le_trans h.size hb.size, fun k hk hn => (hb.block k hk).trans (h.block k hk hn)⟩
def RowPost (w : World) (Z : Nat → Prop) (F : Fl) (e : Ending) (w' : World) : Prop :=
 ∃ p n c E, e = .returned (.slice p n c) ∧ OwnFc w.heap.size w' (.slice p n c) E ∧ FilD w Z E F ∧ Chg w w' (fun _ => False)
theorem RowPost.fil {w w' : World} {Z : Nat → Prop} {F : Fl} {e : Ending} (h : RowPost w Z F e w') (hZ : ∀ i, Z i → i < w.heap.size) : ∃ p n c, e = .returned (.slice p n c) ∧ Fil w' Z (.slice p n c) F ∧ Chg w w' (fun _ => False) := by
 obtain ⟨p, n, c, E, rfl, h1, h2, h3⟩ := h
 exact ⟨p, n, c, rfl, FilO.fil ⟨E, h1, h2.chg h3 fun _ h => h.elim⟩ hZ, h3⟩
theorem del_yes {F : Fl} {k : List UInt8} {j : Nat} {x : List UInt8 × List UInt8} (hx : F[j]? = some x) (hk : x.1 = k) : del (F.take (j + 1)) k = del (F.take j) k := by
 unfold del
 rw [List.take_add_one, hx, List.filter_append, Option.toList_some, List.filter_cons_of_neg (by simp [hk])]
 simp
theorem del_no {F : Fl} {k : List UInt8} {j : Nat} {x : List UInt8 × List UInt8} (hx : F[j]? = some x) (hk : x.1 ≠ k) : del (F.take (j + 1)) k = del (F.take j) k ++ [x] := by
 unfold del
 rw [List.take_add_one, hx, List.filter_append, Option.toList_some, List.filter_cons_of_pos (by simp [hk])]
 simp
set_option maxRecDepth 200000 in
set_option maxHeartbeats 4000000 in
theorem rless_any {w : World} {Z : Nat → Prop} {v : Value} {F : Fl} (h : Fil w Z v F) (hl : F.length ≤ 10000) (s : ByteArray) : Calls Tryz.prog 119 #[v, .string s] w (RowPost w Z (del F s.data.toList)) := by
 obtain ⟨p, n, c, rfl⟩ := h.sl
 have hnm : (n : Int) ≤ 9223372036854775807 := by have := h.len; unfold maxLen at this; omega
 have HN := hide h.len.1
 have HF := hide h
 clear h
 go_enter Tryz.func119, Tryz.ntmps119
 go_wp2_with fail
 go_loopw [5, 7, 10] (fun u _ i wr => ∃ (j : Nat) (q : Option Addr) (m d : Nat), u = .slice q m d ∧ j ≤ n ∧ i = .int .i64 j ∧ Hid (Chg w wr (fun _ => False) ∧ ∃ E, OwnFc w.heap.size wr (.slice q m d) E ∧ FilD w Z E (del (F.take j) s.data.toList) ∧ E.length ≤ j)) (fun _ _ i _ => n - (intOf i).toNat)
 case atStart => exact ⟨0, none, 0, 0, rfl, Nat.zero_le _, rfl, hide ⟨Chg.refl _ _, [], OwnFc.nil _ _, FilD.nil _ _, Nat.le_refl _⟩⟩
 case round =>
  obtain ⟨j, q, m, d, rfl, hj, rfl, hrel⟩ := hrel
  obtain ⟨hc0, E, ho0, hd0, hEl⟩ := hrel.out
  have HC := hide hc0
  have HO := hide ho0
  have HDD := hide hd0
  clear hrel hc0 ho0 hd0
  by_cases hjn : (j : Int) < (n : Int)
  ·obtain ⟨x, hx⟩ : ∃ x, F[j]? = some x := ⟨_, List.getElem?_eq_getElem (by have := HN.out; omega)⟩
   obtain ⟨g, o, e, rfl, hat0, hfe, hz⟩ := HF.out.at_ hx
   have hat := hat0.chg HC.out fun h => h
   obtain ⟨es, ep, en, ec⟩ := e
   obtain ⟨oo, hoo⟩ : ∃ oo, o + j * 2 = oo := ⟨_, rfl⟩
   rw [hoo] at hat
   have e0 := hat.c0
   have e1 := hat.c1
   have hgl := hat.lt
   dsimp only at e0 e1
   have HE := hide hfe
   have hb := chgA wr (.cells #[.string es, .slice ep en ec] 137)
   have hsz : w.heap.size ≤ wr.heap.size := HC.out.size
   have HB := hide (And.intro (HC.out.trans hb fun _ h => .inl h) (HO.out.below ((Below.refl _ _).alloc (Nat.le_refl _) (.cells #[.string es, .slice ep en ec] 137))))
   by_cases hk : x.1 = s.data.toList
   ·have q1 : (es.toList == s.toList) = true := by rw [tl_beq, HE.out.nm, decide_eq_true hk]
    have HNX := hide (del_yes hx hk)
    clear hb hk hat0 hat hx hfe hz
    go_wp2
    go_roundw
    case rel => exact ⟨j + 1, q, m, d, rfl, by omega, by go_num, hide ⟨HB.out.1, E, HB.out.2, by rw [HNX.out]; exact HDD.out, by omega⟩⟩
    case measure => simp [intOf]; omega
   ·have q1 : (es.toList == s.toList) = false := by rw [tl_beq, HE.out.nm, decide_eq_false hk]
    have HNX := hide (del_no hx hk)
    have HEL := hide hEl
    have hjl : j ≤ 10000 := by have := HN.out; omega
    clear hb hk hat0 hat hx hfe hz hEl
    go_wp2_with (at_builtin; go_must (refine wpList_pushFc (v := .slice q m d) rfl _ _ rfl rfl ⟨es, ep, en, ec⟩ rfl rfl (by simp) HB.out.2 (by simp; omega) (by have := HEL.out; omega) ?_); intro v5 w5 ho5 hb5 hg5; obtain ⟨p5, n5, c5, rfl⟩ := ho5.fcs.sl; have H5 := hide (And.intro ho5 hb5); clear ho5 hb5 hg5)
    go_roundw
    case rel => exact ⟨j + 1, p5, n5, c5, rfl, by omega, by go_num, hide ⟨HB.out.1.bel H5.out.2, _, H5.out.1, by rw [HNX.out]; exact HDD.out.push HE.out, by rw [List.length_append]; have := HEL.out; simp; omega⟩⟩
    case measure => simp [intOf]; omega
  ·have e1 : F.take j = F := List.take_of_length_le (by have := HN.out; omega)
   rw [e1] at HDD
   have HP := hide (show RowPost w Z (del F s.data.toList) (.returned (.slice q m d)) wr from ⟨_, _, _, _, rfl, HO.out, HDD.out, HC.out⟩)
   clear e1
   go_wp2
   go_ret
   exact HP.out
end Go.Proofs.YtgbdjcekpdfpjaaGreatDoor
namespace Go.Proofs.YtgbdjcekpdfpjaaGreatDoor
open Go.RowKit
theorem lay_none {A : Fl} {x b : List UInt8} (h : ∀ p ∈ A, ¬ x < p.1) : lay A x b = A ++ [(x, b)] := by
 induction A with
 | nil => rfl
 | cons p r ih =>
  unfold lay
  rw [if_neg (h p (List.mem_cons_self ..)), ih fun q hq => h q (List.mem_cons_of_mem _ hq)]
  rfl
theorem lay_hit {A : Fl} {x b : List UInt8} {y : List UInt8 × List UInt8} (h : ∀ p ∈ A, ¬ x < p.1) (hy : x < y.1) : lay (A ++ [y]) x b = A ++ [(x, b)] ++ [y] := by
 induction A with
 | nil =>
  show (if x < y.1 then (x, b) :: y :: [] else y :: lay [] x b) = _
  rw [if_pos hy]
  rfl
 | cons p r ih =>
  rw [List.cons_append]
  unfold lay
  rw [if_neg (h p (List.mem_cons_self ..)), ih fun q hq => h q (List.mem_cons_of_mem _ hq)]
  rfl
theorem lay_past {A : Fl} {x b : List UInt8} {y : List UInt8 × List UInt8} (h : ∃ p ∈ A, x < p.1) : lay (A ++ [y]) x b = lay A x b ++ [y] := by
 induction A with
 | nil => obtain ⟨p, hp, _⟩ := h; simp at hp
 | cons p r ih =>
  rw [List.cons_append]
  unfold lay
  by_cases hp : x < p.1
  ·rw [if_pos hp, if_pos hp]
   rfl
  ·rw [if_neg hp, if_neg hp, ih]
   ·rfl
   ·obtain ⟨q, hq, hx⟩ := h
    rcases List.mem_cons.1 hq with rfl | hq
    ·exact absurd hx hp
    ·exact ⟨q, hq, hx⟩
def LayS (A : Fl) (x b : List UInt8) (D : Bool) (O : Fl) : Prop := (D = true ∧ (∃ p ∈ A, x < p.1) ∧ O = lay A x b) ∨ (D = false ∧ (∀ p ∈ A, ¬ x < p.1) ∧ O = A)
theorem LayS.nil (x b : List UInt8) : LayS [] x b false [] := .inr ⟨rfl, by simp, rfl⟩
theorem LayS.yes {A : Fl} {x b : List UInt8} {O : Fl} (h : LayS A x b true O) (y : List UInt8 × List UInt8) : LayS (A ++ [y]) x b true (O ++ [y]) := by
 rcases h with ⟨_, h2, h3⟩ | ⟨h1, _⟩
 ·obtain ⟨p, hp, hx⟩ := h2
  exact .inl ⟨rfl, ⟨p, List.mem_append_left _ hp, hx⟩, by rw [lay_past ⟨p, hp, hx⟩, h3]⟩
 ·cases h1
theorem LayS.hit {A : Fl} {x b : List UInt8} {O : Fl} (h : LayS A x b false O) {y : List UInt8 × List UInt8} (hy : x < y.1) : LayS (A ++ [y]) x b true (O ++ [(x, b)] ++ [y]) := by
 rcases h with ⟨h1, _⟩ | ⟨_, h2, h3⟩
 ·cases h1
 ·exact .inl ⟨rfl, ⟨y, by simp, hy⟩, by rw [lay_hit h2 hy, h3]⟩
theorem LayS.no {A : Fl} {x b : List UInt8} {O : Fl} (h : LayS A x b false O) {y : List UInt8 × List UInt8} (hy : ¬ x < y.1) : LayS (A ++ [y]) x b false (O ++ [y]) := by
 rcases h with ⟨h1, _⟩ | ⟨_, h2, h3⟩
 ·cases h1
 ·refine .inr ⟨rfl, fun p hp => ?_, by rw [h3]⟩
  rcases List.mem_append.1 hp with hp | hp
  ·exact h2 p hp
  ·simp at hp
   rw [hp]
   exact hy
theorem LayS.endT {A : Fl} {x b : List UInt8} {O : Fl} (h : LayS A x b true O) : O = lay A x b := by
 rcases h with ⟨_, _, h⟩ | ⟨h, _⟩
 ·exact h
 ·cases h
theorem LayS.endF {A : Fl} {x b : List UInt8} {O : Fl} (h : LayS A x b false O) : O ++ [(x, b)] = lay A x b := by
 rcases h with ⟨h, _⟩ | ⟨_, h2, h⟩
 ·cases h
 ·rw [lay_none h2, h]
theorem del_le (F : Fl) (k : List UInt8) : (del F k).length ≤ F.length := List.length_filter_le _ _
theorem sl_lt (a b : ByteArray) : Op.bytesLess a.toList b.toList = decide (a.data.toList < b.data.toList) := by rw [bytesLess_eq, ByteArray.toList_eq, ByteArray.toList_eq]
set_option maxRecDepth 200000 in
set_option maxHeartbeats 8000000 in
theorem rwith_any {w : World} {Z : Nat → Prop} {v : Value} {F : Fl} (h : Fil w Z v F) (hZ : ∀ i, Z i → i < w.heap.size) (hl : F.length ≤ 10000) {s : ByteArray} (hs : s.size ≤ 1000) {pb : Option Addr} {nb cb : Nat} {b : List UInt8} (hb : By w (.slice pb nb cb) b) (hbo : b = [] ∨ ∀ k, (Value.slice pb nb cb).ownBlock = some k → ¬ Z k) :
  Calls Tryz.prog 118 #[v, .string s, .slice pb nb cb] w (RowPost w Z (put F s.data.toList b)) := by
 obtain ⟨p, n, c, rfl⟩ := h.sl
 have HL := hide (rless_any h hl s)
 have HX := hide (show Fe w Z ⟨s, pb, nb, cb⟩ (s.data.toList, b) from ⟨rfl, hs, hb, hbo⟩)
 have hdl : (del F s.data.toList).length ≤ 10000 := Nat.le_trans (del_le _ _) hl
 obtain ⟨G, hG⟩ : ∃ G, del F s.data.toList = G := ⟨_, rfl⟩
 have hput : put F s.data.toList b = lay G s.data.toList b := by rw [← hG]; rfl
 rw [hput]
 rw [hG] at HL hdl
 clear hb hbo h hput hG
 go_enter Tryz.func118, Tryz.ntmps118
 go_wp2_with fail
 refine HL.out.mono ?_
 rintro e1 w1 ⟨p1, n1, c1, E1, rfl, ho1, hd1, hc1⟩
 have hn1 : n1 = G.length := by rw [ho1.fcs.len.1, hd1.1]
 have hnm : (n1 : Int) ≤ 9223372036854775807 := by omega
 have HN := hide hn1
 have HO1 := hide ho1.fcs
 have HD1 := hide hd1
 have HC1 := hide hc1
 clear ho1 hd1 hc1 hn1
 go_wp2_with fail
 go_loopw [7, 8, 10, 15] (fun u D _ i wr => ∃ (j : Nat) (q : Option Addr) (m d : Nat) (DD : Bool), u = .slice q m d ∧ D = .bool DD ∧ j ≤ n1 ∧ i = .int .i64 j ∧ Hid (Below w1.heap.size w1 wr ∧ ∃ E O, OwnFc w1.heap.size wr (.slice q m d) E ∧ FilD w Z E O ∧ E.length ≤ j + DD.toNat ∧ LayS (G.take j) s.data.toList b DD O)) (fun _ _ _ i _ => n1 - (intOf i).toNat)
 case atStart => exact ⟨0, none, 0, 0, false, rfl, rfl, Nat.zero_le _, rfl, hide ⟨Below.refl _ _, [], [], OwnFc.nil _ _, FilD.nil _ _, by simp, LayS.nil _ _⟩⟩
 case round =>
  obtain ⟨j, q, m, d, DD, rfl, rfl, hj, rfl, hrel⟩ := hrel
  obtain ⟨hb0, E, O, ho0, hd0, hEl, hLS⟩ := hrel.out
  have HB0 := hide hb0
  have HO := hide ho0
  have HDD := hide hd0
  have HLS := hide hLS
  have HEL := hide hEl
  clear hrel hb0 ho0 hd0 hLS hEl
  by_cases hjn : (j : Int) < (n1 : Int)
  ·obtain ⟨g, o, rfl, hat0⟩ := HO1.out.at_ (by omega)
   have hjE : j < E1.length := by have := HD1.out.1; have := HN.out; omega
   obtain ⟨e, he⟩ : ∃ e, E1[j]? = some e := ⟨_, List.getElem?_eq_getElem hjE⟩
   obtain ⟨x, hx⟩ : ∃ x, G[j]? = some x := ⟨_, List.getElem?_eq_getElem (by have := HN.out; omega)⟩
   have hfe := HD1.out.2 j e x he hx
   have hat := (hat0 j e he).below HB0.out
   obtain ⟨es, ep, en, ec⟩ := e
   obtain ⟨oo, hoo⟩ : ∃ oo, o + j * 2 = oo := ⟨_, rfl⟩
   rw [hoo] at hat
   have e0 := hat.c0
   have e1 := hat.c1
   have hgl := hat.lt
   dsimp only at e0 e1
   have HE := hide hfe
   have htk : G.take (j + 1) = G.take j ++ [x] := by rw [List.take_add_one, hx]; rfl
   have HTK := hide htk
   have hsz : w1.heap.size ≤ wr.heap.size := HB0.out.size
   have HB := hide (And.intro (HB0.out.alloc hsz (.cells #[.string es, .slice ep en ec] 137)) (HO.out.below ((Below.refl _ _).alloc (Nat.le_refl _) (.cells #[.string es, .slice ep en ec] 137))))
   have hjl : j ≤ 10000 := by have := HN.out; omega
   have hnew := heap_alloc_new wr (.cells #[.string es, .slice ep en ec] 137)
   have HNW := hide hnew
   clear hat hat0 hx he hfe htk hjE hnew
   cases DD
   ·by_cases hk : s.data.toList < x.1
    ·have q1 : Op.bytesLess s.toList es.toList = true := by rw [sl_lt, HE.out.nm, decide_eq_true hk]
     have HNX := hide (HLS.out.hit hk)
     clear hk
     go_wp2_with (at_builtin; first
      | (refine wpList_pushFc (v := .slice q m d) rfl _ _ rfl rfl ⟨s, pb, nb, cb⟩ rfl rfl (by simp) HB.out.2 (by simp; omega) (by have := HEL.out; simp at this; omega) ?_; intro v5 w5 ho5 hb5 hg5; obtain ⟨p5, n5, c5, rfl⟩ := ho5.fcs.sl; have hz5 : w5.heap[wr.heap.size]? = some (.cells #[.string es, .slice ep en ec] 137) := (hg5.block wr.heap.size (by simp) (fun e => by have := (HO.out.lt wr.heap.size e.symm).2; omega)).trans HNW.out; have k0 := cell_of_row w5 wr.heap.size 0 _ 137 (0, 0) hz5; have k1 := cell_of_row w5 wr.heap.size 1 _ 137 (0, 0) hz5; have hs5 : w1.heap.size ≤ w5.heap.size := by { have := hb5.size; simp at this; omega }; have H5 := hide (And.intro ho5 hb5); clear ho5 hb5 hg5 hz5)
      | (refine wpList_pushFc (v := .slice p5 n5 c5) rfl _ _ rfl rfl ⟨es, ep, en, ec⟩ rfl rfl (by simp) H5.out.1 hs5 (by have := HEL.out; rw [List.length_append]; simp at this ⊢; omega) ?_; intro v6 w6 ho6 hb6 hg6; obtain ⟨p6, n6, c6, rfl⟩ := ho6.fcs.sl; have H6 := hide (And.intro ho6 hb6); clear ho6 hb6 hg6))
     go_roundw
     case rel => exact ⟨j + 1, p6, n6, c6, true, rfl, rfl, by omega, by go_num, hide ⟨(HB.out.1.trans H5.out.2).trans H6.out.2, _, _, H6.out.1, (HDD.out.push HX.out).push HE.out, by rw [List.length_append, List.length_append]; have := HEL.out; simp at this ⊢; omega, by rw [HTK.out]; exact HNX.out⟩⟩
     case measure => simp [intOf]; omega
    ·have q1 : Op.bytesLess s.toList es.toList = false := by rw [sl_lt, HE.out.nm, decide_eq_false hk]
     have HNX := hide (HLS.out.no hk)
     clear hk
     go_wp2_with (at_builtin; go_must (refine wpList_pushFc (v := .slice q m d) rfl _ _ rfl rfl ⟨es, ep, en, ec⟩ rfl rfl (by simp) HB.out.2 (by simp; omega) (by have := HEL.out; simp at this; omega) ?_); intro v5 w5 ho5 hb5 hg5; obtain ⟨p5, n5, c5, rfl⟩ := ho5.fcs.sl; have H5 := hide (And.intro ho5 hb5); clear ho5 hb5 hg5)
     go_roundw
     case rel => exact ⟨j + 1, p5, n5, c5, false, rfl, rfl, by omega, by go_num, hide ⟨HB.out.1.trans H5.out.2, _, _, H5.out.1, HDD.out.push HE.out, by rw [List.length_append]; have := HEL.out; simp at this ⊢; omega, by rw [HTK.out]; exact HNX.out⟩⟩
     case measure => simp [intOf]; omega
   ·have HNX := hide (HLS.out.yes x)
    go_wp2_with (at_builtin; go_must (refine wpList_pushFc (v := .slice q m d) rfl _ _ rfl rfl ⟨es, ep, en, ec⟩ rfl rfl (by simp) HB.out.2 (by simp; omega) (by have := HEL.out; simp at this; omega) ?_); intro v5 w5 ho5 hb5 hg5; obtain ⟨p5, n5, c5, rfl⟩ := ho5.fcs.sl; have H5 := hide (And.intro ho5 hb5); clear ho5 hb5 hg5)
    go_roundw
    case rel => exact ⟨j + 1, p5, n5, c5, true, rfl, rfl, by omega, by go_num, hide ⟨HB.out.1.trans H5.out.2, _, _, H5.out.1, HDD.out.push HE.out, by rw [List.length_append]; have := HEL.out; simp at this ⊢; omega, by rw [HTK.out]; exact HNX.out⟩⟩
    case measure => simp [intOf]; omega
  ·have e1 : G.take j = G := List.take_of_length_le (by have := HN.out; omega)
   rw [e1] at HLS
   have hsz : w1.heap.size ≤ wr.heap.size := HB0.out.size
   have hcw : Chg w wr (fun _ => False) := HC1.out.bel (HB0.out.mono HC1.out.size)
   have hmo : ∀ (W : World) (u : Value) (E : List Fc), OwnFc w1.heap.size W u E → OwnFc w.heap.size W u E := fun _ _ _ h => h.mono HC1.out.size
   cases DD
   ·have HLE := hide HLS.out.endF
    have HCW := hide hcw
    have HMO := hide hmo
    clear hcw hmo e1
    go_wp2_with (at_builtin; go_must (refine wpList_pushFc (v := .slice q m d) rfl _ _ rfl rfl ⟨s, pb, nb, cb⟩ rfl rfl rfl HO.out hsz (by have := HEL.out; have h2 := HN.out; simp at this; omega) ?_); intro v5 w5 ho5 hb5 hg5; obtain ⟨p5, n5, c5, rfl⟩ := ho5.fcs.sl; have H5 := hide (And.intro ho5 hb5); clear ho5 hb5 hg5)
    go_ret
    exact ⟨_, _, _, _, rfl, HMO.out _ _ _ H5.out.1, by rw [← HLE.out]; exact HDD.out.push HX.out, HCW.out.bel (H5.out.2.mono HC1.out.size)⟩
   ·have hP := hide (show RowPost w Z (lay G s.data.toList b) (.returned (.slice q m d)) wr from ⟨_, _, _, _, rfl, hmo _ _ _ HO.out, by rw [← HLS.out.endT]; exact HDD.out, hcw⟩)
    clear hcw hmo e1
    go_wp2
    go_ret
    exact hP.out
end Go.Proofs.YtgbdjcekpdfpjaaGreatDoor
