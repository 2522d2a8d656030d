import Derived.Test.YtionbmlicmibgaaGreatDoorS2
set_option linter.unusedVariables false
set_option linter.unusedSimpArgs false
namespace Go.Proofs.YtionbmlicmibgaaGreatDoor
open Go.Proofs.Tryz
def dF : Int → List Int → Bool
 | _, [] => true
 | lo, n :: r => decide (lo ≤ n) && decide (n < 7) && dF (n + 1) r
def lU (l : List Int) : Bool := !l.isEmpty && dF 0 l
theorem tv : ∀ {lo : Int} {l : List Int}, dF lo l = true → ∀ x ∈ l, lo ≤ x ∧ x < 7
 | lo, [], _, x, hx => by cases hx
 | lo, n :: r, h, x, hx => by
  simp only [dF, adb, adr] at h;rcases ac9.1 hx with rfl | hx
  ·exact ⟨h.1.1, h.1.2⟩
  ·have := tv h.2 x hx;omega
theorem Ou {l : List Int} (h : lU l = true) : ∀ x ∈ l, 0 ≤ x ∧ x < 7 := by
 simp only [lU, adb] at h;exact tv h.2
open Go.RowKit
def fits (x : Int) : Prop := -9223372036854775808 ≤ x ∧ x ≤ 9223372036854775807
def Ns (w : World) (v : Value) (l : List Int) : Prop :=
 ∃ (p : Option Addr) (c : Nat), v = .slice p l.length c ∧ l.length ≤ c ∧ c ≤ maxLen ∧ (p = none → c = 0) ∧ (∀ x ∈ l, fits x) ∧
  (0 < l.length → ∃ g o, p = some ⟨g, o, none⟩ ∧ ∀ (i : Nat) x, l[i]? = some x → w.cell? ⟨g, o + i, none⟩ = some (.int .i64 x))
theorem Ns.nil (w : World) : Ns w (.slice none 0 0) [] := ⟨none, 0, rfl, acE _, by simp [maxLen], fun _ => rfl, by simp, fun h => absurd h (aez _)⟩
theorem Ns.sl {w : World} {v : Value} {l : List Int} (h : Ns w v l) : ∃ p n c, v = .slice p n c := by
 obtain ⟨p, c, e, _⟩ := h;exact ⟨p, _, c, e⟩
theorem Ns.len {w : World} {p : Option Addr} {n c : Nat} {l : List Int} (h : Ns w (.slice p n c) l) : n = l.length ∧ n ≤ c ∧ c ≤ maxLen := by
 obtain ⟨p', c', e, hl, hm, _⟩ := h;injection e with _ e2 e3;subst e2 e3;exact ⟨rfl, hl, hm⟩
theorem Ns.at_ {w : World} {p : Option Addr} {n c : Nat} {l : List Int} (h : Ns w (.slice p n c) l) (hn : 0 < n) : ∃ g o, p = some ⟨g, o, none⟩ ∧ ∀ (i : Nat) x, l[i]? = some x → w.cell? ⟨g, o + i, none⟩ = some (.int .i64 x) := by
 obtain ⟨p', c', e, _, _, _, _, hx⟩ := h;injection e with e1 e2 e3;subst e1 e2;exact hx hn
theorem Ns.fits {w : World} {v : Value} {l : List Int} (h : Ns w v l) : ∀ x ∈ l, fits x := by
 obtain ⟨_, _, _, _, _, _, hf, _⟩ := h;exact hf
theorem Ns.below {w w' : World} {v : Value} {l : List Int} (h : Ns w v l) (hb : Below w.heap.size w w') : Ns w' v l := by
 obtain ⟨p, c, rfl, hl, hm, hn, hf, hx⟩ := h;refine ⟨p, c, rfl, hl, hm, hn, hf, fun h0 => ?_⟩;obtain ⟨g, o, e, hx⟩ := hx h0;exact ⟨g, o, e, fun i x hi => (hb.cell (lt_of_cell (hx i x hi))).trans (hx i x hi)⟩
def bJ (B : Nat) (w : World) (v : Value) (l : List Int) : Prop := w.ownsRow B 3 1 v l.length (l.map (Value.int .i64)) ∧ ∀ x ∈ l, Go.Proofs.YtionbmlicmibgaaGreatDoor.fits x
theorem bJ.nil (B : Nat) (w : World) : bJ B w (.slice none 0 0) [] := ⟨aex _ _ _ _, by simp⟩
theorem bJ.ns {B : Nat} {w : World} {v : Value} {l : List Int} (h : bJ B w v l) : Ns w v l := by
 obtain ⟨⟨hl, ⟨rfl, h0⟩ | ⟨g, cap, cur, rfl, hB, hh, hc, hm, hs, ht⟩⟩, hf⟩ := h
 ·obtain rfl : l = [] := acP h0;exact Ns.nil w
 ·refine ⟨_, cap, rfl, hc, hm, (fun e => by cases e), hf, fun _ => ⟨g, 0, rfl, fun i x hi => ?_⟩⟩;have Ix := (acL.1 hi).1;have h1 : (l.map (Value.int .i64))[i]? = some (.int .i64 x) := by rw [adS, hi]; rfl
  rw [← ht, adQ (by omega), adZ] at h1;rw [ac2, acC w g i cur _ (0, 0) hh];exact h1
theorem bJ.lt {B : Nat} {w : World} {v : Value} {l : List Int} (h : bJ B w v l) : ∀ k, v.ownBlock = some k → B ≤ k ∧ k < w.heap.size := adA h.1
theorem bJ.below {B : Nat} {w w' : World} {v : Value} {l : List Int} (h : bJ B w v l) (hb : Below w.heap.size w w') : bJ B w' v l := ⟨adV (row := none) h.1 ⟨hb.os, hb.tape, hb.output, hb.size, fun k hk _ => hb.block k hk⟩ (by cases v.ownBlock <;> simp), h.2⟩
theorem bJ.mono {B B' : Nat} {w : World} {v : Value} {l : List Int} (h : bJ B w v l) (hB : B' ≤ B) : bJ B' w v l := ⟨⟨h.1.1, h.1.2.imp id fun ⟨g, cap, cur, e, hb, r⟩ => ⟨g, cap, cur, e, acN hB hb, r⟩⟩, h.2⟩
theorem bJ.grown {B : Nat} {w w' : World} {v : Value} {l : List Int} {row : Option Nat} (h : bJ B w v l) (hg : w.grownBy w' row) (aN : v.ownBlock = none ∨ v.ownBlock ≠ row) : bJ B w' v l := ⟨adV h.1 hg aN, h.2⟩
theorem fZ {a b : Bool} (h : b = a) : Ending.returned (.bool a) = .returned (.bool b) := by rw [h]
theorem Tryz.infoN : (Tryz.prog.info? 3).map (fun i => (i.zero, i.size, i.bytes)) = some (some (.int .i64 0), 1, 8) := by kernel_rfl
theorem xD (l : List Int) : ∀ u ∈ l.map (Value.int .i64), u.oneCell' = true := by
 intro u hu;obtain ⟨x, _, rfl⟩ := ads.1 hu;rfl
theorem Iy {B : Nat} {w : World} {v : Value} {l : List Int} (h : bJ B w v l) (x : Int) (hx : fits x) (hB : B ≤ w.heap.size) (hs : l.length ≤ 1100000) :
  ∃ v' w', (Builtin.append_ #[23, 23] 23 #[v, .slice (some ⟨w.heap.size, 0, none⟩) 1 1]).run prog (w.alloc (.cells #[.int .i64 x] 3)) = .ok v' w' ∧ bJ B w' v' (l ++ [x]) ∧ Below B w w' ∧ w.grownBy w' v.ownBlock := by
 obtain ⟨i0, eV, gu, fC, fD⟩ := adM Tryz.infoN;have xC := ady h.1 (.cells #[.int .i64 x] 3);obtain ⟨v', w', hr, h1, h2, _, h4⟩ := adK (P := prog) (w.alloc (.cells #[.int .i64 x] 3)) B 23 23 3 i0 _ 1 8 ae5 eV gu fC fD rfl (by decide) v l.length (l.map (Value.int .i64)) xC ⟨w.heap.size, 0, none⟩ 1 1 [.int .i64 x] rfl
  (fun j u hj => by
   rw [bq, ac2, acC _ w.heap.size j _ 3 (0, 0) (acQ w _)]
   simpa using hj)
  (xD [x]) (by simp only [maxLen]; omega) (by omega) (by simp; omega)
 have fA : Below B w (w.alloc (.cells #[.int .i64 x] 3)) := (acG _ _).alloc hB _;refine ⟨v', w', hr, ⟨?_, ?_⟩, fA.grown h2 (by simp; omega) fun k hk => (adA h.1 k hk).1, ?_⟩
 ·rw [aed, acH];exact h1
 ·intro y hy;rcases ad1.1 hy with hy | hy
  ·exact h.2 y hy
  ·rw [aeo.1 hy];exact hx
 ·refine ⟨h2.os, h2.tape, h2.output, ?_, fun k hk aN => ?_⟩
  ·have := h2.size;simp at this;omega
  ·rw [h2.block k (by simp; omega) aN];exact aeN _ _ hk
theorem yR {w : World} {ops : Array Oper} {rest : List Oper} {o : Oper} {a : Act} {Q : Exit → Act → World → Prop} (kS : o.guard = none) (s t : Operand)
  (ho : o.op = .call { callee := .builtin .append, args := #[s, t], argTypes := #[23, 23] }) (hty : o.type = 23) {B : Nat} {v : Value} {l : List Int} (x : Int) (hx : fits x) {H : Nat}
  (hs : a.eval s = v) (ht : a.eval t = .slice (some ⟨H, 0, none⟩) 1 1) (hH : H = w.heap.size) (h : bJ B w v l) (hB : B ≤ w.heap.size) (hn : l.length ≤ 1100000)
  (hK : ∀ v' w', bJ B w' v' (l ++ [x]) → Below B w w' → w.grownBy w' v.ownBlock → wpList prog ops Q rest (a.put o.dst v') w') : wpList prog ops Q (o :: rest) a (w.alloc (.cells #[.int .i64 x] 3)) := by
 subst hH;obtain ⟨v', w', hr, h1, h2, h3⟩ := Iy h x hx hB hn;exact adC _ kS s t 23 ho v _ hs ht (by rw [hty]; exact hr) (hK v' w' h1 h2 h3)
theorem tw {w : World} {v : Value} {l : List Int} {B : Nat} (hv : bJ B w v l) (p : Option Addr) (c : Nat) : (Builtin.append_ #[23, 23] 23 #[v, .slice p 0 c]).run prog w = .ok v w := by
 obtain ⟨i0, eV, gu, fC, fD⟩ := adM Tryz.infoN;obtain ⟨⟨_, ⟨rfl, _⟩ | ⟨g, cap, cur, rfl, _, _, hl, _⟩⟩, _⟩ := hv
 ·cases p <;> simp [Builtin.append_, aeu ae5, Go.sizeOf, typeInfo, eV, Builtin.lenOf, Builtin.firstCells, loadCells, loadCellsFrom]
 ·cases p <;> simp [Builtin.append_, aeu ae5, Go.sizeOf, typeInfo, eV, Builtin.lenOf, Builtin.firstCells, hl, storeCells, loadCells, loadCellsFrom]
theorem Bg {B : Nat} {w : World} {v u : Value} {l m : List Int} (h : bJ B w v l) (hu : Ns w u m) (hB : B ≤ w.heap.size) (hs : (l.length + m.length) * 8 ≤ 140737488355328) :
  ∃ v' w', (Builtin.append_ #[23, 23] 23 #[v, u]).run prog w = .ok v' w' ∧ bJ B w' v' (l ++ m) ∧ Below B w w' ∧ w.grownBy w' v.ownBlock := by
 obtain ⟨i0, eV, gu, fC, fD⟩ := adM Tryz.infoN;obtain ⟨p, n, c, rfl⟩ := hu.sl;have hn := hu.len.1;by_cases h0 : n = 0
 ·subst h0;obtain rfl : m = [] := acP hn.symm;exact ⟨v, w, tw h p c, by rw [adh]; exact h, acG _ _, adk _ _⟩
 ·obtain ⟨g, o, rfl, hx⟩ := hu.at_ (by omega);obtain ⟨v', w', hr, h1, h2, _, h4⟩ := adK (P := prog) w B 23 23 3 i0 _ 1 8 ae5 eV gu fC fD rfl (by decide) v l.length (l.map (Value.int .i64)) h.1 ⟨g, o, none⟩ n c (m.map (Value.int .i64)) (by rw [adv, hn]; omega)
   (fun j u hj => by
    rw [adS, aey] at hj;obtain ⟨x, o7, rfl⟩ := hj;rw [bq];exact hx j x o7)
   (xD m) (by simp only [maxLen]; omega) (by omega) hB
  refine ⟨v', w', hr, ⟨?_, ?_⟩, (acG _ _).grown h2 hB fun k hk => (adA h.1 k hk).1, h2⟩
  ·rw [aed, acH, ← hn];exact h1
  ·intro y hy;rcases ad1.1 hy with hy | hy
   ·exact h.2 y hy
   ·exact hu.fits y hy
theorem Ns.getD {w : World} {g o n c : Nat} {l : List Int} (h : Ns w (.slice (some ⟨g, o, none⟩) n c) l) (j : Nat) (hj : j < l.length) : w.cell? ⟨g, o + j, none⟩ = some (.int .i64 (l.getD j 0)) := by
 obtain ⟨g', o', e, hc⟩ := h.at_ (by rw [h.len.1]; omega);injection e with e;injection e with e1 e2;subst e1 e2;rw [hc j _ (acF hj), List.getD_eq_getElem?_getD, acF hj];rfl
theorem Ek {w : World} {v u : Value} {l m : List Int} (h : Ns w v l) (hu : Ns w u m) : Calls prog 30 #[v, u] w fun e w' => e = .returned (.bool (l == m)) ∧ ∃ q, w' = w.drewN q := by
 obtain ⟨p, n, c, rfl⟩ := h.sl;obtain ⟨p2, n2, c2, rfl⟩ := hu.sl;have hn := h.len;have sG := hu.len;have vV := hn.1;have aaB := sG.1;subst vV aaB;have jG : l.length ≤ maxLen := acN hn.2.1 hn.2.2;have Bv : m.length ≤ maxLen := acN sG.2.1 sG.2.2;unfold maxLen at jG Bv;by_cases h0 : 0 < l.length
 ·by_cases h1 : 0 < m.length
  ·obtain ⟨g, o, rfl, hc⟩ := h.at_ h0;obtain ⟨g2, o2, rfl, rX⟩ := hu.at_ h1;have := Tryz.slices_Equal_int g o l.length c g2 o2 m.length c2 l m w (acE _) (acE _) (by omega) (by omega) (fun j hj => h.getD j hj) (fun j hj => hu.getD j hj)
   rwa [ad9, ad9] at this
  ·obtain rfl : m = [] := acP (by omega);refine (Tryz.slices_Equal_int_lens p p2 l.length c 0 c2 w (by omega)).mono fun e w' ⟨he, hw⟩ => ⟨?_, 0, hw⟩
   rw [he];cases l with
   | nil => simp at h0
   | cons x r => rfl
 ·obtain rfl : l = [] := acP (by omega);refine (Tryz.slices_Equal_int_empty p p2 c m.length c2 w (by omega)).mono fun e w' ⟨he, hw⟩ => ⟨?_, 0, hw⟩
  rw [he];cases m with
  | nil => rfl
  | cons x r => rfl
theorem sY {w : World} {v : Value} {l : List Int} (h : Ns w v l) (hs : l.length * 8 ≤ 140737488355328) : Calls prog 17 #[v] w fun e w' => ∃ v', e = .returned v' ∧ bJ w.heap.size w' v' l ∧ Below w.heap.size w w' := by
 obtain ⟨p, n, c, rfl⟩ := h.sl;have hn := h.len;have vV := hn.1;subst vV;by_cases h0 : 0 < l.length
 ·obtain ⟨g, o, rfl, hc⟩ := h.at_ h0;have := Tryz.slices_Clone_int g o l.length c l w (acE _) hs fun j hj => h.getD j hj;rw [ad9] at this;exact this.mono fun e w' ⟨v', he, ho, _, hb⟩ => ⟨v', he, ⟨ho, h.fits⟩, hb⟩
 ·obtain rfl : l = [] := acP (by omega);cases p with
  | none => exact (Tryz.slices_Clone_int_nil 0 c w).mono fun e w' ⟨he, hw⟩ => ⟨_, he, by rw [hw]; exact bJ.nil _ _, by rw [hw]; exact acG _ _⟩
  | some a => exact (Tryz.slices_Clone_int_zero a c w).mono fun e w' ⟨v', he, ho, _, hb⟩ => ⟨v', he, ⟨ho, h.fits⟩, hb⟩
end Go.Proofs.YtionbmlicmibgaaGreatDoor
