import Derived.Laws.OwnMore
import Derived.Maps.OwnSet
import Derived.Maps.RangeWalk
import Derived.Maps.Ext
import Derived.Test.YtionbmlicmibgaaGreatDoorS1
set_option linter.unusedVariables false
set_option linter.unusedSimpArgs false
namespace Go.Proofs.YtionbmlicmibgaaGreatDoor
open Go.Proofs.Tryz
set_option maxRecDepth 200000
set_option maxHeartbeats 1100000
open Go.RowKit
def fW (x : Sp) : List Value := [.int .i64 x.t, .int .i64 x.i, .int .i64 x.p, .int .i64 x.s, .int .i64 x.e, .string x.n]
def dZ (x : Sp) : Value := .agg #[.int .i64 x.t, .int .i64 x.i, .int .i64 x.p, .int .i64 x.s, .int .i64 x.e, .string x.n]
theorem dy (x : Sp) : (fW x).length = 6 := rfl
theorem sL (x : Sp) : ∀ v ∈ fW x, v.oneCell' = true := by
 intro v hv;simp only [fW, ac9, ad_, afd] at hv;rcases hv with rfl | rfl | rfl | rfl | rfl | rfl <;> rfl
theorem kD (l : List Sp) : (l.flatMap fW).length = l.length * 6 := by
 induction l with
 | nil => rfl
 | cons x r ih => rw [adw, acH, ih, dy, acZ]; omega
theorem nj : ∀ (l : List Sp) (i k : Nat) {x : Sp}, l[i]? = some x → k < 6 → (l.flatMap fW)[i * 6 + k]? = (fW x)[k]?
 | [], i, k, x, h, _ => by simp at h
 | y :: r, 0, k, x, h, hk => by
  simp only [ad2, adp] at h;subst h;rw [adw, Nat.zero_mul, ac2, aea (by rw [dy]; exact hk)]
 | y :: r, i + 1, k, x, h, hk => by
  rw [aeh] at h;rw [adw, ad6 (by rw [dy]; omega), dy, show (i + 1) * 6 + k - 6 = i * 6 + k by omega];exact nj r i k h hk
def cj (w : World) (g o : Nat) (x : Sp) : Prop := ∀ (k : Nat) u, (fW x)[k]? = some u → w.cell? ⟨g, o + k, none⟩ = some u
theorem cj.c0 {w : World} {g o : Nat} {x : Sp} (h : cj w g o x) : w.cell? ⟨g, o, none⟩ = some (.int .i64 x.t) := h 0 _ rfl
theorem cj.c1 {w : World} {g o : Nat} {x : Sp} (h : cj w g o x) : w.cell? ⟨g, o + 1, none⟩ = some (.int .i64 x.i) := h 1 _ rfl
theorem cj.c2 {w : World} {g o : Nat} {x : Sp} (h : cj w g o x) : w.cell? ⟨g, o + 2, none⟩ = some (.int .i64 x.p) := h 2 _ rfl
theorem cj.c3 {w : World} {g o : Nat} {x : Sp} (h : cj w g o x) : w.cell? ⟨g, o + 3, none⟩ = some (.int .i64 x.s) := h 3 _ rfl
theorem cj.c4 {w : World} {g o : Nat} {x : Sp} (h : cj w g o x) : w.cell? ⟨g, o + 4, none⟩ = some (.int .i64 x.e) := h 4 _ rfl
theorem cj.c5 {w : World} {g o : Nat} {x : Sp} (h : cj w g o x) : w.cell? ⟨g, o + 5, none⟩ = some (.string x.n) := h 5 _ rfl
theorem cj.lt {w : World} {g o : Nat} {x : Sp} (h : cj w g o x) : g < w.heap.size := lt_of_cell h.c0
theorem cj.below {w w' : World} {g o : Nat} {x : Sp} (h : cj w g o x) (hb : Below w.heap.size w w') : cj w' g o x := fun k u hk => (hb.cell (lt_of_cell (h k u hk))).trans (h k u hk)
theorem cj.grown {w w' : World} {g o : Nat} {x : Sp} {row : Option Nat} (h : cj w g o x) (hg : w.grownBy w' row) (aN : row ≠ some g) : cj w' g o x := fun k u hk => hg.cell (h k u hk) fun e => aN e.symm
def iY (w : World) (v : Value) (l : List Sp) : Prop :=
 ∃ (p : Option Addr) (cap : Nat), v = .slice p l.length cap ∧ l.length ≤ cap ∧ cap ≤ maxLen ∧ (p = none → cap = 0) ∧
  (0 < l.length → ∃ g o, p = some ⟨g, o, none⟩ ∧ ∀ (i : Nat) x, l[i]? = some x → cj w g (o + i * 6) x)
theorem iY.nil (w : World) : iY w (.slice none 0 0) [] := ⟨none, 0, rfl, acE _, by simp [maxLen], fun _ => rfl, fun h => absurd h (aez _)⟩
theorem iY.sl {w : World} {v : Value} {l : List Sp} (h : iY w v l) : ∃ p n c, v = .slice p n c := by
 obtain ⟨p, c, e, _⟩ := h;exact ⟨p, _, c, e⟩
theorem iY.len {w : World} {p : Option Addr} {n c : Nat} {l : List Sp} (h : iY w (.slice p n c) l) : n = l.length ∧ n ≤ c ∧ c ≤ maxLen := by
 obtain ⟨p', c', e, hl, hm, _⟩ := h;injection e with _ e2 e3;subst e2 e3;exact ⟨rfl, hl, hm⟩
theorem iY.at_ {w : World} {p : Option Addr} {n c : Nat} {l : List Sp} (h : iY w (.slice p n c) l) (hn : 0 < n) : ∃ g o, p = some ⟨g, o, none⟩ ∧ ∀ (i : Nat) x, l[i]? = some x → cj w g (o + i * 6) x := by
 obtain ⟨p', c', e, _, _, _, hx⟩ := h;injection e with e1 e2 e3;subst e1 e2;exact hx hn
theorem iY.below {w w' : World} {v : Value} {l : List Sp} (h : iY w v l) (hb : Below w.heap.size w w') : iY w' v l := by
 obtain ⟨p, c, rfl, hl, hm, hn, hx⟩ := h;refine ⟨p, c, rfl, hl, hm, hn, fun h0 => ?_⟩;obtain ⟨g, o, e, hx⟩ := hx h0;exact ⟨g, o, e, fun i x hi => (hx i x hi).below hb⟩
theorem iY.grown {w w' : World} {v : Value} {l : List Sp} {row : Option Nat} (h : iY w v l) (hg : w.grownBy w' row) (aN : l = [] ∨ ∀ k, v.ownBlock = some k → row ≠ some k) : iY w' v l := by
 obtain ⟨p, c, rfl, hl, hm, hn, hx⟩ := h;refine ⟨p, c, rfl, hl, hm, hn, fun h0 => ?_⟩;obtain ⟨g, o, e, hx⟩ := hx h0;refine ⟨g, o, e, fun i x hi => (hx i x hi).grown hg ?_⟩;rcases aN with rfl | aN
 ·simp at h0
 ·exact aN g (by rw [e]; rfl)
def aI (B : Nat) (w : World) (v : Value) (l : List Sp) : Prop := w.ownsRow B 30 6 v l.length (l.flatMap fW)
theorem aI.nil (B : Nat) (w : World) : aI B w (.slice none 0 0) [] := aex _ _ _ _
theorem aI.gp {B : Nat} {w : World} {v : Value} {l : List Sp} (h : aI B w v l) : iY w v l := by
 obtain ⟨hl, ⟨rfl, h0⟩ | ⟨g, cap, cur, rfl, hB, hh, hc, hm, hs, ht⟩⟩ := h
 ·obtain rfl : l = [] := acP h0;exact iY.nil w
 ·refine ⟨_, cap, rfl, hc, hm, (fun e => by cases e), fun _ => ⟨g, 0, rfl, fun i x hi k u hk => ?_⟩⟩;have QU : k < 6 := by
   have := (acL.1 hk).1
   rwa [dy] at this
  have Ix := (acL.1 hi).1;have h1 := nj l i k hi QU;rw [hk, ← ht, adQ (by omega), adZ] at h1;rw [acC w g (0 + i * 6 + k) cur _ (0, 0) hh, ac2];exact h1
theorem aI.lt {B : Nat} {w : World} {v : Value} {l : List Sp} (h : aI B w v l) : ∀ k, v.ownBlock = some k → B ≤ k ∧ k < w.heap.size := adA h
theorem aI.below {B : Nat} {w w' : World} {v : Value} {l : List Sp} (h : aI B w v l) (hb : Below w.heap.size w w') : aI B w' v l := adV (row := none) h ⟨hb.os, hb.tape, hb.output, hb.size, fun k hk _ => hb.block k hk⟩ (by cases v.ownBlock <;> simp)
theorem aI.mono {B B' : Nat} {w : World} {v : Value} {l : List Sp} (h : aI B w v l) (hB : B' ≤ B) : aI B' w v l := ⟨h.1, h.2.imp id fun ⟨g, cap, cur, e, hb, r⟩ => ⟨g, cap, cur, e, acN hB hb, r⟩⟩
theorem aI.grown {B : Nat} {w w' : World} {v : Value} {l : List Sp} {row : Option Nat} (h : aI B w v l) (hg : w.grownBy w' row) (aN : v.ownBlock = none ∨ v.ownBlock ≠ row) : aI B w' v l := adV h hg aN
def bI (L : List Sp) (k : Int) : Option Sp := L.find? fun x => x.i == k
theorem bO {L : List Sp} {k : Int} {x : Sp} (h : bI L k = some x) : x ∈ L ∧ x.i = k := by
 have h1 := List.find?_some h;exact ⟨aeG h, by simpa using h1⟩
theorem jq {L : List Sp} {k : Int} : bI L k = none ↔ ∀ x ∈ L, x.i ≠ k := by
 unfold bI;rw [aeP];simp
theorem zI (L : List Sp) (x : Sp) (k : Int) : bI (L ++ [x]) k = (bI L k).or (if x.i = k then some x else none) := by
 unfold bI;rw [List.find?_append]
 congr 1
 by_cases h : x.i = k <;> simp [h]
theorem jo {L : List Sp} (h : L.Pairwise fun x y => x.i ≠ y.i) {x : Sp} (hx : x ∈ L) : bI L x.i = some x := by
 induction L with
 | nil => simp at hx
 | cons y r ih =>
  rw [ac_] at h;unfold bI;rw [adx];rcases ac9.1 hx with rfl | hx
  ·simp
  ·have := h.1 x hx;simp only [adj.2 this];exact ih h.2 hx
def ic : Value → Option (DataW Value × List MemPlace)
 | .agg a => some (.held (.agg a), [])
 | _ => none
theorem ft {v u : Value} {ps : List MemPlace} (h : ic v = some (.held u, ps)) : v = u := by
 cases v <;> simp [ic] at h
 exact h.1
theorem fe : Maps.Keyed prog 3 := Maps.int_keyed aee
theorem qG {k : Int} (hk : (Lit.int .i64 k).wf = true) : keyOf prog 3 (.int .i64 k) = some (.int .i64 k) := Maps.keyOf_int_mk aee hk
theorem lx (k : Int) : WideAt.IsKeyLit (.int .i64 k) := aev
def BP : Sp := ⟨0, 0, 0, 0, 0, ByteArray.empty⟩
theorem Mh (w : World) : (zeroValue 30).run prog w = .ok (dZ BP) w := by kernel_rfl
structure bW (w : World) (b : Nat) (L : List Sp) (D : DataW Value) : Prop where
 map : w.ownsMap prog 3 ic b L.length D
 size : Maps.size D = L.length
 keys : ∀ k, Maps.has D (.int .i64 k) = (bI L k).isSome
 vals : ∀ k x, bI L k = some x → ∀ z, D.atKey (.int .i64 k) z = .held (dZ x)
 ids : L.Pairwise fun x y => x.i ≠ y.i
theorem gG {H : Type} {P : Program} {k : TypeId} {R : Value → Option (DataW H × List MemPlace)} {w : World} {b n : Nat} {D : DataW H} (h : w.ownsMap P k R b n D) : w.ownsMap P k R b (Maps.size D) D := by
 obtain ⟨es, clock, hb, F, hs, rfl⟩ := h;exact ⟨es, clock, hb, F, by simp [Maps.size, length_sorted], rfl⟩
theorem bW.below {w w' : World} {b : Nat} {L : List Sp} {D : DataW Value} (h : bW w b L D) (hb : Below w.heap.size w w') : bW w' b L D := by
 have bd := h.map.lt;obtain ⟨es, clock, h1, rest⟩ := h.map;exact ⟨⟨es, clock, (hb.block b bd).trans h1, rest⟩, h.size, h.keys, h.vals, h.ids⟩
theorem bW.drewN {w : World} {b : Nat} {L : List Sp} {D : DataW Value} (h : bW w b L D) (q : Nat) : bW (w.drewN q) b L D := ⟨h.map, h.size, h.keys, h.vals, h.ids⟩
theorem bW.grown {w w' : World} {b : Nat} {L : List Sp} {D : DataW Value} {row : Option Nat} (h : bW w b L D) (hg : w.grownBy w' row) (aN : row ≠ some b) : bW w' b L D :=
 ⟨h.map.kept hg fun e => aN e.symm, h.size, h.keys, h.vals, h.ids⟩
theorem bW.look {w : World} {b : Nat} {L : List Sp} {D : DataW Value} (h : bW w b L D) {k : Int} (hk : (Lit.int .i64 k).wf = true) (q : Nat) :
  (Instr.lookup 230 (.map (some b)) (.int .i64 k) true).run prog (w.drewN q) = .ok (.tuple #[dZ ((bI L k).getD BP), .bool (bI L k).isSome]) (w.drewN q) ∧ (Instr.lookup 230 (.map (some b)) (.int .i64 k) false).run prog (w.drewN q) = .ok (dZ ((bI L k).getD BP)) (w.drewN q) := by
 have oB : (w.drewN q).ownsMap prog 3 ic b L.length D := h.map;obtain ⟨v, ps, dB, hv⟩ := oB.look_ok fe aeY (Mh (w.drewN q)) (zd := .held (dZ BP)) (zp := []) rfl (qG hk);obtain ⟨v2, VM, iD, rG⟩ := oB.lookup fe aeY (Mh (w.drewN q)) (zd := .held (dZ BP)) (zp := []) rfl (qG hk);cases hf : bI L k with
 | none =>
  have hh : Maps.has D (.int .i64 k) = false := by rw [h.keys, hf]; rfl
  rw [aeT hh] at hv rG;obtain rfl := ft hv;obtain rfl := ft rG;rw [hh] at dB;exact ⟨dB, iD⟩
 | some x =>
  have hh : Maps.has D (.int .i64 k) = true := by rw [h.keys, hf]; rfl
  rw [h.vals k x hf] at hv rG;obtain rfl := ft hv;obtain rfl := ft rG;rw [hh] at dB;exact ⟨dB, iD⟩
theorem bW.store {w : World} {b : Nat} {L : List Sp} {D : DataW Value} (h : bW w b L D) {x : Sp} (hk : (Lit.int .i64 x.i).wf = true) (hn : bI L x.i = none) (hL : L.length < maxLen) :
  ∃ w', (Instr.mapUpdate 230 (.map (some b)) (.int .i64 x.i) (dZ x)).run prog w = .ok () w' ∧ w.grownBy w' (some b) ∧ bW w' b (L ++ [x]) (D.put (.int .i64 x.i) (.held (dZ x))) := by
 obtain ⟨w', dB, T4, hg⟩ := h.map.update fe aeY hL (qG hk) (d := .held (dZ x)) (ps := []) (val := dZ x) rfl;have ua := h.map.tidy fe;have kt : Maps.size (D.put (.int .i64 x.i) (.held (dZ x))) = (L ++ [x]).length := by
  rw [Maps.size_put ua, h.keys, hn, h.size];simp
 refine ⟨w', dB, hg, ⟨by rw [← kt]; exact gG T4, kt, fun k => ?_, fun k y hy => ?_, ?_⟩⟩
 ·rw [zI];by_cases e : x.i = k
  ·subst e;rw [acW rfl, Maps.has_put_same h.map.isMap (lx _)];cases bI L x.i <;> rfl
  ·rw [acO e, ae_ (fun h => e (by injection h with _ h; exact h.symm)), h.keys];cases bI L k <;> rfl
 ·rw [zI] at hy;by_cases e : x.i = k
  ·subst e;rw [hn, acW rfl] at hy;simp at hy;subst hy;intro z;rw [Maps.atKey_put_same h.map.isMap (lx _)]
  ·rw [acO e] at hy;intro z;rw [Maps.atKey_put_other (fun h => e (by injection h with _ h; exact h.symm))];refine h.vals k y ?_ z;cases hf : bI L k with
   | none => rw [hf] at hy; simp at hy
   | some u => rw [hf] at hy; simpa using hy
 ·rw [aes];refine ⟨h.ids, aeM _ _, fun a ha y hy => ?_⟩;simp only [ac9, ad_, afd] at hy;subst hy;exact jq.1 hn a ha
theorem Pq (w : World) : bW (w.alloc (.map #[] 0)) w.heap.size [] (.map []) :=
 ⟨World.ownsMap_made w _ _ _, rfl, fun k => rfl, fun k x h => by simp [bI] at h, aek⟩
theorem jT (a x b : Int) (w : World) : Calls prog 175 #[.int .i64 a, .int .i64 x, .int .i64 b] w fun e w' => e = .returned (.bool (decide (a ≤ x) && decide (x ≤ b))) ∧ w' = w := by
 by_cases h : a ≤ x
 ·go_enter func175, ntmps175
  go_wp2;go_ret;simp [h]
 ·have h' : decide (a ≤ x) = false := ac1 h;rw [h', Bool.false_and];clear h';go_enter func175, ntmps175
  go_wp2;go_ret;exact ⟨rfl, rfl⟩
theorem pF (a x b : Int) (w : World) : Calls prog 176 #[.int .u8 a, .int .u8 x, .int .u8 b] w fun e w' => e = .returned (.bool (decide (a ≤ x) && decide (x ≤ b))) ∧ w' = w := by
 by_cases h : a ≤ x
 ·go_enter func176, ntmps176
  go_wp2;go_ret;simp [h]
 ·have h' : decide (a ≤ x) = false := ac1 h;rw [h', Bool.false_and];clear h';go_enter func176, ntmps176
  go_wp2;go_ret;exact ⟨rfl, rfl⟩
theorem zJ (x : Sp) (w : World) : Calls prog 136 #[dZ x] w fun e w' => e = .returned (.bool (pe x)) ∧ Below w.heap.size w w' := by
 obtain ⟨t, i, p, s, e, n⟩ := x;unfold dZ pe;dsimp only;obtain ⟨A, hA⟩ : ∃ A, (decide (1 ≤ t) && decide (t ≤ 1099511627776)) = A := ⟨_, rfl⟩
 obtain ⟨B, hB⟩ : ∃ A, (decide (1 ≤ i) && decide (i ≤ 1099511627776)) = A := ⟨_, rfl⟩
 obtain ⟨C, hC⟩ : ∃ A, (decide (0 ≤ p) && decide (p ≤ 1099511627776)) = A := ⟨_, rfl⟩
 rw [hA, hB, hC];cases A <;> cases B <;> cases C
 all_goals
  go_enter func136, ntmps136
  go_wp2_with (go_at_call 175; refine (jT _ _ _ _).mono ?_; rintro e w' ⟨rfl, rfl⟩; first | rw [hA] | rw [hB] | rw [hC])
  go_ret;exact ⟨by first | (simp; done) | (by_cases h : p = i <;> simp [h]), (acG _ _).alloc (acE _) _⟩
theorem Cd (x : Sp) (w : World) : Calls prog 137 #[dZ x] w fun e w' => e = .returned (.bool (tL x)) ∧ Below w.heap.size w w' := by
 obtain ⟨t, i, p, s, e, n⟩ := x;unfold dZ tL;dsimp only;obtain ⟨A, hA⟩ : ∃ A, (decide (0 ≤ s) && decide (s ≤ e)) = A := ⟨_, rfl⟩
 rw [hA];cases A;all_goals
  go_enter func137, ntmps137
  go_wp2_with (go_at_call 175; refine (jT _ _ _ _).mono ?_; rintro e w' ⟨rfl, rfl⟩; rw [hA])
  go_ret;exact ⟨by simp, (acG _ _).alloc (acE _) _⟩
theorem Ce {l : List UInt8} {k : Nat} {y : UInt8} (h : l[k]? = some y) (p : UInt8 → Bool) : (l.drop k).all p = (p y && (l.drop (k + 1)).all p) := by
 have hk := (acL.1 h).1;rw [adL hk, aeI];rw [acF hk] at h;injection h with h;rw [h]
theorem sd (n : ByteArray) (hn : n.size ≤ 1100000) (w : World) : Calls prog 138 #[.string n] w fun e w' => e = .returned (.bool (kZ n.data.toList)) ∧ Below w.heap.size w w' := by
 obtain ⟨A, hA⟩ : ∃ A, (decide ((1 : Int) ≤ n.size) && decide ((n.size : Int) ≤ 32)) = A := ⟨_, rfl⟩
 have hl : n.data.toList.length = n.size := by rw [ad4]; rfl
 have aT : kZ n.data.toList = (A && n.data.toList.all gq) := by
  unfold kZ;rw [← hA, hl]
  congr 2
  ·rw [aeL]; omega
  ·rw [aeL]; omega
 rw [aT];clear aT;cases A
 ·go_enter func138, ntmps138
  go_wp2_with (go_at_call 175; refine (jT _ _ _ _).mono ?_; rintro e w' ⟨rfl, rfl⟩; rw [hA])
  go_ret;exact ⟨rfl, acG _ _⟩
 ·obtain ⟨q, w2, sU, gZ, aP, bd⟩ := rB w n hn;obtain ⟨L, hL⟩ : ∃ L, n.data.toList = L := ⟨_, rfl⟩
  rw [hL] at gZ hl ⊢;have eI := af gZ;have HB := af aP;have HL := af hl;clear gZ aP bd hl hL;go_enter func138, ntmps138
  go_wp2_with (go_at_call 175; refine (jT _ _ _ _).mono ?_; rintro e w' ⟨rfl, rfl⟩; rw [hA])
  clear sU;go_loop [4, 12] (fun _ i => ∃ k : Nat, k ≤ n.size ∧ i = .int .i64 k ∧ Hid ((L.drop k).all gq = L.all gq)) (fun _ i => n.size - (intOf i).toNat)
  case atStart => exact ⟨0, by omega, rfl, af rfl⟩
  case round =>
   obtain ⟨k, hk, rfl, H⟩ := hrel;by_cases EF : (k : Int) < (n.size : Int)
   ·obtain ⟨b2, o2, y, e2, hy, hcell⟩ := eI.out.cellAt (k := k) (by omega);injection e2 with e2;injection e2 with e2 e3;subst e2 e3;have hd := H.out;rw [Ce hy] at hd;have HD := af hd;obtain ⟨Z, hZ⟩ : ∃ Z, (decide ((33 : Int) ≤ y.toNat) && decide ((y.toNat : Int) ≤ 126)) = Z := ⟨_, rfl⟩
    have Rn : gq y = Z := by
     unfold gq;rw [← hZ]
     congr 1
     ·rw [aeL]; omega
     ·rw [aeL]; omega
    have HZ := af Rn;clear hy hd Rn H;rw [ac2] at hcell;cases Z
    ·go_wp2_with (go_at_call 176; refine (pF _ _ _ _).mono ?_; rintro e w' ⟨rfl, rfl⟩; rw [hZ])
     go_ret;refine ⟨?_, HB.out⟩;rw [← HD.out, HZ.out];rfl
    ·go_wp2_with (go_at_call 176; refine (pF _ _ _ _).mono ?_; rintro e w' ⟨rfl, rfl⟩; rw [hZ])
     go_round
     case rel => exact ⟨k + 1, by omega, by go_num, af (by rw [← HD.out, HZ.out, adY])⟩
     case measure => simp [intOf]; omega
   ·go_wp2;go_ret;refine ⟨?_, HB.out⟩;have := H.out;rw [aei (by have := HL.out; omega)] at this;rw [← this];rfl
theorem az (w : World) (x : Sp) : cj (w.alloc (.cells #[.int .i64 x.t, .int .i64 x.i, .int .i64 x.p, .int .i64 x.s, .int .i64 x.e, .string x.n] 30)) w.heap.size 0 x := fun k u hk => by
 rw [acC _ w.heap.size (0 + k) _ 30 (0, 0) (acQ w _), ac2]
 simpa [fW] using hk
structure SpZ (w : World) (g : Nat) (t i p s e : Int) (n : ByteArray) : Prop where
 d0 : w.cell? ⟨g, 0, none⟩ = some (.int .i64 t)
 d1 : w.cell? ⟨g, 1, none⟩ = some (.int .i64 i)
 d2 : w.cell? ⟨g, 2, none⟩ = some (.int .i64 p)
 d3 : w.cell? ⟨g, 3, none⟩ = some (.int .i64 s)
 d4 : w.cell? ⟨g, 4, none⟩ = some (.int .i64 e)
 d5 : w.cell? ⟨g, 5, none⟩ = some (.string n)
theorem cj.z {w : World} {g : Nat} {x : Sp} (h : cj w g 0 x) : SpZ w g x.t x.i x.p x.s x.e x.n := ⟨h.c0, h.c1, h.c2, h.c3, h.c4, h.c5⟩
theorem kq (x : Sp) (hn : x.n.size ≤ 1100000) (w : World) : Calls prog 100 #[dZ x] w fun e w' => e = .returned (.int .i64 (if x.ok then 0 else 30)) ∧ Below w.heap.size w w' := by
 have h1 := zJ x;have h2 := Cd x;have h3 := sd x.n hn;obtain ⟨A, hA⟩ : ∃ A, pe x = A := ⟨_, rfl⟩
 obtain ⟨B, hB⟩ : ∃ A, tL x = A := ⟨_, rfl⟩
 obtain ⟨C, hC⟩ : ∃ A, kZ x.n.data.toList = A := ⟨_, rfl⟩
 have hx : x.ok = (A && B && C) := by unfold Sp.ok Sp.nl; rw [hA, hB, hC]
 rw [hA] at h1;rw [hB] at h2;rw [hC] at h3;rw [hx];clear hx hA hB hC;have bg := az w x;obtain ⟨t, i, p, s, e, n⟩ := x;unfold dZ at *;dsimp only at *;have H1 := af h1;have H2 := af h2;have H3 := af h3;have HN := af bg;obtain ⟨R, hR⟩ : ∃ R : Int, (if (A && B && C) = true then 0 else 30) = R := ⟨_, rfl⟩
 rw [hR];have HR := af hR;clear h1 h2 h3 bg hR;cases A
 ·go_enter func100, ntmps100
  go_wp2_with fail
  refine (H1.out _).mono ?_;rintro e1 w1 ⟨rfl, aK⟩;have aS := af (((acG w.heap.size w).alloc (acE _) _).trans (aK.mono (by simp)));clear aK;go_wp2;go_ret;exact ⟨by rw [← HR.out]; rfl, aS.out⟩
 ·go_enter func100, ntmps100
  go_wp2_with fail
  refine (H1.out _).mono ?_;rintro e1 w1 ⟨rfl, aK⟩;obtain ⟨d0, d1, d2, d3, d4, d5⟩ := (HN.out.below aK).z;have eL := af (HN.out.below aK);have aS := af (((acG w.heap.size w).alloc (acE _) _).trans (aK.mono (by simp)));clear aK;dsimp only at d0 d1 d2 d3 d4 d5;go_wp2_with fail
  refine (H2.out _).mono ?_;rintro e2 w2 ⟨rfl, aP⟩;obtain ⟨f0, f1, f2, f3, f4, f5⟩ := (eL.out.below aP).z;have cE := af (aS.out.trans (aP.mono aS.out.size));clear aP d0 d1 d2 d3 d4 d5;dsimp only at f0 f1 f2 f3 f4 f5;cases B
  ·go_wp2;go_ret;exact ⟨by rw [← HR.out]; rfl, cE.out⟩
  ·go_wp2_with fail
   refine (H3.out _).mono ?_;rintro e3 w3 ⟨rfl, cF⟩;have fH := af (cE.out.trans (cF.mono cE.out.size));clear cF;cases C;all_goals
    go_wp2;go_ret;exact ⟨by rw [← HR.out]; rfl, fH.out⟩
def vF (L : List Sp) (id : Int) : Nat → Int → Bool
 | 0, _ => false
 | n + 1, a => match bI L a with
  | none => false
  | some u => if u.p = id then true else vF L id n u.p
def rH (L : List Sp) (r : Int → Nat) : Prop := ∀ x ∈ L, ∀ u, bI L x.p = some u → r u.i < r x.i
theorem Cf {L : List Sp} {r : Int → Nat} (hr : rH L r) (id : Int) : ∀ (n m : Nat) (a : Int), (∀ u, bI L a = some u → r u.i < n ∧ r u.i < m) → vF L id n a = vF L id m a := by
 intro n
 induction n with
 | zero =>
  intro m a h;cases m with
  | zero => rfl
  | succ m =>
   unfold vF;cases hf : bI L a with
   | none => rfl
   | some u => have := (h u hf).1; omega
 | succ n ih =>
  intro m a h;cases m with
  | zero =>
   unfold vF;cases hf : bI L a with
   | none => rfl
   | some u => have := (h u hf).2; omega
  | succ m =>
   unfold vF;cases hf : bI L a with
   | none => rfl
   | some u =>
    simp only
    split
    ·rfl
    ·refine ih m u.p fun v hv => ?_;have h1 := h u hf;have h2 := hr u (bO hf).1 v hv;omega
def rk (L : List Sp) (r : Int → Nat) (a : Int) : Nat := match bI L a with
 | none => 0
 | some u => r u.i + 1
def Ay (L : List Sp) (r : Int → Nat) (id a : Int) : Bool := vF L id (rk L r a) a
theorem jU {L : List Sp} {r : Int → Nat} {a : Int} {u : Sp} (h : bI L a = some u) : rk L r a = r u.i + 1 := by unfold rk; rw [h]
theorem Ge {L : List Sp} {r : Int → Nat} {a : Int} (h : bI L a = none) : rk L r a = 0 := by unfold rk; rw [h]
theorem zK {L : List Sp} {r : Int → Nat} {id a : Int} (h : bI L a = none) : Ay L r id a = false := by
 unfold Ay;rw [Ge h];rfl
theorem Gf {L : List Sp} {r : Int → Nat} {id a : Int} {u : Sp} (h : bI L a = some u) (hu : u.p = id) : Ay L r id a = true := by
 unfold Ay;rw [jU h];unfold vF;rw [h];simp [hu]
theorem Mi {L : List Sp} {r : Int → Nat} (hr : rH L r) {id a : Int} {u : Sp} (h : bI L a = some u) (hu : u.p ≠ id) : Ay L r id a = Ay L r id u.p := by
 unfold Ay;rw [jU h]
 conv => lhs; unfold vF
 rw [h];simp only [acO hu];refine Cf hr id _ _ _ fun v hv => ?_;have := hr u (bO h).1 v hv;rw [jU hv];omega
def Ps (r : Int → Nat) (v5 v6 : Value) (wr : World) : Nat := match v6 with
 | .bool true => match v5 with
  | .pointer (some ad) => match wr.cell? ⟨ad.block, 1, none⟩ with
   | some (.int _ n) => r n + 1
   | _ => 0
  | _ => 0
 | _ => 0
theorem xV {r : Int → Nat} {g : Nat} {wr : World} {u : Sp} (h : cj wr g 0 u) : Ps r (.pointer (some ⟨g, 0, none⟩)) (.bool true) wr = r u.i + 1 := by
 unfold Ps;simp only [h.c1]
theorem I8 {r : Int → Nat} {v : Value} {wr : World} : Ps r v (.bool false) wr = 0 := rfl
theorem I9 {w : World} {b : Nat} {L : List Sp} {D : DataW Value} (h : bW w b L D) {r : Int → Nat} (hr : rH L r) (hw : ∀ x ∈ L, (Lit.int .i64 x.p).wf = true) {x : Sp} (hx : (Lit.int .i64 x.p).wf = true) : Calls prog 228 #[.map (some b), dZ x] w fun e w' => e = .returned (.bool (Ay L r x.i x.p)) ∧ Below w.heap.size w w' := by
 have HR := af hr;have HW := af hw;have bg := az w x;obtain ⟨t, i, p, s, e, nm⟩ := x;have b1 := (acG w.heap.size w).alloc (acE _) (.cells #[.int .i64 t, .int .i64 i, .int .i64 p, .int .i64 s, .int .i64 e, .string nm] 30);unfold dZ at *;dsimp only at *;obtain ⟨X, hX⟩ : ∃ X, w.alloc (.cells #[.int .i64 t, .int .i64 i, .int .i64 p, .int .i64 s, .int .i64 e, .string nm] 30) = X := ⟨_, rfl⟩
 rw [hX] at bg b1;have aK : bW X b L D := by rw [← hX]; exact h.grown (ada w _ none) (by simp)
 have HS := af bg;have HB := af aK;have aS := af b1;have l1 := (aK.look hx 0).1;obtain ⟨u, hu⟩ : ∃ u, (bI L p).getD BP = u := ⟨_, rfl⟩
 obtain ⟨th, Az⟩ : ∃ th, (bI L p).isSome = th := ⟨_, rfl⟩
 rw [hu, Az] at l1;have l1' : (Instr.lookup 230 (.map (some b)) (.int .i64 p) true).run prog X = .ok (.tuple #[dZ u, .bool th]) X := l1;have c2 := bg.c2;have HU := af (acD hu Az);clear h hr hw bg b1 aK l1 hx hu Az;unfold dZ at l1';dsimp only at *;go_enter func228, ntmps228
 go_wp2_with fail
 go_loopw [5, 6] (fun v5 v6 wr => ∃ (g : Nat) (a : Int) (th : Bool), v5 = .pointer (some ⟨g, 0, none⟩) ∧ v6 = .bool th ∧ Hid ((bI L a).isSome = th ∧ cj wr g 0 ((bI L a).getD BP) ∧ cj wr w.heap.size 0 ⟨t, i, p, s, e, nm⟩ ∧ bW wr b L D ∧ Below w.heap.size w wr ∧ w.heap.size < g ∧ Ay L r i a = Ay L r i p)) (fun v5 v6 wr => Ps r v5 v6 wr)
 case atStart =>
  refine ⟨X.heap.size, p, th, rfl, rfl, af ⟨HU.out.2, ?_, ?_, HB.out.grown (ada X _ none) (by simp), aS.out.alloc aS.out.size _, ?_, rfl⟩⟩
  ·rw [HU.out.1];exact az X u
  ·exact HS.out.grown (ada X _ none) (by simp)
  ·have := HS.out.lt;exact this
 case round =>
  obtain ⟨g, a, th2, rfl, rfl, hrel⟩ := hrel;obtain ⟨Mj, hg, hx, Mk, oZ, jD, I_⟩ := hrel.out;cases th2
  ·have hf : bI L a = none := by simpa using Mj
   have dt : Ay L r i p = false := by rw [← I_]; exact zK hf
   have cY := af dt;have QS := af oZ;clear dt hf Mj hg hx Mk oZ jD I_ hrel;go_wp2;go_ret;exact ⟨by rw [cY.out]; rfl, QS.out⟩
  ·obtain ⟨u2, hf⟩ : ∃ u2, bI L a = some u2 := adG.1 Mj;rw [hf, aep] at hg;by_cases hp : u2.p = i
   ·have dt : Ay L r i p = true := by rw [← I_]; exact Gf hf hp
    have cY := af dt;have QS := af oZ;have d2 := hg.c2;have e1 := hx.c1;dsimp only at e1;rw [hp] at d2;clear dt hf Mj hg hx Mk oZ jD I_ hrel;go_wp2;go_ret;exact ⟨by rw [cY.out]; rfl, QS.out⟩
   ·have hup : Ay L r i u2.p = Ay L r i p := by rw [← I_]; exact (Mi HR.out hf hp).symm
    have hz := Mk.grown (ada wr (.cells #[.int .i64 u2.t, .int .i64 u2.i, .int .i64 u2.p, .int .i64 u2.s, .int .i64 u2.e, .string u2.n] 30) none) (by simp);have l2 := (hz.look (HW.out u2 (bO hf).1) 0).1;obtain ⟨v, hv⟩ : ∃ v, (bI L u2.p).getD BP = v := ⟨_, rfl⟩
    obtain ⟨th3, T8⟩ : ∃ th, (bI L u2.p).isSome = th := ⟨_, rfl⟩
    rw [hv, T8] at l2;have l2' : (Instr.lookup 230 (.map (some b)) (.int .i64 u2.p) true).run prog (wr.alloc (.cells #[.int .i64 u2.t, .int .i64 u2.i, .int .i64 u2.p, .int .i64 u2.s, .int .i64 u2.e, .string u2.n] 30)) = .ok (.tuple #[.agg #[.int .i64 v.t, .int .i64 v.i, .int .i64 v.p, .int .i64 v.s, .int .i64 v.e, .string v.n], .bool th3]) (wr.alloc (.cells #[.int .i64 u2.t, .int .i64 u2.i, .int .i64 u2.p, .int .i64 u2.s, .int .i64 u2.e, .string u2.n] 30)) := l2;obtain ⟨d0, d1, d2, d3, d4, d5⟩ := hg.z;have e1 := hx.c1;dsimp only at e1;have HV := af (acD hv T8);have HF := af hf;have HP := af hp;have HUP := af hup;have HG := af hg;have rh := af (acD hx (acD Mk (acD oZ jD)));have hpi : (u2.p == i) = false := adj.2 hp;clear l2 hz hup hv T8 hf Mj hg hx Mk oZ jD I_ hrel;go_wp2;refine ⟨⟨wr.heap.size, u2.p, th3, rfl, rfl, af ⟨HV.out.2, ?_, rh.out.1.grown (ada wr _ none) (by simp), rh.out.2.1.grown (ada wr _ none) (by simp), rh.out.2.2.1.alloc rh.out.2.2.1.size _, ?_, HUP.out⟩⟩, ?_⟩
    ·rw [HV.out.1];exact az wr v
    ·exact rh.out.1.lt
    ·rw [xV HG.out];cases th3 with
     | false => rw [I8]; omega
     | true =>
      obtain ⟨v', hv'⟩ : ∃ v', bI L u2.p = some v' := adG.1 HV.out.2;have lJ := HV.out.1;rw [hv', aep] at lJ;subst lJ;rw [xV (az wr v')];have := HR.out u2 (bO HF.out).1 v' hv';omega
noncomputable def ring (L : List Sp) (id a : Int) : Bool := by
 classical exact decide (∃ n, vF L id n a = true)
theorem kF {L : List Sp} {id a : Int} : ring L id a = true ↔ ∃ n, vF L id n a = true := by
 unfold ring;simp
theorem Cg {L : List Sp} {id : Int} : ∀ {n m : Nat} {a : Int}, n ≤ m → vF L id n a = true → vF L id m a = true
 | 0, _, _, _, h => by cases h
 | n + 1, 0, _, hm, _ => by omega
 | n + 1, m + 1, a, hm, h => by
  unfold vF at h ⊢;cases hf : bI L a with
  | none => rw [hf] at h; exact h
  | some u =>
   rw [hf] at h;simp only at h ⊢;by_cases hp : u.p = id
   ·rw [acW hp]
   ·rw [acO hp] at h ⊢;exact Cg (by omega) h
theorem Ch {L : List Sp} {r : Int → Nat} (hr : rH L r) (id a : Int) : Ay L r id a = ring L id a := by
 have key : ∀ m, rk L r a ≤ m → vF L id (rk L r a) a = vF L id m a := fun m hm => Cf hr id _ _ _ fun u hu => by
  rw [jU hu] at *;omega
 rw [aem, kF];constructor
 ·intro h;exact ⟨_, h⟩
 ·rintro ⟨n, hn⟩;unfold Ay;rw [key (max n (rk L r a)) (by omega)];exact Cg (by omega) hn
theorem Ml {L : List Sp} {id a : Int} (h : bI L a = none) : ring L id a = false := by
 rw [adJ, ne_eq, kF];rintro ⟨n, hn⟩;cases n with
 | zero => cases hn
 | succ n => unfold vF at hn; rw [h] at hn; cases hn
theorem Mn {L : List Sp} {id a : Int} {u : Sp} (h : bI L a = some u) (hu : u.p = id) : ring L id a = true := by
 rw [kF];refine ⟨1, ?_⟩;unfold vF;rw [h];simp [hu]
theorem Pt {L : List Sp} {id a : Int} {u : Sp} (h : bI L a = some u) (hu : u.p ≠ id) : ring L id a = ring L id u.p := by
 rw [aem, kF, kF];constructor
 ·rintro ⟨n, hn⟩;cases n with
  | zero => cases hn
  | succ n =>
   unfold vF at hn;rw [h] at hn;simp only [acO hu] at hn;exact ⟨n, hn⟩
 ·rintro ⟨n, hn⟩;refine ⟨n + 1, ?_⟩;unfold vF;rw [h];simp only [acO hu];exact hn
def qH (L : List Sp) : Prop := ∃ r, rH L r
theorem uf : qH [] := ⟨fun _ => 0, fun x hx => by simp at hx⟩
theorem EV {L : List Sp} (hid : L.Pairwise fun x y => x.i ≠ y.i) (h : qH L) {x : Sp} (hn : bI L x.i = none) (hr : ring L x.i x.p = false) (hp : x.p ≠ x.i) : qH (L ++ [x]) := by
 obtain ⟨r, hR⟩ := h;refine ⟨fun k => if k = x.i then rk L r x.p else if ring L x.i k = true then r k + (rk L r x.p + 1) else r k, fun y hy u hu => ?_⟩;rw [zI] at hu;have Ro : ∀ {k v}, bI L k = some v → v.i ≠ x.i := fun {k v} hv => jq.1 hn v (bO hv).1;simp only;rcases ad1.1 hy with hy | hy
 ·have hyi : y.i ≠ x.i := jq.1 hn y hy;have Ya := jo hid hy;rw [acO hyi];cases hf : bI L y.p with
  | some v =>
   rw [hf] at hu;simp only [Option.some_or, adp] at hu;subst hu;have VN := Ro hf;have hvp := (bO hf).2;rw [acO VN];have hyp : y.p ≠ x.i := fun e => VN (hvp.trans e);rw [Pt Ya hyp, ← hvp];have := hR y hy v hf
   split <;> omega
  | none =>
   rw [hf] at hu;simp only [Option.none_or] at hu;by_cases e : x.i = y.p
   ·rw [acW e] at hu;injection hu with hu;subst hu;rw [acW rfl, acW (Mn Ya e.symm)];omega
   ·rw [acO e] at hu;cases hu
 ·simp only [ac9, ad_, afd] at hy;subst hy;rw [acW rfl];cases hf : bI L y.p with
  | some v =>
   rw [hf] at hu;simp only [Option.some_or, adp] at hu;subst hu;have VN := Ro hf;have hvp := (bO hf).2;rw [acO VN, acO (by rw [hvp, hr]; simp), jU hf];omega
  | none =>
   rw [hf] at hu;simp only [Option.none_or] at hu;by_cases e : y.i = y.p
   ·exact absurd e.symm hp
   ·rw [acO e] at hu;cases hu
open Go.RowKit Go.Lib
theorem Ci (a b : ByteArray) : (a.toList == b.toList) = decide (a = b) := by
 rw [aem, adr, beq_iff_eq, ae7, ae7];constructor
 ·intro h;obtain ⟨⟨x⟩⟩ := a;obtain ⟨⟨y⟩⟩ := b;simp only at h;rw [h]
 ·rintro rfl;rfl
theorem EK (x y : Sp) : (x.t == y.t && (x.i == y.i && (x.p == y.p && (x.s == y.s && (x.e == y.e && (x.n.toList == y.n.toList)))))) = decide (x = y) := by
 obtain ⟨a, b, c, d, e, f⟩ := x;obtain ⟨a', b', c', d', e', f'⟩ := y;dsimp only;rw [Ci, aem];simp [Sp.mk.injEq]
theorem LH (x y : Sp) (w : World) : (binOp .eql 30 (.agg (fW x).toArray) (.agg (fW y).toArray)).run prog w = .ok (.bool (decide (x = y))) w := by
 have u3 := aee;have u9 := afb;have a3 := Tryz.isAgg3;have z3 := Tryz.sizeOf3;have a9 := Tryz.isAgg9;have z9 := Tryz.sizeOf9;have hS : Tryz.prog.underlying 30 = some (.struct (Tryz.prog.fieldsOf 30)) := by kernel_rfl
 have hp : Tryz.prog.stoodInHeld 30 = false := by kernel_rfl
 rw [← EK];simp only [fW];rw [run_eql_struct, show (10000 : Nat) = 9999 + 1 from rfl, run_equalIn_agg w 9999 30 _ _ hS hp];simp only [Program.fieldsOf, underlying30];go_simp
 (repeat' split) <;> simp_all
theorem Tryz.infoSp' : (Tryz.prog.info? 30).map (fun i => (i.zero, i.size, i.bytes)) = some (some (.agg #[.int .i64 0, .int .i64 0, .int .i64 0, .int .i64 0, .int .i64 0, .string ⟨#[]⟩]), 6, 56) := by kernel_rfl
theorem flat_get {l : List Sp} {j : Nat} {u : Value} (h : (l.flatMap fW)[j]? = some u) : ∃ x, l[j / 6]? = some x ∧ (fW x)[j % 6]? = some u := by
 have hj := (acL.1 h).1;rw [kD] at hj;have hx : l[j / 6]? = some (l[j / 6]'(by omega)) := acF _;refine ⟨_, hx, ?_⟩;rw [← nj l (j / 6) (j % 6) hx (ae8 _ (by omega)), show j / 6 * 6 + j % 6 = j by omega];exact h
theorem Cj {w : World} {v : Value} {l : List Sp} (h : iY w v l) (hl : l.length ≤ 1100000) :
  Calls prog 16 #[v] w fun e w' => ∃ v', e = .returned v' ∧ aI w.heap.size w' v' l ∧ Below w.heap.size w w' := by
 obtain ⟨p, n, c, rfl⟩ := h.sl;obtain ⟨hn, Xh, hm⟩ := h.len;have qsp : ∀ (w : World) (a : Option Addr) (n c n' c' : Nat), (binOp .eql 22 (.slice a n c) (.slice none n' c')).run prog w = .ok (.bool a.isNone) w := fun w a n c n' c' => Lib.run_eql_slice_nil w _ _ a n c n' c' aeQ;rcases p with _ | a
 ·obtain rfl : l = [] := by
   obtain ⟨p', c', e, _, _, VL, _⟩ := h;injection e with e1 e2 e3;subst e1;exact acP (by have := VL rfl; omega)
  go_enter func16, ntmps16
  go_wp2;go_ret;exact ⟨_, rfl, aI.nil _ _, acG _ _⟩
 ·obtain ⟨i0, hi, gu, fC, fD⟩ := adM Tryz.infoSp';have A := af h;have HN := af hn;clear h hn;go_enter func16, ntmps16
  go_wp2_with (at_builtin; refine afh _ rfl _ _ 22 rfl w.heap.size 30 i0 (.agg #[.int .i64 0, .int .i64 0, .int .i64 0, .int .i64 0, .int .i64 0, .string ⟨#[]⟩]) 6 56 aeQ hi gu fC fD rfl (by decide) _ _ _ rfl (World.ownsRow_made w #[] 0 (acE _) (adq _) rfl) a n c (l.flatMap fW) rfl ?qc1 ?qc2 ?qc3 ?qc4 ?qc5 ?qc6 ?_)
  case qc1 => rw [kD, HN.out]
  case qc2 =>
   intro j u hj;obtain ⟨x, hx, hu⟩ := flat_get hj;have Bw : 0 < n := by
    have := (acL.1 hx).1;have := HN.out;omega
   obtain ⟨g, o, e, hc⟩ := A.out.at_ Bw;injection e with e;subst e;have := hc (j / 6) x hx (j % 6) u hu;rw [show o + j / 6 * 6 + j % 6 = o + j by omega] at this;refine acX _ ?_;rw [bq];exact this
  case qc3 =>
   intro u hu;obtain ⟨x, _, hx⟩ := adz.1 hu;exact sL x u hx
  case qc4 => have := HN.out; simp only [maxLen]; omega
  case qc5 => have := HN.out; omega
  case qc6 => simp
  intro v' w1 dG tB Tc;go_wp2;go_ret;refine ⟨v', rfl, ?_, ?_⟩
  ·unfold aI;rw [← HN.out]
   simpa using dG
  ·exact ((acG _ w).alloc (acE _) _).grown tB (by simp) (by intro k hk; simp [Value.ownBlock] at hk; omega)
structure ak (w w' : World) (S : Nat → Prop) : Prop where
 os : w'.os = w.os
 tape : w'.tape = w.tape
 output : w'.output = w.output
 size : w.heap.size ≤ w'.heap.size
 block : ∀ k, k < w.heap.size → ¬ S k → w'.heap[k]? = w.heap[k]?
theorem ak.refl (w : World) (S : Nat → Prop) : ak w w S := ⟨rfl, rfl, rfl, acE _, fun _ _ _ => rfl⟩
theorem ak.trans {a b c : World} {S S' : Nat → Prop} (h : ak a b S) (h' : ak b c S') (hs : ∀ k, S' k → S k ∨ a.heap.size ≤ k) : ak a c S :=
 ⟨h'.os.trans h.os, h'.tape.trans h.tape, h'.output.trans h.output, acN h.size h'.size, fun k hk hn =>
  (h'.block k (acV hk h.size) (fun h1 => by
   rcases hs k h1 with h2 | h2
   ·exact hn h2
   ·omega)).trans (h.block k hk hn)⟩
theorem ak.mono {w w' : World} {S S' : Nat → Prop} (h : ak w w' S) (hs : ∀ k, S k → S' k) : ak w w' S' :=
 ⟨h.os, h.tape, h.output, h.size, fun k hk hn => h.block k hk fun h1 => hn (hs k h1)⟩
theorem ak.aV {w w' : World} {row : Option Nat} (h : w.grownBy w' row) (S : Nat → Prop) (hs : ∀ k, row = some k → S k ∨ w.heap.size ≤ k) : ak w w' S :=
 ⟨h.os, h.tape, h.output, h.size, fun k hk hn => h.block k hk fun e => by
  rcases hs k e.symm with h1 | h1
  ·exact hn h1
  ·omega⟩
theorem ak.of_below {w w' : World} (h : Below w.heap.size w w') (S : Nat → Prop) : ak w w' S := ⟨h.os, h.tape, h.output, h.size, fun k hk _ => h.block k hk⟩
theorem ak.drewN {w w' : World} {S : Nat → Prop} (h : ak w w' S) (n : Nat) : ak w (w'.drewN n) S := ⟨h.os, h.tape, h.output, h.size, h.block⟩
theorem ak.aZ {w0 w w' : World} {S : Nat → Prop} (hb : Below w0.heap.size w0 w) (h : ak w w' S) (hs : ∀ k, S k → w0.heap.size ≤ k) : Below w0.heap.size w0 w' :=
 ⟨h.os.trans hb.os, h.tape.trans hb.tape, h.output.trans hb.output, acN hb.size h.size, fun k hk => (h.block k (acV hk hb.size) (fun h1 => by have := hs k h1; omega)).trans (hb.block k hk)⟩
theorem ak.cell {w w' : World} {S : Nat → Prop} (h : ak w w' S) {a : Addr} {v : Value} (hc : w.cell? a = some v) (hn : ¬ S a.block) : w'.cell? a = some v :=
 (adi (h.block a.block (World.block_lt_of_cell? w a hc) hn)).trans hc
theorem ak.set {w w' : World} {S : Nat → Prop} (h : ak w w' S) {g i : Nat} (x : Value) (hg : S g ∨ w.heap.size ≤ g) : ak w (w'.setCell ⟨g, i, none⟩ x) S :=
 ⟨h.os, h.tape, h.output, by have := h.size; simpa [World.setCell] using this, fun k hk hn => (adf w' ⟨g, i, none⟩ k _ (by
  rcases hg with hg | hg
  ·exact fun e => hn (by simp at e; rw [e]; exact hg)
  ·simp; omega)).trans (h.block k hk hn)⟩
theorem ak.alloc {w w' : World} {S : Nat → Prop} (h : ak w w' S) (o : Obj) : ak w (w'.alloc o) S :=
 h.trans (ak.aV (ada w' o none) (fun _ => False) (fun k e => by cases e)) (fun k e => e.elim)
structure Cn where
 add : Nat
 same : Nat
 other : Nat
 dw : Nat
 full : Nat
def Cn.sum (c : Cn) : Nat := c.add + c.same + c.other + c.dw + c.full
structure bD (w : World) (g : Nat) (c : Cn) : Prop where
 c0 : w.cell? ⟨g, 0, none⟩ = some (.int .i64 (c.add : Nat))
 c1 : w.cell? ⟨g, 1, none⟩ = some (.int .i64 (c.same : Nat))
 c2 : w.cell? ⟨g, 2, none⟩ = some (.int .i64 (c.other : Nat))
 c3 : w.cell? ⟨g, 3, none⟩ = some (.int .i64 (c.dw : Nat))
 c4 : w.cell? ⟨g, 4, none⟩ = some (.int .i64 (c.full : Nat))
 fr : ∀ k, k < 5 → w.frozen? ⟨g, k, none⟩ = false
theorem bD.alloc {w : World} {g : Nat} {c : Cn} (h : bD w g c) (o : Obj) : bD (w.alloc o) g c :=
 ⟨acX _ h.c0, acX _ h.c1, acX _ h.c2, acX _ h.c3, acX _ h.c4, fun k hk => by rw [World.frozen?_alloc_past _ _ _ (lt_of_cell h.c0)]; exact h.fr k hk⟩
theorem bD.s0 {w : World} {g : Nat} {c : Cn} (h : bD w g c) : bD (w.setCell ⟨g, 0, none⟩ (.int .i64 ((c.add : Int) + 1))) g { c with add := c.add + 1 } :=
 ⟨by rw [adB (h := h.c0)]; simp, by rw [acM _ _ _ _ (by simp)]; exact h.c1, by rw [acM _ _ _ _ (by simp)]; exact h.c2, by rw [acM _ _ _ _ (by simp)]; exact h.c3, by rw [acM _ _ _ _ (by simp)]; exact h.c4, fun k hk => by rw [adN]; exact h.fr k hk⟩
theorem bD.s1 {w : World} {g : Nat} {c : Cn} (h : bD w g c) : bD (w.setCell ⟨g, 1, none⟩ (.int .i64 ((c.same : Int) + 1))) g { c with same := c.same + 1 } :=
 ⟨by rw [acM _ _ _ _ (by simp)]; exact h.c0, by rw [adB (h := h.c1)]; simp, by rw [acM _ _ _ _ (by simp)]; exact h.c2, by rw [acM _ _ _ _ (by simp)]; exact h.c3, by rw [acM _ _ _ _ (by simp)]; exact h.c4, fun k hk => by rw [adN]; exact h.fr k hk⟩
theorem bD.s2 {w : World} {g : Nat} {c : Cn} (h : bD w g c) : bD (w.setCell ⟨g, 2, none⟩ (.int .i64 ((c.other : Int) + 1))) g { c with other := c.other + 1 } :=
 ⟨by rw [acM _ _ _ _ (by simp)]; exact h.c0, by rw [acM _ _ _ _ (by simp)]; exact h.c1, by rw [adB (h := h.c2)]; simp, by rw [acM _ _ _ _ (by simp)]; exact h.c3, by rw [acM _ _ _ _ (by simp)]; exact h.c4, fun k hk => by rw [adN]; exact h.fr k hk⟩
theorem bD.s3 {w : World} {g : Nat} {c : Cn} (h : bD w g c) : bD (w.setCell ⟨g, 3, none⟩ (.int .i64 ((c.dw : Int) + 1))) g { c with dw := c.dw + 1 } :=
 ⟨by rw [acM _ _ _ _ (by simp)]; exact h.c0, by rw [acM _ _ _ _ (by simp)]; exact h.c1, by rw [acM _ _ _ _ (by simp)]; exact h.c2, by rw [adB (h := h.c3)]; simp, by rw [acM _ _ _ _ (by simp)]; exact h.c4, fun k hk => by rw [adN]; exact h.fr k hk⟩
theorem bD.s4 {w : World} {g : Nat} {c : Cn} (h : bD w g c) : bD (w.setCell ⟨g, 4, none⟩ (.int .i64 ((c.full : Int) + 1))) g { c with full := c.full + 1 } :=
 ⟨by rw [acM _ _ _ _ (by simp)]; exact h.c0, by rw [acM _ _ _ _ (by simp)]; exact h.c1, by rw [acM _ _ _ _ (by simp)]; exact h.c2, by rw [acM _ _ _ _ (by simp)]; exact h.c3, by rw [adB (h := h.c4)]; simp, fun k hk => by rw [adN]; exact h.fr k hk⟩
theorem bD.below {w w' : World} {g : Nat} {c : Cn} (h : bD w g c) (hb : Below w.heap.size w w') : bD w' g c :=
 ⟨(hb.cell (lt_of_cell h.c0)).trans h.c0, (hb.cell (lt_of_cell h.c1)).trans h.c1, (hb.cell (lt_of_cell h.c2)).trans h.c2, (hb.cell (lt_of_cell h.c3)).trans h.c3, (hb.cell (lt_of_cell h.c4)).trans h.c4, fun k hk => (hb.frozen (p := ⟨g, k, none⟩) (show g < w.heap.size from lt_of_cell h.c0)).trans (h.fr k hk)⟩
theorem bD.grown {w w' : World} {g : Nat} {c : Cn} {row : Option Nat} (h : bD w g c) (hg : w.grownBy w' row) (aN : row ≠ some g) : bD w' g c :=
 have hb : w'.heap[g]? = w.heap[g]? := hg.block g (lt_of_cell h.c0) (fun e => aN e.symm)
 ⟨(adi hb).trans h.c0, (adi hb).trans h.c1, (adi hb).trans h.c2, (adi hb).trans h.c3, (adi hb).trans h.c4, fun k hk => (adR (a := ⟨g, k, none⟩) hb).trans (h.fr k hk)⟩
theorem ak.cC {a b c : World} {S : Nat → Prop} (h : ak a b S) (h' : Below b.heap.size b c) : ak a c S := h.trans (ak.of_below h' (fun _ => False)) (fun k e => e.elim)
theorem sM {w X : World} {b gc i : Nat} {L : List Sp} {D : DataW Value} (h : bW X b L D ∧ ak w X fun k => k = b ∨ k = gc) (aN : gc ≠ b) (v : Value) (o : Obj) : bW ((X.setCell ⟨gc, i, none⟩ v).alloc o) b L D ∧ ak w ((X.setCell ⟨gc, i, none⟩ v).alloc o) fun k => k = b ∨ k = gc :=
 ⟨(h.1.grown (aj X gc i v) (fun e => aN (by injection e))).grown (ada _ o none) (by simp), (h.2.set v (.inl (.inr rfl))).alloc o⟩
noncomputable def bF (L : List Sp) (c : Cn) (x : Sp) : List Sp × Cn := match bI L x.i with
 | some o => if o = x then (L, { c with same := c.same + 1 }) else (L, { c with other := c.other + 1 })
 | none => if 64 ≤ L.length then (L, { c with full := c.full + 1 }) else if ring L x.i x.p = true then (L, { c with dw := c.dw + 1 }) else (L ++ [x], { c with add := c.add + 1 })
theorem Pv {w : World} {b : Nat} {L : List Sp} {D : DataW Value} {x : Sp} {gc : Nat} {c : Cn} (h : bW w b L D) (hr : qH L) (hw : ∀ x ∈ L, (Lit.int .i64 x.p).wf = true) (hxi : (Lit.int .i64 x.i).wf = true) (hxp : (Lit.int .i64 x.p).wf = true) (hL : L.length ≤ 64) (hc : bD w gc c) (hcs : c.sum ≤ 1100000) (aN : gc ≠ b) :
  Calls prog 222 #[.map (some b), dZ x, .pointer (some ⟨gc, 0, none⟩)] w fun e w' => e = .returned (.tuple #[]) ∧ (∃ D', bW w' b (bF L c x).1 D') ∧ bD w' gc (bF L c x).2 ∧ ak w w' (fun k => k = b ∨ k = gc) := by
 obtain ⟨r, hr⟩ := hr;have HR := af hr;have HW := af hw;have bg := az w x;have N8 := LH ((bI L x.i).getD BP) x;obtain ⟨t, i, p, s, e, nm⟩ := x;obtain ⟨na, ns, no, ny, nf⟩ := c;unfold Cn.sum at hcs;unfold dZ at *;unfold fW at *;dsimp only at *;obtain ⟨X, hX⟩ : ∃ X, w.alloc (.cells #[.int .i64 t, .int .i64 i, .int .i64 p, .int .i64 s, .int .i64 e, .string nm] 30) = X := ⟨_, rfl⟩
 have aK : bW X b L D := by rw [← hX]; exact h.grown (ada w _ none) (by simp)
 have BS : ak w X (fun k => k = b ∨ k = gc) := by rw [← hX]; exact (ak.refl w _).alloc _
 rw [hX] at bg;have l1 := (aK.look hxi 0).1;obtain ⟨u, hu⟩ : ∃ u, (bI L i).getD BP = u := ⟨_, rfl⟩
 obtain ⟨th, Az⟩ : ∃ th, (bI L i).isSome = th := ⟨_, rfl⟩
 rw [hu] at N8;rw [hu, Az] at l1;have l1' : (Instr.lookup 230 (.map (some b)) (.int .i64 i) true).run prog X = .ok (.tuple #[dZ u, .bool th]) X := l1;obtain ⟨c0, c1, c2, c3, c4, c5⟩ := bg.z;dsimp only at c0 c1 c2 c3 c4 c5;have kg : bD X gc ⟨na, ns, no, ny, nf⟩ := by
  rw [← hX];exact ⟨acX _ hc.c0, acX _ hc.c1, acX _ hc.c2, acX _ hc.c3, acX _ hc.c4, fun k hk => by rw [World.frozen?_alloc_past _ _ _ (lt_of_cell hc.c0)]; exact hc.fr k hk⟩
 unfold dZ at l1';have TJ : gc < X.heap.size := lt_of_cell kg.c0;have hgn : gc ≠ X.heap.size := by omega
 have VP : w.heap.size < X.heap.size := bg.lt;have Kc : w.heap.size ≠ X.heap.size := by omega
 have HX := af (acD aK BS);have HC := af kg;obtain ⟨k0, k1, k2, k3, k4, kf⟩ := kg;have kf0 := kf 0 (by omega);have kf1 := kf 1 (by omega);have kf2 := kf 2 (by omega);have kf3 := kf 3 (by omega);have kf4 := kf 4 (by omega);dsimp only at k0 k1 k2 k3 k4;have hna : (na : Int) ≤ 1100000 := by omega
 have KW : (ns : Int) ≤ 1100000 := by omega
 have fI : (no : Int) ≤ 1100000 := by omega
 have Z7 : (ny : Int) ≤ 1100000 := by omega
 have hnf : (nf : Int) ≤ 1100000 := by omega
 have jd := af aN;have HN := af bg;clear kf aK BS h hc hcs l1 hw hr N8 aN bg;go_enter func222, ntmps222
 cases th
 ·have hf : bI L i = none := by simpa using Az
  rw [hf, Option.getD_none] at hu;subst hu;unfold BP at *;dsimp only at *;obtain ⟨Z, hZ⟩ : ∃ Z, X.alloc (.cells #[.int .i64 0, .int .i64 0, .int .i64 0, .int .i64 0, .int .i64 0, .string ByteArray.empty] 30) = Z := ⟨_, rfl⟩
  have vu : bW Z b L D := by rw [← hZ]; exact HX.out.1.grown (ada X _ none) (by simp)
  have Pw : ak w Z (fun k => k = b ∨ k = gc) := by rw [← hZ]; exact HX.out.2.alloc _
  have Mq : bD Z gc ⟨na, ns, no, ny, nf⟩ := by rw [← hZ]; exact HC.out.alloc _
  have hxz : cj Z w.heap.size 0 ⟨t, i, p, s, e, nm⟩ := by rw [← hZ]; exact HN.out.grown (ada X _ none) (by simp)
  have hlen := vu.map.len aeY 3;rw [vu.size] at hlen;obtain ⟨z0, z1, z2, z3, z4, zf⟩ := Mq;have zf0 := zf 0 (by omega);have zf1 := zf 1 (by omega);have zf2 := zf 2 (by omega);have zf3 := zf 3 (by omega);have zf4 := zf 4 (by omega);dsimp only at z0 z1 z2 z3 z4;obtain ⟨y0, y1, y2, y3, y4, y5⟩ := hxz.z;dsimp only at y0 y1 y2 y3 y4 y5;have HZ := af (acD vu (acD Pw hxz));have VQ : Hid (bD Z gc ⟨na, ns, no, ny, nf⟩) := af ⟨z0, z1, z2, z3, z4, zf⟩;clear zf vu Pw hxz;by_cases TC : (64 : Int) ≤ (L.length : Int)
  ·have dt : bF L ⟨na, ns, no, ny, nf⟩ ⟨t, i, p, s, e, nm⟩ = (L, ⟨na, ns, no, ny, nf + 1⟩) := by
    unfold bF;simp only [hf, acW (show 64 ≤ L.length by omega)]
   have cY := af dt;clear dt hf Az;go_wp2;go_end0
   refine ⟨rfl, ?_⟩;rw [cY.out];exact ⟨⟨_, HZ.out.1.grown (aj Z gc 4 _) (fun e => jd.out (by injection e))⟩, VQ.out.s4, HZ.out.2.1.set _ (.inl (.inr rfl))⟩
  ·have vG : ring L i p = Ay L r i p := (Ch HR.out i p).symm;have kG := I9 HZ.out.1 HR.out HW.out (x := ⟨t, i, p, s, e, nm⟩) hxp;unfold dZ at kG;dsimp only at kG;rw [← vG] at kG;clear vG;cases Bm : ring L i p
   ·have dt : bF L ⟨na, ns, no, ny, nf⟩ ⟨t, i, p, s, e, nm⟩ = (L ++ [⟨t, i, p, s, e, nm⟩], ⟨na + 1, ns, no, ny, nf⟩) := by
     unfold bF;simp only [hf, acO (show ¬ 64 ≤ L.length by omega), Bm];simp
    have cY := af dt;have HF := af hf;rw [Bm] at kG;clear dt hf Az Bm;go_wp2_with fail
    refine kG.mono ?_;rintro e1 w1 ⟨rfl, aK⟩;have T9 := HZ.out.2.2.below aK;obtain ⟨j0, j1, j2, j3, j4, j5⟩ := T9.z;dsimp only at j0 j1 j2 j3 j4 j5;obtain ⟨w2, dB, dO, Rq⟩ := (HZ.out.1.below aK).store (x := ⟨t, i, p, s, e, nm⟩) hxi HF.out (by simp [maxLen]; omega);have sG := (VQ.out.below aK).grown dO (fun e => jd.out (by injection e with e; exact e.symm));obtain ⟨v0, v1, v2, v3, v4, vf⟩ := sG;have vf0 := vf 0 (by omega);dsimp only at v0;have HN2 : Hid (bD w2 gc ⟨na, ns, no, ny, nf⟩) := af ⟨v0, v1, v2, v3, v4, vf⟩;have Zr := af Rq;have HCG : Hid (ak w w2 (fun k => k = b ∨ k = gc)) := af ((HZ.out.2.1.cC aK).trans (ak.aV dO (fun k => k = b ∨ k = gc) (fun k e => by injection e with e; exact .inl (.inl e.symm))) (fun k hk => .inl hk));unfold dZ at dB;dsimp only at dB;clear vf aK T9 dO Rq;go_wp2;go_end0
    refine ⟨rfl, ?_⟩;rw [cY.out];exact ⟨⟨_, Zr.out.grown (aj w2 gc 0 _) (fun e => jd.out (by injection e))⟩, HN2.out.s0, HCG.out.set _ (.inl (.inr rfl))⟩
   ·have dt : bF L ⟨na, ns, no, ny, nf⟩ ⟨t, i, p, s, e, nm⟩ = (L, ⟨na, ns, no, ny + 1, nf⟩) := by
     unfold bF;simp only [hf, acO (show ¬ 64 ≤ L.length by omega), Bm, if_true]
    have cY := af dt;rw [Bm] at kG;clear dt hf Az Bm;go_wp2_with fail
    refine kG.mono ?_;rintro e1 w1 ⟨rfl, aK⟩;have zy := VQ.out.below aK;obtain ⟨v0, v1, v2, v3, v4, vf⟩ := zy;have vf3 := vf 3 (by omega);dsimp only at v3;have Wk : Hid (bD w1 gc ⟨na, ns, no, ny, nf⟩) := af ⟨v0, v1, v2, v3, v4, vf⟩;have aS := af aK;clear vf aK;go_wp2;go_end0
    refine ⟨rfl, ?_⟩;rw [cY.out];exact ⟨⟨_, (HZ.out.1.below aS.out).grown (aj w1 gc 3 _) (fun e => jd.out (by injection e))⟩, Wk.out.s3, (HZ.out.2.1.cC aS.out).set _ (.inl (.inr rfl))⟩
 ·obtain ⟨o, hf⟩ : ∃ o, bI L i = some o := adG.1 Az;rw [hf, aep] at hu;subst hu;by_cases J9 : o = ⟨t, i, p, s, e, nm⟩
  ·have dt : bF L ⟨na, ns, no, ny, nf⟩ ⟨t, i, p, s, e, nm⟩ = (L, ⟨na, ns + 1, no, ny, nf⟩) := by
    unfold bF;simp only [hf, acW J9]
   have cY := af dt;subst J9;clear dt hf Az;go_wp2;go_end0
   refine ⟨rfl, ?_⟩;rw [cY.out];exact ⟨⟨_, (sM HX.out jd.out _ _).1⟩, (HC.out.s1).alloc _, (sM HX.out jd.out _ _).2⟩
  ·have dt : bF L ⟨na, ns, no, ny, nf⟩ ⟨t, i, p, s, e, nm⟩ = (L, ⟨na, ns, no + 1, ny, nf⟩) := by
    unfold bF;simp only [hf, acO J9]
   have cY := af dt;have hoi := (bO hf).2;obtain ⟨t', i', p', s', e', wL⟩ := o;dsimp only at *;subst hoi;have eS : t' ≠ t ∨ (t' = t ∧ p' ≠ p) ∨ (t' = t ∧ p' = p ∧ s' ≠ s) ∨ (t' = t ∧ p' = p ∧ s' = s ∧ e' ≠ e) ∨ (t' = t ∧ p' = p ∧ s' = s ∧ e' = e ∧ wL.toList ≠ nm.toList) := by
    have hb := EK ⟨t', i', p', s', e', wL⟩ ⟨t, i', p, s, e, nm⟩;rw [ac1 J9] at hb;by_cases h1 : t' = t
    ·by_cases h2 : p' = p
     ·by_cases h3 : s' = s
      ·by_cases h4 : e' = e
       ·refine .inr (.inr (.inr (.inr ⟨h1, h2, h3, h4, fun h5 => ?_⟩)));simp [h1, h2, h3, h4, h5] at hb
       ·exact .inr (.inr (.inr (.inl ⟨h1, h2, h3, h4⟩)))
      ·exact .inr (.inr (.inl ⟨h1, h2, h3⟩))
     ·exact .inr (.inl ⟨h1, h2⟩)
    ·exact .inl h1
   clear dt hf Az J9;rcases eS with h1 | ⟨rfl, h1⟩ | ⟨rfl, rfl, h1⟩ | ⟨rfl, rfl, rfl, h1⟩ | ⟨rfl, rfl, rfl, rfl, h1⟩;all_goals
    go_wp2;go_end0
    refine ⟨rfl, ?_⟩;rw [cY.out];exact ⟨⟨_, (sM HX.out jd.out _ _).1⟩, (HC.out.s2).alloc _, (sM HX.out jd.out _ _).2⟩
structure dT (tr : Int) (L : List Sp) : Prop where
 ids : L.Pairwise fun x y => x.i ≠ y.i
 rises : qH L
 ok : ∀ x ∈ L, x.ok = true ∧ x.t = tr
 len : L.length ≤ 64
structure jr (w : World) (g b : Nat) (tr : Int) (L : List Sp) : Prop where
 c0 : w.cell? ⟨g, 0, none⟩ = some (.map (some b))
 c1 : w.cell? ⟨g, 1, none⟩ = some (.int .i64 tr)
 ne : g ≠ b
 FD : ∃ D, bW w b L D
 ok : dT tr L
theorem jr.below {w w' : World} {g b : Nat} {tr : Int} {L : List Sp} (h : jr w g b tr L) (hb : Below w.heap.size w w') : jr w' g b tr L :=
 ⟨(hb.cell (lt_of_cell h.c0)).trans h.c0, (hb.cell (lt_of_cell h.c1)).trans h.c1, h.ne, by obtain ⟨D, hD⟩ := h.FD; exact ⟨D, hD.below hb⟩, h.ok⟩
theorem jr.drewN {w : World} {g b : Nat} {tr : Int} {L : List Sp} (h : jr w g b tr L) (q : Nat) : jr (w.drewN q) g b tr L :=
 ⟨h.c0, h.c1, h.ne, by obtain ⟨D, hD⟩ := h.FD; exact ⟨D, hD.drewN q⟩, h.ok⟩
theorem ag {B : Nat} (w : World) (q : Nat) : Below B w (w.drewN q) := ⟨rfl, rfl, rfl, acE _, fun _ _ => rfl⟩
theorem zM {B : Nat} {w V : World} (h : Below B w V) {g i : Nat} {x : Value} (hB : B ≤ g) : Below B w (V.setCell ⟨g, i, none⟩ x) :=
 ⟨h.os, h.tape, h.output, by have := h.size; simpa [World.setCell] using this, fun k hk => (adf V ⟨g, i, none⟩ k _ (by simp; omega)).trans (h.block k hk)⟩
theorem zN (b : Nat) (w : World) : (binOp .neq 230 (.map (some b)) (.map none)).run prog w = .ok (.bool true) w := by
 kernel_rfl
theorem pG {w : World} {g b : Nat} {tr : Int} {L : List Sp} (h : jr w g b tr L) : Calls prog 172 #[.pointer (some ⟨g, 0, none⟩)] w fun e w' => e = .returned (.bool true) ∧ ∃ q, w' = w.drewN q := by
 have c0 := h.c0;clear h;have T_ := zN b;go_enter func172, ntmps172
 go_wp2;go_ret;exact ⟨rfl, 0, rfl⟩
theorem ug (L : List Sp) (c : Cn) (x : Sp) : (bF L c x).2.sum = c.sum + 1 := by
 unfold bF Cn.sum;cases bI L x.i with
 | none => simp only; (repeat' split); all_goals (simp only <;> omega)
 | some o => simp only; split; all_goals (simp only <;> omega)
theorem xW {L : List Sp} {c : Cn} {x : Sp} : (bF L c x).1 = L ∨ (bI L x.i = none ∧ ¬ 64 ≤ L.length ∧ ring L x.i x.p = false ∧ (bF L c x).1 = L ++ [x]) := by
 unfold bF;cases hf : bI L x.i with
 | some o => simp only; split <;> exact .inl rfl
 | none =>
  simp only;by_cases h1 : 64 ≤ L.length
  ·rw [acW h1]; exact .inl rfl
  ·rw [acO h1];by_cases h2 : ring L x.i x.p = true
   ·rw [acW h2]; exact .inl rfl
   ·rw [acO h2];exact .inr ⟨aev, h1, by simpa using h2, rfl⟩
theorem zO {tr : Int} {L : List Sp} {c : Cn} {x : Sp} (h : dT tr L) (hx : x.ok = true) (hp : x.p ≠ x.i) (ht : x.t = tr) : dT tr (bF L c x).1 := by
 rcases xW (L := L) (c := c) (x := x) with e | ⟨h1, h2, h3, e⟩
 ·rw [e]; exact h
 ·rw [e];refine ⟨?_, EV h.ids h.rises h1 h3 hp, fun y hy => ?_, by rw [acH, aeF]; omega⟩
  ·rw [aes];refine ⟨h.ids, aeM _ _, fun a ha y hy => ?_⟩;simp only [ac9, ad_, afd] at hy;subst hy;exact jq.1 h1 a ha
  ·rcases ad1.1 hy with hy | hy
   ·exact h.ok y hy
   ·simp only [ac9, ad_, afd] at hy;subst hy;exact ⟨hx, ht⟩
noncomputable def cJ : List Sp → Cn → List Sp → List Sp × Cn
 | L, c, [] => (L, c)
 | L, c, x :: r => cJ (bF L c x).1 (bF L c x).2 r
theorem ox : ∀ (l : List Sp) (L : List Sp) (c : Cn) (x : Sp), cJ L c (l ++ [x]) = bF (cJ L c l).1 (cJ L c l).2 x
 | [], L, c, x => rfl
 | y :: r, L, c, x => by
  rw [aeZ];unfold cJ;exact ox r _ _ x
theorem qD : ∀ (l : List Sp) (L : List Sp) (c : Cn), (cJ L c l).2.sum = c.sum + l.length
 | [], L, c => rfl
 | y :: r, L, c => by
  unfold cJ;rw [qD r, ug, acZ];omega
theorem tV {tr : Int} : ∀ (l : List Sp) {L : List Sp} {c : Cn}, dT tr L → (∀ x ∈ l, x.ok = true ∧ x.p ≠ x.i ∧ x.t = tr) → dT tr (cJ L c l).1
 | [], L, c, h, _ => h
 | y :: r, L, c, h, hl => by
  have hy := hl y (ac8 ..);exact tV r (zO h hy.1 hy.2.1 hy.2.2) fun x hx => hl x (ade _ hx)
end Go.Proofs.YtionbmlicmibgaaGreatDoor
