import Derived.Shelf.SlSortCmp.NoneTotal
import Derived.Test.YtionbmlicmibgaaGreatDoorS3
set_option linter.unusedVariables false
set_option linter.unusedSimpArgs false
namespace Go.Proofs.YtionbmlicmibgaaGreatDoor
open Go.Proofs.Tryz
set_option maxRecDepth 200000
set_option maxHeartbeats 4000000
open Go.RowKit Go.Sort
def dE : List Int → Int
 | [] => 0
 | x :: r => if x ≠ 0 then x else dE r
theorem zR {l : List Int} {k : Nat} {z : Int} (h : l[k]? = some z) : dE (l.drop k) = if z ≠ 0 then z else dE (l.drop (k + 1)) := by
 have hk := (acL.1 h).1;rw [adL hk];rw [acF hk] at h;injection h with h;rw [h];rfl
theorem yb {w : World} {b n : Nat} {zs : List Int} (hn : zs.length = n) (hn6 : n ≤ 1000) (hc : ∀ (k : Nat) z, zs[k]? = some z → w.cell? ⟨b, k, none⟩ = some (.int .i64 z)) :
  Calls prog 224 #[.slice (some ⟨b, 0, none⟩) n n] w fun e w' => e = .returned (.int .i64 (dE zs)) ∧ w' = w := by
 have HC := af hc;have HN := af hn;clear hc hn;go_enter func224, ntmps224
 go_wp2_with fail
 go_loop [5, 8] (fun _ i => ∃ k : Nat, k ≤ n ∧ i = .int .i64 k ∧ Hid (dE (zs.drop k) = dE zs)) (fun _ i => n - (intOf i).toNat)
 case atStart => exact ⟨0, by omega, rfl, af rfl⟩
 case round =>
  obtain ⟨k, hk, rfl, H⟩ := hrel;by_cases bd : (k : Int) < (n : Int)
  ·obtain ⟨z, hz⟩ : ∃ z, zs[k]? = some z := ⟨_, acF (by have := HN.out; omega)⟩
   have hcell := HC.out k z hz;have HF := af ((zR hz).symm.trans H.out);clear hz H;by_cases h0 : z = 0
   ·subst h0;go_wp2;go_round
    case rel => exact ⟨k + 1, by omega, by go_num, af (by have := HF.out; rwa [acO (by simp)] at this)⟩
    case measure => simp [intOf]; omega
   ·go_wp2;go_ret;refine ⟨?_, rfl⟩;have := HF.out;rw [acW h0] at this;rw [this];rfl
  ·go_wp2;go_ret;refine ⟨?_, rfl⟩;have := H.out;rw [aei (by have := HN.out; omega)] at this;rw [← this];rfl
theorem Jo (w : World) (a0 a1 a2 a3 a4 a5 : Int) : Calls prog 224 #[.slice (some ⟨w.heap.size, 0, none⟩) 6 6] (w.alloc (.cells #[.int .i64 a0, .int .i64 a1, .int .i64 a2, .int .i64 a3, .int .i64 a4, .int .i64 a5] 3)) fun e w' =>
  e = .returned (.int .i64 (dE [a0, a1, a2, a3, a4, a5])) ∧ w' = w.alloc (.cells #[.int .i64 a0, .int .i64 a1, .int .i64 a2, .int .i64 a3, .int .i64 a4, .int .i64 a5] 3) := by
 refine yb (n := 6) rfl (by decide) fun k z hk => ?_;rw [acC _ w.heap.size k _ 3 (0, 0) (acQ w _)]
 match k, hk with
 | 0, hk => simp at hk; subst hk; rfl
 | 1, hk => simp at hk; subst hk; rfl
 | 2, hk => simp at hk; subst hk; rfl
 | 3, hk => simp at hk; subst hk; rfl
 | 4, hk => simp at hk; subst hk; rfl
 | 5, hk => simp at hk; subst hk; rfl
theorem EZ (w : World) (a0 a1 a2 a3 a4 a5 : Int) : Calls prog 224 #[.slice (some ⟨w.heap.size, 0, none⟩) 6 6] (w.alloc (.cells #[.int .i64 a0, .int .i64 a1, .int .i64 a2, .int .i64 a3, .int .i64 a4, .int .i64 a5] 3)).drew fun e w' =>
  e = .returned (.int .i64 (dE [a0, a1, a2, a3, a4, a5])) ∧ w' = (w.alloc (.cells #[.int .i64 a0, .int .i64 a1, .int .i64 a2, .int .i64 a3, .int .i64 a4, .int .i64 a5] 3)).drew := by
 refine yb (n := 6) rfl (by decide) fun k z hk => ?_
 show (w.alloc (.cells #[.int .i64 a0, .int .i64 a1, .int .i64 a2, .int .i64 a3, .int .i64 a4, .int .i64 a5] 3)).cell? _ = _
 rw [acC _ w.heap.size k _ 3 (0, 0) (acQ w _)]
 match k, hk with
 | 0, hk => simp at hk; subst hk; rfl
 | 1, hk => simp at hk; subst hk; rfl
 | 2, hk => simp at hk; subst hk; rfl
 | 3, hk => simp at hk; subst hk; rfl
 | 4, hk => simp at hk; subst hk; rfl
 | 5, hk => simp at hk; subst hk; rfl
theorem Fa (x y : Sp) : sg x y = dE [Lib.compareInt x.t y.t, Lib.compareInt x.s y.s, Lib.compareInt x.i y.i, Lib.compareInt x.p y.p, Lib.compareInt x.e y.e, Lib.compareBytes x.nl y.nl] := by
 unfold sg qI dE dE dE dE dE dE dE;dsimp only
 (repeat' split) <;> first | rfl | omega
theorem Cr (x y : Sp) (W : World) : Calls prog 215 #[dZ x, dZ y] W fun e w' => e = .returned (.int .i64 (sg x y)) ∧ ∃ q os, w' = grow (W.drewN q) os := by
 rw [Fa];obtain ⟨X, hX⟩ : ∃ X, (W.alloc (.cells #[.int .i64 x.t, .int .i64 x.i, .int .i64 x.p, .int .i64 x.s, .int .i64 x.e, .string x.n] 30)).alloc (.cells #[.int .i64 y.t, .int .i64 y.i, .int .i64 y.p, .int .i64 y.s, .int .i64 y.e, .string y.n] 30) = X := ⟨_, rfl⟩
 have hx := (az W x).below ((acG _ _).alloc (acE _) (.cells #[.int .i64 y.t, .int .i64 y.i, .int .i64 y.p, .int .i64 y.s, .int .i64 y.e, .string y.n] 30));have hy := az (W.alloc (.cells #[.int .i64 x.t, .int .i64 x.i, .int .i64 x.p, .int .i64 x.s, .int .i64 x.e, .string x.n] 30)) y;rw [hX] at hx hy;rw [show (W.alloc (.cells #[.int .i64 x.t, .int .i64 x.i, .int .i64 x.p, .int .i64 x.s, .int .i64 x.e, .string x.n] 30)).heap.size = W.heap.size + 1 by simp] at hy;obtain ⟨h0, h1, h2, h3, h4, h5⟩ := hx.z;obtain ⟨k0, k1, k2, k3, k4, k5⟩ := hy.z;have HX := af hX;obtain ⟨t, i, p, s, e, n⟩ := x;obtain ⟨t', i', p', s', e', n'⟩ := y;unfold dZ Sp.nl;dsimp only at *;clear hx hy;have Df : Hid (∀ o, (X.alloc o).cell? ⟨W.heap.size, 0, none⟩ = some (.int .i64 t) ∧ (X.alloc o).cell? ⟨W.heap.size, 1, none⟩ = some (.int .i64 i) ∧ (X.alloc o).cell? ⟨W.heap.size, 2, none⟩ = some (.int .i64 p) ∧ (X.alloc o).cell? ⟨W.heap.size, 3, none⟩ = some (.int .i64 s) ∧ (X.alloc o).cell? ⟨W.heap.size, 4, none⟩ = some (.int .i64 e) ∧ (X.alloc o).cell? ⟨W.heap.size, 5, none⟩ = some (.string n) ∧ (X.alloc o).cell? ⟨W.heap.size + 1, 0, none⟩ = some (.int .i64 t') ∧ (X.alloc o).cell? ⟨W.heap.size + 1, 1, none⟩ = some (.int .i64 i') ∧ (X.alloc o).cell? ⟨W.heap.size + 1, 2, none⟩ = some (.int .i64 p') ∧ (X.alloc o).cell? ⟨W.heap.size + 1, 3, none⟩ = some (.int .i64 s') ∧ (X.alloc o).cell? ⟨W.heap.size + 1, 4, none⟩ = some (.int .i64 e') ∧ (X.alloc o).cell? ⟨W.heap.size + 1, 5, none⟩ = some (.string n')) := af fun o => ⟨acX _ h0, acX _ h1, acX _ h2, acX _ h3, acX _ h4, acX _ h5, acX _ k0, acX _ k1, acX _ k2, acX _ k3, acX _ k4, acX _ k5⟩
 go_enter func215, ntmps215
 go_wp2_with fail
 clear hX;go_region_held3 (fun V => V.cell? ⟨W.heap.size, 0, none⟩ = some (.int .i64 t) ∧ V.cell? ⟨W.heap.size, 1, none⟩ = some (.int .i64 i) ∧ V.cell? ⟨W.heap.size, 2, none⟩ = some (.int .i64 p) ∧ V.cell? ⟨W.heap.size, 3, none⟩ = some (.int .i64 s) ∧ V.cell? ⟨W.heap.size, 4, none⟩ = some (.int .i64 e) ∧ V.cell? ⟨W.heap.size, 5, none⟩ = some (.string n) ∧ V.cell? ⟨W.heap.size + 1, 0, none⟩ = some (.int .i64 t') ∧ V.cell? ⟨W.heap.size + 1, 1, none⟩ = some (.int .i64 i') ∧ V.cell? ⟨W.heap.size + 1, 2, none⟩ = some (.int .i64 p') ∧ V.cell? ⟨W.heap.size + 1, 3, none⟩ = some (.int .i64 s') ∧ V.cell? ⟨W.heap.size + 1, 4, none⟩ = some (.int .i64 e') ∧ V.cell? ⟨W.heap.size + 1, 5, none⟩ = some (.string n')) (first | exact ⟨h0, h1, h2, h3, h4, h5, k0, k1, k2, k3, k4, k5⟩ | exact Df.out _) (first
  | (go_at_call 225; refine (Tryz.cmp_Compare_int _ _ _).mono ?_; rintro e v ⟨rfl, rfl⟩)
  | (go_at_call 226; refine (Tryz.strings_Compare _ _ _).mono ?_; rintro e v ⟨rfl, rfl⟩)
  | (go_at_call 224; refine (EZ _ _ _ _ _ _ _).mono ?_; rintro e v ⟨rfl, rfl⟩)
  | (go_at_call 224; refine (Jo _ _ _ _ _ _ _).mono ?_; rintro e v ⟨rfl, rfl⟩))
 all_goals
  go_wp2;go_ret;first
   | exact ⟨rfl, 1, _, by rw [← HX.out, alloc_eq_grow, alloc_eq_grow, alloc_eq_grow, grow_grow, grow_grow]; rfl⟩
   | exact ⟨rfl, 0, _, by rw [← HX.out, alloc_eq_grow, alloc_eq_grow, alloc_eq_grow, grow_grow, grow_grow]; rfl⟩
open Go.RowKit Go.Sort Go.Lib
theorem Gq {B : Nat} {w : World} {g cap : Nat} {l : List Sp} (h : aI B w (.slice (some ⟨g, 0, none⟩) l.length cap) l) : HoldsK fW 6 w g 0 l.toArray := by
 obtain ⟨hl, ⟨e, _⟩ | ⟨g', V_, cur, e, hB, hh, hc, hm, hs, ht⟩⟩ := h
 ·cases e
 ·injection e with e1 e2 e3;injection e1 with e1;injection e1 with e1;subst e1 e3;intro j hj;rw [size_flatK] at hj;have Jj : j < l.length * 6 := by simpa using hj
  refine ⟨?_, by rw [ac2]; exact acI w g j cur 30 hh⟩;rw [get_flatK _ _ _ _ hj, ac2, acC w g j cur 30 (0, 0) hh];have hx : l[j / 6]? = some (l[j / 6]'(by omega)) := acF _;have h1 := nj l (j / 6) (j % 6) hx (ae8 _ (by omega));rw [show j / 6 * 6 + j % 6 = j by omega, ← ht, adQ (by omega), adZ] at h1;rw [h1];have h2 : l.toArray[j / 6]! = l[j / 6]'(by omega) := by
   rw [ae1 l.toArray (j / 6) (by simp; omega)];simp
  rw [h2];rw [acF (by rw [dy]; omega)]
  congr 1
  rw [ae1 (fW (l[j / 6]'(by omega))) (j % 6) (by rw [dy]; omega)];rfl
theorem PL {w : World} {g : Nat} {cur : Array Value} {e : TypeId} (h : w.heap[g]? = some (Obj.cells cur e (0, 0))) (d : Array Sp) :
  (putRowK fW 6 w g 0 d).heap[g]? = some (Obj.cells (putCells id 0 (flatK fW 6 d) cur) e (0, 0)) := by
 unfold putRowK putRow mapBlock;simp [Array.getElem?_modify, h, onCells]
theorem wN {w : World} {g k : Nat} (d : Array Sp) (hk : k ≠ g) : (putRowK fW 6 w g 0 d).heap[k]? = w.heap[k]? := by
 unfold putRowK putRow mapBlock;simp only [Array.getElem?_modify];rw [acO (Ne.symm hk)]
theorem Fb {B : Nat} {w : World} {g cap n : Nat} {l m : List Sp} {os : Array Obj} (h : aI B w (.slice (some ⟨g, 0, none⟩) l.length cap) l) (Lq : m.length = l.length) :
  aI B (grow (putRowK fW 6 (Sort.ahead w n) g 0 m.toArray) os) (.slice (some ⟨g, 0, none⟩) l.length cap) m ∧ w.grownBy (grow (putRowK fW 6 (Sort.ahead w n) g 0 m.toArray) os) (some g) := by
 have hold := Gq h;obtain ⟨hl, ⟨e, _⟩ | ⟨g', V_, cur, e, hB, hh, hc, hm, hs, ht⟩⟩ := h
 ·cases e
 ·injection e with e1 e2 e3;injection e1 with e1;injection e1 with e1;subst e1 e3;have hg : g < w.heap.size := (acJ.1 hh).1;have hh' : (Sort.ahead w n).heap[g]? = some (Obj.cells cur 30 (0, 0)) := hh;have hp := PL hh' m.toArray;have hgs : g < (putRowK fW 6 (Sort.ahead w n) g 0 m.toArray).heap.size := (acJ.1 hp).1;have nQ : (grow (putRowK fW 6 (Sort.ahead w n) g 0 m.toArray) os).heap[g]? = some (Obj.cells (putCells id 0 (flatK fW 6 m.toArray) cur) 30 (0, 0)) := by
   show ((putRowK fW 6 (Sort.ahead w n) g 0 m.toArray).heap ++ os)[g]? = _
   rw [aeW hgs, hp]
  have hH := holdsK_grow fW 6 _ os g 0 _ hgs (holdsK_putRowK fW 6 (Sort.ahead w n) g 0 l.toArray m.toArray (holdsK_ahead fW 6 w n g 0 _ hold) (by simp [Lq]));refine ⟨⟨by rw [kD], .inr ⟨g, cap, _, by rw [Lq], hB, nQ, by omega, hm, by simp [putCells, hs], ?_⟩⟩, ⟨rfl, rfl, rfl, ?_, fun k hk aN => ?_⟩⟩
  ·apply List.ext_getElem?;intro j;by_cases hj : j < l.length * 6
   ·rw [adQ (by omega), adZ];have hcell := (hH.cell (i := j / 6) (c := j % 6) (by simp; omega) (ae8 _ (by omega))).1;rw [acC _ g _ _ 30 (0, 0) nQ, ac2, show j / 6 * 6 + j % 6 = j by omega] at hcell;rw [hcell];have hx : m[j / 6]? = some (m[j / 6]'(by omega)) := acF _;have h1 := nj m (j / 6) (j % 6) hx (ae8 _ (by omega));rw [show j / 6 * 6 + j % 6 = j by omega] at h1;rw [h1];have h2 : m.toArray[j / 6]! = m[j / 6]'(by omega) := by
     rw [ae1 m.toArray (j / 6) (by simp; omega)];simp
    rw [h2, acF (by rw [dy]; omega), ae1 (fW (m[j / 6]'(by omega))) (j % 6) (by rw [dy]; omega)]
   ·rw [List.getElem?_eq_none (by rw [ac6]; omega), List.getElem?_eq_none (by rw [kD]; omega)]
  ·show w.heap.size ≤ ((putRowK fW 6 (Sort.ahead w n) g 0 m.toArray).heap ++ os).size
   have : (putRowK fW 6 (Sort.ahead w n) g 0 m.toArray).heap.size = w.heap.size := size_putRow _ _ _ _ _;rw [Array.size_append];omega
  ·have hkg : k ≠ g := fun e => aN (by rw [e]);have hks : k < (putRowK fW 6 (Sort.ahead w n) g 0 m.toArray).heap.size := by
    have : (putRowK fW 6 (Sort.ahead w n) g 0 m.toArray).heap.size = w.heap.size := size_putRow _ _ _ _ _;omega
   show ((putRowK fW 6 (Sort.ahead w n) g 0 m.toArray).heap ++ os)[k]? = _
   rw [aeW hks, wN _ hkg];rfl
theorem MA (blk off size : Nat) (w : World) : CmpLays prog 215 #[] fW 6 sg blk off size w := fun _ _ _ _ x y => Cr x y _
theorem zS {B : Nat} {w : World} {v : Value} {l : List Sp} (h : aI B w v l) (hl : l.length ≤ 1100000) :
  Calls prog 214 #[v, .func (.func 215) #[] #[]] w fun e w' => e = .returned (.tuple #[]) ∧ aI B w' v (aQ l) ∧ w.grownBy w' v.ownBlock := by
 have h' := h;obtain ⟨r_, ⟨rfl, h0⟩ | ⟨g, cap, cur, rfl, hB, hh, hc, hm, hs, ht⟩⟩ := h
 ·obtain rfl : l = [] := acP h0;exact (AnyF.slices_SortFunc_none { Tryz.sortSp with } none 0 (.func (.func 215) #[] #[]) w).mono fun e w' ⟨he, hw⟩ => ⟨he, by rw [hw, show aQ [] = [] by simp [aQ]]; exact h', by rw [hw]; exact adk _ _⟩
 ·have eg : ∀ args w, (callFunc 215 args).run prog w = .ok (.enter 215 args) w := enters_of func215 (by kernel_rfl) rfl;have := AnyQ.slices_SortFunc_total Tryz.sortSp 6 Tryz.isAgg30 Tryz.sizeOf30 fW dy sL sg Gg 215 #[] g 0 cap l.toArray w eg (MA g 0 _ w) (Gq h') (acJ.1 hh).1 (by simp; omega) Gh;refine Calls.mono (show Calls prog 214 #[.slice (some ⟨g, 0, none⟩) l.length cap, .func (.func 215) #[] #[]] w _ from this) ?_;rintro e w' ⟨he, n, os, rfl⟩;have eF : (l.toArray.toList.mergeSort fun x y => !(ltOf sg) y x) = aQ l := rfl;rw [eF];obtain ⟨h1, h2⟩ := Fb (n := n) (os := os) h' (dp l);refine ⟨he, ?_, h2⟩;exact h1
theorem MC {w : World} {v : Value} {l : List Sp} (hv : iY w v l) (hl : l.length ≤ 1100000) : Calls prog 200 #[v] w fun e w' => ∃ v', e = .returned v' ∧ aI w.heap.size w' v' (aQ l) ∧ Below w.heap.size w w' := by
 obtain ⟨p, n, c, rfl⟩ := hv.sl;have HV := af hv;clear hv;go_enter func200, ntmps200
 go_wp2_with fail
 refine (Cj HV.out hl).mono ?_;rintro e1 w1 ⟨v1, rfl, mW, aK⟩;obtain ⟨p1, n1, c1, rfl⟩ := mW.gp.sl;have HO := af mW;have HB := af aK;clear mW aK;go_wp2_with fail
 refine (zS HO.out hl).mono ?_;rintro e2 w2 ⟨rfl, eX, dO⟩;have jO := af eX;have rV := af dO;clear eX dO;go_wp2;go_ret;exact ⟨_, rfl, jO.out, HB.out.grown rV.out HB.out.size (fun k hk => (HO.out.lt k hk).1)⟩
theorem gI {B : Nat} {w V : World} (h : RowKit.Below B w V) (q : Nat) : RowKit.Below B w (V.drewN q) := ⟨h.os, h.tape, h.output, h.size, h.block⟩
def lG : List Int → List Int → Bool → Bool
 | x :: xs, y :: ys, r => if x ≠ y then decide (x < y) else lG xs ys r
 | _, _, r => r
theorem bytesLess_eq : ∀ a b : List UInt8, Op.bytesLess a b = decide (Lib.compareBytes a b < 0)
 | [], [] => rfl
 | [], _ :: _ => rfl
 | _ :: _, [] => rfl
 | x :: a, y :: b => by
  have ih := bytesLess_eq a b;simp only [Op.bytesLess, Lib.compareBytes, ih];by_cases h1 : x < y
  ·simp [h1]
  ·by_cases h2 : y < x
   ·have h3 : ¬ x = y := by rintro rfl; exact h1 h2
    simp [h1, h2, h3]
   ·have h3 : x = y := UInt8.le_antisymm (ae0.1 h2) (ae0.1 h1);simp [h1, h2, h3]
theorem Jp (x y : Sp) : nk x y = lG [x.t, x.s, x.i, x.p, x.e] [y.t, y.s, y.i, y.p, y.e] (Op.bytesLess x.n.toList y.n.toList) := by
 rw [bytesLess_eq, ae7, ae7];unfold nk sg qI lG lG lG lG lG lG;dsimp only [Sp.nl];have key : ∀ a b : Int, (Lib.compareInt a b ≠ 0 ↔ a ≠ b) ∧ (Lib.compareInt a b < 0 ↔ a < b) := fun a b => by
  unfold Lib.compareInt
  (repeat' split) <;> constructor <;> constructor <;> intro h <;> omega
 simp only [(key _ _).1]
 (repeat' split) <;> first | rfl | (rw [aeL]; exact (key _ _).2)
theorem Fc {xs ys : List Int} {k : Nat} {x y : Int} (hx : xs[k]? = some x) (hy : ys[k]? = some y) (r : Bool) : lG (xs.drop k) (ys.drop k) r = if x ≠ y then decide (x < y) else lG (xs.drop (k + 1)) (ys.drop (k + 1)) r := by
 have hk := (acL.1 hx).1;have Au := (acL.1 hy).1;rw [adL hk, adL Au];rw [acF hk] at hx;rw [acF Au] at hy;injection hx with hx;injection hy with hy;rw [hx, hy];rfl
theorem Ct (x y : Sp) (w : World) : Calls prog 187 #[dZ x, dZ y] w fun e w' => e = .returned (.bool (nk x y)) ∧ Below w.heap.size w w' := by
 obtain ⟨t, i, p, s, e, n⟩ := x;obtain ⟨t', i', p', s', e', n'⟩ := y;rw [Jp];have b1 := (acG w.heap.size w).alloc (acE _) (.cells #[.int .i64 t, .int .i64 i, .int .i64 p, .int .i64 s, .int .i64 e, .string n] 30);have b2 := b1.alloc b1.size (.cells #[.int .i64 t', .int .i64 i', .int .i64 p', .int .i64 s', .int .i64 e', .string n'] 30);have b3 := b2.alloc b2.size (.cells #[.int .i64 t, .int .i64 s, .int .i64 i, .int .i64 p, .int .i64 e] 3);have b4 := b3.alloc b3.size (.cells #[.int .i64 t', .int .i64 s', .int .i64 i', .int .i64 p', .int .i64 e'] 3);have s1 : (w.alloc (.cells #[.int .i64 t, .int .i64 i, .int .i64 p, .int .i64 s, .int .i64 e, .string n] 30)).heap.size = w.heap.size + 1 := by simp
 have s2 : ((w.alloc (.cells #[.int .i64 t, .int .i64 i, .int .i64 p, .int .i64 s, .int .i64 e, .string n] 30)).alloc (.cells #[.int .i64 t', .int .i64 i', .int .i64 p', .int .i64 s', .int .i64 e', .string n'] 30)).heap.size = w.heap.size + 1 + 1 := by simp
 have s3 : (((w.alloc (.cells #[.int .i64 t, .int .i64 i, .int .i64 p, .int .i64 s, .int .i64 e, .string n] 30)).alloc (.cells #[.int .i64 t', .int .i64 i', .int .i64 p', .int .i64 s', .int .i64 e', .string n'] 30)).alloc (.cells #[.int .i64 t, .int .i64 s, .int .i64 i, .int .i64 p, .int .i64 e] 3)).heap.size = w.heap.size + 1 + 1 + 1 := by simp
 have o1 := az w ⟨t, i, p, s, e, n⟩;have o2 := az (w.alloc (.cells #[.int .i64 t, .int .i64 i, .int .i64 p, .int .i64 s, .int .i64 e, .string n] 30)) ⟨t', i', p', s', e', n'⟩;have o3 := acQ ((w.alloc (.cells #[.int .i64 t, .int .i64 i, .int .i64 p, .int .i64 s, .int .i64 e, .string n] 30)).alloc (.cells #[.int .i64 t', .int .i64 i', .int .i64 p', .int .i64 s', .int .i64 e', .string n'] 30)) (.cells #[.int .i64 t, .int .i64 s, .int .i64 i, .int .i64 p, .int .i64 e] 3);have o4 := acQ (((w.alloc (.cells #[.int .i64 t, .int .i64 i, .int .i64 p, .int .i64 s, .int .i64 e, .string n] 30)).alloc (.cells #[.int .i64 t', .int .i64 i', .int .i64 p', .int .i64 s', .int .i64 e', .string n'] 30)).alloc (.cells #[.int .i64 t, .int .i64 s, .int .i64 i, .int .i64 p, .int .i64 e] 3)) (.cells #[.int .i64 t', .int .i64 s', .int .i64 i', .int .i64 p', .int .i64 e'] 3);rw [s1] at o2;rw [s2] at o3;rw [s3] at o4;obtain ⟨Y, hY⟩ : ∃ Y, (((w.alloc (.cells #[.int .i64 t, .int .i64 i, .int .i64 p, .int .i64 s, .int .i64 e, .string n] 30)).alloc (.cells #[.int .i64 t', .int .i64 i', .int .i64 p', .int .i64 s', .int .i64 e', .string n'] 30)).alloc (.cells #[.int .i64 t, .int .i64 s, .int .i64 i, .int .i64 p, .int .i64 e] 3)).alloc (.cells #[.int .i64 t', .int .i64 s', .int .i64 i', .int .i64 p', .int .i64 e'] 3) = Y := ⟨_, rfl⟩
 rw [hY] at b4 o4;have q1 : Y.cell? ⟨w.heap.size, 5, none⟩ = some (.string n) := by
  rw [← hY];exact acX _ (acX _ (acX _ o1.c5))
 have q2 : Y.cell? ⟨w.heap.size + 1, 5, none⟩ = some (.string n') := by
  rw [← hY];exact acX _ (acX _ o2.c5)
 have q3 : ∀ (k : Nat) z, [t, s, i, p, e][k]? = some z → Y.cell? ⟨w.heap.size + 1 + 1, k, none⟩ = some (.int .i64 z) := fun k z hk => by
  rw [← hY];refine acX _ ?_;rw [acC _ (w.heap.size + 1 + 1) k _ 3 (0, 0) o3]
  match k, hk with
  | 0, hk => simp at hk; subst hk; rfl
  | 1, hk => simp at hk; subst hk; rfl
  | 2, hk => simp at hk; subst hk; rfl
  | 3, hk => simp at hk; subst hk; rfl
  | 4, hk => simp at hk; subst hk; rfl
 have q4 : ∀ (k : Nat) z, [t', s', i', p', e'][k]? = some z → Y.cell? ⟨w.heap.size + 1 + 1 + 1, k, none⟩ = some (.int .i64 z) := fun k z hk => by
  rw [acC _ (w.heap.size + 1 + 1 + 1) k _ 3 (0, 0) o4]
  match k, hk with
  | 0, hk => simp at hk; subst hk; rfl
  | 1, hk => simp at hk; subst hk; rfl
  | 2, hk => simp at hk; subst hk; rfl
  | 3, hk => simp at hk; subst hk; rfl
  | 4, hk => simp at hk; subst hk; rfl
 have Q3 := af q3;have Q4 := af q4;have QN := af (acD q1 q2);have HB := af b4;clear b1 b2 b3 b4 s1 s2 s3 o1 o2 o3 o4 q1 q2 q3 q4;obtain ⟨lb, hlb⟩ : ∃ lb, Op.bytesLess n.toList n'.toList = lb := ⟨_, rfl⟩
 obtain ⟨R, hR⟩ : ∃ R, lG [t, s, i, p, e] [t', s', i', p', e'] lb = R := ⟨_, rfl⟩
 dsimp only;rw [hlb, hR];have HR := af hR;clear hR;unfold dZ;dsimp only;go_enter func187, ntmps187
 go_wp2_with fail
 clear hY;go_loopw [7, 32] (fun _ c wr => ∃ k q : Nat, k ≤ 5 ∧ c = .int .i64 k ∧ wr = Y.drewN q ∧ Hid (lG ([t, s, i, p, e].drop k) ([t', s', i', p', e'].drop k) lb = R)) (fun _ c _ => 5 - (intOf c).toNat)
 case atStart => exact ⟨0, 0, by omega, rfl, rfl, af HR.out⟩
 case round =>
  obtain ⟨k, q, hk, rfl, rfl, H⟩ := hrel;by_cases bd : (k : Int) < 5
  ·obtain ⟨a, ha⟩ : ∃ a, [t, s, i, p, e][k]? = some a := ⟨_, acF (by simp; omega)⟩
   obtain ⟨b, hb⟩ : ∃ a, [t', s', i', p', e'][k]? = some a := ⟨_, acF (by simp; omega)⟩
   obtain ⟨V, hV⟩ : ∃ V, Y.drewN q = V := ⟨_, rfl⟩
   have c1 : V.cell? ⟨w.heap.size + 1 + 1, k, none⟩ = some (.int .i64 a) := by rw [← hV]; exact Q3.out k a ha
   have c2 : V.cell? ⟨w.heap.size + 1 + 1 + 1, k, none⟩ = some (.int .i64 b) := by rw [← hV]; exact Q4.out k b hb
   have HD := af ((Fc ha hb lb).symm.trans H.out);have HV := af hV;have Yh : Hid (RowKit.Below w.heap.size w V) := af (by rw [← hV]; exact gI HB.out q);rw [hV];clear ha hb H hV;by_cases hab : a = b
   ·subst hab;go_wp2_with fail
    go_quiet (fail)
    go_wp2;go_roundw;case rel => exact ⟨k + 1, q + nq, by omega, by go_num, by rw [← HV.out, World.drewN_drewN], af (by have := HD.out; rwa [acO (by simp)] at this)⟩
    case measure => simp [intOf]; omega
   ·have hR2 : R = decide (a < b) := by rw [← HD.out, acW hab]
    have Hj := af hR2;clear hR2;have c1q := fun q => (show (V.drewN q).cell? ⟨w.heap.size + 1 + 1, k, none⟩ = some (.int .i64 a) from c1)
    have c2q := fun q => (show (V.drewN q).cell? ⟨w.heap.size + 1 + 1 + 1, k, none⟩ = some (.int .i64 b) from c2)
    go_wp2_with fail
    go_quiet (fail)
    revert nq;intro q1;go_wp2_with fail
    go_quiet (fail)
    revert nq;intro q2;go_wp2;go_ret;refine ⟨by rw [Hj.out]; rfl, ?_⟩;first | exact gI (gI Yh.out q1) q2 | exact gI Yh.out (q1 + q2) | exact gI Yh.out _
  ·have hk5 : k = 5 := by omega
   subst hk5;have hRl : R = lb := H.out.symm;have Ex := af hRl;obtain ⟨V, hV⟩ : ∃ V, Y.drewN q = V := ⟨_, rfl⟩
   have d1 : V.cell? ⟨w.heap.size, 5, none⟩ = some (.string n) := by rw [← hV]; exact QN.out.1
   have d2 : V.cell? ⟨w.heap.size + 1, 5, none⟩ = some (.string n') := by rw [← hV]; exact QN.out.2
   have Yh : Hid (RowKit.Below w.heap.size w V) := af (by rw [← hV]; exact gI HB.out q);rw [hV];clear hV hRl H;go_wp2;go_ret;exact ⟨by rw [Ex.out]; rfl, Yh.out⟩
open Go.RowKit
theorem zT {w : World} {ops : Array Oper} {rest : List Oper} {o : Oper} {a : Act} {Q : Exit → Act → World → Prop} (kS : o.guard = none) (s t : Operand)
  (ho : o.op = .call { callee := .builtin .append, args := #[s, t], argTypes := #[22, 22] }) (hty : o.type = 22) {B : Nat} {v : Value} {l : List Sp} (x : Sp) {H : Nat}
  (hs : a.eval s = v) (ht : a.eval t = .slice (some ⟨H, 0, none⟩) 1 1) (hH : H = w.heap.size) (h : aI B w v l) (hB : B ≤ w.heap.size) (hn : l.length ≤ 1100000)
  (hK : ∀ v' w', aI B w' v' (l ++ [x]) → Below B w w' → w.grownBy w' v.ownBlock → wpList prog ops Q rest (a.put o.dst v') w') : wpList prog ops Q (o :: rest) a (w.alloc (.cells #[.int .i64 x.t, .int .i64 x.i, .int .i64 x.p, .int .i64 x.s, .int .i64 x.e, .string x.n] 30)) := by
 subst hH;exact dI kS s t ho hty x hs ht h hB hn hK
theorem jy (a b : Int) : (Lit.int .i64 a).sameKey (.int .i64 b) = decide (a = b) := by
 by_cases h : a = b
 ·subst h;rw [WideAt.sameKey_self (lx _)];simp
 ·rw [Maps.sameKey_ne (fun e => h (by injection e))];simp [h]
def jW (L : List Sp) (left : Lit → Bool) : List Sp := L.filter fun x => !left (.int .i64 x.i)
theorem oF : ∀ {L : List Sp}, (L.Pairwise fun x y => x.i ≠ y.i) → ∀ {left : Lit → Bool} {x : Sp}, x ∈ L → left (.int .i64 x.i) = true → (x :: jW L left).Perm (jW L fun z => left z && !z.sameKey (.int .i64 x.i))
 | [], _, left, x, hx, _ => by simp at hx
 | y :: r, hid, left, x, hx, hl => by
  obtain ⟨h1, h2⟩ := ac_.1 hid;unfold jW;by_cases sD : y.i = x.i
  ·have abd : x = y := by
    rcases ac9.1 hx with e | hx
    ·exact e
    ·exact absurd sD (h1 x hx)
   subst abd;rw [adU (by simp [hl]), adW (by simp [jy])];have e : r.filter (fun p => !(left (.int .i64 p.i) && !(Lit.int .i64 p.i).sameKey (.int .i64 x.i))) = r.filter (fun p => !left (.int .i64 p.i)) := by
    apply aeH;intro q hq;have := h1 q hq;have aN : ¬ q.i = x.i := fun e => this e.symm;simp [jy, aN]
   rw [e]
  ·have pX : x ∈ r := by
    rcases ac9.1 hx with e | hx
    ·exact absurd (by rw [e]) sD
    ·exact hx
   have ih := oF h2 pX hl;unfold jW at ih;by_cases hy : left (.int .i64 y.i) = true
   ·rw [adU (by simp [hy]), adU (by simp [jy, hy, sD])];exact ih
   ·rw [adW (by simp [hy]), adW (by simp [hy])];exact (List.Perm.swap y x _).trans (ih.cons y)
theorem yc {L : List Sp} {left : Lit → Bool} (h : ∀ k, left k = false) : jW L left = L := ae2.2 fun p _ => by rw [h]; rfl
theorem uE {L : List Sp} {left : Lit → Bool} (h : ∀ x ∈ L, left (.int .i64 x.i) = true) : jW L left = [] := List.filter_eq_nil_iff.2 fun p hp => by rw [h p hp]; simp
theorem MD (L : List Sp) (left : Lit → Bool) : (jW L left).length ≤ L.length := adF _ _
theorem pN {key : Value} {kl : Lit} (h : keyOf prog 3 key = some kl) : ∃ x : Int, key = .int .i64 x := by
 obtain ⟨x, rfl, _⟩ := Maps.keyOf_int_inv aee h;exact ⟨x, rfl⟩
theorem kI {v : Value} {y : DataW Value × List MemPlace} (h : ic v = some y) : (∃ c, v = .agg c) ∧ y.1 = .held v := by
 cases v <;> simp [ic] at h
 subst h;exact ⟨⟨_, rfl⟩, rfl⟩
theorem bW.came {w : World} {b : Nat} {L : List Sp} {D : DataW Value} (h : bW w b L D) {k : Int} {c : Array Value} {kl : Lit} {y : DataW Value × List MemPlace}
  (hk : keyOf prog 3 (.int .i64 k) = some kl) (hv : ic (.agg c) = some y) (aG : ∀ zd, D.atKey kl zd = y.1) : ∃ x, x ∈ L ∧ k = x.i ∧ kl = .int .i64 x.i ∧ c = (fW x).toArray := by
 obtain ⟨k', e, J7, hwf⟩ := Maps.keyOf_int_inv aee hk;injection e with _ e;subst e;subst J7;have hh := Maps.has_true_of_atKey aG;rw [h.keys] at hh;obtain ⟨x, hx⟩ := adG.1 hh;have e1 := h.vals _ x hx .nil;rw [aG, (kI hv).2] at e1;injection e1 with e1;injection e1 with e1;obtain ⟨h1, h2⟩ := bO hx;exact ⟨x, h1, h2.symm, by rw [h2], e1⟩
def dQ : List Sp → Int
 | [] => 0
 | x :: r => max x.e (dQ r)
theorem yd {L M : List Sp} (h : L.Perm M) : dQ L = dQ M := by
 induction h with
 | nil => rfl
 | cons x _ ih => unfold dQ; rw [ih]
 | swap x y l => unfold dQ; unfold dQ; omega
 | trans _ _ ih1 ih2 => exact ih1.trans ih2
theorem Gr {L : List Sp} (h : ∀ x ∈ L, x.e ≤ 1099511627776) : 0 ≤ dQ L ∧ dQ L ≤ 1099511627776 := by
 induction L with
 | nil => exact ⟨Int.le_refl _, by decide⟩
 | cons x r ih =>
  have := ih fun y hy => h y (ade _ hy);have := h x (ac8 ..);unfold dQ;omega
theorem fx {H : Type} {P : Program} {k : TypeId} {R : Value → Option (DataW H × List MemPlace)} {w w' : World} {b r n : Nat} {D : DataW H} {left : Lit → Bool} {cnt : Nat} {row : Option Nat} (h : w.ranges P k R b r n D left cnt) (hc : w.grownBy w' row) (hb : row ≠ some b) (hr : row ≠ some r) : w'.ranges P k R b r n D left cnt := by
 have h1 := h.owns.lt;have h2 := h.lt;obtain ⟨es, clock, since, seen, c0, lM, F, hs, hD, yF, rest⟩ := h;exact ⟨es, clock, since, seen, c0, (hc.block b h1 (fun e => hb e.symm)).trans lM, F, hs, hD, (hc.block r h2 (fun e => hr e.symm)).trans yF, rest⟩
theorem Cu {w : World} {b : Nat} {L : List Sp} {D : DataW Value} (h : bW w b L D) (he : ∀ x ∈ L, 0 ≤ x.e ∧ x.e ≤ 1099511627776) :
  Calls prog 199 #[.map (some b)] w fun e w' => e = .returned (.int .i64 (dQ L)) ∧ Below w.heap.size w w' := by
 have H := af h;have dG := h.map;have HE := af he;clear h he;go_enter func199, ntmps199
 go_wp2_with (first | (at_range; refine wpList_range_own _ rfl _ 230 rfl 3 30 fe aeY _ b L.length D rfl dG ?_; intro w0 uF oe vD) | go_in)
 go_frame
 have wu : Below w.heap.size w w0 := ⟨oe.os, oe.tape, oe.output, oe.size, fun k hk => oe.block k hk (by simp)⟩
 have Dp : jW L (Maps.has D) = [] := uE fun p hp => by
  rw [H.out.keys, jo H.out.ids hp];rfl
 have zF := af uF;have oN := af wu;have HD0 := af Dp;clear uF oe wu Dp vD dG;go_loopw [3] (fun n wr => ∃ left cnt, wr.ranges prog 3 ic b w.heap.size L.length D left cnt ∧ n = .int .i64 (dQ (jW L left)) ∧ Below w.heap.size w wr) (fun _ wr => wr.rangeLeft b w.heap.size)
 case atStart => exact ⟨_, _, zF.out, by rw [HD0.out]; rfl, oN.out⟩
 case round =>
  obtain ⟨left, cnt, vG, rfl, hB⟩ := hrel;obtain ⟨abe, hle⟩ := Gr (L := jW L left) fun x hx => (HE.out x (adT.1 hx).1).2;obtain ⟨m, hm⟩ : ∃ m, dQ (jW L left) = m := ⟨_, rfl⟩
  rw [hm] at hle abe;rw [hm];have HM := af hm;have HB := af hB;have qM := af vG;clear hB hm;go_wp2_with (first | (at_next; refine wpList_next_ranges _ rfl _ rfl 3 fe ic (Value.int .i64) Value.agg (fun key kl h => pN h) (fun v y h => (kI h).1) b w.heap.size L.length D left cnt rfl vG ?_ ?_) | go_in)
  ·intro II Kd;have Gs := yc (L := L) Kd;rw [Gs] at HM;clear vG Gs;go_wp2;go_ret;exact ⟨by rw [HM.out]; rfl, HB.out⟩
  ·intro k c kl y1 ps w1 ME qN sI hv aG si bd eQ dR hen;obtain ⟨x, hx, rfl, rfl, rfl⟩ := H.out.came (y := (y1, ps)) qN hv aG;have hst := yd (oF H.out.ids hx sI);have vZ := HB.out.grown eQ HB.out.size (fun k hk => by injection hk with hk; omega);obtain ⟨hx0, T9⟩ := HE.out x hx;have HS : Hid (dQ (jW L fun z => left z && !z.sameKey (.int .i64 x.i)) = max x.e m) := by
    rw [← hst];unfold dQ;rw [HM.out];exact rfl
   have Kz := af si;have aS := af vZ;have vy := af bd;obtain ⟨t, i, p, s, e, nm⟩ := x;unfold fW at *;dsimp only at *;clear hst si vZ vG qN hv aG sI eQ dR bd hx;by_cases jB : m < e;all_goals
    go_wp2;go_roundw;case rel => exact ⟨_, _, fx Kz.out (ada w1 _ none) (by simp) (by simp), by rw [HS.out]; first | rfl | (congr 1; omega), aS.out.alloc aS.out.size _⟩
    case measure => rw [(fx Kz.out (ada w1 _ none) (by simp) (by simp)).left_eq, qM.out.left_eq]; exact vy.out
theorem uG {w : World} {b : Nat} {L : List Sp} {D : DataW Value} (h : bW w b L D) (hL : L.length ≤ 64) :
  Calls prog 189 #[.map (some b)] w fun e w' => ∃ v', e = .returned v' ∧ aI w.heap.size w' v' (aQ L) ∧ Below w.heap.size w w' := by
 have H := af h;have dG := h.map;have jJ := h.map.lt;have HL := af hL;clear h hL;go_enter func189, ntmps189
 go_wp2_with (first | (at_range; refine wpList_range_own _ rfl _ 230 rfl 3 30 fe aeY _ b L.length D rfl dG ?_; intro w0 uF oe vD) | go_in)
 go_frame
 have wu : Below w.heap.size w w0 := ⟨oe.os, oe.tape, oe.output, oe.size, fun k hk => oe.block k hk (by simp)⟩
 have Dp : jW L (Maps.has D) = [] := uE fun p hp => by
  rw [H.out.keys, jo H.out.ids hp];rfl
 have zF := af uF;have oN := af wu;have HD0 := af Dp;have zn := af vD;have mY := af jJ;clear uF oe wu Dp vD dG jJ;go_loopw [3] (fun v wr => ∃ left cnt M p n c, v = .slice p n c ∧ wr.ranges prog 3 ic b w.heap.size L.length D left cnt ∧ Hid (aI (w.heap.size + 1) wr (.slice p n c) M ∧ M.Perm (jW L left) ∧ Below w.heap.size w wr ∧ w.heap.size + 1 ≤ wr.heap.size)) (fun _ wr => wr.rangeLeft b w.heap.size)
 case atStart => exact ⟨_, _, [], none, 0, 0, rfl, zF.out, af ⟨aI.nil _ _, by rw [HD0.out], oN.out, by have := zn.out; omega⟩⟩
 case round =>
  obtain ⟨left, cnt, M, p, n, c, rfl, vG, HR⟩ := hrel;have qM := af vG;go_wp2_with (first | (at_next; refine wpList_next_ranges _ rfl _ rfl 3 fe ic (Value.int .i64) Value.agg (fun key kl h => pN h) (fun v y h => (kI h).1) b w.heap.size L.length D left cnt rfl vG ?_ ?_) | go_in)
  ·intro II Kd;have Gs := yc (L := L) Kd;have hM : M.Perm L := by have := HR.out.2.1; rwa [Gs] at this
   have HM := af hM;clear vG Gs hM;go_wp2_with fail
   refine (MC HR.out.1.gp (by have := HM.out.length_eq; have := HL.out; omega)).mono ?_;rintro e1 w1 ⟨v1, rfl, mW, aK⟩;obtain ⟨p1, n1, c1, rfl⟩ := mW.gp.sl;have QA := af mW;have aS := af aK;clear mW aK;go_wp2;go_ret;refine ⟨_, rfl, ?_, HR.out.2.2.1.trans (aS.out.mono (by have := HR.out.2.2.2; omega))⟩;rw [← nX HM.out];exact QA.out.mono (by have := HR.out.2.2.2; omega)
  ·intro k c2 kl y1 ps w1 ME qN sI hv aG si bd eQ dR hen;obtain ⟨x, hx, rfl, rfl, rfl⟩ := H.out.came (y := (y1, ps)) qN hv aG;have hst := oF H.out.ids hx sI;have vZ := HR.out.2.2.1.grown eQ HR.out.2.2.1.size (fun k hk => by injection hk with hk; omega);have mW : aI (w.heap.size + 1) w1 (.slice p n c) M := HR.out.1.grown eQ (by
    rcases sB : (Value.slice p n c).ownBlock with _ | i
    ·exact .inl rfl
    ·exact .inr fun e => by
      injection e with e;have := (HR.out.1.lt i sB).1;omega)
   have hMl : M.length ≤ 64 := by
    have := HR.out.2.1.length_eq;have := MD L left;have := HL.out;omega
   have Rv := ((List.perm_append_comm (l₁ := M) (l₂ := [x])).trans (HR.out.2.1.cons x)).trans hst;have HP := af Rv;have nR := af dR;have Kz := af si;have aS := af vZ;have vy := af bd;have HML := af hMl;have Yi := ady mW (.cells #[.int .i64 x.t, .int .i64 x.i, .int .i64 x.p, .int .i64 x.s, .int .i64 x.e, .string x.n] 30);have ib : Hid (aI (w.heap.size + 1) (w1.alloc (.cells #[.int .i64 x.t, .int .i64 x.i, .int .i64 x.p, .int .i64 x.s, .int .i64 x.e, .string x.n] 30)) (.slice p n c) M) := af Yi;have mR := af (fx si (ada w1 (.cells #[.int .i64 x.t, .int .i64 x.i, .int .i64 x.p, .int .i64 x.s, .int .i64 x.e, .string x.n] 30) none) (by simp) (by simp));have dH := af (vZ.alloc vZ.size (.cells #[.int .i64 x.t, .int .i64 x.i, .int .i64 x.p, .int .i64 x.s, .int .i64 x.e, .string x.n] 30));obtain ⟨t, i, q, s, e, nm⟩ := x;unfold fW at *;dsimp only at *;clear hst si vZ vG qN hv aG sI eQ dR bd hx mW hMl Rv Yi;go_wp2_with (at_builtin; go_must (refine zT (v := .slice p n c) rfl _ _ rfl rfl ⟨t, i, q, s, e, nm⟩ rfl rfl (by simp) ib.out (by have := nR.out; have := HR.out.2.2.2; simp; omega) (by have := HML.out; omega) ?_); intro v5 w5 bP aL ik)
   obtain ⟨p5, n5, c5, rfl⟩ := bP.gp.sl;have Va := af (fx mR.out ik (fun e => by have := (ib.out.lt _ e).1; have := mY.out; omega) (fun e => by have := (ib.out.lt _ e).1; omega));have ql := af bP;have cH := af (dH.out.grown ik dH.out.size (fun k hk => by have := (ib.out.lt k hk).1; omega));have HZ5 := af ik.size;clear bP aL ik;go_wp2;go_roundw;case rel => exact ⟨_, _, M ++ [⟨t, i, q, s, e, nm⟩], p5, n5, c5, rfl, Va.out, af ⟨ql.out, HP.out, cH.out, by have := HZ5.out; have := HR.out.2.2.2; have := nR.out; simp at *; omega⟩⟩
   case measure => rw [Va.out.left_eq, qM.out.left_eq]; exact vy.out
def Fe (L P : List Sp) (j : Int) : List Sp := if j = 0 ∨ bI L j = none then [] else kids P j
def gJ (P : List Sp) : List Br := (roots P).map fun s => ⟨0, false, s⟩
def gK (L P : List Sp) : List Br := (P.filter fun x => !(x.p == 0) && !(bI L x.p).isSome).map fun s => ⟨0, true, s⟩
theorem iV (P : List Sp) (y : Sp) (j : Int) : kids (P ++ [y]) j = kids P j ++ if y.p = j then [y] else [] := by
 unfold kids;rw [aeC]
 congr 1
 by_cases h : y.p = j
 ·rw [acW h, adW (by simpa using h)]; rfl
 ·rw [acO h, adU (by simpa using h)]; rfl
theorem mG (P : List Sp) (y : Sp) : gJ (P ++ [y]) = gJ P ++ if y.p = 0 then [⟨0, false, y⟩] else [] := by
 unfold gJ;rw [show roots (P ++ [y]) = kids (P ++ [y]) 0 from rfl, iV, aed, show kids P 0 = roots P from rfl]
 congr 1
 split <;> rfl
theorem mH (L P : List Sp) (y : Sp) : gK L (P ++ [y]) = gK L P ++ if y.p ≠ 0 ∧ bI L y.p = none then [⟨0, true, y⟩] else [] := by
 unfold gK;rw [aeC, aed]
 congr 1
 by_cases h : y.p ≠ 0 ∧ bI L y.p = none
 ·rw [acW h, adW (by simp [h.1, h.2])]; rfl
 ·rw [acO h, adU (by
   intro hh;rw [adb, aew, aew, adj, Option.isSome_eq_false_iff, Option.isNone_iff_eq_none] at hh;exact h hh)]; rfl
theorem Cv {L P : List Sp} {y : Sp} (h : y.p = 0 ∨ bI L y.p = none) : Fe L (P ++ [y]) = Fe L P := by
 funext j
 unfold Fe;by_cases hj : j = 0 ∨ bI L j = none
 ·rw [acW hj, acW hj]
 ·rw [acO hj, acO hj, iV, acO (by rintro rfl; exact hj h), adh]
theorem PN {L P : List Sp} {y : Sp} (h : ¬ (y.p = 0 ∨ bI L y.p = none)) : Fe L (P ++ [y]) = fun j => if j = y.p then Fe L P y.p ++ [y] else Fe L P j := by
 funext j
 by_cases e : j = y.p
 ·subst e;rw [acW rfl];unfold Fe;rw [acO h, acO h, iV, acW rfl]
 ·rw [acO e];unfold Fe;rw [iV, show (if y.p = j then [y] else []) = [] from acO fun h => e h.symm, adh]
theorem bW.aU {w w' : World} {b : Nat} {L : List Sp} {D : DataW Value} {T : Nat → Prop} (h : bW w b L D) (hc : ak w w' T) (hb : ¬ T b) : bW w' b L D := by
 have bd := h.map.lt;obtain ⟨es, clock, h1, rest⟩ := h.map;exact ⟨⟨es, clock, (hc.block b bd hb).trans h1, rest⟩, h.size, h.keys, h.vals, h.ids⟩
structure gL (w1 w : World) (bU : Nat) (vR vO : Value) (R O : List Br) (U : Int → List Sp) (V : Int → Value) (D : DataW Value) : Prop where
 aU : ak w1 w fun k => k = bU
 r : bQ w1.heap.size w vR R
 o : bQ w1.heap.size w vO O
 u : dU w w1.heap.size bU U V D
 bu : bU < w1.heap.size
 ro : ∀ i, vR.ownBlock = some i → vO.ownBlock ≠ some i
 rU : ∀ i, vR.ownBlock = some i → jv bU V D i
 oU : ∀ i, vO.ownBlock = some i → jv bU V D i
theorem kJ {w1 w w' : World} {T : Nat → Prop} {row : Option Nat} (h : ak w1 w T) (hg : w.grownBy w' row) (hr : ∀ i, row = some i → T i ∨ w1.heap.size ≤ i) : ak w1 w' T :=
 h.trans (ak.aV hg (fun k => row = some k) fun k e => .inl e) fun k e => hr k e
theorem gL.alloc {w1 w : World} {bU : Nat} {vR vO : Value} {R O : List Br} {U : Int → List Sp} {V : Int → Value} {D : DataW Value} (h : gL w1 w bU vR vO R O U V D) (o : Obj) : gL w1 (w.alloc o) bU vR vO R O U V D :=
 ⟨h.aU.alloc o, ady h.r o, ady h.o o, h.u.grown (ada w o none) (fun i e => by cases e), h.bu, h.ro, h.rU, h.oU⟩
theorem gL.kV {w1 w w' : World} {bU : Nat} {vR vO vR' : Value} {R R' O : List Br} {U : Int → List Sp} {V : Int → Value} {D : DataW Value} (h : gL w1 w bU vR vO R O U V D) (ho : bQ w1.heap.size w' vR' R') (he : eN w vR w' vR') : gL w1 w' bU vR' vO R' O U V D := by
 have hu := h.u.ext he h.rU;refine ⟨kJ h.aU he.1 fun i hi => .inr (h.r.lt i hi).1, ho, h.o.grown he.1 ?_, hu.1, h.bu, fun i hi => ?_, hu.2, h.oU⟩
 ·rcases sB : vO.ownBlock with _ | j
  ·exact .inl rfl
  ·exact .inr fun e => h.ro j e.symm sB
 ·rcases he.2 with e | ⟨j, hj, e⟩
  ·rw [e] at hi;exact h.ro i hi
  ·rw [e] at hi;injection hi with hi;subst hi;intro e2;have := (h.o.lt _ e2).2;omega
theorem gL.abf {w1 w w' : World} {bU : Nat} {vR vO vO' : Value} {R O O' : List Br} {U : Int → List Sp} {V : Int → Value} {D : DataW Value} (h : gL w1 w bU vR vO R O U V D) (ho : bQ w1.heap.size w' vO' O') (he : eN w vO w' vO') : gL w1 w' bU vR vO' R O' U V D := by
 have hu := h.u.ext he h.oU;refine ⟨kJ h.aU he.1 fun i hi => .inr (h.o.lt i hi).1, h.r.grown he.1 ?_, ho, hu.1, h.bu, fun i hi => ?_, h.rU, hu.2⟩
 ·rcases sB : vR.ownBlock with _ | j
  ·exact .inl rfl
  ·exact .inr fun e => h.ro j sB e.symm
 ·rcases he.2 with e | ⟨j, hj, e⟩
  ·rw [e];exact h.ro i hi
  ·rw [e];intro e2;injection e2 with e2;subst e2;have := (h.r.lt _ hi).2;omega
theorem gL.push {w1 Y : World} {bU : Nat} {vR vO : Value} {R O : List Br} {U : Int → List Sp} {V : Int → Value} {D : DataW Value} (h : gL w1 Y bU vR vO R O U V D) {k : Int} (hk : (Lit.int .i64 k).wf = true) (y : Sp) (hN : Maps.size D ≤ 1000) :
  ∃ p c, (∀ W : World, W.ownsMap prog 3 mB bU (Maps.size D) D → (Instr.lookup 262 (.map (some bU)) (.int .i64 k) false).run prog W = .ok (.slice p (U k).length c) W) ∧ aI w1.heap.size Y (.slice p (U k).length c) (U k) ∧ (∀ i, (Value.slice p (U k).length c).ownBlock = some i → i ≠ bU ∧ w1.heap.size ≤ i ∧ i < Y.heap.size) ∧ (Maps.has D (.int .i64 k) = true ∧ Value.slice p (U k).length c = V k ∨ Maps.has D (.int .i64 k) = false ∧ Value.slice p (U k).length c = .slice none 0 0) ∧
   ∀ (o : Obj) (gg cap : Nat) (w2 : World), w2.ownsRow w1.heap.size 30 6 (.slice (some ⟨gg, 0, none⟩) ((U k).length + 1) cap) ((U k).length + 1) ((U k).flatMap fW ++ fW y) → ((Y.alloc o).drew).grownBy w2 (Value.slice p (U k).length c).ownBlock → ((Value.slice p (U k).length c).ownBlock = some gg ∨ gg = Y.heap.size + 1) →
    ∃ w3 V3 D3, (Instr.mapUpdate 262 (.map (some bU)) (.int .i64 k) (.slice (some ⟨gg, 0, none⟩) ((U k).length + 1) cap)).run prog w2 = .ok () w3 ∧ gL w1 w3 bU vR vO R O (fun j => if j = k then U k ++ [y] else U j) V3 D3 ∧ Maps.size D3 ≤ Maps.size D + 1 ∧ w2.grownBy w3 (some bU) := by
 obtain ⟨v, sI, fj, lJ⟩ := h.u.Yd hk;obtain ⟨p, n, c, rfl⟩ := fj.gp.sl;obtain rfl : n = (U k).length := fj.gp.len.1;have mC : ∀ i, (Value.slice p (U k).length c).ownBlock = some i → i ≠ bU ∧ (∀ j, j = vR.ownBlock ∨ j = vO.ownBlock → j ≠ some i) := fun i hi => by
  rcases lJ with ⟨hh, e⟩ | ⟨hh, e⟩
  ·rw [e] at hi;refine ⟨h.u.blk k i hh hi, fun j hj ej => ?_⟩;subst ej;rcases hj with hj | hj
   ·exact (h.rU i hj.symm).2 k hh hi
   ·exact (h.oU i hj.symm).2 k hh hi
  ·rw [e] at hi;cases hi
 refine ⟨p, c, sI, fj, fun i hi => ⟨(mC i hi).1, fj.lt i hi⟩, lJ, fun o gg cap w2 dG nQ aG => ?_⟩;have oe : Y.grownBy w2 (Value.slice p (U k).length c).ownBlock := ⟨nQ.os, nQ.tape, nQ.output, by have := nQ.size; simp at this; omega, fun i hi aN => (nQ.block i (by simp; omega) aN).trans (aeN _ _ hi)⟩
 have eX : aI w1.heap.size w2 (.slice (some ⟨gg, 0, none⟩) ((U k).length + 1) cap) (U k ++ [y]) := by
  unfold aI;rw [adt, acH]
  simpa using dG
 obtain ⟨w3, dB, fE, hu3, jH, kY⟩ := h.u.push hk lJ eX oe (by
  rcases aG with e | e
  ·exact .inl e.symm
  ·exact .inr ⟨gg, by omega, rfl⟩) (by omega)
 refine ⟨w3, _, _, dB, ⟨?_, ?_, ?_, hu3, h.bu, h.ro, fun i hi => kY i (h.rU i hi) (h.r.lt i hi).2, fun i hi => kY i (h.oU i hi) (h.o.lt i hi).2⟩, jH, fE⟩
 ·exact kJ (kJ h.aU oe fun i hi => .inr (fj.lt i hi).1) fE fun i hi => .inl (by injection hi with hi; exact hi.symm)
 ·refine (h.r.grown oe ?_).grown fE ?_
  ·rcases sB : vR.ownBlock with _ | j
   ·exact .inl rfl
   ·exact .inr fun e => (mC j e.symm).2 _ (.inl rfl) sB
  ·rcases sB : vR.ownBlock with _ | j
   ·exact .inl rfl
   ·exact .inr fun e => (h.rU j sB).1 (by injection e)
 ·refine (h.o.grown oe ?_).grown fE ?_
  ·rcases sB : vO.ownBlock with _ | j
   ·exact .inl rfl
   ·exact .inr fun e => (mC j e.symm).2 _ (.inr rfl) sB
  ·rcases sB : vO.ownBlock with _ | j
   ·exact .inl rfl
   ·exact .inr fun e => (h.oU j sB).1 (by injection e)
attribute [local go_sem ↓] Go.wp_at_zero Go.wp_at_succ
theorem wO (w : World) : (Instr.makeMap 262 none).run prog w = .ok (.map (some w.heap.size)) (w.alloc (.map #[] 0)) := by
 kernel_rfl
theorem uH {tr : Int} {L : List Sp} (h : dT tr L) {x : Sp} (hx : x ∈ L) : (Lit.int .i64 x.i).wf = true ∧ (Lit.int .i64 x.p).wf = true := by
 obtain ⟨t1, t2, i1, i2, p1, p2, _⟩ := (Sp.aO x).1 (h.ok x hx).1;exact ⟨ad5 (by omega), ad5 (by omega)⟩
theorem MF {L S : List Sp} (h : ∀ k, bI S k = bI L k) : jK S = (gJ S ++ gK L S).flatMap fun x => iK S 64 x.d x.o x.s := by
 have e : pJ S = S.filter fun x => !(x.p == 0) && !(bI L x.p).isSome := by
  unfold pJ;simp only [h]
 unfold jK gJ gK;rw [adt, List.flatMap_map, List.flatMap_map, ← e]
theorem MG {L S : List Sp} : ∀ x ∈ gJ S ++ gK L S, x.s ∈ S ∧ x.d = 0 := by
 intro x hx;rcases ad1.1 hx with hx | hx
 ·unfold gJ roots at hx;obtain ⟨s, hs, rfl⟩ := ads.1 hx;exact ⟨(adT.1 hs).1, rfl⟩
 ·unfold gK at hx;obtain ⟨s, hs, rfl⟩ := ads.1 hx;exact ⟨(adT.1 hs).1, rfl⟩
structure Rw (w1 w : World) (bU : Nat) (L S : List Sp) (k : Nat) (vR vO : Value) : Prop where
 inv : ∃ V D, gL w1 w bU vR vO (gJ (S.take k)) (gK L (S.take k)) (Fe L (S.take k)) V D ∧ Maps.size D ≤ k
theorem Cw {w : World} {b : Nat} {L : List Sp} {D : DataW Value} {tr : Int} (h : bW w b L D) (aT : dT tr L) :
  Calls prog 173 #[.map (some b)] w fun e w' => ∃ v', e = .returned v' ∧ bQ w.heap.size w' v' (jK (aQ L)) ∧ Below w.heap.size w w' := by
 have U1 := wO w;have jJ := h.map.lt;have hM : bW (w.alloc (.map #[] 0)) b L D := h.grown (ada w _ none) (by simp);have Ud := uG hM aT.len;have hlen : (aQ L).length = L.length := dp L;obtain ⟨S, hS⟩ : ∃ S, aQ L = S := ⟨_, rfl⟩
 have kK : ∀ y ∈ S, y ∈ L := fun y hy => (cG L).mem_iff.1 (by rw [hS]; exact hy);have Yj : ∀ k, bI S k = bI L k := fun k => by rw [← hS]; exact Cp aT.ids (cG L) k
 have Yk : dT tr S := by rw [← hS]; exact aT.sort
 rw [hS] at Ud hlen ⊢;have HM := af hM;have Ff := af Ud;have IC := af hlen;have fh := af (acD aT Yk);have Yl := af kK;have HFS := af Yj;clear hM Ud hlen aT Yk kK Yj hS h;go_enter func173, ntmps173
 go_wp2_with fail
 refine Ff.out.mono ?_;rintro e1 w1 ⟨v1, rfl, mW, aK⟩;obtain ⟨pS, nS, cS, rfl⟩ := mW.gp.sl;have hnS := mW.gp.len.1;have tW : w.heap.size + 1 ≤ w1.heap.size := by have := aK.size; simpa using this
 have Rx : Rw w1 w1 w.heap.size L S 0 (.slice none 0 0) (.slice none 0 0) := by
  refine ⟨fun _ => .slice none 0 0, .map [], ⟨ak.refl _ _, bQ.nil _ _, bQ.nil _ _, ?_, by omega, fun i hi => (by cases hi), fun i hi => (by cases hi), fun i hi => (by cases hi)⟩, acE _⟩;have h0 := (PI w (acE _) (fun _ => .slice none 0 0)).map;refine ⟨h0.kept (row := none) ⟨aK.os, aK.tape, aK.output, aK.size, fun k hk _ => aK.block k hk⟩ (by simp), fun k h => (by cases h), fun k _ => ?_, fun k i h => (by cases h), fun k k' i h => (by cases h)⟩;unfold Fe kids
  split <;> rfl
 have eL := af mW;have aS := af aK;have Ws := af hnS;have ZD := af Rx;have abg := af tW;clear mW aK hnS Rx tW U1;go_wp2_with fail
 go_loopw [3, 4, 7, 8, 9, 17] (fun v3 v4 _ _ _ ix wr => ∃ (k : Nat) (pr po : Option Addr) (mr cr mo co : Nat), v3 = .slice pr mr cr ∧ v4 = .slice po mo co ∧ k ≤ S.length ∧ ix = .int .i64 k ∧ Hid (Rw w1 wr w.heap.size L S k (.slice pr mr cr) (.slice po mo co))) (fun _ _ _ _ _ ix _ => S.length - (intOf ix).toNat)
 case atStart => exact ⟨0, none, none, 0, 0, 0, 0, rfl, rfl, adq _, rfl, ZD⟩
 case round =>
  obtain ⟨k, pr, po, mr, cr, mo, co, rfl, rfl, hk, rfl, HT⟩ := hrel;have PO : S.length ≤ 64 := fh.out.2.len;by_cases bd : (k : Int) < (nS : Int)
  ·obtain ⟨gS, oS, rfl, hx⟩ := eL.out.gp.at_ (by omega);obtain ⟨y, hy⟩ : ∃ y, S[k]? = some y := ⟨_, acF (by have := Ws.out; omega)⟩
   have hgS : gS ≠ w.heap.size := by
    have := (eL.out.lt gS rfl).1;simp at this;omega
   obtain ⟨V, D', hinv, kt⟩ := HT.out.inv;have aG : cj wr gS (oS + k * 6) y := fun j u hj => hinv.aU.cell (hx k y hy j u hj) hgS;obtain ⟨oo, iu⟩ : ∃ oo, oS + k * 6 = oo := ⟨_, rfl⟩
   rw [iu] at aG;have z0 := aG.c0;have z1 := aG.c1;have z2 := aG.c2;have z3 := aG.c3;have z4 := aG.c4;have z5 := aG.c5;have lk : S.take (k + 1) = S.take k ++ [y] := by rw [ac5, hy]; rfl
   have hyL := Yl.out y (acS hy);have hwf := (uH fh.out.1 hyL).2;have Ry := hinv.aU.size;have hkS : k < S.length := (acL.1 hy).1;have hX := hinv.alloc (.cells #[.int .i64 y.t, .int .i64 y.i, .int .i64 y.p, .int .i64 y.s, .int .i64 y.e, .string y.n] 30);have I6 : (gJ (S.take k)).length ≤ 1100000 := by
    unfold gJ roots;rw [adv];have := adF (fun x : Sp => x.p == 0) (S.take k);rw [ac6] at this;omega
   have Ym : (gK L (S.take k)).length ≤ 1100000 := by
    unfold gK;rw [adv];have := adF (fun x : Sp => !(x.p == 0) && !(bI L x.p).isSome) (S.take k);rw [ac6] at this;omega
   have HX := af hX;have qO := af (acD hinv kt);have iB := af lk;have Yn := af Ry;have Ex := af (acD I6 Ym);have Ue := af hkS;have oK := HM.out.aU (T := fun i => i = w.heap.size) (w' := wr.alloc (.cells #[.int .i64 y.t, .int .i64 y.i, .int .i64 y.p, .int .i64 y.s, .int .i64 y.e, .string y.n] 30)) ((ak.of_below aS.out (fun i => i = w.heap.size)).trans (hinv.aU.alloc _) (fun i hi => .inl hi)) (by omega);have dH := af oK;have bg := az wr y;have qw := af bg;clear hx hinv kt aG lk hX I6 Ym Ry oK bg hyL hy;by_cases hp : y.p = 0
   ·have HP := af hp;obtain ⟨t, i, q, s, e, nm⟩ := y;dsimp only at *;subst hp;go_wp2_with (at_builtin; go_must (refine fQ (v := .slice pr mr cr) rfl _ _ rfl rfl ⟨0, false, ⟨t, i, 0, s, e, nm⟩⟩ rfl rfl (by simp) HX.out.r (by have := Yn.out; simp; omega) Ex.out.1 ?_); intro v5 w5 bP wP; obtain ⟨p5, m5, c5, rfl⟩ := bP.jK.sl; have ql := af (HX.out.kV bP wP); clear bP wP)
    go_roundw;case rel =>
     refine ⟨k + 1, p5, po, m5, c5, mo, co, rfl, rfl, by have := Ue.out; omega, by go_num, af ⟨V, D', ?_, Nat.le_succ_of_le qO.out.2⟩⟩;rw [iB.out, mG, mH, Cv (.inl rfl), acW rfl, acO (fun h => h.1 rfl), adh];exact ql.out
    case measure => simp [intOf]; have := Ue.out; omega
   ·have fA : (y.p == 0) = false := adj.2 hp;have hl := (dH.out.look hwf 0).1;cases hf : bI L y.p with
    | none =>
     rw [hf] at hl;have hl1 : (Instr.lookup 230 (.map (some b)) (.int .i64 y.p) true).run prog (wr.alloc (.cells #[.int .i64 y.t, .int .i64 y.i, .int .i64 y.p, .int .i64 y.s, .int .i64 y.e, .string y.n] 30)) = .ok (.tuple #[.agg #[.int .i64 0, .int .i64 0, .int .i64 0, .int .i64 0, .int .i64 0, .string ByteArray.empty], .bool false]) (wr.alloc (.cells #[.int .i64 y.t, .int .i64 y.i, .int .i64 y.p, .int .i64 y.s, .int .i64 y.e, .string y.n] 30)) := hl;have HP := af (acD hp hf);have HY := af (HX.out.alloc (.cells #[.int .i64 0, .int .i64 0, .int .i64 0, .int .i64 0, .int .i64 0, .string ByteArray.empty] 30));obtain ⟨t, i, q, s, e, nm⟩ := y;dsimp only at *;clear hl hf;go_wp2_with (at_builtin; go_must (refine fQ (v := .slice po mo co) rfl _ _ rfl rfl ⟨0, true, ⟨t, i, q, s, e, nm⟩⟩ rfl rfl (by simp) HY.out.o (by have := Yn.out; simp; omega) Ex.out.2 ?_); intro v5 w5 bP wP; obtain ⟨p5, m5, c5, rfl⟩ := bP.jK.sl; have ql := af (HY.out.abf bP wP); clear bP wP)
     go_roundw;case rel =>
      refine ⟨k + 1, pr, p5, mr, cr, m5, c5, rfl, rfl, by have := Ue.out; omega, by go_num, af ⟨V, D', ?_, Nat.le_succ_of_le qO.out.2⟩⟩;rw [iB.out, mG, mH, Cv (.inr HP.out.2), acO HP.out.1, acW HP.out, adh];exact ql.out
     case measure => simp [intOf]; have := Ue.out; omega
    | some u =>
     rw [hf] at hl;have hl1 : (Instr.lookup 230 (.map (some b)) (.int .i64 y.p) true).run prog (wr.alloc (.cells #[.int .i64 y.t, .int .i64 y.i, .int .i64 y.p, .int .i64 y.s, .int .i64 y.e, .string y.n] 30)) = .ok (.tuple #[.agg #[.int .i64 u.t, .int .i64 u.i, .int .i64 u.p, .int .i64 u.s, .int .i64 u.e, .string u.n], .bool true]) (wr.alloc (.cells #[.int .i64 y.t, .int .i64 y.i, .int .i64 y.p, .int .i64 y.s, .int .i64 y.e, .string y.n] 30)) := hl;have hpu : ¬ (y.p = 0 ∨ bI L y.p = none) := by rw [hf]; simpa using hp
     have HP := af hpu;have Jq := az wr y;have hY := HX.out.alloc (.cells #[.int .i64 u.t, .int .i64 u.i, .int .i64 u.p, .int .i64 u.s, .int .i64 u.e, .string u.n] 30);have MH := Jq.grown (ada _ (.cells #[.int .i64 u.t, .int .i64 u.i, .int .i64 u.p, .int .i64 u.s, .int .i64 u.e, .string u.n] 30) none) (by simp);obtain ⟨pv, cv, hE, fj, Db, lJ, Gt⟩ := hY.push hwf y (by have := qO.out.2; have := Ue.out; omega);obtain ⟨Y, Yo⟩ : ∃ Y, (wr.alloc (.cells #[.int .i64 y.t, .int .i64 y.i, .int .i64 y.p, .int .i64 y.s, .int .i64 y.e, .string y.n] 30)).alloc (.cells #[.int .i64 u.t, .int .i64 u.i, .int .i64 u.p, .int .i64 u.s, .int .i64 u.e, .string u.n] 30) = Y := ⟨_, rfl⟩
     have hYs : w1.heap.size ≤ Y.heap.size := by rw [← Yo]; have := Yn.out; simp; omega
     rw [Yo] at hY MH fj Db Gt;have VT := hY.u.map;have F6 := af Yo;obtain ⟨n, hn⟩ : ∃ n, (Fe L (S.take k) y.p).length = n := ⟨_, rfl⟩
     have acr : n ≤ 64 := by
      rw [← hn];unfold Fe
      split
      ·simp
      ·unfold kids;have := adF (fun x : Sp => x.p == y.p) (S.take k);rw [ac6] at this;omega
     rw [hn] at hE fj Db lJ Gt;obtain ⟨y0, y1, y2, y3, y4, y5⟩ := MH.z;have acs : wr.heap.size < Y.heap.size := by rw [← Yo]; simp; omega
     have HE0 : (Instr.lookup 262 (.map (some w.heap.size)) (.int .i64 y.p) false).run prog Y = .ok (.slice pv n cv) Y := hE Y VT;have hmd : ∀ o, (Y.alloc o).drew.ownsMap prog 3 mB w.heap.size (Maps.size D') D' := fun o => by
      have := VT.kept (ada Y o none) (by simp);exact this
     have HEa := af (fun o => hE (Y.alloc o) (VT.kept (ada Y o none) (by simp)));have HEd : Hid (∀ o, (Instr.lookup 262 (.map (some w.heap.size)) (.int .i64 y.p) false).run prog (Y.alloc o).drew = .ok (.slice pv n cv) (Y.alloc o).drew) := af (fun o => hE (Y.alloc o).drew (show (Y.alloc o).ownsMap prog 3 mB w.heap.size (Maps.size D') D' from VT.kept (ada Y o none) (by simp)));have HEq : Hid (∀ q, (Instr.lookup 262 (.map (some w.heap.size)) (.int .i64 y.p) false).run prog (Y.drewN q) = .ok (.slice pv n cv) (Y.drewN q)) := af (fun q => hE (Y.drewN q) VT);have HEg : Hid (∀ o w2, ((Y.alloc o).drew).grownBy w2 (Value.slice pv n cv).ownBlock → (Instr.lookup 262 (.map (some w.heap.size)) (.int .i64 y.p) false).run prog w2 = .ok (.slice pv n cv) w2) := af (fun o w2 hg => hE w2 ((hmd o).kept hg (fun e => (Db _ e.symm).1 rfl)));have ZS : Hid ((Value.slice pv n cv).ownBlock ≠ some wr.heap.size) := af (fun e => by
      rcases lJ with ⟨hh, ev⟩ | ⟨_, ev⟩
      ·have := ((qO.out.1.u.vals _ hh).2.lt _ (by rw [← ev]; exact e)).2;omega
      ·rw [ev] at e;cases e)
     have vq : Hid (Y.ownsRow w1.heap.size 30 6 (.slice pv n cv) n ((Fe L (S.take k) y.p).flatMap fW)) := af (by
      have := fj;unfold aI at this;rw [hn] at this;exact this)
     have Yp := af Gt;have AF : Hid (wr.heap.size ≠ w.heap.size) := af (by have := Yn.out; have := abg.out; omega);have vr := af hn;obtain ⟨i0, eV, abh, abj, abk⟩ := adM Tryz.infoSp;obtain ⟨t, i, q, s, e, nm⟩ := y;obtain ⟨ut, ui, up, us, ue, un⟩ := u;dsimp only at *;clear hl hf hpu Jq hY MH hE fj Db lJ Gt Yo VT hmd hn;go_wp2_with fail
     rw [F6.out];have hqd : ∀ o, (Instr.lookup 262 (.map (some w.heap.size)) (.int .i64 q) false).run prog (Y.alloc o).drew = .ok (.slice pv n cv) (Y.alloc o).drew := HEd.out;have acu : (Instr.lookup 262 (.map (some w.heap.size)) (.int .i64 q) false).run prog Y.drew = .ok (.slice pv n cv) Y.drew := HEq.out 1;go_region_held3 (fun W => W.cell? ⟨wr.heap.size, 0, none⟩ = some (.int .i64 t) ∧ W.cell? ⟨wr.heap.size, 1, none⟩ = some (.int .i64 i) ∧ W.cell? ⟨wr.heap.size, 2, none⟩ = some (.int .i64 q) ∧ W.cell? ⟨wr.heap.size, 3, none⟩ = some (.int .i64 s) ∧ W.cell? ⟨wr.heap.size, 4, none⟩ = some (.int .i64 e) ∧ W.cell? ⟨wr.heap.size, 5, none⟩ = some (.string nm))
      (first
       | go_keep
       | (go_split_ands; refine ⟨?_, ?_, ?_, ?_, ?_, ?_⟩ <;> (rw [tB.cell_far _ (by simp; omega) (Ne.symm ZS.out)]; assumption))
       | (go_split_ands; refine ⟨?_, ?_, ?_, ?_, ?_, ?_⟩ <;> (rw [fE.cell_far _ (by have := tB.size; simp at this ⊢; omega) (fun e => AF.out (by injection e))]; assumption)))
      ((refine step_append_lies _ (by rfl) _ _ _ (by rfl) w1.heap.size 30 i0 _ 6 56 aeQ eV abh abj abk rfl (by omega) (.slice pv n cv) n _ (by rfl) ((ady vq.out _).drew)
         ⟨Y.heap.size, 0, none⟩ 1 1 [.int .i64 t, .int .i64 i, .int .i64 q, .int .i64 s, .int .i64 e, .string nm] (by rfl) (by rfl) (World.news_of_block (cs := #[.int .i64 t, .int .i64 i, .int .i64 q, .int .i64 s, .int .i64 e, .string nm]) (t := 30) (fr := (0, 0)) (acQ Y _)) (by simp [Value.oneCell'])
         (by omega) (by simp only [maxLen]; omega) (by omega) (by simp; omega) (Y.heap.size + 1) (by simp) ?_; intro gg cap w2 tG tB abl oq; obtain ⟨w3, V3, D3, dB, Rz, Yq, fE⟩ := Yp.out _ gg cap w2 tG tB abl; have HI3 := af (acD Rz Yq); clear Rz Yq))
     all_goals
      go_wp2;go_roundw;case rel =>
       refine ⟨k + 1, pr, po, mr, cr, mo, co, rfl, rfl, by have := Ue.out; omega, by go_num, af ⟨V3, D3, ?_, acN HI3.out.2 (Nat.succ_le_succ qO.out.2)⟩⟩;rw [iB.out, mG, mH, PN HP.out, acO (fun h => HP.out (.inl h)), acO (fun h => HP.out (.inr h.2)), adh, adh];exact HI3.out.1
      case measure => simp [intOf]; have := Ue.out; omega
  ·have hkS : k = S.length := by have := Ws.out; omega
   subst hkS;obtain ⟨V, D', hinv, kt⟩ := HT.out.inv;rw [ad9] at hinv;have I6 : (gJ S).length ≤ 64 := by
    unfold gJ roots;rw [adv];have := adF (fun x : Sp => x.p == 0) S;omega
   have Ym : (gK L S).length ≤ 64 := by
    unfold gK;rw [adv];have := adF (fun x : Sp => !(x.p == 0) && !(bI L x.p).isSome) S;omega
   have qO := af hinv;have HL2 := af (acD I6 Ym);clear hinv kt I6 Ym;go_wp2_with (at_builtin; go_must (refine mF rfl _ _ rfl rfl rfl rfl qO.out.r qO.out.o.jK qO.out.aU.size (by have := HL2.out; omega) ?_); intro v5 w5 bP aL ik; obtain ⟨p5, m5, c5, rfl⟩ := bP.jK.sl; have hu5 := qO.out.u.grown ik qO.out.rU; have lA := kJ qO.out.aU ik (fun i hi => .inr (qO.out.r.lt i hi).1); have Qm := bP.jK.len.1; have H5 := af (acD bP (acD hu5 (acD lA Qm))); clear bP aL ik hu5 lA Qm)
   obtain ⟨T, hT⟩ : ∃ T, gJ S ++ gK L S = T := ⟨_, rfl⟩
   rw [hT] at H5;obtain ⟨r, hr⟩ := fh.out.2.tidy;have Mz : jK S = T.flatMap fun x => iK S 64 x.d x.o x.s := by rw [← hT]; exact MF HFS.out
   have hTm : ∀ x ∈ T, x.s ∈ S ∧ x.d = 0 := by rw [← hT]; exact MG
   have Uf := af (acD Mz (Gm hr PO));have QF := af hTm;have Yr := af (fun t (ht : t ∈ S) => my hr ht PO);have VR : ∀ t ∈ S, Fe L S t.i = kids S t.i := fun t ht => by
    unfold Fe;rw [acO];rintro (h0 | h0)
    ·have := hr.pos t ht;omega
    ·rw [jo fh.out.1.ids (Yl.out t ht)] at h0;cases h0
   have Ys : ∀ t ∈ S, (Lit.int .i64 t.i).wf = true := fun t ht => (uH fh.out.2 ht).1;have HUS := af (acD VR Ys);have ab2 : m5 ≤ 128 := by
    have h1 := H5.out.2.2.2;rw [← hT, acH] at h1;have := HL2.out;omega
   clear hT Mz hTm hr VR Ys;go_loopw [10, 12, 57] (fun v _ ix wr => ∃ (k : Nat) (p : Option Addr) (m c : Nat), v = .slice p m c ∧ k ≤ T.length ∧ ix = .int .i64 k ∧ Hid (bQ w5.heap.size wr (.slice p m c) ((T.take k).flatMap fun x => iK S 64 x.d x.o x.s) ∧ eN w5 (.slice none 0 0) wr (.slice p m c))) (fun _ _ ix _ => T.length - (intOf ix).toNat)
   case atStart => exact ⟨0, none, 0, 0, rfl, adq _, rfl, af ⟨bQ.nil _ _, eN.refl _ _⟩⟩
   case round =>
    obtain ⟨k, p, m, c, rfl, Zn, rfl, HR⟩ := hrel;by_cases oq : (k : Int) < (m5 : Int)
    ·obtain ⟨gT, oT, rfl, hx⟩ := H5.out.1.jK.at_ (by omega);obtain ⟨x, dC⟩ : ∃ x, T[k]? = some x := ⟨_, acF (by have := H5.out.2.2.2; omega)⟩
     have aG : jw wr gT (oT + k * 8) x := fun j u hj => kH HR.out.2 (hx k x dC j u hj) (by simp [Value.ownBlock]);obtain ⟨oo, iu⟩ : ∃ oo, oT + k * 8 = oo := ⟨_, rfl⟩
     rw [iu] at aG;have z0 := aG.c0;have z1 := aG.c1;have z2 := aG.c2;have z3 := aG.c3;have z4 := aG.c4;have z5 := aG.c5;have z6 := aG.c6;have z7 := aG.c7;have hkT : k < T.length := (acL.1 dC).1;have lk : T.take (k + 1) = T.take k ++ [x] := by rw [ac5, dC]; rfl
     obtain ⟨hxS, hxd⟩ := QF.out x (acS dC);have jG : ((T.take k).flatMap fun x => iK S 64 x.d x.o x.s).length + (iK S 64 x.d x.o x.s).length ≤ 1100000 := by
      have h1 := Uf.out.2;rw [Uf.out.1, ← aeb (k + 1) T, lk, adt, adt, acH, acH] at h1;have h2 : ([x].flatMap fun x => iK S 64 x.d x.o x.s) = iK S 64 x.d x.o x.s := by simp
      rw [h2] at h1;omega
     have hu := H5.out.2.1.ext HR.out.2 (fun i hi => by cases hi);have Jq := eN.alloc wr (.slice p m c) (.cells #[.int .i64 x.d, .bool x.o, .int .i64 x.s.t, .int .i64 x.s.i, .int .i64 x.s.p, .int .i64 x.s.s, .int .i64 x.s.e, .string x.s.n] 90);have kG := uD (B := w5.heap.size) HUS.out.1 HUS.out.2 64 (wr.alloc (.cells #[.int .i64 x.d, .bool x.o, .int .i64 x.s.t, .int .i64 x.s.i, .int .i64 x.s.p, .int .i64 x.s.s, .int .i64 x.s.e, .string x.s.n] 90)) p m c _ x hxS (Yr.out _ hxS) (hu.1.ext Jq hu.2).1 hu.2 (by have := HR.out.2.1.size; simp; omega) (show bQ w5.heap.size (wr.alloc _) (.slice p m c) _ from ady HR.out.1 _) (by omega) (by omega) jG;have HC := af kG;have abm := af Jq;have iB := af lk;have HKT := af hkT;clear hx dC aG kG lk hxS hxd jG hu Jq hkT;obtain ⟨xd, xo, xt, xi, xp, xs, xe, xn⟩ := x;dsimp only at *;go_wp2_with fail
     refine HC.out.mono ?_;rintro e6 w6 ⟨p6, m6, c6, rfl, cw, he6⟩;have H6 := af (acD cw ((HR.out.2.trans abm.out).trans he6));clear cw he6;go_wp2;go_roundw;case rel =>
      refine ⟨k + 1, p6, m6, c6, rfl, by have := HKT.out; omega, by go_num, af ⟨?_, H6.out.2⟩⟩;rw [iB.out, adt];have h2 : ([(⟨xd, xo, ⟨xt, xi, xp, xs, xe, xn⟩⟩ : Br)].flatMap fun x => iK S 64 x.d x.o x.s) = iK S 64 xd xo ⟨xt, xi, xp, xs, xe, xn⟩ := by simp
      rw [h2];exact H6.out.1
     case measure => simp [intOf]; have := HKT.out; omega
    ·have hkT : k = T.length := by have := H5.out.2.2.2; omega
     subst hkT;have kh := HR.out.1;rw [ad9, ← Uf.out.1] at kh;have aL : Below w.heap.size w w5 := by
      have fA : Below w.heap.size w w1 := ((acG w.heap.size w).alloc (acE _) (.map #[] 0)).trans (aS.out.mono (by simp));exact ak.aZ fA H5.out.2.2.1 (fun i hi => by omega)
     have hbf : Below w.heap.size w wr := aL.grown HR.out.2.1 aL.size (fun i hi => by cases hi);have HF := af (acD (kh.mono aL.size) hbf);clear kh aL hbf;go_wp2;go_ret;exact ⟨_, rfl, HF.out.1, HF.out.2⟩
def iJ (c : Cn) : Value := .agg #[.int .i64 (c.add : Nat), .int .i64 (c.same : Nat), .int .i64 (c.other : Nat), .int .i64 (c.dw : Nat), .int .i64 (c.full : Nat)]
def NoF (w : World) (v : Value) : Prop := v = .pointer none ∨ ∃ g, v = .pointer (some ⟨g, 0, none⟩) ∧ w.cell? ⟨g, 0, none⟩ = some (.map none)
theorem zU (w : World) : (binOp .neq 230 (.map none) (.map none)).run prog w = .ok (.bool false) w := by
 kernel_rfl
theorem PR {w : World} {v : Value} (h : NoF w v) : Calls prog 172 #[v] w fun e w' => e = .returned (.bool false) ∧ ∃ q, w' = w.drewN q := by
 rcases h with rfl | ⟨g, rfl, c0⟩
 ·go_enter func172, ntmps172
  go_wp2;go_ret;exact ⟨rfl, 0, rfl⟩
 ·have T_ := zU;go_enter func172, ntmps172
  go_wp2;go_ret;exact ⟨rfl, 0, rfl⟩
theorem Cx {w : World} {v : Value} (h : NoF w v) : Calls prog 134 #[v] w fun e w' => e = .returned (.slice none 0 0) ∧ Below w.heap.size w w' := by
 have HM := af (PR h);clear h;go_enter func134, ntmps134
 go_wp2_with fail
 refine HM.out.mono ?_;rintro e1 w1 ⟨rfl, q, rfl⟩;go_wp2;go_ret;exact ⟨rfl, ag _ q⟩
theorem rK (w : World) : (Instr.makeMap 230 none).run prog w = .ok (.map (some w.heap.size)) (w.alloc (.map #[] 0)) := by
 kernel_rfl
theorem PS {w : World} {tr : Int} (h1 : 1 ≤ tr) (h2 : tr ≤ 1099511627776) : Calls prog 212 #[.int .i64 tr] w fun e w' => e = .returned (.pointer (some ⟨w.heap.size + 1, 0, none⟩)) ∧ jr w' (w.heap.size + 1) w.heap.size tr [] ∧ Below w.heap.size w w' := by
 have U1 := fun q => rK (w.drewN q);have Yt := rK w;go_enter func212, ntmps212
 go_wp2;go_ret;have hs : (w.alloc (.map #[] 0)).heap.size = w.heap.size + 1 := by simp
 have b1 := (acG w.heap.size w).alloc (acE _) (.map #[] 0);refine ⟨rfl, ⟨?_, ?_, by omega, ⟨_, (Pq w).grown (ada _ _ none) (by simp)⟩, ⟨aek, uf, fun x hx => by simp at hx, by simp⟩⟩, b1.alloc b1.size _⟩
 ·rw [← hs];exact acC _ _ 0 _ 232 (0, 0) (acQ (w.alloc (.map #[] 0)) _)
 ·rw [← hs];exact acC _ _ 1 _ 232 (0, 0) (acQ (w.alloc (.map #[] 0)) _)
end Go.Proofs.YtionbmlicmibgaaGreatDoor
