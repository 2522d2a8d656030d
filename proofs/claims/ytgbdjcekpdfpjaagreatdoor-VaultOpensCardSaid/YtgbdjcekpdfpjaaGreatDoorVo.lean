/- Several texts made one. -/
import Derived.Test.YtgbdjcekpdfpjaaGreatDoorVg
import Derived.Test.YtgbdjcekpdfpjaaGreatDoorVSnap
import Derived.Test.YtgbdjcekpdfpjaaGreatDoorVb
import Derived.Test.YtgbdjcekpdfpjaaGreatDoorVa
import Derived.Test.YtgbdjcekpdfpjaaGreatDoorVSave
import Derived.Test.YtgbdjcekpdfpjaaGreatDoorDa
import Derived.Deep.RegionHeld3
set_option linter.unusedVariables false
set_option linter.unusedSimpArgs false
namespace Go.Proofs.YtgbdjcekpdfpjaaGreatDoor
open Go.RowKit
theorem rdNs_many (b : List UInt8) : ∀ (k a E : Nat), (rdNs b k a E).1.length = k
 | 0, a, E => rfl
 | k + 1, a, E => by
  unfold rdNs
  simp [rdNs_many b k]
def cntL (h : List UInt8) : Nat := (rdN h (rdN h (rdN h 0 0).2.1 (rdN h 0 0).2.2).2.1 (rdN h (rdN h 0 0).2.1 (rdN h 0 0).2.2).2.2).1
theorem snapOf_vo (m : Nat) (h : List UInt8) (r : List (List UInt8)) : (snapOf m h r).vo.length = min (cntL h) m := by
 unfold snapOf
 exact rdNs_many _ _ _ _
theorem snapOf_few {h : List UInt8} {r : List (List UInt8)} {m m' : Nat} (h1 : cntL h ≤ m) (h2 : cntL h ≤ m') : snapOf m h r = snapOf m' h r := by
 unfold snapOf
 dsimp only
 rw [show min (rdN h (rdN h (rdN h 0 0).2.1 (rdN h 0 0).2.2).2.1 (rdN h (rdN h 0 0).2.1 (rdN h 0 0).2.2).2.2).1 m = cntL h from Nat.min_eq_left h1,
  show min (rdN h (rdN h (rdN h 0 0).2.1 (rdN h 0 0).2.2).2.1 (rdN h (rdN h 0 0).2.1 (rdN h 0 0).2.2).2.2).1 m' = cntL h from Nat.min_eq_left h2]
theorem cnt_head {s : Sn} (h : s.chk = 0) : cntL s.head = s.vo.length := by
 obtain ⟨h1, h2, h3, h4, h5, h6⟩ := chk_parts h
 have h7 := vo_few h
 have eh : s.head = digits s.ix.toNat ++ (digits s.tm.toNat ++ (digits s.vo.length ++ (numsB s.vo ++ digits s.da.length))) := by
  unfold Sn.head numB
  simp
 have r1 := rdN_at (b := s.head) (A := []) (n := s.ix.toNat) (by omega) (by rw [eh]; rfl)
 simp only [List.length_nil, Nat.zero_add] at r1
 have r2 := rdN_at (b := s.head) (A := digits s.ix.toNat) (n := s.tm.toNat) (by omega) eh
 have r3 := rdN_at (b := s.head) (A := digits s.ix.toNat ++ digits s.tm.toNat) (R := numsB s.vo ++ digits s.da.length) (n := s.vo.length) (by omega) (by rw [eh]; simp)
 rw [List.length_append] at r3
 unfold cntL
 rw [r1]
 dsimp only
 rw [r2]
 dsimp only
 rw [r3]
theorem rows_file {s : Sn} (h : s.chk = 0) : (rowsL s.file.length s.file).1 = s.head :: s.pieces :=
 rows_of (s.head :: s.pieces) s.file.length (fun p hp => by
  rcases List.mem_cons.1 hp with rfl | hp
  ·have := head_le h; omega
  ·have := piece_le _ _ p hp; omega) (Nat.le_refl _)
theorem readB_eight (b : List UInt8) : readB 8 b = readB 7 b := by
 unfold readB
 cases hr : (rowsL b.length b).1 with
 | nil => rfl
 | cons h r =>
  dsimp only
  by_cases hn : cntL h ≤ 7
  ·rw [snapOf_few (m := 8) (m' := 7) (by omega) hn]
  ·have n8 : ¬ ((snapOf 8 h r).chk = 0 ∧ (snapOf 8 h r).file = b) := fun ⟨hc, _⟩ => by
    have h1 := vo_few hc
    rw [snapOf_vo] at h1
    omega
   have n7 : ¬ ((snapOf 7 h r).chk = 0 ∧ (snapOf 7 h r).file = b) := fun ⟨hc, hf⟩ => by
    have h1 := rows_file hc
    rw [hf, hr] at h1
    injection h1 with h1 _
    have h2 := cnt_head hc
    rw [← h1, snapOf_vo] at h2
    omega
   rw [if_neg n8, if_neg n7]
theorem readB_go {b h : List UInt8} {r : List (List UInt8)} (hr : (rowsL b.length b).1 = h :: r) : readB 7 b = if (snapOf 8 h r).chk = 0 ∧ (snapOf 8 h r).file = b then some (snapOf 8 h r) else none := by
 rw [← readB_eight]
 unfold readB
 rw [hr]
theorem readB_nil {b : List UInt8} (hr : (rowsL b.length b).1 = []) : readB 7 b = none := by
 unfold readB
 rw [hr]
end Go.Proofs.YtgbdjcekpdfpjaaGreatDoor
namespace Go.Proofs.YtgbdjcekpdfpjaaGreatDoor
open Go.RowKit
def GathB (B : Nat) (w : World) (v : Value) (xs : List (List UInt8)) : Prop :=
 ∃ us : List Value, us.length = xs.length ∧ w.ownsRow B 40 1 v xs.length us ∧ ∀ (i : Nat) u x, us[i]? = some u → xs[i]? = some x → By w u x ∧ Apart w v u x ∧ u.oneCell' = true ∧ (x = [] ∨ ∀ k, u.ownBlock = some k → B ≤ k)
theorem GathB.gath {B : Nat} {w : World} {v : Value} {xs : List (List UInt8)} (h : GathB B w v xs) : Gath B w v xs := by
 obtain ⟨us, h1, h2, h3⟩ := h
 exact ⟨us, h1, h2, fun i u x hu hx => ⟨(h3 i u x hu hx).1, (h3 i u x hu hx).2.1, (h3 i u x hu hx).2.2.1⟩⟩
theorem GathB.chg {B : Nat} {w w' : World} {T : Nat → Prop} {v : Value} {xs : List (List UInt8)} (h : GathB B w v xs) (hc : Chg w w' T) (hT : ∀ i, T i → i < B) : GathB B w' v xs := by
 obtain ⟨us, h1, h2, h3⟩ := h
 refine ⟨us, h1, row_chg h2 hc fun k hk ht => by have := h2.lt k hk; have := hT k ht; omega, fun i u x hu hx => ?_⟩
 obtain ⟨a, b, c, d⟩ := h3 i u x hu hx
 refine ⟨a.chg hc ?_, ?_, c, d⟩
 ·rcases d with d | d
  ·exact .inl d
  ·exact .inr fun k hk ht => by have := d k hk; have := hT k ht; omega
 ·rcases b with b | b
  ·exact .inl b
  ·exact .inr fun k hk => ⟨(b k hk).1, Nat.lt_of_lt_of_le (b k hk).2 hc.size⟩
theorem GathB.below {B : Nat} {w w' : World} {v : Value} {xs : List (List UInt8)} (h : GathB B w v xs) (hb : Below w.heap.size w w') : GathB B w' v xs := h.chg (Chg.of_below hb (fun _ => False)) fun i e => e.elim
theorem GathB.mono {B B' : Nat} {w : World} {v : Value} {xs : List (List UInt8)} (h : GathB B w v xs) (hB : B' ≤ B) : GathB B' w v xs := by
 obtain ⟨us, h1, h2, h3⟩ := h
 exact ⟨us, h1, ⟨h2.1, h2.2.imp id fun ⟨g, cap, cur, e, hb, r⟩ => ⟨g, cap, cur, e, Nat.le_trans hB hb, r⟩⟩, fun i u x hu hx => ⟨(h3 i u x hu hx).1, (h3 i u x hu hx).2.1, (h3 i u x hu hx).2.2.1, (h3 i u x hu hx).2.2.2.imp id fun h k hk => Nat.le_trans hB (h k hk)⟩⟩
theorem GathB.sl {B : Nat} {w : World} {v : Value} {xs : List (List UInt8)} (h : GathB B w v xs) : ∃ p n c, v = .slice p n c := h.gath.bss.sl
theorem GathB.one {w : World} {q : Option Addr} {m c : Nat} {x : List UInt8} {B : Nat} (hx : By w (.slice q m c) x) (hap : x = [] ∨ ∀ k, (Value.slice q m c).ownBlock = some k → B ≤ k ∧ k < w.heap.size) (hB : B ≤ w.heap.size) : GathB B (w.alloc (.cells #[.slice q m c] 40)) (.slice (some ⟨w.heap.size, 0, none⟩) 1 1) [x] := by
 refine ⟨[.slice q m c], rfl, ⟨rfl, .inr ⟨w.heap.size, 1, #[.slice q m c], rfl, hB, heap_alloc_new w _, Nat.le_refl _, by unfold maxLen; omega, rfl, rfl⟩⟩, fun i u y hu hy => ?_⟩
 cases i with
 | succ i => simp at hu
 | zero =>
  simp at hu hy
  subst hu hy
  refine ⟨hx.alloc _, ?_, rfl, ?_⟩
  ·rcases hap with h | h
   ·exact .inl h
   ·exact .inr fun k hk => ⟨fun e => by
     have e2 : w.heap.size = k := by injection e
     have := (h k hk).2; omega, by have := (h k hk).2; simp; omega⟩
  ·rcases hap with h | h
   ·exact .inl h
   ·exact .inr fun k hk => (h k hk).1
theorem run_gatherB {B : Nat} {w : World} {v : Value} {xs : List (List UInt8)} (h : GathB B w v xs) {q : Option Addr} {m c : Nat} {x : List UInt8} (hx : By w (.slice q m c) x) (hap : x = [] ∨ ∀ k, (Value.slice q m c).ownBlock = some k → v.ownBlock ≠ some k ∧ B ≤ k ∧ k < w.heap.size) (hB : B ≤ w.heap.size) (hs : xs.length ≤ 1000000) :
  ∃ v' w', (Builtin.append_ #[115, 115] 115 #[v, .slice (some ⟨w.heap.size, 0, none⟩) 1 1]).run Tryz.prog (w.alloc (.cells #[.slice q m c] 40)) = .ok v' w' ∧ GathB B w' v' (xs ++ [x]) ∧ Below B w w' := by
 obtain ⟨us, hl, ho, hu⟩ := h
 obtain ⟨i0, hi0, hz0, hz1, hz2⟩ := info_parts Tryz.info40
 have hlt := ho.lt
 have ho' := ho.alloc (.cells #[.slice q m c] 40)
 obtain ⟨v', w', hr, h1, h2, _, h4⟩ := run_append_own_at (P := Tryz.prog) (w.alloc (.cells #[.slice q m c] 40)) B 115 115 40 i0 (.slice none 0 0) 1 24 Tryz.underlying115 hi0 hz0 hz1 hz2 rfl (by decide) v xs.length us ho' ⟨w.heap.size, 0, none⟩ 1 1 [.slice q m c] rfl
  (cell_new1 _ _ _) (fun u hu => by simp at hu; subst hu; rfl) (by simp only [maxLen]; omega) (by omega) (by simp; omega)
 have hb0 : Below B w (w.alloc (.cells #[.slice q m c] 40)) := (Below.refl _ _).alloc hB _
 refine ⟨v', w', hr, ⟨us ++ [.slice q m c], by simp [hl], by simpa using h1, fun i u y hi hy => ?_⟩, hb0.grown h2 (by simp; omega) fun k hk => (ho.lt k hk).1⟩
 have key : ∀ (u : Value) (y : List UInt8), By w u y → Apart w v u y → By w' u y ∧ Apart w' v' u y := fun u y hb ha => by
  refine ⟨(hb.alloc _).grown h2 ?_, ?_⟩
  ·rcases ha with rfl | ha
   ·exact .inl rfl
   ·exact .inr fun k hk => (ha k hk).1
  ·rcases ha with rfl | ha
   ·exact .inl rfl
   ·refine .inr fun k hk => ⟨?_, ?_⟩
    ·obtain ⟨n1, n2⟩ := ha k hk
     rcases h4 with e | e
     ·rw [e]
      exact n1
     ·rw [e]
      intro e2
      injection e2 with e2
      rw [size_alloc'] at e2
      omega
    ·have := h2.size
     rw [size_alloc'] at this
     have := (ha k hk).2
     omega
 by_cases hil : i < us.length
 ·rw [List.getElem?_append_left hil] at hi
  rw [List.getElem?_append_left (by omega)] at hy
  obtain ⟨g1, g2, g3, g4⟩ := hu i u y hi hy
  obtain ⟨k1, k2⟩ := key u y g1 g2
  exact ⟨k1, k2, g3, g4⟩
 ·have hi1 : i = us.length := by
   have := (List.getElem?_eq_some_iff.1 hi).1
   simp at this
   omega
  subst hi1
  rw [List.getElem?_append_right (Nat.le_refl _), Nat.sub_self] at hi
  rw [hl, List.getElem?_append_right (Nat.le_refl _), Nat.sub_self] at hy
  simp at hi hy
  subst hi hy
  obtain ⟨k1, k2⟩ := key _ _ hx (hap.imp id fun h k hk => ⟨(h k hk).1, (h k hk).2.2⟩)
  exact ⟨k1, k2, rfl, hap.imp id fun h k hk => (h k hk).2.1⟩
theorem wpList_gatherB {w : World} {ops : Array Oper} {rest : List Oper} {o : Oper} {a : Act} {Q : Exit → Act → World → Prop} (hgd : o.guard = none) (s t : Operand)
  (ho : o.op = .call { callee := .builtin .append, args := #[s, t], argTypes := #[115, 115] }) (hty : o.type = 115) {B : Nat} {v : Value} {xs : List (List UInt8)} {q : Option Addr} {m c : Nat} {x : List UInt8}
  (hs : a.eval s = v) (ht : a.eval t = .slice (some ⟨w.heap.size, 0, none⟩) 1 1) (h : GathB B w v xs) (hx : By w (.slice q m c) x) (hap : x = [] ∨ ∀ k, (Value.slice q m c).ownBlock = some k → v.ownBlock ≠ some k ∧ B ≤ k ∧ k < w.heap.size) (hB : B ≤ w.heap.size) (hn : xs.length ≤ 1000000)
  (hK : ∀ v' w', GathB B w' v' (xs ++ [x]) → Below B w w' → wpList Tryz.prog ops Q rest (a.put o.dst v') w') : wpList Tryz.prog ops Q (o :: rest) a (w.alloc (.cells #[.slice q m c] 40)) := by
 obtain ⟨v', w', hr, h1, h2⟩ := run_gatherB h hx hap hB hn
 exact Lib.wpList_append_run_sl _ hgd s t 115 ho v _ hs ht (by rw [hty]; exact hr) (hK v' w' h1 h2)
theorem refNumber_put {w : World} {v : Value} {l : List UInt8} (hv : By w v l) (hl : l.length ≤ 140737488000000) (n : Int) (hn : n ≤ 9223372036854775807) :
  Calls Tryz.prog 102 #[v, .int .i64 n] w fun e w' => ∃ v', e = .returned v' ∧ Own w.heap.size w' v' (l ++ numB n) ∧ Below w.heap.size w w' := by
 refine (refNumber_any hv hl n n.toNat (Int.toNat_eq_max n).symm (by unfold lim; omega)).mono ?_
 rintro e w' ⟨v', rfl, h1, h2⟩
 exact ⟨v', rfl, Own.of_row h1, h2⟩
theorem recs_take (s : Sn) (k : Nat) (h : s.pieces.length ≤ k) : recL s.head :: (s.pieces.take k).map recL = s.recs := by
 unfold Sn.recs
 rw [List.take_of_length_le h]
theorem pieces_at (s : Sn) (k : Nat) : s.pieces[k]? = if 512 * k < s.da.length then some ((s.da.drop (512 * k)).take 512) else none := piecesL_get _ _ _ (Nat.le_refl _)
theorem pieces_end {s : Sn} {k : Nat} (h : s.da.length ≤ 512 * k) : s.pieces.length ≤ k := by
 have h1 := pieces_at s k
 rw [if_neg (by omega)] at h1
 exact List.getElem?_eq_none_iff.1 h1
set_option maxRecDepth 200000 in
set_option maxHeartbeats 16000000 in
theorem rparts_any {w : World} {v : Value} {s : Sn} (h : SnV w v s) (hc : s.chk = 0) : Calls Tryz.prog 64 #[v] w fun e w' => ∃ p n c, e = .returned (.slice p n c) ∧ GathB w.heap.size w' (.slice p n c) s.recs ∧ Below w.heap.size w w' := by
 obtain ⟨vo, da, rfl, hv, hd, f0, f1⟩ := h
 obtain ⟨p1, n1, c1, rfl⟩ := hv.sl
 obtain ⟨p2, n2, c2, rfl⟩ := hd.sl
 have hok := chk_ok hc
 have hpt := chk_parts hc
 have hhl := head_le hc
 have hn1 := hv.len.1
 have hn2 := hd.len.1
 have hn2m := hd.lenMax
 obtain ⟨X, hX⟩ : ∃ X, w.alloc (.cells #[.int .i64 s.ix, .int .i64 s.tm, .slice p1 n1 c1, .slice p2 n2 c2] 42) = X := ⟨_, rfl⟩
 have hbX : Below w.heap.size w X := by rw [← hX]; exact balloc (Below.refl _ _) _
 have hrX : X.heap[w.heap.size]? = some (.cells #[.int .i64 s.ix, .int .i64 s.tm, .slice p1 n1 c1, .slice p2 n2 c2] 42 (0, 0)) := by rw [← hX]; exact Array.getElem?_push_size
 have x0 : X.cell? ⟨w.heap.size, 0, none⟩ = some (.int .i64 s.ix) := by rw [cell_of_row X _ 0 _ _ (0, 0) hrX]; rfl
 have x1 : X.cell? ⟨w.heap.size, 1, none⟩ = some (.int .i64 s.tm) := by rw [cell_of_row X _ 1 _ _ (0, 0) hrX]; rfl
 have x2 : X.cell? ⟨w.heap.size, 2, none⟩ = some (.slice p1 n1 c1) := by rw [cell_of_row X _ 2 _ _ (0, 0) hrX]; rfl
 have x3 : X.cell? ⟨w.heap.size, 3, none⟩ = some (.slice p2 n2 c2) := by rw [cell_of_row X _ 3 _ _ (0, 0) hrX]; rfl
 have HKX := hide (fun (W : World) (hW : Below X.heap.size X W) => (show W.cell? ⟨w.heap.size, 0, none⟩ = some (.int .i64 s.ix) ∧ W.cell? ⟨w.heap.size, 1, none⟩ = some (.int .i64 s.tm) ∧ W.cell? ⟨w.heap.size, 2, none⟩ = some (.slice p1 n1 c1) ∧ W.cell? ⟨w.heap.size, 3, none⟩ = some (.slice p2 n2 c2) from ⟨(hW.cell (lt_of_cell x0)).trans x0, (hW.cell (lt_of_cell x1)).trans x1, (hW.cell (lt_of_cell x2)).trans x2, (hW.cell (lt_of_cell x3)).trans x3⟩))
 have HBX := hide hbX
 have HNV := hide (hv.below hbX)
 have HBD := hide (hd.below hbX)
 have HN1 := hide hn1
 have HN2 := hide hn2
 have HOK := hide (And.intro hok hhl)
 have HTM := hide (show s.tm ≤ 9223372036854775807 from by omega)
 have HHD : Hid (s.head = (((numB s.ix ++ numB s.tm) ++ numB n1) ++ numsB s.vo) ++ numB n2) := hide (by unfold Sn.head; rw [hn1, hn2])
 have h1l := numB_len s.ix (by omega)
 have h2l := numB_len s.tm (by omega)
 have HLL := hide (And.intro h1l h2l)
 have hfew : n1 ≤ 7 := by omega
 have hsml : n2 ≤ 262144 := by omega
 clear hbX hrX hv hd hn1 hn2 hok hpt hhl f0 f1 h1l h2l hc x0 x1 x2 x3
 go_enter Tryz.func64, Tryz.ntmps64
 go_wp2_with fail
 clear hX
 refine wp_region_held_drew (S := fun W => W.cell? ⟨w.heap.size, 0, none⟩ = some (.int .i64 s.ix) ∧ W.cell? ⟨w.heap.size, 1, none⟩ = some (.int .i64 s.tm) ∧ W.cell? ⟨w.heap.size, 2, none⟩ = some (.slice p1 n1 c1) ∧ W.cell? ⟨w.heap.size, 3, none⟩ = some (.slice p2 n2 c2)) (by kernel_rfl) ?_ (fun hHeld => ?_)
 ·(try dsimp only)
  exact HKX.out _ (below_drewN (Below.refl _ _) 1)
 refine tkL 0 rfl ?_
 refine tkL 1 rfl ?_
 refine tkL 3 rfl ?_
 refine tkL 4 rfl ?_
 refine wpAnyH_ready (rs := [2]) (by kernel_rfl) (by simp) ?_
 refine acL rfl (fun K hK => ?_) ?_
 ·go_simp
  go_at_call 102
  refine (refNumber_put (By.nil _) (by simp) s.ix (by have := HOK.out; omega)).mono ?_
  rintro e wa ⟨va, rfl, hoa, hba⟩
  have HA : Hid (Below X.heap.size X wa) := hide ((below_drewN (Below.refl X.heap.size X) 1).trans hba)
  have HOA := hide hoa
  obtain ⟨pa, na, ca, rfl⟩ := hoa.by_.sl
  clear hoa hba
  first
   | refine hK.out _ _ ?_ (fun hHeld => ?_)
   | (go_wp2_with fail; refine hK.out _ _ ?_ (fun hHeld => ?_))
  ·(try dsimp only)
   exact HKX.out _ HA.out
  clear hK K
  try simp only [Act.put, qA, qB, qC]
  refine wpAnyH_ready (rs := [5]) (by kernel_rfl) (by simp) ?_
  refine acL rfl (fun K hK => ?_) ?_
  ·go_simp
   go_at_call 102
   refine (refNumber_put HOA.out.by_ (by have := HLL.out; simp; omega) s.tm HTM.out).mono ?_
   rintro e wb ⟨vb, rfl, hob, hbb⟩
   have HB : Hid (Below X.heap.size X wb) := hide (HA.out.trans (hbb.mono HA.out.size))
   have HOB := hide hob
   obtain ⟨pb, nb, cb, rfl⟩ := hob.by_.sl
   clear hob hbb
   first
    | refine hK.out _ _ ?_ (fun hHeld => ?_)
    | (go_wp2_with fail; refine hK.out _ _ ?_ (fun hHeld => ?_))
   ·(try dsimp only)
    exact HKX.out _ HB.out
   clear hK K
   try simp only [Act.put, qA, qB, qC]
   refine tkL 6 rfl ?_
   refine wpAnyH_done (by kernel_rfl) ?_ _
   have x2 := (HKX.out wb HB.out).2.2.1
   go_wp2_with fail
   refine (refNumber_put HOB.out.by_ (by have := HLL.out; simp; omega) (n1 : Int) (by omega)).mono ?_
   rintro e w3 ⟨v3, rfl, ho3, hb3⟩
   have HB3 := hide (HB.out.trans (hb3.mono HB.out.size))
   rw [List.nil_append] at ho3
   have HO3 := hide ho3
   obtain ⟨p3, n3, c3, rfl⟩ := ho3.by_.sl
   clear ho3 hb3 x2 HA HOA HOB
   have x2 := (HKX.out w3 HB3.out).2.2.1
   go_wp2_with fail
   clear x2
   go_loopw [3, 5, 26] (fun v _ i wr => ∃ (k : Nat) (p n c : _), v = .slice p n c ∧ k ≤ n1 ∧ i = .int .i64 k ∧ Hid (By wr (.slice p n c) (((numB s.ix ++ numB s.tm) ++ numB n1) ++ numsB (s.vo.take k)) ∧ Below X.heap.size X wr)) (fun _ _ i _ => n1 - (intOf i).toNat)
   case atStart => exact ⟨0, p3, n3, c3, rfl, Nat.zero_le _, rfl, hide ⟨by simpa [numsB] using HO3.out.by_, HB3.out⟩⟩
   case round =>
    obtain ⟨k, p4, n4, c4, rfl, hk, rfl, hrel⟩ := hrel
    have HRY := hide hrel.out.1
    have HRB := hide hrel.out.2
    have HLN : Hid ((((numB s.ix ++ numB s.tm) ++ numB n1) ++ numsB (s.vo.take k)).length ≤ 1000000) := hide (by
     have h1 := HLL.out
     have h2 := numB_len (n1 : Int) (by omega)
     have h3 := numsB_len (s.vo.take k) (fun y hy => HNV.out.fits y (List.mem_of_mem_take hy))
     rw [List.length_take] at h3
     have := HOK.out
     simp only [List.length_append]
     omega)
    clear hrel HO3
    by_cases hlt : (k : Int) < (n1 : Int)
    ·obtain ⟨x, hx⟩ : ∃ x, s.vo[k]? = some x := ⟨_, List.getElem?_eq_getElem (by have := HN1.out; omega)⟩
     obtain ⟨g, o, rfl, hcs⟩ := (HNV.out.below HRB.out).at_ (by omega)
     have hcell := hcs k x hx
     have hxm := hide (HNV.out.fits x (List.mem_of_getElem? hx))
     have HT : Hid (((numB s.ix ++ numB s.tm) ++ numB n1) ++ numsB (s.vo.take (k + 1)) = (((numB s.ix ++ numB s.tm) ++ numB n1) ++ numsB (s.vo.take k)) ++ numB x) := hide (by rw [show s.vo.take (k + 1) = s.vo.take k ++ [x] by rw [List.take_add_one, hx]; rfl, numsB_snoc]; exact (List.append_assoc _ _ _).symm)
     clear hx hcs
     go_wp2_with fail
     refine (refNumber_put HRY.out (Nat.le_trans HLN.out (by omega)) x hxm.out.2).mono ?_
     rintro e w5 ⟨v5, rfl, ho5, hb5⟩
     obtain ⟨p5, n5, c5, rfl⟩ := ho5.by_.sl
     have K1 := hide (by rw [HT.out]; exact ho5.by_ : By w5 (.slice p5 n5 c5) (((numB s.ix ++ numB s.tm) ++ numB n1) ++ numsB (s.vo.take (k + 1))))
     have K2 := hide (HRB.out.trans (hb5.mono HRB.out.size))
     clear ho5 hb5 hcell
     go_wp2_with fail
     go_roundw
     case rel => exact ⟨k + 1, p5, n5, c5, rfl, by omega, by go_num, hide ⟨K1.out, K2.out⟩⟩
     case measure => simp [intOf]; omega
    ·have hkn : s.vo.take k = s.vo := List.take_of_length_le (by have := HN1.out; omega)
     rw [hkn] at HRY HLN
     have x3 := (HKX.out wr HRB.out).2.2.2
     clear hkn
     go_wp2_with fail
     refine (refNumber_put HRY.out (Nat.le_trans HLN.out (by omega)) (n2 : Int) (by omega)).mono ?_
     rintro e w5 ⟨v5, rfl, ho5, hb5⟩
     rw [← HHD.out] at ho5
     have HO5 := hide ho5
     have HB5 := hide (HRB.out.trans (hb5.mono HRB.out.size))
     clear ho5 hb5 x3
     go_wp2_with fail
     refine (refRecord_any HO5.out.by_ (by have := HOK.out.2; omega)).mono ?_
     rintro e w6 ⟨v6, rfl, ho6, hb6⟩
     obtain ⟨p6, n6, c6, rfl⟩ := ho6.by_.sl
     have HB6 := hide (HB5.out.trans (hb6.mono HB5.out.size))
     have hwx : w.heap.size ≤ X.heap.size := HBX.out.size
     have hsz6 : X.heap.size ≤ w6.heap.size := HB6.out.size
     have hg6 : GathB X.heap.size (w6.alloc (.cells #[.slice p6 n6 c6] 40)) (.slice (some ⟨w6.heap.size, 0, none⟩) 1 1) (recL s.head :: (s.pieces.take 0).map recL) := GathB.one ho6.by_ (by
      rcases own_lies ho6 (P := fun k => X.heap.size ≤ k ∧ k < w6.heap.size) (fun k hk => ⟨by have := HB5.out.size; omega, hk.2⟩) with h | h
      ·exact .inl h
      ·exact .inr h) (by omega)
     have HG6 := hide hg6
     have HC6 := hide (HB6.out.alloc HB6.out.size (.cells #[.slice p6 n6 c6] 40))
     clear ho6 hb6 hg6 hsz6 hwx
     obtain ⟨W7, hW7⟩ : ∃ W7, w6.alloc (.cells #[.slice p6 n6 c6] 40) = W7 := ⟨_, rfl⟩
     rw [hW7] at HG6 HC6
     go_wp2_with fail
     clear hW7
     go_loopw [8, 9, 10, 11] (fun u a _ _ wr => ∃ (k : Nat) (p n c : _), u = .slice p n c ∧ a = .int .i64 ((512 * k : Nat) : Int) ∧ Hid ((k = 0 ∨ 512 * k < n2 + 512) ∧ GathB X.heap.size wr (.slice p n c) (recL s.head :: (s.pieces.take k).map recL) ∧ Below X.heap.size X wr)) (fun _ a _ _ _ => 1000000 - (intOf a).toNat)
     case atStart => exact ⟨0, some ⟨w6.heap.size, 0, none⟩, 1, 1, rfl, rfl, hide ⟨.inl rfl, HG6.out, HC6.out⟩⟩
     case round =>
      obtain ⟨k7, p7, n7, c7, rfl, rfl, hrel⟩ := hrel
      have HR7 := hide hrel.out
      obtain ⟨a7, ha7⟩ : ∃ a7, 512 * k7 = a7 := ⟨_, rfl⟩
      rw [ha7]
      have HA7 := hide ha7
      have x3 := (HKX.out wr HR7.out.2.2).2.2.2
      have hal : a7 ≤ 262144 + 512 := by have := HR7.out.1; omega
      clear hrel ha7 HG6 HC6
      by_cases hlt7 : (a7 : Int) < (n2 : Int)
      ·obtain ⟨b7, hb7⟩ : ∃ b7 : Nat, min (a7 + 512) n2 = b7 := ⟨_, rfl⟩
       have hm7 : min ((a7 : Int) + 512) (n2 : Int) = (b7 : Int) := by omega
       have hab : a7 ≤ b7 := by omega
       have hbn : b7 ≤ n2 := by omega
       obtain ⟨q7, hcut, hby⟩ := cut_mid (HBD.out.below HR7.out.2.2) hab hbn
       have hpc : (s.da.take b7).drop a7 = (s.da.drop a7).take 512 := by
        rw [List.drop_take]
        by_cases hs : a7 + 512 ≤ n2
        ·rw [show b7 - a7 = 512 by omega]
        ·rw [List.take_of_length_le (by rw [List.length_drop]; have := HN2.out; omega), List.take_of_length_le (by rw [List.length_drop]; have := HN2.out; omega)]
       have hpk : s.pieces[k7]? = some ((s.da.drop a7).take 512) := by
        rw [pieces_at, HA7.out, if_pos (by have := HN2.out; omega)]
       rw [hpc] at hby
       obtain ⟨m7, hm7'⟩ : ∃ m7, b7 - a7 = m7 := ⟨_, rfl⟩
       obtain ⟨d7, hd7⟩ : ∃ d7, c2 - a7 = d7 := ⟨_, rfl⟩
       simp only [hm7', hd7] at hcut hby
       have HBY := hide hby
       have HPK := hide hpk
       have HRC := hide (refRecord_any hby (by rw [List.length_take]; omega))
       clear hb7 hpc hpk hby hm7' hd7
       go_wp2_with fail
       refine HRC.out.mono ?_
       rintro e w8 ⟨v8, rfl, ho8, hb8⟩
       obtain ⟨p8, n8, c8, rfl⟩ := ho8.by_.sl
       have hg8 := HR7.out.2.1.below hb8
       have HB8 := hide (HR7.out.2.2.trans (hb8.mono HR7.out.2.2.size))
       have HG8 := hide hg8
       have hap := own_lies ho8 (P := fun k => wr.heap.size ≤ k ∧ k < w8.heap.size) fun k hk => hk
       have HBW := hide ho8.by_
       have hwr : X.heap.size ≤ wr.heap.size := HR7.out.2.2.size
       have hw8 : wr.heap.size ≤ w8.heap.size := hb8.size
       obtain ⟨us7, _, hrow7, _⟩ := id HR7.out.2.1
       have HAP : Hid (recL ((s.da.drop a7).take 512) = [] ∨ ∀ k, (Value.slice p8 n8 c8).ownBlock = some k → (Value.slice p7 n7 c7).ownBlock ≠ some k ∧ X.heap.size ≤ k ∧ k < w8.heap.size) := hide (by
        rcases hap with h | h
        ·exact .inl h
        ·refine .inr fun k hk => ⟨fun e => ?_, by have := h k hk; omega, (h k hk).2⟩
         have h1 := (hrow7.lt k e).2
         have h2 := (h k hk).1
         omega)
       have HLN8 : Hid ((recL s.head :: (s.pieces.take k7).map recL).length ≤ 1000000) := hide (by
        simp only [List.length_cons, List.length_map, List.length_take]
        have := HR7.out.1
        omega)
       have hw88 : X.heap.size ≤ w8.heap.size := by omega
       clear ho8 hb8 hg8 hap hrow7 hcut x3 HRC hwr hw8
       go_wp2_with (at_builtin; go_must (refine wpList_gatherB (v := .slice p7 n7 c7) rfl _ _ rfl rfl rfl rfl HG8.out HBW.out HAP.out hw88 HLN8.out ?_); intro v9 w9 hg9 hb9)
       obtain ⟨p9, n9, c9, rfl⟩ := hg9.sl
       have HNX : Hid (GathB X.heap.size w9 (.slice p9 n9 c9) (recL s.head :: (s.pieces.take (k7 + 1)).map recL)) := hide (by
        have e : recL s.head :: (s.pieces.take (k7 + 1)).map recL = (recL s.head :: (s.pieces.take k7).map recL) ++ [recL ((s.da.drop a7).take 512)] := by rw [List.take_add_one, HPK.out]; simp
        rw [e]; exact hg9)
       have HBN := hide (HB8.out.trans hb9)
       clear hg9 hb9 HPK
       refine ⟨⟨k7 + 1, p9, n9, c9, rfl, by rw [show ((512 * (k7 + 1) : Nat) : Int) = (a7 : Int) + 512 by have := HA7.out; omega], hide ⟨.inr (by have := HA7.out; omega), HNX.out, HBN.out⟩⟩, by simp [intOf]; omega⟩
      ·have hge : s.pieces.length ≤ k7 := pieces_end (by have := HN2.out; have := HA7.out; omega)
       have HGE := hide (recs_take s k7 hge)
       clear hge
       go_wp2
       go_ret
       refine ⟨_, _, _, rfl, ?_, HBX.out.trans (HR7.out.2.2.mono HBX.out.size)⟩
       rw [← HGE.out]
       exact HR7.out.2.1.mono HBX.out.size
  exact AllReadyH.nil
 exact AllReadyH.nil
end Go.Proofs.YtgbdjcekpdfpjaaGreatDoor
