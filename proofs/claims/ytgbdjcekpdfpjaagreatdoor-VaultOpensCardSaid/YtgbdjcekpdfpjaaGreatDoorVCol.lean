import Derived.Test.YtgbdjcekpdfpjaaGreatDoorVRecs
import Derived.Test.YtgbdjcekpdfpjaaGreatDoorVa
set_option linter.unusedVariables false
set_option linter.unusedSimpArgs false
namespace Go.Proofs.YtgbdjcekpdfpjaaGreatDoor
open Go.RowKit
attribute [local go_sem] Oper.semAt_some
theorem region_list_in_round {n r : Nat} {P : Program} {id : Nat} {l : List Oper} {Q : Exit → Act → World → Prop} {a : Act} {w : World}
  (hd : noDefer l.toArray = true) (hq : ¬ LetsOut Q) (h : wpList P l.toArray Q l a w) : (Code.region id l.toArray false).wpIn (Fence.wide.inRound r) n P Q a w := by
 refine region_in_round' hd hq ?_
 have e := wpOps_eq_wpList (P := P) (Q := Q) (ops := l.toArray) l 0 (fun j => by simp)
 rw [List.range_eq_range']
 simp only [List.size_toArray]
 rw [e]
 exact h
structure Gat (B : Nat) (M : Nat → Prop) (w : World) (v : Value) (us : List Value) (xs : List (List UInt8)) : Prop where
 len : us.length = xs.length
 row : w.ownsRow B 40 1 v xs.length us
 own : ∀ k, v.ownBlock = some k → M k
 its : ∀ (i : Nat) u x, us[i]? = some u → xs[i]? = some x → By w u x ∧ u.oneCell' = true ∧ ∃ k, u.ownBlock = some k ∧ M k ∧ B ≤ k ∧ k < w.heap.size ∧ v.ownBlock ≠ some k
theorem Gat.chg {B : Nat} {M T : Nat → Prop} {w w' : World} {v : Value} {us : List Value} {xs : List (List UInt8)} (h : Gat B M w v us xs) (hc : Chg w w' T) (hT : ∀ k, M k → B ≤ k → ¬ T k) : Gat B M w' v us xs := by
 refine ⟨h.len, row_chg h.row hc (fun k hk => hT k (h.own k hk) (h.row.lt k hk).1), h.own, fun i u x hu hx => ?_⟩
 obtain ⟨h1, h2, k, h3, h4, h5, h6, h7⟩ := h.its i u x hu hx
 exact ⟨h1.chg hc (.inr fun j hj => by rw [h3] at hj; injection hj with hj; subst hj; exact hT _ h4 h5), h2, k, h3, h4, h5, Nat.lt_of_lt_of_le h6 hc.size, h7⟩
theorem Gat.bss {B : Nat} {M : Nat → Prop} {w : World} {v : Value} {us : List Value} {xs : List (List UInt8)} (h : Gat B M w v us xs) : Bss w v xs :=
 Gath.bss (B := B) ⟨us, h.len, h.row, fun i u x hu hx => by
  obtain ⟨h1, h2, k, h3, h4, h5, h6, h7⟩ := h.its i u x hu hx
  exact ⟨h1, .inr fun j hj => by rw [h3] at hj; injection hj with hj; subst hj; exact ⟨h7, h6⟩, h2⟩⟩
theorem run_gat {B : Nat} {M : Nat → Prop} {w : World} {v : Value} {us : List Value} {xs : List (List UInt8)} (h : Gat B M w v us xs) {q : Option Addr} {m c : Nat} {x : List UInt8} (hx : By w (.slice q m c) x) {k0 : Nat} (hk0 : (Value.slice q m c).ownBlock = some k0) (hk1 : B ≤ k0) (hk2 : k0 < w.heap.size) (hk3 : v.ownBlock ≠ some k0) (hB : B ≤ w.heap.size) (hs : xs.length ≤ 1000000) :
  ∃ v' w', (Builtin.append_ #[115, 115] 115 #[v, .slice (some ⟨w.heap.size, 0, none⟩) 1 1]).run Tryz.prog (w.alloc (.cells #[.slice q m c] 40)) = .ok v' w' ∧
   Gat B (fun k => M k ∨ w.heap.size ≤ k ∨ k = k0) w' v' (us ++ [.slice q m c]) (xs ++ [x]) ∧ Chg w w' (fun k => v.ownBlock = some k) ∧ ∃ p n c, v' = .slice p n c := by
 obtain ⟨i0, hi0, hz0, hz1, hz2⟩ := info_parts Tryz.info40
 have hlt := h.row.lt
 have ho' := h.row.alloc (.cells #[.slice q m c] 40)
 obtain ⟨v', w', hr, h1, h2, _, h4⟩ := run_append_own_at (P := Tryz.prog) (w.alloc (.cells #[.slice q m c] 40)) B 115 115 40 i0 (.slice none 0 0) 1 24 Tryz.underlying115 hi0 hz0 hz1 hz2 rfl (by decide) v xs.length us ho' ⟨w.heap.size, 0, none⟩ 1 1 [.slice q m c] rfl
  (cell_new1 _ _ _) (fun u hu => by simp at hu; subst hu; rfl) (by simp only [maxLen]; omega) (by omega) (by simp; omega)
 have hc1 : Chg w (w.alloc (.cells #[.slice q m c] 40)) (fun k => v.ownBlock = some k) := Chg.of_below (balloc (Below.refl _ _) _) _
 have hc2 : Chg (w.alloc (.cells #[.slice q m c] 40)) w' (fun k => v.ownBlock = some k) := Chg.of_grown h2 _ (fun k hk => .inl hk)
 have hc : Chg w w' (fun k => v.ownBlock = some k) := hc1.trans hc2 (fun k h => .inl h)
 have hv' : ∀ k, v'.ownBlock = some k → v.ownBlock = some k ∨ w.heap.size ≤ k := fun k hk => by
  rcases h4 with e | e
  ·rw [e] at hk; exact .inl hk
  ·rw [e] at hk
   injection hk with hk
   rw [size_alloc'] at hk
   exact .inr (by omega)
 have hne : ∀ k, k < w.heap.size → v.ownBlock ≠ some k → v'.ownBlock ≠ some k := fun k h1 h2 h3 => by
  rcases hv' k h3 with h | h
  ·exact h2 h
  ·omega
 refine ⟨v', w', hr, ⟨by simp [h.len], by simpa using h1, fun k hk => ?_, fun i u y hi hy => ?_⟩, hc, ?_⟩
 ·rcases hv' k hk with h' | h'
  ·exact .inl (h.own k h')
  ·exact .inr (.inl h')
 ·by_cases hil : i < us.length
  ·rw [List.getElem?_append_left hil] at hi
   rw [List.getElem?_append_left (by have := h.len; omega)] at hy
   obtain ⟨g1, g2, k, g3, g4, g5, g6, g7⟩ := h.its i u y hi hy
   exact ⟨g1.chg hc (.inr fun j hj => by rw [g3] at hj; injection hj with hj; subst hj; exact g7), g2, k, g3, .inl g4, g5, Nat.lt_of_lt_of_le g6 hc.size, hne k g6 g7⟩
  ·have hi1 : i = us.length := by
    have := (List.getElem?_eq_some_iff.1 hi).1
    simp at this
    omega
   subst hi1
   rw [List.getElem?_append_right (Nat.le_refl _), Nat.sub_self] at hi
   rw [h.len, List.getElem?_append_right (Nat.le_refl _), Nat.sub_self] at hy
   simp at hi hy
   subst hi hy
   exact ⟨hx.chg hc (.inr fun j hj => by rw [hk0] at hj; injection hj with hj; subst hj; exact hk3), rfl, k0, hk0, .inr (.inr rfl), hk1, Nat.lt_of_lt_of_le hk2 hc.size, hne k0 hk2 hk3⟩
 ·rcases h1.2 with ⟨rfl, _⟩ | ⟨g, cap, cur, rfl, _⟩
  ·exact ⟨_, _, _, rfl⟩
  ·exact ⟨_, _, _, rfl⟩
def colI (s : Sn) (w : World) (B : Nat) (pre : List Value) (M : Nat → Prop) (W : World) : Prop :=
 ∃ p n c us, W.cell? ⟨w.heap.size, 0, none⟩ = some (.slice p n c) ∧ W.frozen? ⟨w.heap.size, 0, none⟩ = false ∧ Gat B M W (.slice p n c) us (s.recs.take pre.length) ∧ pre.length ≤ s.recs.length ∧ M w.heap.size ∧ (∀ k, M k → (k = w.heap.size ∨ B ≤ k) ∧ k < W.heap.size) ∧ Below w.heap.size w W
theorem piecesL_few : ∀ (f : Nat) (l : List UInt8), (piecesL f l).length ≤ f
 | 0, _ => by simp [piecesL]
 | f + 1, l => by
  unfold piecesL
  split
  ·simp
  ·have := piecesL_few f (l.drop 512)
   simp; omega
set_option maxRecDepth 100000 in
set_option maxHeartbeats 4000000 in
theorem appendSeq_any {w : World} {bs b : Nat} {vo da : Value} {s : Sn} (h : Src w.heap.size (fun _ => False) w bs b vo da s) (hvs : s.vo.length ≤ 1000) (hds : s.da.length ≤ 900000) :
  Calls Tryz.prog 135 #[.slice none 0 0, .func (.func 120) #[] #[.pointer (some ⟨bs, 0, none⟩)]] w fun e w' => ∃ v, e = .returned v ∧ Bss w' v s.recs ∧ Below w.heap.size w w' := by
 have hrl : s.recs.length ≤ 1000000 := by
  unfold Sn.recs Sn.pieces
  have := piecesL_few s.da.length s.da
  simp
  omega
 have H := hide h
 have HRL := hide hrl
 clear h hrl
 refine (callsIn_wide (n := 3)).1 (callsIn_of_wp_marks Tryz.func135 rfl trivial ?_)
 simp only [Tryz.ntmps135, List.size_toArray, List.length_cons, List.length_nil, Nat.reduceAdd, Nat.reduceSub, Array.replicate_succ, Array.replicate_zero, List.push_toArray, List.append_toArray, List.nil_append, List.cons_append]
 gi_wp2
 obtain ⟨X, hX⟩ : ∃ X, w.alloc (.cells #[.slice none 0 0] 115) = X := ⟨_, rfl⟩
 have hXs : X.heap.size = w.heap.size + 1 := by rw [← hX]; simp
 have hXc : ∀ S, Chg w X S := fun S => by rw [← hX]; exact Chg.of_alloc _ _ _
 have hXb : Below w.heap.size w X := by rw [← hX]; exact balloc (Below.refl _ _) _
 have hbx : X.cell? ⟨w.heap.size, 0, none⟩ = some (.slice none 0 0) := by rw [← hX]; simp
 have hfx : X.frozen? ⟨w.heap.size, 0, none⟩ = false := by rw [← hX]; simp
 rw [hX]
 clear hX
 refine range_any (gf := 120) (lb := #[.pointer (some ⟨bs, 0, none⟩)]) rfl (enters_of Tryz.func120 (by kernel_rfl) rfl) (encs := fun x : Value => #[x]) (Y := rcY s (X.heap.size + 2)) (Dn := fun pre => pre.length = s.recs.length) (Tk := fun x k => x.ownBlock = some k) (fun _ => rfl) (fun k => k = w.heap.size) (fun k hk => by omega)
  (fun W5 hc5 hs5 => ?hit)
  (fun pre x N N' W o hlp hNN hy => by
   obtain ⟨r, hr⟩ := hlp
   obtain ⟨y, h1, h2, h3⟩ := hy
   exact ⟨y, h1, h2.loop hr o, fun k hk hn => h3 k hk (hNN k hn)⟩)
  (fun pre x N W k hy hk => by
   obtain ⟨y, h1, h2, h3⟩ := hy
   have hy0 : 0 < y.length := by
    unfold Sn.recs at h1
    cases hp : pre.length with
    | zero => rw [hp] at h1; simp at h1; rw [← h1]; simp [recL, front]
    | succ j => rw [hp] at h1; simp at h1; obtain ⟨z, _, h⟩ := h1; rw [← h]; simp [recL, front]
   exact (h2.lt hy0 k hk).1)
  (colI s w X.heap.size) (fun _ _ _ _ => False)
  ⟨?i1, ?i2⟩ (fun c => ⟨fun _ _ _ h => h.elim, fun _ _ _ _ h => h.elim⟩)
  ?h0
  (fun x => { tmps := #[.slice none 0 0, .func (.func 120) #[] #[.pointer (some ⟨bs, 0, none⟩)], .pointer (some ⟨w.heap.size, 0, none⟩), undef, .slice none 0 0, x, .func (.func 120) #[] #[.pointer (some ⟨bs, 0, none⟩)], x, undef, undef, undef, undef, undef], defers := [] })
  ?assign ?body ?done (fun _ _ _ _ h => h.elim)
 case hit =>
  have hsr := (H.out.chg ((hXc (fun _ => False)).then hc5 (fun _ h => .inl h)) (fun _ h => h.elim)).to (n' := W5.heap.size) (M' := fun k => k = w.heap.size ∨ k = X.heap.size + 1) (by omega) (fun k hk => .inr (by omega))
  have := records_gives (l := X.heap.size + 1) hsr hvs (by omega)
  rw [hs5] at this
  exact this
 case i1 =>
  rintro pre N W ⟨p, n, c, us, h1, h2, h3, h4, h5, h6, h7⟩ k hk
  exact h6 k hk
 case i2 =>
  rintro pre N W W' ⟨p, n, c, us, h1, h2, h3, h4, h5, h6, h7⟩ hc
  have hn : ¬ (X.heap.size ≤ w.heap.size ∧ ¬ N w.heap.size) := fun h => by omega
  have hlt := lt_of_cell h1
  have hfz : W'.frozen? ⟨w.heap.size, 0, none⟩ = W.frozen? ⟨w.heap.size, 0, none⟩ := by
   unfold World.frozen?
   rw [hc.block w.heap.size hlt hn]
  exact ⟨p, n, c, us, hc.cell h1 hn, hfz.trans h2, h3.chg hc (fun k hk _ h => h.2 hk), h4, h5, fun k hk => ⟨(h6 k hk).1, Nat.lt_of_lt_of_le (h6 k hk).2 hc.size⟩, Chg.to_below h7 hc (fun k h => by omega)⟩
 case h0 => exact ⟨none, 0, 0, [], hbx, hfx, ⟨rfl, World.ownsRow_nil _ _ _ _, fun k hk => by simp [Value.ownBlock] at hk, fun i u x hu => by simp at hu⟩, by simp, rfl, fun k hk => ⟨.inl hk, by omega⟩, hXb⟩
 case assign =>
  intro x W K hK
  gi_wp2
  exact hK
 case body =>
  rintro pre x N W ⟨p, n, c, us, h1, h2, h3, h4, h5, h6, h7⟩ ⟨y, hy1, hy2, hy3⟩ hsW
  obtain ⟨px, nx, cx, rfl⟩ := hy2.by_.sl
  have hlt := lt_of_cell h1
  have hpl := (List.getElem?_eq_some_iff.1 hy1).1
  have hy0 : 0 < y.length := by
   unfold Sn.recs at hy1
   cases hp : pre.length with
   | zero => rw [hp] at hy1; simp at hy1; rw [← hy1]; simp [recL, front]
   | succ j => rw [hp] at hy1; simp at hy1; obtain ⟨z, _, h⟩ := hy1; rw [← h]; simp [recL, front]
  obtain ⟨k0, hk0⟩ : ∃ k0, (Value.slice px nx cx).ownBlock = some k0 := by
   rcases hy2 with ⟨e, rfl⟩ | ⟨g, cap, e, _⟩
   ·simp at hy0
   ·rw [e]; exact ⟨g, rfl⟩
  have hkl := hy2.lt hy0 k0 hk0
  obtain ⟨v', w', hr, hG, hC, pv, nv, cv, rfl⟩ := run_gat h3 hy2.by_ hk0 (by omega) hkl.2 (fun e => hy3 k0 hk0 (h3.own _ e)) (by omega) (by rw [List.length_take]; have := HRL.out; omega)
  have hnb : (Value.slice p n c).ownBlock ≠ some w.heap.size := fun e => by
   have := (h3.row.lt _ e).1
   omega
  have hc1 : w'.cell? ⟨w.heap.size, 0, none⟩ = some (.slice p n c) := hC.cell h1 hnb
  have hf1 : w'.frozen? ⟨w.heap.size, 0, none⟩ = false := by
   have : w'.frozen? ⟨w.heap.size, 0, none⟩ = W.frozen? ⟨w.heap.size, 0, none⟩ := by unfold World.frozen?; rw [hC.block w.heap.size hlt hnb]
   rw [this]; exact h2
  have HR := hide hr
  have HFIN : Hid (Went (colI s w X.heap.size) (fun k => (Value.slice px nx cx).ownBlock = some k) (pre ++ [.slice px nx cx]) N W (w'.setCell ⟨w.heap.size, 0, none⟩ (.slice pv nv cv))) := hide (by
   have hcs : Chg w' (w'.setCell ⟨w.heap.size, 0, none⟩ (.slice pv nv cv)) (fun k => k = w.heap.size) := Chg.of_grown (grown_set _ _ _ _) _ fun k hk => .inl (by injection hk with hk; exact hk.symm)
   have hsz := hC.size
   refine ⟨fun k => N k ∨ (W.heap.size ≤ k ∧ k < w'.heap.size) ∨ k = k0, ⟨pv, nv, cv, us ++ [.slice px nx cx], World.cell?_setCell_same' _ _ _ (by rw [hc1]; rfl), (by rw [World.frozen?_setCell]; exact hf1), ?_, by simp; omega, .inl h5, fun k hk => ?_, ?_⟩, ?_, fun k hk => ?_⟩
   ·have hG2 : Gat X.heap.size (fun k => (N k ∨ (W.heap.size ≤ k ∧ k < w'.heap.size) ∨ k = k0)) w' (.slice pv nv cv) (us ++ [.slice px nx cx]) (s.recs.take (pre ++ [Value.slice px nx cx]).length) := by
     have e : s.recs.take (pre ++ [Value.slice px nx cx]).length = s.recs.take pre.length ++ [y] := by
      rw [List.length_append, List.length_singleton, List.take_add_one, hy1]; rfl
     rw [e]
     refine ⟨hG.len, hG.row, fun k hk => ?_, fun i u x hu hx => ?_⟩
     ·have hkl := (hG.row.lt k hk).2
      rcases hG.own k hk with h | h | h
      ·exact .inl h
      ·exact .inr (.inl ⟨h, hkl⟩)
      ·exact .inr (.inr h)
     ·obtain ⟨g1, g2, k, g3, g4, g5, g6, g7⟩ := hG.its i u x hu hx
      refine ⟨g1, g2, k, g3, ?_, g5, g6, g7⟩
      rcases g4 with h | h | h
      ·exact .inl h
      ·exact .inr (.inl ⟨h, g6⟩)
      ·exact .inr (.inr h)
    exact hG2.chg hcs (fun k hk hB e => by omega)
   ·have hs' : (w'.setCell ⟨w.heap.size, 0, none⟩ (.slice pv nv cv)).heap.size = w'.heap.size := by simp
    rw [hs']
    rcases hk with h | h | h
    ·exact ⟨(h6 k h).1, Nat.lt_of_lt_of_le (h6 k h).2 hsz⟩
    ·exact ⟨.inr (by omega), h.2⟩
    ·subst h; exact ⟨.inr (by omega), by omega⟩
   ·exact Chg.to_below (Chg.to_below h7 hC (fun k e => by have := (h3.row.lt k e).1; omega)) hcs (fun k e => by omega)
   ·exact (hC.mono' fun k e => h3.own k e).then (hcs.mono' fun k e => by subst e; exact h5) (fun k h => .inl h)
   ·rcases hk with h | h | h
    ·exact .inl h
    ·exact .inr (.inl h.1)
    ·subst h; exact .inr (.inr hk0))
  clear hr hG hC h3 h6 h7 hy1 hy2 hy3 hkl hnb hXs hk0
  refine wpIn_block ?_
  refine region_list_in_round (by kernel_rfl) (fun ⟨_, _, h⟩ => h) ?_
  go_wp2_with (at_builtin; go_must (refine Lib.wpList_append_run_sl _ rfl _ _ 115 rfl (.slice p n c) _ rfl rfl HR.out ?_))
  exact HFIN.out
 case done =>
  rintro pre N W hD ⟨p, n, c, us, h1, h2, h3, h4, h5, h6, h7⟩ hnD hsW hDef
  have hDc : Chg W (W.putObj X.heap.size (.deferred none)) (fun k => k = X.heap.size) := Chg.putObj _
  have HG := hide (h3.chg hDc (fun k hk _ e => by subst e; exact hnD hk)).bss
  have HB := hide (Chg.to_below h7 hDc (fun k e => by omega))
  have HD := hide hD
  clear h3 h7 hDc h6
  gi_wp2
  refine ⟨by simp, .inl ⟨_, _, rfl, run_takeDeferred hDef, ?_⟩⟩
  refine ⟨_, results_tmp rfl _ _ _, _, rfl, ?_, HB.out⟩
  have := HG.out
  rw [HD.out, List.take_length] at this
  exact this
end Go.Proofs.YtgbdjcekpdfpjaaGreatDoor
