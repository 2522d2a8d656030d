/- Several texts made one. -/
import Derived.Test.YtgbdjcekpdfpjaaGreatDoorDWrite
import Derived.Test.YtgbdjcekpdfpjaaGreatDoorDa
import Derived.Sort.KeysCollected
import Derived.Sort.OwnSorted
set_option linter.unusedVariables false
set_option linter.unusedSimpArgs false
namespace Go.Proofs.YtgbdjcekpdfpjaaGreatDoor
set_option maxRecDepth 200000
set_option maxHeartbeats 4000000
open Go.RowKit
def Dk.trim (st : Dk) (k : List UInt8) (n : Int) : Nat × Dk :=
 if rdy st.down k ≠ 0 then (rdy st.down k, st) else
 match get st.seen k with
 | none => (21, st)
 | some o => if n < 0 ∨ (o.length : Int) < n then (1, st) else st.perf (.trim k n.toNat)
def Dk.move (st : Dk) (k t : List UInt8) : Nat × Dk :=
 if rdy st.down k ≠ 0 then (rdy st.down k, st) else
 match get st.seen k with
 | none => (21, st)
 | some _ => if okN t = false then (20, st) else st.perf (.move k t)
def Dk.drop (st : Dk) (k : List UInt8) : Nat × Dk :=
 if rdy st.down k ≠ 0 then (rdy st.down k, st) else
 match get st.seen k with
 | none => (21, st)
 | some _ => st.perf (.drop k)
theorem rdy_down {d : Bool} {k : List UInt8} (h : rdy d k = 0) : d = false := by
 unfold rdy at h
 by_cases hd : d = true
 ·rw [hd] at h; simp at h
 ·simpa using hd
theorem drop_call {w : World} {S C : Nat → Prop} {g : Nat} {st : Dk} (h : DiskIs w S C g st) {s : ByteArray} (hs : s.size ≤ maxLen) (hmany : st.acts.length < 1000000)
  (hk : st.keep ≤ 9223372036854775807) (hk' : -9223372036854775808 ≤ st.keep) (ht : st.tear ≤ 9223372036854775807) (ht' : -9223372036854775808 ≤ st.tear) :
  Calls Tryz.prog 62 #[.pointer (some ⟨g, 0, none⟩), .string s] w fun e w' => e = .returned (.int .i64 ((st.drop s.data.toList).1 : Nat)) ∧ DPost w S C g (st.drop s.data.toList).2 w' := by
 obtain ⟨W, hW⟩ : ∃ W, W = w.alloc (.cells #[.string s] 9) := ⟨_, rfl⟩
 have hcW : Chg w W (fun _ => False) := by rw [hW]; exact Chg.of_below (balloc (Below.refl _ _) _) _
 have hsW : W.heap.size = w.heap.size + 1 := by rw [hW, size_alloc']
 have hD := h.chg hcW (fun _ _ h => h) (fun _ _ h => h)
 obtain ⟨A, L, bs, bl, a, xs, Vs, Vl, Ds, Dl, hh, hA, hL, hacts, sA, sL, sa⟩ := hD.parts
 have c2 := hh.c2
 have c3 := hh.c3
 have c4 := hh.c4
 have cs : W.cell? ⟨w.heap.size, 0, none⟩ = some (.string s) := by rw [hW]; simp
 have hrdy := ready_any c2 c3 s
 have HRDY := hide hrdy
 have HSAME := hide (fun V (hc : Chg W V (fun _ => False)) => DPost.same h (hcW.trans hc fun _ h => .inl h))
 clear hrdy c3
 by_cases hr : rdy st.down s.data.toList = 0
 ·have hdn := rdy_down hr
  rcases hg : get st.seen s.data.toList with _ | o
  ·have hlook := fun q => ((hA.look hs).2 hg q).1
   have e1 : st.drop s.data.toList = (21, st) := by
    unfold Dk.drop
    rw [if_neg (by omega), hg]
   have E1 := hide e1
   clear e1
   go_enter Tryz.func62, Tryz.ntmps62
   go_wp2_with fail
   rw [← hW]
   refine HRDY.out.mono ?_
   rintro e W1 ⟨rfl, rfl⟩
   rw [hr]
   clear hW c2
   go_wp2_with fail
   go_quiet (fail)
   go_wp2
   go_ret
   rw [E1.out]
   exact ⟨rfl, HSAME.out _ (by first | exact (Chg.refl _ _).drewN _ | exact ((Chg.refl _ _).drewN _).drewN _)⟩
  ·have hlook := fun q => ((hA.look hs).1 o hg q).1
   have hrow := (hA.vals _ _ hg).2
   obtain ⟨q0, n0, c0, hv⟩ : ∃ q n c, Vs s.data.toList = .slice q n c := (by_row hrow).sl
   rw [hv] at hlook
   have e1 : st.drop s.data.toList = st.perf (.drop s.data.toList) := by
    unfold Dk.drop
    rw [if_neg (by omega), hg]
   have E1 := hide e1
   clear e1 hrow
   go_enter Tryz.func62, Tryz.ntmps62
   go_wp2_with fail
   rw [← hW]
   refine HRDY.out.mono ?_
   rintro e W1 ⟨rfl, rfl⟩
   rw [hr]
   have HW := hide hW
   clear hW c2
   go_wp2_with fail
   go_quiet (fail)
   go_wp2_with fail
   generalize hX : World.drewN _ _ = X
   have hcX : Chg W X (fun _ => False) := hX ▸ (by first | exact (Chg.refl W _).drewN _ | exact ((Chg.refl W _).drewN _).drewN _)
   have csX := hcX.cell cs (fun h => h)
   have hsX : X.heap.size = w.heap.size + 1 := by rw [← hX]; exact hsW
   obtain ⟨C2, hD2, hd2, hback⟩ := h.boxed (hcW.trans hcX fun _ h => .inl h) (f := 99) (cs := #[.pointer (some ⟨w.heap.size, 0, none⟩)]) (.drop csX hs ⟨Nat.le_refl _, by omega⟩)
   have hper := perform_any hD2 hd2 trivial (by
    show (del st.seen _).length ≤ 4096
    have h1 := length_del (F := st.seen) (runs_rises h.ok.rises st.acts) s.data.toList
    have h2 := seen_few h.ok
    omega) (by show st.used + 0 ≤ st.room; have := h.ok.room; omega) hdn hmany hk hk' ht ht'
   refine hper.mono ?_
   rintro e w4 ⟨rfl, hp⟩
   have HP := hide (hback _ _ hp)
   clear hper hp hD2 hd2 hback
   go_wp2
   go_ret
   rw [E1.out]
   exact ⟨rfl, HP.out⟩
 ·go_enter Tryz.func62, Tryz.ntmps62
  go_wp2_with fail
  rw [← hW]
  have e1 : st.drop s.data.toList = (rdy st.down s.data.toList, st) := by unfold Dk.drop; rw [if_pos hr]
  have E1 := hide e1
  have g0 : (((rdy st.down s.data.toList : Nat) : Int) != 0) = true := ine_true (by omega)
  refine HRDY.out.mono ?_
  rintro e W1 ⟨rfl, rfl⟩
  clear hW c2 e1
  go_wp2
  go_ret
  rw [E1.out]
  exact ⟨rfl, HSAME.out _ (Chg.refl _ _)⟩
theorem move_call {w : World} {S C : Nat → Prop} {g : Nat} {st : Dk} (h : DiskIs w S C g st) {s t : ByteArray} (hs : s.size ≤ maxLen) (ht2 : t.size ≤ maxLen) (hmany : st.acts.length < 1000000)
  (hk : st.keep ≤ 9223372036854775807) (hk' : -9223372036854775808 ≤ st.keep) (ht : st.tear ≤ 9223372036854775807) (ht' : -9223372036854775808 ≤ st.tear) :
  Calls Tryz.prog 98 #[.pointer (some ⟨g, 0, none⟩), .string s, .string t] w fun e w' => e = .returned (.int .i64 ((st.move s.data.toList t.data.toList).1 : Nat)) ∧ DPost w S C g (st.move s.data.toList t.data.toList).2 w' := by
 obtain ⟨W, hW⟩ : ∃ W, W = (w.alloc (.cells #[.string s] 9)).alloc (.cells #[.string t] 9) := ⟨_, rfl⟩
 have hcW : Chg w W (fun _ => False) := by rw [hW]; exact Chg.of_below (balloc (balloc (Below.refl _ _) _) _) _
 have hsW : W.heap.size = w.heap.size + 2 := by rw [hW, size_alloc', size_alloc']
 have hD := h.chg hcW (fun _ _ h => h) (fun _ _ h => h)
 obtain ⟨A, L, bs, bl, a, xs, Vs, Vl, Ds, Dl, hh, hA, hL, hacts, sA, sL, sa⟩ := hD.parts
 have c2 := hh.c2
 have c3 := hh.c3
 have c4 := hh.c4
 have cs : W.cell? ⟨w.heap.size, 0, none⟩ = some (.string s) := by rw [hW]; simp
 have ca : W.cell? ⟨w.heap.size + 1, 0, none⟩ = some (.string t) := by rw [hW]; simp
 have hrdy := ready_any c2 c3 s
 have HRDY := hide hrdy
 have HSAME := hide (fun V (hc : Chg W V (fun _ => False)) => DPost.same h (hcW.trans hc fun _ h => .inl h))
 clear hrdy c3
 by_cases hr : rdy st.down s.data.toList = 0
 ·have hdn := rdy_down hr
  rcases hg : get st.seen s.data.toList with _ | o
  ·have hlook := fun q => ((hA.look hs).2 hg q).1
   have e1 : st.move s.data.toList t.data.toList = (21, st) := by
    unfold Dk.move
    rw [if_neg (by omega), hg]
   have E1 := hide e1
   clear e1
   go_enter Tryz.func98, Tryz.ntmps98
   go_wp2_with fail
   rw [← hW]
   refine HRDY.out.mono ?_
   rintro e W1 ⟨rfl, rfl⟩
   rw [hr]
   clear hW c2
   go_wp2_with fail
   go_quiet (fail)
   go_wp2
   go_ret
   rw [E1.out]
   exact ⟨rfl, HSAME.out _ (by first | exact (Chg.refl _ _).drewN _ | exact ((Chg.refl _ _).drewN _).drewN _)⟩
  ·have hlook := fun q => ((hA.look hs).1 o hg q).1
   have hrow := (hA.vals _ _ hg).2
   obtain ⟨q0, n0, c0, hv⟩ : ∃ q n c, Vs s.data.toList = .slice q n c := (by_row hrow).sl
   rw [hv] at hlook
   rcases hnm : okN t.data.toList with _ | _
   ·have e1 : st.move s.data.toList t.data.toList = (20, st) := by
     unfold Dk.move
     rw [if_neg (by omega), hg]
     simp only
     rw [if_pos hnm]
    have E1 := hide e1
    clear e1 hrow
    go_enter Tryz.func98, Tryz.ntmps98
    go_wp2_with fail
    rw [← hW]
    refine HRDY.out.mono ?_
    rintro e W1 ⟨rfl, rfl⟩
    rw [hr]
    clear hW c2
    go_wp2_with fail
    go_quiet (fail)
    go_wp2_with fail
    generalize hX : World.drewN _ _ = X
    refine (named_any t X).mono ?_
    rintro e X1 ⟨rfl, rfl⟩
    rw [hnm]
    go_wp2
    go_ret
    rw [E1.out]
    exact ⟨rfl, HSAME.out _ (hX ▸ (by first | exact (Chg.refl _ _).drewN _ | exact ((Chg.refl _ _).drewN _).drewN _))⟩
   have e1 : st.move s.data.toList t.data.toList = st.perf (.move s.data.toList t.data.toList) := by
    unfold Dk.move
    rw [if_neg (by omega), hg]
    simp only
    rw [if_neg (by rw [hnm]; decide)]
   have E1 := hide e1
   clear e1 hrow
   go_enter Tryz.func98, Tryz.ntmps98
   go_wp2_with fail
   rw [← hW]
   refine HRDY.out.mono ?_
   rintro e W1 ⟨rfl, rfl⟩
   rw [hr]
   have HW := hide hW
   clear hW c2
   go_wp2_with fail
   go_quiet (fail)
   go_wp2_with fail
   generalize hX : World.drewN _ _ = X
   refine (named_any t X).mono ?_
   rintro e X1 ⟨rfl, rfl⟩
   rw [hnm]
   have hcX : Chg W X (fun _ => False) := hX ▸ (by first | exact (Chg.refl W _).drewN _ | exact ((Chg.refl W _).drewN _).drewN _)
   have csX := hcX.cell cs (fun h => h)
   have caX := hcX.cell ca (fun h => h)
   go_wp2_with fail
   have hsX : X.heap.size = w.heap.size + 2 := by rw [← hX]; exact hsW
   obtain ⟨C2, hD2, hd2, hback⟩ := h.boxed (hcW.trans hcX fun _ h => .inl h) (f := 124) (cs := #[.pointer (some ⟨w.heap.size, 0, none⟩), .pointer (some ⟨w.heap.size + 1, 0, none⟩)]) (.move csX caX hs ht2 ⟨Nat.le_refl _, by omega⟩ ⟨by omega, by omega⟩)
   have hper := perform_any hD2 hd2 ⟨o, hg⟩ (by
    show (put (del st.seen s.data.toList) _ _).length ≤ 4096
    have hre : Rises st.seen := runs_rises h.ok.rises st.acts
    rw [length_put (hre.del _)]
    have h1 := length_del hre s.data.toList
    rw [hg] at h1
    have h2 := seen_few h.ok
    simp at h1
    split
    all_goals omega
    ) (by show st.used + 0 ≤ st.room; have := h.ok.room; omega) hdn hmany hk hk' ht ht'
   refine hper.mono ?_
   rintro e w4 ⟨rfl, hp⟩
   have HP := hide (hback _ _ hp)
   clear hper hp hD2 hd2 hback
   go_wp2
   go_ret
   rw [E1.out]
   exact ⟨rfl, HP.out⟩
 ·go_enter Tryz.func98, Tryz.ntmps98
  go_wp2_with fail
  rw [← hW]
  have e1 : st.move s.data.toList t.data.toList = (rdy st.down s.data.toList, st) := by unfold Dk.move; rw [if_pos hr]
  have E1 := hide e1
  have g0 : (((rdy st.down s.data.toList : Nat) : Int) != 0) = true := ine_true (by omega)
  refine HRDY.out.mono ?_
  rintro e W1 ⟨rfl, rfl⟩
  clear hW c2 e1
  go_wp2
  go_ret
  rw [E1.out]
  exact ⟨rfl, HSAME.out _ (Chg.refl _ _)⟩
end Go.Proofs.YtgbdjcekpdfpjaaGreatDoor
namespace Go.Proofs.YtgbdjcekpdfpjaaGreatDoor
open Go.RowKit Go.Maps Go.Sort
theorem Tryz.info9 : (Tryz.prog.info? 9).map (fun i => (i.zero, i.size, i.bytes)) = some (some (.string ⟨#[]⟩), 1, 16) := by kernel_rfl
theorem names_sorted {F : Fl} (hF : Rises F) {D : DataW Value} {left : Lit → Bool} {ss : List (List UInt8)} (hk : ∀ k, Maps.has D (.string k) = (get F k).isSome) (hC : Collected D left ss) (hl : ∀ k, left k = false) :
  ss.mergeSort (fun x y => decide (x ≤ y)) = F.map (·.1) := by
 have hs : (F.map (·.1)).Pairwise (fun x y => x < y) := List.pairwise_map.2 hF
 have hnd : (F.map (·.1)).Nodup := List.Pairwise.imp (fun {x y} (h : x < y) (e : x = y) => nm_irrefl y (by rw [e] at h; exact h)) hs
 have hp : ss.Perm (F.map (·.1)) := by
  refine (List.perm_ext_iff_of_nodup hC.1 hnd).2 fun x => ?_
  rw [hC.2 x, hk, hl]
  simp only [and_true]
  constructor
  ·intro h
   obtain ⟨bs, hbs⟩ := Option.isSome_iff_exists.1 h
   exact List.mem_map.2 ⟨_, get_mem hbs, rfl⟩
  ·intro h
   obtain ⟨p, hp, rfl⟩ := List.mem_map.1 h
   rw [get_of_mem hF (show (p.1, p.2) ∈ F from hp)]
   rfl
 have e := mergeSort_of_perm hp
 unfold leB at e
 rw [e]
 refine List.mergeSort_of_pairwise (List.Pairwise.imp (fun {x y} (h : x < y) => ?_) hs)
 have hle : x ≤ y := fun h' => nm_irrefl _ (nm_trans h h')
 exact decide_eq_true hle
set_option maxRecDepth 200000 in
set_option maxHeartbeats 1000000 in
theorem names_any {w : World} {S : Nat → Prop} {b : Nat} {F : Fl} {V : List UInt8 → Value} {D : DataW Value} (h : FilesIs w S b F V D) (hS : ∀ i, S i → i < w.heap.size) (hn : F.length ≤ 1000000) :
  Calls Tryz.prog 105 #[.map (some b)] w fun e w' => ∃ v, e = .returned v ∧ v ≠ .slice none 0 0 ∧ w'.ownsRow w.heap.size 9 1 v F.length ((F.map (·.1)).map encStr) ∧ Below w.heap.size w w' := by
 obtain ⟨i0, hi, hz0, hz1, hz2⟩ := info_parts Tryz.info9
 have hbl := hS b h.in_
 have hown := h.map
 have hlen0 := h.map.len Tryz.underlying91 3
 have hsz := h.size
 have H := hide h
 rw [hsz] at hlen0
 have HSZ := hide hsz
 clear h hS hsz
 go_enter Tryz.func105, Tryz.ntmps105
 go_wp2_with (first
  | (at_make; refine wpList_make_own _ rfl _ _ 103 rfl w.heap.size 9 i0 (.string ⟨#[]⟩) 1 Tryz.underlying103 hi hz0 hz1 _ _ _ F.length rfl rfl rfl (by rw [hz2]; omega) (by unfold maxLen; omega) (Nat.le_refl _) ?_; intro w1 hrow1 hg1)
  | (at_range; refine wpList_range_own _ rfl _ 91 rfl 9 40 strK Tryz.underlying91 _ b F.length D rfl (hown.kept hg1 (by simp)) ?_; intro w0 hrg0 hg0 hs0)
  | go_in)
 go_frame
 go_loopw [3] (fun v wr => ∃ (left : Lit → Bool) (cnt : Nat) (ss : List (List UInt8)), wr.ranges Tryz.prog 9 held b w1.heap.size F.length D left cnt ∧ ss.length + cnt ≤ F.length ∧
   wr.ownsRow w.heap.size 9 1 v ss.length (ss.map encStr) ∧ v ≠ .slice none 0 0 ∧ Collected D left ss ∧ Below w.heap.size w wr)
  (fun _ wr => wr.rangeLeft b w1.heap.size)
 case atStart =>
  exact ⟨_, _, [], hrg0, by simp [HSZ.out], hrow1.kept hg0 (Or.inr (by simp [Value.ownBlock])), by simp, Collected.start D,
   ((Below.refl _ _).grown hg1 (Nat.le_refl _) (fun j hj => by cases hj)).grown hg0 hg1.size (fun j hj => by cases hj)⟩
 case round =>
  obtain ⟨left, cnt, ss, hrg, hcs, hrow, hnn, hC, hnx⟩ := hrel
  go_wp2_with (first
   | (at_next; refine wpList_next_ranges _ rfl _ rfl 9 strK held encStr (fun c : Option Addr × Nat × Nat => .slice c.1 c.2.1 c.2.2) (fun key kl hk => by obtain ⟨x, hx, _⟩ := Maps.keyOf_str Tryz.underlying9 hk; exact ⟨x, hx⟩) (fun v y h => (held_slice h).1) b w1.heap.size F.length D left cnt rfl hrg ?_ ?_)
   | go_in)
  ·intro hc0 hl0
   rcases hrow.2 with ⟨hnil, _⟩ | ⟨g, cap, cur, rfl, hbase, hb, h1, h2, h3, h4⟩
   ·exact absurd hnil hnn
   have hH : Holds encStr wr g 0 ss.toArray := holds_of_block hb (by simpa using h4)
   have hgl : g < wr.heap.size := (Array.getElem?_eq_some_iff.1 hb).1
   have hsrt := names_sorted H.out.rises H.out.keys hC hl0
   have hc := Tryz.slices_Sort_string g 0 cap ss wr hH hgl (by omega)
   rw [hsrt] at hc
   have hle : (F.map (·.1)).length = ss.length := by rw [← hsrt, List.length_mergeSort]
   have HB := hide hb
   have HC := hide hc
   have HLE := hide hle
   have H3 := hide (And.intro h1 (And.intro h2 h3))
   have HNX := hide hnx
   clear hrow hrg hH hsrt hc hle hb h4 hC hcs h1 h2 h3 hnx
   go_wp2_with fail
   refine HC.out.mono ?_
   rintro e w' ⟨rfl, nn, os, rfl⟩
   have hfin := ownsRow_sorted (n := nn) (os := os) HLE.out hbase HB.out H3.out.1 H3.out.2.1 H3.out.2.2
   have HFIN := hide hfin
   have HNY := hide (HNX.out.grown (grownBy_sorted (n := nn) (os := os) (g := g) (F.map (·.1)).toArray) HNX.out.size (fun j hj => by cases hj; exact hbase))
   clear hfin
   go_wp2
   go_ret
   have hl2 : F.length = ss.length := by rw [← HLE.out, List.length_map]
   exact ⟨_, rfl, by simp, by rw [hl2]; exact HFIN.out, HNY.out⟩
  ·intro x c1 c2 c3 kl yd yp w2 cnt2 hkey hlk hv hat hrg2 hlt hg2 hs2 hen
   obtain ⟨x', ex, rfl, _⟩ := Maps.keyOf_str Tryz.underlying9 hkey
   obtain rfl : x = x' := encStr_inj ex
   have hrow2 := hrow.kept hg2 (Or.inr (row_ne_iter hrow hrg).symm)
   clear hs2
   go_wp2_with (first
    | (at_builtin; refine wpList_append_own _ rfl _ _ 103 rfl w.heap.size 9 i0 (.string ⟨#[]⟩) 1 16 Tryz.underlying103 hi hz0 hz1 hz2 rfl (by decide) _ _ _ rfl (hrow2.alloc _) ⟨w2.heap.size, 0, none⟩ 1 1 [encStr x] rfl rfl (cell_one_new _ _ _) (by simp [Value.oneCell', encStr]) (by unfold maxLen at *; omega) (by omega) (by have := hnx.size; have := hg2.size; simp; omega) ?_; intro v' w3 hown' hg3 hnil3; go_frame)
    | go_in)
   have hrg3 := (hrg2.alloc _).kept hg3 (row_ne_low hrow2 hbl) (row_ne_iter hrow2 hrg2)
   go_roundw
   case rel =>
    refine ⟨_, cnt2, ss ++ [x], hrg3, by simp; omega, by simpa using hown', fun hv' => by have := (hnil3.1 hv').2; omega, hC.step hlk hat, ?_⟩
    exact ((hnx.grown hg2 hnx.size (fun j hj => by cases hj; exact hg1.size)).alloc (by have := hnx.size; have := hg2.size; omega) _).grown hg3 (by have := hnx.size; have := hg2.size; simp; omega) (fun j hj => (hrow2.lt j hj).1)
   case measure => rw [hrg3.left_eq, hrg.left_eq]; exact hlt
end Go.Proofs.YtgbdjcekpdfpjaaGreatDoor
namespace Go.Proofs.YtgbdjcekpdfpjaaGreatDoor
set_option maxRecDepth 200000
set_option maxHeartbeats 4000000
open Go.RowKit
def Dk.start (st : Dk) : Dk := { st with down := false }
def Dk.crash (st : Dk) (keep tear : Int) : Nat × Dk := if st.down then (22, st) else (0, st.fall keep tear)
def Dk.sync (st : Dk) : Nat × Dk := if st.down then (22, st) else if st.fn = 1 then (22, st.fall st.keep st.tear) else (0, { st with fn := st.fn - 1, last := st.seen, acts := [] })
def Dk.readE (st : Dk) (k : List UInt8) : Nat := if rdy st.down k ≠ 0 then rdy st.down k else if (get st.seen k).isSome then 0 else 21
def Dk.readB (st : Dk) (k : List UInt8) : List UInt8 := if rdy st.down k ≠ 0 then [] else (get st.seen k).getD []
def Dk.names (st : Dk) : List (List UInt8) := if st.down then [] else st.seen.map (·.1)
theorem start_call {w : World} {S C : Nat → Prop} {g : Nat} {st : Dk} (h : DiskIs w S C g st) :
  Calls Tryz.prog 25 #[.pointer (some ⟨g, 0, none⟩)] w fun e w' => e = .returned (.int .i64 (0 : Nat)) ∧ DPost w S C g st.start w' := by
 obtain ⟨A, L, bs, bl, a, xs, Vs, Vl, Ds, Dl, hh, hA, hL, hacts, sA, sL, sa⟩ := h.parts
 have c3 := hh.c3
 have c2 := hh.c2
 have f2 := hh.fr 2
 have hset : Hd (w.setCell ⟨g, 2, none⟩ (.bool false)) g st.room st.used false (.map (some bl)) (.map (some bs)) a st.fn st.keep st.tear := Hd.set hh 2 (.bool false)
 have hc := chg_set w g 2 (.bool false)
 have hpost : DPost w S C g st.start (w.setCell ⟨g, 2, none⟩ (.bool false)) := by
  have hsz := hc.size
  refine ⟨S, C, ⟨⟨h.ok.rises, h.ok.fits, h.ok.few, h.ok.room, h.ok.most, fun h1 => by simp [Dk.start] at h1, h.ok.many, h.ok.fuse⟩, fun i hi => Nat.lt_of_lt_of_le (h.cap i hi) hsz, fun i hi => Nat.lt_of_lt_of_le (h.sap i hi) hsz, h.sep, h.in_, A, L, bs, bl, a, xs, Vs, Vl, Ds, Dl, hset,
   hA.chg hc fun i hi e => (sA i hi).2.2.1 e, hL.chg hc fun i hi e => (sL i hi).2.1 e, hacts.chg hc (fun i hi e => h.sep g h.in_ (e ▸ hi)) fun i hi e => (sa i hi).2 e, sA, sL, sa⟩, hc.mono fun i hi => hi ▸ h.in_, fun _ hi => .inl hi, fun _ hi => .inl hi⟩
 have HP := hide hpost
 clear hpost hset hc hh hA hL hacts sA sL sa h
 go_enter Tryz.func25, Tryz.ntmps25
 go_wp2_with fail
 refine (made_any c3).mono ?_
 rintro e w1 ⟨rfl, rfl⟩
 go_wp2
 go_ret
 exact ⟨rfl, HP.out⟩
theorem crash_call {w : World} {S C : Nat → Prop} {g : Nat} {st : Dk} (h : DiskIs w S C g st) {keep tear : Int} (hk : keep ≤ 9223372036854775807) (hk' : -9223372036854775808 ≤ keep) (ht : tear ≤ 9223372036854775807) (ht' : -9223372036854775808 ≤ tear) :
  Calls Tryz.prog 17 #[.pointer (some ⟨g, 0, none⟩), .int .i64 keep, .int .i64 tear] w fun e w' => e = .returned (.int .i64 ((st.crash keep tear).1 : Nat)) ∧ DPost w S C g (st.crash keep tear).2 w' := by
 obtain ⟨A, L, bs, bl, a, xs, Vs, Vl, Ds, Dl, hh, _⟩ := h.parts
 have c3 := hh.c3
 have c2 := hh.c2
 rcases hd : st.down with _ | _
 ·have HF := hide (fall_any h hk hk' ht ht')
  have e1 : st.crash keep tear = (0, st.fall keep tear) := by unfold Dk.crash; rw [hd]; rfl
  rw [hd] at c2
  have E1 := hide e1
  clear e1 hh h
  go_enter Tryz.func17, Tryz.ntmps17
  go_wp2_with fail
  refine (power_any c2 c3).mono ?_
  rintro e w1 ⟨rfl, rfl⟩
  rw [show ((pow false : Nat) : Int) = 0 from rfl]
  go_wp2_with fail
  refine HF.out.mono ?_
  rintro e w2 ⟨rfl, hp⟩
  go_wp2
  go_ret
  rw [E1.out]
  exact ⟨rfl, hp⟩
 ·have HS := hide (DPost.same h (Chg.refl _ _))
  have e1 : st.crash keep tear = (22, st) := by unfold Dk.crash; rw [hd]; rfl
  rw [hd] at c2
  have E1 := hide e1
  clear e1 hh h
  go_enter Tryz.func17, Tryz.ntmps17
  go_wp2_with fail
  refine (power_any c2 c3).mono ?_
  rintro e w1 ⟨rfl, rfl⟩
  rw [show ((pow true : Nat) : Int) = 22 from rfl]
  go_wp2
  go_ret
  rw [E1.out]
  exact ⟨rfl, HS.out⟩
theorem used_call {w : World} {S C : Nat → Prop} {g : Nat} {st : Dk} (h : DiskIs w S C g st) :
  Calls Tryz.prog 69 #[.pointer (some ⟨g, 0, none⟩)] w fun e w' => e = .returned (.int .i64 ((if st.down then 0 else st.used : Nat) : Nat)) ∧ w = w' := by
 obtain ⟨A, L, bs, bl, a, xs, Vs, Vl, Ds, Dl, hh, hA, hL, hacts, sA, sL, sa⟩ := h.parts
 have c1 := hh.c1
 have c3 := hh.c3
 have c2 := hh.c2
 clear hh hA hL hacts sA sL sa h
 rcases hd : st.down with _ | _
 all_goals
  rw [hd] at c2
  go_enter Tryz.func69, Tryz.ntmps69
  go_wp2_with fail
  refine (power_any c2 c3).mono ?_
  rintro e w1 ⟨rfl, rfl⟩
  first | rw [show ((pow false : Nat) : Int) = 0 from rfl] | rw [show ((pow true : Nat) : Int) = 22 from rfl]
  go_wp2
  go_ret
  exact ⟨rfl, rfl⟩
theorem list_call {w : World} {S C : Nat → Prop} {g : Nat} {st : Dk} (h : DiskIs w S C g st) :
  Calls Tryz.prog 68 #[.pointer (some ⟨g, 0, none⟩)] w fun e w' => ∃ v, e = .returned v ∧ w'.ownsRow w.heap.size 9 1 v st.names.length (st.names.map encStr) ∧ Below w.heap.size w w' := by
 obtain ⟨A, L, bs, bl, a, xs, Vs, Vl, Ds, Dl, hh, hA, hL, hacts, sA, sL, sa⟩ := h.parts
 have c4 := hh.c4
 have c3 := hh.c3
 have c2 := hh.c2
 have HN := hide (names_any hA (fun i hi => h.sap i (sA i hi).1) (by have := seen_few h.ok; omega))
 clear hh hA hL hacts sA sL sa h
 rcases hd : st.down with _ | _
 ·have e1 : st.names = st.seen.map (·.1) := by unfold Dk.names; rw [hd]; rfl
  rw [e1, List.length_map]
  rw [hd] at c2
  go_enter Tryz.func68, Tryz.ntmps68
  go_wp2_with fail
  refine (power_any c2 c3).mono ?_
  rintro e w1 ⟨rfl, rfl⟩
  rw [show ((pow false : Nat) : Int) = 0 from rfl]
  go_wp2_with fail
  refine HN.out.mono ?_
  rintro e w2 ⟨v, rfl, _, hr, hb⟩
  go_wp2
  go_ret
  exact ⟨_, rfl, hr, hb⟩
 ·have e1 : st.names = [] := by unfold Dk.names; rw [hd]; rfl
  rw [e1]
  rw [hd] at c2
  go_enter Tryz.func68, Tryz.ntmps68
  go_wp2_with fail
  refine (power_any c2 c3).mono ?_
  rintro e w1 ⟨rfl, rfl⟩
  rw [show ((pow true : Nat) : Int) = 22 from rfl]
  go_wp2
  go_ret
  exact ⟨_, rfl, World.ownsRow_nil _ _ _ _, Below.refl _ _⟩
end Go.Proofs.YtgbdjcekpdfpjaaGreatDoor
namespace Go.Proofs.YtgbdjcekpdfpjaaGreatDoor
set_option maxRecDepth 200000
set_option maxHeartbeats 4000000
open Go.RowKit
theorem settleF_all (F : Fl) (ds : List Deed) : settleF F ds ds.length 0 = runs F ds := by
 unfold settleF
 by_cases h : ds.length = 0
 ·rw [if_pos h, List.eq_nil_of_length_eq_zero h]
  rfl
 ·have hd : ds[ds.length - 1]? = some ds[ds.length - 1] := List.getElem?_eq_getElem (by omega)
  rw [if_neg h, hd]
  simp only
  rw [Nat.zero_min, ← runs_snoc]
  congr 1
  conv => rhs; rw [← List.take_length (l := ds), show ds.length = ds.length - 1 + 1 by omega, List.take_add_one]
  rw [hd]
  rfl
def Dk.clean (st : Dk) (n : Nat) : Dk := { st with fn := n, last := st.seen, acts := [] }
theorem Dk.Ok.clean {st : Dk} (ok : st.Ok) {n : Nat} (hn : (n : Int) ≤ 9223372036854775807) : (st.clean n).Ok := by
 refine ⟨runs_rises ok.rises st.acts, fun i d h => by simp [Dk.clean] at h, fun i hi => ?_, ?_, ok.most, fun _ => rfl, by simp [Dk.clean], hn⟩
 ·have : i = 0 := by simpa [Dk.clean] using hi
  subst this
  show st.seen.length ≤ 4096
  exact seen_few ok
 ·have e : (st.clean n).used = total st.seen := by simp [Dk.used, Dk.clean, sizes]
  rw [e]
  exact Nat.le_trans (seen_total ok) ok.room
theorem sync_call {w : World} {S C : Nat → Prop} {g : Nat} {st : Dk} (h : DiskIs w S C g st)
  (hk : st.keep ≤ 9223372036854775807) (hk' : -9223372036854775808 ≤ st.keep) (ht : st.tear ≤ 9223372036854775807) (ht' : -9223372036854775808 ≤ st.tear) :
  Calls Tryz.prog 34 #[.pointer (some ⟨g, 0, none⟩)] w fun e w' => e = .returned (.int .i64 (st.sync.1 : Nat)) ∧ DPost w S C g st.sync.2 w' := by
 obtain ⟨A, L, bs, bl, a, xs, Vs, Vl, Ds, Dl, hh, hA, hL, hacts, sA, sL, sa⟩ := h.parts
 obtain ⟨p, c, rfl, hnc, _⟩ := hacts.sl
 have c3 := hh.c3
 have c2 := hh.c2
 rcases hd : st.down with _ | _
 ·rw [hd] at c2
  have hstr := struck_any hh h.ok.fuse
  have HSTR := hide hstr
  have HD := hide h
  have HA := hide hA
  have HL := hide hL
  have HACTS := hide hacts
  have HH := hide hh
  have HSA := hide sA
  have HSL := hide sL
  have HSa := hide sa
  clear hstr hh hA hL hacts sA sL sa h hnc
  go_enter Tryz.func34, Tryz.ntmps34
  go_wp2_with fail
  refine (power_any c2 c3).mono ?_
  rintro e w0 ⟨rfl, rfl⟩
  rw [show ((pow false : Nat) : Int) = 0 from rfl]
  go_wp2_with fail
  refine HSTR.out.mono ?_
  rintro e w1 ⟨rfl, hh1, hg1⟩
  have hc1 : Chg w w1 (fun i => i = g) := Chg.of_grown hg1 _ fun k hk => .inl (by injection hk with hk; exact hk.symm)
  have hsz := hc1.size
  have h := HD.out
  have hA1 := HA.out.chg hc1 fun i hi e => (HSA.out i hi).2.2.1 e
  have hL1 := HL.out.chg hc1 fun i hi e => (HSL.out i hi).2.1 e
  have hacts1 := HACTS.out.chg hc1 (fun i hi e => h.sep g h.in_ (e ▸ hi)) fun i hi e => (HSa.out i hi).2 e
  have hD1 : DiskIs w1 S C g { st with fn := st.fn - 1 } :=
   ⟨⟨h.ok.rises, h.ok.fits, h.ok.few, h.ok.room, h.ok.most, h.ok.idle, h.ok.many, by show ((st.fn - 1 : Nat) : Int) ≤ _; have := h.ok.fuse; omega⟩, fun i hi => Nat.lt_of_lt_of_le (h.cap i hi) hsz, fun i hi => Nat.lt_of_lt_of_le (h.sap i hi) hsz, h.sep, h.in_, A, L, bs, bl, .slice p st.acts.length c, xs, Vs, Vl, Ds, Dl, hh1, hA1, hL1, hacts1, HSA.out, HSL.out, HSa.out⟩
  by_cases hfn : st.fn = 1
  ·rw [show (st.fn == 1) = true from beq_iff_eq.2 hfn]
   have e1 : st.sync = (22, st.fall st.keep st.tear) := by unfold Dk.sync; rw [if_neg (by rw [hd]; decide), if_pos hfn]
   have E1 := hide e1
   have HF := hide (fail_any hD1 hk hk' ht ht')
   have HX := hide (hc1.mono (S' := S) fun i hi => hi ▸ h.in_)
   clear hD1 hA1 hL1 hacts1 hh1 hg1 e1 h hc1
   go_wp2_with fail
   refine HF.out.mono ?_
   rintro e w4 ⟨rfl, hp⟩
   go_wp2
   go_ret
   rw [E1.out]
   exact ⟨rfl, hp.after HX.out fun _ hi => .inl hi⟩
  ·rw [show (st.fn == 1) = false from beq_eq_false_iff_ne.2 hfn]
   have e1 : st.sync = (0, st.clean (st.fn - 1)) := by unfold Dk.sync; rw [if_neg (by rw [hd]; decide), if_neg hfn]; rfl
   have E1 := hide e1
   have hok := h.ok.clean (n := st.fn - 1) (by have := h.ok.fuse; omega)
   have hset := settle_any (tear := 0) hh1 hL1 hacts1 (fun i hi h1 => h.sep i (HSL.out i h1).1 hi) (fun i hi => Nat.lt_of_lt_of_le (h.cap i hi) hsz) (fun i hi => Nat.lt_of_lt_of_le (h.sap i (HSL.out i hi).1) hsz) (fun h1 => (HSL.out g h1).2.1 rfl) (fun i hi h1 => (HSL.out i h1).2.2 hi) h.ok.fits h.ok.few h.ok.many (keep := st.acts.length) (Nat.le_refl _) (by
    rw [settleF_all]
    have h1 := seen_total h.ok
    have h2 := h.ok.room
    have h3 := h.ok.most
    unfold Dk.seen at h1
    omega)
   rw [settleF_all] at hset
   have q5 := hh1.c5
   have HSET := hide hset
   have HA1 := hide hA1
   have HC1 := hide hc1
   have HOK := hide hok
   have HSZ := hide hsz
   clear hset hD1 hA1 hL1 hacts1 hh1 hg1 e1 h hc1 hok hsz
   obtain ⟨n, hn⟩ : ∃ n, n = st.acts.length := ⟨_, rfl⟩
   rw [← hn] at q5
   have HN := hide hn
   clear hn
   go_wp2_with fail
   rw [HN.out]
   refine HSET.out.mono ?_
   rintro e w2 ⟨rfl, V', D', hh2, hF2, hc2⟩
   have h := HD.out
   have hgw : g < w.heap.size := h.sap g h.in_
   have hsz2 := hc2.size
   have hsz := HSZ.out
   have hA2 := HA1.out.chg hc2 fun i hi e => by
    rcases e with e | e
    ·exact (HSA.out i hi).2.1 e
    ·exact (HSA.out i hi).2.2.1 e
   have hpost : DPost w S C g (st.clean (st.fn - 1)) w2 := by
    refine ⟨fun i => S i ∨ Ext L w1 w2 i, C, ⟨HOK.out, fun i hi => by have := h.cap i hi; omega, fun i hi => ?_, fun i hi hC => ?_, .inl h.in_, A, Ext L w1 w2, bs, bl, .slice none 0 0, [], Vs, V', Ds, D', ?_, ?_, hF2, ActsIs.nil _ _, ?_, ?_, fun i hi => by cases hi⟩, ?_, ?_, fun _ hi => .inl hi⟩
    ·rcases hi with hi | hi | hi
     ·have := h.sap i hi; omega
     ·have := h.sap i (HSL.out i hi).1; omega
     ·exact hi.2
    ·rcases hi with hi | hi | hi
     ·exact h.sep i hi hC
     ·exact h.sep i (HSL.out i hi).1 hC
     ·have := h.cap i hC; omega
    ·have eu : (st.clean (st.fn - 1)).used = total st.seen := by simp [Dk.used, Dk.clean, sizes]
     rw [eu]
     exact hh2
    ·exact hA2
    ·intro i hi
     obtain ⟨h1, h2, h3, h4⟩ := HSA.out i hi
     have := h.sap i h1
     exact ⟨.inl h1, fun h5 => by
      rcases h5 with h5 | h5
      ·exact h2 h5
      ·omega, h3, fun h5 => by cases h5⟩
    ·intro i hi
     rcases hi with hi | hi
     ·exact ⟨.inl (HSL.out i hi).1, (HSL.out i hi).2.1, fun h5 => by cases h5⟩
     ·exact ⟨.inr (.inr hi), by omega, fun h5 => by cases h5⟩
    ·refine (HC1.out.mono (S' := S) fun i hi => hi ▸ h.in_).trans (hc2.mono (S' := S) fun i hi => ?_) fun _ h => .inl h
     rcases hi with hi | hi
     ·exact (HSL.out i hi).1
     ·exact hi ▸ h.in_
    ·intro i hi
     rcases hi with hi | hi | hi
     ·exact .inl hi
     ·exact .inl (HSL.out i hi).1
     ·exact .inr (by omega)
   have HP := hide hpost
   clear hpost hA2 hh2 hF2 hc2 h hsz hsz2
   go_wp2
   go_ret
   rw [E1.out]
   exact ⟨rfl, HP.out⟩
 ·have HS := hide (DPost.same h (Chg.refl _ _))
  have e1 : st.sync = (22, st) := by unfold Dk.sync; rw [if_pos hd]
  rw [hd] at c2
  have E1 := hide e1
  clear e1 hh h
  go_enter Tryz.func34, Tryz.ntmps34
  go_wp2_with fail
  refine (power_any c2 c3).mono ?_
  rintro e w1 ⟨rfl, rfl⟩
  rw [show ((pow true : Nat) : Int) = 22 from rfl]
  go_wp2
  go_ret
  rw [E1.out]
  exact ⟨rfl, HS.out⟩
theorem read_call {w : World} {S C : Nat → Prop} {g : Nat} {st : Dk} (h : DiskIs w S C g st) {s : ByteArray} (hs : s.size ≤ maxLen) :
  Calls Tryz.prog 71 #[.pointer (some ⟨g, 0, none⟩), .string s] w fun e w' => ∃ v, e = .returned (.tuple #[v, .int .i64 (st.readE s.data.toList : Nat)]) ∧ w'.ownsRow w.heap.size 5 1 v (st.readB s.data.toList).length ((st.readB s.data.toList).map bv) ∧ Below w.heap.size w w' := by
 obtain ⟨A, L, bs, bl, a, xs, Vs, Vl, Ds, Dl, hh, hA, hL, hacts, sA, sL, sa⟩ := h.parts
 have c4 := hh.c4
 have c3 := hh.c3
 have c2 := hh.c2
 have hrdy := hide (ready_any c2 c3 s)
 clear c2 c3
 by_cases hr : rdy st.down s.data.toList = 0
 ·rcases hg : get st.seen s.data.toList with _ | o
  ·have hlook := fun q => ((hA.look hs).2 hg q).1
   have hlook0 := hlook 0
   have e1 : st.readE s.data.toList = 21 ∧ st.readB s.data.toList = [] := by
    simp [Dk.readE, Dk.readB, hr, hg]
   replace hlook0 : (Instr.lookup 91 (.map (some bs)) (.string s) true).run Tryz.prog w = .ok (.tuple #[.slice none 0 0, .bool false]) w := hlook0
   have E1 := hide e1
   clear e1 hh hA hL hacts sA sL sa h hlook
   go_enter Tryz.func71, Tryz.ntmps71
   go_wp2_with fail
   refine hrdy.out.mono ?_
   rintro e w1 ⟨rfl, rfl⟩
   rw [hr]
   go_wp2
   go_ret2
   rw [E1.out.1, E1.out.2]
   exact ⟨_, rfl, World.ownsRow_nil _ _ _ _, Below.refl _ _⟩
  ·have hlook0 := ((hA.look hs).1 o hg 0).1
   replace hlook0 : (Instr.lookup 91 (.map (some bs)) (.string s) true).run Tryz.prog w = .ok (.tuple #[Vs s.data.toList, .bool true]) w := hlook0
   have hrow := (hA.vals _ _ hg).2
   have hby := by_row hrow
   obtain ⟨q0, n0, c0, hv⟩ : ∃ q n c, Vs s.data.toList = .slice q n c := hby.sl
   rw [hv] at hlook0 hby
   have hlen : o.length ≤ 140737488355328 := by
    have h1 := seen_get h.ok s.data.toList
    rw [hg] at h1
    have h2 := h.ok.room
    have h3 := h.ok.most
    simp at h1
    omega
   have HC := hide (cloneRow_any hby hlen)
   have e1 : st.readE s.data.toList = 0 ∧ st.readB s.data.toList = o := by
    simp [Dk.readE, Dk.readB, hr, hg]
   have E1 := hide e1
   clear e1 hh hA hL hacts sA sL sa h hrow hby hlen hv
   go_enter Tryz.func71, Tryz.ntmps71
   go_wp2_with fail
   refine hrdy.out.mono ?_
   rintro e w1 ⟨rfl, rfl⟩
   rw [hr]
   go_wp2_with fail
   refine HC.out.mono ?_
   rintro e w2 ⟨v, rfl, hr2, hb2⟩
   have HR := hide hr2
   clear hr2
   go_wp2
   go_ret2
   rw [E1.out.1, E1.out.2]
   exact ⟨_, rfl, HR.out, hb2⟩
 ·have e1 : st.readE s.data.toList = rdy st.down s.data.toList ∧ st.readB s.data.toList = [] := by
   unfold Dk.readE Dk.readB
   rw [if_pos hr, if_pos hr]
   exact ⟨rfl, rfl⟩
  have E1 := hide e1
  have g0 : (((rdy st.down s.data.toList : Nat) : Int) != 0) = true := ine_true (by omega)
  clear e1 hh hA hL hacts sA sL sa h
  go_enter Tryz.func71, Tryz.ntmps71
  go_wp2_with fail
  refine hrdy.out.mono ?_
  rintro e w1 ⟨rfl, rfl⟩
  go_wp2
  go_ret2
  rw [E1.out.1, E1.out.2]
  exact ⟨_, rfl, World.ownsRow_nil _ _ _ _, Below.refl _ _⟩
end Go.Proofs.YtgbdjcekpdfpjaaGreatDoor
namespace Go.Proofs.YtgbdjcekpdfpjaaGreatDoor
open Go.RowKit
def Dk.new (room : Nat) : Dk := { room := room, down := false, last := [], acts := [], fn := 0, keep := 0, tear := 0 }
theorem Dk.Ok.new {room : Nat} (h : room ≤ 16777216) : (Dk.new room).Ok := by
 refine ⟨List.Pairwise.nil, fun i d h => by simp [Dk.new] at h, fun i hi => ?_, by simp [Dk.new, Dk.used, total, sizes], h, fun _ => rfl, by simp [Dk.new], by simp [Dk.new]⟩
 simp [Dk.new, runs]
theorem heap_new (w : World) (o : Obj) : (w.alloc o).heap[w.heap.size]? = some o := by
 unfold World.alloc
 simp
def Fresh (w : World) (st : Dk) (e : Ending) (w' : World) : Prop := ∃ g S, e = .returned (.tuple #[.pointer (some ⟨g, 0, none⟩), .int .i64 0]) ∧ DiskIs w' S (fun _ => False) g st ∧ (∀ i, S i → w.heap.size ≤ i) ∧ Below w.heap.size w w'
theorem run_makeMap_none (w : World) : (Instr.makeMap 91 none).run Tryz.prog w = .ok (.map (some w.heap.size)) (w.alloc (.map #[] 0)) := by
 simp [Instr.makeMap]
set_option maxRecDepth 200000 in
set_option maxHeartbeats 4000000 in
theorem new_any (w : World) {room : Nat} (h : room ≤ 16777216) : Calls Tryz.prog 13 #[.int .i64 (room : Nat)] w (Fresh w (Dk.new room)) := by
 have h1 : ¬ (room : Int) < 0 := by omega
 have h2 : (room : Int) ≤ 16777216 := by omega
 have hmk := run_makeMap_none
 go_enter Tryz.func13, Tryz.ntmps13
 go_wp2_with fail
 go_ret2
 obtain ⟨B, hB⟩ : ∃ B, B = w.heap.size := ⟨_, rfl⟩
 obtain ⟨w1, hw1⟩ : ∃ w1, w1 = w.alloc (.map #[] 0) := ⟨_, rfl⟩
 obtain ⟨w2, hw2⟩ : ∃ w2, w2 = w1.alloc (.map #[] 0) := ⟨_, rfl⟩
 obtain ⟨W, hW⟩ : ∃ W, W = w2.alloc (.cells (diskC (room : Nat) 0 false (.map (some B)) (.map (some (B + 1))) (.slice none 0 0) 0 0 0) 96) := ⟨_, rfl⟩
 have z1 : w1.heap.size = B + 1 := by rw [hw1, size_alloc', hB]
 have z2 : w2.heap.size = B + 2 := by rw [hw2, size_alloc', z1]
 have z3 : W.heap.size = B + 3 := by rw [hW, size_alloc', z2]
 have c1 : Chg w w1 (fun _ => False) := hw1 ▸ Chg.of_below (balloc (Below.refl _ _) _) _
 have c2 : Chg w1 w2 (fun _ => False) := hw2 ▸ Chg.of_below (balloc (Below.refl _ _) _) _
 have c3 : Chg w2 W (fun _ => False) := hW ▸ Chg.of_below (balloc (Below.refl _ _) _) _
 have m1 : w1.ownsMap Tryz.prog 9 held B 0 (.map []) := by rw [hw1, hB]; exact World.ownsMap_made w Tryz.prog 9 held
 have m2 : w2.ownsMap Tryz.prog 9 held (B + 1) 0 (.map []) := by rw [hw2, ← z1]; exact World.ownsMap_made w1 Tryz.prog 9 held
 have hb : Below w.heap.size w W := by rw [hW, hw2, hw1]; exact balloc (balloc (balloc (Below.refl _ _) _) _) _
 have m1' := map_chg (map_chg m1 c2 fun h => h) c3 fun h => h
 have m2' := map_chg m2 c3 fun h => h
 have hd : Hd W (B + 2) (room : Nat) 0 false (.map (some B)) (.map (some (B + 1))) (.slice none 0 0) 0 0 0 := by
  show W.heap[B + 2]? = _
  rw [hW, ← z2]
  exact heap_new w2 _
 have hWW : (((w.alloc (.map #[] 0)).alloc (.map #[] 0)).alloc (.cells #[.int .i64 room, .int .i64 0, .bool false, .map (some w.heap.size), .map (some (w.heap.size + 1)), .slice none 0 0, .int .i64 0, .int .i64 0, .int .i64 0] 96)) = W := by
  rw [hW, hw2, hw1, hB]
  rfl
 rw [hWW]
 refine ⟨B + 2, fun i => B ≤ i ∧ i < B + 3, by rw [hB]; rfl, ⟨Dk.Ok.new h, fun i hi => hi.elim, fun i hi => by omega, fun i _ hi => hi, by omega, fun i => i = B + 1, fun i => i = B, B + 1, B, .slice none 0 0, [], fun _ => .slice none 0 0, fun _ => .slice none 0 0, _, _, hd, FilesIs.none_ m2' rfl, FilesIs.none_ m1' rfl, ActsIs.nil _ _, fun i hi => ⟨by omega, by omega, by omega, fun h => by cases h⟩, fun i hi => ⟨by omega, by omega, fun h => by cases h⟩, fun i hi => by cases hi⟩, fun i hi => by omega, hb⟩
end Go.Proofs.YtgbdjcekpdfpjaaGreatDoor
namespace Go.Proofs.YtgbdjcekpdfpjaaGreatDoor
open Go.RowKit
section
variable {w0 w : World} {g : Nat} {st : Dk}
structure Dk.Calm (st : Dk) : Prop where
 k1 : st.keep ≤ 9223372036854775807
 k2 : -9223372036854775808 ≤ st.keep
 t1 : st.tear ≤ 9223372036854775807
 t2 : -9223372036854775808 ≤ st.tear
 few : st.acts.length < 1000000
end
end Go.Proofs.YtgbdjcekpdfpjaaGreatDoor
namespace Go.Proofs.YtgbdjcekpdfpjaaGreatDoor
open Go.RowKit
theorem names_few {s : Dk} (ok : s.Ok) : s.names.length ≤ 4096 := by
 unfold Dk.names
 split
 ·simp
 ·rw [List.length_map]; exact seen_few ok
theorem okN_len {k : List UInt8} (h : okN k = true) : k.length ≤ 32 := by
 unfold okN at h
 simp only [Bool.and_eq_true, decide_eq_true_eq] at h
 omega
def AllOk (F : Fl) : Prop := ∀ p ∈ F, okN p.1 = true
def Deed.named : Deed → Prop
 | .put k _ _ => okN k = true
 | .trim k _ => okN k = true
 | .move _ t => okN t = true
 | .drop _ => True
theorem AllOk.del {F : Fl} (h : AllOk F) (k : List UInt8) : AllOk (del F k) := fun p hp => h p (List.mem_filter.1 hp).1
theorem AllOk.put {F : Fl} (h : AllOk F) {k : List UInt8} (hk : okN k = true) (b : List UInt8) : AllOk (put F k b) := fun p hp => by
 rcases mem_lay hp with rfl | hp
 ·exact hk
 ·exact h.del k p hp
theorem AllOk.run {F : Fl} (h : AllOk F) {d : Deed} (hd : d.named) (t : Nat) : AllOk (d.run F t) := by
 cases d with
 | put k a b => exact h.put hd _
 | trim k n => exact h.put hd _
 | move k s => exact (h.del _).put hd _
 | drop k => exact h.del _
theorem AllOk.runs {F : Fl} (h : AllOk F) {ds : List Deed} (hd : ∀ d ∈ ds, d.named) : AllOk (runs F ds) := by
 unfold Go.Proofs.YtgbdjcekpdfpjaaGreatDoor.runs
 induction ds generalizing F with
 | nil => exact h
 | cons d r ih => exact ih (h.run (hd d (List.mem_cons_self ..)) 0) fun e he => hd e (List.mem_cons_of_mem _ he)
structure Dk.Fine (st : Dk) (n U : Nat) : Prop where
 ok : st.Ok
 nl : AllOk st.last
 na : ∀ d ∈ st.acts, d.named
 k1 : st.keep ≤ 9223372036854775807
 k2 : -9223372036854775808 ≤ st.keep
 t1 : st.tear ≤ 9223372036854775807
 t2 : -9223372036854775808 ≤ st.tear
 few : st.acts.length ≤ n
 used : st.used ≤ U
section
variable {st : Dk} {n U : Nat}
theorem Dk.Fine.mono {m V : Nat} (h : st.Fine n U) (hn : n ≤ m) (hu : U ≤ V) : st.Fine m V := ⟨h.ok, h.nl, h.na, h.k1, h.k2, h.t1, h.t2, Nat.le_trans h.few hn, Nat.le_trans h.used hu⟩
theorem Dk.Fine.calm (h : st.Fine n U) (hn : n < 1000000) : st.Calm := ⟨h.k1, h.k2, h.t1, h.t2, Nat.lt_of_le_of_lt h.few hn⟩
theorem Dk.Fine.seen (h : st.Fine n U) : AllOk st.seen := h.nl.runs h.na
theorem Dk.Fine.names (h : st.Fine n U) {k : List UInt8} (hk : k ∈ st.names) : okN k = true := by
 unfold Dk.names at hk
 split at hk
 ·cases hk
 ·obtain ⟨p, hp, rfl⟩ := List.mem_map.1 hk
  exact h.seen p hp
theorem Dk.Fine.read (h : st.Fine n U) (k : List UInt8) : (st.readB k).length ≤ U := by
 unfold Dk.readB
 split
 ·simp
 ·exact Nat.le_trans (seen_get h.ok k) h.used
theorem used_fall (ok : st.Ok) (keep tear : Int) : (st.fall keep tear).used ≤ st.used := by
 have e : (st.fall keep tear).used = total (settleF st.last st.acts (min (max keep 0).toNat st.acts.length) (max tear 0).toNat) := by simp [Dk.used, Dk.fall, sizes]
 rw [e]
 exact (settleF_ok ok (by omega) _).2.2
theorem Dk.Fine.fall (h : st.Fine n U) (keep tear : Int) : (st.fall keep tear).Fine n U := by
 refine ⟨h.ok.fall _ _, ?_, fun d hd => by simp [Dk.fall] at hd, by simp [Dk.fall], by simp [Dk.fall], by simp [Dk.fall], by simp [Dk.fall], by simp [Dk.fall], Nat.le_trans (used_fall h.ok _ _) h.used⟩
 show AllOk (settleF st.last st.acts _ _)
 unfold settleF
 split
 ·exact h.nl
 ·split
  ·rename_i d hd
   exact (h.nl.runs fun e he => h.na e (List.mem_of_mem_take he)).run (h.na d (List.mem_of_getElem? hd)) _
  ·exact h.nl
theorem used_act (st : Dk) (d : Deed) : (st.act d).used = st.used + d.size := by
 show total st.last + sizes (st.acts ++ [d]) = total st.last + sizes st.acts + d.size
 rw [sizes_snoc]
 omega
theorem Dk.Fine.perf (h : st.Fine n U) (hn : n < 1000000) {d : Deed} (hd : d.fits st.seen) (hnm : d.named) (hfew : (d.run st.seen 0).length ≤ 4096) (hroom : st.used + d.size ≤ st.room) (hdown : st.down = false) : (st.perf d).2.Fine (n + 1) (U + d.size) := by
 have ha : (st.act d).Fine (n + 1) (U + d.size) := ⟨h.ok.act hd hfew hroom hdown (by have := h.few; omega), h.nl, fun e he => by
  rcases List.mem_append.1 he with he | he
  ·exact h.na e he
  ·rw [List.mem_singleton.1 he]; exact hnm, h.k1, h.k2, h.t1, h.t2, by
   show (st.acts ++ [d]).length ≤ n + 1
   have := h.few
   simp; omega, by rw [used_act]; have := h.used; omega⟩
 unfold Dk.perf
 split
 ·exact ha.fall _ _
 ·exact ha
theorem rdy_no {d : Bool} {k : List UInt8} (h : ¬ rdy d k ≠ 0) : d = false ∧ okN k = true := by
 unfold rdy at h
 by_cases hd : d = true
 ·rw [hd] at h; simp at h
 ·rw [if_neg hd] at h
  by_cases hk : okN k = true
  ·exact ⟨by simpa using hd, hk⟩
  ·rw [if_neg hk] at h; simp at h
theorem Dk.Fine.write (h : st.Fine n U) (hn : n < 1000000) (k : List UInt8) (a : Int) (b : List UInt8) : (st.write k a b).2.Fine (n + 1) (U + b.length) := by
 have h' := h.mono (Nat.le_succ n) (Nat.le_add_right U b.length)
 have hre : Rises st.seen := runs_rises h.ok.rises st.acts
 have hfew := seen_few h.ok
 have hmost := h.ok.most
 unfold Dk.write
 split
 ·exact h'
 ·rename_i hr
  obtain ⟨hdn, hk⟩ := rdy_no hr
  split
  ·rename_i hg
   split
   ·exact h'
   ·split
    ·exact h'
    ·split
     ·exact h'
     ·refine h.perf hn ⟨Nat.zero_le _, by rw [hg]; show 0 + b.length ≤ _; omega⟩ hk ?_ (by show st.used + b.length ≤ st.room; omega) hdn
      show (Go.Proofs.YtgbdjcekpdfpjaaGreatDoor.put st.seen _ _).length ≤ 4096
      rw [length_put hre, hg]
      show st.seen.length + 1 ≤ 4096
      omega
  ·rename_i o hg
   have hg2 := seen_get h.ok k
   rw [hg] at hg2
   simp only [Option.getD_some] at hg2
   split
   ·exact h'
   ·split
    ·exact h'
    ·refine h.perf hn ⟨by rw [hg]; show a.toNat ≤ o.length; omega, by rw [hg]; show o.length + b.length ≤ _; omega⟩ hk ?_ (by show st.used + b.length ≤ st.room; omega) hdn
     show (Go.Proofs.YtgbdjcekpdfpjaaGreatDoor.put st.seen _ _).length ≤ 4096
     rw [length_put hre, hg]
     exact hfew
theorem Dk.Fine.move (h : st.Fine n U) (hn : n < 1000000) (k t : List UInt8) : (st.move k t).2.Fine (n + 1) U := by
 have h' := h.mono (Nat.le_succ n) (Nat.le_refl U)
 have hre : Rises st.seen := runs_rises h.ok.rises st.acts
 have hfew := seen_few h.ok
 have hroom := h.ok.room
 unfold Dk.move
 split
 ·exact h'
 ·rename_i hr
  obtain ⟨hdn, hk⟩ := rdy_no hr
  split
  ·exact h'
  ·rename_i o hg
   split
   ·exact h'
   ·rename_i ht
    refine h.perf hn ⟨o, hg⟩ (by simpa [Deed.named] using ht) ?_ hroom hdn
    show (Go.Proofs.YtgbdjcekpdfpjaaGreatDoor.put (Go.Proofs.YtgbdjcekpdfpjaaGreatDoor.del st.seen k) _ _).length ≤ 4096
    rw [length_put (hre.del _)]
    have h1 := length_del hre k
    rw [hg] at h1
    simp at h1
    split
    all_goals omega
theorem Dk.Fine.drop (h : st.Fine n U) (hn : n < 1000000) (k : List UInt8) : (st.drop k).2.Fine (n + 1) U := by
 have h' := h.mono (Nat.le_succ n) (Nat.le_refl U)
 have hre : Rises st.seen := runs_rises h.ok.rises st.acts
 have hfew := seen_few h.ok
 have hroom := h.ok.room
 unfold Dk.drop
 split
 ·exact h'
 ·rename_i hr
  obtain ⟨hdn, hk⟩ := rdy_no hr
  split
  ·exact h'
  ·rename_i o hg
   refine h.perf hn trivial trivial ?_ hroom hdn
   show (Go.Proofs.YtgbdjcekpdfpjaaGreatDoor.del st.seen _).length ≤ 4096
   have h1 := length_del hre k
   omega
theorem Dk.Fine.sync (h : st.Fine n U) : st.sync.2.Fine n U := by
 unfold Dk.sync
 split
 ·exact h
 ·split
  ·exact h.fall _ _
  ·have hf := h.ok.fuse
   refine ⟨h.ok.clean (n := st.fn - 1) (by omega), h.seen, fun d hd => by simp at hd, h.k1, h.k2, h.t1, h.t2, by simp, ?_⟩
   have e : (st.clean (st.fn - 1)).used = total st.seen := by simp [Dk.used, Dk.clean, sizes]
   show (st.clean (st.fn - 1)).used ≤ U
   rw [e]
   exact Nat.le_trans (seen_total h.ok) h.used
theorem Dk.Fine.crash (h : st.Fine n U) (keep tear : Int) : (st.crash keep tear).2.Fine n U := by
 unfold Dk.crash
 split
 ·exact h
 ·exact h.fall _ _
theorem Dk.Fine.start (h : st.Fine n U) : st.start.Fine n U := ⟨⟨h.ok.rises, h.ok.fits, h.ok.few, h.ok.room, h.ok.most, fun h1 => by simp [Dk.start] at h1, h.ok.many, h.ok.fuse⟩, h.nl, h.na, h.k1, h.k2, h.t1, h.t2, h.few, h.used⟩
theorem Dk.Fine.new {r : Nat} (h : r ≤ 16777216) : (Dk.new r).Fine 0 0 := ⟨Dk.Ok.new h, fun p hp => by simp [Dk.new] at hp, fun d hd => by simp [Dk.new] at hd, by simp [Dk.new], by simp [Dk.new], by simp [Dk.new], by simp [Dk.new], by simp [Dk.new], by simp [Dk.new, Dk.used, total, sizes]⟩
end
end Go.Proofs.YtgbdjcekpdfpjaaGreatDoor
