import Derived.Maps.AppendAt
import Derived.Laws.OwnMore
import Derived.Lib.SlKeysI
import Derived.Laws.StructEq
import Derived.Test.YtionbmlicmibgaaGreatDoorX1
import Derived.Test.YtionbmlicmibgaaGreatDoorS9
import Derived.Test.YtionbmlicmibgaaGreatDoorShelf
namespace Go.Proofs.YtionbmlicmibgaaGreatDoor
set_option linter.unusedVariables false
set_option linter.unusedSimpArgs false
open Go.RowKit
theorem sflat_at : ∀ (l : List St) (i k : Nat) {x : St}, l[i]? = some x → k < 11 → (l.flatMap stC)[i * 11 + k]? = (stC x)[k]?
 | [], i, k, x, h, _ => by simp at h
 | y :: r, 0, k, x, h, hk => by
  simp only [List.getElem?_cons_zero, Option.some.injEq] at h
  subst h
  rw [List.flatMap_cons, Nat.zero_mul, Nat.zero_add, List.getElem?_append_left (by rw [stC_length]; exact hk)]
 | y :: r, i + 1, k, x, h, hk => by
  rw [List.getElem?_cons_succ] at h
  rw [List.flatMap_cons, List.getElem?_append_right (by rw [stC_length]; omega), stC_length, show (i + 1) * 11 + k - 11 = i * 11 + k by omega]
  exact sflat_at r i k h hk
def StAt (w : World) (g o : Nat) (x : St) : Prop := ∀ (k : Nat) u, (stC x)[k]? = some u → w.cell? ⟨g, o + k, none⟩ = some u
theorem StAt.c0 {w : World} {g o : Nat} {x : St} (h : StAt w g o x) : w.cell? ⟨g, o, none⟩ = some (.int .i64 x.s) := h 0 _ rfl
theorem StAt.c1 {w : World} {g o : Nat} {x : St} (h : StAt w g o x) : w.cell? ⟨g, o + 1, none⟩ = some (.int .i64 x.q) := h 1 _ rfl
theorem StAt.c2 {w : World} {g o : Nat} {x : St} (h : StAt w g o x) : w.cell? ⟨g, o + 2, none⟩ = some (.int .i64 x.a) := h 2 _ rfl
theorem StAt.c3 {w : World} {g o : Nat} {x : St} (h : StAt w g o x) : w.cell? ⟨g, o + 3, none⟩ = some (.int .i64 x.r.er) := h 3 _ rfl
theorem StAt.c4 {w : World} {g o : Nat} {x : St} (h : StAt w g o x) : w.cell? ⟨g, o + 4, none⟩ = some (.int .i64 x.r.rs) := h 4 _ rfl
theorem StAt.c5 {w : World} {g o : Nat} {x : St} (h : StAt w g o x) : w.cell? ⟨g, o + 5, none⟩ = some (.int .i64 x.r.gn) := h 5 _ rfl
theorem StAt.c6 {w : World} {g o : Nat} {x : St} (h : StAt w g o x) : w.cell? ⟨g, o + 6, none⟩ = some (.int .i64 x.r.ad) := h 6 _ rfl
theorem StAt.c7 {w : World} {g o : Nat} {x : St} (h : StAt w g o x) : w.cell? ⟨g, o + 7, none⟩ = some (.int .i64 x.r.sa) := h 7 _ rfl
theorem StAt.c8 {w : World} {g o : Nat} {x : St} (h : StAt w g o x) : w.cell? ⟨g, o + 8, none⟩ = some (.int .i64 x.r.ot) := h 8 _ rfl
theorem StAt.c9 {w : World} {g o : Nat} {x : St} (h : StAt w g o x) : w.cell? ⟨g, o + 9, none⟩ = some (.int .i64 x.r.cy) := h 9 _ rfl
theorem StAt.c10 {w : World} {g o : Nat} {x : St} (h : StAt w g o x) : w.cell? ⟨g, o + 10, none⟩ = some (.int .i64 x.r.fu) := h 10 _ rfl
theorem StAt.below {w w' : World} {g o : Nat} {x : St} (h : StAt w g o x) (hb : Below w.heap.size w w') : StAt w' g o x := fun k u hk => (hb.cell (lt_of_cell (h k u hk))).trans (h k u hk)
def Sts (w : World) (v : Value) (l : List St) : Prop :=
 ∃ (p : Option Addr) (cap : Nat), v = .slice p l.length cap ∧ l.length ≤ cap ∧ cap ≤ maxLen ∧ (p = none → cap = 0) ∧
  (0 < l.length → ∃ g o, p = some ⟨g, o, none⟩ ∧ ∀ (i : Nat) x, l[i]? = some x → StAt w g (o + i * 11) x)
theorem Sts.nil (w : World) : Sts w (.slice none 0 0) [] := ⟨none, 0, rfl, Nat.le_refl _, by simp [maxLen], fun _ => rfl, fun h => absurd h (Nat.lt_irrefl _)⟩
theorem Sts.sl {w : World} {v : Value} {l : List St} (h : Sts w v l) : ∃ p n c, v = .slice p n c := by
 obtain ⟨p, c, e, _⟩ := h
 exact ⟨p, _, c, e⟩
theorem Sts.len {w : World} {p : Option Addr} {n c : Nat} {l : List St} (h : Sts w (.slice p n c) l) : n = l.length ∧ n ≤ c ∧ c ≤ maxLen := by
 obtain ⟨p', c', e, hl, hm, _⟩ := h
 injection e with _ e2 e3
 subst e2 e3
 exact ⟨rfl, hl, hm⟩
theorem Sts.at_ {w : World} {p : Option Addr} {n c : Nat} {l : List St} (h : Sts w (.slice p n c) l) (hn : 0 < n) : ∃ g o, p = some ⟨g, o, none⟩ ∧ ∀ (i : Nat) x, l[i]? = some x → StAt w g (o + i * 11) x := by
 obtain ⟨p', c', e, _, _, _, hx⟩ := h
 injection e with e1 e2 e3
 subst e1 e2
 exact hx hn
def OwnT (B : Nat) (w : World) (v : Value) (l : List St) : Prop := w.ownsRow B 84 11 v l.length (l.flatMap stC)
theorem OwnT.nil (B : Nat) (w : World) : OwnT B w (.slice none 0 0) [] := World.ownsRow_nil _ _ _ _
theorem OwnT.sts {B : Nat} {w : World} {v : Value} {l : List St} (h : OwnT B w v l) : Sts w v l := by
 obtain ⟨hl, ⟨rfl, h0⟩ | ⟨g, cap, cur, rfl, hB, hh, hc, hm, hs, ht⟩⟩ := h
 ·obtain rfl : l = [] := List.eq_nil_of_length_eq_zero h0
  exact Sts.nil w
 ·refine ⟨_, cap, rfl, hc, hm, (fun e => by cases e), fun _ => ⟨g, 0, rfl, fun i x hi k u hk => ?_⟩⟩
  have hk6 : k < 11 := by
   have := (List.getElem?_eq_some_iff.1 hk).1
   rwa [stC_length] at this
  have hil := (List.getElem?_eq_some_iff.1 hi).1
  have h1 := sflat_at l i k hi hk6
  rw [hk, ← ht, List.getElem?_take_of_lt (by omega), Array.getElem?_toList] at h1
  rw [cell_of_row w g (0 + i * 11 + k) cur _ (0, 0) hh, Nat.zero_add]
  exact h1
theorem OwnT.mono {B B' : Nat} {w : World} {v : Value} {l : List St} (h : OwnT B w v l) (hB : B' ≤ B) : OwnT B' w v l := ⟨h.1, h.2.imp id fun ⟨g, cap, cur, e, hb, r⟩ => ⟨g, cap, cur, e, Nat.le_trans hB hb, r⟩⟩
theorem Tryz.infoSt : (Tryz.prog.info? 84).map (fun i => (i.zero, i.size, i.bytes)) = some (some (.agg #[.int .i64 0, .int .i64 0, .int .i64 0, .int .i64 0, .int .i64 0, .int .i64 0, .int .i64 0, .int .i64 0, .int .i64 0, .int .i64 0, .int .i64 0]), 11, 88) := by kernel_rfl
theorem run_pushT {B : Nat} {w : World} {v : Value} {l : List St} (h : OwnT B w v l) (x : St) (hB : B ≤ w.heap.size) (hs : l.length ≤ 1100000) :
  ∃ v' w', (Builtin.append_ #[81, 81] 81 #[v, .slice (some ⟨w.heap.size, 0, none⟩) 1 1]).run Tryz.prog (w.alloc (.cells #[.int .i64 x.s, .int .i64 x.q, .int .i64 x.a, .int .i64 x.r.er, .int .i64 x.r.rs, .int .i64 x.r.gn, .int .i64 x.r.ad, .int .i64 x.r.sa, .int .i64 x.r.ot, .int .i64 x.r.cy, .int .i64 x.r.fu] 84)) = .ok v' w' ∧ OwnT B w' v' (l ++ [x]) ∧ Below B w w' ∧ w.grownBy w' v.ownBlock ∧ (v'.ownBlock = v.ownBlock ∨ v'.ownBlock = some (w.heap.size + 1)) := by
 obtain ⟨i0, hi0, hz0, hz1, hz2⟩ := info_parts Tryz.infoSt
 have ho' := World.ownsRow.alloc h (.cells #[.int .i64 x.s, .int .i64 x.q, .int .i64 x.a, .int .i64 x.r.er, .int .i64 x.r.rs, .int .i64 x.r.gn, .int .i64 x.r.ad, .int .i64 x.r.sa, .int .i64 x.r.ot, .int .i64 x.r.cy, .int .i64 x.r.fu] 84)
 obtain ⟨v', w', hr, h1, h2, _, h4⟩ := run_append_own_at (P := Tryz.prog) (w.alloc (.cells #[.int .i64 x.s, .int .i64 x.q, .int .i64 x.a, .int .i64 x.r.er, .int .i64 x.r.rs, .int .i64 x.r.gn, .int .i64 x.r.ad, .int .i64 x.r.sa, .int .i64 x.r.ot, .int .i64 x.r.cy, .int .i64 x.r.fu] 84)) B 81 81 84 i0 _ 11 88 Tryz.underlying81 hi0 hz0 hz1 hz2 rfl (by decide) v l.length (l.flatMap stC) ho' ⟨w.heap.size, 0, none⟩ 1 1 (stC x) rfl
  (fun j u hj => by
   rw [add_lit0, Nat.zero_add, cell_of_row _ w.heap.size j _ 84 (0, 0) (heap_alloc_new w _)]
   simpa [stC] using hj)
  (stC_one x) (by simp only [maxLen]; omega) (by omega) (by simp; omega)
 have hb0 : Below B w (w.alloc (.cells #[.int .i64 x.s, .int .i64 x.q, .int .i64 x.a, .int .i64 x.r.er, .int .i64 x.r.rs, .int .i64 x.r.gn, .int .i64 x.r.ad, .int .i64 x.r.sa, .int .i64 x.r.ot, .int .i64 x.r.cy, .int .i64 x.r.fu] 84)) := (Below.refl _ _).alloc hB _
 refine ⟨v', w', hr, ?_, hb0.grown h2 (by simp; omega) fun k hk => (World.ownsRow.lt h k hk).1, ?_, ?_⟩
 ·have : (l ++ [x]).flatMap stC = l.flatMap stC ++ stC x := by simp
  unfold OwnT
  rw [this, List.length_append]
  exact h1
 ·refine ⟨h2.os, h2.tape, h2.output, ?_, fun k hk hne => ?_⟩
  ·have := h2.size
   simp at this
   omega
  ·rw [h2.block k (by simp; omega) hne]
   exact heap_alloc_old _ _ hk
 ·simpa using h4
theorem wpList_pushT {w : World} {ops : Array Oper} {rest : List Oper} {o : Oper} {a : Act} {Q : Exit → Act → World → Prop} (hgd : o.guard = none) (s t : Operand)
  (ho : o.op = .call { callee := .builtin .append, args := #[s, t], argTypes := #[81, 81] }) (hty : o.type = 81) {B : Nat} {v : Value} {l : List St} (x : St) {H : Nat}
  (hs : a.eval s = v) (ht : a.eval t = .slice (some ⟨H, 0, none⟩) 1 1) (hH : H = w.heap.size) (h : OwnT B w v l) (hB : B ≤ w.heap.size) (hn : l.length ≤ 1100000)
  (hK : ∀ v' w', OwnT B w' v' (l ++ [x]) → Below B w w' → w.grownBy w' v.ownBlock → wpList Tryz.prog ops Q rest (a.put o.dst v') w') : wpList Tryz.prog ops Q (o :: rest) a (w.alloc (.cells #[.int .i64 x.s, .int .i64 x.q, .int .i64 x.a, .int .i64 x.r.er, .int .i64 x.r.rs, .int .i64 x.r.gn, .int .i64 x.r.ad, .int .i64 x.r.sa, .int .i64 x.r.ot, .int .i64 x.r.cy, .int .i64 x.r.fu] 84)) := by
 subst hH
 obtain ⟨v', w', hr, h1, h2, h3, _⟩ := run_pushT h x hB hn
 exact Lib.wpList_append_run_sl _ hgd s t 81 ho v _ hs ht (by rw [hty]; exact hr) (hK v' w' h1 h2 h3)
end Go.Proofs.YtionbmlicmibgaaGreatDoor
namespace Go.Proofs.YtionbmlicmibgaaGreatDoor
set_option linter.unusedVariables false
set_option linter.unusedSimpArgs false
open Go.RowKit Go.Maps Go.Sort Go.Shelf
theorem ses_keys_sorted {w : World} {b : Nat} {L : List St} {D : DataW Value} (h : TmIs w b L D) {ss : List Int} (hp : ss.Perm (intKeys D)) : ss.mergeSort (fun x y => decide (x ≤ y)) = L.map (·.s) := by
 obtain ⟨es, hD, hpw, _⟩ := h.map.entries intK
 obtain ⟨es', hD', hko⟩ := h.map.keysOf
 obtain rfl : es = es' := by rw [hD] at hD'; simpa using hD'
 have hr : (L.map (·.s)).Pairwise (fun x y => x < y) := List.pairwise_map.2 h.rd.rises
 have hnd : (L.map (·.s)).Nodup := hr.imp fun {x y} (h : x < y) e => by omega
 have hq : (L.map (·.s)).Perm (intKeys D) := by
  rw [hD]
  refine perm_intKeys hpw (fun p hp => ?_) hnd fun x => ?_
  ·obtain ⟨v, hv⟩ := hko p hp
   obtain ⟨x, _, hx, _⟩ := Maps.keyOf_i64 Tryz.underlying3 hv
   exact ⟨x, hx⟩
  ·rw [← hD, h.rd.keys]
   constructor
   ·intro hx
    obtain ⟨y, hy, rfl⟩ := List.mem_map.1 hx
    rw [fndT_of h.rd.rises.ids hy]
    rfl
   ·intro hx
    obtain ⟨y, hy⟩ := Option.isSome_iff_exists.1 hx
    obtain ⟨h1, h2⟩ := fndT_mem hy
    exact List.mem_map.2 ⟨y, h1, h2⟩
 have e := mergeSort_of_perm_i (hp.trans hq.symm)
 unfold leI at e
 rw [e]
 exact List.mergeSort_of_pairwise (hr.imp fun {x y} (h : x < y) => by simp; omega)
theorem ses_keys_any (mb : Option Nat) (W : World) : Calls Tryz.prog 133 #[.map mb] W fun e w' => e = .returned (.func (.func 171) #[] #[.pointer (some ⟨W.heap.size, 0, none⟩)]) ∧ w' = W.alloc (.cells #[.map mb] 171) :=
 (callsIn_wide (n := 5)).1 (AnyZI.keys_in Tryz.keysT Fence.wide 5 trivial rfl mb W)
set_option maxHeartbeats 1100000 in
theorem ses_sorted_any {w : World} {b : Nat} {L : List St} {D : DataW Value} (h : TmIs w b L D) (hL : L.length ≤ 1100000) : Calls Tryz.prog 128 #[.func (.func 171) #[] #[.pointer (some ⟨w.heap.size, 0, none⟩)]] (w.alloc (.cells #[.map (some b)] 171)) (SortedPost (w.alloc (.cells #[.map (some b)] 171)) (L.map (·.s))) := by
 have hbl := h.lt
 have hseq : SeqGives Fence.wide 2 Tryz.prog 171 #[.pointer (some ⟨w.heap.size, 0, none⟩)] encZ (fun ss => ss.Perm (intKeys D)) (Maps.size D) (w.alloc (.cells #[.map (some b)] 171)) :=
  AnyZI.keys_gives (ρ := Tryz.keysT_ren) { Tryz.keysT with } Fence.wide _ trivial rfl (by omega) w.heap.size b L.length D _ (by simp) (by simp) (by
   obtain ⟨es, clock, hb, Ft, hs, hD⟩ := h.map
   exact ⟨es, clock, (Below.heap_alloc _ _ b hbl).trans hb, Ft, hs, hD⟩)
 have cS := AnyZI.sorted_in Tryz.sortedA Fence.wide 5 trivial trivial trivial trivial rfl (by omega) (sortsA _) (enters_of Tryz.func167 (by kernel_rfl) rfl) 171 #[.pointer (some ⟨w.heap.size, 0, none⟩)] trivial (enters_of Tryz.func171 (by kernel_rfl) rfl) _ _ (by rw [h.rd.size]; simp [maxLen]; omega) (by rw [h.rd.size]; omega) _ hseq
 change CallsIn _ _ Tryz.prog 128 _ _ _ at cS
 refine ((callsIn_wide (n := 5)).1 cS).mono ?_
 rintro e w' ⟨v, ss, rfl, hS, hrow, hnil, hb⟩
 have hs := ses_keys_sorted h hS
 refine ⟨v, rfl, ?_, hb⟩
 have hl : ss.length = (L.map (·.s)).length := by rw [← hs, List.length_mergeSort]
 rw [hs, hl] at hrow
 exact hrow
end Go.Proofs.YtionbmlicmibgaaGreatDoor
namespace Go.Proofs.YtionbmlicmibgaaGreatDoor
set_option linter.unusedVariables false
set_option linter.unusedSimpArgs false
open Go.RowKit
def SeatsPost (w : World) (L : List St) (e : Ending) (w' : World) : Prop := ∃ v, e = .returned v ∧ OwnT w.heap.size w' v L ∧ Below w.heap.size w w'
set_option maxRecDepth 200000 in
set_option maxHeartbeats 2000000 in
theorem ses_seats_any {w : World} {g b : Nat} {L : List St} (h : TbIs w g b L) : Calls Tryz.prog 95 #[.pointer (some ⟨g, 0, none⟩)] w (SeatsPost w L) := by
 have HM := hide (ses_made_any h.c0)
 have HH := hide h
 have hL8 := h.ok.len
 have HRI := hide h.ok
 clear h
 go_enter Tryz.func95, Tryz.ntmps95
 go_wp2_with fail
 refine HM.out.mono ?_
 rintro e X ⟨rfl, hcX⟩
 have hX := HH.out.chg hcX (fun e => e) (fun e => e)
 have c0 := hX.c0
 obtain ⟨D, hD⟩ := hX.map
 have HS := hide (ses_sorted_any hD (by omega))
 have HX := hide hX
 have HCX := hide hcX
 clear hX hD hcX
 go_wp2_with fail
 refine (ses_keys_any _ _).mono ?_
 rintro e w1 ⟨rfl, rfl⟩
 go_wp2_with fail
 refine HS.out.mono ?_
 rintro e w2 ⟨v, rfl, hrow, hb2⟩
 have hll : (L.map (·.s)).length = L.length := by simp
 rw [hll] at hrow
 obtain ⟨p, c, rfl, hlen, hmx, hcl⟩ := ints_row hrow
 have hb : Below X.heap.size X w2 := ((Below.refl _ X).alloc (Nat.le_refl _) _).trans (hb2.mono (by simp))
 have hT2 := HX.out.below hb
 have HT2 := hide hT2
 have hb0 : Below w.heap.size w w2 := Chg.to_below (Below.refl _ _) (HCX.out.belowed hb) (fun k e => e.elim)
 have HB0 := hide hb0
 have HCL := hide hcl
 have hmx' : (L.length : Int) ≤ 9223372036854775807 := by omega
 clear hrow hb2 hT2 hb hb0 hcl hlen hmx hll
 go_wp2
 go_loopw [3, 16] (fun v i wr => ∃ k : Nat, k ≤ L.length ∧ i = .int .i64 k ∧ (∃ p n c, v = .slice p n c) ∧ Hid (OwnT w2.heap.size wr v (L.take k) ∧ Below w2.heap.size w2 wr)) (fun _ i _ => L.length - (intOf i).toNat)
 case atStart => exact ⟨0, by omega, rfl, ⟨_, _, _, rfl⟩, hide ⟨OwnT.nil _ _, Below.refl _ _⟩⟩
 case round =>
  obtain ⟨k, hk, rfl, ⟨p3, n3, c3, rfl⟩, HR⟩ := hrel
  by_cases hlt : k < L.length
  ·obtain ⟨y, hy⟩ : ∃ y, L[k]? = some y := ⟨_, List.getElem?_eq_getElem hlt⟩
   have hpos : 0 < L.length := by omega
   obtain ⟨gk, rfl, hgk, hc⟩ := HCL.out hpos
   have hck := hc k y.s (by simp [hy])
   have hTr := HT2.out.below HR.out.2
   have hckr : wr.cell? ⟨gk, k, none⟩ = some (.int .i64 y.s) := (HR.out.2.cell (p := ⟨gk, k, none⟩) hgk).trans hck
   have c0r := hTr.c0
   obtain ⟨Dr, hDr⟩ := hTr.map
   have hym : y ∈ L := List.mem_of_getElem? hy
   have hyk := (St.ok_iff.1 (HRI.out.ok y hym)).1
   have hl := (hDr.look (k := y.s) (wf40 (by omega) (by omega)) 0).2
   rw [fndT_of HRI.out.rises.ids hym, Option.getD_some] at hl
   have hl' : (Instr.lookup 171 (.map (some b)) (.int .i64 y.s) false).run Tryz.prog wr = .ok (stV y) wr := hl
   have HTK : Hid (L.take (k + 1) = L.take k ++ [y]) := hide (by rw [List.take_add_one, hy]; rfl)
   have HTL : Hid ((L.take k).length ≤ 1100000) := hide (by rw [List.length_take]; omega)
   obtain ⟨s, q, a, ⟨e1, e2, e3, e4, e5, e6, e7, e8⟩⟩ := y
   unfold stV at hl'
   dsimp only at *
   clear hl hDr hTr hym hck hc hy
   go_wp2_with (at_builtin; go_loud (refine wpList_pushT (w := wr) (v := .slice p3 n3 c3) (l := L.take k) (B := w2.heap.size) (H := wr.heap.size) rfl (.tmp 20) (.tmp 27) rfl rfl ⟨s, q, a, ⟨e1, e2, e3, e4, e5, e6, e7, e8⟩⟩ rfl rfl rfl HR.out.1 HR.out.2.size HTL.out ?_); intro v5 w5 ho5 hb5 hg5)
   obtain ⟨p5, n5, c5, rfl⟩ := ho5.sts.sl
   have HO5 := hide ho5
   have HB5 := hide (HR.out.2.trans hb5)
   clear ho5 hb5 hg5
   go_wp2
   go_roundw
   case rel => exact ⟨k + 1, by omega, by go_num, ⟨_, _, _, rfl⟩, hide ⟨by rw [HTK.out]; exact HO5.out, HB5.out⟩⟩
   case measure => simp [intOf]; omega
  ·go_wp2
   go_ret
   have e : L.take k = L := List.take_of_length_le (by omega)
   have ho := HR.out.1
   rw [e] at ho
   exact ⟨_, rfl, ho.mono HB0.out.size, HB0.out.trans (HR.out.2.mono HB0.out.size)⟩
end Go.Proofs.YtionbmlicmibgaaGreatDoor
namespace Go.Proofs.YtionbmlicmibgaaGreatDoor
set_option linter.unusedVariables false
set_option linter.unusedSimpArgs false
open Go.RowKit Go.Lib
instance : Inhabited St := ⟨st0⟩
theorem rp_beq (x y : Rp) : (x.er == y.er && (x.rs == y.rs && (x.gn == y.gn && (x.ad == y.ad && (x.sa == y.sa && (x.ot == y.ot && (x.cy == y.cy && (x.fu == y.fu)))))))) = decide (x = y) := by
 obtain ⟨a1, a2, a3, a4, a5, a6, a7, a8⟩ := x
 obtain ⟨b1, b2, b3, b4, b5, b6, b7, b8⟩ := y
 dsimp only
 rw [Bool.eq_iff_iff]
 simp [Rp.mk.injEq]
set_option maxRecDepth 200000 in
set_option maxHeartbeats 4000000 in
theorem rp_eql (x y : Rp) (w : World) : (binOp .eql 66 (.agg (rpC x).toArray) (.agg (rpC y).toArray)).run Tryz.prog w = .ok (.bool (decide (x = y))) w := by
 have u3 := Tryz.underlying3
 have a3 := Tryz.isAgg3
 have z3 := Tryz.sizeOf3
 have ue := Tryz.underlying33
 have ae := Tryz.isAgg33
 have ze := Tryz.sizeOf33
 have ag0 := Tryz.isAgg64
 have zg0 := Tryz.sizeOf64
 have hS : Tryz.prog.underlying 66 = some (.struct (Tryz.prog.fieldsOf 66)) := by kernel_rfl
 have hp : Tryz.prog.stoodInHeld 66 = false := by kernel_rfl
 rw [← rp_beq]
 simp only [rpC]
 rw [run_eql_struct, show (10000 : Nat) = 9999 + 1 from rfl, run_equalIn_agg w 9999 66 _ _ hS hp]
 simp only [Program.fieldsOf, Tryz.underlying66]
 clear hS
 go_simp
 (repeat' split) <;> simp_all
theorem rp_neqB (x y : Rp) (w : World) : (binOp .neq 66 (.agg (rpC x).toArray) (.agg (rpC y).toArray)).run Tryz.prog w = .ok (.bool (!decide (x = y))) w := by
 have h := rp_eql x y w
 rw [run_eql_struct] at h
 rw [run_neq_struct]
 cases hr : (Op.equalIn 10000 66 (.agg (rpC x).toArray) (.agg (rpC y).toArray)).run Tryz.prog w with
 | ok b w' =>
  rw [hr] at h
  simp only [Result.andThen_ok, Result.ok.injEq, Value.bool.injEq] at h ⊢
  rw [h.1]
  exact ⟨rfl, h.2⟩
 | halt x w' =>
  rw [hr] at h
  simp [Result.andThen] at h
end Go.Proofs.YtionbmlicmibgaaGreatDoor
namespace Go.Proofs.YtionbmlicmibgaaGreatDoor
set_option linter.unusedVariables false
set_option linter.unusedSimpArgs false
open Go.RowKit
structure TbOwn (w0 : World) (g b : Nat) (w : World) (L : List St) : Prop where
 tb : TbIs w g b L
 gl : w0.heap.size ≤ g
 bl : w0.heap.size ≤ b
 below : Below w0.heap.size w0 w
theorem TbOwn.new {w w' : World} (h : TbIs w' (w.heap.size + 1) w.heap.size []) (hb : Below w.heap.size w w') : TbOwn w (w.heap.size + 1) w.heap.size w' [] := ⟨h, by omega, Nat.le_refl _, hb⟩
theorem TbOwn.tab {w0 w w' : World} {g b : Nat} {L L' : List St} (h : TbOwn w0 g b w L) (h' : TbIs w' g b L') (hc : Chg w w' (fun k => k = b)) : TbOwn w0 g b w' L' :=
 ⟨h', h.gl, h.bl, Chg.to_below h.below hc (fun k e => by rw [e]; exact h.bl)⟩
theorem TbOwn.bel {w0 w w' : World} {g b : Nat} {L : List St} (h : TbOwn w0 g b w L) (hb : Below w.heap.size w w') : TbOwn w0 g b w' L :=
 ⟨h.tb.below hb, h.gl, h.bl, h.below.trans (hb.mono h.below.size)⟩
end Go.Proofs.YtionbmlicmibgaaGreatDoor
namespace Go.Proofs.YtionbmlicmibgaaGreatDoor
set_option linter.unusedVariables false
set_option linter.unusedSimpArgs false
open Go.RowKit
def numsB (l : List Int) : List UInt8 := l.flatMap fun n => digits n.toNat
def bytesT (x : St) : List UInt8 := numsB x.nums
def imgT (L : List St) : List UInt8 := digits L.length ++ L.flatMap bytesT
theorem numsB_take {l : List Int} {k : Nat} {n : Int} (h : l[k]? = some n) : numsB (l.take (k + 1)) = numsB (l.take k) ++ digits n.toNat := by
 unfold numsB
 rw [List.take_add_one, h, List.flatMap_append]
 simp
theorem numsB_len (l : List Int) (h : ∀ n ∈ l, n40 n = true) : (numsB l).length ≤ l.length * 9 := by
 induction l with
 | nil => simp [numsB]
 | cons x r ih =>
  have h1 := digits_length x.toNat (by have := n40_iff.1 (h x (List.mem_cons_self ..)); omega)
  have h2 := ih fun n hn => h n (List.mem_cons_of_mem _ hn)
  unfold numsB at h2 ⊢
  rw [List.flatMap_cons, List.length_append, List.length_cons]
  omega
theorem bytesT_len {x : St} (h : x.ok = true) : (bytesT x).length ≤ 99 := by
 have h2 : x.tell = true := by unfold St.ok at h; simp at h; exact h.2
 exact numsB_len x.nums fun n hn => List.all_eq_true.1 h2 n hn
theorem imgs_len {L : List St} (h : ∀ x ∈ L, x.ok = true) : (L.flatMap bytesT).length ≤ L.length * 99 := by
 induction L with
 | nil => simp
 | cons x r ih =>
  have h1 := bytesT_len (h x (List.mem_cons_self ..))
  have h2 := ih fun n hn => h n (List.mem_cons_of_mem _ hn)
  rw [List.flatMap_cons, List.length_append, List.length_cons]
  omega
theorem imgT_len {L : List St} (h : TbOk L) : (imgT L).length ≤ 1000 := by
 have h1 := imgs_len h.ok
 have h2 := digits_length L.length (by have := h.len; omega)
 have := h.len
 unfold imgT
 rw [List.length_append]
 omega
def BytesPost (w : World) (l : List UInt8) (e : Ending) (w' : World) : Prop := ∃ v, e = .returned v ∧ Own w.heap.size w' v l ∧ Below w.heap.size w w'
set_option maxRecDepth 200000 in
set_option maxHeartbeats 2000000 in
theorem ses_bytesOf_any (w : World) {x : St} (hok : x.ok = true) : Calls Tryz.prog 165 #[stV x] w (BytesPost w (bytesT x)) := by
 have HN := fun w => ses_numbers_any w x
 obtain ⟨l, hl⟩ : ∃ l, x.nums = l := ⟨_, rfl⟩
 have hll : l.length = 11 := by rw [← hl]; rfl
 have HA : Hid (∀ n ∈ l, n40 n = true) := hide (by
  have h2 : x.tell = true := by unfold St.ok at hok; simp at hok; exact hok.2
  rw [← hl]
  exact fun n hn => List.all_eq_true.1 h2 n hn)
 have HB : Hid (bytesT x = numsB l) := hide (by rw [← hl]; rfl)
 rw [hl] at HN
 obtain ⟨bt, hbt⟩ : ∃ bt, bytesT x = bt := ⟨_, rfl⟩
 rw [hbt] at HB ⊢
 clear hl hbt hok
 obtain ⟨s, q, a, ⟨e1, e2, e3, e4, e5, e6, e7, e8⟩⟩ := x
 unfold stV at *
 dsimp only at *
 have HL := hide hll
 clear hll
 go_enter Tryz.func165, Tryz.ntmps165
 go_wp2_with fail
 refine (HN _).mono ?_
 rintro e w1 ⟨g, rfl, hn, hg, hb⟩
 have HG := hide (((Below.refl w.heap.size w).alloc (Nat.le_refl _) _).trans (hb.mono (by simp)))
 have HNN := hide hn
 clear hb hg hn
 go_wp2
 go_loopw [3, 9] (fun v i wr => ∃ k : Nat, k ≤ 11 ∧ i = .int .i64 k ∧ (∃ p n c, v = .slice p n c) ∧ Hid (Own w1.heap.size wr v (numsB (l.take k)) ∧ Below w1.heap.size w1 wr)) (fun _ i _ => 11 - (intOf i).toNat)
 case atStart => exact ⟨0, by omega, rfl, ⟨_, _, _, rfl⟩, hide ⟨Own.nil _ _, Below.refl _ _⟩⟩
 case round =>
  obtain ⟨k, hk, rfl, ⟨p3, n3, c3, rfl⟩, HR⟩ := hrel
  by_cases hlt : k < 11
  ·have hlt' : k < l.length := by have := HL.out; omega
   obtain ⟨n, hn'⟩ : ∃ n, l[k]? = some n := ⟨_, List.getElem?_eq_getElem hlt'⟩
   have hc1 := HNN.out k n hn'
   have hc := (HR.out.2.cell (lt_of_cell hc1)).trans hc1
   have HT := hide (numsB_take hn')
   have hn40 := n40_iff.1 (HA.out n (List.mem_of_getElem? hn'))
   have hlen : (numsB (l.take k)).length ≤ 140737488000000 := by
    have := numsB_len (l.take k) fun n hn => HA.out n (List.mem_of_mem_take hn)
    rw [List.length_take] at this
    omega
   have hwn := hide (wireNumber_any HR.out.1.by_ hlen n n.toNat (by omega) (by unfold lim; omega))
   clear hn' hlt' hc1 hlen hn40
   go_wp2_with fail
   refine hwn.out.mono ?_
   rintro e w5 ⟨v5, rfl, ho5, hb5⟩
   obtain ⟨p5, n5, c5, rfl⟩ := ho5.by_.sl
   have HO5 := hide (ho5.mono HR.out.2.size)
   have HB5 := hide (HR.out.2.trans (hb5.mono HR.out.2.size))
   clear ho5 hb5 hwn
   go_wp2
   go_roundw
   case rel => exact ⟨k + 1, by omega, by go_num, ⟨_, _, _, rfl⟩, hide ⟨by rw [HT.out]; exact HO5.out, HB5.out⟩⟩
   case measure => simp [intOf]; omega
  ·go_wp2
   go_ret
   have e : l.take k = l := List.take_of_length_le (by have := HL.out; omega)
   have ho := HR.out.1
   rw [e, ← HB.out] at ho
   exact ⟨_, rfl, ho.mono HG.out.size, HG.out.trans (HR.out.2.mono HG.out.size)⟩
theorem img_take {L : List St} {k : Nat} {x : St} (h : L[k]? = some x) (m : List UInt8) : m ++ (L.take (k + 1)).flatMap bytesT = (m ++ (L.take k).flatMap bytesT) ++ bytesT x := by
 rw [List.take_add_one, h, List.flatMap_append, List.append_assoc]
 simp
set_option maxRecDepth 200000 in
set_option maxHeartbeats 2000000 in
theorem ses_image_any {w : World} {g b : Nat} {L : List St} (h : TbIs w g b L) : Calls Tryz.prog 126 #[.pointer (some ⟨g, 0, none⟩)] w (BytesPost w (imgT L)) := by
 have HM := hide (ses_made_any h.c0)
 have HH := hide h
 have hL8 := h.ok.len
 have HRI := hide h.ok
 clear h
 go_enter Tryz.func126, Tryz.ntmps126
 go_wp2_with fail
 refine HM.out.mono ?_
 rintro e X ⟨rfl, hcX⟩
 have hX := HH.out.chg hcX (fun e => e) (fun e => e)
 have c0 := hX.c0
 obtain ⟨D, hD⟩ := hX.map
 have hlen := hD.map.len Tryz.underlying171 3
 rw [hD.rd.size] at hlen
 have HX := hide hX
 have HCX := hide (Chg.to_below (Below.refl _ _) hcX (fun k e => e.elim))
 clear hX hD hcX
 have hwn := hide (wireNumber_any (By.nil X) (by simp) (L.length : Int) L.length (by omega) (by unfold lim; omega))
 go_wp2_with fail
 refine hwn.out.mono ?_
 rintro e w2 ⟨v2, rfl, ho2, hb2⟩
 obtain ⟨p2, n2, c2, rfl⟩ := ho2.by_.sl
 have HO2 : Hid (Own X.heap.size w2 (.slice p2 n2 c2) (digits L.length)) := hide (by simpa using ho2)
 have HT2 := hide (HX.out.below hb2)
 have HB2 := hide (HCX.out.trans (hb2.mono HCX.out.size))
 have HXS2 := hide hb2.size
 clear ho2 hb2 hwn
 go_wp2_with fail
 refine (ses_seats_any HT2.out).mono ?_
 rintro e w3 ⟨v3, rfl, ho3, hb3⟩
 obtain ⟨p3, n3, c3, rfl⟩ := ho3.sts.sl
 obtain rfl : n3 = L.length := ho3.sts.len.1
 have HO3 := hide ho3
 have HB3 := hide (HB2.out.trans (hb3.mono HB2.out.size))
 have HO2' := hide (HO2.out.below hb3)
 have HXS := hide (Nat.le_trans HXS2.out hb3.size)
 clear ho3 hb3
 go_wp2
 go_loopw [3, 18] (fun v i wr => ∃ k : Nat, k ≤ L.length ∧ i = .int .i64 k ∧ (∃ p n c, v = .slice p n c) ∧ Hid (Own X.heap.size wr v (digits L.length ++ (L.take k).flatMap bytesT) ∧ Below w3.heap.size w3 wr)) (fun _ i _ => L.length - (intOf i).toNat)
 case atStart => exact ⟨0, by omega, rfl, ⟨_, _, _, rfl⟩, hide ⟨by simpa using HO2'.out, Below.refl _ _⟩⟩
 case round =>
  obtain ⟨k, hk, rfl, ⟨p4, n4, c4, rfl⟩, HR⟩ := hrel
  by_cases hlt : k < L.length
  ·obtain ⟨y, hy⟩ : ∃ y, L[k]? = some y := ⟨_, List.getElem?_eq_getElem hlt⟩
   obtain ⟨gd, o, rfl, hc⟩ := HO3.out.sts.at_ (by omega)
   have hd := (hc k y hy).below HR.out.2
   have d0 := hd.c0
   have d1 := hd.c1
   have d2 := hd.c2
   have d3 := hd.c3
   have d4 := hd.c4
   have d5 := hd.c5
   have d6 := hd.c6
   have d7 := hd.c7
   have d8 := hd.c8
   have d9 := hd.c9
   have d10 := hd.c10
   have hym : y ∈ L := List.mem_of_getElem? hy
   have hyo := HRI.out.ok y hym
   have HTK := hide (img_take hy (digits L.length))
   have hblen := bytesT_len hyo
   have hlen4 : (digits L.length ++ (L.take k).flatMap bytesT).length ≤ 1000 := by
    have h1 := imgs_len (L := L.take k) fun x hx => HRI.out.ok x (List.mem_of_mem_take hx)
    have h2 := digits_length L.length (by omega)
    rw [List.length_append]
    rw [List.length_take] at h1
    omega
   have HBO := hide (fun w => ses_bytesOf_any w hyo)
   obtain ⟨m4, hm4⟩ : ∃ m4, digits L.length ++ (L.take k).flatMap bytesT = m4 := ⟨_, rfl⟩
   obtain ⟨by_, hby_⟩ : ∃ by_, bytesT y = by_ := ⟨_, rfl⟩
   rw [hm4] at HTK hlen4 HR
   rw [hby_] at HTK hblen HBO
   have HLN := hide (And.intro hlen4 hblen)
   clear hd hc hy hym hyo hm4 hby_ hlen4 hblen
   obtain ⟨s, q, a, ⟨e1, e2, e3, e4, e5, e6, e7, e8⟩⟩ := y
   unfold stV at HBO
   dsimp only at *
   obtain ⟨Y, hY⟩ : ∃ Y, wr.alloc (.cells #[.int .i64 s, .int .i64 q, .int .i64 a, .int .i64 e1, .int .i64 e2, .int .i64 e3, .int .i64 e4, .int .i64 e5, .int .i64 e6, .int .i64 e7, .int .i64 e8] 84) = Y := ⟨_, rfl⟩
   have hbY : Below wr.heap.size wr Y := by rw [← hY]; exact (Below.refl _ _).alloc (Nat.le_refl _) _
   have hcY : ∀ i v, #[Value.int .i64 s, .int .i64 q, .int .i64 a, .int .i64 e1, .int .i64 e2, .int .i64 e3, .int .i64 e4, .int .i64 e5, .int .i64 e6, .int .i64 e7, .int .i64 e8][i]? = some v → Y.cell? ⟨wr.heap.size, i, none⟩ = some v := fun i v hi => by rw [← hY, World.cell?_alloc_new]; exact hi
   have y0 : Y.cell? ⟨wr.heap.size, 0, none⟩ = some (.int .i64 s) := hcY 0 _ rfl
   have y1 : Y.cell? ⟨wr.heap.size, 1, none⟩ = some (.int .i64 q) := hcY 1 _ rfl
   have y2 : Y.cell? ⟨wr.heap.size, 2, none⟩ = some (.int .i64 a) := hcY 2 _ rfl
   have y3 : Y.cell? ⟨wr.heap.size, 3, none⟩ = some (.int .i64 e1) := hcY 3 _ rfl
   have y4 : Y.cell? ⟨wr.heap.size, 4, none⟩ = some (.int .i64 e2) := hcY 4 _ rfl
   have y5 : Y.cell? ⟨wr.heap.size, 5, none⟩ = some (.int .i64 e3) := hcY 5 _ rfl
   have y6 : Y.cell? ⟨wr.heap.size, 6, none⟩ = some (.int .i64 e4) := hcY 6 _ rfl
   have y7 : Y.cell? ⟨wr.heap.size, 7, none⟩ = some (.int .i64 e5) := hcY 7 _ rfl
   have y8 : Y.cell? ⟨wr.heap.size, 8, none⟩ = some (.int .i64 e6) := hcY 8 _ rfl
   have y9 : Y.cell? ⟨wr.heap.size, 9, none⟩ = some (.int .i64 e7) := hcY 9 _ rfl
   have y10 : Y.cell? ⟨wr.heap.size, 10, none⟩ = some (.int .i64 e8) := hcY 10 _ rfl
   have HOY := hide (And.intro (HR.out.1.below hbY) (HR.out.2.trans (hbY.mono HR.out.2.size)))
   clear hcY hbY
   go_wp2_with fail
   refine (HBO.out _).mono ?_
   rintro e w5 ⟨v5, rfl, ho5, hb5⟩
   obtain ⟨p7, n7, c7, rfl⟩ := ho5.by_.sl
   have HP := hide (two_parts (HOY.out.1.below hb5).by_ ho5.by_)
   have HB5 := hide (HOY.out.2.trans (hb5.mono HOY.out.2.size))
   have hj := hide (join_any HP.out (by have := HLN.out; simp [Lib.lens]; omega) (by simp))
   clear ho5 hb5
   go_wp2_with fail
   refine hj.out.mono ?_
   rintro e w6 ⟨v6, rfl, ho6, hb6⟩
   obtain ⟨p6, n6, c6, rfl⟩ := ho6.by_.sl
   have HB6 := hide ((HB5.out.alloc HB5.out.size (.cells #[.slice p4 n4 c4, .slice p7 n7 c7] 32)).trans (hb6.mono (by have := HB5.out.size; simp; omega)))
   have HO6 : Hid (Own X.heap.size w6 (.slice p6 n6 c6) (m4 ++ by_)) := hide (by
    have := ho6.mono (B' := X.heap.size) (by have := HB5.out.size; have := HXS.out; simp; omega)
    simpa using this)
   clear ho6 hb6 hj
   go_wp2
   go_roundw
   case rel => exact ⟨k + 1, by omega, by go_num, ⟨_, _, _, rfl⟩, hide ⟨by rw [HTK.out]; exact HO6.out, HB6.out⟩⟩
   case measure => simp [intOf]; omega
  ·go_wp2
   go_ret
   have e : L.take k = L := List.take_of_length_le (by omega)
   have ho := HR.out.1
   rw [e] at ho
   exact ⟨_, rfl, ho.mono HCX.out.size, HB3.out.trans (HR.out.2.mono HB3.out.size)⟩
end Go.Proofs.YtionbmlicmibgaaGreatDoor
