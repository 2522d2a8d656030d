/- The numbers of all traces. -/
import Derived.Test.YtimjplkehlgelaaGreatSoRet
import Derived.Test.YtimjplkehlgelaaGreatShelf
import Derived.Lib.SlKeysI
namespace Go.Proofs.YtimjplkehlgelaaGreat
set_option linter.unusedVariables false
set_option linter.unusedSimpArgs false
open Go.RowKit Go.Maps Go.Sort Go.Shelf

theorem tkeys_sorted {w : World} {b : Nat} {L : List Tr} {D : DataW Value} (h : TrIs w b L D) {ss : List Int} (hp : ss.Perm (intKeys D)) : ss.mergeSort (fun x y => decide (x ≤ y)) = L.map (·.t) := by
  obtain ⟨es, hD, hpw, _⟩ := h.map.entries intK
  obtain ⟨es', hD', hko⟩ := h.map.keysOf
  obtain rfl : es = es' := by rw [hD] at hD'; simpa using hD'
  have hr : (L.map (·.t)).Pairwise (fun x y => x < y) := List.pairwise_map.2 h.rd.rises
  have hnd : (L.map (·.t)).Nodup := hr.imp fun {x y} (h : x < y) e => by omega
  have hq : (L.map (·.t)).Perm (intKeys D) := by
    rw [hD]
    refine perm_intKeys hpw (fun p hp => ?_) hnd fun x => ?_
    · obtain ⟨v, hv⟩ := hko p hp
      obtain ⟨x, _, hx, _⟩ := Maps.keyOf_i64 Tryz.underlying3 hv
      exact ⟨x, hx⟩
    · rw [← hD, h.rd.keys]
      constructor
      · intro hx
        obtain ⟨y, hy, rfl⟩ := List.mem_map.1 hx
        rw [show fndK kR L y.t = some y from fndK_of h.rd.rises.ids hy]
        rfl
      · intro hx
        obtain ⟨y, hy⟩ := Option.isSome_iff_exists.1 hx
        obtain ⟨h1, h2⟩ := fndK_mem hy
        exact List.mem_map.2 ⟨y, h1, h2⟩
  have e := mergeSort_of_perm_i (hp.trans hq.symm)
  unfold leI at e
  rw [e]
  exact List.mergeSort_of_pairwise (hr.imp fun {x y} (h : x < y) => by simp; omega)

/-- slices.Sort's two contracts at this dump, at the fence that asks nothing. -/
theorem sortsA (m : Nat) : AnyZI.SortsIn Tryz.prog Tryz.sortedA_ren Fence.wide m :=
  ⟨fun blk off cap ss W hH hblk hsz => callsIn_wide.2 (AnyM.slices_Sort_int Tryz.sortA blk off cap ss W hH hblk hsz),
   fun p cap W => callsIn_wide.2 (AnyM.slices_Sort_int_none Tryz.sortA p cap W)⟩
theorem tkeys_any (mb : Option Nat) (W : World) : Calls Tryz.prog 59 #[.map mb] W fun e w' => e = .returned (.func (.func 88) #[] #[.pointer (some ⟨W.heap.size, 0, none⟩)]) ∧ w' = W.alloc (.cells #[.map mb] 68) :=
  (callsIn_wide (n := 5)).1 (AnyZI.keys_in Tryz.keysA Fence.wide 5 trivial rfl mb W)
/-- What 'slices.Sorted(maps.Keys(m))' gives. -/
def SortedPost (W : World) (l : List Int) (e : Ending) (w' : World) : Prop := ∃ v, e = .returned v ∧ w'.ownsRow W.heap.size 3 1 v l.length (l.map (Value.int .i64)) ∧ Below W.heap.size W w'
set_option maxHeartbeats 1000000 in
theorem tsorted_any {w : World} {b : Nat} {L : List Tr} {D : DataW Value} (h : TrIs w b L D) (hL : L.length ≤ 1000000) : Calls Tryz.prog 58 #[.func (.func 88) #[] #[.pointer (some ⟨w.heap.size, 0, none⟩)]] (w.alloc (.cells #[.map (some b)] 68)) (SortedPost (w.alloc (.cells #[.map (some b)] 68)) (L.map (·.t))) := by
  have hbl := h.lt
  have hseq : SeqGives Fence.wide 2 Tryz.prog 88 #[.pointer (some ⟨w.heap.size, 0, none⟩)] encZ (fun ss => ss.Perm (intKeys D)) (Maps.size D) (w.alloc (.cells #[.map (some b)] 68)) :=
    AnyZI.keys_gives (ρ := Tryz.keysA_ren) { Tryz.keysA with } Fence.wide _ trivial rfl (by omega) w.heap.size b L.length D _ (by simp) (by simp) (by
      obtain ⟨es, clock, hb, Ft, hs, hD⟩ := h.map
      exact ⟨es, clock, (Below.heap_alloc _ _ b hbl).trans hb, Ft, hs, hD⟩)
  have cS := AnyZI.sorted_in Tryz.sortedA Fence.wide 5 trivial trivial trivial trivial rfl (by omega) (sortsA _) (enters_of Tryz.func87 (by kernel_rfl) rfl) 88 #[.pointer (some ⟨w.heap.size, 0, none⟩)] trivial (enters_of Tryz.func88 (by kernel_rfl) rfl) _ _ (by rw [h.rd.size]; simp [maxLen]; omega) (by rw [h.rd.size]; omega) _ hseq
  change CallsIn _ _ Tryz.prog 58 _ _ _ at cS
  refine ((callsIn_wide (n := 5)).1 cS).mono ?_
  rintro e w' ⟨v, ss, rfl, hS, hrow, hnil, hb⟩
  have hs := tkeys_sorted h hS
  refine ⟨v, rfl, ?_, hb⟩
  have hl : ss.length = (L.map (·.t)).length := by rw [← hs, List.length_mergeSort]
  rw [hs, hl] at hrow
  exact hrow
/-- What Traces says. -/
def TracesPost (w : World) (R : List Tr) (e : Ending) (w' : World) : Prop := ∃ v, e = .returned v ∧ w'.ownsRow w.heap.size 3 1 v R.length ((R.map (·.t)).map (Value.int .i64)) ∧ Below w.heap.size w w'
theorem row_mono {w : World} {B B' : Nat} {ty : TypeId} {n m : Nat} {v : Value} {cs : List Value} (h : w.ownsRow B ty n v m cs) (hB : B' ≤ B) : w.ownsRow B' ty n v m cs :=
  ⟨h.1, h.2.imp id fun ⟨g, cap, cur, e, hb, r⟩ => ⟨g, cap, cur, e, Nat.le_trans hB hb, r⟩⟩
set_option maxRecDepth 200000 in
set_option maxHeartbeats 2000000 in
theorem straces_any {w : World} {gs bm : Nat} {R : List Tr} (h : SoIs w gs bm R) : Calls Tryz.prog 27 #[.pointer (some ⟨gs, 0, none⟩)] w (TracesPost w R) := by
  have HM := hide (smade_any h.c0)
  have HH := hide h
  have hL8 := h.len
  clear h
  go_enter Tryz.func27, Tryz.ntmps27
  go_wp2_with fail
  refine HM.out.mono ?_
  rintro e X ⟨rfl, q, hq⟩
  have hcX : Below w.heap.size w X := by rw [hq]; exact bdrew w q
  clear hq
  have hX := HH.out.below hcX
  have c0 := hX.c0
  obtain ⟨D, hD⟩ := hX.map
  have HS := hide (tsorted_any hD (by omega))
  have HCX := hide hcX
  clear hX hD hcX
  go_wp2_with fail
  refine (tkeys_any _ _).mono ?_
  rintro e w1 ⟨rfl, rfl⟩
  go_wp2_with fail
  refine HS.out.mono ?_
  rintro e w2 ⟨v, rfl, hrow, hb2⟩
  have hll : (R.map (·.t)).length = R.length := by simp
  rw [hll] at hrow
  have hb : Below X.heap.size X w2 := ((Below.refl _ X).alloc (Nat.le_refl _) _).trans (hb2.mono (by simp))
  have HR := hide (row_mono (B' := w.heap.size) hrow (by have := HCX.out.size; simp; omega))
  have HB := hide (HCX.out.trans (hb.mono HCX.out.size))
  clear hrow hb2 hb hll
  go_wp2
  go_ret
  exact ⟨v, rfl, HR.out, HB.out⟩
set_option maxRecDepth 200000 in
set_option maxHeartbeats 2000000 in
theorem slookup_any {w : World} {gs bm : Nat} {R : List Tr} (h : SoIs w gs bm R) {k : Int} (hk : (Lit.int .i64 k).wf = true) : Calls Tryz.prog 26 #[.pointer (some ⟨gs, 0, none⟩), .int .i64 k] w fun e w' => ∃ v', e = .returned v' ∧ OwnB w.heap.size w' v' (lookS (R.map Tr.pl) k) ∧ Below w.heap.size w w' := by
  have HM := hide (smade_any h.c0)
  have HH := hide h
  have HK := hide hk
  clear h hk
  go_enter Tryz.func26, Tryz.ntmps26
  go_wp2_with fail
  refine HM.out.mono ?_
  rintro e X ⟨rfl, q, hq⟩
  have hcX : Below w.heap.size w X := by rw [hq]; exact bdrew w q
  clear hq
  have hX := HH.out.below hcX
  have c0 := hX.c0
  obtain ⟨D, hD⟩ := hX.map
  have hl : (Instr.lookup 68 (.map (some bm)) (.int .i64 k) false).run Tryz.prog X = .ok (ptrV (fndK kR R k)) X := hD.look HK.out 0
  have HCX := hide hcX
  have HX := hide hX
  clear hX hD hcX
  cases hf : fndK kR R k with
  | none =>
    rw [hf] at hl
    dsimp only [ptrV] at hl
    have HLK : Hid (lookS (R.map Tr.pl) k = []) := hide (by unfold lookS; rw [fndK_map Tr.pl kR_pl, hf]; rfl)
    clear hf
    go_wp2_with fail
    refine (branches_no (v := .pointer none) (.inl rfl)).mono ?_
    rintro e2 w2 ⟨rfl, hb2⟩
    have HB := hide (HCX.out.trans (hb2.mono HCX.out.size))
    clear hb2
    go_wp2
    go_ret
    exact ⟨_, rfl, by rw [HLK.out]; exact OwnB.nil _ _, HB.out⟩
  | some y =>
    rw [hf] at hl
    dsimp only [ptrV, Tr.v] at hl
    have HF := hide (HX.out.fo y (fndK_mem hf).1)
    have HLK : Hid (lookS (R.map Tr.pl) k = brs (sortS y.L)) := hide (by unfold lookS; rw [fndK_map Tr.pl kR_pl, hf]; rfl)
    clear hf
    go_wp2_with fail
    refine (branches_any HF.out).mono ?_
    rintro e2 w2 ⟨v2, rfl, ho2, hb2⟩
    have HB := hide (HCX.out.trans (hb2.mono HCX.out.size))
    have HO := hide (ho2.mono HCX.out.size)
    clear hb2 ho2
    go_wp2
    go_ret
    exact ⟨v2, rfl, by rw [HLK.out]; exact HO.out, HB.out⟩
end Go.Proofs.YtimjplkehlgelaaGreat
