/- All names, rising. -/
import Derived.Test.YtdghkmpcjjmlfaaDRange
import Derived.Sort.KeysCollected
import Derived.Sort.OwnSorted
namespace Go.Proofs.Ytdghkmpcjjmlfaa
open Go.RowKit Go.Maps Go.Sort

theorem Try.info9 : (Try.prog.info? 9).map (fun i => (i.zero, i.size, i.bytes)) = some (some (.string ⟨#[]⟩), 1, 16) := by kernel_rfl

/-- What was collected, sorted, is the files' names. -/
theorem names_sorted {F : Fl} (hF : Rises F) {D : DataW Value} {left : Lit → Bool} {ss : List (List UInt8)} (hk : ∀ k, Maps.has D (.string k) = (get F k).isSome) (hC : Collected D left ss) (hl : ∀ k, left k = false) :
    ss.mergeSort (fun x y => decide (x ≤ y)) = F.map (·.1) := by
  have hs : (F.map (·.1)).Pairwise (fun x y => x < y) := List.pairwise_map.2 hF
  have hnd : (F.map (·.1)).Nodup := List.Pairwise.imp (fun {x y} (h : x < y) (e : x = y) => nm_irrefl y (by rw [e] at h; exact h)) hs
  have hp : ss.Perm (F.map (·.1)) := by
    refine (List.perm_ext_iff_of_nodup hC.1 hnd).2 fun x => ?_
    rw [hC.2 x, hk, hl]
    simp only [and_true]
    constructor
    · intro h
      obtain ⟨bs, hbs⟩ := Option.isSome_iff_exists.1 h
      exact List.mem_map.2 ⟨_, get_mem hbs, rfl⟩
    · intro h
      obtain ⟨p, hp, rfl⟩ := List.mem_map.1 h
      rw [get_of_mem hF (show (p.1, p.2) ∈ F from hp)]
      rfl
  have e := mergeSort_of_perm hp
  unfold leB at e
  rw [e]
  refine List.mergeSort_of_pairwise (List.Pairwise.imp (fun {x y} (h : x < y) => ?_) hs)
  have hle : x ≤ y := fun h' => nm_irrefl _ (nm_trans h h')
  exact decide_eq_true hle

set_option maxRecDepth 200000 in
set_option maxHeartbeats 1000000 in
theorem names_any {w : World} {S : Nat → Prop} {b : Nat} {F : Fl} {V : List UInt8 → Value} {D : DataW Value} (h : FilesIs w S b F V D) (hS : ∀ i, S i → i < w.heap.size) (hn : F.length ≤ 1000000) :
    Calls Try.prog 62 #[.map (some b)] w fun e w' => ∃ v, e = .returned v ∧ v ≠ .slice none 0 0 ∧ w'.ownsRow w.heap.size 9 1 v F.length ((F.map (·.1)).map encStr) ∧ Below w.heap.size w w' := by
  obtain ⟨i0, hi, hz0, hz1, hz2⟩ := info_parts Try.info9
  have hbl := hS b h.in_
  have hown := h.map
  have hlen0 := h.map.len Try.underlying51 3
  have hsz := h.size
  have H := hide h
  rw [hsz] at hlen0
  have HSZ := hide hsz
  clear h hS hsz
  go_enter Try.func62, Try.ntmps62
  go_wp2_with (first
    | (at_make; refine wpList_make_own _ rfl _ _ 71 rfl w.heap.size 9 i0 (.string ⟨#[]⟩) 1 Try.underlying71 hi hz0 hz1 _ _ _ F.length rfl rfl rfl (by rw [hz2]; omega) (by unfold maxLen; omega) (Nat.le_refl _) ?_; intro w1 hrow1 hg1)
    | (at_range; refine wpList_range_own _ rfl _ 51 rfl 9 32 strK Try.underlying51 _ b F.length D rfl (hown.kept hg1 (by simp)) ?_; intro w0 hrg0 hg0 hs0)
    | go_in)
  go_frame
  go_loopw [3] (fun v wr => ∃ (left : Lit → Bool) (cnt : Nat) (ss : List (List UInt8)), wr.ranges Try.prog 9 held b w1.heap.size F.length D left cnt ∧ ss.length + cnt ≤ F.length ∧
      wr.ownsRow w.heap.size 9 1 v ss.length (ss.map encStr) ∧ v ≠ .slice none 0 0 ∧ Collected D left ss ∧ Below w.heap.size w wr)
    (fun _ wr => wr.rangeLeft b w1.heap.size)
  case atStart =>
    exact ⟨_, _, [], hrg0, by simp [HSZ.out], hrow1.kept hg0 (Or.inr (by simp [Value.ownBlock])), by simp, Collected.start D,
      ((Below.refl _ _).grown hg1 (Nat.le_refl _) (fun j hj => by cases hj)).grown hg0 hg1.size (fun j hj => by cases hj)⟩
  case round =>
    obtain ⟨left, cnt, ss, hrg, hcs, hrow, hnn, hC, hnx⟩ := hrel
    go_wp2_with (first
      | (at_next; refine wpList_next_ranges _ rfl _ rfl 9 strK held encStr (fun c : Option Addr × Nat × Nat => .slice c.1 c.2.1 c.2.2) (fun key kl hk => by obtain ⟨x, hx, _⟩ := Maps.keyOf_str Try.underlying9 hk; exact ⟨x, hx⟩) (fun v y h => (held_slice h).1) b w1.heap.size F.length D left cnt rfl hrg ?_ ?_)
      | go_in)
    · intro hc0 hl0
      rcases hrow.2 with ⟨hnil, _⟩ | ⟨g, cap, cur, rfl, hbase, hb, h1, h2, h3, h4⟩
      · exact absurd hnil hnn
      have hH : Holds encStr wr g 0 ss.toArray := holds_of_block hb (by simpa using h4)
      have hgl : g < wr.heap.size := (Array.getElem?_eq_some_iff.1 hb).1
      have hsrt := names_sorted H.out.rises H.out.keys hC hl0
      have hc := Try.slices_Sort_string g 0 cap ss wr hH hgl (by omega)
      rw [hsrt] at hc
      have hle : (F.map (·.1)).length = ss.length := by rw [← hsrt, List.length_mergeSort]
      have HB := hide hb
      have HC := hide hc
      have HLE := hide hle
      have H3 := hide (And.intro h1 (And.intro h2 h3))
      have HNX := hide hnx
      clear hrow hrg hH hsrt hc hle hb h4 hC hcs h1 h2 h3 hnx
      go_wp2_with fail
      refine HC.out.mono ?_
      rintro e w' ⟨rfl, nn, os, rfl⟩
      have hfin := ownsRow_sorted (n := nn) (os := os) HLE.out hbase HB.out H3.out.1 H3.out.2.1 H3.out.2.2
      have HFIN := hide hfin
      have HNY := hide (HNX.out.grown (grownBy_sorted (n := nn) (os := os) (g := g) (F.map (·.1)).toArray) HNX.out.size (fun j hj => by cases hj; exact hbase))
      clear hfin
      go_wp2
      go_ret
      have hl2 : F.length = ss.length := by rw [← HLE.out, List.length_map]
      exact ⟨_, rfl, by simp, by rw [hl2]; exact HFIN.out, HNY.out⟩
    · intro x c1 c2 c3 kl yd yp w2 cnt2 hkey hlk hv hat hrg2 hlt hg2 hs2 hen
      obtain ⟨x', ex, rfl, _⟩ := Maps.keyOf_str Try.underlying9 hkey
      obtain rfl : x = x' := encStr_inj ex
      have hrow2 := hrow.kept hg2 (Or.inr (row_ne_iter hrow hrg).symm)
      clear hs2
      go_wp2_with (first
        | (at_builtin; refine wpList_append_own _ rfl _ _ 71 rfl w.heap.size 9 i0 (.string ⟨#[]⟩) 1 16 Try.underlying71 hi hz0 hz1 hz2 rfl (by decide) _ _ _ rfl (hrow2.alloc _) ⟨w2.heap.size, 0, none⟩ 1 1 [encStr x] rfl rfl (cell_one_new _ _ _) (by simp [Value.oneCell', encStr]) (by unfold maxLen at *; omega) (by omega) (by have := hnx.size; have := hg2.size; simp; omega) ?_; intro v' w3 hown' hg3 hnil3; go_frame)
        | go_in)
      have hrg3 := (hrg2.alloc _).kept hg3 (row_ne_low hrow2 hbl) (row_ne_iter hrow2 hrg2)
      go_roundw
      case rel =>
        refine ⟨_, cnt2, ss ++ [x], hrg3, by simp; omega, by simpa using hown', fun hv' => by have := (hnil3.1 hv').2; omega, hC.step hlk hat, ?_⟩
        exact ((hnx.grown hg2 hnx.size (fun j hj => by cases hj; exact hg1.size)).alloc (by have := hnx.size; have := hg2.size; omega) _).grown hg3 (by have := hnx.size; have := hg2.size; simp; omega) (fun j hj => (hrow2.lt j hj).1)
      case measure => rw [hrg3.left_eq, hrg.left_eq]; exact hlt
end Go.Proofs.Ytdghkmpcjjmlfaa
