/- Several texts made one. -/
import Derived.Test.YtgbdjcekpdfpjaaGreatDoorVg
import Derived.Test.YtgbdjcekpdfpjaaGreatDoorVm
import Derived.Deep.AppendSrc
import Derived.Deep.Upon
import Derived.Deep.AppendLies
import Derived.Test.YtgbdjcekpdfpjaaGreatDoorVAwake
import Derived.Test.YtgbdjcekpdfpjaaGreatDoorVo
set_option linter.unusedVariables false
set_option linter.unusedSimpArgs false
namespace Go.Proofs.YtgbdjcekpdfpjaaGreatDoor
open Go.RowKit
section
variable {S k : Sn} (hg : S = sn0 ∨ S.chk = 0) (hk : k.chk = 0) (hx : S.ix < k.ix)
include hg hk hx
end
end Go.Proofs.YtgbdjcekpdfpjaaGreatDoor
namespace Go.Proofs.YtgbdjcekpdfpjaaGreatDoor
open Go.RowKit
end Go.Proofs.YtgbdjcekpdfpjaaGreatDoor
namespace Go.Proofs.YtgbdjcekpdfpjaaGreatDoor
open Go.RowKit
theorem good_many {S : Sn} (h : S = sn0 ∨ S.chk = 0) : S.vo.length ≤ 1000 ∧ S.da.length ≤ 300000 ∧ 0 ≤ S.ix ∧ S.ix ≤ 1099511627776 := by
 rcases h with rfl | h
 ·decide
 ·have := chk_ok h; omega
def LaA (w : World) (S : Sn) (e : Ending) (w' : World) : Prop := ∃ vo da, e = .returned (.tuple #[.agg #[.int .i64 S.ix, .int .i64 S.tm, vo, da], .bool (decide (0 < S.ix))]) ∧ OwnN w.heap.size w' vo S.vo ∧ Own w.heap.size w' da S.da ∧ Go.Proofs.YtgbdjcekpdfpjaaGreatDoor.fits S.ix ∧ Go.Proofs.YtgbdjcekpdfpjaaGreatDoor.fits S.tm ∧ Below w.heap.size w w'
theorem vlast_all {w : World} {b g : Nat} {vo da : Value} {s : Sn} (h : Vt w b vo da s g) (hg : s = sn0 ∨ s.chk = 0) : Calls Tryz.prog 35 #[.pointer (some ⟨b, 0, none⟩)] w (LaA w s) := by
 by_cases h0 : 0 < s.ix
 ·have hl := good_many hg
  refine (vlast_any h h0 (by omega) (by omega)).mono ?_
  rintro e w' ⟨v, rfl, ⟨vo', da', rfl, h1, h2, h3, h4⟩, h5⟩
  exact ⟨vo', da', by rw [decide_eq_true h0], h1, h2, h3, h4, h5⟩
 ·have hs : s = sn0 := by
   rcases hg with e | e
   ·exact e
   ·have := chk_ix e; omega
  refine (vlast_none h h0).mono ?_
  rintro e w' ⟨rfl, hb⟩
  subst hs
  exact ⟨_, _, rfl, OwnN.nil _ _, Own.nil _ _, by show Go.Proofs.YtgbdjcekpdfpjaaGreatDoor.fits 0; unfold Go.Proofs.YtgbdjcekpdfpjaaGreatDoor.fits; omega, by show Go.Proofs.YtgbdjcekpdfpjaaGreatDoor.fits 0; unfold Go.Proofs.YtgbdjcekpdfpjaaGreatDoor.fits; omega, hb⟩
section
variable {w3 w : World} {b dd j : Nat} {S : Sn} {st : Dk}
theorem file_most {s : Sn} (h : s.chk = 0) : s.file.length ≤ 280000 := by
 have hh := head_le h
 have hd := (chk_parts h).2.2.2.2.2
 have hf := flat_len (s.head :: s.pieces) (fun p hp => by
  rcases List.mem_cons.1 hp with rfl | hp
  ·omega
  ·have := piece_le _ _ p hp; omega)
 have hpf : s.pieces.flatten = s.da := pieces_flat _ _ (Nat.le_refl _)
 have hpc : s.pieces.length * 512 ≤ s.da.length + 511 := pieces_count s.da.length s.da
 have : s.file.length = (((s.head :: s.pieces).map recL).flatten).length := rfl
 rw [this]
 simp only [List.flatten_cons, List.length_append, List.length_cons, hpf] at hf
 omega
end
section
variable {w w' : World} {K T : Nat → Prop} {g : Nat} {S : Sn} {vo da : Value}
end
end Go.Proofs.YtgbdjcekpdfpjaaGreatDoor
namespace Go.Proofs.YtgbdjcekpdfpjaaGreatDoor
open Go.RowKit
theorem flat_take_le : ∀ (l : List (List UInt8)) (k : Nat), ((l.take k).flatten).length ≤ l.flatten.length
 | [], k => by simp
 | a :: r, 0 => by simp
 | a :: r, k + 1 => by
  have := flat_take_le r k
  simp only [List.take_succ_cons, List.flatten_cons, List.length_append]
  omega
set_option maxRecDepth 200000 in
set_option maxHeartbeats 16000000 in
theorem rfile_any {w : World} {v : Value} {s : Sn} (h : SnV w v s) (hc : s.chk = 0) : Calls Tryz.prog 92 #[v] w fun e w' => ∃ v', e = .returned v' ∧ Own w.heap.size w' v' s.file ∧ Below w.heap.size w w' := by
 obtain ⟨vo, da, rfl, hv, hd, f0, f1⟩ := h
 obtain ⟨p1, n1, c1, rfl⟩ := hv.sl
 obtain ⟨p2, n2, c2, rfl⟩ := hd.sl
 obtain ⟨X, hX⟩ : ∃ X, w.alloc (.cells #[.int .i64 s.ix, .int .i64 s.tm, .slice p1 n1 c1, .slice p2 n2 c2] 42) = X := ⟨_, rfl⟩
 have hbX : Below w.heap.size w X := by rw [← hX]; exact balloc (Below.refl _ _) _
 have hrX : X.heap[w.heap.size]? = some (.cells #[.int .i64 s.ix, .int .i64 s.tm, .slice p1 n1 c1, .slice p2 n2 c2] 42 (0, 0)) := by rw [← hX]; exact Array.getElem?_push_size
 have x0 : X.cell? ⟨w.heap.size, 0, none⟩ = some (.int .i64 s.ix) := by rw [cell_of_row X _ 0 _ _ (0, 0) hrX]; rfl
 have x1 : X.cell? ⟨w.heap.size, 1, none⟩ = some (.int .i64 s.tm) := by rw [cell_of_row X _ 1 _ _ (0, 0) hrX]; rfl
 have x2 : X.cell? ⟨w.heap.size, 2, none⟩ = some (.slice p1 n1 c1) := by rw [cell_of_row X _ 2 _ _ (0, 0) hrX]; rfl
 have x3 : X.cell? ⟨w.heap.size, 3, none⟩ = some (.slice p2 n2 c2) := by rw [cell_of_row X _ 3 _ _ (0, 0) hrX]; rfl
 have HP := hide (rparts_any (w := X) (v := .agg #[.int .i64 s.ix, .int .i64 s.tm, .slice p1 n1 c1, .slice p2 n2 c2]) (s := s) ⟨_, _, rfl, hv.below hbX, hd.below hbX, f0, f1⟩ hc)
 have HFM := hide (file_most hc)
 have HBX := hide hbX
 clear hbX hrX hv hd f0 f1 hc
 go_enter Tryz.func92, Tryz.ntmps92
 go_wp2_with fail
 clear hX x0 x1 x2 x3
 refine HP.out.mono ?_
 rintro e w1 ⟨p, n, c, rfl, hg, hb1⟩
 have hn := hg.gath.bss.len
 obtain ⟨N, hN⟩ : ∃ N, s.recs.length = N := ⟨_, rfl⟩
 obtain rfl : n = N := by omega
 have hnc := hn.2.1
 unfold maxLen at hnc
 have HG := hide hg
 have HN := hide hN
 have HB1 := hide (HBX.out.trans (hb1.mono HBX.out.size))
 clear hg hb1 hN hn HP
 go_wp2_with fail
 go_loopw [3, 5, 9] (fun u _ i wr => ∃ (k : Nat) (q m d : _), u = .slice q m d ∧ k ≤ n ∧ i = .int .i64 k ∧ Hid (Own w1.heap.size wr (.slice q m d) (s.recs.take k).flatten ∧ Below w1.heap.size w1 wr)) (fun _ _ i _ => n - (intOf i).toNat)
 case atStart => exact ⟨0, none, 0, 0, rfl, Nat.zero_le _, rfl, hide ⟨Own.nil _ _, Below.refl _ _⟩⟩
 case round =>
  obtain ⟨k, q, m, d, rfl, hk, rfl, hrel⟩ := hrel
  have HR := hide hrel.out
  clear hrel
  by_cases hlt : (k : Int) < (n : Int)
  ·obtain ⟨bb, oo, q2, m2, d2, l2, rfl, hl2, hcell, hby⟩ := (HG.out.below HR.out.2).gath.bss.cellAt (k := k) (by omega)
   have HL2 := hide hl2
   have HBY := hide hby
   have HLE : Hid ((s.recs.take k).flatten.length + l2.length ≤ 140737488355328) := hide (by
    have h1 := flat_take_le s.recs (k + 1)
    rw [List.take_add_one, HL2.out] at h1
    simp at h1
    have h2 := HFM.out
    have h3 : s.file.length = s.recs.flatten.length := rfl
    simp at h3 ⊢
    omega)
   have hle : w1.heap.size ≤ wr.heap.size := HR.out.2.size
   clear hl2 hby
   go_wp2_with (at_builtin; go_must (refine wpList_append_by (v := .slice q m d) rfl _ _ rfl rfl rfl rfl HR.out.1 HBY.out HLE.out hle ?_); intro v3 w3 ho3 hx3 hb3 hy3)
   obtain ⟨p4, n4, c4, rfl⟩ := ho3.by_.sl
   have HO := hide (show Own w1.heap.size w3 (.slice p4 n4 c4) (s.recs.take (k + 1)).flatten from by
    rw [List.take_add_one, HL2.out]
    simpa using ho3)
   have HBN := hide (HR.out.2.trans hb3)
   clear ho3 hb3
   exact ⟨⟨k + 1, p4, n4, c4, rfl, by omega, by go_num, hide ⟨HO.out, HBN.out⟩⟩, by simp [intOf]; omega⟩
  ·obtain rfl : k = n := by omega
   have HE : Hid ((s.recs.take k).flatten = s.file) := hide (by rw [List.take_of_length_le (by have := HN.out; omega)]; rfl)
   go_wp2
   go_ret
   refine ⟨_, rfl, ?_, HB1.out.trans (HR.out.2.mono HB1.out.size)⟩
   rw [← HE.out]
   exact HR.out.1.mono HB1.out.size
end Go.Proofs.YtgbdjcekpdfpjaaGreatDoor
