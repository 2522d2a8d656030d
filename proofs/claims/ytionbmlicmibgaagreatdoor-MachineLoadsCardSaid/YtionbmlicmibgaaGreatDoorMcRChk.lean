import Derived.Test.YtionbmlicmibgaaGreatDoorMcChk
import Derived.Test.YtionbmlicmibgaaGreatDoorSpArg
set_option linter.unusedVariables false
set_option linter.unusedSimpArgs false
namespace Go.Proofs.YtionbmlicmibgaaGreatDoor
open Go.Proofs.Tryz
open Go.RowKit
set_option maxRecDepth 100000 in
set_option maxHeartbeats 1100000 in
theorem Ig {w : World} {v : Value} {l : List Int} (h : Ns w v l) : Calls prog 66 #[v] w (Sb w l) := by
 obtain ⟨p, n, c, rfl⟩ := h.sl;have hn := h.len;have vV := hn.1;subst vV;have jG : l.length ≤ maxLen := acN hn.2.1 hn.2.2;unfold maxLen at jG;have H := af h;have HC := af (fun h0 : 0 < l.length => h.at_ h0);clear h hn;by_cases h0 : 0 < l.length
 ·obtain ⟨g, o, rfl, hc⟩ := HC.out h0;have AL := af hc;have fh : Hid (lU l = dF 0 l) := by
   cases l with
   | nil => simp at h0
   | cons x r => rfl
  clear hc HC H;go_enter func66, ntmps66
  go_wp2;go_loop [3, 5, 8] (fun lo _ i => ∃ (k : Nat) (z : Int), k ≤ l.length ∧ -1 ≤ z ∧ z ≤ 6 ∧ i = .int .i64 k ∧ lo = .int .i64 z ∧ (0 < k → 0 ≤ z) ∧ Hid (dF 0 l = dF (z + 1) (l.drop k))) (fun _ _ i => l.length - (intOf i).toNat)
  case atStart => exact ⟨0, -1, by omega, by omega, by omega, rfl, rfl, by omega, af (by rw [afc]; rfl)⟩
  case round =>
   obtain ⟨k, z, hk, gu, Zw, rfl, rfl, hkz, HR⟩ := hrel;have Ih := af hkz;clear hkz;by_cases bd : k < l.length
   ·have hx := acF bd;have hcell := AL.out k _ hx;have HD : Hid (l.drop k = l[k] :: l.drop (k + 1)) := af (adL bd);obtain ⟨x, Wi⟩ : ∃ x, l[k] = x := ⟨_, rfl⟩
    rw [Wi] at hcell HD;clear hx Wi;have HF : Hid (dF (z + 1) (x :: l.drop (k + 1)) = (decide (z + 1 ≤ x) && decide (x < 7) && dF (x + 1) (l.drop (k + 1)))) := af rfl;by_cases hzx : x ≤ z
    ·have HX : Hid (lU l = false) := af (by
      rw [fh.out, HR.out, HD.out, HF.out, ac1 (by omega : ¬ z + 1 ≤ x)];rfl)
     clear HF HD HR fh;go_wp2;go_ret;exact ⟨fZ HX.out, rfl⟩
    ·by_cases hx7 : 6 < x
     ·have HX : Hid (lU l = false) := af (by
       rw [fh.out, HR.out, HD.out, HF.out, ac1 (by omega : ¬ x < 7), Bool.and_false];rfl)
      clear HF HD HR fh;go_wp2;go_ret;exact ⟨fZ HX.out, rfl⟩
     ·have HX : Hid (dF 0 l = dF (x + 1) (l.drop (k + 1))) := af (by
       rw [HR.out, HD.out, HF.out, ac4 (by omega : z + 1 ≤ x), ac4 (by omega : x < 7)];rfl)
      clear HF HD HR;go_wp2;go_round
      case rel => exact ⟨k + 1, x, by omega, by omega, by omega, by go_num, rfl, fun _ => by omega, HX⟩
      case measure => simp [intOf]; omega
   ·have HX : Hid (lU l = true) := af (by
     rw [fh.out, HR.out, aei (by omega)];rfl)
    have hz := Ih.out (by omega);clear HR fh;go_wp2;go_ret;exact ⟨fZ HX.out, rfl⟩
 ·obtain rfl : l = [] := acP (by omega);clear HC H h0;go_enter func66, ntmps66
  go_wp2;go_loop [3, 5, 8] (fun lo _ i => lo = .int .i64 (-1) ∧ i = .int .i64 0) (fun _ _ _ => 0)
  case atStart => exact ⟨rfl, rfl⟩
  case round =>
   obtain ⟨rfl, rfl⟩ := hrel;go_wp2;go_ret;exact ⟨rfl, rfl⟩
end Go.Proofs.YtionbmlicmibgaaGreatDoor
