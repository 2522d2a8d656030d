/- Awake: a write that is torn. -/
import Derived.Test.YtdghkmpcjjmlfaaDOwn
import Derived.Lib.SlBytesConst
namespace Go.Proofs.Ytdghkmpcjjmlfaa
open Go.RowKit

theorem cell_marked (w : World) (C : Array Value) (t : TypeId) (fr : Nat × Nat) (j : Nat) : (w.alloc (.cells C t fr)).cell? ⟨w.heap.size, j, none⟩ = C[j]? := by
  unfold World.cell?
  rw [heap_new]
  rfl

theorem by_two (w : World) (x y : UInt8) : By (w.alloc (.cells #[.int .u8 x.toNat, .int .u8 y.toNat] 5 (2, 3))) (.slice (some ⟨w.heap.size, 0, none⟩) 2 2) [x, y] := by
  refine ⟨some ⟨w.heap.size, 0, none⟩, 2, rfl, by simp, by unfold maxLen; omega, (fun h => by cases h), fun a e i z hz => ?_⟩
  injection e with e
  subst e
  match i, hz with
  | 0, hz => simp at hz; subst hz; rw [Addr.add_lit, cell_marked]; rfl
  | 1, hz => simp at hz; subst hz; rw [Addr.add_lit, cell_marked]; rfl
  | (j + 2), hz => simp at hz

def aw0 : Dk := Dk.new 100
def aw1 : Dk := (aw0.write [97] 0 [120, 121]).2
def aw2 : Dk := aw1.sync.2
def aw3 : Dk := (aw2.write [97] 2 [122, 119]).2
def aw4 : Dk := (aw3.crash 1 1).2
def aw5 : Dk := aw4.start
theorem aw_codes : (aw0.write [97] 0 [120, 121]).1 = 0 ∧ aw1.sync.1 = 0 ∧ (aw2.write [97] 2 [122, 119]).1 = 0 ∧ (aw3.crash 1 1).1 = 0 ∧ aw5.readE [97] = 0 ∧ aw5.readB [97] = [120, 121, 122] := by
  refine ⟨?_, ?_, ?_, ?_, ?_, ?_⟩
  all_goals kernel_rfl
theorem aw_calm0 : aw0.Calm := ⟨by decide, by decide, by decide, by decide, by decide⟩
theorem aw_calm1 : aw1.Calm := ⟨by decide, by decide, by decide, by decide, by decide⟩
theorem aw_calm2 : aw2.Calm := ⟨by decide, by decide, by decide, by decide, by decide⟩

set_option maxRecDepth 200000 in
set_option maxHeartbeats 4000000 in
theorem awake_any (w : World) : Calls Try.prog 7 #[] w fun e w' => e = .returned (.bool true) ∧ Below w.heap.size w w' := by
  have hcv := fun (w : World) (C : Array Value) (n c : Nat) => Lib.run_convert_bytes_const (P := Try.prog) w 32 5 C n c Try.underlying32 Try.underlying5
  go_enter Try.func7, Try.ntmps7
  go_wp2_with fail
  refine (new_any w (room := 100) (by omega)).mono ?_
  rintro e w1 hf
  obtain ⟨g, rfl, hd0⟩ := Own1.fresh hf
  clear hf
  go_wp2_with fail
  have k1 : Calls Try.prog 22 #[.pointer (some ⟨g, 0, none⟩), .string ⟨#[97]⟩, .int .i64 0, .slice (some ⟨w1.heap.size, 0, none⟩) 2 2] (w1.alloc (.cells #[.int .u8 120, .int .u8 121] 5 (2, 3))) fun e w' => e = .returned (.int .i64 0) ∧ Own1 w g aw1 w' :=
    (write_own (hd0.alloc _) aw_calm0 (s := ⟨#[97]⟩) (by unfold maxLen; decide) (by omega) (by omega) (by_two w1 120 121) (by decide)).mono fun e w' hp => ⟨hp.1.trans (congrArg (fun n : Nat => Ending.returned (.int .i64 (n : Int))) aw_codes.1), hp.2⟩
  refine k1.mono ?_
  rintro e w2 ⟨rfl, hd2⟩
  clear hd0 k1
  go_wp2_with fail
  have k2 : Calls Try.prog 23 #[.pointer (some ⟨g, 0, none⟩)] w2 fun e w' => e = .returned (.int .i64 0) ∧ Own1 w g aw2 w' :=
    (sync_own hd2 aw_calm1).mono fun e w' hp => ⟨hp.1.trans (congrArg (fun n : Nat => Ending.returned (.int .i64 (n : Int))) aw_codes.2.1), hp.2⟩
  refine k2.mono ?_
  rintro e w3 ⟨rfl, hd3⟩
  clear hd2 k2
  go_wp2_with fail
  have k3 : Calls Try.prog 22 #[.pointer (some ⟨g, 0, none⟩), .string ⟨#[97]⟩, .int .i64 2, .slice (some ⟨w3.heap.size, 0, none⟩) 2 2] (w3.alloc (.cells #[.int .u8 122, .int .u8 119] 5 (2, 3))) fun e w' => e = .returned (.int .i64 0) ∧ Own1 w g aw3 w' :=
    (write_own (hd3.alloc _) aw_calm2 (s := ⟨#[97]⟩) (by unfold maxLen; decide) (by omega) (by omega) (by_two w3 122 119) (by decide)).mono fun e w' hp => ⟨hp.1.trans (congrArg (fun n : Nat => Ending.returned (.int .i64 (n : Int))) aw_codes.2.2.1), hp.2⟩
  refine k3.mono ?_
  rintro e w4 ⟨rfl, hd4⟩
  clear hd3 k3
  go_wp2_with fail
  have k4 : Calls Try.prog 24 #[.pointer (some ⟨g, 0, none⟩), .int .i64 1, .int .i64 1] w4 fun e w' => e = .returned (.int .i64 0) ∧ Own1 w g aw4 w' :=
    (crash_own hd4 (by omega) (by omega) (by omega) (by omega)).mono fun e w' hp => ⟨hp.1.trans (congrArg (fun n : Nat => Ending.returned (.int .i64 (n : Int))) aw_codes.2.2.2.1), hp.2⟩
  refine k4.mono ?_
  rintro e w5 ⟨rfl, hd5⟩
  clear hd4 k4
  go_wp2_with fail
  refine (start_own hd5).mono ?_
  rintro e w6 ⟨rfl, hd6⟩
  replace hd6 : Own1 w g aw5 w6 := hd6
  rw [show ((0 : Nat) : Int) = 0 from rfl]
  clear hd5
  go_wp2_with fail
  have k5 : Calls Try.prog 19 #[.pointer (some ⟨g, 0, none⟩), .string ⟨#[97]⟩] w6 fun e w' => ∃ v, e = .returned (.tuple #[v, .int .i64 0]) ∧ w'.ownsRow w6.heap.size 5 1 v 3 ([120, 121, 122].map bv) ∧ Own1 w g aw5 w' := by
    refine (read_own hd6 (s := ⟨#[97]⟩) (by unfold maxLen; decide)).mono fun e w' hp => ?_
    obtain ⟨v, he, hr, _, h⟩ := hp
    have e1 : aw5.readE (⟨#[97]⟩ : ByteArray).data.toList = 0 := aw_codes.2.2.2.2.1
    have e2 : aw5.readB (⟨#[97]⟩ : ByteArray).data.toList = [120, 121, 122] := aw_codes.2.2.2.2.2
    rw [e1] at he
    rw [e2] at hr
    exact ⟨v, he, hr, h⟩
  refine k5.mono ?_
  rintro e w7 ⟨v, rfl, hr, hd7⟩
  obtain ⟨q, n, c, rfl⟩ := (by_row (row_mono hr)).sl
  have hst := conv_by (by_row (row_mono hr))
  have hst0 := conv_at (by_row (row_mono hr))
  have HB := hide hd7.below
  clear k5 hd6 hd7 hr
  go_wp2_with fail
  rw [show ((str [120, 121, 122]).toList == [120, 121, 122]) = true from by kernel_rfl]
  go_ret
  exact ⟨rfl, HB.out⟩
end Go.Proofs.Ytdghkmpcjjmlfaa
