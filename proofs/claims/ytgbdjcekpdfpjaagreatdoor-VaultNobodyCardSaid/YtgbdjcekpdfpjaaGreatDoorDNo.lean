/- A disk that no call made. -/
import Derived.Test.YtgbdjcekpdfpjaaGreatDoorDAwake
namespace Go.Proofs.YtgbdjcekpdfpjaaGreatDoor
open Go.RowKit

def No (w : World) (v : Value) : Prop := v = .pointer none ∨ ∃ g, v = .pointer (some ⟨g, 0, none⟩) ∧ w.cell? ⟨g, 3, none⟩ = some (.map none)
theorem No.chg {w w' : World} {v : Value} (h : No w v) (hc : Chg w w' (fun _ => False)) : No w' v := by
  rcases h with h | ⟨g, h, h3⟩
  · exact .inl h
  · exact .inr ⟨g, h, hc.cell h3 fun h => h⟩
theorem No.alloc {w : World} {v : Value} (h : No w v) (o : Obj) : No (w.alloc o) v := h.chg (Chg.of_below (balloc (Below.refl _ _) o) _)

set_option maxRecDepth 200000 in
set_option maxHeartbeats 400000 in
theorem made_no {w : World} {v : Value} (h : No w v) : Calls Tryz.prog 66 #[v] w fun e w' => e = .returned (.bool false) ∧ w = w' := by
  have hne := neq_nilMap0 w
  rcases h with rfl | ⟨g, rfl, h3⟩
  all_goals
    go_enter Tryz.func66, Tryz.ntmps66
    go_wp2
    go_ret
    exact ⟨rfl, rfl⟩

set_option maxRecDepth 200000 in
set_option maxHeartbeats 400000 in
theorem power_no {w : World} {v : Value} (h : No w v) : Calls Tryz.prog 53 #[v] w fun e w' => e = .returned (.int .i64 6) ∧ w = w' := by
  go_enter Tryz.func53, Tryz.ntmps53
  go_wp2_with fail
  refine (made_no h).mono ?_
  rintro e w1 ⟨rfl, rfl⟩
  go_wp2
  go_ret
  exact ⟨rfl, rfl⟩

set_option maxRecDepth 200000 in
set_option maxHeartbeats 400000 in
theorem ready_no {w : World} {v : Value} (h : No w v) (s : ByteArray) : Calls Tryz.prog 73 #[v, .string s] w fun e w' => e = .returned (.int .i64 6) ∧ w = w' := by
  go_enter Tryz.func73, Tryz.ntmps73
  go_wp2_with fail
  refine (power_no h).mono ?_
  rintro e w1 ⟨rfl, rfl⟩
  go_wp2
  go_ret
  exact ⟨rfl, rfl⟩

/-- Behind a call that is refused. -/
def Six (w : World) (e : Ending) (w' : World) : Prop := e = .returned (.int .i64 6) ∧ Chg w w' (fun _ => False)

theorem chg_alloc (w : World) (o : Obj) : Chg w (w.alloc o) (fun _ => False) := Chg.of_below (balloc (Below.refl _ _) o) _
theorem chg_alloc2 (w : World) (o o' : Obj) : Chg w ((w.alloc o).alloc o') (fun _ => False) := Chg.of_below (balloc (balloc (Below.refl _ _) o) o') _

set_option maxRecDepth 200000 in
set_option maxHeartbeats 1000000 in
theorem write_no {w : World} {v : Value} (h : No w v) (s : ByteArray) (x : Int) (p : Option Addr) (n c : Nat) : Calls Tryz.prog 29 #[v, .string s, .int .i64 x, .slice p n c] w (Six w) := by
  go_enter Tryz.func29, Tryz.ntmps29
  go_wp2_with fail
  refine (ready_no (h.chg (chg_alloc2 _ _ _)) s).mono ?_
  rintro e w1 ⟨rfl, rfl⟩
  go_wp2
  go_ret
  exact ⟨rfl, chg_alloc2 _ _ _⟩

set_option maxRecDepth 200000 in
set_option maxHeartbeats 1000000 in
theorem move_no {w : World} {v : Value} (h : No w v) (s t : ByteArray) : Calls Tryz.prog 98 #[v, .string s, .string t] w (Six w) := by
  go_enter Tryz.func98, Tryz.ntmps98
  go_wp2_with fail
  refine (ready_no (h.chg (chg_alloc2 _ _ _)) s).mono ?_
  rintro e w1 ⟨rfl, rfl⟩
  go_wp2
  go_ret
  exact ⟨rfl, chg_alloc2 _ _ _⟩

set_option maxRecDepth 200000 in
set_option maxHeartbeats 1000000 in
theorem drop_no {w : World} {v : Value} (h : No w v) (s : ByteArray) : Calls Tryz.prog 62 #[v, .string s] w (Six w) := by
  go_enter Tryz.func62, Tryz.ntmps62
  go_wp2_with fail
  refine (ready_no (h.chg (chg_alloc _ _)) s).mono ?_
  rintro e w1 ⟨rfl, rfl⟩
  go_wp2
  go_ret
  exact ⟨rfl, chg_alloc _ _⟩

set_option maxRecDepth 200000 in
set_option maxHeartbeats 1000000 in
theorem sync_no {w : World} {v : Value} (h : No w v) : Calls Tryz.prog 34 #[v] w (Six w) := by
  go_enter Tryz.func34, Tryz.ntmps34
  go_wp2_with fail
  refine (power_no h).mono ?_
  rintro e w1 ⟨rfl, rfl⟩
  go_wp2
  go_ret
  exact ⟨rfl, Chg.refl _ _⟩

set_option maxRecDepth 200000 in
set_option maxHeartbeats 1000000 in
theorem arm_no {w : World} {v : Value} (h : No w v) (a b c : Int) : Calls Tryz.prog 19 #[v, .int .i64 a, .int .i64 b, .int .i64 c] w (Six w) := by
  go_enter Tryz.func19, Tryz.ntmps19
  go_wp2_with fail
  refine (power_no h).mono ?_
  rintro e w1 ⟨rfl, rfl⟩
  go_wp2
  go_ret
  exact ⟨rfl, Chg.refl _ _⟩

set_option maxRecDepth 200000 in
set_option maxHeartbeats 1000000 in
theorem crash_no {w : World} {v : Value} (h : No w v) (b c : Int) : Calls Tryz.prog 17 #[v, .int .i64 b, .int .i64 c] w (Six w) := by
  go_enter Tryz.func17, Tryz.ntmps17
  go_wp2_with fail
  refine (power_no h).mono ?_
  rintro e w1 ⟨rfl, rfl⟩
  go_wp2
  go_ret
  exact ⟨rfl, Chg.refl _ _⟩

set_option maxRecDepth 200000 in
set_option maxHeartbeats 1000000 in
theorem start_no {w : World} {v : Value} (h : No w v) : Calls Tryz.prog 25 #[v] w (Six w) := by
  go_enter Tryz.func25, Tryz.ntmps25
  go_wp2_with fail
  refine (made_no h).mono ?_
  rintro e w1 ⟨rfl, rfl⟩
  go_wp2
  go_ret
  exact ⟨rfl, Chg.refl _ _⟩

set_option maxRecDepth 200000 in
set_option maxHeartbeats 1000000 in
theorem read_no {w : World} {v : Value} (h : No w v) (s : ByteArray) : Calls Tryz.prog 71 #[v, .string s] w fun e w' => e = .returned (.tuple #[.slice none 0 0, .int .i64 6]) ∧ w = w' := by
  go_enter Tryz.func71, Tryz.ntmps71
  go_wp2_with fail
  refine (ready_no h s).mono ?_
  rintro e w1 ⟨rfl, rfl⟩
  go_wp2
  go_ret2
  exact ⟨rfl, rfl⟩

set_option maxRecDepth 200000 in
set_option maxHeartbeats 1000000 in
theorem list_no {w : World} {v : Value} (h : No w v) : Calls Tryz.prog 68 #[v] w fun e w' => e = .returned (.slice none 0 0) ∧ w = w' := by
  go_enter Tryz.func68, Tryz.ntmps68
  go_wp2_with fail
  refine (power_no h).mono ?_
  rintro e w1 ⟨rfl, rfl⟩
  go_wp2
  go_ret
  exact ⟨rfl, rfl⟩

set_option maxRecDepth 200000 in
set_option maxHeartbeats 1000000 in
theorem used_no {w : World} {v : Value} (h : No w v) : Calls Tryz.prog 69 #[v] w fun e w' => e = .returned (.int .i64 0) ∧ w = w' := by
  go_enter Tryz.func69, Tryz.ntmps69
  go_wp2_with fail
  refine (power_no h).mono ?_
  rintro e w1 ⟨rfl, rfl⟩
  go_wp2
  go_ret
  exact ⟨rfl, rfl⟩

end Go.Proofs.YtgbdjcekpdfpjaaGreatDoor
