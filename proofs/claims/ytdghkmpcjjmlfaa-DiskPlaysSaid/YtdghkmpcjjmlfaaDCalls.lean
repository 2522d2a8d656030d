/- The other calls of a disk. -/
import Derived.Test.YtdghkmpcjjmlfaaDTrim
import Derived.Test.YtdghkmpcjjmlfaaDNames
namespace Go.Proofs.Ytdghkmpcjjmlfaa
open Go.RowKit

def Dk.start (st : Dk) : Dk := { st with down := false }
def Dk.arm (st : Dk) (n keep tear : Int) : Nat × Dk := if st.down then (22, st) else (0, { st with fn := (max n 0).toNat, keep := keep, tear := tear })
def Dk.crash (st : Dk) (keep tear : Int) : Nat × Dk := if st.down then (22, st) else (0, st.fall keep tear)
def Dk.sync (st : Dk) : Nat × Dk := if st.down then (22, st) else if st.fn = 1 then (22, st.fall st.keep st.tear) else (0, { st with fn := st.fn - 1, last := st.seen, acts := [] })
def Dk.readE (st : Dk) (k : List UInt8) : Nat := if rdy st.down k ≠ 0 then rdy st.down k else if (get st.seen k).isSome then 0 else 21
def Dk.readB (st : Dk) (k : List UInt8) : List UInt8 := if rdy st.down k ≠ 0 then [] else (get st.seen k).getD []
def Dk.names (st : Dk) : List (List UInt8) := if st.down then [] else st.seen.map (·.1)

set_option maxRecDepth 200000 in
set_option maxHeartbeats 4000000 in
theorem start_call {w : World} {S C : Nat → Prop} {g : Nat} {st : Dk} (h : DiskIs w S C g st) :
    Calls Try.prog 25 #[.pointer (some ⟨g, 0, none⟩)] w fun e w' => e = .returned (.int .i64 (0 : Nat)) ∧ DPost w S C g st.start w' := by
  obtain ⟨A, L, bs, bl, a, xs, Vs, Vl, Ds, Dl, hh, hA, hL, hacts, sA, sL, sa⟩ := h.parts
  have c3 := hh.c3
  have c2 := hh.c2
  have f2 := hh.fr 2
  have hset : Hd (w.setCell ⟨g, 2, none⟩ (.bool false)) g st.room st.used false (.map (some bl)) (.map (some bs)) a st.fn st.keep st.tear := Hd.set hh 2 (.bool false)
  have hc := chg_set w g 2 (.bool false)
  have hpost : DPost w S C g st.start (w.setCell ⟨g, 2, none⟩ (.bool false)) := by
    have hsz := hc.size
    refine ⟨S, C, ⟨⟨h.ok.rises, h.ok.fits, h.ok.few, h.ok.room, h.ok.most, fun h1 => by simp [Dk.start] at h1, h.ok.many, h.ok.fuse⟩, fun i hi => Nat.lt_of_lt_of_le (h.cap i hi) hsz, fun i hi => Nat.lt_of_lt_of_le (h.sap i hi) hsz, h.sep, h.in_, A, L, bs, bl, a, xs, Vs, Vl, Ds, Dl, hset,
      hA.chg hc fun i hi e => (sA i hi).2.2.1 e, hL.chg hc fun i hi e => (sL i hi).2.1 e, hacts.chg hc (fun i hi e => h.sep g h.in_ (e ▸ hi)) fun i hi e => (sa i hi).2 e, sA, sL, sa⟩, hc.mono fun i hi => hi ▸ h.in_, fun _ hi => .inl hi, fun _ hi => .inl hi⟩
  have HP := hide hpost
  clear hpost hset hc hh hA hL hacts sA sL sa h
  go_enter Try.func25, Try.ntmps25
  go_wp2_with fail
  refine (made_any c3).mono ?_
  rintro e w1 ⟨rfl, rfl⟩
  go_wp2
  go_ret
  exact ⟨rfl, HP.out⟩

set_option maxRecDepth 200000 in
set_option maxHeartbeats 4000000 in
theorem crash_call {w : World} {S C : Nat → Prop} {g : Nat} {st : Dk} (h : DiskIs w S C g st) {keep tear : Int} (hk : keep ≤ 9223372036854775807) (hk' : -9223372036854775808 ≤ keep) (ht : tear ≤ 9223372036854775807) (ht' : -9223372036854775808 ≤ tear) :
    Calls Try.prog 24 #[.pointer (some ⟨g, 0, none⟩), .int .i64 keep, .int .i64 tear] w fun e w' => e = .returned (.int .i64 ((st.crash keep tear).1 : Nat)) ∧ DPost w S C g (st.crash keep tear).2 w' := by
  obtain ⟨A, L, bs, bl, a, xs, Vs, Vl, Ds, Dl, hh, _⟩ := h.parts
  have c3 := hh.c3
  have c2 := hh.c2
  rcases hd : st.down with _ | _
  · have HF := hide (fall_any h hk hk' ht ht')
    have e1 : st.crash keep tear = (0, st.fall keep tear) := by unfold Dk.crash; rw [hd]; rfl
    rw [hd] at c2
    have E1 := hide e1
    clear e1 hh h
    go_enter Try.func24, Try.ntmps24
    go_wp2_with fail
    refine (power_any c2 c3).mono ?_
    rintro e w1 ⟨rfl, rfl⟩
    rw [show ((pow false : Nat) : Int) = 0 from rfl]
    go_wp2_with fail
    refine HF.out.mono ?_
    rintro e w2 ⟨rfl, hp⟩
    go_wp2
    go_ret
    rw [E1.out]
    exact ⟨rfl, hp⟩
  · have HS := hide (DPost.same h (Chg.refl _ _))
    have e1 : st.crash keep tear = (22, st) := by unfold Dk.crash; rw [hd]; rfl
    rw [hd] at c2
    have E1 := hide e1
    clear e1 hh h
    go_enter Try.func24, Try.ntmps24
    go_wp2_with fail
    refine (power_any c2 c3).mono ?_
    rintro e w1 ⟨rfl, rfl⟩
    rw [show ((pow true : Nat) : Int) = 22 from rfl]
    go_wp2
    go_ret
    rw [E1.out]
    exact ⟨rfl, HS.out⟩

set_option maxRecDepth 200000 in
set_option maxHeartbeats 4000000 in
theorem arm_call {w : World} {S C : Nat → Prop} {g : Nat} {st : Dk} (h : DiskIs w S C g st) {n keep tear : Int} (hn : n ≤ 9223372036854775807) (hn' : -9223372036854775808 ≤ n) :
    Calls Try.prog 29 #[.pointer (some ⟨g, 0, none⟩), .int .i64 n, .int .i64 keep, .int .i64 tear] w fun e w' => e = .returned (.int .i64 ((st.arm n keep tear).1 : Nat)) ∧ DPost w S C g (st.arm n keep tear).2 w' := by
  obtain ⟨A, L, bs, bl, a, xs, Vs, Vl, Ds, Dl, hh, hA, hL, hacts, sA, sL, sa⟩ := h.parts
  have c3 := hh.c3
  have c2 := hh.c2
  have c6 := hh.c6
  have c7 := hh.c7
  have c8 := hh.c8
  have f6 := hh.fr 6
  have f7 := hh.fr 7
  have f8 := hh.fr 8
  rcases hd : st.down with _ | _
  · have e1 : st.arm n keep tear = (0, { st with fn := (max n 0).toNat, keep := keep, tear := tear }) := by unfold Dk.arm; rw [hd]; rfl
    have em : max n 0 = (((max n 0).toNat : Nat) : Int) := by omega
    have s6 := Hd.set hh 6 (.int .i64 (max n 0))
    have s7 := Hd.set s6 7 (.int .i64 keep)
    have s8 := Hd.set s7 8 (.int .i64 tear)
    obtain ⟨W, hW⟩ : ∃ W, W = ((w.setCell ⟨g, 6, none⟩ (.int .i64 (max n 0))).setCell ⟨g, 7, none⟩ (.int .i64 keep)).setCell ⟨g, 8, none⟩ (.int .i64 tear) := ⟨_, rfl⟩
    have hc : Chg w W (fun i => i = g) := by
      rw [hW]
      exact ((chg_set _ _ _ _).trans (chg_set _ _ _ _) fun _ h => .inl h).trans (chg_set _ _ _ _) fun _ h => .inl h
    rw [← hW] at s8
    have hset : Hd W g st.room st.used st.down (.map (some bl)) (.map (some bs)) a (((max n 0).toNat : Nat) : Int) keep tear := by rw [← em]; exact s8
    have hpost : DPost w S C g { st with fn := (max n 0).toNat, keep := keep, tear := tear } W := by
      have hsz := hc.size
      refine ⟨S, C, ⟨⟨h.ok.rises, h.ok.fits, h.ok.few, h.ok.room, h.ok.most, h.ok.idle, h.ok.many, by show (((max n 0).toNat : Nat) : Int) ≤ _; omega⟩, fun i hi => Nat.lt_of_lt_of_le (h.cap i hi) hsz, fun i hi => Nat.lt_of_lt_of_le (h.sap i hi) hsz, h.sep, h.in_, A, L, bs, bl, a, xs, Vs, Vl, Ds, Dl, hset,
        hA.chg hc fun i hi e => (sA i hi).2.2.1 e, hL.chg hc fun i hi e => (sL i hi).2.1 e, hacts.chg hc (fun i hi e => h.sep g h.in_ (e ▸ hi)) fun i hi e => (sa i hi).2 e, sA, sL, sa⟩, hc.mono fun i hi => hi ▸ h.in_, fun _ hi => .inl hi, fun _ hi => .inl hi⟩
    have HP := hide hpost
    have E1 := hide e1
    rw [hd] at c2
    clear hpost hset hc hh hA hL hacts sA sL sa h e1 em s6 s7 s8
    go_enter Try.func29, Try.ntmps29
    go_wp2_with fail
    refine (power_any c2 c3).mono ?_
    rintro e w1 ⟨rfl, rfl⟩
    rw [show ((pow false : Nat) : Int) = 0 from rfl]
    go_wp2
    go_ret
    rw [E1.out, ← hW]
    exact ⟨rfl, HP.out⟩
  · have HS := hide (DPost.same h (Chg.refl _ _))
    have e1 : st.arm n keep tear = (22, st) := by unfold Dk.arm; rw [hd]; rfl
    rw [hd] at c2
    have E1 := hide e1
    clear e1 hh h
    go_enter Try.func29, Try.ntmps29
    go_wp2_with fail
    refine (power_any c2 c3).mono ?_
    rintro e w1 ⟨rfl, rfl⟩
    rw [show ((pow true : Nat) : Int) = 22 from rfl]
    go_wp2
    go_ret
    rw [E1.out]
    exact ⟨rfl, HS.out⟩

set_option maxRecDepth 200000 in
set_option maxHeartbeats 4000000 in
theorem used_call {w : World} {S C : Nat → Prop} {g : Nat} {st : Dk} (h : DiskIs w S C g st) :
    Calls Try.prog 44 #[.pointer (some ⟨g, 0, none⟩)] w fun e w' => e = .returned (.int .i64 ((if st.down then 0 else st.used : Nat) : Nat)) ∧ w = w' := by
  obtain ⟨A, L, bs, bl, a, xs, Vs, Vl, Ds, Dl, hh, hA, hL, hacts, sA, sL, sa⟩ := h.parts
  have c1 := hh.c1
  have c3 := hh.c3
  have c2 := hh.c2
  clear hh hA hL hacts sA sL sa h
  rcases hd : st.down with _ | _
  all_goals
    rw [hd] at c2
    go_enter Try.func44, Try.ntmps44
    go_wp2_with fail
    refine (power_any c2 c3).mono ?_
    rintro e w1 ⟨rfl, rfl⟩
    first | rw [show ((pow false : Nat) : Int) = 0 from rfl] | rw [show ((pow true : Nat) : Int) = 22 from rfl]
    go_wp2
    go_ret
    exact ⟨rfl, rfl⟩

set_option maxRecDepth 200000 in
set_option maxHeartbeats 4000000 in
theorem pending_call {w : World} {S C : Nat → Prop} {g : Nat} {st : Dk} (h : DiskIs w S C g st) :
    Calls Try.prog 43 #[.pointer (some ⟨g, 0, none⟩)] w fun e w' => e = .returned (.int .i64 (st.acts.length : Nat)) ∧ w = w' := by
  obtain ⟨A, L, bs, bl, a, xs, Vs, Vl, Ds, Dl, hh, hA, hL, hacts, sA, sL, sa⟩ := h.parts
  obtain ⟨p, c, rfl, _, _⟩ := hacts.sl
  obtain ⟨n, hn⟩ : ∃ n, n = st.acts.length := ⟨_, rfl⟩
  have hi := h.ok.idle
  rw [← hn] at hh ⊢
  have c5 := hh.c5
  have c3 := hh.c3
  have c2 := hh.c2
  clear hh hA hL hacts sA sL sa h
  rcases hd : st.down with _ | _
  · rw [hd] at c2
    clear hi hn
    go_enter Try.func43, Try.ntmps43
    go_wp2_with fail
    refine (power_any c2 c3).mono ?_
    rintro e w1 ⟨rfl, rfl⟩
    rw [show ((pow false : Nat) : Int) = 0 from rfl]
    go_wp2
    go_ret
    exact ⟨rfl, rfl⟩
  · rw [hd] at c2
    rw [hi hd] at hn
    obtain rfl : n = 0 := hn
    clear hi
    go_enter Try.func43, Try.ntmps43
    go_wp2_with fail
    refine (power_any c2 c3).mono ?_
    rintro e w1 ⟨rfl, rfl⟩
    rw [show ((pow true : Nat) : Int) = 22 from rfl]
    go_wp2
    go_ret
    exact ⟨rfl, rfl⟩

set_option maxRecDepth 200000 in
set_option maxHeartbeats 4000000 in
theorem list_call {w : World} {S C : Nat → Prop} {g : Nat} {st : Dk} (h : DiskIs w S C g st) :
    Calls Try.prog 41 #[.pointer (some ⟨g, 0, none⟩)] w fun e w' => ∃ v, e = .returned v ∧ w'.ownsRow w.heap.size 9 1 v st.names.length (st.names.map encStr) ∧ Below w.heap.size w w' := by
  obtain ⟨A, L, bs, bl, a, xs, Vs, Vl, Ds, Dl, hh, hA, hL, hacts, sA, sL, sa⟩ := h.parts
  have c4 := hh.c4
  have c3 := hh.c3
  have c2 := hh.c2
  have HN := hide (names_any hA (fun i hi => h.sap i (sA i hi).1) (by have := seen_few h.ok; omega))
  clear hh hA hL hacts sA sL sa h
  rcases hd : st.down with _ | _
  · have e1 : st.names = st.seen.map (·.1) := by unfold Dk.names; rw [hd]; rfl
    rw [e1, List.length_map]
    rw [hd] at c2
    go_enter Try.func41, Try.ntmps41
    go_wp2_with fail
    refine (power_any c2 c3).mono ?_
    rintro e w1 ⟨rfl, rfl⟩
    rw [show ((pow false : Nat) : Int) = 0 from rfl]
    go_wp2_with fail
    refine HN.out.mono ?_
    rintro e w2 ⟨v, rfl, _, hr, hb⟩
    go_wp2
    go_ret
    exact ⟨_, rfl, hr, hb⟩
  · have e1 : st.names = [] := by unfold Dk.names; rw [hd]; rfl
    rw [e1]
    rw [hd] at c2
    go_enter Try.func41, Try.ntmps41
    go_wp2_with fail
    refine (power_any c2 c3).mono ?_
    rintro e w1 ⟨rfl, rfl⟩
    rw [show ((pow true : Nat) : Int) = 22 from rfl]
    go_wp2
    go_ret
    exact ⟨_, rfl, World.ownsRow_nil _ _ _ _, Below.refl _ _⟩
end Go.Proofs.Ytdghkmpcjjmlfaa
