/- Sync, read, a new one, a clone. -/
import Derived.Test.YtdghkmpcjjmlfaaDCalls
namespace Go.Proofs.Ytdghkmpcjjmlfaa
open Go.RowKit

theorem settleF_all (F : Fl) (ds : List Deed) : settleF F ds ds.length 0 = runs F ds := by
  unfold settleF
  by_cases h : ds.length = 0
  · rw [if_pos h, List.eq_nil_of_length_eq_zero h]
    rfl
  · have hd : ds[ds.length - 1]? = some ds[ds.length - 1] := List.getElem?_eq_getElem (by omega)
    rw [if_neg h, hd]
    simp only
    rw [Nat.zero_min, ← runs_snoc]
    congr 1
    conv => rhs; rw [← List.take_length (l := ds), show ds.length = ds.length - 1 + 1 by omega, List.take_add_one]
    rw [hd]
    rfl

def Dk.clean (st : Dk) (n : Nat) : Dk := { st with fn := n, last := st.seen, acts := [] }
theorem Dk.Ok.clean {st : Dk} (ok : st.Ok) {n : Nat} (hn : (n : Int) ≤ 9223372036854775807) : (st.clean n).Ok := by
  refine ⟨runs_rises ok.rises st.acts, fun i d h => by simp [Dk.clean] at h, fun i hi => ?_, ?_, ok.most, fun _ => rfl, by simp [Dk.clean], hn⟩
  · have : i = 0 := by simpa [Dk.clean] using hi
    subst this
    show st.seen.length ≤ 4096
    exact seen_few ok
  · have e : (st.clean n).used = total st.seen := by simp [Dk.used, Dk.clean, sizes]
    rw [e]
    exact Nat.le_trans (seen_total ok) ok.room

set_option maxRecDepth 200000 in
set_option maxHeartbeats 4000000 in
theorem sync_call {w : World} {S C : Nat → Prop} {g : Nat} {st : Dk} (h : DiskIs w S C g st)
    (hk : st.keep ≤ 9223372036854775807) (hk' : -9223372036854775808 ≤ st.keep) (ht : st.tear ≤ 9223372036854775807) (ht' : -9223372036854775808 ≤ st.tear) :
    Calls Try.prog 23 #[.pointer (some ⟨g, 0, none⟩)] w fun e w' => e = .returned (.int .i64 (st.sync.1 : Nat)) ∧ DPost w S C g st.sync.2 w' := by
  obtain ⟨A, L, bs, bl, a, xs, Vs, Vl, Ds, Dl, hh, hA, hL, hacts, sA, sL, sa⟩ := h.parts
  obtain ⟨p, c, rfl, hnc, _⟩ := hacts.sl
  have c3 := hh.c3
  have c2 := hh.c2
  rcases hd : st.down with _ | _
  · rw [hd] at c2
    have hstr := struck_any hh h.ok.fuse
    have HSTR := hide hstr
    have HD := hide h
    have HA := hide hA
    have HL := hide hL
    have HACTS := hide hacts
    have HH := hide hh
    have HSA := hide sA
    have HSL := hide sL
    have HSa := hide sa
    clear hstr hh hA hL hacts sA sL sa h hnc
    go_enter Try.func23, Try.ntmps23
    go_wp2_with fail
    refine (power_any c2 c3).mono ?_
    rintro e w0 ⟨rfl, rfl⟩
    rw [show ((pow false : Nat) : Int) = 0 from rfl]
    go_wp2_with fail
    refine HSTR.out.mono ?_
    rintro e w1 ⟨rfl, hh1, hg1⟩
    have hc1 : Chg w w1 (fun i => i = g) := Chg.of_grown hg1 _ fun k hk => .inl (by injection hk with hk; exact hk.symm)
    have hsz := hc1.size
    have h := HD.out
    have hA1 := HA.out.chg hc1 fun i hi e => (HSA.out i hi).2.2.1 e
    have hL1 := HL.out.chg hc1 fun i hi e => (HSL.out i hi).2.1 e
    have hacts1 := HACTS.out.chg hc1 (fun i hi e => h.sep g h.in_ (e ▸ hi)) fun i hi e => (HSa.out i hi).2 e
    have hD1 : DiskIs w1 S C g { st with fn := st.fn - 1 } :=
      ⟨⟨h.ok.rises, h.ok.fits, h.ok.few, h.ok.room, h.ok.most, h.ok.idle, h.ok.many, by show ((st.fn - 1 : Nat) : Int) ≤ _; have := h.ok.fuse; omega⟩, fun i hi => Nat.lt_of_lt_of_le (h.cap i hi) hsz, fun i hi => Nat.lt_of_lt_of_le (h.sap i hi) hsz, h.sep, h.in_, A, L, bs, bl, .slice p st.acts.length c, xs, Vs, Vl, Ds, Dl, hh1, hA1, hL1, hacts1, HSA.out, HSL.out, HSa.out⟩
    by_cases hfn : st.fn = 1
    · rw [show (st.fn == 1) = true from beq_iff_eq.2 hfn]
      have e1 : st.sync = (22, st.fall st.keep st.tear) := by unfold Dk.sync; rw [if_neg (by rw [hd]; decide), if_pos hfn]
      have E1 := hide e1
      have HF := hide (fail_any hD1 hk hk' ht ht')
      have HX := hide (hc1.mono (S' := S) fun i hi => hi ▸ h.in_)
      clear hD1 hA1 hL1 hacts1 hh1 hg1 e1 h hc1
      go_wp2_with fail
      refine HF.out.mono ?_
      rintro e w4 ⟨rfl, hp⟩
      go_wp2
      go_ret
      rw [E1.out]
      exact ⟨rfl, hp.after HX.out fun _ hi => .inl hi⟩
    · rw [show (st.fn == 1) = false from beq_eq_false_iff_ne.2 hfn]
      have e1 : st.sync = (0, st.clean (st.fn - 1)) := by unfold Dk.sync; rw [if_neg (by rw [hd]; decide), if_neg hfn]; rfl
      have E1 := hide e1
      have hok := h.ok.clean (n := st.fn - 1) (by have := h.ok.fuse; omega)
      have hset := settle_any (tear := 0) hh1 hL1 hacts1 (fun i hi h1 => h.sep i (HSL.out i h1).1 hi) (fun i hi => Nat.lt_of_lt_of_le (h.cap i hi) hsz) (fun i hi => Nat.lt_of_lt_of_le (h.sap i (HSL.out i hi).1) hsz) (fun h1 => (HSL.out g h1).2.1 rfl) (fun i hi h1 => (HSL.out i h1).2.2 hi) h.ok.fits h.ok.few h.ok.many (keep := st.acts.length) (Nat.le_refl _) (by
        rw [settleF_all]
        have h1 := seen_total h.ok
        have h2 := h.ok.room
        have h3 := h.ok.most
        unfold Dk.seen at h1
        omega)
      rw [settleF_all] at hset
      have q5 := hh1.c5
      have HSET := hide hset
      have HA1 := hide hA1
      have HC1 := hide hc1
      have HOK := hide hok
      have HSZ := hide hsz
      clear hset hD1 hA1 hL1 hacts1 hh1 hg1 e1 h hc1 hok hsz
      obtain ⟨n, hn⟩ : ∃ n, n = st.acts.length := ⟨_, rfl⟩
      rw [← hn] at q5
      have HN := hide hn
      clear hn
      go_wp2_with fail
      rw [HN.out]
      refine HSET.out.mono ?_
      rintro e w2 ⟨rfl, V', D', hh2, hF2, hc2⟩
      have h := HD.out
      have hgw : g < w.heap.size := h.sap g h.in_
      have hsz2 := hc2.size
      have hsz := HSZ.out
      have hA2 := HA1.out.chg hc2 fun i hi e => by
        rcases e with e | e
        · exact (HSA.out i hi).2.1 e
        · exact (HSA.out i hi).2.2.1 e
      have hpost : DPost w S C g (st.clean (st.fn - 1)) w2 := by
        refine ⟨fun i => S i ∨ Ext L w1 w2 i, C, ⟨HOK.out, fun i hi => by have := h.cap i hi; omega, fun i hi => ?_, fun i hi hC => ?_, .inl h.in_, A, Ext L w1 w2, bs, bl, .slice none 0 0, [], Vs, V', Ds, D', ?_, ?_, hF2, ActsIs.nil _ _, ?_, ?_, fun i hi => by cases hi⟩, ?_, ?_, fun _ hi => .inl hi⟩
        · rcases hi with hi | hi | hi
          · have := h.sap i hi; omega
          · have := h.sap i (HSL.out i hi).1; omega
          · exact hi.2
        · rcases hi with hi | hi | hi
          · exact h.sep i hi hC
          · exact h.sep i (HSL.out i hi).1 hC
          · have := h.cap i hC; omega
        · have eu : (st.clean (st.fn - 1)).used = total st.seen := by simp [Dk.used, Dk.clean, sizes]
          rw [eu]
          exact hh2
        · exact hA2
        · intro i hi
          obtain ⟨h1, h2, h3, h4⟩ := HSA.out i hi
          have := h.sap i h1
          exact ⟨.inl h1, fun h5 => by
            rcases h5 with h5 | h5
            · exact h2 h5
            · omega, h3, fun h5 => by cases h5⟩
        · intro i hi
          rcases hi with hi | hi
          · exact ⟨.inl (HSL.out i hi).1, (HSL.out i hi).2.1, fun h5 => by cases h5⟩
          · exact ⟨.inr (.inr hi), by omega, fun h5 => by cases h5⟩
        · refine (HC1.out.mono (S' := S) fun i hi => hi ▸ h.in_).trans (hc2.mono (S' := S) fun i hi => ?_) fun _ h => .inl h
          rcases hi with hi | hi
          · exact (HSL.out i hi).1
          · exact hi ▸ h.in_
        · intro i hi
          rcases hi with hi | hi | hi
          · exact .inl hi
          · exact .inl (HSL.out i hi).1
          · exact .inr (by omega)
      have HP := hide hpost
      clear hpost hA2 hh2 hF2 hc2 h hsz hsz2
      go_wp2
      go_ret
      rw [E1.out]
      exact ⟨rfl, HP.out⟩
  · have HS := hide (DPost.same h (Chg.refl _ _))
    have e1 : st.sync = (22, st) := by unfold Dk.sync; rw [if_pos hd]
    rw [hd] at c2
    have E1 := hide e1
    clear e1 hh h
    go_enter Try.func23, Try.ntmps23
    go_wp2_with fail
    refine (power_any c2 c3).mono ?_
    rintro e w1 ⟨rfl, rfl⟩
    rw [show ((pow true : Nat) : Int) = 22 from rfl]
    go_wp2
    go_ret
    rw [E1.out]
    exact ⟨rfl, HS.out⟩

set_option maxRecDepth 200000 in
set_option maxHeartbeats 4000000 in
theorem read_call {w : World} {S C : Nat → Prop} {g : Nat} {st : Dk} (h : DiskIs w S C g st) {s : ByteArray} (hs : s.size ≤ maxLen) :
    Calls Try.prog 19 #[.pointer (some ⟨g, 0, none⟩), .string s] w fun e w' => ∃ v, e = .returned (.tuple #[v, .int .i64 (st.readE s.data.toList : Nat)]) ∧ w'.ownsRow w.heap.size 5 1 v (st.readB s.data.toList).length ((st.readB s.data.toList).map bv) ∧ Below w.heap.size w w' := by
  obtain ⟨A, L, bs, bl, a, xs, Vs, Vl, Ds, Dl, hh, hA, hL, hacts, sA, sL, sa⟩ := h.parts
  have c4 := hh.c4
  have c3 := hh.c3
  have c2 := hh.c2
  have hrdy := hide (ready_any c2 c3 s)
  clear c2 c3
  by_cases hr : rdy st.down s.data.toList = 0
  · rcases hg : get st.seen s.data.toList with _ | o
    · have hlook := fun q => ((hA.look hs).2 hg q).1
      have hlook0 := hlook 0
      have e1 : st.readE s.data.toList = 21 ∧ st.readB s.data.toList = [] := by
        simp [Dk.readE, Dk.readB, hr, hg]
      replace hlook0 : (Instr.lookup 51 (.map (some bs)) (.string s) true).run Try.prog w = .ok (.tuple #[.slice none 0 0, .bool false]) w := hlook0
      have E1 := hide e1
      clear e1 hh hA hL hacts sA sL sa h hlook
      go_enter Try.func19, Try.ntmps19
      go_wp2_with fail
      refine hrdy.out.mono ?_
      rintro e w1 ⟨rfl, rfl⟩
      rw [hr]
      go_wp2
      go_ret2
      rw [E1.out.1, E1.out.2]
      exact ⟨_, rfl, World.ownsRow_nil _ _ _ _, Below.refl _ _⟩
    · have hlook0 := ((hA.look hs).1 o hg 0).1
      replace hlook0 : (Instr.lookup 51 (.map (some bs)) (.string s) true).run Try.prog w = .ok (.tuple #[Vs s.data.toList, .bool true]) w := hlook0
      have hrow := (hA.vals _ _ hg).2
      have hby := by_row hrow
      obtain ⟨q0, n0, c0, hv⟩ : ∃ q n c, Vs s.data.toList = .slice q n c := hby.sl
      rw [hv] at hlook0 hby
      have hlen : o.length ≤ 140737488355328 := by
        have h1 := seen_get h.ok s.data.toList
        rw [hg] at h1
        have h2 := h.ok.room
        have h3 := h.ok.most
        simp at h1
        omega
      have HC := hide (cloneRow_any hby hlen)
      have e1 : st.readE s.data.toList = 0 ∧ st.readB s.data.toList = o := by
        simp [Dk.readE, Dk.readB, hr, hg]
      have E1 := hide e1
      clear e1 hh hA hL hacts sA sL sa h hrow hby hlen hv
      go_enter Try.func19, Try.ntmps19
      go_wp2_with fail
      refine hrdy.out.mono ?_
      rintro e w1 ⟨rfl, rfl⟩
      rw [hr]
      go_wp2_with fail
      refine HC.out.mono ?_
      rintro e w2 ⟨v, rfl, hr2, hb2⟩
      have HR := hide hr2
      clear hr2
      go_wp2
      go_ret2
      rw [E1.out.1, E1.out.2]
      exact ⟨_, rfl, HR.out, hb2⟩
  · have e1 : st.readE s.data.toList = rdy st.down s.data.toList ∧ st.readB s.data.toList = [] := by
      unfold Dk.readE Dk.readB
      rw [if_pos hr, if_pos hr]
      exact ⟨rfl, rfl⟩
    have E1 := hide e1
    have g0 : (((rdy st.down s.data.toList : Nat) : Int) != 0) = true := ine_true (by omega)
    clear e1 hh hA hL hacts sA sL sa h
    go_enter Try.func19, Try.ntmps19
    go_wp2_with fail
    refine hrdy.out.mono ?_
    rintro e w1 ⟨rfl, rfl⟩
    go_wp2
    go_ret2
    rw [E1.out.1, E1.out.2]
    exact ⟨_, rfl, World.ownsRow_nil _ _ _ _, Below.refl _ _⟩
end Go.Proofs.Ytdghkmpcjjmlfaa
