/- What files do: by the program. -/
import Derived.Test.YtdghkmpcjjmlfaaDMem
namespace Go.Proofs.Ytdghkmpcjjmlfaa
open Go.RowKit

/-- A letter that a file's name may have. -/
def okB (x : UInt8) : Bool := (decide (97 ≤ x.toNat) && decide (x.toNat ≤ 122)) || (decide (48 ≤ x.toNat) && decide (x.toNat ≤ 57)) || decide (x.toNat = 46)
def okN (l : List UInt8) : Bool := decide (0 < l.length) && decide (l.length ≤ 32) && l.all okB

theorem okB_true {x : UInt8} (h : (97 ≤ x.toNat ∧ x.toNat ≤ 122) ∨ (48 ≤ x.toNat ∧ x.toNat ≤ 57) ∨ x.toNat = 46) : okB x = true := by
  unfold okB
  simp only [Bool.or_eq_true, Bool.and_eq_true, decide_eq_true_eq]
  omega
theorem okB_false {x : UInt8} (h : ¬ ((97 ≤ x.toNat ∧ x.toNat ≤ 122) ∨ (48 ≤ x.toNat ∧ x.toNat ≤ 57) ∨ x.toNat = 46)) : okB x = false := by
  rw [Bool.eq_false_iff]
  unfold okB
  simp only [ne_eq, Bool.or_eq_true, Bool.and_eq_true, decide_eq_true_eq]
  omega
theorem okN_bad {s : ByteArray} {k : Nat} (hk : k < s.size) (h : okB s[k] = false) : okN s.data.toList = false := by
  unfold okN
  have hm : s[k] ∈ s.data.toList := by
    rw [Array.mem_toList_iff]
    exact Array.getElem_mem (xs := s.data) hk
  rw [Bool.and_eq_false_iff]
  exact .inr (List.all_eq_false.2 ⟨_, hm, by rw [h]; simp⟩)
theorem okN_step {s : ByteArray} {k : Nat} (hk : k < s.size) (ha : (s.data.toList.take k).all okB = true) (h : okB s[k] = true) : (s.data.toList.take (k + 1)).all okB = true := by
  have e : s.data.toList[k]? = some s[k] := by
    rw [Array.getElem?_toList]
    exact Array.getElem?_eq_getElem (xs := s.data) hk
  rw [List.take_add_one, e, List.all_append, ha]
  simp [h]

theorem ieq_true {a b : Int} (h : a = b) : (a == b) = true := beq_iff_eq.2 h
theorem ieq_false {a b : Int} (h : a ≠ b) : (a == b) = false := beq_eq_false_iff_ne.2 h
theorem ine_true {a b : Int} (h : a ≠ b) : (a != b) = true := bne_iff_ne.2 h
theorem ine_false {a b : Int} (h : a = b) : (a != b) = false := by rw [h]; simp

set_option maxRecDepth 200000 in
set_option maxHeartbeats 1000000 in
theorem named_any (s : ByteArray) (w : World) : Calls Try.prog 56 #[.string s] w fun e w' => e = .returned (.bool (okN s.data.toList)) ∧ w = w' := by
  have hl : s.data.toList.length = s.size := by rw [Array.length_toList]; rfl
  by_cases h0 : s.size = 0
  · have g0 : ((s.size : Int) == 0) = true := ieq_true (by omega)
    have hr : okN s.data.toList = false := by
      unfold okN
      rw [decide_eq_false (p := 0 < s.data.toList.length) (by omega)]
      rfl
    clear hl h0
    go_enter Try.func56, Try.ntmps56
    go_wp2
    go_ret
    exact ⟨by rw [hr]; rfl, rfl⟩
  have g0 : ((s.size : Int) == 0) = false := ieq_false (by omega)
  by_cases h1 : (32 : Int) < (s.size : Int)
  · have hr : okN s.data.toList = false := by
      unfold okN
      rw [decide_eq_false (p := s.data.toList.length ≤ 32) (by omega), Bool.and_false]
      rfl
    clear hl
    go_enter Try.func56, Try.ntmps56
    go_wp2
    go_ret
    exact ⟨by rw [hr]; rfl, rfl⟩
  · have HL := hide hl
    clear hl
    go_enter Try.func56, Try.ntmps56
    go_wp2_with fail
    go_loop [15] (fun i => ∃ k : Nat, k ≤ s.size ∧ i = .int .i64 k ∧ (s.data.toList.take k).all okB = true) (fun i => s.size - (intOf i).toNat)
    case atStart => exact ⟨0, by omega, rfl, rfl⟩
    case round =>
      obtain ⟨k, hk, rfl, hall⟩ := hrel
      have HALL := hide hall
      clear hall
      by_cases hkm : (k : Int) < (s.size : Int)
      · have hks : k < s.size := by omega
        by_cases h46 : s[k].toNat = 46
        · have g46 : ((s[k].toNat : Int) != 46) = false := ine_false (by omega)
          have HB := hide (okN_step hks HALL.out (okB_true (.inr (.inr h46))))
          go_wp2
          all_goals
            go_round
            case rel => exact ⟨k + 1, by omega, by go_num, HB.out⟩
            case measure => simp [intOf]; omega
        · have g46 : ((s[k].toNat : Int) != 46) = true := ine_true (by omega)
          have hX : ((97 : Int) ≤ (s[k].toNat : Int) ∧ (s[k].toNat : Int) ≤ 122) ∨ ((48 : Int) ≤ (s[k].toNat : Int) ∧ (s[k].toNat : Int) ≤ 57) ∨ ¬ (((97 : Int) ≤ (s[k].toNat : Int) ∧ (s[k].toNat : Int) ≤ 122) ∨ ((48 : Int) ≤ (s[k].toNat : Int) ∧ (s[k].toNat : Int) ≤ 57)) := by omega
          rcases hX with ⟨x1, x2⟩ | ⟨x1, x2⟩ | hx
          · have HB := hide (okN_step hks HALL.out (okB_true (.inl (by omega))))
            go_wp2
            all_goals
              go_round
              case rel => exact ⟨k + 1, by omega, by go_num, HB.out⟩
              case measure => simp [intOf]; omega
          · have HB := hide (okN_step hks HALL.out (okB_true (.inr (.inl (by omega)))))
            go_wp2
            all_goals
              go_round
              case rel => exact ⟨k + 1, by omega, by go_num, HB.out⟩
              case measure => simp [intOf]; omega
          · have HB := hide (okN_bad hks (okB_false (by omega)))
            have hx' : (s[k].toNat : Int) < 48 ∨ ((57 : Int) < (s[k].toNat : Int) ∧ (s[k].toNat : Int) < 97) ∨ (122 : Int) < (s[k].toNat : Int) := by omega
            clear hx
            rcases hx' with x1 | ⟨x1, x2⟩ | x1
            all_goals
              go_wp2
              all_goals
                go_ret
                exact ⟨by rw [HB.out]; rfl, rfl⟩
      · have hr : okN s.data.toList = true := by
          have e := HALL.out
          rw [List.take_of_length_le (by have := HL.out; omega)] at e
          unfold okN
          rw [e, decide_eq_true (p := 0 < s.data.toList.length) (by have := HL.out; omega), decide_eq_true (p := s.data.toList.length ≤ 32) (by have := HL.out; omega)]
          rfl
        go_wp2
        go_ret
        exact ⟨rfl, rfl⟩

/-- Bytes laid over others from a place on. -/
def over (o : List UInt8) (a : Nat) (m : List UInt8) : List UInt8 := o.take a ++ m ++ o.drop (a + m.length)

theorem put_plain (o m : List UInt8) (a k : Nat) (ha : a ≤ o.length) (hk : min m.length (o.length - a) = k) : (o.take a ++ m.take k ++ o.drop (a + k)) ++ m.drop k = over o a m := by
  unfold over
  by_cases h : m.length ≤ o.length - a
  · obtain rfl : k = m.length := by omega
    rw [List.take_length, List.drop_length, List.append_nil]
  · obtain rfl : k = o.length - a := by omega
    rw [List.drop_eq_nil_of_le (show o.length ≤ a + (o.length - a) by omega), List.drop_eq_nil_of_le (show o.length ≤ a + m.length by omega), List.append_nil, List.append_nil, List.append_assoc, List.take_append_drop]

set_option maxRecDepth 200000 in
set_option maxHeartbeats 1000000 in
theorem put_any {w : World} {S : Nat → Prop} {b : Nat} {F : Fl} {V : List UInt8 → Value} {D : DataW Value} (h : FilesIs w S b F V D) (hn : F.length ≤ 1000000) {s : ByteArray} (hs : s.size ≤ maxLen) {at_ : Nat} {p : Option Addr} {n c : Nat} {m : List UInt8}
    (hx : By w (.slice p n c) m) (hxs : m = [] ∨ ∀ i, (Value.slice p n c).ownBlock = some i → ¬ S i) {o : List UInt8} (ho : (get F s.data.toList).getD [] = o) (hat : at_ ≤ o.length) (hlen : o.length + m.length ≤ 140737488355328) :
    Calls Try.prog 47 #[.map (some b), .string s, .int .i64 at_, .slice p n c] w fun e w' => e = .returned (.tuple #[]) ∧ ∃ V' D', FilesIs w' (Ext S w w') b (put F s.data.toList (over o at_ m)) V' D' ∧ Chg w w' S := by
  have H := hide h
  obtain ⟨v, hv⟩ : ∃ v, v = (if (get F s.data.toList).isSome then V s.data.toList else .slice none 0 0) := ⟨_, rfl⟩
  have hall : w.ownsRow 0 5 1 v o.length (o.map bv) ∧ (∀ q, (Instr.lookup 51 (.map (some b)) (.string s) false).run Try.prog (w.drewN q) = .ok v (w.drewN q)) ∧ ∀ i, v.ownBlock = some i → ∃ bs, get F s.data.toList = some bs ∧ (V s.data.toList).ownBlock = some i := by
    rcases hg : get F s.data.toList with _ | bs
    · rw [hg] at hv ho
      subst hv ho
      exact ⟨World.ownsRow_nil _ _ _ _, fun q => ((h.look hs).2 hg q).2, fun i hi => by cases hi⟩
    · rw [hg] at hv ho
      subst hv ho
      exact ⟨(h.vals _ _ hg).2, fun q => ((h.look hs).1 bs hg q).2, fun i hi => ⟨bs, rfl, hi⟩⟩
  obtain ⟨hrow, hlook, hown⟩ := hall
  have hlook0 : (Instr.lookup 51 (.map (some b)) (.string s) false).run Try.prog w = .ok v w := hlook 0
  obtain ⟨q0, n0, c0, rfl⟩ : ∃ q n c, v = .slice q n c := (by_row hrow).sl
  obtain ⟨hn0, q1, hcut, hq1⟩ := cut_own hrow hat
  have hnc := (by_row hrow).len
  have hmm := (by_row hrow).lenMax
  have hnm := hx.len.1
  obtain ⟨L, hL⟩ : ∃ L, n0 - at_ = L := ⟨_, rfl⟩
  obtain ⟨d1, hd1⟩ : ∃ d1, c0 - at_ = d1 := ⟨_, rfl⟩
  simp only [hL, hd1] at hcut
  obtain ⟨w1, hcopy, hrow1, hg1⟩ := run_copy_put hrow hat (d1 := d1) (L := L) (by omega) hq1 hx 3
  obtain ⟨k, hk⟩ : ∃ k, min m.length L = k := ⟨_, rfl⟩
  rw [hk] at hcopy hrow1
  have hx1 : By w1 (.slice p n c) m := hx.grown hg1 (by
    rcases hxs with h1 | h1
    · exact .inl h1
    · refine .inr fun i hi e => h1 i hi ?_
      obtain ⟨bs, h2, h3⟩ := hown i e
      exact (h.blk _ _ _ h2 h3).1)
  obtain ⟨q2, hcut2, hx2⟩ := cut_from (k := k) hx1 (by omega)
  obtain ⟨L2, hL2⟩ : ∃ L2, n - k = L2 := ⟨_, rfl⟩
  obtain ⟨d2, hd2⟩ : ∃ d2, c - k = d2 := ⟨_, rfl⟩
  rw [hL2, hd2] at hx2
  simp only [hL2, hd2] at hcut2
  have hlen1 : (o.take at_ ++ m.take k ++ o.drop (at_ + k)).length = o.length := by
    simp only [List.length_append, List.length_take, List.length_drop]
    omega
  rw [← hlen1] at hrow1
  obtain ⟨v2, w2, happ, hrow2, hg2, hb2⟩ := run_append_own hrow1 hx2 (by rw [hlen1, List.length_drop]; omega)
  rw [put_plain o m at_ k hat (by omega)] at hrow2
  have hc : Chg w w2 (fun i => (Value.slice q0 n0 c0).ownBlock = some i) := (Chg.of_grown hg1 _ fun i hi => .inl hi).trans (Chg.of_grown hg2 (fun i => (Value.slice q0 n0 c0).ownBlock = some i) fun i hi => .inl hi) fun i hi => .inl hi
  obtain ⟨w3, V', D', hst, hF, hC⟩ := h.set hs hn hc hown hrow2 (fun i hi => by
    rcases hb2 i hi with h1 | h1
    · exact .inl h1
    · exact .inr (Nat.le_trans hg1.size h1))
  have HF := hide (And.intro hF hC)
  have hati : (at_ : Int) ≤ (n0 : Int) := by omega
  have hki : (k : Int) ≤ (n : Int) := by omega
  have hmm2 := hx.lenMax
  obtain ⟨q3, n3, c3, rfl⟩ : ∃ q n c, v2 = .slice q n c := (by_row hrow2).sl
  clear hrow hrow1 hrow2 hx hx1 hx2 hg1 hg2 hb2 hc hF hC hlook hown hv h H hq1 hL hd1 hL2 hd2 hlen1 hn0 hnm hk hnc
  go_enter Try.func47, Try.ntmps47
  go_wp2_with (at_builtin; refine Lib.wpList_append_run_sl _ rfl _ _ 32 rfl _ _ rfl rfl happ ?_)
  go_end0
  exact ⟨rfl, _, _, HF.out.1, HF.out.2⟩

theorem row_mono {w : World} {B n : Nat} {v : Value} {xs : List Value} (h : w.ownsRow B 5 1 v n xs) : w.ownsRow 0 5 1 v n xs := by
  refine ⟨h.1, ?_⟩
  rcases h.2 with hn | ⟨g, cap, cur, rfl, hb, rest⟩
  · exact .inl hn
  · exact .inr ⟨g, cap, cur, rfl, Nat.zero_le _, rest⟩

/-- bytes.Clone: a row of the call's own. -/
theorem cloneRow_any {w : World} {v : Value} {l : List UInt8} (h : By w v l) (hl : l.length ≤ 140737488355328) :
    Calls Try.prog 39 #[v] w fun e w' => ∃ v', e = .returned v' ∧ w'.ownsRow w.heap.size 5 1 v' l.length (l.map bv) ∧ Below w.heap.size w w' := by
  obtain ⟨p, c, rfl, hlc, hm, hn, hc⟩ := h
  rcases p with _ | a
  · have h0 : l = [] := List.eq_nil_of_length_eq_zero (by have := hn rfl; omega)
    subst h0
    refine (Try.bytes_Clone_nil _ c w).mono fun e w' ⟨he, hw⟩ => ⟨_, he, World.ownsRow_nil _ _ _ _, ?_⟩
    rw [hw]
    exact Below.refl _ _
  · refine (Try.bytes_Clone_at a l.length c (Lib.numsL l) w (by simp [Lib.numsL]) hl fun i hi => ?_).mono fun e w' ⟨v', he, hr, _, hb⟩ => ⟨v', he, ?_, hb⟩
    · have := hc a rfl i l[i] (List.getElem?_eq_getElem hi)
      rw [this]
      simp [Lib.numsL, bv, List.getD_eq_getElem?_getD, List.getElem?_eq_getElem hi]
    · rw [map_numsL] at hr
      exact hr

set_option maxRecDepth 200000 in
set_option maxHeartbeats 1000000 in
theorem trim_any {w : World} {S : Nat → Prop} {b : Nat} {F : Fl} {V : List UInt8 → Value} {D : DataW Value} (h : FilesIs w S b F V D) (hn : F.length ≤ 1000000) {s : ByteArray} (hs : s.size ≤ maxLen) {k : Nat} {o : List UInt8} (ho : get F s.data.toList = some o) (hk : k ≤ o.length) (hlen : o.length ≤ 140737488355328) :
    Calls Try.prog 55 #[.map (some b), .string s, .int .i64 k] w fun e w' => e = .returned (.tuple #[]) ∧ ∃ V' D', FilesIs w' (Ext S w w') b (put F s.data.toList (o.take k)) V' D' ∧ Chg w w' S := by
  have hrow := (h.vals _ _ ho).2
  have hlook := fun q => ((h.look hs).1 o ho q).2
  have hlook0 := hlook 0
  obtain ⟨q0, n0, c0, hv⟩ : ∃ q n c, V s.data.toList = .slice q n c := (by_row hrow).sl
  rw [hv] at hrow hlook0
  have hby := by_row hrow
  have hn0 := hby.len
  have hcut := fun W => run_cut_to W q0 n0 c0 k (by omega)
  have hby2 := cut_to hby (k := k) (by omega)
  have H := hide h
  have HBY := hide hby2
  have hki : (k : Int) ≤ (n0 : Int) := by omega
  have hmm := hby.lenMax
  replace hlook0 : (Instr.lookup 51 (.map (some b)) (.string s) false).run Try.prog w = .ok (.slice q0 n0 c0) w := hlook0
  have HLEN := hide hlen
  clear hrow hlook h hby hby2 hv hn0
  go_enter Try.func55, Try.ntmps55
  go_wp2_with fail
  refine (cloneRow_any HBY.out (by rw [List.length_take]; have := HLEN.out; omega)).mono ?_
  rintro e w1 ⟨v1, rfl, hr1, hb1⟩
  obtain ⟨w3, V', D', hst, hF, hC⟩ := H.out.set hs hn (T := fun _ => False) (Chg.of_below hb1 _) (fun i hi => hi.elim) (row_mono hr1) (fun i hi => .inr (hr1.lt i hi).1)
  have HF := hide (And.intro hF hC)
  obtain ⟨q3, n3, c3, rfl⟩ : ∃ q n c, v1 = .slice q n c := (by_row (row_mono hr1)).sl
  clear hr1 hb1 hF hC
  go_wp2
  go_end0
  exact ⟨rfl, _, _, HF.out.1, HF.out.2⟩

set_option maxRecDepth 200000 in
set_option maxHeartbeats 1000000 in
theorem drop_any {w : World} {S : Nat → Prop} {b : Nat} {F : Fl} {V : List UInt8 → Value} {D : DataW Value} (h : FilesIs w S b F V D) {s : ByteArray} (hs : s.size ≤ maxLen) :
    Calls Try.prog 60 #[.map (some b), .string s] w fun e w' => e = .returned (.tuple #[]) ∧ ∃ V' D', FilesIs w' (Ext S w w') b (del F s.data.toList) V' D' ∧ Chg w w' S := by
  obtain ⟨w1, hrun, hg, hF⟩ := h.drop hs 0
  have HF := hide (And.intro (hF.mono fun i hi => (Ext.sub hi : Ext S w w1 i)) (Chg.of_grown hg S fun k hk => .inl (by injection hk with hk; exact hk ▸ h.in_)))
  clear hF hg h
  go_enter Try.func60, Try.ntmps60
  go_wp2
  go_end0
  exact ⟨rfl, _, _, HF.out.1, HF.out.2⟩

set_option maxRecDepth 200000 in
set_option maxHeartbeats 1000000 in
theorem move_any {w : World} {S : Nat → Prop} {b : Nat} {F : Fl} {V : List UInt8 → Value} {D : DataW Value} (h : FilesIs w S b F V D) (hn : F.length ≤ 1000000) {s t : ByteArray} (hs : s.size ≤ maxLen) (ht : t.size ≤ maxLen) {o : List UInt8} (ho : get F s.data.toList = some o) :
    Calls Try.prog 58 #[.map (some b), .string s, .string t] w fun e w' => e = .returned (.tuple #[]) ∧ ∃ V' D', FilesIs w' (Ext S w w') b (put (del F s.data.toList) t.data.toList o) V' D' ∧ Chg w w' S := by
  have hrow := (h.vals _ _ ho).2
  have hblk := fun i => h.blk _ _ i ho
  have hap := fun k bs i hne (hk : get F k = some bs) => h.apart _ k o bs i hne ho hk
  have hlook0 : (Instr.lookup 51 (.map (some b)) (.string s) false).run Try.prog w = .ok (V s.data.toList) w := ((h.look hs).1 o ho 0).2
  obtain ⟨w1, hrun, hg, hF⟩ := h.drop hs 0
  have hrow1 := hrow.kept hg (by
    rcases hvo : (V s.data.toList).ownBlock with _ | i
    · exact .inl rfl
    · exact .inr fun e => (hblk i hvo).2 (by injection e))
  have hdl := length_del h.rises s.data.toList
  obtain ⟨w2, hst, hg2, hF2⟩ := FilesIs.store (S := S) (S' := S) (V := V) (s := t) (v := V s.data.toList) (bs := o) ht hF.map hF.size (by unfold maxLen; omega) hF.in_ hF.rises hF.keys (fun k bs _ hk => hF.vals k bs hk) (fun k bs i _ hk hi => hF.blk k bs i hk hi)
    (fun k k' bs bs' i _ _ hne h1 h2 h3 => hF.apart k k' bs bs' i hne h1 h2 h3) hrow1 (fun i hi => hi) hblk
    (fun k bs i _ hk hi => by
      rw [get_del] at hk
      by_cases e : s.data.toList = k
      · rw [if_pos e] at hk
        cases hk
      · rw [if_neg e] at hk
        exact hap k bs i e hk hi)
  have HF := hide (And.intro (hF2.mono fun i hi => (Ext.sub hi : Ext S w w2 i)) ((Chg.of_grown hg S fun k hk => .inl (by injection hk with hk; exact hk ▸ h.in_)).trans (Chg.of_grown hg2 S fun k hk => .inl (by injection hk with hk; exact hk ▸ h.in_)) fun k hk => .inl hk))
  obtain ⟨q3, n3, c3, hv⟩ : ∃ q n c, V s.data.toList = .slice q n c := (by_row hrow).sl
  rw [hv] at hlook0 hst
  clear hrow hblk hap hF hg hrow1 hdl hg2 hF2 h hv
  go_enter Try.func58, Try.ntmps58
  go_wp2
  go_end0
  exact ⟨rfl, _, _, HF.out.1, HF.out.2⟩
end Go.Proofs.Ytdghkmpcjjmlfaa
