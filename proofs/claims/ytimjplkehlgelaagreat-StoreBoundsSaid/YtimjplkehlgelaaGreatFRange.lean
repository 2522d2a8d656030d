/- What goes over all spans of a bag: sorted, lastEnd. -/
import Derived.Test.YtimjplkehlgelaaGreatFPlain
import Derived.Test.YtimjplkehlgelaaGreatSpSort2
import Derived.Test.YtimjplkehlgelaaGreatSp1
namespace Go.Proofs.YtimjplkehlgelaaGreat
set_option linter.unusedVariables false
set_option linter.unusedSimpArgs false
open Go.RowKit

theorem wpList_pushH {w : World} {ops : Array Oper} {rest : List Oper} {o : Oper} {a : Act} {Q : Exit → Act → World → Prop} (hgd : o.guard = none) (s t : Operand)
    (ho : o.op = .call { callee := .builtin .append, args := #[s, t], argTypes := #[31, 31] }) (hty : o.type = 31) {B : Nat} {v : Value} {l : List Sp} (x : Sp) {H : Nat}
    (hs : a.eval s = v) (ht : a.eval t = .slice (some ⟨H, 0, none⟩) 1 1) (hH : H = w.heap.size) (h : OwnS B w v l) (hB : B ≤ w.heap.size) (hn : l.length ≤ 1000000)
    (hK : ∀ v' w', OwnS B w' v' (l ++ [x]) → Below B w w' → w.grownBy w' v.ownBlock → wpList Tryz.prog ops Q rest (a.put o.dst v') w') : wpList Tryz.prog ops Q (o :: rest) a (w.alloc (.cells #[.int .i64 x.t, .int .i64 x.i, .int .i64 x.p, .int .i64 x.s, .int .i64 x.e, .string x.n] 38)) := by
  subst hH
  exact wpList_push hgd s t ho hty x hs ht h hB hn hK

theorem same_int (a b : Int) : (Lit.int .i64 a).sameKey (.int .i64 b) = decide (a = b) := by
  by_cases h : a = b
  · subst h
    rw [WideAt.sameKey_self (isKeyI _)]
    simp
  · rw [Maps.sameKey_ne (fun e => h (by injection e))]
    simp [h]
/-- Those that are not to come. -/
def doneS (L : List Sp) (left : Lit → Bool) : List Sp := L.filter fun x => !left (.int .i64 x.i)
theorem doneS_step : ∀ {L : List Sp}, (L.Pairwise fun x y => x.i ≠ y.i) → ∀ {left : Lit → Bool} {x : Sp}, x ∈ L → left (.int .i64 x.i) = true → (x :: doneS L left).Perm (doneS L fun z => left z && !z.sameKey (.int .i64 x.i))
  | [], _, left, x, hx, _ => by simp at hx
  | y :: r, hid, left, x, hx, hl => by
    obtain ⟨h1, h2⟩ := List.pairwise_cons.1 hid
    unfold doneS
    by_cases hxy : y.i = x.i
    · have hxy' : x = y := by
        rcases List.mem_cons.1 hx with e | hx
        · exact e
        · exact absurd hxy (h1 x hx)
      subst hxy'
      rw [List.filter_cons_of_neg (by simp [hl]), List.filter_cons_of_pos (by simp [same_int])]
      have e : r.filter (fun p => !(left (.int .i64 p.i) && !(Lit.int .i64 p.i).sameKey (.int .i64 x.i))) = r.filter (fun p => !left (.int .i64 p.i)) := by
        apply List.filter_congr
        intro q hq
        have := h1 q hq
        have hne : ¬ q.i = x.i := fun e => this e.symm
        simp [same_int, hne]
      rw [e]
    · have hx' : x ∈ r := by
        rcases List.mem_cons.1 hx with e | hx
        · exact absurd (by rw [e]) hxy
        · exact hx
      have ih := doneS_step h2 hx' hl
      unfold doneS at ih
      by_cases hy : left (.int .i64 y.i) = true
      · rw [List.filter_cons_of_neg (by simp [hy]), List.filter_cons_of_neg (by simp [same_int, hy, hxy])]
        exact ih
      · rw [List.filter_cons_of_pos (by simp [hy]), List.filter_cons_of_pos (by simp [hy])]
        exact (List.Perm.swap y x _).trans (ih.cons y)
theorem doneS_all {L : List Sp} {left : Lit → Bool} (h : ∀ k, left k = false) : doneS L left = L := List.filter_eq_self.2 fun p _ => by rw [h]; rfl
theorem doneS_none {L : List Sp} {left : Lit → Bool} (h : ∀ x ∈ L, left (.int .i64 x.i) = true) : doneS L left = [] := List.filter_eq_nil_iff.2 fun p hp => by rw [h p hp]; simp
theorem doneS_le (L : List Sp) (left : Lit → Bool) : (doneS L left).length ≤ L.length := List.length_filter_le _ _

theorem keyI_inv {key : Value} {kl : Lit} (h : keyOf Tryz.prog 3 key = some kl) : ∃ x : Int, key = .int .i64 x := by
  obtain ⟨x, rfl, _⟩ := Maps.keyOf_int_inv Tryz.underlying3 h
  exact ⟨x, rfl⟩
theorem heldA_agg {v : Value} {y : DataW Value × List MemPlace} (h : heldA v = some y) : (∃ c, v = .agg c) ∧ y.1 = .held v := by
  cases v <;> simp [heldA] at h
  subst h
  exact ⟨⟨_, rfl⟩, rfl⟩
/-- What comes out of a range over a bag. -/
theorem BagIs.came {w : World} {b : Nat} {L : List Sp} {D : DataW Value} (h : BagIs w b L D) {k : Int} {c : Array Value} {kl : Lit} {y : DataW Value × List MemPlace}
    (hk : keyOf Tryz.prog 3 (.int .i64 k) = some kl) (hv : heldA (.agg c) = some y) (hat : ∀ zd, D.atKey kl zd = y.1) : ∃ x, x ∈ L ∧ k = x.i ∧ kl = .int .i64 x.i ∧ c = (spC x).toArray := by
  obtain ⟨k', e, hkl, hwf⟩ := Maps.keyOf_int_inv Tryz.underlying3 hk
  injection e with _ e
  subst e
  subst hkl
  have hh := Maps.has_true_of_atKey hat
  rw [h.keys] at hh
  obtain ⟨x, hx⟩ := Option.isSome_iff_exists.1 hh
  have e1 := h.vals _ x hx .nil
  rw [hat, (heldA_agg hv).2] at e1
  injection e1 with e1
  injection e1 with e1
  obtain ⟨h1, h2⟩ := fnd_mem hx
  exact ⟨x, h1, h2.symm, by rw [h2], e1⟩

/-- The greatest end. -/
def endP : List Sp → Int
  | [] => 0
  | x :: r => max x.e (endP r)
theorem endP_perm {L M : List Sp} (h : L.Perm M) : endP L = endP M := by
  induction h with
  | nil => rfl
  | cons x _ ih => unfold endP; rw [ih]
  | swap x y l => unfold endP; unfold endP; omega
  | trans _ _ ih1 ih2 => exact ih1.trans ih2
theorem endP_le {L : List Sp} (h : ∀ x ∈ L, x.e ≤ 1099511627776) : 0 ≤ endP L ∧ endP L ≤ 1099511627776 := by
  induction L with
  | nil => exact ⟨Int.le_refl _, by decide⟩
  | cons x r ih =>
    have := ih fun y hy => h y (List.mem_cons_of_mem _ hy)
    have := h x (List.mem_cons_self ..)
    unfold endP
    omega

theorem ranges_chgB {H : Type} {P : Program} {k : TypeId} {R : Value → Option (DataW H × List MemPlace)} {w w' : World} {b r n : Nat} {D : DataW H} {left : Lit → Bool} {cnt : Nat} {row : Option Nat} (h : w.ranges P k R b r n D left cnt) (hc : w.grownBy w' row) (hb : row ≠ some b) (hr : row ≠ some r) : w'.ranges P k R b r n D left cnt := by
  have h1 := h.owns.lt
  have h2 := h.lt
  obtain ⟨es, clock, since, seen, c0, hb', F, hs, hD, hr', rest⟩ := h
  exact ⟨es, clock, since, seen, c0, (hc.block b h1 (fun e => hb e.symm)).trans hb', F, hs, hD, (hc.block r h2 (fun e => hr e.symm)).trans hr', rest⟩

set_option maxRecDepth 200000 in
set_option maxHeartbeats 1000000 in
theorem lastEnd_any {w : World} {b : Nat} {L : List Sp} {D : DataW Value} (h : BagIs w b L D) (he : ∀ x ∈ L, 0 ≤ x.e ∧ x.e ≤ 1099511627776) :
    Calls Tryz.prog 61 #[.map (some b)] w fun e w' => e = .returned (.int .i64 (endP L)) ∧ Below w.heap.size w w' := by
  have H := hide h
  have hown := h.map
  have HE := hide he
  clear h he
  go_enter Tryz.func61, Tryz.ntmps61
  go_wp2_with (first | (at_range; refine wpList_range_own _ rfl _ 103 rfl 3 38 intK Tryz.underlying103 _ b L.length D rfl hown ?_; intro w0 hrg0 hg0 hs0) | go_in)
  go_frame
  have hB0 : Below w.heap.size w w0 := ⟨hg0.os, hg0.tape, hg0.output, hg0.size, fun k hk => hg0.block k hk (by simp)⟩
  have hd0 : doneS L (Maps.has D) = [] := doneS_none fun p hp => by
    rw [H.out.keys, fnd_of H.out.ids hp]
    rfl
  have HRG := hide hrg0
  have HB0 := hide hB0
  have HD0 := hide hd0
  clear hrg0 hg0 hB0 hd0 hs0 hown
  go_loopw [3] (fun n wr => ∃ left cnt, wr.ranges Tryz.prog 3 heldA b w.heap.size L.length D left cnt ∧ n = .int .i64 (endP (doneS L left)) ∧ Below w.heap.size w wr) (fun _ wr => wr.rangeLeft b w.heap.size)
  case atStart => exact ⟨_, _, HRG.out, by rw [HD0.out]; rfl, HB0.out⟩
  case round =>
    obtain ⟨left, cnt, hrg, rfl, hB⟩ := hrel
    obtain ⟨hle0, hle⟩ := endP_le (L := doneS L left) fun x hx => (HE.out x (List.mem_filter.1 hx).1).2
    obtain ⟨m, hm⟩ : ∃ m, endP (doneS L left) = m := ⟨_, rfl⟩
    rw [hm] at hle hle0
    rw [hm]
    have HM := hide hm
    have HB := hide hB
    have HRG2 := hide hrg
    clear hB hm
    go_wp2_with (first | (at_next; refine wpList_next_ranges _ rfl _ rfl 3 intK heldA (Value.int .i64) Value.agg (fun key kl h => keyI_inv h) (fun v y h => (heldA_agg h).1) b w.heap.size L.length D left cnt rfl hrg ?_ ?_) | go_in)
    · intro hc0 hl0
      have hda := doneS_all (L := L) hl0
      rw [hda] at HM
      clear hrg hda
      go_wp2
      go_ret
      exact ⟨by rw [HM.out]; rfl, HB.out⟩
    · intro k c kl y1 ps w1 cnt1 hkey hlk hv hat hrg1 hlt hg1 hs1 hen
      obtain ⟨x, hx, rfl, rfl, rfl⟩ := H.out.came (y := (y1, ps)) hkey hv hat
      have hst := endP_perm (doneS_step H.out.ids hx hlk)
      have hB1 := HB.out.grown hg1 HB.out.size (fun k hk => by injection hk with hk; omega)
      obtain ⟨hx0, hx1⟩ := HE.out x hx
      have HS : Hid (endP (doneS L fun z => left z && !z.sameKey (.int .i64 x.i)) = max x.e m) := by
        rw [← hst]
        unfold endP
        rw [HM.out]
        exact rfl
      have HR1 := hide hrg1
      have HB1 := hide hB1
      have HLT := hide hlt
      obtain ⟨t, i, p, s, e, nm⟩ := x
      unfold spC at *
      dsimp only at *
      clear hst hrg1 hB1 hrg hkey hv hat hlk hg1 hs1 hlt hx
      by_cases hmx : m < e
      all_goals
        go_wp2
        go_roundw
        case rel => exact ⟨_, _, ranges_chgB HR1.out (World.grownBy_alloc w1 _ none) (by simp) (by simp), by rw [HS.out]; first | rfl | (congr 1; omega), HB1.out.alloc HB1.out.size _⟩
        case measure => rw [(ranges_chgB HR1.out (World.grownBy_alloc w1 _ none) (by simp) (by simp)).left_eq, HRG2.out.left_eq]; exact HLT.out

set_option maxRecDepth 200000 in
set_option maxHeartbeats 1000000 in
theorem sorted_any {w : World} {b : Nat} {L : List Sp} {D : DataW Value} (h : BagIs w b L D) (hL : L.length ≤ 64) :
    Calls Tryz.prog 83 #[.map (some b)] w fun e w' => ∃ v', e = .returned v' ∧ OwnS w.heap.size w' v' (sortS L) ∧ Below w.heap.size w w' := by
  have H := hide h
  have hown := h.map
  have hbw := h.map.lt
  have HL := hide hL
  clear h hL
  go_enter Tryz.func83, Tryz.ntmps83
  go_wp2_with (first | (at_range; refine wpList_range_own _ rfl _ 103 rfl 3 38 intK Tryz.underlying103 _ b L.length D rfl hown ?_; intro w0 hrg0 hg0 hs0) | go_in)
  go_frame
  have hB0 : Below w.heap.size w w0 := ⟨hg0.os, hg0.tape, hg0.output, hg0.size, fun k hk => hg0.block k hk (by simp)⟩
  have hd0 : doneS L (Maps.has D) = [] := doneS_none fun p hp => by
    rw [H.out.keys, fnd_of H.out.ids hp]
    rfl
  have HRG := hide hrg0
  have HB0 := hide hB0
  have HD0 := hide hd0
  have HS0 := hide hs0
  have HBW := hide hbw
  clear hrg0 hg0 hB0 hd0 hs0 hown hbw
  go_loopw [3] (fun v wr => ∃ left cnt M p n c, v = .slice p n c ∧ wr.ranges Tryz.prog 3 heldA b w.heap.size L.length D left cnt ∧ Hid (OwnS (w.heap.size + 1) wr (.slice p n c) M ∧ M.Perm (doneS L left) ∧ Below w.heap.size w wr ∧ w.heap.size + 1 ≤ wr.heap.size)) (fun _ wr => wr.rangeLeft b w.heap.size)
  case atStart => exact ⟨_, _, [], none, 0, 0, rfl, HRG.out, hide ⟨OwnS.nil _ _, by rw [HD0.out], HB0.out, by have := HS0.out; omega⟩⟩
  case round =>
    obtain ⟨left, cnt, M, p, n, c, rfl, hrg, HR⟩ := hrel
    have HRG2 := hide hrg
    go_wp2_with (first | (at_next; refine wpList_next_ranges _ rfl _ rfl 3 intK heldA (Value.int .i64) Value.agg (fun key kl h => keyI_inv h) (fun v y h => (heldA_agg h).1) b w.heap.size L.length D left cnt rfl hrg ?_ ?_) | go_in)
    · intro hc0 hl0
      have hda := doneS_all (L := L) hl0
      have hM : M.Perm L := by have := HR.out.2.1; rwa [hda] at this
      have HM := hide hM
      clear hrg hda hM
      go_wp2_with fail
      refine (sort_any HR.out.1.sps (by have := HM.out.length_eq; have := HL.out; omega)).mono ?_
      rintro e1 w1 ⟨v1, rfl, ho1, hb1⟩
      obtain ⟨p1, n1, c1, rfl⟩ := ho1.sps.sl
      have HO1 := hide ho1
      have HB1 := hide hb1
      clear ho1 hb1
      go_wp2
      go_ret
      refine ⟨_, rfl, ?_, HR.out.2.2.1.trans (HB1.out.mono (by have := HR.out.2.2.2; omega))⟩
      rw [← sortS_of_perm HM.out]
      exact HO1.out.mono (by have := HR.out.2.2.2; omega)
    · intro k c2 kl y1 ps w1 cnt1 hkey hlk hv hat hrg1 hlt hg1 hs1 hen
      obtain ⟨x, hx, rfl, rfl, rfl⟩ := H.out.came (y := (y1, ps)) hkey hv hat
      have hst := doneS_step H.out.ids hx hlk
      have hB1 := HR.out.2.2.1.grown hg1 HR.out.2.2.1.size (fun k hk => by injection hk with hk; omega)
      have ho1 : OwnS (w.heap.size + 1) w1 (.slice p n c) M := HR.out.1.grown hg1 (by
        rcases hvo : (Value.slice p n c).ownBlock with _ | i
        · exact .inl rfl
        · exact .inr fun e => by
            injection e with e
            have := (HR.out.1.lt i hvo).1
            omega)
      have hMl : M.length ≤ 64 := by
        have := HR.out.2.1.length_eq
        have := doneS_le L left
        have := HL.out
        omega
      have hperm := ((List.perm_append_comm (l₁ := M) (l₂ := [x])).trans (HR.out.2.1.cons x)).trans hst
      have HP := hide hperm
      have HSZ := hide hs1
      have HR1 := hide hrg1
      have HB1 := hide hB1
      have HLT := hide hlt
      have HML := hide hMl
      have hROW := World.ownsRow.alloc ho1 (.cells #[.int .i64 x.t, .int .i64 x.i, .int .i64 x.p, .int .i64 x.s, .int .i64 x.e, .string x.n] 38)
      have HROW : Hid (OwnS (w.heap.size + 1) (w1.alloc (.cells #[.int .i64 x.t, .int .i64 x.i, .int .i64 x.p, .int .i64 x.s, .int .i64 x.e, .string x.n] 38)) (.slice p n c) M) := hide hROW
      have HRX := hide (ranges_chgB hrg1 (World.grownBy_alloc w1 (.cells #[.int .i64 x.t, .int .i64 x.i, .int .i64 x.p, .int .i64 x.s, .int .i64 x.e, .string x.n] 38) none) (by simp) (by simp))
      have HBX := hide (hB1.alloc hB1.size (.cells #[.int .i64 x.t, .int .i64 x.i, .int .i64 x.p, .int .i64 x.s, .int .i64 x.e, .string x.n] 38))
      obtain ⟨t, i, q, s, e, nm⟩ := x
      unfold spC at *
      dsimp only at *
      clear hst hrg1 hB1 hrg hkey hv hat hlk hg1 hs1 hlt hx ho1 hMl hperm hROW
      go_wp2_with (at_builtin; go_must (refine wpList_pushH (v := .slice p n c) rfl _ _ rfl rfl ⟨t, i, q, s, e, nm⟩ rfl rfl (by simp) HROW.out (by have := HSZ.out; have := HR.out.2.2.2; simp; omega) (by have := HML.out; omega) ?_); intro v5 w5 ho5 hb5 hg5)
      obtain ⟨p5, n5, c5, rfl⟩ := ho5.sps.sl
      have HR5 := hide (ranges_chgB HRX.out hg5 (fun e => by have := (HROW.out.lt _ e).1; have := HBW.out; omega) (fun e => by have := (HROW.out.lt _ e).1; omega))
      have HO5 := hide ho5
      have HB5 := hide (HBX.out.grown hg5 HBX.out.size (fun k hk => by have := (HROW.out.lt k hk).1; omega))
      have HZ5 := hide hg5.size
      clear ho5 hb5 hg5
      go_wp2
      go_roundw
      case rel => exact ⟨_, _, M ++ [⟨t, i, q, s, e, nm⟩], p5, n5, c5, rfl, HR5.out, hide ⟨HO5.out, HP.out, HB5.out, by have := HZ5.out; have := HR.out.2.2.2; have := HSZ.out; simp at *; omega⟩⟩
      case measure => rw [HR5.out.left_eq, HRG2.out.left_eq]; exact HLT.out
end Go.Proofs.YtimjplkehlgelaaGreat
