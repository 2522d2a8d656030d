/- The document's Image. -/
import Derived.Test.YtfbndbmhnpleoaaTRef5
import Derived.Test.YtfbndbmhnpleoaaTImage
namespace Go.Proofs.Ytfbndbmhnpleoaa
set_option linter.unusedVariables false
set_option linter.unusedSimpArgs false
open Go.RowKit

/-- The slice v reads as the numbers l, in a block of its own from B on; or it is nil. -/
def OwnI (B : Nat) (w : World) (v : Value) (l : List Int) : Prop := w.ownsRow B 3 1 v l.length (l.map (Value.int .i64))
theorem OwnI.sl {B : Nat} {w : World} {v : Value} {l : List Int} (h : OwnI B w v l) : ∃ p n c, v = .slice p n c := by
  obtain ⟨_, ⟨rfl, _⟩ | ⟨g, cap, cur, rfl, _⟩⟩ := h
  · exact ⟨_, _, _, rfl⟩
  · exact ⟨_, _, _, rfl⟩
theorem OwnI.below {B : Nat} {w w' : World} {v : Value} {l : List Int} (h : OwnI B w v l) (hb : Below w.heap.size w w') : OwnI B w' v l := World.ownsRow.kept (row := none) h ⟨hb.os, hb.tape, hb.output, hb.size, fun k hk _ => hb.block k hk⟩ (by cases v.ownBlock <;> simp)
theorem Try.infoInt : (Try.prog.info? 3).map (fun i => (i.zero, i.size, i.bytes)) = some (some (.int .i64 0), 1, 8) := by kernel_rfl
theorem run_pushesI {B : Nat} {w : World} {v : Value} {l m : List Int} {g : Nat} (h : OwnI B w v l) (hm : NumsAt w g m) (hB : B ≤ w.heap.size) (hs : l.length + m.length ≤ 1000000) :
    ∃ v' w', (Builtin.append_ #[67, 67] 67 #[v, .slice (some ⟨g, 0, none⟩) m.length m.length]).run Try.prog w = .ok v' w' ∧ OwnI B w' v' (l ++ m) ∧ Below B w w' ∧ w.grownBy w' v.ownBlock := by
  obtain ⟨i0, hi0, hz0, hz1, hz2⟩ := info_parts Try.infoInt
  obtain ⟨v', w', hr, h1, h2, _, h4⟩ := run_append_own_at (P := Try.prog) w B 67 67 3 i0 _ 1 8 Try.underlying67 hi0 hz0 hz1 hz2 rfl (by decide) v l.length (l.map (Value.int .i64)) h ⟨g, 0, none⟩ m.length m.length (m.map (Value.int .i64)) (by simp)
    (fun j u hj => by
      rw [List.getElem?_map] at hj
      obtain ⟨x, hx, rfl⟩ := Option.map_eq_some_iff.1 hj
      rw [add_lit0, Nat.zero_add]
      exact hm j x hx)
    (fun u hu => by
      obtain ⟨x, _, rfl⟩ := List.mem_map.1 hu
      rfl) (by simp only [maxLen]; omega) (by omega) hB
  refine ⟨v', w', hr, ?_, (Below.refl _ _).grown h2 hB fun k hk => (World.ownsRow.lt h k hk).1, h2⟩
  unfold OwnI
  rw [List.map_append, List.length_append]
  exact h1
theorem step_append_run {w : World} {ops : Array Oper} {o : Oper} {a : Act} {K : Act → World → Prop} {Q : Exit → Act → World → Prop} {E : Prop} (hgd : o.guard = none) (s x : Operand)
    (ho : o.op = .call { callee := .builtin .append, args := #[s, x], argTypes := #[67, 67] }) (hty : o.type = 67) {v u v' : Value} {w' : World}
    (hs : a.eval s = v) (hx : a.eval x = u) (hr : (Builtin.append_ #[67, 67] 67 #[v, u]).run Try.prog w = .ok v' w')
    (h : K (a.put o.dst v') w') : if Region.wanted o (yielded ops a.tmps) = true then Oper.wp Try.prog o a w K Q else E := by
  have hw : Region.wanted o (yielded ops a.tmps) = true := by simp [Region.wanted, hgd]
  rw [if_pos hw]
  exact Lib.wp_append_run_sl w s x 67 ho v u hs hx (by rw [hty]; exact hr) h
theorem step_pushesI {V : World} {ops : Array Oper} {o : Oper} {a : Act} {K : Act → World → Prop} {Q : Exit → Act → World → Prop} {E : Prop} (hgd : o.guard = none) (s x : Operand)
    (ho : o.op = .call { callee := .builtin .append, args := #[s, x], argTypes := #[67, 67] }) (hty : o.type = 67) {B : Nat} {v u : Value} {l m : List Int} {g : Nat}
    (hs : a.eval s = v) (hx : a.eval x = u) (hu : u = .slice (some ⟨g, 0, none⟩) m.length m.length) (h : OwnI B V v l) (hm : NumsAt V g m) (hB : B ≤ V.heap.size) (hn : l.length + m.length ≤ 1000000)
    (hK : ∀ v' V', OwnI B V' v' (l ++ m) → Below B V V' → V.grownBy V' v.ownBlock → K (a.put o.dst v') V') : if Region.wanted o (yielded ops a.tmps) = true then Oper.wp Try.prog o a V K Q else E := by
  subst hu
  obtain ⟨v', w', hr, h1, h2, h3⟩ := run_pushesI h hm hB hn
  exact step_append_run hgd s x ho hty hs hx hr (hK v' w' h1 h2 h3)
theorem NumsAt.below {w w' : World} {g : Nat} {l : List Int} (h : NumsAt w g l) (hb : Below w.heap.size w w') : NumsAt w' g l := fun i n hi => (hb.cell (lt_of_cell (h i n hi))).trans (h i n hi)
theorem own_lit3 (V : World) (s q a : Int) : OwnI V.heap.size (V.alloc (.cells #[.int .i64 s, .int .i64 q, .int .i64 a] 3)) (.slice (some ⟨V.heap.size, 0, none⟩) 3 3) [s, q, a] := World.ownsRow_lit V #[.int .i64 s, .int .i64 q, .int .i64 a] 3 (Nat.le_refl _) (by decide) rfl

set_option maxRecDepth 200000 in
set_option maxHeartbeats 8000000 in
theorem refImage_any {w : World} {gx : Nat} {v : Value} {L : List St} (h : RtAt w gx v L) (hT : TbOk L) : Calls Try.prog 23 #[.pointer (some ⟨gx, 0, none⟩)] w (BytesPost w (imgT L)) := by
  have HH := hide h
  have HRI := hide hT
  have hL8 := hT.len
  have c0 := h.c0
  obtain ⟨pv, nv, cv, rfl⟩ := h.own.sts.sl
  obtain rfl : nv = L.length := h.own.sts.len.1
  clear h hT
  have hwn := hide (refNumber_any (By.nil w) (by simp) (L.length : Int) L.length (by omega) (by unfold lim; omega))
  go_enter Try.func23, Try.ntmps23
  go_wp2_with fail
  refine hwn.out.mono ?_
  rintro e w2 ⟨v2, rfl, ho2, hb2⟩
  have HO2 : Hid (Own w.heap.size w2 v2 (digits L.length)) := hide (by have := Own.of_row ho2; simpa using this)
  obtain ⟨p2, n2, c2, rfl⟩ := HO2.out.by_.sl
  have HX2 := hide (HH.out.below hb2)
  have c02 := HX2.out.c0
  have HB2 := hide hb2
  clear ho2 hb2 hwn
  go_wp2
  go_loopw [3, 19] (fun v i wr => ∃ k : Nat, k ≤ L.length ∧ i = .int .i64 k ∧ (∃ p n c, v = .slice p n c) ∧ Hid (Own w.heap.size wr v (digits L.length ++ (L.take k).flatMap bytesT) ∧ Below w2.heap.size w2 wr)) (fun _ i _ => L.length - (intOf i).toNat)
  case atStart => exact ⟨0, by omega, rfl, ⟨_, _, _, rfl⟩, hide ⟨by simpa using HO2.out, Below.refl _ _⟩⟩
  case round =>
    obtain ⟨k, hk, rfl, ⟨p4, n4, c4, rfl⟩, HR⟩ := hrel
    by_cases hlt : k < L.length
    · obtain ⟨y, hy⟩ : ∃ y, L[k]? = some y := ⟨_, List.getElem?_eq_getElem hlt⟩
      obtain ⟨gd, o, rfl, hc⟩ := HX2.out.own.sts.at_ (by omega)
      obtain ⟨d0, d1, d2, d3, d4, d5, d6, d7, d8, d9, d10⟩ := ((hc k y hy).below HR.out.2).all
      have hym : y ∈ L := List.mem_of_getElem? hy
      have hyo := HRI.out.ok y hym
      have HTK := hide (img_take hy (digits L.length))
      have HYN : Hid (∀ z ∈ y.nums, n40 z = true) := hide (by
        have h2 : y.tell = true := by unfold St.ok at hyo; simp at hyo; exact hyo.2
        exact fun n hn => List.all_eq_true.1 h2 n hn)
      have hlen4 : (digits L.length ++ (L.take k).flatMap bytesT).length ≤ 1000 := by
        have h1 := imgs_len (L := L.take k) fun x hx => HRI.out.ok x (List.mem_of_mem_take hx)
        have h2 := digits_length L.length (by omega)
        rw [List.length_append]
        rw [List.length_take] at h1
        omega
      obtain ⟨m4, hm4⟩ : ∃ m4, digits L.length ++ (L.take k).flatMap bytesT = m4 := ⟨_, rfl⟩
      rw [hm4] at HTK hlen4 HR
      have HLN := hide hlen4
      clear hc hy hym hyo hm4 hlen4
      obtain ⟨s, q, a, ⟨e1, e2, e3, e4, e5, e6, e7, e8⟩⟩ := y
      dsimp only at d0 d1 d2 d3 d4 d5 d6 d7 d8 d9 d10
      obtain ⟨nums, hnums⟩ : ∃ nums, St.nums ⟨s, q, a, ⟨e1, e2, e3, e4, e5, e6, e7, e8⟩⟩ = nums := ⟨_, rfl⟩
      have hnl : nums.length = 11 := by rw [← hnums]; rfl
      have HNE : Hid ([s, q, a] ++ Rp.nums ⟨e1, e2, e3, e4, e5, e6, e7, e8⟩ = nums) := hide (by rw [← hnums]; rfl)
      have HBT : Hid (bytesT ⟨s, q, a, ⟨e1, e2, e3, e4, e5, e6, e7, e8⟩⟩ = numsB nums) := hide (by rw [← hnums]; rfl)
      rw [hnums] at HYN
      have HNL := hide hnl
      clear hnums hnl
      obtain ⟨Y, hY⟩ : ∃ Y, wr.alloc (.cells #[.int .i64 s, .int .i64 q, .int .i64 a, .int .i64 e1, .int .i64 e2, .int .i64 e3, .int .i64 e4, .int .i64 e5, .int .i64 e6, .int .i64 e7, .int .i64 e8] 51) = Y := ⟨_, rfl⟩
      have hbY : Below wr.heap.size wr Y := by rw [← hY]; exact (Below.refl _ _).alloc (Nat.le_refl _) _
      have hdY : StAt Y wr.heap.size 0 ⟨s, q, a, ⟨e1, e2, e3, e4, e5, e6, e7, e8⟩⟩ := by rw [← hY]; exact StAt.box wr _
      have HOY := hide (And.intro (HR.out.1.below hbY) (HR.out.2.trans (hbY.mono HR.out.2.size)))
      have HKP : Hid (∀ V, Below Y.heap.size Y V → V.cell? ⟨wr.heap.size, 0, none⟩ = some (.int .i64 s) ∧ V.cell? ⟨wr.heap.size, 1, none⟩ = some (.int .i64 q) ∧ V.cell? ⟨wr.heap.size, 2, none⟩ = some (.int .i64 a) ∧ V.cell? ⟨wr.heap.size, 3, none⟩ = some (.int .i64 e1) ∧ V.cell? ⟨wr.heap.size, 4, none⟩ = some (.int .i64 e2) ∧ V.cell? ⟨wr.heap.size, 5, none⟩ = some (.int .i64 e3) ∧ V.cell? ⟨wr.heap.size, 6, none⟩ = some (.int .i64 e4) ∧ V.cell? ⟨wr.heap.size, 7, none⟩ = some (.int .i64 e5) ∧ V.cell? ⟨wr.heap.size, 8, none⟩ = some (.int .i64 e6) ∧ V.cell? ⟨wr.heap.size, 9, none⟩ = some (.int .i64 e7) ∧ V.cell? ⟨wr.heap.size, 10, none⟩ = some (.int .i64 e8)) := hide fun V hV => by
        have := (hdY.below hV).all
        simpa only [Nat.zero_add] using this
      have HNU : Hid (∀ V, Calls Try.prog 37 #[.agg #[.int .i64 e1, .int .i64 e2, .int .i64 e3, .int .i64 e4, .int .i64 e5, .int .i64 e6, .int .i64 e7, .int .i64 e8]] V (NumsPost8 V V (Rp.nums ⟨e1, e2, e3, e4, e5, e6, e7, e8⟩))) := hide fun V => refNumbers_any V ⟨e1, e2, e3, e4, e5, e6, e7, e8⟩
      have HAL : Hid (Below Y.heap.size Y (Y.alloc (.cells #[.int .i64 s, .int .i64 q, .int .i64 a] 3)).drew) := hide (((Below.refl Y.heap.size Y).alloc (Nat.le_refl _) _).trans (bdrew _ 1))
      have HDR : Hid (Below Y.heap.size Y Y.drew) := hide (bdrew Y 1)
      have HOA : Hid (OwnI Y.heap.size (Y.alloc (.cells #[.int .i64 s, .int .i64 q, .int .i64 a] 3)).drew (.slice (some ⟨Y.heap.size, 0, none⟩) 3 3) [s, q, a]) := hide (own_lit3 Y s q a)
      have HYW : Hid (wr.heap.size < Y.heap.size) := hide (by rw [← hY]; simp)
      have HY := hide hY
      clear hbY hdY hY
      go_wp2_with fail
      rw [HY.out]
      go_region_held3 (fun V => V.cell? ⟨wr.heap.size, 0, none⟩ = some (.int .i64 s) ∧ V.cell? ⟨wr.heap.size, 1, none⟩ = some (.int .i64 q) ∧ V.cell? ⟨wr.heap.size, 2, none⟩ = some (.int .i64 a) ∧ V.cell? ⟨wr.heap.size, 3, none⟩ = some (.int .i64 e1) ∧ V.cell? ⟨wr.heap.size, 4, none⟩ = some (.int .i64 e2) ∧ V.cell? ⟨wr.heap.size, 5, none⟩ = some (.int .i64 e3) ∧ V.cell? ⟨wr.heap.size, 6, none⟩ = some (.int .i64 e4) ∧ V.cell? ⟨wr.heap.size, 7, none⟩ = some (.int .i64 e5) ∧ V.cell? ⟨wr.heap.size, 8, none⟩ = some (.int .i64 e6) ∧ V.cell? ⟨wr.heap.size, 9, none⟩ = some (.int .i64 e7) ∧ V.cell? ⟨wr.heap.size, 10, none⟩ = some (.int .i64 e8))
        (first | exact HKP.out _ HDR.out | exact HKP.out _ HAL.out | exact HKP.out _ hbt | exact HKP.out _ (hbt.alloc hbt.size _))
        ((first
          | (go_at_call 37; refine (HNU.out _).mono ?_; rintro e7 w7 ⟨g8, rfl, hn8, hg8, hb8⟩; have hbt : Below Y.heap.size Y w7 := (by first | exact HAL.out.trans (hb8.mono HAL.out.size) | exact HDR.out.trans (hb8.mono HDR.out.size)); have H8 := hide (And.intro hn8 hb8); clear hn8 hb8)
          | (refine step_pushesI (by rfl) _ _ (by rfl) (by rfl) (by rfl) (by rfl) rfl (HOA.out.below H8.out.2) H8.out.1 hbt.size (by simp [Rp.nums]) ?_; intro v9 V9 ho9 hb9 hg9; have hbt := hbt.trans hb9; obtain ⟨p9, n9, c9, rfl⟩ := ho9.sl)
          | (refine step_pushesI (by rfl) _ _ (by rfl) (by rfl) (by rfl) (by rfl) rfl (own_lit3 w7 s q a) (H8.out.1.below ((Below.refl _ _).alloc (Nat.le_refl _) _)) (by simp) (by simp [Rp.nums]) ?_; intro v9 V9 ho9 hb9 hg9; have hbt := (hbt.alloc hbt.size (.cells #[.int .i64 s, .int .i64 q, .int .i64 a] 3)).trans (hb9.mono hbt.size); obtain ⟨p9, n9, c9, rfl⟩ := ho9.sl)))
      all_goals
        have hrow := ho9
        unfold OwnI at hrow
        rw [HNE.out] at hrow
        obtain ⟨p10, c10, e10, hl10, hm10, hc10⟩ := ints_row hrow
        injection e10 with e1_ e2_ e3_
        subst e1_ e3_
        have HN9 : Hid (n9 = 11) := hide (e2_.trans HNL.out)
        have hn9 : n9 ≤ 11 := by have := HN9.out; omega
        clear e2_
        rw [HNL.out] at hc10
        obtain ⟨g10, rfl, hg10, hcc⟩ := hc10 (by omega)
        have HCC := hide hcc
        have HBT9 := hide (HOY.out.2.trans (hbt.mono HOY.out.2.size))
        have HO9 := hide (HOY.out.1.below hbt)
        have HG10 := hide hg10
        clear hrow hl10 hm10 hc10 hcc ho9 hb9 hg9 hbt hg10
        go_wp2
        go_loopw [3, 35] (fun v i wq => ∃ j : Nat, j ≤ n9 ∧ i = .int .i64 j ∧ (∃ p n c, v = .slice p n c) ∧ Hid (Own w.heap.size wq v (m4 ++ numsB (nums.take j)) ∧ Below V9.heap.size V9 wq)) (fun _ i _ => n9 - (intOf i).toNat)
        case atStart => exact ⟨0, by omega, rfl, ⟨_, _, _, rfl⟩, hide ⟨by simpa [numsB] using HO9.out, Below.refl _ _⟩⟩
        case round =>
          obtain ⟨j, hj, rfl, ⟨p6, n6, c6, rfl⟩, HQ⟩ := hrel
          by_cases hjl : j < n9
          · have hjl' : j < nums.length := by have := HNL.out; have := HN9.out; omega
            obtain ⟨z, hz⟩ : ∃ z, nums[j]? = some z := ⟨_, List.getElem?_eq_getElem hjl'⟩
            have hc1 := HCC.out j z hz
            have hcz := (HQ.out.2.cell (p := ⟨g10, j, none⟩) HG10.out).trans hc1
            have HTJ := hide (numsB_take hz)
            have hz40 := n40_iff.1 (HYN.out z (List.mem_of_getElem? hz))
            have hlen : (m4 ++ numsB (nums.take j)).length ≤ 140737488000000 := by
              have h1 := numsB_len (nums.take j) fun n hn => HYN.out n (List.mem_of_mem_take hn)
              have h2 := HLN.out
              rw [List.length_append]
              rw [List.length_take] at h1
              omega
            have hwn := hide (refNumber_any HQ.out.1.by_ hlen z z.toNat (by omega) (by unfold lim; omega))
            clear hz hjl' hc1 hlen hz40
            go_wp2_with fail
            refine hwn.out.mono ?_
            rintro e w11 ⟨v11, rfl, ho11, hb11⟩
            have HO11 := hide ((Own.of_row ho11).mono (B' := w.heap.size) (by have := HQ.out.2.size; have := HBT9.out.size; have := HB2.out.size; omega))
            obtain ⟨p11, n11, c11, rfl⟩ := HO11.out.by_.sl
            have HB11 := hide (HQ.out.2.trans (hb11.mono HQ.out.2.size))
            clear ho11 hb11 hwn
            go_wp2
            go_roundw
            case rel => exact ⟨j + 1, by omega, by go_num, ⟨_, _, _, rfl⟩, hide ⟨by rw [HTJ.out, ← List.append_assoc]; exact HO11.out, HB11.out⟩⟩
            case measure => simp [intOf]; omega
          · have e : nums.take j = nums := List.take_of_length_le (by have := HNL.out; have := HN9.out; omega)
            have HOE := hide HQ.out.1
            rw [e, ← HBT.out] at HOE
            clear e
            go_wp2
            go_roundw
            case rel => exact ⟨k + 1, by omega, by go_num, ⟨_, _, _, rfl⟩, hide ⟨by rw [HTK.out]; exact HOE.out, HBT9.out.trans (HQ.out.2.mono HBT9.out.size)⟩⟩
            case measure => simp [intOf]; omega
    · go_wp2
      go_ret
      have e : L.take k = L := List.take_of_length_le (by omega)
      have ho := HR.out.1
      rw [e] at ho
      exact ⟨_, rfl, ho, HB2.out.trans (HR.out.2.mono HB2.out.size)⟩
end Go.Proofs.Ytfbndbmhnpleoaa
