/- Acts that may be done, plainly; how much the document's disk uses. -/
import Derived.Test.YtdghkmpcjjmlfaaRdAdd
namespace Go.Proofs.Ytdghkmpcjjmlfaa
set_option linter.unusedVariables false
set_option linter.unusedSimpArgs false
open Go.RowKit

theorem seen_rises {st : Dk} (ok : st.Ok) : Rises st.seen := runs_rises ok.rises st.acts
theorem ok_put {st : Dk} (ok : st.Ok) {k b : List UInt8} {a : Nat} (hd : st.down = false) (hm : st.acts.length < 1000000) (ha : a ≤ ((get st.seen k).getD []).length) (hr : st.used + b.length ≤ st.room) (hf : (get st.seen k).isSome = true ∨ st.seen.length < 4096) : (st.act (.put k a b)).Ok := by
  have h1 := seen_get ok k
  have h2 := ok.room
  have h3 := ok.most
  refine ok.act ⟨ha, by omega⟩ ?_ hr hd hm
  show (put st.seen k _).length ≤ 4096
  rw [length_put (seen_rises ok)]
  have h4 := seen_few ok
  rcases hf with h | h
  · rw [if_pos h]
    exact h4
  · split <;> omega
theorem ok_trim {st : Dk} (ok : st.Ok) {k o : List UInt8} {n : Nat} (hd : st.down = false) (hm : st.acts.length < 1000000) (hg : get st.seen k = some o) (hn : n ≤ o.length) : (st.act (.trim k n)).Ok := by
  have h1 := seen_get ok k
  have h2 := ok.room
  have h3 := ok.most
  rw [hg] at h1
  simp at h1
  refine ok.act ⟨o, hg, hn, by omega⟩ ?_ (by show st.used + 0 ≤ _; omega) hd hm
  show (put st.seen k _).length ≤ 4096
  rw [length_put (seen_rises ok), hg]
  exact seen_few ok
theorem ok_move {st : Dk} (ok : st.Ok) {k t o : List UInt8} (hd : st.down = false) (hm : st.acts.length < 1000000) (hg : get st.seen k = some o) : (st.act (.move k t)).Ok := by
  have h2 := ok.room
  refine ok.act ⟨o, hg⟩ ?_ (by show st.used + 0 ≤ _; omega) hd hm
  show (put (del st.seen k) t _).length ≤ 4096
  rw [length_put ((seen_rises ok).del k)]
  have h4 := seen_few ok
  have h5 := length_del (seen_rises ok) k
  rw [hg] at h5
  simp at h5
  split <;> omega
theorem ok_drop {st : Dk} (ok : st.Ok) {k : List UInt8} (hd : st.down = false) (hm : st.acts.length < 1000000) : (st.act (.drop k)).Ok := by
  have h2 := ok.room
  refine ok.act trivial ?_ (by show st.used + 0 ≤ _; omega) hd hm
  exact Nat.le_trans (del_le _ _) (seen_few ok)

theorem size_bs (d : Deed) : d.size = d.bs.length := by cases d <;> rfl
theorem sizes_take {D : List Deed} {j : Nat} {d : Deed} (h : D[j]? = some d) : sizes (D.take (j + 1)) = sizes (D.take j) + d.bs.length := by
  rw [List.take_add_one, h, Option.toList_some, sizes_snoc, size_bs]
theorem total_take {F : Fl} {j : Nat} {x : List UInt8 × List UInt8} (h : F[j]? = some x) : total (F.take (j + 1)) = total (F.take j) + x.2.length := by
  unfold total
  rw [List.take_add_one, h, Option.toList_some, List.map_append, List.sum_append]
  simp
theorem total_take_le (F : Fl) (j : Nat) : total (F.take j) ≤ total F := by
  unfold total
  have : F.map (fun p => p.2.length) = (F.take j).map (fun p => p.2.length) ++ (F.drop j).map (fun p => p.2.length) := by rw [← List.map_append, List.take_append_drop]
  rw [this, List.sum_append]
  omega
set_option maxRecDepth 200000 in
set_option maxHeartbeats 8000000 in
theorem rused_any {w : World} {Z R : Nat → Prop} {g : Nat} {st : Dk} (h : RdIs w Z R g st) (ok : st.Ok) :
    Calls Try.prog 37 #[.pointer (some ⟨g, 0, none⟩)] w fun e w' => e = .returned (.int .i64 ((if st.down then 0 else st.used : Nat) : Nat)) ∧ Chg w w' (fun _ => False) := by
  obtain ⟨vl, va, kp, tr, hh, hkt, hl, ha⟩ := h.parts
  obtain ⟨pl, nl, cl, rfl⟩ := hl.sl
  obtain ⟨pa, na, ca, rfl⟩ := ha.sl
  have hnl := hl.len.1
  have hna := ha.len.1
  have hnlm : (nl : Int) ≤ 9223372036854775807 := by have := hl.len; unfold maxLen at this; omega
  have hnam : (na : Int) ≤ 9223372036854775807 := by have := ha.len; unfold maxLen at this; omega
  have c3 := hh.c3
  have c1 := hh.c1
  have HH := hide hh
  have HL := hide hl
  have HA := hide ha
  have HNL := hide hnl
  have HNA := hide hna
  have HU := hide (show st.used = total st.last + sizes st.acts from rfl)
  have HUM := hide (show st.used ≤ 16777216 from Nat.le_trans ok.room ok.most)
  clear hl ha h hh hkt hnl hna ok
  rcases hd : st.down with _ | _
  · rw [hd] at c3
    rw [if_neg (by decide)]
    go_enter Try.func37, Try.ntmps37
    go_wp2_with fail
    go_loopw [3, 5, 17] (fun u _ i wr => ∃ (j s : Nat), u = .int .i64 s ∧ j ≤ nl ∧ i = .int .i64 j ∧ Hid (Chg w wr (fun _ => False) ∧ s = total (st.last.take j))) (fun _ _ i _ => nl - (intOf i).toNat)
    case atStart => exact ⟨0, 0, rfl, Nat.zero_le _, rfl, hide ⟨Chg.refl _ _, by rw [List.take_zero]; rfl⟩⟩
    case round =>
      obtain ⟨j, s, rfl, hj, rfl, hrel⟩ := hrel
      have HC := hide hrel.out.1
      have HS := hide hrel.out.2
      clear hrel
      by_cases hjn : (j : Int) < (nl : Int)
      · obtain ⟨x, hx⟩ : ∃ x, st.last[j]? = some x := ⟨_, List.getElem?_eq_getElem (by have := HNL.out; omega)⟩
        obtain ⟨gl, o, e, rfl, hat, hfe, hz⟩ := (HL.out.chg HC.out fun _ h => h.elim).at_ hx
        obtain ⟨es, ep, en, ec⟩ := e
        obtain ⟨oo, hoo⟩ : ∃ oo, o + j * 2 = oo := ⟨_, rfl⟩
        rw [hoo] at hat
        have e0 := hat.c0
        have e1 := hat.c1
        have hgl := hat.lt
        dsimp only at e0 e1
        have hen := hfe.by_.len.1
        dsimp only at hen
        have HT := hide (total_take hx)
        have HTL := hide (total_take_le st.last (j + 1))
        have HB := hide (HC.out.trans (chgA wr (.cells #[.string es, .slice ep en ec] 74)) fun _ h => .inl h)
        have hsum : IntKind.i64.wrap ((s : Int) + (en : Int)) = (s : Int) + (en : Int) := by
          rw [IntKind.wrap_i64]
          have := HT.out
          have := HTL.out
          have := HU.out
          have := HUM.out
          have := HS.out
          omega
        have HEN := hide hen
        clear hat hfe hz hx hen
        go_wp2
        go_roundw
        case rel => exact ⟨j + 1, s + en, by go_num, by omega, by go_num, hide ⟨HB.out, by rw [HT.out, ← HS.out, HEN.out]⟩⟩
        case measure => simp [intOf]; omega
      · have e1 : st.last.take j = st.last := List.take_of_length_le (by have := HNL.out; omega)
        rw [e1] at HS
        have hr := HH.out.chg HC.out fun h => h
        have k2 := hr.c2
        have HC0 := hide HC.out
        have HS0 := hide HS.out
        clear hr HC HS e1
        go_wp2_with fail
        go_loopw [3, 7, 32] (fun u _ i wr => ∃ (j2 s2 : Nat), u = .int .i64 s2 ∧ j2 ≤ na ∧ i = .int .i64 j2 ∧ Hid (Chg w wr (fun _ => False) ∧ s2 = s + sizes (st.acts.take j2))) (fun _ _ i _ => na - (intOf i).toNat)
        case atStart => exact ⟨0, s, rfl, Nat.zero_le _, rfl, hide ⟨HC0.out, by rw [List.take_zero]; rfl⟩⟩
        case round =>
          obtain ⟨j2, s2, rfl, hj2, rfl, hrel⟩ := hrel
          have HC := hide hrel.out.1
          have HS := hide hrel.out.2
          clear hrel
          by_cases hjn2 : (j2 : Int) < (na : Int)
          · obtain ⟨x, hx⟩ : ∃ x, st.acts[j2]? = some x := ⟨_, List.getElem?_eq_getElem (by have := HNA.out; omega)⟩
            obtain ⟨ga, oa, e, rfl, hat, hae, hra⟩ := (HA.out.chg HC.out (fun _ h => h.elim) fun _ _ h => h).at_ hx
            obtain ⟨ek, es, et, ea, ep, en, ec⟩ := e
            obtain ⟨oo, hoo⟩ : ∃ oo, oa + j2 * 5 = oo := ⟨_, rfl⟩
            rw [hoo] at hat
            have e0 := hat.c0
            have e1 := hat.c1
            have e2 := hat.c2
            have e3 := hat.c3
            have e4 := hat.c4
            have hgl := lt_of_cell e0
            dsimp only at e0 e1 e2 e3 e4 hgl
            have hen := hae.by_.len.1
            dsimp only at hen
            have HT := hide (sizes_take hx)
            have HTL := hide (sizes_take_le st.acts (j2 + 1))
            have HB := hide (HC.out.trans (chgA wr (.cells #[.int .i64 ek, .string es, .string et, .int .i64 ea, .slice ep en ec] 66)) fun _ h => .inl h)
            have hsum : IntKind.i64.wrap ((s2 : Int) + (en : Int)) = (s2 : Int) + (en : Int) := by
              rw [IntKind.wrap_i64]
              have := HT.out
              have := HTL.out
              have := HU.out
              have := HUM.out
              have := HS0.out
              have := HS.out
              omega
            have HEN := hide hen
            clear hat hae hra hx hen
            go_wp2
            go_roundw
            case rel => exact ⟨j2 + 1, s2 + en, by go_num, by omega, by go_num, hide ⟨HB.out, by rw [HT.out]; have := HS.out; have := HEN.out; omega⟩⟩
            case measure => simp [intOf]; omega
          · have e1 : st.acts.take j2 = st.acts := List.take_of_length_le (by have := HNA.out; omega)
            rw [e1] at HS
            have hsu : s2 = st.used := by rw [HS.out, HS0.out, HU.out]
            have HSU := hide hsu
            clear e1 hsu
            go_wp2
            go_ret
            exact ⟨by rw [← HSU.out]; rfl, HC.out⟩
  · rw [hd] at c3
    go_enter Try.func37, Try.ntmps37
    go_wp2
    go_ret
    exact ⟨rfl, Chg.refl _ _⟩
end Go.Proofs.Ytdghkmpcjjmlfaa
