/- The law SessionEnds. -/
import Derived.Test.YtkjebpebfcgnjaaTPlay
import Derived.Test.YtkjebpebfcgnjaaTLawChecks
namespace Go.Proofs.Ytkjebpebfcgnjaa
set_option linter.unusedVariables false
set_option linter.unusedSimpArgs false
open Go.RowKit

theorem StAt.all {w : World} {g o : Nat} {x : St} (h : StAt w g o x) : w.cell? ⟨g, o, none⟩ = some (.int .i64 x.s) ∧ w.cell? ⟨g, o + 1, none⟩ = some (.int .i64 x.q) ∧ w.cell? ⟨g, o + 2, none⟩ = some (.int .i64 x.a) ∧ w.cell? ⟨g, o + 3, none⟩ = some (.int .i64 x.r.er) ∧ w.cell? ⟨g, o + 4, none⟩ = some (.int .i64 x.r.rs) ∧ w.cell? ⟨g, o + 5, none⟩ = some (.int .i64 x.r.gn) ∧ w.cell? ⟨g, o + 6, none⟩ = some (.int .i64 x.r.ad) ∧ w.cell? ⟨g, o + 7, none⟩ = some (.int .i64 x.r.sa) ∧ w.cell? ⟨g, o + 8, none⟩ = some (.int .i64 x.r.ot) ∧ w.cell? ⟨g, o + 9, none⟩ = some (.int .i64 x.r.cy) ∧ w.cell? ⟨g, o + 10, none⟩ = some (.int .i64 x.r.fu) :=
  ⟨h 0 _ rfl, h 1 _ rfl, h 2 _ rfl, h 3 _ rfl, h 4 _ rfl, h 5 _ rfl, h 6 _ rfl, h 7 _ rfl, h 8 _ rfl, h 9 _ rfl, h 10 _ rfl⟩
theorem StAt.box (w : World) (x : St) : StAt (w.alloc (.cells #[.int .i64 x.s, .int .i64 x.q, .int .i64 x.a, .int .i64 x.r.er, .int .i64 x.r.rs, .int .i64 x.r.gn, .int .i64 x.r.ad, .int .i64 x.r.sa, .int .i64 x.r.ot, .int .i64 x.r.cy, .int .i64 x.r.fu] 60)) w.heap.size 0 x := fun k u hk => by
  rw [World.cell?_alloc_new, Nat.zero_add]
  unfold stC at hk
  simpa using hk
theorem OwnT.chg {B : Nat} {w w' : World} {S : Nat → Prop} {v : Value} {l : List St} (h : OwnT B w v l) (hc : Chg w w' S) (hn : ∀ k, B ≤ k → ¬ S k) : OwnT B w' v l := by
  obtain ⟨hl, h | ⟨g, cap, cur, e, hB, hh, r⟩⟩ := h
  · exact ⟨hl, .inl h⟩
  · exact ⟨hl, .inr ⟨g, cap, cur, e, hB, (hc.block g (Array.getElem?_eq_some_iff.1 hh).1 (hn g hB)).trans hh, r⟩⟩
/-- Those that stay, of the first k. -/
def stayT (L : List St) (f : Int) (k : Nat) : List St := expT (L.take k) f
theorem stayT_yes {L : List St} {f : Int} {k : Nat} {x : St} (h : L[k]? = some x) (hf : f ≤ x.a) : stayT L f (k + 1) = stayT L f k ++ [x] := by
  unfold stayT expT
  rw [List.take_add_one, h, List.filter_append]
  simp [hf]
theorem stayT_no {L : List St} {f : Int} {k : Nat} {x : St} (h : L[k]? = some x) (hf : ¬ f ≤ x.a) : stayT L f (k + 1) = stayT L f k := by
  unfold stayT expT
  rw [List.take_add_one, h, List.filter_append]
  simp [hf]
theorem stayT_len (L : List St) (f : Int) (k : Nat) : (stayT L f k).length ≤ L.length := Nat.le_trans (List.length_filter_le _ _) (by rw [List.length_take]; omega)
theorem askT_gone {L : List St} (h : TbOk L) {f : Int} {x : St} (hx : x ∈ L) (hf : ¬ f ≤ x.a) (m : Int) : askT (expT L f) x.s m = (rp0, false, 80) := by
  unfold askT expT
  rw [fndT_filter h.rises.ids, fndT_of h.rises.ids hx, Option.filter_some, if_neg (by simp [hf])]

theorem equalT_true {w : World} {v1 v2 : Value} {l : List St} (h1 : Sts w v1 l) (h2 : Sts w v2 l) : Calls Try.prog 32 #[v1, v2] w fun e w' => e = .returned (.bool true) ∧ Below w.heap.size w w' :=
  (equalSt_any h1 h2).mono fun e w' ⟨he, q, hw⟩ => ⟨by rw [he, decide_eq_true rfl], by rw [hw]; exact bdrew w q⟩

set_option maxRecDepth 200000 in
set_option maxHeartbeats 4000000 in
theorem lawEnds_any {w : World} {p : Option Addr} {n c : Nat} {l : List Dt} (h : Dts w p n c l) (f : Int) : Calls Try.prog 9 #[.slice p n c, .int .i64 f] w (LawPost w) := by
  have hcm := h.cap_
  have hmm := h.max_
  have hn64 : (n : Int) ≤ 9223372036854775807 := by unfold maxLen at hmm; omega
  by_cases hn : 200 < n
  · have hA := awake_any w
    clear h hcm hmm
    go_enter Try.func9, Try.ntmps9
    go_wp2_with fail
    refine hA.mono ?_
    rintro e w1 ⟨rfl, hb⟩
    go_wp2
    go_ret
    exact ⟨by rfl, hb⟩
  · have hP := hide (play_any h (by omega))
    obtain ⟨L, hL⟩ : ∃ L, playT l = L := ⟨_, rfl⟩
    rw [hL] at hP
    clear h hL hcm hmm
    go_enter Try.func9, Try.ntmps9
    go_wp2_with fail
    refine hP.out.mono ?_
    rintro e w1 ⟨rfl, hT⟩
    obtain ⟨g, hg⟩ : ∃ g, w.heap.size + 1 = g := ⟨_, rfl⟩
    obtain ⟨b, hb⟩ : ∃ b, w.heap.size = b := ⟨_, rfl⟩
    have T1 : Hid (TbOwn w g b w1 L) := hide (by rw [← hb, ← hg]; exact hT)
    rw [hg]
    clear hT hg hb
    go_wp2_with fail
    refine (seats_any T1.out.tb).mono ?_
    rintro e w2 ⟨v, rfl, ho2, hb2⟩
    have T2 := hide (T1.out.bel hb2)
    obtain ⟨pw, nw, cw, rfl⟩ := ho2.sts.sl
    have hnw := ho2.sts.len.1
    have hL8 := T1.out.tb.ok.len
    have HO2 := hide ho2
    have hbb1 : b < w1.heap.size := T1.out.tb.bl
    clear ho2 hb2
    go_wp2_with fail
    refine (expire_any T2.out.tb f).mono ?_
    rintro e w3 ⟨rfl, h3, hc3⟩
    have T3 := hide (T2.out.tab h3 hc3)
    have HO3 : Hid (OwnT w1.heap.size w3 (.slice pw nw cw) L) := hide (HO2.out.chg hc3 (fun k hk e => by omega))
    have hE8 := T3.out.tb.ok.len
    have HOKL := hide T1.out.tb.ok
    clear h3 hc3
    obtain ⟨sn, hsn⟩ : ∃ sn : Int, (L.length : Int) - (expT L f).length = sn := ⟨_, rfl⟩
    rw [hsn]
    have HSN := hide hsn
    clear hsn
    subst hnw
    go_wp2
    go_loopw [8, 27] (fun v i wr => ∃ k : Nat, k ≤ L.length ∧ i = .int .i64 k ∧ (∃ p n c, v = .slice p n c) ∧ Hid (OwnT w3.heap.size wr v (stayT L f k) ∧ Below w3.heap.size w3 wr)) (fun _ i _ => L.length - (intOf i).toNat)
    case atStart => exact ⟨0, by omega, rfl, ⟨_, _, _, rfl⟩, hide ⟨OwnT.nil _ _, Below.refl _ _⟩⟩
    case round =>
      obtain ⟨k, hk, rfl, ⟨p3, n3, c3, rfl⟩, HR⟩ := hrel
      have TR := hide (T3.out.bel HR.out.2)
      by_cases hlt : k < L.length
      · obtain ⟨y, hy⟩ : ∃ y, L[k]? = some y := ⟨_, List.getElem?_eq_getElem hlt⟩
        obtain ⟨gd, o, rfl, hc⟩ := HO3.out.sts.at_ (by omega)
        obtain ⟨d0, d1, d2, d3, d4, d5, d6, d7, d8, d9, d10⟩ := ((hc k y hy).below HR.out.2).all
        have hym : y ∈ L := List.mem_of_getElem? hy
        have HSY := hide (fun h => stayT_yes (f := f) hy h)
        have HSN' := hide (fun h => stayT_no (f := f) hy h)
        have HAG := hide (fun h m => askT_gone HOKL.out (f := f) hym h m)
        have hyo := (St.ok_iff.1 (HOKL.out.ok y hym))
        have hyq := hyo.2.1
        have hys := hyo.1
        have hsl := stayT_len L f k
        obtain ⟨s, q, a, ⟨e1, e2, e3, e4, e5, e6, e7, e8⟩⟩ := y
        dsimp only at d0 d1 d2 d3 d4 d5 d6 d7 d8 d9 d10 hyq hys HSY HSN' HAG
        obtain ⟨Y, hY⟩ : ∃ Y, wr.alloc (.cells #[.int .i64 s, .int .i64 q, .int .i64 a, .int .i64 e1, .int .i64 e2, .int .i64 e3, .int .i64 e4, .int .i64 e5, .int .i64 e6, .int .i64 e7, .int .i64 e8] 60) = Y := ⟨_, rfl⟩
        have hbY : Below wr.heap.size wr Y := by rw [← hY]; exact (Below.refl _ _).alloc (Nat.le_refl _) _
        have TY : Hid (TbOwn w g b Y (expT L f)) := hide (TR.out.bel hbY)
        have HOY : Hid (OwnT w3.heap.size Y (.slice p3 n3 c3) (stayT L f k) ∧ Below w3.heap.size w3 Y) := hide ⟨HR.out.1.below hbY, HR.out.2.trans (hbY.mono HR.out.2.size)⟩
        obtain ⟨y0, y1, y2, y3, y4, y5, y6, y7, y8, y9, y10⟩ := (StAt.box wr ⟨s, q, a, ⟨e1, e2, e3, e4, e5, e6, e7, e8⟩⟩).all
        dsimp only at y0 y1 y2 y3 y4 y5 y6 y7 y8 y9 y10
        rw [hY] at y0 y1 y2 y3 y4 y5 y6 y7 y8 y9 y10
        simp only [Nat.zero_add] at y0 y1 y2 y3 y4 y5 y6 y7 y8 y9 y10
        have HBY := hide hbY
        have HSL : Hid ((stayT L f k).length ≤ 1000000) := hide (by omega)
        clear hbY hc hy hym hyo hsl
        by_cases hf : f ≤ a
        · go_wp2_with (at_builtin; go_loud (refine wpList_pushT (w := Y) (v := .slice p3 n3 c3) (l := stayT L f k) (B := w3.heap.size) (H := Y.heap.size) rfl (.tmp 35) (.tmp 37) rfl rfl ⟨s, q, a, ⟨e1, e2, e3, e4, e5, e6, e7, e8⟩⟩ rfl rfl rfl HOY.out.1 HOY.out.2.size HSL.out ?_); intro v5 w5 ho5 hb5 hg5)
          obtain ⟨p5, n5, c5, rfl⟩ := ho5.sts.sl
          have HO5 := hide ho5
          have HB5 := hide (HOY.out.2.trans hb5)
          clear ho5 hb5 hg5
          go_wp2
          go_roundw
          case rel => exact ⟨k + 1, by omega, by go_num, ⟨_, _, _, rfl⟩, hide ⟨by rw [HSY.out hf]; exact HO5.out, HB5.out⟩⟩
          case measure => simp [intOf]; omega
        · have hk1 : Calls Try.prog 15 #[.pointer (some ⟨g, 0, none⟩), .int .i64 s, .int .i64 (q + 1)] Y (AskPost Y (rp0, false, 80)) := by
            have := ask_any TY.out.tb (n := s) (m := q + 1) (wf40 (by omega) (by omega)) (by omega) (by omega)
            rwa [HAG.out hf] at this
          have HK1 := hide hk1
          clear hk1
          go_wp2_with fail
          refine HK1.out.mono ?_
          rintro e w5 ⟨rfl, hb5⟩
          have H5 := hide (And.intro (HOY.out.1.below hb5) (HOY.out.2.trans (hb5.mono HOY.out.2.size)))
          clear hb5
          unfold rpV rp0
          dsimp only
          go_wp2
          go_roundw
          case rel => exact ⟨k + 1, by omega, by go_num, ⟨_, _, _, rfl⟩, hide ⟨by rw [HSN'.out hf]; exact H5.out.1.below ((Below.refl _ _).alloc (Nat.le_refl _) _), H5.out.2.alloc H5.out.2.size _⟩⟩
          case measure => simp [intOf]; omega
      · have e : stayT L f k = expT L f := by unfold stayT; rw [List.take_of_length_le (by omega)]
        have HE : Hid (OwnT w3.heap.size wr (.slice p3 n3 c3) (expT L f)) := hide (by have := HR.out.1; rwa [e] at this)
        have HN3 := hide HE.out.sts.len.1
        clear e
        go_wp2_with fail
        refine (seats_any TR.out.tb).mono ?_
        rintro e w5 ⟨v5, rfl, ho5, hb5⟩
        obtain ⟨p5, n5, c5, rfl⟩ := ho5.sts.sl
        have HO5 := hide ho5
        have T5 := hide (TR.out.bel hb5)
        have HE5 := hide (HE.out.below hb5)
        clear ho5 hb5
        go_wp2_with fail
        refine (equalT_true HO5.out.sts HE5.out.sts).mono ?_
        rintro e w6 ⟨rfl, hb6⟩
        have hfin : sn = (L.length : Int) - (n3 : Int) := by have := HSN.out; have := HN3.out; omega
        have HFIN := hide hfin
        have T6 := hide (T5.out.bel hb6)
        clear hb6 hfin
        have HAW := hide (awake_any w6)
        have hwr : IntKind.i64.wrap ((L.length : Int) - (n3 : Int)) = (L.length : Int) - (n3 : Int) := by
          have hn3 := HN3.out
          exact IntWalk.i64_in _ (by omega)
        rw [HFIN.out]
        go_wp2_with fail
        refine HAW.out.mono ?_
        rintro e w7 ⟨rfl, hb7⟩
        have T7 := hide (T6.out.bel hb7)
        clear hb7
        go_wp2
        go_ret
        exact ⟨by rfl, T7.out.below⟩
end Go.Proofs.Ytkjebpebfcgnjaa
