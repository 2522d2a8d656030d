/- Calls done one behind the other. -/
import Derived.Test.YtkjebpebfcgnjaaTAwake
import Derived.Test.YtkjebpebfcgnjaaTArg
namespace Go.Proofs.Ytkjebpebfcgnjaa
set_option linter.unusedVariables false
set_option linter.unusedSimpArgs false
open Go.RowKit

/-- Which call. -/
def kindT (op : Int) : Int := wrap64 ((IntKind.u64.wrap op).tmod 6)
def stepT (L : List St) (x : Dt) : List St := if kindT x.op == 0 then (openT L x.a).2 else if kindT x.op == 4 then expT L x.a else (keepT L x.s x.q x.a x.r).2
def playT (l : List Dt) : List St := l.foldl stepT []
theorem playT_snoc {l : List Dt} {k : Nat} {x : Dt} (h : l[k]? = some x) : playT (l.take (k + 1)) = stepT (playT (l.take k)) x := by
  unfold playT
  rw [List.take_add_one, h]
  simp
theorem stepT_ok {L : List St} (h : TbOk L) (x : Dt) : TbOk (stepT L x) := by
  unfold stepT
  split
  · exact h.open_ _
  · split
    · exact h.exp _
    · exact h.keep _ _ _ _
theorem DtAt.all {w : World} {g o : Nat} {x : Dt} (h : DtAt w g o x) : w.cell? ⟨g, o, none⟩ = some (.int .i64 x.op) ∧ w.cell? ⟨g, o + 1, none⟩ = some (.int .i64 x.s) ∧ w.cell? ⟨g, o + 2, none⟩ = some (.int .i64 x.q) ∧ w.cell? ⟨g, o + 3, none⟩ = some (.int .i64 x.a) ∧ w.cell? ⟨g, o + 4, none⟩ = some (.int .i64 x.r.er) ∧ w.cell? ⟨g, o + 5, none⟩ = some (.int .i64 x.r.rs) ∧ w.cell? ⟨g, o + 6, none⟩ = some (.int .i64 x.r.gn) ∧ w.cell? ⟨g, o + 7, none⟩ = some (.int .i64 x.r.ad) ∧ w.cell? ⟨g, o + 8, none⟩ = some (.int .i64 x.r.sa) ∧ w.cell? ⟨g, o + 9, none⟩ = some (.int .i64 x.r.ot) ∧ w.cell? ⟨g, o + 10, none⟩ = some (.int .i64 x.r.cy) ∧ w.cell? ⟨g, o + 11, none⟩ = some (.int .i64 x.r.fu) :=
  ⟨h 0 _ rfl, h 1 _ rfl, h 2 _ rfl, h 3 _ rfl, h 4 _ rfl, h 5 _ rfl, h 6 _ rfl, h 7 _ rfl, h 8 _ rfl, h 9 _ rfl, h 10 _ rfl, h 11 _ rfl⟩
theorem DtAt.box (w : World) (x : Dt) : DtAt (w.alloc (.cells #[.int .i64 x.op, .int .i64 x.s, .int .i64 x.q, .int .i64 x.a, .int .i64 x.r.er, .int .i64 x.r.rs, .int .i64 x.r.gn, .int .i64 x.r.ad, .int .i64 x.r.sa, .int .i64 x.r.ot, .int .i64 x.r.cy, .int .i64 x.r.fu] 36)) w.heap.size 0 x := fun k u hk => by
  rw [World.cell?_alloc_new, Nat.zero_add]
  unfold dtC at hk
  simpa using hk
def PlayPost (w : World) (L : List St) (e : Ending) (w' : World) : Prop := e = .returned (.pointer (some ⟨w.heap.size + 1, 0, none⟩)) ∧ TbOwn w (w.heap.size + 1) w.heap.size w' L

set_option maxRecDepth 200000 in
set_option maxHeartbeats 4000000 in
theorem play_any {w : World} {p : Option Addr} {n c : Nat} {l : List Dt} (h : Dts w p n c l) (hn : n ≤ 1000) : Calls Try.prog 29 #[.slice p n c] w (PlayPost w (playT l)) := by
  have HD := hide h
  have HN := hide hn
  clear h
  go_enter Try.func29, Try.ntmps29
  go_wp2_with fail
  refine (new_any w).mono ?_
  rintro e w1 ⟨rfl, h1, hb1⟩
  have T1 := hide (TbOwn.new h1 hb1)
  clear h1 hb1
  obtain ⟨g, hg⟩ : ∃ g, w.heap.size + 1 = g := ⟨_, rfl⟩
  obtain ⟨b, hb⟩ : ∃ b, w.heap.size = b := ⟨_, rfl⟩
  have T1' : Hid (TbOwn w g b w1 []) := hide (by rw [← hb, ← hg]; exact T1.out)
  rw [hg]
  have HG := hide hg
  have HB := hide hb
  clear T1 hb hg
  go_wp2
  go_loopw [9] (fun i wr => ∃ k : Nat, k ≤ n ∧ i = .int .i64 k ∧ Hid (TbOwn w g b wr (playT (l.take k)))) (fun i _ => n - (intOf i).toNat)
  case atStart => exact ⟨0, by omega, rfl, T1'⟩
  case round =>
    obtain ⟨k, hk, rfl, HT⟩ := hrel
    by_cases hlt : k < n
    · have hll := HD.out.len_
      obtain ⟨y, hy⟩ : ∃ y, l[k]? = some y := ⟨_, List.getElem?_eq_getElem (by omega)⟩
      obtain ⟨gd, o, rfl, hgd, hc⟩ := HD.out.at_ (by omega)
      obtain ⟨d0, d1, d2, d3, d4, d5, d6, d7, d8, d9, d10, d11⟩ := ((hc k y hy).below HT.out.below).all
      have HW := hide (HD.out.wf_ y (List.mem_of_getElem? hy))
      have HS := hide (playT_snoc hy)
      obtain ⟨op, s, q, a, ⟨e1, e2, e3, e4, e5, e6, e7, e8⟩⟩ := y
      dsimp only at d0 d1 d2 d3 d4 d5 d6 d7 d8 d9 d10 d11
      obtain ⟨Y, hY⟩ : ∃ Y, wr.alloc (.cells #[.int .i64 op, .int .i64 s, .int .i64 q, .int .i64 a, .int .i64 e1, .int .i64 e2, .int .i64 e3, .int .i64 e4, .int .i64 e5, .int .i64 e6, .int .i64 e7, .int .i64 e8] 36) = Y := ⟨_, rfl⟩
      have TY : Hid (TbOwn w g b Y (playT (l.take k))) := hide (by rw [← hY]; exact HT.out.alloc _)
      obtain ⟨y0, y1, y2, y3, y4, y5, y6, y7, y8, y9, y10, y11⟩ := (DtAt.box wr ⟨op, s, q, a, ⟨e1, e2, e3, e4, e5, e6, e7, e8⟩⟩).all
      dsimp only at y0 y1 y2 y3 y4 y5 y6 y7 y8 y9 y10 y11
      rw [hY] at y0 y1 y2 y3 y4 y5 y6 y7 y8 y9 y10 y11
      simp only [Nat.zero_add] at y0 y1 y2 y3 y4 y5 y6 y7 y8 y9 y10 y11
      have hw := HW.out
      have hwa := hw.wa
      have hwq := i64_bounds hw.wq
      have hws := hw.ws
      dsimp only at hwa hwq hws
      have ho := hide (open_any TY.out.tb hwa)
      have hx := hide (expire_any TY.out.tb a)
      have hkp := hide (keep_any (a := a) (r := ⟨e1, e2, e3, e4, e5, e6, e7, e8⟩) TY.out.tb hws hwq.1 hwq.2)
      unfold rpV at hkp
      dsimp only at hkp
      obtain ⟨L, hL⟩ : ∃ L, playT (l.take k) = L := ⟨_, rfl⟩
      rw [hL] at ho hx hkp TY HS
      clear hL hc hy hwa hwq hws hll hw hgd
      by_cases h0 : (wrap64 ((IntKind.u64.wrap op).tmod 6) == 0) = true
      · have HST : Hid (playT (l.take (k + 1)) = (openT L a).2) := hide (HS.out.trans (if_pos h0))
        go_wp2_with fail
        refine ho.out.mono ?_
        rintro e w2 ⟨rfl, h2, hc2⟩
        have T2 := hide (TY.out.tab h2 hc2)
        clear h2 hc2
        go_wp2
        go_roundw
        case rel => exact ⟨k + 1, by omega, by go_num, hide (by rw [HST.out]; exact T2.out)⟩
        case measure => simp [intOf]; omega
      · replace h0 : (wrap64 ((IntKind.u64.wrap op).tmod 6) == 0) = false := by simpa using h0
        by_cases h4 : (wrap64 ((IntKind.u64.wrap op).tmod 6) == 4) = true
        · have HST : Hid (playT (l.take (k + 1)) = expT L a) := hide (HS.out.trans ((if_neg (by show ¬ (kindT op == 0) = true; unfold kindT; rw [h0]; simp)).trans (if_pos h4)))
          go_wp2_with fail
          refine hx.out.mono ?_
          rintro e w2 ⟨rfl, h2, hc2⟩
          have T2 := hide (TY.out.tab h2 hc2)
          clear h2 hc2
          go_wp2
          go_roundw
          case rel => exact ⟨k + 1, by omega, by go_num, hide (by rw [HST.out]; exact T2.out)⟩
          case measure => simp [intOf]; omega
        · replace h4 : (wrap64 ((IntKind.u64.wrap op).tmod 6) == 4) = false := by simpa using h4
          have HST : Hid (playT (l.take (k + 1)) = (keepT L s q a ⟨e1, e2, e3, e4, e5, e6, e7, e8⟩).2) := hide (HS.out.trans ((if_neg (by show ¬ (kindT op == 0) = true; unfold kindT; rw [h0]; simp)).trans (if_neg (by show ¬ (kindT op == 4) = true; unfold kindT; rw [h4]; simp))))
          go_wp2_with fail
          refine hkp.out.mono ?_
          rintro e w2 ⟨rfl, h2, hc2⟩
          have T2 := hide (TY.out.tab h2 hc2)
          clear h2 hc2
          go_wp2
          go_roundw
          case rel => exact ⟨k + 1, by omega, by go_num, hide (by rw [HST.out]; exact T2.out)⟩
          case measure => simp [intOf]; omega
    · go_wp2
      go_ret
      have e : l.take k = l := List.take_of_length_le (by have := HD.out.len_; omega)
      have ht := HT.out
      rw [e, ← HG.out, ← HB.out] at ht
      exact ⟨by rw [HG.out]; rfl, ht⟩
end Go.Proofs.Ytkjebpebfcgnjaa
