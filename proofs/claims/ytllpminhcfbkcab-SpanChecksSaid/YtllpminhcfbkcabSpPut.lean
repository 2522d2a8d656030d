/- Spans' bytes: the program's Put. -/
import Derived.Test.YtllpminhcfbkcabSpBytes
import Derived.Test.YtllpminhcfbkcabGather
namespace Go.Proofs.Ytllpminhcfbkcab
set_option linter.unusedVariables false
set_option linter.unusedSimpArgs false
open Go.RowKit

/-- What Put says of spans. -/
def putB (l : List Sp) : List UInt8 × Nat := if l.all Sp.ok then (encL l, 0) else ([], 30)
theorem Gath.lit {B : Nat} {w : World} {q : Option Addr} {m c : Nat} {x : List UInt8} (hB : B ≤ w.heap.size) (hx : Own B w (.slice q m c) x) : Gath B (w.alloc (.cells #[.slice q m c] 31)) (.slice (some ⟨w.heap.size, 0, none⟩) 1 1) [x] := by
  refine ⟨[.slice q m c], rfl, World.ownsRow_lit w #[.slice q m c] 1 hB (by decide) rfl, fun i u y h1 h2 => ?_⟩
  match i, h1, h2 with
  | 0, h1, h2 =>
    simp at h1 h2
    subst h1 h2
    refine ⟨hx.by_.alloc _, ?_, rfl⟩
    rcases hx.notNew with h | h
    · exact .inl h
    · rcases hx with ⟨_, rfl⟩ | ⟨g, cap, e, _, _, _, hc, _⟩
      · exact .inl rfl
      · cases x with
        | nil => exact .inl rfl
        | cons y r =>
          refine .inr fun k hk => ⟨?_, ?_⟩
          · have := h k hk
            simp only [Value.ownBlock]
            exact this
          · injection e with e1
            subst e1
            simp only [Value.ownBlock, Option.some.injEq] at hk
            subst hk
            have := lt_of_cell (hc 0 y rfl)
            simp
            simp only at this
            omega

theorem Apart.of_own {B : Nat} {w w' : World} {v u : Value} {xs : List (List UInt8)} {x : List UInt8} (hG : Gath B w v xs) (ho : Own w.heap.size w' u x) : Apart w' v u x := by
  rcases ho with ⟨e, rfl⟩ | ⟨g, cap, e, hBg, hPl, hm, hc2, hs2, hf2⟩
  · exact .inl rfl
  · by_cases h0 : x = []
    · exact .inl h0
    · refine .inr fun j hj => ?_
      subst e
      simp only [Value.ownBlock, Option.some.injEq] at hj
      subst hj
      have hPp : 0 < x.length := List.length_pos_iff.2 h0
      refine ⟨fun h => ?_, lt_of_cell (hc2 0 x[0] (List.getElem?_eq_getElem hPp))⟩
      obtain ⟨us, _, hou, _⟩ := hG
      have := (hou.lt g h).2
      omega
theorem bytes_length {x : Sp} (h : x.ok = true) : x.bytes.length ≤ 100 := by
  have hk := (Sp.ok_iff x).1 h
  obtain ⟨t1, t2, i1, i2, p1, p2, s1, s2, e2, _, _, n2, _⟩ := hk
  have q1 := digits_length x.t.toNat (by omega)
  have q2 := digits_length x.i.toNat (by omega)
  have q3 := digits_length x.p.toNat (by omega)
  have q4 := digits_length x.s.toNat (by omega)
  have q5 := digits_length (x.e - x.s).toNat (by omega)
  have q6 := digits_length x.nl.length (by omega)
  unfold Sp.bytes
  simp only [List.length_append]
  omega
theorem lens_puts : ∀ {l : List Sp}, l.all Sp.ok = true → Lib.lens (l.map Sp.bytes) ≤ 100 * l.length
  | [], _ => by simp [Lib.lens]
  | x :: r, h => by
    rw [List.all_cons, Bool.and_eq_true] at h
    have h1 := bytes_length h.1
    have h2 := lens_puts h.2
    simp only [Lib.lens, List.map_cons, List.sum_cons, List.length_cons] at h2 ⊢
    omega

set_option maxRecDepth 200000 in
set_option maxHeartbeats 2000000 in
/-- span.Put. -/
theorem put_any {w : World} {v : Value} {l : List Sp} (hv : Sps w v l) (hl : l.length ≤ 100000) (hnm : ∀ x ∈ l, x.n.size ≤ 1000000) {B : List UInt8} {E : Nat} (hP : putB l = (B, E)) :
    Calls Try.prog 16 #[v] w fun e w' => ∃ v', e = .returned (.tuple #[v', .int .i64 (E : Int)]) ∧ Own w.heap.size w' v' B ∧ Below w.heap.size w w' := by
  obtain ⟨p, n, c, rfl⟩ := hv.sl
  obtain ⟨hn, hnc, hcm⟩ := hv.len
  have HV := hide hv
  have HN := hide hn
  have HP := hide hP
  have HM := hide hnm
  have hn1 : n ≤ 100000 := by omega
  clear hv hn hP hnm hl
  go_enter Try.func16, Try.ntmps16
  go_wp2_with fail
  refine (wireNumber_any (By.nil w) (by simp) n n (by omega) (by unfold lim; omega)).mono ?_
  rintro e1 w1 ⟨v1, rfl, ho, hb⟩
  rw [List.nil_append] at ho
  obtain ⟨q1, m1, c1, rfl⟩ := ho.by_.sl
  have hG := Gath.lit (B := w.heap.size) hb.size ho
  have HG := hide hG
  have HB := hide (hb.alloc hb.size (.cells #[.slice q1 m1 c1] 31))
  clear hG hb ho
  go_wp2_with fail
  obtain ⟨X, hX⟩ : ∃ X, w1.alloc (.cells #[.slice q1 m1 c1] 31) = X := ⟨_, rfl⟩
  rw [hX] at HG HB ⊢
  have HW1 := hide (show w1.heap.size < X.heap.size by rw [← hX]; simp)
  clear hX
  go_loopw [4, 6, 7, 14] (fun v _ _ c wr => ∃ k : Nat, k ≤ n ∧ c = .int .i64 k ∧ Hid (Gath w.heap.size wr v (digits n :: (l.take k).map Sp.bytes) ∧ Below w.heap.size w wr ∧ (l.take k).all Sp.ok = true)) (fun _ _ _ c _ => n - (intOf c).toNat)
  case atStart => exact ⟨0, by omega, rfl, hide ⟨HG.out, HB.out, rfl⟩⟩
  case round =>
    obtain ⟨k, hk, rfl, HR⟩ := hrel
    by_cases hlt : (k : Int) < (n : Int)
    · obtain ⟨g, o, rfl, hx⟩ := HV.out.at_ (by omega)
      obtain ⟨x, hxk⟩ : ∃ x, l[k]? = some x := ⟨_, List.getElem?_eq_getElem (by have := HN.out; omega)⟩
      have hat := (hx k x hxk).below (HR.out.2.1)
      obtain ⟨oo, hoo⟩ : ∃ oo, o + k * 6 = oo := ⟨_, rfl⟩
      rw [hoo] at hat
      have c0 := hat.c0
      have c1' := hat.c1
      have c2 := hat.c2
      have c3 := hat.c3
      have c4 := hat.c4
      have c5 := hat.c5
      have hxn := HM.out x (List.mem_of_getElem? hxk)
      have HXK := hide hxk
      have HAT := hide hat
      have hck := check_any x hxn
      have HCK := hide hck
      have HBX := hide (bytesOf_any x)
      clear hx hxk hat hck
      have hnew := spAt_new wr x
      have HNEW := hide hnew
      have hbn : Below wr.heap.size wr (wr.alloc (.cells #[.int .i64 x.t, .int .i64 x.i, .int .i64 x.p, .int .i64 x.s, .int .i64 x.e, .string x.n] 23)) := (Below.refl _ _).alloc (Nat.le_refl _) _
      have HBN := hide hbn
      have hsn : wr.heap.size < (wr.alloc (.cells #[.int .i64 x.t, .int .i64 x.i, .int .i64 x.p, .int .i64 x.s, .int .i64 x.e, .string x.n] 23)).heap.size := by simp
      have HSN := hide hsn
      clear hnew hbn hsn
      by_cases hok : x.ok = true
      · have HOK := hide hok
        obtain ⟨t, i, p, s, e, nm⟩ := x
        dsimp only at *
        unfold spV at *
        rw [if_pos hok] at HCK
        clear hok
        go_wp2_with fail
        refine (HCK.out _).mono ?_
        rintro e2 w2 ⟨rfl, hb2⟩
        obtain ⟨d0, d1, d2, d3, d4, d5⟩ := (HNEW.out.below hb2).z
        dsimp only at d0 d1 d2 d3 d4 d5
        have HB2 : Hid (Below wr.heap.size wr w2) := hide (HBN.out.trans (hb2.mono (Nat.le_of_lt HSN.out)))
        clear hb2
        go_wp2_with fail
        refine (HBX.out HOK.out _).mono ?_
        rintro e3 w3 ⟨v3, rfl, ho3, hb3⟩
        obtain ⟨q3, m3, c3, rfl⟩ := ho3.by_.sl
        have hap := Apart.of_own HR.out.1 (ho3.mono HB2.out.size)
        have HAP := hide hap
        have HG3 := hide (HR.out.1.below (HB2.out.trans (hb3.mono HB2.out.size)))
        have HB3 := hide (HR.out.2.1.trans ((HB2.out.trans (hb3.mono HB2.out.size)).mono HR.out.2.1.size))
        have HP3 := hide ho3.by_
        have hbs3 := HB3.out.size
        have HOK2 : Hid ((l.take (k + 1)).all Sp.ok = true ∧ digits n :: (l.take (k + 1)).map Sp.bytes = (digits n :: (l.take k).map Sp.bytes) ++ [Sp.bytes ⟨t, i, p, s, e, nm⟩]) := hide (by
          have h1 : l.take (k + 1) = l.take k ++ [⟨t, i, p, s, e, nm⟩] := by rw [List.take_add_one, HXK.out]; rfl
          rw [h1, List.all_append, HR.out.2.2]
          refine ⟨?_, by simp⟩
          simp only [List.all_cons, List.all_nil, Bool.and_true, Bool.true_and]
          exact HOK.out)
        have hlk : (digits n :: (l.take k).map Sp.bytes).length ≤ 1000000 := by
          simp only [List.length_cons, List.length_map, List.length_take]
          omega
        have HLK := hide hlk
        clear hap ho3 hb3 d0 d1 d2 d3 d4 d5 hlk
        go_wp2_with (at_builtin; go_must (refine wpList_gather (v := u4) rfl _ _ rfl rfl rfl rfl HG3.out HP3.out HAP.out hbs3 HLK.out ?_); intro v4 w4 hg4 hb4)
        go_roundw
        case rel => exact ⟨k + 1, by omega, by go_num, hide ⟨by rw [HOK2.out.2]; exact hg4, HB3.out.trans hb4, HOK2.out.1⟩⟩
        case measure => simp [intOf]; omega
      · have hBE : B = [] ∧ E = 30 := by
          have hall : l.all Sp.ok = false := by
            rw [Bool.eq_false_iff]
            intro h
            exact hok (List.all_eq_true.1 h x (List.mem_of_getElem? HXK.out))
          have := HP.out
          unfold putB at this
          rw [hall] at this
          simp only [Bool.false_eq_true, if_false, Prod.mk.injEq] at this
          exact ⟨this.1.symm, this.2.symm⟩
        obtain ⟨rfl, rfl⟩ := hBE
        obtain ⟨t, i, p, s, e, nm⟩ := x
        dsimp only at *
        unfold spV at *
        rw [if_neg hok] at HCK
        clear hok
        go_wp2_with fail
        refine (HCK.out _).mono ?_
        rintro e2 w2 ⟨rfl, hb2⟩
        have HB2 : Hid (Below wr.heap.size wr w2) := hide (HBN.out.trans (hb2.mono (Nat.le_of_lt HSN.out)))
        clear hb2
        go_wp2
        go_ret2
        exact ⟨_, rfl, Own.nil _ _, HR.out.2.1.trans (HB2.out.mono HR.out.2.1.size)⟩
    · have hkn : k = n := by omega
      subst hkn
      have hall : l.all Sp.ok = true := by
        have := HR.out.2.2
        rwa [List.take_of_length_le (by have := HN.out; omega)] at this
      have hG : Gath w.heap.size wr u4 (digits k :: l.map Sp.bytes) := by
        have := HR.out.1
        rwa [List.take_of_length_le (by have := HN.out; omega)] at this
      have hBE : B = (digits k :: l.map Sp.bytes).flatten ∧ E = 0 := by
        have := HP.out
        unfold putB at this
        rw [hall] at this
        simp only [if_true, Prod.mk.injEq] at this
        refine ⟨?_, this.2.symm⟩
        rw [← this.1]
        unfold encL
        rw [List.flatten_cons, HN.out]
      obtain ⟨rfl, rfl⟩ := hBE
      have hlens := lens_puts (l := l) hall
      have hlen1 := digits_length k (by omega)
      have HJ := hide (join_any hG.bss (by simp only [Lib.lens, List.map_cons, List.sum_cons] at hlens ⊢; have := HN.out; omega) (by simp only [List.length_cons, List.length_map]; have := HN.out; omega))
      have HBW := hide HR.out.2.1
      clear hG hall hlens hlen1
      go_wp2_with fail
      refine HJ.out.mono ?_
      rintro e2 w2 ⟨v2, rfl, ho2, hb2⟩
      have HO := hide ho2
      have HB2 := hide hb2
      clear ho2 hb2
      go_wp2
      go_ret2
      exact ⟨_, rfl, HO.out.mono HBW.out.size, HBW.out.trans (HB2.out.mono HBW.out.size)⟩
end Go.Proofs.Ytllpminhcfbkcab
