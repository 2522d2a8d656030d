/- The document's Open and Expire. -/
import Derived.Test.YtkjebpebfcgnjaaTRef2
import Derived.Test.YtkjebpebfcgnjaaTLdPure
namespace Go.Proofs.Ytkjebpebfcgnjaa
set_option linter.unusedVariables false
set_option linter.unusedSimpArgs false
open Go.RowKit

/-- What a call of the document's table says. -/
def RefPost (w : World) (gx : Nat) (v : Value) (n : Int) (L' : List St) (e : Ending) (w' : World) : Prop := e = .returned (.int .i64 n) ∧ ∃ v', RtAt w' gx v' L' ∧ (v' = v ∨ ∀ k, v'.ownBlock = some k → w.heap.size ≤ k) ∧ Chg w w' (fun k => k = gx)
theorem ref_fin {w wr : World} {gx : Nat} {v v' : Value} {L L' : List St} {n : Int} {e : Ending} (h : RtAt w gx v L) (hb : Below w.heap.size w wr) (ho : OwnT w.heap.size wr v' L') (he : e = .returned (.int .i64 n)) : RefPost w gx v n L' e (wr.setCell ⟨gx, 0, none⟩ v') := by
  have hlt := h.lt
  have hr := h.below hb
  refine ⟨he, v', ⟨?_, ?_⟩, .inr fun k hk => (ho.lt k hk).1, ?_⟩
  · have := heap_setCell_same wr gx 0 _ 29 v' hr.row
    simpa using this
  · refine (ho.grown (grown_set wr gx 0 v') ?_).mono (by omega)
    cases hv : v'.ownBlock with
    | none => exact .inl rfl
    | some k =>
      refine .inr fun e => ?_
      injection e with e
      have := (ho.lt k hv).1
      omega
  · exact (Chg.of_below hb (fun k => k = gx)).set _ (.inl rfl)
theorem ref_same {w w' : World} {gx : Nat} {v : Value} {L : List St} {n : Int} {e : Ending} (h : RtAt w gx v L) (hb : Below w.heap.size w w') (he : e = .returned (.int .i64 n)) : RefPost w gx v n L e w' :=
  ⟨he, v, h.below hb, .inl rfl, Chg.of_below hb _⟩

theorem insT_snoc : ∀ {M : List St} {x y : St}, (∃ z ∈ M, x.s < z.s) → insT (M ++ [y]) x = insT M x ++ [y]
  | [], x, y, h => by obtain ⟨z, hz, _⟩ := h; cases hz
  | m :: r, x, y, h => by
    rw [List.cons_append]
    unfold insT
    by_cases h1 : x.s < m.s
    · rw [if_pos h1, if_pos h1]
      rfl
    · rw [if_neg h1, if_neg h1]
      by_cases h2 : x.s = m.s
      · rw [if_pos h2, if_pos h2]
        rfl
      · rw [if_neg h2, if_neg h2, insT_snoc]
        · rfl
        · obtain ⟨z, hz, hlt⟩ := h
          rcases List.mem_cons.1 hz with rfl | hz
          · exact absurd hlt h1
          · exact ⟨z, hz, hlt⟩
theorem insT_mid : ∀ {M : List St} {x y : St}, (∀ z ∈ M, z.s < x.s) → x.s < y.s → insT (M ++ [y]) x = M ++ [x] ++ [y]
  | [], x, y, _, h => by
    show insT [y] x = [x, y]
    unfold insT
    rw [if_pos h]
  | m :: r, x, y, hM, h => by
    have h1 := hM m (List.mem_cons_self ..)
    rw [List.cons_append]
    unfold insT
    rw [if_neg (by omega), if_neg (by omega), insT_mid (fun z hz => hM z (List.mem_cons_of_mem _ hz)) h]
    rfl
def dnT (L : List St) (n : Int) (k : Nat) : Bool := (L.take k).any fun x => decide (n < x.s)
def opnT (L : List St) (x : St) (k : Nat) : List St := if dnT L x.s k then insT (L.take k) x else L.take k
theorem dnT_succ {L : List St} {n : Int} {k : Nat} {y : St} (h : L[k]? = some y) : dnT L n (k + 1) = (dnT L n k || decide (n < y.s)) := by
  unfold dnT
  rw [List.take_add_one, h, List.any_append]
  simp
theorem opnT_true {L : List St} {x y : St} {k : Nat} (h : L[k]? = some y) (hd : dnT L x.s k = true) : opnT L x (k + 1) = opnT L x k ++ [y] := by
  unfold opnT
  rw [dnT_succ h, hd, if_pos (by simp), if_pos rfl, List.take_add_one, h]
  refine insT_snoc ?_
  unfold dnT at hd
  obtain ⟨z, hz, hlt⟩ := List.any_eq_true.1 hd
  exact ⟨z, hz, by simpa using hlt⟩
theorem dn_all {L : List St} {x : St} {k : Nat} (hf : fndT L x.s = none) (hd : dnT L x.s k = false) : ∀ z ∈ L.take k, z.s < x.s := fun z hz => by
  have h1 := fndT_none.1 hf z (List.mem_of_mem_take hz)
  unfold dnT at hd
  have h2 := List.any_eq_false.1 hd z hz
  simp at h2
  omega
theorem opnT_ins {L : List St} {x y : St} {k : Nat} (h : L[k]? = some y) (hf : fndT L x.s = none) (hd : dnT L x.s k = false) (hlt : x.s < y.s) : opnT L x (k + 1) = opnT L x k ++ [x] ++ [y] := by
  unfold opnT
  rw [dnT_succ h, hd, if_pos (by simp [hlt]), if_neg (by simp), List.take_add_one, h]
  exact insT_mid (dn_all hf hd) hlt
theorem opnT_not {L : List St} {x y : St} {k : Nat} (h : L[k]? = some y) (hd : dnT L x.s k = false) (hlt : ¬ x.s < y.s) : opnT L x (k + 1) = opnT L x k ++ [y] := by
  unfold opnT
  rw [dnT_succ h, hd, if_neg (by simp; omega), if_neg (by simp), List.take_add_one, h]
  rfl
theorem opnT_end {L : List St} {x : St} (hf : fndT L x.s = none) : insT L x = if dnT L x.s L.length then opnT L x L.length else opnT L x L.length ++ [x] := by
  unfold opnT
  split
  · rename_i hd
    rw [List.take_length]
  · rename_i hd
    have hd' : dnT L x.s L.length = false := by simpa using hd
    have := dn_all hf hd'
    rw [List.take_length] at this ⊢
    exact insT_last this
theorem opnT_len (L : List St) (x : St) (k : Nat) (hr : RisesT L) : (opnT L x k).length ≤ L.length + 1 := by
  unfold opnT
  have h1 : (L.take k).length ≤ L.length := by rw [List.length_take]; omega
  split
  · have h2 : RisesT (L.take k) := hr.sublist (List.take_sublist k L)
    rw [length_insT h2]
    split <;> omega
  · omega

set_option maxRecDepth 200000 in
set_option maxHeartbeats 4000000 in
theorem refOpen_any {w : World} {gx : Nat} {v : Value} {L : List St} (h : RtAt w gx v L) (hT : TbOk L) (n : Int) : Calls Try.prog 14 #[.pointer (some ⟨gx, 0, none⟩), .int .i64 n] w (RefPost w gx v (openT L n).1 (openT L n).2) := by
  have HH := hide h
  have HOKT := hide hT
  have HPL := hide (place_any h hT.len n)
  have hL8 := hT.len
  have c0 := h.c0
  have f0 := h.f0
  have hgx := h.lt
  obtain ⟨pv, nv, cv, rfl⟩ := h.own.sts.sl
  obtain rfl : nv = L.length := h.own.sts.len.1
  clear h hT
  by_cases h1 : n < 1
  · have HR : Hid (openT L n = (1, L)) := hide (by unfold openT; rw [c40_no1 (by omega)]; simp)
    go_enter Try.func14, Try.ntmps14
    go_wp2
    go_ret
    rw [HR.out]
    exact ref_same HH.out (Below.refl _ _) rfl
  by_cases h2 : n > 1099511627776
  · have HR : Hid (openT L n = (1, L)) := hide (by unfold openT; rw [c40_no2 (by omega)]; simp)
    go_enter Try.func14, Try.ntmps14
    go_wp2
    go_ret
    rw [HR.out]
    exact ref_same HH.out (Below.refl _ _) rfl
  have hc40 : c40 n = true := c40_yes (by omega) (by omega)
  cases hf : fndT L n with
  | some y =>
    have HR : Hid (openT L n = (1, L)) := hide (by unfold openT; rw [hf]; rfl)
    obtain ⟨k, hk, hkl⟩ := plcT_some HOKT.out.rises hf
    rw [hk] at HPL
    clear hf hk hkl hc40
    go_enter Try.func14, Try.ntmps14
    go_wp2_with fail
    refine HPL.out.mono ?_
    rintro e X ⟨rfl, rfl⟩
    go_wp2
    go_ret
    rw [HR.out]
    exact ref_same HH.out (Below.refl _ _) rfl
  | none =>
    rw [plcT_no hf] at HPL
    by_cases h8 : L.length = 8
    · have HR : Hid (openT L n = (7, L)) := hide (by unfold openT; rw [hf, hc40, if_neg (by simp), if_pos (by omega)])
      have h8' : ((L.length : Int) == 8) = true := by rw [h8]; rfl
      clear hf hc40 h8
      go_enter Try.func14, Try.ntmps14
      go_wp2_with fail
      refine HPL.out.mono ?_
      rintro e X ⟨rfl, rfl⟩
      go_wp2
      go_ret
      rw [HR.out]
      exact ref_same HH.out (Below.refl _ _) rfl
    · have HR : Hid (openT L n = (0, insT L (⟨n, 0, n, rp0⟩ : St))) := hide (by unfold openT; rw [hf, hc40, if_neg (by simp), if_neg (by omega)])
      have h8' : ((L.length : Int) == 8) = false := by
        have : (L.length : Int) ≠ 8 := by omega
        simpa using this
      have HF := hide hf
      clear hf hc40 h8
      go_enter Try.func14, Try.ntmps14
      go_wp2_with fail
      refine HPL.out.mono ?_
      rintro e X ⟨rfl, rfl⟩
      go_wp2
      go_loopw [5, 6, 32] (fun v d i wr => ∃ (k : Nat) (bd : Bool), k ≤ L.length ∧ i = .int .i64 k ∧ (∃ p n c, v = .slice p n c) ∧ d = .bool bd ∧ Hid (bd = dnT L n k ∧ OwnT w.heap.size wr v (opnT L (⟨n, 0, n, rp0⟩ : St) k) ∧ Below w.heap.size w wr)) (fun _ _ i _ => L.length - (intOf i).toNat)
      case atStart => exact ⟨0, false, by omega, rfl, ⟨_, _, _, rfl⟩, rfl, hide ⟨rfl, OwnT.nil _ _, Below.refl _ _⟩⟩
      case round =>
        obtain ⟨k, bd, hk, rfl, ⟨p3, n3, c3, rfl⟩, rfl, HK⟩ := hrel
        have hbs := HK.out.2.2.size
        have HLEN := hide (opnT_len L (⟨n, 0, n, rp0⟩ : St) k HOKT.out.rises)
        by_cases hlt : k < L.length
        · obtain ⟨y, hy⟩ : ∃ y, L[k]? = some y := ⟨_, List.getElem?_eq_getElem hlt⟩
          obtain ⟨gd, o, rfl, hc⟩ := HH.out.own.sts.at_ (by omega)
          obtain ⟨d0, d1, d2, d3, d4, d5, d6, d7, d8, d9, d10⟩ := ((hc k y hy).below HK.out.2.2).all
          have HY := hide hy
          obtain ⟨s, q, a, ⟨e1, e2, e3, e4, e5, e6, e7, e8⟩⟩ := y
          dsimp only at d0 d1 d2 d3 d4 d5 d6 d7 d8 d9 d10
          obtain ⟨Y, hY⟩ : ∃ Y, wr.alloc (.cells #[.int .i64 s, .int .i64 q, .int .i64 a, .int .i64 e1, .int .i64 e2, .int .i64 e3, .int .i64 e4, .int .i64 e5, .int .i64 e6, .int .i64 e7, .int .i64 e8] 60) = Y := ⟨_, rfl⟩
          have hbY : Below wr.heap.size wr Y := by rw [← hY]; exact (Below.refl _ _).alloc (Nat.le_refl _) _
          have hdY := StAt.box wr ⟨s, q, a, ⟨e1, e2, e3, e4, e5, e6, e7, e8⟩⟩
          rw [hY] at hdY
          have HDY := hide hdY
          obtain ⟨y0, y1, y2, y3, y4, y5, y6, y7, y8, y9, y10⟩ := hdY.all
          dsimp only at y0 y1 y2 y3 y4 y5 y6 y7 y8 y9 y10
          simp only [Nat.zero_add] at y0 y1 y2 y3 y4 y5 y6 y7 y8 y9 y10
          have HOY : Hid (OwnT w.heap.size Y (.slice p3 n3 c3) (opnT L (⟨n, 0, n, rp0⟩ : St) k) ∧ Below w.heap.size w Y) := hide ⟨HK.out.2.1.below hbY, HK.out.2.2.trans (hbY.mono hbs)⟩
          clear hc hy hbY hdY
          cases bd
          · have HD := hide HK.out.1.symm
            by_cases hns : n < s
            · have HO1 : Hid (opnT L (⟨n, 0, n, rp0⟩ : St) (k + 1) = opnT L (⟨n, 0, n, rp0⟩ : St) k ++ [(⟨n, 0, n, rp0⟩ : St)] ++ [⟨s, q, a, ⟨e1, e2, e3, e4, e5, e6, e7, e8⟩⟩]) := hide (opnT_ins HY.out HF.out HD.out hns)
              have HDN : Hid (true = dnT L n (k + 1)) := hide (by rw [dnT_succ HY.out]; simp [hns])
              go_wp2_with (first | (at_builtin; refine wpList_pushT (w := Y) (v := .slice p3 n3 c3) (l := opnT L (⟨n, 0, n, rp0⟩ : St) k) (B := w.heap.size) (H := Y.heap.size) rfl (.tmp 44) (.tmp 48) rfl rfl (⟨n, 0, n, rp0⟩ : St) rfl rfl rfl HOY.out.1 HOY.out.2.size (by have := HLEN.out; simp; omega) ?_; intro v5 w5 ho5 hb5 hg5; obtain ⟨p5, n5, c5, rfl⟩ := ho5.sts.sl; have HO5 := hide (And.intro ho5 (HOY.out.2.trans hb5)); have HD5 := hide (HDY.out.grown hg5 (fun e => by have := HK.out.2.1.lt _ e; omega)); clear ho5 hb5 hg5; obtain ⟨z0, z1, z2, z3, z4, z5, z6, z7, z8, z9, z10⟩ := HD5.out.all; dsimp only at z0 z1 z2 z3 z4 z5 z6 z7 z8 z9 z10; simp only [Nat.zero_add] at z0 z1 z2 z3 z4 z5 z6 z7 z8 z9 z10) | (at_builtin; refine wpList_pushT (w := w5) (v := .slice p5 n5 c5) (l := opnT L (⟨n, 0, n, rp0⟩ : St) k ++ [(⟨n, 0, n, rp0⟩ : St)]) (B := w.heap.size) (H := w5.heap.size) rfl (.tmp 50) (.tmp 52) rfl rfl ⟨s, q, a, ⟨e1, e2, e3, e4, e5, e6, e7, e8⟩⟩ rfl rfl rfl HO5.out.1 HO5.out.2.size (by have := HLEN.out; simp; omega) ?_; intro v6 w6 ho6 hb6 hg6; obtain ⟨p6, n6, c6, rfl⟩ := ho6.sts.sl; have HO6 := hide (And.intro ho6 (HO5.out.2.trans hb6)); clear ho6 hb6 hg6))
              go_wp2
              go_roundw
              case rel => exact ⟨k + 1, true, by omega, by go_num, ⟨_, _, _, rfl⟩, rfl, hide ⟨HDN.out, by rw [HO1.out]; exact HO6.out.1, HO6.out.2⟩⟩
              case measure => simp [intOf]; omega
            · have HO1 : Hid (opnT L (⟨n, 0, n, rp0⟩ : St) (k + 1) = opnT L (⟨n, 0, n, rp0⟩ : St) k ++ [⟨s, q, a, ⟨e1, e2, e3, e4, e5, e6, e7, e8⟩⟩]) := hide (opnT_not HY.out HD.out hns)
              have HDN : Hid (false = dnT L n (k + 1)) := hide (by rw [dnT_succ HY.out, HD.out]; simp; omega)
              go_wp2_with (at_builtin; go_loud (refine wpList_pushT (w := Y) (v := .slice p3 n3 c3) (l := opnT L (⟨n, 0, n, rp0⟩ : St) k) (B := w.heap.size) (H := Y.heap.size) rfl (.tmp 50) (.tmp 52) rfl rfl ⟨s, q, a, ⟨e1, e2, e3, e4, e5, e6, e7, e8⟩⟩ rfl rfl rfl HOY.out.1 HOY.out.2.size (by have := HLEN.out; simp; omega) ?_); intro v6 w6 ho6 hb6 hg6)
              obtain ⟨p6, n6, c6, rfl⟩ := ho6.sts.sl
              have HO6 := hide (And.intro ho6 (HOY.out.2.trans hb6))
              clear ho6 hb6 hg6
              go_wp2
              go_roundw
              case rel => exact ⟨k + 1, false, by omega, by go_num, ⟨_, _, _, rfl⟩, rfl, hide ⟨HDN.out, by rw [HO1.out]; exact HO6.out.1, HO6.out.2⟩⟩
              case measure => simp [intOf]; omega
          · have HD := hide HK.out.1.symm
            have HO1 : Hid (opnT L (⟨n, 0, n, rp0⟩ : St) (k + 1) = opnT L (⟨n, 0, n, rp0⟩ : St) k ++ [⟨s, q, a, ⟨e1, e2, e3, e4, e5, e6, e7, e8⟩⟩]) := hide (opnT_true HY.out HD.out)
            have HDN : Hid (true = dnT L n (k + 1)) := hide (by rw [dnT_succ HY.out, HD.out]; rfl)
            go_wp2_with (at_builtin; go_loud (refine wpList_pushT (w := Y) (v := .slice p3 n3 c3) (l := opnT L (⟨n, 0, n, rp0⟩ : St) k) (B := w.heap.size) (H := Y.heap.size) rfl (.tmp 50) (.tmp 52) rfl rfl ⟨s, q, a, ⟨e1, e2, e3, e4, e5, e6, e7, e8⟩⟩ rfl rfl rfl HOY.out.1 HOY.out.2.size (by have := HLEN.out; simp; omega) ?_); intro v6 w6 ho6 hb6 hg6)
            obtain ⟨p6, n6, c6, rfl⟩ := ho6.sts.sl
            have HO6 := hide (And.intro ho6 (HOY.out.2.trans hb6))
            clear ho6 hb6 hg6
            go_wp2
            go_roundw
            case rel => exact ⟨k + 1, true, by omega, by go_num, ⟨_, _, _, rfl⟩, rfl, hide ⟨HDN.out, by rw [HO1.out]; exact HO6.out.1, HO6.out.2⟩⟩
            case measure => simp [intOf]; omega
        · obtain rfl : k = L.length := by omega
          have HE := hide (opnT_end (x := (⟨n, 0, n, rp0⟩ : St)) HF.out)
          have c0r := (HH.out.below HK.out.2.2).c0
          have f0r := (HH.out.below HK.out.2.2).f0
          cases bd
          · have HD := hide HK.out.1.symm
            have HES : Hid (insT L (⟨n, 0, n, rp0⟩ : St) = opnT L (⟨n, 0, n, rp0⟩ : St) L.length ++ [(⟨n, 0, n, rp0⟩ : St)]) := hide (by rw [HE.out]; dsimp only; rw [HD.out]; rfl)
            go_wp2_with (at_builtin; go_loud (refine wpList_pushT (w := wr) (v := .slice p3 n3 c3) (l := opnT L (⟨n, 0, n, rp0⟩ : St) L.length) (B := w.heap.size) (H := wr.heap.size) rfl (.tmp 57) (.tmp 61) rfl rfl (⟨n, 0, n, rp0⟩ : St) rfl rfl rfl HK.out.2.1 hbs (by have := HLEN.out; omega) ?_); intro v6 w6 ho6 hb6 hg6; obtain ⟨p6, n6, c6, rfl⟩ := ho6.sts.sl; have HO6 := hide (And.intro ho6 (HK.out.2.2.trans hb6)); have c06 := (HH.out.below HO6.out.2).c0; have f06 := (HH.out.below HO6.out.2).f0; clear ho6 hb6 hg6 c0r f0r)
            go_wp2
            go_ret
            rw [HR.out, HES.out]
            exact ref_fin HH.out HO6.out.2 HO6.out.1 rfl
          · have HD := hide HK.out.1.symm
            have HES : Hid (insT L (⟨n, 0, n, rp0⟩ : St) = opnT L (⟨n, 0, n, rp0⟩ : St) L.length) := hide (by rw [HE.out]; dsimp only; rw [HD.out]; rfl)
            go_wp2
            go_ret
            rw [HR.out, HES.out]
            exact ref_fin HH.out HK.out.2.2 HK.out.2.1 rfl
end Go.Proofs.Ytkjebpebfcgnjaa
