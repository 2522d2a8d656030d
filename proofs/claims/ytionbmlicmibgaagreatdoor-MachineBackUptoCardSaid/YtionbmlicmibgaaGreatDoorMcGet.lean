import Derived.Test.YtionbmlicmibgaaGreatDoorMcPut2
namespace Go.Proofs.YtionbmlicmibgaaGreatDoor
set_option linter.unusedVariables false
set_option linter.unusedSimpArgs false
open Go.RowKit
theorem tx_lenL {l : List UInt8} {most : Nat} {st : Nat × Nat} : (tx l most st).1.length ≤ l.length := by
 unfold tx
 split
 ·simp
 ·split
  ·simp
  ·split
   ·simp
   ·split
    ·simp
    ·dsimp only
     rw [List.length_take, List.length_drop]
     omega
theorem gof {w w' : World} (hb : Below w.heap.size w w') (row : Option Nat) : w.grownBy w' row := ⟨hb.os, hb.tape, hb.output, hb.size, fun k hk _ => hb.block k hk⟩
theorem glate {w v w' : World} {row : Option Nat} (h : w.grownBy v row) (hb : Below w.heap.size v w') : w.grownBy w' row := ⟨hb.os.trans h.os, hb.tape.trans h.tape, hb.output.trans h.output, Nat.le_trans h.size hb.size, fun k hk hr => (hb.block k hk).trans (h.block k hk hr)⟩
theorem By.chgM {w w' : World} {B : Nat} {v : Value} {l : List UInt8} (h : By w v l) (hb : Below B w w') (hne : l = [] ∨ ∀ k, v.ownBlock = some k → k < B) : By w' v l := by
 obtain ⟨p, c, e, h1, h2, h3, h4⟩ := h
 refine ⟨p, c, e, h1, h2, h3, fun a ha i x hx => ?_⟩
 subst e
 rcases hne with rfl | hne
 ·simp at hx
 ·exact (hb.cell (p := a.add i) (by rw [block_add]; exact hne _ (by rw [ha]; rfl))).trans (h4 a ha i x hx)
theorem By.ltM {w : World} {v : Value} {l : List UInt8} (h : By w v l) : l = [] ∨ ∀ k, v.ownBlock = some k → k < w.heap.size := by
 by_cases h0 : l = []
 ·exact .inl h0
 ·refine .inr fun k hk => ?_
  obtain ⟨p', c', rfl, _, _, _, hc⟩ := h
  cases hl : l with
  | nil => exact absurd hl h0
  | cons y r =>
   cases p' with
   | none => cases hk
   | some ad =>
    simp only [Value.ownBlock, Option.some.injEq] at hk
    have := lt_of_cell (hc ad rfl 0 y (by rw [hl]; rfl))
    rw [block_add] at this
    omega
theorem OwnN.neRow {B g : Nat} {w : World} {v : Value} {l : List Int} (h : OwnN B w v l) (hg : g < B) : v.ownBlock = none ∨ v.ownBlock ≠ some g := by
 cases hob : v.ownBlock with
 | none => exact .inl rfl
 | some k =>
  refine .inr fun e => ?_
  injection e with e
  have h1 := (h.lt k hob).1
  omega
structure ScB (w0 : World) (g : Nat) (v : Value) (l : List UInt8) (w : World) (st : Nat × Nat) : Prop where
 sc : Sc w g v st.1 st.2
 by_ : By w v l
 ne : l = [] ∨ ∀ k, v.ownBlock = some k → some g ≠ some k
 at_ : st.1 ≤ l.length
 gw : w0.heap.size ≤ g
 b : Below w0.heap.size w0 w
theorem ScB.below {w0 w w' : World} {g : Nat} {v : Value} {l : List UInt8} {st : Nat × Nat} (h : ScB w0 g v l w st) (hb : Below w.heap.size w w') : ScB w0 g v l w' st := ⟨h.sc.below hb, h.by_.below hb, h.ne, h.at_, h.gw, h.b.trans (hb.mono h.b.size)⟩
theorem ScB.next {w0 w w' : World} {g : Nat} {v : Value} {l : List UInt8} {st st' : Nat × Nat} (h : ScB w0 g v l w st) (hs : Sc w' g v st'.1 st'.2) (hg : w.grownBy w' (some g)) (ha : st'.1 ≤ l.length) : ScB w0 g v l w' st' :=
 ⟨hs, h.by_.grown hg h.ne, h.ne, ha, h.gw, Chg.to_below h.b (Chg.of_grown hg (fun k => k = g) (fun k e => by injection e with e; exact .inl e.symm)) (fun k e => by rw [e]; exact h.gw)⟩
theorem ScB.later {w0 w w' : World} {g B : Nat} {v : Value} {l : List UInt8} {st : Nat × Nat} (h : ScB w0 g v l w st) (hb : Below B w w') (hg : g < B) (hv : l = [] ∨ ∀ k, v.ownBlock = some k → k < B) (hB : w0.heap.size ≤ B) : ScB w0 g v l w' st :=
 ⟨(hb.block g hg).trans h.sc, h.by_.chgM hb hv, h.ne, h.at_, h.gw, h.b.trans (hb.mono hB)⟩
def ScR (w0 w : World) (g : Nat) (v : Value) (l : List UInt8) (r : Value) (st : Nat × Nat) (e : Ending) (w' : World) : Prop := e = .returned r ∧ ScB w0 g v l w' st ∧ w.grownBy w' (some g)
theorem scn_any {w0 w : World} {g : Nat} {p : Option Addr} {n c : Nat} {l : List UInt8} {st : Nat × Nat} (h : ScB w0 g (.slice p n c) l w st) : Calls Tryz.prog 105 #[.pointer (some ⟨g, 0, none⟩)] w (ScR w0 w g (.slice p n c) l (.int .i64 ((nx l st).1 : Nat)) (nx l st).2) := by
 obtain ⟨a, e⟩ := st
 obtain ⟨N, A, E, hN⟩ : ∃ n a' e', nx l (a, e) = (n, a', e') := ⟨_, _, _, rfl⟩
 have hl := h.by_.len.1
 have ha := (nx_le (l := l) (st := (a, e)) h.at_).1
 have h1 := scanNumber_any h.sc h.by_ (by have := h.at_; dsimp only at *; omega) (show _ = (N, A, E) from hN)
 rw [hN] at ha ⊢
 exact h1.mono fun e' w' ⟨he, hs, hg⟩ => ⟨he, h.next hs hg ha, hg⟩
set_option maxRecDepth 200000 in
set_option maxHeartbeats 4000000 in
theorem mvoters_any {w0 w : World} {g : Nat} {p : Option Addr} {n c : Nat} {l : List UInt8} {st : Nat × Nat} (h : ScB w0 g (.slice p n c) l w st) : Calls Tryz.prog 108 #[.pointer (some ⟨g, 0, none⟩)] w fun e w' => ∃ q m f, e = .returned (.slice q m f) ∧ OwnN w.heap.size w' (.slice q m f) (rdV l st).1 ∧ ScB w0 g (.slice p n c) l w' (rdV l st).2 ∧ w.grownBy w' (some g) := by
 have HS := hide h
 have N1 := hide (scn_any h)
 obtain ⟨N, hN⟩ : ∃ N, (nx l st).1 = N := ⟨_, rfl⟩
 obtain ⟨s1, hs1⟩ : ∃ s, (nx l st).2 = s := ⟨_, rfl⟩
 obtain ⟨M, hM⟩ : ∃ M, min N 7 = M := ⟨_, rfl⟩
 have hR : rdV l st = rdN l M s1 := by unfold rdV; rw [hN, hs1, hM]
 have hmm : min (N : Int) 7 = (M : Int) := by omega
 have hM7 : (M : Int) ≤ 7 := by omega
 have hN9 : (N : Int) ≤ 9223372036854775807 := by have := (nx_le (l := l) (st := st) h.at_).2; omega
 have HB := hide (And.intro h.sc.lt (And.intro h.by_.ltM h.b.size))
 rw [hN, hs1] at N1
 rw [hR]
 clear h hN hs1 hM hR
 go_enter Tryz.func108, Tryz.ntmps108
 go_wp2_with fail
 refine N1.out.mono ?_
 rintro e w1 ⟨rfl, hb1, hg1⟩
 have H1 := hide (And.intro hb1 hg1)
 clear hb1 hg1 N1
 go_wp2_with fail
 go_loopw [3, 7] (fun v i wr => ∃ (k : Nat) (r : List Int) (s : Nat × Nat), k ≤ M ∧ i = .int .i64 k ∧ (∃ q m f, v = .slice q m f) ∧ Hid (OwnN w.heap.size wr v r ∧ r.length = k ∧ ScB w0 g (.slice p n c) l wr s ∧ w.grownBy wr (some g) ∧ (r ++ (rdN l (M - k) s).1, (rdN l (M - k) s).2) = rdN l M s1)) (fun _ i _ => M - (intOf i).toNat)
 case atStart => exact ⟨0, [], s1, by omega, rfl, ⟨_, _, _, rfl⟩, hide ⟨OwnN.nil _ _, rfl, H1.out.1, H1.out.2, rfl⟩⟩
 case round =>
  obtain ⟨k, r, s, hk, rfl, ⟨qv, mv, fv, rfl⟩, HR⟩ := hrel
  by_cases hlt : (k : Int) < (M : Int)
  ·have N2 := hide (scn_any HR.out.2.2.1)
   obtain ⟨x, hx⟩ : ∃ x, (nx l s).1 = x := ⟨_, rfl⟩
   obtain ⟨s2, hs2⟩ : ∃ y, (nx l s).2 = y := ⟨_, rfl⟩
   have hxl := (nx_le (l := l) (st := s) HR.out.2.2.1.at_).2
   rw [hx] at hxl
   have hst : rdN l (M - k) s = ((x : Int) :: (rdN l (M - (k + 1)) s2).1, (rdN l (M - (k + 1)) s2).2) := by
    rw [show M - k = (M - (k + 1)) + 1 by omega, rdN, hx, hs2]
   have HST := hide (And.intro hst hxl)
   rw [hx, hs2] at N2
   clear hst hxl hx hs2
   go_wp2_with fail
   refine N2.out.mono ?_
   rintro e w2 ⟨rfl, hb2, hg2⟩
   have H2 := hide (And.intro hb2 (And.intro hg2 (HR.out.1.grown hg2 (HR.out.1.neRow HB.out.1))))
   have HSZ : Hid (w.heap.size ≤ w2.heap.size) := hide (Nat.le_trans HR.out.2.2.2.1.size hg2.size)
   clear hb2 hg2 N2
   go_wp2_with (at_builtin; go_must (refine wpList_pushN (v := .slice qv mv fv) rfl _ _ rfl rfl (x : Int) (by have := HST.out.2; unfold fits; omega) rfl rfl rfl H2.out.2.2 HSZ.out (by have := HR.out.2.1; omega) ?_); intro v5 w5 ho5 hb5 hg5; obtain ⟨p5, n5, c5, rfl⟩ := ho5.ns.sl; have H5 := hide (And.intro ho5 hb5); clear ho5 hb5 hg5)
   go_roundw
   case rel =>
    refine ⟨k + 1, r ++ [(x : Int)], s2, by omega, by go_num, ⟨_, _, _, rfl⟩, hide ⟨H5.out.1, by rw [List.length_append, HR.out.2.1]; rfl, H2.out.1.later H5.out.2 HB.out.1 HB.out.2.1 HB.out.2.2, glate (gtrans HR.out.2.2.2.1 H2.out.2.1) H5.out.2, ?_⟩⟩
    have h1 := HR.out.2.2.2.2
    rw [HST.out.1] at h1
    rw [← h1, List.append_assoc]
    rfl
   case measure => simp [intOf]; omega
  ·have hkM : M - k = 0 := by omega
   have HE : Hid ((r, s) = rdN l M s1) := hide (by
    have h1 := HR.out.2.2.2.2
    rw [hkM, rdN, List.append_nil] at h1
    exact h1)
   clear hkM
   go_wp2
   go_ret
   rw [← HE.out]
   exact ⟨_, _, _, rfl, HR.out.1, HR.out.2.2.1, HR.out.2.2.2.1⟩
set_option maxRecDepth 200000 in
set_option maxHeartbeats 4000000 in
theorem mtext_any {w0 w : World} {g : Nat} {p : Option Addr} {n c : Nat} {l : List UInt8} {st : Nat × Nat} (h : ScB w0 g (.slice p n c) l w st) (hl : l.length ≤ 1100000) : Calls Tryz.prog 107 #[.pointer (some ⟨g, 0, none⟩)] w fun e w' => ∃ q m f, e = .returned (.slice q m f) ∧ Own w.heap.size w' (.slice q m f) (tx l (l.length - st.1) st).1 ∧ ScB w0 g (.slice p n c) l w' (tx l (l.length - st.1) st).2 ∧ w.grownBy w' (some g) := by
 have HS := hide h
 have HL := hide hl
 have hn := h.by_.len.1
 obtain ⟨a, E⟩ := st
 have L1 := hide (sleft_any h.sc (by have := h.at_; dsimp only at *; omega) h.by_.lenMax)
 obtain ⟨T, a', E', hT⟩ : ∃ T a' E', tx l (l.length - a) (a, E) = (T, a', E') := ⟨_, _, _, rfl⟩
 have hTl := tx_lenL (l := l) (most := l.length - a) (st := (a, E))
 have hal := tx_le (l := l) (most := l.length - a) (st := (a, E)) h.at_
 dsimp only at hTl hal ⊢
 rw [hT] at hTl hal ⊢
 have T1 := hide (fun q => scanText_any (w := w.drewN q) (h.below (bdrew w q)).sc (h.below (bdrew w q)).by_ h.ne (by have := h.at_; dsimp only at *; omega) ((n : Int) - (a : Int)) (l.length - a) (by have := h.at_; dsimp only at *; omega) (show _ = (T, a', E') from hT))
 have HT := hide (And.intro hTl hal)
 clear h hl hn hT hTl hal
 go_enter Tryz.func107, Tryz.ntmps107
 go_wp2_with fail
 refine L1.out.mono ?_
 rintro e w2 ⟨rfl, q, rfl⟩
 go_wp2_with fail
 refine (T1.out q).mono ?_
 rintro e w3 ⟨rfl, hs3, hg3⟩
 obtain ⟨q4, w4, hcv, ho4, hb4⟩ := conv_own w3 T (by have := HT.out.1; have := HL.out; omega)
 have hg0 : w.grownBy w3 (some g) := gtrans (gof (bdrew w q) _) hg3
 have H4 := hide (And.intro (show ScB w0 g (.slice p n c) l w4 (a', E') from ((HS.out.below (bdrew w q)).next hs3 hg3 HT.out.2).below hb4) hg0)
 have HO4 := hide (ho4.mono (Nat.le_trans (show Below w.heap.size w (w.drewN q) from bdrew w q).size hg3.size))
 have HB4 := hide hb4
 clear ho4 hb4 hs3 hg3 hg0 L1 T1
 go_wp2
 go_ret
 exact ⟨_, _, _, rfl, HO4.out, H4.out.1, gtrans H4.out.2 (gof HB4.out _)⟩
end Go.Proofs.YtionbmlicmibgaaGreatDoor
