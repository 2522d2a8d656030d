/- The law ForestAgain. -/
import Derived.Test.YtokmmmpijcbknaaFSwap
namespace Go.Proofs.Ytokmmmpijcbknaa
set_option linter.unusedVariables false
set_option linter.unusedSimpArgs false
open Go.RowKit

/-- A span with another name and end. -/
def againS (x : Sp) : Sp := { x with n := (⟨#[120]⟩ : ByteArray) ++ x.n.extract 1 x.n.size, e := 1099511627776 }
theorem again_nl (x : Sp) : (againS x).nl = 120 :: x.nl.drop 1 := by
  unfold againS Sp.nl
  simp [ByteArray.data_append, ByteArray.data_extract]
  refine List.take_of_length_le ?_
  rw [List.length_tail]
  exact Nat.le_refl _
theorem again_ok {x : Sp} (h : x.ok = true) : (againS x).ok = true := by
  obtain ⟨t1, t2, i1, i2, p1, p2, s1, s2, e2, ne, n1, n2, n3⟩ := (Sp.ok_iff x).1 h
  refine (Sp.ok_iff _).2 ⟨t1, t2, i1, i2, p1, p2, s1, ?_, ?_, ne, ?_, ?_, ?_⟩
  · show x.s ≤ 1099511627776
    omega
  · show (1099511627776 : Int) ≤ 1099511627776
    omega
  · rw [again_nl]; simp
  · rw [again_nl, List.length_cons, List.length_drop]; omega
  · rw [again_nl, List.all_cons, Bool.and_eq_true]
    refine ⟨by decide, ?_⟩
    rw [List.all_eq_true] at n3 ⊢
    exact fun c hc => n3 c (List.mem_of_mem_drop hc)
theorem flat_again : ∀ (l : List Sp) (i : Nat) (x : Sp), l[i]? = some x →
    (((l.flatMap spC).set (i * 6 + 5) (.string (againS x).n)).set (i * 6 + 4) (.int .i64 (againS x).e)) = (l.set i (againS x)).flatMap spC
  | [], i, y, h => by simp at h
  | x :: r, 0, y, h => by
    simp only [List.getElem?_cons_zero, Option.some.injEq] at h
    subst h
    simp [spC, againS]
  | x :: r, i + 1, y, h => by
    have ih := flat_again r i y (by simpa using h)
    rw [List.set_cons_succ, List.flatMap_cons, List.flatMap_cons, ← ih]
    have e0 : (i + 1) * 6 = i * 6 + 6 := by omega
    simp only [e0, spC, List.cons_append, List.nil_append, List.set_cons_succ]
theorem own_again {B : Nat} {w : World} {g n c : Nat} {l : List Sp} (h : OwnS B w (.slice (some ⟨g, 0, none⟩) n c) l) {i : Nat} {x : Sp} (hx : l[i]? = some x) :
    OwnS B ((w.setCell ⟨g, i * 6 + 5, none⟩ (.string (againS x).n)).setCell ⟨g, i * 6 + 4, none⟩ (.int .i64 (againS x).e)) (.slice (some ⟨g, 0, none⟩) n c) (l.set i (againS x)) ∧ w.grownBy ((w.setCell ⟨g, i * 6 + 5, none⟩ (.string (againS x).n)).setCell ⟨g, i * 6 + 4, none⟩ (.int .i64 (againS x).e)) (some g) := by
  have hn : n = l.length := h.sps.len.1
  subst hn
  obtain ⟨h1, g1⟩ := World.ownsRow.stored h (i * 6 + 5) (.string (againS x).n)
  obtain ⟨h2, g2⟩ := World.ownsRow.stored h1 (i * 6 + 4) (.int .i64 (againS x).e)
  refine ⟨?_, gtransF g1 g2⟩
  rw [flat_again l i x hx] at h2
  unfold OwnS
  rw [List.length_set]
  exact h2
def partP (S : List Sp) (k : Nat) : List Sp := (S.take k).map againS ++ S.drop k
theorem partP_at {S : List Sp} {k : Nat} (hk : k ≤ S.length) {x : Sp} (hx : S[k]? = some x) : (partP S k)[k]? = some x ∧ (partP S k).set k (againS x) = partP S (k + 1) := by
  have hl : ((S.take k).map againS).length = k := by rw [List.length_map, List.length_take]; omega
  have hlt := (List.getElem?_eq_some_iff.1 hx).1
  have hd : S.drop k = x :: S.drop (k + 1) := by
    rw [List.drop_eq_getElem_cons hlt]
    rw [List.getElem?_eq_getElem hlt] at hx
    injection hx with hx
    rw [hx]
  unfold partP
  constructor
  · rw [List.getElem?_append_right (by omega), hl, Nat.sub_self, hd]
    rfl
  · rw [List.set_append_right _ _ (by omega), hl, Nat.sub_self, hd, List.set_cons_zero, List.take_add_one, hx]
    simp
theorem OwnB.chgT {B : Nat} {w w' : World} {v : Value} {l : List Br} {T : Nat → Prop} (h : OwnB B w v l) (hc : Chg w w' T) (hne : ∀ k, v.ownBlock = some k → ¬ T k) : OwnB B w' v l := by
  refine ⟨h.1, ?_⟩
  rcases h.2 with hn | ⟨g, cap, cur, rfl, hb, hg, rest⟩
  · exact .inl hn
  · exact .inr ⟨g, cap, cur, rfl, hb, (hc.block g (Array.getElem?_eq_some_iff.1 hg).1 (hne g rfl)).trans hg, rest⟩
theorem OwnS.chgT {B : Nat} {w w' : World} {v : Value} {l : List Sp} {T : Nat → Prop} (h : OwnS B w v l) (hc : Chg w w' T) (hne : ∀ k, v.ownBlock = some k → ¬ T k) : OwnS B w' v l := by
  refine ⟨h.1, ?_⟩
  rcases h.2 with hn | ⟨g, cap, cur, rfl, hb, hg, rest⟩
  · exact .inl hn
  · exact .inr ⟨g, cap, cur, rfl, hb, (hc.block g (Array.getElem?_eq_some_iff.1 hg).1 (hne g rfl)).trans hg, rest⟩

/-- What the law has, besides the spans that it changes. -/
structure AgFacts (w V : World) (gf bf B3 gn : Nat) (G : List Sp) (pb : Option Addr) (nb cb : Nat) (row : Array Value) : Prop where
  f : FoIs V gf bf 1 G
  b : OwnB B3 V (.slice pb nb cb) (brs (sortS G))
  n : V.heap[gn]? = some (.cells row 36)
  bel : RowKit.Below w.heap.size w V
theorem AgFacts.below {w V V' : World} {gf bf B3 gn : Nat} {G : List Sp} {pb : Option Addr} {nb cb : Nat} {row : Array Value} (h : AgFacts w V gf bf B3 gn G pb nb cb row) (hb : RowKit.Below V.heap.size V V') : AgFacts w V' gf bf B3 gn G pb nb cb row :=
  ⟨h.f.below hb, h.b.below hb, (hb.block gn (Array.getElem?_eq_some_iff.1 h.n).1).trans h.n, h.bel.trans (hb.mono h.bel.size)⟩
theorem AgFacts.grown {w V V' : World} {gf bf B3 gn gm : Nat} {G : List Sp} {pb : Option Addr} {nb cb : Nat} {row : Array Value} (h : AgFacts w V gf bf B3 gn G pb nb cb row) (hg : V.grownBy V' (some gm)) (hw : w.heap.size ≤ gm) (h1 : gf < gm) (h2 : bf < gm) (h3 : gm < B3) (h4 : gm < gn) : AgFacts w V' gf bf B3 gn G pb nb cb row := by
  have hc : Chg V V' (fun i => i = gm) := Chg.of_grown hg _ fun k e => .inl (by injection e with e; exact e.symm)
  exact ⟨h.f.chg hc (by omega) (by omega), h.b.chgT hc (fun k hk => by have := (h.b.lt k hk).1; omega), (hc.block gn (Array.getElem?_eq_some_iff.1 h.n).1 (by omega)).trans h.n, Chg.to_below h.bel hc (fun k hk => by omega)⟩

set_option maxRecDepth 200000 in
set_option maxHeartbeats 4000000 in
theorem lawFoAgain_any {w : World} {v1 : Value} {l1 : List Sp} (hv1 : Sps w v1 l1) (hn1 : ∀ x ∈ l1, x.n.size ≤ maxLen) : Calls Try.prog 7 #[v1] w fun e w' => e = .returned (.bool true) ∧ Below w.heap.size w w' := by
  obtain ⟨q1, m1, c1, rfl⟩ := hv1.sl
  have HL1 := hide (light_any hv1 hn1)
  have HA := hide awake_any
  have HS1 := hide hv1
  clear hv1 hn1
  cases h1 : lightL l1 with
  | false =>
    rw [h1] at HL1
    go_enter Try.func7, Try.ntmps7
    go_wp2_with fail
    refine HL1.out.mono ?_
    rintro e1 w1 ⟨rfl, hw1⟩
    have hw1 := hw1.symm
    subst hw1
    go_wp2_with fail
    refine (HA.out _).mono ?_
    rintro e2 w2 ⟨rfl, hb2⟩
    have HBf := hide ((Below.refl w.heap.size w).trans (hb2.mono (Below.refl w.heap.size w).size))
    clear hb2
    go_wp2
    go_ret
    exact ⟨rfl, HBf.out⟩
  | true =>
    rw [h1] at HL1
    have HG1 := hide (light_len h1)
    clear h1
    go_enter Try.func7, Try.ntmps7
    go_wp2_with fail
    refine HL1.out.mono ?_
    rintro e1 w1 ⟨rfl, hw1⟩
    have hw1 := hw1.symm
    subst hw1
    go_wp2_with fail
    refine (grown_any HS1.out (by have := HG1.out.1; omega) HG1.out.2).mono ?_
    rintro e2 w2 ⟨gf, bf, rfl, hf2, hg2, hbb2, hb2⟩
    have hlt2 : gf < w2.heap.size ∧ bf < w2.heap.size := ⟨lt_of_cell hf2.c0, by obtain ⟨D, hD⟩ := hf2.bag; exact hD.map.lt⟩
    have HOf := hide (And.intro hg2 (And.intro hbb2 hlt2))
    have HZf : Hid (w.heap.size ≤ gf ∧ w.heap.size ≤ bf) := hide (by have := (Below.refl w.heap.size w).size; omega)
    have HB3 : Hid (RowKit.Below w.heap.size w w2) := hide ((Below.refl w.heap.size w).trans (hb2.mono (Below.refl w.heap.size w).size))
    have HS1_3 := hide (HS1.out.below hb2)
    have HFf := hide hf2
    clear hf2 hb2 hg2 hbb2 hlt2
    have HF := HFf
    have HB := HB3
    obtain ⟨G, hG⟩ : ∃ G, growP l1 = G := ⟨_, rfl⟩
    have hok : FoOk 1 G := by rw [← hG]; exact growP_ok l1
    rw [hG] at HF
    obtain ⟨S, hS⟩ : ∃ S, sortS G = S := ⟨_, rfl⟩
    have hSG : S.Perm G := by rw [← hS]; exact sortS_perm G
    have hS64 : S.length ≤ 64 := by rw [hSG.length_eq]; exact hok.len
    have hokS : FoOk 1 S := hok.perm hSG
    have hfnd : ∀ x ∈ S, fnd G x.i = some x := fun x hx => fnd_of hok.ids (hSG.mem_iff.1 hx)
    have hallb : S.all (fun x => x.ok && decide (x.t = 1)) = true := by
      rw [List.all_eq_true]
      intro x hx
      have := hokS.ok x hx
      rw [this.1, decide_eq_true this.2]
      rfl
    have hagain := adds_again S cn0 hfnd
    have hpa : addP 1 G S = G := by unfold addP; rw [if_pos hallb, hagain]
    have hva : addV 1 G S = .tuple #[.agg #[.int .i64 0, .int .i64 (S.length : Nat), .int .i64 0, .int .i64 0, .int .i64 0], .int .i64 0] := by
      unfold addV
      rw [if_pos hallb, hagain]
      simp [cnV, cn0]
    have hnmS : ∀ x ∈ S, 1 ≤ x.n.size ∧ x.n.size ≤ 32 := fun x hx => by
      obtain ⟨_, _, _, _, _, _, _, _, _, _, n1, n2, _⟩ := (Sp.ok_iff x).1 (hokS.ok x hx).1
      exact ⟨n1, n2⟩
    have HNS := hide hnmS
    have HVA := hide (And.intro hva hpa)
    have HOK := hide (And.intro hok (And.intro hokS hSG))
    have HFND := hide hfnd
    have HS64 := hide hS64
    have hgw := hide (show gf < w2.heap.size ∧ bf < w2.heap.size from ⟨lt_of_cell HF.out.c0, by obtain ⟨D, hD⟩ := HF.out.bag; exact hD.map.lt⟩)
    clear hG hok hokS hSG hS64 hfnd hallb hagain hpa hva hnmS
    go_wp2_with fail
    refine (spans_any HF.out).mono ?_
    rintro e3 w3 ⟨v3, rfl, ho3, hb3⟩
    rw [hS] at ho3
    obtain ⟨pm, nm, cm, rfl⟩ := ho3.sps.sl
    obtain rfl : nm = S.length := ho3.sps.len.1
    have H3 := hide (And.intro ho3 (And.intro hb3 (HF.out.below hb3)))
    clear ho3 hb3
    go_wp2_with fail
    refine (branches_any H3.out.2.2).mono ?_
    rintro e4 w4 ⟨v4, rfl, ho4, hb4⟩
    obtain ⟨pb, nb, cb, rfl⟩ := ho4.brs.sl
    have H4 := hide (And.intro ho4 (And.intro hb4 (And.intro (H3.out.2.2.below hb4) (H3.out.1.below hb4))))
    clear ho4 hb4
    have hS100 : S.length ≤ 100000 := by have := HS64.out; omega
    go_wp2_with fail
    refine (add_any H4.out.2.2.1 H4.out.2.2.2.sps hS100 (fun x hx => by have := (HNS.out x hx).2; omega)).mono ?_
    rintro e5 w5 ⟨rfl, hf5, hc5⟩
    rw [HVA.out.1]
    rw [HVA.out.2] at hf5
    have hm5 : OwnS w2.heap.size w5 (.slice pm S.length cm) S := H4.out.2.2.2.chgT hc5 (fun k hk => by have := (H4.out.2.2.2.lt k hk).1; have := hgw.out.2; omega)
    have hb5 : OwnB w3.heap.size w5 (.slice pb nb cb) (brs (sortS G)) := H4.out.1.chgT hc5 (fun k hk => by have := (H4.out.1.lt k hk).1; have := hgw.out.2; have := H3.out.2.1.size; omega)
    have hw4 : RowKit.Below w.heap.size w w4 := (HB.out.trans (H3.out.2.1.mono HB.out.size)).trans (H4.out.2.1.mono (HB.out.trans (H3.out.2.1.mono HB.out.size)).size)
    have hw5 : RowKit.Below w.heap.size w w5 := Chg.to_below hw4 hc5 (fun k hk => by have := HZf.out; omega)
    have hbx := (Below.refl w5.heap.size w5).alloc (Nat.le_refl _) (.cells #[.int .i64 0, .int .i64 (S.length : Nat), .int .i64 0, .int .i64 0, .int .i64 0] 36)
    have hrow := heap_alloc_new w5 (.cells #[.int .i64 0, .int .i64 (S.length : Nat), .int .i64 0, .int .i64 0, .int .i64 0] 36)
    have hs45 : w4.heap.size ≤ w5.heap.size := hc5.size
    have HAG := hide (AgFacts.mk (w := w) (gf := gf) (bf := bf) (B3 := w3.heap.size) (gn := w5.heap.size) (hf5.below hbx) (hb5.below hbx) hrow (hw5.trans (hbx.mono hw5.size)))
    have HM := hide (hm5.below hbx)
    have HSZ := hide (And.intro hs45 (And.intro H3.out.2.1.size H4.out.2.1.size))
    clear hf5 hc5 hm5 hb5 hw4 hw5 hbx hrow hs45 hS100
    have n0 := cell_of_row (w5.alloc (.cells #[.int .i64 0, .int .i64 (S.length : Nat), .int .i64 0, .int .i64 0, .int .i64 0] 36)) w5.heap.size 0 _ 36 (0, 0) HAG.out.n
    have n1 := cell_of_row (w5.alloc (.cells #[.int .i64 0, .int .i64 (S.length : Nat), .int .i64 0, .int .i64 0, .int .i64 0] 36)) w5.heap.size 1 _ 36 (0, 0) HAG.out.n
    have n2 := cell_of_row (w5.alloc (.cells #[.int .i64 0, .int .i64 (S.length : Nat), .int .i64 0, .int .i64 0, .int .i64 0] 36)) w5.heap.size 2 _ 36 (0, 0) HAG.out.n
    have n3 := cell_of_row (w5.alloc (.cells #[.int .i64 0, .int .i64 (S.length : Nat), .int .i64 0, .int .i64 0, .int .i64 0] 36)) w5.heap.size 3 _ 36 (0, 0) HAG.out.n
    have n4 := cell_of_row (w5.alloc (.cells #[.int .i64 0, .int .i64 (S.length : Nat), .int .i64 0, .int .i64 0, .int .i64 0] 36)) w5.heap.size 4 _ 36 (0, 0) HAG.out.n
    simp only [List.getElem?_toArray, List.getElem?_cons_zero, List.getElem?_cons_succ] at n0 n1 n2 n3 n4
    go_wp2_with fail
    clear n0 n1 n2 n3 n4
    obtain ⟨Y, hY⟩ : ∃ Y, w5.alloc (.cells #[.int .i64 0, .int .i64 (S.length : Nat), .int .i64 0, .int .i64 0, .int .i64 0] 36) = Y := ⟨_, rfl⟩
    obtain ⟨gn, hgn⟩ : ∃ g, w5.heap.size = g := ⟨_, rfl⟩
    rw [hY, hgn] at HAG
    rw [hY] at HM
    rw [hgn] at HSZ
    rw [hY, hgn]
    clear hY hgn
    refine (branches_any HAG.out.f).mono ?_
    rintro e6 w6 ⟨v6, rfl, ho6, hb6⟩
    obtain ⟨p6, n6, c6, rfl⟩ := ho6.brs.sl
    have HAG6 := hide (HAG.out.below hb6)
    have HM6 := hide (HM.out.below hb6)
    have HO6 := hide ho6.brs
    clear ho6 hb6
    go_wp2_with fail
    refine (equalBr_any HO6.out HAG6.out.b.brs).mono ?_
    rintro e7 w7 ⟨rfl, q7, rfl⟩
    rw [decide_eq_true rfl]
    have hbq : RowKit.Below w6.heap.size w6 (w6.drewN q7) := bdrew _ _
    have HAG7 := hide (HAG6.out.below hbq)
    have HM7 := hide (HM6.out.below hbq)
    obtain ⟨X, hX⟩ : ∃ X, w6.drewN q7 = X := ⟨_, rfl⟩
    rw [hX] at HAG7 HM7
    rw [hX]
    clear hbq hX HAG6 HM6 HO6 HAG HM
    go_wp2_with fail
    go_loopw [8, 43] (fun _ ix wr => ∃ k : Nat, k ≤ S.length ∧ ix = .int .i64 k ∧ Hid (OwnS w2.heap.size wr (.slice pm S.length cm) (partP S k) ∧ AgFacts w wr gf bf w3.heap.size gn G pb nb cb #[.int .i64 0, .int .i64 (S.length : Nat), .int .i64 0, .int .i64 0, .int .i64 0])) (fun _ ix _ => S.length - (intOf ix).toNat)
    case atStart => exact ⟨0, by omega, rfl, hide ⟨HM7.out, HAG7.out⟩⟩
    case round =>
      obtain ⟨k, hk, rfl, HR⟩ := hrel
      have hS64 := HS64.out
      by_cases hlt : (k : Int) < (S.length : Int)
      · obtain ⟨gm, rfl⟩ : ∃ gm, pm = some ⟨gm, 0, none⟩ := by
          obtain ⟨_, ⟨e, _⟩ | ⟨g2, cap, cur, e, _⟩⟩ := HR.out.1
          · injection e with e1 e2 e3
            omega
          · injection e with e1 e2 e3
            exact ⟨g2, e1⟩
        obtain ⟨x, hx⟩ : ∃ x, S[k]? = some x := ⟨_, List.getElem?_eq_getElem (by omega)⟩
        obtain ⟨hp1, hp2⟩ := partP_at hk hx
        have hgm := H3.out.1.lt gm rfl
        obtain ⟨z0, z1, z2, z3, z4, z5⟩ := (sps_at HR.out.1 k x hp1).six
        obtain ⟨f0, f1, f2, f3, f4, f5⟩ := fr_six HR.out.1 (k * 6)
        obtain ⟨hom, hg⟩ := own_again HR.out.1 hp1
        rw [hp2] at hom
        obtain ⟨hx1, hx2⟩ := HNS.out x (List.mem_of_getElem? hx)
        have hag := HR.out.2.grown hg (by have := HB.out.size; omega) (by have := hgw.out; omega) (by have := hgw.out; omega) (by omega) (by have := HSZ.out; have := H4.out.2.1.size; omega)
        have HNX := hide (And.intro hom hag)
        obtain ⟨s2, hs2⟩ : ∃ s, x.n.extract 1 x.n.size = s := ⟨_, rfl⟩
        have hs2s : s2.size ≤ 32 := by
          rw [← hs2, ByteArray.size_extract]
          omega
        have hsl : ∀ W : World, (Instr.slice 9 (.string x.n) (some (.int .i64 1)) none none).run Try.prog W = .ok (.string s2) W := fun W => by
          have := run_slice_string_l (P := Try.prog) W (t := 9) (s := x.n) Try.underlying9 .i64 1 (by omega) (by omega)
          rw [show (1 : Int).toNat = 1 from rfl, hs2] at this
          exact this
        have hcc : ∀ W : World, (Op.stringOp .add (⟨#[120]⟩ : ByteArray) s2).run Try.prog W = .ok (.string ((⟨#[120]⟩ : ByteArray) ++ s2)) W := fun W => run_string_add_sum (P := Try.prog) W _ _ (by have : (⟨#[120]⟩ : ByteArray).size = 1 := rfl; omega)
        unfold againS at HNX
        dsimp only at HNX
        rw [hs2] at HNX
        clear hp1 hp2 hom hg hx1 hx2 hag hs2 hs2s hx
        go_wp2
        go_roundw
        case rel => exact ⟨k + 1, by omega, by go_num, HNX⟩
        case measure => simp [intOf]; omega
      · have hkS : k = S.length := by omega
        subst hkS
        have hM : partP S S.length = S.map againS := by
          unfold partP
          rw [List.take_length, List.drop_length, List.append_nil]
        have hMok : (S.map againS).all (fun x => x.ok && decide (x.t = 1)) = true := by
          rw [List.all_eq_true]
          intro x hx
          obtain ⟨y, hy, rfl⟩ := List.mem_map.1 hx
          have := HOK.out.2.1.ok y hy
          rw [again_ok this.1, Bool.true_and]
          exact decide_eq_true this.2
        have hMf : ∀ x ∈ S.map againS, (fnd G x.i).isSome = true := by
          intro x hx
          obtain ⟨y, hy, rfl⟩ := List.mem_map.1 hx
          have : fnd G (againS y).i = some y := HFND.out y hy
          rw [this]
          rfl
        have hMn : ∀ x ∈ S.map againS, x.n.size ≤ 1000000 := by
          intro x hx
          obtain ⟨y, hy, rfl⟩ := List.mem_map.1 hx
          have h1 := ((Sp.ok_iff _).1 (again_ok (HOK.out.2.1.ok y hy).1)).n2
          have h2 : (againS y).nl.length = (againS y).n.size := rfl
          omega
        obtain ⟨g1, g2, g3, g4, g5⟩ := adds_other (S.map againS) cn0 hMf
        rw [List.length_map] at g2
        have hpa : addP 1 G (S.map againS) = G := by unfold addP; rw [if_pos hMok, g1]
        have hva : addV 1 G (S.map againS) = .tuple #[cnV (putsP G cn0 (S.map againS)).2, .int .i64 0] := by unfold addV; rw [if_pos hMok]
        obtain ⟨C, hC⟩ : ∃ C, (putsP G cn0 (S.map againS)).2 = C := ⟨_, rfl⟩
        rw [hC] at g2 g3 g4 g5 hva
        obtain ⟨na, cs, co, ny, nf⟩ := C
        simp only [cn0] at g2 g3 g4 g5
        subst g3 g4 g5
        unfold cnV at hva
        dsimp only at hva
        have hsum : cs + co = S.length := by omega
        have HVA2 := hide (And.intro hva hpa)
        have HSUM := hide hsum
        have hsl := HR.out.1
        rw [hM] at hsl
        have HADD := hide (add_any HR.out.2.f hsl.sps (by rw [List.length_map]; omega) hMn)
        clear hM hMok hMf hMn g1 g2 hpa hva hC hsum hsl
        go_wp2_with fail
        refine HADD.out.mono ?_
        rintro e9 w9 ⟨rfl, hf9, hc9⟩
        rw [HVA2.out.1]
        rw [HVA2.out.2] at hf9
        have hbb : ∀ j, (Value.slice pb nb cb).ownBlock = some j → j < gn ∧ j ≠ bf := fun j hj => by
          have h1 := H4.out.1.lt j hj
          have h2 := HSZ.out
          have h3 := hgw.out
          omega
        have hb9 := HR.out.2.b.chgT hc9 (fun j hj => (hbb j hj).2)
        have hrow := (hc9.block gn (Array.getElem?_eq_some_iff.1 HR.out.2.n).1 (by have := HSZ.out; have := hgw.out; omega)).trans HR.out.2.n
        have hbel9 : RowKit.Below w.heap.size w w9 := Chg.to_below HR.out.2.bel hc9 (fun i hi => by have := HZf.out; omega)
        have b0 := cell_of_row w9 gn 0 _ 36 (0, 0) hrow
        have b1 := cell_of_row w9 gn 1 _ 36 (0, 0) hrow
        have b2 := cell_of_row w9 gn 2 _ 36 (0, 0) hrow
        have b3 := cell_of_row w9 gn 3 _ 36 (0, 0) hrow
        have b4 := cell_of_row w9 gn 4 _ 36 (0, 0) hrow
        have f0 := frozen_of_row w9 gn 0 _ 36 hrow
        have f1 := frozen_of_row w9 gn 1 _ 36 hrow
        have f2 := frozen_of_row w9 gn 2 _ 36 hrow
        have f3 := frozen_of_row w9 gn 3 _ 36 hrow
        have f4 := frozen_of_row w9 gn 4 _ 36 hrow
        simp only [List.getElem?_toArray, List.getElem?_cons_zero, List.getElem?_cons_succ] at b0 b1 b2 b3 b4
        have hch := five_chg (Chg.refl w9 (fun i => i = gn)) (.inl rfl) (.int .i64 0) (.int .i64 (cs : Nat)) (.int .i64 (co : Nat)) (.int .i64 0) (.int .i64 0)
        have hf10 := hf9.chg hch (by have := HSZ.out; have := hgw.out; omega) (by have := HSZ.out; have := hgw.out; omega)
        have hb10 := hb9.chgT hch (fun j hj => by have := (hbb j hj).1; omega)
        have hbel10 := Chg.to_below hbel9 hch (fun i hi => by have := HSZ.out; have := hgw.out; have := HB.out.size; omega)
        have H10 := hide (And.intro hf10 (And.intro hb10 hbel10))
        have hs1 : (cs : Int) + (co : Int) = (S.length : Int) := by have := HSUM.out; omega
        have hs2 : (cs : Int) ≤ 64 := by have := HSUM.out; omega
        have hs3 : (co : Int) ≤ 64 := by have := HSUM.out; omega
        have hs4 : ((cs : Int) + (co : Int) == (S.length : Int)) = true := by rw [hs1]; exact beq_self_eq_true _
        clear hf9 hc9 hbb hb9 hrow hbel9 hch hf10 hb10 hbel10 hs1
        go_wp2_with fail
        refine (branches_any H10.out.1).mono ?_
        rintro e11 w11 ⟨v11, rfl, ho11, hb11⟩
        obtain ⟨p11, n11, c11, rfl⟩ := ho11.brs.sl
        have H11 := hide (And.intro ho11.brs (And.intro (H10.out.2.1.below hb11) (H10.out.2.2.trans (hb11.mono H10.out.2.2.size))))
        clear ho11 hb11
        go_wp2_with fail
        refine (equalBr_any H11.out.1 H11.out.2.1.brs).mono ?_
        rintro e12 w12 ⟨rfl, q12, rfl⟩
        rw [decide_eq_true rfl]
        go_wp2_with fail
        refine (HA.out _).mono ?_
        rintro e13 w13 ⟨rfl, hb13⟩
        have hbq : RowKit.Below w11.heap.size w11 (w11.drewN q12) := bdrew _ _
        have HBq := hide (H11.out.2.2.trans (hbq.mono H11.out.2.2.size))
        have HBf := hide (HBq.out.trans (hb13.mono HBq.out.size))
        clear hb13 hbq
        go_wp2
        go_ret
        exact ⟨rfl, HBf.out⟩
end Go.Proofs.Ytokmmmpijcbknaa
