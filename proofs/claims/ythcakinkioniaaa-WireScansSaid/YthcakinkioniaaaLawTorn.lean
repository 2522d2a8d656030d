/- The walk of the statement on records of which the last one is cut off. -/
import Derived.Test.YthcakinkioniaaaTorn
namespace Go.Proofs.Ythcakinkioniaaa
open Go.RowKit

theorem Own.lt {B : Nat} {w : World} {v : Value} {l : List UInt8} (h : Own B w v l) (hl : 0 < l.length) : ∀ k, v.ownBlock = some k → B ≤ k ∧ k < w.heap.size := by
  intro k hk
  rcases h with ⟨rfl, rfl⟩ | ⟨g, cap, rfl, hB, hlc, hm, hc, hs, hf⟩
  · simp at hl
  · simp only [Value.ownBlock, Option.some.injEq] at hk
    subst hk
    exact ⟨hB, lt_of_cell (hc 0 l[0] (List.getElem?_eq_getElem hl))⟩

theorem Own.grown {B : Nat} {w w' : World} {v : Value} {l : List UInt8} {row : Option Nat} (h : Own B w v l) (hg : w.grownBy w' row) (hne : ∀ k, v.ownBlock = some k → row ≠ some k) : Own B w' v l := by
  rcases h with h | ⟨g, cap, rfl, hB, hlc, hm, hc, hs, hf⟩
  · exact .inl h
  · refine .inr ⟨g, cap, rfl, hB, hlc, hm, ?_⟩
    by_cases h0 : cap = 0
    · subst h0
      obtain rfl : l = [] := List.eq_nil_of_length_eq_zero (by omega)
      exact ⟨fun i x hx => by simp at hx, fun i hi => by omega, fun i hi => by omega⟩
    · have hlt : g < w.heap.size := by
        obtain ⟨u, hu⟩ := Option.isSome_iff_exists.1 (hs 0 (by omega))
        exact lt_of_cell hu
      have hb : w'.heap[g]? = w.heap[g]? := hg.block g hlt (fun e => hne g rfl e.symm)
      have hcell : ∀ i, w'.cell? ⟨g, i, none⟩ = w.cell? ⟨g, i, none⟩ := fun i => by simp only [World.cell?, hb]
      have hfr : ∀ i, w'.frozen? ⟨g, i, none⟩ = w.frozen? ⟨g, i, none⟩ := fun i => by simp only [World.frozen?, hb]
      exact ⟨fun i x hx => by rw [hcell]; exact hc i x hx, fun i hi => by rw [hcell]; exact hs i hi, fun i hi => by rw [hfr]; exact hf i hi⟩

/-- What the first loop keeps. -/
structure Put (W : World) (w : World) (ls : List (List UInt8)) (i : Nat) (v u : Value) : Prop where
  own : Own W.heap.size w v (cat (ls.take i))
  row : w.ownsRow W.heap.size 3 1 u i (endV ls i)
  sep : ∀ k, v.ownBlock = some k → u.ownBlock ≠ some k
  bel : Below W.heap.size W w
  short : ∀ x ∈ ls.take i, x.length ≤ 65536
  len : (cat (ls.take i)).length ≤ 131100

theorem take_one {ls : List (List UInt8)} {i : Nat} {p : List UInt8} (h : ls[i]? = some p) : ls.take (i + 1) = ls.take i ++ [p] := by
  rw [List.take_add_one, h]
  rfl

/-- The row of ends, cell by cell. -/
theorem ends_at {B m : Nat} {w : World} {u : Value} {ls : List (List UInt8)} (h : w.ownsRow B 3 1 u m (endV ls m)) :
    ∃ (p : Option Addr) (c : Nat), u = .slice p m c ∧ m ≤ c ∧ ∀ j, j < m → ∃ g, p = some ⟨g, 0, none⟩ ∧ w.cell? ⟨g, j, none⟩ = some (.int .i64 ((cat (ls.take (j + 1))).length : Int)) := by
  rcases h.2 with ⟨rfl, h0⟩ | ⟨g, cap, cur, rfl, hB, hg, hl, hm, hs, ht⟩
  · subst h0
    exact ⟨none, 0, rfl, Nat.le_refl _, fun j hj => by omega⟩
  · refine ⟨_, _, rfl, hl, fun j hj => ⟨g, rfl, ?_⟩⟩
    have := h.cells (g := g) rfl j _ (endV_at ls hj)
    rwa [add_lit0, Nat.zero_add] at this

theorem elem30 : Try.prog.elem 30 = 22 := by simp [Program.elem, Try.underlying30]
theorem under30' : Try.prog.underlying 30 = some (.slice (Try.prog.elem 30)) := by rw [elem30]; exact Try.underlying30
theorem run_cut_rows (W : World) (p : Option Addr) (n c k : Nat) (hk : k ≤ c) : (Instr.slice 30 (.slice p n c) none (some (.int .i64 (k : Int))) none).run Try.prog W = .ok (.slice p k c) W := by
  rw [run_slice_h W 30 _ _ _ under30' .i64 _ (by omega) (by omega), elem30, Try.sizeOf22]
  have e4 : ((k : Int)).toNat = k := by omega
  rcases p with _ | a
  · simp [Result.andThen, sliced, e4]
  · by_cases hc : c = 0
    · simp [Result.andThen, sliced, e4, hc]
    · simp [Result.andThen, sliced, e4, Addr.add]
theorem Bss.cut {w : World} {p : Option Addr} {n c : Nat} {ls : List (List UInt8)} (h : Bss w (.slice p n c) ls) {k : Nat} (hk : k ≤ n) : Bss w (.slice p k c) (ls.take k) := by
  have hn := h.len
  obtain ⟨p', c', e, hl, hm, hno, hc⟩ := h
  injection e with e1 e2 e3
  subst e1 e3
  have ht : (ls.take k).length = k := by rw [List.length_take]; omega
  refine ⟨p, c, by rw [ht], by omega, hm, hno, fun a ha i l hi => ?_⟩
  rw [List.getElem?_take] at hi
  split at hi
  · exact hc a ha i l hi
  · simp at hi

/-- One record more. -/
theorem Put.more {W w w2 w7 w8 : World} {ls : List (List UInt8)} {m : Nat} {v u v7 v8 : Value} {p : List UInt8} {n7 : Nat} (h : Put W w ls m v u) (hp : ls[m]? = some p) (hpl : p.length ≤ 65536) (hf : (cat (ls.take m)).length ≤ 65536) (hb2 : Below w.heap.size w w2)
    (ho : Own W.heap.size w7 v7 (cat (ls.take m) ++ recL p)) (hat : ∀ k, v7.ownBlock = some k → v.ownBlock = some k ∨ w2.heap.size ≤ k) (hn : n7 = (cat (ls.take m) ++ recL p).length)
    (hr : w8.ownsRow W.heap.size 3 1 v8 (m + 1) (endV ls m ++ [.int .i64 (n7 : Int)])) (hg8 : (w7.alloc (.cells #[.int .i64 (n7 : Int)] 3)).grownBy w8 u.ownBlock) (hb8 : Below W.heap.size w7 w8) (hb7 : Below W.heap.size w2 w7) (hv8 : v8.ownBlock = u.ownBlock ∨ v8.ownBlock = some (w7.heap.size + 1)) :
    Put W w8 ls (m + 1) v7 v8 := by
  have ht := take_one hp
  have hc : cat (ls.take (m + 1)) = cat (ls.take m) ++ recL p := by rw [ht, cat_snoc]
  have hrl := recL_length p
  have hd := digits_length p.length (by omega)
  have hpos : 0 < (cat (ls.take m) ++ recL p).length := by rw [List.length_append]; omega
  have hult : ∀ k, u.ownBlock = some k → k < w2.heap.size := fun k hk => Nat.lt_of_lt_of_le (h.row.lt k hk).2 hb2.size
  have hsep7 : ∀ k, v7.ownBlock = some k → u.ownBlock ≠ some k := fun k hk hu => by
    rcases hat k hk with h1 | h1
    · exact h.sep k h1 hu
    · have := hult k hu
      omega
  refine ⟨?_, ?_, ?_, ?_, ?_, ?_⟩
  · rw [hc]
    exact (ho.below ((Below.refl _ _).alloc (Nat.le_refl _) _)).grown hg8 hsep7
  · rw [endV_succ, hc, ← hn]
    exact hr
  · intro k hk
    rcases hv8 with e | e
    · rw [e]
      exact hsep7 k hk
    · rw [e]
      intro e2
      injection e2 with e2
      have := (ho.lt hpos k hk).2
      omega
  · have h1 := h.bel.trans (hb2.mono h.bel.size)
    exact (h1.trans hb7).trans hb8
  · intro x hx
    rw [ht] at hx
    rcases List.mem_append.1 hx with hx | hx
    · exact h.short x hx
    · simp at hx
      subst hx
      exact hpl
  · rw [hc, List.length_append]
    omega

set_option maxRecDepth 200000 in
set_option maxHeartbeats 2000000 in
theorem torn_law (a0 : Option Addr) (len0 cap0 : Nat) (ls : List (List UInt8)) (hl : ls.length = len0) (k : Int) (w : World) (hv : Bss w (.slice a0 len0 cap0) ls) :
    Calls Try.prog 11 #[.slice a0 len0 cap0, .int .i64 k] w fun e w' => e = .returned (.bool true) ∧ Below w.heap.size w w' := by
  by_cases hb : (50 : Int) < (len0 : Int)
  · clear hv
    go_enter Try.func11, Try.ntmps11
    go_wp2_with fail
    refine (sum_none w).mono ?_
    rintro e w1 ⟨rfl, rfl⟩
    go_wp2
    go_ret
    exact ⟨rfl, Below.refl _ _⟩
  · have HV := hide hv
    have HL := hide hl
    clear hv hl
    go_enter Try.func11, Try.ntmps11
    go_wp2_with fail
    go_loopw [5, 6, 24] (fun v u i wr => ∃ m : Nat, m ≤ len0 ∧ i = .int .i64 m ∧ Put w wr ls m v u) (fun _ _ i _ => len0 - (intOf i).toNat)
    case atStart => exact ⟨0, by omega, rfl, ⟨Own.nil _ _, World.ownsRow_nil _ _ _ _, fun k hk => by simp [Value.ownBlock] at hk, Below.refl _ _, fun x hx => by simp at hx, by simp [cat]⟩⟩
    case round =>
      obtain ⟨m, hm, rfl, hp⟩ := hrel
      by_cases hmn : (m : Int) < (len0 : Int)
      · have hsz := hp.bel.size
        obtain ⟨b, o, q, n1, d1, p, rfl, hpl, hcell, hby⟩ := (HV.out.below hp.bel).cellAt (k := m) (by omega)
        obtain ⟨q5, n5, c5, rfl⟩ := hp.own.by_.sl
        have hn1 := hby.len.1
        have hn5 := hp.own.by_.len.1
        obtain ⟨L, E, hR⟩ : ∃ L E, recP p = (L, E) := ⟨_, _, rfl⟩
        have HP := hide hp
        have HBY := hide hby
        have HR := hide hR
        have HPL := hide hpl
        have HN1 := hide hn1
        have HN5 := hide hn5
        clear hp hby hR hpl hn1 hn5
        go_wp2_with fail
        refine (wireRecord_post HBY.out HR.out).mono ?_
        rintro e w2 ⟨v2, rfl, ho2, hb2⟩
        obtain ⟨q2, n2, c2, rfl⟩ := ho2.by_.sl
        have HO2 := hide ho2.by_
        have HB2 := hide hb2
        clear ho2 hb2 hcell
        by_cases hlong : (65536 : Int) < (n1 : Int)
        · have hr := HR.out
          unfold recP at hr
          rw [if_neg (by have := HN1.out; omega)] at hr
          simp only [Prod.mk.injEq] at hr
          obtain ⟨rfl, rfl⟩ := hr
          have HZ := hide (HP.out.bel.trans (HB2.out.mono hsz))
          clear HP HR HO2 HB2
          go_wp2
          go_ret
          exact ⟨rfl, HZ.out⟩
        · have hr := HR.out
          unfold recP at hr
          rw [if_pos (by have := HN1.out; omega)] at hr
          simp only [Prod.mk.injEq] at hr
          obtain ⟨rfl, rfl⟩ := hr
          by_cases hfull : (65536 : Int) < (n5 : Int)
          · have HZ := hide (HP.out.bel.trans (HB2.out.mono hsz))
            clear HP HR HO2 HB2
            go_wp2
            go_ret
            exact ⟨rfl, HZ.out⟩
          · have HO5 := hide (HP.out.own.below (HB2.out.mono hsz |> fun h => HB2.out))
            have HR6 := hide (row_below HP.out.row HB2.out)
            have hs2 : w.heap.size ≤ w2.heap.size := Nat.le_trans hsz HB2.out.size
            have hlen : (cat (ls.take m)).length + (recL p).length ≤ 140737488355328 := by
              have := HP.out.len
              have := recL_length p
              have := digits_length p.length (by have := HN1.out; omega)
              have := HN1.out
              omega
            have hmm : m ≤ 1000000 := by omega
            go_wp2_with (at_builtin; go_must (first
              | (refine wpList_append_by rfl _ _ rfl rfl rfl rfl HO5.out HO2.out hlen hs2 ?_
                 intro v7 w7 ho7 hg7 hb7 hat7
                 obtain ⟨q7, n7, c7, rfl⟩ := ho7.by_.sl
                 have HO7 := hide ho7
                 have HB7 := hide hb7
                 have HA7 := hide hat7
                 have HR7 := hide (HR6.out.kept hg7 (by
                   rcases hu : u6.ownBlock with _ | k
                   · exact .inl rfl
                   · exact .inr fun e => HP.out.sep k e.symm hu))
                 clear ho7 hg7 hb7 hat7)
              | (refine wpList_ends rfl _ _ rfl rfl rfl rfl HR7.out (Nat.le_trans hs2 HB7.out.size) hmm ?_
                 intro v8 w8 hr8 hg8 hb8 hv8
                 have HPUT := hide (HP.out.more HPL.out (by have := HN1.out; omega) (by have := HN5.out; omega) HB2.out HO7.out HA7.out HO7.out.by_.len.1 hr8 hg8 hb8 HB7.out hv8)
                 clear hr8 hg8 hb8 hv8)))
            go_roundw
            case rel => exact ⟨m + 1, by omega, by go_num, HPUT.out⟩
            case measure => simp [intOf]; omega
      · have hml : m = len0 := by omega
        subst hml
        obtain ⟨q5, n5, c5, rfl⟩ := hp.own.by_.sl
        have htake : ls.take m = ls := by rw [← HL.out, List.take_length]
        have hn5 : n5 = (cat ls).length := by rw [hp.own.by_.len.1, htake]
        have hn5u : (n5 : Int) ≤ 131100 := by have := hp.len; rw [htake] at this; omega
        have hby := hp.own.by_
        rw [htake] at hby
        have HSH : Hid (∀ x ∈ ls, x.length ≤ 65536) := hide (by have := hp.short; rw [htake] at this; exact this)
        obtain ⟨q6, c6, rfl, hc6, hends⟩ := ends_at hp.row
        have HEND := hide hends
        have HBY := hide hby
        have HB := hide hp.bel
        have HN5 := hide hn5
        obtain ⟨I, hI, hI1, hI2⟩ := mod_nat k (n5 + 1) (by omega)
        have e4 : ((n5 + 1 : Nat) : Int) = (n5 : Int) + 1 := by omega
        rw [e4] at hI1 hI2
        have hIb : (I : Int) < (n5 : Int) + 1 := by omega
        have hs1 := hp.bel.size
        clear hp htake hn5 hby e4 hends
        go_wp2_with fail
        clear hI1 hI2
        go_loop [11] (fun i => ∃ j : Nat, j ≤ m ∧ i = .int .i64 j ∧ (cat (ls.take j)).length ≤ I) (fun i => m - (intOf i).toNat)
        case atStart => exact ⟨0, by omega, rfl, by rw [List.take_zero, cat_nil]; exact Nat.zero_le _⟩
        case round =>
          obtain ⟨j, hj, rfl, hjI⟩ := hrel
          have HJI := hide hjI
          clear hjI
          have guard : ((j : Int) < (m : Int) ∧ (cat (ls.take (j + 1))).length ≤ I) ∨ (¬ (j : Int) < (m : Int) ∨ (j : Int) < (m : Int) ∧ ¬ (cat (ls.take (j + 1))).length ≤ I) := by omega
          rcases guard with ⟨hjm, hle⟩ | guard
          · obtain ⟨g, rfl, hcell⟩ := HEND.out j (by omega)
            have hle' : ((cat (ls.take (j + 1))).length : Int) ≤ (I : Int) := by omega
            have HLE := hide hle
            clear hle
            go_wp2_with fail
            go_round
            case rel => exact ⟨j + 1, by omega, by go_num, HLE.out⟩
            case measure => simp [intOf]; omega
          · have hfin : j = ls.length ∨ I < (cat (ls.take (j + 1))).length := by
              rcases guard with h | ⟨_, h⟩
              · exact .inl (by have := HL.out; omega)
              · exact .inr (by omega)
            obtain ⟨t1, t2⟩ := torn_rows ls I j HSH.out (by have := HN5.out; omega) (by have := HL.out; omega) HJI.out hfin
            obtain ⟨Z, hZ⟩ : ∃ Z, (cat (ls.take j)).length = Z := ⟨_, rfl⟩
            rw [hZ] at t1 t2
            have T1 := hide t1
            have T2 := hide t2
            have HZ := hide hZ
            have hZI : Z ≤ I := by rw [← hZ]; exact HJI.out
            have hcutB := fun W => run_cut_to W q5 n5 c5 I (by have := HBY.out.len.2; omega)
            have hcutL := fun W => run_cut_rows W a0 m cap0 j (by have := HV.out.len.2.2; omega)
            clear t1 t2 hZ hfin
            rcases guard with g1 | ⟨g1, g2⟩
            case' inr =>
              obtain ⟨g, rfl, hcell⟩ := HEND.out j (by omega)
              have g3 : ¬ ((cat (ls.take (j + 1))).length : Int) ≤ (I : Int) := by omega
              clear g2
            all_goals
              go_wp2_with fail
              refine (wireRows_any (R := ls.take j) (Z := Z) (cut_to HBY.out (k := I) (by omega)) (by rw [List.length_take]; have := HN5.out; omega) (by rw [List.length_take, Nat.min_eq_left (by have := HN5.out; omega)]; exact T1.out)).mono ?_
              rintro e x1 ⟨v1, rfl, ho1, hb1⟩
              obtain ⟨p1, n1, c1, rfl⟩ := ho1.sl
              have HO1 := hide ho1
              have HB1 := hide hb1
              have HBX := hide (HB.out.trans (hb1.mono hs1))
              clear ho1 hb1 hcutB
              go_wp2_with fail
              refine (equalFunc_same HO1.out ((HV.out.below HBX.out).cut (k := j) (by omega))).mono ?_
              rintro e x2 ⟨rfl, rfl⟩
              have HBY1 := hide (HBY.out.below HB1.out)
              obtain ⟨q7, hcutM, hM⟩ := cut_mid (j := Z) (k := I) HBY1.out (by omega) (by omega)
              obtain ⟨m7, hm7⟩ : ∃ m7, I - Z = m7 := ⟨_, rfl⟩
              obtain ⟨d7, hd7⟩ : ∃ d7, c5 - Z = d7 := ⟨_, rfl⟩
              rw [hm7, hd7] at hM
              simp only [hm7, hd7] at hcutM
              have HM := hide hM
              have hZI' : (Z : Int) ≤ (I : Int) := by omega
              clear hM hm7 hd7 hcutL
              by_cases hj0 : j = 0
              · have g4 : ((j : Int) == 0) = true := by simp; omega
                have g5 : ¬ (0 : Int) < (j : Int) := by omega
                have g6 : ((Z : Int) != 0) = false := by
                  have := HZ.out
                  rw [hj0, List.take_zero, cat_nil] at this
                  simp at this
                  simp
                  omega
                clear hj0
                go_wp2_with fail
                refine (wirePick_any HM.out T2.out).mono ?_
                rintro e x3 ⟨v3, rfl, ho3, hb3⟩
                have HB3 := hide (HBX.out.trans (hb3.mono HBX.out.size))
                clear ho3 hb3
                go_wp2
                go_ret
                exact ⟨rfl, HB3.out⟩
              · have g4 : ((j : Int) == 0) = false := by simp; omega
                have g5 : (0 : Int) < (j : Int) := by omega
                obtain ⟨g', hg', hcl⟩ := HEND.out (j - 1) (by omega)
                rw [show j - 1 + 1 = j by omega, HZ.out] at hcl
                have hcl1 := (HB1.out.cell (lt_of_cell hcl)).trans hcl
                have e6 : ((j - 1 : Nat) : Int) = (j : Int) - 1 := by omega
                go_wp2_with fail
                refine (wirePick_any HM.out T2.out).mono ?_
                rintro e x3 ⟨v3, rfl, ho3, hb3⟩
                have HB3 := hide (HBX.out.trans (hb3.mono HBX.out.size))
                clear ho3 hb3
                go_wp2
                go_ret
                exact ⟨rfl, HB3.out⟩
end Go.Proofs.Ythcakinkioniaaa
