/- A clone. -/
import Derived.Test.YthcakinkioniaabDNew
import Derived.Lib.ByteType
import Derived.Deep.RegionHeld3
import Derived.Test.YthcakinkioniaabDKeep
namespace Go.Proofs.Ythcakinkioniaab
open Go.RowKit

theorem eqlNilA (w : World) (p : Option Addr) (n c : Nat) : (binOp .eql 61 (.slice p n c) (.slice none 0 0)).run Try.prog w = .ok (.bool p.isNone) w := Lib.run_eql_slice_nil w _ _ p n c 0 0 Try.underlying61

set_option maxRecDepth 200000 in
set_option maxHeartbeats 4000000 in
theorem cloneActs_nil (w : World) : Calls Try.prog 34 #[.slice none 0 0] w fun e w' => e = .returned (.slice none 0 0) ∧ w = w' := by
  go_enter Try.func34, Try.ntmps34
  have hE := eqlNilA
  go_wp2
  go_ret
  exact ⟨rfl, rfl⟩

set_option maxRecDepth 200000 in
set_option maxHeartbeats 4000000 in
theorem cloneActs_at {w : World} {g n c : Nat} {xs : List Value} (h : w.ownsRow 0 71 2 (.slice (some ⟨g, 0, none⟩) n c) n xs) (hn : n ≤ 1000000) (h1 : ∀ u ∈ xs, u.oneCell' = true) :
    Calls Try.prog 34 #[.slice (some ⟨g, 0, none⟩) n c] w fun e w' => ∃ v, e = .returned v ∧ w'.ownsRow w.heap.size 71 2 v n xs ∧ Below w.heap.size w w' := by
  obtain ⟨i0, hi, hz0, hz1, hz2⟩ := info_parts infoA
  have hE := eqlNilA
  have hz : (w.alloc (.cells #[] 71)).ownsRow w.heap.size 71 2 (.slice (some ⟨w.heap.size, 0, none⟩) 0 0) 0 [] := World.ownsRow_made w #[] 0 (Nat.le_refl _) (Nat.zero_le _) rfl
  have hsrc := row_alloc h (.cells #[] 71)
  obtain ⟨v', w2, hr, g1, g2, _, g4⟩ := run_append_own_at (P := Try.prog) (w.alloc (.cells #[] 71)) w.heap.size 61 61 71 i0 (.agg #[.nilFunc, .int .i64 0]) 2 16 Try.underlying61 hi hz0 hz1 hz2 rfl (by decide) _ 0 [] hz
    ⟨g, 0, none⟩ n c xs h.1 (fun j u hj => by
      rcases hsrc.2 with ⟨e, _⟩ | ⟨g', cap, cur, e, _, hg, _, _, _, h5⟩
      · cases e
      · injection e with e1 e2 e3
        injection e1 with e1
        injection e1 with e1
        subst e1
        rw [Addr.add_lit, Nat.zero_add, cell_of_row _ g j cur 71 (0, 0) hg]
        rw [← h5, List.getElem?_take] at hj
        split at hj
        · simpa using hj
        · cases hj) h1 (by unfold maxLen; omega) (by omega) (by rw [size_alloc']; omega)
  rw [Nat.zero_add, List.nil_append] at g1
  obtain ⟨q, N, c2, rfl⟩ : ∃ q N c, v' = .slice q N c := by
    rcases g1.2 with ⟨e, _⟩ | ⟨g, cap, cur, e, _⟩
    · exact ⟨_, _, _, e⟩
    · exact ⟨_, _, _, e⟩
  have HX := hide (And.intro g1 (show Below w.heap.size w w2 from (balloc (Below.refl _ _) _).grown g2 (by rw [size_alloc']; omega) (fun k hk => by simp [Value.ownBlock] at hk; omega)))
  clear g1 g2 g4 hz hsrc h
  go_enter Try.func34, Try.ntmps34
  go_wp2_with (at_builtin; refine Lib.wpList_append_run_sl _ rfl _ _ 61 rfl _ _ rfl rfl hr ?_)
  go_ret
  exact ⟨_, rfl, HX.out.1, HX.out.2⟩

theorem Chg.back {a b c : World} {S : Nat → Prop} (h2 : Chg b c (fun _ => False)) (h1 : Chg a b S) : Chg a c S := h1.trans h2 fun _ h => h.elim
theorem Chg.drew1 {a b : World} {S : Nat → Prop} (h : Chg a b S) : Chg a b.drew S := ⟨h.os, h.tape, h.output, h.size, h.block⟩
theorem Chg.set1 {a b : World} {B i : Nat} {x : Value} (h : Chg a b (fun k => k = B)) : Chg a (b.setCell ⟨B, i, none⟩ x) (fun k => k = B) := h.trans (chg_set _ _ _ _) fun _ h => .inl h

/-- What a clone reads of the disk. -/
def Src (g bl bs : Nat) (a : Value) (W : World) : Prop := W.cell? ⟨g, 3, none⟩ = some (.map (some bl)) ∧ W.cell? ⟨g, 4, none⟩ = some (.map (some bs)) ∧ W.cell? ⟨g, 5, none⟩ = some a

/-- A clone. -/
def Cloned (w : World) (C : Nat → Prop) (st : Dk) (e : Ending) (w' : World) : Prop := ∃ g' S', e = .returned (.pointer (some ⟨g', 0, none⟩)) ∧ DiskIs w' S' C g' st ∧ (∀ i, S' i → w.heap.size ≤ i) ∧ Below w.heap.size w w'
theorem row_zero {w : World} {B n : Nat} {v : Value} {xs : List Value} (h : w.ownsRow B 71 2 v n xs) : w.ownsRow 0 71 2 v n xs := by
  refine ⟨h.1, ?_⟩
  rcases h.2 with hn | ⟨g, cap, cur, rfl, hb, rest⟩
  · exact .inl hn
  · exact .inr ⟨g, cap, cur, rfl, Nat.zero_le _, rest⟩
theorem src_set {g B bl bs i : Nat} {a x : Value} {W : World} (h : g ≠ B) (hs : Src g bl bs a W) : Src g bl bs a (W.setCell ⟨B, i, none⟩ x) := by
  have hc := chg_set W B i x
  exact ⟨hc.cell hs.1 h, hc.cell hs.2.1 h, hc.cell hs.2.2 h⟩

set_option maxRecDepth 200000 in
set_option maxHeartbeats 4000000 in
theorem clone_call {w : World} {S C : Nat → Prop} {g : Nat} {st : Dk} (h : DiskIs w S C g st) :
    Calls Try.prog 15 #[.pointer (some ⟨g, 0, none⟩)] w (Cloned w C st) := by
  obtain ⟨A, L, bs, bl, a, xs, Vs, Vl, Ds, Dl, hh, hA, hL, hacts, sA, sL, sa⟩ := h.parts
  obtain ⟨p, c, rfl, hnc, hp⟩ := hacts.sl
  obtain ⟨n, hn⟩ : ∃ n, n = st.acts.length := ⟨_, rfl⟩
  rw [← hn] at hh hacts hnc hp sA sL sa
  have HN := hide hn
  clear hn
  have hgw := hh.lt
  obtain ⟨B, hB⟩ : ∃ B, B = w.heap.size := ⟨_, rfl⟩
  obtain ⟨X, hX⟩ : ∃ X, X = w.alloc (.cells (diskC (st.room : Nat) (st.used : Nat) st.down (.map (some bl)) (.map (some bs)) (.slice p n c) (st.fn : Nat) st.keep st.tear) 65) := ⟨_, rfl⟩
  have hwX : Chg w X (fun _ => False) := hX ▸ chg_alloc _ _
  have hsX : X.heap.size = B + 1 := by rw [hX, size_alloc', hB]
  have hdB : Hd X B (st.room : Nat) (st.used : Nat) st.down (.map (some bl)) (.map (some bs)) (.slice p n c) (st.fn : Nat) st.keep st.tear := by
    show X.heap[B]? = _
    rw [hX, hB]
    exact heap_new w _
  have hgB : g ≠ B := by omega
  have hsrc : ∀ V, Chg X V (fun _ => False) → Src g bl bs (.slice p n c) V := fun V hV => by
    have hd := (hh.chg hwX fun h => h).chg hV fun h => h
    exact ⟨hd.c3, hd.c4, hd.c5⟩
  have hlow : ∀ V, Chg X V (fun _ => False) → ∀ i, S i → i < V.heap.size ∧ ¬ i = B := fun V hV i hi => by
    have h1 := h.sap i hi
    have h2 := hV.size
    omega
  have hcl : ∀ V, Chg X V (fun _ => False) → Calls Try.prog 33 #[.map (some bl)] V fun e w' => ∃ b', e = .returned (.map (some b')) ∧ Chg V w' (fun _ => False) ∧ Chg X w' (fun _ => False) ∧ Src g bl bs (.slice p n c) w' ∧ ∃ V' D', FilesIs w' (fun i => V.heap.size ≤ i ∧ i < w'.heap.size) b' st.last V' D' := fun V hV => by
    refine (filesClone_any ((hL.chg hwX fun _ _ h => h).chg hV fun _ _ h => h) (fun i hi => (hlow V hV i (sL i hi).1).1) (by have := h.ok.few 0 (by omega); simp [runs] at this; omega) (fun p hp => by
      have h1 := total_mem hp
      have h2 := h.ok.room
      have h3 := h.ok.most
      unfold Dk.used at h2
      omega)).mono ?_
    rintro e w' ⟨b', rfl, hb, V', D', hF⟩
    exact ⟨b', rfl, Chg.of_below hb _, Chg.back (Chg.of_below hb _) hV, hsrc _ (Chg.back (Chg.of_below hb _) hV), V', D', hF⟩
  have hcs : ∀ V, Chg X V (fun _ => False) → Calls Try.prog 33 #[.map (some bs)] V fun e w' => ∃ b', e = .returned (.map (some b')) ∧ Chg V w' (fun _ => False) ∧ Chg X w' (fun _ => False) ∧ Src g bl bs (.slice p n c) w' ∧ ∃ V' D', FilesIs w' (fun i => V.heap.size ≤ i ∧ i < w'.heap.size) b' st.seen V' D' := fun V hV => by
    refine (filesClone_any ((hA.chg hwX fun _ _ h => h).chg hV fun _ _ h => h) (fun i hi => (hlow V hV i (sA i hi).1).1) (by have := seen_few h.ok; omega) (fun p hp => by
      have h1 := total_mem hp
      have h2 := h.ok.room
      have h3 := h.ok.most
      have h4 := seen_total h.ok
      omega)).mono ?_
    rintro e w' ⟨b', rfl, hb, V', D', hF⟩
    exact ⟨b', rfl, Chg.of_below hb _, Chg.back (Chg.of_below hb _) hV, hsrc _ (Chg.back (Chg.of_below hb _) hV), V', D', hF⟩
  have hone : ∀ u ∈ xs, u.oneCell' = true := by
    intro u hu
    obtain ⟨i, hi⟩ := List.mem_iff_getElem?.1 hu
    have hlt : i < xs.length := (List.getElem?_eq_some_iff.1 hi).1
    have hxl := hacts.row.1
    have hd : st.acts[i / 2]? = some (st.acts[i / 2]'(by omega)) := List.getElem?_eq_getElem _
    obtain ⟨f, cs, y0, y1, _⟩ := hacts.each _ _ hd
    rcases (show i = i / 2 * 2 ∨ i = i / 2 * 2 + 1 by omega) with e | e
    · rw [← e, hi] at y0
      injection y0 with y0
      rw [y0]
      rfl
    · rw [← e, hi] at y1
      injection y1 with y1
      rw [y1]
      rfl
  have hca : ∀ V, Chg X V (fun _ => False) → Calls Try.prog 34 #[.slice p n c] V fun e w' => ∃ q N k, e = .returned (.slice q N k) ∧ Chg V w' (fun _ => False) ∧ Chg X w' (fun _ => False) ∧ Src g bl bs (.slice p n c) w' ∧ w'.ownsRow V.heap.size 71 2 (.slice q N k) n xs ∧ (n = 0 → Value.slice q N k = .slice none 0 0) ∧ Hd w' B (st.room : Nat) (st.used : Nat) st.down (.map (some bl)) (.map (some bs)) (.slice p n c) (st.fn : Nat) st.keep st.tear := fun V hV => by
    have hmany := h.ok.many
    rcases Nat.eq_zero_or_pos n with h0 | h0
    · have hnil := hacts.none_ (List.eq_nil_of_length_eq_zero (by have := HN.out; omega))
      rw [hnil]
      refine (cloneActs_nil V).mono ?_
      rintro e w' ⟨rfl, rfl⟩
      refine ⟨_, _, _, rfl, Chg.refl _ _, hV, by rw [← hnil]; exact hsrc _ hV, ?_, fun _ => rfl, by rw [← hnil]; exact hdB.chg hV fun h => h⟩
      have hxs : xs = [] := List.eq_nil_of_length_eq_zero (by have := hacts.row.1; have := HN.out; omega)
      rw [hxs, h0]
      exact World.ownsRow_nil _ _ _ _
    · obtain ⟨ga, rfl⟩ := hp h0
      have hrow : V.ownsRow 0 71 2 (.slice (some ⟨ga, 0, none⟩) n c) n xs := by
        have h1 := hacts.row
        rw [← HN.out] at h1
        exact row_chg (row_chg h1 hwX fun _ _ h => h) hV fun _ _ h => h
      refine (cloneActs_at hrow (by have := HN.out; omega) hone).mono ?_
      rintro e w' ⟨v, rfl, hr, hb⟩
      obtain ⟨q, k, rfl⟩ := row_sl hr
      exact ⟨q, n, k, rfl, Chg.of_below hb _, Chg.back (Chg.of_below hb _) hV, hsrc _ (Chg.back (Chg.of_below hb _) hV), hr, fun h => by omega, hdB.chg (Chg.back (Chg.of_below hb _) hV) fun h => h⟩
  have HCL := hide (fun V (hV : ∃ q, V = X.drewN q) => hcl V (by obtain ⟨q, rfl⟩ := hV; exact (Chg.refl X _).drewN q))
  have HCS := hide (fun V1 (h1 : Chg X V1 (fun _ => False)) V (hV : ∃ q, V = V1.drewN q) => hcs V (by obtain ⟨q, rfl⟩ := hV; exact h1.drewN q))
  have HCA := hide (fun V1 (h1 : Chg X V1 (fun _ => False)) V (hV : ∃ q, V = V1.drewN q) => hca V (by obtain ⟨q, rfl⟩ := hV; exact h1.drewN q))
  have hS0 := hsrc X (Chg.refl _ _)
  have c3 := hh.c3
  have c0 := hh.c0
  have c1 := hh.c1
  have c2 := hh.c2
  have c4 := hh.c4
  have c5 := hh.c5
  have c6 := hh.c6
  have c7 := hh.c7
  have c8 := hh.c8
  have HD := hide h
  have HdB := hide hdB
  have HWX := hide hwX
  have HSX := hide hsX
  have HH := hide (And.intro hacts hB)
  clear hcl hcs hca hone hlow hsrc hA hL hacts hp hnc hh h hdB hwX hsX hB
  go_enter Try.func15, Try.ntmps15
  go_wp2_with fail
  refine (made_any c3).mono ?_
  rintro e w1 ⟨rfl, rfl⟩
  go_wp2_with fail
  have hX' := hX
  unfold diskC at hX'
  rw [← hX']
  clear c0 c1 c2 c3 c4 c5 c6 c7 c8 hX hX'
  unfold Src at hS0
  rw [← HH.out.2]
  go_region_held3 (fun W => W.cell? ⟨g, 3, none⟩ = some (.map (some bl)) ∧ W.cell? ⟨g, 4, none⟩ = some (.map (some bs)) ∧ W.cell? ⟨g, 5, none⟩ = some (.slice p n c)) (first | exact hS0 | exact s1 | exact s2 | exact s3 | exact src_set hgB s3 | exact src_set hgB (src_set hgB s3) | exact src_set hgB (src_set hgB (src_set hgB s3))) (first
    | (go_at_call 33; with_reducible show Calls _ _ #[Value.map (some bl)] _ _; refine (HCL.out _ (by first | exact ⟨_, rfl⟩ | exact ⟨0, rfl⟩ | exact ⟨1, rfl⟩)).mono ?_; rintro e v1 ⟨b1, rfl, k1, x1, s1, hF1⟩)
    | (go_at_call 33; with_reducible show Calls _ _ #[Value.map (some bs)] _ _; refine (HCS.out v1 x1 _ (by first | exact ⟨_, rfl⟩ | exact ⟨0, rfl⟩ | exact ⟨1, rfl⟩)).mono ?_; rintro e v2 ⟨b2, rfl, k2, x2, s2, hF2⟩)
    | (go_at_call 34; refine (HCA.out v2 x2 _ (by first | exact ⟨_, rfl⟩ | exact ⟨0, rfl⟩ | exact ⟨1, rfl⟩)).mono ?_; rintro e v3 ⟨q, N, k, rfl, k3, x3, s3, hr3, hz3, hd3⟩; have y3 := hd3.c3; have y4 := hd3.c4; have y5 := hd3.c5; have z3 := hd3.fr 3; have z4 := hd3.fr 4; have z5 := hd3.fr 5))
  all_goals
    have q3 := Hd.set hd3 3 (.map (some b1))
    have q4 := Hd.set q3 4 (.map (some b2))
    have q5 : Hd _ B (st.room : Nat) (st.used : Nat) st.down (.map (some b1)) (.map (some b2)) (.slice q N k) (st.fn : Nat) st.keep st.tear := Hd.set q4 5 (.slice q N k)
    obtain ⟨W, hW⟩ : ∃ W, W = ((v3.setCell ⟨B, 3, none⟩ (.map (some b1))).setCell ⟨B, 4, none⟩ (.map (some b2))).setCell ⟨B, 5, none⟩ (.slice q N k) := ⟨_, rfl⟩
    have hcW : Chg v3 W (fun i => i = B) := by
      rw [hW]
      exact ((chg_set _ _ _ _).trans (chg_set _ _ _ _) fun _ h => .inl h).trans (chg_set _ _ _ _) fun _ h => .inl h
    rw [← hW] at q5 ⊢
    have HQ := hide (And.intro q5 (And.intro hcW (And.intro k2 (And.intro k3 (And.intro x3 (And.intro hF1 (And.intro hF2 (And.intro hr3 hz3))))))))
    have HS := hide (And.intro x1.size (And.intro k2.size (And.intro k3.size hcW.size)))
    clear q3 q4 q5 hW hcW k1 k2 k3 x1 x2 x3 hF1 hF2 hr3 hz3 hd3 s1 s2 s3 hS0 y3 y4 y5 z3 z4 z5
    go_wp2
    go_ret
    obtain ⟨q5, hcW, k2, k3, x3, ⟨V1, D1, hF1⟩, ⟨V2, D2, hF2⟩, hr3, hz3⟩ := HQ.out
    obtain ⟨y1, y2, y3, y4⟩ := HS.out
    obtain ⟨hacts, hB⟩ := HH.out
    have hsX := HSX.out
    have h := HD.out
    have hsXd : X.drew.heap.size = X.heap.size := rfl
    have hXW : Chg X W (fun i => i = B) := (x3.mono (S' := fun i => i = B) fun _ h => h.elim).trans hcW fun _ h => .inl h
    have hwW : Chg w W (fun i => i = B) := (HWX.out.mono (S' := fun i => i = B) fun _ h => h.elim).trans hXW fun _ h => .inl h
    have hr3' := hr3
    rw [HN.out] at hr3'
    refine ⟨B, fun i => B ≤ i ∧ i < W.heap.size, rfl, ⟨h.ok, fun i hi => by have := h.cap i hi; omega, fun i hi => hi.2, fun i hi hC => by have := h.cap i hC; omega, ⟨Nat.le_refl _, by omega⟩,
      fun i => v1.heap.size ≤ i ∧ i < v2.heap.size, fun i => X.drew.heap.size ≤ i ∧ i < v1.heap.size, b2, b1, .slice q N k, xs, V2, V1, D2, D1, q5, ?_, ?_, ⟨?_, fun e => ?_, fun i d hi => ?_⟩, fun i hi => ?_, fun i hi => ?_, fun i hi => ?_⟩, fun i hi => by omega, ?_⟩
    · exact (hF2.chg k3 fun _ _ h => h).chg hcW fun i hi e => by omega
    · exact ((hF1.chg k2 fun _ _ h => h).chg k3 fun _ _ h => h).chg hcW fun i hi e => by omega
    · refine row_chg (row_zero hr3') hcW fun i hi e => ?_
      have := (hr3.lt i hi).1
      omega
    · exact hz3 (by rw [HN.out, e]; rfl)
    · obtain ⟨f, cs, z0, z1, hd⟩ := hacts.each i d hi
      exact ⟨f, cs, z0, z1, hd.chg hwW fun j hj e => by have := h.cap j hj; omega⟩
    · exact ⟨⟨by omega, by omega⟩, fun hl => by omega, by omega, fun e => by
        have := (hr3.lt i e).1
        omega⟩
    · exact ⟨⟨by omega, by omega⟩, by omega, fun e => by
        have := (hr3.lt i e).1
        omega⟩
    · have h1 := hr3.lt i hi
      exact ⟨⟨by omega, by omega⟩, by omega⟩
    · exact ⟨hwW.os, hwW.tape, hwW.output, hwW.size, fun j hj => hwW.block j hj (by omega)⟩
end Go.Proofs.Ythcakinkioniaab
