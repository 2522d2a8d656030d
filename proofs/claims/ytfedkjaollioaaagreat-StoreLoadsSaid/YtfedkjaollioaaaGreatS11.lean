/- Several texts made one: SoRx SoRxP SoRxC SpRefPut SoRxI. -/
import Derived.Test.YtfedkjaollioaaaGreatFRefAddHandS
import Derived.Test.YtfedkjaollioaaaGreatS10
import Derived.Test.YtfedkjaollioaaaGreatS9
import Derived.Test.YtfedkjaollioaaaGreatS6
/- The document's store in memory: forests by rising numbers. -/
namespace Go.Proofs.YtfedkjaollioaaaGreat
set_option linter.unusedVariables false
set_option linter.unusedSimpArgs false
open Go.RowKit

/-- A forest of the document's store: its trace, its block, its spans as they came. -/
structure Rr where
  t : Int
  g : Nat
  L : List Sp
instance : Inhabited Rr := ⟨⟨0, 0, []⟩⟩
def Rr.pl (x : Rr) : Pl := (x.t, x.L)
def Rr.v (x : Rr) : Value := .pointer (some ⟨x.g, 0, none⟩)
/-- What a call may write to: the store's block, and its forests'. -/
def RxT (gx : Nat) (R : List Rr) (k : Nat) : Prop := k = gx ∨ ∃ x ∈ R, k = x.g
/-- A row of forests in memory. -/
def RrRow (w : World) (v : Value) (R : List Rr) : Prop := ∃ (p : Option Addr) (c : Nat), v = .slice p R.length c ∧ R.length ≤ c ∧ c ≤ maxLen ∧ (p = none → c = 0) ∧ (0 < R.length → ∃ g o, p = some ⟨g, o, none⟩ ∧ ∀ (i : Nat) x, R[i]? = some x → w.cell? ⟨g, o + i, none⟩ = some x.v)
theorem RrRow.nil (w : World) : RrRow w (.slice none 0 0) [] := ⟨none, 0, rfl, Nat.le_refl _, by simp [maxLen], fun _ => rfl, fun h => absurd h (Nat.lt_irrefl _)⟩
theorem RrRow.chg {w w' : World} {v : Value} {R : List Rr} {S : Nat → Prop} (h : RrRow w v R) (hc : Chg w w' S) (hn : R = [] ∨ ∀ k, v.ownBlock = some k → ¬ S k) : RrRow w' v R := by
  obtain ⟨p, c, rfl, h1, h2, h3, h4⟩ := h
  refine ⟨p, c, rfl, h1, h2, h3, fun h0 => ?_⟩
  obtain ⟨g, o, rfl, hx⟩ := h4 h0
  refine ⟨g, o, rfl, fun i x hi => hc.cell (hx i x hi) ?_⟩
  rcases hn with rfl | hn
  · simp at hi
  · exact hn g rfl
theorem RrRow.below {w w' : World} {v : Value} {R : List Rr} (h : RrRow w v R) (hb : Below w.heap.size w w') : RrRow w' v R := h.chg (Chg.of_below hb fun _ => False) (.inr fun _ _ e => e)
theorem RrRow.of_own {B : Nat} {w : World} {v : Value} {R : List Rr} (h : w.ownsRow B 69 1 v R.length (R.map Rr.v)) : RrRow w v R := by
  obtain ⟨hl, ⟨rfl, h0⟩ | ⟨g, cap, cur, rfl, hB, hh, hc, hm, hs, ht⟩⟩ := h
  · obtain rfl : R = [] := List.eq_nil_of_length_eq_zero h0
    exact RrRow.nil w
  · refine ⟨_, cap, rfl, hc, hm, (fun e => by cases e), fun _ => ⟨g, 0, rfl, fun i x hi => ?_⟩⟩
    have hil := (List.getElem?_eq_some_iff.1 hi).1
    have h1 : (R.map Rr.v)[i]? = some x.v := by rw [List.getElem?_map, hi]; rfl
    rw [← ht, List.getElem?_take_of_lt (by omega), Array.getElem?_toList] at h1
    rw [cell_of_row w g (0 + i) cur _ (0, 0) hh, Nat.zero_add]
    exact h1
structure RsIs (w : World) (gx : Nat) (R : List Rr) : Prop where
  c0 : ∃ v, w.cell? ⟨gx, 0, none⟩ = some v ∧ RrRow w v R ∧ (R = [] ∨ ∀ k, v.ownBlock = some k → ¬ RxT gx R k)
  fr : w.frozen? ⟨gx, 0, none⟩ = false
  ok : SoOk (R.map Rr.pl)
  fo : ∀ x ∈ R, RfX (RxT gx R) w x.g x.t x.L
  ids : R.Pairwise fun x y => x.g ≠ y.g
  ne : ∀ x ∈ R, x.g ≠ gx
theorem RsIs.lt {w : World} {gx : Nat} {R : List Rr} (h : RsIs w gx R) : ∀ k, RxT gx R k → k < w.heap.size := by
  rintro k (rfl | ⟨x, hx, rfl⟩)
  · obtain ⟨v, hv, _⟩ := h.c0
    exact lt_of_cell hv
  · exact lt_of_cell (h.fo x hx).c0
theorem RsIs.below {w w' : World} {gx : Nat} {R : List Rr} (h : RsIs w gx R) (hb : Below w.heap.size w w') : RsIs w' gx R := by
  obtain ⟨v, h1, h2, h3⟩ := h.c0
  have hg : gx < w.heap.size := lt_of_cell h1
  exact ⟨⟨v, (hb.cell (p := ⟨gx, 0, none⟩) hg).trans h1, h2.below hb, h3⟩, (hb.frozen (p := ⟨gx, 0, none⟩) hg).trans h.fr, h.ok, fun x hx => (h.fo x hx).below hb, h.ids, h.ne⟩
/-- A call of another thing leaves it. -/
theorem RsIs.chg {w w' : World} {gx : Nat} {R : List Rr} {S : Nat → Prop} (h : RsIs w gx R) (hc : Chg w w' S) (hS : ∀ k i u, w.cell? ⟨k, i, none⟩ = some u → ¬ S k) : RsIs w' gx R := by
  obtain ⟨v, h1, h2, h3⟩ := h.c0
  refine ⟨⟨v, hc.cell h1 (hS _ _ _ h1), ?_, h3⟩, ?_, h.ok, fun x hx => ?_, h.ids, h.ne⟩
  · obtain ⟨p, c, rfl, a1, a2, a3, a4⟩ := h2
    refine ⟨p, c, rfl, a1, a2, a3, fun h0 => ?_⟩
    obtain ⟨g, o, rfl, hx⟩ := a4 h0
    exact ⟨g, o, rfl, fun i x hi => hc.cell (hx i x hi) (hS _ _ _ (hx i x hi))⟩
  · exact (World.frozen?_of_block (a := ⟨gx, 0, none⟩) (hc.block gx (lt_of_cell h1) (hS _ _ _ h1))).trans h.fr
  · obtain ⟨c0, fr, u, u1, u2, u3⟩ := h.fo x hx
    refine ⟨hc.cell c0 (hS _ _ _ c0), (World.frozen?_of_block (a := ⟨x.g, 1, none⟩) (hc.block x.g (lt_of_cell c0) (hS _ _ _ c0))).trans fr, u, hc.cell u1 (hS _ _ _ u1), u2.chg hc hS, u3⟩
theorem rr_fnd {R : List Rr} {k : Int} : (R.map Rr.pl).map Prod.fst = R.map (·.t) := by rw [List.map_map]; rfl
/-- The pointer that forest answers. -/
def ptrX (R : List Rr) (k : Int) : Value := ((R.find? fun x => x.t == k).map Rr.v).getD (.pointer none)
set_option maxRecDepth 200000 in
set_option maxHeartbeats 2000000 in
/-- forest. -/
theorem rforest_any {w : World} {gx : Nat} {R : List Rr} (h : RsIs w gx R) (k : Int) : Calls Tryz.prog 33 #[.pointer (some ⟨gx, 0, none⟩), .int .i64 k] w fun e w' => e = .returned (ptrX R k) ∧ Below w.heap.size w w' := by
  obtain ⟨v, c0, ⟨p, c, rfl, hlc, hcm, _, hx⟩, _⟩ := h.c0
  have hfo := h.fo
  obtain ⟨n, hn⟩ : ∃ n, R.length = n := ⟨_, rfl⟩
  rw [hn] at c0 hlc hx
  have HX := hide (And.intro hn (And.intro hx hfo))
  have hmx : maxLen = 9223372036854775807 := rfl
  have hn9 : (n : Int) ≤ 9223372036854775807 := by omega
  clear hx hfo hlc hcm hmx hn h
  go_enter Tryz.func33, Tryz.ntmps33
  go_wp2_with fail
  go_loopw [6, 12] (fun _ i wr => ∃ j : Nat, j ≤ n ∧ i = .int .i64 j ∧ Hid (Below w.heap.size w wr ∧ ∀ x ∈ R.take j, x.t ≠ k)) (fun _ i _ => n - (intOf i).toNat)
  case atStart => exact ⟨0, by omega, rfl, hide ⟨Below.refl _ _, by simp⟩⟩
  case round =>
    obtain ⟨j, hj, rfl, HR⟩ := hrel
    by_cases hlt : (j : Int) < (n : Int)
    · obtain ⟨g, o, rfl, hp⟩ := HX.out.2.1 (by omega)
      obtain ⟨x, hxj⟩ : ∃ x, R[j]? = some x := ⟨_, List.getElem?_eq_getElem (by have := HX.out.1; omega)⟩
      have ck := hp j x hxj
      have ck' : wr.cell? ⟨g, o + j, none⟩ = some (.pointer (some ⟨x.g, 0, none⟩)) := (HR.out.1.cell (lt_of_cell ck)).trans ck
      obtain ⟨oo, hoo⟩ : ∃ oo, o + j = oo := ⟨_, rfl⟩
      rw [hoo] at ck'
      have cf := (HX.out.2.2 x (List.mem_of_getElem? hxj)).c0
      have cf' : wr.cell? ⟨x.g, 0, none⟩ = some (.int .i64 x.t) := (HR.out.1.cell (lt_of_cell cf)).trans cf
      have HXJ := hide hxj
      clear hp ck cf hxj
      by_cases he : x.t = k
      · have HF : Hid ((R.find? fun x => x.t == k) = some x) := hide (by
          have hjl : j < R.length := by have := HX.out.1; omega
          rw [List.find?_eq_some_iff_append]
          refine ⟨by simpa using he, R.take j, R.drop (j + 1), ?_, fun y hy => by simpa using HR.out.2 y hy⟩
          have h1 := (List.getElem?_eq_some_iff.1 HXJ.out).2
          rw [← h1, ← List.drop_eq_getElem_cons hjl, List.take_append_drop])
        obtain ⟨xt, xg, xL⟩ := x
        dsimp only at *
        subst he
        go_wp2
        go_ret
        refine ⟨?_, HR.out.1⟩
        unfold ptrX
        rw [HF.out]
        rfl
      · obtain ⟨xt, xg, xL⟩ := x
        dsimp only at *
        go_wp2
        go_roundw
        case rel =>
          refine ⟨j + 1, by omega, by go_num, hide ⟨HR.out.1, fun y hy => ?_⟩⟩
          rw [List.take_add_one, HXJ.out] at hy
          rcases List.mem_append.1 hy with h | h
          · exact HR.out.2 y h
          · simp at h; subst h; exact he
        case measure => simp [intOf]; omega
    · have htk : R.take j = R := List.take_of_length_le (by have := HX.out.1; omega)
      have HF : Hid ((R.find? fun x => x.t == k) = none) := hide (by
        rw [List.find?_eq_none]
        intro y hy
        have := HR.out.2 y (by rw [htk]; exact hy)
        simpa using this)
      go_wp2
      go_ret
      refine ⟨?_, HR.out.1⟩
      unfold ptrX
      rw [HF.out]
      rfl
set_option maxRecDepth 200000 in
set_option maxHeartbeats 2000000 in
/-- Lookup. -/
theorem rlookup_any {w : World} {gx : Nat} {R : List Rr} (h : RsIs w gx R) (k : Int) : Calls Tryz.prog 41 #[.pointer (some ⟨gx, 0, none⟩), .int .i64 k] w fun e w' => ∃ v', e = .returned v' ∧ OwnB w.heap.size w' v' (lookS (R.map Rr.pl) k) ∧ Below w.heap.size w w' := by
  have H := hide h
  have HFO := hide (rforest_any h k)
  clear h
  go_enter Tryz.func41, Tryz.ntmps41
  go_wp2_with fail
  refine HFO.out.mono ?_
  rintro e w1 ⟨rfl, hb1⟩
  have HB1 := hide hb1
  clear hb1 HFO
  have hl : fndK kP (R.map Rr.pl) k = (R.find? fun x => x.t == k).map Rr.pl := by
    unfold fndK
    rw [List.find?_map]
    rfl
  have HLK := hide hl
  clear hl
  cases hf : R.find? fun x => x.t == k with
  | none =>
    rw [show ptrX R k = .pointer none by unfold ptrX; rw [hf]; rfl]
    go_wp2
    go_ret
    refine ⟨_, rfl, ?_, HB1.out⟩
    have h1 := HLK.out
    rw [hf] at h1
    unfold lookS
    rw [h1]
    exact OwnB.nil _ _
  | some x =>
    have hx := List.mem_of_find?_eq_some hf
    have HBR := hide (refBranches_any ((H.out.fo x hx).is.below HB1.out) (H.out.ok.ok x.pl (List.mem_map.2 ⟨x, hx, rfl⟩)).1)
    have HLK2 : Hid (lookS (R.map Rr.pl) k = brs (sortS x.L)) := hide (by
      have h1 := HLK.out
      rw [hf] at h1
      unfold lookS
      rw [h1]
      rfl)
    rw [show ptrX R k = .pointer (some ⟨x.g, 0, none⟩) by unfold ptrX; rw [hf]; rfl]
    clear hf hx
    go_wp2_with fail
    refine HBR.out.mono ?_
    rintro e w2 ⟨v2, rfl, ho2, hb2⟩
    have HO := hide (And.intro ho2 hb2)
    clear ho2 hb2
    go_wp2
    go_ret
    refine ⟨_, rfl, ?_, HB1.out.trans (HO.out.2.mono HB1.out.size)⟩
    rw [HLK2.out]
    exact HO.out.1.mono HB1.out.size
end Go.Proofs.YtfedkjaollioaaaGreat
/- A forest put behind a row of forests. -/
namespace Go.Proofs.YtfedkjaollioaaaGreat
set_option linter.unusedVariables false
set_option linter.unusedSimpArgs false
open Go.RowKit

theorem Tryz.infoRr : (Tryz.prog.info? 69).map (fun i => (i.zero, i.size, i.bytes)) = some (some (.pointer none), 1, 8) := by kernel_rfl
/-- A row of forests of its own. -/
def OwnR (B : Nat) (w : World) (v : Value) (R : List Rr) : Prop := w.ownsRow B 69 1 v R.length (R.map Rr.v)
theorem OwnR.nil (B : Nat) (w : World) : OwnR B w (.slice none 0 0) [] := World.ownsRow_nil _ _ _ _
theorem run_pushR {B : Nat} {w : World} {v : Value} {R : List Rr} (h : OwnR B w v R) (x : Rr) (hB : B ≤ w.heap.size) (hs : R.length ≤ 1000000) :
    ∃ v' w', (Builtin.append_ #[28, 28] 28 #[v, .slice (some ⟨w.heap.size, 0, none⟩) 1 1]).run Tryz.prog (w.alloc (.cells #[.pointer (some ⟨x.g, 0, none⟩)] 69)) = .ok v' w' ∧ OwnR B w' v' (R ++ [x]) ∧ Below B w w' ∧ w.grownBy w' v.ownBlock := by
  obtain ⟨i0, hi0, hz0, hz1, hz2⟩ := info_parts Tryz.infoRr
  have ho' := World.ownsRow.alloc h (.cells #[.pointer (some ⟨x.g, 0, none⟩)] 69)
  obtain ⟨v', w', hr, h1, h2, _, h4⟩ := run_append_own_at (P := Tryz.prog) (w.alloc (.cells #[.pointer (some ⟨x.g, 0, none⟩)] 69)) B 28 28 69 i0 _ 1 8 Tryz.underlying28 hi0 hz0 hz1 hz2 rfl (by decide) v R.length (R.map Rr.v) ho' ⟨w.heap.size, 0, none⟩ 1 1 [Rr.v x] rfl
    (cell_new1 _ _ _)
    (by intro u hu; simp at hu; subst hu; rfl) (by simp only [maxLen]; omega) (by omega) (by simp; omega)
  have hb0 : Below B w (w.alloc (.cells #[.pointer (some ⟨x.g, 0, none⟩)] 69)) := (Below.refl _ _).alloc hB _
  refine ⟨v', w', hr, ?_, hb0.grown h2 (by simp; omega) fun k hk => (World.ownsRow.lt h k hk).1, ?_⟩
  · have : (R ++ [x]).map Rr.v = R.map Rr.v ++ [Rr.v x] := by simp
    unfold OwnR
    rw [this, List.length_append]
    exact h1
  · refine ⟨h2.os, h2.tape, h2.output, ?_, fun k hk hne => ?_⟩
    · have := h2.size
      simp at this
      omega
    · rw [h2.block k (by simp; omega) hne]
      exact heap_alloc_old _ _ hk
theorem wpList_pushR {w : World} {ops : Array Oper} {rest : List Oper} {o : Oper} {a : Act} {Q : Exit → Act → World → Prop} (hgd : o.guard = none) (s t : Operand)
    (ho : o.op = .call { callee := .builtin .append, args := #[s, t], argTypes := #[28, 28] }) (hty : o.type = 28) {B : Nat} {v : Value} {R : List Rr} (x : Rr) {H : Nat}
    (hs : a.eval s = v) (ht : a.eval t = .slice (some ⟨H, 0, none⟩) 1 1) (hH : H = w.heap.size) (h : OwnR B w v R) (hB : B ≤ w.heap.size) (hn : R.length ≤ 1000000)
    (hK : ∀ v' w', OwnR B w' v' (R ++ [x]) → Below B w w' → w.grownBy w' v.ownBlock → wpList Tryz.prog ops Q rest (a.put o.dst v') w') : wpList Tryz.prog ops Q (o :: rest) a (w.alloc (.cells #[.pointer (some ⟨x.g, 0, none⟩)] 69)) := by
  subst hH
  obtain ⟨v', w', hr, h1, h2, h3⟩ := run_pushR h x hB hn
  exact Lib.wpList_append_run_sl _ hgd s t 28 ho v _ hs ht (by rw [hty]; exact hr) (hK v' w' h1 h2 h3)
end Go.Proofs.YtfedkjaollioaaaGreat
/- The document's Retain and Traces. -/
namespace Go.Proofs.YtfedkjaollioaaaGreat
set_option linter.unusedVariables false
set_option linter.unusedSimpArgs false
open Go.RowKit

theorem OwnR.below {B : Nat} {w w' : World} {v : Value} {R : List Rr} (h : OwnR B w v R) (hb : Below w.heap.size w w') : OwnR B w' v R :=
  World.ownsRow.kept (row := none) h ⟨hb.os, hb.tape, hb.output, hb.size, fun k hk _ => hb.block k hk⟩ (by
    by_cases hv : v.ownBlock = none
    · exact .inl hv
    · exact .inr hv)
def retX (R : List Rr) (f : Int) : List Rr := R.filter fun x => decide (f ≤ endP x.L)
theorem retX_pl (R : List Rr) (f : Int) : (retX R f).map Rr.pl = retS (R.map Rr.pl) f := by
  unfold retX retS
  rw [List.filter_map]
  rfl
theorem retX_snoc (R : List Rr) (x : Rr) (f : Int) : retX (R ++ [x]) f = retX R f ++ if f ≤ endP x.L then [x] else [] := by
  unfold retX
  rw [List.filter_append]
  congr 1
  by_cases h : f ≤ endP x.L
  · rw [if_pos h]; simp [h]
  · rw [if_neg h]; simp [h]
theorem RxT.sub {gx : Nat} {R R' : List Rr} (h : ∀ x ∈ R', x ∈ R) {k : Nat} (hk : RxT gx R' k) : RxT gx R k := by
  rcases hk with rfl | ⟨x, hx, rfl⟩
  · exact .inl rfl
  · exact .inr ⟨x, h x hx, rfl⟩
/-- Another row of some of its forests laid in. -/
theorem RsIs.put {w wr : World} {gx : Nat} {R R' : List Rr} {v : Value} (h : RsIs w gx R) (hb : Below w.heap.size w wr) (hs : R'.Sublist R) (ho : OwnR w.heap.size wr v R') (hok : SoOk (R'.map Rr.pl)) : RsIs (wr.setCell ⟨gx, 0, none⟩ v) gx R' := by
  have h' := h.below hb
  have hT := h.lt
  obtain ⟨u, h1, h2, h3⟩ := h'.c0
  have hsub : ∀ x ∈ R', x ∈ R := fun x hx => hs.subset hx
  have hvb : ∀ k, v.ownBlock = some k → w.heap.size ≤ k := fun k hk => (World.ownsRow.lt ho k hk).1
  refine ⟨⟨v, World.cell?_setCell_same _ _ _ h1, ?_, .inr fun k hk hh => ?_⟩, ?_, hok, fun x hx => ?_, h.ids.sublist hs, fun x hx => h.ne x (hsub x hx)⟩
  · refine (RrRow.of_own ho).chg (Chg.of_grown (grown_set _ _ _ _) (fun k => k = gx) fun k e => by injection e with e; exact .inl e.symm) (.inr fun k hk e => ?_)
    have := hvb k hk
    have := hT gx (.inl rfl)
    omega
  · have := hvb k hk
    have := hT k (hh.sub hsub)
    omega
  · rw [World.frozen?_setCell]; exact h'.fr
  · exact (((h'.fo x (hsub x hx)).grown (grown_set _ _ _ _) (.inl rfl) fun e => h.ne x (hsub x hx) e.symm)).weak fun k hk => hk.sub hsub
set_option maxRecDepth 200000 in
set_option maxHeartbeats 2000000 in
/-- Retain. -/
theorem rretain_any {w : World} {gx : Nat} {R : List Rr} (h : RsIs w gx R) (f : Int) : Calls Tryz.prog 9 #[.pointer (some ⟨gx, 0, none⟩), .int .i64 f] w fun e w' => e = .returned (.int .i64 ((R.length : Int) - (retX R f).length)) ∧ RsIs w' gx (retX R f) ∧ Chg w w' fun k => k = gx := by
  have H := hide h
  obtain ⟨v, c0, ⟨p, c, rfl, hlc, hcm, _, hx⟩, _⟩ := h.c0
  have hfr := h.fr
  have hl32 : R.length ≤ 32 := by have := h.ok.len; simpa using this
  obtain ⟨n, hn⟩ : ∃ n, R.length = n := ⟨_, rfl⟩
  rw [hn] at c0 hlc hx hl32 ⊢
  have HX := hide (And.intro hn (And.intro hx (And.intro c0 hfr)))
  have hn9 : (n : Int) ≤ 100 := by omega
  clear hx hlc hcm hn h hfr
  go_enter Tryz.func9, Tryz.ntmps9
  go_wp2_with fail
  clear c0
  go_loopw [5, 7, 14] (fun v5 _ i wr => ∃ (j : Nat) (q : Option Addr) (m d : Nat), v5 = .slice q m d ∧ j ≤ n ∧ i = .int .i64 j ∧ Hid (Below w.heap.size w wr ∧ OwnR w.heap.size wr (.slice q m d) (retX (R.take j) f))) (fun _ _ i _ => n - (intOf i).toNat)
  case atStart => exact ⟨0, none, 0, 0, rfl, by omega, rfl, hide ⟨Below.refl _ _, OwnR.nil _ _⟩⟩
  case round =>
    obtain ⟨j, q, m, d, rfl, hj, rfl, HR⟩ := hrel
    by_cases hlt : (j : Int) < (n : Int)
    · obtain ⟨g, o, rfl, hp⟩ := HX.out.2.1 (by omega)
      obtain ⟨x, hxj⟩ : ∃ x, R[j]? = some x := ⟨_, List.getElem?_eq_getElem (by have := HX.out.1; omega)⟩
      have ck := hp j x hxj
      have ck' : wr.cell? ⟨g, o + j, none⟩ = some (.pointer (some ⟨x.g, 0, none⟩)) := (HR.out.1.cell (lt_of_cell ck)).trans ck
      obtain ⟨oo, hoo⟩ : ∃ oo, o + j = oo := ⟨_, rfl⟩
      rw [hoo] at ck'
      have hm := List.mem_of_getElem? hxj
      have HEN := hide (refEnd_any ((H.out.fo x hm).is.below HR.out.1) (H.out.ok.ok x.pl (List.mem_map.2 ⟨x, hm, rfl⟩)).1)
      have HTK : Hid (retX (R.take (j + 1)) f = retX (R.take j) f ++ if f ≤ endP x.L then [x] else []) := hide (by rw [List.take_add_one, hxj]; exact retX_snoc _ _ _)
      clear hp ck hxj hm
      go_wp2_with fail
      refine HEN.out.mono ?_
      rintro e w5 ⟨rfl, hb5⟩
      have H5 := hide (And.intro (HR.out.1.trans (hb5.mono HR.out.1.size)) (show OwnR w.heap.size w5 (.slice q m d) (retX (R.take j) f) from OwnR.below HR.out.2 hb5))
      clear hb5 HEN
      by_cases he : f ≤ endP x.L
      · rw [if_pos he] at HTK
        have he' : endP x.L ≥ f := he
        have hsz : w.heap.size ≤ w5.heap.size := H5.out.1.size
        have hml : (retX (R.take j) f).length ≤ 1000000 := by
          have h1 : (retX (R.take j) f).length ≤ (R.take j).length := List.length_filter_le _ _
          rw [List.length_take] at h1
          omega
        have HSZ := hide (And.intro hsz hml)
        clear hsz hml
        go_wp2_with (at_builtin; go_must (refine wpList_pushR (v := .slice q m d) rfl _ _ rfl rfl x rfl rfl rfl H5.out.2 HSZ.out.1 HSZ.out.2 ?_); intro v6 w6 ho6 hb6 hg6; obtain ⟨p6, c6, rfl, _⟩ := RrRow.of_own ho6; have H6 := hide (And.intro (H5.out.1.trans hb6) ho6); clear ho6 hb6 hg6)
        go_roundw
        case rel =>
          refine ⟨j + 1, _, _, _, rfl, by omega, by go_num, hide ⟨H6.out.1, ?_⟩⟩
          rw [HTK.out]
          have h6 := H6.out.2
          simp only [List.length_append, List.length_cons, List.length_nil, Nat.zero_add] at h6
          exact h6
        case measure => simp [intOf]; omega
      · rw [if_neg he, List.append_nil] at HTK
        have he' : ¬ endP x.L ≥ f := he
        go_wp2
        go_roundw
        case rel =>
          refine ⟨j + 1, _, _, _, rfl, by omega, by go_num, hide ⟨H5.out.1, ?_⟩⟩
          rw [HTK.out]
          exact H5.out.2
        case measure => simp [intOf]; omega
    · have htk : R.take j = R := List.take_of_length_le (by have := HX.out.1; omega)
      have hrr := HR.out.2
      rw [htk] at hrr
      have hm : m = (retX R f).length := by
        obtain ⟨p6, c6, e, _⟩ := RrRow.of_own hrr
        injection e
      subst hm
      have HO := hide hrr
      have hle : (retX R f).length ≤ n := by have := HX.out.1; have h1 : (retX R f).length ≤ R.length := List.length_filter_le _ _; omega
      have c0 := (HR.out.1.cell (p := ⟨gx, 0, none⟩) (lt_of_cell HX.out.2.2.1)).trans HX.out.2.2.1
      have hfr := (HR.out.1.frozen (p := ⟨gx, 0, none⟩) (lt_of_cell HX.out.2.2.1)).trans HX.out.2.2.2
      clear hrr
      go_wp2
      go_ret
      refine ⟨rfl, H.out.put HR.out.1 List.filter_sublist HO.out ?_, ?_⟩
      · rw [retX_pl]; exact retS_ok H.out.ok f
      · exact (Chg.of_below HR.out.1 _).trans (Chg.of_grown (grown_set _ _ _ _) (fun k => k = gx) fun k e => by injection e with e; exact .inl e.symm) fun k hk => .inl hk
end Go.Proofs.YtfedkjaollioaaaGreat
/- Spans' bytes: the document's Put. -/
namespace Go.Proofs.YtfedkjaollioaaaGreat
set_option linter.unusedVariables false
set_option linter.unusedSimpArgs false
open Go.RowKit

set_option maxRecDepth 200000 in
set_option maxHeartbeats 2000000 in
/-- The document's Put. -/
theorem refPut_any {w : World} {v : Value} {l : List Sp} (hv : Sps w v l) (hl : l.length ≤ 100000) (hnm : ∀ x ∈ l, x.n.size ≤ 1000000) {B : List UInt8} {E : Nat} (hP : putB l = (B, E)) :
    Calls Tryz.prog 66 #[v] w fun e w' => ∃ v', e = .returned (.tuple #[v', .int .i64 (E : Int)]) ∧ Own w.heap.size w' v' B ∧ Below w.heap.size w w' := by
  obtain ⟨p, n, c, rfl⟩ := hv.sl
  obtain ⟨hn, hnc, hcm⟩ := hv.len
  have HV := hide hv
  have HN := hide hn
  have HP := hide hP
  have HM := hide hnm
  have hn1 : n ≤ 100000 := by omega
  clear hv hn hP hnm hl
  go_enter Tryz.func66, Tryz.ntmps66
  go_wp2_with fail
  refine (refNumber_own (By.nil w) (by simp) n n (by omega) (by unfold lim; omega)).mono ?_
  rintro e1 w1 ⟨v1, rfl, ho, hb⟩
  rw [List.nil_append] at ho
  have HG := hide ho
  have HB := hide hb
  clear hb ho
  go_wp2_with fail
  go_loopw [4, 6, 12] (fun v _ c wr => ∃ k : Nat, k ≤ n ∧ c = .int .i64 k ∧ Hid (Own w.heap.size wr v (digits n ++ ((l.take k).map Sp.bytes).flatten) ∧ Below w.heap.size w wr ∧ (l.take k).all Sp.ok = true)) (fun _ _ c _ => n - (intOf c).toNat)
  case atStart => exact ⟨0, by omega, rfl, hide ⟨by simpa using HG.out, HB.out, rfl⟩⟩
  case round =>
    obtain ⟨k, hk, rfl, HR⟩ := hrel
    by_cases hlt : (k : Int) < (n : Int)
    · obtain ⟨g, o, rfl, hx⟩ := HV.out.at_ (by omega)
      obtain ⟨x, hxk⟩ : ∃ x, l[k]? = some x := ⟨_, List.getElem?_eq_getElem (by have := HN.out; omega)⟩
      have hat := (hx k x hxk).below (HR.out.2.1)
      obtain ⟨oo, hoo⟩ : ∃ oo, o + k * 6 = oo := ⟨_, rfl⟩
      rw [hoo] at hat
      have c0 := hat.c0
      have c1' := hat.c1
      have c2 := hat.c2
      have c3 := hat.c3
      have c4 := hat.c4
      have c5 := hat.c5
      have hxn := HM.out x (List.mem_of_getElem? hxk)
      have HXK := hide hxk
      have HAT := hide hat
      have hck := refCheck_any x hxn
      have HCK := hide hck
      have HBX := hide (refBytes_any x)
      clear hx hxk hat hck
      have hnew := spAt_new wr x
      have HNEW := hide hnew
      have hbn : Below wr.heap.size wr (wr.alloc (.cells #[.int .i64 x.t, .int .i64 x.i, .int .i64 x.p, .int .i64 x.s, .int .i64 x.e, .string x.n] 38)) := (Below.refl _ _).alloc (Nat.le_refl _) _
      have HBN := hide hbn
      have hsn : wr.heap.size < (wr.alloc (.cells #[.int .i64 x.t, .int .i64 x.i, .int .i64 x.p, .int .i64 x.s, .int .i64 x.e, .string x.n] 38)).heap.size := by simp
      have HSN := hide hsn
      clear hnew hbn hsn
      by_cases hok : x.ok = true
      · have HOK := hide hok
        obtain ⟨t, i, p, s, e, nm⟩ := x
        dsimp only at *
        unfold spV at *
        rw [if_pos hok] at HCK
        clear hok
        go_wp2_with fail
        refine (HCK.out _).mono ?_
        rintro e2 w2 ⟨rfl, hb2⟩
        obtain ⟨d0, d1, d2, d3, d4, d5⟩ := (HNEW.out.below hb2).z
        dsimp only at d0 d1 d2 d3 d4 d5
        have HB2 : Hid (Below wr.heap.size wr w2) := hide (HBN.out.trans (hb2.mono (Nat.le_of_lt HSN.out)))
        clear hb2
        go_wp2_with fail
        refine (HBX.out HOK.out _).mono ?_
        rintro e3 w3 ⟨v3, rfl, ho3, hb3⟩
        have HG3 := hide (HR.out.1.below (HB2.out.trans (hb3.mono HB2.out.size)))
        have HB3 := hide (HR.out.2.1.trans ((HB2.out.trans (hb3.mono HB2.out.size)).mono HR.out.2.1.size))
        have HP3 := hide ho3.by_
        have hbs3 := HB3.out.size
        have HOK2 : Hid ((l.take (k + 1)).all Sp.ok = true ∧ digits n ++ ((l.take (k + 1)).map Sp.bytes).flatten = (digits n ++ ((l.take k).map Sp.bytes).flatten) ++ Sp.bytes ⟨t, i, p, s, e, nm⟩) := hide (by
          have h1 : l.take (k + 1) = l.take k ++ [⟨t, i, p, s, e, nm⟩] := by rw [List.take_add_one, HXK.out]; rfl
          rw [h1, List.all_append, HR.out.2.2]
          refine ⟨?_, by simp⟩
          simp only [List.all_cons, List.all_nil, Bool.and_true, Bool.true_and]
          exact HOK.out)
        have hlk : (digits n ++ ((l.take k).map Sp.bytes).flatten).length + (Sp.bytes ⟨t, i, p, s, e, nm⟩).length ≤ 140737488355328 := by
          have h1 := lens_puts HR.out.2.2
          have h2 := bytes_length HOK.out
          have h3 := digits_length n (by omega)
          rw [List.length_append, flatten_length]
          rw [List.length_take] at h1
          omega
        have HLK := hide hlk
        clear ho3 hb3 d0 d1 d2 d3 d4 d5 hlk
        go_wp2_with (at_builtin; go_must (refine wpList_append_by rfl _ _ rfl rfl rfl rfl HG3.out HP3.out HLK.out hbs3 ?_); intro v4 w4 hg4 _ hb4 _)
        go_roundw
        case rel => exact ⟨k + 1, by omega, by go_num, hide ⟨by rw [HOK2.out.2]; exact hg4, HB3.out.trans hb4, HOK2.out.1⟩⟩
        case measure => simp [intOf]; omega
      · have hBE : B = [] ∧ E = 30 := by
          have hall : l.all Sp.ok = false := by
            rw [Bool.eq_false_iff]
            intro h
            exact hok (List.all_eq_true.1 h x (List.mem_of_getElem? HXK.out))
          have := HP.out
          unfold putB at this
          rw [hall] at this
          simp only [Bool.false_eq_true, if_false, Prod.mk.injEq] at this
          exact ⟨this.1.symm, this.2.symm⟩
        obtain ⟨rfl, rfl⟩ := hBE
        obtain ⟨t, i, p, s, e, nm⟩ := x
        dsimp only at *
        unfold spV at *
        rw [if_neg hok] at HCK
        clear hok
        go_wp2_with fail
        refine (HCK.out _).mono ?_
        rintro e2 w2 ⟨rfl, hb2⟩
        have HB2 : Hid (Below wr.heap.size wr w2) := hide (HBN.out.trans (hb2.mono (Nat.le_of_lt HSN.out)))
        clear hb2
        go_wp2
        go_ret2
        exact ⟨_, rfl, Own.nil _ _, HR.out.2.1.trans (HB2.out.mono HR.out.2.1.size)⟩
    · have hkn : k = n := by omega
      subst hkn
      have hall : l.all Sp.ok = true := by
        have := HR.out.2.2
        rwa [List.take_of_length_le (by have := HN.out; omega)] at this
      have hG : Own w.heap.size wr u4 (digits k ++ (l.map Sp.bytes).flatten) := by
        have := HR.out.1
        rwa [List.take_of_length_le (by have := HN.out; omega)] at this
      have hBE : B = digits k ++ (l.map Sp.bytes).flatten ∧ E = 0 := by
        have := HP.out
        unfold putB at this
        rw [hall] at this
        simp only [if_true, Prod.mk.injEq] at this
        refine ⟨?_, this.2.symm⟩
        rw [← this.1]
        unfold encL
        rw [HN.out]
      obtain ⟨rfl, rfl⟩ := hBE
      have HJ := hide hG
      have HBW := hide HR.out.2.1
      clear hG hall
      go_wp2
      go_ret2
      exact ⟨_, rfl, HJ.out, HBW.out⟩
end Go.Proofs.YtfedkjaollioaaaGreat
/- The document's Traces and Image. -/
namespace Go.Proofs.YtfedkjaollioaaaGreat
set_option linter.unusedVariables false
set_option linter.unusedSimpArgs false
open Go.RowKit

theorem Tryz.infoInX : (Tryz.prog.info? 3).map (fun i => (i.zero, i.size, i.bytes)) = some (some (.int .i64 0), 1, 8) := by kernel_rfl
def OwnI (B : Nat) (w : World) (v : Value) (l : List Int) : Prop := w.ownsRow B 3 1 v l.length (l.map (Value.int .i64))
theorem OwnI.nil (B : Nat) (w : World) : OwnI B w (.slice none 0 0) [] := World.ownsRow_nil _ _ _ _
theorem OwnI.sl {B : Nat} {w : World} {v : Value} {l : List Int} (h : OwnI B w v l) : ∃ p c, v = .slice p l.length c := by
  obtain ⟨hl, ⟨rfl, h0⟩ | ⟨g, cap, cur, rfl, _⟩⟩ := h
  · exact ⟨none, 0, by rw [h0]⟩
  · exact ⟨_, cap, rfl⟩
theorem run_pushIX {B : Nat} {w : World} {v : Value} {l : List Int} (h : OwnI B w v l) (x : Int) (hB : B ≤ w.heap.size) (hs : l.length ≤ 1000000) :
    ∃ v' w', (Builtin.append_ #[62, 62] 62 #[v, .slice (some ⟨w.heap.size, 0, none⟩) 1 1]).run Tryz.prog (w.alloc (.cells #[.int .i64 x] 3)) = .ok v' w' ∧ OwnI B w' v' (l ++ [x]) ∧ Below B w w' := by
  obtain ⟨i0, hi0, hz0, hz1, hz2⟩ := info_parts Tryz.infoInX
  have ho' := World.ownsRow.alloc h (.cells #[.int .i64 x] 3)
  obtain ⟨v', w', hr, h1, h2, _, h4⟩ := run_append_own_at (P := Tryz.prog) (w.alloc (.cells #[.int .i64 x] 3)) B 62 62 3 i0 _ 1 8 Tryz.underlying62 hi0 hz0 hz1 hz2 rfl (by decide) v l.length (l.map (Value.int .i64)) ho' ⟨w.heap.size, 0, none⟩ 1 1 [.int .i64 x] rfl
    (cell_new1 _ _ _)
    (by intro u hu; simp at hu; subst hu; rfl) (by simp only [maxLen]; omega) (by omega) (by simp; omega)
  have hb0 : Below B w (w.alloc (.cells #[.int .i64 x] 3)) := (Below.refl _ _).alloc hB _
  refine ⟨v', w', hr, ?_, hb0.grown h2 (by simp; omega) fun k hk => (World.ownsRow.lt h k hk).1⟩
  have : (l ++ [x]).map (Value.int .i64) = l.map (Value.int .i64) ++ [Value.int .i64 x] := by simp
  unfold OwnI
  rw [this, List.length_append]
  exact h1
theorem wpList_pushIX {w : World} {ops : Array Oper} {rest : List Oper} {o : Oper} {a : Act} {Q : Exit → Act → World → Prop} (hgd : o.guard = none) (s t : Operand)
    (ho : o.op = .call { callee := .builtin .append, args := #[s, t], argTypes := #[62, 62] }) (hty : o.type = 62) {B : Nat} {v : Value} {l : List Int} (x : Int) {H : Nat}
    (hs : a.eval s = v) (ht : a.eval t = .slice (some ⟨H, 0, none⟩) 1 1) (hH : H = w.heap.size) (h : OwnI B w v l) (hB : B ≤ w.heap.size) (hn : l.length ≤ 1000000)
    (hK : ∀ v' w', OwnI B w' v' (l ++ [x]) → Below B w w' → wpList Tryz.prog ops Q rest (a.put o.dst v') w') : wpList Tryz.prog ops Q (o :: rest) a (w.alloc (.cells #[.int .i64 x] 3)) := by
  subst hH
  obtain ⟨v', w', hr, h1, h2⟩ := run_pushIX h x hB hn
  exact Lib.wpList_append_run_sl _ hgd s t 62 ho v _ hs ht (by rw [hty]; exact hr) (hK v' w' h1 h2)
set_option maxRecDepth 200000 in
set_option maxHeartbeats 2000000 in
/-- Traces. -/
theorem rtraces_any {w : World} {gx : Nat} {R : List Rr} (h : RsIs w gx R) : Calls Tryz.prog 38 #[.pointer (some ⟨gx, 0, none⟩)] w fun e w' => ∃ v, e = .returned v ∧ OwnI w.heap.size w' v (R.map (·.t)) ∧ Below w.heap.size w w' := by
  have H := hide h
  obtain ⟨v, c0, ⟨p, c, rfl, hlc, hcm, _, hx⟩, _⟩ := h.c0
  have hl32 : R.length ≤ 32 := by have := h.ok.len; simpa using this
  obtain ⟨n, hn⟩ : ∃ n, R.length = n := ⟨_, rfl⟩
  rw [hn] at c0 hlc hx hl32
  have HX := hide (And.intro hn hx)
  have hn9 : (n : Int) ≤ 100 := by omega
  clear hx hlc hcm hn h
  go_enter Tryz.func38, Tryz.ntmps38
  go_wp2_with fail
  clear c0
  go_loopw [3, 5, 11] (fun v3 _ i wr => ∃ (j : Nat) (q : Option Addr) (m d : Nat), v3 = .slice q m d ∧ j ≤ n ∧ i = .int .i64 j ∧ Hid (Below w.heap.size w wr ∧ OwnI w.heap.size wr (.slice q m d) ((R.take j).map (·.t)))) (fun _ _ i _ => n - (intOf i).toNat)
  case atStart => exact ⟨0, none, 0, 0, rfl, by omega, rfl, hide ⟨Below.refl _ _, OwnI.nil _ _⟩⟩
  case round =>
    obtain ⟨j, q, m, d, rfl, hj, rfl, HR⟩ := hrel
    by_cases hlt : (j : Int) < (n : Int)
    · obtain ⟨g, o, rfl, hp⟩ := HX.out.2 (by omega)
      obtain ⟨x, hxj⟩ : ∃ x, R[j]? = some x := ⟨_, List.getElem?_eq_getElem (by have := HX.out.1; omega)⟩
      have ck := hp j x hxj
      have ck' : wr.cell? ⟨g, o + j, none⟩ = some (.pointer (some ⟨x.g, 0, none⟩)) := (HR.out.1.cell (lt_of_cell ck)).trans ck
      obtain ⟨oo, hoo⟩ : ∃ oo, o + j = oo := ⟨_, rfl⟩
      rw [hoo] at ck'
      have cf := (H.out.fo x (List.mem_of_getElem? hxj)).c0
      have cf' : wr.cell? ⟨x.g, 0, none⟩ = some (.int .i64 x.t) := (HR.out.1.cell (lt_of_cell cf)).trans cf
      have HTK : Hid ((R.take (j + 1)).map (·.t) = (R.take j).map (·.t) ++ [x.t]) := hide (by rw [List.take_add_one, hxj]; simp)
      have hml : ((R.take j).map (·.t)).length ≤ 1000000 := by
        rw [List.length_map, List.length_take]
        omega
      have HSZ := hide (And.intro HR.out.1.size hml)
      clear hp ck cf hxj hml
      go_wp2_with (at_builtin; go_must (refine wpList_pushIX (v := .slice q m d) rfl _ _ rfl rfl x.t rfl rfl rfl HR.out.2 HSZ.out.1 HSZ.out.2 ?_); intro v6 w6 ho6 hb6; obtain ⟨p6, c6, rfl⟩ := ho6.sl; have H6 := hide (And.intro (HR.out.1.trans hb6) ho6); clear ho6 hb6)
      go_roundw
      case rel =>
        refine ⟨j + 1, _, _, _, rfl, by omega, by go_num, hide ⟨H6.out.1, ?_⟩⟩
        rw [HTK.out]
        have h6 := H6.out.2
        simp only [List.length_append, List.length_cons, List.length_nil, Nat.zero_add, List.length_map, List.length_take] at h6
        exact h6
      case measure => simp [intOf]; omega
    · have htk : R.take j = R := List.take_of_length_le (by have := HX.out.1; omega)
      have hrr := HR.out.2
      rw [htk] at hrr
      have HO := hide hrr
      clear hrr
      go_wp2
      go_ret
      exact ⟨_, rfl, HO.out, HR.out.1⟩
set_option maxRecDepth 200000 in
set_option maxHeartbeats 2000000 in
/-- Image. -/
theorem rimage_any {w : World} {gx : Nat} {R : List Rr} (h : RsIs w gx R) : Calls Tryz.prog 39 #[.pointer (some ⟨gx, 0, none⟩)] w fun e w' => ∃ v, e = .returned v ∧ Own w.heap.size w' v (imgS (R.map Rr.pl)) ∧ Below w.heap.size w w' := by
  have H := hide h
  obtain ⟨v, c0, ⟨p, c, rfl, hlc, hcm, _, hx⟩, _⟩ := h.c0
  have hl32 : R.length ≤ 32 := by have := h.ok.len; simpa using this
  obtain ⟨n, hn⟩ : ∃ n, R.length = n := ⟨_, rfl⟩
  rw [hn] at c0 hlc hx hl32
  have HX := hide (And.intro hn (And.intro hx c0))
  have hn9 : (n : Int) ≤ 100 := by omega
  have NB := hide (refNumber_own (By.nil w) (by simp) (n : Int) n (by omega) (by unfold lim; omega))
  clear hx hlc hcm hn h
  go_enter Tryz.func39, Tryz.ntmps39
  go_wp2_with fail
  refine NB.out.mono ?_
  rintro e w1 ⟨v1, rfl, ho1, hb1⟩
  obtain ⟨q1, m1, d1, rfl⟩ := ho1.by_.sl
  have H1 := hide (And.intro ho1 hb1)
  have c0' := (hb1.cell (p := ⟨gx, 0, none⟩) (lt_of_cell HX.out.2.2)).trans HX.out.2.2
  clear ho1 hb1 NB c0
  go_wp2_with fail
  clear c0'
  go_loopw [3, 5, 6, 7, 19] (fun v3 _ _ _ i wr => ∃ (j : Nat) (q : Option Addr) (m d : Nat), v3 = .slice q m d ∧ j ≤ n ∧ i = .int .i64 j ∧ Hid (Below w.heap.size w wr ∧ Own w.heap.size wr (.slice q m d) (digits n ++ ((R.take j).map Rr.pl).flatMap bytesS))) (fun _ _ _ _ i _ => n - (intOf i).toNat)
  case atStart => exact ⟨0, q1, m1, d1, rfl, by omega, rfl, hide ⟨H1.out.2, by have := H1.out.1; simpa using this⟩⟩
  case round =>
    obtain ⟨j, q, m, d, rfl, hj, rfl, HR⟩ := hrel
    by_cases hlt : (j : Int) < (n : Int)
    · obtain ⟨g, o, rfl, hp⟩ := HX.out.2.1 (by omega)
      obtain ⟨x, hxj⟩ : ∃ x, R[j]? = some x := ⟨_, List.getElem?_eq_getElem (by have := HX.out.1; omega)⟩
      have ck := hp j x hxj
      have ck' : wr.cell? ⟨g, o + j, none⟩ = some (.pointer (some ⟨x.g, 0, none⟩)) := (HR.out.1.cell (lt_of_cell ck)).trans ck
      obtain ⟨oo, hoo⟩ : ∃ oo, o + j = oo := ⟨_, rfl⟩
      rw [hoo] at ck'
      have hm := List.mem_of_getElem? hxj
      have hok : FoOk x.t x.L := (H.out.ok.ok x.pl (List.mem_map.2 ⟨x, hm, rfl⟩)).1
      obtain ⟨u, cf, hsp⟩ := ((H.out.fo x hm).is.below HR.out.1).2
      have HTK : Hid (((R.take (j + 1)).map Rr.pl).flatMap bytesS = ((R.take j).map Rr.pl).flatMap bytesS ++ bytesS x.pl) := hide (by rw [List.take_add_one, hxj]; simp)
      have HTL : Hid ((digits n ++ ((R.take j).map Rr.pl).flatMap bytesS).length ≤ 1000000) := hide (by
        have h1 := lens_imgs (S := (R.take j).map Rr.pl) fun y hy => by
          obtain ⟨z, hz, rfl⟩ := List.mem_map.1 hy
          exact (H.out.ok.ok z.pl (List.mem_map.2 ⟨z, List.mem_of_mem_take hz, rfl⟩)).1
        have h3 := digits_length n (by omega)
        rw [List.length_append]
        have h4 : (((R.take j).map Rr.pl).flatMap bytesS).length = Lib.lens (((R.take j).map Rr.pl).map bytesS) := by rw [List.flatMap_def, List.length_flatten]; rfl
        rw [List.length_map, List.length_take] at h1
        omega)
      have HS := hide (refSort_any hsp (by have := hok.len; omega))
      have HOK := hide hok
      clear hp ck hxj hm hok hsp
      go_wp2_with fail
      refine HS.out.mono ?_
      rintro e w5 ⟨v5, rfl, ho5, hb5⟩
      have HP := hide (refPut_any ho5.sps (by rw [sortS_length]; have := HOK.out.len; omega) (fun y hy => by
        have h4 := (HOK.out.ok y (sortS_mem.1 hy)).1
        unfold Sp.ok at h4
        rw [Bool.and_eq_true] at h4
        have h5 := h4.2
        unfold okName at h5
        rw [Bool.and_eq_true, Bool.and_eq_true, decide_eq_true_eq, decide_eq_true_eq] at h5
        have h6 := h5.1.2
        have h7 : y.nl.length = y.n.size := by unfold Sp.nl; rfl
        omega) (putB_fo HOK.out))
      obtain ⟨q5, m5, d5, rfl⟩ := ho5.sps.sl
      have H5 := hide (And.intro (HR.out.1.trans (hb5.mono HR.out.1.size)) (HR.out.2.below hb5))
      clear ho5 hb5 HS
      go_wp2_with fail
      refine HP.out.mono ?_
      rintro e w6 ⟨v6, rfl, ho6, hb6⟩
      obtain ⟨q6, m6, d6, rfl⟩ := ho6.by_.sl
      have hcv := conv_at ho6.by_
      have HT := hide (refText_any (H5.out.2.below hb6).by_ HTL.out (str (encL (sortS x.L))) (by rw [str_size]; have := enc_len HOK.out; omega))
      have H6 := hide (H5.out.1.trans (hb6.mono H5.out.1.size))
      clear ho6 hb6 HP
      go_wp2_with fail
      refine HT.out.mono ?_
      rintro e w7 ⟨v7, rfl, ho7, hb7⟩
      obtain ⟨q7, m7, d7, rfl⟩ := ho7.by_.sl
      have H7 := hide (And.intro (H6.out.trans (hb7.mono H6.out.size)) (ho7.mono H6.out.size))
      clear ho7 hb7 HT hcv
      go_wp2
      go_roundw
      case rel =>
        refine ⟨j + 1, _, _, _, rfl, by omega, by go_num, hide ⟨H7.out.1, ?_⟩⟩
        rw [HTK.out]
        have h7 := H7.out.2
        rw [str_size, str_data, List.append_assoc, List.append_assoc] at h7
        exact h7
      case measure => simp [intOf]; omega
    · have htk : R.take j = R := List.take_of_length_le (by have := HX.out.1; omega)
      have hrr := HR.out.2
      rw [htk] at hrr
      have HO := hide hrr
      clear hrr
      go_wp2
      go_ret
      refine ⟨_, rfl, ?_, HR.out.1⟩
      unfold imgS
      rw [List.length_map, HX.out.1]
      exact HO.out
end Go.Proofs.YtfedkjaollioaaaGreat
