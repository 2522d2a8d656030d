/- All records with which bytes begin, by the program and by the document. -/
import Derived.Test.YthcakinkioniaaaLawRecs
import Derived.Maps.AppendAt
namespace Go.Proofs.Ythcakinkioniaaa
open Go.RowKit

/-- The payloads of all records with which bytes begin, and how many bytes these have. -/
def rowsL : Nat → List UInt8 → List (List UInt8) × Nat
  | 0, _ => ([], 0)
  | f + 1, b => if (pickL b).2.2 ≠ 0 then ([], 0) else ((pickL b).1 :: (rowsL f (b.drop (pickL b).2.1)).1, (pickL b).2.1 + (rowsL f (b.drop (pickL b).2.1)).2)

theorem rowsL_stop {f : Nat} {b : List UInt8} {p : List UInt8} {k e : Nat} (h : pickL b = (p, k, e)) (he : e ≠ 0) : rowsL f b = ([], 0) := by
  cases f with
  | zero => rfl
  | succ f =>
    rw [rowsL, h, if_pos he]

theorem rowsL_go {f : Nat} {b : List UInt8} {p : List UInt8} {k : Nat} (h : pickL b = (p, k, 0)) : rowsL (f + 1) b = (p :: (rowsL f (b.drop k)).1, k + (rowsL f (b.drop k)).2) := by
  rw [rowsL, h]
  simp

theorem rowsL_nil : ∀ f, rowsL f [] = ([], 0)
  | 0 => rfl
  | _ + 1 => rfl

theorem rowsL_fuel : ∀ (f g : Nat) (b : List UInt8), b.length ≤ f → b.length ≤ g → rowsL f b = rowsL g b
  | 0, g, b, hf, _ => by
    obtain rfl : b = [] := List.eq_nil_of_length_eq_zero (by omega)
    rw [rowsL_nil, rowsL_nil]
  | f + 1, 0, b, _, hg => by
    obtain rfl : b = [] := List.eq_nil_of_length_eq_zero (by omega)
    rw [rowsL_nil, rowsL_nil]
  | f + 1, g + 1, b, hf, hg => by
    obtain ⟨p, k, e, h⟩ : ∃ p k e, pickL b = (p, k, e) := ⟨_, _, _, rfl⟩
    by_cases he : e = 0
    · subst he
      have hk := (pick_len h).2.2 rfl
      rw [rowsL_go h, rowsL_go h, rowsL_fuel f g (b.drop k) (by rw [List.length_drop]; omega) (by rw [List.length_drop]; omega)]
    · rw [rowsL_stop h he, rowsL_stop h he]

/-- A value's bytes stay where another row alone is written. -/
theorem By.grown {w w' : World} {v : Value} {l : List UInt8} {row : Option Nat} (h : By w v l) (hg : w.grownBy w' row) (hne : l = [] ∨ ∀ k, v.ownBlock = some k → row ≠ some k) : By w' v l := by
  obtain ⟨p, cap, rfl, hl, hm, hn, hc⟩ := h
  refine ⟨p, cap, rfl, hl, hm, hn, fun a e i x hx => ?_⟩
  rcases hne with rfl | hne
  · simp at hx
  · subst e
    refine hg.cell (hc a rfl i x hx) ?_
    rw [block_add]
    exact fun e => hne a.block rfl e.symm

/-- Where a value's bytes lie: not in the row of v, and in a block that is there. -/
def Apart (w : World) (v u : Value) (l : List UInt8) : Prop := l = [] ∨ ∀ k, u.ownBlock = some k → v.ownBlock ≠ some k ∧ k < w.heap.size

/-- The row v of slices, made by the call: its cells' values read as the lists xs, and lie elsewhere. -/
def Gath (B : Nat) (w : World) (v : Value) (xs : List (List UInt8)) : Prop :=
  ∃ us : List Value, us.length = xs.length ∧ w.ownsRow B 22 1 v xs.length us ∧ ∀ (i : Nat) u x, us[i]? = some u → xs[i]? = some x → By w u x ∧ Apart w v u x ∧ u.oneCell' = true

theorem Gath.nil (B : Nat) (w : World) : Gath B w (.slice none 0 0) [] := ⟨[], rfl, World.ownsRow_nil _ _ _ _, fun i u x hu => by simp at hu⟩

theorem Gath.below {B : Nat} {w w' : World} {v : Value} {xs : List (List UInt8)} (h : Gath B w v xs) (hb : Below w.heap.size w w') : Gath B w' v xs := by
  obtain ⟨us, hl, ho, hu⟩ := h
  refine ⟨us, hl, row_below ho hb, fun i u x h1 h2 => ?_⟩
  obtain ⟨g1, g2, g3⟩ := hu i u x h1 h2
  refine ⟨g1.below hb, ?_, g3⟩
  rcases g2 with g2 | g2
  · exact .inl g2
  · exact .inr fun k hk => ⟨(g2 k hk).1, Nat.lt_of_lt_of_le (g2 k hk).2 hb.size⟩

theorem Gath.bss {B : Nat} {w : World} {v : Value} {xs : List (List UInt8)} (h : Gath B w v xs) : Bss w v xs := by
  obtain ⟨us, hl, ho, hu⟩ := h
  rcases ho.2 with ⟨rfl, h0⟩ | ⟨g, cap, cur, rfl, hB, hg, hlc, hm, hs, ht⟩
  · obtain rfl : xs = [] := List.eq_nil_of_length_eq_zero h0
    exact Bss.nil w
  · refine Bss.of_parts (o := 0) rfl hlc hm hl (fun i u hi => ?_) fun i u x h1 h2 => (hu i u x h1 h2).1
    have := ho.cells (g := g) rfl i u hi
    rwa [add_lit0] at this

theorem Try.info22 : (Try.prog.info? 22).map (fun i => (i.zero, i.size, i.bytes)) = some (some (.slice none 0 0), 1, 24) := by kernel_rfl

/-- One more: 'rows = append(rows, p)'. -/
theorem run_gather {B : Nat} {w : World} {v : Value} {xs : List (List UInt8)} (h : Gath B w v xs) {q : Option Addr} {m c : Nat} {x : List UInt8} (hx : By w (.slice q m c) x) (hap : Apart w v (.slice q m c) x) (hB : B ≤ w.heap.size) (hs : xs.length ≤ 1000000) :
    ∃ v' w', (Builtin.append_ #[30, 30] 30 #[v, .slice (some ⟨w.heap.size, 0, none⟩) 1 1]).run Try.prog (w.alloc (.cells #[.slice q m c] 22)) = .ok v' w' ∧ Gath B w' v' (xs ++ [x]) ∧ Below B w w' := by
  obtain ⟨us, hl, ho, hu⟩ := h
  obtain ⟨i0, hi0, hz0, hz1, hz2⟩ := info_parts Try.info22
  have hlt := ho.lt
  have ho' := ho.alloc (.cells #[.slice q m c] 22)
  obtain ⟨v', w', hr, h1, h2, _, h4⟩ := run_append_own_at (P := Try.prog) (w.alloc (.cells #[.slice q m c] 22)) B 30 30 22 i0 (.slice none 0 0) 1 24 Try.underlying30 hi0 hz0 hz1 hz2 rfl (by decide) v xs.length us ho' ⟨w.heap.size, 0, none⟩ 1 1 [.slice q m c] rfl
    (cell_new1 _ _ _) (fun u hu => by simp at hu; subst hu; rfl) (by simp only [maxLen]; omega) (by omega) (by simp; omega)
  have hb0 : Below B w (w.alloc (.cells #[.slice q m c] 22)) := (Below.refl _ _).alloc hB _
  refine ⟨v', w', hr, ⟨us ++ [.slice q m c], by simp [hl], by simpa using h1, fun i u y hi hy => ?_⟩, hb0.grown h2 (by simp; omega) fun k hk => (ho.lt k hk).1⟩
  have key : ∀ (u : Value) (y : List UInt8), By w u y → Apart w v u y → By w' u y ∧ Apart w' v' u y := fun u y hb ha => by
    refine ⟨(hb.alloc _).grown h2 ?_, ?_⟩
    · rcases ha with rfl | ha
      · exact .inl rfl
      · exact .inr fun k hk => (ha k hk).1
    · rcases ha with rfl | ha
      · exact .inl rfl
      · refine .inr fun k hk => ⟨?_, ?_⟩
        · obtain ⟨n1, n2⟩ := ha k hk
          rcases h4 with e | e
          · rw [e]
            exact n1
          · rw [e]
            intro e2
            injection e2 with e2
            rw [size_alloc'] at e2
            omega
        · have := h2.size
          rw [size_alloc'] at this
          have := (ha k hk).2
          omega
  by_cases hil : i < us.length
  · rw [List.getElem?_append_left hil] at hi
    rw [List.getElem?_append_left (by omega)] at hy
    obtain ⟨g1, g2, g3⟩ := hu i u y hi hy
    obtain ⟨k1, k2⟩ := key u y g1 g2
    exact ⟨k1, k2, g3⟩
  · have hi1 : i = us.length := by
      have := (List.getElem?_eq_some_iff.1 hi).1
      simp at this
      omega
    subst hi1
    rw [List.getElem?_append_right (Nat.le_refl _), Nat.sub_self] at hi
    rw [hl, List.getElem?_append_right (Nat.le_refl _), Nat.sub_self] at hy
    simp at hi hy
    subst hi hy
    obtain ⟨k1, k2⟩ := key _ _ hx hap
    exact ⟨k1, k2, rfl⟩

theorem wpList_gather {w : World} {ops : Array Oper} {rest : List Oper} {o : Oper} {a : Act} {Q : Exit → Act → World → Prop} (hgd : o.guard = none) (s t : Operand)
    (ho : o.op = .call { callee := .builtin .append, args := #[s, t], argTypes := #[30, 30] }) (hty : o.type = 30) {B : Nat} {v : Value} {xs : List (List UInt8)} {q : Option Addr} {m c : Nat} {x : List UInt8}
    (hs : a.eval s = v) (ht : a.eval t = .slice (some ⟨w.heap.size, 0, none⟩) 1 1) (h : Gath B w v xs) (hx : By w (.slice q m c) x) (hap : Apart w v (.slice q m c) x) (hB : B ≤ w.heap.size) (hn : xs.length ≤ 1000000)
    (hK : ∀ v' w', Gath B w' v' (xs ++ [x]) → Below B w w' → wpList Try.prog ops Q rest (a.put o.dst v') w') : wpList Try.prog ops Q (o :: rest) a (w.alloc (.cells #[.slice q m c] 22)) := by
  obtain ⟨v', w', hr, h1, h2⟩ := run_gather h hx hap hB hn
  exact Lib.wpList_append_run_sl _ hgd s t 30 ho v _ hs ht (by rw [hty]; exact hr) (hK v' w' h1 h2)

/-- What a row of picks leaves. -/
def RowsPost (w : World) (R : List (List UInt8)) (Z : Nat) (e : Ending) (w' : World) : Prop :=
  ∃ v, e = .returned (.tuple #[v, .int .i64 Z]) ∧ Bss w' v R ∧ Below w.heap.size w w'

theorem pick_drop {l : List UInt8} {a : Nat} {p : List UInt8} {k : Nat} (h : pickL (l.drop a) = (p, k, 0)) : 0 < k ∧ a + k ≤ l.length := by
  obtain ⟨_, h2, h3⟩ := pick_len h
  rw [List.length_drop] at h2
  have := h3 rfl
  omega

set_option maxRecDepth 200000 in
set_option maxHeartbeats 2000000 in
/-- wire.Rows. -/
theorem wireRows_any {w : World} {v : Value} {l : List UInt8} (hv : By w v l) (hl : l.length ≤ 1000000) {R : List (List UInt8)} {Z : Nat} (hR : rowsL l.length l = (R, Z)) :
    Calls Try.prog 31 #[v] w (RowsPost w R Z) := by
  obtain ⟨p, n, c, rfl⟩ := hv.sl
  obtain ⟨hn, hnc⟩ := hv.len
  have hmm := hv.lenMax
  have HV := hide hv
  have HN := hide hn
  have HR := hide hR
  clear hv hn hR
  go_enter Try.func31, Try.ntmps31
  go_wp2
  go_loopw [4, 5, 6, 7, 8, 9] (fun v a _ _ _ _ wr => ∃ (k : Nat) (xs : List (List UInt8)), k ≤ n ∧ a = .int .i64 k ∧ Gath w.heap.size wr v xs ∧ xs.length ≤ k ∧ Below w.heap.size w wr ∧ R = xs ++ (rowsL (n - k) (l.drop k)).1 ∧ Z = k + (rowsL (n - k) (l.drop k)).2)
    (fun _ a _ _ _ _ _ => n - (intOf a).toNat)
  case atStart => exact ⟨0, [], by omega, rfl, Gath.nil _ _, by simp, Below.refl _ _, by rw [Nat.sub_zero, List.drop_zero, HN.out, HR.out]; rfl, by rw [Nat.sub_zero, List.drop_zero, HN.out, HR.out, Nat.zero_add]⟩
  case round =>
    obtain ⟨k, xs, hk, rfl, hga, hxk, hb, hr1, hr2⟩ := hrel
    have HG := hide hga
    have H1 := hide hr1
    have H2 := hide hr2
    have hbs := hb.size
    obtain ⟨q, hcut, hF⟩ := cut_from (HV.out.below hb) hk
    obtain ⟨m1, hm1⟩ : ∃ m1, n - k = m1 := ⟨_, rfl⟩
    obtain ⟨d1, hd1⟩ : ∃ d1, c - k = d1 := ⟨_, rfl⟩
    rw [hm1, hd1] at hF
    simp only [hm1, hd1] at hcut
    have hki : (k : Int) ≤ (n : Int) := by omega
    have HM1 := hide hm1
    clear hga hr1 hr2 hm1 hd1
    obtain ⟨P, K, E, hP⟩ : ∃ P K E, pickL (l.drop k) = (P, K, E) := ⟨_, _, _, rfl⟩
    go_wp2_with fail
    refine (wirePick_any hF hP).mono ?_
    rintro e w2 ⟨v2, rfl, ho2, hb2⟩
    have hG2 := HG.out.below hb2
    have hbw2 := hb.trans (hb2.mono hbs)
    have hbs2 := hbw2.size
    by_cases hE : E ≠ 0
    · have g1 : ((E : Int) != 0) = true := by simp; omega
      have hst : rowsL m1 (l.drop k) = ([], 0) := rowsL_stop hP hE
      have e1 : R = xs := by rw [H1.out, HM1.out, hst, List.append_nil]
      have e2 : Z = k := by rw [H2.out, HM1.out, hst]; rfl
      subst e1 e2
      have HB := hide hG2.bss
      clear hst hP hE hG2 HG H1 H2 ho2 hF hcut
      go_wp2
      go_ret2
      exact ⟨_, rfl, HB.out, hbw2⟩
    · obtain rfl : E = 0 := by omega
      obtain ⟨p2, n2, c2, rfl⟩ := ho2.by_.sl
      obtain ⟨hK0, hKl⟩ := pick_drop hP
      have hkK : k + K ≤ n := by have := HN.out; omega
      have hap : Apart w2 u4 (.slice p2 n2 c2) P := by
        rcases ho2 with ⟨e, rfl⟩ | ⟨g, cap, e, hBg, hPl, hm, hc2, hs2, hf2⟩
        · exact .inl rfl
        · by_cases h0 : P = []
          · exact .inl h0
          · refine .inr fun j hj => ?_
            injection e with e1 _ e3
            subst e1 e3
            simp only [Value.ownBlock, Option.some.injEq] at hj
            subst hj
            have hPp : 0 < P.length := List.length_pos_iff.2 h0
            refine ⟨fun h => ?_, lt_of_cell (hc2 0 P[0] (List.getElem?_eq_getElem hPp))⟩
            obtain ⟨us, _, hou, _⟩ := HG.out
            have := (hou.lt g h).2
            omega
      have hgo := rowsL_go (f := n - k - 1) hP
      have e0 : n - k - 1 + 1 = n - k := by omega
      rw [e0, List.drop_drop, HM1.out] at hgo
      rw [rowsL_fuel (m1 - 1) (n - (k + K)) (l.drop (k + K)) (by have := HN.out; have := HM1.out; rw [List.length_drop]; omega) (by have := HN.out; rw [List.length_drop]; omega)] at hgo
      have e1 : R = (xs ++ [P]) ++ (rowsL (n - (k + K)) (l.drop (k + K))).1 := by
        rw [H1.out, HM1.out, hgo]
        simp
      have e2 : Z = (k + K) + (rowsL (n - (k + K)) (l.drop (k + K))).2 := by
        rw [H2.out, HM1.out, hgo]
        simp
        omega
      have hxl : (xs ++ [P]).length ≤ k + K := by simp; omega
      have HP2 := hide ho2.by_
      have HAP := hide hap
      have HG2 := hide hG2
      have E1 := hide e1
      have E2 := hide e2
      clear hgo e0 e1 e2 hap ho2 hG2 hP hE hF hcut HG H1 H2
      go_wp2_with (at_builtin; go_must (refine wpList_gather (v := u4) rfl _ _ rfl rfl rfl rfl HG2.out HP2.out HAP.out hbs2 (by omega) ?_); intro v3 w3 hg3 hb3)
      have hb03 := hbw2.trans hb3
      go_roundw
      case rel => exact ⟨k + K, xs ++ [P], hkK, by go_num, hg3, hxl, hb03, E1.out, E2.out⟩
      case measure => simp [intOf]; omega
set_option maxRecDepth 200000 in
set_option maxHeartbeats 2000000 in
/-- The document's Rows. -/
theorem refRows_any {w : World} {v : Value} {l : List UInt8} (hv : By w v l) (hl : l.length ≤ 1000000) {R : List (List UInt8)} {Z : Nat} (hR : rowsL l.length l = (R, Z)) :
    Calls Try.prog 32 #[v] w (RowsPost w R Z) := by
  obtain ⟨p, n, c, rfl⟩ := hv.sl
  obtain ⟨hn, hnc⟩ := hv.len
  have hmm := hv.lenMax
  have HV := hide hv
  have HN := hide hn
  have HR := hide hR
  clear hv hn hR
  go_enter Try.func32, Try.ntmps32
  go_wp2
  go_loopw [4, 5, 6, 7, 8, 9] (fun v a _ _ _ _ wr => ∃ (k : Nat) (xs : List (List UInt8)), k ≤ n ∧ a = .int .i64 k ∧ Gath w.heap.size wr v xs ∧ xs.length ≤ k ∧ Below w.heap.size w wr ∧ R = xs ++ (rowsL (n - k) (l.drop k)).1 ∧ Z = k + (rowsL (n - k) (l.drop k)).2)
    (fun _ a _ _ _ _ _ => n - (intOf a).toNat)
  case atStart => exact ⟨0, [], by omega, rfl, Gath.nil _ _, by simp, Below.refl _ _, by rw [Nat.sub_zero, List.drop_zero, HN.out, HR.out]; rfl, by rw [Nat.sub_zero, List.drop_zero, HN.out, HR.out, Nat.zero_add]⟩
  case round =>
    obtain ⟨k, xs, hk, rfl, hga, hxk, hb, hr1, hr2⟩ := hrel
    have HG := hide hga
    have H1 := hide hr1
    have H2 := hide hr2
    have hbs := hb.size
    obtain ⟨q, hcut, hF⟩ := cut_from (HV.out.below hb) hk
    obtain ⟨m1, hm1⟩ : ∃ m1, n - k = m1 := ⟨_, rfl⟩
    obtain ⟨d1, hd1⟩ : ∃ d1, c - k = d1 := ⟨_, rfl⟩
    rw [hm1, hd1] at hF
    simp only [hm1, hd1] at hcut
    have hki : (k : Int) ≤ (n : Int) := by omega
    have HM1 := hide hm1
    clear hga hr1 hr2 hm1 hd1
    obtain ⟨P, K, E, hP⟩ : ∃ P K E, pickL (l.drop k) = (P, K, E) := ⟨_, _, _, rfl⟩
    go_wp2_with fail
    refine (refPick_any hF hP).mono ?_
    rintro e w2 ⟨v2, rfl, ho2, hb2⟩
    have hG2 := HG.out.below hb2
    have hbw2 := hb.trans (hb2.mono hbs)
    have hbs2 := hbw2.size
    by_cases hE : E ≠ 0
    · have g1 : ((E : Int) != 0) = true := by simp; omega
      have hst : rowsL m1 (l.drop k) = ([], 0) := rowsL_stop hP hE
      have e1 : R = xs := by rw [H1.out, HM1.out, hst, List.append_nil]
      have e2 : Z = k := by rw [H2.out, HM1.out, hst]; rfl
      subst e1 e2
      have HB := hide hG2.bss
      clear hst hP hE hG2 HG H1 H2 ho2 hF hcut
      go_wp2
      go_ret2
      exact ⟨_, rfl, HB.out, hbw2⟩
    · obtain rfl : E = 0 := by omega
      obtain ⟨p2, n2, c2, rfl⟩ := ho2.by_.sl
      obtain ⟨hK0, hKl⟩ := pick_drop hP
      have hkK : k + K ≤ n := by have := HN.out; omega
      have hap : Apart w2 u4 (.slice p2 n2 c2) P := by
        rcases ho2 with ⟨e, rfl⟩ | ⟨g, cap, e, hBg, hPl, hm, hc2, hs2, hf2⟩
        · exact .inl rfl
        · by_cases h0 : P = []
          · exact .inl h0
          · refine .inr fun j hj => ?_
            injection e with e1 _ e3
            subst e1 e3
            simp only [Value.ownBlock, Option.some.injEq] at hj
            subst hj
            have hPp : 0 < P.length := List.length_pos_iff.2 h0
            refine ⟨fun h => ?_, lt_of_cell (hc2 0 P[0] (List.getElem?_eq_getElem hPp))⟩
            obtain ⟨us, _, hou, _⟩ := HG.out
            have := (hou.lt g h).2
            omega
      have hgo := rowsL_go (f := n - k - 1) hP
      have e0 : n - k - 1 + 1 = n - k := by omega
      rw [e0, List.drop_drop, HM1.out] at hgo
      rw [rowsL_fuel (m1 - 1) (n - (k + K)) (l.drop (k + K)) (by have := HN.out; have := HM1.out; rw [List.length_drop]; omega) (by have := HN.out; rw [List.length_drop]; omega)] at hgo
      have e1 : R = (xs ++ [P]) ++ (rowsL (n - (k + K)) (l.drop (k + K))).1 := by
        rw [H1.out, HM1.out, hgo]
        simp
      have e2 : Z = (k + K) + (rowsL (n - (k + K)) (l.drop (k + K))).2 := by
        rw [H2.out, HM1.out, hgo]
        simp
        omega
      have hxl : (xs ++ [P]).length ≤ k + K := by simp; omega
      have HP2 := hide ho2.by_
      have HAP := hide hap
      have HG2 := hide hG2
      have E1 := hide e1
      have E2 := hide e2
      clear hgo e0 e1 e2 hap ho2 hG2 hP hE hF hcut HG H1 H2
      go_wp2_with (at_builtin; go_must (refine wpList_gather (v := u4) rfl _ _ rfl rfl rfl rfl HG2.out HP2.out HAP.out hbs2 (by omega) ?_); intro v3 w3 hg3 hb3)
      have hb03 := hbw2.trans hb3
      go_roundw
      case rel => exact ⟨k + K, xs ++ [P], hkK, by go_num, hg3, hxl, hb03, E1.out, E2.out⟩
      case measure => simp [intOf]; omega
end Go.Proofs.Ythcakinkioniaaa
