/- Several texts made one. -/
import Derived.Test.YtgbdjcekpdfpjaaGreatDoorVh
import Derived.SizedLaws
/- How long the bytes of a piece can be: its weight. -/
namespace Go.Proofs.YtgbdjcekpdfpjaaGreatDoor
set_option linter.unusedVariables false
set_option linter.unusedSimpArgs false
open Go.RowKit

theorem vweightsAll_mem {H : Type} {P : Program} {e : TypeId} : ∀ {l : List (DataW H)} {d : DataW H}, d ∈ l → ∀ n ∈ d.weights P e, n ∈ DataW.weightsAll P e l
  | d' :: r, d, hd, n, hn => by
    simp only [DataW.weightsAll, List.mem_append]
    rcases List.mem_cons.1 hd with rfl | h
    · exact Or.inl hn
    · exact Or.inr (vweightsAll_mem h n hn)
theorem by_size {H : Type} {enc : TypeId × Value → H} {W : World} {fuel : Nat} {p : Option Addr} {n c : Nat} {x : DataW H × List MemPlace}
    (h : DataW.trod enc Tryz.prog W 0 (fun _ => true) true fuel 40 [.slice p n c] = some x) (hz : ∀ m ∈ x.1.weights Tryz.prog 40, m ≤ reachBytes) : n ≤ 140737488351232 := by
  have hbz : 1 ≤ Tryz.prog.bytesOf 5 := by decide +kernel
  rcases DataW.trod_slice Tryz.underlying40 h with ⟨hcs, _⟩ | ⟨a, len', cap', elems, rest, n1, hx0, hcs, hd, -, hl, hm, hel, hx, -, -⟩
  · injection hcs with hcs
    injection hcs with _ hcs _
    omega
  · injection hcs with hcs
    injection hcs with _ hcs _
    subst hd
    have := hz ((elems.length + rest.length) * Tryz.prog.bytesOf 5) (by simp only [DataW.weights, Tryz.underlying40, List.mem_cons, List.length_map]; exact .inl trivial)
    unfold reachBytes at this
    have h2 : elems.length + rest.length ≤ (elems.length + rest.length) * Tryz.prog.bytesOf 5 := Nat.le_mul_of_pos_right _ (by omega)
    omega
set_option maxRecDepth 200000 in
theorem pt_size {H : Type} {enc : TypeId × Value → H} {W : World} {cs : List Value} {fuel : Nat} {x : DataW H × List MemPlace} (hcs : cs.length = 5)
    (h : DataW.trod enc Tryz.prog W 0 (fun _ => true) true fuel 79 cs = some x) (hz : ∀ m ∈ x.1.weights Tryz.prog 79, m ≤ reachBytes) {p : Option Addr} {n c : Nat} (h3 : cs[3]? = some (.slice p n c)) : n ≤ 140737488351232 := by
  obtain ⟨xs, n0, -, hd1, -, hxl, hx⟩ := DataW.trod_struct Tryz.underlying79 h
  obtain ⟨c0, c1, c2, c3, c4, rfl⟩ : ∃ c0 c1 c2 c3 c4, cs = [c0, c1, c2, c3, c4] := by
    rcases cs with _ | ⟨c0, _ | ⟨c1, _ | ⟨c2, _ | ⟨c3, _ | ⟨c4, _ | ⟨c5, r⟩⟩⟩⟩⟩⟩
    all_goals first | (exfalso; simp at hcs; done) | exact ⟨_, _, _, _, _, rfl⟩
  obtain ⟨y0, y1, y2, y3, y4, rfl⟩ : ∃ y0 y1 y2 y3 y4, xs = [y0, y1, y2, y3, y4] := by
    rcases xs with _ | ⟨c0, _ | ⟨c1, _ | ⟨c2, _ | ⟨c3, _ | ⟨c4, _ | ⟨c5, r⟩⟩⟩⟩⟩⟩
    all_goals first | (exfalso; simp at hxl; done) | exact ⟨_, _, _, _, _, rfl⟩
  have q3 : DataW.trod enc Tryz.prog W 0 (fun _ => true) true n0 40 (List.take (Tryz.prog.cellsOf 40) [c3, c4]) = some y3 := hx 3 _ rfl
  rw [Tryz.cellsBys] at q3
  obtain rfl : c3 = .slice p n c := by simpa using h3
  refine by_size (show DataW.trod enc Tryz.prog W 0 (fun _ => true) true n0 40 [.slice p n c] = _ from q3) fun m hm => hz m ?_
  subst hd1
  simp only [DataW.weights, Tryz.underlying79]
  exact DataW.weights_mem_each (j := 3) (t := 40) (by rfl) (by rfl) m hm
theorem pts_size {H : Type} {enc : TypeId × Value → H} {W : World} {v : Value} {d0 : DataW H} {p0 : List MemPlace} {D : List Dpt} (hD : Dpts W v D)
    (h : DataW.Trod enc Tryz.prog W 0 (fun _ => true) true 77 v d0 p0) (hz : ∀ m ∈ d0.weights Tryz.prog 77, m ≤ reachBytes) : ∀ (k : Nat) d, D[k]? = some d → d.b.length ≤ 140737488351232 := by
  obtain ⟨p, c, rfl, h1, h2, h3⟩ := hD
  obtain ⟨fuel, hf⟩ := h
  intro k d hk
  have hkl := (List.getElem?_eq_some_iff.1 hk).1
  rcases DataW.trod_slice Tryz.underlying77 hf with ⟨hcs, _⟩ | ⟨a, len', cap', elems, rest, n, hx0, hcs, hd, -, hl, hm, hel, hx, -, -⟩
  · simp only [Value.cells, List.cons.injEq, Value.slice.injEq] at hcs
    omega
  · simp only [Value.cells, List.cons.injEq, Value.slice.injEq] at hcs
    obtain ⟨⟨rfl, rfl, rfl⟩, -⟩ := hcs
    rw [Tryz.cellsPt] at hx
    have g1 := hx k hkl
    rw [List.getElem?_eq_getElem (by omega)] at g1
    obtain ⟨cs, g2, g3⟩ := Option.bind_eq_some_iff.1 g1
    obtain ⟨hb, hcl, hcell⟩ := World.cells?_some g2
    obtain ⟨g, o, e, hin, hc⟩ := h3 k d hk
    injection e with e
    subst e
    have h4 := hcell 3 (by omega)
    rw [add_lit0, add_lit0, hc 3 _ rfl] at h4
    have := pt_size hcl g3 (fun m hm => hz m (by
      have he : d0 = .slice (elems.map (·.1)) (rest.map (·.1)) := (Prod.ext_iff.1 hd).1
      rw [he]
      simp only [DataW.weights, Tryz.underlying77, List.mem_cons, List.mem_append]
      exact .inr (.inl (vweightsAll_mem (List.mem_map.2 ⟨elems[k]'(by omega), List.getElem_mem _, rfl⟩) m hm)))) h4.symm
    have hb' := hin.h3.len.1
    omega
end Go.Proofs.YtgbdjcekpdfpjaaGreatDoor
/- An intake: Have, Take, and the document's Take. -/
namespace Go.Proofs.YtgbdjcekpdfpjaaGreatDoor
set_option linter.unusedVariables false
set_option linter.unusedSimpArgs false
open Go.RowKit

theorem vown_lit0 (w : World) : Own w.heap.size (w.alloc (.cells #[] 5)) (.slice (some ⟨w.heap.size, 0, none⟩) 0 0) [] :=
  .inr ⟨w.heap.size, 0, rfl, Nat.le_refl _, Nat.le_refl _, by simp [maxLen], by simp, fun i h => by omega, fun i h => by omega⟩
/-- A byte of one's own is set. -/
theorem vown_set {B : Nat} {w : World} {p : Option Addr} {n c : Nat} {l : List UInt8} (h : Own B w (.slice p n c) l) {j : Nat} (hj : j < n) :
    ∃ (g : Nat) (y : UInt8), p = some ⟨g, 0, none⟩ ∧ B ≤ g ∧ w.cell? ⟨g, j, none⟩ = some (.int .u8 (y.toNat : Int)) ∧ w.frozen? ⟨g, j, none⟩ = false ∧ ∃ l' : List UInt8, l'.length = l.length ∧ Own B (w.setCell ⟨g, j, none⟩ (.int .u8 (bits BinOp.xor IntKind.u8 (y.toNat : Int) 255))) (.slice p n c) l' := by
  obtain ⟨g, y, h1, h2, h3, h4, h5, h6⟩ := Own.cellAt h hj
  have hx : ∃ u : UInt8, bits BinOp.xor IntKind.u8 (y.toNat : Int) 255 = (u.toNat : Int) := by
    have key : ∀ z : Fin 256, bits BinOp.xor IntKind.u8 (z.val : Int) 255 = ((UInt8.ofNat (255 - z.val)).toNat : Int) := by decide +kernel
    exact ⟨_, key ⟨y.toNat, y.toNat_lt⟩⟩
  obtain ⟨u, hu⟩ := hx
  refine ⟨g, y, h1, h2, h4, h5, l.set j u, by simp, ?_⟩
  rw [hu]
  exact h6 u
theorem vown_chg {B : Nat} {w w' : World} {T : Nat → Prop} {v : Value} {l : List UInt8} (h : Own B w v l) (hc : Chg w w' T) (hne : ∀ k, v.ownBlock = some k → ¬ T k) : Own B w' v l := by
  rcases h with h | ⟨g, cap, rfl, hB, hl, hm, h1, h2, h3⟩
  · exact .inl h
  · by_cases h0 : cap = 0
    · subst h0
      exact .inr ⟨g, 0, rfl, hB, hl, hm, fun i x hx => by simp at hl; subst hl; simp at hx, fun i hi => by omega, fun i hi => by omega⟩
    · obtain ⟨u, hu⟩ := Option.isSome_iff_exists.1 (h2 0 (by omega))
      have hg := lt_of_cell hu
      have hb := hc.block g hg (hne g rfl)
      exact .inr ⟨g, cap, rfl, hB, hl, hm, fun i x hx => hc.cell (h1 i x hx) (hne g rfl), fun i hi => by
        obtain ⟨u, hu⟩ := Option.isSome_iff_exists.1 (h2 i hi)
        rw [hc.cell hu (hne g rfl)]
        rfl, fun i hi => by have := h3 i hi; unfold World.frozen? at this ⊢; simp only [hb]; exact this⟩
theorem vown_ge {B : Nat} {w : World} {v : Value} {l : List UInt8} (h : Own B w v l) : ∀ k, v.ownBlock = some k → B ≤ k := by
  intro k hk
  rcases h with ⟨rfl, _⟩ | ⟨g, cap, rfl, hB, _⟩
  · cases hk
  · injection hk with hk
    dsimp only at hk
    omega
/-- The law of append, and where the new row lies. -/
theorem wpList_append_by2 {w : World} {ops : Array Oper} {rest : List Oper} {o : Oper} {a : Act} {Q : Exit → Act → World → Prop} (hgd : o.guard = none) (s x : Operand)
    (ho : o.op = .call { callee := .builtin .append, args := #[s, x], argTypes := #[40, 40] }) (hty : o.type = 40) {B : Nat} {v y : Value} {l m : List UInt8}
    (hs : a.eval s = v) (hy : a.eval x = y) (hv : Own B w v l) (hx : By w y m) (hl : l.length + m.length ≤ 140737488355328) (hB : B ≤ w.heap.size) (hlt : ∀ k, v.ownBlock = some k → k < w.heap.size)
    (h : ∀ v' w', Own B w' v' (l ++ m) → w.grownBy w' v.ownBlock → Below B w w' → (∀ k, v'.ownBlock = some k → (v.ownBlock = some k ∨ w.heap.size ≤ k) ∧ k < w'.heap.size) → wpList Tryz.prog ops Q rest (a.put o.dst v') w') : wpList Tryz.prog ops Q (o :: rest) a w := by
  by_cases hm : m = []
  · subst hm
    obtain ⟨p, c, rfl, _⟩ := hx
    have hr := run_append_empty hv p c
    exact Lib.wpList_append_run_sl w hgd s x 40 ho v _ hs hy (by rw [hty]; exact hr) (h v w (by simpa using hv) (World.grownBy.refl w _) (Below.refl _ _) fun k hk => ⟨.inl hk, hlt k hk⟩)
  · refine wpList_append_by hgd s x ho hty hs hy hv hx hl hB fun v' w' h1 h2 h3 h4 => h v' w' h1 h2 h3 fun k hk => ⟨h4 k hk, (h1.lt (by have := List.length_pos_iff.2 hm; simp; omega) k hk).2⟩
theorem set3 {W : World} {g : Nat} {t : TypeId} {a b c : Value} (x0 x1 x2 : Value) (h : W.heap[g]? = some (.cells #[a, b, c] t (0, 0))) :
    (((W.setCell ⟨g, 0, none⟩ x0).setCell ⟨g, 1, none⟩ x1).setCell ⟨g, 2, none⟩ x2).heap[g]? = some (.cells #[x0, x1, x2] t (0, 0)) ∧
    Chg W (((W.setCell ⟨g, 0, none⟩ x0).setCell ⟨g, 1, none⟩ x1).setCell ⟨g, 2, none⟩ x2) (fun k => k = g) := by
  have h1 := heap_setCell_same W g 0 _ t x0 h
  have h2 := heap_setCell_same _ g 1 _ t x1 h1
  have h3 := heap_setCell_same _ g 2 _ t x2 h2
  exact ⟨h3.trans rfl, ((chg_set _ _ _ _).then (chg_set _ _ _ _) (fun k h => .inl h)).then (chg_set _ _ _ _) (fun k h => .inl h)⟩
theorem set3_2 {W : World} {g : Nat} {t : TypeId} {a b c : Value} (x2 : Value) (h : W.heap[g]? = some (.cells #[a, b, c] t (0, 0))) :
    (W.setCell ⟨g, 2, none⟩ x2).heap[g]? = some (.cells #[a, b, x2] t (0, 0)) ∧ Chg W (W.setCell ⟨g, 2, none⟩ x2) (fun k => k = g) :=
  ⟨(heap_setCell_same W g 2 _ t x2 h).trans rfl, chg_set _ _ _ _⟩

/-- An intake. -/
structure It where
  ix : Int
  tm : Int
  da : List UInt8
/-- What a piece at its place does. -/
def It.put (x : It) (b : List UInt8) (d : Bool) : It × List UInt8 × Bool × Nat :=
  if 262144 < x.da.length + b.length then (x, [], false, 4)
  else if d then (⟨0, 0, []⟩, x.da ++ b, true, 0) else (⟨x.ix, x.tm, x.da ++ b⟩, [], false, 0)
def It.have_ (x : It) (ix tm : Int) : Nat := if x.ix = ix ∧ x.tm = tm then x.da.length else 0
def It.take (x : It) (ix tm at_ : Int) (b : List UInt8) (d : Bool) : It × List UInt8 × Bool × Nat :=
  if at_ = 0 then It.put ⟨ix, tm, []⟩ b d else if (x.have_ ix tm : Int) = at_ then x.put b d else (x, [], false, 61)
theorem It.put_le (x : It) (b : List UInt8) (d : Bool) (h : x.da.length ≤ 262144) : (x.put b d).1.da.length ≤ 262144 := by
  unfold It.put; split
  · exact h
  · split
    · simp
    · simp; omega
theorem It.take_le (x : It) (ix tm at_ : Int) (b : List UInt8) (d : Bool) (h : x.da.length ≤ 262144) : (x.take ix tm at_ b d).1.da.length ≤ 262144 := by
  unfold It.take; split
  · exact It.put_le _ b d (by simp)
  · split
    · exact It.put_le _ b d h
    · exact h

/-- It in memory. -/
structure Itk (w : World) (g : Nat) (T : TypeId) (v : Value) (x : It) : Prop where
  row : w.heap[g]? = some (.cells #[.int .i64 x.ix, .int .i64 x.tm, v] T (0, 0))
  own : Own 0 w v x.da
  ne : v.ownBlock ≠ some g
  le : x.da.length ≤ 262144
  lt : ∀ k, v.ownBlock = some k → k < w.heap.size
theorem Itk.chg {w w' : World} {g : Nat} {T : TypeId} {v : Value} {x : It} (h : Itk w g T v x) {S : Nat → Prop} (hc : Chg w w' S) (h1 : ¬ S g) (h2 : ∀ k, v.ownBlock = some k → ¬ S k) : Itk w' g T v x :=
  ⟨(hc.block g (Array.getElem?_eq_some_iff.1 h.row).1 h1).trans h.row, vown_chg h.own hc h2, h.ne, h.le, fun k hk => Nat.lt_of_lt_of_le (h.lt k hk) hc.size⟩
/-- What is new belongs to it: the world that comes is changed only there. -/
def TkP (w : World) (g : Nat) (T : TypeId) (v : Value) (r : It × List UInt8 × Bool × Nat) (e : Ending) (w' : World) : Prop :=
  ∃ v' yv, e = .returned (.tuple #[yv, .bool r.2.2.1, .int .i64 (r.2.2.2 : Nat)]) ∧ Itk w' g T v' r.1 ∧ Own 0 w' yv r.2.1 ∧ Chg w w' (fun k => k = g ∨ v.ownBlock = some k) ∧
    (∀ k, v'.ownBlock = some k → v.ownBlock = some k ∨ w.heap.size ≤ k) ∧ (∀ k, yv.ownBlock = some k → (v.ownBlock = some k ∨ w.heap.size ≤ k) ∧ k < w'.heap.size ∧ v' = .slice none 0 0)

theorem vhave_any {w : World} {g : Nat} {v : Value} {x : It} (h : Itk w g 70 v x) (ix tm : Int) :
    Calls Tryz.prog 37 #[.pointer (some ⟨g, 0, none⟩), .int .i64 ix, .int .i64 tm] w fun e w' => e = .returned (.int .i64 (x.have_ ix tm : Nat)) ∧ w' = w := by
  have z0 : w.cell? ⟨g, 0, none⟩ = some (.int .i64 x.ix) := by rw [cell_of_row w _ 0 _ _ (0, 0) h.row]; rfl
  have z1 : w.cell? ⟨g, 1, none⟩ = some (.int .i64 x.tm) := by rw [cell_of_row w _ 1 _ _ (0, 0) h.row]; rfl
  have z2 : w.cell? ⟨g, 2, none⟩ = some v := by rw [cell_of_row w _ 2 _ _ (0, 0) h.row]; rfl
  obtain ⟨p, n, c, rfl⟩ := h.own.by_.sl
  have hn : n = x.da.length := h.own.by_.len.1
  have HN := hide hn
  clear h hn
  by_cases h1 : x.ix = ix
  · have f1 : decide (x.ix = ix) = true := decide_eq_true h1
    by_cases h2 : x.tm = tm
    · have HR := hide (show x.have_ ix tm = n by unfold It.have_; rw [if_pos ⟨h1, h2⟩]; exact HN.out.symm)
      have HX := hide (And.intro h1 h2)
      subst h1 h2
      clear HX
      go_enter Tryz.func37, Tryz.ntmps37
      go_wp2
      go_ret
      exact ⟨by rw [HR.out]; rfl, rfl⟩
    · have HR := hide (show x.have_ ix tm = 0 by unfold It.have_; rw [if_neg (fun h => h2 h.2)])
      subst h1
      go_enter Tryz.func37, Tryz.ntmps37
      go_wp2
      go_ret
      exact ⟨by rw [HR.out]; rfl, rfl⟩
  · have HR := hide (show x.have_ ix tm = 0 by unfold It.have_; rw [if_neg (fun h => h1 h.1)])
    go_enter Tryz.func37, Tryz.ntmps37
    go_wp2
    go_ret
    exact ⟨by rw [HR.out]; rfl, rfl⟩

def Vok (v1 v : Value) : Prop := v1 = v ∨ v1 = .slice none 0 0
/-- The tail of Take: from the place where the piece fits in its row. -/
theorem tkp_long {w F : World} {g : Nat} {T : TypeId} {v v1 : Value} {x : It} {b : List UInt8} {d : Bool} (h : Itk F g T v1 x) (hc : Chg w F (fun k => k = g)) (h1 : Vok v1 v) (hl : 262144 < x.da.length + b.length) :
    TkP w g T v (x.put b d) (.returned (.tuple #[.slice none 0 0, .bool false, .int .i64 4])) F := by
  have ep : x.put b d = (x, [], false, 4) := by unfold It.put; rw [if_pos hl]
  rw [ep]
  refine ⟨v1, _, rfl, h, Own.nil _ _, hc.mono' fun k hk => .inl hk, fun k hk => ?_, fun k hk => by cases hk⟩
  rcases h1 with rfl | rfl
  · exact .inl hk
  · cases hk
theorem tkp_more {w F w3 W4 : World} {g : Nat} {T : TypeId} {v v1 v3 : Value} {x : It} {b : List UInt8} (h : Itk F g T v1 x) (hc : Chg w F (fun k => k = g)) (h1 : Vok v1 v) (hl : ¬ 262144 < x.da.length + b.length)
    (hg : g < w.heap.size) (ho : Own 0 w3 v3 (x.da ++ b)) (hg3 : Chg F w3 (fun k => v1.ownBlock = some k)) (hk3 : ∀ k, v3.ownBlock = some k → (v1.ownBlock = some k ∨ F.heap.size ≤ k) ∧ k < w3.heap.size)
    (h4 : w3.setCell ⟨g, 2, none⟩ v3 = W4) : Itk W4 g T v3 ⟨x.ix, x.tm, x.da ++ b⟩ ∧ Chg w W4 (fun k => k = g ∨ v.ownBlock = some k) ∧ (∀ k, v3.ownBlock = some k → v.ownBlock = some k ∨ w.heap.size ≤ k) := by
  have hsz := hc.size
  have hne : v1.ownBlock ≠ some g := h.ne
  have hr3 := (hg3.block g (by omega) hne).trans h.row
  obtain ⟨q1, q2⟩ := set3_2 v3 hr3
  have hn3 : v3.ownBlock ≠ some g := fun e => by
    rcases (hk3 g e).1 with h | h
    · exact hne h
    · omega
  subst h4
  have hv : ∀ k, v1.ownBlock = some k → v.ownBlock = some k := fun k hk => by
    rcases h1 with rfl | rfl
    · exact hk
    · cases hk
  have c1 : Chg w w3 (fun k => k = g ∨ v.ownBlock = some k) := (hc.mono' (S' := fun k => k = g ∨ v.ownBlock = some k) fun k hk => .inl hk).then hg3 fun k hk => .inl (.inr (hv k hk))
  refine ⟨⟨q1, vown_chg ho q2 fun k hk e => hn3 (e ▸ hk), hn3, by simp; omega, fun k hk => Nat.lt_of_lt_of_le (hk3 k hk).2 q2.size⟩, c1.then q2 fun k hk => .inl (.inl hk), fun k hk => ?_⟩
  rcases (hk3 k hk).1 with h | h
  · exact .inl (hv k h)
  · exact .inr (by omega)
theorem tkp_go {w W4 : World} {g : Nat} {T : TypeId} {v v3 : Value} {x : It} {b : List UInt8} (hl : ¬ 262144 < x.da.length + b.length)
    (h : Itk W4 g T v3 ⟨x.ix, x.tm, x.da ++ b⟩ ∧ Chg w W4 (fun k => k = g ∨ v.ownBlock = some k) ∧ (∀ k, v3.ownBlock = some k → v.ownBlock = some k ∨ w.heap.size ≤ k)) :
    TkP w g T v (x.put b false) (.returned (.tuple #[.slice none 0 0, .bool false, .int .i64 0])) W4 := by
  have ep : x.put b false = (⟨x.ix, x.tm, x.da ++ b⟩, [], false, 0) := by unfold It.put; rw [if_neg hl]; rfl
  rw [ep]
  exact ⟨v3, _, rfl, h.1, Own.nil _ _, h.2.1, h.2.2, fun k hk => by cases hk⟩
theorem tkp_end {w W4 W5 : World} {g : Nat} {T : TypeId} {v v3 : Value} {x : It} {b : List UInt8} (hl : ¬ 262144 < x.da.length + b.length)
    (h : Itk W4 g T v3 ⟨x.ix, x.tm, x.da ++ b⟩ ∧ Chg w W4 (fun k => k = g ∨ v.ownBlock = some k) ∧ (∀ k, v3.ownBlock = some k → v.ownBlock = some k ∨ w.heap.size ≤ k))
    (h5 : ((W4.setCell ⟨g, 0, none⟩ (.int .i64 0)).setCell ⟨g, 1, none⟩ (.int .i64 0)).setCell ⟨g, 2, none⟩ (.slice none 0 0) = W5) :
    TkP w g T v (x.put b true) (.returned (.tuple #[v3, .bool true, .int .i64 0])) W5 := by
  have ep : x.put b true = (⟨0, 0, []⟩, x.da ++ b, true, 0) := by unfold It.put; rw [if_neg hl]; rfl
  rw [ep]
  obtain ⟨q1, q2⟩ := set3 (.int .i64 0) (.int .i64 0) (.slice none 0 0) h.1.row
  subst h5
  exact ⟨.slice none 0 0, v3, rfl, ⟨q1, Own.nil _ _, fun e => (by cases e), by simp, fun k hk => by cases hk⟩, vown_chg h.1.own q2 fun k hk e => h.1.ne (e ▸ hk), h.2.1.then q2 fun k hk => .inl (.inl hk), fun k hk => (by cases hk), fun k hk => ⟨h.2.2 k hk, Nat.lt_of_lt_of_le (h.1.lt k hk) q2.size, rfl⟩⟩
theorem tkp_refused {w : World} {g : Nat} {T : TypeId} {v : Value} {x : It} (h : Itk w g T v x) : TkP w g T v (x, [], false, 61) (.returned (.tuple #[.slice none 0 0, .bool false, .int .i64 61])) w :=
  ⟨v, _, rfl, h, Own.nil _ _, Chg.refl _ _, fun k hk => .inl hk, fun k hk => by cases hk⟩

set_option maxRecDepth 100000 in
set_option maxHeartbeats 4000000 in
theorem vtake_any {w : World} {g : Nat} {v : Value} {x : It} (h : Itk w g 70 v x) {ix tm at_ : Int} {pv : Value} {b : List UInt8} (hb : By w pv b) (hm2 : b.length ≤ 140737488351232) (hbg : b = [] ∨ ∀ k, pv.ownBlock = some k → k ≠ g) {d : Bool} :
    Calls Tryz.prog 38 #[.pointer (some ⟨g, 0, none⟩), .int .i64 ix, .int .i64 tm, .int .i64 at_, pv, .bool d] w (TkP w g 70 v (x.take ix tm at_ b d)) := by
  have hgl := (Array.getElem?_eq_some_iff.1 h.row).1
  obtain ⟨q, m, cq, rfl⟩ := hb.sl
  have hm : m = b.length := hb.len.1
  by_cases h0 : at_ = 0
  · subst h0
    have et : x.take ix tm 0 b d = It.put ⟨ix, tm, []⟩ b d := by unfold It.take; rw [if_pos rfl]
    rw [et]
    have z0 : w.cell? ⟨g, 0, none⟩ = some (.int .i64 x.ix) := by rw [cell_of_row w _ 0 _ _ (0, 0) h.row]; rfl
    have u0 := frozen_of_row w g 0 _ _ h.row
    have z1 : w.cell? ⟨g, 1, none⟩ = some (.int .i64 x.tm) := by rw [cell_of_row w _ 1 _ _ (0, 0) h.row]; rfl
    have u1 := frozen_of_row w g 1 _ _ h.row
    have z2 : w.cell? ⟨g, 2, none⟩ = some (v) := by rw [cell_of_row w _ 2 _ _ (0, 0) h.row]; rfl
    have u2 := frozen_of_row w g 2 _ _ h.row
    obtain ⟨hq1, hq2⟩ := set3 (.int .i64 ix) (.int .i64 tm) (.slice none 0 0) h.row
    obtain ⟨F, hF⟩ : ∃ F, (((w.setCell ⟨g, 0, none⟩ (.int .i64 ix)).setCell ⟨g, 1, none⟩ (.int .i64 tm)).setCell ⟨g, 2, none⟩ (.slice none 0 0)) = F := ⟨_, rfl⟩
    rw [hF] at hq1 hq2
    have fz0 : F.cell? ⟨g, 0, none⟩ = some (.int .i64 ix) := by rw [cell_of_row F _ 0 _ _ (0, 0) hq1]; rfl
    have fu0 := frozen_of_row F g 0 _ _ hq1
    have fz1 : F.cell? ⟨g, 1, none⟩ = some (.int .i64 tm) := by rw [cell_of_row F _ 1 _ _ (0, 0) hq1]; rfl
    have fu1 := frozen_of_row F g 1 _ _ hq1
    have fz2 : F.cell? ⟨g, 2, none⟩ = some (.slice none 0 0) := by rw [cell_of_row F _ 2 _ _ (0, 0) hq1]; rfl
    have fu2 := frozen_of_row F g 2 _ _ hq1
    have HG := hide (Nat.lt_of_lt_of_le hgl hq2.size)
    have HGW := hide hgl
    have HM := hide hm
    have HM2 := hide hm2
    have HI : Hid (Itk F g 70 (.slice none 0 0) ⟨ix, tm, []⟩) := hide ⟨hq1, Own.nil _ _, fun e => (by cases e), by simp, fun k hk => by cases hk⟩
    have HCF := hide hq2
    have HBF := hide (hb.chg hq2 hbg)
    have HV : Hid (Vok (.slice none 0 0) v) := hide (.inr rfl)
    clear hb hq1 hq2 hm hm2 hgl hbg h et
    by_cases hl : 262144 < m
    · have hl2 : 262144 < (⟨ix, tm, []⟩ : It).da.length + b.length := by have := HM.out; simp; omega
      have HL2 := hide hl2
      have HL := hide hl
      obtain ⟨s, hs⟩ : ∃ s : Nat, m = s := ⟨_, rfl⟩
      have e4 : wrap64 ((0 : Int) + (m : Int)) = (s : Int) := by unfold wrap64; have := HM.out; have := HM2.out; omega
      have e4b : wrap64 (m : Int) = (s : Int) := by unfold wrap64; have := HM.out; have := HM2.out; omega
      have e5 : decide ((262144 : Int) < (s : Int)) = true := decide_eq_true (by omega)
      clear hl hl2 hs
      go_enter Tryz.func38, Tryz.ntmps38
      go_wp2
      refine bodyPost_ret (v := .tuple #[.slice none 0 0, .bool false, .int .i64 4]) (by simp [results, Tryz.results38, go_sem]) rfl ?_
      exact tkp_long HI.out HCF.out HV.out HL2.out
    · have hl2 : ¬ 262144 < (⟨ix, tm, []⟩ : It).da.length + b.length := by have := HM.out; simp; omega
      have HL2 := hide hl2
      have HL := hide hl
      obtain ⟨s, hs⟩ : ∃ s : Nat, m = s := ⟨_, rfl⟩
      have e4 : wrap64 ((0 : Int) + (m : Int)) = (s : Int) := by unfold wrap64; have := HM.out; have := HM2.out; omega
      have e4b : wrap64 (m : Int) = (s : Int) := by unfold wrap64; have := HM.out; have := HM2.out; omega
      have e5 : decide ((262144 : Int) < (s : Int)) = false := decide_eq_false (by omega)
      clear hl hl2 hs
      cases d
      · go_enter Tryz.func38, Tryz.ntmps38
        go_wp2_with (first | (at_builtin; go_must (refine wpList_append_by2 rfl _ _ rfl rfl rfl rfl HI.out.own HBF.out (by have h := HL2.out; try simp at h ⊢; omega) (Nat.zero_le _) HI.out.lt ?_); intro v3 w3 ho3 hg3 _ hk3; have hc3 := Chg.of_grown hg3 (fun k => ((.slice none 0 0) : Value).ownBlock = some k) (fun k hk => .inl hk); obtain ⟨p3, n3, c3, rfl⟩ := ho3.by_.sl; have hr3 := (hc3.block g HG.out HI.out.ne).trans HI.out.row; have a0 := cell_of_row w3 g 0 _ _ (0, 0) hr3; have a1 := cell_of_row w3 g 1 _ _ (0, 0) hr3; have a2 := cell_of_row w3 g 2 _ _ (0, 0) hr3; have b0 := frozen_of_row w3 g 0 _ _ hr3; have b1 := frozen_of_row w3 g 1 _ _ hr3; have b2 := frozen_of_row w3 g 2 _ _ hr3; have HO3 := hide ho3; have HC3 := hide hc3; have HK3 := hide hk3; clear ho3 hg3 hc3 hk3 hr3))
        refine bodyPost_ret (v := .tuple #[.slice none 0 0, .bool false, .int .i64 0]) (by simp [results, Tryz.results38, go_sem]) rfl ?_
        exact tkp_go HL2.out (tkp_more HI.out HCF.out HV.out HL2.out HGW.out HO3.out HC3.out HK3.out rfl)
      · go_enter Tryz.func38, Tryz.ntmps38
        go_wp2_with (first | (at_builtin; go_must (refine wpList_append_by2 rfl _ _ rfl rfl rfl rfl HI.out.own HBF.out (by have h := HL2.out; try simp at h ⊢; omega) (Nat.zero_le _) HI.out.lt ?_); intro v3 w3 ho3 hg3 _ hk3; have hc3 := Chg.of_grown hg3 (fun k => ((.slice none 0 0) : Value).ownBlock = some k) (fun k hk => .inl hk); obtain ⟨p3, n3, c3, rfl⟩ := ho3.by_.sl; have hr3 := (hc3.block g HG.out HI.out.ne).trans HI.out.row; have a0 := cell_of_row w3 g 0 _ _ (0, 0) hr3; have a1 := cell_of_row w3 g 1 _ _ (0, 0) hr3; have a2 := cell_of_row w3 g 2 _ _ (0, 0) hr3; have b0 := frozen_of_row w3 g 0 _ _ hr3; have b1 := frozen_of_row w3 g 1 _ _ hr3; have b2 := frozen_of_row w3 g 2 _ _ hr3; have HO3 := hide ho3; have HC3 := hide hc3; have HK3 := hide hk3; clear ho3 hg3 hc3 hk3 hr3))
        refine bodyPost_ret (v := .tuple #[.slice p3 n3 c3, .bool true, .int .i64 0]) (by simp [results, Tryz.results38, go_sem]) rfl ?_
        exact tkp_end HL2.out (tkp_more HI.out HCF.out HV.out HL2.out HGW.out HO3.out HC3.out HK3.out rfl) rfl
  · have f0 : (at_ == 0) = false := by simpa using h0
    obtain ⟨p, n, c, rfl⟩ := h.own.by_.sl
    have hn : n = x.da.length := h.own.by_.len.1
    have HHV := hide (vhave_any h ix tm)
    obtain ⟨y, hy⟩ : ∃ y, x.have_ ix tm = y := ⟨_, rfl⟩
    rw [hy] at HHV
    by_cases h9 : (y : Int) = at_
    · have et : x.take ix tm at_ b d = x.put b d := by unfold It.take; rw [if_neg h0, hy, if_pos h9]
      rw [et]
      have z0 : w.cell? ⟨g, 0, none⟩ = some (.int .i64 x.ix) := by rw [cell_of_row w _ 0 _ _ (0, 0) h.row]; rfl
      have u0 := frozen_of_row w g 0 _ _ h.row
      have z1 : w.cell? ⟨g, 1, none⟩ = some (.int .i64 x.tm) := by rw [cell_of_row w _ 1 _ _ (0, 0) h.row]; rfl
      have u1 := frozen_of_row w g 1 _ _ h.row
      have z2 : w.cell? ⟨g, 2, none⟩ = some (.slice p n c) := by rw [cell_of_row w _ 2 _ _ (0, 0) h.row]; rfl
      have u2 := frozen_of_row w g 2 _ _ h.row
      have HG := hide hgl
      have HGW := hide hgl
      have HM := hide hm
      have HM2 := hide hm2
      have HI := hide h
      have HCF : Hid (Chg w w (fun k => k = g)) := hide (Chg.refl _ _)
      have HBF := hide hb
      have HV : Hid (Vok (.slice p n c) (.slice p n c)) := hide (.inl rfl)
      have HNN := hide hn
      clear hb hm hm2 hgl hbg h et hn hy
      have e9 : ((y : Int) == at_) = true := by simpa using h9
      subst h9
      clear e9
      by_cases hl : 262144 < n + m
      · have hl2 : 262144 < (x : It).da.length + b.length := by have := HM.out; have := HNN.out; omega
        have HL2 := hide hl2
        have HL := hide hl
        obtain ⟨s, hs⟩ : ∃ s : Nat, n + m = s := ⟨_, rfl⟩
        have e4 : wrap64 ((n : Int) + (m : Int)) = (s : Int) := by unfold wrap64; have := HM.out; have := HM2.out; have := HNN.out; have := HI.out.le; omega
        have e5 : decide ((262144 : Int) < (s : Int)) = true := decide_eq_true (by omega)
        clear hl hl2 hs
        go_enter Tryz.func38, Tryz.ntmps38
        go_wp2_with (go_at_call 37; refine HHV.out.mono ?_; rintro e w1 ⟨rfl, rfl⟩)
        refine bodyPost_ret (v := .tuple #[.slice none 0 0, .bool false, .int .i64 4]) (by simp [results, Tryz.results38, go_sem]) rfl ?_
        exact tkp_long HI.out HCF.out HV.out HL2.out
      · have hl2 : ¬ 262144 < (x : It).da.length + b.length := by have := HM.out; have := HNN.out; omega
        have HL2 := hide hl2
        have HL := hide hl
        obtain ⟨s, hs⟩ : ∃ s : Nat, n + m = s := ⟨_, rfl⟩
        have e4 : wrap64 ((n : Int) + (m : Int)) = (s : Int) := by unfold wrap64; have := HM.out; have := HM2.out; have := HNN.out; have := HI.out.le; omega
        have e5 : decide ((262144 : Int) < (s : Int)) = false := decide_eq_false (by omega)
        clear hl hl2 hs
        cases d
        · go_enter Tryz.func38, Tryz.ntmps38
          go_wp2_with (first | (at_builtin; go_must (refine wpList_append_by2 rfl _ _ rfl rfl rfl rfl HI.out.own HBF.out (by have h := HL2.out; try simp at h ⊢; omega) (Nat.zero_le _) HI.out.lt ?_); intro v3 w3 ho3 hg3 _ hk3; have hc3 := Chg.of_grown hg3 (fun k => ((.slice p n c) : Value).ownBlock = some k) (fun k hk => .inl hk); obtain ⟨p3, n3, c3, rfl⟩ := ho3.by_.sl; have hr3 := (hc3.block g HG.out HI.out.ne).trans HI.out.row; have a0 := cell_of_row w3 g 0 _ _ (0, 0) hr3; have a1 := cell_of_row w3 g 1 _ _ (0, 0) hr3; have a2 := cell_of_row w3 g 2 _ _ (0, 0) hr3; have b0 := frozen_of_row w3 g 0 _ _ hr3; have b1 := frozen_of_row w3 g 1 _ _ hr3; have b2 := frozen_of_row w3 g 2 _ _ hr3; have HO3 := hide ho3; have HC3 := hide hc3; have HK3 := hide hk3; clear ho3 hg3 hc3 hk3 hr3) | (go_at_call 37; refine HHV.out.mono ?_; rintro e w1 ⟨rfl, rfl⟩))
          refine bodyPost_ret (v := .tuple #[.slice none 0 0, .bool false, .int .i64 0]) (by simp [results, Tryz.results38, go_sem]) rfl ?_
          exact tkp_go HL2.out (tkp_more HI.out HCF.out HV.out HL2.out HGW.out HO3.out HC3.out HK3.out rfl)
        · go_enter Tryz.func38, Tryz.ntmps38
          go_wp2_with (first | (at_builtin; go_must (refine wpList_append_by2 rfl _ _ rfl rfl rfl rfl HI.out.own HBF.out (by have h := HL2.out; try simp at h ⊢; omega) (Nat.zero_le _) HI.out.lt ?_); intro v3 w3 ho3 hg3 _ hk3; have hc3 := Chg.of_grown hg3 (fun k => ((.slice p n c) : Value).ownBlock = some k) (fun k hk => .inl hk); obtain ⟨p3, n3, c3, rfl⟩ := ho3.by_.sl; have hr3 := (hc3.block g HG.out HI.out.ne).trans HI.out.row; have a0 := cell_of_row w3 g 0 _ _ (0, 0) hr3; have a1 := cell_of_row w3 g 1 _ _ (0, 0) hr3; have a2 := cell_of_row w3 g 2 _ _ (0, 0) hr3; have b0 := frozen_of_row w3 g 0 _ _ hr3; have b1 := frozen_of_row w3 g 1 _ _ hr3; have b2 := frozen_of_row w3 g 2 _ _ hr3; have HO3 := hide ho3; have HC3 := hide hc3; have HK3 := hide hk3; clear ho3 hg3 hc3 hk3 hr3) | (go_at_call 37; refine HHV.out.mono ?_; rintro e w1 ⟨rfl, rfl⟩))
          refine bodyPost_ret (v := .tuple #[.slice p3 n3 c3, .bool true, .int .i64 0]) (by simp [results, Tryz.results38, go_sem]) rfl ?_
          exact tkp_end HL2.out (tkp_more HI.out HCF.out HV.out HL2.out HGW.out HO3.out HC3.out HK3.out rfl) rfl
    · have et : x.take ix tm at_ b d = (x, [], false, 61) := by unfold It.take; rw [if_neg h0, hy, if_neg h9]
      rw [et]
      have z0 : w.cell? ⟨g, 0, none⟩ = some (.int .i64 x.ix) := by rw [cell_of_row w _ 0 _ _ (0, 0) h.row]; rfl
      have u0 := frozen_of_row w g 0 _ _ h.row
      have z1 : w.cell? ⟨g, 1, none⟩ = some (.int .i64 x.tm) := by rw [cell_of_row w _ 1 _ _ (0, 0) h.row]; rfl
      have u1 := frozen_of_row w g 1 _ _ h.row
      have z2 : w.cell? ⟨g, 2, none⟩ = some (.slice p n c) := by rw [cell_of_row w _ 2 _ _ (0, 0) h.row]; rfl
      have u2 := frozen_of_row w g 2 _ _ h.row
      have e9 : ((y : Int) == at_) = false := by simpa using h9
      have HI := hide h
      clear hb hm hm2 hgl hbg h et hn hy
      go_enter Tryz.func38, Tryz.ntmps38
      go_wp2_with (go_at_call 37; refine HHV.out.mono ?_; rintro e w1 ⟨rfl, rfl⟩)
      refine bodyPost_ret (v := .tuple #[.slice none 0 0, .bool false, .int .i64 61]) (by simp [results, Tryz.results38, go_sem]) rfl ?_
      exact tkp_refused HI.out

set_option maxRecDepth 100000 in
set_option maxHeartbeats 4000000 in
theorem vrtake_any {w : World} {g : Nat} {v : Value} {x : It} (h : Itk w g 82 v x) {ix tm at_ : Int} {pv : Value} {b : List UInt8} (hb : By w pv b) (hm2 : b.length ≤ 140737488351232) (hbg : b = [] ∨ ∀ k, pv.ownBlock = some k → k ≠ g) {d : Bool} :
    Calls Tryz.prog 41 #[.pointer (some ⟨g, 0, none⟩), .int .i64 ix, .int .i64 tm, .int .i64 at_, pv, .bool d] w (TkP w g 82 v (x.take ix tm at_ b d)) := by
  have hgl := (Array.getElem?_eq_some_iff.1 h.row).1
  obtain ⟨q, m, cq, rfl⟩ := hb.sl
  have hm : m = b.length := hb.len.1
  by_cases h0 : at_ = 0
  · subst h0
    have et : x.take ix tm 0 b d = It.put ⟨ix, tm, []⟩ b d := by unfold It.take; rw [if_pos rfl]
    rw [et]
    have z0 : w.cell? ⟨g, 0, none⟩ = some (.int .i64 x.ix) := by rw [cell_of_row w _ 0 _ _ (0, 0) h.row]; rfl
    have u0 := frozen_of_row w g 0 _ _ h.row
    have z1 : w.cell? ⟨g, 1, none⟩ = some (.int .i64 x.tm) := by rw [cell_of_row w _ 1 _ _ (0, 0) h.row]; rfl
    have u1 := frozen_of_row w g 1 _ _ h.row
    have z2 : w.cell? ⟨g, 2, none⟩ = some (v) := by rw [cell_of_row w _ 2 _ _ (0, 0) h.row]; rfl
    have u2 := frozen_of_row w g 2 _ _ h.row
    obtain ⟨hq1, hq2⟩ := set3 (.int .i64 ix) (.int .i64 tm) (.slice none 0 0) h.row
    obtain ⟨F, hF⟩ : ∃ F, (((w.setCell ⟨g, 0, none⟩ (.int .i64 ix)).setCell ⟨g, 1, none⟩ (.int .i64 tm)).setCell ⟨g, 2, none⟩ (.slice none 0 0)) = F := ⟨_, rfl⟩
    rw [hF] at hq1 hq2
    have fz0 : F.cell? ⟨g, 0, none⟩ = some (.int .i64 ix) := by rw [cell_of_row F _ 0 _ _ (0, 0) hq1]; rfl
    have fu0 := frozen_of_row F g 0 _ _ hq1
    have fz1 : F.cell? ⟨g, 1, none⟩ = some (.int .i64 tm) := by rw [cell_of_row F _ 1 _ _ (0, 0) hq1]; rfl
    have fu1 := frozen_of_row F g 1 _ _ hq1
    have fz2 : F.cell? ⟨g, 2, none⟩ = some (.slice none 0 0) := by rw [cell_of_row F _ 2 _ _ (0, 0) hq1]; rfl
    have fu2 := frozen_of_row F g 2 _ _ hq1
    have HG := hide (Nat.lt_of_lt_of_le hgl hq2.size)
    have HGW := hide hgl
    have HM := hide hm
    have HM2 := hide hm2
    have HI : Hid (Itk F g 82 (.slice none 0 0) ⟨ix, tm, []⟩) := hide ⟨hq1, Own.nil _ _, fun e => (by cases e), by simp, fun k hk => by cases hk⟩
    have HCF := hide hq2
    have HBF := hide (hb.chg hq2 hbg)
    have HV : Hid (Vok (.slice none 0 0) v) := hide (.inr rfl)
    clear hb hq1 hq2 hm hm2 hgl hbg h et
    by_cases hl : 262144 < m
    · have hl2 : 262144 < (⟨ix, tm, []⟩ : It).da.length + b.length := by have := HM.out; simp; omega
      have HL2 := hide hl2
      have HL := hide hl
      obtain ⟨s, hs⟩ : ∃ s : Nat, m = s := ⟨_, rfl⟩
      have e4 : wrap64 ((0 : Int) + (m : Int)) = (s : Int) := by unfold wrap64; have := HM.out; have := HM2.out; omega
      have e5 : decide ((262144 : Int) < (s : Int)) = true := decide_eq_true (by omega)
      have e4b : wrap64 (m : Int) = (s : Int) := by unfold wrap64; have := HM.out; have := HM2.out; omega
      obtain ⟨c7, e7⟩ : ∃ c7, decide ((262144 : Int) < (m : Int)) = c7 := ⟨_, rfl⟩
      have e5b : decide ((262144 : Int) < (m : Int)) = true := decide_eq_true (by omega)
      clear hl hl2 hs
      clear e7
      go_enter Tryz.func41, Tryz.ntmps41
      go_wp2
      refine bodyPost_ret (v := .tuple #[.slice none 0 0, .bool false, .int .i64 4]) (by simp [results, Tryz.results41, go_sem]) rfl ?_
      exact tkp_long HI.out HCF.out HV.out HL2.out
    · have hl2 : ¬ 262144 < (⟨ix, tm, []⟩ : It).da.length + b.length := by have := HM.out; simp; omega
      have HL2 := hide hl2
      have HL := hide hl
      obtain ⟨s, hs⟩ : ∃ s : Nat, m = s := ⟨_, rfl⟩
      have e4 : wrap64 ((0 : Int) + (m : Int)) = (s : Int) := by unfold wrap64; have := HM.out; have := HM2.out; omega
      have e5 : decide ((262144 : Int) < (s : Int)) = false := decide_eq_false (by omega)
      have e4b : wrap64 (m : Int) = (s : Int) := by unfold wrap64; have := HM.out; have := HM2.out; omega
      have e7 : decide ((262144 : Int) < (m : Int)) = false := decide_eq_false (by omega)
      clear hl hl2 hs
      have HBE := hide ((Below.refl F.heap.size F).alloc (Nat.le_refl _) (.cells #[] 5))
      have HOE := hide (vown_lit0 F)
      have HDE := hide (HI.out.own.by_.below HBE.out)
      have az2 := (HBE.out.cell (lt_of_cell fz2)).trans fz2
      cases d
      · go_enter Tryz.func41, Tryz.ntmps41
        go_wp2_with (first | (at_builtin; refine wpList_append_by2 rfl _ _ rfl rfl (v := .slice (some ⟨F.heap.size, 0, none⟩) 0 0) (l := []) (B := F.heap.size) rfl rfl HOE.out HDE.out (by have h := HI.out.le; first | (simp; done) | (simp; omega)) HBE.out.size (fun k hk => by injection hk with hk; dsimp only at hk; rw [size_alloc']; omega) ?_; intro v2 w2 ho2 _ hb2 hk2; have HK2 := hide (fun k hk => (hk2 k hk).2); clear hk2; rw [List.nil_append] at ho2; have HO2 := hide ho2; have HB2 := hide (HBE.out.trans hb2); obtain ⟨p2, n2, c2, rfl⟩ := ho2.by_.sl; clear ho2 hb2) | (at_builtin; go_must (refine wpList_append_by2 rfl _ _ rfl rfl rfl rfl HO2.out (HBF.out.below HB2.out) (by have h := HL2.out; try simp at h ⊢; omega) HB2.out.size HK2.out ?_); intro v3 w3 ho3' hg3 hb3 hk3; have hc3 := (Chg.of_below (HB2.out.trans hb3) (fun k => ((.slice none 0 0) : Value).ownBlock = some k)); have ho3 := ho3'.mono (Nat.zero_le _); have hk3' := vown_ge ho3'; have hk4 := (show ∀ k, v3.ownBlock = some k → (((.slice none 0 0) : Value).ownBlock = some k ∨ F.heap.size ≤ k) ∧ k < w3.heap.size from fun k hk => ⟨.inr (hk3' k hk), (hk3 k hk).2⟩); clear hk3; have hk3 := hk4; clear hk4 ho3' hk3' hb3; obtain ⟨p3, n3, c3, rfl⟩ := ho3.by_.sl; have hr3 := (hc3.block g HG.out HI.out.ne).trans HI.out.row; have a0 := cell_of_row w3 g 0 _ _ (0, 0) hr3; have a1 := cell_of_row w3 g 1 _ _ (0, 0) hr3; have a2 := cell_of_row w3 g 2 _ _ (0, 0) hr3; have b0 := frozen_of_row w3 g 0 _ _ hr3; have b1 := frozen_of_row w3 g 1 _ _ hr3; have b2 := frozen_of_row w3 g 2 _ _ hr3; have HO3 := hide ho3; have HC3 := hide hc3; have HK3 := hide hk3; clear ho3 hg3 hc3 hk3 hr3))
        refine bodyPost_ret (v := .tuple #[.slice none 0 0, .bool false, .int .i64 0]) (by simp [results, Tryz.results41, go_sem]) rfl ?_
        exact tkp_go HL2.out (tkp_more HI.out HCF.out HV.out HL2.out HGW.out HO3.out HC3.out HK3.out rfl)
      · go_enter Tryz.func41, Tryz.ntmps41
        go_wp2_with (first | (at_builtin; refine wpList_append_by2 rfl _ _ rfl rfl (v := .slice (some ⟨F.heap.size, 0, none⟩) 0 0) (l := []) (B := F.heap.size) rfl rfl HOE.out HDE.out (by have h := HI.out.le; first | (simp; done) | (simp; omega)) HBE.out.size (fun k hk => by injection hk with hk; dsimp only at hk; rw [size_alloc']; omega) ?_; intro v2 w2 ho2 _ hb2 hk2; have HK2 := hide (fun k hk => (hk2 k hk).2); clear hk2; rw [List.nil_append] at ho2; have HO2 := hide ho2; have HB2 := hide (HBE.out.trans hb2); obtain ⟨p2, n2, c2, rfl⟩ := ho2.by_.sl; clear ho2 hb2) | (at_builtin; go_must (refine wpList_append_by2 rfl _ _ rfl rfl rfl rfl HO2.out (HBF.out.below HB2.out) (by have h := HL2.out; try simp at h ⊢; omega) HB2.out.size HK2.out ?_); intro v3 w3 ho3' hg3 hb3 hk3; have hc3 := (Chg.of_below (HB2.out.trans hb3) (fun k => ((.slice none 0 0) : Value).ownBlock = some k)); have ho3 := ho3'.mono (Nat.zero_le _); have hk3' := vown_ge ho3'; have hk4 := (show ∀ k, v3.ownBlock = some k → (((.slice none 0 0) : Value).ownBlock = some k ∨ F.heap.size ≤ k) ∧ k < w3.heap.size from fun k hk => ⟨.inr (hk3' k hk), (hk3 k hk).2⟩); clear hk3; have hk3 := hk4; clear hk4 ho3' hk3' hb3; obtain ⟨p3, n3, c3, rfl⟩ := ho3.by_.sl; have hr3 := (hc3.block g HG.out HI.out.ne).trans HI.out.row; have a0 := cell_of_row w3 g 0 _ _ (0, 0) hr3; have a1 := cell_of_row w3 g 1 _ _ (0, 0) hr3; have a2 := cell_of_row w3 g 2 _ _ (0, 0) hr3; have b0 := frozen_of_row w3 g 0 _ _ hr3; have b1 := frozen_of_row w3 g 1 _ _ hr3; have b2 := frozen_of_row w3 g 2 _ _ hr3; have HO3 := hide ho3; have HC3 := hide hc3; have HK3 := hide hk3; clear ho3 hg3 hc3 hk3 hr3))
        refine bodyPost_ret (v := .tuple #[.slice p3 n3 c3, .bool true, .int .i64 0]) (by simp [results, Tryz.results41, go_sem]) rfl ?_
        exact tkp_end HL2.out (tkp_more HI.out HCF.out HV.out HL2.out HGW.out HO3.out HC3.out HK3.out rfl) rfl
  · have f0 : (at_ == 0) = false := by simpa using h0
    obtain ⟨p, n, c, rfl⟩ := h.own.by_.sl
    have hn : n = x.da.length := h.own.by_.len.1
    by_cases h9 : (x.have_ ix tm : Int) = at_
    · have et : x.take ix tm at_ b d = x.put b d := by unfold It.take; rw [if_neg h0, if_pos h9]
      rw [et]
      obtain ⟨i1, i2, i3⟩ : x.ix = ix ∧ x.tm = tm ∧ (n : Int) = at_ := by
        unfold It.have_ at h9
        split at h9
        · rename_i hh
          exact ⟨hh.1, hh.2, by omega⟩
        · omega
      subst i1 i2 i3
      have z0 : w.cell? ⟨g, 0, none⟩ = some (.int .i64 x.ix) := by rw [cell_of_row w _ 0 _ _ (0, 0) h.row]; rfl
      have u0 := frozen_of_row w g 0 _ _ h.row
      have z1 : w.cell? ⟨g, 1, none⟩ = some (.int .i64 x.tm) := by rw [cell_of_row w _ 1 _ _ (0, 0) h.row]; rfl
      have u1 := frozen_of_row w g 1 _ _ h.row
      have z2 : w.cell? ⟨g, 2, none⟩ = some (.slice p n c) := by rw [cell_of_row w _ 2 _ _ (0, 0) h.row]; rfl
      have u2 := frozen_of_row w g 2 _ _ h.row
      have HG := hide hgl
      have HGW := hide hgl
      have HM := hide hm
      have HM2 := hide hm2
      have HI := hide h
      have HCF : Hid (Chg w w (fun k => k = g)) := hide (Chg.refl _ _)
      have HBF := hide hb
      have HV : Hid (Vok (.slice p n c) (.slice p n c)) := hide (.inl rfl)
      have HNN := hide hn
      clear hb hm hm2 hgl hbg h et hn
      by_cases hl : 262144 < n + m
      · have hl2 : 262144 < (x : It).da.length + b.length := by have := HM.out; have := HNN.out; omega
        have HL2 := hide hl2
        have HL := hide hl
        obtain ⟨s, hs⟩ : ∃ s : Nat, n + m = s := ⟨_, rfl⟩
        have e4 : wrap64 ((n : Int) + (m : Int)) = (s : Int) := by unfold wrap64; have := HM.out; have := HM2.out; have := HNN.out; have := HI.out.le; omega
        have e5 : decide ((262144 : Int) < (s : Int)) = true := decide_eq_true (by omega)
        obtain ⟨c7, e7⟩ : ∃ c7, decide ((262144 : Int) < (m : Int)) = c7 := ⟨_, rfl⟩
        clear hl hl2 hs
        cases c7
        · go_enter Tryz.func41, Tryz.ntmps41
          go_wp2
          refine bodyPost_ret (v := .tuple #[.slice none 0 0, .bool false, .int .i64 4]) (by simp [results, Tryz.results41, go_sem]) rfl ?_
          exact tkp_long HI.out HCF.out HV.out HL2.out
        · go_enter Tryz.func41, Tryz.ntmps41
          go_wp2
          refine bodyPost_ret (v := .tuple #[.slice none 0 0, .bool false, .int .i64 4]) (by simp [results, Tryz.results41, go_sem]) rfl ?_
          exact tkp_long HI.out HCF.out HV.out HL2.out
      · have hl2 : ¬ 262144 < (x : It).da.length + b.length := by have := HM.out; have := HNN.out; omega
        have HL2 := hide hl2
        have HL := hide hl
        obtain ⟨s, hs⟩ : ∃ s : Nat, n + m = s := ⟨_, rfl⟩
        have e4 : wrap64 ((n : Int) + (m : Int)) = (s : Int) := by unfold wrap64; have := HM.out; have := HM2.out; have := HNN.out; have := HI.out.le; omega
        have e5 : decide ((262144 : Int) < (s : Int)) = false := decide_eq_false (by omega)
        have e7 : decide ((262144 : Int) < (m : Int)) = false := decide_eq_false (by omega)
        clear hl hl2 hs
        have HBE := hide ((Below.refl w.heap.size w).alloc (Nat.le_refl _) (.cells #[] 5))
        have HOE := hide (vown_lit0 w)
        have HDE := hide (HI.out.own.by_.below HBE.out)
        have az2 := (HBE.out.cell (lt_of_cell z2)).trans z2
        cases d
        · go_enter Tryz.func41, Tryz.ntmps41
          go_wp2_with (first | (at_builtin; refine wpList_append_by2 rfl _ _ rfl rfl (v := .slice (some ⟨w.heap.size, 0, none⟩) 0 0) (l := []) (B := w.heap.size) rfl rfl HOE.out HDE.out (by have h := HI.out.le; first | (simp; done) | (simp; omega)) HBE.out.size (fun k hk => by injection hk with hk; dsimp only at hk; rw [size_alloc']; omega) ?_; intro v2 w2 ho2 _ hb2 hk2; have HK2 := hide (fun k hk => (hk2 k hk).2); clear hk2; rw [List.nil_append] at ho2; have HO2 := hide ho2; have HB2 := hide (HBE.out.trans hb2); obtain ⟨p2, n2, c2, rfl⟩ := ho2.by_.sl; clear ho2 hb2) | (at_builtin; go_must (refine wpList_append_by2 rfl _ _ rfl rfl rfl rfl HO2.out (HBF.out.below HB2.out) (by have h := HL2.out; try simp at h ⊢; omega) HB2.out.size HK2.out ?_); intro v3 w3 ho3' hg3 hb3 hk3; have hc3 := (Chg.of_below (HB2.out.trans hb3) (fun k => ((.slice p n c) : Value).ownBlock = some k)); have ho3 := ho3'.mono (Nat.zero_le _); have hk3' := vown_ge ho3'; have hk4 := (show ∀ k, v3.ownBlock = some k → (((.slice p n c) : Value).ownBlock = some k ∨ w.heap.size ≤ k) ∧ k < w3.heap.size from fun k hk => ⟨.inr (hk3' k hk), (hk3 k hk).2⟩); clear hk3; have hk3 := hk4; clear hk4 ho3' hk3' hb3; obtain ⟨p3, n3, c3, rfl⟩ := ho3.by_.sl; have hr3 := (hc3.block g HG.out HI.out.ne).trans HI.out.row; have a0 := cell_of_row w3 g 0 _ _ (0, 0) hr3; have a1 := cell_of_row w3 g 1 _ _ (0, 0) hr3; have a2 := cell_of_row w3 g 2 _ _ (0, 0) hr3; have b0 := frozen_of_row w3 g 0 _ _ hr3; have b1 := frozen_of_row w3 g 1 _ _ hr3; have b2 := frozen_of_row w3 g 2 _ _ hr3; have HO3 := hide ho3; have HC3 := hide hc3; have HK3 := hide hk3; clear ho3 hg3 hc3 hk3 hr3))
          refine bodyPost_ret (v := .tuple #[.slice none 0 0, .bool false, .int .i64 0]) (by simp [results, Tryz.results41, go_sem]) rfl ?_
          exact tkp_go HL2.out (tkp_more HI.out HCF.out HV.out HL2.out HGW.out HO3.out HC3.out HK3.out rfl)
        · go_enter Tryz.func41, Tryz.ntmps41
          go_wp2_with (first | (at_builtin; refine wpList_append_by2 rfl _ _ rfl rfl (v := .slice (some ⟨w.heap.size, 0, none⟩) 0 0) (l := []) (B := w.heap.size) rfl rfl HOE.out HDE.out (by have h := HI.out.le; first | (simp; done) | (simp; omega)) HBE.out.size (fun k hk => by injection hk with hk; dsimp only at hk; rw [size_alloc']; omega) ?_; intro v2 w2 ho2 _ hb2 hk2; have HK2 := hide (fun k hk => (hk2 k hk).2); clear hk2; rw [List.nil_append] at ho2; have HO2 := hide ho2; have HB2 := hide (HBE.out.trans hb2); obtain ⟨p2, n2, c2, rfl⟩ := ho2.by_.sl; clear ho2 hb2) | (at_builtin; go_must (refine wpList_append_by2 rfl _ _ rfl rfl rfl rfl HO2.out (HBF.out.below HB2.out) (by have h := HL2.out; try simp at h ⊢; omega) HB2.out.size HK2.out ?_); intro v3 w3 ho3' hg3 hb3 hk3; have hc3 := (Chg.of_below (HB2.out.trans hb3) (fun k => ((.slice p n c) : Value).ownBlock = some k)); have ho3 := ho3'.mono (Nat.zero_le _); have hk3' := vown_ge ho3'; have hk4 := (show ∀ k, v3.ownBlock = some k → (((.slice p n c) : Value).ownBlock = some k ∨ w.heap.size ≤ k) ∧ k < w3.heap.size from fun k hk => ⟨.inr (hk3' k hk), (hk3 k hk).2⟩); clear hk3; have hk3 := hk4; clear hk4 ho3' hk3' hb3; obtain ⟨p3, n3, c3, rfl⟩ := ho3.by_.sl; have hr3 := (hc3.block g HG.out HI.out.ne).trans HI.out.row; have a0 := cell_of_row w3 g 0 _ _ (0, 0) hr3; have a1 := cell_of_row w3 g 1 _ _ (0, 0) hr3; have a2 := cell_of_row w3 g 2 _ _ (0, 0) hr3; have b0 := frozen_of_row w3 g 0 _ _ hr3; have b1 := frozen_of_row w3 g 1 _ _ hr3; have b2 := frozen_of_row w3 g 2 _ _ hr3; have HO3 := hide ho3; have HC3 := hide hc3; have HK3 := hide hk3; clear ho3 hg3 hc3 hk3 hr3))
          refine bodyPost_ret (v := .tuple #[.slice p3 n3 c3, .bool true, .int .i64 0]) (by simp [results, Tryz.results41, go_sem]) rfl ?_
          exact tkp_end HL2.out (tkp_more HI.out HCF.out HV.out HL2.out HGW.out HO3.out HC3.out HK3.out rfl) rfl
    · have et : x.take ix tm at_ b d = (x, [], false, 61) := by unfold It.take; rw [if_neg h0, if_neg h9]
      rw [et]
      have z0 : w.cell? ⟨g, 0, none⟩ = some (.int .i64 x.ix) := by rw [cell_of_row w _ 0 _ _ (0, 0) h.row]; rfl
      have u0 := frozen_of_row w g 0 _ _ h.row
      have z1 : w.cell? ⟨g, 1, none⟩ = some (.int .i64 x.tm) := by rw [cell_of_row w _ 1 _ _ (0, 0) h.row]; rfl
      have u1 := frozen_of_row w g 1 _ _ h.row
      have z2 : w.cell? ⟨g, 2, none⟩ = some (.slice p n c) := by rw [cell_of_row w _ 2 _ _ (0, 0) h.row]; rfl
      have u2 := frozen_of_row w g 2 _ _ h.row
      have HI := hide h
      have hcase : x.ix ≠ ix ∨ x.tm ≠ tm ∨ (x.ix = ix ∧ x.tm = tm ∧ (n : Int) ≠ at_) := by
        by_cases i1 : x.ix = ix
        · by_cases i2 : x.tm = tm
          · refine .inr (.inr ⟨i1, i2, fun e => h9 ?_⟩)
            unfold It.have_
            rw [if_pos ⟨i1, i2⟩]
            omega
          · exact .inr (.inl i2)
        · exact .inl i1
      clear hb hm hm2 hgl hbg h et hn h9
      rcases hcase with i1 | i2 | ⟨i1, i2, i3⟩
      · have e1 : (x.ix == ix) = false := by simpa using i1
        go_enter Tryz.func41, Tryz.ntmps41
        go_wp2
        refine bodyPost_ret (v := .tuple #[.slice none 0 0, .bool false, .int .i64 61]) (by simp [results, Tryz.results41, go_sem]) rfl ?_
        exact tkp_refused HI.out
      · have e2 : (x.tm == tm) = false := by simpa using i2
        by_cases i1 : x.ix = ix
        · subst i1
          go_enter Tryz.func41, Tryz.ntmps41
          go_wp2
          refine bodyPost_ret (v := .tuple #[.slice none 0 0, .bool false, .int .i64 61]) (by simp [results, Tryz.results41, go_sem]) rfl ?_
          exact tkp_refused HI.out
        · have e1 : (x.ix == ix) = false := by simpa using i1
          go_enter Tryz.func41, Tryz.ntmps41
          go_wp2
          refine bodyPost_ret (v := .tuple #[.slice none 0 0, .bool false, .int .i64 61]) (by simp [results, Tryz.results41, go_sem]) rfl ?_
          exact tkp_refused HI.out
      · subst i1 i2
        have e3 : (at_ == (n : Int)) = false := by simpa using fun e => i3 e.symm
        go_enter Tryz.func41, Tryz.ntmps41
        go_wp2
        refine bodyPost_ret (v := .tuple #[.slice none 0 0, .bool false, .int .i64 61]) (by simp [results, Tryz.results41, go_sem]) rfl ?_
        exact tkp_refused HI.out
end Go.Proofs.YtgbdjcekpdfpjaaGreatDoor
