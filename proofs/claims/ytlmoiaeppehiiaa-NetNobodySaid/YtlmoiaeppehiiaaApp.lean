/- Appending bytes onto a slice that the call made: one law for every source, nil, empty or not, and whatever room there is. -/
import Derived.Test.YtlmoiaeppehiiaaDig
import Derived.Deep.MidRow
namespace Go.Proofs.Ytlmoiaeppehiiaa
open Go.RowKit

theorem below_setCells' {B b : Nat} {a : World} (hb : B ≤ b) : ∀ (vs : List Value) (o : Nat) {w : World}, Below B a w → Below B a (w.setCells b o vs)
  | [], _, _, h => h
  | _ :: vs, o, _, h => below_setCells' hb vs (o + 1) (h.setCell (p := ⟨b, o, none⟩) hb _)

theorem grown_setCells (b : Nat) : ∀ (vs : List Value) (o : Nat) (w : World), w.grownBy (w.setCells b o vs) (some b)
  | [], _, w => World.grownBy.refl w _
  | v :: vs, o, w => by
    have h1 : w.grownBy (w.setCell ⟨b, o, none⟩ v) (some b) := ⟨rfl, rfl, rfl, by simp [World.setCell], fun k _ hk => heap_setCell_other w ⟨b, o, none⟩ k v (fun e => hk (by simp [e]))⟩
    have h2 := grown_setCells b vs (o + 1) (w.setCell ⟨b, o, none⟩ v)
    exact ⟨h2.os.trans h1.os, h2.tape.trans h1.tape, h2.output.trans h1.output, Nat.le_trans h1.size h2.size, fun k hk hne => (h2.block k (Nat.lt_of_lt_of_le hk h1.size) hne).trans (h1.block k hk hne)⟩

theorem oneCell_bytes (l : List UInt8) : ∀ u ∈ l.map bv, u.oneCell' = true := by
  intro u hu
  obtain ⟨x, _, rfl⟩ := List.mem_map.1 hu
  rfl

theorem run_append_empty {w : World} {v : Value} {l : List UInt8} {B : Nat} (hv : Own B w v l) (p : Option Addr) (c : Nat) : (Builtin.append_ #[24, 24] 24 #[v, .slice p 0 c]).run Try.prog w = .ok v w := by
  obtain ⟨i0, hi0, hz0, hz1, hz2⟩ := info_parts Try.info5
  rcases hv with ⟨rfl, rfl⟩ | ⟨g, cap, rfl, _, hl, _⟩
  · cases p <;> simp [Builtin.append_, run_underlying Try.underlying24, Go.sizeOf, typeInfo, hi0, Builtin.lenOf, Builtin.firstCells, loadCells, loadCellsFrom]
  · cases p <;> simp [Builtin.append_, run_underlying Try.underlying24, Go.sizeOf, typeInfo, hi0, Builtin.lenOf, Builtin.firstCells, hl, storeCells, loadCells, loadCellsFrom]

/-- THE LAW: whatever is appended. -/
theorem run_append_by {w : World} {B : Nat} {v x : Value} {l m : List UInt8} (hv : Own B w v l) (hx : By w x m) (hs : l.length + m.length ≤ 140737488355328) (hB : B ≤ w.heap.size) :
    ∃ v' w', (Builtin.append_ #[24, 24] 24 #[v, x]).run Try.prog w = .ok v' w' ∧ Own B w' v' (l ++ m) ∧ w.grownBy w' v.ownBlock ∧ Below B w w' ∧ (∀ k, v'.ownBlock = some k → v.ownBlock = some k ∨ w.heap.size ≤ k) := by
  obtain ⟨i0, hi0, hz0, hz1, hz2⟩ := info_parts Try.info5
  obtain ⟨p, c, rfl, hlc, hm, hn, hc⟩ := hx
  have hbv : Below B w w := Below.refl _ _
  by_cases h0 : m = []
  · subst h0
    exact ⟨v, w, run_append_empty hv p c, by simpa using hv, World.grownBy.refl w _, Below.refl _ _, fun k hk => .inl hk⟩
  · have hpos : 0 < m.length := List.length_pos_iff.2 h0
    rcases p with _ | ad
    · have := hn rfl
      omega
    · have hnews : ∀ j u, (m.map bv)[j]? = some u → w.cell? (ad.add j) = some u := fun j u hj => by
        rw [List.getElem?_map] at hj
        obtain ⟨x, hx, rfl⟩ := Option.map_eq_some_iff.1 hj
        exact hc ad rfl j x hx
      have hnl : (m.map bv).length = m.length * 1 := by simp
      rcases hv with ⟨rfl, rfl⟩ | ⟨g, cap, rfl, hBg, hl, hcm, hcell, hsome, hfr⟩
      · obtain ⟨v', w', hrun, ho, hg, _, hat⟩ := run_append_own_at (P := Try.prog) w B 24 24 5 i0 (.int .u8 0) 1 1 Try.underlying24 hi0 hz0 hz1 hz2 rfl (by decide) (.slice none 0 0) 0 [] (World.ownsRow_nil _ _ _ _) ad m.length c (m.map bv) hnl hnews (oneCell_bytes m) (by simp only [maxLen]; omega) (by omega) hB
        refine ⟨v', w', hrun, Own.of_row (by simpa using ho), hg, hbv.grown hg hB (fun k hk => by simp [Value.ownBlock] at hk), fun k hk => by
          rcases hat with e | e
          · exact .inl (e ▸ hk)
          · rw [e] at hk
            injection hk with hk
            exact .inr (by omega)⟩
      · by_cases hroom : l.length + m.length ≤ cap
        · have hr := run_append_room_cells (P := Try.prog) w 24 24 5 i0 Try.underlying24 hi0 g 0 l.length cap ad m.length c (m.map bv) (by rw [hz1]; exact hnl) hnews (oneCell_bytes m) hroom
            (fun j hj => by rw [hz1]; simp only [Nat.zero_add, Nat.mul_one]; exact hsome _ (by simp at hj; omega)) (fun j hj => by rw [hz1]; simp only [Nat.zero_add, Nat.mul_one]; exact hfr _ (by simp at hj; omega))
          rw [hz1] at hr
          simp only [Nat.zero_add, Nat.mul_one] at hr
          have hlen : (l ++ m).length = l.length + m.length := by simp
          refine ⟨_, _, hr, .inr ⟨g, cap, by rw [hlen], hBg, by omega, hcm, ?_, ?_, ?_⟩, by simpa [Value.ownBlock] using grown_setCells g (m.map bv) l.length w, below_setCells' hBg _ _ hbv, fun k hk => .inl hk⟩
          · intro i y hy
            by_cases hi : i < l.length
            · rw [List.getElem?_append_left hi] at hy
              rw [World.cell?_setCells_out g _ _ _ _ (fun _ _ => .inl hi)]
              exact hcell i y hy
            · rw [List.getElem?_append_right (by omega)] at hy
              have hj := (List.getElem?_eq_some_iff.1 hy).1
              have h := World.cell?_setCells_in g (m.map bv) l.length w (fun j hj => hsome _ (by simp at hj; omega)) (i - l.length) (by simp; omega)
              rw [show l.length + (i - l.length) = i by omega] at h
              rw [h, List.getElem_map]
              have := (List.getElem?_eq_some_iff.1 hy).2
              rw [this]
          · intro i hi
            exact World.isSome_setCells g _ _ _ _ (hsome i hi)
          · intro i hi
            rw [World.frozen?_setCells]
            exact hfr i hi
        · obtain ⟨v', w', hrun, ho, hg⟩ := run_append_arg_grows (P := Try.prog) w 24 24 5 i0 (.int .u8 0) 1 1 Try.underlying24 hi0 hz0 hz1 hz2 rfl (by decide) ⟨g, 0, none⟩ l.length cap (l.map bv) (by simp) (fun j u hj => by
              rw [List.getElem?_map] at hj
              obtain ⟨y, hy, rfl⟩ := Option.map_eq_some_iff.1 hj
              rw [add_lit0, Nat.zero_add]
              exact hcell j y hy) ad m.length c (m.map bv) hnl hnews (by omega) (by simp only [maxLen]; omega) (by omega)
          have hB' : Below B w w' := hbv.grown hg hB (fun k hk => by cases hk)
          have ho' : w'.ownsRow w.heap.size 5 1 v' (l ++ m).length ((l ++ m).map bv) := by simpa using ho
          exact ⟨v', w', hrun, (Own.of_row ho').mono hB, ⟨hg.os, hg.tape, hg.output, hg.size, fun k hk _ => hg.block k hk (by simp)⟩, hB', fun k hk => .inr (ho'.lt k hk).1⟩

/-- The same for the walk. -/
theorem wpList_append_by {w : World} {ops : Array Oper} {rest : List Oper} {o : Oper} {a : Act} {Q : Exit → Act → World → Prop} (hgd : o.guard = none) (s x : Operand)
    (ho : o.op = .call { callee := .builtin .append, args := #[s, x], argTypes := #[24, 24] }) (hty : o.type = 24) {B : Nat} {v y : Value} {l m : List UInt8}
    (hs : a.eval s = v) (hy : a.eval x = y) (hv : Own B w v l) (hx : By w y m) (hl : l.length + m.length ≤ 140737488355328) (hB : B ≤ w.heap.size)
    (h : ∀ v' w', Own B w' v' (l ++ m) → w.grownBy w' v.ownBlock → Below B w w' → (∀ k, v'.ownBlock = some k → v.ownBlock = some k ∨ w.heap.size ≤ k) → wpList Try.prog ops Q rest (a.put o.dst v') w') : wpList Try.prog ops Q (o :: rest) a w := by
  obtain ⟨v', w', hr, h1, h2, h3, h4⟩ := run_append_by hv hx hl hB
  exact Lib.wpList_append_run_sl w hgd s x 24 ho v y hs hy (by rw [hty]; exact hr) (h v' w' h1 h2 h3 h4)

/-- Onto a row that the kit's laws made: the same, kept as such a row. -/
theorem run_append_row_by {w : World} {B : Nat} {v x : Value} {l m : List UInt8} (hv : w.ownsRow B 5 1 v l.length (l.map bv)) (hx : By w x m) (hs : l.length + m.length ≤ 140737488355328) (hB : B ≤ w.heap.size) :
    ∃ v' w', (Builtin.append_ #[24, 24] 24 #[v, x]).run Try.prog w = .ok v' w' ∧ w'.ownsRow B 5 1 v' (l ++ m).length ((l ++ m).map bv) ∧ Below B w w' := by
  obtain ⟨i0, hi0, hz0, hz1, hz2⟩ := info_parts Try.info5
  obtain ⟨p, c, rfl, hlc, hm, hn, hc⟩ := hx
  by_cases h0 : m = []
  · subst h0
    exact ⟨v, w, run_append_empty (Own.of_row hv) p c, by simpa using hv, Below.refl _ _⟩
  · have hpos : 0 < m.length := List.length_pos_iff.2 h0
    rcases p with _ | ad
    · have := hn rfl
      omega
    · obtain ⟨v', w', hrun, ho, hg, _, hat⟩ := run_append_own_at (P := Try.prog) w B 24 24 5 i0 (.int .u8 0) 1 1 Try.underlying24 hi0 hz0 hz1 hz2 rfl (by decide) v l.length (l.map bv) hv ad m.length c (m.map bv) (by simp) (fun j u hj => by
        rw [List.getElem?_map] at hj
        obtain ⟨x, hx, rfl⟩ := Option.map_eq_some_iff.1 hj
        exact hc ad rfl j x hx) (oneCell_bytes m) (by simp only [maxLen]; omega) (by omega) hB
      exact ⟨v', w', hrun, by simpa using ho, (Below.refl _ _).grown hg hB fun k hk => (hv.lt k hk).1⟩

theorem wpList_append_row_by {w : World} {ops : Array Oper} {rest : List Oper} {o : Oper} {a : Act} {Q : Exit → Act → World → Prop} (hgd : o.guard = none) (s x : Operand)
    (ho : o.op = .call { callee := .builtin .append, args := #[s, x], argTypes := #[24, 24] }) (hty : o.type = 24) {B : Nat} {v y : Value} {l m : List UInt8}
    (hs : a.eval s = v) (hy : a.eval x = y) (hv : w.ownsRow B 5 1 v l.length (l.map bv)) (hx : By w y m) (hl : l.length + m.length ≤ 140737488355328) (hB : B ≤ w.heap.size)
    (h : ∀ v' w', w'.ownsRow B 5 1 v' (l ++ m).length ((l ++ m).map bv) → Below B w w' → wpList Try.prog ops Q rest (a.put o.dst v') w') : wpList Try.prog ops Q (o :: rest) a w := by
  obtain ⟨v', w', hr, h1, h2⟩ := run_append_row_by hv hx hl hB
  exact Lib.wpList_append_run_sl w hgd s x 24 ho v y hs hy (by rw [hty]; exact hr) (h v' w' h1 h2)
end Go.Proofs.Ytlmoiaeppehiiaa
