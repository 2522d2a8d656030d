/- What becomes of byte slices in memory: appended to, cut, written. -/
import Derived.Test.YtdghkmpcjjmlfaaBase
import Derived.Deep.MidRow
import Derived.WalkLawsBesides
import Derived.WalkSpells
import Derived.Outline
import Derived.Laws.IdiomAt
import Derived.Deep.LoopGhost
import Derived.Deep.AppendLies
import Derived.Lib.AppendStr
import Derived.Deep.QuietTactic
import Derived.BigQuiet
import Derived.LoopTactic
import Derived.Maps.AppendAt
import Derived.BigGuard
namespace Go.Proofs.Ytdghkmpcjjmlfaa
open Go.RowKit

theorem Try.info5 : (Try.prog.info? 5).map (fun i => (i.zero, i.size, i.bytes)) = some (some (.int .u8 0), 1, 1) := by kernel_rfl

theorem oneCell_bytes (l : List UInt8) : ∀ u ∈ l.map bv, u.oneCell' = true := by
  intro u hu
  obtain ⟨x, _, rfl⟩ := List.mem_map.1 hu
  rfl

theorem below_setCells' {B b : Nat} {a : World} (hb : B ≤ b) : ∀ (vs : List Value) (o : Nat) {w : World}, Below B a w → Below B a (w.setCells b o vs)
  | [], _, _, h => h
  | _ :: vs, o, _, h => below_setCells' hb vs (o + 1) (h.setCell (p := ⟨b, o, none⟩) hb _)

theorem grown_setCells (b : Nat) : ∀ (vs : List Value) (o : Nat) (w : World), w.grownBy (w.setCells b o vs) (some b)
  | [], _, w => World.grownBy.refl w _
  | v :: vs, o, w => by
    have h1 : w.grownBy (w.setCell ⟨b, o, none⟩ v) (some b) := ⟨rfl, rfl, rfl, by simp [World.setCell], fun k _ hk => heap_setCell_other w ⟨b, o, none⟩ k v (fun e => hk (by simp [e]))⟩
    have h2 := grown_setCells b vs (o + 1) (w.setCell ⟨b, o, none⟩ v)
    exact ⟨h2.os.trans h1.os, h2.tape.trans h1.tape, h2.output.trans h1.output, Nat.le_trans h1.size h2.size, fun k hk hne => (h2.block k (Nat.lt_of_lt_of_le hk h1.size) hne).trans (h1.block k hk hne)⟩

theorem run_append_empty {w : World} {v : Value} {l : List UInt8} {B : Nat} (hv : Own B w v l) (p : Option Addr) (c : Nat) : (Builtin.append_ #[32, 32] 32 #[v, .slice p 0 c]).run Try.prog w = .ok v w := by
  obtain ⟨i0, hi0, hz0, hz1, hz2⟩ := info_parts Try.info5
  rcases hv with ⟨rfl, rfl⟩ | ⟨g, cap, rfl, _, hl, _⟩
  · cases p <;> simp [Builtin.append_, run_underlying Try.underlying32, Go.sizeOf, typeInfo, hi0, Builtin.lenOf, Builtin.firstCells, loadCells, loadCellsFrom]
  · cases p <;> simp [Builtin.append_, run_underlying Try.underlying32, Go.sizeOf, typeInfo, hi0, Builtin.lenOf, Builtin.firstCells, hl, storeCells, loadCells, loadCellsFrom]

/-- THE LAW: whatever is appended. -/
theorem run_append_by {w : World} {B : Nat} {v x : Value} {l m : List UInt8} (hv : Own B w v l) (hx : By w x m) (hs : l.length + m.length ≤ 140737488355328) (hB : B ≤ w.heap.size) :
    ∃ v' w', (Builtin.append_ #[32, 32] 32 #[v, x]).run Try.prog w = .ok v' w' ∧ Own B w' v' (l ++ m) ∧ w.grownBy w' v.ownBlock ∧ Below B w w' ∧ (∀ k, v'.ownBlock = some k → v.ownBlock = some k ∨ w.heap.size ≤ k) := by
  obtain ⟨i0, hi0, hz0, hz1, hz2⟩ := info_parts Try.info5
  obtain ⟨p, c, rfl, hlc, hm, hn, hc⟩ := hx
  have hbv : Below B w w := Below.refl _ _
  by_cases h0 : m = []
  · subst h0
    exact ⟨v, w, run_append_empty hv p c, by simpa using hv, World.grownBy.refl w _, Below.refl _ _, fun k hk => .inl hk⟩
  · have hpos : 0 < m.length := List.length_pos_iff.2 h0
    rcases p with _ | ad
    · have := hn rfl
      omega
    · have hnews : ∀ j u, (m.map bv)[j]? = some u → w.cell? (ad.add j) = some u := fun j u hj => by
        rw [List.getElem?_map] at hj
        obtain ⟨x, hx, rfl⟩ := Option.map_eq_some_iff.1 hj
        exact hc ad rfl j x hx
      have hnl : (m.map bv).length = m.length * 1 := by simp
      rcases hv with ⟨rfl, rfl⟩ | ⟨g, cap, rfl, hBg, hl, hcm, hcell, hsome, hfr⟩
      · obtain ⟨v', w', hrun, ho, hg, _, hat⟩ := run_append_own_at (P := Try.prog) w B 32 32 5 i0 (.int .u8 0) 1 1 Try.underlying32 hi0 hz0 hz1 hz2 rfl (by decide) (.slice none 0 0) 0 [] (World.ownsRow_nil _ _ _ _) ad m.length c (m.map bv) hnl hnews (oneCell_bytes m) (by simp only [maxLen]; omega) (by omega) hB
        refine ⟨v', w', hrun, Own.of_row (by simpa using ho), hg, hbv.grown hg hB (fun k hk => by simp [Value.ownBlock] at hk), fun k hk => by
          rcases hat with e | e
          · exact .inl (e ▸ hk)
          · rw [e] at hk
            injection hk with hk
            exact .inr (by omega)⟩
      · by_cases hroom : l.length + m.length ≤ cap
        · have hr := run_append_room_cells (P := Try.prog) w 32 32 5 i0 Try.underlying32 hi0 g 0 l.length cap ad m.length c (m.map bv) (by rw [hz1]; exact hnl) hnews (oneCell_bytes m) hroom
            (fun j hj => by rw [hz1]; simp only [Nat.zero_add, Nat.mul_one]; exact hsome _ (by simp at hj; omega)) (fun j hj => by rw [hz1]; simp only [Nat.zero_add, Nat.mul_one]; exact hfr _ (by simp at hj; omega))
          rw [hz1] at hr
          simp only [Nat.zero_add, Nat.mul_one] at hr
          have hlen : (l ++ m).length = l.length + m.length := by simp
          refine ⟨_, _, hr, .inr ⟨g, cap, by rw [hlen], hBg, by omega, hcm, ?_, ?_, ?_⟩, by simpa [Value.ownBlock] using grown_setCells g (m.map bv) l.length w, below_setCells' hBg _ _ hbv, fun k hk => .inl hk⟩
          · intro i y hy
            by_cases hi : i < l.length
            · rw [List.getElem?_append_left hi] at hy
              rw [World.cell?_setCells_out g _ _ _ _ (fun _ _ => .inl hi)]
              exact hcell i y hy
            · rw [List.getElem?_append_right (by omega)] at hy
              have hj := (List.getElem?_eq_some_iff.1 hy).1
              have h := World.cell?_setCells_in g (m.map bv) l.length w (fun j hj => hsome _ (by simp at hj; omega)) (i - l.length) (by simp; omega)
              rw [show l.length + (i - l.length) = i by omega] at h
              rw [h, List.getElem_map]
              have := (List.getElem?_eq_some_iff.1 hy).2
              rw [this]
          · intro i hi
            exact World.isSome_setCells g _ _ _ _ (hsome i hi)
          · intro i hi
            rw [World.frozen?_setCells]
            exact hfr i hi
        · obtain ⟨v', w', hrun, ho, hg⟩ := run_append_arg_grows (P := Try.prog) w 32 32 5 i0 (.int .u8 0) 1 1 Try.underlying32 hi0 hz0 hz1 hz2 rfl (by decide) ⟨g, 0, none⟩ l.length cap (l.map bv) (by simp) (fun j u hj => by
              rw [List.getElem?_map] at hj
              obtain ⟨y, hy, rfl⟩ := Option.map_eq_some_iff.1 hj
              rw [add_lit0, Nat.zero_add]
              exact hcell j y hy) ad m.length c (m.map bv) hnl hnews (by omega) (by simp only [maxLen]; omega) (by omega)
          have hB' : Below B w w' := hbv.grown hg hB (fun k hk => by cases hk)
          have ho' : w'.ownsRow w.heap.size 5 1 v' (l ++ m).length ((l ++ m).map bv) := by simpa using ho
          exact ⟨v', w', hrun, (Own.of_row ho').mono hB, ⟨hg.os, hg.tape, hg.output, hg.size, fun k hk _ => hg.block k hk (by simp)⟩, hB', fun k hk => .inr (ho'.lt k hk).1⟩

/-- The same for the walk. -/
theorem wpList_append_by {w : World} {ops : Array Oper} {rest : List Oper} {o : Oper} {a : Act} {Q : Exit → Act → World → Prop} (hgd : o.guard = none) (s x : Operand)
    (ho : o.op = .call { callee := .builtin .append, args := #[s, x], argTypes := #[32, 32] }) (hty : o.type = 32) {B : Nat} {v y : Value} {l m : List UInt8}
    (hs : a.eval s = v) (hy : a.eval x = y) (hv : Own B w v l) (hx : By w y m) (hl : l.length + m.length ≤ 140737488355328) (hB : B ≤ w.heap.size)
    (h : ∀ v' w', Own B w' v' (l ++ m) → w.grownBy w' v.ownBlock → Below B w w' → (∀ k, v'.ownBlock = some k → v.ownBlock = some k ∨ w.heap.size ≤ k) → wpList Try.prog ops Q rest (a.put o.dst v') w') : wpList Try.prog ops Q (o :: rest) a w := by
  obtain ⟨v', w', hr, h1, h2, h3, h4⟩ := run_append_by hv hx hl hB
  exact Lib.wpList_append_run_sl w hgd s x 32 ho v y hs hy (by rw [hty]; exact hr) (h v' w' h1 h2 h3 h4)

/-- Onto a row that the kit's laws made: the same, kept as such a row. -/
theorem run_append_row_by {w : World} {B : Nat} {v x : Value} {l m : List UInt8} (hv : w.ownsRow B 5 1 v l.length (l.map bv)) (hx : By w x m) (hs : l.length + m.length ≤ 140737488355328) (hB : B ≤ w.heap.size) :
    ∃ v' w', (Builtin.append_ #[32, 32] 32 #[v, x]).run Try.prog w = .ok v' w' ∧ w'.ownsRow B 5 1 v' (l ++ m).length ((l ++ m).map bv) ∧ Below B w w' := by
  obtain ⟨i0, hi0, hz0, hz1, hz2⟩ := info_parts Try.info5
  obtain ⟨p, c, rfl, hlc, hm, hn, hc⟩ := hx
  by_cases h0 : m = []
  · subst h0
    exact ⟨v, w, run_append_empty (Own.of_row hv) p c, by simpa using hv, Below.refl _ _⟩
  · have hpos : 0 < m.length := List.length_pos_iff.2 h0
    rcases p with _ | ad
    · have := hn rfl
      omega
    · obtain ⟨v', w', hrun, ho, hg, _, hat⟩ := run_append_own_at (P := Try.prog) w B 32 32 5 i0 (.int .u8 0) 1 1 Try.underlying32 hi0 hz0 hz1 hz2 rfl (by decide) v l.length (l.map bv) hv ad m.length c (m.map bv) (by simp) (fun j u hj => by
        rw [List.getElem?_map] at hj
        obtain ⟨x, hx, rfl⟩ := Option.map_eq_some_iff.1 hj
        exact hc ad rfl j x hx) (oneCell_bytes m) (by simp only [maxLen]; omega) (by omega) hB
      exact ⟨v', w', hrun, by simpa using ho, (Below.refl _ _).grown hg hB fun k hk => (hv.lt k hk).1⟩

theorem wpList_append_row_by {w : World} {ops : Array Oper} {rest : List Oper} {o : Oper} {a : Act} {Q : Exit → Act → World → Prop} (hgd : o.guard = none) (s x : Operand)
    (ho : o.op = .call { callee := .builtin .append, args := #[s, x], argTypes := #[32, 32] }) (hty : o.type = 32) {B : Nat} {v y : Value} {l m : List UInt8}
    (hs : a.eval s = v) (hy : a.eval x = y) (hv : w.ownsRow B 5 1 v l.length (l.map bv)) (hx : By w y m) (hl : l.length + m.length ≤ 140737488355328) (hB : B ≤ w.heap.size)
    (h : ∀ v' w', w'.ownsRow B 5 1 v' (l ++ m).length ((l ++ m).map bv) → Below B w w' → wpList Try.prog ops Q rest (a.put o.dst v') w') : wpList Try.prog ops Q (o :: rest) a w := by
  obtain ⟨v', w', hr, h1, h2⟩ := run_append_row_by hv hx hl hB
  exact Lib.wpList_append_run_sl w hgd s x 32 ho v y hs hy (by rw [hty]; exact hr) (h v' w' h1 h2)

/-- What a number behind bytes is. -/
theorem row_made0 (w : World) : (w.alloc (.cells #[] 5)).ownsRow w.heap.size 5 1 (.slice (some ⟨w.heap.size, 0, none⟩) 0 0) ([] : List UInt8).length (([] : List UInt8).map bv) := World.ownsRow_made w #[] 0 (Nat.le_refl _) (Nat.zero_le _) rfl

theorem row_below {w w' : World} {B n : Nat} {e : TypeId} {v : Value} {xs : List Value} (h : w.ownsRow B e 1 v n xs) (hb : Below w.heap.size w w') : w'.ownsRow B e 1 v n xs :=
  h.kept (row := none) ⟨hb.os, hb.tape, hb.output, hb.size, fun k hk _ => hb.block k hk⟩ (by cases v.ownBlock <;> simp)

theorem By.sl {w : World} {v : Value} {l : List UInt8} (h : By w v l) : ∃ p n c, v = .slice p n c := by
  obtain ⟨p, c, e, _⟩ := h
  exact ⟨p, _, c, e⟩

theorem By.len {w : World} {p : Option Addr} {n c : Nat} {l : List UInt8} (h : By w (.slice p n c) l) : n = l.length ∧ n ≤ c := by
  obtain ⟨p', c', e, hl, _⟩ := h
  injection e with _ e2 e3
  subst e2 e3
  exact ⟨rfl, hl⟩

/-- An owned slice of a byte or more: its shape, its first byte. -/
theorem Own.head {B : Nat} {w : World} {v : Value} {l : List UInt8} (h : Own B w v l) (hl : 0 < l.length) :
    ∃ (g n cap : Nat) (x : UInt8), v = .slice (some ⟨g, 0, none⟩) n cap ∧ (0 : Int) < (n : Int) ∧ B ≤ g ∧ g < w.heap.size ∧ w.cell? ⟨g, 0, none⟩ = some (.int .u8 (x.toNat : Int)) ∧ w.frozen? ⟨g, 0, none⟩ = false := by
  rcases h with ⟨rfl, rfl⟩ | ⟨g, cap, rfl, hB, hlc, hm, hc, hs, hf⟩
  · simp at hl
  · have h0 : l[0]? = some l[0] := List.getElem?_eq_getElem hl
    exact ⟨g, _, cap, l[0], rfl, by omega, hB, lt_of_cell (hc 0 _ h0), hc 0 _ h0, hf 0 (by omega)⟩

/-- What a row's opening of a []byte hands over, as a slice of bytes. -/
theorem by_of_row {w : World} {a : Option Addr} {len cap : Nat} {zs : List Int}
    (h : (a = none ∧ len = 0 ∧ cap = 0 ∧ zs = []) ∨ ∃ x, a = some x ∧ len ≤ cap ∧ cap ≤ maxLen ∧ zs.length = cap ∧ (∀ i, i < zs.length → w.cell? (x.add i) = some (.int .u8 (zs.getD i 0))) ∧ ∀ n ∈ zs, (Lit.int .u8 n).wf = true) :
    ∃ l : List UInt8, l.length = len ∧ By w (.slice a len cap) l := by
  rcases h with ⟨rfl, rfl, rfl, rfl⟩ | ⟨x, rfl, hl, hm, hz, hc, hw⟩
  · exact ⟨[], rfl, By.nil w⟩
  · have hln : (Lib.bytesOf (zs.take len)).length = len := by simp [Lib.bytesOf]; omega
    refine ⟨Lib.bytesOf (zs.take len), hln, some x, cap, by rw [hln], by rw [hln]; exact hl, hm, (fun e => by cases e), fun b e i y hy => ?_⟩
    injection e with e
    subst e
    have hi : i < len := by rw [← hln]; exact (List.getElem?_eq_some_iff.1 hy).1
    rw [hc i (by omega)]
    have hiz : i < zs.length := by omega
    simp only [Lib.bytesOf, List.getElem?_map, List.getElem?_take, hi, if_true, List.getElem?_eq_getElem hiz, Option.map_some, Option.some.injEq] at hy
    have hwf := hw zs[i] (List.getElem_mem hiz)
    have h1 : IntKind.u8.min = 0 := rfl
    have h2 : IntKind.u8.max = 255 := rfl
    simp only [Lit.wf, Bool.and_eq_true, decide_eq_true_eq] at hwf
    simp only [List.getD, List.getElem?_eq_getElem hiz, Option.getD_some, Option.some.injEq, bv, Value.int.injEq, true_and]
    rw [← hy]
    simp
    omega

/-! ## The program's -/

theorem By.lenMax {w : World} {p : Option Addr} {n c : Nat} {l : List UInt8} (h : By w (.slice p n c) l) : (n : Int) ≤ 9223372036854775807 := by
  obtain ⟨p', c', e, hl, hm, _⟩ := h
  injection e with _ e2 e3
  unfold maxLen at hm
  omega

theorem size_alloc' (w : World) (o : Obj) : (w.alloc o).heap.size = w.heap.size + 1 := by simp

theorem balloc {a w : World} (h : Below a.heap.size a w) (o : Obj) : Below a.heap.size a (w.alloc o) := h.alloc h.size o

theorem below_drewN {B : Nat} {a w : World} (h : Below B a w) (n : Nat) : Below B a (w.drewN n) := h.trans ⟨rfl, rfl, rfl, Nat.le_refl _, fun _ _ => rfl⟩

theorem grown_drewN {w w' : World} {row : Option Nat} (h : w.grownBy w' row) (n : Nat) : w.grownBy (w'.drewN n) row := ⟨h.os, h.tape, h.output, h.size, h.block⟩

theorem elemB : Try.prog.elem 32 = 5 := by simp [Program.elem, Try.underlying32]

theorem underB' : Try.prog.underlying 32 = some (.slice (Try.prog.elem 32)) := by rw [elemB]; exact Try.underlying32

/-- 's[k:]'. -/
theorem cut_from {w : World} {p : Option Addr} {n c : Nat} {l : List UInt8} (h : By w (.slice p n c) l) {k : Nat} (hk : k ≤ n) :
    ∃ q, (∀ W : World, (Instr.slice 32 (.slice p n c) (some (.int .i64 (k : Int))) none none).run Try.prog W = .ok (.slice q (n - k) (c - k)) W) ∧ By w (.slice q (n - k) (c - k)) (l.drop k) := by
  have hn := h.len
  obtain ⟨p', c', e, hl, hm, hno, hc⟩ := h
  injection e with e1 e2 e3
  subst e1 e3
  refine ⟨if c = k then p else p.map (·.add k), fun W => ?_, ?_⟩
  · rw [run_slice_l W 32 _ _ _ underB' .i64 _ (by omega) (by omega), elemB, Try.sizeOf5]
    have e4 : ((k : Int)).toNat = k := by omega
    simp only [e4, Result.andThen, sliced, Nat.mul_one]
  · refine ⟨if c = k then p else p.map (·.add k), c - k, ?_, by rw [List.length_drop]; omega, by omega, ?_, fun a ea i x hx => ?_⟩
    · rw [List.length_drop, hn.1]
    · intro hq
      split at hq
      · rename_i hck
        omega
      · rcases p with _ | a
        · have := hno rfl
          omega
        · simp at hq
    · rw [List.getElem?_drop] at hx
      have hlt := (List.getElem?_eq_some_iff.1 hx).1
      rw [if_neg (by omega)] at ea
      rcases p with _ | a0
      · simp at ea
      · simp only [Option.map_some, Option.some.injEq] at ea
        subst ea
        have hadd : (a0.add k).add i = a0.add (k + i) := by
          unfold Addr.add
          by_cases hk0 : k = 0 <;> by_cases hi : i = 0 <;> simp [hk0, hi, Nat.add_assoc]
        rw [hadd]
        exact hc a0 rfl _ x hx

/-- 's[:k]'. -/
theorem cut_to {w : World} {p : Option Addr} {n c : Nat} {l : List UInt8} (h : By w (.slice p n c) l) {k : Nat} (hk : k ≤ n) : By w (.slice p k c) (l.take k) := by
  have hn := h.len
  obtain ⟨p', c', e, hl, hm, hno, hc⟩ := h
  injection e with e1 e2 e3
  subst e1 e3
  have hlk : (l.take k).length = k := by rw [List.length_take]; omega
  refine ⟨p, c, by rw [hlk], by omega, hm, hno, fun a ea i x hx => hc a ea i x ?_⟩
  rw [List.getElem?_take] at hx
  split at hx
  · exact hx
  · cases hx

theorem run_cut_to (W : World) (p : Option Addr) (n c k : Nat) (hk : k ≤ c) : (Instr.slice 32 (.slice p n c) none (some (.int .i64 (k : Int))) none).run Try.prog W = .ok (.slice p k c) W := by
  rw [run_slice_h W 32 _ _ _ underB' .i64 _ (by omega) (by omega), elemB, Try.sizeOf5]
  have e4 : ((k : Int)).toNat = k := by omega
  rcases p with _ | a
  · simp [Result.andThen, sliced, e4]
  · by_cases hc : c = 0
    · simp [Result.andThen, sliced, e4, hc]
    · simp [Result.andThen, sliced, e4, Addr.add]

/-- 's[j:k]'. -/
theorem cut_mid {w : World} {p : Option Addr} {n c : Nat} {l : List UInt8} (h : By w (.slice p n c) l) {j k : Nat} (hjk : j ≤ k) (hk : k ≤ n) :
    ∃ q, (∀ W : World, (Instr.slice 32 (.slice p n c) (some (.int .i64 (j : Int))) (some (.int .i64 (k : Int))) none).run Try.prog W = .ok (.slice q (k - j) (c - j)) W) ∧ By w (.slice q (k - j) (c - j)) ((l.take k).drop j) := by
  have hn := h.len
  obtain ⟨q, hr, hb⟩ := cut_from (cut_to h hk) hjk
  refine ⟨if c = j then p else p.map (·.add j), fun W => ?_, ?_⟩
  · rw [run_slice_lh W 32 _ _ _ underB' .i64 .i64 _ _ (by omega) (by omega) (by omega), elemB, Try.sizeOf5]
    have e4 : ((j : Int)).toNat = j := by omega
    have e5 : ((k : Int)).toNat = k := by omega
    simp only [e4, e5, Result.andThen, sliced, Nat.mul_one]
  · have h2 := hr w
    rw [run_slice_l w 32 _ _ _ underB' .i64 _ (by omega) (by omega), elemB, Try.sizeOf5] at h2
    have e4 : ((j : Int)).toNat = j := by omega
    simp only [e4, Result.andThen, sliced, Nat.mul_one, Result.ok.injEq, Value.slice.injEq, and_true] at h2
    rw [h2]
    exact hb

/-- A value's bytes stay where another row alone is written. -/
theorem By.grown {w w' : World} {v : Value} {l : List UInt8} {row : Option Nat} (h : By w v l) (hg : w.grownBy w' row) (hne : l = [] ∨ ∀ k, v.ownBlock = some k → row ≠ some k) : By w' v l := by
  obtain ⟨p, cap, rfl, hl, hm, hn, hc⟩ := h
  refine ⟨p, cap, rfl, hl, hm, hn, fun a e i x hx => ?_⟩
  rcases hne with rfl | hne
  · simp at hx
  · subst e
    refine hg.cell (hc a rfl i x hx) ?_
    rw [block_add]
    exact fun e => hne a.block rfl e.symm

theorem Own.lt {B : Nat} {w : World} {v : Value} {l : List UInt8} (h : Own B w v l) (hl : 0 < l.length) : ∀ k, v.ownBlock = some k → B ≤ k ∧ k < w.heap.size := by
  intro k hk
  rcases h with ⟨rfl, rfl⟩ | ⟨g, cap, rfl, hB, hlc, hm, hc, hs, hf⟩
  · simp at hl
  · simp only [Value.ownBlock, Option.some.injEq] at hk
    subst hk
    exact ⟨hB, lt_of_cell (hc 0 l[0] (List.getElem?_eq_getElem hl))⟩

theorem Own.grown {B : Nat} {w w' : World} {v : Value} {l : List UInt8} {row : Option Nat} (h : Own B w v l) (hg : w.grownBy w' row) (hne : ∀ k, v.ownBlock = some k → row ≠ some k) : Own B w' v l := by
  rcases h with h | ⟨g, cap, rfl, hB, hlc, hm, hc, hs, hf⟩
  · exact .inl h
  · refine .inr ⟨g, cap, rfl, hB, hlc, hm, ?_⟩
    by_cases h0 : cap = 0
    · subst h0
      obtain rfl : l = [] := List.eq_nil_of_length_eq_zero (by omega)
      exact ⟨fun i x hx => by simp at hx, fun i hi => by omega, fun i hi => by omega⟩
    · have hlt : g < w.heap.size := by
        obtain ⟨u, hu⟩ := Option.isSome_iff_exists.1 (hs 0 (by omega))
        exact lt_of_cell hu
      have hb : w'.heap[g]? = w.heap[g]? := hg.block g hlt (fun e => hne g rfl e.symm)
      have hcell : ∀ i, w'.cell? ⟨g, i, none⟩ = w.cell? ⟨g, i, none⟩ := fun i => by simp only [World.cell?, hb]
      have hfr : ∀ i, w'.frozen? ⟨g, i, none⟩ = w.frozen? ⟨g, i, none⟩ := fun i => by simp only [World.frozen?, hb]
      exact ⟨fun i x hx => by rw [hcell]; exact hc i x hx, fun i hi => by rw [hcell]; exact hs i hi, fun i hi => by rw [hfr]; exact hf i hi⟩

/-- A byte of an owned slice, and what is owned behind a store there. -/
theorem Own.cellAt {B : Nat} {w : World} {p : Option Addr} {n c : Nat} {l : List UInt8} (h : Own B w (.slice p n c) l) {j : Nat} (hj : j < n) :
    ∃ (g : Nat) (y : UInt8), p = some ⟨g, 0, none⟩ ∧ B ≤ g ∧ l[j]? = some y ∧ w.cell? ⟨g, j, none⟩ = some (.int .u8 (y.toNat : Int)) ∧ w.frozen? ⟨g, j, none⟩ = false ∧
      ∀ u : UInt8, Own B (w.setCell ⟨g, j, none⟩ (.int .u8 (u.toNat : Int))) (.slice p n c) (l.set j u) := by
  rcases h with ⟨e, rfl⟩ | ⟨g, cap, e, hB, hl, hm, hc, hs, hf⟩
  · injection e with _ e2 _
    omega
  · injection e with e1 e2 e3
    subst e1 e3
    have hjl : j < l.length := by omega
    have hcj := hc j _ (List.getElem?_eq_getElem hjl)
    refine ⟨g, l[j], rfl, hB, List.getElem?_eq_getElem hjl, hcj, hf j (by omega), fun u => .inr ⟨g, c, by rw [List.length_set, e2], hB, by rw [List.length_set]; exact hl, hm, fun i x hx => ?_, fun i hi => ?_, fun i hi => ?_⟩⟩
    · by_cases hij : i = j
      · subst hij
        rw [List.getElem?_set_self hjl] at hx
        injection hx with hx
        subst hx
        rw [World.cell?_setCell_same (h := hcj)]
        rfl
      · rw [List.getElem?_set_ne (by omega)] at hx
        rw [World.cell?_setCell_other _ _ _ _ (by intro h; injection h with _ h; omega)]
        exact hc i x hx
    · by_cases hij : i = j
      · subst hij
        rw [World.cell?_setCell_same (h := hcj)]
        rfl
      · rw [World.cell?_setCell_other _ _ _ _ (by intro h; injection h with _ h; omega)]
        exact hs i hi
    · rw [World.frozen?_setCell]
      exact hf i hi

/-- Bytes as a text. -/
def str (l : List UInt8) : ByteArray := strOfNums (Lib.numsL l)

theorem str_eq (l : List UInt8) : str l = ⟨l.toArray⟩ := by
  show (⟨(Lib.bytesOf (Lib.numsL l)).toArray⟩ : ByteArray) = _
  rw [Lib.bytesOf_numsL]

theorem str_inj {a b : List UInt8} : str a = str b ↔ a = b := by
  rw [str_eq, str_eq]
  simp

theorem str_beq (a b : List UInt8) : ((str a).toList == (str b).toList) = decide (a = b) := by
  rw [← beq_toListBytes, Bool.eq_iff_iff, str_eq, str_eq, decide_eq_true_eq]
  show (a.toArray == b.toArray) = true ↔ a = b
  simp

theorem conv_by {w : World} {p : Option Addr} {n c : Nat} {l : List UInt8} (h : By w (.slice p n c) l) (q : Nat) : (convert 32 9 (.slice p n c)).run Try.prog (w.drewN q) = .ok (.string (str l)) (w.drewN q) := by
  have h' : By (w.drewN q) (.slice p n c) l := h
  obtain ⟨b, hl⟩ := h'.bytesIn
  exact b.convert hl c 32 5 9 Try.underlying32 Try.underlying5 Try.underlying9

theorem conv_at {w : World} {p : Option Addr} {n c : Nat} {l : List UInt8} (h : By w (.slice p n c) l) : (convert 32 9 (.slice p n c)).run Try.prog w = .ok (.string (str l)) w := conv_by h 0

theorem gtrans {a b c : World} {row : Option Nat} (h : a.grownBy b row) (h' : b.grownBy c row) : a.grownBy c row :=
  ⟨h'.os.trans h.os, h'.tape.trans h.tape, h'.output.trans h.output, Nat.le_trans h.size h'.size, fun k hk hr => (h'.block k (Nat.lt_of_lt_of_le hk h.size) hr).trans (h.block k hk hr)⟩

theorem grown_set (w : World) (g i : Nat) (x : Value) : w.grownBy (w.setCell ⟨g, i, none⟩ x) (some g) :=
  ⟨rfl, rfl, rfl, by simp [World.setCell], fun j _ hj => heap_setCell_other w ⟨g, i, none⟩ j _ (fun e => hj (by rw [e]))⟩

theorem quiet_same {f : FuncId} {args : Array Value} {w : World} {n : Nat} {v : Value}
    (h : Calls Try.prog f args (w.drewN n) fun e w' => e = .returned v ∧ w.drewN n = w') : Calls Try.prog f args (w.drewN n) fun e w'' => e = .returned v ∧ ∃ m, w'' = w.drewN m :=
  h.mono fun _ _ ⟨he, hm⟩ => ⟨he, n, hm.symm⟩

/-- What is owned lies in no block that is still to come. -/
theorem Own.notNew {B : Nat} {w : World} {v : Value} {l : List UInt8} (h : Own B w v l) : l = [] ∨ ∀ k, v.ownBlock = some k → some w.heap.size ≠ some k := by
  rcases h with ⟨_, rfl⟩ | ⟨g, cap, rfl, _, _, _, hc, _⟩
  · exact .inl rfl
  · cases l with
    | nil => exact .inl rfl
    | cons x r =>
      refine .inr fun k hk e => ?_
      simp only [Value.ownBlock, Option.some.injEq] at hk
      injection e with e
      subst hk
      have := lt_of_cell (hc 0 x rfl)
      simp only at this
      omega

theorem str_size (l : List UInt8) : (str l).size = l.length := by rw [str_eq]; rfl

theorem str_list (l : List UInt8) : (str l).data.toList = l := by rw [str_eq]
end Go.Proofs.Ytdghkmpcjjmlfaa
