/- Spans of one trace leave the others; numbers put behind numbers. -/
import Derived.Test.YtimjplkehlgelaaSoFacts
namespace Go.Proofs.Ytimjplkehlgelaa
set_option linter.unusedVariables false
set_option linter.unusedSimpArgs false
open Go.RowKit

theorem put1_apart (S : List Pl) (x : Sp) {t : Int} (ht : t ≠ x.t) : fndK kP (put1 S x).1 t = fndK kP S t := by
  unfold put1
  cases fndK kP S x.t with
  | none =>
    dsimp only
    split
    · rfl
    · rw [fndK_ins]; exact if_neg (fun e : x.t = t => ht e.symm)
  | some y =>
    dsimp only
    rw [fndK_ins]; exact if_neg (fun e : x.t = t => ht e.symm)
theorem ing_apart (S : List Pl) (x : Sp) {t : Int} (ht : t ≠ x.t) : lookS (ingS S [x]) t = lookS S t := by
  unfold ingS
  split
  · have h : fndK kP (puts S [x]).1 t = fndK kP S t := put1_apart S x ht
    unfold lookS
    rw [h]
  · rfl

theorem Try.infoIn : (Try.prog.info? 3).map (fun i => (i.zero, i.size, i.bytes)) = some (some (.int .i64 0), 1, 8) := by kernel_rfl
theorem run_pushI_none {B n : Nat} {w : World} {v : Value} {l : List Int} (h : w.ownsRow B 3 1 v n (l.map (Value.int .i64))) (p : Option Addr) (c : Nat) : (Builtin.append_ #[37, 37] 37 #[v, .slice p 0 c]).run Try.prog w = .ok v w := by
  obtain ⟨i0, hi0, hz0, hz1, hz2⟩ := info_parts Try.infoIn
  obtain ⟨_, ⟨rfl, _⟩ | ⟨g, cap, cur, rfl, _, _, hl, _⟩⟩ := h
  · cases p <;> simp [Builtin.append_, run_underlying Try.underlying37, Go.sizeOf, typeInfo, hi0, Builtin.lenOf, Builtin.firstCells, loadCells, loadCellsFrom]
  · cases p <;> simp [Builtin.append_, run_underlying Try.underlying37, Go.sizeOf, typeInfo, hi0, Builtin.lenOf, Builtin.firstCells, hl, storeCells, loadCells, loadCellsFrom]
/-- 'append(a, b...)' of numbers. -/
theorem run_pushesI {B B' n m : Nat} {w : World} {v u : Value} {l k : List Int} (h : w.ownsRow B 3 1 v n (l.map (Value.int .i64))) (hu : w.ownsRow B' 3 1 u m (k.map (Value.int .i64))) (hB : B ≤ w.heap.size) (hs : n + m ≤ 1000000) :
    ∃ v' w', (Builtin.append_ #[37, 37] 37 #[v, u]).run Try.prog w = .ok v' w' ∧ w'.ownsRow B 3 1 v' (n + m) ((l ++ k).map (Value.int .i64)) ∧ Below B w w' := by
  obtain ⟨i0, hi0, hz0, hz1, hz2⟩ := info_parts Try.infoIn
  obtain ⟨p, c, rfl, hm, hmx, hcl⟩ := ints_row hu
  have hn : l.length = n := by have := h.1; simpa using this
  by_cases h0 : m = 0
  · subst h0
    obtain rfl : k = [] := List.eq_nil_of_length_eq_zero hm
    exact ⟨v, w, run_pushI_none h p c, by simpa using h, Below.refl _ _⟩
  · obtain ⟨g, rfl, hg, hx⟩ := hcl (by omega)
    obtain ⟨v', w', hr, h1, h2, _, h4⟩ := run_append_own_at (P := Try.prog) w B 37 37 3 i0 _ 1 8 Try.underlying37 hi0 hz0 hz1 hz2 rfl (by decide) v n (l.map (Value.int .i64)) h ⟨g, 0, none⟩ m c (k.map (Value.int .i64)) (by rw [List.length_map, hm]; omega)
      (fun j u hj => by
        rw [List.getElem?_map, Option.map_eq_some_iff] at hj
        obtain ⟨x, hxj, rfl⟩ := hj
        rw [add_lit0, Nat.zero_add]
        exact hx j x hxj)
      (by intro u hu; obtain ⟨x, _, rfl⟩ := List.mem_map.1 hu; rfl) (by simp only [maxLen]; omega) (by omega) hB
    refine ⟨v', w', hr, ?_, (Below.refl _ _).grown h2 hB fun k hk => (World.ownsRow.lt h k hk).1⟩
    rw [List.map_append]
    exact h1
theorem wpList_pushesI {w : World} {ops : Array Oper} {rest : List Oper} {o : Oper} {a : Act} {Q : Exit → Act → World → Prop} (hgd : o.guard = none) (s t : Operand)
    (ho : o.op = .call { callee := .builtin .append, args := #[s, t], argTypes := #[37, 37] }) (hty : o.type = 37) {B B' n m : Nat} {v u : Value} {l k : List Int}
    (hs : a.eval s = v) (ht : a.eval t = u) (h : w.ownsRow B 3 1 v n (l.map (Value.int .i64))) (hu : w.ownsRow B' 3 1 u m (k.map (Value.int .i64))) (hB : B ≤ w.heap.size) (hn : n + m ≤ 1000000)
    (hK : ∀ v' w', w'.ownsRow B 3 1 v' (n + m) ((l ++ k).map (Value.int .i64)) → Below B w w' → wpList Try.prog ops Q rest (a.put o.dst v') w') : wpList Try.prog ops Q (o :: rest) a w := by
  obtain ⟨v', w', hr, h1, h2⟩ := run_pushesI h hu hB hn
  exact Lib.wpList_append_run_sl _ hgd s t 37 ho v _ hs ht (by rw [hty]; exact hr) (hK v' w' h1 h2)
end Go.Proofs.Ytimjplkehlgelaa
