/- Slices of byte slices that are gathered one by one. -/
import Derived.Test.YtllpminhcfbkcabScan
namespace Go.Proofs.Ytllpminhcfbkcab
set_option linter.unusedVariables false
set_option linter.unusedSimpArgs false
open Go.RowKit

/-- Where a value's bytes lie: not in the row of v, and in a block that is there. -/
def Apart (w : World) (v u : Value) (l : List UInt8) : Prop := l = [] ∨ ∀ k, u.ownBlock = some k → v.ownBlock ≠ some k ∧ k < w.heap.size

/-- The row v of slices, made by the call: its cells' values read as the lists xs, and lie elsewhere. -/
def Gath (B : Nat) (w : World) (v : Value) (xs : List (List UInt8)) : Prop :=
  ∃ us : List Value, us.length = xs.length ∧ w.ownsRow B 31 1 v xs.length us ∧ ∀ (i : Nat) u x, us[i]? = some u → xs[i]? = some x → By w u x ∧ Apart w v u x ∧ u.oneCell' = true

theorem Gath.nil (B : Nat) (w : World) : Gath B w (.slice none 0 0) [] := ⟨[], rfl, World.ownsRow_nil _ _ _ _, fun i u x hu => by simp at hu⟩

theorem Gath.below {B : Nat} {w w' : World} {v : Value} {xs : List (List UInt8)} (h : Gath B w v xs) (hb : Below w.heap.size w w') : Gath B w' v xs := by
  obtain ⟨us, hl, ho, hu⟩ := h
  refine ⟨us, hl, row_below ho hb, fun i u x h1 h2 => ?_⟩
  obtain ⟨g1, g2, g3⟩ := hu i u x h1 h2
  refine ⟨g1.below hb, ?_, g3⟩
  rcases g2 with g2 | g2
  · exact .inl g2
  · exact .inr fun k hk => ⟨(g2 k hk).1, Nat.lt_of_lt_of_le (g2 k hk).2 hb.size⟩

theorem Gath.bss {B : Nat} {w : World} {v : Value} {xs : List (List UInt8)} (h : Gath B w v xs) : Bss w v xs := by
  obtain ⟨us, hl, ho, hu⟩ := h
  rcases ho.2 with ⟨rfl, h0⟩ | ⟨g, cap, cur, rfl, hB, hg, hlc, hm, hs, ht⟩
  · obtain rfl : xs = [] := List.eq_nil_of_length_eq_zero h0
    exact Bss.nil w
  · refine Bss.of_parts (o := 0) rfl hlc hm hl (fun i u hi => ?_) fun i u x h1 h2 => (hu i u x h1 h2).1
    have := ho.cells (g := g) rfl i u hi
    rwa [add_lit0] at this

theorem Try.info31 : (Try.prog.info? 31).map (fun i => (i.zero, i.size, i.bytes)) = some (some (.slice none 0 0), 1, 24) := by kernel_rfl

/-- One more: 'rows = append(rows, p)'. -/
theorem run_gather {B : Nat} {w : World} {v : Value} {xs : List (List UInt8)} (h : Gath B w v xs) {q : Option Addr} {m c : Nat} {x : List UInt8} (hx : By w (.slice q m c) x) (hap : Apart w v (.slice q m c) x) (hB : B ≤ w.heap.size) (hs : xs.length ≤ 1000000) :
    ∃ v' w', (Builtin.append_ #[51, 51] 51 #[v, .slice (some ⟨w.heap.size, 0, none⟩) 1 1]).run Try.prog (w.alloc (.cells #[.slice q m c] 31)) = .ok v' w' ∧ Gath B w' v' (xs ++ [x]) ∧ Below B w w' := by
  obtain ⟨us, hl, ho, hu⟩ := h
  obtain ⟨i0, hi0, hz0, hz1, hz2⟩ := info_parts Try.info31
  have hlt := ho.lt
  have ho' := ho.alloc (.cells #[.slice q m c] 31)
  obtain ⟨v', w', hr, h1, h2, _, h4⟩ := run_append_own_at (P := Try.prog) (w.alloc (.cells #[.slice q m c] 31)) B 51 51 31 i0 (.slice none 0 0) 1 24 Try.underlying51 hi0 hz0 hz1 hz2 rfl (by decide) v xs.length us ho' ⟨w.heap.size, 0, none⟩ 1 1 [.slice q m c] rfl
    (cell_new1 _ _ _) (fun u hu => by simp at hu; subst hu; rfl) (by simp only [maxLen]; omega) (by omega) (by simp; omega)
  have hb0 : Below B w (w.alloc (.cells #[.slice q m c] 31)) := (Below.refl _ _).alloc hB _
  refine ⟨v', w', hr, ⟨us ++ [.slice q m c], by simp [hl], by simpa using h1, fun i u y hi hy => ?_⟩, hb0.grown h2 (by simp; omega) fun k hk => (ho.lt k hk).1⟩
  have key : ∀ (u : Value) (y : List UInt8), By w u y → Apart w v u y → By w' u y ∧ Apart w' v' u y := fun u y hb ha => by
    refine ⟨(hb.alloc _).grown h2 ?_, ?_⟩
    · rcases ha with rfl | ha
      · exact .inl rfl
      · exact .inr fun k hk => (ha k hk).1
    · rcases ha with rfl | ha
      · exact .inl rfl
      · refine .inr fun k hk => ⟨?_, ?_⟩
        · obtain ⟨n1, n2⟩ := ha k hk
          rcases h4 with e | e
          · rw [e]
            exact n1
          · rw [e]
            intro e2
            injection e2 with e2
            rw [size_alloc'] at e2
            omega
        · have := h2.size
          rw [size_alloc'] at this
          have := (ha k hk).2
          omega
  by_cases hil : i < us.length
  · rw [List.getElem?_append_left hil] at hi
    rw [List.getElem?_append_left (by omega)] at hy
    obtain ⟨g1, g2, g3⟩ := hu i u y hi hy
    obtain ⟨k1, k2⟩ := key u y g1 g2
    exact ⟨k1, k2, g3⟩
  · have hi1 : i = us.length := by
      have := (List.getElem?_eq_some_iff.1 hi).1
      simp at this
      omega
    subst hi1
    rw [List.getElem?_append_right (Nat.le_refl _), Nat.sub_self] at hi
    rw [hl, List.getElem?_append_right (Nat.le_refl _), Nat.sub_self] at hy
    simp at hi hy
    subst hi hy
    obtain ⟨k1, k2⟩ := key _ _ hx hap
    exact ⟨k1, k2, rfl⟩

theorem wpList_gather {w : World} {ops : Array Oper} {rest : List Oper} {o : Oper} {a : Act} {Q : Exit → Act → World → Prop} (hgd : o.guard = none) (s t : Operand)
    (ho : o.op = .call { callee := .builtin .append, args := #[s, t], argTypes := #[51, 51] }) (hty : o.type = 51) {B : Nat} {v : Value} {xs : List (List UInt8)} {q : Option Addr} {m c : Nat} {x : List UInt8}
    (hs : a.eval s = v) (ht : a.eval t = .slice (some ⟨w.heap.size, 0, none⟩) 1 1) (h : Gath B w v xs) (hx : By w (.slice q m c) x) (hap : Apart w v (.slice q m c) x) (hB : B ≤ w.heap.size) (hn : xs.length ≤ 1000000)
    (hK : ∀ v' w', Gath B w' v' (xs ++ [x]) → Below B w w' → wpList Try.prog ops Q rest (a.put o.dst v') w') : wpList Try.prog ops Q (o :: rest) a (w.alloc (.cells #[.slice q m c] 31)) := by
  obtain ⟨v', w', hr, h1, h2⟩ := run_gather h hx hap hB hn
  exact Lib.wpList_append_run_sl _ hgd s t 51 ho v _ hs ht (by rw [hty]; exact hr) (hK v' w' h1 h2)
end Go.Proofs.Ytllpminhcfbkcab
