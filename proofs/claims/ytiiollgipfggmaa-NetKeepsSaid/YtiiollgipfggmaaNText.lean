/- A text is read. -/
import Derived.Test.YtiiollgipfggmaaNRdP
import Derived.Test.YtiiollgipfggmaaNPay2
import Derived.Test.YtiiollgipfggmaaWPickP
namespace Go.Proofs.Ytiiollgipfggmaa
set_option linter.unusedVariables false
set_option linter.unusedSimpArgs false
open Go.RowKit

set_option maxRecDepth 200000 in
set_option maxHeartbeats 4000000 in
theorem text_any {w : World} {g : Nat} {p : Option Addr} {n c : Nat} {st : Nat × Nat} {l : List UInt8} (hS : Sc w g (.slice p n c) st.1 st.2) (hby : By w (.slice p n c) l) (hne : l = [] ∨ ∀ k, (Value.slice p n c).ownBlock = some k → some g ≠ some k) (hat : st.1 ≤ l.length) (hl : l.length ≤ 1000000) :
    Calls Try.prog 85 #[.pointer (some ⟨g, 0, none⟩)] w fun e w' => ∃ v, e = .returned v ∧ Own w.heap.size w' v (xl l st).1 ∧ Sc w' g (.slice p n c) (xl l st).2.1 (xl l st).2.2 ∧ w.grownBy w' (some g) := by
  obtain ⟨i0, hi0, hz0, hz1, hz2⟩ := info_parts Try.info5
  have hn := hby.len.1
  have hgl := hS.lt
  obtain ⟨a, E⟩ := st
  dsimp only at hS hat
  have hTl := (xl_le (l := l) (st := (a, E)) hat).2
  obtain ⟨X, hX⟩ : ∃ X, xl l (a, E) = X := ⟨_, rfl⟩
  rw [hX] at hTl ⊢
  obtain ⟨T, A, E'⟩ := X
  dsimp only at hTl ⊢
  have hT : (if E ≠ 0 then ([], a, E) else textP l a (l.length - a)) = (T, A, E') := hX
  clear hX
  have HTL := hide hTl
  have H1 := hide (scanLeft_any hS (by omega) (by omega))
  have H2 := hide (fun q : Nat => scanText_any (w := w.drewN q) hS hby hne (by omega) ((n : Int) - (a : Int)) (l.length - a) (by omega) hT)
  clear hS hby hne hT hTl hn

  go_enter Try.func85, Try.ntmps85
  go_wp2_with fail
  refine H1.out.mono ?_
  rintro e w1 ⟨rfl, q, rfl⟩
  go_wp2_with fail
  refine (H2.out q).mono ?_
  rintro e w2 ⟨rfl, hs, hg⟩
  have HS := hide hs
  have HG : Hid (w.grownBy w2 (some g)) := hide ⟨hg.os, hg.tape, hg.output, hg.size, hg.block⟩
  clear hs hg H1 H2
  have hsz : (str T).size = T.length := str_size' T
  have HSZ := hide HG.out.size
  go_wp2_with (at_builtin; go_must (refine Lib.wpList_append_own_string _ rfl _ _ 24 9 rfl w.heap.size 5 i0 Try.underlying24 Try.underlying9 hi0 hz0 hz1 hz2 (.slice none 0 0) 0 [] rfl (World.ownsRow_nil _ _ _ _) (str T) rfl (by rw [hsz]; simp [maxLen]; have := HTL.out; omega) (by rw [hsz]; have := HTL.out; omega) HSZ.out ?_); intro v3 w3 hown3 hg3 _)
  go_ret
  rw [Nat.zero_add, List.nil_append, strCells_bv, str_list', hsz] at hown3
  have hgn : w2.grownBy w3 none := hg3
  have hb3 : Below w2.heap.size w2 w3 := (Below.refl _ _).grown hgn (Nat.le_refl _) fun k hk => by cases hk
  refine ⟨v3, rfl, Own.of_row hown3, ?_, gtrans HG.out (hgn.but _)⟩
  exact (hb3.block g HS.out.lt).trans HS.out
end Go.Proofs.Ytiiollgipfggmaa
