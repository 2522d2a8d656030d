import Derived.Test.YtionbmlicmibgaaGreatDoorS14
import Derived.Test.YtionbmlicmibgaaGreatDoorS10
import Derived.Test.YtionbmlicmibgaaGreatDoorS9
namespace Go.Proofs.YtionbmlicmibgaaGreatDoor
set_option linter.unusedVariables false
set_option linter.unusedSimpArgs false
open Go.RowKit
theorem bytes_posL (x : Sp) : 6 ≤ x.bytes.length := by
 unfold Sp.bytes
 simp only [List.length_append]
 have h1 := digits_pos x.t.toNat
 have h2 := digits_pos x.i.toNat
 have h3 := digits_pos x.p.toNat
 have h4 := digits_pos x.s.toNat
 have h5 := digits_pos (x.e - x.s).toNat
 have h6 := digits_pos x.nl.length
 omega
theorem encL_lenL (l : List Sp) : 6 * l.length ≤ (encL l).length := by
 unfold encL
 rw [List.length_append]
 have h : ∀ l : List Sp, 6 * l.length ≤ (l.map Sp.bytes).flatten.length := by
  intro l
  induction l with
  | nil => simp
  | cons x r ih =>
   have h1 := bytes_posL x
   simp only [List.map_cons, List.flatten_cons, List.length_append, List.length_cons]
   omega
 have := h l
 omega
theorem getP_lens (l : List UInt8) : 6 * (getP l).1.length ≤ l.length ∧ ∀ x ∈ (getP l).1, x.n.size ≤ 1100000 := by
 rcases getP_is l with ⟨_, h2, h3⟩ | ⟨_, h2, _⟩
 ·refine ⟨?_, fun x hx => ?_⟩
  ·have := encL_lenL (getP l).1
   rw [h3] at this
   exact this
  ·have h4 := h2 x hx
   unfold Sp.ok at h4
   rw [Bool.and_eq_true] at h4
   have h5 := h4.2
   unfold okName at h5
   rw [Bool.and_eq_true, Bool.and_eq_true, decide_eq_true_eq, decide_eq_true_eq] at h5
   have h6 := h5.1.2
   have h7 : x.nl.length = x.n.size := by unfold Sp.nl; rfl
   omega
 ·rw [h2]
  exact ⟨by simp, fun x hx => by cases hx⟩
theorem Sc.below {w w' : World} {g : Nat} {v : Value} {at_ E : Nat} (h : Sc w g v at_ E) (hb : Below w.heap.size w w') : Sc w' g v at_ E := by
 have := h.lt
 unfold Sc at *
 rw [hb.block g this]
 exact h
set_option maxRecDepth 200000 in
theorem sleft_any {w : World} {g : Nat} {p : Option Addr} {n c at_ E : Nat} (hS : Sc w g (.slice p n c) at_ E) (hat : at_ ≤ n) (hn : (n : Int) ≤ 9223372036854775807) :
  Calls Tryz.prog 146 #[.pointer (some ⟨g, 0, none⟩)] w fun e w' => e = .returned (.int .i64 ((n : Int) - (at_ : Int))) ∧ ∃ q, w' = w.drewN q := by
 have h0 := hS.c0
 have h1 := hS.c1
 go_enter Tryz.func146, Tryz.ntmps146
 go_wp2_with fail
 refine (left_any h0 h1 hat hn).mono ?_
 rintro e w1 ⟨rfl, q, rfl⟩
 go_wp2
 go_ret
 exact ⟨rfl, _, rfl⟩
theorem str_size2 (l : List UInt8) : (str l).size = l.length := by rw [str_eq]; rfl
theorem str_list2 (l : List UInt8) : (str l).data.toList = l := by rw [str_eq]
theorem conv_own (w : World) (T : List UInt8) (hs : T.length ≤ 5000000) :
  ∃ (q : Nat) (w' : World), (convert 9 32 (.string (str T))).run Tryz.prog w = .ok (.slice (some ⟨w.heap.size, 0, none⟩) T.length q) w' ∧ Own w.heap.size w' (.slice (some ⟨w.heap.size, 0, none⟩) T.length q) T ∧ Below w.heap.size w w' := by
 have hl : (str T).size = T.length := str_size2 T
 have hll : (str T).data.toList = T := str_list2 T
 have hr := run_bytes_of_string (P := Tryz.prog) w 9 32 5 (str T) Tryz.underlying9 Tryz.underlying32 Tryz.underlying5
 have h1 := grownCap_ge w (str T).size 0 5
 have h2 := grownCap_le_maxLen w (str T).size 0 5 (by simp only [maxLen]; omega)
 generalize grownCap w (str T).size 0 5 = q at h1 h2 hr
 have hz : (bytesRow (str T) q).size = q := by
  have hh : (str T).data.size = (str T).size := rfl
  unfold bytesRow
  simp [Builtin.zeroCells]
  omega
 rw [hl] at hr h1
 refine ⟨q, _, hr, .inr ⟨w.heap.size, q, rfl, Nat.le_refl _, h1, h2, fun i x hx => ?_, fun i hi => ?_, fun i hi => ?_⟩, (Below.refl _ w).drew.alloc (Nat.le_refl _) _⟩
 ·have := World.cell?_alloc_mark w.drew (bytesRow (str T) q) 5 ((bytesRow (str T) q).size, (bytesRow (str T) q).size + 1) i
  rw [show w.drew.heap.size = w.heap.size from rfl] at this
  rw [this]
  have hi : i < T.length := (List.getElem?_eq_some_iff.1 hx).1
  have hx' : (str T).data[i]? = some x := by
   rw [← hll] at hx
   simpa using hx
  have hi' : i < (str T).data.size := by
   have hh : (str T).data.size = (str T).size := rfl
   omega
  unfold bytesRow
  rw [Array.getElem?_append_left (by simpa using hi'), Array.getElem?_map, hx']
  rfl
 ·have := World.cell?_alloc_mark w.drew (bytesRow (str T) q) 5 ((bytesRow (str T) q).size, (bytesRow (str T) q).size + 1) i
  rw [show w.drew.heap.size = w.heap.size from rfl] at this
  rw [this, Array.getElem?_eq_getElem (by omega)]
  rfl
 ·have := World.frozen?_alloc_mark w.drew (bytesRow (str T) q) 5 (bytesRow (str T) q).size ((bytesRow (str T) q).size + 1) i
  rw [show w.drew.heap.size = w.heap.size from rfl] at this
  rw [this, hz]
  simp
  omega
end Go.Proofs.YtionbmlicmibgaaGreatDoor
namespace Go.Proofs.YtionbmlicmibgaaGreatDoor
set_option linter.unusedVariables false
set_option linter.unusedSimpArgs false
theorem tx_digitsL {l : List UInt8} {most a : Nat} {x r : List UInt8} (hx : x.length ≤ most) (hm : x.length < 9223372036854775808) (ha : a ≤ l.length) (h : l.drop a = digits x.length ++ (x ++ r)) : tx l most (a, 0) = (x, a + (digits x.length).length + x.length, 0) := by
 have hl := congrArg List.length h
 rw [List.length_drop, List.length_append, List.length_append] at hl
 unfold tx
 rw [if_neg (by simp)]
 dsimp only
 rw [h, readNum_digits (by omega)]
 dsimp only
 rw [if_neg (by simp), if_neg (by omega), if_neg (by omega), drop_more h, List.take_left]
theorem imgS_len {S : List Pl} (h : SoOk S) : (imgS S).length ≤ 300000 := by
 have h1 := lens_imgs (S := S) fun y hy => (h.ok y hy).1
 have h2 := h.len
 have h3 := digits_length S.length (by omega)
 rw [imgS_flat, List.flatten_cons, List.length_append]
 have h4 : (S.map bytesS).flatten.length = Lib.lens (S.map bytesS) := by rw [List.length_flatten]; rfl
 omega
end Go.Proofs.YtionbmlicmibgaaGreatDoor
