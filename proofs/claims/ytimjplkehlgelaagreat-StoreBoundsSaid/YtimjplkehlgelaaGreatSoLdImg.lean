/- What is read out of a store's image is the store. -/
import Derived.Test.YtimjplkehlgelaaGreatSoLoad
import Derived.Test.YtimjplkehlgelaaGreatSoEqv
namespace Go.Proofs.YtimjplkehlgelaaGreat
set_option linter.unusedVariables false
set_option linter.unusedSimpArgs false

theorem tx_digitsL {l : List UInt8} {most a : Nat} {x r : List UInt8} (hx : x.length ≤ most) (hm : x.length < 9223372036854775808) (ha : a ≤ l.length) (h : l.drop a = digits x.length ++ (x ++ r)) : tx l most (a, 0) = (x, a + (digits x.length).length + x.length, 0) := by
  have hl := congrArg List.length h
  rw [List.length_drop, List.length_append, List.length_append] at hl
  unfold tx
  rw [if_neg (by simp)]
  dsimp only
  rw [h, readNum_digits (by omega)]
  dsimp only
  rw [if_neg (by simp), if_neg (by omega), if_neg (by omega), drop_more h, List.take_left]
theorem rdL_img {l : List UInt8} : ∀ (rest T : List Pl) (a : Nat), SoOk (T ++ rest) → a ≤ l.length → l.drop a = rest.flatMap bytesS → rdL l (nrm T) rest.length (a, 0) = nrm (T ++ rest)
  | [], T, a, h, ha, hd => by rw [List.append_nil]; rfl
  | y :: rest, T, a, h, ha, hd => by
    have hyo := h.ok y (List.mem_append_right _ (List.mem_cons_self ..))
    have hel := enc_len hyo.1
    have h1 : l.drop a = digits (encL (sortS y.2)).length ++ (encL (sortS y.2) ++ rest.flatMap bytesS) := by
      rw [hd, List.flatMap_cons]
      unfold bytesS
      rw [List.append_assoc]
    have hl := congrArg List.length h1
    rw [List.length_drop, List.length_append, List.length_append] at hl
    have h2 := tx_digitsL (most := l.length - a) (x := encL (sortS y.2)) (by omega) (by omega) ha h1
    have h3 : getP (encL (sortS y.2)) = (sortS y.2, 0) := getP_enc _ (by have := hyo.1.len; rw [sortS_length]; omega) fun x hx => (hyo.1.ok x (sortS_mem.1 hx)).1
    have h4 : l.drop (a + (digits (encL (sortS y.2)).length).length + (encL (sortS y.2)).length) = rest.flatMap bytesS := drop_more (drop_more h1)
    have hT : ∀ z ∈ nrm T, kP z < y.1 := by
      intro z hz
      obtain ⟨z', hz', rfl⟩ := List.mem_map.1 hz
      exact (List.pairwise_append.1 h.rises).2.2 z' hz' y (List.mem_cons_self ..)
    have hlen : (nrm T).length < 32 := by
      have := h.len
      rw [List.length_append, List.length_cons] at this
      rw [nrm_len]
      omega
    have h5 : ingS (nrm T) (sortS y.2) = nrm (T ++ [y]) := by
      rw [ing_last hT hlen hyo.1.sort (fun e => hyo.2.1 (by
        have h1 : (sortS y.2).length = 0 := by rw [e]; rfl
        rw [sortS_length] at h1
        exact List.length_eq_zero_iff.1 h1))]
      unfold nrm
      rw [List.map_append]
      rfl
    show rdL l (nrm T) (rest.length + 1) (a, 0) = _
    rw [rdL]
    dsimp only
    rw [h2]
    dsimp only
    rw [h3]
    dsimp only
    rw [if_pos rfl, h5, rdL_img rest (T ++ [y]) _ (by rw [List.append_assoc]; exact h) (by omega) h4, List.append_assoc]
    rfl
theorem ld_img {S : List Pl} (h : SoOk S) : ldS (imgS S) = nrm S := by
  have h0 : (imgS S).drop 0 = digits S.length ++ S.flatMap bytesS := rfl
  have hn := nx_digits (l := imgS S) (a := 0) (n := S.length) (by have := h.len; omega) h0
  unfold ldS
  rw [hn]
  dsimp only
  have hl := congrArg List.length h0
  rw [List.length_drop, List.length_append] at hl
  exact rdL_img S [] _ h (by omega) (drop_more h0)
theorem ld_img_ok {S : List Pl} (h : SoOk S) : imgS (ldS (imgS S)) = imgS S := by rw [ld_img h, nrm_img]
theorem imgS_len {S : List Pl} (h : SoOk S) : (imgS S).length ≤ 300000 := by
  have h1 := lens_imgs (S := S) fun y hy => (h.ok y hy).1
  have h2 := h.len
  have h3 := digits_length S.length (by omega)
  rw [imgS_flat, List.flatten_cons, List.length_append]
  have h4 : (S.map bytesS).flatten.length = Lib.lens (S.map bytesS) := by rw [List.length_flatten]; rfl
  omega
end Go.Proofs.YtimjplkehlgelaaGreat
