/- A number, a text and a flag put behind bytes, by the program and by the document. -/
import Derived.Test.YtlmoiaeppehiiaaApp
import Derived.Lib.AppendStr
namespace Go.Proofs.Ytlmoiaeppehiiaa
open Go.RowKit

/-- What a number behind bytes is. -/
theorem row_made0 (w : World) : (w.alloc (.cells #[] 5)).ownsRow w.heap.size 5 1 (.slice (some ⟨w.heap.size, 0, none⟩) 0 0) ([] : List UInt8).length (([] : List UInt8).map bv) := World.ownsRow_made w #[] 0 (Nat.le_refl _) (Nat.zero_le _) rfl

theorem row_below {w w' : World} {B n : Nat} {e : TypeId} {v : Value} {xs : List Value} (h : w.ownsRow B e 1 v n xs) (hb : Below w.heap.size w w') : w'.ownsRow B e 1 v n xs :=
  h.kept (row := none) ⟨hb.os, hb.tape, hb.output, hb.size, fun k hk _ => hb.block k hk⟩ (by cases v.ownBlock <;> simp)

theorem strCells_bv (s : ByteArray) : Lib.strCells s = s.data.toList.map bv := rfl

set_option maxRecDepth 20000 in
set_option maxHeartbeats 400000 in
/-- The document's Number. -/
theorem refNumber_any {w : World} {v : Value} {l : List UInt8} (hv : By w v l) (hl : l.length ≤ 140737488000000) (n : Int) (N : Nat) (hN : max n 0 = (N : Int)) (hn2 : N < lim) :
    Calls Try.prog 46 #[v, .int .i64 n] w fun e w' => ∃ v', e = .returned v' ∧ w'.ownsRow w.heap.size 5 1 v' (l ++ digits N).length ((l ++ digits N).map bv) ∧ Below w.heap.size w w' := by
  have hd := digits_length N hn2
  have HV := hide hv
  have HN := hide hN
  clear hv hN
  go_enter Try.func46, Try.ntmps46
  go_wp2_with (at_builtin; go_must (refine wpList_append_row_by rfl _ _ rfl rfl rfl rfl (row_made0 w) (HV.out.alloc _) (by simp; omega) (by simp) ?_); intro v1 w1 hown1 hb1)
  refine (digits_any N n HN.out hn2 _).mono ?_
  rintro e w2 ⟨v2, rfl, hown2, hb2⟩
  have h1 := row_below hown1 hb2
  have h2 := (Own.of_row hown2).by_
  have hb12 : Below w.heap.size w w1 := ((Below.refl _ w).alloc (Nat.le_refl _) _).trans hb1
  have hb : Below w.heap.size w w2 := hb12.trans (hb2.mono hb12.size)
  have hbs := hb.size
  have H1 := hide h1
  have H2 := hide h2
  have HB := hide hb
  clear hown1 hown2 h1 h2 hb1 hb2 hb12 hb
  go_wp2_with (at_builtin; go_must (refine wpList_append_row_by rfl _ _ rfl rfl rfl rfl H1.out H2.out (by simp; omega) hbs ?_); intro v3 w3 hown3 hb3)
  go_ret
  exact ⟨v3, rfl, hown3, HB.out.trans hb3⟩

set_option maxRecDepth 20000 in
set_option maxHeartbeats 400000 in
/-- The document's Text. -/
theorem refText_any {w : World} {v : Value} {l : List UInt8} (hv : By w v l) (hl : l.length ≤ 1000000) (s : ByteArray) (hs : s.size ≤ 1000000) :
    Calls Try.prog 48 #[v, .string s] w fun e w' => ∃ v', e = .returned v' ∧ Own w.heap.size w' v' (l ++ digits s.size ++ s.data.toList) ∧ Below w.heap.size w w' := by
  obtain ⟨i0, hi0, hz0, hz1, hz2⟩ := info_parts Try.info5
  have hd := digits_length s.size (by omega)
  have HV := hide hv
  clear hv
  go_enter Try.func48, Try.ntmps48
  go_wp2_with fail
  refine (refNumber_any HV.out (by omega) _ s.size (by omega) (by unfold lim; omega)).mono ?_
  rintro e w1 ⟨v1, rfl, hown, hb⟩
  have hbs := hb.size
  go_wp2_with (at_builtin; go_must (refine Lib.wpList_append_own_string _ rfl _ _ 24 9 rfl w.heap.size 5 i0 Try.underlying24 Try.underlying9 hi0 hz0 hz1 hz2 v1 _ _ rfl hown s rfl (by simp [maxLen]; omega) (by simp; omega) hbs ?_); intro v2 w2 hown2 hg2 _)
  go_ret
  have hb2 := below_row hb hg2 hbs hown
  refine ⟨v2, rfl, ?_, hb2⟩
  have e : (l ++ digits s.size).length + s.size = (l ++ digits s.size ++ s.data.toList).length := by
    simp only [List.length_append, Array.length_toList]
    rfl
  rw [e, strCells_bv, ← List.map_append] at hown2
  exact Own.of_row hown2

theorem By.sl {w : World} {v : Value} {l : List UInt8} (h : By w v l) : ∃ p n c, v = .slice p n c := by
  obtain ⟨p, c, e, _⟩ := h
  exact ⟨p, _, c, e⟩

theorem By.len {w : World} {p : Option Addr} {n c : Nat} {l : List UInt8} (h : By w (.slice p n c) l) : n = l.length ∧ n ≤ c := by
  obtain ⟨p', c', e, hl, _⟩ := h
  injection e with _ e2 e3
  subst e2 e3
  exact ⟨rfl, hl⟩

/-- An owned slice of a byte or more: its shape, its first byte. -/
theorem Own.head {B : Nat} {w : World} {v : Value} {l : List UInt8} (h : Own B w v l) (hl : 0 < l.length) :
    ∃ (g n cap : Nat) (x : UInt8), v = .slice (some ⟨g, 0, none⟩) n cap ∧ (0 : Int) < (n : Int) ∧ B ≤ g ∧ g < w.heap.size ∧ w.cell? ⟨g, 0, none⟩ = some (.int .u8 (x.toNat : Int)) ∧ w.frozen? ⟨g, 0, none⟩ = false := by
  rcases h with ⟨rfl, rfl⟩ | ⟨g, cap, rfl, hB, hlc, hm, hc, hs, hf⟩
  · simp at hl
  · have h0 : l[0]? = some l[0] := List.getElem?_eq_getElem hl
    exact ⟨g, _, cap, l[0], rfl, by omega, hB, lt_of_cell (hc 0 _ h0), hc 0 _ h0, hf 0 (by omega)⟩

/-- What a row's opening of a []byte hands over, as a slice of bytes. -/
theorem by_of_row {w : World} {a : Option Addr} {len cap : Nat} {zs : List Int}
    (h : (a = none ∧ len = 0 ∧ cap = 0 ∧ zs = []) ∨ ∃ x, a = some x ∧ len ≤ cap ∧ cap ≤ maxLen ∧ zs.length = cap ∧ (∀ i, i < zs.length → w.cell? (x.add i) = some (.int .u8 (zs.getD i 0))) ∧ ∀ n ∈ zs, (Lit.int .u8 n).wf = true) :
    ∃ l : List UInt8, l.length = len ∧ By w (.slice a len cap) l := by
  rcases h with ⟨rfl, rfl, rfl, rfl⟩ | ⟨x, rfl, hl, hm, hz, hc, hw⟩
  · exact ⟨[], rfl, By.nil w⟩
  · have hln : (Lib.bytesOf (zs.take len)).length = len := by simp [Lib.bytesOf]; omega
    refine ⟨Lib.bytesOf (zs.take len), hln, some x, cap, by rw [hln], by rw [hln]; exact hl, hm, (fun e => by cases e), fun b e i y hy => ?_⟩
    injection e with e
    subst e
    have hi : i < len := by rw [← hln]; exact (List.getElem?_eq_some_iff.1 hy).1
    rw [hc i (by omega)]
    have hiz : i < zs.length := by omega
    simp only [Lib.bytesOf, List.getElem?_map, List.getElem?_take, hi, if_true, List.getElem?_eq_getElem hiz, Option.map_some, Option.some.injEq] at hy
    have hwf := hw zs[i] (List.getElem_mem hiz)
    have h1 : IntKind.u8.min = 0 := rfl
    have h2 : IntKind.u8.max = 255 := rfl
    simp only [Lit.wf, Bool.and_eq_true, decide_eq_true_eq] at hwf
    simp only [List.getD, List.getElem?_eq_getElem hiz, Option.getD_some, Option.some.injEq, bv, Value.int.injEq, true_and]
    rw [← hy]
    simp
    omega

/-! ## The program's -/

theorem joinTail_nil (r : List (List UInt8)) : Lib.joinTail [] r = r.flatten := by
  unfold Lib.joinTail
  congr 1
  conv => rhs; rw [← List.map_id r]
  apply List.map_congr_left
  intro x _
  rfl

theorem join_flatten (ls : List (List UInt8)) : Lib.join ls [] = ls.flatten := by
  cases ls with
  | nil => rfl
  | cons x r => rw [Lib.join_cons, joinTail_nil]; rfl

theorem holds_nil (w : World) : Lib.HoldsBytes w (.slice none 0 0) [] := ⟨none, 0, rfl, fun _ => rfl, fun a h => by cases h⟩

set_option maxRecDepth 20000 in
set_option maxHeartbeats 400000 in
/-- wire.Join of two parts or more. -/
theorem join_many {w : World} {b o n c : Nat} {vs : List Value} {ls : List (List UInt8)} (hn : ls.length = n) (h2 : 2 ≤ n) (hP : Lib.PartsAt w ⟨b, o, none⟩ vs ls) (hc : n ≤ c) (hl : Lib.lens ls ≤ 140737488355328) (hn47 : n ≤ 140737488355328) :
    Calls Try.prog 69 #[.slice (some ⟨b, o, none⟩) n c] w fun e w' => ∃ v', e = .returned v' ∧ Own w.heap.size w' v' ls.flatten ∧ Below w.heap.size w w' := by
  have H := hide (Try.bytes_Join_many b o n c vs ls (.slice none 0 0) [] w hn h2 hP hc (holds_nil w) hn47 (by simpa using hl))
  clear hP hn
  go_enter Try.func69, Try.ntmps69
  go_wp2_with fail
  refine H.out.mono ?_
  rintro e w1 ⟨v1, rfl, hf, hb⟩
  have HO := hide (Own.of_fresh hf)
  clear hf H
  go_wp2
  go_ret
  exact ⟨v1, rfl, by have := HO.out; rwa [join_flatten] at this, hb⟩

/-- Parts that lie in a block just made. -/
theorem parts_new {w : World} {t : TypeId} {vs : List Value} {ls : List (List UInt8)} (hl : vs.length = ls.length) (h : ∀ (i : Nat) v l, vs[i]? = some v → ls[i]? = some l → By w v l) :
    Lib.PartsAt (w.alloc (.cells vs.toArray t)) ⟨w.heap.size, 0, none⟩ vs ls := by
  refine ⟨hl, fun i v hv => ?_, fun i v l hv hl' => ((h i v l hv hl').alloc _).holds⟩
  rw [add_lit0, Nat.zero_add, cell_of_row _ _ i vs.toArray t (0, 0) (heap_alloc_new w _)]
  simpa using hv

set_option maxRecDepth 20000 in
set_option maxHeartbeats 400000 in
/-- wire.Number. -/
theorem wireNumber_any {w : World} {v : Value} {l : List UInt8} (hv : By w v l) (hl : l.length ≤ 140737488000000) (n : Int) (N : Nat) (hN : max n 0 = (N : Int)) (hn2 : N < lim) :
    Calls Try.prog 66 #[v, .int .i64 n] w fun e w' => ∃ v', e = .returned v' ∧ Own w.heap.size w' v' (l ++ digits N) ∧ Below w.heap.size w w' := by
  have hd := digits_length N hn2
  obtain ⟨p0, c0, rfl⟩ := hv.shape
  have HV := hide hv
  have HN := hide hN
  clear hv hN
  go_enter Try.func66, Try.ntmps66
  go_wp2_with fail
  refine (groups_any n N HN.out hn2 _).mono ?_
  rintro e w1 ⟨v1, rfl, ho, hb⟩
  have hbs := hb.size
  obtain ⟨p1, c1, rfl⟩ := ho.by_.shape
  have HP := hide (parts_new (w := w1) (t := 24) (vs := [.slice p0 l.length c0, .slice p1 (digits N).length c1]) (ls := [l, digits N]) rfl (fun i u m hu hm => by
    match i, hu, hm with
    | 0, hu, hm => simp at hu hm; subst hu hm; exact HV.out.below hb
    | 1, hu, hm => simp at hu hm; subst hu hm; exact ho.by_))
  clear ho
  go_wp2_with fail
  refine (join_many (b := w1.heap.size) (o := 0) (n := 2) (c := 2) rfl (by omega) HP.out (by omega) (by simp [Lib.lens]; omega) (by omega)).mono ?_
  rintro e w2 ⟨v2, rfl, ho2, hb2⟩
  have HO := hide ho2
  clear ho2
  go_wp2
  go_ret
  refine ⟨v2, rfl, (by simpa using HO.out.mono (show w.heap.size ≤ _ by simp; omega)), (hb.alloc hbs _).trans (hb2.mono (by simp; omega))⟩

/-- '[]byte(s)': some slice of s's bytes in a new block. -/
theorem conv_string (w : World) (s : ByteArray) (hs : s.size ≤ 1000000) :
    ∃ (q : Nat) (w' : World), (convert 9 24 (.string s)).run Try.prog w = .ok (.slice (some ⟨w.heap.size, 0, none⟩) s.size q) w' ∧ By w' (.slice (some ⟨w.heap.size, 0, none⟩) s.size q) s.data.toList ∧ Below w.heap.size w w' ∧ w.heap.size < w'.heap.size := by
  have hl : s.data.toList.length = s.size := by rw [Array.length_toList]; rfl
  refine ⟨_, _, run_bytes_of_string (P := Try.prog) w 9 24 5 s Try.underlying9 Try.underlying24 Try.underlying5, ?_, ?_, ?_⟩
  · have h1 := grownCap_ge w s.size 0 5
    have h2 := grownCap_le_maxLen w s.size 0 5 (by simp only [maxLen]; omega)
    generalize grownCap w s.size 0 5 = q at h1 h2
    refine ⟨_, q, by rw [hl], by rw [hl]; exact h1, h2, (fun e => by cases e), fun a e i x hx => ?_⟩
    injection e with e
    subst e
    have hi : i < s.size := by rw [← hl]; exact (List.getElem?_eq_some_iff.1 hx).1
    rw [add_lit0, Nat.zero_add]
    have := World.cell?_alloc_mark w.drew (bytesRow s q) 5 ((bytesRow s q).size, (bytesRow s q).size + 1) i
    rw [show w.drew.heap.size = w.heap.size from rfl] at this
    rw [this]
    have hx' : s.data[i]? = some x := by simpa using hx
    have hi' : i < s.data.size := hi
    unfold bytesRow
    rw [Array.getElem?_append_left (by simpa using hi'), Array.getElem?_map, hx']
    rfl
  · exact (Below.refl _ w).drew.alloc (Nat.le_refl _) _
  · simp

set_option maxRecDepth 20000 in
set_option maxHeartbeats 400000 in
/-- wire.Text. -/
theorem wireText_any {w : World} {v : Value} {l : List UInt8} (hv : By w v l) (hl : l.length ≤ 1000000) (s : ByteArray) (hs : s.size ≤ 1000000) :
    Calls Try.prog 72 #[v, .string s] w fun e w' => ∃ v', e = .returned v' ∧ Own w.heap.size w' v' (l ++ digits s.size ++ s.data.toList) ∧ Below w.heap.size w w' := by
  have hd := digits_length s.size (by omega)
  have hsl : s.data.toList.length = s.size := by rw [Array.length_toList]; rfl
  have HSL := hide hsl
  clear hsl
  obtain ⟨p0, c0, rfl⟩ := hv.shape
  have HV := hide hv
  clear hv
  go_enter Try.func72, Try.ntmps72
  go_wp2_with fail
  refine (groups_any _ s.size (by omega) (by unfold lim; omega) _).mono ?_
  rintro e w1 ⟨v1, rfl, ho, hb⟩
  have hbs := hb.size
  obtain ⟨p1, c1, rfl⟩ := ho.by_.shape
  obtain ⟨q, w2, hcv, hby, hb2, hlt⟩ := conv_string w1 s hs
  have hb02 := hb.trans (hb2.mono hbs)
  have HP := hide (parts_new (w := w2) (t := 24) (vs := [.slice p0 l.length c0, .slice p1 (digits s.size).length c1, .slice (some ⟨w1.heap.size, 0, none⟩) s.size q]) (ls := [l, digits s.size, s.data.toList]) rfl (fun i u m hu hm => by
    match i, hu, hm with
    | 0, hu, hm => simp at hu hm; subst hu hm; exact HV.out.below hb02
    | 1, hu, hm => simp at hu hm; subst hu hm; exact (ho.by_).below hb2
    | 2, hu, hm => simp at hu hm; subst hu hm; exact hby))
  have HB := hide hb02
  clear ho hby hb02 hb
  go_wp2_with fail
  refine (join_many (b := w2.heap.size) (o := 0) (n := 3) (c := 3) rfl (by omega) HP.out (by omega) (by simp only [Lib.lens, List.map_cons, List.map_nil, List.sum_cons, List.sum_nil]; rw [HSL.out]; omega) (by omega)).mono ?_
  rintro e w3 ⟨v3, rfl, ho3, hb3⟩
  have HO := hide ho3
  clear ho3 hcv
  go_wp2
  go_ret
  have hbs2 := HB.out.size
  refine ⟨v3, rfl, ?_, (HB.out.alloc hbs2 _).trans (hb3.mono (by simp; omega))⟩
  have := HO.out.mono (show w.heap.size ≤ _ by simp; omega)
  simpa [List.append_assoc] using this
end Go.Proofs.Ytlmoiaeppehiiaa
